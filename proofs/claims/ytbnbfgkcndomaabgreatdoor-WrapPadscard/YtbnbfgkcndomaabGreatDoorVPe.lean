/-
  Pads about a part; bytes that came in; the walk of the statement WrapPads.
-/
import Derived.Test.YtbnbfgkcndomaabGreatDoorVM5
import Derived.Test.YtbnbfgkcndomaabGreatDoorVSh
import Derived.Test.YtbnbfgkcndomaabGreatDoorVOp
namespace Go.Proofs.YtbnbfgkcndomaabGreatDoor
open Go.RowKit

theorem stays_ok {n : Ln} {N : Nat} (h : OkL n N) (x : Pc) : (stays n x).c ≤ 2 * N := by
  obtain ⟨h1, h2, h3⟩ := h
  unfold stays
  split
  · exact h3
  · show n.kc ≤ 2 * (N : Int)
    omega
theorem squeeze_ok (room : Int) (x : Pc) (N : Nat) : ∀ (f : Nat) (L : List Ln) (n : Ln), OkL n N → (∀ y ∈ L, y.c ≤ 2 * N) → OkL (squeeze f room x L n).2 N ∧ ∀ y ∈ (squeeze f room x L n).1, y.c ≤ 2 * N
  | 0, L, n, h, hL => ⟨h, hL⟩
  | f + 1, L, n, h, hL => by
    unfold squeeze
    split
    · exact ⟨h, hL⟩
    · refine squeeze_ok room x N f _ _ (h.goes x) fun y hy => ?_
      rcases List.mem_append.1 hy with hy | hy
      · exact hL y hy
      · simp at hy; subst hy; exact stays_ok h x
theorem fold_ok (room : Int) : ∀ (l : List Pc) (L : List Ln) (n : Ln) (N : Nat), OkL n N → (∀ y ∈ L, y.c ≤ 2 * N) → OkL (foldL room l L n).2 (N + l.length) ∧ ∀ y ∈ (foldL room l L n).1, y.c ≤ 2 * ((N + l.length : Nat) : Int)
  | [], L, n, N, h, hL => ⟨h, fun y hy => by simpa using hL y hy⟩
  | x :: t, L, n, N, h, hL => by
    obtain ⟨a, b⟩ := squeeze_ok room x N 3 L n h hL
    have := fold_ok room t _ _ (N + 1) (a.with x) fun y hy => by have := b y hy; omega
    rw [show N + (x :: t).length = N + 1 + t.length by simp; omega]
    exact this
theorem lines_c (s : ByteArray) (room : Int) : ∀ y ∈ linesOf s room, y.c ≤ 2 * (s.size : Int) := by
  intro y hy
  obtain ⟨a, b⟩ := fold_ok room (pcs s) [] zeroL 0 ⟨by decide, by decide, by decide⟩ (fun y hy => by simp at hy)
  have hp := pcs_len s
  unfold linesOf at hy
  rcases List.mem_append.1 hy with hy | hy
  · have := b y hy; omega
  · simp at hy; subst hy; have := a.2.2; omega
theorem fold_max : ∀ (L : List Ln) (m B : Int), m ≤ B → (∀ y ∈ L, y.c ≤ B) → L.foldl (fun m l => max m l.c) m ≤ B ∧ m ≤ L.foldl (fun m l => max m l.c) m
  | [], m, B, h, _ => ⟨h, Int.le_refl _⟩
  | y :: L, m, B, h, hL => by
    have h1 := hL y (by simp)
    obtain ⟨a, b⟩ := fold_max L (max m y.c) B (by omega) fun z hz => hL z (by simp [hz])
    exact ⟨a, by show m ≤ L.foldl _ (max m y.c); omega⟩
theorem widL_le (room B : Int) : ∀ (ps : List ByteArray) (m : Int), m ≤ B → (∀ p ∈ ps, 2 * (p.size : Int) ≤ B) → widL ps room m ≤ B ∧ m ≤ widL ps room m
  | [], m, h, _ => ⟨h, Int.le_refl _⟩
  | p :: ps, m, h, hp => by
    have h1 := hp p (by simp)
    obtain ⟨a1, a2⟩ := fold_max (linesOf p room) m B h fun y hy => by have := lines_c p room y hy; omega
    obtain ⟨b1, b2⟩ := widL_le room B ps (widP p room m) a1 fun q hq => hp q (by simp [hq])
    exact ⟨b1, Int.le_trans a2 b2⟩
theorem linW_le (s : ByteArray) : 0 ≤ linW s ∧ linW s ≤ 2 * (s.size : Int) := by
  obtain ⟨a, b⟩ := widL_le (roomOf 0) (2 * (s.size : Int)) (paras s) 0 (by omega) fun p hp => by have := paras_size hp; omega
  exact ⟨b, a⟩
theorem linH_le (s : ByteArray) (hs : s.size ≤ 65536) : linH s ≤ 13000000000 := by
  have h1 := outL_len (roomOf 0) s.size (paras s) fun p hp => paras_size hp
  have h2 := count_le s
  have h3 := paras_len s
  show (outL (paras s) (roomOf 0)).length ≤ _
  refine Nat.le_trans h1 ?_
  have a1 : (paras s).length ≤ 65538 := by omega
  have a2 : 3 * s.size + 1 ≤ 196609 := by omega
  exact Nat.le_trans (Nat.mul_le_mul a1 a2) (by decide)

/-- A node of a kind with a text, and the name n. -/
def ndP (k : Nat) (t : ByteArray) : Nd := ⟨k, ⟨#[110]⟩, ⟨#[]⟩, t, 0, 0, 0, 0, 0, 0, false, 0, 0, 0, 0, 0, false, none, 0, 0, none, 0, 0⟩
theorem ndP_ok (k : Nat) (t : ByteArray) : okN (ndP k t) = txB t 65536 := by
  have e1 : txB (⟨#[110]⟩ : ByteArray) 64 = true := by decide +kernel
  have e2 : txB (⟨#[]⟩ : ByteArray) 64 = true := by decide +kernel
  show (txB (⟨#[110]⟩ : ByteArray) 64 && (txB (⟨#[]⟩ : ByteArray) 64 && (txB t 65536 && true))) = _
  rw [e1, e2]
  simp
theorem w64 {n : Int} (h : 0 ≤ n) (h2 : n ≤ 9223372036854775807) : wrap64 n = n := by
  first | (unfold wrap64; omega) | (unfold wrap64; simp; omega) | exact wrap64_id h h2
theorem ask_bd (k : Nat) (t : ByteArray) (ht : t.size ≤ 65536) : 0 ≤ askW (ndP k t) ∧ askW (ndP k t) ≤ 20000000000 ∧ 0 ≤ askH (ndP k t) ∧ askH (ndP k t) ≤ 20000000000 := by
  obtain ⟨a, b⟩ := linW_le t
  have c := linH_le t ht
  have w0 := w64 (n := linW t) a (by omega)
  have w4 := w64 (n := linW t + 4) (by omega) (by omega)
  have w1 := w64 (n := linW t + 1) (by omega) (by omega)
  have hW : txtW (ndP k t) ≤ 20000000000 := by
    show (if k = 1 then wrap64 (linW t) else if k = 2 then wrap64 (linW t + 4) else if k = 3 then wrap64 (linW t + 1) else if k = 7 then 1 else 0) ≤ _
    rw [w0, w4, w1]
    split
    · omega
    split
    · omega
    split
    · omega
    split <;> omega
  have hH : txtH (ndP k t) ≤ 20000000000 := by
    show (if k = 1 ∨ k = 2 ∨ k = 3 then ((linH t : Nat) : Int) else if k = 7 then 1 else 0) ≤ _
    split
    · omega
    split <;> omega
  have e1 : askW (ndP k t) = max (txtW (ndP k t)) 0 := rfl
  have e2 : askH (ndP k t) = max (txtH (ndP k t)) 0 := rfl
  rw [e1, e2]
  exact ⟨by omega, by omega, by omega, by omega⟩

/-- A name, and pads. -/
def namW (s : ByteArray) : Wr := ⟨4, 0, 0, s⟩
def padW (p : Nat) : Wr := ⟨3, 0, p, ⟨#[]⟩⟩
def padsL (s : ByteArray) (ps : List Nat) : List Wr := namW s :: ps.map padW
def sumP (ps : List Nat) : Nat := ps.sum
/-- The same, the outermost first. -/
def padsO (s : ByteArray) (ps : List Nat) : List Wr := (ps.map padW).reverse ++ [namW s]
theorem pads_run (B : Bs) (s : ByteArray) : ∀ (ps : List Nat) (l : List Wr), runW (B, l) (ps.map padW) = (B, (ps.map padW).reverse ++ l)
  | [], l => rfl
  | p :: ps, l => by
    show runW (stp (B, l) (padW p)) (ps.map padW) = _
    rw [show stp (B, l) (padW p) = (B, padW p :: l) from rfl, pads_run B s ps]
    simp
theorem pads_st (B : Bs) (s : ByteArray) (ps : List Nat) : runW (B, []) (padsL s ps) = (B, padsO s ps) := by
  show runW (stp (B, []) (namW s)) (ps.map padW) = _
  rw [show stp (B, []) (namW s) = (B, [namW s]) from rfl, pads_run B s ps]
  rfl
theorem padO_snoc (s : ByteArray) (ps : List Nat) (p : Nat) : padsO s (ps ++ [p]) = padW p :: padsO s ps := by simp [padsO]
theorem padsO_facts (B : Bs) (hk : B.kind ≠ 0) (s : ByteArray) : ∀ ps : List Nat, canL B (padsO s ps) = B.can ∧ kindL B (padsO s ps) = B.kind ∧ nameL B (padsO s ps) = s ∧ (padsO s ps).length = ps.length + 1 := by
  intro ps
  have key : ∀ l : List Nat, canL B (l.map padW ++ [namW s]) = B.can ∧ kindL B (l.map padW ++ [namW s]) = B.kind ∧ nameL B (l.map padW ++ [namW s]) = s := by
    intro l
    induction l with
    | nil =>
      refine ⟨rfl, ?_, rfl⟩
      show (if B.kind = 0 then 9 else B.kind) = _
      rw [if_neg hk]
    | cons p l ih =>
      obtain ⟨a, b, c⟩ := ih
      refine ⟨a, ?_, c⟩
      show (if kindL B (l.map padW ++ [namW s]) = 0 then 9 else kindL B (l.map padW ++ [namW s])) = _
      rw [b, if_neg hk]
  have e : padsO s ps = ps.reverse.map padW ++ [namW s] := by simp [padsO, List.map_reverse]
  rw [e]
  obtain ⟨a, b, c⟩ := key ps.reverse
  exact ⟨a, b, c, by simp⟩
/-- What is measured, with pads. -/
theorem pads_mea (a m : Int) (s : ByteArray) (h0 : 0 ≤ lim (lim a m) 0) : ∀ ps : List Nat, lim (lim a m) 0 + 2 * (ps.sum : Nat) ≤ 16384 → meaL a m 0 (ps.map padW ++ [namW s]) = lim (lim a m) 0 + 2 * (ps.sum : Nat)
  | [], _ => by
    show lim (lim a m) 0 = _
    simp
  | p :: ps, h => by
    simp only [List.sum_cons] at h ⊢
    have ih := pads_mea a m s h0 ps (by omega)
    show padN (meaL a m 0 (ps.map padW ++ [namW s])) (p : Nat) 0 = _
    rw [ih]
    unfold padN
    generalize lim (lim a m) 0 = b at *
    unfold lim
    rw [if_neg (by omega)]
    omega

end Go.Proofs.YtbnbfgkcndomaabGreatDoor

namespace Go.Proofs.YtbnbfgkcndomaabGreatDoor
open Go.RowKit Go.Shelf

theorem pads_ins (s : ByteArray) : ∀ (ps : List Nat) (d : Int), 0 ≤ d → d + (ps.sum : Nat) ≤ 4000 → insL (ps.map padW ++ [namW s]) ⟨d, d, 40 + 2 * (ps.sum : Nat), 30 + 2 * (ps.sum : Nat)⟩ = ⟨d + (ps.sum : Nat), d + (ps.sum : Nat), 40, 30⟩
  | [], d, _, _ => by simp [insL, insW, namW]
  | p :: ps, d, h0, h => by
    simp only [List.sum_cons] at h ⊢
    have ih := pads_ins s ps (d + p) (by omega) (by omega)
    show insL (ps.map padW ++ [namW s]) (insW (padW p) ⟨d, d, 40 + 2 * ((p + ps.sum : Nat) : Int), 30 + 2 * ((p + ps.sum : Nat) : Int)⟩) = _
    have e : insW (padW p) ⟨d, d, 40 + 2 * ((p + ps.sum : Nat) : Int), 30 + 2 * ((p + ps.sum : Nat) : Int)⟩ = ⟨d + p, d + p, 40 + 2 * (ps.sum : Nat), 30 + 2 * (ps.sum : Nat)⟩ := by
      show insR d d (40 + 2 * ((p + ps.sum : Nat) : Int)) (30 + 2 * ((p + ps.sum : Nat) : Int)) (p : Nat) = _
      generalize ps.sum = t at *
      have m1 : mayB d d (40 + 2 * ((p + t : Nat) : Int)) (30 + 2 * ((p + t : Nat) : Int)) = true := by simp [mayB, spanB]; omega
      have m2 : witB (p : Nat) (-16384) 16384 = true := by simp [witB]; omega
      have m3 : emptyB d d (40 + 2 * ((p + t : Nat) : Int)) (30 + 2 * ((p + t : Nat) : Int)) = false := by
        simp only [emptyB, m1, Bool.not_true, Bool.false_or, Bool.or_eq_false_iff, beq_eq_false_iff_ne]
        omega
      unfold insR
      rw [m1, m2, m3]
      rw [if_pos (by rfl)]
      unfold btw
      rw [if_neg (by omega)]
      unfold szR
      rw [if_pos (by simp [mayB, spanB]; omega)]
      congr 1 <;> omega
    rw [e, ih]
    congr 1 <;> omega

/-- Bytes in memory. -/
def Bys (w : World) (v : Value) (ps : List Nat) : Prop := ∃ oa cap, v = .slice oa ps.length cap ∧ ps.length ≤ cap ∧ (0 < ps.length → ∃ g o, oa = some ⟨g, o, none⟩ ∧ g < w.heap.size ∧ ∀ i (h : i < ps.length), w.cell? ⟨g, o + i, none⟩ = some (.int .u8 (ps[i] : Nat)))

set_option maxRecDepth 10000 in
set_option maxHeartbeats 8000000 in
theorem pads_bad (k : Nat) (hk8 : k < 256) (t nm : ByteArray) (ps : List Nat) (v : Value) (lk : Lk) (w : World) (T : Tbs w) (hv : Bys w v ps) (ht : txB t 65536 = false) :
    Calls Tryz.prog 6 #[.int .u8 (k : Nat), .string t, v, .string nm, (Value.agg #[.int .u8 (lk.has : Nat), .int .u8 lk.r, .int .u8 lk.g, .int .u8 lk.b, .int .u8 lk.a, .int .u8 lk.r2, .int .u8 lk.g2, .int .u8 lk.b2, .int .u8 lk.a2, .bool lk.bd, .int .i64 lk.pad])] w fun e w' => e = .returned (.bool true) ∧ Below w.heap.size w w' := by
  obtain ⟨j, hj, hjl⟩ : ∃ j, k % 10 = j ∧ j < 10 := ⟨k % 10, rfl, Nat.mod_lt _ (by decide)⟩
  have e1 : Int.tmod (k : Int) 10 = (j : Int) := by rw [← hj, Int.tmod_eq_emod_of_nonneg (by omega)]; omega
  have hkb : kindB (1 + j) = true := by simp [kindB]; omega
  have L0 : Hid (Below w.heap.size w (w.alloc (.cells (#[.int .u8 (lk.has : Nat), .int .u8 lk.r, .int .u8 lk.g, .int .u8 lk.b, .int .u8 lk.a, .int .u8 lk.r2, .int .u8 lk.g2, .int .u8 lk.b2, .int .u8 lk.a2, .bool lk.bd, .int .i64 lk.pad]) 36))) := (Below.refl _ w).alloc (Nat.le_refl _) _
  have hM := make_arg (ndP (1 + j) t) (.slice none 0 0) _ (T.below L0.out) hkb ((ndP_ok _ _).trans ht)
  have HT : Hid (Tbs w) := T
  simp only [ndP] at hM
  obtain ⟨oa, cap, rfl, _, _⟩ := hv
  clear T hj hkb ht
  have key : ∀ b, decide ((15 : Int) < (ps.length : Int)) = b → Calls Tryz.prog 6 #[.int .u8 (k : Nat), .string t, .slice oa ps.length cap, .string nm, (Value.agg #[.int .u8 (lk.has : Nat), .int .u8 lk.r, .int .u8 lk.g, .int .u8 lk.b, .int .u8 lk.a, .int .u8 lk.r2, .int .u8 lk.g2, .int .u8 lk.b2, .int .u8 lk.a2, .bool lk.bd, .int .i64 lk.pad])] w fun e w' => e = .returned (.bool true) ∧ Below w.heap.size w w' := by
    intro bb hbb
    cases bb
    · have hm : ¬ (15 : Int) < (ps.length : Int) := of_decide_eq_false hbb
      clear hbb
      go_enter Tryz.func6, Tryz.ntmps6
      go_wp2_with fail
      refine hM.mono ?_
      rintro e w1 ⟨rfl, hb⟩
      have L1 : Hid (Below w.heap.size w w1) := L0.out.trans (hb.mono L0.out.size)
      clear hb hM L0
      go_wp2_with fail
      refine (alive7_any _ (HT.out.below L1.out)).mono ?_
      rintro e w2 ⟨rfl, hb⟩
      have L2 : Hid (Below w.heap.size w w2) := L1.out.trans (hb.mono L1.out.size)
      clear hb L1
      go_wp2_with fail
      refine (alive7_any _ (HT.out.below L2.out)).mono ?_
      rintro e w3 ⟨rfl, hb⟩
      have L3 : Hid (Below w.heap.size w w3) := L2.out.trans (hb.mono L2.out.size)
      clear hb L2
      go_wp2
      go_ret
      exact ⟨rfl, L3.out⟩
    · have hm : (15 : Int) < (ps.length : Int) := of_decide_eq_true hbb
      clear hbb
      go_enter Tryz.func6, Tryz.ntmps6
      go_wp2_with fail
      refine hM.mono ?_
      rintro e w1 ⟨rfl, hb⟩
      have L1 : Hid (Below w.heap.size w w1) := L0.out.trans (hb.mono L0.out.size)
      clear hb hM L0
      go_wp2_with fail
      refine (alive7_any _ (HT.out.below L1.out)).mono ?_
      rintro e w2 ⟨rfl, hb⟩
      have L2 : Hid (Below w.heap.size w w2) := L1.out.trans (hb.mono L1.out.size)
      clear hb L1
      go_wp2_with fail
      refine (alive7_any _ (HT.out.below L2.out)).mono ?_
      rintro e w3 ⟨rfl, hb⟩
      have L3 : Hid (Below w.heap.size w w3) := L2.out.trans (hb.mono L2.out.size)
      clear hb L2
      go_wp2
      go_ret
      exact ⟨rfl, L3.out⟩
  exact key _ rfl

set_option maxRecDepth 10000 in
set_option maxHeartbeats 8000000 in
theorem pads_big (k : Nat) (hk8 : k < 256) (t nm : ByteArray) (ps : List Nat) (v : Value) (lk : Lk) (w : World) (T : Tbs w) (hv : Bys w v ps) (ht : txB t 65536 = true) (hn : 15 < ps.length) :
    Calls Tryz.prog 6 #[.int .u8 (k : Nat), .string t, v, .string nm, (Value.agg #[.int .u8 (lk.has : Nat), .int .u8 lk.r, .int .u8 lk.g, .int .u8 lk.b, .int .u8 lk.a, .int .u8 lk.r2, .int .u8 lk.g2, .int .u8 lk.b2, .int .u8 lk.a2, .bool lk.bd, .int .i64 lk.pad])] w fun e w' => e = .returned (.bool true) ∧ Below w.heap.size w w' := by
  obtain ⟨j, hj, hjl⟩ : ∃ j, k % 10 = j ∧ j < 10 := ⟨k % 10, rfl, Nat.mod_lt _ (by decide)⟩
  have e1 : Int.tmod (k : Int) 10 = (j : Int) := by rw [← hj, Int.tmod_eq_emod_of_nonneg (by omega)]; omega
  have hkb : kindB (1 + j) = true := by simp [kindB]; omega
  have L0 : Hid (Below w.heap.size w (w.alloc (.cells (#[.int .u8 (lk.has : Nat), .int .u8 lk.r, .int .u8 lk.g, .int .u8 lk.b, .int .u8 lk.a, .int .u8 lk.r2, .int .u8 lk.g2, .int .u8 lk.b2, .int .u8 lk.a2, .bool lk.bd, .int .i64 lk.pad]) 36))) := (Below.refl _ w).alloc (Nat.le_refl _) _
  have hM := make_nil (ndP (1 + j) t) _ (T.below L0.out) hkb ((ndP_ok _ _).trans ht)
  have HT : Hid (Tbs w) := T
  simp only [ndP] at hM
  obtain ⟨oa, cap, rfl, _, _⟩ := hv
  have hm : (15 : Int) < (ps.length : Int) := by omega
  clear T hj hkb ht
  go_enter Tryz.func6, Tryz.ntmps6
  go_wp2_with fail
  refine hM.mono ?_
  rintro e w1 ⟨b, rfl, _, _, hb⟩
  have L1 : Hid (Below w.heap.size w w1) := L0.out.trans (hb.mono L0.out.size)
  clear hb hM L0
  go_wp2_with fail
  refine (alive7_any _ (HT.out.below L1.out)).mono ?_
  rintro e w2 ⟨rfl, hb⟩
  have L2 : Hid (Below w.heap.size w w2) := L1.out.trans (hb.mono L1.out.size)
  clear hb L1
  go_wp2_with fail
  refine (alive7_any _ (HT.out.below L2.out)).mono ?_
  rintro e w3 ⟨rfl, hb⟩
  have L3 : Hid (Below w.heap.size w w3) := L2.out.trans (hb.mono L2.out.size)
  clear hb L2
  go_wp2
  go_ret
  exact ⟨rfl, L3.out⟩

end Go.Proofs.YtbnbfgkcndomaabGreatDoor

namespace Go.Proofs.YtbnbfgkcndomaabGreatDoor
open Go.RowKit Go.Shelf

theorem sum_take (ps : List Nat) (q : Nat) (h : q < ps.length) : (ps.take (q + 1)).sum = (ps.take q).sum + ps[q] := by
  rw [← List.take_append_getElem h, List.sum_append]; simp
theorem padsL_take (nm : ByteArray) (ps : List Nat) (q : Nat) (h : q < ps.length) : padsL nm (ps.take (q + 1)) = padsL nm (ps.take q) ++ [padW ps[q]] := by
  rw [← List.take_append_getElem h]
  show namW nm :: (ps.take q ++ [ps[q]]).map padW = (namW nm :: (ps.take q).map padW) ++ [padW ps[q]]
  rw [List.map_append, List.map_singleton]
  rfl
theorem sum_le : ∀ ps : List Nat, (∀ p ∈ ps, p < 256) → ps.sum ≤ 255 * ps.length
  | [], _ => by simp
  | p :: ps, h => by
    have := sum_le ps fun q hq => h q (by simp [hq])
    have := h p (by simp)
    simp only [List.sum_cons, List.length_cons]
    omega
theorem padW_ok (p : Nat) (h : p < 256) : okW (padW p) = true ∧ (padW p).wf := by
  have h1 : fromTo (p : Int) 0 16384 = true := by simp [fromTo]; omega
  refine ⟨?_, by show (3 : Nat) < 256; decide, by show (0 : Nat) < 65536; decide, by show ByteArray.size ⟨#[]⟩ ≤ 9223372036854775807; decide, ⟨by show -9223372036854775808 ≤ (p : Int); omega, by show (p : Int) ≤ 9223372036854775807; omega⟩⟩
  show (decide (1 ≤ 3) && (decide (3 ≤ 7) && (decide (0 = 0) && (fromTo (p : Int) 0 16384 && decide ((⟨#[]⟩ : ByteArray).size = 0))))) = true
  rw [h1]; rfl
theorem namW_ok (s : ByteArray) : okW (namW s) = txB s 64 := by
  show (decide (1 ≤ 4) && (decide (4 ≤ 7) && (decide (0 = 0) && (decide ((0 : Int) = 0) && txB s 64)))) = _
  simp
theorem namW_wf (s : ByteArray) (h : s.size ≤ 9223372036854775807) : (namW s).wf := ⟨by show (4 : Nat) < 256; decide, by show (0 : Nat) < 65536; decide, h, ⟨by show (-9223372036854775808 : Int) ≤ 0; decide, by show (0 : Int) ≤ 9223372036854775807; decide⟩⟩
theorem padsL_wf (nm : ByteArray) (h : nm.size ≤ 9223372036854775807) (ps : List Nat) (hp : ∀ p ∈ ps, p < 256) : ∀ x ∈ padsL nm ps, x.wf := by
  intro x hx
  simp only [padsL, List.mem_cons, List.mem_map] at hx
  rcases hx with rfl | ⟨p, h1, rfl⟩
  · exact namW_wf nm h
  · exact (padW_ok p (hp p h1)).2
theorem padsL_ck (nm : ByteArray) (ps : List Nat) (hp : ∀ p ∈ ps, p < 256) (hn : ps.length ≤ 15) : ckE (padsL nm ps) = if txB nm 64 then 0 else 70 := by
  unfold ckE
  rw [if_neg (by simp [padsL]; omega)]
  have : (padsL nm ps).all okW = txB nm 64 := by
    unfold padsL
    rw [List.all_cons, namW_ok]
    have : (ps.map padW).all okW = true := List.all_eq_true.2 fun x hx => by
      obtain ⟨p, h1, rfl⟩ := List.mem_map.1 hx
      exact (padW_ok p (hp p h1)).1
    rw [this, Bool.and_true]
  rw [this]
theorem flatS_at' : ∀ (L : List Sk) (k : Nat) (hk : k < L.length) (j : Nat), j < 15 → (flatS L)[k * 15 + j]? = (L[k]).vals[j]?
  | [], _, hk, _, _ => by simp at hk
  | a :: t, 0, _, j, hj => by
    have e : flatS (a :: t) = a.vals ++ flatS t := by simp [flatS]
    rw [e, List.getElem?_append_left (by simp [Sk.vals]; omega)]
    simp
  | a :: t, k + 1, hk, j, hj => by
    have e : flatS (a :: t) = a.vals ++ flatS t := by simp [flatS]
    have l15 : a.vals.length = 15 := rfl
    rw [e, List.getElem?_append_right (by omega), l15]
    have := flatS_at' t k (by simpa using hk) j hj
    rw [show (k + 1) * 15 + j - 15 = k * 15 + j by omega, this]
    rfl
/-- A stroke's value. -/
def skV (s : Sk) : Value := .agg #[.int .u8 s.kind, .int .i64 s.x, .int .i64 s.y, .int .i64 s.n, .int .i64 s.m, .int .u8 s.c0, .int .u8 s.c1, .int .u8 s.c2, .int .u8 s.c3, .int .u8 s.b0, .int .u8 s.b1, .int .u8 s.b2, .int .u8 s.b3, .string s.tx, .int .i64 s.nd]
theorem neq_self (s : Sk) (w : World) : (binOp .neq 86 (skV s) (skV s)).run Tryz.prog w = .ok (.bool false) w := by
  unfold skV
  simp [go_sem]
/-- A list of strokes in memory, read. -/
theorem row_at {w : World} {base : Nat} {v : Value} {L : List Sk} (h : w.ownsRow base 86 15 v L.length (flatS L)) : ∃ oa cap, v = .slice oa L.length cap ∧ L.length ≤ 9223372036854775807 ∧ (0 < L.length → ∃ g, oa = some ⟨g, 0, none⟩ ∧ g < w.heap.size ∧ ∀ k (hk : k < L.length) j, j < 15 → w.cell? ⟨g, k * 15 + j, none⟩ = (L[k]).vals[j]?) := by
  rcases h.2 with ⟨rfl, h0⟩ | ⟨g, cap, cur, rfl, hb, hg, hc⟩
  · exact ⟨none, 0, by rw [h0], by omega, fun h => absurd h (by omega)⟩
  · exact ⟨_, cap, rfl, (by have h1 := hc.1; have h2 := hc.2.1; unfold maxLen at h2; omega), fun _ => ⟨g, rfl, (Array.getElem?_eq_some_iff.1 hg).1, fun k hk j hj => (h.cellAt (k * 15 + j) (by omega)).trans (flatS_at' L k hk j hj)⟩⟩
theorem strX_same (c : Nat) (q r : Rc) (k : Lk) (h1 : mayB q.x q.y q.w q.h = true) (h2 : mayB r.x r.y r.w r.h = true) : strX c q k = strX c r k := by
  unfold strX
  rw [h1, h2]

theorem lim_zero (a : Int) : lim (lim a 0) 0 = a := by simp [lim]
theorem pads_measure (pt : Pt) (b : Nat) (nm : ByteArray) (ps : List Nat) (hk : pt.k ≠ 0) (hm : pt.mw = 0 ∧ pt.mh = 0) (hb : 0 ≤ pt.aw ∧ pt.aw ≤ 20000000000 ∧ 0 ≤ pt.ah ∧ pt.ah ≤ 20000000000) :
    ∃ A1 A2 B1 B2 E0 : Int, (∀ W pv, Pw W (.made pt b) [] pv → Calls Tryz.prog 27 #[pv, .agg #[.int .i64 0, .int .i64 0]] W fun e w' => e = .returned (.tuple #[.agg #[.int .i64 A1, .int .i64 A2], .int .i64 E0]) ∧ Below W.heap.size W w') ∧
      (∀ W qv, Pw W (.made pt b) (padsO nm ps) qv → Calls Tryz.prog 27 #[qv, .agg #[.int .i64 0, .int .i64 0]] W fun e w' => e = .returned (.tuple #[.agg #[.int .i64 B1, .int .i64 B2], .int .i64 E0]) ∧ Below W.heap.size W w') ∧
      (0 ≤ A1 ∧ A1 ≤ 20000000000 ∧ 0 ≤ A2 ∧ A2 ≤ 20000000000) ∧ (E0 ≠ 0 ∨ 16384 < A1 + 2 * (ps.sum : Nat) ∨ 16384 < A2 + 2 * (ps.sum : Nat) ∨ (B1 = A1 + 2 * (ps.sum : Nat) ∧ B2 = A2 + 2 * (ps.sum : Nat))) := by
  obtain ⟨f1, f2, f3, f4⟩ := padsO_facts (.made pt b) hk nm ps
  have i1 : I64 (lim (lim pt.aw pt.mw) 0) := by rw [hm.1, lim_zero]; exact ⟨by omega, by omega⟩
  have i2 : I64 (lim (lim pt.ah pt.mh) 0) := by rw [hm.2, lim_zero]; exact ⟨by omega, by omega⟩
  refine ⟨meaQ pt.t.can (meaL pt.aw pt.mw 0 []), meaQ pt.t.can (meaL pt.ah pt.mh 0 []), meaQ pt.t.can (meaL pt.aw pt.mw 0 (padsO nm ps)), meaQ pt.t.can (meaL pt.ah pt.mh 0 (padsO nm ps)), meaX pt.t.can, fun W pv h => measure_pw W h hk ⟨i1, i2⟩, fun W qv h => ?_, ?_, ?_⟩
  · have := measure_pw W h (by rw [f2]; exact hk) ⟨i1, i2⟩
    rw [f1] at this
    exact this
  · show (0 ≤ meaQ pt.t.can (lim (lim pt.aw pt.mw) 0) ∧ meaQ pt.t.can (lim (lim pt.aw pt.mw) 0) ≤ _ ∧ 0 ≤ meaQ pt.t.can (lim (lim pt.ah pt.mh) 0) ∧ meaQ pt.t.can (lim (lim pt.ah pt.mh) 0) ≤ _)
    rw [hm.1, hm.2, lim_zero, lim_zero]
    unfold meaQ
    split
    · exact hb
    · decide
  · show _ ∨ 16384 < meaQ pt.t.can (lim (lim pt.aw pt.mw) 0) + _ ∨ 16384 < meaQ pt.t.can (lim (lim pt.ah pt.mh) 0) + _ ∨ (_ = meaQ pt.t.can (lim (lim pt.aw pt.mw) 0) + _ ∧ _ = meaQ pt.t.can (lim (lim pt.ah pt.mh) 0) + _)
    have e : padsO nm ps = ps.reverse.map padW ++ [namW nm] := by simp [padsO, List.map_reverse]
    have es : ps.reverse.sum = ps.sum := by simp
    rw [hm.1, hm.2, lim_zero, lim_zero, e]
    cases hc : pt.t.can.testBit 0
    · left; simp [meaX, hc]
    · simp only [meaQ, hc, if_true]
      by_cases h1 : 16384 < pt.aw + 2 * (ps.sum : Nat)
      · exact .inr (.inl h1)
      by_cases h2 : 16384 < pt.ah + 2 * (ps.sum : Nat)
      · exact .inr (.inr (.inl h2))
      refine .inr (.inr (.inr ⟨?_, ?_⟩))
      · have := pads_mea pt.aw 0 nm (by rw [lim_zero]; omega) ps.reverse (by rw [lim_zero, es]; omega)
        rw [lim_zero, es] at this
        exact this
      · have := pads_mea pt.ah 0 nm (by rw [lim_zero]; omega) ps.reverse (by rw [lim_zero, es]; omega)
        rw [lim_zero, es] at this
        exact this
theorem pads_strokes (pt : Pt) (b : Nat) (nm : ByteArray) (ps : List Nat) (lk : Lk) (hk : pt.k ≠ 0) (hs : ps.sum ≤ 4000) :
    ∃ (E1 : Int) (Z : List Sk), (∀ W pv, Pw W (.made pt b) [] pv → Calls Tryz.prog 28 #[pv, .agg #[.int .i64 (ps.sum : Nat), .int .i64 (ps.sum : Nat), .int .i64 40, .int .i64 30], (Value.agg #[.int .u8 (lk.has : Nat), .int .u8 lk.r, .int .u8 lk.g, .int .u8 lk.b, .int .u8 lk.a, .int .u8 lk.r2, .int .u8 lk.g2, .int .u8 lk.b2, .int .u8 lk.a2, .bool lk.bd, .int .i64 lk.pad])] W fun e w' => ∃ v, e = .returned (.tuple #[v, .int .i64 E1]) ∧ w'.ownsRow W.heap.size 86 15 v Z.length (flatS Z) ∧ Below W.heap.size W w') ∧
      (∀ W qv, Pw W (.made pt b) (padsO nm ps) qv → Calls Tryz.prog 28 #[qv, .agg #[.int .i64 0, .int .i64 0, .int .i64 (40 + 2 * (ps.sum : Nat)), .int .i64 (30 + 2 * (ps.sum : Nat))], (Value.agg #[.int .u8 (lk.has : Nat), .int .u8 lk.r, .int .u8 lk.g, .int .u8 lk.b, .int .u8 lk.a, .int .u8 lk.r2, .int .u8 lk.g2, .int .u8 lk.b2, .int .u8 lk.a2, .bool lk.bd, .int .i64 lk.pad])] W fun e w' => ∃ v, e = .returned (.tuple #[v, .int .i64 E1]) ∧ w'.ownsRow W.heap.size 86 15 v Z.length (flatS Z) ∧ Below W.heap.size W w') := by
  obtain ⟨f1, f2, f3, f4⟩ := padsO_facts (.made pt b) hk nm ps
  have e : padsO nm ps = ps.reverse.map padW ++ [namW nm] := by simp [padsO, List.map_reverse]
  have es : ps.reverse.sum = ps.sum := by simp
  have hin : insL (padsO nm ps) ⟨0, 0, 40 + 2 * (ps.sum : Nat), 30 + 2 * (ps.sum : Nat)⟩ = ⟨(ps.sum : Nat), (ps.sum : Nat), 40, 30⟩ := by
    have := pads_ins nm ps.reverse 0 (by omega) (by rw [es]; omega)
    rw [es, ← e] at this
    rw [this]
    simp
  have m1 : mayB (ps.sum : Nat) (ps.sum : Nat) 40 30 = true := by simp [mayB, spanB]; omega
  have m2 : mayB 0 0 (40 + 2 * (ps.sum : Nat)) (30 + 2 * (ps.sum : Nat)) = true := by simp [mayB, spanB]; omega
  have ex := strX_same pt.t.can ⟨0, 0, 40 + 2 * (ps.sum : Nat), 30 + 2 * (ps.sum : Nat)⟩ ⟨(ps.sum : Nat), (ps.sum : Nat), 40, 30⟩ lk m2 m1
  refine ⟨strX pt.t.can ⟨(ps.sum : Nat), (ps.sum : Nat), 40, 30⟩ lk, strY pt.t.can ⟨(ps.sum : Nat), (ps.sum : Nat), 40, 30⟩ lk (paiL pt.tx ⟨(ps.sum : Nat), (ps.sum : Nat), 40, 30⟩ lk), fun W pv h => strokes_pw ⟨(ps.sum : Nat), (ps.sum : Nat), 40, 30⟩ lk W h hk ⟨by show -9223372036854775808 ≤ ((ps.sum : Nat) : Int); omega, by show ((ps.sum : Nat) : Int) ≤ 9223372036854775807; omega⟩ ⟨by show -9223372036854775808 ≤ ((ps.sum : Nat) : Int); omega, by show ((ps.sum : Nat) : Int) ≤ 9223372036854775807; omega⟩, fun W qv h => ?_⟩
  have := strokes_pw ⟨0, 0, 40 + 2 * (ps.sum : Nat), 30 + 2 * (ps.sum : Nat)⟩ lk W h (by rw [f2]; exact hk) ⟨by show (-9223372036854775808 : Int) ≤ 0; decide, by show (0 : Int) ≤ 9223372036854775807; decide⟩ ⟨by show (-9223372036854775808 : Int) ≤ 0; decide, by show (0 : Int) ≤ 9223372036854775807; decide⟩
  rw [f1, hin] at this
  have ey : strY (Bs.made pt b).can ⟨0, 0, 40 + 2 * (ps.sum : Nat), 30 + 2 * (ps.sum : Nat)⟩ lk (paiL pt.tx ⟨(ps.sum : Nat), (ps.sum : Nat), 40, 30⟩ lk) = strY pt.t.can ⟨(ps.sum : Nat), (ps.sum : Nat), 40, 30⟩ lk (paiL pt.tx ⟨(ps.sum : Nat), (ps.sum : Nat), 40, 30⟩ lk) := by
    unfold strY
    rw [show (Bs.made pt b).can = pt.t.can from rfl, ex]
  rw [ey, show (Bs.made pt b).can = pt.t.can from rfl, ex] at this
  exact this

end Go.Proofs.YtbnbfgkcndomaabGreatDoor

namespace Go.Proofs.YtbnbfgkcndomaabGreatDoor
open Go.ChangeShapes Go.WideShapes Go.ChangeAt Go.RowKit Go.Joins

set_option maxRecDepth 100000 in
theorem bys_of {W : World} {g o : Nat} : ∀ (n : Nat), (∀ i, i < n → ∃ r : Nat, W.cell? ⟨g, o + i, none⟩ = some (.int .u8 (r : Nat)) ∧ r < 256) → ∃ rs : List Nat, rs.length = n ∧ (∀ i (h : i < rs.length), W.cell? ⟨g, o + i, none⟩ = some (.int .u8 (rs[i] : Nat))) ∧ ∀ r ∈ rs, r < 256
  | 0, _ => ⟨[], rfl, fun i h => absurd h (Nat.not_lt_zero i), fun r hr => by simp at hr⟩
  | n + 1, h => by
    obtain ⟨rs, hl, ha, hw⟩ := bys_of n fun i hi => h i (by omega)
    obtain ⟨r, hr, hz⟩ := h n (by omega)
    refine ⟨rs ++ [r], by simp [hl], fun i hi => ?_, fun x hx => ?_⟩
    · by_cases e : i < rs.length
      · rw [List.getElem_append_left e]; exact ha i e
      · have : i = n := by simp at hi; omega
        subst this
        subst hl
        rw [List.getElem_concat_length rfl]
        exact hr
    · rcases List.mem_append.1 hx with hx | hx
      · exact hw x hx
      · simp at hx; subst hx; exact hz

set_option maxRecDepth 100000 in
theorem open_bys {H : Type} {enc : TypeId × Value → H} {W : World} {base b : Nat} {sp : Nat → Bool} {held : Bool} {v : Value} {d : DataW H} {p : List MemPlace}
    (hv : Value.okWide Tryz.prog W .any base 79 v) (h : DataW.Trod enc Tryz.prog W b sp held 79 v d p) : ∃ rs : List Nat, Bys W v rs ∧ (∀ r ∈ rs, r < 256) ∧ rs.length ≤ 9223372036854775807 := by
  obtain ⟨oa, len, cap, rfl⟩ := okWide_slice Tryz.underlying79 hv
  obtain ⟨fuel, hf⟩ := h
  rcases DataW.trod_slice Tryz.underlying79 hf with ⟨he, _⟩ | ⟨a, len', cap', el, rest, n, _, he, _, _, hlc, hcm, hel, hat, _, _⟩
  · simp [Value.cells] at he
    obtain ⟨rfl, rfl, rfl⟩ := he
    exact ⟨[], ⟨none, 0, rfl, Nat.le_refl _, fun h => by simp at h⟩, fun r hr => by simp at hr, by simp⟩
  · simp [Value.cells] at he
    obtain ⟨rfl, rfl, rfl⟩ := he
    rw [cellw_u8] at hat
    obtain ⟨g, o, s⟩ := a
    have key : ∀ i, i < len → ∃ r : Nat, W.cell? ((Addr.mk g o s).add (i * 1)) = some (.int .u8 (r : Nat)) ∧ r < 256 := by
      intro i hi
      have h1 := hat i hi
      obtain ⟨bb, hb⟩ : ∃ bb, el[i]? = some bb := ⟨el[i]'(by omega), List.getElem?_eq_getElem (by omega)⟩
      rw [hb] at h1
      obtain ⟨ce, hce, hte⟩ := Option.bind_eq_some_iff.1 h1
      obtain ⟨a0, e0, _, w0⟩ := DataW.trod_int Tryz.underlying5 hte
      have hb0 := bounds_u8 w0
      obtain ⟨_, _, hcc⟩ := World.cells?_some hce
      have h2 := hcc 0 (by omega)
      refine ⟨a0.toNat, ?_, by omega⟩
      rw [e0] at h2
      have ez : ∀ x : Addr, x.add 0 = x := fun x => by simp [Addr.add]
      rw [ez] at h2
      rw [h2, Int.toNat_of_nonneg hb0.1]
      rfl
    by_cases h0 : len = 0
    · subst h0
      exact ⟨[], ⟨_, cap, rfl, Nat.zero_le _, fun h => by simp at h⟩, fun r hr => by simp at hr, by simp⟩
    obtain rfl : s = none := by
      obtain ⟨r, hr, _⟩ := key 0 (by omega)
      have : (Addr.add ⟨g, o, s⟩ (0 * 1)) = ⟨g, o, s⟩ := by simp [Addr.add]
      rw [this] at hr
      exact Go.Proofs.cell_spot hr
    obtain ⟨rs, hl, ha, hw⟩ := bys_of (W := W) (g := g) (o := o) len fun i hi => by
      obtain ⟨r, hr, hz⟩ := key i hi
      simp only [Addr.add_lit, Nat.mul_one] at hr
      exact ⟨r, hr, hz⟩
    subst hl
    have hg : g < W.heap.size := by
      have h1 := ha 0 (by omega)
      rcases Nat.lt_or_ge g W.heap.size with h' | h'
      · exact h'
      · simp [World.cell?, Array.getElem?_eq_none h'] at h1
    exact ⟨rs, ⟨_, cap, rfl, hlc, fun _ => ⟨g, o, rfl, hg, ha⟩⟩, hw, by have : cap ≤ 9223372036854775807 := hcm; omega⟩

end Go.Proofs.YtbnbfgkcndomaabGreatDoor

namespace Go.Proofs.YtbnbfgkcndomaabGreatDoor
open Go.RowKit Go.Shelf

/-- What lies there: the look, the part. -/
structure PdW (w : World) (lk : Lk) (B : Bs) (pv : Value) (W : World) : Prop where
  k : Blk W w.heap.size (#[.int .u8 (lk.has : Nat), .int .u8 lk.r, .int .u8 lk.g, .int .u8 lk.b, .int .u8 lk.a, .int .u8 lk.r2, .int .u8 lk.g2, .int .u8 lk.b2, .int .u8 lk.a2, .bool lk.bd, .int .i64 lk.pad]) 36
  p : Pw W B [] pv
  b : Below w.heap.size w W
theorem PdW.below {w : World} {lk : Lk} {B : Bs} {pv : Value} {W W' : World} (h : PdW w lk B pv W) (hb : Below W.heap.size W W') : PdW w lk B pv W' := ⟨h.k.below hb, h.p.below hb, h.b.trans (hb.mono h.b.size)⟩

set_option maxRecDepth 10000 in
set_option maxHeartbeats 16000000 in
theorem pads_ok (k : Nat) (hk8 : k < 256) (t nm : ByteArray) (ps : List Nat) (v : Value) (lk : Lk) (w : World) (T : Tbs w) (hv : Bys w v ps) (ht : txB t 65536 = true) (hn : ps.length ≤ 15) (hp : ∀ p ∈ ps, p < 256) (hnm : nm.size ≤ 9223372036854775807) :
    Calls Tryz.prog 6 #[.int .u8 (k : Nat), .string t, v, .string nm, (Value.agg #[.int .u8 (lk.has : Nat), .int .u8 lk.r, .int .u8 lk.g, .int .u8 lk.b, .int .u8 lk.a, .int .u8 lk.r2, .int .u8 lk.g2, .int .u8 lk.b2, .int .u8 lk.a2, .bool lk.bd, .int .i64 lk.pad])] w fun e w' => e = .returned (.bool true) ∧ Below w.heap.size w w' := by
  obtain ⟨j, hj, hjl⟩ : ∃ j, k % 10 = j ∧ j < 10 := ⟨k % 10, rfl, Nat.mod_lt _ (by decide)⟩
  have e1 : Int.tmod (k : Int) 10 = (j : Int) := by rw [← hj, Int.tmod_eq_emod_of_nonneg (by omega)]; omega
  have hkb : kindB (1 + j) = true := by simp [kindB]; omega
  have L0 : Hid (Below w.heap.size w (w.alloc (.cells (#[.int .u8 (lk.has : Nat), .int .u8 lk.r, .int .u8 lk.g, .int .u8 lk.b, .int .u8 lk.a, .int .u8 lk.r2, .int .u8 lk.g2, .int .u8 lk.b2, .int .u8 lk.a2, .bool lk.bd, .int .i64 lk.pad]) 36)) ∧ Blk (w.alloc (.cells (#[.int .u8 (lk.has : Nat), .int .u8 lk.r, .int .u8 lk.g, .int .u8 lk.b, .int .u8 lk.a, .int .u8 lk.r2, .int .u8 lk.g2, .int .u8 lk.b2, .int .u8 lk.a2, .bool lk.bd, .int .i64 lk.pad]) 36)) w.heap.size (#[.int .u8 (lk.has : Nat), .int .u8 lk.r, .int .u8 lk.g, .int .u8 lk.b, .int .u8 lk.a, .int .u8 lk.r2, .int .u8 lk.g2, .int .u8 lk.b2, .int .u8 lk.a2, .bool lk.bd, .int .i64 lk.pad]) 36) := ⟨(Below.refl _ w).alloc (Nat.le_refl _) _, Blk.new _ _ _⟩
  have hM := make_nil (ndP (1 + j) t) _ (T.below L0.out.1) hkb ((ndP_ok _ _).trans ht)
  have HT : Hid (Tbs w) := T
  have hts : t.size ≤ 65536 := by
    simp only [txB, Bool.and_eq_true, decide_eq_true_eq] at ht
    exact ht.1
  have HAsk : Hid (0 ≤ askW (ndP (1 + j) t) ∧ askW (ndP (1 + j) t) ≤ 20000000000 ∧ 0 ≤ askH (ndP (1 + j) t) ∧ askH (ndP (1 + j) t) ≤ 20000000000) := ask_bd (1 + j) t hts
  obtain ⟨pt, hpt⟩ : ∃ pt, pt = ptOf (ndP (1 + j) t) none 0 0 := ⟨_, rfl⟩
  have HPT : Hid ((∀ W b, PtIn W b pt → Pw W (.made pt b) [] (.iface (tyOf (1 + j)).id (.pointer (some ⟨b, 0, none⟩)))) ∧ pt.aw = askW (ndP (1 + j) t) ∧ pt.ah = askH (ndP (1 + j) t) ∧ pt.mw = 0 ∧ pt.mh = 0 ∧ pt.k ≠ 0 ∧ pt.name = ⟨#[110]⟩) := by
    rw [hpt]
    exact ⟨fun W b h => ⟨rfl, h, hkb⟩, rfl, rfl, rfl, rfl, by show 1 + j ≠ 0; omega, rfl⟩
  rw [← hpt] at hM
  simp only [ndP] at hM
  clear hpt
  obtain ⟨oa, cap, rfl, _, hg⟩ := hv
  have HG : Hid (0 < ps.length → ∃ g o, oa = some ⟨g, o, none⟩ ∧ g < w.heap.size ∧ ∀ i (h : i < ps.length), w.cell? ⟨g, o + i, none⟩ = some (.int .u8 (ps[i] : Nat))) := hg
  have HP : Hid ((∀ p ∈ ps, p < 256) ∧ nm.size ≤ 9223372036854775807) := ⟨hp, hnm⟩
  have hm : ¬ (15 : Int) < (ps.length : Int) := by omega
  obtain ⟨i0, HI⟩ : ∃ i0, Hid (Tryz.prog.info? 58 = some i0 ∧ i0.zero = some (.agg #[.int .u8 0, .int .u16 0, .int .i64 0, .string ByteArray.empty]) ∧ i0.size = 4 ∧ i0.bytes = 32) := info_w3 info_wrap
  clear T hj hg hp hnm hkb ht hts
  generalize (tyOf (1 + j)).id = ti at *
  go_enter Tryz.func6, Tryz.ntmps6
  go_wp2_with fail
  refine hM.mono ?_
  rintro e w1 ⟨b, rfl, hpp, _, hb⟩
  have S1 : Hid (PdW w lk (.made pt b) (.iface ti (.pointer (some ⟨b, 0, none⟩))) w1) := ⟨L0.out.2.below hb, HPT.out.1 _ _ hpp, L0.out.1.trans (hb.mono L0.out.1.size)⟩
  clear hb hM hpp L0
  generalize (Value.pointer (some ⟨b, 0, none⟩)) = py at *
  go_wp2_with fail
  refine (alive7_any _ (HT.out.below S1.out.b)).mono ?_
  rintro e w2 ⟨rfl, hb⟩
  have S2 : Hid (PdW w lk (.made pt b) (.iface ti py) w2) := S1.out.below hb
  clear hb S1
  go_wp2_with fail
  have S3 : Hid (PdW w lk (.made pt b) (.iface ti py) (w2.alloc (.cells (#[.int .u8 ((namW nm).kind : Nat), .int .u16 ((namW nm).mask : Nat), .int .i64 (namW nm).num, .string (namW nm).text]) 58))) := S2.out.below ((Below.refl _ _).alloc (Nat.le_refl _) _)
  have O3 : Hid ((w2.alloc (.cells (#[.int .u8 ((namW nm).kind : Nat), .int .u16 ((namW nm).mask : Nat), .int .i64 (namW nm).num, .string (namW nm).text]) 58)).ownsRow (w.heap.size + 1) 58 4 (.slice (some ⟨w2.heap.size, 0, none⟩) 1 1) 1 (flatW (padsL nm []))) :=
    World.ownsRow_lit w2 _ 1 (by have := S2.out.k.lt; omega) (by unfold maxLen; omega) rfl
  clear S2
  go_loopw [13, 14, 15] (fun lv sm i wr => ∃ q : Nat, q ≤ ps.length ∧ i = .int .i64 q ∧ sm = .int .i64 ((ps.take q).sum : Nat) ∧ Hid (PdW w lk (.made pt b) (.iface ti py) wr ∧ wr.ownsRow (w.heap.size + 1) 58 4 lv (padsL nm (ps.take q)).length (flatW (padsL nm (ps.take q))))) (fun _ _ i _ => ps.length - (intOf i).toNat)
  case atStart => exact ⟨0, Nat.zero_le _, rfl, rfl, S3.out, O3.out⟩
  case round =>
    obtain ⟨q, hq, rfl, rfl, HR⟩ := hrel
    clear S3 O3
    by_cases hlt : q < ps.length
    · obtain ⟨g, o, rfl, hg, hat⟩ := HG.out (by omega)
      have hx : wr.cell? ⟨g, o + q, none⟩ = some (.int .u8 (ps[q] : Nat)) := (HR.out.1.b.cell (p := ⟨g, o + q, none⟩) hg).trans (hat q hlt)
      have hxp := HP.out.1 _ (List.getElem_mem hlt)
      have hsm := sum_le (ps.take q) fun p h => HP.out.1 p (List.mem_of_mem_take h)
      have hsl : (ps.take q).length ≤ 15 := by simp; omega
      have HE : Hid ((ps.take (q + 1)).sum = (ps.take q).sum + ps[q] ∧ padsL nm (ps.take (q + 1)) = padsL nm (ps.take q) ++ [padW ps[q]]) := ⟨sum_take ps q hlt, padsL_take nm ps q hlt⟩
      have ik : (q : Int) < (ps.length : Int) := by omega
      have hss : (ps.take q).sum ≤ 4000 := by omega
      have HGw : Hid (g < w.heap.size) := hg
      clear hat hg HG hsm hsl
      generalize (ps.take q).sum = ss at *
      generalize ps[q] = x at *
      obtain ⟨hi, hz0, hz1, hz2⟩ := HI.out
      have hown : (wr.alloc (.cells (#[.int .u8 ((padW x).kind : Nat), .int .u16 ((padW x).mask : Nat), .int .i64 (padW x).num, .string (padW x).text]) 58)).ownsRow (w.heap.size + 1) 58 4 u13 (padsL nm (ps.take q)).length (flatW (padsL nm (ps.take q))) := HR.out.2.alloc _
      have h5 : w.heap.size + 1 ≤ (wr.alloc (.cells (#[.int .u8 ((padW x).kind : Nat), .int .u16 ((padW x).mask : Nat), .int .i64 (padW x).num, .string (padW x).text]) 58)).heap.size := by have := HR.out.1.k.lt; simp; omega
      have hlk : (padsL nm (ps.take q)).length ≤ 16 := by simp [padsL]; omega
      go_wp2_with (at_builtin; refine wpList_append_own _ rfl _ _ 26 rfl (w.heap.size + 1) 58 i0 (.agg #[.int .u8 0, .int .u16 0, .int .i64 0, .string ByteArray.empty]) 4 32 Tryz.underlying26 hi hz0 hz1 hz2 rfl (by decide) _ _ _ rfl hown ⟨wr.heap.size, 0, none⟩ 1 1 (celW (padW x)) rfl rfl ?c1 (oneW (padW x)) ?c3 ?c4 h5 ?_)
      case c1 => exact cellW4 _ _ _ _ rfl
      case c3 => unfold maxLen; omega
      case c4 => omega
      intro v' w5 hown' hgrow _
      have H5 : Hid (PdW w lk (.made pt b) (.iface ti py) w5 ∧ w5.ownsRow (w.heap.size + 1) 58 4 v' (padsL nm (ps.take (q + 1))).length (flatW (padsL nm (ps.take (q + 1))))) := by
        have hA : Below wr.heap.size wr (wr.alloc (.cells (#[.int .u8 ((padW x).kind : Nat), .int .u16 ((padW x).mask : Nat), .int .i64 (padW x).num, .string (padW x).text]) 58)) := (Below.refl _ wr).alloc (Nat.le_refl _) _
        have SA := HR.out.1.below hA
        refine ⟨⟨(hgrow.block _ SA.k.lt (fun h => by have := (hown.lt _ h.symm).1; omega)).trans SA.k, Pw.grown hown (fun h => by simp [padsL] at h) hgrow SA.p, SA.b.grown hgrow SA.b.size (fun b hb => by have := (hown.lt b hb).1; omega)⟩, ?_⟩
        rw [HE.out.2, List.length_append, flatW_snoc]
        exact hown'
      have y1 : w5.cell? ⟨g, o + q, none⟩ = some (.int .u8 (x : Nat)) := by
        have hgl : g < wr.heap.size := World.block_lt_of_cell? wr _ hx
        refine (World.cell?_of_block (hgrow.block g (by simp; omega) (fun h => ?_))).trans (over_alloc hx _)
        have := (hown.lt _ h.symm).1
        have := HGw.out
        omega
      clear hown' hgrow hown h5 hlk hx HR hi hz0 hz1 hz2
      go_wp2
      go_roundw
      case rel => exact ⟨q + 1, by omega, by go_num, by rw [HE.out.1]; go_num, H5.out⟩
      case measure => simp [intOf]; omega
    · obtain rfl : q = ps.length := by omega
      have HR2 := HR
      rw [List.take_length] at HR2
      rw [List.take_length]
      have hss : ps.sum ≤ 4000 := by have := sum_le ps HP.out.1; omega
      have hW : Wraps wr u13 (padsL nm ps) := wraps_own HR2.out.2
      have hwf := padsL_wf nm HP.out.2 ps HP.out.1
      have hck := padsL_ck nm ps HP.out.1 hn
      have ik : ¬ (ps.length : Int) < (ps.length : Int) := by omega
      have hB : Bs.val (.made pt b) = .iface ti py := HR2.out.1.p.1.symm
      obtain ⟨hpw, hpaw, hpah, hpmw, hpmh, hpk, hpn⟩ := HPT.out
      cases htx : txB nm 64
      · rw [htx] at hck
        have hA := all_bad ti py u13 (padsL nm ps) wr (HT.out.2.2.below HR2.out.1.b) hW hwf (by rw [hck]; decide)
        rw [hck] at hA
        have HBl : Hid (Below w.heap.size w wr) := HR2.out.1.b
        simp only [Bool.false_eq_true, if_false] at hA
        clear HR HR2 hW hwf hck HG HT HP HPT HAsk HI hpw hpaw hpah hpmw hpmh hpk hpn hB htx hlt hq
        go_wp2_with fail
        refine hA.mono ?_
        rintro e w4 ⟨rfl, hb⟩
        have L4 : Hid (Below w.heap.size w w4) := HBl.out.trans (hb.mono HBl.out.size)
        clear hb hA
        go_wp2
        go_ret
        exact ⟨rfl, L4.out⟩
      rw [htx] at hck
      have hA := all_ok (.made pt b) [] (padsL nm ps) (.iface ti py) u13 wr (HT.out.2.2.below HR2.out.1.b) HR2.out.1.p hW hwf hck (fits_of _ _ (by simp [padsL]; omega))
      rw [pads_st] at hA
      have HA : Hid (Calls Tryz.prog 13 #[.iface ti py, u13] wr fun e w' => ∃ i y, e = .returned (.tuple #[.iface i y, .int .i64 0]) ∧ Hid (Pw w' (.made pt b) (padsO nm ps) (.iface i y) ∧ Below wr.heap.size wr w')) := hA.mono fun e w' ⟨v', he, hq', hb'⟩ => by
        obtain ⟨i, y, rfl, _, _⟩ := Pw.tf hq'
        exact ⟨i, y, he, ⟨hq', hb'⟩⟩
      clear hA
      obtain ⟨f1, f2, f3, f4⟩ := padsO_facts (.made pt b) hpk nm ps
      obtain ⟨A1, A2, B1, B2, E0, hMp, hMq, hbd, hone⟩ := pads_measure pt b nm ps hpk ⟨hpmw, hpmh⟩ (by rw [hpaw, hpah]; exact HAsk.out)
      obtain ⟨E1, Z, hSp, hSq⟩ := pads_strokes pt b nm ps lk hpk hss
      have H1 : Hid ((∀ W pv, Pw W (.made pt b) [] pv → Calls Tryz.prog 27 #[pv, .agg #[.int .i64 0, .int .i64 0]] W fun e w' => e = .returned (.tuple #[.agg #[.int .i64 A1, .int .i64 A2], .int .i64 E0]) ∧ Below W.heap.size W w') ∧
        (∀ W qv, Pw W (.made pt b) (padsO nm ps) qv → Calls Tryz.prog 27 #[qv, .agg #[.int .i64 0, .int .i64 0]] W fun e w' => e = .returned (.tuple #[.agg #[.int .i64 B1, .int .i64 B2], .int .i64 E0]) ∧ Below W.heap.size W w')) := ⟨hMp, hMq⟩
      have H2 : Hid ((∀ W pv, Pw W (.made pt b) [] pv → Calls Tryz.prog 28 #[pv, .agg #[.int .i64 (ps.sum : Nat), .int .i64 (ps.sum : Nat), .int .i64 40, .int .i64 30], (Value.agg #[.int .u8 (lk.has : Nat), .int .u8 lk.r, .int .u8 lk.g, .int .u8 lk.b, .int .u8 lk.a, .int .u8 lk.r2, .int .u8 lk.g2, .int .u8 lk.b2, .int .u8 lk.a2, .bool lk.bd, .int .i64 lk.pad])] W fun e w' => ∃ v, e = .returned (.tuple #[v, .int .i64 E1]) ∧ w'.ownsRow W.heap.size 86 15 v Z.length (flatS Z) ∧ Below W.heap.size W w') ∧
        (∀ W qv, Pw W (.made pt b) (padsO nm ps) qv → Calls Tryz.prog 28 #[qv, .agg #[.int .i64 0, .int .i64 0, .int .i64 (40 + 2 * (ps.sum : Nat)), .int .i64 (30 + 2 * (ps.sum : Nat))], (Value.agg #[.int .u8 (lk.has : Nat), .int .u8 lk.r, .int .u8 lk.g, .int .u8 lk.b, .int .u8 lk.a, .int .u8 lk.r2, .int .u8 lk.g2, .int .u8 lk.b2, .int .u8 lk.a2, .bool lk.bd, .int .i64 lk.pad])] W fun e w' => ∃ v, e = .returned (.tuple #[v, .int .i64 E1]) ∧ w'.ownsRow W.heap.size 86 15 v Z.length (flatS Z) ∧ Below W.heap.size W w')) := ⟨hSp, hSq⟩
      have H3 : Hid (E0 ≠ 0 ∨ 16384 < A1 + 2 * (ps.sum : Nat) ∨ 16384 < A2 + 2 * (ps.sum : Nat) ∨ (B1 = A1 + 2 * (ps.sum : Nat) ∧ B2 = A2 + 2 * (ps.sum : Nat))) := hone
      have H4 : Hid (canL (.made pt b) (padsO nm ps) = canL (.made pt b) [] ∧ kindL (.made pt b) (padsO nm ps) = kindL (.made pt b) [] ∧ nameL (.made pt b) (padsO nm ps) = nm ∧ (padsO nm ps).length = ps.length + 1 ∧ nameL (.made pt b) [] = ⟨#[110]⟩ ∧ kindL (.made pt b) [] ≠ 0 ∧ Bs.val (.made pt b) = .iface ti py) := ⟨f1, f2, f3, f4, hpn, hpk, hB⟩
      have HBl : Hid (PdW w lk (.made pt b) (.iface ti py) wr) := HR2.out.1
      obtain ⟨oa2, cap2, rfl, _, _⟩ := hW
      have hpl : (padsL nm ps).length = ps.length + 1 := by simp [padsL]
      obtain ⟨hb1, hb2, hb3, hb4⟩ := hbd
      clear HR HR2 hwf hck HG HT HP HPT HAsk HI hpw hpaw hpah hpmw hpmh hpk hpn hB htx hlt hq f1 f2 f3 f4 hMp hMq hSp hSq hone
      rw [hpl] at HA
      rw [hpl]
      generalize hBB : Bs.made pt b = B at *
      clear hBB hpl
      generalize hF : padsO nm ps = F at *
      clear hF
      generalize ps.sum = S at *
      go_wp2_with fail
      refine HA.out.mono ?_
      rintro e w4 ⟨qi, qy, rfl, H4'⟩
      have S4 : Hid (PdW w lk B (.iface ti py) w4 ∧ Pw w4 B F (.iface qi qy)) := ⟨HBl.out.below H4'.out.2, H4'.out.1⟩
      clear HA HBl H4'
      have hIn := inner_any B F _ w4 S4.out.2 (by rw [H4.out.2.2.2.1]; omega)
      rw [H4.out.2.2.2.2.2.2, H4.out.2.2.2.1] at hIn
      go_wp2_with fail
      refine hIn.mono ?_
      rintro e w5 ⟨rfl, rfl⟩
      clear hIn
      go_wp2_with fail
      refine (H1.out.1 _ _ S4.out.1.p).mono ?_
      rintro e w6 ⟨rfl, hb⟩
      have S6 : Hid (PdW w lk B (.iface ti py) (w6.alloc (.cells #[.int .i64 A1, .int .i64 A2] 23)) ∧ Pw (w6.alloc (.cells #[.int .i64 A1, .int .i64 A2] 23)) B F (.iface qi qy) ∧ Blk (w6.alloc (.cells #[.int .i64 A1, .int .i64 A2] 23)) w6.heap.size #[.int .i64 A1, .int .i64 A2] 23) := by
        have hA : Below w6.heap.size w6 (w6.alloc (.cells #[.int .i64 A1, .int .i64 A2] 23)) := (Below.refl _ _).alloc (Nat.le_refl _) _
        exact ⟨(S4.out.1.below hb).below hA, (S4.out.2.below hb).below hA, Blk.new _ _ _⟩
      clear hb S4
      go_wp2_with fail
      refine (H1.out.2 _ _ S6.out.2.1).mono ?_
      rintro e w7 ⟨rfl, hb⟩
      have S7 : Hid (PdW w lk B (.iface ti py) (w7.alloc (.cells #[.int .i64 B1, .int .i64 B2] 23)) ∧ Pw (w7.alloc (.cells #[.int .i64 B1, .int .i64 B2] 23)) B F (.iface qi qy) ∧ Blk (w7.alloc (.cells #[.int .i64 B1, .int .i64 B2] 23)) w6.heap.size #[.int .i64 A1, .int .i64 A2] 23 ∧ Blk (w7.alloc (.cells #[.int .i64 B1, .int .i64 B2] 23)) w7.heap.size #[.int .i64 B1, .int .i64 B2] 23) := by
        have hA : Below w7.heap.size w7 (w7.alloc (.cells #[.int .i64 B1, .int .i64 B2] 23)) := (Below.refl _ _).alloc (Nat.le_refl _) _
        exact ⟨(S6.out.1.below hb).below hA, (S6.out.2.1.below hb).below hA, (S6.out.2.2.below hb).below hA, Blk.new _ _ _⟩
      clear hb S6 H1
      go_upto_region 17 with fail
      generalize w7.alloc (.cells #[.int .i64 B1, .int .i64 B2] 23) = W7 at *
      generalize w7.heap.size = gb at *
      generalize w6.heap.size = ga at *
      obtain ⟨gt, hgt⟩ : ∃ gt, gt = (decide ((16384 : Int) < A1 + 2 * (S : Int)) || decide ((16384 : Int) < A2 + 2 * (S : Int))) := ⟨_, rfl⟩
      have HGT : Hid (gt = (decide ((16384 : Int) < A1 + 2 * (S : Int)) || decide ((16384 : Int) < A2 + 2 * (S : Int)))) := hgt
      clear hgt
      go_cut [24] (fun s24 wx => wx = W7 ∧ s24 = .bool gt)
      case first =>
        have a0 := S7.out.2.2.1.cell 0
        have a1 := S7.out.2.2.1.cell 1
        by_cases d1 : (16384 : Int) < A1 + 2 * (S : Int)
        · have E : Hid (gt = true) := by show gt = true; rw [HGT.out, decide_eq_true d1]; rfl
          go_wp2_with fail
          go_meet
          exact ⟨rfl, by rw [E.out]⟩
        · by_cases d2 : (16384 : Int) < A2 + 2 * (S : Int)
          · have E : Hid (gt = true) := by show gt = true; rw [HGT.out, decide_eq_true d2, Bool.or_true]
            go_wp2_with fail
            go_meet
            exact ⟨rfl, by rw [E.out]⟩
          · have E : Hid (gt = false) := by show gt = false; rw [HGT.out, decide_eq_false d1, decide_eq_false d2]; rfl
            go_wp2_with fail
            go_meet
            exact ⟨rfl, by rw [E.out]⟩
      case rest =>
      obtain ⟨rfl, rfl⟩ := hcut
      go_upto_region 18 with fail
      go_cut [25] (fun s25 wx => wx = wc ∧ s25 = .bool true)
      case first =>
        have a0 := S7.out.2.2.1.cell 0
        have a1 := S7.out.2.2.1.cell 1
        have b0 := S7.out.2.2.2.cell 0
        have b1 := S7.out.2.2.2.cell 1
        obtain ⟨bE, hbE⟩ : ∃ bE, (E0 != 0) = bE := ⟨_, rfl⟩
        cases bE
        · cases gt
          · have hh : B1 = A1 + 2 * (S : Int) ∧ B2 = A2 + 2 * (S : Int) := by
              have g1 := HGT.out
              have z : E0 = 0 := by simpa using hbE
              rcases H3.out with h | h | h | h
              · exact absurd z h
              · rw [decide_eq_true h] at g1; simp at g1
              · rw [decide_eq_true h, Bool.or_true] at g1; simp at g1
              · exact h
            obtain ⟨rfl, rfl⟩ := hh
            go_wp2_with fail
            go_meet
            exact ⟨rfl, rfl⟩
          · go_wp2_with fail
            go_meet
            exact ⟨rfl, rfl⟩
        · go_wp2_with fail
          go_meet
          exact ⟨rfl, rfl⟩
      case rest =>
      obtain ⟨rfl, rfl⟩ := hcut
      clear H3 HGT
      have k0 := S7.out.1.k.cell 0
      have k1 := S7.out.1.k.cell 1
      have k2 := S7.out.1.k.cell 2
      have k3 := S7.out.1.k.cell 3
      have k4 := S7.out.1.k.cell 4
      have k5 := S7.out.1.k.cell 5
      have k6 := S7.out.1.k.cell 6
      have k7 := S7.out.1.k.cell 7
      have k8 := S7.out.1.k.cell 8
      have k9 := S7.out.1.k.cell 9
      have k10 := S7.out.1.k.cell 10
      have slt := S7.out.1.k.lt
      go_wp2_with fail
      have SA : Hid (PdW w lk B (.iface ti py) (wc.alloc (.cells #[.int .i64 0, .int .i64 0, .int .i64 (40 + 2 * (S : Int)), .int .i64 (30 + 2 * (S : Int))] 32)) ∧ Pw (wc.alloc (.cells #[.int .i64 0, .int .i64 0, .int .i64 (40 + 2 * (S : Int)), .int .i64 (30 + 2 * (S : Int))] 32)) B F (.iface qi qy) ∧ Blk (wc.alloc (.cells #[.int .i64 0, .int .i64 0, .int .i64 (40 + 2 * (S : Int)), .int .i64 (30 + 2 * (S : Int))] 32)) wc.heap.size #[.int .i64 0, .int .i64 0, .int .i64 (40 + 2 * (S : Int)), .int .i64 (30 + 2 * (S : Int))] 32) := by
        have hA : Below wc.heap.size wc (wc.alloc (.cells #[.int .i64 0, .int .i64 0, .int .i64 (40 + 2 * (S : Int)), .int .i64 (30 + 2 * (S : Int))] 32)) := (Below.refl _ _).alloc (Nat.le_refl _) _
        exact ⟨S7.out.1.below hA, S7.out.2.1.below hA, Blk.new _ _ _⟩
      refine (H2.out.1 _ _ SA.out.1.p).mono ?_
      rintro e w8 ⟨sv, rfl, hown1, hb⟩
      have S8 : Hid (PdW w lk B (.iface ti py) w8 ∧ Pw w8 B F (.iface qi qy) ∧ Blk w8 wc.heap.size #[.int .i64 0, .int .i64 0, .int .i64 (40 + 2 * (S : Int)), .int .i64 (30 + 2 * (S : Int))] 32) := ⟨SA.out.1.below hb, SA.out.2.1.below hb, SA.out.2.2.below hb⟩
      obtain ⟨oa3, cap3, rfl, hZ, hr1⟩ := row_at hown1
      have R1 : Hid (0 < Z.length → ∃ g, oa3 = some ⟨g, 0, none⟩ ∧ g < w8.heap.size ∧ ∀ k (hk : k < Z.length) j, j < 15 → w8.cell? ⟨g, k * 15 + j, none⟩ = (Z[k]).vals[j]?) := hr1
      clear hb hown1 SA S7 hr1 k0 k1 k2 k3 k4 k5 k6 k7 k8 k9 k10 slt
      have k0 := S8.out.1.k.cell 0
      have k1 := S8.out.1.k.cell 1
      have k2 := S8.out.1.k.cell 2
      have k3 := S8.out.1.k.cell 3
      have k4 := S8.out.1.k.cell 4
      have k5 := S8.out.1.k.cell 5
      have k6 := S8.out.1.k.cell 6
      have k7 := S8.out.1.k.cell 7
      have k8 := S8.out.1.k.cell 8
      have k9 := S8.out.1.k.cell 9
      have k10 := S8.out.1.k.cell 10
      have r0 := S8.out.2.2.cell 0
      have r1 := S8.out.2.2.cell 1
      have r2 := S8.out.2.2.cell 2
      have r3 := S8.out.2.2.cell 3
      go_wp2_with fail
      refine (H2.out.2 _ _ S8.out.2.1).mono ?_
      rintro e w9 ⟨tv, rfl, hown2, hb⟩
      obtain ⟨oa4, cap4, rfl, _, hr2⟩ := row_at hown2
      have R2 : Hid (0 < Z.length → ∃ g, oa4 = some ⟨g, 0, none⟩ ∧ g < w9.heap.size ∧ ∀ k (hk : k < Z.length) j, j < 15 → w9.cell? ⟨g, k * 15 + j, none⟩ = (Z[k]).vals[j]?) := hr2
      have R3 : Hid (0 < Z.length → ∃ g, oa3 = some ⟨g, 0, none⟩ ∧ g < w9.heap.size ∧ ∀ k (hk : k < Z.length) j, j < 15 → w9.cell? ⟨g, k * 15 + j, none⟩ = (Z[k]).vals[j]?) := fun h => by
        obtain ⟨g, e1, e2, e3⟩ := R1.out h
        exact ⟨g, e1, Nat.lt_of_lt_of_le e2 hb.size, fun k hk j hj => (hb.cell (p := ⟨g, k * 15 + j, none⟩) e2).trans (e3 k hk j hj)⟩
      have S9 : Hid (PdW w lk B (.iface ti py) w9 ∧ Pw w9 B F (.iface qi qy)) := ⟨S8.out.1.below hb, S8.out.2.1.below hb⟩
      clear hb hown2 S8 hr2 R1 H2 k0 k1 k2 k3 k4 k5 k6 k7 k8 k9 k10 r0 r1 r2 r3
      go_wp2_with fail
      go_loopw [31] (fun i wr => ∃ q : Nat, q ≤ Z.length ∧ i = .int .i64 q ∧ Hid (Below w9.heap.size w9 wr)) (fun i _ => Z.length - (intOf i).toNat)
      case atStart => exact ⟨0, Nat.zero_le _, rfl, Below.refl _ _⟩
      case round =>
        obtain ⟨q, hq, rfl, HB⟩ := hrel
        by_cases hlt : q < Z.length
        · as_aux_lemma =>
            obtain ⟨g1, rfl, gl1, h1⟩ := R3.out (by omega)
            obtain ⟨g2, rfl, gl2, h2⟩ := R2.out (by omega)
            have ik : (q : Int) < (Z.length : Int) := by omega
            have HQ : Hid (q < Z.length ∧ Z.length ≤ 9223372036854775807) := ⟨hlt, hZ⟩
            have hneq := fun w => neq_self Z[q] w
            unfold skV at hneq
            have x1 := fun (t : Gw wr) j (hj : j < 15) => (t.below.cell (p := ⟨g1, q * 15 + j, none⟩) (Nat.lt_of_lt_of_le gl1 HB.out.size)).trans ((HB.out.cell (p := ⟨g1, q * 15 + j, none⟩) gl1).trans (h1 q hlt j hj))
            have x2 := fun (t : Gw wr) j (hj : j < 15) => (t.below.cell (p := ⟨g2, q * 15 + j, none⟩) (Nat.lt_of_lt_of_le gl2 HB.out.size)).trans ((HB.out.cell (p := ⟨g2, q * 15 + j, none⟩) gl2).trans (h2 q hlt j hj))
            clear h1 h2 R2 R3
            generalize Z[q] = x at *
            go_upto_region 27 with fail
            have ne : Nonempty (Gw wr) := ⟨⟨wr, Below.refl _ _⟩⟩
            have a1_0 := fun t : Gw wr => x1 t 0 (by decide)
            have a1_1 := fun t : Gw wr => x1 t 1 (by decide)
            have a1_2 := fun t : Gw wr => x1 t 2 (by decide)
            have a1_3 := fun t : Gw wr => x1 t 3 (by decide)
            have a1_4 := fun t : Gw wr => x1 t 4 (by decide)
            have a1_5 := fun t : Gw wr => x1 t 5 (by decide)
            have a1_6 := fun t : Gw wr => x1 t 6 (by decide)
            have a1_7 := fun t : Gw wr => x1 t 7 (by decide)
            have a1_8 := fun t : Gw wr => x1 t 8 (by decide)
            have a1_9 := fun t : Gw wr => x1 t 9 (by decide)
            have a1_10 := fun t : Gw wr => x1 t 10 (by decide)
            have a1_11 := fun t : Gw wr => x1 t 11 (by decide)
            have a1_12 := fun t : Gw wr => x1 t 12 (by decide)
            have a1_13 := fun t : Gw wr => x1 t 13 (by decide)
            have a1_14 := fun t : Gw wr => x1 t 14 (by decide)
            have a2_0 := fun t : Gw wr => x2 t 0 (by decide)
            have a2_1 := fun t : Gw wr => x2 t 1 (by decide)
            have a2_2 := fun t : Gw wr => x2 t 2 (by decide)
            have a2_3 := fun t : Gw wr => x2 t 3 (by decide)
            have a2_4 := fun t : Gw wr => x2 t 4 (by decide)
            have a2_5 := fun t : Gw wr => x2 t 5 (by decide)
            have a2_6 := fun t : Gw wr => x2 t 6 (by decide)
            have a2_7 := fun t : Gw wr => x2 t 7 (by decide)
            have a2_8 := fun t : Gw wr => x2 t 8 (by decide)
            have a2_9 := fun t : Gw wr => x2 t 9 (by decide)
            have a2_10 := fun t : Gw wr => x2 t 10 (by decide)
            have a2_11 := fun t : Gw wr => x2 t 11 (by decide)
            have a2_12 := fun t : Gw wr => x2 t 12 (by decide)
            have a2_13 := fun t : Gw wr => x2 t 13 (by decide)
            have a2_14 := fun t : Gw wr => x2 t 14 (by decide)
            simp only [Sk.vals, Nat.add_zero, List.getElem?_cons_zero, List.getElem?_cons_succ] at a1_0 a1_1 a1_2 a1_3 a1_4 a1_5 a1_6 a1_7 a1_8 a1_9 a1_10 a1_11 a1_12 a1_13 a1_14 a2_0 a2_1 a2_2 a2_3 a2_4 a2_5 a2_6 a2_7 a2_8 a2_9 a2_10 a2_11 a2_12 a2_13 a2_14
            clear x1 x2
            refine wp_region_gw (by kernel_rfl) (by kernel_rfl) ?_
            repeat (go_big_quiet_step (first | fail))
            refine wpQuiet_nil ?_
            rintro _ ⟨t', rfl⟩
            have HB2 : Hid (Below w9.heap.size w9 t'.wd) := HB.out.trans (t'.below.mono HB.out.size)
            go_wp2
            go_roundw
            case rel => exact ⟨q + 1, by have := HQ.out; omega, by have := HQ.out; go_num, HB2.out⟩
            case measure => have := HQ.out; simp [intOf]; omega
        · as_aux_lemma =>
            obtain rfl : q = Z.length := by omega
            have ik : ¬ (Z.length : Int) < (Z.length : Int) := by omega
            have P0 := S9.out.1.p.below HB.out
            have Q0 := S9.out.2.below HB.out
            have HLn : Hid (Below w.heap.size w wr) := S9.out.1.b.trans (HB.out.mono S9.out.1.b.size)
            obtain ⟨c1, c2, c3, c4, c5, c6, c7⟩ := H4.out
            have hop := P0.holds7 wr
            have hoq := Q0.holds7 wr
            rw [c1] at hoq
            obtain ⟨i2, y2, kf, kr, hv2, hkm, hke, hkc⟩ := P0.kindM
            obtain ⟨rfl, rfl⟩ : ti = i2 ∧ py = y2 := by cases hv2; exact ⟨rfl, rfl⟩
            obtain ⟨i3, y3, nf, nr, hv3, hnm2, hne, hnc⟩ := P0.nameM
            obtain ⟨rfl, rfl⟩ : ti = i3 ∧ py = y3 := by cases hv3; exact ⟨rfl, rfl⟩
            obtain ⟨i4, y4, kf', kr', hv4, hkm', hke', hkc'⟩ := Q0.kindM
            obtain ⟨rfl, rfl⟩ : qi = i4 ∧ qy = y4 := by cases hv4; exact ⟨rfl, rfl⟩
            obtain ⟨i5, y5, nf', nr', hv5, hnm', hne', hnc'⟩ := Q0.nameM
            obtain ⟨rfl, rfl⟩ : qi = i5 ∧ qy = y5 := by cases hv5; exact ⟨rfl, rfl⟩
            rw [c5] at hnc
            rw [c2] at hkc'
            rw [c3] at hnc'
            clear hv2 hv3 hv4 hv5 P0 Q0 c1 c2 c3 c4 c5 c6 c7 H4 S9 HB R2 R3 hlt hq
            generalize kindL B [] = kk at *
            generalize canL B [] = cc at *
            go_wp2_with fail
            refine hnc.mono ?_
            rintro e v1 ⟨rfl, rfl⟩
            go_wp2_with fail
            refine hkc.mono ?_
            rintro e v2 ⟨rfl, rfl⟩
            go_wp2_with fail
            refine hkc.mono ?_
            rintro e v3 ⟨rfl, rfl⟩
            go_wp2_with fail
            refine hnc'.mono ?_
            rintro e v4 ⟨rfl, rfl⟩
            go_wp2_with fail
            refine hkc'.mono ?_
            rintro e v5 ⟨rfl, rfl⟩
            go_wp2_with fail
            refine hkc.mono ?_
            rintro e v6 ⟨rfl, rfl⟩
            go_wp2_with fail
            refine hoq.mono ?_
            rintro e v7 ⟨rfl, rfl⟩
            go_wp2_with fail
            refine hop.mono ?_
            rintro e v8 ⟨rfl, rfl⟩
            go_wp2
            go_ret
            exact ⟨rfl, HLn.out⟩

theorem pads_walk (k : Nat) (t nm : ByteArray) (ps : List Nat) (v : Value) (lk : Lk) (w : World) (T : Tbs w) (hk8 : k < 256) (hv : Bys w v ps) (hp : ∀ p ∈ ps, p < 256) (hnm : nm.size ≤ 9223372036854775807) :
    Calls Tryz.prog 6 #[.int .u8 (k : Nat), .string t, v, .string nm, (Value.agg #[.int .u8 (lk.has : Nat), .int .u8 lk.r, .int .u8 lk.g, .int .u8 lk.b, .int .u8 lk.a, .int .u8 lk.r2, .int .u8 lk.g2, .int .u8 lk.b2, .int .u8 lk.a2, .bool lk.bd, .int .i64 lk.pad])] w fun e w' => e = .returned (.bool true) ∧ Below w.heap.size w w' := by
  cases ht : txB t 65536
  · exact pads_bad k hk8 t nm ps v lk w T hv ht
  · by_cases hn : ps.length ≤ 15
    · exact pads_ok k hk8 t nm ps v lk w T hv ht hn hp hnm
    · exact pads_big k hk8 t nm ps v lk w T hv ht (by omega)

end Go.Proofs.YtbnbfgkcndomaabGreatDoor
