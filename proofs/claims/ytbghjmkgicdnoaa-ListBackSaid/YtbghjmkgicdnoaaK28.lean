/-
  Texts of this claim, one behind the other: what each is about stands ahead of it.
-/
import Derived.Test.YtbghjmkgicdnoaaK14
import Derived.Test.YtbghjmkgicdnoaaK23
import Derived.Laws.OwnMore
import Derived.WalkMore
import Derived.ScopeJumps
import Derived.Test.YtbghjmkgicdnoaaK18
import Derived.Test.YtbghjmkgicdnoaaK13
/-
  Contracts of package list: a list without idle pairs.
-/
namespace Go.Proofs.Ytbghjmkgicdnoaa
open Go.RowKit

/-- Does a stroke close the clip that ends what is ahead of it? -/
def cloB (K : List St) (s : St) : Bool := (s.k == 5) && (match K.getLast? with | some c => c.k == 4 | none => false)

set_option maxRecDepth 10000 in
set_option maxHeartbeats 2000000 in
theorem closes_any (K : List St) (oa : Option Addr) (m cap : Nat) (s : St) (w : World) (hm : m = K.length) (hK : ∀ c, K.getLast? = some c → ∃ g, oa = some ⟨g, 0, none⟩ ∧ g < w.heap.size ∧ w.cell? ⟨g, (m - 1) * 15, none⟩ = some (.int .u8 c.k)) (hmc : m ≤ cap) (hmb : m ≤ 100000) :
    Calls Try.prog 69 #[.slice oa m cap, (Value.agg #[.int .u8 s.k, .int .i64 s.r.x, .int .i64 s.r.y, .int .i64 s.r.w, .int .i64 s.r.h, .int .u8 s.c.r, .int .u8 s.c.g, .int .u8 s.c.b, .int .u8 s.c.a, .int .u8 s.b.r, .int .u8 s.b.g, .int .u8 s.b.b, .int .u8 s.b.a, .string s.t, .int .i64 s.n])] w fun e w' => e = .returned (.bool (cloB K s)) ∧ Below w.heap.size w w' := by
  have HL : Hid (∀ c, Below w.heap.size w (w.alloc c)) := fun c => (Below.refl _ w).alloc (Nat.le_refl _) _
  unfold cloB
  by_cases h5 : s.k = 5
  · rcases List.eq_nil_or_concat K with rfl | ⟨L, c, rfl⟩
    · obtain rfl : m = 0 := hm
      have e : ((s.k == 5) && (match ([] : List St).getLast? with | some c => c.k == 4 | none => false)) = false := by simp
      rw [e]
      clear hK e
      go_enter Try.func69, Try.ntmps69
      go_wp2
      go_ret
      exact ⟨rfl, HL.out _⟩
    · obtain ⟨g, rfl, hg, hc⟩ := hK c (by simp)
      have hm0 : 0 < m := by rw [hm]; simp
      obtain ⟨p, hp⟩ : ∃ p, p = m - 1 := ⟨_, rfl⟩
      have z1 : (m : Int) - 1 = (p : Int) := by omega
      have z2 : (p : Int) < (m : Int) := by omega
      have z3 : p < m := by omega
      have z4 : (0 : Int) < (m : Int) := by omega
      have z5 : p ≤ 100000 := by omega
      have e : ((s.k == 5) && (match (L.concat c).getLast? with | some c => c.k == 4 | none => false)) = (c.k == 4) := by simp [h5]
      rw [e]
      rw [← hp] at hc
      clear hK e hm hp
      go_enter Try.func69, Try.ntmps69
      go_wp2
      go_ret
      exact ⟨rfl, HL.out _⟩
  · have h5' : (s.k == 5) = false := beq_eq_false_iff_ne.2 h5
    rw [h5', Bool.false_and]
    clear hK h5 hm
    go_enter Try.func69, Try.ntmps69
    go_wp2
    go_ret
    exact ⟨rfl, HL.out _⟩

theorem flatZ_set : ∀ (M : List St) (m : Nat) (_ : m < M.length) (y : St), flatZ (M.set m y) = (flatZ M).take (m * 15) ++ sCel y ++ (flatZ M).drop (m * 15 + 15)
  | [], m, h, _ => absurd h (Nat.not_lt_zero _)
  | s :: M, 0, _, y => by
    show sCel y ++ flatZ M = _
    rw [Nat.zero_mul, List.take_zero, List.nil_append, Nat.zero_add]
    show sCel y ++ flatZ M = sCel y ++ (sCel s ++ flatZ M).drop 15
    rw [List.drop_left' (sCel_len s)]
  | s :: M, m + 1, h, y => by
    have h' : m < M.length := by simpa using h
    show sCel s ++ flatZ (M.set m y) = (sCel s ++ flatZ M).take ((m + 1) * 15) ++ sCel y ++ (sCel s ++ flatZ M).drop ((m + 1) * 15 + 15)
    rw [flatZ_set M m h' y, List.take_append, List.drop_append, sCel_len]
    rw [List.take_of_length_le (l := sCel s) (by rw [sCel_len]; omega), List.drop_of_length_le (l := sCel s) (by rw [sCel_len]; omega), List.nil_append]
    rw [show (m + 1) * 15 - 15 = m * 15 by omega, show (m + 1) * 15 + 15 - 15 = m * 15 + 15 by omega]
    simp only [List.append_assoc]

theorem take_mid (X Y : List Value) (a b : Nat) (hX : a ≤ X.length) (hY : Y.length = 15) (hab : a + 15 ≤ b) : (X.take a ++ Y ++ X.drop (a + 15)).take b = X.take a ++ Y ++ (X.drop (a + 15)).take (b - (a + 15)) := by
  have hl : (X.take a ++ Y).length = a + 15 := by rw [List.length_append, List.length_take, hY]; omega
  rw [List.take_append, hl, List.take_of_length_le (l := X.take a ++ Y) (by omega)]
/-- A stroke laid behind a part of a row that has more behind it. -/
theorem app_in {P : Program} {w : World} {ops : Array Oper} {rest : List Oper} {o : Oper} {a : Act} {Q : Exit → Act → World → Prop} (hgd : o.guard = none) (s x : Operand)
    (ho : o.op = .call { callee := .builtin .append, args := #[s, x], argTypes := #[36, 36] })
    (i : TypeInfo) (ht : P.underlying 36 = some (.slice 31)) (hi : P.info? 31 = some i) (hsize : i.size = 15)
    (lo g m n cap : Nat) (M : List St) (hs : a.eval s = .slice (some ⟨g, 0, none⟩) m cap) (hown : w.ownsRow lo 31 15 (.slice (some ⟨g, 0, none⟩) n cap) n (flatZ M)) (hM : M.length = n) (hmn : m < n)
    (ad : Addr) (c : Nat) (y : St) (hx : a.eval x = .slice (some ad) 1 c) (hc : ∀ j u, (sCel y)[j]? = some u → w.cell? (ad.add j) = some u)
    (hK : ∀ w', Hid (w'.ownsRow lo 31 15 (.slice (some ⟨g, 0, none⟩) n cap) n (flatZ (M.set m y)) ∧ w.grownBy w' (some g)) → wpList P ops Q rest (a.put o.dst (.slice (some ⟨g, 0, none⟩) (m + 1) cap)) w') : wpList P ops Q (o :: rest) a w := by
  obtain ⟨hl, ⟨h, _⟩ | ⟨g', cap', cur, h, hb, hcu, h1, h2, h3, h4⟩⟩ := hown
  · cases h
  · injection h with e1 _ e3
    injection e1 with e1
    injection e1 with e1 _ _
    subst e1 e3
    have hcur : (cur.toList).length = cap * 15 := by rw [Array.length_toList]; exact h3
    have hr := run_append_room (P := P) w 36 o.type 31 i ht hi g m cap cur hcu ad 1 c (sCel y) (by rw [hsize]; rfl) hc (oneZ y) (by omega) (by rw [hsize, sCel_len]; rw [← Array.length_toList, hcur]; omega)
    rw [hsize, sCel_len] at hr
    refine wpList_plain hgd fun K hK' => ?_
    unfold Oper.wp
    simp [execOp, ho, resolve, invoke, builtin, hs, hx, hr, Result.andThen]
    refine hK' _ _ (hK _ ⟨⟨by rw [flatZ_len, List.length_set, hM], .inr ⟨g, cap, _, rfl, hb, setRow_heap w g cur _ 31 _ hcu, h1, h2, ?_, ?_⟩⟩, ⟨rfl, rfl, rfl, by simp, fun k _ hk => setRow_other w g k _ (fun e => hk (by simp [e]))⟩⟩)
    · simp only [List.size_toArray, List.length_append, List.length_take, List.length_drop, hcur, sCel_len]
      omega
    · show List.take (n * 15) (List.take (m * 15) cur.toList ++ (sCel y ++ List.drop (m * 15 + 15) cur.toList)) = _
      rw [← List.append_assoc, flatZ_set M m (by omega) y, ← h4, take_mid _ _ _ _ (by rw [hcur]; omega) (sCel_len y) (by omega), List.take_take, List.drop_take, show min (m * 15) (n * 15) = m * 15 by omega]

end Go.Proofs.Ytbghjmkgicdnoaa

/-
  Package list's own ways in plain words: the lowest clip is all places; pieces that may be empty; what opaque Fills hide, the last stroke first.
-/
namespace Go.Proofs.Ytbghjmkgicdnoaa

theorem me_nil {a b : Rc} (h : zEm a = true ∨ zEm b = true) : zMe a b = zr := by
  unfold zMe meetR
  unfold zEm at h
  rw [if_pos (by rcases h with h | h <;> rw [h] <;> simp)]
theorem me_btw {a b : Rc} (ha : zEm a = false) (hb : zEm b = false) : zMe a b = btw (max a.x b.x) (max a.y b.y) (min (a.x + a.w) (b.x + b.w)) (min (a.y + a.h) (b.y + b.h)) := by
  unfold zMe meetR
  unfold zEm at ha hb
  rw [ha, hb]
  rfl
theorem em_zr : zEm zr = true := by decide +kernel
theorem em_mk {r : Rc} (h1 : -16384 ≤ r.x) (h2 : -16384 ≤ r.y) (h3 : r.x + r.w ≤ 16384) (h4 : r.y + r.h ≤ 16384) (h5 : 0 < r.w) (h6 : 0 < r.h) : zEm r = false := by
  unfold zEm emptyB
  rw [may_iff.2 ⟨⟨by omega, by omega, by omega⟩, by omega, by omega, by omega⟩]
  simp
  omega
theorem em_bd {r : Rc} (h : zEm r = false) : -16384 ≤ r.x ∧ -16384 ≤ r.y ∧ r.x + r.w ≤ 16384 ∧ r.y + r.h ≤ 16384 ∧ 0 < r.w ∧ 0 < r.h := by
  have := bounds_of h
  omega
theorem me_em {a b : Rc} (h : zEm (zMe a b) = true) : zMe a b = zr := by
  cases ha : zEm a
  · cases hb : zEm b
    · rw [me_btw ha hb] at h ⊢
      obtain ⟨a1, a2, a3, a4, a5, a6⟩ := em_bd ha
      obtain ⟨b1, b2, b3, b4, b5, b6⟩ := em_bd hb
      unfold btw at h ⊢
      split at h
      · next hc => rw [if_pos hc]
      · next hc =>
        rw [em_mk (by simp only; omega) (by simp only; omega) (by simp only; omega) (by simp only; omega) (by simp only; omega) (by simp only; omega)] at h
        cases h
    · exact me_nil (.inr hb)
  · exact me_nil (.inl ha)
theorem me_turn (a b : Rc) : zMe a b = zMe b a := by
  cases ha : zEm a
  · cases hb : zEm b
    · rw [me_btw ha hb, me_btw hb ha]
      congr 1 <;> omega
    · rw [me_nil (.inr hb), me_nil (.inl hb)]
  · rw [me_nil (.inl ha), me_nil (.inr ha)]

/-- All places. -/
def evR : Rc := ⟨-16384, -16384, 32768, 32768⟩
theorem ev_em : zEm evR = false := by decide +kernel
def topP (cs : List Rc) : Rc :=
  match cs with
  | [] => evR
  | c :: _ => c
theorem shR_top {cs : List Rc} {s : St} : shR cs s = zMe s.r (topP cs) := by
  cases cs with
  | nil =>
    show (if zEm s.r = true then zr else s.r) = zMe s.r evR
    cases h : zEm s.r
    · rw [me_btw h ev_em]
      obtain ⟨a1, a2, a3, a4, a5, a6⟩ := em_bd h
      have e1 : max s.r.x evR.x = s.r.x := by unfold evR; simp only; omega
      have e2 : max s.r.y evR.y = s.r.y := by unfold evR; simp only; omega
      have e3 : min (s.r.x + s.r.w) (evR.x + evR.w) = s.r.x + s.r.w := by unfold evR; simp only; omega
      have e4 : min (s.r.y + s.r.h) (evR.y + evR.h) = s.r.y + s.r.h := by unfold evR; simp only; omega
      rw [e1, e2, e3, e4, btw_yes (by omega) (by omega)]
      simp only [Bool.false_eq_true, if_false]
      have f1 : s.r.x + s.r.w - s.r.x = s.r.w := by omega
      have f2 : s.r.y + s.r.h - s.r.y = s.r.h := by omega
      rw [f1, f2]
    · rw [me_nil (.inl h)]
      simp
  | cons c t =>
    show (if zEm (zMe s.r c) = true then zr else zMe s.r c) = zMe s.r c
    cases h : zEm (zMe s.r c)
    · simp
    · rw [me_em h]
      simp
theorem shR_em {cs : List Rc} {s : St} (h : zEm (shR cs s) = false) : zEm s.r = false := by
  cases e : zEm s.r
  · rfl
  · rw [shR_top, me_nil (.inl e), em_zr] at h
    cases h
theorem shR_may (cs : List Rc) (s : St) : zMa (shR cs s) = true := by
  cases e : zEm (shR cs s)
  · unfold zEm at e
    unfold zMa
    exact may_of e
  · rw [shR_top] at e ⊢
    rw [me_em e]
    decide +kernel

/-- What a stroke draws of the rectangle in which it shows, with pieces that are empty. -/
def brdL (f r : Rc) : List Rc := [zMe r ⟨f.x, f.y, f.w, 1⟩, zMe r ⟨f.x, f.y, 1, f.h⟩, zMe r ⟨f.x + f.w - 1, f.y, 1, f.h⟩, zMe r ⟨f.x, f.y + f.h - 1, f.w, 1⟩]
def dwnL (s : St) (r : Rc) : List Rc := if s.k = 1 ∧ 0 < s.c.a ∨ s.k = 3 ∧ s.t.size ≠ 0 then [r] else if s.k = 2 ∧ 0 < s.c.a then brdL s.r r else []
theorem side_btw {f : Rc} (h : zEm f = false) : sidR f = [⟨f.x, f.y, f.w, 1⟩, ⟨f.x, f.y, 1, f.h⟩, ⟨f.x + f.w - 1, f.y, 1, f.h⟩, ⟨f.x, f.y + f.h - 1, f.w, 1⟩] := by
  obtain ⟨a1, a2, a3, a4, a5, a6⟩ := em_bd h
  unfold sidR
  rw [btw_yes (by omega) (by omega), btw_yes (by omega) (by omega), btw_yes (by omega) (by omega), btw_yes (by omega) (by omega)]
  have e1 : f.x + f.w - f.x = f.w := by omega
  have e2 : f.y + 1 - f.y = 1 := by omega
  have e3 : f.x + 1 - f.x = 1 := by omega
  have e4 : f.y + f.h - f.y = f.h := by omega
  have e5 : f.x + f.w - (f.x + f.w - 1) = 1 := by omega
  have e6 : f.y + f.h - (f.y + f.h - 1) = 1 := by omega
  rw [e1, e2, e3, e4, e5, e6]
theorem dwn_plc {s : St} {r : Rc} (hk : s.k = 1 ∨ s.k = 2 ∨ s.k = 3 ∨ s.k = 4 ∨ s.k = 5) (hc : 0 ≤ s.c.a) (hr : zEm r = false → zEm s.r = false) : (dwnL s r).filter (fun q => !zEm q) = plc s r := by
  unfold dwnL plc noP drw
  cases he : zEm r
  · have hs := hr he
    rcases hk with k | k | k | k | k
    · by_cases ha : s.c.a = 0
      · simp [k, ha]
      · have : 0 < s.c.a := by omega
        simp [k, ha, this, he]
    · by_cases ha : s.c.a = 0
      · simp [k, ha]
      · have h0 : 0 < s.c.a := by omega
        have e : brdL s.r r = (sidR s.r).map (fun q => zMe q r) := by
          rw [side_btw hs]
          unfold brdL
          simp only [List.map_cons, List.map_nil]
          rw [me_turn r, me_turn r, me_turn r, me_turn r]
        rw [if_neg (by omega), if_pos ⟨k, h0⟩, e]
        simp [k, ha]
    · by_cases ht : s.t.size = 0
      · simp [k, ht]
      · simp [k, ht, he]
    · simp [k]
    · simp [k]
  · have hb : (brdL s.r r).filter (fun q => !zEm q) = [] := by
      unfold brdL
      rw [me_nil (.inl he), me_nil (.inl he), me_nil (.inl he), me_nil (.inl he)]
      simp [em_zr]
    simp only [Bool.true_or, if_true]
    split
    · simp [he]
    · split
      · exact hb
      · rfl
theorem dwn_len (s : St) (r : Rc) : (dwnL s r).length ≤ 4 := by
  unfold dwnL
  split
  · simp
  · split
    · simp [brdL]
    · simp

end Go.Proofs.Ytbghjmkgicdnoaa

/-
  Contracts of package list: the rectangles in which strokes show.
-/
namespace Go.Proofs.Ytbghjmkgicdnoaa
open Go.RowKit

theorem flat_rep (n : Nat) : flat (List.replicate n zr) = List.replicate (n * 4) (.int .i64 0) := by
  induction n with
  | zero => rfl
  | succ n ih =>
    rw [List.replicate_succ, show (n + 1) * 4 = n * 4 + 1 + 1 + 1 + 1 by omega, List.replicate_succ, List.replicate_succ, List.replicate_succ, List.replicate_succ]
    show cel zr ++ flat (List.replicate n zr) = _
    rw [ih]
    rfl
set_option maxRecDepth 20000 in
theorem make_rcs (n : Nat) (hn : n < 1000000) (w : World) : (Instr.makeSlice 39 (.int .i64 (n : Nat)) (.int .i64 (n : Nat))).run Try.prog w = .ok (.slice (some ⟨w.heap.size, 0, none⟩) n n) (w.alloc (.cells (flat (List.replicate n zr)).toArray 27)) := by
  obtain ⟨i0, hi, hz0, hz1, hz2⟩ := info_parts info_rect
  have h := run_make (P := Try.prog) w 39 27 i0 (.agg #[.int .i64 0, .int .i64 0, .int .i64 0, .int .i64 0]) Try.underlying39 hi hz0 .i64 .i64 (n : Int) (n : Int) (by omega) (Int.le_refl _) (by rw [hz2]; omega) (by omega)
  simp only [Int.toNat_natCast, hz1] at h
  rw [h, flat_rep]
  congr 3
  refine Array.ext (by simp [size_madeCells]) fun i h1 h2 => ?_
  have h3 : i % 4 < 4 := Nat.mod_lt _ (by omega)
  simp [madeCells, Value.cells]
  generalize i % 4 = j at h3
  match j, h3 with
  | 0, _ => rfl
  | 1, _ => rfl
  | 2, _ => rfl
  | 3, _ => rfl
theorem own_new {lo : Nat} {w : World} {n : Nat} {L : List Rc} (hl : L.length = n) (hlo : lo ≤ w.heap.size) (hn : n < 1000000) : OwR lo (w.alloc (.cells (flat L).toArray 27)) (.slice (some ⟨w.heap.size, 0, none⟩) n n) L := by
  refine ⟨flat_len L, .inr ⟨w.heap.size, n, (flat L).toArray, by rw [hl], hlo, Bk.new _ _ _, by omega, by unfold maxLen; omega, by simp [flat_len, hl], ?_⟩⟩
  rw [hl]
  simp only []
  exact List.take_of_length_le (by rw [flat_len, hl]; exact Nat.le_refl _)
/-- A rectangle in a row, written over. -/
theorem flat_put : ∀ (L : List Rc) (k : Nat) (_ : k < L.length) (r : Rc), ((((flat L).set (k * 4) (.int .i64 r.x)).set (k * 4 + 1) (.int .i64 r.y)).set (k * 4 + 2) (.int .i64 r.w)).set (k * 4 + 3) (.int .i64 r.h) = flat (L.set k r)
  | [], k, h, _ => absurd h (Nat.not_lt_zero _)
  | s :: L, 0, _, r => by
    show ((((cel s ++ flat L).set 0 _).set 1 _).set 2 _).set 3 _ = _
    rfl
  | s :: L, k + 1, h, r => by
    have h' : k < L.length := by simpa using h
    have ih := flat_put L k h' r
    have e : ∀ (X : List Value) (j : Nat) (v : Value), (cel s ++ X).set ((k + 1) * 4 + j) v = cel s ++ X.set (k * 4 + j) v := fun X j v => by
      have hc : (cel s).length = 4 := rfl
      rw [List.set_append_right _ _ (by rw [hc]; omega), hc]
      congr 2
      omega
    have e0 := fun X v => e X 0 v
    simp only [Nat.add_zero] at e0
    show ((((cel s ++ flat L).set ((k + 1) * 4) _).set ((k + 1) * 4 + 1) _).set ((k + 1) * 4 + 2) _).set ((k + 1) * 4 + 3) _ = _
    rw [e0, e, e, e, ih]
    rfl

set_option maxHeartbeats 1000000 in
theorem every_any (w : World) : Calls Try.prog 77 #[] w fun e w' => e = .returned (.agg #[.int .i64 (-16384), .int .i64 (-16384), .int .i64 32768, .int .i64 32768]) ∧ Below w.heap.size w w' := by
  have HL : Hid (∀ c, Below w.heap.size w (w.alloc c)) := fun c => (Below.refl _ w).alloc (Nat.le_refl _) _
  have B := fun c => Bk.new w #[.int .i64 (-16384), .int .i64 (-16384), .int .i64 32768, c] 27
  go_enter Try.func77, Try.ntmps77
  go_wp2
  exact bodyPost_ret (v := .agg #[.int .i64 (-16384), .int .i64 (-16384), .int .i64 32768, .int .i64 32768]) (by simp [results, Try.results77, go_sem]) rfl ⟨rfl, HL.out _⟩

/-- The rectangles while they are told, one by one. -/
def rowS (l : List St) (k : Nat) : List Rc := ((ann [] l).map Prod.snd).take k ++ List.replicate (l.length - k) zr
theorem rowS_len (l : List St) (k : Nat) (h : k ≤ l.length) : (rowS l k).length = l.length := by
  unfold rowS
  rw [List.length_append, List.length_take, List.length_map, ann_len, List.length_replicate]
  omega
theorem rowS_next {l : List St} {k : Nat} {cs : List Rc} (h : k < l.length) (hd : (ann [] l).drop k = ann cs (l.drop k)) (he : clpE cs.length (l.drop k) = 0) : (rowS l k).set k (shR cs l[k]) = rowS l (k + 1) := by
  obtain ⟨h1, _⟩ := sh_next h hd he
  unfold rowS
  rw [h1]
  have e : (((ann [] l).map Prod.snd).take k).length = k := by rw [List.length_take, List.length_map, ann_len]; omega
  rw [List.set_append_right _ _ (by omega), e, Nat.sub_self, show l.length - k = (l.length - (k + 1)) + 1 by omega, List.replicate_succ, List.set_cons_zero, List.append_assoc]
  rfl
theorem rowS_same {l : List St} {k : Nat} {cs : List Rc} (h : k < l.length) (hd : (ann [] l).drop k = ann cs (l.drop k)) (he : clpE cs.length (l.drop k) = 0) (hz : shR cs l[k] = zr) : rowS l k = rowS l (k + 1) := by
  rw [← rowS_next h hd he, hz]
  unfold rowS
  have e : (((ann [] l).map Prod.snd).take k).length = k := by rw [List.length_take, List.length_map, ann_len]; omega
  rw [List.set_append_right _ _ (by omega), e, Nat.sub_self, show l.length - k = (l.length - (k + 1)) + 1 by omega, List.replicate_succ, List.set_cons_zero]
theorem shR_open {cs : List Rc} {s : St} (h1 : oneE s = 0) (h5 : s.k = 5) : shR cs s = zr := by
  obtain ⟨_, _, hf⟩ := oneE_zero h1
  have hz : zZr s.r = true := by
    unfold wroF at hf
    simp [h5] at hf
    exact hf.2.2
  have e : s.r = zr := rc_of_eqB (q := zr) hz
  rw [shR_top, e, me_nil (.inl em_zr)]
/-- What lies there while the rectangles are told. -/
structure ShP (w : World) (l : List St) (k : Nat) (cs : List Rc) (u v : Value) (W : World) : Prop where
  o : OwR w.heap.size W u (rowS l k)
  c : OwR w.heap.size W v (evR :: cs.reverse)
  a : Apt u v
  b : Below w.heap.size w W
  d : (ann [] l).drop k = ann cs (l.drop k)
  e : clpE cs.length (l.drop k) = 0
  m : ∀ c ∈ cs, zMa c = true
theorem ShP.below {w : World} {l : List St} {k : Nat} {cs : List Rc} {u v : Value} {W W' : World} (h : ShP w l k cs u v W) (hb : Below W.heap.size W W') : ShP w l k cs u v W' := ⟨h.o.below hb, h.c.below hb, h.a, h.b.trans (hb.mono h.b.size), h.d, h.e, h.m⟩
theorem own_top {lo : Nat} {w : World} {gc n cc : Nat} {cs : List Rc} (hn : n = cs.length) (h : OwR lo w (.slice (some ⟨gc, 0, none⟩) (n + 1) cc) (evR :: cs.reverse)) : RcAt w gc (n * 4) (topP cs) := by
  have hl : (evR :: cs.reverse).length = n + 1 := by simp [hn]
  unfold OwR at h
  rw [hl] at h
  have hk : n < (evR :: cs.reverse).length := by omega
  have e : (evR :: cs.reverse)[n] = topP cs := by
    subst hn
    cases cs with
    | nil => rfl
    | cons c t => simp [topP]
  obtain ⟨f0, f1, f2, f3⟩ := flat_at (evR :: cs.reverse) n hk
  rw [e] at f0 f1 f2 f3
  exact ⟨(own_cell h _ (by omega)).trans f0, (own_cell h _ (by omega)).trans f1, (own_cell h _ (by omega)).trans f2, (own_cell h _ (by omega)).trans f3⟩
theorem i64_near {x : Int} (h : -16384 ≤ x ∧ x ≤ 16384) : I64 x := by unfold I64; omega
theorem top_i64 {cs : List Rc} (h : ∀ c ∈ cs, zMa c = true) : I64 (topP cs).x ∧ I64 (topP cs).y := by
  cases cs with
  | nil => exact ⟨i64_near (show -16384 ≤ (-16384 : Int) ∧ (-16384 : Int) ≤ 16384 by omega), i64_near (show -16384 ≤ (-16384 : Int) ∧ (-16384 : Int) ≤ 16384 by omega)⟩
  | cons c t =>
    have := may_bd (h c (by simp))
    exact ⟨i64_near ⟨this.1, this.2.1⟩, i64_near ⟨this.2.2.1, this.2.2.2.1⟩⟩

end Go.Proofs.Ytbghjmkgicdnoaa

/-
  Contracts of package list: the rectangles in which strokes show, told.
-/
namespace Go.Proofs.Ytbghjmkgicdnoaa
open Go.RowKit

theorem ob_trans {w W W' : World} {r : Option Nat} (h : w.grownBy W r) (k : W.grownBy W' r) : w.grownBy W' r :=
  ⟨k.os.trans h.os, k.tape.trans h.tape, k.output.trans h.output, Nat.le_trans h.size k.size, fun b hb hr => (k.block b (Nat.lt_of_lt_of_le hb h.size) hr).trans (h.block b hb hr)⟩
theorem ob_set (w : World) (g o : Nat) (v : Value) : w.grownBy (w.setCell ⟨g, o, none⟩ v) (some g) :=
  ⟨rfl, rfl, rfl, ((Below.refl 0 w).setCell (p := ⟨g, o, none⟩) (Nat.zero_le _) v).size, fun b _ hb => Below.heap_setCell _ _ _ b (fun e => hb (by rw [e]))⟩
theorem ob_set4 (w : World) (g o : Nat) (a b c d : Value) : w.grownBy ((((w.setCell ⟨g, o, none⟩ a).setCell ⟨g, o + 1, none⟩ b).setCell ⟨g, o + 2, none⟩ c).setCell ⟨g, o + 3, none⟩ d) (some g) :=
  ob_trans (ob_trans (ob_trans (ob_set _ _ _ _) (ob_set _ _ _ _)) (ob_set _ _ _ _)) (ob_set _ _ _ _)

set_option maxRecDepth 20000 in
set_option maxHeartbeats 8000000 in
theorem shown_any (l : List St) (v : Value) (w : World) (hv : LsS w v l) (hl : l.length ≤ 16384) (hc0 : clpE 0 l = 0) :
    Calls Try.prog 55 #[v] w fun e w' => ∃ u, e = .returned u ∧ OwR w.heap.size w' u ((ann [] l).map Prod.snd) ∧ Below w.heap.size w w' := by
  obtain ⟨oa, cap, rfl, hc, hg⟩ := hv
  have HG : Hid (0 < l.length → ∃ g o, oa = some ⟨g, o, none⟩ ∧ g < w.heap.size ∧ ∀ i (h : i < l.length), StAt w g (o + i * 15) l[i]) := hg
  obtain ⟨i0, hi, hz0, hz1, hz2⟩ := info_parts info_rect
  have HI : Hid (Try.prog.info? 27 = some i0 ∧ i0.zero = some (.agg #[.int .i64 0, .int .i64 0, .int .i64 0, .int .i64 0]) ∧ i0.size = 4 ∧ i0.bytes = 32) := ⟨hi, hz0, hz1, hz2⟩
  have HME : Hid (∀ (a b : Rc) W, I64 a.x → I64 a.y → I64 b.x → I64 b.y → Calls Try.prog 56 #[.agg #[.int .i64 a.x, .int .i64 a.y, .int .i64 a.w, .int .i64 a.h], .agg #[.int .i64 b.x, .int .i64 b.y, .int .i64 b.w, .int .i64 b.h]] W fun e w' => e = .returned (.agg #[.int .i64 (zMe a b).x, .int .i64 (zMe a b).y, .int .i64 (zMe a b).w, .int .i64 (zMe a b).h]) ∧ Below W.heap.size W w') := fun a b W h1 h2 h3 h4 => meet_any _ _ _ _ _ _ _ _ W h1 h2 h3 h4
  obtain ⟨gu, hgu⟩ : ∃ gu, gu = w.heap.size := ⟨_, rfl⟩
  have hmk : (Instr.makeSlice 39 (.int .i64 (l.length : Nat)) (.int .i64 (l.length : Nat))).run Try.prog w = .ok (.slice (some ⟨gu, 0, none⟩) l.length l.length) (w.alloc (.cells (flat (List.replicate l.length zr)).toArray 27)) := by rw [hgu]; exact make_rcs l.length (by omega) w
  obtain ⟨N, hN⟩ : ∃ N, N = l.length := ⟨_, rfl⟩
  have HN : Hid (N = l.length) := hN
  have HR0 : Hid (OwR w.heap.size (w.alloc (.cells (flat (List.replicate N zr)).toArray 27)) (.slice (some ⟨gu, 0, none⟩) N N) (rowS l 0) ∧ Below w.heap.size w (w.alloc (.cells (flat (List.replicate N zr)).toArray 27))) := by
    refine ⟨?_, (Below.refl _ _).alloc (Nat.le_refl _) _⟩
    have e : rowS l 0 = List.replicate N zr := by unfold rowS; rw [hN]; simp
    rw [e, hgu]
    exact own_new (by simp) (Nat.le_refl _) (by omega)
  rw [← hN] at hmk hl hc ⊢
  clear hg hi hz0 hz1 hz2 hN hgu
  generalize (flat (List.replicate N zr)).toArray = arr at *
  go_enter Try.func55, Try.ntmps55
  go_wp2_with fail
  generalize w.alloc (.cells arr 27) = w1 at *
  refine (every_any w1).mono ?_
  rintro e w2 ⟨rfl, hb2⟩
  have H0 : Hid (ShP w l 0 [] (.slice (some ⟨gu, 0, none⟩) N N) (.slice (some ⟨w2.heap.size, 0, none⟩) 1 1) (w2.alloc (.cells #[.int .i64 (-16384), .int .i64 (-16384), .int .i64 32768, .int .i64 32768] 27))) := by
    have b1 : Below w.heap.size w w2 := HR0.out.2.trans (hb2.mono HR0.out.2.size)
    have o2 := HR0.out.1.below hb2
    refine ⟨o2.below ((Below.refl _ _).alloc (Nat.le_refl _) _), own_one (r := evR) (Bk.new _ _ _) b1.size, ?_, b1.alloc b1.size _, rfl, hc0, fun c hc => by cases hc⟩
    intro g h1 h2
    have h3 := (row_lt o2 g h1).2
    have h4 : w2.heap.size = g := by injection h2
    omega
  clear hb2 HR0 hmk hc0
  go_wp2_with fail
  go_loopw [4, 14] (fun q i wr => ∃ (k : Nat) (cs : List Rc), i = .int .i64 k ∧ k ≤ N ∧ Hid (ShP w l k cs (.slice (some ⟨gu, 0, none⟩) N N) q wr)) (fun _ i _ => N - (intOf i).toNat)
  case atStart => exact ⟨0, [], rfl, Nat.zero_le _, H0⟩
  case round =>
    clear H0
    obtain ⟨k, cs, rfl, hk, HK⟩ := hrel
    by_cases hlt : k < N
    · have ik : (k : Int) < N := by omega
      have hll : k < l.length := by rw [← HN.out]; exact hlt
      obtain ⟨g, o, rfl, hg, hat⟩ := HG.out (by omega)
      have hx := (hat k hll).kept (w' := wr) fun j => HK.out.b.cell (p := ⟨g, j, none⟩) hg
      obtain ⟨h1, h2, h3, h4, h5⟩ := sh_next hll HK.out.d HK.out.e
      have h45 := (oneE_zero h5).2.1
      have hma := (oneE_zero h5).1
      have HNx : Hid ((rowS l k).set k (shR cs l[k]) = rowS l (k + 1) ∧ (l[k].k = 5 → rowS l k = rowS l (k + 1)) ∧ (ann [] l).drop (k + 1) = ann (nxC cs l[k]) (l.drop (k + 1)) ∧ clpE (nxC cs l[k]).length (l.drop (k + 1)) = 0 ∧ (l[k].k = 5 → cs ≠ []) ∧ zMa (shR cs l[k]) = true ∧ shR cs l[k] = zMe l[k].r (topP cs)) :=
        ⟨rowS_next hll HK.out.d HK.out.e, fun h => rowS_same hll HK.out.d HK.out.e (shR_open h5 h), h2, h3, h4, shR_may _ _, shR_top⟩
      obtain ⟨oc, cc, ec, hcc, hgc⟩ := row_val HK.out.c
      have hul : (rowS l k).length = N := by rw [rowS_len l k (by omega), HN.out]
      have hcl : (evR :: cs.reverse).length = cs.length + 1 := by simp
      obtain ⟨hgu1, hgu2⟩ := row_lt HK.out.o gu rfl
      obtain ⟨gc, rfl, hgc1, hgc2⟩ := hgc (by omega)
      subst ec
      obtain ⟨n, hn⟩ : ∃ n, n = cs.length := ⟨_, rfl⟩
      have hcsl : n + 1 ≤ 16385 := by
        have h := clp_le _ _ HK.out.e
        rw [List.length_drop] at h
        have := HN.out
        omega
      rw [hcl, ← hn] at hcc HK ⊢
      have HNn : Hid (n = cs.length) := hn
      have HTop : Hid (∀ W, Below wr.heap.size wr W → RcAt W gc (n * 4) (topP cs)) := fun W h => (own_top hn HK.out.c).kept fun j => h.cell (p := ⟨gc, j, none⟩) hgc2
      have HTi : Hid (I64 (topP cs).x ∧ I64 (topP cs).y) := top_i64 HK.out.m
      have HMi : Hid (I64 l[k].r.x ∧ I64 l[k].r.y) := by
        have := may_bd hma
        exact ⟨i64_near ⟨this.1, this.2.1⟩, i64_near ⟨this.2.2.1, this.2.2.2.1⟩⟩
      have HNX : Hid ((l[k].k = 4 → nxC cs l[k] = shR cs l[k] :: cs) ∧ (l[k].k = 5 → nxC cs l[k] = cs.tail) ∧ (l[k].k < 4 → nxC cs l[k] = cs)) := by
        unfold Hid nxC
        exact ⟨fun h => by rw [if_pos h], fun h => by rw [if_neg (by omega), if_pos h], fun h => by rw [if_neg (by omega), if_neg (by omega)]⟩
      clear hat h1 h2 h3 h4 h5 hma hul hcl hn
      generalize l[k] = x at *
      obtain ⟨x0, x1, x2, x3, x4, x5, x6, x7, x8, x9, x10, x11, x12, x13, x14⟩ := hx
      have HWb : Hid (Below wr.heap.size wr (wr.alloc (.cells (#[.int .u8 x.k, .int .i64 x.r.x, .int .i64 x.r.y, .int .i64 x.r.w, .int .i64 x.r.h, .int .u8 x.c.r, .int .u8 x.c.g, .int .u8 x.c.b, .int .u8 x.c.a, .int .u8 x.b.r, .int .u8 x.b.g, .int .u8 x.b.b, .int .u8 x.b.a, .string x.t, .int .i64 x.n]) 31)) ∧ Bk (wr.alloc (.cells (#[.int .u8 x.k, .int .i64 x.r.x, .int .i64 x.r.y, .int .i64 x.r.w, .int .i64 x.r.h, .int .u8 x.c.r, .int .u8 x.c.g, .int .u8 x.c.b, .int .u8 x.c.a, .int .u8 x.b.r, .int .u8 x.b.g, .int .u8 x.b.b, .int .u8 x.b.a, .string x.t, .int .i64 x.n]) 31)) wr.heap.size (#[.int .u8 x.k, .int .i64 x.r.x, .int .i64 x.r.y, .int .i64 x.r.w, .int .i64 x.r.h, .int .u8 x.c.r, .int .u8 x.c.g, .int .u8 x.c.b, .int .u8 x.c.a, .int .u8 x.b.r, .int .u8 x.b.g, .int .u8 x.b.b, .int .u8 x.b.a, .string x.t, .int .i64 x.n]) 31) := ⟨(Below.refl _ _).alloc (Nat.le_refl _) _, Bk.new _ _ _⟩
      by_cases h5 : x.k = 5
      · cases cs with
        | nil => exact absurd rfl (HNx.out.2.2.2.2.1 h5)
        | cons c t =>
          obtain ⟨tl, htl⟩ : ∃ tl, tl = t.length := ⟨_, rfl⟩
          obtain rfl : n = tl + 1 := by rw [HNn.out, htl]; rfl
          have HRel : Hid (∀ tt : Value, ShP w l (k + 1) t (.slice (some ⟨gu, 0, none⟩) N N) (.slice (some ⟨gc, 0, none⟩) (tl + 1) cc) (wr.alloc (.cells #[tt, .int .i64 x.r.x, .int .i64 x.r.y, .int .i64 x.r.w, .int .i64 x.r.h, .int .u8 x.c.r, .int .u8 x.c.g, .int .u8 x.c.b, .int .u8 x.c.a, .int .u8 x.b.r, .int .u8 x.b.g, .int .u8 x.b.b, .int .u8 x.b.a, .string x.t, .int .i64 x.n] 31))) := fun tt => by
            obtain ⟨a1, a2, a3, a4, a5, a6, a7⟩ := HK.out.below ((Below.refl _ wr).alloc (Nat.le_refl _) (.cells #[tt, .int .i64 x.r.x, .int .i64 x.r.y, .int .i64 x.r.w, .int .i64 x.r.h, .int .u8 x.c.r, .int .u8 x.c.g, .int .u8 x.c.b, .int .u8 x.c.a, .int .u8 x.b.r, .int .u8 x.b.g, .int .u8 x.b.b, .int .u8 x.b.a, .string x.t, .int .i64 x.n] 31))
            obtain ⟨n1, n2, n3, n4, n5, n6, n7⟩ := HNx.out
            have e := HNX.out.2.1 h5
            rw [e] at n3 n4
            refine ⟨by rw [← n2 h5]; exact a1, ?_, a3, a4, n3, n4, fun c hc => a7 c (by simp [show c ∈ t from hc])⟩
            unfold OwR at a2 ⊢
            rw [show (evR :: (c :: t).reverse) = (evR :: t.reverse) ++ [c] by simp, flat_app, List.length_append] at a2
            rw [show (evR :: t.reverse).length = tl + 1 by simp [htl]] at a2 ⊢
            exact own_cut a2 (by rw [flat_len]; simp [htl])
          clear HK HNx HNX HTop HTi HMi HWb htl HNn
          go_wp2
          go_roundw
          case rel => exact ⟨k + 1, t, by go_num, by omega, HRel.out _⟩
          case measure => simp [intOf]; omega
      · have h5' : (x.k == 5) = false := beq_eq_false_iff_ne.2 h5
        obtain ⟨bx, hbx⟩ : ∃ bx, bx = wr.heap.size := ⟨_, rfl⟩
        have HBX : Hid (bx = wr.heap.size) := hbx
        rw [← hbx] at HWb
        have HWb2 : Hid (Below wr.heap.size wr (wr.alloc (.cells (#[.int .u8 x.k, .int .i64 x.r.x, .int .i64 x.r.y, .int .i64 x.r.w, .int .i64 x.r.h, .int .u8 x.c.r, .int .u8 x.c.g, .int .u8 x.c.b, .int .u8 x.c.a, .int .u8 x.b.r, .int .u8 x.b.g, .int .u8 x.b.b, .int .u8 x.b.a, .string x.t, .int .i64 x.n]) 31)) ∧ Bk (wr.alloc (.cells (#[.int .u8 x.k, .int .i64 x.r.x, .int .i64 x.r.y, .int .i64 x.r.w, .int .i64 x.r.h, .int .u8 x.c.r, .int .u8 x.c.g, .int .u8 x.c.b, .int .u8 x.c.a, .int .u8 x.b.r, .int .u8 x.b.g, .int .u8 x.b.b, .int .u8 x.b.a, .string x.t, .int .i64 x.n]) 31)) bx (#[.int .u8 x.k, .int .i64 x.r.x, .int .i64 x.r.y, .int .i64 x.r.w, .int .i64 x.r.h, .int .u8 x.c.r, .int .u8 x.c.g, .int .u8 x.c.b, .int .u8 x.c.a, .int .u8 x.b.r, .int .u8 x.b.g, .int .u8 x.b.b, .int .u8 x.b.a, .string x.t, .int .i64 x.n]) 31) := by rw [← hbx]; exact HWb
        clear HWb
        go_upto_region 8 with fail
        rw [← hbx]
        clear hbx
        generalize wr.alloc (.cells (#[.int .u8 x.k, .int .i64 x.r.x, .int .i64 x.r.y, .int .i64 x.r.w, .int .i64 x.r.h, .int .u8 x.c.r, .int .u8 x.c.g, .int .u8 x.c.b, .int .u8 x.c.a, .int .u8 x.b.r, .int .u8 x.b.g, .int .u8 x.b.b, .int .u8 x.b.a, .string x.t, .int .i64 x.n]) 31) = W0 at *
        clear x0 x1 x2 x3 x4 x5 x6 x7 x8 x9 x10 x11 x12 x13 x14
        have HKW : Hid (ShP w l k cs (.slice (some ⟨gu, 0, none⟩) N N) (.slice (some ⟨gc, 0, none⟩) (n + 1) cc) W0) := HK.out.below HWb2.out.1
        have HTop2 : Hid (∀ W, Below W0.heap.size W0 W → RcAt W gc (n * 4) (topP cs) ∧ Bk W bx (#[.int .u8 x.k, .int .i64 x.r.x, .int .i64 x.r.y, .int .i64 x.r.w, .int .i64 x.r.h, .int .u8 x.c.r, .int .u8 x.c.g, .int .u8 x.c.b, .int .u8 x.c.a, .int .u8 x.b.r, .int .u8 x.b.g, .int .u8 x.b.b, .int .u8 x.b.a, .string x.t, .int .i64 x.n]) 31) := fun W h => ⟨HTop.out W (HWb2.out.1.trans (h.mono HWb2.out.1.size)), HWb2.out.2.below h⟩
        have HME2 : Hid (∀ W, Calls Try.prog 56 #[.agg #[.int .i64 x.r.x, .int .i64 x.r.y, .int .i64 x.r.w, .int .i64 x.r.h], .agg #[.int .i64 (topP cs).x, .int .i64 (topP cs).y, .int .i64 (topP cs).w, .int .i64 (topP cs).h]] W fun e w' => e = .returned (.agg #[.int .i64 (shR cs x).x, .int .i64 (shR cs x).y, .int .i64 (shR cs x).w, .int .i64 (shR cs x).h]) ∧ Below W.heap.size W w') := fun W => by
          rw [HNx.out.2.2.2.2.2.2]
          exact HME.out x.r (topP cs) W HMi.out.1 HMi.out.2 HTi.out.1 HTi.out.2
        have hbxg : Hid (bx ≠ gu ∧ gu < W0.heap.size ∧ w.heap.size ≤ gu ∧ bx ≠ gc ∧ w.heap.size ≤ bx) := by
          have e1 := HBX.out
          have e2 := HWb2.out.1.size
          have e3 := HK.out.b.size
          exact ⟨by omega, by omega, hgu1, by omega, by omega⟩
        clear HTop HME HMi HTi HK
        generalize shR cs x = q at *
        generalize topP cs = tp at *
        refine wp_region_lit 12 0 1 (fun _ => .cells #[] 0) [] (by kernel_rfl) (by kernel_rfl) rfl (fun k hk => absurd hk (by omega)) rfl (fun i h1 h2 => absurd h2 (by omega)) ?_
        apply Exists.intro
        refine ⟨fun bs ne => ?_, ?_⟩
        · have e0 := fun tt : Gb W0 bs => (HTop2.out _ tt.below).1.1
          have e1 := fun tt : Gb W0 bs => (HTop2.out _ tt.below).1.2.1
          have e2 := fun tt : Gb W0 bs => (HTop2.out _ tt.below).1.2.2.1
          have e3 := fun tt : Gb W0 bs => (HTop2.out _ tt.below).1.2.2.2
          have d1 := fun tt : Gb W0 bs => (HTop2.out _ tt.below).2.cell 1
          have d2 := fun tt : Gb W0 bs => (HTop2.out _ tt.below).2.cell 2
          have d3 := fun tt : Gb W0 bs => (HTop2.out _ tt.below).2.cell 3
          have d4 := fun tt : Gb W0 bs => (HTop2.out _ tt.below).2.cell 4
          simp only [List.getElem?_toArray, List.getElem?_cons_zero, List.getElem?_cons_succ] at d1 d2 d3 d4
          simp only [List.take_succ_cons, List.take_zero]
          repeat (go_big_quiet_step (first
            | (go_at_call 56; exact gb_call (HME2.out _))))
          exact wpQuiet_nil rfl
        · intro bl wx hbl _ _
          have S1 := HKW.out.below hbl
          have hrl : (rowS l k).length = N := by rw [rowS_len l k (by rw [← HN.out]; omega), HN.out]
          have hrow : wx.ownsRow w.heap.size 27 4 (.slice (some ⟨gu, 0, none⟩) N N) N (flat (rowS l k)) := by
            have h := S1.o
            unfold OwR at h
            rw [hrl] at h
            exact h
          have cc4 : ∀ j, j < 4 → ∃ z, wx.cell? ⟨gu, k * 4 + j, none⟩ = some z := fun j hj => ⟨(flat (rowS l k))[k * 4 + j]'(by rw [flat_len, hrl]; omega), (own_cell hrow (k * 4 + j) (by omega)).trans (List.getElem?_eq_getElem _)⟩
          obtain ⟨z0, y0⟩ := cc4 0 (by decide)
          obtain ⟨z1, y1⟩ := cc4 1 (by decide)
          obtain ⟨z2, y2⟩ := cc4 2 (by decide)
          obtain ⟨z3, y3⟩ := cc4 3 (by decide)
          rw [Nat.add_zero] at y0
          have f0 := own_frozen hrow (k * 4)
          have f1 := own_frozen hrow (k * 4 + 1)
          have f2 := own_frozen hrow (k * 4 + 2)
          have f3 := own_frozen hrow (k * 4 + 3)
          have H5 : Hid (ShP w l k cs (.slice (some ⟨gu, 0, none⟩) N N) (.slice (some ⟨gc, 0, none⟩) (n + 1) cc) wx → True) := fun _ => trivial
          have HW5 : Hid (OwR w.heap.size ((((wx.setCell ⟨gu, k * 4, none⟩ (.int .i64 q.x)).setCell ⟨gu, k * 4 + 1, none⟩ (.int .i64 q.y)).setCell ⟨gu, k * 4 + 2, none⟩ (.int .i64 q.w)).setCell ⟨gu, k * 4 + 3, none⟩ (.int .i64 q.h)) (.slice (some ⟨gu, 0, none⟩) N N) (rowS l (k + 1)) ∧ OwR w.heap.size ((((wx.setCell ⟨gu, k * 4, none⟩ (.int .i64 q.x)).setCell ⟨gu, k * 4 + 1, none⟩ (.int .i64 q.y)).setCell ⟨gu, k * 4 + 2, none⟩ (.int .i64 q.w)).setCell ⟨gu, k * 4 + 3, none⟩ (.int .i64 q.h)) (.slice (some ⟨gc, 0, none⟩) (n + 1) cc) (evR :: cs.reverse) ∧ Below w.heap.size w ((((wx.setCell ⟨gu, k * 4, none⟩ (.int .i64 q.x)).setCell ⟨gu, k * 4 + 1, none⟩ (.int .i64 q.y)).setCell ⟨gu, k * 4 + 2, none⟩ (.int .i64 q.w)).setCell ⟨gu, k * 4 + 3, none⟩ (.int .i64 q.h)) ∧ Bk ((((wx.setCell ⟨gu, k * 4, none⟩ (.int .i64 q.x)).setCell ⟨gu, k * 4 + 1, none⟩ (.int .i64 q.y)).setCell ⟨gu, k * 4 + 2, none⟩ (.int .i64 q.w)).setCell ⟨gu, k * 4 + 3, none⟩ (.int .i64 q.h)) bx (#[.int .u8 x.k, .int .i64 x.r.x, .int .i64 x.r.y, .int .i64 x.r.w, .int .i64 x.r.h, .int .u8 x.c.r, .int .u8 x.c.g, .int .u8 x.c.b, .int .u8 x.c.a, .int .u8 x.b.r, .int .u8 x.b.g, .int .u8 x.b.b, .int .u8 x.b.a, .string x.t, .int .i64 x.n]) 31) := by
            refine ⟨?_, ?_, ?_, ?_⟩
            · have h := own_set (own_set (own_set (own_set hrow (k * 4) (.int .i64 q.x)) (k * 4 + 1) (.int .i64 q.y)) (k * 4 + 2) (.int .i64 q.w)) (k * 4 + 3) (.int .i64 q.h)
              rw [flat_put (rowS l k) k (by rw [hrl]; exact hlt) q, HNx.out.1] at h
              unfold OwR
              rw [rowS_len l (k + 1) (by rw [← HN.out]; omega), ← HN.out]
              exact h
            · refine World.ownsRow.kept S1.c (ob_set4 wx gu (k * 4) (.int .i64 q.x) (.int .i64 q.y) (.int .i64 q.w) (.int .i64 q.h)) (.inr fun h => ?_)
              exact S1.a gu rfl h
            · exact (((S1.b.setCell (p := ⟨gu, k * 4, none⟩) hbxg.out.2.2.1 _).setCell (p := ⟨gu, k * 4 + 1, none⟩) hbxg.out.2.2.1 _).setCell (p := ⟨gu, k * 4 + 2, none⟩) hbxg.out.2.2.1 _).setCell (p := ⟨gu, k * 4 + 3, none⟩) hbxg.out.2.2.1 _
            · have hne : gu ≠ bx := fun h => hbxg.out.1 h.symm
              exact ((((HTop2.out _ hbl).2.other _ _ hne).other _ _ hne).other _ _ hne).other _ _ hne
          have HA5 : Hid (Apt (.slice (some ⟨gu, 0, none⟩) N N) (.slice (some ⟨gc, 0, none⟩) (n + 1) cc) ∧ ∀ c ∈ cs, zMa c = true) := ⟨S1.a, S1.m⟩
          simp only [layL]
          clear S1 hbl hrl hrow cc4 H5 HKW HTop2 HME2 HWb2
          refine wpAny_one 12 (by kernel_rfl) rfl ?_
          intro K hK
          go_simp
          refine hK _ _ ?_
          clear hK K
          refine wpAny_done (by kernel_rfl) ?_ _
          generalize ((((wx.setCell ⟨gu, k * 4, none⟩ (.int .i64 q.x)).setCell ⟨gu, k * 4 + 1, none⟩ (.int .i64 q.y)).setCell ⟨gu, k * 4 + 2, none⟩ (.int .i64 q.w)).setCell ⟨gu, k * 4 + 3, none⟩ (.int .i64 q.h)) = w5 at *
          clear y0 y1 y2 y3 f0 f1 f2 f3
          have c0 := HW5.out.2.2.2.cell 0
          simp only [List.getElem?_toArray, List.getElem?_cons_zero] at c0
          by_cases h4 : x.k = 4
          · have hrl : (rowS l (k + 1)).length = N := by rw [rowS_len l (k + 1) (by rw [← HN.out]; omega), HN.out]
            have HQ : Hid (RcAt w5 gu (k * 4) q) := by
              have h := HW5.out.1
              unfold OwR at h
              rw [hrl] at h
              have hk' : k < (rowS l (k + 1)).length := by rw [hrl]; exact hlt
              obtain ⟨f0, f1, f2, f3⟩ := flat_at (rowS l (k + 1)) k hk'
              have e : (rowS l (k + 1))[k] = q := by
                have e1 : (rowS l (k + 1))[k]? = some q := by
                  rw [← HNx.out.1, List.getElem?_set_self (by rw [rowS_len l k (by rw [← HN.out]; omega), ← HN.out]; exact hlt)]
                rw [List.getElem?_eq_getElem hk'] at e1
                exact Option.some.inj e1
              rw [e] at f0 f1 f2 f3
              exact ⟨(own_cell h _ (by omega)).trans f0, (own_cell h _ (by omega)).trans f1, (own_cell h _ (by omega)).trans f2, (own_cell h _ (by omega)).trans f3⟩
            obtain ⟨r0, r1, r2, r3⟩ := HQ.out
            have HA2 : Hid (∀ o, (w5.alloc o).ownsRow w.heap.size 27 4 (.slice (some ⟨gc, 0, none⟩) (n + 1) cc) (n + 1) (flat (evR :: cs.reverse)) ∧ w.heap.size ≤ (w5.alloc o).heap.size) := fun o => by
              have h := HW5.out.2.1
              unfold OwR at h
              rw [show (evR :: cs.reverse).length = n + 1 by simp [HNn.out]] at h
              exact ⟨row_below h ((Below.refl _ _).alloc (Nat.le_refl _) _), by have := HW5.out.2.2.1.size; simp; omega⟩
            have hc5 : Hid (n + 1 + 1 ≤ maxLen) := by unfold Hid maxLen; omega
            have hc6 : Hid ((n + 1 + 1) * 32 ≤ 140737488355328) := by unfold Hid; omega
            obtain ⟨hi, hz0, hz1, hz2⟩ := HI.out
            clear hrl
            go_wp2_with (at_builtin; refine wpList_append_lies _ rfl _ _ 39 rfl w.heap.size 27 i0 (.agg #[.int .i64 0, .int .i64 0, .int .i64 0, .int .i64 0]) 4 32 Try.underlying39 hi hz0 hz1 hz2 rfl (by decide) (.slice (some ⟨gc, 0, none⟩) (n + 1) cc) (n + 1) (flat (evR :: cs.reverse)) rfl (HA2.out _).1 _ 1 1 [.int .i64 q.x, .int .i64 q.y, .int .i64 q.w, .int .i64 q.h] rfl rfl (cell_fourB _ _ _ _ _ _ _ rfl) (one4 q) (by decide) hc5.out hc6.out (HA2.out _).2 _ rfl ?_)
            intro g6 cap6 w6 hown' hgrow hlies hg6
            have HRel : Hid (ShP w l (k + 1) (q :: cs) (.slice (some ⟨gu, 0, none⟩) N N) (.slice (some ⟨g6, 0, none⟩) (n + 1 + 1) cap6) w6) := by
              obtain ⟨n1, n2, n3, n4, n5, n6, n7⟩ := HNx.out
              obtain ⟨a1, a2, a3, a4⟩ := HW5.out
              obtain ⟨e1, e2, e3⟩ := own_grow (by simp [HNn.out]) a1 HA5.out.1.turn hown' hgrow hlies
              have e := HNX.out.1 h4
              rw [e] at n3 n4
              have b1 : Below w5.heap.size w5 (w5.alloc (.cells #[.int .i64 q.x, .int .i64 q.y, .int .i64 q.w, .int .i64 q.h] 27)) := (Below.refl _ _).alloc (Nat.le_refl _) _
              have a5 := app_below (a3.trans (b1.mono a3.size)) (HA2.out _).1 (Nat.le_refl _) hgrow
              refine ⟨e2, ?_, e3.turn, a5, n3, n4, fun c hc => ?_⟩
              · rw [show evR :: (q :: cs).reverse = (evR :: cs.reverse) ++ [q] by simp]
                exact e1
              · rcases List.mem_cons.1 hc with rfl | hc
                · exact n6
                · exact HA5.out.2 c hc
            clear hown' hgrow hlies hg6 HA2 HW5 HQ r0 r1 r2 r3 hi hz0 hz1 hz2 c0 HNx HNX
            go_wp2
            go_roundw
            case rel => exact ⟨k + 1, q :: cs, by go_num, by omega, HRel⟩
            case measure => simp [intOf]; omega
          · have h4' : (x.k == 4) = false := beq_eq_false_iff_ne.2 h4
            have HRel : Hid (ShP w l (k + 1) cs (.slice (some ⟨gu, 0, none⟩) N N) (.slice (some ⟨gc, 0, none⟩) (n + 1) cc) w5) := by
              obtain ⟨n1, n2, n3, n4, n5, n6, n7⟩ := HNx.out
              obtain ⟨a1, a2, a3, a4⟩ := HW5.out
              have e := HNX.out.2.2 (by rcases h45 with h | h | h | h | h <;> omega)
              rw [e] at n3 n4
              exact ⟨a1, a2, HA5.out.1, a3, n3, n4, HA5.out.2⟩
            clear HW5 HNx HNX
            go_wp2
            go_roundw
            case rel => exact ⟨k + 1, cs, by go_num, by omega, HRel⟩
            case measure => simp [intOf]; omega
    · obtain rfl : k = N := by omega
      have ik : ¬ (k : Int) < k := by omega
      have HF : Hid (OwR w.heap.size wr (.slice (some ⟨gu, 0, none⟩) k k) ((ann [] l).map Prod.snd) ∧ Below w.heap.size w wr) := by
        have h := HK.out.o
        have e : rowS l k = (ann [] l).map Prod.snd := by
          unfold rowS
          rw [List.take_of_length_le (by rw [List.length_map, ann_len, HN.out]; exact Nat.le_refl _), HN.out, Nat.sub_self]
          simp
        rw [e] at h
        exact ⟨h, HK.out.b⟩
      clear HK
      go_wp2
      go_ret
      exact ⟨_, rfl, HF.out⟩

end Go.Proofs.Ytbghjmkgicdnoaa
