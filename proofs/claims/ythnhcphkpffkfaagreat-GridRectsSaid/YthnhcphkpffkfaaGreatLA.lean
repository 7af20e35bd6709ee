/-
  Bounds in memory; what may be: isNumber, mayBe, check, checkNumbers, the document's Check; large.
-/
import Derived.Test.YthnhcphkpffkfaaGreatKM
import Derived.Test.YthnhcphkpffkfaaGreatLP2
namespace Go.Proofs.YthnhcphkpffkfaaGreat
open Go.RowKit

/-- A bound as it is handed in. -/
structure Bq where
  a : Int
  b : Int
  f : Int
def BqAt (w : World) (g o : Nat) (q : Bq) : Prop := w.cell? ⟨g, o, none⟩ = some (.int .i64 q.a) ∧ w.cell? ⟨g, o + 1, none⟩ = some (.int .i64 q.b) ∧ w.cell? ⟨g, o + 2, none⟩ = some (.int .i64 q.f)
theorem BqAt.kept {w w' : World} {g o : Nat} {q : Bq} (h : BqAt w g o q) (k : ∀ j, w'.cell? ⟨g, j, none⟩ = w.cell? ⟨g, j, none⟩) : BqAt w' g o q := by
  unfold BqAt; rw [k, k, k]; exact h
theorem BqAt.below {B : Nat} {w w' : World} {g o : Nat} {q : Bq} (h : BqAt w g o q) (hb : Below B w w') (hg : g < B) : BqAt w' g o q := h.kept fun j => hb.cell (p := ⟨g, j, none⟩) hg
/-- A slice that holds bounds. -/
def BS (w : World) (v : Value) (L : List Bq) : Prop := ∃ oa cap, v = .slice oa L.length cap ∧ L.length ≤ cap ∧ (0 < L.length → ∃ g o, oa = some ⟨g, o, none⟩ ∧ g < w.heap.size ∧ ∀ i (h : i < L.length), BqAt w g (o + i * 3) L[i])
theorem BS.below {w w' : World} {v : Value} {L : List Bq} (h : BS w v L) (hb : Below w.heap.size w w') : BS w' v L := by
  obtain ⟨oa, cap, e, hc, hg⟩ := h
  refine ⟨oa, cap, e, hc, fun hp => ?_⟩
  obtain ⟨g, o, e1, g1, g2⟩ := hg hp
  exact ⟨g, o, e1, Nat.lt_of_lt_of_le g1 hb.size, fun i hi => (g2 i hi).below hb g1⟩
def isN (n i : Int) : Bool := decide (0 ≤ i) && decide (i < n)
def okQ (n : Int) (q : Bq) : Bool := isN n q.a && isN n q.b && decide (-1048576 ≤ q.f) && decide (q.f ≤ 1048576)
def chkQ (n : Int) (L : List Bq) : Int := if n < 0 then 2 else if 4096 < n ∨ 4096 < L.length then 4 else if L.all (okQ n) = true then 0 else 2
theorem okQ_iff (n : Int) (q : Bq) : okQ n q = true ↔ 0 ≤ q.a ∧ q.a < n ∧ 0 ≤ q.b ∧ q.b < n ∧ -1048576 ≤ q.f ∧ q.f ≤ 1048576 := by
  unfold okQ isN
  simp only [Bool.and_eq_true, decide_eq_true_eq]
  omega
theorem chk_zero {n : Int} {L : List Bq} (h : chkQ n L = 0) : 0 ≤ n ∧ n ≤ 4096 ∧ L.length ≤ 4096 ∧ ∀ q ∈ L, okQ n q = true := by
  unfold chkQ at h
  split at h
  · omega
  split at h
  · omega
  split at h
  · next h3 => exact ⟨by omega, by omega, by omega, List.all_eq_true.1 h3⟩
  · omega
theorem chk_cases (n : Int) (L : List Bq) : chkQ n L = 0 ∨ chkQ n L = 2 ∨ chkQ n L = 4 := by
  unfold chkQ
  split
  · simp
  split
  · simp
  split <;> simp
/-- As bounds about numbers from 0 on. -/
def natQ (q : Bq) : Bn := ⟨q.a.toNat, q.b.toNat, q.f⟩
def nat (L : List Bq) : List Bn := L.map natQ
theorem nat_len (L : List Bq) : (nat L).length = L.length := by simp [nat]
theorem nat_at (L : List Bq) (i : Nat) (h : i < L.length) : (nat L)[i]? = some (natQ L[i]) := by simp [nat, h]

set_option maxHeartbeats 1000000 in
theorem isNum_any (n i : Int) (w : World) : Calls Tryz.prog 100 #[.int .i64 n, .int .i64 i] w fun e w' => e = .returned (.bool (isN n i)) ∧ w' = w := by
  unfold isN
  by_cases h : 0 ≤ i
  · have HR : Hid ((decide (0 ≤ i) && decide (i < n)) = decide (i < n)) := by unfold Hid; simp [h]
    rw [HR.out]
    clear HR
    go_enter Tryz.func100, Tryz.ntmps100
    go_wp2
    go_ret
    exact ⟨rfl, rfl⟩
  · have HR : Hid ((decide (0 ≤ i) && decide (i < n)) = false) := by unfold Hid; simp [h]
    rw [HR.out]
    clear HR
    go_enter Tryz.func100, Tryz.ntmps100
    go_wp2
    go_ret
    exact ⟨rfl, rfl⟩

set_option maxHeartbeats 1000000 in
theorem mayBe_bn (n : Int) (q : Bq) (w : World) : Calls Tryz.prog 96 #[.int .i64 n, .agg #[.int .i64 q.a, .int .i64 q.b, .int .i64 q.f]] w fun e w' => e = .returned (.bool (okQ n q)) ∧ Below w.heap.size w w' := by
  have HA : Hid (∀ W, Calls Tryz.prog 100 #[.int .i64 n, .int .i64 q.a] W fun e w' => e = .returned (.bool (isN n q.a)) ∧ w' = W) := fun W => isNum_any n q.a W
  have HB : Hid (∀ W, Calls Tryz.prog 100 #[.int .i64 n, .int .i64 q.b] W fun e w' => e = .returned (.bool (isN n q.b)) ∧ w' = W) := fun W => isNum_any n q.b W
  have HL : Hid (Below w.heap.size w (w.alloc (.cells #[.int .i64 q.a, .int .i64 q.b, .int .i64 q.f] 100))) := (Below.refl _ _).alloc (Nat.le_refl _) _
  unfold okQ
  cases h1 : isN n q.a
  · rw [h1] at HA
    simp only [Bool.false_and]
    clear h1
    go_enter Tryz.func96, Tryz.ntmps96
    go_wp2_with fail
    refine (HA.out _).mono ?_
    rintro e w1 ⟨rfl, rfl⟩
    go_wp2
    go_ret
    exact ⟨rfl, HL.out⟩
  rw [h1] at HA
  clear h1
  cases h2 : isN n q.b
  · rw [h2] at HB
    simp only [Bool.true_and, Bool.false_and]
    clear h2
    go_enter Tryz.func96, Tryz.ntmps96
    go_wp2_with fail
    refine (HA.out _).mono ?_
    rintro e w1 ⟨rfl, rfl⟩
    go_wp2_with fail
    refine (HB.out _).mono ?_
    rintro e w1 ⟨rfl, rfl⟩
    go_wp2
    go_ret
    exact ⟨rfl, HL.out⟩
  rw [h2] at HB
  clear h2
  by_cases h3 : -1048576 ≤ q.f
  · have HR : Hid ((true && true && decide (-1048576 ≤ q.f) && decide (q.f ≤ 1048576)) = decide (q.f ≤ 1048576)) := by unfold Hid; simp [h3]
    rw [HR.out]
    clear HR
    go_enter Tryz.func96, Tryz.ntmps96
    go_wp2_with fail
    refine (HA.out _).mono ?_
    rintro e w1 ⟨rfl, rfl⟩
    go_wp2_with fail
    refine (HB.out _).mono ?_
    rintro e w1 ⟨rfl, rfl⟩
    go_wp2
    go_ret
    exact ⟨rfl, HL.out⟩
  · have HR : Hid ((true && true && decide (-1048576 ≤ q.f) && decide (q.f ≤ 1048576)) = false) := by unfold Hid; simp [h3]
    rw [HR.out]
    clear HR
    go_enter Tryz.func96, Tryz.ntmps96
    go_wp2_with fail
    refine (HA.out _).mono ?_
    rintro e w1 ⟨rfl, rfl⟩
    go_wp2_with fail
    refine (HB.out _).mono ?_
    rintro e w1 ⟨rfl, rfl⟩
    go_wp2
    go_ret
    exact ⟨rfl, HL.out⟩

theorem all_take {L : List Bq} {p : Bq → Bool} {k : Nat} (hk : k < L.length) (h : (L.take k).all p = true) (hp : p L[k] = true) : (L.take (k + 1)).all p = true := by
  rw [← List.take_append_getElem hk, List.all_append, h]
  simp [hp]
theorem all_notL {α : Type} {L : List α} {p : α → Bool} {k : Nat} (hk : k < L.length) (hp : p L[k] = false) : L.all p = false := by
  rw [List.all_eq_false]
  exact ⟨_, List.getElem_mem hk, by simp [hp]⟩

set_option maxRecDepth 10000 in
set_option maxHeartbeats 4000000 in
theorem check_bn (n : Int) (L : List Bq) (v : Value) (w : World) (hv : BS w v L) :
    Calls Tryz.prog 90 #[.int .i64 n, v] w fun e w' => e = .returned (.int .i64 (chkQ n L)) ∧ Below w.heap.size w w' := by
  obtain ⟨oa, cap, rfl, hc, hg⟩ := hv
  have HG : Hid (0 < L.length → ∃ g o, oa = some ⟨g, o, none⟩ ∧ g < w.heap.size ∧ ∀ i (h : i < L.length), BqAt w g (o + i * 3) L[i]) := hg
  clear hg
  unfold chkQ
  by_cases h0 : n < 0
  · rw [if_pos h0]
    go_enter Tryz.func90, Tryz.ntmps90
    go_wp2
    go_ret
    exact ⟨rfl, Below.refl _ _⟩
  rw [if_neg h0]
  by_cases h1 : 4096 < n
  · rw [if_pos (.inl h1)]
    go_enter Tryz.func90, Tryz.ntmps90
    go_wp2
    go_ret
    exact ⟨rfl, Below.refl _ _⟩
  by_cases h2 : 4096 < L.length
  · rw [if_pos (.inr h2)]
    have i2 : (4096 : Int) < L.length := by omega
    go_enter Tryz.func90, Tryz.ntmps90
    go_wp2
    go_ret
    exact ⟨rfl, Below.refl _ _⟩
  rw [if_neg (by omega)]
  have i2 : ¬ (4096 : Int) < L.length := by omega
  obtain ⟨R, HR⟩ : ∃ R : Int, Hid (R = if L.all (okQ n) = true then 0 else 2) := ⟨_, rfl⟩
  rw [← HR.out]
  go_enter Tryz.func90, Tryz.ntmps90
  go_wp2_with fail
  go_loopw [18] (fun i wr => ∃ k : Nat, k ≤ L.length ∧ i = .int .i64 k ∧ Hid ((L.take k).all (okQ n) = true ∧ Below w.heap.size w wr)) (fun i _ => L.length - (intOf i).toNat)
  case atStart => exact ⟨0, Nat.zero_le _, rfl, rfl, Below.refl _ _⟩
  case round =>
    obtain ⟨k, hk, rfl, HK⟩ := hrel
    by_cases hlt : k < L.length
    · have ik : (k : Int) < L.length := by omega
      obtain ⟨g, o, rfl, hg, hat⟩ := HG.out (by omega)
      have hx := (hat k hlt).below HK.out.2 hg
      have HM : Hid (∀ W, Calls Tryz.prog 96 #[.int .i64 n, .agg #[.int .i64 L[k].a, .int .i64 L[k].b, .int .i64 L[k].f]] W fun e w' => e = .returned (.bool (okQ n L[k])) ∧ Below W.heap.size W w') := fun W => mayBe_bn n _ W
      have HT : Hid ((okQ n L[k] = true → (L.take (k + 1)).all (okQ n) = true) ∧ (okQ n L[k] = false → R = 2)) := ⟨fun h => all_take hlt HK.out.1 h, fun h => by rw [HR.out, if_neg (by rw [all_notL hlt h]; decide)]⟩
      have HB : Hid (∀ o W, Below (wr.alloc o).heap.size (wr.alloc o) W → Below w.heap.size w W) := fun o W h => (HK.out.2.alloc HK.out.2.size o).trans (h.mono (by rw [World.size_alloc]; exact Nat.le_succ_of_le HK.out.2.size))
      obtain ⟨x0, x1, x2⟩ := hx
      clear hat HK
      generalize L[k] = q at *
      go_wp2_with fail
      refine (HM.out _).mono ?_
      rintro e w1 ⟨rfl, hb1⟩
      have H1 := HB.out _ _ hb1
      have H1' : Hid (Below w.heap.size w w1) := H1
      clear hb1 H1 HB x0 x1 x2
      cases hq : okQ n q
      · have hR : Hid (R = 2) := HT.out.2 hq
        clear HT
        go_wp2
        go_ret
        exact ⟨by rw [hR.out]; rfl, H1'.out⟩
      · have HA : Hid ((L.take (k + 1)).all (okQ n) = true) := HT.out.1 hq
        clear HT
        go_wp2
        exact ⟨⟨k + 1, by omega, by go_num, HA.out, H1'.out⟩, by simp [intOf]; omega⟩
    · obtain rfl : k = L.length := by omega
      have HF : Hid (R = 0 ∧ Below w.heap.size w wr) := ⟨by have := HK.out.1; rw [List.take_length] at this; rw [HR.out, if_pos this], HK.out.2⟩
      clear HK
      go_wp2
      go_ret
      exact ⟨by rw [HF.out.1]; rfl, HF.out.2⟩

/-- What numbers that are handed in may be. -/
def nuB (x : Int) : Bool := decide (-1099511627776 ≤ x) && decide (x ≤ 1099511627776)
def chkN (xs : List Int) : Int := if 4096 < xs.length then 4 else if xs.all nuB = true then 0 else 2
theorem take_allL {α : Type} {L : List α} {p : α → Bool} {k : Nat} (hk : k < L.length) (h : (L.take k).all p = true) (hp : p L[k] = true) : (L.take (k + 1)).all p = true := by
  rw [← List.take_append_getElem hk, List.all_append, h]
  simp [hp]

end Go.Proofs.YthnhcphkpffkfaaGreat
