/-
  The document's Check; large; the lists of numbers that are the same.
-/
import Derived.Test.YthnhcphkpffkfaaGreatLA
namespace Go.Proofs.YthnhcphkpffkfaaGreat
open Go.RowKit

set_option maxRecDepth 10000 in
set_option maxHeartbeats 4000000 in
theorem rcheck_bn (n : Int) (L : List Bq) (v : Value) (w : World) (hv : BS w v L) :
    Calls Tryz.prog 83 #[.int .i64 n, v] w fun e w' => e = .returned (.int .i64 (chkQ n L)) ∧ Below w.heap.size w w' := by
  obtain ⟨oa, cap, rfl, hc, hg⟩ := hv
  have HG : Hid (0 < L.length → ∃ g o, oa = some ⟨g, o, none⟩ ∧ g < w.heap.size ∧ ∀ i (h : i < L.length), BqAt w g (o + i * 3) L[i]) := hg
  clear hg
  unfold chkQ
  by_cases h0 : n < 0
  · rw [if_pos h0]
    go_enter Tryz.func83, Tryz.ntmps83
    go_wp2
    go_ret
    exact ⟨rfl, Below.refl _ _⟩
  rw [if_neg h0]
  by_cases h1 : 4096 < n
  · rw [if_pos (.inl h1)]
    go_enter Tryz.func83, Tryz.ntmps83
    go_wp2
    go_ret
    exact ⟨rfl, Below.refl _ _⟩
  by_cases h2 : 4096 < L.length
  · rw [if_pos (.inr h2)]
    have i2 : (4096 : Int) < L.length := by omega
    go_enter Tryz.func83, Tryz.ntmps83
    go_wp2
    go_ret
    exact ⟨rfl, Below.refl _ _⟩
  rw [if_neg (by omega)]
  have i2 : ¬ (4096 : Int) < L.length := by omega
  obtain ⟨R, HR⟩ : ∃ R : Int, Hid (R = if L.all (okQ n) = true then 0 else 2) := ⟨_, rfl⟩
  rw [← HR.out]
  go_enter Tryz.func83, Tryz.ntmps83
  go_wp2_with fail
  go_loopw [5] (fun i wr => ∃ k : Nat, k ≤ L.length ∧ i = .int .i64 k ∧ Hid ((L.take k).all (okQ n) = true ∧ Below w.heap.size w wr)) (fun i _ => L.length - (intOf i).toNat)
  case atStart => exact ⟨0, Nat.zero_le _, rfl, rfl, Below.refl _ _⟩
  case round =>
    obtain ⟨k, hk, rfl, HK⟩ := hrel
    by_cases hlt : k < L.length
    · have ik : (k : Int) < L.length := by omega
      obtain ⟨g, o, rfl, hg, hat⟩ := HG.out (by omega)
      have hx := (hat k hlt).below HK.out.2 hg
      have HT : Hid ((okQ n L[k] = true → (L.take (k + 1)).all (okQ n) = true) ∧ (okQ n L[k] = false → R = 2)) := ⟨fun h => all_take hlt HK.out.1 h, fun h => by rw [HR.out, if_neg (by rw [all_notL hlt h]; decide)]⟩
      have HB : Hid (∀ o, Below w.heap.size w (wr.alloc o)) := fun o => HK.out.2.alloc HK.out.2.size o
      obtain ⟨x0, x1, x2⟩ := hx
      clear hat HK
      generalize L[k] = q at *
      obtain ⟨qa, qb, qf⟩ := q
      have cs : qa < 0 ∨ (¬ qa < 0 ∧ n ≤ qa) ∨ (¬ qa < 0 ∧ ¬ n ≤ qa ∧ qb < 0) ∨ (¬ qa < 0 ∧ ¬ n ≤ qa ∧ ¬ qb < 0 ∧ n ≤ qb) ∨ (¬ qa < 0 ∧ ¬ n ≤ qa ∧ ¬ qb < 0 ∧ ¬ n ≤ qb ∧ qf < -1048576) ∨ (¬ qa < 0 ∧ ¬ n ≤ qa ∧ ¬ qb < 0 ∧ ¬ n ≤ qb ∧ ¬ qf < -1048576 ∧ 1048576 < qf) ∨ (¬ qa < 0 ∧ ¬ n ≤ qa ∧ ¬ qb < 0 ∧ ¬ n ≤ qb ∧ ¬ qf < -1048576 ∧ ¬ 1048576 < qf) := by omega
      have hno : Hid (¬ (0 ≤ qa ∧ qa < n ∧ 0 ≤ qb ∧ qb < n ∧ -1048576 ≤ qf ∧ qf ≤ 1048576) → R = 2) := fun h => HT.out.2 (by
        cases e : okQ n ⟨qa, qb, qf⟩
        · rfl
        · exact absurd ((okQ_iff _ _).1 e) h)
      rcases cs with c1 | ⟨c1, c2⟩ | ⟨c1, c2, c3⟩ | ⟨c1, c2, c3, c4⟩ | ⟨c1, c2, c3, c4, c5⟩ | ⟨c1, c2, c3, c4, c5, c6⟩ | ⟨c1, c2, c3, c4, c5, c6⟩
      case inr.inr.inr.inr.inr.inr =>
        have HA : Hid ((L.take (k + 1)).all (okQ n) = true) := HT.out.1 ((okQ_iff _ _).2 (by simp only; omega))
        clear HT hno
        go_wp2
        exact ⟨⟨k + 1, by omega, by go_num, HA.out, HB.out _⟩, by simp [intOf]; omega⟩
      all_goals
        have hR : Hid (R = 2) := hno.out (by omega)
        clear HT hno
        go_wp2
        go_ret
        exact ⟨by rw [hR.out]; rfl, HB.out _⟩
    · obtain rfl : k = L.length := by omega
      have HF : Hid (R = 0 ∧ Below w.heap.size w wr) := ⟨by have := HK.out.1; rw [List.take_length] at this; rw [HR.out, if_pos this], HK.out.2⟩
      clear HK
      go_wp2
      go_ret
      exact ⟨by rw [HF.out.1]; rfl, HF.out.2⟩

def larB (n : Int) (l : Nat) : Bool := (decide (200 < n) && decide (n ≤ 4096)) || (decide (400 < l) && decide (l ≤ 4096))

theorem take_eqL {xs ys : List Int} (k : Nat) (hx : k < xs.length) (hy : k < ys.length) (h : xs.take k = ys.take k) (e : xs[k] = ys[k]) : xs.take (k + 1) = ys.take (k + 1) := by
  rw [← List.take_append_getElem hx, ← List.take_append_getElem hy, h, e]
theorem take_neL {xs ys : List Int} (k : Nat) (hx : k < xs.length) (hy : k < ys.length) (e : xs[k] ≠ ys[k]) : xs ≠ ys := by
  rintro rfl
  exact e rfl

end Go.Proofs.YthnhcphkpffkfaaGreat
