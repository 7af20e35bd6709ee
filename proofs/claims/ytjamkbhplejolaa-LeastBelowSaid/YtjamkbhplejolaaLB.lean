/-
  The document's Check; large; the lists of numbers that are the same.
-/
import Derived.Test.YtjamkbhplejolaaLA
namespace Go.Proofs.Ytjamkbhplejolaa
open Go.RowKit

set_option maxRecDepth 10000 in
set_option maxHeartbeats 4000000 in
theorem rcheck_any (n : Int) (L : List Bq) (v : Value) (w : World) (hv : BS w v L) :
    Calls Try.prog 25 #[.int .i64 n, v] w fun e w' => e = .returned (.int .i64 (chk n L)) ∧ Below w.heap.size w w' := by
  obtain ⟨oa, cap, rfl, hc, hg⟩ := hv
  have HG : Hid (0 < L.length → ∃ g o, oa = some ⟨g, o, none⟩ ∧ g < w.heap.size ∧ ∀ i (h : i < L.length), BqAt w g (o + i * 3) L[i]) := hg
  clear hg
  unfold chk
  by_cases h0 : n < 0
  · rw [if_pos h0]
    go_enter Try.func25, Try.ntmps25
    go_wp2
    go_ret
    exact ⟨rfl, Below.refl _ _⟩
  rw [if_neg h0]
  by_cases h1 : 4096 < n
  · rw [if_pos (.inl h1)]
    go_enter Try.func25, Try.ntmps25
    go_wp2
    go_ret
    exact ⟨rfl, Below.refl _ _⟩
  by_cases h2 : 4096 < L.length
  · rw [if_pos (.inr h2)]
    have i2 : (4096 : Int) < L.length := by omega
    go_enter Try.func25, Try.ntmps25
    go_wp2
    go_ret
    exact ⟨rfl, Below.refl _ _⟩
  rw [if_neg (by omega)]
  have i2 : ¬ (4096 : Int) < L.length := by omega
  obtain ⟨R, HR⟩ : ∃ R : Int, Hid (R = if L.all (okQ n) = true then 0 else 2) := ⟨_, rfl⟩
  rw [← HR.out]
  go_enter Try.func25, Try.ntmps25
  go_wp2_with fail
  go_loopw [5] (fun i wr => ∃ k : Nat, k ≤ L.length ∧ i = .int .i64 k ∧ Hid ((L.take k).all (okQ n) = true ∧ Below w.heap.size w wr)) (fun i _ => L.length - (intOf i).toNat)
  case atStart => exact ⟨0, Nat.zero_le _, rfl, rfl, Below.refl _ _⟩
  case round =>
    obtain ⟨k, hk, rfl, HK⟩ := hrel
    by_cases hlt : k < L.length
    · have ik : (k : Int) < L.length := by omega
      obtain ⟨g, o, rfl, hg, hat⟩ := HG.out (by omega)
      have hx := (hat k hlt).below HK.out.2 hg
      have HT : Hid ((okQ n L[k] = true → (L.take (k + 1)).all (okQ n) = true) ∧ (okQ n L[k] = false → R = 2)) := ⟨fun h => all_take hlt HK.out.1 h, fun h => by rw [HR.out, if_neg (by rw [all_not hlt h]; decide)]⟩
      have HB : Hid (∀ o, Below w.heap.size w (wr.alloc o)) := fun o => HK.out.2.alloc HK.out.2.size o
      obtain ⟨x0, x1, x2⟩ := hx
      clear hat HK
      generalize L[k] = q at *
      obtain ⟨qa, qb, qf⟩ := q
      have cs : qa < 0 ∨ (¬ qa < 0 ∧ n ≤ qa) ∨ (¬ qa < 0 ∧ ¬ n ≤ qa ∧ qb < 0) ∨ (¬ qa < 0 ∧ ¬ n ≤ qa ∧ ¬ qb < 0 ∧ n ≤ qb) ∨ (¬ qa < 0 ∧ ¬ n ≤ qa ∧ ¬ qb < 0 ∧ ¬ n ≤ qb ∧ qf < -1048576) ∨ (¬ qa < 0 ∧ ¬ n ≤ qa ∧ ¬ qb < 0 ∧ ¬ n ≤ qb ∧ ¬ qf < -1048576 ∧ 1048576 < qf) ∨ (¬ qa < 0 ∧ ¬ n ≤ qa ∧ ¬ qb < 0 ∧ ¬ n ≤ qb ∧ ¬ qf < -1048576 ∧ ¬ 1048576 < qf) := by omega
      have hno : Hid (¬ (0 ≤ qa ∧ qa < n ∧ 0 ≤ qb ∧ qb < n ∧ -1048576 ≤ qf ∧ qf ≤ 1048576) → R = 2) := fun h => HT.out.2 (by
        cases e : okQ n ⟨qa, qb, qf⟩
        · rfl
        · exact absurd ((okQ_iff _ _).1 e) h)
      rcases cs with c1 | ⟨c1, c2⟩ | ⟨c1, c2, c3⟩ | ⟨c1, c2, c3, c4⟩ | ⟨c1, c2, c3, c4, c5⟩ | ⟨c1, c2, c3, c4, c5, c6⟩ | ⟨c1, c2, c3, c4, c5, c6⟩
      case inr.inr.inr.inr.inr.inr =>
        have HA : Hid ((L.take (k + 1)).all (okQ n) = true) := HT.out.1 ((okQ_iff _ _).2 (by simp only; omega))
        clear HT hno
        go_wp2
        exact ⟨⟨k + 1, by omega, by go_num, HA.out, HB.out _⟩, by simp [intOf]; omega⟩
      all_goals
        have hR : Hid (R = 2) := hno.out (by omega)
        clear HT hno
        go_wp2
        go_ret
        exact ⟨by rw [hR.out]; rfl, HB.out _⟩
    · obtain rfl : k = L.length := by omega
      have HF : Hid (R = 0 ∧ Below w.heap.size w wr) := ⟨by have := HK.out.1; rw [List.take_length] at this; rw [HR.out, if_pos this], HK.out.2⟩
      clear HK
      go_wp2
      go_ret
      exact ⟨by rw [HF.out.1]; rfl, HF.out.2⟩

def larB (n : Int) (l : Nat) : Bool := (decide (200 < n) && decide (n ≤ 4096)) || (decide (400 < l) && decide (l ≤ 4096))

set_option maxHeartbeats 1000000 in
theorem large_any (n : Int) (oa : Option Addr) (l cap : Nat) (w : World) : Calls Try.prog 10 #[.int .i64 n, .slice oa l cap] w fun e w' => e = .returned (.bool (larB n l)) ∧ w' = w := by
  have cs : (200 < n ∧ n ≤ 4096) ∨ (200 < n ∧ ¬ n ≤ 4096 ∧ (400 : Int) < l) ∨ (200 < n ∧ ¬ n ≤ 4096 ∧ ¬ (400 : Int) < l) ∨ (¬ 200 < n ∧ (400 : Int) < l) ∨ (¬ 200 < n ∧ ¬ (400 : Int) < l) := by omega
  have HR : Hid (∀ R : Bool, larB n l = R → larB n l = R) := fun _ h => h
  rcases cs with ⟨c1, c2⟩ | ⟨c1, c2, c3⟩ | ⟨c1, c2, c3⟩ | ⟨c1, c3⟩ | ⟨c1, c3⟩
  · have HE : Hid (larB n l = true) := by unfold Hid larB; simp [c1, c2]
    rw [HE.out]; clear HE HR
    go_enter Try.func10, Try.ntmps10
    go_wp2
    go_ret
    exact ⟨rfl, rfl⟩
  · have HE : Hid (larB n l = decide ((l : Int) ≤ 4096)) := by unfold Hid larB; simp [c2, show 400 < l by omega]; omega
    rw [HE.out]; clear HE HR
    go_enter Try.func10, Try.ntmps10
    go_wp2
    go_ret
    exact ⟨rfl, rfl⟩
  · have HE : Hid (larB n l = false) := by unfold Hid larB; simp [c2, show ¬ 400 < l by omega]
    rw [HE.out]; clear HE HR
    go_enter Try.func10, Try.ntmps10
    go_wp2
    go_ret
    exact ⟨rfl, rfl⟩
  · have HE : Hid (larB n l = decide ((l : Int) ≤ 4096)) := by unfold Hid larB; simp [c1, show 400 < l by omega]; omega
    rw [HE.out]; clear HE HR
    go_enter Try.func10, Try.ntmps10
    go_wp2
    go_ret
    exact ⟨rfl, rfl⟩
  · have HE : Hid (larB n l = false) := by unfold Hid larB; simp [c1, show ¬ 400 < l by omega]
    rw [HE.out]; clear HE HR
    go_enter Try.func10, Try.ntmps10
    go_wp2
    go_ret
    exact ⟨rfl, rfl⟩

theorem take_eq {xs ys : List Int} (k : Nat) (hx : k < xs.length) (hy : k < ys.length) (h : xs.take k = ys.take k) (e : xs[k] = ys[k]) : xs.take (k + 1) = ys.take (k + 1) := by
  rw [← List.take_append_getElem hx, ← List.take_append_getElem hy, h, e]
theorem take_ne {xs ys : List Int} (k : Nat) (hx : k < xs.length) (hy : k < ys.length) (e : xs[k] ≠ ys[k]) : xs ≠ ys := by
  rintro rfl
  exact e rfl

set_option maxHeartbeats 1000000 in
theorem same_any (xs ys : List Int) (v u : Value) (w : World) (hv : IS w v xs) (hu : IS w u ys) (hm : xs.length ≤ 2000000) :
    Calls Try.prog 18 #[v, u] w fun e w' => e = .returned (.bool (decide (xs = ys))) ∧ Below w.heap.size w w' := by
  obtain ⟨oa, ca, rfl, hca, hga⟩ := hv
  obtain ⟨ob, cb, rfl, hcb, hgb⟩ := hu
  have HA : Hid (0 < xs.length → ∃ g o, oa = some ⟨g, o, none⟩ ∧ g < w.heap.size ∧ ∀ i (h : i < xs.length), w.cell? ⟨g, o + i, none⟩ = some (.int .i64 xs[i])) := hga
  have HB : Hid (0 < ys.length → ∃ g o, ob = some ⟨g, o, none⟩ ∧ g < w.heap.size ∧ ∀ i (h : i < ys.length), w.cell? ⟨g, o + i, none⟩ = some (.int .i64 ys[i])) := hgb
  clear hga hgb
  obtain ⟨R, HR⟩ : ∃ R, Hid (R = decide (xs = ys)) := ⟨_, rfl⟩
  rw [← HR.out]
  by_cases hl : xs.length = ys.length
  · rw [← hl]
    have HL0 : Hid (xs.length = ys.length) := hl
    rw [← hl] at hcb
    clear hl
    go_enter Try.func18, Try.ntmps18
    go_wp2_with fail
    go_loopw [5] (fun i wr => ∃ k : Nat, i = .int .i64 k ∧ k ≤ xs.length ∧ Hid (xs.take k = ys.take k ∧ Below w.heap.size w wr)) (fun i _ => xs.length - (intOf i).toNat)
    case atStart => exact ⟨0, rfl, Nat.zero_le _, rfl, Below.refl _ _⟩
    case round =>
      obtain ⟨k, rfl, hk, HK⟩ := hrel
      by_cases hlt : k < xs.length
      · have ik : (k : Int) < xs.length := by omega
        have hk2 : k < ys.length := by rw [← HL0.out]; exact hlt
        obtain ⟨g, o, rfl, hg, hat⟩ := HA.out (by omega)
        obtain ⟨g2, o2, rfl, hg2, hat2⟩ := HB.out (by omega)
        have x0 : wr.cell? ⟨g, o + k, none⟩ = some (.int .i64 xs[k]) := (HK.out.2.cell (p := ⟨g, o + k, none⟩) hg).trans (hat k hlt)
        have y0 : wr.cell? ⟨g2, o2 + k, none⟩ = some (.int .i64 ys[k]) := (HK.out.2.cell (p := ⟨g2, o2 + k, none⟩) hg2).trans (hat2 k hk2)
        have HT : Hid ((xs[k] = ys[k] → xs.take (k + 1) = ys.take (k + 1)) ∧ (xs[k] ≠ ys[k] → R = false)) := ⟨fun e => take_eq k hlt hk2 HK.out.1 e, fun e => by rw [HR.out]; exact decide_eq_false (take_ne k hlt hk2 e)⟩
        clear hat hat2
        generalize xs[k] = p at *
        generalize ys[k] = q at *
        clear hk2
        have HL : Hid (∀ n, Below w.heap.size w (wr.drewN n)) := fun n => below_drewN HK.out.2
        by_cases c : p = q
        · have H1 : Hid (xs.take (k + 1) = ys.take (k + 1)) := HT.out.1 c
          clear HT HK
          subst c
          go_wp2_with fail
          go_quiet (fail)
          go_wp2
          exact ⟨⟨k + 1, by go_num, by omega, H1.out, HL.out _⟩, by simp [intOf]; omega⟩
        · have H1 : Hid (R = false) := HT.out.2 c
          clear HT HK
          go_wp2_with fail
          go_quiet (fail)
          go_wp2
          go_ret
          exact ⟨by rw [H1.out]; rfl, HL.out _⟩
      · obtain rfl : k = xs.length := by omega
        have HF : Hid (R = true ∧ Below w.heap.size w wr) := by
          refine ⟨?_, HK.out.2⟩
          rw [HR.out]
          refine decide_eq_true ?_
          have h := HK.out.1
          rw [List.take_length] at h
          rw [h, HL0.out, List.take_length]
        clear HK
        go_wp2
        go_ret
        exact ⟨by rw [HF.out.1]; rfl, HF.out.2⟩
  · have H1 : Hid (R = false) := by unfold Hid; rw [HR.out]; exact decide_eq_false fun e => hl (by rw [e])
    have hi : ¬ (xs.length : Int) = ys.length := by omega
    clear hl
    go_enter Try.func18, Try.ntmps18
    go_wp2
    go_ret
    exact ⟨by rw [H1.out]; rfl, Below.refl _ _⟩

end Go.Proofs.Ytjamkbhplejolaa
