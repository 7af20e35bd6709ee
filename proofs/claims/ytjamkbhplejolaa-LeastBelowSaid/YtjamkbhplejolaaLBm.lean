/-
  LeastBelow, of any lists.
-/
import Derived.Test.YtjamkbhplejolaaLBl
namespace Go.Proofs.Ytjamkbhplejolaa
open Go.RowKit

set_option maxRecDepth 10000 in
set_option maxHeartbeats 4000000 in
theorem below_walk (xs : List Int) (L : List Bq) (most : Int) (u v : Value) (w : World) (hu : IS w u xs) (hv : BS w v L) :
    Calls Try.prog 5 #[u, v, .int .i64 most] w fun e w' => e = .returned (.bool true) ∧ Below w.heap.size w w' := by
  have HA : Hid (Calls Try.prog 9 #[] w fun e w' => e = .returned (.bool true) ∧ Below w.heap.size w w') := awake_any w
  have HV : Hid (BS w v L ∧ IS w u xs) := ⟨hv, hu⟩
  obtain ⟨oa, cap, rfl, hc, hg0⟩ := id hv
  obtain ⟨ou, cu, rfl, hcu, hgu⟩ := is_at hu
  by_cases hn1 : 200 < xs.length
  · have i1 : (200 : Int) < xs.length := by omega
    clear hv hu hg0 hgu
    go_enter Try.func5, Try.ntmps5
    go_wp2_with fail
    refine HA.out.mono ?_
    rintro e w1 ⟨rfl, hb1⟩
    have F1 : Hid (Below w.heap.size w w1) := hb1
    clear hb1
    go_wp2
    go_ret
    exact ⟨rfl, F1.out⟩
  by_cases hn2 : 400 < L.length
  · have i1 : ¬ (200 : Int) < xs.length := by omega
    have i2 : (400 : Int) < L.length := by omega
    clear hv hu hg0 hgu
    go_enter Try.func5, Try.ntmps5
    go_wp2_with fail
    refine HA.out.mono ?_
    rintro e w1 ⟨rfl, hb1⟩
    have F1 : Hid (Below w.heap.size w w1) := hb1
    clear hb1
    go_wp2
    go_ret
    exact ⟨rfl, F1.out⟩
  have hz : solE xs.length L = 0 → ∃ T : List Nat, tgL xs.length L = toI T ∧ (solL xs.length L).length = xs.length ∧ T.length ≤ 400 ∧
      (∀ i, i < xs.length → 0 ≤ atF (solL xs.length L) i ∧ (0 < atF (solL xs.length L) i → hdB (nat L) T T.length i = true) ∧ (finB xs L = true → atF (solL xs.length L) i ≤ atF xs i)) ∧
      (∀ j k : Nat, T[j]? = some k → k < L.length) ∧ (∀ j k m : Nat, T[j]? = some k → T[j + 1]? = some m → k < m) ∧
      kpN (solL xs.length L) L = -1 ∧ kpE (solL xs.length L) L = 0 ∧ ∀ q ∈ L, okQ xs.length q = true := below_zero (by omega) (by omega)
  obtain ⟨T, hT⟩ : ∃ T : List Nat, solE xs.length L = 0 → tgL xs.length L = toI T ∧ (solL xs.length L).length = xs.length ∧ T.length ≤ 400 ∧
      (∀ i, i < xs.length → 0 ≤ atF (solL xs.length L) i ∧ (0 < atF (solL xs.length L) i → hdB (nat L) T T.length i = true) ∧ (finB xs L = true → atF (solL xs.length L) i ≤ atF xs i)) ∧
      (∀ j k : Nat, T[j]? = some k → k < L.length) ∧ (∀ j k m : Nat, T[j]? = some k → T[j + 1]? = some m → k < m) ∧
      kpN (solL xs.length L) L = -1 ∧ kpE (solL xs.length L) L = 0 ∧ ∀ q ∈ L, okQ xs.length q = true := by
    by_cases c : solE xs.length L = 0
    · obtain ⟨T, h⟩ := hz c
      exact ⟨T, fun _ => h⟩
    · exact ⟨[], fun h => absurd h c⟩
  have tl_at : solE xs.length L = 0 → ∀ j k : Nat, T[j]? = some k → atF (tgL xs.length L) j = k := fun he j k h => by
    rw [(hT he).1]
    unfold atF toI
    rw [List.getD_eq_getElem?_getD, List.getElem?_map, h]
    rfl
  have tl_len : solE xs.length L = 0 → (tgL xs.length L).length = T.length := fun he => by rw [(hT he).1, toI_len]
  refine below_core xs.length L.length (solL xs.length L).length (tgL xs.length L).length (moL xs.length L most).length (solE xs.length L) (moE xs.length L most) (kpN xs L) (kpE xs L) most (fin0 xs L) (finB xs L) (undB xs L most) xs (solL xs.length L) (tgL xs.length L) (moL xs.length L most) T (nat L) w ou oa cu cap (by omega) (by omega) ⟨hgu, rfl⟩ HA ?_ ?_ ?_ ?_ ?_ ?_ ?_ ?_ ?_ ?_ ?_ ?_ ?_
  · exact fun W h => (Solve_any xs.length L _ W (hv.below h)).mono fun e w' k => sl_of rfl k
  · exact fun W h => (Tight_any xs.length L _ W (hv.below h)).mono fun e w' k => sl_of rfl k
  · exact fun W h => (Most_any xs.length L most _ W (hv.below h)).mono fun e w' k => sl_of rfl k
  · exact fun W h => Keeps_any xs L _ _ W (hu.below h) (hv.below h)
  · intro he W y h k
    have := Keeps_any (solL xs.length L) L y _ W k (hv.below h)
    rw [(hT he).2.2.2.2.2.2.1, (hT he).2.2.2.2.2.2.2.1] at this
    exact this
  · intro he hm W y h k
    have := Keeps_any (moL xs.length L most) L y _ W k (hv.below h)
    rw [(below_most he hm).2.1, (below_most he hm).2.2.1] at this
    exact this
  · intro he
    exact ⟨by rw [sol_nil he]; rfl, mo_none he, fun h => fin_none h⟩
  · intro he
    obtain ⟨h1, h2, h3, h4, h5, h6, h7, h8, h9⟩ := hT he
    refine ⟨h2, by rw [tl_len he]; exact h3, by rw [tl_len he]; exact h4, fun j hj => ?_, fun j hj => ?_⟩
    · rw [tl_len he] at hj
      have a1 : T[j]? = some T[j] := List.getElem?_eq_getElem (by omega)
      have a2 : T[j + 1]? = some T[j + 1] := List.getElem?_eq_getElem hj
      rw [tl_at he _ _ a1, tl_at he _ _ a2]
      have := h6 _ _ _ a1 a2
      omega
    · rw [tl_len he] at hj
      have a1 : T[j]? = some T[j] := List.getElem?_eq_getElem hj
      have l1 := h5 _ _ a1
      obtain ⟨A, B, f, hA, hB, f1, f2, e1, e2⟩ := bound_at h9 l1
      obtain ⟨g, o, e0, hgl, hat⟩ := hg0 (by omega)
      refine ⟨T[j], A, B, g, o, f, a1, tl_at he _ _ a1, l1, hB, e2, e0, hgl, ?_⟩
      rw [← e1]
      exact hat _ l1
  · intro he hm
    exact ⟨by rw [mo_nil hm]; rfl, fun h => mo_90 he h⟩
  · intro he hm
    obtain ⟨m1, _, _, m4⟩ := below_most he hm
    exact ⟨m1, m4⟩
  · unfold Hid; rfl
  · unfold Hid; rfl
  · unfold Hid; rfl

end Go.Proofs.Ytjamkbhplejolaa
