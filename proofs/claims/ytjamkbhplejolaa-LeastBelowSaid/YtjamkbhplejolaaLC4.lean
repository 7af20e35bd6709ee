/-
  The way round, begun with its least number.
-/
import Derived.Test.YtjamkbhplejolaaLC3
namespace Go.Proofs.Ytjamkbhplejolaa
open Go.RowKit Go.Shelf

theorem is_from {w : World} {g cap f : Nat} {xs : List Int} (h : IS w (.slice (some ⟨g, 0, none⟩) xs.length cap) xs) (hf : f < xs.length) : IS w (.slice (some ⟨g, f, none⟩) (xs.length - f) (cap - f)) (xs.drop f) := by
  obtain ⟨oa, c2, e, hc, hg⟩ := h
  injection e with e1 _ e3
  subst e1 e3
  obtain ⟨g', o, e4, hl, hat⟩ := hg (by omega)
  injection e4 with e4
  injection e4 with e5 e6 _
  subst e5 e6
  refine ⟨_, cap - f, by rw [List.length_drop], by rw [List.length_drop]; omega, fun _ => ⟨g, f, rfl, hl, fun i hi => ?_⟩⟩
  rw [List.length_drop] at hi
  rw [List.getElem_drop, ← hat (f + i) (by omega), Nat.zero_add]
theorem is_upto {w : World} {g cap f : Nat} {xs : List Int} (h : IS w (.slice (some ⟨g, 0, none⟩) xs.length cap) xs) (hf : f < xs.length) : IS w (.slice (some ⟨g, 0, none⟩) f cap) (xs.take f) := by
  obtain ⟨oa, c2, e, hc, hg⟩ := h
  injection e with e1 _ e3
  subst e1 e3
  obtain ⟨g', o, e4, hl, hat⟩ := hg (by omega)
  injection e4 with e4
  injection e4 with e5 e6 _
  subst e5 e6
  refine ⟨_, cap, by rw [List.length_take]; congr 1; omega, by rw [List.length_take]; omega, fun _ => ⟨g, 0, rfl, hl, fun i hi => ?_⟩⟩
  rw [List.length_take] at hi
  rw [List.getElem_take, ← hat i (by omega)]

set_option maxRecDepth 10000 in
set_option maxHeartbeats 4000000 in
theorem begun_any (xs : List Int) (g cap : Nat) (w : World) (hv : IS w (.slice (some ⟨g, 0, none⟩) xs.length cap) xs) (hl : xs.length ≤ 4096) (f : Nat) (hf : f < xs.length) (hm : ∀ j (h : j < xs.length), xs[f] ≤ xs[j]) (hn : ∀ j (h : j < xs.length), j < f → xs[j] ≠ xs[f]) :
    Calls Try.prog 40 #[.slice (some ⟨g, 0, none⟩) xs.length cap] w fun e w' => ∃ u, e = .returned u ∧ OwI w.heap.size w' u (xs.drop f ++ xs.take f) ∧ Below w.heap.size w w' := by
  have HM : Hid (Calls Try.prog 44 #[.slice (some ⟨g, 0, none⟩) xs.length cap] w fun e w' => e = .returned (.int .i64 xs[f]) ∧ w' = w) := min_any xs _ w hv (by omega) hl f hf hm
  have HX : Hid (Calls Try.prog 43 #[.slice (some ⟨g, 0, none⟩) xs.length cap, .int .i64 xs[f]] w fun e w' => e = .returned (.int .i64 f) ∧ w' = w) := index_any xs _ w hv hl f hf hn
  have HC : Hid (∀ hb W, Below w.heap.size w W → Bk W hb #[.slice (some ⟨g, f, none⟩) (xs.length - f) (cap - f), .slice (some ⟨g, 0, none⟩) f cap] 26 → Calls Try.prog 45 #[.slice (some ⟨hb, 0, none⟩) 2 2] W fun e w' => ∃ u, e = .returned u ∧ Hid (OwI w.heap.size w' u (xs.drop f ++ xs.take f) ∧ Below w.heap.size w w')) := fun hb W h hk =>
    (concat_any (xs.drop f) (xs.take f) _ _ hb W (is_from (hv.below h) hf) (is_upto (hv.below h) hf) (fun c hc => by injection hc with h1 _ _; cases h1) (fun c hc => by injection hc with h1 _ _; cases h1) hk (by simp; omega) (by simp; omega)).mono fun e w' ⟨u, he, ho, hb⟩ => ⟨u, he, OwI.weaken ho h.size, h.trans (hb.mono h.size)⟩
  have hc : xs.length ≤ cap := by
    obtain ⟨oa, c2, e, hc, _⟩ := hv
    injection e with _ _ e3
    subst e3
    exact hc
  generalize xs[f] = r at *
  clear hv hm hn
  obtain ⟨n, Hn⟩ : ∃ n, Hid (n = xs.length) := ⟨xs.length, by unfold Hid; rfl⟩
  rw [← Hn.out] at HM HX HC hc hf hl ⊢
  have i1 : (f : Int) ≤ n := by omega
  have i2 : (f : Int) ≤ cap := by omega
  have i3 : ¬ f = cap := by omega
  go_enter Try.func40, Try.ntmps40
  go_wp2_with fail
  refine HM.out.mono ?_
  rintro e w1 ⟨rfl, rfl⟩
  go_wp2_with fail
  refine HX.out.mono ?_
  rintro e w2 ⟨rfl, rfl⟩
  go_wp2_with fail
  refine R4.wp_region_lit 6 1 2 (fun _ b => .slice (some ⟨b, 0, none⟩) 2 2) (fun _ => .cells #[.slice (some ⟨g, f, none⟩) (n - f) (cap - f), .slice (some ⟨g, 0, none⟩) f cap] 26) [14] (by kernel_rfl) (by kernel_rfl) rfl ?_ rfl ?_
  · intro k hk
    have hc : k = 0 := by omega
    subst hc; rfl
  apply Exists.intro
  refine ⟨fun bs ne => ?_, ?_, ?_⟩
  · simp only [List.take_succ_cons, List.take_zero]
    repeat (go_big_quiet_step (fail))
    exact wpQuiet_nil rfl
  · intro i h1 h2
    have hc : i = 6 := by omega
    subst hc
    exact ⟨_, rfl, rfl, fun _ => by kernel_rfl⟩
  intro bl wx hbl hlo _
  obtain ⟨q1, q2⟩ := hlo 6 (by omega) (by omega)
  simp only [R4.layL]
  generalize bl 6 = g0 at *
  clear hlo
  have HH : Hid (Below w2.heap.size w2 wx ∧ Bk wx g0 #[.slice (some ⟨g, f, none⟩) (n - f) (cap - f), .slice (some ⟨g, 0, none⟩) f cap] 26) := ⟨hbl, q2⟩
  clear hbl q1 q2
  refine wpAny_one 7 (by kernel_rfl) rfl ?_
  intro K hK
  go_simp
  refine (HC.out g0 _ HH.out.1 HH.out.2).mono ?_
  rintro e w3 ⟨u, rfl, HU⟩
  refine hK _ _ ?_
  clear hK K
  refine wpAny_one 8 (by kernel_rfl) rfl ?_
  intro K hK
  go_simp
  refine hK _ _ ?_
  clear hK K
  refine wpAny_done (by kernel_rfl) ?_ _
  go_wp2
  go_ret
  exact ⟨_, rfl, HU.out.1, HU.out.2⟩

end Go.Proofs.Ytjamkbhplejolaa
