/-
  The sort's own calls: short rows, by insertion.
-/
import Derived.Test.YtobmpjmpffnoiaaDoorSO3
import Derived.Shelf.Abstract
namespace Go.Proofs.YtobmpjmpffnoiaaDoor
open Go.RowKit

/-- What is asked of the function that compares: of numbers below N, whatever else lies in memory. -/
def Cmps (s : Nat → Int) (N B g : Nat) (cb : Array Value) (w0 : World) : Prop :=
  ∀ (W : World) (x y : Nat), Ex B w0 W → x < N → y < N → Calls Tryd.prog g (#[.int .i64 x, .int .i64 y] ++ cb) W fun e w' => e = .returned (.int .i64 (if s x < s y then -1 else if s y < s x then 1 else 0)) ∧ Below W.heap.size W w'

/-- One that is on its way down: it stands at j. -/
structure Ins (s : Nat → Int) (f cur : Nat → Nat) (a i j : Nat) : Prop where
  pm : Perm f cur a (i + 1)
  me : cur j = f i
  lt : ∀ p, a ≤ p → p ≤ i → p ≠ j → cur p < f i
  up : ∀ q, j < q → q ≤ i → Wk s (cur j) (cur q)
  ord : ∀ p q, a ≤ p → p < q → q ≤ i → p ≠ j → q ≠ j → Wk s (cur p) (cur q)
theorem Ins.start {s : Nat → Int} {f cur : Nat → Nat} {a i : Nat} (hs : Srt s cur a i) (hp : Perm f cur a i) (hup : ∀ p, a ≤ p → p < i → f p < f i) : Ins s f cur a i i := by
  have hi : cur i = f i := hp.out i (by omega)
  refine ⟨hp.wide (Nat.le_refl _) (by omega), hi, fun p p1 p2 p3 => ?_, fun q q1 q2 => by omega, fun p q p1 p2 p3 p4 p5 => hs p q p1 p2 (by omega)⟩
  obtain ⟨k, k1, k2, e⟩ := hp.inn p p1 (by omega)
  rw [e]; exact hup k k1 k2
theorem Ins.step {s : Nat → Int} {f cur : Nat → Nat} {a i j : Nat} (h : Ins s f cur a i (j + 1)) (hj : a ≤ j) (hi : j + 1 ≤ i) (hl : s (cur (j + 1)) < s (cur j)) : Ins s f (swp2 cur (j + 1) j) a i j := by
  have v1 : swp2 cur (j + 1) j j = cur (j + 1) := by unfold swp2; rw [if_neg (by omega), if_pos rfl]
  have v2 : swp2 cur (j + 1) j (j + 1) = cur j := by unfold swp2; rw [if_pos rfl]
  have v3 : ∀ k, k ≠ j → k ≠ j + 1 → swp2 cur (j + 1) j k = cur k := fun k k1 k2 => by unfold swp2; rw [if_neg k2, if_neg k1]
  have hw : Wk s (cur (j + 1)) (cur j) := .inl hl
  refine ⟨h.pm.trans (swp2_perm _ _ _ _ _ (by omega) (by omega) hj (by omega)), by rw [v1, h.me], fun p p1 p2 p3 => ?_, fun q q1 q2 => ?_, fun p q p1 p2 p3 p4 p5 => ?_⟩
  · by_cases e : p = j + 1
    · subst e; rw [v2]; exact h.lt j hj (by omega) (by omega)
    · rw [v3 p p3 e]; exact h.lt p p1 p2 e
  · rw [v1]
    by_cases e : q = j + 1
    · subst e; rw [v2]; exact hw
    · rw [v3 q (by omega) e]; exact h.up q (by omega) q2
  · by_cases e : p = j + 1
    · subst e; rw [v2, v3 q p5 (by omega)]; exact h.ord j q hj (by omega) p3 (by omega) (by omega)
    · rw [v3 p p4 e]
      by_cases e' : q = j + 1
      · subst e'; rw [v2]; exact h.ord p j p1 (by omega) (by omega) e (by omega)
      · rw [v3 q p5 e']; exact h.ord p q p1 p2 p3 e e'
theorem Ins.stop {s : Nat → Int} {f cur : Nat → Nat} {a i j : Nat} (h : Ins s f cur a i j) (hj : a ≤ j) (hi : j ≤ i) (hl : a < j → ¬ s (cur j) < s (cur (j - 1))) : Srt s cur a (i + 1) := by
  intro p q p1 p2 p3
  by_cases ep : p = j
  · subst ep; exact h.up q p2 (by omega)
  · by_cases eq : q = j
    · subst eq
      have hw : Wk s (cur (q - 1)) (cur q) := (wk_hi (by rw [h.me]; exact h.lt (q - 1) (by omega) (by omega) (by omega))).2 (hl (by omega))
      by_cases e : p = q - 1
      · rw [e]; exact hw
      · exact (h.ord p (q - 1) p1 (by omega) (by omega) ep (by omega)).trans hw
    · exact h.ord p q p1 p2 (by omega) ep eq

set_option maxHeartbeats 1000000 in
theorem insertion_any (s : Nat → Int) (N B o n cap g : Nat) (cb : Array Value) (f : Nat → Nat) (a b : Nat) (w0 w : World) (hC : Cmps s N B g cb w0) (hX : Ex B w0 w) (eg : ∀ args w, (callFunc g args).run Tryd.prog w = .ok (.enter g args) w)
    (hR : Row w B o n f) (hN : ∀ i, i < n → f i < N) (hn : n < 1000000) (hab : a ≤ b) (hb : b ≤ n) (hup : ∀ i j, a ≤ i → i < j → j < b → f i < f j) :
    Calls Tryd.prog 64 #[.slice (some ⟨B, o, none⟩) n cap, .int .i64 a, .int .i64 b, .func (.func g) #[] cb] w fun e w' => e = .returned (.tuple #[]) ∧ ∃ f', Row w' B o n f' ∧ Mrg s f f' a b ∧ Ex B w w' := by
  go_enter Tryd.func64, Tryd.ntmps64
  go_wp2_with fail
  go_loopw [8] (fun vi wr => ∃ (i : Nat) (cur : Nat → Nat), vi = .int .i64 i ∧ a < i ∧ (i ≤ b ∨ (a = b ∧ i = a + 1 ∧ cur = f)) ∧ Row wr B o n cur ∧ Srt s cur a i ∧ Perm f cur a i ∧ Ex B w wr) (fun vi _ => b + 1 - (intOf vi).toNat)
  case atStart => exact ⟨a + 1, f, by go_num, by omega, by rcases Nat.lt_or_ge a b with h | h; exact .inl h; exact .inr ⟨by omega, rfl, rfl⟩, hR, fun p q p1 p2 p3 => by omega, Perm.refl _ _ _, Ex.refl _ _⟩
  case round =>
    obtain ⟨i, cur, rfl, hi, hib, R, S, P, X⟩ := hrel
    by_cases hlt : i < b
    · have HI : Hid (Row wr B o n cur ∧ Ins s f cur a i i ∧ Ex B w wr) := ⟨R, Ins.start S P (fun p p1 p2 => hup p i p1 p2 hlt), X⟩
      clear R S P X hR
      go_wp2_with fail
      go_loopw [9] (fun vj w2 => ∃ (j : Nat) (cu : Nat → Nat), vj = .int .i64 j ∧ a ≤ j ∧ j ≤ i ∧ Row w2 B o n cu ∧ Ins s f cu a i j ∧ Ex B w w2) (fun vj _ => (intOf vj).toNat)
      case atStart => exact ⟨i, cur, rfl, by omega, Nat.le_refl _, HI.out.1, HI.out.2.1, HI.out.2.2⟩
      case round =>
        obtain ⟨j, cu, rfl, haj, hji, R, I, X⟩ := hrel
        clear HI
        have OUT : Hid ((a < j → ¬ s (cu j) < s (cu (j - 1))) → ∀ W, Below wr.heap.size wr W → ∃ (i' : Nat) (cur : Nat → Nat), Value.int .i64 ((i : Int) + 1) = .int .i64 i' ∧ a < i' ∧ (i' ≤ b ∨ (a = b ∧ i' = a + 1 ∧ cur = f)) ∧ Row W B o n cur ∧ Srt s cur a i' ∧ Perm f cur a i' ∧ Ex B w W) := fun hs W hb =>
          ⟨i + 1, cu, by go_num, by omega, .inl (by omega), R.below hb, I.stop haj hji hs, I.pm, X.trans (Ex.of (Nat.le_of_lt R.lt) hb)⟩
        have L : Below wr.heap.size wr wr := Below.refl _ _
        have ne := gw_ne L
        clear L
        by_cases hja : a < j
        · obtain ⟨p, ep⟩ : ∃ p, p = j - 1 := ⟨_, rfl⟩
          have z1 : (j : Int) - 1 = (p : Int) := by omega
          have l1 : (j : Int) < (n : Int) := by omega
          have l2 : (p : Int) < (n : Int) := by omega
          have g1 : decide ((a : Int) < (j : Int)) = true := decide_eq_true (by omega)
          have c1 := fun t : Gw wr => (R.below t.below).at' j (by omega)
          have c2 := fun t : Gw wr => (R.below t.below).at' p (by omega)
          have HC : Hid (∀ t : Gw wr, Calls Tryd.prog g (#[.int .i64 (cu j), .int .i64 (cu p)] ++ cb) t.wd fun e w' => e = .returned (.int .i64 (if s (cu j) < s (cu p) then -1 else if s (cu p) < s (cu j) then 1 else 0)) ∧ Below t.wd.heap.size t.wd w') := fun t => by
            obtain ⟨k1, _, k2, e⟩ := I.pm.inn j haj (by omega)
            obtain ⟨k3, _, k4, e'⟩ := I.pm.inn p (by omega) (by omega)
            exact hC _ _ _ ((hX.trans X).trans (Ex.of (Nat.le_of_lt R.lt) t.below)) (by rw [e]; exact hN _ (by omega)) (by rw [e']; exact hN _ (by omega))
          have HP : Hid (p = j - 1 ∧ Row wr B o n cu ∧ Ins s f cu a i j ∧ Ex B w wr) := ⟨ep, R, I, X⟩
          clear ep R I X
          by_cases hl : s (cu j) < s (cu p)
          · rw [if_pos hl] at HC
            have HL : Hid (s (cu j) < s (cu p)) := hl
            clear hl OUT
            generalize hx1 : cu j = x1 at c1 HC
            generalize hx2 : cu p = x2 at c2 HC
            have HY : Hid (cu j = x1 ∧ cu p = x2) := ⟨hx1, hx2⟩
            clear hx1 hx2
            go_wp2_with fail
            refine wp_region_gw (by kernel_rfl) (by kernel_rfl) ?_
            repeat (go_big_quiet_step (first
              | (go_at_fn g; exact gw_call (HC.out _))))
            refine wpQuiet_nil ?_
            rintro _ ⟨t, rfl⟩
            go_wp2_with fail
            obtain ⟨ep, R, I, X⟩ := HP.out
            obtain ⟨y1, y2⟩ := HY.out
            have R3 := R.below t.below
            have X3 := X.trans (Ex.of (Nat.le_of_lt R.lt) t.below)
            have d1 := c1 t
            have d2 := c2 t
            have f1 := R3.fr (o + j)
            have f2 := R3.fr (o + p)
            have nj : j ≠ p := by omega
            have H3 : Hid (Row t.wd B o n cu ∧ Ex B w t.wd) := ⟨R3, X3⟩
            clear R3 X3 c1 c2 HC R I X ep y1 y2 ne
            generalize t.wd = w3 at *
            go_big_region
            all_goals go_wp2
            obtain ⟨ep, _, I, _⟩ := HP.out
            obtain ⟨y1, y2⟩ := HY.out
            go_roundw
            case rel =>
              refine ⟨p, swp2 cu j p, rfl, by omega, by omega, Row.drew ?_, ?_, ((H3.out.2.set _ _).set _ _).drew⟩
              · have h := H3.out.1.swap j p (by omega) (by omega)
                rw [y1, y2] at h
                exact h
              · obtain rfl : j = p + 1 := by omega
                exact I.step (by omega) hji HL.out
            case measure => simp [intOf]; omega
          · rw [if_neg hl] at HC
            generalize hV : (if s (cu p) < s (cu j) then (1 : Int) else 0) = V at HC
            have v0 : ¬ V < 0 := by rw [← hV]; split <;> omega
            have v1 : decide (V < 0) = false := decide_eq_false v0
            have HL : Hid (¬ s (cu j) < s (cu p)) := hl
            clear hl hV
            generalize cu j = x1 at c1 HC
            generalize cu p = x2 at c2 HC
            go_wp2_with fail
            refine wp_region_gw (by kernel_rfl) (by kernel_rfl) ?_
            repeat (go_big_quiet_step (first
              | (go_at_fn g; exact gw_call (HC.out _))))
            refine wpQuiet_nil ?_
            rintro _ ⟨t, rfl⟩
            go_wp2
            go_roundw
            case rel => exact OUT.out (fun _ => by rw [← HP.out.1]; exact HL.out) _ t.below
            case measure => simp [intOf]; omega
        · have g1 : decide ((a : Int) < (j : Int)) = false := decide_eq_false (by omega)
          clear R I X
          go_wp2_with fail
          refine wp_region_gw (by kernel_rfl) (by kernel_rfl) ?_
          repeat (go_big_quiet_step (fail))
          refine wpQuiet_nil ?_
          rintro _ ⟨t, rfl⟩
          go_wp2
          go_roundw
          case rel => exact OUT.out (fun h => absurd h hja) _ t.below
          case measure => simp [intOf]; omega
    · go_wp2
      go_end0
      rcases hib with h | ⟨h1, h2, rfl⟩
      · obtain rfl : i = b := by omega
        exact ⟨rfl, cur, R, ⟨S, P⟩, X⟩
      · subst h1
        exact ⟨rfl, cur, R, ⟨fun p q p1 p2 p3 => by omega, Perm.refl _ _ _⟩, X⟩

end Go.Proofs.YtobmpjmpffnoiaaDoor
