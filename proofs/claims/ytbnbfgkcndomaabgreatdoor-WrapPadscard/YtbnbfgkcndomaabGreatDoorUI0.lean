/-
  Nodes that may be: nodeMayBe and its leaves.
-/
import Derived.Test.YtbnbfgkcndomaabGreatDoorUE
import Derived.Test.YtbnbfgkcndomaabGreatDoorVTab
import Derived.Test.YtbnbfgkcndomaabGreatDoorRL5
namespace Go.Proofs.YtbnbfgkcndomaabGreatDoor
open Go.RowKit Go.Shelf

/-- All tables. -/
def Tbs (w : World) : Prop := Tabs w ∧ TabM w ∧ Tab w
theorem Tbs.below {w w' : World} (h : Tbs w) (hb : Below w.heap.size w w') : Tbs w' := ⟨h.1.below hb, h.2.1.below hb, h.2.2.below hb⟩
theorem Tbs.alloc {w : World} (h : Tbs w) (o : Obj) : Tbs (w.alloc o) := h.below ((Below.refl _ _).alloc (Nat.le_refl _) o)

set_option maxHeartbeats 1000000 in
theorem textMay_any (s : ByteArray) (m : Nat) (mi : Int) (hmi : mi = (m : Int)) (hm : m ≤ 65536) (w : World) (hT : Tab w) :
    Calls Tryz.prog 109 #[.string s, .int .i64 mi] w fun e w' => e = .returned (.bool (txB s m)) ∧ Below w.heap.size w w' := by
  by_cases hs : (s.size : Int) ≤ mi
  · have h2 : Hid (Calls Tryz.prog 134 #[.string s] w fun e w' => e = .returned (.bool (Lib.validD s.data.toList)) ∧ Below w.heap.size w w') := Any.utf8_ValidString Tryz.lays196 s w (by omega) hT
    have e1 : txB s m = Lib.validD s.data.toList := by simp [txB, show s.size ≤ m by omega]
    rw [e1]
    generalize Lib.validD s.data.toList = b at *
    clear e1 hm hmi
    go_enter Tryz.func109, Tryz.ntmps109
    go_wp2_with fail
    refine h2.out.mono ?_
    rintro e w1 ⟨rfl, hb⟩
    go_wp2
    go_ret
    exact ⟨rfl, hb⟩
  · have e1 : txB s m = false := by simp [txB, show ¬ s.size ≤ m by omega]
    rw [e1]
    clear e1 hm hmi
    go_enter Tryz.func109, Tryz.ntmps109
    go_wp2
    go_ret
    exact ⟨rfl, Below.refl _ _⟩

theorem sizeMay_ex (x y : Int) (w : World) :
    Calls Tryz.prog 71 #[.agg #[.int .i64 x, .int .i64 y]] w fun e w' => e = .returned (.bool (szB x y)) ∧ w' = w.alloc (.cells #[.int .i64 x, .int .i64 y] 23) := by
  have hS : Hid (∀ n lo hi w, Calls Tryz.prog 76 #[.int .i64 n, .int .i64 lo, .int .i64 hi] w fun e w' => e = .returned (.bool (fromTo n lo hi)) ∧ w' = w) := pwithin_any
  have main : ∀ b1 b2, fromTo x 0 16384 = b1 → fromTo y 0 16384 = b2 → Calls Tryz.prog 71 #[.agg #[.int .i64 x, .int .i64 y]] w fun e w' => e = .returned (.bool (b1 && b2)) ∧ w' = w.alloc (.cells #[.int .i64 x, .int .i64 y] 23) := by
    intro b1 b2 h1 h2
    cases b1 <;> cases b2
    all_goals
      go_enter Tryz.func71, Tryz.ntmps71
      go_wp2_with (go_at_call 76; refine (hS.out _ _ _ _).mono ?_; rintro e w1 ⟨rfl, rfl⟩)
      go_ret
      exact ⟨rfl, rfl⟩
  exact main _ _ rfl rfl

theorem mostMay_any (lo hi : Int) (w : World) :
    Calls Tryz.prog 110 #[.int .i64 lo, .int .i64 hi] w fun e w' => e = .returned (.bool (moB lo hi)) ∧ w' = w := by
  have main : ∀ b1 b2, (hi == 0) = b1 → decide (lo ≤ hi) = b2 → Calls Tryz.prog 110 #[.int .i64 lo, .int .i64 hi] w fun e w' => e = .returned (.bool (b1 || b2)) ∧ w' = w := by
    intro b1 b2 h1 h2
    cases b1 <;> cases b2
    all_goals
      go_enter Tryz.func110, Tryz.ntmps110
      go_wp2
      go_ret
      exact ⟨rfl, rfl⟩
  exact main _ _ rfl rfl

theorem isKind_any (k : Nat) (w : World) :
    Calls Tryz.prog 60 #[.int .u8 (k : Nat)] w fun e w' => e = .returned (.bool (kindB k)) ∧ w' = w := by
  have main : ∀ b1 b2, decide ((1 : Int) ≤ (k : Int)) = b1 → decide ((k : Int) ≤ 10) = b2 → Calls Tryz.prog 60 #[.int .u8 (k : Nat)] w fun e w' => e = .returned (.bool (b1 && b2)) ∧ w' = w := by
    intro b1 b2 h1 h2
    cases b1 <;> cases b2
    all_goals
      go_enter Tryz.func60, Tryz.ntmps60
      go_wp2
      go_ret
      exact ⟨rfl, rfl⟩
  have h := main _ _ rfl rfl
  rwa [show (decide ((1 : Int) ≤ (k : Int)) && decide ((k : Int) ≤ 10)) = kindB k by
    unfold kindB
    rw [show decide ((1 : Int) ≤ (k : Int)) = decide (1 ≤ k) by apply decide_eq_decide.2; omega, show decide ((k : Int) ≤ 10) = decide (k ≤ 10) by apply decide_eq_decide.2; omega]] at h

set_option maxHeartbeats 1000000 in
theorem mostParts_any (k : Nat) (w : World) :
    Calls Tryz.prog 62 #[.int .u8 (k : Nat)] w fun e w' => e = .returned (.int .i64 (mostP k)) ∧ w' = w := by
  have hc : k = 4 ∨ k = 5 ∨ k = 10 ∨ k = 6 ∨ (k ≠ 4 ∧ k ≠ 5 ∧ k ≠ 10 ∧ k ≠ 6) := by omega
  rcases hc with rfl | rfl | rfl | rfl | ⟨h1, h2, h3, h4⟩
  iterate 4
    · go_enter Tryz.func62, Tryz.ntmps62
      go_wp2
      go_ret
      exact ⟨rfl, rfl⟩
  · have e0 : mostP k = 0 := by simp [mostP, h1, h2, h3, h4]
    rw [e0]
    have k1 : ((k : Int) == 4) = false := beq_eq_false_iff_ne.2 (by omega)
    have k2 : ((k : Int) == 5) = false := beq_eq_false_iff_ne.2 (by omega)
    have k3 : ((k : Int) == 10) = false := beq_eq_false_iff_ne.2 (by omega)
    have k4 : ((k : Int) == 6) = false := beq_eq_false_iff_ne.2 (by omega)
    clear h1 h2 h3 h4 e0
    go_enter Tryz.func62, Tryz.ntmps62
    go_wp2
    go_ret
    exact ⟨rfl, rfl⟩


end Go.Proofs.YtbnbfgkcndomaabGreatDoor
