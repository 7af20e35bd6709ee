/-
  The contract of runes.Back.
-/
import Derived.Test.YtlooemhaoikidaaDoorRN
namespace Go.Proofs.YtlooemhaoikidaaDoor
open Go.RowKit Go.Shelf
attribute [local go_sem] Oper.semAt_some

/-- What Back answers. -/
def backB (s : ByteArray) (p : Int) : Bool := decide (1 ≤ p) && decide (p ≤ s.size)
def backN (s : ByteArray) (p : Int) : Int := if backB s p then (backL (pcs s) p 0 : Nat) else 0

set_option maxHeartbeats 1000000 in
theorem back_any (s : ByteArray) (p : Int) (w : World) (T : Tabs w) :
    Calls Tryd.prog 25 #[.string s, .int .i64 p] w fun e w' => e = .returned (.tuple #[.int .i64 (backN s p), .bool (backB s p)]) ∧ Below w.heap.size w w' := by
  refine (callsIn_wide (n := 3)).1 ?_
  refine callsIn_of_wp_marks Tryd.func25 rfl trivial ?_ rfl
  simp only [Tryd.ntmps25, List.size_toArray, List.length_cons, List.length_nil, Nat.reduceAdd, Nat.reduceSub, Array.replicate_succ, Array.replicate_zero, List.push_toArray, List.append_toArray, List.nil_append, List.cons_append]
  by_cases hp : p < 1
  · gi_wp2
    obtain ⟨W, hW⟩ : ∃ W, W = w.alloc (.cells #[.int .i64 p] 3) := ⟨_, rfl⟩
    obtain ⟨sW, bW, k0⟩ := boxes1 w (.int .i64 p) 3 W hW
    rw [← hW]
    exact leave0 (results_two rfl _ _ _) ⟨by simp [backN, backB, show ¬ 1 ≤ p by omega], bW⟩
  by_cases hq : p ≤ s.size
  · gi_wp2_with fail
    refine ⟨trivial, (callsIn_wide.2 (pieces_any s _)).mono ?_⟩
    rintro e w1 ⟨rfl, rfl⟩
    gi_wp2_with fail
    obtain ⟨W, hW⟩ : ∃ W, W = ((w.alloc (.cells #[.int .i64 p] 3)).alloc (.cells #[.int .i64 0] 3)).alloc (.cells #[.string s] 9) := ⟨_, rfl⟩
    obtain ⟨sW, bW, k0, k1, k2⟩ := boxes3 w (.int .i64 p) (.int .i64 0) (.string s) 3 3 9 W hW
    rw [← hW]
    clear hW
    refine range_p w T (w.heap.size + 2) s (Same.of bW) k2 (fun k => w.heap.size ≤ k ∧ k < w.heap.size + 2) (fun k hk => ⟨hk.1, by omega, by omega, by omega⟩) rfl rfl
      (fun pre V => (Blk V w.heap.size #[.int .i64 p] 3 ∧ Blk V (w.heap.size + 1) #[.int .i64 (lastFr pre 0 : Nat)] 3 ∧ Below w.heap.size w V) ∧ (∀ rest, backL (pre ++ rest) p 0 = backL rest p (lastFr pre 0)))
      (fun c pre V => (Blk V (w.heap.size + 1) #[.int .i64 (backL pre p 0 : Nat)] 3 ∧ Below w.heap.size w V) ∧ (c = .exit 0 ∧ ∀ rest, backL (pre ++ rest) p 0 = backL pre p 0))
      ?hI ?hIx ?hS ?hSx ⟨⟨k0, k1, bW⟩, fun rest => by simp [lastFr]⟩
      (BoxP (w.heap.size + 2) (fun x b => { tmps := #[.string s, .int .i64 p, undef, .pointer (some ⟨w.heap.size, 0, none⟩), .int .i64 0, .bool false, .pointer (some ⟨w.heap.size + 1, 0, none⟩), .pointer (some ⟨b, 0, none⟩), .int .i64 p, .bool false, .bool false, .int .i64 p, .string s, .int .i64 s.size, .bool (decide ((s.size : Int) < p)), .bool (decide ((s.size : Int) < p)), .string s, .func (.func 54) #[] #[.pointer (some ⟨w.heap.size + 1 + 1, 0, none⟩)], pcV x.fr x.to x.r (width x.r), undef, undef, undef, undef, undef, undef, undef], defers := [] })) (boxP_own _ _ _) ?assign ?body ?done ?stop
    case hI => exact OwnFrom.and (OwnFrom.and (kept_own _ _ _ _) (OwnFrom.and (kept_own _ _ _ _) (ownFrom_below (Nat.le_refl _) (by omega)))) (ownFrom_pure _ _)
    case hIx => exact fun c => OwnFrom.and (OwnFrom.and (kept_own _ _ _ _) (ownFrom_below (Nat.le_refl _) (by omega))) (ownFrom_pure _ _)
    case hS =>
      rintro pre V o v ⟨⟨a0, a1, a2⟩, q⟩
      exact ⟨⟨a0.other _ _ (by simp; omega), a1.other _ _ (by simp; omega), a2.setCell (p := ⟨W.heap.size + 2, o, none⟩) (by simp; omega) _⟩, q⟩
    case hSx =>
      rintro c pre V o v ⟨⟨a1, a2⟩, q⟩
      exact ⟨⟨a1.other _ _ (by simp; omega), a2.setCell (p := ⟨W.heap.size + 2, o, none⟩) (by simp; omega) _⟩, q⟩
    case assign =>
      rintro l pre x V K ⟨⟨a0, a1, a2⟩, q⟩ hz hK
      simp only [pcE]
      gi_wp2
      exact hK _ _ ((KeepsOthers.alloc _ _).from _) (Kept.below ((Below.refl _ V).alloc (Nat.le_refl _) _)) ⟨⟨a0.alloc _, a1.alloc _, a2.alloc a2.size _⟩, q⟩ ⟨V.heap.size, by omega, Blk.new V _ _, rfl⟩
    case body =>
      rintro l pre x a' V ⟨⟨a0, a1, a2⟩, q1⟩ ⟨b, hb, bx, rfl⟩ hlen hz
      have c0 := a0.at1
      have c1 := a1.at1
      obtain ⟨e0, e1, e2, e3⟩ := bx.at4
      have f1 := a1.frozen 0
      have HA : Hid ((Blk V w.heap.size #[.int .i64 p] 3 ∧ Blk V (w.heap.size + 1) #[.int .i64 (lastFr pre 0 : Nat)] 3 ∧ Below w.heap.size w V) ∧ (∀ rest, backL (pre ++ rest) p 0 = backL rest p (lastFr pre 0))) := ⟨⟨a0, a1, a2⟩, q1⟩
      clear a0 a1 a2 bx hlen q1
      by_cases hlt : p ≤ x.fr
      · gi_wp2
        obtain ⟨⟨a0, a1, a2⟩, q1⟩ := HA.out
        have q2 : ∀ rest, backL (pre ++ [x] ++ rest) p 0 = lastFr pre 0 := fun rest => by rw [List.append_assoc, q1]; simp [backL, hlt]
        have q3 : backL (pre ++ [x]) p 0 = lastFr pre 0 := by have := q2 []; rwa [List.append_nil] at this
        exact ⟨KeepsFrom.refl _ _, ⟨by rw [q3]; exact a1, a2⟩, rfl, fun rest => by rw [q2, q3]⟩
      · gi_wp2
        obtain ⟨⟨a0, a1, a2⟩, q1⟩ := HA.out
        refine ⟨(KeepsOthers.setCell _ _ _).from _, (Kept.refl _ V).set _ _ _ (by omega), ⟨a0.other _ _ (by simp), ?_, a2.setCell (p := ⟨w.heap.size + 1, 0, none⟩) (by simp) _⟩, fun rest => ?_⟩
        · rw [lastFr_snoc]
          exact a1.put1 _
        · rw [List.append_assoc, q1, lastFr_snoc]; simp only [List.cons_append, List.nil_append, backL, if_neg (show ¬ p ≤ x.fr by omega)]
    case done =>
      rintro D V hD ⟨⟨a0, a1, a2⟩, q1⟩ hK
      have c1 := a1.at1
      have HA : Hid (Below w.heap.size w V) := a2
      have e := q1 []
      rw [List.append_nil] at e
      have HE : Hid (backL (pcs s) p 0 = lastFr (pcs s) 0) := e
      clear a0 a1 a2 e q1
      gi_wp2
      refine leave2 rfl hK ⟨?_, below_left HA.out (by omega) _⟩
      rw [backN, backB, decide_eq_true (show 1 ≤ p by omega), decide_eq_true hq, HE.out]; rfl
    case stop =>
      rintro D c pre V hD ⟨rest, hpre⟩ ⟨⟨a1, a2⟩, rfl, q1⟩ hK
      have c1 := a1.at1
      have HA : Hid (Below w.heap.size w V) := a2
      have HE : Hid (backL (pcs s) p 0 = backL pre p 0) := by rw [← hpre]; exact q1 rest
      clear a1 a2 q1 hpre
      gi_wp2
      refine leave2 rfl hK ⟨?_, below_left HA.out (by omega) _⟩
      rw [backN, backB, decide_eq_true (show 1 ≤ p by omega), decide_eq_true hq, HE.out]; rfl
  · gi_wp2
    obtain ⟨W, hW⟩ : ∃ W, W = w.alloc (.cells #[.int .i64 p] 3) := ⟨_, rfl⟩
    obtain ⟨sW, bW, k0⟩ := boxes1 w (.int .i64 p) 3 W hW
    rw [← hW]
    exact leave0 (results_two rfl _ _ _) ⟨by simp [backN, backB, show ¬ p ≤ s.size by omega], bW⟩

end Go.Proofs.YtlooemhaoikidaaDoor
