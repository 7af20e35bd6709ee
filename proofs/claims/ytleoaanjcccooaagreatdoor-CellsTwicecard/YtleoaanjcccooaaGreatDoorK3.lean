/-
  Texts of this claim, one behind the other: what each is about stands ahead of it.
-/
import Derived.Test.YtleoaanjcccooaaGreatDoorK1
import Derived.Test.YtleoaanjcccooaaGreatDoorK2
import Derived.ProofKit
import Derived.OpenShut
import Derived.Lib.SmallJoins
import Derived.Lib.LaidU8
import Derived.Test.YtleoaanjcccooaaGreatDoorK0
import Derived.Laws.AppendOwnNone
/-
  Contracts of package geom: the least rectangle that has both; whether one lies in another, over another.
-/
namespace Go.Proofs.YtleoaanjcccooaaGreatDoor
open Go.RowKit
attribute [local go_sem] ite_max ite_min

/-- Two rectangles, compared. -/
theorem eql_rect (a b c d x y z u : Int) (w : World) : (binOp .eql 55 (.agg #[.int .i64 a, .int .i64 b, .int .i64 c, .int .i64 d]) (.agg #[.int .i64 x, .int .i64 y, .int .i64 z, .int .i64 u])).run Tryz.prog w = .ok (.bool ((a == x) && ((b == y) && ((c == z) && (d == u))))) w := by
  have h : ∀ p q : Int, (p == q) = decide (p = q) := fun p q => by rw [Bool.eq_iff_iff]; simp
  by_cases h1 : a = x <;> by_cases h2 : b = y <;> by_cases h3 : c = z <;> by_cases h4 : d = u <;> simp [go_sem, h, h1, h2, h3, h4]
theorem neq_rect (a b c d x y z u : Int) (w : World) : (binOp .neq 55 (.agg #[.int .i64 a, .int .i64 b, .int .i64 c, .int .i64 d]) (.agg #[.int .i64 x, .int .i64 y, .int .i64 z, .int .i64 u])).run Tryz.prog w = .ok (.bool (!((a == x) && ((b == y) && ((c == z) && (d == u)))))) w := by
  have h : ∀ p q : Int, (p == q) = decide (p = q) := fun p q => by rw [Bool.eq_iff_iff]; simp
  by_cases h1 : a = x <;> by_cases h2 : b = y <;> by_cases h3 : c = z <;> by_cases h4 : d = u <;> simp [go_sem, h, h1, h2, h3, h4]

set_option maxRecDepth 10000 in
set_option maxHeartbeats 2000000 in
theorem join_any (ax ay aw ah bx by' bw bh : Int) (w : World) (hax : I64 ax) (hay : I64 ay) (hbx : I64 bx) (hby : I64 by') :
    Calls Tryz.prog 105 #[.agg #[.int .i64 ax, .int .i64 ay, .int .i64 aw, .int .i64 ah], .agg #[.int .i64 bx, .int .i64 by', .int .i64 bw, .int .i64 bh]] w fun e w' => e = .returned (.agg #[.int .i64 (joinR ax ay aw ah bx by' bw bh).x, .int .i64 (joinR ax ay aw ah bx by' bw bh).y, .int .i64 (joinR ax ay aw ah bx by' bw bh).w, .int .i64 (joinR ax ay aw ah bx by' bw bh).h]) ∧ Below w.heap.size w w' := by
  have cs : (emptyB ax ay aw ah = true ∧ emptyB bx by' bw bh = true) ∨ (emptyB ax ay aw ah = true ∧ emptyB bx by' bw bh = false) ∨ (emptyB ax ay aw ah = false ∧ emptyB bx by' bw bh = true) ∨ (emptyB ax ay aw ah = false ∧ emptyB bx by' bw bh = false) := by
    cases emptyB ax ay aw ah <;> cases emptyB bx by' bw bh <;> simp
  rcases cs with ⟨h1, h2⟩ | ⟨h1, h2⟩ | ⟨h1, h2⟩ | ⟨h1, h2⟩
  · rw [show joinR ax ay aw ah bx by' bw bh = zr by simp [joinR, h1, h2]]
    go_enter Tryz.func105, Tryz.ntmps105
    go_wp2_with fail
    obtain ⟨A, B, C, L⟩ := boxes_rrr w ax ay aw ah bx by' bw bh 55 55 55
    refine (empty_any _ _ _ _ _ (by assumption) (by assumption)).mono ?_
    rintro e w1 ⟨rfl, hb⟩
    have F := (fr2 w _ _ _ _).below hb
    replace A := A.below hb
    replace B := B.below hb
    replace C := C.below hb
    replace L := L.trans (hb.mono L.size)
    clear hb
    obtain ⟨d0, d1, d2, d3⟩ := id A
    obtain ⟨e0, e1, e2, e3⟩ := id B
    go_wp2_with fail
    clear d0 d1 d2 d3 e0 e1 e2 e3
    refine (empty_any _ _ _ _ _ (by assumption) (by assumption)).mono ?_
    rintro e w2 ⟨rfl, hb⟩
    replace F := F.below hb
    replace A := A.below hb
    replace B := B.below hb
    replace C := C.below hb
    replace L := L.trans (hb.mono L.size)
    clear hb
    replace F := F.2
    obtain ⟨d0, d1, d2, d3⟩ := id A
    obtain ⟨e0, e1, e2, e3⟩ := id B
    obtain ⟨c0, c1, c2, c3⟩ := id C
    go_wp2
    exact bodyPost_ret (v := .agg #[.int .i64 0, .int .i64 0, .int .i64 0, .int .i64 0]) (by simp [results, Tryz.results105, go_sem, c0, c1, c2, c3]) rfl ⟨rfl, set4_below L (by omega) _ _ _ _⟩
  · rw [show joinR ax ay aw ah bx by' bw bh = ⟨bx, by', bw, bh⟩ by simp [joinR, h1, h2]]
    go_enter Tryz.func105, Tryz.ntmps105
    go_wp2_with fail
    obtain ⟨A, B, C, L⟩ := boxes_rrr w ax ay aw ah bx by' bw bh 55 55 55
    refine (empty_any _ _ _ _ _ (by assumption) (by assumption)).mono ?_
    rintro e w1 ⟨rfl, hb⟩
    have F := (fr2 w _ _ _ _).below hb
    replace A := A.below hb
    replace B := B.below hb
    replace C := C.below hb
    replace L := L.trans (hb.mono L.size)
    clear hb
    obtain ⟨d0, d1, d2, d3⟩ := id A
    obtain ⟨e0, e1, e2, e3⟩ := id B
    go_wp2_with fail
    clear d0 d1 d2 d3 e0 e1 e2 e3
    refine (empty_any _ _ _ _ _ (by assumption) (by assumption)).mono ?_
    rintro e w2 ⟨rfl, hb⟩
    replace F := F.below hb
    replace A := A.below hb
    replace B := B.below hb
    replace C := C.below hb
    replace L := L.trans (hb.mono L.size)
    clear hb
    obtain ⟨d0, d1, d2, d3⟩ := id A
    obtain ⟨e0, e1, e2, e3⟩ := id B
    go_wp2_with fail
    clear d0 d1 d2 d3 e0 e1 e2 e3
    refine (empty_any _ _ _ _ _ (by assumption) (by assumption)).mono ?_
    rintro e w3 ⟨rfl, hb⟩
    replace F := F.below hb
    replace A := A.below hb
    replace B := B.below hb
    replace C := C.below hb
    replace L := L.trans (hb.mono L.size)
    clear hb
    replace F := F.2
    obtain ⟨d0, d1, d2, d3⟩ := id A
    obtain ⟨e0, e1, e2, e3⟩ := id B
    obtain ⟨c0, c1, c2, c3⟩ := id C
    go_wp2
    exact bodyPost_ret (v := .agg #[.int .i64 bx, .int .i64 by', .int .i64 bw, .int .i64 bh]) (by simp [results, Tryz.results105, go_sem, c0, c1, c2, c3]) rfl ⟨rfl, set4_below L (by omega) _ _ _ _⟩
  · rw [show joinR ax ay aw ah bx by' bw bh = ⟨ax, ay, aw, ah⟩ by simp [joinR, h1, h2]]
    go_enter Tryz.func105, Tryz.ntmps105
    go_wp2_with fail
    obtain ⟨A, B, C, L⟩ := boxes_rrr w ax ay aw ah bx by' bw bh 55 55 55
    refine (empty_any _ _ _ _ _ (by assumption) (by assumption)).mono ?_
    rintro e w1 ⟨rfl, hb⟩
    have F := (fr2 w _ _ _ _).below hb
    replace A := A.below hb
    replace B := B.below hb
    replace C := C.below hb
    replace L := L.trans (hb.mono L.size)
    clear hb
    obtain ⟨d0, d1, d2, d3⟩ := id A
    obtain ⟨e0, e1, e2, e3⟩ := id B
    go_wp2_with fail
    clear d0 d1 d2 d3 e0 e1 e2 e3
    refine (empty_any _ _ _ _ _ (by assumption) (by assumption)).mono ?_
    rintro e w2 ⟨rfl, hb⟩
    replace F := F.below hb
    replace A := A.below hb
    replace B := B.below hb
    replace C := C.below hb
    replace L := L.trans (hb.mono L.size)
    clear hb
    obtain ⟨d0, d1, d2, d3⟩ := id A
    obtain ⟨e0, e1, e2, e3⟩ := id B
    go_wp2_with fail
    clear d0 d1 d2 d3 e0 e1 e2 e3
    refine (empty_any _ _ _ _ _ (by assumption) (by assumption)).mono ?_
    rintro e w3 ⟨rfl, hb⟩
    replace F := F.below hb
    replace A := A.below hb
    replace B := B.below hb
    replace C := C.below hb
    replace L := L.trans (hb.mono L.size)
    clear hb
    replace F := F.2
    obtain ⟨d0, d1, d2, d3⟩ := id A
    obtain ⟨e0, e1, e2, e3⟩ := id B
    obtain ⟨c0, c1, c2, c3⟩ := id C
    go_wp2
    exact bodyPost_ret (v := .agg #[.int .i64 ax, .int .i64 ay, .int .i64 aw, .int .i64 ah]) (by simp [results, Tryz.results105, go_sem, c0, c1, c2, c3]) rfl ⟨rfl, set4_below L (by omega) _ _ _ _⟩
  · rw [show joinR ax ay aw ah bx by' bw bh = btw (min ax bx) (min ay by') (max (ax + aw) (bx + bw)) (max (ay + ah) (by' + bh)) by simp [joinR, h1, h2]]
    obtain ⟨a1, a2, a3, a4, a5, a6, a7, a8, a9, a10⟩ := bounds_of h1
    obtain ⟨b1, b2, b3, b4, b5, b6, b7, b8, b9, b10⟩ := bounds_of h2
    go_enter Tryz.func105, Tryz.ntmps105
    go_wp2_with fail
    obtain ⟨A, B, C, L⟩ := boxes_rrr w ax ay aw ah bx by' bw bh 55 55 55
    refine (empty_any _ _ _ _ _ (by assumption) (by assumption)).mono ?_
    rintro e w1 ⟨rfl, hb⟩
    have F := (fr2 w _ _ _ _).below hb
    replace A := A.below hb
    replace B := B.below hb
    replace C := C.below hb
    replace L := L.trans (hb.mono L.size)
    clear hb
    obtain ⟨d0, d1, d2, d3⟩ := id A
    obtain ⟨e0, e1, e2, e3⟩ := id B
    go_wp2_with fail
    clear d0 d1 d2 d3 e0 e1 e2 e3
    refine (empty_any _ _ _ _ _ (by assumption) (by assumption)).mono ?_
    rintro e w2 ⟨rfl, hb⟩
    replace F := F.below hb
    replace A := A.below hb
    replace B := B.below hb
    replace C := C.below hb
    replace L := L.trans (hb.mono L.size)
    clear hb
    obtain ⟨d0, d1, d2, d3⟩ := id A
    obtain ⟨e0, e1, e2, e3⟩ := id B
    go_wp2_with fail
    clear d0 d1 d2 d3 e0 e1 e2 e3
    refine (empty_any _ _ _ _ _ (by assumption) (by assumption)).mono ?_
    rintro e w3 ⟨rfl, hb⟩
    replace F := F.below hb
    replace A := A.below hb
    replace B := B.below hb
    replace C := C.below hb
    replace L := L.trans (hb.mono L.size)
    clear hb
    obtain ⟨d0, d1, d2, d3⟩ := id A
    obtain ⟨e0, e1, e2, e3⟩ := id B
    go_upto_region 7 with fail
    go_cut [5, 6] (fun s5 s6 wx => ∃ b5 b6, s5 = .pointer (some ⟨b5, 0, none⟩) ∧ s6 = .pointer (some ⟨b6, 0, none⟩) ∧ At2 wx b5 (ax + aw) (ay + ah) ∧ At2 wx b6 (bx + bw) (by' + bh) ∧ At4 wx w.heap.size ax ay aw ah ∧ At4 wx (w.heap.size + 1) bx by' bw bh ∧ At4 wx (w.heap.size + 1 + 1) 0 0 0 0 ∧ Fr wx (w.heap.size + 1 + 1) ∧ Below w.heap.size w wx)
    case first =>
      clear d0 d1 d2 d3 e0 e1 e2 e3
      have hE1 : Hid (∀ w, Calls Tryz.prog 58 #[.agg #[.int .i64 ax, .int .i64 ay, .int .i64 aw, .int .i64 ah]] w fun e w' => e = .returned (.agg #[.int .i64 (ax + aw), .int .i64 (ay + ah)]) ∧ Below w.heap.size w w') := fun w => end_any _ _ _ _ _ (by omega) (by omega) (by omega) (by omega) (by omega) (by omega) (by omega) (by omega)
      have hE2 : Hid (∀ w, Calls Tryz.prog 58 #[.agg #[.int .i64 bx, .int .i64 by', .int .i64 bw, .int .i64 bh]] w fun e w' => e = .returned (.agg #[.int .i64 (bx + bw), .int .i64 (by' + bh)]) ∧ Below w.heap.size w w') := fun w => end_any _ _ _ _ _ (by omega) (by omega) (by omega) (by omega) (by omega) (by omega) (by omega) (by omega)
      have HL : Hid (At4 w3 w.heap.size ax ay aw ah ∧ At4 w3 (w.heap.size + 1) bx by' bw bh ∧ At4 w3 (w.heap.size + 1 + 1) 0 0 0 0 ∧ Fr w3 (w.heap.size + 1 + 1) ∧ Below w.heap.size w w3) := ⟨A, B, C, F, L⟩
      clear hax hay hbx hby h1 h2 a1 a2 a3 a4 a5 a6 a7 a8 a9 a10 b1 b2 b3 b4 b5 b6 b7 b8 b9 b10 A B C F L
      refine wp_region_lit 4 2 2 (fun _ => .cells #[.int .i64 0, .int .i64 0] 41) [5, 6] (by kernel_rfl) (by kernel_rfl) rfl ?_ rfl ?_ ?_
      · intro k hk
        have hc : k = 0 ∨ k = 1 := by omega
        rcases hc with rfl | rfl <;> rfl
      · intro i h1 h2
        have hc : i = 4 ∨ i = 5 := by omega
        rcases hc with rfl | rfl
        · exact ⟨_, rfl, rfl, fun _ _ => rfl⟩
        · exact ⟨_, rfl, rfl, fun _ _ => rfl⟩
      apply Exists.intro
      refine ⟨fun bs ne => ?_, ?_⟩
      · obtain ⟨HA, HB, _⟩ := HL.out
        have d0 := fun t : Gb w3 bs => (HA.below t.below).1
        have d1 := fun t : Gb w3 bs => (HA.below t.below).2.1
        have d2 := fun t : Gb w3 bs => (HA.below t.below).2.2.1
        have d3 := fun t : Gb w3 bs => (HA.below t.below).2.2.2
        have e0 := fun t : Gb w3 bs => (HB.below t.below).1
        have e1 := fun t : Gb w3 bs => (HB.below t.below).2.1
        have e2 := fun t : Gb w3 bs => (HB.below t.below).2.2.1
        have e3 := fun t : Gb w3 bs => (HB.below t.below).2.2.2
        clear HA HB
        simp only [List.take_succ_cons, List.take_zero]
        repeat (go_big_quiet_step (first
          | (go_at_call_of 58 (Value.agg #[.int .i64 ax, .int .i64 ay, .int .i64 aw, .int .i64 ah]); exact gb_call (hE1.out _))
          | (go_at_call_of 58 (Value.agg #[.int .i64 bx, .int .i64 by', .int .i64 bw, .int .i64 bh]); exact gb_call (hE2.out _))))
        exact wpQuiet_nil rfl
      · intro bl wr hb hlo hinj
        obtain ⟨k1, k2⟩ := hlo 4 (by omega) (by omega)
        obtain ⟨k3, k4⟩ := hlo 5 (by omega) (by omega)
        have k5 := hinj 4 5 (by omega) (by omega) (by omega) (by omega) (by omega)
        obtain ⟨c1, f1, l1⟩ := heap_cells k2
        obtain ⟨c2, f2, l2⟩ := heap_cells k4
        simp only [layL, ptr]
        generalize bl 4 = g5 at *
        generalize bl 5 = g6 at *
        clear hlo hinj k2 k4
        refine wpAny_one 6 (by kernel_rfl) rfl ?_
        intro K hK
        go_simp
        refine hK _ _ ?_
        clear hK K
        refine wpAny_one 7 (by kernel_rfl) rfl ?_
        intro K hK
        go_simp
        refine hK _ _ ?_
        clear hK K
        refine wpAny_done (by kernel_rfl) ?_ _
        go_wp2_with fail
        go_meet
        obtain ⟨HA, HB, HC, HF, HD⟩ := HL.out
        have ha := HA.lt
        have hb1 := HB.lt
        have hc := HC.lt
        have hd := HD.size
        have z5 : At2 wr g5 0 0 := ⟨by rw [c1]; rfl, by rw [c1]; rfl⟩
        have z6 : At2 wr g6 0 0 := ⟨by rw [c2]; rfl, by rw [c2]; rfl⟩
        exact ⟨g5, g6, rfl, rfl, ((z5.put _ _).set _ (Ne.symm k5)).set _ (Ne.symm k5), ((z6.set _ k5).set _ k5).put _ _,
          ((((HA.below hb).set _ (by show g5 ≠ _; omega)).set _ (by show g5 ≠ _; omega)).set _ (by show g6 ≠ _; omega)).set _ (by show g6 ≠ _; omega),
          ((((HB.below hb).set _ (by show g5 ≠ _; omega)).set _ (by show g5 ≠ _; omega)).set _ (by show g6 ≠ _; omega)).set _ (by show g6 ≠ _; omega),
          ((((HC.below hb).set _ (by show g5 ≠ _; omega)).set _ (by show g5 ≠ _; omega)).set _ (by show g6 ≠ _; omega)).set _ (by show g6 ≠ _; omega),
          ((((HF.below hb).set _ _).set _ _).set _ _).set _ _,
          ((((HD.trans (hb.mono hd)).setCell (by show _ ≤ g5; omega) _).setCell (by show _ ≤ g5; omega) _).setCell (by show _ ≤ g6; omega) _).setCell (by show _ ≤ g6; omega) _⟩
    case rest =>
    obtain ⟨g5, g6, rfl, rfl, E5, E6, A, B, C, F, L⟩ := hcut
    have la := A.lt
    have lb := B.lt
    have lc := C.lt
    have l5 := E5.lt
    have l6 := E6.lt
    obtain ⟨d0, d1, d2, d3⟩ := A
    obtain ⟨e0, e1, e2, e3⟩ := B
    obtain ⟨x0, x1⟩ := E5
    obtain ⟨y0, y1⟩ := E6
    go_wp2_with fail
    clear d0 d1 d2 d3 e0 e1 e2 e3 x0 x1 y0 y1 la lb lc l5 l6
    refine (between_any _ _ _ _ _ (by omega) (by omega) (by omega) (by omega) (by omega) (by omega) (by omega) (by omega)).mono ?_
    rintro e w4 ⟨rfl, hb⟩
    replace C := C.below hb
    replace F := (F.below hb).2
    replace L := L.trans (hb.mono L.size)
    clear hb
    obtain ⟨d0, d1, d2, d3⟩ := id C
    go_wp2
    exact bodyPost_ret (v := .agg #[.int .i64 _, .int .i64 _, .int .i64 _, .int .i64 _]) (by simp [results, Tryz.results105, go_sem, d0, d1, d2, d3]) rfl ⟨rfl, set4_below L (by omega) _ _ _ _⟩

end Go.Proofs.YtleoaanjcccooaaGreatDoor

/-
  A rectangle that came in, written out.
-/
namespace Go.Proofs.YtleoaanjcccooaaGreatDoor
open Go.ChangeShapes Go.WideShapes Go.ChangeAt Go.RowKit Go.Joins

theorem own : ownKnob Tryz.prog.godebug = none := by kernel_rfl
theorem laidOut : laidOutB Tryz.prog = true := by kernel_rfl
theorem cells_r : Tryz.prog.cellsOf 55 = 4 := by kernel_rfl
theorem cells_p : Tryz.prog.cellsOf 41 = 2 := by kernel_rfl
theorem cells_s : Tryz.prog.cellsOf 23 = 2 := by kernel_rfl
theorem cells_i : Tryz.prog.cellsOf 3 = 1 := by kernel_rfl

theorem i64_of {n : Int} (h : (Lit.int .i64 n).wf = true) : I64 n := by
  have := bounds_i64 h
  exact ⟨this.1, this.2⟩

set_option maxRecDepth 100000 in
theorem rect_cells {H : Type} {enc : TypeId × Value → H} {W : World} {b : Nat} {sp : Nat → Bool} {held : Bool} {fuel : Nat} {cs : List Value} {x : DataW H × List MemPlace} (h : DataW.trod enc Tryz.prog W b sp held fuel 55 cs = some x) :
    ∃ r : Rc, cs = [.int .i64 r.x, .int .i64 r.y, .int .i64 r.w, .int .i64 r.h] ∧ I64 r.x ∧ I64 r.y := by
  obtain ⟨y0, y1, n, _, hl, h0, h1⟩ := trod_struct2 Tryz.underlying55 h
  rw [cells_r] at hl
  match cs, hl with
  | [c0, c1, c2, c3], _ =>
    simp [cells_p, cells_s] at h0 h1
    obtain ⟨y00, y01, n0, _, _, h00, h01⟩ := trod_struct2 Tryz.underlying41 h0
    obtain ⟨y10, y11, n1, _, _, h10, h11⟩ := trod_struct2 Tryz.underlying23 h1
    simp [cells_i] at h00 h01 h10 h11
    obtain ⟨a0, e0, _, w0⟩ := DataW.trod_int Tryz.underlying3 h00
    obtain ⟨a1, e1, _, w1⟩ := DataW.trod_int Tryz.underlying3 h01
    obtain ⟨a2, e2, _, _⟩ := DataW.trod_int Tryz.underlying3 h10
    obtain ⟨a3, e3, _, _⟩ := DataW.trod_int Tryz.underlying3 h11
    simp at e0 e1 e2 e3
    subst e0 e1 e2 e3
    exact ⟨⟨a0, a1, a2, a3⟩, rfl, i64_of w0, i64_of w1⟩

end Go.Proofs.YtleoaanjcccooaaGreatDoor

/-
  Not needed in this seat.
-/
namespace Go.Proofs.YtleoaanjcccooaaGreatDoor

end Go.Proofs.YtleoaanjcccooaaGreatDoor

/-
  Colours in plain numbers: laid over one another, mixed, how light they are.
-/
namespace Go.Proofs.YtleoaanjcccooaaGreatDoor

structure Co where
  r : Int
  g : Int
  b : Int
  a : Int

def By (x : Int) : Prop := 0 ≤ x ∧ x ≤ 255
def Co.ok (c : Co) : Prop := By c.r ∧ By c.g ∧ By c.b ∧ By c.a

/-- The number between two that their weights make of them. -/
def shr (x y p q : Int) : Int := (p * x + q * y + (p + q) / 2) / (p + q)
def fro (a : Co) : Int := 255 * a.a
def beh (a b : Co) : Int := (255 - a.a) * b.a
def overC (a b : Co) : Co :=
  if a.a = 0 then b else ⟨shr a.r b.r (fro a) (beh a b), shr a.g b.g (fro a) (beh a b), shr a.b b.b (fro a) (beh a b), (fro a + beh a b + 127) / 255⟩
def mixC (a b : Co) (p : Int) : Co := ⟨shr a.r b.r (255 - p) p, shr a.g b.g (255 - p) p, shr a.b b.b (255 - p) p, shr a.a b.a (255 - p) p⟩
def blackC : Co := ⟨0, 0, 0, 255⟩
def onB (c : Co) : Co := overC c blackC
def lightI (c : Co) : Int := (2126 * (onB c).r + 7152 * (onB c).g + 722 * (onB c).b) * 20 / 51
def clearL (l m : Int) : Bool := decide (45 * (min l m + 50000) ≤ 10 * (max l m + 50000))
def clearB (a b : Co) : Bool := clearL (lightI (onB b)) (lightI (overC a (onB b)))

theorem shr_between {x y p q : Int} (hp : 0 ≤ p) (hq : 0 ≤ q) (h : 0 < p + q) : min x y ≤ shr x y p q ∧ shr x y p q ≤ max x y := by
  have a1 : p * min x y ≤ p * x := Int.mul_le_mul_of_nonneg_left (by omega) hp
  have a2 : q * min x y ≤ q * y := Int.mul_le_mul_of_nonneg_left (by omega) hq
  have b1 : p * x ≤ p * max x y := Int.mul_le_mul_of_nonneg_left (by omega) hp
  have b2 : q * y ≤ q * max x y := Int.mul_le_mul_of_nonneg_left (by omega) hq
  have e1 : min x y * (p + q) = p * min x y + q * min x y := by rw [Int.mul_comm, Int.add_mul]
  have e2 : (max x y + 1) * (p + q) = p * max x y + q * max x y + (p + q) := by rw [Int.add_mul, Int.mul_comm, Int.add_mul]; omega
  unfold shr
  constructor
  · exact Int.le_ediv_of_mul_le h (by omega)
  · exact Int.lt_add_one_iff.1 (Int.ediv_lt_of_lt_mul h (by omega))

theorem shr_swap (x y p q : Int) : shr x y p q = shr y x q p := by
  unfold shr
  rw [Int.add_comm p q, Int.add_comm (p * x) (q * y)]

theorem shr_left (x y : Int) {p : Int} (h : 0 < p) : shr x y p 0 = x := by
  unfold shr
  have e : (x + 1) * p = p * x + p := by rw [Int.add_mul, Int.mul_comm]; omega
  have e' : x * p = p * x := Int.mul_comm _ _
  have h1 : x ≤ (p * x + 0 * y + (p + 0) / 2) / (p + 0) := Int.le_ediv_of_mul_le (by omega) (by simp only [Int.add_zero, Int.zero_mul]; omega)
  have h2 : (p * x + 0 * y + (p + 0) / 2) / (p + 0) < x + 1 := Int.ediv_lt_of_lt_mul (by omega) (by simp only [Int.add_zero, Int.zero_mul]; omega)
  omega
theorem shr_right (x y : Int) {q : Int} (h : 0 < q) : shr x y 0 q = y := by rw [shr_swap]; exact shr_left y x h

theorem shr_by {x y p q : Int} (hx : By x) (hy : By y) (hp : 0 ≤ p) (hq : 0 ≤ q) (h : 0 < p + q) : By (shr x y p q) := by
  have := shr_between (x := x) (y := y) hp hq h
  unfold By at *
  omega

/-- The weights. -/
theorem wts {a b : Co} (ha : a.ok) (hb : b.ok) : 0 ≤ fro a ∧ fro a ≤ 65025 ∧ 0 ≤ beh a b ∧ beh a b ≤ 65025 ∧ fro a + beh a b ≤ 65025 := by
  obtain ⟨_, _, _, a1, a2⟩ := ha
  obtain ⟨_, _, _, b1, b2⟩ := hb
  have h1 : 0 ≤ (255 - a.a) * b.a := Int.mul_nonneg (by omega) (by omega)
  have h2 : (255 - a.a) * b.a ≤ (255 - a.a) * 255 := Int.mul_le_mul_of_nonneg_left b2 (by omega)
  unfold fro beh
  omega
theorem wts_pos {a b : Co} (ha : a.ok) (hb : b.ok) (h : a.a ≠ 0) : 0 < fro a + beh a b := by
  have := wts ha hb
  obtain ⟨_, _, _, a1, a2⟩ := ha
  unfold fro at *
  omega

theorem over_ok {a b : Co} (ha : a.ok) (hb : b.ok) : (overC a b).ok := by
  unfold overC
  split
  · exact hb
  · rename_i h
    obtain ⟨w1, w2, w3, w4, w5⟩ := wts ha hb
    have w6 := wts_pos ha hb h
    exact ⟨shr_by ha.1 hb.1 w1 w3 w6, shr_by ha.2.1 hb.2.1 w1 w3 w6, shr_by ha.2.2.1 hb.2.2.1 w1 w3 w6, by unfold By; dsimp only; omega⟩
theorem black_ok : blackC.ok := ⟨⟨by decide, by decide⟩, ⟨by decide, by decide⟩, ⟨by decide, by decide⟩, ⟨by decide, by decide⟩⟩
theorem onB_ok {c : Co} (h : c.ok) : (onB c).ok := over_ok h black_ok
theorem mix_ok {a b : Co} {p : Int} (ha : a.ok) (hb : b.ok) (hp : By p) : (mixC a b p).ok := by
  obtain ⟨p1, p2⟩ := hp
  have k : ∀ {x y}, By x → By y → By (shr x y (255 - p) p) := fun hx hy => shr_by hx hy (by omega) (by omega) (by omega)
  exact ⟨k ha.1 hb.1, k ha.2.1 hb.2.1, k ha.2.2.1 hb.2.2.1, k ha.2.2.2 hb.2.2.2⟩
theorem light_bd {c : Co} (h : c.ok) : 0 ≤ lightI c ∧ lightI c ≤ 1000000 := by
  obtain ⟨⟨h1, h2⟩, ⟨h3, h4⟩, ⟨h5, h6⟩, _⟩ := onB_ok h
  unfold lightI
  omega

theorem over_opaque {a : Co} (b : Co) (h : a.a = 255) : overC a b = a := by
  unfold overC fro beh
  rw [if_neg (by omega), h]
  simp only [Int.sub_self, Int.zero_mul]
  rw [shr_left _ _ (by decide), shr_left _ _ (by decide), shr_left _ _ (by decide)]
  cases a
  simp_all
theorem onB_opaque {a : Co} (h : a.a = 255) : onB a = a := over_opaque _ h
theorem mix_zero (a b : Co) : mixC a b 0 = a := by
  unfold mixC
  simp only [Int.sub_zero]
  rw [shr_left _ _ (by decide), shr_left _ _ (by decide), shr_left _ _ (by decide), shr_left _ _ (by decide)]
theorem mix_all (a b : Co) : mixC a b 255 = b := by
  unfold mixC
  simp only [Int.sub_self]
  rw [shr_right _ _ (by decide), shr_right _ _ (by decide), shr_right _ _ (by decide), shr_right _ _ (by decide)]
theorem mix_swap (a b : Co) (p : Int) : mixC b a (255 - p) = mixC a b p := by
  unfold mixC
  rw [show (255 : Int) - (255 - p) = p by omega, shr_swap b.r, shr_swap b.g, shr_swap b.b, shr_swap b.a]
theorem over_a {a b : Co} (ha : a.ok) (hb : b.ok) : max a.a b.a ≤ (overC a b).a ∧ (b.a = 255 → (overC a b).a = 255) := by
  unfold overC
  split
  · obtain ⟨_, _, _, _, _⟩ := hb
    constructor
    · omega
    · exact id
  · have w := wts ha hb
    obtain ⟨_, _, _, a1, a2⟩ := ha
    obtain ⟨_, _, _, b1, b2⟩ := hb
    have e : (255 - a.a) * b.a = 255 * b.a - a.a * b.a := by rw [Int.sub_mul]
    have h1 : a.a * b.a ≤ a.a * 255 := Int.mul_le_mul_of_nonneg_left b2 a1
    constructor
    · unfold fro beh at *; dsimp only; omega
    · intro hb5
      unfold fro beh at *; dsimp only
      rw [hb5] at *
      omega

end Go.Proofs.YtleoaanjcccooaaGreatDoor

/-
  Drawing lists in plain words: strokes that may be, clips, where strokes show, what nobody sees, lists cut to a region.
-/
namespace Go.Proofs.YtleoaanjcccooaaGreatDoor

/-- A stroke. -/
structure St where
  k : Int
  r : Rc
  c : Co
  b : Co
  t : ByteArray
  n : Int

def zEm (r : Rc) : Bool := emptyB r.x r.y r.w r.h
def zMe (a b : Rc) : Rc := meetR a.x a.y a.w a.h b.x b.y b.w b.h
def zHa (r : Rc) (px py : Int) : Bool := hasB r.x r.y r.w r.h px py
def zIn (a b : Rc) : Bool := inB a.x a.y a.w a.h b.x b.y b.w b.h
def zOv (a b : Rc) : Bool := overB a.x a.y a.w a.h b.x b.y b.w b.h
def zMa (r : Rc) : Bool := mayB r.x r.y r.w r.h
def zZr (r : Rc) : Bool := eqB r 0 0 0 0
def coE (c : Co) : Bool := (c.r == 0) && ((c.g == 0) && ((c.b == 0) && (c.a == 0)))

/-- What is wrong with a stroke. -/
def wroK (s : St) : Bool := (decide (s.k < 1) || decide (5 < s.k)) || ((decide (s.n < 0) || decide (1048576 < s.n)) || decide (65536 < s.t.size))
def wroF (s : St) : Bool := (!(s.k == 3) && (!(s.t.size == 0) || !coE s.b)) || (((s.k == 4 || s.k == 5) && !coE s.c) || (s.k == 5 && !zZr s.r))
def oneE (s : St) : Int := if (wroK s || wroF s) = true then 2 else if zMa s.r = true then 0 else 5
theorem oneE_cases (s : St) : oneE s = 0 ∨ oneE s = 2 ∨ oneE s = 5 := by
  unfold oneE
  split
  · exact .inr (.inl rfl)
  · split
    · exact .inl rfl
    · exact .inr (.inr rfl)
theorem oneE_zero {s : St} (h : oneE s = 0) : zMa s.r = true ∧ (s.k = 1 ∨ s.k = 2 ∨ s.k = 3 ∨ s.k = 4 ∨ s.k = 5) ∧ wroF s = false := by
  unfold oneE at h
  split at h
  · cases h
  · next h1 =>
    split at h
    · next h2 =>
      refine ⟨h2, ?_, ?_⟩
      · have h3 : wroK s = false := by
          cases e : wroK s
          · rfl
          · rw [e] at h1; simp at h1
        unfold wroK at h3
        simp at h3
        omega
      · cases e : wroF s
        · rfl
        · rw [e] at h1; simp at h1
    · cases h

/-- How many clips are open. -/
def opn (n : Nat) (s : St) : Nat := if s.k = 4 then n + 1 else if s.k = 5 then n - 1 else n
def clpE : Nat → List St → Int
  | n, [] => if 0 < n then 130 else 0
  | n, s :: l => if oneE s ≠ 0 then oneE s else if s.k = 5 ∧ n = 0 then 130 else clpE (opn n s) l
/-- What is wrong with a list. -/
def chkS (l : List St) : Int := if 16384 < l.length then 4 else clpE 0 l
theorem clpE_cons {n : Nat} {s : St} {l : List St} (h : clpE n (s :: l) = 0) : oneE s = 0 ∧ ¬ (s.k = 5 ∧ n = 0) ∧ clpE (opn n s) l = 0 := by
  unfold clpE at h
  split at h
  · next h1 => exact absurd h h1
  · next h1 =>
    split at h
    · cases h
    · next h2 => exact ⟨Decidable.not_not.1 h1, h2, h⟩
theorem clpE_mk {n : Nat} {s : St} {l : List St} (h1 : oneE s = 0) (h2 : ¬ (s.k = 5 ∧ n = 0)) (h3 : clpE (opn n s) l = 0) : clpE n (s :: l) = 0 := by
  unfold clpE
  rw [if_neg (by simp [h1]), if_neg h2, h3]
theorem chkS_zero {l : List St} (h : chkS l = 0) : l.length ≤ 16384 ∧ clpE 0 l = 0 := by
  unfold chkS at h
  split at h
  · cases h
  · next h1 => exact ⟨by omega, h⟩

/-- The rectangle in which a stroke shows, below clips (the innermost first). -/
def topR (cs : List Rc) (r : Rc) : Rc :=
  match cs with
  | [] => r
  | c :: _ => zMe r c
def shR (cs : List Rc) (s : St) : Rc := if zEm (topR cs s.r) = true then zr else topR cs s.r
def nxC (cs : List Rc) (s : St) : List Rc := if s.k = 4 then shR cs s :: cs else if s.k = 5 then cs.tail else cs
/-- Strokes, each with the rectangle in which it shows. -/
def ann : List Rc → List St → List (St × Rc)
  | _, [] => []
  | cs, s :: l => (s, shR cs s) :: ann (nxC cs s) l
def endC : List Rc → List St → List Rc
  | cs, [] => cs
  | cs, s :: l => endC (nxC cs s) l
theorem ann_app : ∀ (a b : List St) (cs : List Rc), ann cs (a ++ b) = ann cs a ++ ann (endC cs a) b
  | [], _, _ => rfl
  | s :: a, b, cs => by show _ :: ann (nxC cs s) (a ++ b) = _; rw [ann_app a b]; rfl
theorem endC_app : ∀ (a b : List St) (cs : List Rc), endC cs (a ++ b) = endC (endC cs a) b
  | [], _, _ => rfl
  | s :: a, b, cs => endC_app a b (nxC cs s)
theorem ann_len : ∀ (l : List St) (cs : List Rc), (ann cs l).length = l.length
  | [], _ => rfl
  | s :: l, cs => by show (ann (nxC cs s) l).length + 1 = _; rw [ann_len l]; rfl
theorem ann_fst : ∀ (l : List St) (cs : List Rc), (ann cs l).map Prod.fst = l
  | [], _ => rfl
  | s :: l, cs => by show s :: (ann (nxC cs s) l).map Prod.fst = _; rw [ann_fst l]
theorem nxC_len (cs : List Rc) (s : St) : (nxC cs s).length = opn cs.length s := by
  unfold nxC opn
  split
  · rfl
  · split
    · exact List.length_tail
    · rfl

def drw (s : St) : Bool := decide (s.k < 4)
/-- What is flat of a list. -/
def flaL (l : List St) : List (St × Rc) := (ann [] l).filter fun p => drw p.1
def sidR (q : Rc) : List Rc := [btw q.x q.y (q.x + q.w) (q.y + 1), btw q.x q.y (q.x + 1) (q.y + q.h), btw (q.x + q.w - 1) q.y (q.x + q.w) (q.y + q.h), btw q.x (q.y + q.h - 1) (q.x + q.w) (q.y + q.h)]
def noP (s : St) (r : Rc) : Bool := zEm r || ((s.k == 3 && s.t.size == 0) || ((!(s.k == 3) && s.c.a == 0) || !drw s))
/-- The places at which a stroke shows. -/
def plc (s : St) (r : Rc) : List Rc := if noP s r = true then [] else if s.k = 2 then ((sidR s.r).map (fun q => zMe q r)).filter (fun q => !zEm q) else [r]
def plA (l : List (St × Rc)) : List Rc := l.flatMap fun p => plc p.1 p.2
def opq (s : St) : Bool := s.k == 1 && s.c.a == 255
def hidB (p : St × Rc) (t : List (St × Rc)) : Bool := drw p.1 && ((plc p.1 p.2).isEmpty || t.any fun q => opq q.1 && (plc p.1 p.2).all fun a => zIn a q.2)
def kepN : List (St × Rc) → List (St × Rc)
  | [] => []
  | p :: t => if hidB p t = true then kepN t else p :: kepN t
/-- Without idle pairs. -/
def bz {α : Type} (kd : α → Int) : List α → List α → List α
  | o, [] => o.reverse
  | [], s :: l => bz kd [s] l
  | c :: o, s :: l => if kd s = 5 ∧ kd c = 4 then bz kd o l else bz kd (s :: c :: o) l
def busy (l : List St) : List St := bz St.k [] l
def busA (l : List (St × Rc)) : List (St × Rc) := bz (fun p => p.1.k) [] l
def norL (l : List St) : List St := busy ((kepN (ann [] l)).map Prod.fst)
def cliS (q : Rc) : St := ⟨4, q, ⟨0, 0, 0, 0⟩, ⟨0, 0, 0, 0⟩, ⟨#[]⟩, 0⟩
def opeS : St := ⟨5, zr, ⟨0, 0, 0, 0⟩, ⟨0, 0, 0, 0⟩, ⟨#[]⟩, 0⟩
def witP (q : Rc) (p : St × Rc) : Bool := !drw p.1 || (plc p.1 p.2).any fun a => zOv a q
def grpL (A : List (St × Rc)) (q : Rc) : List St := busy (cliS q :: ((A.filter (witP q)).map Prod.fst ++ [opeS]))
def witA (l : List St) (F : List Rc) : List St := F.flatMap (grpL (ann [] l))

/-- Idle pairs left out, one by one. -/
inductive Idl {α : Type} (kd : α → Int) : List α → List α → Prop
  | refl (l : List α) : Idl kd l l
  | step (a b m : List α) (c o : α) : kd c = 4 → kd o = 5 → Idl kd (a ++ b) m → Idl kd (a ++ c :: o :: b) m
theorem bz_idl {α : Type} (kd : α → Int) : ∀ (l o : List α), Idl kd (o.reverse ++ l) (bz kd o l)
  | [], o => by
    cases o with
    | nil => exact .refl _
    | cons c o => unfold bz; rw [List.append_nil]; exact .refl _
  | s :: l, [] => by
    unfold bz
    exact bz_idl kd l [s]
  | s :: l, c :: o => by
    unfold bz
    split
    · next h =>
      rw [List.reverse_cons, List.append_assoc]
      exact .step _ _ _ c s h.2 h.1 (bz_idl kd l o)
    · have := bz_idl kd l (s :: c :: o)
      rwa [List.reverse_cons, List.append_assoc] at this
theorem bz_pair {α : Type} (kd : α → Int) {c s : α} (hc : kd c = 4) (hs : kd s = 5) (b : List α) : ∀ (a o : List α), bz kd o (a ++ c :: s :: b) = bz kd o (a ++ b)
  | [], [] => by
    show bz kd [] (c :: s :: b) = bz kd [] b
    rw [bz, bz, if_pos ⟨hs, hc⟩]
  | [], d :: o => by
    show bz kd (d :: o) (c :: s :: b) = bz kd (d :: o) b
    rw [bz, if_neg (by rw [hc]; intro h; cases h.1), bz, if_pos ⟨hs, hc⟩]
  | x :: a, [] => by
    show bz kd [] (x :: (a ++ c :: s :: b)) = bz kd [] (x :: (a ++ b))
    rw [bz, bz, bz_pair kd hc hs b a]
  | x :: a, d :: o => by
    show bz kd (d :: o) (x :: (a ++ c :: s :: b)) = bz kd (d :: o) (x :: (a ++ b))
    rw [bz, bz, bz_pair kd hc hs b a, bz_pair kd hc hs b a]
theorem idl_bz {α : Type} {kd : α → Int} {l m : List α} (h : Idl kd l m) : bz kd [] l = bz kd [] m := by
  induction h with
  | refl => rfl
  | step a b m c o hc ho _ ih => rw [bz_pair kd hc ho b a, ih]
/-- No idle pair. -/
def nid {α : Type} (kd : α → Int) : List α → Prop
  | [] => True
  | [_] => True
  | a :: b :: l => ¬ (kd a = 4 ∧ kd b = 5) ∧ nid kd (b :: l)
def nidR {α : Type} (kd : α → Int) : List α → Prop
  | [] => True
  | [_] => True
  | a :: b :: l => ¬ (kd a = 5 ∧ kd b = 4) ∧ nidR kd (b :: l)
theorem nid_snoc {α : Type} (kd : α → Int) (x : α) : ∀ (l : List α) (y : α), nid kd (l ++ [y]) → ¬ (kd y = 4 ∧ kd x = 5) → nid kd (l ++ [y, x])
  | [], _, _, h => ⟨h, trivial⟩
  | [_], _, h1, h2 => ⟨h1.1, h2, trivial⟩
  | _ :: b :: l, y, h1, h2 => ⟨h1.1, nid_snoc kd x (b :: l) y h1.2 h2⟩
theorem nidR_rev {α : Type} (kd : α → Int) : ∀ l : List α, nidR kd l → nid kd l.reverse
  | [], _ => trivial
  | [_], _ => trivial
  | a :: b :: l, h => by
    have ih := nidR_rev kd (b :: l) h.2
    rw [List.reverse_cons] at ih
    rw [List.reverse_cons, List.reverse_cons, List.append_assoc]
    exact nid_snoc kd a l.reverse b ih fun e => h.1 ⟨e.2, e.1⟩
theorem nidR_tail {α : Type} {kd : α → Int} {a : α} : ∀ {l : List α}, nidR kd (a :: l) → nidR kd l
  | [], _ => trivial
  | _ :: _, h => h.2
theorem bz_nid {α : Type} (kd : α → Int) : ∀ (l o : List α), nidR kd o → nid kd (bz kd o l)
  | [], o, h => by
    have := nidR_rev kd o h
    cases o <;> exact this
  | s :: l, [], _ => by
    unfold bz
    exact bz_nid kd l [s] trivial
  | s :: l, c :: o, h => by
    unfold bz
    split
    · exact bz_nid kd l o (nidR_tail h)
    · next h1 => exact bz_nid kd l (s :: c :: o) ⟨h1, h⟩
theorem nid_app {α : Type} {kd : α → Int} {c s : α} {b : List α} (hc : kd c = 4) (hs : kd s = 5) : ∀ (a : List α), ¬ nid kd (a ++ c :: s :: b)
  | [], h => h.1 ⟨hc, hs⟩
  | [_], h => h.2.1 ⟨hc, hs⟩
  | _ :: y :: a, h => nid_app hc hs (y :: a) h.2
theorem idl_nid {α : Type} {kd : α → Int} {l m : List α} (h : Idl kd l m) (hn : nid kd l) : m = l := by
  cases h with
  | refl => rfl
  | step a b _ c o hc ho _ => exact absurd hn (nid_app hc ho a)
/-- A list without idle pairs is what is left of itself. -/
theorem bz_same {α : Type} (kd : α → Int) {l : List α} (h : nid kd l) : bz kd [] l = l := idl_nid (bz_idl kd l []) h
/-- Whatever pairs are left out, in whatever order: where none is left, it is this. -/
theorem idl_unique {α : Type} {kd : α → Int} {l m : List α} (h : Idl kd l m) (hn : nid kd m) : m = bz kd [] l := by
  rw [idl_bz h, bz_same kd hn]
theorem bz_map {α β : Type} (kd : α → Int) (ke : β → Int) (f : α → β) (hf : ∀ x, ke (f x) = kd x) : ∀ (l o : List α), (bz kd o l).map f = bz ke (o.map f) (l.map f)
  | [], o => by cases o <;> simp [bz]
  | s :: l, [] => by
    show (bz kd [s] l).map f = bz ke [f s] (l.map f)
    exact bz_map kd ke f hf l [s]
  | s :: l, c :: o => by
    show (bz kd (c :: o) (s :: l)).map f = bz ke (f c :: o.map f) (f s :: l.map f)
    rw [bz, bz, hf, hf]
    split
    · exact bz_map kd ke f hf l o
    · exact bz_map kd ke f hf l (s :: c :: o)
theorem idl_sub {α : Type} {kd : α → Int} {l m : List α} (h : Idl kd l m) : m.Sublist l := by
  induction h with
  | refl l => exact List.Sublist.refl l
  | step a b m c o _ _ _ ih =>
    refine ih.trans ?_
    exact List.Sublist.append (List.Sublist.refl a) (((List.Sublist.refl b).cons o).cons c)
theorem busy_len (l : List St) : (busy l).length ≤ l.length := (idl_sub (bz_idl St.k l [])).length_le

/-- A clip that is closed at once changes nothing behind it. -/
theorem nxC_pair (cs : List Rc) {c o : St} (hc : c.k = 4) (ho : o.k = 5) : nxC (nxC cs c) o = cs := by
  unfold nxC
  rw [if_pos hc, if_neg (by omega), if_pos ho]
  rfl
theorem endC_pair (cs : List Rc) (a b : List St) {c o : St} (hc : c.k = 4) (ho : o.k = 5) : endC cs (a ++ c :: o :: b) = endC cs (a ++ b) := by
  rw [endC_app, endC_app]
  show endC (nxC (nxC (endC cs a) c) o) b = _
  rw [nxC_pair _ hc ho]
theorem ann_pair (cs : List Rc) (a b : List St) {c o : St} (hc : c.k = 4) (ho : o.k = 5) : ann cs (a ++ c :: o :: b) = ann cs a ++ (c, shR (endC cs a) c) :: (o, shR (nxC (endC cs a) c) o) :: ann (endC cs a) b := by
  rw [ann_app]
  show _ ++ _ :: _ :: ann (nxC (nxC (endC cs a) c) o) b = _
  rw [nxC_pair _ hc ho]
theorem clpE_pair {c o : St} (hc : c.k = 4) (ho : o.k = 5) (b : List St) : ∀ (a : List St) (n : Nat), clpE n (a ++ c :: o :: b) = 0 → clpE n (a ++ b) = 0
  | [], n, h => by
    obtain ⟨_, _, h⟩ := clpE_cons (show clpE n (c :: o :: b) = 0 from h)
    obtain ⟨_, _, h⟩ := clpE_cons h
    have e : opn (opn n c) o = n := by
      unfold opn
      rw [if_pos hc, if_neg (by omega), if_pos ho]
      rfl
    rw [e] at h
    exact h
  | s :: a, n, h => by
    obtain ⟨h1, h2, h3⟩ := clpE_cons (show clpE n (s :: (a ++ c :: o :: b)) = 0 from h)
    exact clpE_mk h1 h2 (clpE_pair hc ho b a _ h3)
theorem idl_clp {l m : List St} (h : Idl St.k l m) (n : Nat) (hc : clpE n l = 0) : clpE n m = 0 := by
  induction h with
  | refl => exact hc
  | step a b m c o h1 h2 _ ih => exact ih (clpE_pair h1 h2 b a n hc)
/-- Left out of a list, pairs are left out of it with its rectangles. -/
theorem idl_ann (cs : List Rc) {l m : List St} (h : Idl St.k l m) : Idl (fun p : St × Rc => p.1.k) (ann cs l) (ann cs m) := by
  induction h with
  | refl => exact .refl _
  | step a b m c o h1 h2 _ ih =>
    rw [ann_pair cs a b h1 h2]
    rw [ann_app] at ih
    exact .step _ _ _ (c, _) (o, _) h1 h2 ih
theorem ann_busy (cs : List Rc) (l : List St) : ann cs (busy l) = busA (ann cs l) := by
  have h := idl_ann cs (bz_idl St.k l [])
  refine idl_unique h ?_
  have h1 := bz_nid St.k l [] trivial
  have h2 : ∀ (x : List St) (cs : List Rc), nid St.k x → nid (fun p : St × Rc => p.1.k) (ann cs x) := by
    intro x
    induction x with
    | nil => intro _ _; trivial
    | cons s x ih =>
      intro cs h
      cases x with
      | nil => trivial
      | cons q x => exact ⟨h.1, ih _ h.2⟩
  exact h2 _ cs h1

/-- Without some strokes that draw. -/
inductive Dro : List (St × Rc) → List (St × Rc) → Prop
  | nil : Dro [] []
  | keep (p : St × Rc) {l m : List (St × Rc)} : Dro l m → Dro (p :: l) (p :: m)
  | drop (p : St × Rc) {l m : List (St × Rc)} : drw p.1 = true → Dro l m → Dro (p :: l) m
theorem nxC_drw (cs : List Rc) {s : St} (h : drw s = true) : nxC cs s = cs := by
  unfold drw at h
  have h := of_decide_eq_true h
  unfold nxC
  rw [if_neg (by omega), if_neg (by omega)]
theorem opn_drw (n : Nat) {s : St} (h : drw s = true) : opn n s = n := by
  unfold drw at h
  have h := of_decide_eq_true h
  unfold opn
  rw [if_neg (by omega), if_neg (by omega)]
theorem dro_ann : ∀ (l : List St) (cs : List Rc) {m : List (St × Rc)}, Dro (ann cs l) m → ann cs (m.map Prod.fst) = m
  | [], _, _, h => by cases h; rfl
  | s :: l, cs, m, h => by
    change Dro ((s, shR cs s) :: ann (nxC cs s) l) m at h
    cases h with
    | keep p h' => show (s, shR cs s) :: ann (nxC cs s) (List.map Prod.fst _) = _; rw [dro_ann l _ h']
    | drop p hd h' =>
      rw [nxC_drw cs hd] at h'
      exact dro_ann l _ h'
theorem dro_clp : ∀ (l : List St) (cs : List Rc) (n : Nat) {m : List (St × Rc)}, Dro (ann cs l) m → clpE n l = 0 → clpE n (m.map Prod.fst) = 0
  | [], _, _, _, h, hc => by cases h; exact hc
  | s :: l, cs, n, m, h, hc => by
    obtain ⟨h1, h2, h3⟩ := clpE_cons hc
    change Dro ((s, shR cs s) :: ann (nxC cs s) l) m at h
    cases h with
    | keep p h' => exact clpE_mk h1 h2 (dro_clp l _ _ h' h3)
    | drop p hd h' =>
      rw [opn_drw n hd] at h3
      exact dro_clp l _ _ h' h3
theorem dro_endC : ∀ (l : List St) (cs : List Rc) {m : List (St × Rc)}, Dro (ann cs l) m → endC cs (m.map Prod.fst) = endC cs l
  | [], _, _, h => by cases h; rfl
  | s :: l, cs, m, h => by
    change Dro ((s, shR cs s) :: ann (nxC cs s) l) m at h
    cases h with
    | keep p h' => exact dro_endC l _ h'
    | drop p hd h' =>
      have e : nxC cs s = cs := nxC_drw cs hd
      rw [e] at h'
      show _ = endC (nxC cs s) l
      rw [e]
      exact dro_endC l _ h'
theorem dro_kepN : ∀ l : List (St × Rc), Dro l (kepN l)
  | [] => .nil
  | p :: t => by
    unfold kepN
    split
    · next h =>
      refine .drop p ?_ (dro_kepN t)
      unfold hidB at h
      exact (Bool.and_eq_true_iff.1 h).1
    · exact .keep p (dro_kepN t)
theorem dro_wit (q : Rc) : ∀ l : List (St × Rc), Dro l (l.filter (witP q))
  | [] => .nil
  | p :: t => by
    rw [List.filter_cons]
    split
    · exact .keep p (dro_wit q t)
    · next h =>
      refine .drop p ?_ (dro_wit q t)
      unfold witP at h
      cases e : drw p.1
      · rw [e] at h; simp at h
      · rfl
theorem dro_len {l m : List (St × Rc)} (h : Dro l m) : m.length ≤ l.length := by
  induction h with
  | nil => exact Nat.le_refl _
  | keep p _ ih => simp; omega
  | drop p _ _ ih => simp; omega
theorem dro_sub {l m : List (St × Rc)} (h : Dro l m) : m.Sublist l := by
  induction h with
  | nil => exact List.Sublist.refl _
  | keep p _ ih => exact ih.cons_cons p
  | drop p _ _ ih => exact ih.cons p

/-- Norm with its rectangles. -/
theorem ann_norL (l : List St) : ann [] (norL l) = busA (kepN (ann [] l)) := by
  unfold norL
  rw [ann_busy, dro_ann l [] (dro_kepN _)]
theorem norL_len (l : List St) : (norL l).length ≤ l.length := by
  have h1 := busy_len ((kepN (ann [] l)).map Prod.fst)
  have h2 := dro_len (dro_kepN (ann [] l))
  rw [ann_len] at h2
  rw [List.length_map] at h1
  unfold norL
  omega
theorem norL_clp {l : List St} (h : clpE 0 l = 0) : clpE 0 (norL l) = 0 := idl_clp (bz_idl St.k _ []) 0 (dro_clp l [] 0 (dro_kepN _) h)
theorem norL_chk {l : List St} (h : chkS l = 0) : chkS (norL l) = 0 := by
  obtain ⟨h1, h2⟩ := chkS_zero h
  have := norL_len l
  unfold chkS
  rw [if_neg (by omega)]
  exact norL_clp h2

/-- Nothing in it is hidden. -/
def okN : List (St × Rc) → Prop
  | [] => True
  | p :: t => hidB p t = false ∧ okN t
theorem hidB_sub {p : St × Rc} {t u : List (St × Rc)} (h : u.Sublist t) (hp : hidB p t = false) : hidB p u = false := by
  unfold hidB at hp ⊢
  cases hd : drw p.1
  · rfl
  · rw [hd] at hp
    rw [Bool.true_and] at hp ⊢
    rw [Bool.or_eq_false_iff] at hp ⊢
    refine ⟨hp.1, ?_⟩
    rw [List.any_eq_false] at hp ⊢
    exact fun x hx => hp.2 x (h.subset hx)
theorem okN_sub {l m : List (St × Rc)} (h : m.Sublist l) : okN l → okN m := by
  induction h with
  | slnil => exact fun _ => trivial
  | cons p _ ih => exact fun h => ih h.2
  | cons_cons p h ih => exact fun k => ⟨hidB_sub h k.1, ih k.2⟩
theorem okN_kepN : ∀ l : List (St × Rc), okN (kepN l)
  | [] => trivial
  | p :: t => by
    unfold kepN
    split
    · exact okN_kepN t
    · next h => exact ⟨hidB_sub (dro_sub (dro_kepN t)) (Bool.eq_false_iff.2 h), okN_kepN t⟩
theorem kepN_same : ∀ l : List (St × Rc), okN l → kepN l = l
  | [], _ => rfl
  | p :: t, h => by
    unfold kepN
    rw [h.1, kepN_same t h.2]
    rfl
/-- Norm of Norm is Norm. -/
theorem norL_norL (l : List St) : norL (norL l) = norL l := by
  have h1 := ann_norL l
  have h2 : okN (ann [] (norL l)) := by
    rw [h1]
    exact okN_sub (idl_sub (bz_idl _ _ [])) (okN_kepN _)
  show busy ((kepN (ann [] (norL l))).map Prod.fst) = norL l
  rw [kepN_same _ h2, ann_fst]
  exact bz_same St.k (bz_nid St.k _ [] trivial)

end Go.Proofs.YtleoaanjcccooaaGreatDoor

/-
  Strokes in memory: lists of them read and owned; strokes compared.
-/
namespace Go.Proofs.YtleoaanjcccooaaGreatDoor
open Go.RowKit

/-- A stroke, cell by cell. -/
def sCel (s : St) : List Value := [.int .u8 s.k, .int .i64 s.r.x, .int .i64 s.r.y, .int .i64 s.r.w, .int .i64 s.r.h, .int .u8 s.c.r, .int .u8 s.c.g, .int .u8 s.c.b, .int .u8 s.c.a, .int .u8 s.b.r, .int .u8 s.b.g, .int .u8 s.b.b, .int .u8 s.b.a, .string s.t, .int .i64 s.n]
theorem sCel_len (s : St) : (sCel s).length = 15 := rfl
def flatZ : List St → List Value
  | [] => []
  | s :: l => sCel s ++ flatZ l
theorem flatZ_app (l m : List St) : flatZ (l ++ m) = flatZ l ++ flatZ m := by
  induction l with
  | nil => rfl
  | cons s l ih => show sCel s ++ flatZ (l ++ m) = (sCel s ++ flatZ l) ++ flatZ m; rw [ih, List.append_assoc]
theorem flatZ_one (s : St) : flatZ [s] = sCel s := List.append_nil _
theorem flatZ_len (l : List St) : (flatZ l).length = l.length * 15 := by
  induction l with
  | nil => rfl
  | cons s l ih => show (sCel s ++ flatZ l).length = _; rw [List.length_append, ih, sCel_len, List.length_cons]; omega
theorem flatZ_at (l : List St) (k : Nat) (h : k < l.length) (j : Nat) (hj : j < 15) : (flatZ l)[k * 15 + j]? = (sCel l[k])[j]? := by
  induction l generalizing k with
  | nil => simp at h
  | cons s l ih =>
    cases k with
    | zero =>
      show (sCel s ++ flatZ l)[0 * 15 + j]? = (sCel s)[j]?
      rw [Nat.zero_mul, Nat.zero_add, List.getElem?_append_left (by rw [sCel_len]; exact hj)]
    | succ k =>
      have h' : k < l.length := by simpa using h
      show (sCel s ++ flatZ l)[(k + 1) * 15 + j]? = (sCel l[k])[j]?
      rw [List.getElem?_append_right (by rw [sCel_len]; omega), sCel_len, ← ih k h']
      congr 1
      omega
theorem oneZ (s : St) : ∀ u ∈ sCel s, u.oneCell' = true := by
  intro u hu
  simp only [sCel, List.mem_cons, List.not_mem_nil, or_false] at hu
  rcases hu with rfl | rfl | rfl | rfl | rfl | rfl | rfl | rfl | rfl | rfl | rfl | rfl | rfl | rfl | rfl <;> rfl
theorem onesZ : ∀ (l : List St), ∀ u ∈ flatZ l, u.oneCell' = true
  | [], u, hu => by cases hu
  | s :: l, u, hu => by
    rcases List.mem_append.1 hu with h | h
    · exact oneZ s u h
    · exact onesZ l u h

/-- A stroke in memory, from a place of a block on. -/
def StAt (w : World) (g p : Nat) (s : St) : Prop := w.cell? ⟨g, p, none⟩ = some (.int .u8 s.k) ∧ w.cell? ⟨g, p + 1, none⟩ = some (.int .i64 s.r.x) ∧ w.cell? ⟨g, p + 2, none⟩ = some (.int .i64 s.r.y) ∧ w.cell? ⟨g, p + 3, none⟩ = some (.int .i64 s.r.w) ∧ w.cell? ⟨g, p + 4, none⟩ = some (.int .i64 s.r.h) ∧ w.cell? ⟨g, p + 5, none⟩ = some (.int .u8 s.c.r) ∧ w.cell? ⟨g, p + 6, none⟩ = some (.int .u8 s.c.g) ∧ w.cell? ⟨g, p + 7, none⟩ = some (.int .u8 s.c.b) ∧ w.cell? ⟨g, p + 8, none⟩ = some (.int .u8 s.c.a) ∧ w.cell? ⟨g, p + 9, none⟩ = some (.int .u8 s.b.r) ∧ w.cell? ⟨g, p + 10, none⟩ = some (.int .u8 s.b.g) ∧ w.cell? ⟨g, p + 11, none⟩ = some (.int .u8 s.b.b) ∧ w.cell? ⟨g, p + 12, none⟩ = some (.int .u8 s.b.a) ∧ w.cell? ⟨g, p + 13, none⟩ = some (.string s.t) ∧ w.cell? ⟨g, p + 14, none⟩ = some (.int .i64 s.n)
theorem stat_iff {w : World} {g p : Nat} {s : St} : StAt w g p s ↔ ∀ j, j < 15 → w.cell? ⟨g, p + j, none⟩ = (sCel s)[j]? := by
  constructor
  · rintro ⟨h0, h1, h2, h3, h4, h5, h6, h7, h8, h9, h10, h11, h12, h13, h14⟩ j hj
    match j, hj with
    | 0, _ => exact h0
    | 1, _ => exact h1
    | 2, _ => exact h2
    | 3, _ => exact h3
    | 4, _ => exact h4
    | 5, _ => exact h5
    | 6, _ => exact h6
    | 7, _ => exact h7
    | 8, _ => exact h8
    | 9, _ => exact h9
    | 10, _ => exact h10
    | 11, _ => exact h11
    | 12, _ => exact h12
    | 13, _ => exact h13
    | 14, _ => exact h14
  · intro h
    exact ⟨h 0 (by decide), h 1 (by decide), h 2 (by decide), h 3 (by decide), h 4 (by decide), h 5 (by decide), h 6 (by decide), h 7 (by decide), h 8 (by decide), h 9 (by decide), h 10 (by decide), h 11 (by decide), h 12 (by decide), h 13 (by decide), h 14 (by decide)⟩
theorem StAt.kept {w w' : World} {g p : Nat} {s : St} (h : StAt w g p s) (k : ∀ o, w'.cell? ⟨g, o, none⟩ = w.cell? ⟨g, o, none⟩) : StAt w' g p s := by
  rw [stat_iff] at h ⊢
  intro j hj
  rw [k, h j hj]
/-- A slice that holds strokes. -/
def LsS (w : World) (v : Value) (l : List St) : Prop := ∃ oa cap, v = .slice oa l.length cap ∧ l.length ≤ cap ∧ (0 < l.length → ∃ g o, oa = some ⟨g, o, none⟩ ∧ g < w.heap.size ∧ ∀ i (h : i < l.length), StAt w g (o + i * 15) l[i])
theorem LsS.below {w w' : World} {v : Value} {l : List St} (h : LsS w v l) (hb : Below w.heap.size w w') : LsS w' v l := by
  obtain ⟨oa, cap, e, hc, hg⟩ := h
  refine ⟨oa, cap, e, hc, fun hp => ?_⟩
  obtain ⟨g, o, e1, g1, g2⟩ := hg hp
  exact ⟨g, o, e1, Nat.lt_of_lt_of_le g1 hb.size, fun i hi => (g2 i hi).kept fun j => hb.cell (p := ⟨g, j, none⟩) g1⟩
theorem lss_nil (w : World) : LsS w (.slice none 0 0) [] := ⟨none, 0, rfl, Nat.le_refl _, fun h => absurd h (Nat.lt_irrefl 0)⟩
/-- Strokes that a call made. -/
def OwS (lo : Nat) (w : World) (v : Value) (l : List St) : Prop := w.ownsRow lo 58 15 v l.length (flatZ l)
theorem OwS.nil (lo : Nat) (w : World) : OwS lo w (.slice none 0 0) [] := World.ownsRow_nil _ _ _ _
theorem OwS.lss {lo : Nat} {w : World} {v : Value} {l : List St} (h : OwS lo w v l) : LsS w v l := by
  obtain ⟨hl, ⟨rfl, h0⟩ | ⟨g, cap, cur, rfl, hb, hc, h1, h2, h3, h4⟩⟩ := id h
  · obtain rfl : l = [] := List.length_eq_zero_iff.1 h0
    exact lss_nil w
  · refine ⟨_, cap, rfl, h1, fun _ => ⟨g, 0, rfl, (Array.getElem?_eq_some_iff.1 hc).1, fun i hi => ?_⟩⟩
    rw [stat_iff]
    intro j hj
    rw [Nat.zero_add, own_cell h (i * 15 + j) (by omega), flatZ_at l i hi j hj]

theorem info_strokeZ : (Tryz.prog.info? 58).map (fun i => (i.zero, i.size, i.bytes)) = some (some (.agg #[.int .u8 0, .int .i64 0, .int .i64 0, .int .i64 0, .int .i64 0, .int .u8 0, .int .u8 0, .int .u8 0, .int .u8 0, .int .u8 0, .int .u8 0, .int .u8 0, .int .u8 0, .string ByteArray.empty, .int .i64 0]), 15, 72) := by kernel_rfl

/-- Two strokes, compared. -/
def eqS (x y : St) : Bool := (x.k == y.k) && ((x.r.x == y.r.x) && ((x.r.y == y.r.y) && ((x.r.w == y.r.w) && ((x.r.h == y.r.h) && ((x.c.r == y.c.r) && ((x.c.g == y.c.g) && ((x.c.b == y.c.b) && ((x.c.a == y.c.a) && ((x.b.r == y.b.r) && ((x.b.g == y.b.g) && ((x.b.b == y.b.b) && ((x.b.a == y.b.a) && ((decide (x.t.toList = y.t.toList)) && (x.n == y.n))))))))))))))
theorem ztx_list (t : ByteArray) : t.toList = t.data.toList := by first | exact ByteArray.toList_eq t | exact Lib.toList_data t | simp
theorem ztx_inj {t u : ByteArray} : t.toList = u.toList ↔ t = u := by
  rw [ztx_list, ztx_list]
  constructor
  · intro h
    obtain ⟨d⟩ := t
    obtain ⟨e⟩ := u
    have h : d.toList = e.toList := h
    rw [Array.toList_inj.1 h]
  · intro h
    rw [h]
theorem eqS_iff (x y : St) : eqS x y = true ↔ x = y := by
  obtain ⟨xk, ⟨x1, x2, x3, x4⟩, ⟨x5, x6, x7, x8⟩, ⟨x9, x10, x11, x12⟩, xt, xn⟩ := x
  obtain ⟨yk, ⟨y1, y2, y3, y4⟩, ⟨y5, y6, y7, y8⟩, ⟨y9, y10, y11, y12⟩, yt, yn⟩ := y
  simp [eqS, and_assoc, ztx_inj]
theorem eqS_self (x : St) : eqS x x = true := (eqS_iff x x).2 rfl
theorem chainZ {p : Prop} [Decidable p] {A : Result Value} {b : Bool} {w : World} (h : A = .ok (.bool b) w) : (if p then A else .ok (.bool false) w) = .ok (.bool (decide p && b)) w := by
  by_cases hp : p <;> simp [hp, h]
theorem chainY {p : Prop} [Decidable p] {w : World} : (if p then Result.ok (Value.bool true) w else .ok (.bool false) w) = .ok (.bool (decide p)) w := by
  by_cases hp : p <;> simp [hp]
theorem chainN {p : Prop} [Decidable p] {A : Result Value} {b : Bool} {w : World} (h : A = .ok (.bool (!b)) w) : (if p then A else .ok (.bool true) w) = .ok (.bool (!(decide p && b))) w := by
  by_cases hp : p <;> simp [hp, h]
theorem chainM {p : Prop} [Decidable p] {w : World} : (if p then Result.ok (Value.bool false) w else .ok (.bool true) w) = .ok (.bool (!decide p)) w := by
  by_cases hp : p <;> simp [hp]

set_option maxHeartbeats 1000000 in
theorem eql_stroke (x y : St) (w : World) : (binOp .eql 58 (Value.agg #[.int .u8 x.k, .int .i64 x.r.x, .int .i64 x.r.y, .int .i64 x.r.w, .int .i64 x.r.h, .int .u8 x.c.r, .int .u8 x.c.g, .int .u8 x.c.b, .int .u8 x.c.a, .int .u8 x.b.r, .int .u8 x.b.g, .int .u8 x.b.b, .int .u8 x.b.a, .string x.t, .int .i64 x.n]) (Value.agg #[.int .u8 y.k, .int .i64 y.r.x, .int .i64 y.r.y, .int .i64 y.r.w, .int .i64 y.r.h, .int .u8 y.c.r, .int .u8 y.c.g, .int .u8 y.c.b, .int .u8 y.c.a, .int .u8 y.b.r, .int .u8 y.b.g, .int .u8 y.b.b, .int .u8 y.b.a, .string y.t, .int .i64 y.n])).run Tryz.prog w = .ok (.bool (eqS x y)) w := by
  simp [go_sem]
  exact chainZ (chainZ (chainZ (chainZ (chainZ (chainZ (chainZ (chainZ (chainZ (chainZ (chainZ (chainZ (chainZ (chainZ chainY)))))))))))))

set_option maxHeartbeats 1000000 in
theorem neq_stroke (x y : St) (w : World) : (binOp .neq 58 (Value.agg #[.int .u8 x.k, .int .i64 x.r.x, .int .i64 x.r.y, .int .i64 x.r.w, .int .i64 x.r.h, .int .u8 x.c.r, .int .u8 x.c.g, .int .u8 x.c.b, .int .u8 x.c.a, .int .u8 x.b.r, .int .u8 x.b.g, .int .u8 x.b.b, .int .u8 x.b.a, .string x.t, .int .i64 x.n]) (Value.agg #[.int .u8 y.k, .int .i64 y.r.x, .int .i64 y.r.y, .int .i64 y.r.w, .int .i64 y.r.h, .int .u8 y.c.r, .int .u8 y.c.g, .int .u8 y.c.b, .int .u8 y.c.a, .int .u8 y.b.r, .int .u8 y.b.g, .int .u8 y.b.b, .int .u8 y.b.a, .string y.t, .int .i64 y.n])).run Tryz.prog w = .ok (.bool (!eqS x y)) w := by
  simp [go_sem]
  exact chainN (chainN (chainN (chainN (chainN (chainN (chainN (chainN (chainN (chainN (chainN (chainN (chainN (chainN chainM)))))))))))))

theorem eql_co (a b : Co) (w : World) : (binOp .eql 45 (.agg #[.int .u8 a.r, .int .u8 a.g, .int .u8 a.b, .int .u8 a.a]) (.agg #[.int .u8 b.r, .int .u8 b.g, .int .u8 b.b, .int .u8 b.a])).run Tryz.prog w = .ok (.bool ((a.r == b.r) && ((a.g == b.g) && ((a.b == b.b) && (a.a == b.a))))) w := by
  simp [go_sem]
  exact chainZ (chainZ (chainZ chainY))
theorem neq_co0 (a : Co) (w : World) : (binOp .neq 45 (.agg #[.int .u8 a.r, .int .u8 a.g, .int .u8 a.b, .int .u8 a.a]) (.agg #[.int .u8 0, .int .u8 0, .int .u8 0, .int .u8 0])).run Tryz.prog w = .ok (.bool (!coE a)) w := by
  simp [go_sem]
  exact chainN (chainN (chainN chainM))
theorem neq_rc0 (a : Rc) (w : World) : (binOp .neq 55 (.agg #[.int .i64 a.x, .int .i64 a.y, .int .i64 a.w, .int .i64 a.h]) (.agg #[.int .i64 0, .int .i64 0, .int .i64 0, .int .i64 0])).run Tryz.prog w = .ok (.bool (!zZr a)) w := neq_rect a.x a.y a.w a.h 0 0 0 0 w

end Go.Proofs.YtleoaanjcccooaaGreatDoor

/-
  Contracts of the document's answer for layer 13: what is wrong with a stroke.
-/
namespace Go.Proofs.YtleoaanjcccooaaGreatDoor
open Go.RowKit

theorem ztx_ne {t : ByteArray} (h : t.size ≠ 0) : ¬ (t = ByteArray.empty) ∧ t.toList.isEmpty = false := by
  refine ⟨by rintro rfl; exact h rfl, ?_⟩
  rw [ztx_list]
  cases hd : t.data.toList with
  | nil => exact absurd (congrArg List.length hd) (by rw [Array.length_toList]; exact h)
  | cons _ _ => rfl
theorem ztx_nil {t : ByteArray} (h : t.size = 0) : t = ByteArray.empty := by
  obtain ⟨d⟩ := t
  have : d = #[] := Array.eq_empty_of_size_eq_zero h
  rw [this]; rfl

theorem wroK_no {s : St} (hw : wroK s = false) : ¬ s.k < 1 ∧ ¬ 5 < s.k ∧ ¬ s.n < 0 ∧ ¬ 1048576 < s.n ∧ ¬ (65536 : Int) < (s.t.size : Int) ∧ (s.k = 1 ∨ s.k = 2 ∨ s.k = 3 ∨ s.k = 4 ∨ s.k = 5) := by
  unfold wroK at hw
  simp only [Bool.or_eq_false_iff, decide_eq_false_iff_not] at hw
  omega
theorem wroF_yes {s : St} (hw : wroF s = true) (hk : s.k = 1 ∨ s.k = 2 ∨ s.k = 3 ∨ s.k = 4 ∨ s.k = 5) : (s.k ≠ 3 ∧ s.t.size ≠ 0) ∨ (s.k ≠ 3 ∧ s.t.size = 0 ∧ coE s.b = false) ∨ ((s.k = 4 ∨ s.k = 5) ∧ s.t.size = 0 ∧ coE s.b = true ∧ coE s.c = false) ∨ (s.k = 5 ∧ s.t.size = 0 ∧ coE s.b = true ∧ coE s.c = true ∧ zZr s.r = false) := by
  unfold wroF at hw
  by_cases hz : s.t.size = 0
  · cases hb : coE s.b <;> cases hc : coE s.c <;> cases hr : zZr s.r <;> rcases hk with k | k | k | k | k <;> simp [k, hz, hb, hc, hr] at hw ⊢
  · rcases hk with k | k | k | k | k <;> simp [k, hz] at hw ⊢
theorem wroF_not {s : St} (hw : wroF s = false) (hk : s.k = 1 ∨ s.k = 2 ∨ s.k = 3 ∨ s.k = 4 ∨ s.k = 5) : ((s.k = 1 ∨ s.k = 2) ∧ s.t.size = 0 ∧ coE s.b = true) ∨ s.k = 3 ∨ (s.k = 4 ∧ s.t.size = 0 ∧ coE s.b = true ∧ coE s.c = true) ∨ (s.k = 5 ∧ s.t.size = 0 ∧ coE s.b = true ∧ coE s.c = true ∧ zZr s.r = true) := by
  unfold wroF at hw
  by_cases hz : s.t.size = 0
  · cases hb : coE s.b <;> cases hc : coE s.c <;> cases hr : zZr s.r <;> rcases hk with k | k | k | k | k <;> simp [k, hz, hb, hc, hr] at hw ⊢
  · rcases hk with k | k | k | k | k <;> simp [k, hz] at hw ⊢

end Go.Proofs.YtleoaanjcccooaaGreatDoor

/-
  Contracts of the document's answer for layer 13: Check, Draws.
-/
namespace Go.Proofs.YtleoaanjcccooaaGreatDoor
open Go.RowKit

/-- Texts as long as a machine's may be. -/
def Txs (l : List St) : Prop := ∀ s ∈ l, s.t.size ≤ 9223372036854775807

theorem clp_step {m : Nat} {s : St} {t : List St} {R : Int} (h : clpE m (s :: t) = R) : (oneE s ≠ 0 → R = oneE s) ∧ (oneE s = 0 → s.k = 5 → m = 0 → R = 130) ∧ (oneE s = 0 → ¬ (s.k = 5 ∧ m = 0) → clpE (opn m s) t = R) := by
  unfold clpE at h
  refine ⟨fun h1 => ?_, fun h1 h2 h3 => ?_, fun h1 h2 => ?_⟩
  · rw [if_pos h1] at h; exact h.symm
  · rw [if_neg (by simp [h1]), if_pos ⟨h2, h3⟩] at h; exact h.symm
  · rw [if_neg (by simp [h1]), if_neg h2] at h; exact h

end Go.Proofs.YtleoaanjcccooaaGreatDoor

/-
  Strokes as they come in.
-/
namespace Go.Proofs.YtleoaanjcccooaaGreatDoor
open Go.RowKit

/-- A stroke as it comes in: its numbers are such as its types hold. -/
def WfS (s : St) : Prop := (0 ≤ s.k ∧ s.k ≤ 255) ∧ (I64 s.r.x ∧ I64 s.r.y ∧ I64 s.r.w ∧ I64 s.r.h) ∧ s.c.ok ∧ s.b.ok ∧ s.t.size ≤ 9223372036854775807 ∧ I64 s.n
def Wfs (l : List St) : Prop := ∀ s ∈ l, WfS s
theorem Wfs.txs {l : List St} (h : Wfs l) : Txs l := fun s hs => (h s hs).2.2.2.2.1

end Go.Proofs.YtleoaanjcccooaaGreatDoor
