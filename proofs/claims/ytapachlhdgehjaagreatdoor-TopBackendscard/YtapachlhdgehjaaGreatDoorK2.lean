/-
  Texts of this claim, one behind the other: what each is about stands ahead of it.
-/
import Derived.Test.YtapachlhdgehjaaGreatDoorK0
import Derived.Test.YtapachlhdgehjaaGreatDoorK1
import Derived.BigQuiet
import Derived.Deep.RegionWith
import Derived.Deep.DeepCutAuto
import Derived.ProofKit
import Derived.OpenShut
import Derived.Lib.SmallJoins
import Derived.Lib.LaidU8
import Derived.Laws.AppendOwnNone
/-
  Contracts of package geom: areas, places, what two have together.
-/
namespace Go.Proofs.YtapachlhdgehjaaGreatDoor
open Go.RowKit
attribute [local go_sem] ite_max ite_min

set_option maxRecDepth 10000 in
set_option maxHeartbeats 2000000 in
theorem meet_any (ax ay aw ah bx by' bw bh : Int) (w : World) (hax : I64 ax) (hay : I64 ay) (hbx : I64 bx) (hby : I64 by') :
    Calls Tryz.prog 29 #[.agg #[.int .i64 ax, .int .i64 ay, .int .i64 aw, .int .i64 ah], .agg #[.int .i64 bx, .int .i64 by', .int .i64 bw, .int .i64 bh]] w fun e w' => e = .returned (.agg #[.int .i64 (meetR ax ay aw ah bx by' bw bh).x, .int .i64 (meetR ax ay aw ah bx by' bw bh).y, .int .i64 (meetR ax ay aw ah bx by' bw bh).w, .int .i64 (meetR ax ay aw ah bx by' bw bh).h]) ∧ Below w.heap.size w w' := by
  cases h1 : emptyB ax ay aw ah
  · cases h2 : emptyB bx by' bw bh
    · rw [show meetR ax ay aw ah bx by' bw bh = btw (max ax bx) (max ay by') (min (ax + aw) (bx + bw)) (min (ay + ah) (by' + bh)) by unfold meetR; rw [h1, h2]; rfl]
      obtain ⟨a1, a2, a3, a4, a5, a6, a7, a8, a9, a10⟩ := bounds_of h1
      obtain ⟨b1, b2, b3, b4, b5, b6, b7, b8, b9, b10⟩ := bounds_of h2
      go_enter Tryz.func29, Tryz.ntmps29
      go_wp2_with fail
      obtain ⟨A, B, C, L⟩ := boxes_rrr w ax ay aw ah bx by' bw bh 52 52 52
      refine (empty_any _ _ _ _ _ (by assumption) (by assumption)).mono ?_
      rintro e w1 ⟨rfl, hb⟩
      have F := (fr2 w _ _ _ _).below hb
      replace A := A.below hb
      replace B := B.below hb
      replace C := C.below hb
      replace L := L.trans (hb.mono (by simp; omega))
      clear hb
      obtain ⟨d0, d1, d2, d3⟩ := id A
      obtain ⟨e0, e1, e2, e3⟩ := id B
      go_wp2_with fail
      clear d0 d1 d2 d3 e0 e1 e2 e3
      refine (empty_any _ _ _ _ _ (by assumption) (by assumption)).mono ?_
      rintro e w2 ⟨rfl, hb⟩
      replace F := F.below hb
      replace L := L.trans (hb.mono L.size)
      replace A := A.below hb
      replace B := B.below hb
      replace C := C.below hb
      clear hb
      obtain ⟨d0, d1, d2, d3⟩ := id A
      obtain ⟨e0, e1, e2, e3⟩ := id B
      go_upto_region 3 with fail
      go_cut [5, 6] (fun s5 s6 wx => ∃ b5 b6, s5 = .pointer (some ⟨b5, 0, none⟩) ∧ s6 = .pointer (some ⟨b6, 0, none⟩) ∧ At2 wx b5 (ax + aw) (ay + ah) ∧ At2 wx b6 (bx + bw) (by' + bh) ∧ At4 wx w.heap.size ax ay aw ah ∧ At4 wx (w.heap.size + 1) bx by' bw bh ∧ At4 wx (w.heap.size + 1 + 1) 0 0 0 0 ∧ Fr wx (w.heap.size + 1 + 1) ∧ Below w.heap.size w wx)
      case first =>
        clear d0 d1 d2 d3 e0 e1 e2 e3
        have hE1 : Hid (∀ w, Calls Tryz.prog 58 #[.agg #[.int .i64 ax, .int .i64 ay, .int .i64 aw, .int .i64 ah]] w fun e w' => e = .returned (.agg #[.int .i64 (ax + aw), .int .i64 (ay + ah)]) ∧ Below w.heap.size w w') := fun w => end_any _ _ _ _ _ (by omega) (by omega) (by omega) (by omega) (by omega) (by omega) (by omega) (by omega)
        have hE2 : Hid (∀ w, Calls Tryz.prog 58 #[.agg #[.int .i64 bx, .int .i64 by', .int .i64 bw, .int .i64 bh]] w fun e w' => e = .returned (.agg #[.int .i64 (bx + bw), .int .i64 (by' + bh)]) ∧ Below w.heap.size w w') := fun w => end_any _ _ _ _ _ (by omega) (by omega) (by omega) (by omega) (by omega) (by omega) (by omega) (by omega)
        have HL : Hid (At4 w2 w.heap.size ax ay aw ah ∧ At4 w2 (w.heap.size + 1) bx by' bw bh ∧ At4 w2 (w.heap.size + 1 + 1) 0 0 0 0 ∧ Fr w2 (w.heap.size + 1 + 1) ∧ Below w.heap.size w w2) := ⟨A, B, C, F, L⟩
        clear hax hay hbx hby h1 h2 a1 a2 a3 a4 a5 a6 a7 a8 a9 a10 b1 b2 b3 b4 b5 b6 b7 b8 b9 b10 A B C F L
        refine wp_region_lit 4 2 2 (fun _ => .cells #[.int .i64 0, .int .i64 0] 50) [5, 6] (by kernel_rfl) (by kernel_rfl) rfl ?_ rfl ?_ ?_
        · intro k hk
          have hc : k = 0 ∨ k = 1 := by omega
          rcases hc with rfl | rfl <;> rfl
        · intro i h1 h2
          have hc : i = 4 ∨ i = 5 := by omega
          rcases hc with rfl | rfl
          · exact ⟨_, rfl, rfl, fun _ _ => rfl⟩
          · exact ⟨_, rfl, rfl, fun _ _ => rfl⟩
        apply Exists.intro
        refine ⟨fun bs ne => ?_, ?_⟩
        · obtain ⟨HA, HB, _⟩ := HL.out
          have d0 := fun t : Gb w2 bs => (HA.below t.below).1
          have d1 := fun t : Gb w2 bs => (HA.below t.below).2.1
          have d2 := fun t : Gb w2 bs => (HA.below t.below).2.2.1
          have d3 := fun t : Gb w2 bs => (HA.below t.below).2.2.2
          have e0 := fun t : Gb w2 bs => (HB.below t.below).1
          have e1 := fun t : Gb w2 bs => (HB.below t.below).2.1
          have e2 := fun t : Gb w2 bs => (HB.below t.below).2.2.1
          have e3 := fun t : Gb w2 bs => (HB.below t.below).2.2.2
          clear HA HB
          simp only [List.take_succ_cons, List.take_zero]
          repeat (go_big_quiet_step (first
            | (go_at_call_of 58 (Value.agg #[.int .i64 ax, .int .i64 ay, .int .i64 aw, .int .i64 ah]); exact gb_call (hE1.out _))
            | (go_at_call_of 58 (Value.agg #[.int .i64 bx, .int .i64 by', .int .i64 bw, .int .i64 bh]); exact gb_call (hE2.out _))))
          exact wpQuiet_nil rfl
        · intro bl wr hb hlo hinj
          obtain ⟨k1, k2⟩ := hlo 4 (by omega) (by omega)
          obtain ⟨k3, k4⟩ := hlo 5 (by omega) (by omega)
          have k5 := hinj 4 5 (by omega) (by omega) (by omega) (by omega) (by omega)
          obtain ⟨c1, f1, l1⟩ := heap_cells k2
          obtain ⟨c2, f2, l2⟩ := heap_cells k4
          simp only [layL, ptr]
          generalize bl 4 = g5 at *
          generalize bl 5 = g6 at *
          clear hlo hinj k2 k4
          refine wpAny_one 6 (by kernel_rfl) rfl ?_
          intro K hK
          go_simp
          refine hK _ _ ?_
          clear hK K
          refine wpAny_one 7 (by kernel_rfl) rfl ?_
          intro K hK
          go_simp
          refine hK _ _ ?_
          clear hK K
          refine wpAny_done (by kernel_rfl) ?_ _
          go_wp2_with fail
          go_meet
          obtain ⟨HA, HB, HC, HF, HD⟩ := HL.out
          have ha := HA.lt
          have hb1 := HB.lt
          have hc := HC.lt
          have hd := HD.size
          have z5 : At2 wr g5 0 0 := ⟨by rw [c1]; rfl, by rw [c1]; rfl⟩
          have z6 : At2 wr g6 0 0 := ⟨by rw [c2]; rfl, by rw [c2]; rfl⟩
          exact ⟨g5, g6, rfl, rfl, ((z5.put _ _).set _ (Ne.symm k5)).set _ (Ne.symm k5), ((z6.set _ k5).set _ k5).put _ _,
            ((((HA.below hb).set _ (by show g5 ≠ _; omega)).set _ (by show g5 ≠ _; omega)).set _ (by show g6 ≠ _; omega)).set _ (by show g6 ≠ _; omega),
            ((((HB.below hb).set _ (by show g5 ≠ _; omega)).set _ (by show g5 ≠ _; omega)).set _ (by show g6 ≠ _; omega)).set _ (by show g6 ≠ _; omega),
            ((((HC.below hb).set _ (by show g5 ≠ _; omega)).set _ (by show g5 ≠ _; omega)).set _ (by show g6 ≠ _; omega)).set _ (by show g6 ≠ _; omega),
            ((((HF.below hb).set _ _).set _ _).set _ _).set _ _,
            ((((HD.trans (hb.mono hd)).setCell (by show _ ≤ g5; omega) _).setCell (by show _ ≤ g5; omega) _).setCell (by show _ ≤ g6; omega) _).setCell (by show _ ≤ g6; omega) _⟩
      case rest =>
      obtain ⟨g5, g6, rfl, rfl, E5, E6, A, B, C, F, L⟩ := hcut
      have la := A.lt
      have lb := B.lt
      have lc := C.lt
      have l5 := E5.lt
      have l6 := E6.lt
      obtain ⟨d0, d1, d2, d3⟩ := A
      obtain ⟨e0, e1, e2, e3⟩ := B
      obtain ⟨x0, x1⟩ := E5
      obtain ⟨y0, y1⟩ := E6
      go_wp2_with fail
      clear d0 d1 d2 d3 e0 e1 e2 e3 x0 x1 y0 y1 la lb lc l5 l6
      refine (between_any _ _ _ _ _ (by omega) (by omega) (by omega) (by omega) (by omega) (by omega) (by omega) (by omega)).mono ?_
      rintro e w3 ⟨rfl, hb⟩
      replace C := C.below hb
      replace F := (F.below hb).2
      replace L := L.trans (hb.mono L.size)
      clear hb
      obtain ⟨d0, d1, d2, d3⟩ := id C
      go_wp2
      exact bodyPost_ret (v := .agg #[.int .i64 _, .int .i64 _, .int .i64 _, .int .i64 _]) (by simp [results, Tryz.results29, go_sem, d0, d1, d2, d3]) rfl ⟨rfl, set4_below L (by omega) _ _ _ _⟩
    · rw [show meetR ax ay aw ah bx by' bw bh = zr by unfold meetR; rw [h1, h2]; rfl]
      go_enter Tryz.func29, Tryz.ntmps29
      go_wp2_with fail
      obtain ⟨A, B, C, L⟩ := boxes_rrr w ax ay aw ah bx by' bw bh 52 52 52
      refine (empty_any _ _ _ _ _ (by assumption) (by assumption)).mono ?_
      rintro e w1 ⟨rfl, hb⟩
      have F := (fr2 w _ _ _ _).below hb
      replace B := B.below hb
      replace C := C.below hb
      replace L := L.trans (hb.mono L.size)
      clear A hb
      obtain ⟨e0, e1, e2, e3⟩ := id B
      go_wp2_with fail
      clear e0 e1 e2 e3
      refine (empty_any _ _ _ _ _ (by assumption) (by assumption)).mono ?_
      rintro e w2 ⟨rfl, hb⟩
      replace F := (F.below hb).2
      replace L := L.trans (hb.mono L.size)
      replace C := C.below hb
      clear B hb
      obtain ⟨d0, d1, d2, d3⟩ := id C
      go_wp2
      exact bodyPost_ret (v := .agg #[.int .i64 0, .int .i64 0, .int .i64 0, .int .i64 0]) (by simp [results, Tryz.results29, go_sem, d0, d1, d2, d3]) rfl ⟨rfl, set4_below L (by omega) _ _ _ _⟩
  · rw [show meetR ax ay aw ah bx by' bw bh = zr by unfold meetR; rw [h1]; rfl]
    go_enter Tryz.func29, Tryz.ntmps29
    go_wp2_with fail
    obtain ⟨A, B, C, L⟩ := boxes_rrr w ax ay aw ah bx by' bw bh 52 52 52
    refine (empty_any _ _ _ _ _ (by assumption) (by assumption)).mono ?_
    rintro e w1 ⟨rfl, hb⟩
    have F := ((fr2 w _ _ _ _).below hb).2
    replace C := C.below hb
    replace L := L.trans (hb.mono L.size)
    clear A B hb
    obtain ⟨d0, d1, d2, d3⟩ := id C
    go_wp2
    exact bodyPost_ret (v := .agg #[.int .i64 0, .int .i64 0, .int .i64 0, .int .i64 0]) (by simp [results, Tryz.results29, go_sem, d0, d1, d2, d3]) rfl ⟨rfl, set4_below L (by omega) _ _ _ _⟩

end Go.Proofs.YtapachlhdgehjaaGreatDoor

/-
  Contracts of package geom: the least rectangle that has both; whether one lies in another, over another.
-/
namespace Go.Proofs.YtapachlhdgehjaaGreatDoor
open Go.RowKit
attribute [local go_sem] ite_max ite_min

theorem eql_rect (a b c d x y z u : Int) (w : World) : (binOp .eql 52 (.agg #[.int .i64 a, .int .i64 b, .int .i64 c, .int .i64 d]) (.agg #[.int .i64 x, .int .i64 y, .int .i64 z, .int .i64 u])).run Tryz.prog w = .ok (.bool ((a == x) && ((b == y) && ((c == z) && (d == u))))) w := by
  have h : ∀ p q : Int, (p == q) = decide (p = q) := fun p q => by rw [Bool.eq_iff_iff]; simp
  by_cases h1 : a = x <;> by_cases h2 : b = y <;> by_cases h3 : c = z <;> by_cases h4 : d = u <;> simp [go_sem, h, h1, h2, h3, h4]
theorem neq_rect (a b c d x y z u : Int) (w : World) : (binOp .neq 52 (.agg #[.int .i64 a, .int .i64 b, .int .i64 c, .int .i64 d]) (.agg #[.int .i64 x, .int .i64 y, .int .i64 z, .int .i64 u])).run Tryz.prog w = .ok (.bool (!((a == x) && ((b == y) && ((c == z) && (d == u)))))) w := by
  have h : ∀ p q : Int, (p == q) = decide (p = q) := fun p q => by rw [Bool.eq_iff_iff]; simp
  by_cases h1 : a = x <;> by_cases h2 : b = y <;> by_cases h3 : c = z <;> by_cases h4 : d = u <;> simp [go_sem, h, h1, h2, h3, h4]

end Go.Proofs.YtapachlhdgehjaaGreatDoor

/-
  A rectangle that came in, written out.
-/
namespace Go.Proofs.YtapachlhdgehjaaGreatDoor
open Go.ChangeShapes Go.WideShapes Go.ChangeAt Go.RowKit Go.Joins

theorem cells_r : Tryz.prog.cellsOf 52 = 4 := by kernel_rfl
theorem cells_p : Tryz.prog.cellsOf 50 = 2 := by kernel_rfl
theorem cells_s : Tryz.prog.cellsOf 23 = 2 := by kernel_rfl
theorem cells_i : Tryz.prog.cellsOf 3 = 1 := by kernel_rfl

theorem i64_of {n : Int} (h : (Lit.int .i64 n).wf = true) : I64 n := by
  have := bounds_i64 h
  exact ⟨this.1, this.2⟩

end Go.Proofs.YtapachlhdgehjaaGreatDoor

/-
  Rectangles whose places are numbers of sixty-four bits.
-/
namespace Go.Proofs.YtapachlhdgehjaaGreatDoor
open Go.RowKit

end Go.Proofs.YtapachlhdgehjaaGreatDoor

/-
  Not needed in this seat.
-/
namespace Go.Proofs.YtapachlhdgehjaaGreatDoor

end Go.Proofs.YtapachlhdgehjaaGreatDoor

/-
  Colours in plain numbers: laid over one another, mixed, how light they are.
-/
namespace Go.Proofs.YtapachlhdgehjaaGreatDoor

structure Co where
  r : Int
  g : Int
  b : Int
  a : Int

def By (x : Int) : Prop := 0 ≤ x ∧ x ≤ 255
def Co.ok (c : Co) : Prop := By c.r ∧ By c.g ∧ By c.b ∧ By c.a

def shr (x y p q : Int) : Int := (p * x + q * y + (p + q) / 2) / (p + q)
def fro (a : Co) : Int := 255 * a.a
def beh (a b : Co) : Int := (255 - a.a) * b.a
def overC (a b : Co) : Co :=
  if a.a = 0 then b else ⟨shr a.r b.r (fro a) (beh a b), shr a.g b.g (fro a) (beh a b), shr a.b b.b (fro a) (beh a b), (fro a + beh a b + 127) / 255⟩
theorem shr_between {x y p q : Int} (hp : 0 ≤ p) (hq : 0 ≤ q) (h : 0 < p + q) : min x y ≤ shr x y p q ∧ shr x y p q ≤ max x y := by
  have a1 : p * min x y ≤ p * x := Int.mul_le_mul_of_nonneg_left (by omega) hp
  have a2 : q * min x y ≤ q * y := Int.mul_le_mul_of_nonneg_left (by omega) hq
  have b1 : p * x ≤ p * max x y := Int.mul_le_mul_of_nonneg_left (by omega) hp
  have b2 : q * y ≤ q * max x y := Int.mul_le_mul_of_nonneg_left (by omega) hq
  have e1 : min x y * (p + q) = p * min x y + q * min x y := by rw [Int.mul_comm, Int.add_mul]
  have e2 : (max x y + 1) * (p + q) = p * max x y + q * max x y + (p + q) := by rw [Int.add_mul, Int.mul_comm, Int.add_mul]; omega
  unfold shr
  constructor
  · exact Int.le_ediv_of_mul_le h (by omega)
  · exact Int.lt_add_one_iff.1 (Int.ediv_lt_of_lt_mul h (by omega))

theorem shr_by {x y p q : Int} (hx : By x) (hy : By y) (hp : 0 ≤ p) (hq : 0 ≤ q) (h : 0 < p + q) : By (shr x y p q) := by
  have := shr_between (x := x) (y := y) hp hq h
  unfold By at *
  omega

theorem wts {a b : Co} (ha : a.ok) (hb : b.ok) : 0 ≤ fro a ∧ fro a ≤ 65025 ∧ 0 ≤ beh a b ∧ beh a b ≤ 65025 ∧ fro a + beh a b ≤ 65025 := by
  obtain ⟨_, _, _, a1, a2⟩ := ha
  obtain ⟨_, _, _, b1, b2⟩ := hb
  have h1 : 0 ≤ (255 - a.a) * b.a := Int.mul_nonneg (by omega) (by omega)
  have h2 : (255 - a.a) * b.a ≤ (255 - a.a) * 255 := Int.mul_le_mul_of_nonneg_left b2 (by omega)
  unfold fro beh
  omega
theorem wts_pos {a b : Co} (ha : a.ok) (hb : b.ok) (h : a.a ≠ 0) : 0 < fro a + beh a b := by
  have := wts ha hb
  obtain ⟨_, _, _, a1, a2⟩ := ha
  unfold fro at *
  omega

theorem over_ok {a b : Co} (ha : a.ok) (hb : b.ok) : (overC a b).ok := by
  unfold overC
  split
  · exact hb
  · rename_i h
    obtain ⟨w1, w2, w3, w4, w5⟩ := wts ha hb
    have w6 := wts_pos ha hb h
    exact ⟨shr_by ha.1 hb.1 w1 w3 w6, shr_by ha.2.1 hb.2.1 w1 w3 w6, shr_by ha.2.2.1 hb.2.2.1 w1 w3 w6, by unfold By; dsimp only; omega⟩
end Go.Proofs.YtapachlhdgehjaaGreatDoor

/-
  Drawing lists in plain words: strokes that may be, clips, where strokes show, what nobody sees, lists cut to a region.
-/
namespace Go.Proofs.YtapachlhdgehjaaGreatDoor

structure St where
  k : Int
  r : Rc
  c : Co
  b : Co
  t : ByteArray
  n : Int

def zEm (r : Rc) : Bool := emptyB r.x r.y r.w r.h
def zMe (a b : Rc) : Rc := meetR a.x a.y a.w a.h b.x b.y b.w b.h
def zHa (r : Rc) (px py : Int) : Bool := hasB r.x r.y r.w r.h px py
def zMa (r : Rc) : Bool := mayB r.x r.y r.w r.h
def zZr (r : Rc) : Bool := eqB r 0 0 0 0
def coE (c : Co) : Bool := (c.r == 0) && ((c.g == 0) && ((c.b == 0) && (c.a == 0)))

def wroK (s : St) : Bool := (decide (s.k < 1) || decide (5 < s.k)) || ((decide (s.n < 0) || decide (1048576 < s.n)) || decide (65536 < s.t.size))
def wroF (s : St) : Bool := (!(s.k == 3) && (!(s.t.size == 0) || !coE s.b)) || (((s.k == 4 || s.k == 5) && !coE s.c) || (s.k == 5 && !zZr s.r))
def oneE (s : St) : Int := if (wroK s || wroF s) = true then 2 else if zMa s.r = true then 0 else 5
theorem oneE_cases (s : St) : oneE s = 0 ∨ oneE s = 2 ∨ oneE s = 5 := by
  unfold oneE
  split
  · exact .inr (.inl rfl)
  · split
    · exact .inl rfl
    · exact .inr (.inr rfl)
theorem oneE_zero {s : St} (h : oneE s = 0) : zMa s.r = true ∧ (s.k = 1 ∨ s.k = 2 ∨ s.k = 3 ∨ s.k = 4 ∨ s.k = 5) ∧ wroF s = false := by
  unfold oneE at h
  split at h
  · cases h
  · next h1 =>
    split at h
    · next h2 =>
      refine ⟨h2, ?_, ?_⟩
      · have h3 : wroK s = false := by
          cases e : wroK s
          · rfl
          · rw [e] at h1; simp at h1
        unfold wroK at h3
        simp at h3
        omega
      · cases e : wroF s
        · rfl
        · rw [e] at h1; simp at h1
    · cases h

def opn (n : Nat) (s : St) : Nat := if s.k = 4 then n + 1 else if s.k = 5 then n - 1 else n
def clpE : Nat → List St → Int
  | n, [] => if 0 < n then 130 else 0
  | n, s :: l => if oneE s ≠ 0 then oneE s else if s.k = 5 ∧ n = 0 then 130 else clpE (opn n s) l
def chkS (l : List St) : Int := if 16384 < l.length then 4 else clpE 0 l
theorem clpE_cons {n : Nat} {s : St} {l : List St} (h : clpE n (s :: l) = 0) : oneE s = 0 ∧ ¬ (s.k = 5 ∧ n = 0) ∧ clpE (opn n s) l = 0 := by
  unfold clpE at h
  split at h
  · next h1 => exact absurd h h1
  · next h1 =>
    split at h
    · cases h
    · next h2 => exact ⟨Decidable.not_not.1 h1, h2, h⟩
theorem chkS_zero {l : List St} (h : chkS l = 0) : l.length ≤ 16384 ∧ clpE 0 l = 0 := by
  unfold chkS at h
  split at h
  · cases h
  · next h1 => exact ⟨by omega, h⟩

def topR (cs : List Rc) (r : Rc) : Rc :=
  match cs with
  | [] => r
  | c :: _ => zMe r c
def shR (cs : List Rc) (s : St) : Rc := if zEm (topR cs s.r) = true then zr else topR cs s.r
def nxC (cs : List Rc) (s : St) : List Rc := if s.k = 4 then shR cs s :: cs else if s.k = 5 then cs.tail else cs
def ann : List Rc → List St → List (St × Rc)
  | _, [] => []
  | cs, s :: l => (s, shR cs s) :: ann (nxC cs s) l
def endC : List Rc → List St → List Rc
  | cs, [] => cs
  | cs, s :: l => endC (nxC cs s) l
theorem ann_app : ∀ (a b : List St) (cs : List Rc), ann cs (a ++ b) = ann cs a ++ ann (endC cs a) b
  | [], _, _ => rfl
  | s :: a, b, cs => by show _ :: ann (nxC cs s) (a ++ b) = _; rw [ann_app a b]; rfl
theorem ann_len : ∀ (l : List St) (cs : List Rc), (ann cs l).length = l.length
  | [], _ => rfl
  | s :: l, cs => by show (ann (nxC cs s) l).length + 1 = _; rw [ann_len l]; rfl
theorem ann_fst : ∀ (l : List St) (cs : List Rc), (ann cs l).map Prod.fst = l
  | [], _ => rfl
  | s :: l, cs => by show s :: (ann (nxC cs s) l).map Prod.fst = _; rw [ann_fst l]
theorem nxC_len (cs : List Rc) (s : St) : (nxC cs s).length = opn cs.length s := by
  unfold nxC opn
  split
  · rfl
  · split
    · exact List.length_tail
    · rfl

def drw (s : St) : Bool := decide (s.k < 4)
def flaL (l : List St) : List (St × Rc) := (ann [] l).filter fun p => drw p.1
end Go.Proofs.YtapachlhdgehjaaGreatDoor

/-
  Strokes in memory: lists of them read and owned; strokes compared.
-/
namespace Go.Proofs.YtapachlhdgehjaaGreatDoor
open Go.RowKit

def sCel (s : St) : List Value := [.int .u8 s.k, .int .i64 s.r.x, .int .i64 s.r.y, .int .i64 s.r.w, .int .i64 s.r.h, .int .u8 s.c.r, .int .u8 s.c.g, .int .u8 s.c.b, .int .u8 s.c.a, .int .u8 s.b.r, .int .u8 s.b.g, .int .u8 s.b.b, .int .u8 s.b.a, .string s.t, .int .i64 s.n]
theorem sCel_len (s : St) : (sCel s).length = 15 := rfl
def flatZ : List St → List Value
  | [] => []
  | s :: l => sCel s ++ flatZ l
theorem flatZ_app (l m : List St) : flatZ (l ++ m) = flatZ l ++ flatZ m := by
  induction l with
  | nil => rfl
  | cons s l ih => show sCel s ++ flatZ (l ++ m) = (sCel s ++ flatZ l) ++ flatZ m; rw [ih, List.append_assoc]
theorem flatZ_one (s : St) : flatZ [s] = sCel s := List.append_nil _
theorem flatZ_len (l : List St) : (flatZ l).length = l.length * 15 := by
  induction l with
  | nil => rfl
  | cons s l ih => show (sCel s ++ flatZ l).length = _; rw [List.length_append, ih, sCel_len, List.length_cons]; omega
theorem flatZ_at (l : List St) (k : Nat) (h : k < l.length) (j : Nat) (hj : j < 15) : (flatZ l)[k * 15 + j]? = (sCel l[k])[j]? := by
  induction l generalizing k with
  | nil => simp at h
  | cons s l ih =>
    cases k with
    | zero =>
      show (sCel s ++ flatZ l)[0 * 15 + j]? = (sCel s)[j]?
      rw [Nat.zero_mul, Nat.zero_add, List.getElem?_append_left (by rw [sCel_len]; exact hj)]
    | succ k =>
      have h' : k < l.length := by simpa using h
      show (sCel s ++ flatZ l)[(k + 1) * 15 + j]? = (sCel l[k])[j]?
      rw [List.getElem?_append_right (by rw [sCel_len]; omega), sCel_len, ← ih k h']
      congr 1
      omega
theorem oneZ (s : St) : ∀ u ∈ sCel s, u.oneCell' = true := by
  intro u hu
  simp only [sCel, List.mem_cons, List.not_mem_nil, or_false] at hu
  rcases hu with rfl | rfl | rfl | rfl | rfl | rfl | rfl | rfl | rfl | rfl | rfl | rfl | rfl | rfl | rfl <;> rfl
theorem onesZ : ∀ (l : List St), ∀ u ∈ flatZ l, u.oneCell' = true
  | [], u, hu => by cases hu
  | s :: l, u, hu => by
    rcases List.mem_append.1 hu with h | h
    · exact oneZ s u h
    · exact onesZ l u h

def StAt (w : World) (g p : Nat) (s : St) : Prop := w.cell? ⟨g, p, none⟩ = some (.int .u8 s.k) ∧ w.cell? ⟨g, p + 1, none⟩ = some (.int .i64 s.r.x) ∧ w.cell? ⟨g, p + 2, none⟩ = some (.int .i64 s.r.y) ∧ w.cell? ⟨g, p + 3, none⟩ = some (.int .i64 s.r.w) ∧ w.cell? ⟨g, p + 4, none⟩ = some (.int .i64 s.r.h) ∧ w.cell? ⟨g, p + 5, none⟩ = some (.int .u8 s.c.r) ∧ w.cell? ⟨g, p + 6, none⟩ = some (.int .u8 s.c.g) ∧ w.cell? ⟨g, p + 7, none⟩ = some (.int .u8 s.c.b) ∧ w.cell? ⟨g, p + 8, none⟩ = some (.int .u8 s.c.a) ∧ w.cell? ⟨g, p + 9, none⟩ = some (.int .u8 s.b.r) ∧ w.cell? ⟨g, p + 10, none⟩ = some (.int .u8 s.b.g) ∧ w.cell? ⟨g, p + 11, none⟩ = some (.int .u8 s.b.b) ∧ w.cell? ⟨g, p + 12, none⟩ = some (.int .u8 s.b.a) ∧ w.cell? ⟨g, p + 13, none⟩ = some (.string s.t) ∧ w.cell? ⟨g, p + 14, none⟩ = some (.int .i64 s.n)
theorem stat_iff {w : World} {g p : Nat} {s : St} : StAt w g p s ↔ ∀ j, j < 15 → w.cell? ⟨g, p + j, none⟩ = (sCel s)[j]? := by
  constructor
  · rintro ⟨h0, h1, h2, h3, h4, h5, h6, h7, h8, h9, h10, h11, h12, h13, h14⟩ j hj
    match j, hj with
    | 0, _ => exact h0
    | 1, _ => exact h1
    | 2, _ => exact h2
    | 3, _ => exact h3
    | 4, _ => exact h4
    | 5, _ => exact h5
    | 6, _ => exact h6
    | 7, _ => exact h7
    | 8, _ => exact h8
    | 9, _ => exact h9
    | 10, _ => exact h10
    | 11, _ => exact h11
    | 12, _ => exact h12
    | 13, _ => exact h13
    | 14, _ => exact h14
  · intro h
    exact ⟨h 0 (by decide), h 1 (by decide), h 2 (by decide), h 3 (by decide), h 4 (by decide), h 5 (by decide), h 6 (by decide), h 7 (by decide), h 8 (by decide), h 9 (by decide), h 10 (by decide), h 11 (by decide), h 12 (by decide), h 13 (by decide), h 14 (by decide)⟩
theorem StAt.kept {w w' : World} {g p : Nat} {s : St} (h : StAt w g p s) (k : ∀ o, w'.cell? ⟨g, o, none⟩ = w.cell? ⟨g, o, none⟩) : StAt w' g p s := by
  rw [stat_iff] at h ⊢
  intro j hj
  rw [k, h j hj]
def LsS (w : World) (v : Value) (l : List St) : Prop := ∃ oa cap, v = .slice oa l.length cap ∧ l.length ≤ cap ∧ (0 < l.length → ∃ g o, oa = some ⟨g, o, none⟩ ∧ g < w.heap.size ∧ ∀ i (h : i < l.length), StAt w g (o + i * 15) l[i])
theorem LsS.below {w w' : World} {v : Value} {l : List St} (h : LsS w v l) (hb : Below w.heap.size w w') : LsS w' v l := by
  obtain ⟨oa, cap, e, hc, hg⟩ := h
  refine ⟨oa, cap, e, hc, fun hp => ?_⟩
  obtain ⟨g, o, e1, g1, g2⟩ := hg hp
  exact ⟨g, o, e1, Nat.lt_of_lt_of_le g1 hb.size, fun i hi => (g2 i hi).kept fun j => hb.cell (p := ⟨g, j, none⟩) g1⟩
theorem lss_nil (w : World) : LsS w (.slice none 0 0) [] := ⟨none, 0, rfl, Nat.le_refl _, fun h => absurd h (Nat.lt_irrefl 0)⟩
def OwS (lo : Nat) (w : World) (v : Value) (l : List St) : Prop := w.ownsRow lo 55 15 v l.length (flatZ l)
theorem OwS.nil (lo : Nat) (w : World) : OwS lo w (.slice none 0 0) [] := World.ownsRow_nil _ _ _ _
theorem OwS.lss {lo : Nat} {w : World} {v : Value} {l : List St} (h : OwS lo w v l) : LsS w v l := by
  obtain ⟨hl, ⟨rfl, h0⟩ | ⟨g, cap, cur, rfl, hb, hc, h1, h2, h3, h4⟩⟩ := id h
  · obtain rfl : l = [] := List.length_eq_zero_iff.1 h0
    exact lss_nil w
  · refine ⟨_, cap, rfl, h1, fun _ => ⟨g, 0, rfl, (Array.getElem?_eq_some_iff.1 hc).1, fun i hi => ?_⟩⟩
    rw [stat_iff]
    intro j hj
    rw [Nat.zero_add, own_cell h (i * 15 + j) (by omega), flatZ_at l i hi j hj]

theorem info_strokeZ : (Tryz.prog.info? 55).map (fun i => (i.zero, i.size, i.bytes)) = some (some (.agg #[.int .u8 0, .int .i64 0, .int .i64 0, .int .i64 0, .int .i64 0, .int .u8 0, .int .u8 0, .int .u8 0, .int .u8 0, .int .u8 0, .int .u8 0, .int .u8 0, .int .u8 0, .string ByteArray.empty, .int .i64 0]), 15, 72) := by kernel_rfl

def eqS (x y : St) : Bool := (x.k == y.k) && ((x.r.x == y.r.x) && ((x.r.y == y.r.y) && ((x.r.w == y.r.w) && ((x.r.h == y.r.h) && ((x.c.r == y.c.r) && ((x.c.g == y.c.g) && ((x.c.b == y.c.b) && ((x.c.a == y.c.a) && ((x.b.r == y.b.r) && ((x.b.g == y.b.g) && ((x.b.b == y.b.b) && ((x.b.a == y.b.a) && ((decide (x.t.toList = y.t.toList)) && (x.n == y.n))))))))))))))
theorem ztx_list (t : ByteArray) : t.toList = t.data.toList := by first | exact ByteArray.toList_eq t | exact Lib.toList_data t | simp
theorem ztx_inj {t u : ByteArray} : t.toList = u.toList ↔ t = u := by
  rw [ztx_list, ztx_list]
  constructor
  · intro h
    obtain ⟨d⟩ := t
    obtain ⟨e⟩ := u
    have h : d.toList = e.toList := h
    rw [Array.toList_inj.1 h]
  · intro h
    rw [h]
theorem eqS_iff (x y : St) : eqS x y = true ↔ x = y := by
  obtain ⟨xk, ⟨x1, x2, x3, x4⟩, ⟨x5, x6, x7, x8⟩, ⟨x9, x10, x11, x12⟩, xt, xn⟩ := x
  obtain ⟨yk, ⟨y1, y2, y3, y4⟩, ⟨y5, y6, y7, y8⟩, ⟨y9, y10, y11, y12⟩, yt, yn⟩ := y
  simp [eqS, and_assoc, ztx_inj]
theorem eqS_self (x : St) : eqS x x = true := (eqS_iff x x).2 rfl
theorem chainZ {p : Prop} [Decidable p] {A : Result Value} {b : Bool} {w : World} (h : A = .ok (.bool b) w) : (if p then A else .ok (.bool false) w) = .ok (.bool (decide p && b)) w := by
  by_cases hp : p <;> simp [hp, h]
theorem chainY {p : Prop} [Decidable p] {w : World} : (if p then Result.ok (Value.bool true) w else .ok (.bool false) w) = .ok (.bool (decide p)) w := by
  by_cases hp : p <;> simp [hp]
theorem chainN {p : Prop} [Decidable p] {A : Result Value} {b : Bool} {w : World} (h : A = .ok (.bool (!b)) w) : (if p then A else .ok (.bool true) w) = .ok (.bool (!(decide p && b))) w := by
  by_cases hp : p <;> simp [hp, h]
theorem chainM {p : Prop} [Decidable p] {w : World} : (if p then Result.ok (Value.bool false) w else .ok (.bool true) w) = .ok (.bool (!decide p)) w := by
  by_cases hp : p <;> simp [hp]

set_option maxHeartbeats 1000000 in
theorem eql_stroke (x y : St) (w : World) : (binOp .eql 55 (Value.agg #[.int .u8 x.k, .int .i64 x.r.x, .int .i64 x.r.y, .int .i64 x.r.w, .int .i64 x.r.h, .int .u8 x.c.r, .int .u8 x.c.g, .int .u8 x.c.b, .int .u8 x.c.a, .int .u8 x.b.r, .int .u8 x.b.g, .int .u8 x.b.b, .int .u8 x.b.a, .string x.t, .int .i64 x.n]) (Value.agg #[.int .u8 y.k, .int .i64 y.r.x, .int .i64 y.r.y, .int .i64 y.r.w, .int .i64 y.r.h, .int .u8 y.c.r, .int .u8 y.c.g, .int .u8 y.c.b, .int .u8 y.c.a, .int .u8 y.b.r, .int .u8 y.b.g, .int .u8 y.b.b, .int .u8 y.b.a, .string y.t, .int .i64 y.n])).run Tryz.prog w = .ok (.bool (eqS x y)) w := by
  simp [go_sem]
  exact chainZ (chainZ (chainZ (chainZ (chainZ (chainZ (chainZ (chainZ (chainZ (chainZ (chainZ (chainZ (chainZ (chainZ chainY)))))))))))))

set_option maxHeartbeats 1000000 in
theorem neq_stroke (x y : St) (w : World) : (binOp .neq 55 (Value.agg #[.int .u8 x.k, .int .i64 x.r.x, .int .i64 x.r.y, .int .i64 x.r.w, .int .i64 x.r.h, .int .u8 x.c.r, .int .u8 x.c.g, .int .u8 x.c.b, .int .u8 x.c.a, .int .u8 x.b.r, .int .u8 x.b.g, .int .u8 x.b.b, .int .u8 x.b.a, .string x.t, .int .i64 x.n]) (Value.agg #[.int .u8 y.k, .int .i64 y.r.x, .int .i64 y.r.y, .int .i64 y.r.w, .int .i64 y.r.h, .int .u8 y.c.r, .int .u8 y.c.g, .int .u8 y.c.b, .int .u8 y.c.a, .int .u8 y.b.r, .int .u8 y.b.g, .int .u8 y.b.b, .int .u8 y.b.a, .string y.t, .int .i64 y.n])).run Tryz.prog w = .ok (.bool (!eqS x y)) w := by
  simp [go_sem]
  exact chainN (chainN (chainN (chainN (chainN (chainN (chainN (chainN (chainN (chainN (chainN (chainN (chainN (chainN chainM)))))))))))))

theorem neq_co0 (a : Co) (w : World) : (binOp .neq 38 (.agg #[.int .u8 a.r, .int .u8 a.g, .int .u8 a.b, .int .u8 a.a]) (.agg #[.int .u8 0, .int .u8 0, .int .u8 0, .int .u8 0])).run Tryz.prog w = .ok (.bool (!coE a)) w := by
  simp [go_sem]
  exact chainN (chainN (chainN chainM))
theorem neq_rc0 (a : Rc) (w : World) : (binOp .neq 52 (.agg #[.int .i64 a.x, .int .i64 a.y, .int .i64 a.w, .int .i64 a.h]) (.agg #[.int .i64 0, .int .i64 0, .int .i64 0, .int .i64 0])).run Tryz.prog w = .ok (.bool (!zZr a)) w := neq_rect a.x a.y a.w a.h 0 0 0 0 w

end Go.Proofs.YtapachlhdgehjaaGreatDoor

/-
  Contracts of the document's answer for layer 13: what is wrong with a stroke.
-/
namespace Go.Proofs.YtapachlhdgehjaaGreatDoor
open Go.RowKit

theorem ztx_ne {t : ByteArray} (h : t.size ≠ 0) : ¬ (t = ByteArray.empty) ∧ t.toList.isEmpty = false := by
  refine ⟨by rintro rfl; exact h rfl, ?_⟩
  rw [ztx_list]
  cases hd : t.data.toList with
  | nil => exact absurd (congrArg List.length hd) (by rw [Array.length_toList]; exact h)
  | cons _ _ => rfl
theorem ztx_nil {t : ByteArray} (h : t.size = 0) : t = ByteArray.empty := by
  obtain ⟨d⟩ := t
  have : d = #[] := Array.eq_empty_of_size_eq_zero h
  rw [this]; rfl

set_option maxRecDepth 20000 in
set_option maxHeartbeats 4000000 in
theorem one_wroK (s : St) (w : World) (hw : wroK s = true) (ht : s.t.size ≤ 9223372036854775807) :
    Calls Tryz.prog 42 #[(Value.agg #[.int .u8 s.k, .int .i64 s.r.x, .int .i64 s.r.y, .int .i64 s.r.w, .int .i64 s.r.h, .int .u8 s.c.r, .int .u8 s.c.g, .int .u8 s.c.b, .int .u8 s.c.a, .int .u8 s.b.r, .int .u8 s.b.g, .int .u8 s.b.b, .int .u8 s.b.a, .string s.t, .int .i64 s.n])] w fun e w' => e = .returned (.int .i64 2) ∧ Below w.heap.size w w' := by
  have HL : Hid (∀ c d, Below w.heap.size w ((w.alloc c).alloc d)) := fun c d => ((Below.refl _ w).alloc (Nat.le_refl _) _).alloc (by simp) _
  unfold wroK at hw
  simp only [Bool.or_eq_true, decide_eq_true_eq] at hw
  have cs : s.k < 1 ∨ (¬ s.k < 1 ∧ 5 < s.k) ∨ (¬ s.k < 1 ∧ ¬ 5 < s.k ∧ s.n < 0) ∨ (¬ s.k < 1 ∧ ¬ 5 < s.k ∧ ¬ s.n < 0 ∧ 1048576 < s.n) ∨ (¬ s.k < 1 ∧ ¬ 5 < s.k ∧ ¬ s.n < 0 ∧ ¬ 1048576 < s.n ∧ (65536 : Int) < (s.t.size : Int)) := by omega
  clear hw
  have E1 := neq_co0 s.b
  have E2 := neq_co0 s.c
  have E3 := neq_rc0 s.r
  generalize coE s.b = x1 at *
  generalize coE s.c = x2 at *
  generalize zZr s.r = x3 at *
  rcases cs with h1 | ⟨h1, h2⟩ | cs
  iterate 2
    · have k3 : (s.k == 3) = false := beq_eq_false_iff_ne.2 (by omega)
      have k4 : (s.k == 4) = false := beq_eq_false_iff_ne.2 (by omega)
      have k5 : (s.k == 5) = false := beq_eq_false_iff_ne.2 (by omega)
      go_enter Tryz.func42, Tryz.ntmps42
      go_wp2
      go_ret
      exact ⟨rfl, HL.out _ _⟩
  have hk : s.k = 1 ∨ s.k = 2 ∨ s.k = 3 ∨ s.k = 4 ∨ s.k = 5 := by omega
  have cs : s.n < 0 ∨ (¬ s.n < 0 ∧ 1048576 < s.n) ∨ (¬ s.n < 0 ∧ ¬ 1048576 < s.n ∧ (65536 : Int) < (s.t.size : Int)) := by omega
  rcases cs with h3 | ⟨h3, h4⟩ | ⟨h3, h4, h5⟩
  all_goals
    rcases hk with hk | hk | hk | hk | hk
  all_goals
    go_enter Tryz.func42, Tryz.ntmps42
    go_wp2
    go_ret
    exact ⟨rfl, HL.out _ _⟩

theorem wroK_no {s : St} (hw : wroK s = false) : ¬ s.k < 1 ∧ ¬ 5 < s.k ∧ ¬ s.n < 0 ∧ ¬ 1048576 < s.n ∧ ¬ (65536 : Int) < (s.t.size : Int) ∧ (s.k = 1 ∨ s.k = 2 ∨ s.k = 3 ∨ s.k = 4 ∨ s.k = 5) := by
  unfold wroK at hw
  simp only [Bool.or_eq_false_iff, decide_eq_false_iff_not] at hw
  omega
theorem wroF_yes {s : St} (hw : wroF s = true) (hk : s.k = 1 ∨ s.k = 2 ∨ s.k = 3 ∨ s.k = 4 ∨ s.k = 5) : (s.k ≠ 3 ∧ s.t.size ≠ 0) ∨ (s.k ≠ 3 ∧ s.t.size = 0 ∧ coE s.b = false) ∨ ((s.k = 4 ∨ s.k = 5) ∧ s.t.size = 0 ∧ coE s.b = true ∧ coE s.c = false) ∨ (s.k = 5 ∧ s.t.size = 0 ∧ coE s.b = true ∧ coE s.c = true ∧ zZr s.r = false) := by
  unfold wroF at hw
  by_cases hz : s.t.size = 0
  · cases hb : coE s.b <;> cases hc : coE s.c <;> cases hr : zZr s.r <;> rcases hk with k | k | k | k | k <;> simp [k, hz, hb, hc, hr] at hw ⊢
  · rcases hk with k | k | k | k | k <;> simp [k, hz] at hw ⊢
theorem wroF_not {s : St} (hw : wroF s = false) (hk : s.k = 1 ∨ s.k = 2 ∨ s.k = 3 ∨ s.k = 4 ∨ s.k = 5) : ((s.k = 1 ∨ s.k = 2) ∧ s.t.size = 0 ∧ coE s.b = true) ∨ s.k = 3 ∨ (s.k = 4 ∧ s.t.size = 0 ∧ coE s.b = true ∧ coE s.c = true) ∨ (s.k = 5 ∧ s.t.size = 0 ∧ coE s.b = true ∧ coE s.c = true ∧ zZr s.r = true) := by
  unfold wroF at hw
  by_cases hz : s.t.size = 0
  · cases hb : coE s.b <;> cases hc : coE s.c <;> cases hr : zZr s.r <;> rcases hk with k | k | k | k | k <;> simp [k, hz, hb, hc, hr] at hw ⊢
  · rcases hk with k | k | k | k | k <;> simp [k, hz] at hw ⊢

set_option maxRecDepth 20000 in
set_option maxHeartbeats 4000000 in
theorem one_wroF (s : St) (w : World) (hw : wroK s = false) (hf : wroF s = true) :
    Calls Tryz.prog 42 #[(Value.agg #[.int .u8 s.k, .int .i64 s.r.x, .int .i64 s.r.y, .int .i64 s.r.w, .int .i64 s.r.h, .int .u8 s.c.r, .int .u8 s.c.g, .int .u8 s.c.b, .int .u8 s.c.a, .int .u8 s.b.r, .int .u8 s.b.g, .int .u8 s.b.b, .int .u8 s.b.a, .string s.t, .int .i64 s.n])] w fun e w' => e = .returned (.int .i64 2) ∧ Below w.heap.size w w' := by
  have HL : Hid (∀ c d, Below w.heap.size w ((w.alloc c).alloc d)) := fun c d => ((Below.refl _ w).alloc (Nat.le_refl _) _).alloc (by simp) _
  obtain ⟨h1, h2, h3, h4, h5, hk⟩ := wroK_no hw
  have cs := wroF_yes hf hk
  have E1 := neq_co0 s.b
  have E2 := neq_co0 s.c
  have E3 := neq_rc0 s.r
  clear hw hf
  rcases cs with ⟨n3, hz⟩ | ⟨n3, hz, hb⟩ | ⟨hk, hz, hb, hc⟩ | ⟨hk, hz, hb, hc, hr⟩
  · obtain ⟨z1, z2⟩ := ztx_ne hz
    rcases hk with hk | hk | hk | hk | hk
    rotate_left 2
    · exact absurd hk n3
    all_goals
      clear n3
      go_enter Tryz.func42, Tryz.ntmps42
      go_wp2
      go_ret
      exact ⟨rfl, HL.out _ _⟩
  · rw [hb] at E1
    have hz2 := ztx_nil hz
    rcases hk with hk | hk | hk | hk | hk
    rotate_left 2
    · exact absurd hk n3
    all_goals
      clear n3
      go_enter Tryz.func42, Tryz.ntmps42
      go_wp2
      go_ret
      exact ⟨rfl, HL.out _ _⟩
  · rw [hb] at E1
    rw [hc] at E2
    have hz2 := ztx_nil hz
    rcases hk with hk | hk
    all_goals
      go_enter Tryz.func42, Tryz.ntmps42
      go_wp2
      go_ret
      exact ⟨rfl, HL.out _ _⟩
  · rw [hb] at E1
    rw [hc] at E2
    rw [hr] at E3
    have hz2 := ztx_nil hz
    go_enter Tryz.func42, Tryz.ntmps42
    go_wp2
    go_ret
    exact ⟨rfl, HL.out _ _⟩

set_option maxRecDepth 20000 in
set_option maxHeartbeats 4000000 in
theorem one_ok (s : St) (w : World) (hw : wroK s = false) (hf : wroF s = false) :
    Calls Tryz.prog 42 #[(Value.agg #[.int .u8 s.k, .int .i64 s.r.x, .int .i64 s.r.y, .int .i64 s.r.w, .int .i64 s.r.h, .int .u8 s.c.r, .int .u8 s.c.g, .int .u8 s.c.b, .int .u8 s.c.a, .int .u8 s.b.r, .int .u8 s.b.g, .int .u8 s.b.b, .int .u8 s.b.a, .string s.t, .int .i64 s.n])] w fun e w' => e = .returned (.int .i64 (if zMa s.r = true then 0 else 5)) ∧ Below w.heap.size w w' := by
  have HL : Hid (∀ c d, Below w.heap.size w ((w.alloc c).alloc d)) := fun c d => ((Below.refl _ w).alloc (Nat.le_refl _) _).alloc (by simp) _
  have HM : Hid (∀ W, Calls Tryz.prog 74 #[.agg #[.int .i64 s.r.x, .int .i64 s.r.y, .int .i64 s.r.w, .int .i64 s.r.h]] W fun e w' => e = .returned (.bool (zMa s.r)) ∧ Below W.heap.size W w') := fun W => rmay_any _ _ _ _ W
  obtain ⟨h1, h2, h3, h4, h5, hk⟩ := wroK_no hw
  have cs := wroF_not hf hk
  have E1 := neq_co0 s.b
  have E2 := neq_co0 s.c
  have E3 := neq_rc0 s.r
  clear hw hf hk
  generalize zMa s.r = b at *
  rcases cs with ⟨hk, hz, hb⟩ | hk | ⟨hk, hz, hb, hc⟩ | ⟨hk, hz, hb, hc, hr⟩
  · rw [hb] at E1
    have hz2 := ztx_nil hz
    rcases hk with hk | hk
    all_goals
      cases b
    all_goals
      go_enter Tryz.func42, Tryz.ntmps42
      go_wp2_with fail
      refine (HM.out _).mono ?_
      rintro e w1 ⟨rfl, hb1⟩
      have H1 : Hid (Below w.heap.size w w1) := (HL.out _ _).trans (hb1.mono (HL.out _ _).size)
      clear hb1
      go_wp2
      go_ret
      exact ⟨rfl, H1.out⟩
  · cases b
    all_goals
      go_enter Tryz.func42, Tryz.ntmps42
      go_wp2_with fail
      refine (HM.out _).mono ?_
      rintro e w1 ⟨rfl, hb1⟩
      have H1 : Hid (Below w.heap.size w w1) := (HL.out _ _).trans (hb1.mono (HL.out _ _).size)
      clear hb1
      go_wp2
      go_ret
      exact ⟨rfl, H1.out⟩
  · rw [hb] at E1
    rw [hc] at E2
    have hz2 := ztx_nil hz
    cases b
    all_goals
      go_enter Tryz.func42, Tryz.ntmps42
      go_wp2_with fail
      refine (HM.out _).mono ?_
      rintro e w1 ⟨rfl, hb1⟩
      have H1 : Hid (Below w.heap.size w w1) := (HL.out _ _).trans (hb1.mono (HL.out _ _).size)
      clear hb1
      go_wp2
      go_ret
      exact ⟨rfl, H1.out⟩
  · rw [hb] at E1
    rw [hc] at E2
    rw [hr] at E3
    have hz2 := ztx_nil hz
    cases b
    all_goals
      go_enter Tryz.func42, Tryz.ntmps42
      go_wp2_with fail
      refine (HM.out _).mono ?_
      rintro e w1 ⟨rfl, hb1⟩
      have H1 : Hid (Below w.heap.size w w1) := (HL.out _ _).trans (hb1.mono (HL.out _ _).size)
      clear hb1
      go_wp2
      go_ret
      exact ⟨rfl, H1.out⟩

theorem zone_any (s : St) (w : World) (ht : s.t.size ≤ 9223372036854775807) :
    Calls Tryz.prog 42 #[(Value.agg #[.int .u8 s.k, .int .i64 s.r.x, .int .i64 s.r.y, .int .i64 s.r.w, .int .i64 s.r.h, .int .u8 s.c.r, .int .u8 s.c.g, .int .u8 s.c.b, .int .u8 s.c.a, .int .u8 s.b.r, .int .u8 s.b.g, .int .u8 s.b.b, .int .u8 s.b.a, .string s.t, .int .i64 s.n])] w fun e w' => e = .returned (.int .i64 (oneE s)) ∧ Below w.heap.size w w' := by
  unfold oneE
  cases hw : wroK s
  · cases hf : wroF s
    · simpa using one_ok s w hw hf
    · exact one_wroF s w hw hf
  · exact one_wroK s w hw ht

end Go.Proofs.YtapachlhdgehjaaGreatDoor
