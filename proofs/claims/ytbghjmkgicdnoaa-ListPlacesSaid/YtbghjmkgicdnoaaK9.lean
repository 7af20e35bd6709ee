/-
  Texts of this claim, one behind the other: what each is about stands ahead of it.
-/
import Derived.Test.YtbghjmkgicdnoaaK7
import Derived.Test.YtbghjmkgicdnoaaK8
import Derived.Test.YtbghjmkgicdnoaaK1
/-
  Contracts of package geom: the least rectangle that has both; whether one lies in another, over another.
-/
namespace Go.Proofs.Ytbghjmkgicdnoaa
open Go.RowKit
attribute [local go_sem] ite_max ite_min

/-- Two rectangles, compared. -/
theorem eql_rect (a b c d x y z u : Int) (w : World) : (binOp .eql 27 (.agg #[.int .i64 a, .int .i64 b, .int .i64 c, .int .i64 d]) (.agg #[.int .i64 x, .int .i64 y, .int .i64 z, .int .i64 u])).run Try.prog w = .ok (.bool ((a == x) && ((b == y) && ((c == z) && (d == u))))) w := by
  have h : ∀ p q : Int, (p == q) = decide (p = q) := fun p q => by rw [Bool.eq_iff_iff]; simp
  by_cases h1 : a = x <;> by_cases h2 : b = y <;> by_cases h3 : c = z <;> by_cases h4 : d = u <;> simp [go_sem, h, h1, h2, h3, h4]
theorem neq_rect (a b c d x y z u : Int) (w : World) : (binOp .neq 27 (.agg #[.int .i64 a, .int .i64 b, .int .i64 c, .int .i64 d]) (.agg #[.int .i64 x, .int .i64 y, .int .i64 z, .int .i64 u])).run Try.prog w = .ok (.bool (!((a == x) && ((b == y) && ((c == z) && (d == u)))))) w := by
  have h : ∀ p q : Int, (p == q) = decide (p = q) := fun p q => by rw [Bool.eq_iff_iff]; simp
  by_cases h1 : a = x <;> by_cases h2 : b = y <;> by_cases h3 : c = z <;> by_cases h4 : d = u <;> simp [go_sem, h, h1, h2, h3, h4]

set_option maxRecDepth 10000 in
set_option maxHeartbeats 2000000 in
theorem join_any (ax ay aw ah bx by' bw bh : Int) (w : World) (hax : I64 ax) (hay : I64 ay) (hbx : I64 bx) (hby : I64 by') :
    Calls Try.prog 83 #[.agg #[.int .i64 ax, .int .i64 ay, .int .i64 aw, .int .i64 ah], .agg #[.int .i64 bx, .int .i64 by', .int .i64 bw, .int .i64 bh]] w fun e w' => e = .returned (.agg #[.int .i64 (joinR ax ay aw ah bx by' bw bh).x, .int .i64 (joinR ax ay aw ah bx by' bw bh).y, .int .i64 (joinR ax ay aw ah bx by' bw bh).w, .int .i64 (joinR ax ay aw ah bx by' bw bh).h]) ∧ Below w.heap.size w w' := by
  have cs : (emptyB ax ay aw ah = true ∧ emptyB bx by' bw bh = true) ∨ (emptyB ax ay aw ah = true ∧ emptyB bx by' bw bh = false) ∨ (emptyB ax ay aw ah = false ∧ emptyB bx by' bw bh = true) ∨ (emptyB ax ay aw ah = false ∧ emptyB bx by' bw bh = false) := by
    cases emptyB ax ay aw ah <;> cases emptyB bx by' bw bh <;> simp
  rcases cs with ⟨h1, h2⟩ | ⟨h1, h2⟩ | ⟨h1, h2⟩ | ⟨h1, h2⟩
  · rw [show joinR ax ay aw ah bx by' bw bh = zr by simp [joinR, h1, h2]]
    go_enter Try.func83, Try.ntmps83
    go_wp2_with fail
    obtain ⟨A, B, C, L⟩ := boxes_rrr w ax ay aw ah bx by' bw bh 27 27 27
    refine (empty_any _ _ _ _ _ (by assumption) (by assumption)).mono ?_
    rintro e w1 ⟨rfl, hb⟩
    have F := (fr2 w _ _ _ _).below hb
    replace A := A.below hb
    replace B := B.below hb
    replace C := C.below hb
    replace L := L.trans (hb.mono L.size)
    clear hb
    obtain ⟨d0, d1, d2, d3⟩ := id A
    obtain ⟨e0, e1, e2, e3⟩ := id B
    go_wp2_with fail
    clear d0 d1 d2 d3 e0 e1 e2 e3
    refine (empty_any _ _ _ _ _ (by assumption) (by assumption)).mono ?_
    rintro e w2 ⟨rfl, hb⟩
    replace F := F.below hb
    replace A := A.below hb
    replace B := B.below hb
    replace C := C.below hb
    replace L := L.trans (hb.mono L.size)
    clear hb
    replace F := F.2
    obtain ⟨d0, d1, d2, d3⟩ := id A
    obtain ⟨e0, e1, e2, e3⟩ := id B
    obtain ⟨c0, c1, c2, c3⟩ := id C
    go_wp2
    exact bodyPost_ret (v := .agg #[.int .i64 0, .int .i64 0, .int .i64 0, .int .i64 0]) (by simp [results, Try.results83, go_sem, c0, c1, c2, c3]) rfl ⟨rfl, set4_below L (by omega) _ _ _ _⟩
  · rw [show joinR ax ay aw ah bx by' bw bh = ⟨bx, by', bw, bh⟩ by simp [joinR, h1, h2]]
    go_enter Try.func83, Try.ntmps83
    go_wp2_with fail
    obtain ⟨A, B, C, L⟩ := boxes_rrr w ax ay aw ah bx by' bw bh 27 27 27
    refine (empty_any _ _ _ _ _ (by assumption) (by assumption)).mono ?_
    rintro e w1 ⟨rfl, hb⟩
    have F := (fr2 w _ _ _ _).below hb
    replace A := A.below hb
    replace B := B.below hb
    replace C := C.below hb
    replace L := L.trans (hb.mono L.size)
    clear hb
    obtain ⟨d0, d1, d2, d3⟩ := id A
    obtain ⟨e0, e1, e2, e3⟩ := id B
    go_wp2_with fail
    clear d0 d1 d2 d3 e0 e1 e2 e3
    refine (empty_any _ _ _ _ _ (by assumption) (by assumption)).mono ?_
    rintro e w2 ⟨rfl, hb⟩
    replace F := F.below hb
    replace A := A.below hb
    replace B := B.below hb
    replace C := C.below hb
    replace L := L.trans (hb.mono L.size)
    clear hb
    obtain ⟨d0, d1, d2, d3⟩ := id A
    obtain ⟨e0, e1, e2, e3⟩ := id B
    go_wp2_with fail
    clear d0 d1 d2 d3 e0 e1 e2 e3
    refine (empty_any _ _ _ _ _ (by assumption) (by assumption)).mono ?_
    rintro e w3 ⟨rfl, hb⟩
    replace F := F.below hb
    replace A := A.below hb
    replace B := B.below hb
    replace C := C.below hb
    replace L := L.trans (hb.mono L.size)
    clear hb
    replace F := F.2
    obtain ⟨d0, d1, d2, d3⟩ := id A
    obtain ⟨e0, e1, e2, e3⟩ := id B
    obtain ⟨c0, c1, c2, c3⟩ := id C
    go_wp2
    exact bodyPost_ret (v := .agg #[.int .i64 bx, .int .i64 by', .int .i64 bw, .int .i64 bh]) (by simp [results, Try.results83, go_sem, c0, c1, c2, c3]) rfl ⟨rfl, set4_below L (by omega) _ _ _ _⟩
  · rw [show joinR ax ay aw ah bx by' bw bh = ⟨ax, ay, aw, ah⟩ by simp [joinR, h1, h2]]
    go_enter Try.func83, Try.ntmps83
    go_wp2_with fail
    obtain ⟨A, B, C, L⟩ := boxes_rrr w ax ay aw ah bx by' bw bh 27 27 27
    refine (empty_any _ _ _ _ _ (by assumption) (by assumption)).mono ?_
    rintro e w1 ⟨rfl, hb⟩
    have F := (fr2 w _ _ _ _).below hb
    replace A := A.below hb
    replace B := B.below hb
    replace C := C.below hb
    replace L := L.trans (hb.mono L.size)
    clear hb
    obtain ⟨d0, d1, d2, d3⟩ := id A
    obtain ⟨e0, e1, e2, e3⟩ := id B
    go_wp2_with fail
    clear d0 d1 d2 d3 e0 e1 e2 e3
    refine (empty_any _ _ _ _ _ (by assumption) (by assumption)).mono ?_
    rintro e w2 ⟨rfl, hb⟩
    replace F := F.below hb
    replace A := A.below hb
    replace B := B.below hb
    replace C := C.below hb
    replace L := L.trans (hb.mono L.size)
    clear hb
    obtain ⟨d0, d1, d2, d3⟩ := id A
    obtain ⟨e0, e1, e2, e3⟩ := id B
    go_wp2_with fail
    clear d0 d1 d2 d3 e0 e1 e2 e3
    refine (empty_any _ _ _ _ _ (by assumption) (by assumption)).mono ?_
    rintro e w3 ⟨rfl, hb⟩
    replace F := F.below hb
    replace A := A.below hb
    replace B := B.below hb
    replace C := C.below hb
    replace L := L.trans (hb.mono L.size)
    clear hb
    replace F := F.2
    obtain ⟨d0, d1, d2, d3⟩ := id A
    obtain ⟨e0, e1, e2, e3⟩ := id B
    obtain ⟨c0, c1, c2, c3⟩ := id C
    go_wp2
    exact bodyPost_ret (v := .agg #[.int .i64 ax, .int .i64 ay, .int .i64 aw, .int .i64 ah]) (by simp [results, Try.results83, go_sem, c0, c1, c2, c3]) rfl ⟨rfl, set4_below L (by omega) _ _ _ _⟩
  · rw [show joinR ax ay aw ah bx by' bw bh = btw (min ax bx) (min ay by') (max (ax + aw) (bx + bw)) (max (ay + ah) (by' + bh)) by simp [joinR, h1, h2]]
    obtain ⟨a1, a2, a3, a4, a5, a6, a7, a8, a9, a10⟩ := bounds_of h1
    obtain ⟨b1, b2, b3, b4, b5, b6, b7, b8, b9, b10⟩ := bounds_of h2
    go_enter Try.func83, Try.ntmps83
    go_wp2_with fail
    obtain ⟨A, B, C, L⟩ := boxes_rrr w ax ay aw ah bx by' bw bh 27 27 27
    refine (empty_any _ _ _ _ _ (by assumption) (by assumption)).mono ?_
    rintro e w1 ⟨rfl, hb⟩
    have F := (fr2 w _ _ _ _).below hb
    replace A := A.below hb
    replace B := B.below hb
    replace C := C.below hb
    replace L := L.trans (hb.mono L.size)
    clear hb
    obtain ⟨d0, d1, d2, d3⟩ := id A
    obtain ⟨e0, e1, e2, e3⟩ := id B
    go_wp2_with fail
    clear d0 d1 d2 d3 e0 e1 e2 e3
    refine (empty_any _ _ _ _ _ (by assumption) (by assumption)).mono ?_
    rintro e w2 ⟨rfl, hb⟩
    replace F := F.below hb
    replace A := A.below hb
    replace B := B.below hb
    replace C := C.below hb
    replace L := L.trans (hb.mono L.size)
    clear hb
    obtain ⟨d0, d1, d2, d3⟩ := id A
    obtain ⟨e0, e1, e2, e3⟩ := id B
    go_wp2_with fail
    clear d0 d1 d2 d3 e0 e1 e2 e3
    refine (empty_any _ _ _ _ _ (by assumption) (by assumption)).mono ?_
    rintro e w3 ⟨rfl, hb⟩
    replace F := F.below hb
    replace A := A.below hb
    replace B := B.below hb
    replace C := C.below hb
    replace L := L.trans (hb.mono L.size)
    clear hb
    obtain ⟨d0, d1, d2, d3⟩ := id A
    obtain ⟨e0, e1, e2, e3⟩ := id B
    go_upto_region 7 with fail
    go_cut [5, 6] (fun s5 s6 wx => ∃ b5 b6, s5 = .pointer (some ⟨b5, 0, none⟩) ∧ s6 = .pointer (some ⟨b6, 0, none⟩) ∧ At2 wx b5 (ax + aw) (ay + ah) ∧ At2 wx b6 (bx + bw) (by' + bh) ∧ At4 wx w.heap.size ax ay aw ah ∧ At4 wx (w.heap.size + 1) bx by' bw bh ∧ At4 wx (w.heap.size + 1 + 1) 0 0 0 0 ∧ Fr wx (w.heap.size + 1 + 1) ∧ Below w.heap.size w wx)
    case first =>
      clear d0 d1 d2 d3 e0 e1 e2 e3
      have hE1 : Hid (∀ w, Calls Try.prog 51 #[.agg #[.int .i64 ax, .int .i64 ay, .int .i64 aw, .int .i64 ah]] w fun e w' => e = .returned (.agg #[.int .i64 (ax + aw), .int .i64 (ay + ah)]) ∧ Below w.heap.size w w') := fun w => end_any _ _ _ _ _ (by omega) (by omega) (by omega) (by omega) (by omega) (by omega) (by omega) (by omega)
      have hE2 : Hid (∀ w, Calls Try.prog 51 #[.agg #[.int .i64 bx, .int .i64 by', .int .i64 bw, .int .i64 bh]] w fun e w' => e = .returned (.agg #[.int .i64 (bx + bw), .int .i64 (by' + bh)]) ∧ Below w.heap.size w w') := fun w => end_any _ _ _ _ _ (by omega) (by omega) (by omega) (by omega) (by omega) (by omega) (by omega) (by omega)
      have HL : Hid (At4 w3 w.heap.size ax ay aw ah ∧ At4 w3 (w.heap.size + 1) bx by' bw bh ∧ At4 w3 (w.heap.size + 1 + 1) 0 0 0 0 ∧ Fr w3 (w.heap.size + 1 + 1) ∧ Below w.heap.size w w3) := ⟨A, B, C, F, L⟩
      clear hax hay hbx hby h1 h2 a1 a2 a3 a4 a5 a6 a7 a8 a9 a10 b1 b2 b3 b4 b5 b6 b7 b8 b9 b10 A B C F L
      refine wp_region_lit 4 2 2 (fun _ => .cells #[.int .i64 0, .int .i64 0] 23) [5, 6] (by kernel_rfl) (by kernel_rfl) rfl ?_ rfl ?_ ?_
      · intro k hk
        have hc : k = 0 ∨ k = 1 := by omega
        rcases hc with rfl | rfl <;> rfl
      · intro i h1 h2
        have hc : i = 4 ∨ i = 5 := by omega
        rcases hc with rfl | rfl
        · exact ⟨_, rfl, rfl, fun _ _ => rfl⟩
        · exact ⟨_, rfl, rfl, fun _ _ => rfl⟩
      apply Exists.intro
      refine ⟨fun bs ne => ?_, ?_⟩
      · obtain ⟨HA, HB, _⟩ := HL.out
        have d0 := fun t : Gb w3 bs => (HA.below t.below).1
        have d1 := fun t : Gb w3 bs => (HA.below t.below).2.1
        have d2 := fun t : Gb w3 bs => (HA.below t.below).2.2.1
        have d3 := fun t : Gb w3 bs => (HA.below t.below).2.2.2
        have e0 := fun t : Gb w3 bs => (HB.below t.below).1
        have e1 := fun t : Gb w3 bs => (HB.below t.below).2.1
        have e2 := fun t : Gb w3 bs => (HB.below t.below).2.2.1
        have e3 := fun t : Gb w3 bs => (HB.below t.below).2.2.2
        clear HA HB
        simp only [List.take_succ_cons, List.take_zero]
        repeat (go_big_quiet_step (first
          | (go_at_call_of 51 (Value.agg #[.int .i64 ax, .int .i64 ay, .int .i64 aw, .int .i64 ah]); exact gb_call (hE1.out _))
          | (go_at_call_of 51 (Value.agg #[.int .i64 bx, .int .i64 by', .int .i64 bw, .int .i64 bh]); exact gb_call (hE2.out _))))
        exact wpQuiet_nil rfl
      · intro bl wr hb hlo hinj
        obtain ⟨k1, k2⟩ := hlo 4 (by omega) (by omega)
        obtain ⟨k3, k4⟩ := hlo 5 (by omega) (by omega)
        have k5 := hinj 4 5 (by omega) (by omega) (by omega) (by omega) (by omega)
        obtain ⟨c1, f1, l1⟩ := heap_cells k2
        obtain ⟨c2, f2, l2⟩ := heap_cells k4
        simp only [layL, ptr]
        generalize bl 4 = g5 at *
        generalize bl 5 = g6 at *
        clear hlo hinj k2 k4
        refine wpAny_one 6 (by kernel_rfl) rfl ?_
        intro K hK
        go_simp
        refine hK _ _ ?_
        clear hK K
        refine wpAny_one 7 (by kernel_rfl) rfl ?_
        intro K hK
        go_simp
        refine hK _ _ ?_
        clear hK K
        refine wpAny_done (by kernel_rfl) ?_ _
        go_wp2_with fail
        go_meet
        obtain ⟨HA, HB, HC, HF, HD⟩ := HL.out
        have ha := HA.lt
        have hb1 := HB.lt
        have hc := HC.lt
        have hd := HD.size
        have z5 : At2 wr g5 0 0 := ⟨by rw [c1]; rfl, by rw [c1]; rfl⟩
        have z6 : At2 wr g6 0 0 := ⟨by rw [c2]; rfl, by rw [c2]; rfl⟩
        exact ⟨g5, g6, rfl, rfl, ((z5.put _ _).set _ (Ne.symm k5)).set _ (Ne.symm k5), ((z6.set _ k5).set _ k5).put _ _,
          ((((HA.below hb).set _ (by show g5 ≠ _; omega)).set _ (by show g5 ≠ _; omega)).set _ (by show g6 ≠ _; omega)).set _ (by show g6 ≠ _; omega),
          ((((HB.below hb).set _ (by show g5 ≠ _; omega)).set _ (by show g5 ≠ _; omega)).set _ (by show g6 ≠ _; omega)).set _ (by show g6 ≠ _; omega),
          ((((HC.below hb).set _ (by show g5 ≠ _; omega)).set _ (by show g5 ≠ _; omega)).set _ (by show g6 ≠ _; omega)).set _ (by show g6 ≠ _; omega),
          ((((HF.below hb).set _ _).set _ _).set _ _).set _ _,
          ((((HD.trans (hb.mono hd)).setCell (by show _ ≤ g5; omega) _).setCell (by show _ ≤ g5; omega) _).setCell (by show _ ≤ g6; omega) _).setCell (by show _ ≤ g6; omega) _⟩
    case rest =>
    obtain ⟨g5, g6, rfl, rfl, E5, E6, A, B, C, F, L⟩ := hcut
    have la := A.lt
    have lb := B.lt
    have lc := C.lt
    have l5 := E5.lt
    have l6 := E6.lt
    obtain ⟨d0, d1, d2, d3⟩ := A
    obtain ⟨e0, e1, e2, e3⟩ := B
    obtain ⟨x0, x1⟩ := E5
    obtain ⟨y0, y1⟩ := E6
    go_wp2_with fail
    clear d0 d1 d2 d3 e0 e1 e2 e3 x0 x1 y0 y1 la lb lc l5 l6
    refine (between_any _ _ _ _ _ (by omega) (by omega) (by omega) (by omega) (by omega) (by omega) (by omega) (by omega)).mono ?_
    rintro e w4 ⟨rfl, hb⟩
    replace C := C.below hb
    replace F := (F.below hb).2
    replace L := L.trans (hb.mono L.size)
    clear hb
    obtain ⟨d0, d1, d2, d3⟩ := id C
    go_wp2
    exact bodyPost_ret (v := .agg #[.int .i64 _, .int .i64 _, .int .i64 _, .int .i64 _]) (by simp [results, Try.results83, go_sem, d0, d1, d2, d3]) rfl ⟨rfl, set4_below L (by omega) _ _ _ _⟩

end Go.Proofs.Ytbghjmkgicdnoaa

/-
  Contracts: whether two lists of rectangles are the same, by package slices and by the document's answer.
-/
namespace Go.Proofs.Ytbghjmkgicdnoaa
open Go.RowKit Go.Sort Go.Shelf

theorem rc_ext {r q : Rc} (h : ((r.x == q.x) && ((r.y == q.y) && ((r.w == q.w) && (r.h == q.h)))) = true) : r = q := by
  cases r; cases q; simp at h ⊢; exact h
theorem rc_ne {r q : Rc} (h : ((r.x == q.x) && ((r.y == q.y) && ((r.w == q.w) && (r.h == q.h)))) = false) : r ≠ q := by
  rintro rfl; simp at h
/-- Are two lists the same? -/
def sameB : List Rc → List Rc → Bool
  | [], [] => true
  | r :: t, q :: u => ((r.x == q.x) && ((r.y == q.y) && ((r.w == q.w) && (r.h == q.h)))) && sameB t u
  | _, _ => false
theorem sameB_iff : ∀ a b : List Rc, sameB a b = true ↔ a = b
  | [], [] => by simp [sameB]
  | [], _ :: _ => by simp [sameB]
  | _ :: _, [] => by simp [sameB]
  | r :: t, q :: u => by
    rw [sameB, Bool.and_eq_true, sameB_iff t u]
    constructor
    · rintro ⟨h1, h2⟩
      rw [rc_ext h1, h2]
    · intro h
      injection h with h1 h2
      subst h1
      exact ⟨by simp, h2⟩
theorem sameB_no {a b : List Rc} (h : a ≠ b) : sameB a b = false := by
  cases hs : sameB a b
  · rfl
  · exact absurd ((sameB_iff a b).1 hs) h
theorem sameB_self (a : List Rc) : sameB a a = true := (sameB_iff a a).2 rfl

end Go.Proofs.Ytbghjmkgicdnoaa

/-
  Contracts of package region: Check, Same, Area.
-/
namespace Go.Proofs.Ytbghjmkgicdnoaa
open Go.RowKit Go.Sort Go.Shelf

theorem lsr_own {w : World} {base : Nat} {v : Value} {l : List Rc} (h : w.ownsRow base 27 4 v l.length (flat l)) : LsR w v l := by
  obtain ⟨oa, cap, rfl, hc, hg⟩ := row_val h
  refine ⟨oa, cap, rfl, hc, fun hp => ?_⟩
  obtain ⟨g, rfl, _, hg2⟩ := hg hp
  refine ⟨g, 0, rfl, hg2, fun i hi => ?_⟩
  obtain ⟨f0, f1, f2, f3⟩ := flat_at l i hi
  rw [Nat.zero_add]
  exact ⟨by rw [own_cell h _ (by omega), f0], by rw [own_cell h _ (by omega), f1], by rw [own_cell h _ (by omega), f2], by rw [own_cell h _ (by omega), f3]⟩
/-- What Check tells. -/
def chkE (l : List Rc) : Int := if lisE l = 0 then (if sameB l (formF false l []) = true then 0 else 2) else lisE l

/-- What Same tells. -/
def samR (a b : List Rc) : Bool := decide (twoE a b = 0) && sameB (formF false a []) (formF false b [])

/-- Places of rectangles, added up. -/
def arS : List Rc → Int
  | [] => 0
  | r :: t => areaI r.x r.y r.w r.h + arS t
theorem arS_app (l m : List Rc) : arS (l ++ m) = arS l + arS m := by
  induction l with
  | nil => simp [arS]
  | cons r t ih => simp only [List.cons_append, arS, ih]; omega
theorem area_bd (r : Rc) : 0 ≤ areaI r.x r.y r.w r.h ∧ areaI r.x r.y r.w r.h ≤ 1073741824 := by
  unfold areaI
  split
  · omega
  · next h =>
    have hk : keepE r = true := by unfold keepE; simpa using h
    have := (keepE_iff r).1 hk
    constructor
    · exact Int.mul_nonneg (by omega) (by omega)
    · have : r.w * r.h ≤ 32768 * 32768 := Int.mul_le_mul (by omega) (by omega) (by omega) (by omega)
      omega
theorem arS_bd : ∀ l : List Rc, 0 ≤ arS l ∧ arS l ≤ l.length * 1073741824
  | [] => by simp [arS]
  | r :: t => by
    have h1 := area_bd r
    have h2 := arS_bd t
    simp only [arS, List.length_cons]
    omega
def areA (a : List Rc) : Int := if lisE a = 0 then arS (formF false a []) else 0

end Go.Proofs.Ytbghjmkgicdnoaa

/-
  Contracts of package region: Has, Bound.
-/
namespace Go.Proofs.Ytbghjmkgicdnoaa
open Go.RowKit Go.Sort Go.Shelf

/-- Is a place one of a list's? -/
def hasC (l : List Rc) (px py : Int) : Bool := l.any fun r => hasB r.x r.y r.w r.h px py

set_option maxHeartbeats 1000000 in
theorem hasClo (x : Rc) (px py : Int) (bx : Nat) (W : World) (h0 : W.cell? ⟨bx, 0, none⟩ = some (.int .i64 px)) (h1 : W.cell? ⟨bx, 1, none⟩ = some (.int .i64 py)) (hb : bx < W.heap.size) (hx : I64 x.x) (hy : I64 x.y) :
    Calls Try.prog 54 #[.agg #[.int .i64 x.x, .int .i64 x.y, .int .i64 x.w, .int .i64 x.h], .pointer (some ⟨bx, 0, none⟩)] W fun e w' => e = .returned (.bool (hasB x.x x.y x.w x.h px py)) ∧ Below W.heap.size W w' := by
  have HH : Hid (∀ w, Calls Try.prog 30 #[.agg #[.int .i64 x.x, .int .i64 x.y, .int .i64 x.w, .int .i64 x.h], .agg #[.int .i64 px, .int .i64 py]] w fun e w' => e = .returned (.bool (hasB x.x x.y x.w x.h px py)) ∧ Below w.heap.size w w') := fun w => has_any _ _ _ _ _ _ w hx hy
  clear hx hy
  generalize hasB x.x x.y x.w x.h px py = hh at *
  go_enter Try.func54, Try.ntmps54
  go_wp2_with fail
  refine (HH.out _).mono ?_
  rintro e w1 ⟨rfl, hb1⟩
  have HB : Hid (Below W.heap.size W w1) := by
    have h2 : Below W.heap.size W (W.alloc (.cells #[.int .i64 x.x, .int .i64 x.y, .int .i64 x.w, .int .i64 x.h] 27)) := (Below.refl _ W).alloc (Nat.le_refl _) _
    exact h2.trans (hb1.mono h2.size)
  clear hb1
  go_wp2
  go_ret
  exact ⟨rfl, HB.out⟩

set_option maxRecDepth 10000 in
set_option maxHeartbeats 2000000 in
theorem index_any (l : List Rc) (v : Value) (px py : Int) (bx : Nat) (w : World) (hv : LsR w v l) (il : I64s l) (h0 : w.cell? ⟨bx, 0, none⟩ = some (.int .i64 px)) (h1 : w.cell? ⟨bx, 1, none⟩ = some (.int .i64 py)) (hb : bx < w.heap.size) (hl : l.length < 1000000000) :
    Calls Try.prog 76 #[v, .func (.func 54) #[] #[.pointer (some ⟨bx, 0, none⟩)]] w fun e w' => ∃ i : Int, e = .returned (.int .i64 i) ∧ decide (0 ≤ i) = hasC l px py ∧ Below w.heap.size w w' := by
  obtain ⟨oa, cap, rfl, hc, hg⟩ := hv
  have HG : Hid ((0 < l.length → ∃ g o, oa = some ⟨g, o, none⟩ ∧ g < w.heap.size ∧ ∀ i (h : i < l.length), RcAt w g (o + i * 4) l[i]) ∧ I64s l) := ⟨hg, il⟩
  have HC : Hid (∀ (x : Rc) W, Below w.heap.size w W → I64 x.x → I64 x.y → Calls Try.prog 54 #[.agg #[.int .i64 x.x, .int .i64 x.y, .int .i64 x.w, .int .i64 x.h], .pointer (some ⟨bx, 0, none⟩)] W fun e w' => e = .returned (.bool (hasB x.x x.y x.w x.h px py)) ∧ Below W.heap.size W w') := fun x W hW hx hy =>
    hasClo x px py bx W ((hW.cell (p := ⟨bx, 0, none⟩) hb).trans h0) ((hW.cell (p := ⟨bx, 1, none⟩) hb).trans h1) (Nat.lt_of_lt_of_le hb hW.size) hx hy
  obtain ⟨R, HR⟩ : ∃ R, Hid (R = hasC l px py) := ⟨_, rfl⟩
  rw [← HR.out]
  clear hg il h0 h1
  go_enter Try.func76, Try.ntmps76
  go_wp2_with fail
  go_loopw [8] (fun i wr => ∃ k : Nat, k ≤ l.length ∧ i = .int .i64 k ∧ hasC (l.take k) px py = false ∧ Below w.heap.size w wr) (fun i _ => l.length - (intOf i).toNat)
  case atStart => exact ⟨0, Nat.zero_le _, rfl, rfl, Below.refl _ _⟩
  case round =>
    obtain ⟨k, hk, rfl, ha, L⟩ := hrel
    by_cases hlt : k < l.length
    · obtain ⟨g, o, rfl, hg, hat⟩ := HG.out.1 (by omega)
      obtain ⟨x0, x1, x2, x3⟩ := (hat k hlt).kept (w' := wr) fun j => L.cell (p := ⟨g, j, none⟩) hg
      obtain ⟨i1, i2⟩ := HG.out.2 _ (List.getElem_mem hlt)
      have e1 : l.take (k + 1) = l.take k ++ [l[k]] := (List.take_append_getElem hlt).symm
      have e2 : hasC (l.take (k + 1)) px py = hasB l[k].x l[k].y l[k].w l[k].h px py := by
        unfold hasC at ha ⊢
        rw [e1, List.any_append, ha]; simp
      have e3 : hasB l[k].x l[k].y l[k].w l[k].h px py = true → R = true := fun h => by
        rw [HR.out]
        unfold hasC
        exact List.any_eq_true.2 ⟨l[k], List.getElem_mem hlt, h⟩
      have HX := HC.out l[k] wr L i1 i2
      have HE : Hid (hasC (l.take (k + 1)) px py = hasB l[k].x l[k].y l[k].w l[k].h px py ∧ (hasB l[k].x l[k].y l[k].w l[k].h px py = true → R = true) ∧ Below w.heap.size w wr) := ⟨e2, e3, L⟩
      have HX2 : Hid (Calls Try.prog 54 #[.agg #[.int .i64 l[k].x, .int .i64 l[k].y, .int .i64 l[k].w, .int .i64 l[k].h], .pointer (some ⟨bx, 0, none⟩)] wr fun e w' => e = .returned (.bool (hasB l[k].x l[k].y l[k].w l[k].h px py)) ∧ Below wr.heap.size wr w') := HX
      clear hat e1 e2 e3 L ha i1 i2 HX
      generalize hasB l[k].x l[k].y l[k].w l[k].h px py = hh at *
      generalize l[k] = x at *
      have HT : Hid (hh = true → R = true) := HE.out.2.1
      cases hh
      · go_wp2_with fail
        refine HX2.out.mono ?_
        rintro e w1 ⟨rfl, hb1⟩
        have HRel : Hid (∃ k' : Nat, k' ≤ l.length ∧ Value.int .i64 ((k : Int) + 1) = .int .i64 k' ∧ hasC (l.take k') px py = false ∧ Below w.heap.size w w1) := ⟨k + 1, by omega, by go_num, HE.out.1, HE.out.2.2.trans (hb1.mono HE.out.2.2.size)⟩
        clear hb1
        go_wp2
        exact ⟨HRel.out, by simp [intOf]; omega⟩
      · go_wp2_with fail
        refine HX2.out.mono ?_
        rintro e w1 ⟨rfl, hb1⟩
        have HB : Hid (Below w.heap.size w w1) := HE.out.2.2.trans (hb1.mono HE.out.2.2.size)
        clear hb1
        go_wp2
        go_ret
        have e5 : R = true := by first | exact HT.out rfl | exact HT.out trivial
        exact ⟨_, rfl, by rw [e5]; simp, HB.out⟩
    · obtain rfl : k = l.length := by omega
      rw [List.take_length] at ha
      have HB : Hid (R = false ∧ Below w.heap.size w wr) := ⟨by rw [HR.out]; exact ha, L⟩
      clear ha L
      go_wp2
      go_ret
      exact ⟨_, rfl, by rw [HB.out.1]; rfl, HB.out.2⟩

set_option maxHeartbeats 1000000 in
theorem hasL_any (l : List Rc) (v : Value) (px py : Int) (w : World) (hv : LsR w v l) (il : I64s l) :
    Calls Try.prog 32 #[v, .agg #[.int .i64 px, .int .i64 py]] w fun e w' => e = .returned (.tuple #[.bool (decide (lisE l = 0) && hasC l px py), .int .i64 (lisE l)]) ∧ Below w.heap.size w w' := by
  have hb0 : Below w.heap.size w (w.alloc (.cells #[.int .i64 px, .int .i64 py] 23)) := (Below.refl _ w).alloc (Nat.le_refl _) _
  have H1 : Hid (∀ W, Below w.heap.size w W → Calls Try.prog 52 #[v] W fun e w' => e = .returned (.int .i64 (lisE l)) ∧ Below W.heap.size W w') := fun W h => listed_any l v W (hv.below h) il
  have HB0 : Hid (Below w.heap.size w (w.alloc (.cells #[.int .i64 px, .int .i64 py] 23)) ∧ Bk (w.alloc (.cells #[.int .i64 px, .int .i64 py] 23)) w.heap.size #[.int .i64 px, .int .i64 py] 23) := ⟨hb0, Bk.new _ _ _⟩
  by_cases h0 : lisE l = 0
  · have hal := (lisE_zero h0).1
    have HI : Hid (∀ bx W, Below w.heap.size w W → Bk W bx #[.int .i64 px, .int .i64 py] 23 → Calls Try.prog 76 #[v, .func (.func 54) #[] #[.pointer (some ⟨bx, 0, none⟩)]] W fun e w' => ∃ i : Int, e = .returned (.int .i64 i) ∧ decide (0 ≤ i) = hasC l px py ∧ Below W.heap.size W w') := fun bx W h hk => index_any l v px py bx W (hv.below h) il hk.at2.1 hk.at2.2 hk.lt (by omega)
    rw [h0] at H1 ⊢
    rw [decide_eq_true rfl, Bool.true_and]
    generalize hasC l px py = hh at *
    have HCf : Hid (∀ bx W, Below w.heap.size w W → Bk W bx #[.int .i64 px, .int .i64 py] 23 → Calls Try.prog 53 #[v, .func (.func 54) #[] #[.pointer (some ⟨bx, 0, none⟩)]] W fun e w' => e = .returned (.bool hh) ∧ Below W.heap.size W w') := by
      intro bx W h hk
      have HX : Hid (Calls Try.prog 76 #[v, .func (.func 54) #[] #[.pointer (some ⟨bx, 0, none⟩)]] W fun e w' => ∃ i : Int, e = .returned (.int .i64 i) ∧ decide (0 ≤ i) = hh ∧ Below W.heap.size W w') := HI.out bx W h hk
      clear hk h hv il HI H1 HB0 hb0
      go_enter Try.func53, Try.ntmps53
      go_wp2_with fail
      refine HX.out.mono ?_
      rintro e w1 ⟨i, rfl, hi, hb1⟩
      have HB : Hid (Below W.heap.size W w1 ∧ decide (0 ≤ i) = hh) := ⟨hb1, hi⟩
      clear hb1 hi
      go_wp2
      go_ret
      exact ⟨by rw [← HB.out.2]; rfl, HB.out.1⟩
    clear hv il h0 HI hb0
    go_enter Try.func32, Try.ntmps32
    go_wp2_with fail
    refine (H1.out _ HB0.out.1).mono ?_
    rintro e w1 ⟨rfl, hb1⟩
    have HB1 : Hid (Below w.heap.size w w1 ∧ Bk w1 w.heap.size #[.int .i64 px, .int .i64 py] 23) := ⟨HB0.out.1.trans (hb1.mono HB0.out.1.size), HB0.out.2.below hb1⟩
    clear hb1
    go_wp2_with fail
    refine (HCf.out _ _ HB1.out.1 HB1.out.2).mono ?_
    rintro e w2 ⟨rfl, hb2⟩
    have HB2 : Hid (Below w.heap.size w w2) := HB1.out.1.trans (hb2.mono HB1.out.1.size)
    clear hb2
    go_wp2
    go_ret2
    exact ⟨rfl, HB2.out⟩
  · rw [decide_eq_false h0, Bool.false_and]
    generalize lisE l = ea at *
    have h1 : (ea != 0) = true := by simp [h0]
    clear hv il h0 hb0
    go_enter Try.func32, Try.ntmps32
    go_wp2_with fail
    refine (H1.out _ HB0.out.1).mono ?_
    rintro e w1 ⟨rfl, hb1⟩
    have HB1 : Hid (Below w.heap.size w w1) := HB0.out.1.trans (hb1.mono HB0.out.1.size)
    clear hb1
    go_wp2
    go_ret2
    exact ⟨rfl, HB1.out⟩

end Go.Proofs.Ytbghjmkgicdnoaa
