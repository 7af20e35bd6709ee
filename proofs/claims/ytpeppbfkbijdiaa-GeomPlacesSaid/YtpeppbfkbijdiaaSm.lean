/-
  Lists of rectangles in memory, and the contract of the document's SameList: whether two lists are the same; of what was there nothing turns.
-/
import Derived.Test.YtpeppbfkbijdiaaLs
import Derived.Test.YtpeppbfkbijdiaaJ
import Derived.BigQuiet
namespace Go.Proofs.Ytpeppbfkbijdiaa
open Go.RowKit

/-- The cells of the k-th rectangle of a list. -/
theorem flat_at (l : List Rc) (k : Nat) (h : k < l.length) : (flat l)[k * 4]? = some (.int .i64 l[k].x) ∧ (flat l)[k * 4 + 1]? = some (.int .i64 l[k].y) ∧ (flat l)[k * 4 + 2]? = some (.int .i64 l[k].w) ∧ (flat l)[k * 4 + 3]? = some (.int .i64 l[k].h) := by
  induction l generalizing k with
  | nil => simp at h
  | cons r l ih =>
    cases k with
    | zero => simp [flat, cel]
    | succ k =>
      have e : ∀ j, (flat (r :: l))[(k + 1) * 4 + j]? = (flat l)[k * 4 + j]? := fun j => by
        show (cel r ++ flat l)[(k + 1) * 4 + j]? = _
        rw [List.getElem?_append_right (by simp [cel]; omega)]
        congr 1
        simp [cel]
        omega
      have h' : k < l.length := by simpa using h
      obtain ⟨i0, i1, i2, i3⟩ := ih k h'
      have e0 := e 0
      rw [Nat.add_zero, Nat.add_zero] at e0
      exact ⟨e0.trans i0, (e 1).trans i1, (e 2).trans i2, (e 3).trans i3⟩
/-- A slice that holds rectangles. -/
def Lst (w : World) (v : Value) (rs : List Rc) : Prop := ∃ oa cap, v = .slice oa rs.length cap ∧ rs.length ≤ cap ∧ (0 < rs.length → ∃ g, oa = some ⟨g, 0, none⟩ ∧ g < w.heap.size ∧ ∀ j, j < rs.length * 4 → w.cell? ⟨g, j, none⟩ = (flat rs)[j]?)
theorem Lst.below {w w' : World} {v : Value} {rs : List Rc} (h : Lst w v rs) (hb : Below w.heap.size w w') : Lst w' v rs := by
  obtain ⟨oa, cap, e, hc, hg⟩ := h
  refine ⟨oa, cap, e, hc, fun hp => ?_⟩
  obtain ⟨g, e1, g1, g2⟩ := hg hp
  exact ⟨g, e1, Nat.lt_of_lt_of_le g1 hb.size, fun j hj => (hb.cell (p := ⟨g, j, none⟩) g1).trans (g2 j hj)⟩
theorem lst_own {w : World} {base : Nat} {e : TypeId} {v : Value} {rs : List Rc} (h : w.ownsRow base e 4 v rs.length (flat rs)) : Lst w v rs := by
  rcases h.2 with ⟨rfl, h0⟩ | ⟨g, cap, cur, rfl, hb, hg, hc, _⟩
  · exact ⟨none, 0, by rw [h0], by omega, fun h => absurd h (by omega)⟩
  · exact ⟨_, cap, rfl, hc, fun _ => ⟨g, rfl, (Array.getElem?_eq_some_iff.1 hg).1, fun j hj => h.cellAt j hj⟩⟩
theorem below_drewN {B : Nat} {a w : World} {n : Nat} (h : Below B a w) : Below B a (w.drewN n) := ⟨h.os, h.tape, h.output, h.size, h.block⟩
theorem rc_ext {r q : Rc} (h : ((r.x == q.x) && ((r.y == q.y) && ((r.w == q.w) && (r.h == q.h)))) = true) : r = q := by
  cases r; cases q; simp at h ⊢; exact h
theorem rc_ne {r q : Rc} (h : ((r.x == q.x) && ((r.y == q.y) && ((r.w == q.w) && (r.h == q.h)))) = false) : r ≠ q := by
  rintro rfl; simp at h

set_option maxHeartbeats 2000000 in
theorem same_any (rs qs : List Rc) (v1 v2 : Value) (w : World) (h1 : Lst w v1 rs) (h2 : Lst w v2 qs) (hl : rs.length < 1000000) :
    Calls Try.prog 30 #[v1, v2] w fun e w' => ∃ b : Bool, e = .returned (.bool b) ∧ (b = true ↔ rs = qs) ∧ Below w.heap.size w w' := by
  obtain ⟨oa, ca, rfl, ha, hga⟩ := h1
  obtain ⟨ob, cb, rfl, hb, hgb⟩ := h2
  by_cases hn : rs.length = qs.length
  case neg =>
    have hn' : ((rs.length : Int) == (qs.length : Int)) = false := beq_eq_false_iff_ne.2 (by omega)
    go_enter Try.func30, Try.ntmps30
    go_wp2
    go_ret
    exact ⟨false, rfl, ⟨fun h => by simp at h, fun h => absurd (by rw [h]) hn⟩, Below.refl _ _⟩
  case pos =>
    have HB : Hid ((0 < rs.length → ∃ g, oa = some ⟨g, 0, none⟩ ∧ g < w.heap.size ∧ ∀ j, j < rs.length * 4 → w.cell? ⟨g, j, none⟩ = (flat rs)[j]?) ∧ (0 < qs.length → ∃ g, ob = some ⟨g, 0, none⟩ ∧ g < w.heap.size ∧ ∀ j, j < qs.length * 4 → w.cell? ⟨g, j, none⟩ = (flat qs)[j]?)) := ⟨hga, hgb⟩
    clear hga hgb
    go_enter Try.func30, Try.ntmps30
    go_wp2_with fail
    go_loopw [5] (fun i wr => ∃ k : Nat, k ≤ rs.length ∧ i = .int .i64 k ∧ (∀ j, j < k → rs[j]? = qs[j]?) ∧ Below w.heap.size w wr) (fun i _ => rs.length - (intOf i).toNat)
    case atStart => exact ⟨0, Nat.zero_le _, rfl, fun j hj => absurd hj (by omega), Below.refl _ _⟩
    case round =>
      obtain ⟨k, hk, rfl, hall, hw⟩ := hrel
      by_cases hlt : k < rs.length
      · obtain ⟨hga, hgb⟩ := HB.out
        obtain ⟨g1, rfl, l1, c1⟩ := hga (by omega)
        obtain ⟨g2, rfl, l2, c2⟩ := hgb (by omega)
        have hlq : k < qs.length := by omega
        obtain ⟨f0, f1, f2, f3⟩ := flat_at rs k hlt
        obtain ⟨e0, e1, e2, e3⟩ := flat_at qs k hlq
        have p0 : wr.cell? ⟨g1, k * 4, none⟩ = some (.int .i64 rs[k].x) := ((hw.cell (p := ⟨g1, k * 4, none⟩) l1).trans (c1 _ (by omega))).trans f0
        have p1 : wr.cell? ⟨g1, k * 4 + 1, none⟩ = some (.int .i64 rs[k].y) := ((hw.cell (p := ⟨g1, k * 4 + 1, none⟩) l1).trans (c1 _ (by omega))).trans f1
        have p2 : wr.cell? ⟨g1, k * 4 + 2, none⟩ = some (.int .i64 rs[k].w) := ((hw.cell (p := ⟨g1, k * 4 + 2, none⟩) l1).trans (c1 _ (by omega))).trans f2
        have p3 : wr.cell? ⟨g1, k * 4 + 3, none⟩ = some (.int .i64 rs[k].h) := ((hw.cell (p := ⟨g1, k * 4 + 3, none⟩) l1).trans (c1 _ (by omega))).trans f3
        have q0 : wr.cell? ⟨g2, k * 4, none⟩ = some (.int .i64 qs[k].x) := ((hw.cell (p := ⟨g2, k * 4, none⟩) l2).trans (c2 _ (by omega))).trans e0
        have q1 : wr.cell? ⟨g2, k * 4 + 1, none⟩ = some (.int .i64 qs[k].y) := ((hw.cell (p := ⟨g2, k * 4 + 1, none⟩) l2).trans (c2 _ (by omega))).trans e1
        have q2 : wr.cell? ⟨g2, k * 4 + 2, none⟩ = some (.int .i64 qs[k].w) := ((hw.cell (p := ⟨g2, k * 4 + 2, none⟩) l2).trans (c2 _ (by omega))).trans e2
        have q3 : wr.cell? ⟨g2, k * 4 + 3, none⟩ = some (.int .i64 qs[k].h) := ((hw.cell (p := ⟨g2, k * 4 + 3, none⟩) l2).trans (c2 _ (by omega))).trans e3
        have er : rs[k]? = some rs[k] := List.getElem?_eq_getElem hlt
        have eq : qs[k]? = some qs[k] := List.getElem?_eq_getElem hlq
        clear f0 f1 f2 f3 e0 e1 e2 e3 c1 c2 hga hgb
        have HE : Hid (rs[k]? = some rs[k] ∧ qs[k]? = some qs[k] ∧ (∀ j, j < k → rs[j]? = qs[j]?) ∧ Below w.heap.size w wr) := ⟨er, eq, hall, hw⟩
        clear er eq hall hw
        generalize rs[k] = r at *
        generalize qs[k] = q at *
        have hq := neq_rect
        cases ht : ((r.x == q.x) && ((r.y == q.y) && ((r.w == q.w) && (r.h == q.h))))
        · go_wp2_with fail
          go_quiet (fail)
          go_wp2
          go_ret
          obtain ⟨er, eq, hall, hw⟩ := HE.out
          refine ⟨false, rfl, ⟨fun h => by simp at h, fun h => ?_⟩, below_drewN hw⟩
          subst h
          rw [er] at eq
          exact absurd (Option.some.inj eq) (rc_ne ht)
        · go_wp2_with fail
          go_quiet (fail)
          go_wp2
          go_roundw
          case rel =>
            obtain ⟨er, eq, hall, hw⟩ := HE.out
            refine ⟨k + 1, by omega, by go_num, fun j hj => ?_, below_drewN hw⟩
            by_cases hjk : j = k
            · subst hjk; rw [er, eq, rc_ext ht]
            · exact hall j (by omega)
          case measure => simp [intOf]; omega
      · go_wp2
        go_ret
        refine ⟨true, rfl, ⟨fun _ => ?_, fun _ => rfl⟩, hw⟩
        refine List.ext_getElem? fun j => ?_
        by_cases hj : j < k
        · exact hall j hj
        · rw [List.getElem?_eq_none (by omega), List.getElem?_eq_none (by omega)]

end Go.Proofs.Ytpeppbfkbijdiaa
