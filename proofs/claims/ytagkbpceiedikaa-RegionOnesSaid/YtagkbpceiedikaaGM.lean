/-
  Contracts: whether two lists of rectangles are the same, by package slices and by the document's answer.
-/
import Derived.Test.YtagkbpceiedikaaGL
import Derived.Test.YtagkbpceiedikaaJ
namespace Go.Proofs.Ytagkbpceiedikaa
open Go.RowKit Go.Sort Go.Shelf

theorem rc_ext {r q : Rc} (h : ((r.x == q.x) && ((r.y == q.y) && ((r.w == q.w) && (r.h == q.h)))) = true) : r = q := by
  cases r; cases q; simp at h ⊢; exact h
theorem rc_ne {r q : Rc} (h : ((r.x == q.x) && ((r.y == q.y) && ((r.w == q.w) && (r.h == q.h)))) = false) : r ≠ q := by
  rintro rfl; simp at h
/-- Are two lists the same? -/
def sameB : List Rc → List Rc → Bool
  | [], [] => true
  | r :: t, q :: u => ((r.x == q.x) && ((r.y == q.y) && ((r.w == q.w) && (r.h == q.h)))) && sameB t u
  | _, _ => false
theorem sameB_iff : ∀ a b : List Rc, sameB a b = true ↔ a = b
  | [], [] => by simp [sameB]
  | [], _ :: _ => by simp [sameB]
  | _ :: _, [] => by simp [sameB]
  | r :: t, q :: u => by
    rw [sameB, Bool.and_eq_true, sameB_iff t u]
    constructor
    · rintro ⟨h1, h2⟩
      rw [rc_ext h1, h2]
    · intro h
      injection h with h1 h2
      subst h1
      exact ⟨by simp, h2⟩
theorem sameB_no {a b : List Rc} (h : a ≠ b) : sameB a b = false := by
  cases hs : sameB a b
  · rfl
  · exact absurd ((sameB_iff a b).1 hs) h
theorem sameB_self (a : List Rc) : sameB a a = true := (sameB_iff a a).2 rfl

set_option maxRecDepth 10000 in
set_option maxHeartbeats 2000000 in
theorem equal_any (rs qs : List Rc) (v1 v2 : Value) (w : World) (h1 : LsR w v1 rs) (h2 : LsR w v2 qs) (hl : rs.length < 1000000000) :
    Calls Try.prog 47 #[v1, v2] w fun e w' => e = .returned (.bool (sameB rs qs)) ∧ Below w.heap.size w w' := by
  obtain ⟨oa, ca, rfl, ha, hga⟩ := h1
  obtain ⟨ob, cb, rfl, hb, hgb⟩ := h2
  by_cases hn : rs.length = qs.length
  case neg =>
    have hn' : ((rs.length : Int) == (qs.length : Int)) = false := beq_eq_false_iff_ne.2 (by omega)
    rw [show sameB rs qs = false from sameB_no fun h => hn (by rw [h])]
    go_enter Try.func47, Try.ntmps47
    go_wp2
    go_ret
    exact ⟨rfl, Below.refl _ _⟩
  case pos =>
    have HB : Hid ((0 < rs.length → ∃ g o, oa = some ⟨g, o, none⟩ ∧ g < w.heap.size ∧ ∀ i (h : i < rs.length), RcAt w g (o + i * 4) rs[i]) ∧ (0 < qs.length → ∃ g o, ob = some ⟨g, o, none⟩ ∧ g < w.heap.size ∧ ∀ i (h : i < qs.length), RcAt w g (o + i * 4) qs[i])) := ⟨hga, hgb⟩
    have HN : Hid (rs.length = qs.length) := hn
    obtain ⟨B, HBe⟩ : ∃ B, Hid (B = sameB rs qs) := ⟨_, rfl⟩
    rw [← HBe.out]
    have hnn : ((rs.length : Int) == (qs.length : Int)) = true := by simp [hn]
    clear hga hgb
    go_enter Try.func47, Try.ntmps47
    go_wp2_with fail
    go_loopw [13] (fun i wr => ∃ k : Nat, k ≤ rs.length ∧ i = .int .i64 k ∧ (∀ j, j < k → rs[j]? = qs[j]?) ∧ Below w.heap.size w wr) (fun i _ => rs.length - (intOf i).toNat)
    case atStart => exact ⟨0, Nat.zero_le _, rfl, fun j hj => absurd hj (by omega), Below.refl _ _⟩
    case round =>
      obtain ⟨k, hk, rfl, hall, hw⟩ := hrel
      by_cases hlt : k < rs.length
      · obtain ⟨hga, hgb⟩ := HB.out
        obtain ⟨g1, o1, rfl, l1, c1⟩ := hga (by omega)
        obtain ⟨g2, o2, rfl, l2, c2⟩ := hgb (by omega)
        have hlq : k < qs.length := by omega
        obtain ⟨p0, p1, p2, p3⟩ := (c1 k hlt).kept (w' := wr) fun j => hw.cell (p := ⟨g1, j, none⟩) l1
        obtain ⟨q0, q1, q2, q3⟩ := (c2 k hlq).kept (w' := wr) fun j => hw.cell (p := ⟨g2, j, none⟩) l2
        have er : rs[k]? = some rs[k] := List.getElem?_eq_getElem hlt
        have eq : qs[k]? = some qs[k] := List.getElem?_eq_getElem hlq
        clear c1 c2 hga hgb
        have HE : Hid (rs[k]? = some rs[k] ∧ qs[k]? = some qs[k] ∧ (∀ j, j < k → rs[j]? = qs[j]?) ∧ Below w.heap.size w wr) := ⟨er, eq, hall, hw⟩
        clear er eq hall hw
        generalize rs[k] = r at *
        generalize qs[k] = q at *
        have hq := neq_rect
        cases ht : ((r.x == q.x) && ((r.y == q.y) && ((r.w == q.w) && (r.h == q.h))))
        · go_wp2_with fail
          go_quiet (fail)
          go_wp2
          go_ret
          obtain ⟨er, eq, hall, hw⟩ := HE.out
          refine ⟨?_, below_drewN hw⟩
          rw [HBe.out, show sameB rs qs = false from sameB_no fun h => ?_]
          · rfl
          · rw [h, eq] at er
            exact absurd (Option.some.inj er).symm (rc_ne ht)
        · go_wp2_with fail
          go_quiet (fail)
          go_wp2
          go_roundw
          case rel =>
            obtain ⟨er, eq, hall, hw⟩ := HE.out
            refine ⟨k + 1, by omega, by go_num, fun j hj => ?_, below_drewN hw⟩
            by_cases hjk : j = k
            · subst hjk; rw [er, eq, rc_ext ht]
            · exact hall j (by omega)
          case measure => simp [intOf]; omega
      · have hse : sameB rs qs = true := (sameB_iff rs qs).2 <| by
          have := HN.out
          refine List.ext_getElem? fun j => ?_
          by_cases hj : j < k
          · exact hall j hj
          · rw [List.getElem?_eq_none (by omega), List.getElem?_eq_none (by omega)]
        have HX : Hid (B = true ∧ Below w.heap.size w wr) := ⟨by rw [HBe.out]; exact hse, hw⟩
        clear hse hall hw
        go_wp2
        go_ret
        exact ⟨by rw [HX.out.1]; rfl, HX.out.2⟩

set_option maxRecDepth 10000 in
set_option maxHeartbeats 2000000 in
theorem sameL_any (rs qs : List Rc) (v1 v2 : Value) (w : World) (h1 : LsR w v1 rs) (h2 : LsR w v2 qs) (hl : rs.length < 1000000000) :
    Calls Try.prog 51 #[v1, v2] w fun e w' => e = .returned (.bool (sameB rs qs)) ∧ Below w.heap.size w w' := by
  obtain ⟨oa, ca, rfl, ha, hga⟩ := h1
  obtain ⟨ob, cb, rfl, hb, hgb⟩ := h2
  by_cases hn : rs.length = qs.length
  case neg =>
    have hn' : ((rs.length : Int) == (qs.length : Int)) = false := beq_eq_false_iff_ne.2 (by omega)
    rw [show sameB rs qs = false from sameB_no fun h => hn (by rw [h])]
    go_enter Try.func51, Try.ntmps51
    go_wp2
    go_ret
    exact ⟨rfl, Below.refl _ _⟩
  case pos =>
    have HB : Hid ((0 < rs.length → ∃ g o, oa = some ⟨g, o, none⟩ ∧ g < w.heap.size ∧ ∀ i (h : i < rs.length), RcAt w g (o + i * 4) rs[i]) ∧ (0 < qs.length → ∃ g o, ob = some ⟨g, o, none⟩ ∧ g < w.heap.size ∧ ∀ i (h : i < qs.length), RcAt w g (o + i * 4) qs[i])) := ⟨hga, hgb⟩
    have HN : Hid (rs.length = qs.length) := hn
    obtain ⟨B, HBe⟩ : ∃ B, Hid (B = sameB rs qs) := ⟨_, rfl⟩
    rw [← HBe.out]
    have hnn : ((rs.length : Int) == (qs.length : Int)) = true := by simp [hn]
    clear hga hgb
    go_enter Try.func51, Try.ntmps51
    go_wp2_with fail
    go_loopw [5] (fun i wr => ∃ k : Nat, k ≤ rs.length ∧ i = .int .i64 k ∧ (∀ j, j < k → rs[j]? = qs[j]?) ∧ Below w.heap.size w wr) (fun i _ => rs.length - (intOf i).toNat)
    case atStart => exact ⟨0, Nat.zero_le _, rfl, fun j hj => absurd hj (by omega), Below.refl _ _⟩
    case round =>
      obtain ⟨k, hk, rfl, hall, hw⟩ := hrel
      by_cases hlt : k < rs.length
      · obtain ⟨hga, hgb⟩ := HB.out
        obtain ⟨g1, o1, rfl, l1, c1⟩ := hga (by omega)
        obtain ⟨g2, o2, rfl, l2, c2⟩ := hgb (by omega)
        have hlq : k < qs.length := by omega
        obtain ⟨p0, p1, p2, p3⟩ := (c1 k hlt).kept (w' := wr) fun j => hw.cell (p := ⟨g1, j, none⟩) l1
        obtain ⟨q0, q1, q2, q3⟩ := (c2 k hlq).kept (w' := wr) fun j => hw.cell (p := ⟨g2, j, none⟩) l2
        have er : rs[k]? = some rs[k] := List.getElem?_eq_getElem hlt
        have eq : qs[k]? = some qs[k] := List.getElem?_eq_getElem hlq
        clear c1 c2 hga hgb
        have HE : Hid (rs[k]? = some rs[k] ∧ qs[k]? = some qs[k] ∧ (∀ j, j < k → rs[j]? = qs[j]?) ∧ Below w.heap.size w wr) := ⟨er, eq, hall, hw⟩
        clear er eq hall hw
        generalize rs[k] = r at *
        generalize qs[k] = q at *
        have hq := neq_rect
        cases ht : ((r.x == q.x) && ((r.y == q.y) && ((r.w == q.w) && (r.h == q.h))))
        · go_wp2_with fail
          go_quiet (fail)
          go_wp2
          go_ret
          obtain ⟨er, eq, hall, hw⟩ := HE.out
          refine ⟨?_, below_drewN hw⟩
          rw [HBe.out, show sameB rs qs = false from sameB_no fun h => ?_]
          · rfl
          · rw [h, eq] at er
            exact absurd (Option.some.inj er).symm (rc_ne ht)
        · go_wp2_with fail
          go_quiet (fail)
          go_wp2
          go_roundw
          case rel =>
            obtain ⟨er, eq, hall, hw⟩ := HE.out
            refine ⟨k + 1, by omega, by go_num, fun j hj => ?_, below_drewN hw⟩
            by_cases hjk : j = k
            · subst hjk; rw [er, eq, rc_ext ht]
            · exact hall j (by omega)
          case measure => simp [intOf]; omega
      · have hse : sameB rs qs = true := (sameB_iff rs qs).2 <| by
          have := HN.out
          refine List.ext_getElem? fun j => ?_
          by_cases hj : j < k
          · exact hall j hj
          · rw [List.getElem?_eq_none (by omega), List.getElem?_eq_none (by omega)]
        have HX : Hid (B = true ∧ Below w.heap.size w wr) := ⟨by rw [HBe.out]; exact hse, hw⟩
        clear hse hall hw
        go_wp2
        go_ret
        exact ⟨by rw [HX.out.1]; rfl, HX.out.2⟩

end Go.Proofs.Ytagkbpceiedikaa
