/-
  A list turned about, for the statement RegionRules.
-/
import Derived.Test.YtagkbpceiedikaaGX
namespace Go.Proofs.Ytagkbpceiedikaa
open Go.RowKit Go.Sort Go.Shelf

def bckL (l : List Rc) : List Rc := l.reverse ++ l.take 1
/-- What has been gathered when k are left. -/
def BkInv (rs : List Rc) (w : World) (k : Nat) (v : Value) (wr : World) : Prop := k ≤ rs.length ∧ wr.ownsRow w.heap.size 35 4 v (rs.drop k).reverse.length (flat (rs.drop k).reverse) ∧ Below w.heap.size w wr

set_option maxRecDepth 10000 in
set_option maxHeartbeats 4000000 in
theorem back_any (rs : List Rc) (v : Value) (w : World) (hv : LsR w v rs) (hl : rs.length ≤ 1000000) :
    Calls Try.prog 39 #[v] w fun e w' => ∃ u, e = .returned u ∧ w'.ownsRow w.heap.size 35 4 u (bckL rs).length (flat (bckL rs)) ∧ Below w.heap.size w w' := by
  obtain ⟨oa, cap, rfl, hc, hg⟩ := hv
  have HG : Hid (0 < rs.length → ∃ g o, oa = some ⟨g, o, none⟩ ∧ g < w.heap.size ∧ ∀ i (h : i < rs.length), RcAt w g (o + i * 4) rs[i]) := hg
  obtain ⟨i0, hi, hz0, hz1, hz2⟩ := info_parts info_rect
  have HI : Hid (Try.prog.info? 35 = some i0 ∧ i0.zero = some (.agg #[.int .i64 0, .int .i64 0, .int .i64 0, .int .i64 0]) ∧ i0.size = 4 ∧ i0.bytes = 32) := ⟨hi, hz0, hz1, hz2⟩
  clear hg hi hz0 hz1 hz2
  go_enter Try.func39, Try.ntmps39
  go_wp2_with fail
  go_loopw [3, 4] (fun v i wr => ∃ k : Nat, i = .int .i64 ((k : Int) - 1) ∧ BkInv rs w k v wr) (fun _ i _ => (intOf i + 1).toNat)
  case atStart => exact ⟨rs.length, rfl, Nat.le_refl _, by rw [List.drop_length]; exact World.ownsRow_nil _ _ _ _, Below.refl _ _⟩
  case round =>
    obtain ⟨k, rfl, hI⟩ := hrel
    have HV : Hid (BkInv rs w k u3 wr) := hI
    obtain ⟨hkl, hown, hBr⟩ := hI
    rcases k with _ | m
    · rw [List.drop_zero] at hown
      have HF : Hid (wr.ownsRow w.heap.size 35 4 u3 rs.reverse.length (flat rs.reverse) ∧ Below w.heap.size w wr) := ⟨hown, hBr⟩
      clear hown HV
      by_cases h0 : rs.length = 0
      · have hr0 : rs = [] := List.length_eq_zero_iff.1 h0
        subst hr0
        clear hBr
        go_wp2
        go_ret
        exact ⟨_, rfl, HF.out.1, HF.out.2⟩
      · obtain ⟨g, o, rfl, hg, hat⟩ := HG.out (by omega)
        have hx := (hat 0 (by omega)).kept (w' := wr) fun j => hBr.cell (p := ⟨g, j, none⟩) hg
        rw [show o + 0 * 4 = o by omega] at hx
        have hp : 0 < (rs.length : Int) := by omega
        have HE : Hid (bckL rs = rs.reverse ++ [rs[0]'(by omega)]) := by
          unfold Hid bckL
          congr 1
          rw [show (1 : Nat) = 0 + 1 from rfl, ← List.take_append_getElem (show 0 < rs.length by omega)]
          rfl
        have hlen : rs.reverse.length ≤ 1000000 := by rw [List.length_reverse]; omega
        generalize rs[0]'(by omega) = x at *
        obtain ⟨ks, hks⟩ : ∃ ks, ks = rs.reverse := ⟨_, rfl⟩
        rw [← hks] at HF HE hlen
        have hc3 : Hid (ks.length + 1 ≤ maxLen) := by unfold Hid maxLen; omega
        have hc4 : Hid ((ks.length + 1) * 32 ≤ 140737488355328) := by unfold Hid; omega
        obtain ⟨x0, x1, x2, x3⟩ := hx
        have HA : Hid (∀ o, (wr.alloc o).ownsRow w.heap.size 35 4 u3 ks.length (flat ks) ∧ Below w.heap.size w (wr.alloc o)) := fun o => ⟨row_below HF.out.1 ((Below.refl _ _).alloc (Nat.le_refl _) _), HF.out.2.alloc HF.out.2.size _⟩
        clear hat hBr hks
        obtain ⟨hi, hz0, hz1, hz2⟩ := HI.out
        go_wp2_with (at_builtin; refine wpList_append_own _ rfl _ _ 23 rfl w.heap.size 35 i0 (.agg #[.int .i64 0, .int .i64 0, .int .i64 0, .int .i64 0]) 4 32 Try.underlying23 hi hz0 hz1 hz2 rfl (by decide) u3 ks.length (flat ks) rfl (HA.out _).1 _ 1 1 [.int .i64 x.x, .int .i64 x.y, .int .i64 x.w, .int .i64 x.h] rfl rfl (cell_fourB _ _ _ _ _ _ _ rfl) (one4 x) hc3.out hc4.out (HA.out _).2.size ?_)
        intro v' w4 hown' hgrow hnil
        have HR : Hid (w4.ownsRow w.heap.size 35 4 v' (bckL rs).length (flat (bckL rs)) ∧ Below w.heap.size w w4) := by
          refine ⟨?_, app_below (HA.out _).2 (HA.out _).1 (Nat.le_refl _) hgrow⟩
          rw [HE.out, List.length_append, flat_app]
          exact hown'
        clear hown' hgrow hnil hi hz0 hz1 hz2
        go_wp2
        go_ret
        exact ⟨_, rfl, HR.out.1, HR.out.2⟩
    · have em : (((m + 1 : Nat) : Int) - 1) = (m : Int) := by omega
      simp only [em]
      clear em
      obtain ⟨g, o, rfl, hg, hat⟩ := HG.out (by omega)
      have hx := (hat m (by omega)).kept (w' := wr) fun j => hBr.cell (p := ⟨g, j, none⟩) hg
      have e1 : (rs.drop m).reverse = (rs.drop (m + 1)).reverse ++ [rs[m]] := by
        rw [List.drop_eq_getElem_cons (by omega), List.reverse_cons]
      have HE : Hid ((rs.drop m).reverse = (rs.drop (m + 1)).reverse ++ [rs[m]]) := e1
      have hlen : (rs.drop (m + 1)).reverse.length ≤ 1000000 := by rw [List.length_reverse, List.length_drop]; omega
      have HF : Hid (wr.ownsRow w.heap.size 35 4 u3 (rs.drop (m + 1)).reverse.length (flat (rs.drop (m + 1)).reverse) ∧ Below w.heap.size w wr) := ⟨hown, hBr⟩
      have hml : (m : Int) < rs.length := by omega
      have hml2 : m < rs.length := by omega
      clear hown e1 HV
      generalize rs[m]'(by omega) = x at *
      generalize (rs.drop (m + 1)).reverse = ks at *
      have hc3 : Hid (ks.length + 1 ≤ maxLen) := by unfold Hid maxLen; omega
      have hc4 : Hid ((ks.length + 1) * 32 ≤ 140737488355328) := by unfold Hid; omega
      obtain ⟨x0, x1, x2, x3⟩ := hx
      have HA : Hid (∀ o, (wr.alloc o).ownsRow w.heap.size 35 4 u3 ks.length (flat ks) ∧ Below w.heap.size w (wr.alloc o)) := fun o => ⟨row_below HF.out.1 ((Below.refl _ _).alloc (Nat.le_refl _) _), HF.out.2.alloc HF.out.2.size _⟩
      clear hat hBr
      obtain ⟨hi, hz0, hz1, hz2⟩ := HI.out
      go_wp2_with (at_builtin; refine wpList_append_own _ rfl _ _ 23 rfl w.heap.size 35 i0 (.agg #[.int .i64 0, .int .i64 0, .int .i64 0, .int .i64 0]) 4 32 Try.underlying23 hi hz0 hz1 hz2 rfl (by decide) u3 ks.length (flat ks) rfl (HA.out _).1 _ 1 1 [.int .i64 x.x, .int .i64 x.y, .int .i64 x.w, .int .i64 x.h] rfl rfl (cell_fourB _ _ _ _ _ _ _ rfl) (one4 x) hc3.out hc4.out (HA.out _).2.size ?_)
      intro v' w4 hown' hgrow hnil
      have HRel : Hid (∃ k' : Nat, Value.int .i64 ((m : Int) - 1) = .int .i64 ((k' : Int) - 1) ∧ BkInv rs w k' v' w4) := by
        refine ⟨m, rfl, by omega, ?_, app_below (HA.out _).2 (HA.out _).1 (Nat.le_refl _) hgrow⟩
        rw [HE.out, List.length_append, flat_app]
        exact hown'
      clear hown' hgrow hnil hi hz0 hz1 hz2
      go_wp2
      exact ⟨HRel.out, by simp [intOf]⟩

end Go.Proofs.Ytagkbpceiedikaa
