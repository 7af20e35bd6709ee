/-
  WrapShows: whatever kind and small wrappers come in, it answers true, and nothing of what was there turns.
-/
import Derived.Test.YtbnbfgkcndomaabGreatDoorCards
import Derived.Test.YtbnbfgkcndomaabGreatDoorTie
import Derived.Test.YtbnbfgkcndomaabGreatDoorUOp
import Derived.Test.YtbnbfgkcndomaabGreatDoorVOp
import Derived.Test.YtbnbfgkcndomaabGreatDoorVSh
import Derived.Test.YtbnbfgkcndomaabGreatDoorUTb
import Derived.ProofKit
import Derived.OpenShut
import Derived.Deep.DeepHandedRow
import Derived.Lay
import Derived.LaidOnce
import Derived.SevenTiedAt
import Derived.LaidLaws
namespace Go.Proofs.YtbnbfgkcndomaabGreatDoor
open Go.ChangeShapes Go.WideShapes Go.ChangeAt Go.RowKit
open Go.ChangeMaps (open_string shut_string)

set_option maxRecDepth 100000 in
theorem shows_reads (os : Os) {H : Type} (enc : TypeId × Value → H) : ∃ places, DataW.whole enc Tryz.prog ((World.laidAll Tryz.prog os Rows.wrapShowsRow.laid).forCall (fun _ _ => 0) ⟨#[], #[.int .u8 0, .slice none 0 0], []⟩).memory Tryz.f5.params.toList Rows.wrapShowsSpec.vars false #[Value.int .u8 0, .slice none 0 0].toList 8 = some ([.lit (.int .u8 0), .nil], [], places) :=
  ⟨[], by kernel_rfl⟩

set_option maxRecDepth 100000 in
theorem shows_lifted (os : Os) (started : os.Started) (H : Type) (enc : TypeId × Value → H) (F : Stop.Interp) :
    ReturnsInHanded {} Tryz.checked os 5 .any ((OpenSpec.ofChange Rows.wrapShowsSpec).preRow enc Tryz.prog Tryz.f5 Rows.wrapShowsRow.domain false Rows.wrapShowsRow.laid) (((OpenSpec.ofChange Rows.wrapShowsSpec).at F).post enc Tryz.prog Tryz.f5 false true false false) := by
  obtain ⟨places, hx⟩ := shows_reads os enc
  have hok : Input.okWideB Tryz.prog ((World.laidAll Tryz.prog os Rows.wrapShowsRow.laid).forCall (fun _ _ => 0) ⟨#[], #[.int .u8 0, .slice none 0 0], []⟩) 5 ⟨#[], #[.int .u8 0, .slice none 0 0], []⟩ = true := by kernel_rfl
  have hL : laidMetH Tryz.prog Rows.wrapShowsRow.laid ((World.laidAll Tryz.prog os Rows.wrapShowsRow.laid).forCall (fun _ _ => 0) ⟨#[], #[.int .u8 0, .slice none 0 0], []⟩).memory := by
    rw [MakeChecks.laidMetH_plain _ _ _ (by kernel_rfl)]
    exact laidMet_laidAll _ (by kernel_rfl) (by kernel_rfl)
  refine returnsInHanded_of_row (C := Tryz.checked) (s := OpenSpec.ofChange Rows.wrapShowsSpec) own started (by kernel_rfl) Tryz.func5
    ⟨World.laidAll Tryz.prog os Rows.wrapShowsRow.laid, fun _ _ => 0, ⟨#[], #[.int .u8 0, .slice none 0 0], []⟩, World.laidAll_os _ _ _, World.shaped_of_ZipB (by kernel_rfl) (by kernel_rfl), (Input.okWide_of_okWideB (base := 0) hok).1, (Input.okWide_of_okWideB hok).2,
      OpenSpec.preRow_of_cond 8 hx (by kernel_rfl) (fun k hk => by cases hk) (by kernel_rfl) hL, by
        simp only [Assume.holds]
        exact ⟨by simp, by simp, fun _ => Modest.zero, by simp, by simp⟩⟩ ?_
  intro W base args ds gs before hval0 hW _ hcond _ hLaid hsh _
  have hval : ∀ (j : Nat) t v, Tryz.f5.params[j]? = some t → args[j]? = some v → Value.okWide Tryz.prog W .any base t v := hval0
  have hW' := hW
  obtain ⟨p, q, hA0, hV, rfl, _, _⟩ := hW
  have hA : DataW.TrodAll enc Tryz.prog W 0 (fun _ => true) true Tryz.f5.params.toList args.toList ds p := hA0
  rw [Tryz.params5] at hA hval
  obtain ⟨v0, v1, d0, d1, p0, p1, rfl, rfl, rfl, h0, h1⟩ := trodAll_two hA
  obtain ⟨rfl, rfl⟩ := trodVars_none hV
  obtain ⟨y0, rfl, rfl, rfl, w0⟩ := open_int Tryz.underlying5 (hval 0 5 v0 rfl rfl) h0
  obtain ⟨x0, rfl⟩ : ∃ n : Nat, y0 = (n : Int) := ⟨y0.toNat, (Int.toNat_of_nonneg (bounds_u8 w0).1).symm⟩
  have f0 : x0 < 256 := by have := bounds_u8 w0; omega
  have k1 := h1
  have lt1 : ∀ x ∈ p1, x.block < W.heap.size := by obtain ⟨m, hm⟩ := k1; exact DataW.trod_lt m _ _ _ hm
  obtain ⟨x1, f1, g1, e1⟩ := open_smalls (hval 1 66 v1 rfl rfl) h1
  rw [MakeChecks.laidMetH_plain _ _ _ (by kernel_rfl)] at hLaid
  refine (shows_walk x0 x1 v1 W (tbs_of rfl hLaid hsh) f0 f1 g1).mono fun e W' ⟨he, hb⟩ => ?_
  subst he
  exact ⟨_, rfl, _, _, _, [], _, [], hW', trodAll_mk1 (shut_bool Tryz.underlying4 _), (trodAll_cons_mk (shut_int Tryz.underlying5 w0) (trodAll_cons_mk (Below.trod laidOut (by kernel_rfl) (of_decide_eq_true (by kernel_rfl)) k1 hb lt1) trodAll_mk0)), rfl, hb.frame _, fun h => by cases h⟩

theorem shows_c1 : Tryz.pinned.checked.prog.funcNamed Rows.wrapShowsRow.func = some 5 := by kernel_rfl
theorem shows_c2 : joinedFacts Tryz.pinned.checked.prog 5 Tryz.f5 (OpenSpec.ofChange Rows.wrapShowsSpec).bare Rows.wrapShowsRow = true := by kernel_rfl
theorem shows_c3 : Func.isInstance Tryz.pinned.checked.prog Tryz.f5 Rows.wrapShowsRow.origin Rows.wrapShowsRow.targs := of_decide_eq_true (by kernel_rfl)
theorem shows_c4 : Func.isWrapper Tryz.pinned.checked.prog Tryz.f5 Rows.wrapShowsRow.wrapper Rows.wrapShowsRow.mainSum := by unfold Func.isWrapper; first | (rw [if_pos (by decide +kernel)]; kernel_rfl) | (rw [if_neg (by decide +kernel)]; exact ⟨rfl, rfl⟩)
theorem shows_row : Rows.WrapShowsSaid :=
  OpenClaim.holds_of_cond 5 Tryz.f5 rfl rfl rfl rfl rfl rfl rfl ⟨rfl, rfl, rfl, rfl, rfl⟩ rfl rfl rfl rfl rfl shows_c1 Tryz.func5 shows_c2 shows_c3 shows_c4
    (fun os started H enc _ F => by rw [OpenClaim.pre_eq_preRow]; exact shows_lifted os started H enc F)

theorem shows_bare (f : FuncId) (fn : Func) (hf : Tryz.pinned.checked.prog.funcNamed "casement/casementlaw07.WrapShows" = some f) (hfn : Tryz.pinned.checked.prog.funcs[f]? = some fn) :
    true = Tryz.pinned.checked.prog.looks [] ∧ ∀ (j : Nat) t, fn.params[j]? = some t → Tryz.pinned.checked.prog.wantsStandIn t = false := by
  obtain rfl : f = 5 := Option.some.inj ((show Tryz.prog.funcNamed "casement/casementlaw07.WrapShows" = some 5 by kernel_rfl).symm.trans hf) |>.symm
  obtain rfl : fn = Tryz.f5 := (Option.some.inj (Tryz.func5.symm.trans hfn)).symm
  refine ⟨by kernel_rfl, fun j t ht => ?_⟩
  rw [Tryz.params5] at ht
  have hm : t ∈ [5, 66] := by simpa using Array.mem_of_getElem? ht
  have hall : ([5, 66].all fun u => !Tryz.prog.wantsStandIn u) = true := by kernel_rfl
  exact (show Tryz.prog.wantsStandIn t = false by simpa using List.all_eq_true.1 hall t hm)

theorem shows_card : Rows.WrapShowsCardSaid :=
  Claim7.holds_tied_plain_at .later [] _ _ _ _ shows_row (fun _ h => by cases h) (by kernel_rfl) (fun _ h => by cases h) wrapShows_row_tie rfl ⟨rfl, rfl⟩ (by kernel_rfl) rfl shows_bare (by kernel_rfl)

#print axioms shows_card
end Go.Proofs.YtbnbfgkcndomaabGreatDoor
