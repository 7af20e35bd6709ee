/-
  WrapPads: whatever kind, text, pads, name and look come in, it answers true, and nothing of what was there turns.
-/
import Derived.Test.YtbnbfgkcndomaabGreatDoorCards
import Derived.Test.YtbnbfgkcndomaabGreatDoorTie
import Derived.Test.YtbnbfgkcndomaabGreatDoorUOp
import Derived.Test.YtbnbfgkcndomaabGreatDoorVOp
import Derived.Test.YtbnbfgkcndomaabGreatDoorVPe
import Derived.Test.YtbnbfgkcndomaabGreatDoorUTb
import Derived.ProofKit
import Derived.OpenShut
import Derived.Deep.DeepHandedRow
import Derived.Lay
import Derived.LaidOnce
import Derived.SevenTiedAt
import Derived.LaidLaws
namespace Go.Proofs.YtbnbfgkcndomaabGreatDoor
open Go.ChangeShapes Go.WideShapes Go.ChangeAt Go.RowKit
open Go.ChangeMaps (open_string shut_string)

set_option maxRecDepth 100000 in
theorem pads_reads (os : Os) {H : Type} (enc : TypeId × Value → H) : ∃ places, DataW.whole enc Tryz.prog ((World.laidAll Tryz.prog os Rows.wrapPadsRow.laid).forCall (fun _ _ => 0) ⟨#[], #[.int .u8 0, .string ByteArray.empty, .slice none 0 0, .string ByteArray.empty, .agg #[.int .u8 0, .int .u8 0, .int .u8 0, .int .u8 0, .int .u8 0, .int .u8 0, .int .u8 0, .int .u8 0, .int .u8 0, .bool false, .int .i64 0]], []⟩).memory Tryz.f6.params.toList Rows.wrapPadsSpec.vars false #[Value.int .u8 0, .string ByteArray.empty, .slice none 0 0, .string ByteArray.empty, .agg #[.int .u8 0, .int .u8 0, .int .u8 0, .int .u8 0, .int .u8 0, .int .u8 0, .int .u8 0, .int .u8 0, .int .u8 0, .bool false, .int .i64 0]].toList 8 = some ([.lit (.int .u8 0), .lit (.string []), .nil, .lit (.string []), .agg [.lit (.int .u8 0), .agg [.lit (.int .u8 0), .lit (.int .u8 0), .lit (.int .u8 0), .lit (.int .u8 0)], .agg [.lit (.int .u8 0), .lit (.int .u8 0), .lit (.int .u8 0), .lit (.int .u8 0)], .lit (.bool false), .lit (.int .i64 0)]], [], places) :=
  ⟨[], by kernel_rfl⟩

set_option maxRecDepth 100000 in
theorem pads_lifted (os : Os) (started : os.Started) (H : Type) (enc : TypeId × Value → H) (F : Stop.Interp) :
    ReturnsInHanded {} Tryz.checked os 6 .any ((OpenSpec.ofChange Rows.wrapPadsSpec).preRow enc Tryz.prog Tryz.f6 Rows.wrapPadsRow.domain false Rows.wrapPadsRow.laid) (((OpenSpec.ofChange Rows.wrapPadsSpec).at F).post enc Tryz.prog Tryz.f6 false true false false) := by
  obtain ⟨places, hx⟩ := pads_reads os enc
  have hok : Input.okWideB Tryz.prog ((World.laidAll Tryz.prog os Rows.wrapPadsRow.laid).forCall (fun _ _ => 0) ⟨#[], #[.int .u8 0, .string ByteArray.empty, .slice none 0 0, .string ByteArray.empty, .agg #[.int .u8 0, .int .u8 0, .int .u8 0, .int .u8 0, .int .u8 0, .int .u8 0, .int .u8 0, .int .u8 0, .int .u8 0, .bool false, .int .i64 0]], []⟩) 6 ⟨#[], #[.int .u8 0, .string ByteArray.empty, .slice none 0 0, .string ByteArray.empty, .agg #[.int .u8 0, .int .u8 0, .int .u8 0, .int .u8 0, .int .u8 0, .int .u8 0, .int .u8 0, .int .u8 0, .int .u8 0, .bool false, .int .i64 0]], []⟩ = true := by kernel_rfl
  have hL : laidMetH Tryz.prog Rows.wrapPadsRow.laid ((World.laidAll Tryz.prog os Rows.wrapPadsRow.laid).forCall (fun _ _ => 0) ⟨#[], #[.int .u8 0, .string ByteArray.empty, .slice none 0 0, .string ByteArray.empty, .agg #[.int .u8 0, .int .u8 0, .int .u8 0, .int .u8 0, .int .u8 0, .int .u8 0, .int .u8 0, .int .u8 0, .int .u8 0, .bool false, .int .i64 0]], []⟩).memory := by
    rw [MakeChecks.laidMetH_plain _ _ _ (by kernel_rfl)]
    exact laidMet_laidAll _ (by kernel_rfl) (by kernel_rfl)
  refine returnsInHanded_of_row (C := Tryz.checked) (s := OpenSpec.ofChange Rows.wrapPadsSpec) own started (by kernel_rfl) Tryz.func6
    ⟨World.laidAll Tryz.prog os Rows.wrapPadsRow.laid, fun _ _ => 0, ⟨#[], #[.int .u8 0, .string ByteArray.empty, .slice none 0 0, .string ByteArray.empty, .agg #[.int .u8 0, .int .u8 0, .int .u8 0, .int .u8 0, .int .u8 0, .int .u8 0, .int .u8 0, .int .u8 0, .int .u8 0, .bool false, .int .i64 0]], []⟩, World.laidAll_os _ _ _, World.shaped_of_ZipB (by kernel_rfl) (by kernel_rfl), (Input.okWide_of_okWideB (base := 0) hok).1, (Input.okWide_of_okWideB hok).2,
      OpenSpec.preRow_of_cond 8 hx (by kernel_rfl) (fun k hk => by cases hk) (by kernel_rfl) hL, by
        simp only [Assume.holds]
        exact ⟨by simp, by simp, fun _ => Modest.zero, by simp, by simp⟩⟩ ?_
  intro W base args ds gs before hval0 hW _ hcond _ hLaid hsh _
  have hval : ∀ (j : Nat) t v, Tryz.f6.params[j]? = some t → args[j]? = some v → Value.okWide Tryz.prog W .any base t v := hval0
  have hW' := hW
  obtain ⟨p, q, hA0, hV, rfl, _, _⟩ := hW
  have hA : DataW.TrodAll enc Tryz.prog W 0 (fun _ => true) true Tryz.f6.params.toList args.toList ds p := hA0
  rw [Tryz.params6] at hA hval
  obtain ⟨v0, v1, v2, v3, v4, d0, d1, d2, d3, d4, p0, p1, p2, p3, p4, rfl, rfl, rfl, h0, h1, h2, h3, h4⟩ := trodAll_five hA
  obtain ⟨rfl, rfl⟩ := trodVars_none hV
  obtain ⟨y0, rfl, rfl, rfl, w0⟩ := open_int Tryz.underlying5 (hval 0 5 v0 rfl rfl) h0
  obtain ⟨x0, rfl⟩ : ∃ n : Nat, y0 = (n : Int) := ⟨y0.toNat, (Int.toNat_of_nonneg (bounds_u8 w0).1).symm⟩
  have f0 : x0 < 256 := by have := bounds_u8 w0; omega
  obtain ⟨x1, rfl, rfl, rfl, w1⟩ := open_string Tryz.underlying9 (hval 1 9 v1 rfl rfl) h1
  have k2 := h2
  have lt2 : ∀ x ∈ p2, x.block < W.heap.size := by obtain ⟨m, hm⟩ := k2; exact DataW.trod_lt m _ _ _ hm
  obtain ⟨x2, f2, g2, e2⟩ := open_bys (hval 2 79 v2 rfl rfl) h2
  obtain ⟨x3, rfl, rfl, rfl, w3⟩ := open_string Tryz.underlying9 (hval 3 9 v3 rfl rfl) h3
  have k4 := h4
  have lt4 : ∀ x ∈ p4, x.block < W.heap.size := by obtain ⟨m, hm⟩ := k4; exact DataW.trod_lt m _ _ _ hm
  obtain ⟨x4, rfl, f4⟩ := open_look (hval 4 36 v4 rfl rfl) h4
  rw [MakeChecks.laidMetH_plain _ _ _ (by kernel_rfl)] at hLaid
  refine (pads_walk x0 x1 x3 x2 v2 x4 W (tbs_of rfl hLaid hsh) f0 f2 g2 w3).mono fun e W' ⟨he, hb⟩ => ?_
  subst he
  exact ⟨_, rfl, _, _, _, [], _, [], hW', trodAll_mk1 (shut_bool Tryz.underlying4 _), (trodAll_cons_mk (shut_int Tryz.underlying5 w0) (trodAll_cons_mk (shut_string Tryz.underlying9 w1) (trodAll_cons_mk (Below.trod laidOut (by kernel_rfl) (of_decide_eq_true (by kernel_rfl)) k2 hb lt2) (trodAll_cons_mk (shut_string Tryz.underlying9 w3) (trodAll_cons_mk (Below.trod laidOut (by kernel_rfl) (of_decide_eq_true (by kernel_rfl)) k4 hb lt4) trodAll_mk0))))), rfl, hb.frame _, fun h => by cases h⟩

theorem pads_c1 : Tryz.pinned.checked.prog.funcNamed Rows.wrapPadsRow.func = some 6 := by kernel_rfl
theorem pads_c2 : joinedFacts Tryz.pinned.checked.prog 6 Tryz.f6 (OpenSpec.ofChange Rows.wrapPadsSpec).bare Rows.wrapPadsRow = true := by kernel_rfl
theorem pads_c3 : Func.isInstance Tryz.pinned.checked.prog Tryz.f6 Rows.wrapPadsRow.origin Rows.wrapPadsRow.targs := of_decide_eq_true (by kernel_rfl)
theorem pads_c4 : Func.isWrapper Tryz.pinned.checked.prog Tryz.f6 Rows.wrapPadsRow.wrapper Rows.wrapPadsRow.mainSum := by unfold Func.isWrapper; first | (rw [if_pos (by decide +kernel)]; kernel_rfl) | (rw [if_neg (by decide +kernel)]; exact ⟨rfl, rfl⟩)
theorem pads_row : Rows.WrapPadsSaid :=
  OpenClaim.holds_of_cond 6 Tryz.f6 rfl rfl rfl rfl rfl rfl rfl ⟨rfl, rfl, rfl, rfl, rfl⟩ rfl rfl rfl rfl rfl pads_c1 Tryz.func6 pads_c2 pads_c3 pads_c4
    (fun os started H enc _ F => by rw [OpenClaim.pre_eq_preRow]; exact pads_lifted os started H enc F)

theorem pads_bare (f : FuncId) (fn : Func) (hf : Tryz.pinned.checked.prog.funcNamed "casement/casementlaw07.WrapPads" = some f) (hfn : Tryz.pinned.checked.prog.funcs[f]? = some fn) :
    true = Tryz.pinned.checked.prog.looks [] ∧ ∀ (j : Nat) t, fn.params[j]? = some t → Tryz.pinned.checked.prog.wantsStandIn t = false := by
  obtain rfl : f = 6 := Option.some.inj ((show Tryz.prog.funcNamed "casement/casementlaw07.WrapPads" = some 6 by kernel_rfl).symm.trans hf) |>.symm
  obtain rfl : fn = Tryz.f6 := (Option.some.inj (Tryz.func6.symm.trans hfn)).symm
  refine ⟨by kernel_rfl, fun j t ht => ?_⟩
  rw [Tryz.params6] at ht
  have hm : t ∈ [5, 9, 79, 9, 36] := by simpa using Array.mem_of_getElem? ht
  have hall : ([5, 9, 79, 9, 36].all fun u => !Tryz.prog.wantsStandIn u) = true := by kernel_rfl
  exact (show Tryz.prog.wantsStandIn t = false by simpa using List.all_eq_true.1 hall t hm)

theorem pads_card : Rows.WrapPadsCardSaid :=
  Claim7.holds_tied_plain_at .later [] _ _ _ _ pads_row (fun _ h => by cases h) (by kernel_rfl) (fun _ h => by cases h) wrapPads_row_tie rfl ⟨rfl, rfl⟩ (by kernel_rfl) rfl pads_bare (by kernel_rfl)

#print axioms pads_card
end Go.Proofs.YtbnbfgkcndomaabGreatDoor
