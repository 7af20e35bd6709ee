/-
  WrapChecks: whatever wrapper, abilities and list of wrappers come in, it answers true, and nothing of what was there turns.
-/
import Derived.Test.YtbnbfgkcndomaabDoorCards
import Derived.Test.YtbnbfgkcndomaabDoorTie
import Derived.Test.YtbnbfgkcndomaabDoorVOp
import Derived.Test.YtbnbfgkcndomaabDoorVC
import Derived.Test.YtbnbfgkcndomaabDoorVTbd
import Derived.ProofKit
import Derived.OpenShut
import Derived.Deep.DeepHandedRow
import Derived.Lay
import Derived.LaidOnce
import Derived.SevenTiedAt
import Derived.LaidLaws
namespace Go.Proofs.YtbnbfgkcndomaabDoor
open Go.ChangeShapes Go.WideShapes Go.ChangeAt Go.RowKit
open Go.ChangeMaps (open_string shut_string)

set_option maxRecDepth 100000 in
theorem checks_reads (os : Os) {H : Type} (enc : TypeId × Value → H) : ∃ places, DataW.whole enc Tryd.prog ((World.laidAll Tryd.prog os Rows.wrapChecksRow.laid).forCall (fun _ _ => 0) ⟨#[], #[.agg #[.int .u8 0, .int .u16 0, .int .i64 0, .string ByteArray.empty], .int .u16 0, .slice none 0 0], []⟩).memory Tryd.f3.params.toList Rows.wrapChecksSpec.vars false #[Value.agg #[.int .u8 0, .int .u16 0, .int .i64 0, .string ByteArray.empty], .int .u16 0, .slice none 0 0].toList 8 = some ([.agg [.lit (.int .u8 0), .lit (.int .u16 0), .lit (.int .i64 0), .lit (.string [])], .lit (.int .u16 0), .nil], [], places) :=
  ⟨[], by kernel_rfl⟩

set_option maxRecDepth 100000 in
theorem checks_lifted (os : Os) (started : os.Started) (H : Type) (enc : TypeId × Value → H) (F : Stop.Interp) :
    ReturnsInHanded {} Tryd.checked os 3 .any ((OpenSpec.ofChange Rows.wrapChecksSpec).preRow enc Tryd.prog Tryd.f3 Rows.wrapChecksRow.domain false Rows.wrapChecksRow.laid) (((OpenSpec.ofChange Rows.wrapChecksSpec).at F).post enc Tryd.prog Tryd.f3 false true false false) := by
  obtain ⟨places, hx⟩ := checks_reads os enc
  have hok : Input.okWideB Tryd.prog ((World.laidAll Tryd.prog os Rows.wrapChecksRow.laid).forCall (fun _ _ => 0) ⟨#[], #[.agg #[.int .u8 0, .int .u16 0, .int .i64 0, .string ByteArray.empty], .int .u16 0, .slice none 0 0], []⟩) 3 ⟨#[], #[.agg #[.int .u8 0, .int .u16 0, .int .i64 0, .string ByteArray.empty], .int .u16 0, .slice none 0 0], []⟩ = true := by kernel_rfl
  have hL : laidMetH Tryd.prog Rows.wrapChecksRow.laid ((World.laidAll Tryd.prog os Rows.wrapChecksRow.laid).forCall (fun _ _ => 0) ⟨#[], #[.agg #[.int .u8 0, .int .u16 0, .int .i64 0, .string ByteArray.empty], .int .u16 0, .slice none 0 0], []⟩).memory := by
    rw [MakeChecks.laidMetH_plain _ _ _ (by kernel_rfl)]
    exact laidMet_laidAll _ (by kernel_rfl) (by kernel_rfl)
  refine returnsInHanded_of_row (C := Tryd.checked) (s := OpenSpec.ofChange Rows.wrapChecksSpec) own_w started (by kernel_rfl) Tryd.func3
    ⟨World.laidAll Tryd.prog os Rows.wrapChecksRow.laid, fun _ _ => 0, ⟨#[], #[.agg #[.int .u8 0, .int .u16 0, .int .i64 0, .string ByteArray.empty], .int .u16 0, .slice none 0 0], []⟩, World.laidAll_os _ _ _, World.shaped_of_ZipB (by kernel_rfl) (by kernel_rfl), (Input.okWide_of_okWideB (base := 0) hok).1, (Input.okWide_of_okWideB hok).2,
      OpenSpec.preRow_of_cond 8 hx (by kernel_rfl) (fun k hk => by cases hk) (by kernel_rfl) hL, by
        simp only [Assume.holds]
        exact ⟨by simp, by simp, fun _ => Modest.zero, by simp, by simp⟩⟩ ?_
  intro W base args ds gs before hval0 hW _ hcond _ hLaid hsh _
  have hval : ∀ (j : Nat) t v, Tryd.f3.params[j]? = some t → args[j]? = some v → Value.okWide Tryd.prog W .any base t v := hval0
  have hW' := hW
  obtain ⟨p, q, hA0, hV, rfl, _, _⟩ := hW
  have hA : DataW.TrodAll enc Tryd.prog W 0 (fun _ => true) true Tryd.f3.params.toList args.toList ds p := hA0
  rw [Tryd.params3] at hA hval
  obtain ⟨v0, v1, v2, d0, d1, d2, p0, p1, p2, rfl, rfl, rfl, h0, h1, h2⟩ := trodAll_three hA
  obtain ⟨rfl, rfl⟩ := trodVars_none hV
  have k0 := h0
  have lt0 : ∀ x ∈ p0, x.block < W.heap.size := by obtain ⟨m, hm⟩ := k0; exact DataW.trod_lt m _ _ _ hm
  obtain ⟨x0, rfl, f0⟩ := open_wrap (hval 0 24 v0 rfl rfl) h0
  obtain ⟨y1, rfl, rfl, rfl, w1⟩ := open_int Tryd.underlying22 (hval 1 22 v1 rfl rfl) h1
  obtain ⟨x1, rfl⟩ : ∃ n : Nat, y1 = (n : Int) := ⟨y1.toNat, (Int.toNat_of_nonneg (bounds_u16 w1).1).symm⟩
  have f1 : x1 < 65536 := by have := bounds_u16 w1; omega
  have k2 := h2
  have lt2 : ∀ x ∈ p2, x.block < W.heap.size := by obtain ⟨m, hm⟩ := k2; exact DataW.trod_lt m _ _ _ hm
  obtain ⟨x2, f2, g2, e2⟩ := open_wraps (hval 2 25 v2 rfl rfl) h2
  rw [MakeChecks.laidMetH_plain _ _ _ (by kernel_rfl)] at hLaid
  refine (checks_walk x0 x1 x2 v2 W (tab_of rfl hLaid) f0 f1 f2 g2).mono fun e W' ⟨he, hb⟩ => ?_
  subst he
  exact ⟨_, rfl, _, _, _, [], _, [], hW', trodAll_mk1 (shut_bool Tryd.underlying4 _), (trodAll_cons_mk (Below.trod laid_w (by kernel_rfl) (of_decide_eq_true (by kernel_rfl)) k0 hb lt0) (trodAll_cons_mk (shut_int Tryd.underlying22 w1) (trodAll_cons_mk (Below.trod laid_w (by kernel_rfl) (of_decide_eq_true (by kernel_rfl)) k2 hb lt2) trodAll_mk0))), rfl, hb.frame _, fun h => by cases h⟩

theorem checks_row : Rows.WrapChecksSaid :=
  OpenClaim.holds_of_cond 3 Tryd.f3 rfl rfl rfl rfl rfl rfl rfl ⟨rfl, rfl, rfl, rfl, rfl⟩ rfl rfl rfl rfl rfl (by kernel_rfl) Tryd.func3 (by kernel_rfl)
    (of_decide_eq_true (by kernel_rfl)) (by unfold Func.isWrapper; first | (rw [if_pos (by decide +kernel)]; kernel_rfl) | (rw [if_neg (by decide +kernel)]; exact ⟨rfl, rfl⟩))
    (fun os started H enc _ F => by rw [OpenClaim.pre_eq_preRow]; exact checks_lifted os started H enc F)

theorem checks_bare (f : FuncId) (fn : Func) (hf : Tryd.pinned.checked.prog.funcNamed "casement/casementlaw07.WrapChecks" = some f) (hfn : Tryd.pinned.checked.prog.funcs[f]? = some fn) :
    false = Tryd.pinned.checked.prog.looks [] ∧ ∀ (j : Nat) t, fn.params[j]? = some t → Tryd.pinned.checked.prog.wantsStandIn t = false := by
  obtain rfl : f = 3 := Option.some.inj ((show Tryd.prog.funcNamed "casement/casementlaw07.WrapChecks" = some 3 by kernel_rfl).symm.trans hf) |>.symm
  obtain rfl : fn = Tryd.f3 := (Option.some.inj (Tryd.func3.symm.trans hfn)).symm
  refine ⟨by kernel_rfl, fun j t ht => ?_⟩
  rw [Tryd.params3] at ht
  have hm : t ∈ [24, 22, 25] := by simpa using Array.mem_of_getElem? ht
  have hall : ([24, 22, 25].all fun u => !Tryd.prog.wantsStandIn u) = true := by kernel_rfl
  exact (show Tryd.prog.wantsStandIn t = false by simpa using List.all_eq_true.1 hall t hm)

theorem checks_card : Rows.WrapChecksCardSaid :=
  Claim7.holds_tied_plain_at .later [] _ _ _ _ checks_row (fun _ h => by cases h) (by kernel_rfl) (fun _ h => by cases h) wrapChecks_row_tie rfl ⟨rfl, rfl⟩ (by kernel_rfl) rfl checks_bare (by kernel_rfl)

#print axioms checks_card
end Go.Proofs.YtbnbfgkcndomaabDoor
