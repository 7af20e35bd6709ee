/-
  Contracts of package colour: mixed, on black, how light, whether it can be read.
-/
import Derived.Test.YtbppadheejdhcaaDoorCW1
namespace Go.Proofs.YtbppadheejdhcaaDoor
open Go.RowKit
attribute [local go_sem] ite_max ite_min

set_option maxHeartbeats 1000000 in
theorem mix_any (a b : Co) (p : Int) (w : World) (ha : a.ok) (hb : b.ok) (hp : By p) :
    Calls Tryd.prog 9 #[(Value.agg #[.int .u8 a.r, .int .u8 a.g, .int .u8 a.b, .int .u8 a.a]), (Value.agg #[.int .u8 b.r, .int .u8 b.g, .int .u8 b.b, .int .u8 b.a]), .int .u8 p] w fun e w' => e = .returned (Value.agg #[.int .u8 (mixC a b p).r, .int .u8 (mixC a b p).g, .int .u8 (mixC a b p).b, .int .u8 (mixC a b p).a]) ∧ Below w.heap.size w w' := by
  obtain ⟨p1, p2⟩ := hp
  have hS : Hid (∀ x y w, By x → By y → Calls Tryd.prog 23 #[.int .u8 x, .int .u8 y, .int .i64 (255 - p), .int .i64 p] w fun e w' => e = .returned (.int .u8 (shr x y (255 - p) p)) ∧ w' = w) :=
    fun x y w hx hy => shared_any x y _ _ w hx hy (by omega) (by omega) (by omega) (by omega) (by omega)
  have hA : Hid (a.ok ∧ b.ok) := ⟨ha, hb⟩
  go_enter Tryd.func9, Tryd.ntmps9
  go_wp2_with fail
  obtain ⟨A, B, C, F, L⟩ := boxes_ccc w a b 25 25 25
  clear ha hb
  generalize hW : ((w.alloc (.cells #[.int .u8 a.r, .int .u8 a.g, .int .u8 a.b, .int .u8 a.a] 25)).alloc (.cells #[.int .u8 b.r, .int .u8 b.g, .int .u8 b.b, .int .u8 b.a] 25)).alloc (.cells #[.int .u8 0, .int .u8 0, .int .u8 0, .int .u8 0] 25) = W at *
  have HL : Hid (AtC W w.heap.size a ∧ AtC W (w.heap.size + 1) b ∧ AtC W (w.heap.size + 1 + 1) ⟨0, 0, 0, 0⟩ ∧ Fr W (w.heap.size + 1 + 1) ∧ Below w.heap.size w W) := ⟨A, B, C, F, L⟩
  clear A B C F L hW
  refine wp_region_lit 29 0 1 (fun _ => .cells #[] 0) [] (by kernel_rfl) (by kernel_rfl) rfl (fun k hk => absurd hk (by omega)) rfl (fun i h1 h2 => absurd h2 (by omega)) ?_
  apply Exists.intro
  refine ⟨fun bs ne => ?_, ?_⟩
  · obtain ⟨HA, HB, _⟩ := HL.out
    have d0 := fun t : Gb W bs => (HA.below t.below).1
    have d1 := fun t : Gb W bs => (HA.below t.below).2.1
    have d2 := fun t : Gb W bs => (HA.below t.below).2.2.1
    have d3 := fun t : Gb W bs => (HA.below t.below).2.2.2
    have e0 := fun t : Gb W bs => (HB.below t.below).1
    have e1 := fun t : Gb W bs => (HB.below t.below).2.1
    have e2 := fun t : Gb W bs => (HB.below t.below).2.2.1
    have e3 := fun t : Gb W bs => (HB.below t.below).2.2.2
    clear HA HB
    simp only [List.take_succ_cons, List.take_zero]
    repeat (go_big_quiet_step (first
      | (go_at_call_of 23 (Value.int .u8 a.r); exact gb_same (hS.out _ _ _ hA.out.1.1 hA.out.2.1))
      | (go_at_call_of 23 (Value.int .u8 a.g); exact gb_same (hS.out _ _ _ hA.out.1.2.1 hA.out.2.2.1))
      | (go_at_call_of 23 (Value.int .u8 a.b); exact gb_same (hS.out _ _ _ hA.out.1.2.2.1 hA.out.2.2.2.1))
      | (go_at_call_of 23 (Value.int .u8 a.a); exact gb_same (hS.out _ _ _ hA.out.1.2.2.2 hA.out.2.2.2.2))))
    exact wpQuiet_nil rfl
  · intro bl wr hb _ _
    obtain ⟨HA, HB, HC, HF, HD⟩ := HL.out
    replace HC := HC.below hb
    replace HF := (HF.below hb).2
    replace HD := HD.trans (hb.mono HD.size)
    obtain ⟨c0, c1, c2, c3⟩ := HC
    simp only [layL]
    refine wpAny_one 29 (by kernel_rfl) rfl ?_
    intro K hK
    go_simp
    refine hK _ _ ?_
    clear hK K
    refine wpAny_done (by kernel_rfl) ?_ _
    go_wp2
    exact bodyPost_ret (v := .agg #[.int .u8 _, .int .u8 _, .int .u8 _, .int .u8 _]) (by simp [results, Tryd.results9, go_sem, c0, c1, c2, c3, mixC]) rfl ⟨rfl, set4_below HD (by omega) _ _ _ _⟩

set_option maxHeartbeats 1000000 in
theorem onBlack_any (c : Co) (w : World) (hc : c.ok) :
    Calls Tryd.prog 25 #[(Value.agg #[.int .u8 c.r, .int .u8 c.g, .int .u8 c.b, .int .u8 c.a])] w fun e w' => e = .returned (Value.agg #[.int .u8 (onB c).r, .int .u8 (onB c).g, .int .u8 (onB c).b, .int .u8 (onB c).a]) ∧ Below w.heap.size w w' := by
  go_enter Tryd.func25, Tryd.ntmps25
  go_wp2_with fail
  refine (over_any c blackC _ hc black_ok).mono ?_
  rintro e w1 ⟨rfl, hb⟩
  have C := (AtC.new' (w.alloc _) (w.heap.size + 1) 0 0 0 0 25 (by simp)).below hb
  have F := ((fr1 w _ _ _).below hb).2
  have L := (((Below.refl w.heap.size w).alloc (Nat.le_refl _) _).alloc (by simp) _).trans (hb.mono (by simp; omega))
  clear hb
  obtain ⟨c0, c1, c2, c3⟩ := C
  go_wp2
  exact bodyPost_ret (v := .agg #[.int .u8 _, .int .u8 _, .int .u8 _, .int .u8 _]) (by simp [results, Tryd.results25, go_sem, c0, c1, c2, c3, onB]) rfl ⟨rfl, set4_below L (by omega) _ _ _ _⟩

set_option maxHeartbeats 1000000 in
theorem light_any (c : Co) (w : World) (hc : c.ok) :
    Calls Tryd.prog 13 #[(Value.agg #[.int .u8 c.r, .int .u8 c.g, .int .u8 c.b, .int .u8 c.a])] w fun e w' => e = .returned (.int .i64 (lightI c)) ∧ Below w.heap.size w w' := by
  obtain ⟨⟨h1, h2⟩, ⟨h3, h4⟩, ⟨h5, h6⟩, ⟨h7, h8⟩⟩ := onB_ok hc
  go_enter Tryd.func13, Tryd.ntmps13
  go_wp2_with fail
  refine (onBlack_any c _ hc).mono ?_
  rintro e w1 ⟨rfl, hb⟩
  have C := (AtC.new w c.r c.g c.b c.a 25).below hb
  have F := ((Fr.new w _ _).below hb).2
  have L := ((Below.refl w.heap.size w).alloc (Nat.le_refl _) _).trans (hb.mono (by simp))
  clear hb
  obtain ⟨c0, c1, c2, c3⟩ := C
  go_wp2
  go_ret
  exact ⟨rfl, set4_below L (by omega) _ _ _ _⟩

set_option maxHeartbeats 1000000 in
theorem clear_any (a b : Co) (w : World) (ha : a.ok) (hb : b.ok) :
    Calls Tryd.prog 14 #[(Value.agg #[.int .u8 a.r, .int .u8 a.g, .int .u8 a.b, .int .u8 a.a]), (Value.agg #[.int .u8 b.r, .int .u8 b.g, .int .u8 b.b, .int .u8 b.a])] w fun e w' => e = .returned (.bool (clearB a b)) ∧ Below w.heap.size w w' := by
  obtain ⟨l1, l2⟩ := light_bd (onB_ok hb)
  obtain ⟨m1, m2⟩ := light_bd (over_ok ha (onB_ok hb))
  go_enter Tryd.func14, Tryd.ntmps14
  go_wp2_with fail
  refine (onBlack_any b _ hb).mono ?_
  rintro e w1 ⟨rfl, hb1⟩
  have A := ((AtC.new w a.r a.g a.b a.a 25).alloc _).below hb1
  have L := (((Below.refl w.heap.size w).alloc (Nat.le_refl _) _).alloc (by simp) _).trans (hb1.mono (by simp; omega))
  clear hb1
  go_wp2_with fail
  have B := AtC.new w1 (onB b).r (onB b).g (onB b).b (onB b).a 25
  replace A := A.alloc (.cells #[.int .u8 (onB b).r, .int .u8 (onB b).g, .int .u8 (onB b).b, .int .u8 (onB b).a] 25)
  replace L := L.alloc L.size (.cells #[.int .u8 (onB b).r, .int .u8 (onB b).g, .int .u8 (onB b).b, .int .u8 (onB b).a] 25)
  have ne := gw_ne L
  have a0 := fun t => (gwC A t).1
  have a1 := fun t => (gwC A t).2.1
  have a2 := fun t => (gwC A t).2.2.1
  have a3 := fun t => (gwC A t).2.2.2
  have b0 := fun t => (gwC B t).1
  have b1 := fun t => (gwC B t).2.1
  have b2 := fun t => (gwC B t).2.2.1
  have b3 := fun t => (gwC B t).2.2.2
  have HL : Hid (Below w.heap.size w (w1.alloc (.cells #[.int .u8 (onB b).r, .int .u8 (onB b).g, .int .u8 (onB b).b, .int .u8 (onB b).a] 25))) := L
  have hl1 : Hid (∀ w, Calls Tryd.prog 13 #[(Value.agg #[.int .u8 (onB b).r, .int .u8 (onB b).g, .int .u8 (onB b).b, .int .u8 (onB b).a])] w fun e w' => e = .returned (.int .i64 (lightI (onB b))) ∧ Below w.heap.size w w') := fun w => light_any _ w (onB_ok hb)
  have hl2 : Hid (∀ w, Calls Tryd.prog 13 #[(Value.agg #[.int .u8 (overC a (onB b)).r, .int .u8 (overC a (onB b)).g, .int .u8 (overC a (onB b)).b, .int .u8 (overC a (onB b)).a])] w fun e w' => e = .returned (.int .i64 (lightI (overC a (onB b)))) ∧ Below w.heap.size w w') := fun w => light_any _ w (over_ok ha (onB_ok hb))
  have hl3 : Hid (∀ w, Calls Tryd.prog 8 #[(Value.agg #[.int .u8 a.r, .int .u8 a.g, .int .u8 a.b, .int .u8 a.a]), (Value.agg #[.int .u8 (onB b).r, .int .u8 (onB b).g, .int .u8 (onB b).b, .int .u8 (onB b).a])] w fun e w' => e = .returned (Value.agg #[.int .u8 (overC a (onB b)).r, .int .u8 (overC a (onB b)).g, .int .u8 (overC a (onB b)).b, .int .u8 (overC a (onB b)).a]) ∧ Below w.heap.size w w') := fun w => over_any _ _ w ha (onB_ok hb)
  clear A B L
  refine wp_region_gw (by kernel_rfl) (by kernel_rfl) ?_
  repeat (go_big_quiet_step (first
    | (go_at_call 8; exact gw_call (hl3.out _))
    | (go_at_call_of 13 (Value.agg #[.int .u8 (onB b).r, .int .u8 (onB b).g, .int .u8 (onB b).b, .int .u8 (onB b).a]); exact gw_call (hl1.out _))
    | (go_at_call_of 13 (Value.agg #[.int .u8 (overC a (onB b)).r, .int .u8 (overC a (onB b)).g, .int .u8 (overC a (onB b)).b, .int .u8 (overC a (onB b)).a]); exact gw_call (hl2.out _))))
  refine wpQuiet_nil ?_
  rintro _ ⟨t, rfl⟩
  go_wp2
  go_ret
  exact ⟨ret_bool (by simp [clearB, clearL]), HL.out.trans (t.below.mono HL.out.size)⟩

end Go.Proofs.YtbppadheejdhcaaDoor
