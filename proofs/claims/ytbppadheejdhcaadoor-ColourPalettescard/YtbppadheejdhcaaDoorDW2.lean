/-
  Contracts of package colour: the nearest colour of a palette.
-/
import Derived.Test.YtbppadheejdhcaaDoorDW1
namespace Go.Proofs.YtbppadheejdhcaaDoor
open Go.RowKit

/-- How far it is, so far. -/
def lst (d : Nat → Int) (k : Nat) : Int := if k = 0 then 9223372036854775807 else d (nst d k)

set_option maxHeartbeats 2000000 in
theorem nearest_any (c : Co) (count : Nat) (many : Bool) (w : World) (hc : c.ok) (hP : Pal w) (h0 : 0 < count) (h256 : count ≤ 256) :
    Calls Tryd.prog 24 #[(Value.agg #[.int .u8 c.r, .int .u8 c.g, .int .u8 c.b, .int .u8 c.a]), .int .i64 count, .bool many] w fun e w' => e = .returned (.int .u8 (nearN c count many : Nat)) ∧ Below w.heap.size w w' := by
  obtain ⟨d, hd⟩ : ∃ d : Nat → Int, d = fun j => farI (onB c) (bk j many) := ⟨_, rfl⟩
  have hN : nearN c count many = nst d count := by rw [hd]; rfl
  rw [hN]
  clear hN
  have hlt := (nst_spec d count h0).1
  have HD : Hid (∀ k, k < 256 → 0 ≤ d k ∧ d k ≤ 585225) := fun k hk => by rw [hd]; exact far_bd (onB_ok hc) (bk_ok hk many).1
  have HF : Hid (∀ k w, k < 256 → Calls Tryd.prog 32 #[(Value.agg #[.int .u8 (onB c).r, .int .u8 (onB c).g, .int .u8 (onB c).b, .int .u8 (onB c).a]), (Value.agg #[.int .u8 (bk k many).r, .int .u8 (bk k many).g, .int .u8 (bk k many).b, .int .u8 (bk k many).a])] w fun e w' => e = .returned (.int .i64 (d k)) ∧ Below w.heap.size w w') := fun k w hk => by rw [hd]; exact far_any _ _ w (onB_ok hc) (bk_ok hk many).1
  have HB : Hid (∀ (k : Nat) w, k < 256 → Pal w → Calls Tryd.prog 10 #[.int .u8 k, .bool many] w fun e w' => e = .returned (Value.agg #[.int .u8 (bk k many).r, .int .u8 (bk k many).g, .int .u8 (bk k many).b, .int .u8 (bk k many).a]) ∧ Below w.heap.size w w') := fun k w hk hP => back_any k many w hP hk
  have HO : Hid (∀ w, Calls Tryd.prog 25 #[(Value.agg #[.int .u8 c.r, .int .u8 c.g, .int .u8 c.b, .int .u8 c.a])] w fun e w' => e = .returned (Value.agg #[.int .u8 (onB c).r, .int .u8 (onB c).g, .int .u8 (onB c).b, .int .u8 (onB c).a]) ∧ Below w.heap.size w w') := fun w => onBlack_any c w hc
  have HNS : Hid (nst d count < count) := hlt
  clear hd hc hlt
  generalize onB c = f at *
  go_enter Tryd.func24, Tryd.ntmps24
  go_wp2_with fail
  refine (HO.out _).mono ?_
  rintro e w1 ⟨rfl, hb⟩
  have C := (AtC.new w c.r c.g c.b c.a 25).below hb
  have F := ((Fr.new w _ _).below hb).2
  have L := ((Below.refl w.heap.size w).alloc (Nat.le_refl _) _).trans (hb.mono (by simp))
  clear hb
  have C' := C.put f.r f.g f.b f.a
  have L' := set4_below L (Nat.le_refl _) (.int .u8 f.r) (.int .u8 f.g) (.int .u8 f.b) (.int .u8 f.a)
  have HW : Hid (AtC ((((w1.setCell ⟨w.heap.size, 0, none⟩ (.int .u8 f.r)).setCell ⟨w.heap.size, 1, none⟩ (.int .u8 f.g)).setCell ⟨w.heap.size, 2, none⟩ (.int .u8 f.b)).setCell ⟨w.heap.size, 3, none⟩ (.int .u8 f.a)) w.heap.size f ∧ Below w.heap.size w ((((w1.setCell ⟨w.heap.size, 0, none⟩ (.int .u8 f.r)).setCell ⟨w.heap.size, 1, none⟩ (.int .u8 f.g)).setCell ⟨w.heap.size, 2, none⟩ (.int .u8 f.b)).setCell ⟨w.heap.size, 3, none⟩ (.int .u8 f.a))) := ⟨C', L'⟩
  obtain ⟨z0, z1, z2, z3⟩ := C
  clear L L' C'
  go_wp2
  go_loopw [7, 8, 14] (fun s7 s8 s14 wr => ∃ k : Nat, k ≤ count ∧ s14 = .int .i64 k ∧ s7 = .int .i64 (nst d k : Nat) ∧ s8 = .int .i64 (lst d k) ∧ AtC wr w.heap.size f ∧ Below w.heap.size w wr) (fun _ _ i _ => count - (intOf i).toNat)
  case atStart => exact ⟨0, Nat.zero_le _, rfl, rfl, rfl, HW.out.1, HW.out.2⟩
  case round =>
    obtain ⟨k, hk, rfl, rfl, rfl, A, L⟩ := hrel
    clear z0 z1 z2 z3 HW F
    by_cases hlt : k < count
    · have hP' : Pal wr := hP.below L
      have HQ : Hid (∀ t : Gw wr, Pal t.wd) := fun t => hP'.below t.below
      have ne := gw_ne L
      have a0 := fun t => (gwC A t).1
      have a1 := fun t => (gwC A t).2.1
      have a2 := fun t => (gwC A t).2.2.1
      have a3 := fun t => (gwC A t).2.2.2
      have HA : Hid (AtC wr w.heap.size f ∧ Below w.heap.size w wr) := ⟨A, L⟩
      have hk256 : k < 256 := by omega
      obtain ⟨n1, n2⟩ := HD.out k hk256
      have hl : 0 ≤ lst d k := by
        unfold lst
        split
        · decide
        · exact (HD.out _ (by have := (nst_spec d k (by omega)).1; omega)).1
      have HE : Hid (nst d (k + 1) = (if d k < lst d k then k else nst d k) ∧ lst d (k + 1) = (if d k < lst d k then d k else lst d k)) := by
        unfold Hid
        by_cases hz : k = 0
        · subst hz
          have : d 0 < lst d 0 := by show d 0 < 9223372036854775807; omega
          rw [if_pos this, if_pos this]
          exact ⟨rfl, rfl⟩
        · have e1 : lst d k = d (nst d k) := by unfold lst; rw [if_neg hz]
          rw [e1]
          have e2 : nst d (k + 1) = if d k < d (nst d k) then k else nst d k := by
            conv => lhs; unfold nst
            rw [if_neg hz]
          refine ⟨e2, ?_⟩
          show d (nst d (k + 1)) = _
          rw [e2]
          split <;> rfl
      generalize hx : lst d k = x at *
      generalize hy : d k = y at *
      clear A L hP' hx
      by_cases hc : y < x
      all_goals
        go_wp2_with fail
        refine wp_region_gw (by kernel_rfl) (by kernel_rfl) ?_
        repeat (go_big_quiet_step (first
          | (go_at_call 10; exact gw_call (HB.out _ _ hk256 (HQ.out _)))
          | (go_at_call 32; exact gw_call (HF.out k _ hk256))))
        refine wpQuiet_nil ?_
        rintro _ ⟨t, rfl⟩
        clear a0 a1 a2 a3
        go_wp2
        go_roundw
        case rel =>
          obtain ⟨A, L⟩ := HA.out
          obtain ⟨e1, e2⟩ := HE.out
          refine ⟨k + 1, by omega, by go_num, ?_, ?_, A.below t.below, L.trans (t.below.mono L.size)⟩
          · rw [e1]
            first | rw [if_pos hc] | rw [if_neg (by omega)]
          · rw [e2]
            first | (rw [if_pos hc]; done) | (rw [if_pos hc, hy]) | rw [if_neg (by omega)]
        case measure => simp [intOf]; omega
    · obtain rfl : k = count := by omega
      have hn := HNS.out
      go_wp2
      go_ret
      exact ⟨rfl, L⟩

set_option maxHeartbeats 400000 in
theorem sixteen_any (c : Co) (w : World) (hc : c.ok) (hP : Pal w) :
    Calls Tryd.prog 11 #[(Value.agg #[.int .u8 c.r, .int .u8 c.g, .int .u8 c.b, .int .u8 c.a])] w fun e w' => e = .returned (.int .u8 (nearN c 16 false : Nat)) ∧ Below w.heap.size w w' := by
  have HN : Hid (∀ w, Pal w → Calls Tryd.prog 24 #[(Value.agg #[.int .u8 c.r, .int .u8 c.g, .int .u8 c.b, .int .u8 c.a]), .int .i64 16, .bool false] w fun e w' => e = .returned (.int .u8 (nearN c 16 false : Nat)) ∧ Below w.heap.size w w') := fun w hP => nearest_any c 16 false w hc hP (by decide) (by decide)
  generalize nearN c 16 false = n at *
  go_enter Tryd.func11, Tryd.ntmps11
  go_wp2_with fail
  refine (HN.out _ (hP.alloc _)).mono ?_
  rintro e w1 ⟨rfl, hb⟩
  have L := ((Below.refl w.heap.size w).alloc (Nat.le_refl _) _).trans (hb.mono (by simp))
  go_wp2
  go_ret
  exact ⟨rfl, L⟩

set_option maxHeartbeats 400000 in
theorem many_any (c : Co) (w : World) (hc : c.ok) (hP : Pal w) :
    Calls Tryd.prog 12 #[(Value.agg #[.int .u8 c.r, .int .u8 c.g, .int .u8 c.b, .int .u8 c.a])] w fun e w' => e = .returned (.int .u8 (nearN c 256 true : Nat)) ∧ Below w.heap.size w w' := by
  have HN : Hid (∀ w, Pal w → Calls Tryd.prog 24 #[(Value.agg #[.int .u8 c.r, .int .u8 c.g, .int .u8 c.b, .int .u8 c.a]), .int .i64 256, .bool true] w fun e w' => e = .returned (.int .u8 (nearN c 256 true : Nat)) ∧ Below w.heap.size w w') := fun w hP => nearest_any c 256 true w hc hP (by decide) (by decide)
  generalize nearN c 256 true = n at *
  go_enter Tryd.func12, Tryd.ntmps12
  go_wp2_with fail
  refine (HN.out _ (hP.alloc _)).mono ?_
  rintro e w1 ⟨rfl, hb⟩
  have L := ((Below.refl w.heap.size w).alloc (Nat.le_refl _) _).trans (hb.mono (by simp))
  go_wp2
  go_ret
  exact ⟨rfl, L⟩

end Go.Proofs.YtbppadheejdhcaaDoor
