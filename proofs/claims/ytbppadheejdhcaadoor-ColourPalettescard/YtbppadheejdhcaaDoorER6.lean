/-
  Contracts of the document's answer for layer 4: the nearest colour; the walk of the statement ColourPalettes.
-/
import Derived.Test.YtbppadheejdhcaaDoorER5
namespace Go.Proofs.YtbppadheejdhcaaDoor
open Go.RowKit

theorem nst_congr {d d' : Nat → Int} : ∀ n, (∀ j, j < n → d j = d' j) → nst d n = nst d' n
  | 0, _ => rfl
  | n + 1, h => by
    have ih := nst_congr n (fun j hj => h j (by omega))
    unfold nst
    by_cases h0 : n = 0
    · rw [if_pos h0, if_pos h0]
    · have hl := (nst_spec d' n (by omega)).1
      rw [if_neg h0, if_neg h0, ih, h n (by omega), h (nst d' n) (by omega)]

set_option maxHeartbeats 2000000 in
theorem rnearest_any (c : Co) (count : Nat) (w : World) (hc : c.ok) (h0 : 0 < count) (h256 : count ≤ 256) :
    Calls Tryd.prog 26 #[(Value.agg #[.int .u8 c.r, .int .u8 c.g, .int .u8 c.b, .int .u8 c.a]), .int .i64 count] w fun e w' => e = .returned (.int .u8 (nearN c count true : Nat)) ∧ Below w.heap.size w w' := by
  obtain ⟨d, hd⟩ : ∃ d : Nat → Int, d = fun j => farI (onB c) (bk j true) := ⟨_, rfl⟩
  have hN : nearN c count true = nst d count := by rw [hd]; rfl
  rw [hN]
  clear hN
  have HD : Hid (∀ k, k < 256 → 0 ≤ d k ∧ d k ≤ 585225) := fun k hk => by rw [hd]; exact far_bd (onB_ok hc) (bk_ok hk true).1
  have HF : Hid (∀ k w, k < 256 → Calls Tryd.prog 34 #[(Value.agg #[.int .u8 (onB c).r, .int .u8 (onB c).g, .int .u8 (onB c).b, .int .u8 (onB c).a]), (Value.agg #[.int .u8 (bk k true).r, .int .u8 (bk k true).g, .int .u8 (bk k true).b, .int .u8 (bk k true).a])] w fun e w' => e = .returned (.int .i64 (d k)) ∧ Below w.heap.size w w') := fun k w hk => by rw [hd]; exact rfar_any _ _ w (onB_ok hc) (bk_ok hk true).1
  have HB : Hid (∀ (k : Nat) w, k < 256 → Calls Tryd.prog 18 #[.int .u8 k, .bool true] w fun e w' => e = .returned (Value.agg #[.int .u8 (bk k true).r, .int .u8 (bk k true).g, .int .u8 (bk k true).b, .int .u8 (bk k true).a]) ∧ Below w.heap.size w w') := fun k w hk => rback_any k true w hk
  have HO : Hid (∀ w, Calls Tryd.prog 33 #[(Value.agg #[.int .u8 c.r, .int .u8 c.g, .int .u8 c.b, .int .u8 c.a])] w fun e w' => e = .returned (Value.agg #[.int .u8 (onB c).r, .int .u8 (onB c).g, .int .u8 (onB c).b, .int .u8 (onB c).a]) ∧ Below w.heap.size w w') := fun w => ronBlack_any c w hc
  clear hd hc
  generalize onB c = f at *
  go_enter Tryd.func26, Tryd.ntmps26
  go_wp2_with fail
  refine (HO.out _).mono ?_
  rintro e w1 ⟨rfl, hb⟩
  have L := ((Below.refl w.heap.size w).alloc (Nat.le_refl _) _).trans (hb.mono (by simp))
  clear hb
  have C := AtC.new w1 f.r f.g f.b f.a 25
  have HW : Hid (AtC (w1.alloc (.cells #[.int .u8 f.r, .int .u8 f.g, .int .u8 f.b, .int .u8 f.a] 25)) w1.heap.size f ∧ Below w.heap.size w (w1.alloc (.cells #[.int .u8 f.r, .int .u8 f.g, .int .u8 f.b, .int .u8 f.a] 25))) := ⟨C, L.alloc L.size _⟩
  clear L C
  go_wp2
  go_loopw [6, 7] (fun s6 s7 wr => ∃ k : Nat, 1 ≤ k ∧ k ≤ count ∧ s7 = .int .i64 k ∧ s6 = .int .i64 (nst d k : Nat) ∧ AtC wr w1.heap.size f ∧ Below w.heap.size w wr) (fun _ i _ => count - (intOf i).toNat)
  case atStart => exact ⟨1, by omega, by omega, rfl, rfl, HW.out.1, HW.out.2⟩
  case round =>
    obtain ⟨k, hk1, hk, rfl, rfl, A, L⟩ := hrel
    clear HW
    obtain ⟨m, hm⟩ : ∃ m, m = nst d k := ⟨_, rfl⟩
    have hmk : m < k := by rw [hm]; exact (nst_spec d k (by omega)).1
    by_cases hlt : k < count
    · have ne := gw_ne L
      have a0 := fun t => (gwC A t).1
      have a1 := fun t => (gwC A t).2.1
      have a2 := fun t => (gwC A t).2.2.1
      have a3 := fun t => (gwC A t).2.2.2
      have HA : Hid (AtC wr w1.heap.size f ∧ Below w.heap.size w wr) := ⟨A, L⟩
      have hk256 : k < 256 := by omega
      have hm256 : m < 256 := by omega
      obtain ⟨n1, n2⟩ := HD.out k hk256
      obtain ⟨n3, n4⟩ := HD.out m hm256
      have HE : Hid (nst d (k + 1) = if d k < d m then k else m) := by
        show nst d (k + 1) = _
        rw [hm]
        conv => lhs; unfold nst
        rw [if_neg (by omega)]
      rw [← hm]
      clear A L hm
      by_cases hc : d k < d m
      all_goals
        go_wp2_with fail
        refine wp_region_gw (by kernel_rfl) (by kernel_rfl) ?_
        repeat (go_big_quiet_step (first
          | (go_at_call 18; exact gw_call (HB.out _ _ (by first | exact hk256 | exact hm256)))
          | (go_at_call 34; exact gw_call (HF.out _ _ (by first | exact hk256 | exact hm256)))))
        refine wpQuiet_nil ?_
        rintro _ ⟨t, rfl⟩
        clear a0 a1 a2 a3
        go_wp2
        go_roundw
        case rel =>
          obtain ⟨A, L⟩ := HA.out
          refine ⟨k + 1, by omega, by omega, by go_num, ?_, A.below t.below, L.trans (t.below.mono L.size)⟩
          rw [HE.out]
          first | rw [if_pos hc] | rw [if_neg (by omega)]
        case measure => simp [intOf]; omega
    · obtain rfl : k = count := by omega
      rw [← hm]
      have HM : Hid (m = nst d k) := hm
      clear hm
      go_wp2
      go_ret
      exact ⟨by rw [← HM.out]; rfl, L⟩

set_option maxHeartbeats 400000 in
theorem rsixteen_any (c : Co) (w : World) (hc : c.ok) :
    Calls Tryd.prog 16 #[(Value.agg #[.int .u8 c.r, .int .u8 c.g, .int .u8 c.b, .int .u8 c.a])] w fun e w' => e = .returned (.int .u8 (nearN c 16 false : Nat)) ∧ Below w.heap.size w w' := by
  have HN : Hid (∀ w, Calls Tryd.prog 26 #[(Value.agg #[.int .u8 c.r, .int .u8 c.g, .int .u8 c.b, .int .u8 c.a]), .int .i64 16] w fun e w' => e = .returned (.int .u8 (nearN c 16 false : Nat)) ∧ Below w.heap.size w w') := fun w => by
    have h := rnearest_any c 16 w hc (by decide) (by decide)
    have e : nearN c 16 true = nearN c 16 false := nst_congr 16 (fun j hj => by rw [bk_low hj, bk_low hj])
    rw [e] at h
    exact h
  generalize nearN c 16 false = n at *
  go_enter Tryd.func16, Tryd.ntmps16
  go_wp2_with fail
  refine (HN.out _).mono ?_
  rintro e w1 ⟨rfl, hb⟩
  have L := ((Below.refl w.heap.size w).alloc (Nat.le_refl _) _).trans (hb.mono (by simp))
  go_wp2
  go_ret
  exact ⟨rfl, L⟩

set_option maxHeartbeats 400000 in
theorem rmany_any (c : Co) (w : World) (hc : c.ok) :
    Calls Tryd.prog 17 #[(Value.agg #[.int .u8 c.r, .int .u8 c.g, .int .u8 c.b, .int .u8 c.a])] w fun e w' => e = .returned (.int .u8 (nearN c 256 true : Nat)) ∧ Below w.heap.size w w' := by
  have HN : Hid (∀ w, Calls Tryd.prog 26 #[(Value.agg #[.int .u8 c.r, .int .u8 c.g, .int .u8 c.b, .int .u8 c.a]), .int .i64 256] w fun e w' => e = .returned (.int .u8 (nearN c 256 true : Nat)) ∧ Below w.heap.size w w') := fun w => rnearest_any c 256 w hc (by decide) (by decide)
  generalize nearN c 256 true = n at *
  go_enter Tryd.func17, Tryd.ntmps17
  go_wp2_with fail
  refine (HN.out _).mono ?_
  rintro e w1 ⟨rfl, hb⟩
  have L := ((Below.refl w.heap.size w).alloc (Nat.le_refl _) _).trans (hb.mono (by simp))
  go_wp2
  go_ret
  exact ⟨rfl, L⟩

set_option maxHeartbeats 2000000 in
theorem palettes_walk (c : Co) (n : Nat) (w : World) (hc : c.ok) (hn : n < 256) (hP : Pal w) :
    Calls Tryd.prog 4 #[(Value.agg #[.int .u8 c.r, .int .u8 c.g, .int .u8 c.b, .int .u8 c.a]), .int .u8 n] w fun e w' => e = .returned (.bool true) ∧ Below w.heap.size w w' := by
  have H1 : Hid (∀ w, Pal w → Calls Tryd.prog 11 #[(Value.agg #[.int .u8 c.r, .int .u8 c.g, .int .u8 c.b, .int .u8 c.a])] w fun e w' => e = .returned (.int .u8 (nearN c 16 false : Nat)) ∧ Below w.heap.size w w') := fun w h => sixteen_any c w hc h
  have H2 : Hid (∀ w, Calls Tryd.prog 16 #[(Value.agg #[.int .u8 c.r, .int .u8 c.g, .int .u8 c.b, .int .u8 c.a])] w fun e w' => e = .returned (.int .u8 (nearN c 16 false : Nat)) ∧ Below w.heap.size w w') := fun w => rsixteen_any c w hc
  have H3 : Hid (∀ w, Pal w → Calls Tryd.prog 12 #[(Value.agg #[.int .u8 c.r, .int .u8 c.g, .int .u8 c.b, .int .u8 c.a])] w fun e w' => e = .returned (.int .u8 (nearN c 256 true : Nat)) ∧ Below w.heap.size w w') := fun w h => many_any c w hc h
  have H4 : Hid (∀ w, Calls Tryd.prog 17 #[(Value.agg #[.int .u8 c.r, .int .u8 c.g, .int .u8 c.b, .int .u8 c.a])] w fun e w' => e = .returned (.int .u8 (nearN c 256 true : Nat)) ∧ Below w.heap.size w w') := fun w => rmany_any c w hc
  have H5 : Hid (∀ m w, Pal w → Calls Tryd.prog 10 #[.int .u8 n, .bool m] w fun e w' => e = .returned (Value.agg #[.int .u8 (bk n m).r, .int .u8 (bk n m).g, .int .u8 (bk n m).b, .int .u8 (bk n m).a]) ∧ Below w.heap.size w w') := fun m w h => back_any n m w h hn
  have H6 : Hid (∀ m w, Calls Tryd.prog 18 #[.int .u8 n, .bool m] w fun e w' => e = .returned (Value.agg #[.int .u8 (bk n m).r, .int .u8 (bk n m).g, .int .u8 (bk n m).b, .int .u8 (bk n m).a]) ∧ Below w.heap.size w w') := fun m w => rback_any n m w hn
  generalize nearN c 16 false = q1 at *
  generalize nearN c 256 true = q2 at *
  go_enter Tryd.func4, Tryd.ntmps4
  go_wp2_with fail
  have A := AtC.new w c.r c.g c.b c.a 25
  have L : Below w.heap.size w (w.alloc (.cells #[.int .u8 c.r, .int .u8 c.g, .int .u8 c.b, .int .u8 c.a] 25)) := (Below.refl _ w).alloc (Nat.le_refl _) _
  generalize w.alloc (.cells #[.int .u8 c.r, .int .u8 c.g, .int .u8 c.b, .int .u8 c.a] 25) = W at *
  have ne := gw_ne L
  have HQ : Hid (∀ t : Gw W, Pal t.wd) := fun t => (hP.below L).below t.below
  have a0 := fun t => (gwC A t).1
  have a1 := fun t => (gwC A t).2.1
  have a2 := fun t => (gwC A t).2.2.1
  have a3 := fun t => (gwC A t).2.2.2
  clear A
  refine wp_region_gw (by kernel_rfl) (by kernel_rfl) ?_
  repeat (go_big_quiet_step (first
    | (go_at_call 11; exact gw_call (H1.out _ (HQ.out _)))
    | (go_at_call 16; exact gw_call (H2.out _))
    | (go_at_call 12; exact gw_call (H3.out _ (HQ.out _)))
    | (go_at_call 17; exact gw_call (H4.out _))
    | (go_at_call 10; exact gw_call (H5.out _ _ (HQ.out _)))
    | (go_at_call 18; exact gw_call (H6.out _ _))))
  refine wpQuiet_nil ?_
  rintro _ ⟨t, rfl⟩
  go_wp2
  go_ret
  exact ⟨rfl, L.trans (t.below.mono L.size)⟩

end Go.Proofs.YtbppadheejdhcaaDoor
