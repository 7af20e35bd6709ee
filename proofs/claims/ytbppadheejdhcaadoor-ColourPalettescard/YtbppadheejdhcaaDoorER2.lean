/-
  Contracts of the document's answer for layer 4: a text that is a colour's.
-/
import Derived.Test.YtbppadheejdhcaaDoorER1
namespace Go.Proofs.YtbppadheejdhcaaDoor
open Go.RowKit

theorem info_int : (Tryd.prog.info? 3).map (fun i => (i.zero, i.size, i.bytes)) = some (some (.int .i64 0), 1, 8) := by kernel_rfl
theorem cellNew (w : World) (x : Value) (t : TypeId) : ∀ (j : Nat) (u : Value), [x][j]? = some u → (w.alloc (.cells #[x] t)).cell? ((⟨w.heap.size, 0, none⟩ : Addr).add j) = some u := by
  intro j u hj
  match j, hj with
  | 0, hj =>
    simp at hj
    subst hj
    rw [add_at]
    simp
theorem cellNew2 (w : World) (x y : Value) (t : TypeId) : ∀ (j : Nat) (u : Value), [x, y][j]? = some u → (w.alloc (.cells #[x, y] t)).cell? ((⟨w.heap.size, 0, none⟩ : Addr).add j) = some u := by
  intro j u hj
  match j, hj with
  | 0, hj =>
    simp at hj
    subst hj
    rw [add_at]
    simp
  | 1, hj =>
    simp at hj
    subst hj
    rw [add_at]
    simp
theorem oneInt (x : Int) : ∀ u ∈ [Value.int .i64 x], u.oneCell' = true := by
  intro u hu
  rw [List.mem_singleton] at hu
  subst hu
  rfl
theorem twoInt (x y : Int) : ∀ u ∈ [Value.int .i64 x, Value.int .i64 y], u.oneCell' = true := by
  intro u hu
  simp at hu
  rcases hu with rfl | rfl <;> rfl

/-- The sixteens, as they are gathered. -/
def dl (s : ByteArray) (m : Nat) : Nat → List Value
  | 0 => []
  | k + 1 => dl s m k ++ List.replicate m (.int .i64 (dg s (k + 1)))

set_option maxRecDepth 10000 in
set_option maxHeartbeats 4000000 in
theorem rparse_4 (s : ByteArray) (w : World) (hz : s.size = 4) (hbel : bel s = s.size) :
    Calls Tryd.prog 27 #[.string s] w fun e w' => e = .returned (.tuple #[(Value.agg #[.int .u8 (parC s).r, .int .u8 (parC s).g, .int .u8 (parC s).b, .int .u8 (parC s).a]), .int .i64 0, .int .i64 0]) ∧ Below w.heap.size w w' := by
  obtain ⟨i0, hi, hz0, hz1, hz2⟩ := info_parts8 info_int
  have HI : Hid (Tryd.prog.info? 3 = some i0 ∧ i0.zero = some (.int .i64 0) ∧ i0.size = 1 ∧ i0.bytes = 8) := ⟨hi, hz0, hz1, hz2⟩
  clear hi hz0 hz1 hz2
  have HB : Hid (∀ (j : Nat) (h : j < s.size), belB (s[j]).toNat j = true) := fun j h => (bel_at s).1.2 j h (by omega)
  have b1 := dg_bd (s := s) (j := 1) (by omega) (by omega)
  have b2 := dg_bd (s := s) (j := 2) (by omega) (by omega)
  have b3 := dg_bd (s := s) (j := 3) (by omega) (by omega)
  have HD : Hid ((0 ≤ dg s 1 ∧ dg s 1 ≤ 15) ∧ (0 ≤ dg s 2 ∧ dg s 2 ≤ 15) ∧ (0 ≤ dg s 3 ∧ dg s 3 ≤ 15)) := ⟨b1, b2, b3⟩
  have HC : Hid (parC s = ⟨16 * dg s 1 + dg s 1, 16 * dg s 2 + dg s 2, 16 * dg s 3 + dg s 3, 16 * 15 + 15⟩) := by
    show parC s = _
    unfold parC
    rw [if_pos (ok_iff.2 ⟨hbel, by omega⟩)]
    rw [if_pos (by omega), show 17 * dg s 1 = 16 * dg s 1 + dg s 1 by omega, show 17 * dg s 2 = 16 * dg s 2 + dg s 2 by omega, show 17 * dg s 3 = 16 * dg s 3 + dg s 3 by omega]
    rfl
  clear b1 b2 b3 hbel
  rw [HC.out]
  clear HC
  go_enter Tryd.func27, Tryd.ntmps27
  go_wp2
  go_loopw [5] (fun i wr => ∃ k : Nat, k ≤ 4 ∧ i = .int .i64 k ∧ wr = w.alloc (.cells #[.int .u8 0, .int .u8 0, .int .u8 0, .int .u8 0] 25)) (fun i _ => 4 - (intOf i).toNat)
  case atStart => exact ⟨0, Nat.zero_le _, rfl, rfl⟩
  case round =>
    obtain ⟨k, hk, rfl, rfl⟩ := hrel
    by_cases hlt : k < 4
    · by_cases h0 : k = 0
      · subst h0
        have hb := HB.out 0 (by omega)
        rw [bel_zero] at hb
        have hb2 : (((s[0]).toNat : Int) == 35) = true := by rw [beq_iff_eq] at hb ⊢; omega
        clear hb
        go_wp2
        go_roundw
        case rel => exact ⟨1, by omega, by go_num, by first | rfl | trivial⟩
        case measure => simp [intOf]
      · have hks : k < s.size := by omega
        have hb := HB.out k hks
        rw [bel_pos h0 (by omega)] at hb
        go_wp2_with (go_at_call 35; refine (digit_any _ _ (UInt8.toNat_lt _)).mono ?_; rintro e w' ⟨rfl, rfl⟩)
        go_roundw
        case rel => exact ⟨k + 1, by omega, by go_num, by first | rfl | trivial⟩
        case measure => simp [intOf]; omega
    · obtain rfl : k = 4 := by omega
      clear hlt hk HB
      have C0 := AtC.new w 0 0 0 0 25
      have F0 := Fr.new w #[.int .u8 0, .int .u8 0, .int .u8 0, .int .u8 0] 25
      have L0 : Below w.heap.size w (w.alloc (.cells #[.int .u8 0, .int .u8 0, .int .u8 0, .int .u8 0] 25)) := (Below.refl _ w).alloc (Nat.le_refl _) _
      have sz0 : (w.alloc (.cells #[.int .u8 0, .int .u8 0, .int .u8 0, .int .u8 0] 25)).heap.size = w.heap.size + 1 := by simp
      generalize w.alloc (.cells #[.int .u8 0, .int .u8 0, .int .u8 0, .int .u8 0] 25) = X0 at *
      have HX : Hid (AtC X0 w.heap.size ⟨0, 0, 0, 0⟩ ∧ Fr X0 w.heap.size ∧ Below w.heap.size w X0 ∧ X0.heap.size = w.heap.size + 1) := ⟨C0, F0, L0, sz0⟩
      clear C0 F0 L0 sz0
      go_wp2
      go_loopw [6, 7] (fun v i wr => ∃ k : Nat, k ≤ 3 ∧ i = .int .i64 ((k : Int) + 1) ∧ wr.ownsRow X0.heap.size 3 1 v (2 * k) (dl s 2 k) ∧ Below X0.heap.size X0 wr) (fun _ i _ => 4 - (intOf i).toNat)
      case atStart => exact ⟨0, Nat.zero_le _, rfl, World.ownsRow_nil _ _ _ _, Below.refl _ _⟩
      case round =>
        obtain ⟨k, hk, rfl, hown, hL⟩ := hrel
        by_cases hlt : k < 3
        · have hks : k + 1 < s.size := by omega
          have HG : Hid (dg s (k + 1) = dig (s[k + 1]).toNat) := dg_at hks
          have HW : Hid (wr.ownsRow X0.heap.size 3 1 u6 (2 * k) (dl s 2 k) ∧ Below X0.heap.size X0 wr) := ⟨hown, hL⟩
          obtain ⟨hi, hz0, hz1, hz2⟩ := HI.out
          have hc3 : Hid (2 * k + 1 ≤ maxLen) := by unfold Hid maxLen; omega
          have hc4 : Hid ((2 * k + 1) * 8 ≤ 140737488355328) := by unfold Hid; omega
          have Hown : Hid (∀ o1, (wr.alloc o1).ownsRow X0.heap.size 3 1 u6 (2 * k) (dl s 2 k)) := fun o1 => own_below HW.out.1 ((Below.refl _ wr).alloc (Nat.le_refl _) o1)
          have hc5 : Hid (∀ o1, X0.heap.size ≤ (wr.alloc o1).heap.size) := by intro o1; have := HW.out.2.size; simp; omega
          clear hown hL
          go_wp2_with (first
            | (go_at_call 35; refine (digit_any _ _ (UInt8.toNat_lt _)).mono ?_; rintro e w' ⟨rfl, rfl⟩)
            | (at_builtin; refine wpList_append_own _ rfl _ _ 55 rfl X0.heap.size 3 i0 (.int .i64 0) 1 8 Tryd.underlying55 hi hz0 hz1 hz2 rfl (by decide) u6 (2 * k) (dl s 2 k) rfl (Hown.out _) _ 1 1 [.int .i64 (dig (s[k + 1]).toNat)] rfl rfl (cellNew _ _ _) (oneInt _) hc3.out hc4.out (hc5.out _) ?_))
          intro v' w4 hown' hgrow hnil
          have b4 : Below X0.heap.size X0 w4 := (HW.out.2.alloc HW.out.2.size _).grown hgrow (hc5.out _) (fun g hg => ((Hown.out (.cells #[] 0)).lt g hg).1)
          have HR : Hid (w4.ownsRow X0.heap.size 3 1 v' (2 * k + 1) (dl s 2 k ++ [.int .i64 (dig (s[k + 1]).toNat)]) ∧ Below X0.heap.size X0 w4) := ⟨hown', b4⟩
          have hd3 : Hid (2 * k + 1 + 1 ≤ maxLen) := by unfold Hid maxLen; omega
          have hd4 : Hid ((2 * k + 1 + 1) * 8 ≤ 140737488355328) := by unfold Hid; omega
          have Hown2 : Hid (∀ o1, (w4.alloc o1).ownsRow X0.heap.size 3 1 v' (2 * k + 1) (dl s 2 k ++ [.int .i64 (dig (s[k + 1]).toNat)])) := fun o1 => own_below HR.out.1 ((Below.refl _ w4).alloc (Nat.le_refl _) o1)
          have hd5 : Hid (∀ o1, X0.heap.size ≤ (w4.alloc o1).heap.size) := by intro o1; have := HR.out.2.size; simp; omega
          clear hown' hgrow hnil b4
          go_wp2_with (first
            | (go_at_call 35; refine (digit_any _ _ (UInt8.toNat_lt _)).mono ?_; rintro e w' ⟨rfl, rfl⟩)
            | (at_builtin; refine wpList_append_own _ rfl _ _ 55 rfl X0.heap.size 3 i0 (.int .i64 0) 1 8 Tryd.underlying55 hi hz0 hz1 hz2 rfl (by decide) v' (2 * k + 1) (dl s 2 k ++ [.int .i64 (dig (s[k + 1]).toNat)]) rfl (Hown2.out _) _ 1 1 [.int .i64 (dig (s[k + 1]).toNat)] rfl rfl (cellNew _ _ _) (oneInt _) hd3.out hd4.out (hd5.out _) ?_))
          intro v2 w5 hown' hgrow hnil
          have b5 : Below X0.heap.size X0 w5 := (HR.out.2.alloc HR.out.2.size _).grown hgrow (hd5.out _) (fun g hg => ((Hown2.out (.cells #[] 0)).lt g hg).1)
          have HR2 : Hid (w5.ownsRow X0.heap.size 3 1 v2 (2 * (k + 1)) (dl s 2 (k + 1)) ∧ Below X0.heap.size X0 w5) := by
            refine ⟨?_, b5⟩
            rw [dl, HG.out, show 2 * (k + 1) = 2 * k + 1 + 1 by omega]
            simpa using hown'
          clear hown' hgrow hnil hi hz0 hz1 hz2 b5
          go_wp2
          go_roundw
          case rel =>
            (repeat apply Exists.intro)
            exact ⟨⟨k + 1, by omega, by go_num, HR2.out.1, HR2.out.2⟩, rfl⟩
          case measure => simp [intOf]; omega
        · obtain rfl : k = 3 := by omega
          clear hlt hk
          have HW : Hid (wr.ownsRow X0.heap.size 3 1 u6 6 [.int .i64 (dg s 1), .int .i64 (dg s 1), .int .i64 (dg s 2), .int .i64 (dg s 2), .int .i64 (dg s 3), .int .i64 (dg s 3)] ∧ Below X0.heap.size X0 wr) := ⟨hown, hL⟩
          obtain ⟨hi, hz0, hz1, hz2⟩ := HI.out
          have Hown : Hid (∀ o1, (wr.alloc o1).ownsRow X0.heap.size 3 1 u6 6 [.int .i64 (dg s 1), .int .i64 (dg s 1), .int .i64 (dg s 2), .int .i64 (dg s 2), .int .i64 (dg s 3), .int .i64 (dg s 3)]) := fun o1 => own_below HW.out.1 ((Below.refl _ wr).alloc (Nat.le_refl _) o1)
          have hc5 : Hid (∀ o1, X0.heap.size ≤ (wr.alloc o1).heap.size) := by intro o1; have := HW.out.2.size; simp; omega
          clear hown hL
          go_wp2_with (at_builtin; refine wpList_append_own _ rfl _ _ 55 rfl X0.heap.size 3 i0 (.int .i64 0) 1 8 Tryd.underlying55 hi hz0 hz1 hz2 rfl (by decide) u6 6 [.int .i64 (dg s 1), .int .i64 (dg s 1), .int .i64 (dg s 2), .int .i64 (dg s 2), .int .i64 (dg s 3), .int .i64 (dg s 3)] rfl (Hown.out _) _ 2 2 [.int .i64 15, .int .i64 15] rfl rfl (cellNew2 _ _ _ _) (twoInt _ _) (by decide) (by decide) (hc5.out _) ?_)
          intro v' W hown' hgrow hnil
          have b4 : Below X0.heap.size X0 W := (HW.out.2.alloc HW.out.2.size _).grown hgrow (hc5.out _) (fun g hg => ((Hown.out (.cells #[] 0)).lt g hg).1)
          have HR : Hid (W.ownsRow X0.heap.size 3 1 v' 8 [.int .i64 (dg s 1), .int .i64 (dg s 1), .int .i64 (dg s 2), .int .i64 (dg s 2), .int .i64 (dg s 3), .int .i64 (dg s 3), .int .i64 (15), .int .i64 (15)] ∧ Below X0.heap.size X0 W) := ⟨hown', b4⟩
          clear hown' hgrow hnil hi hz0 hz1 hz2 b4
          obtain ⟨g, cap, hu6⟩ : ∃ g cap, v' = .slice (some ⟨g, 0, none⟩) 8 cap := by
            obtain ⟨_, h | ⟨g, cap, cur, h1, _⟩⟩ := HR.out.1
            · exact absurd h.2 (by decide)
            · exact ⟨g, cap, h1⟩
          subst hu6
          go_wp2_with fail
          obtain ⟨⟨l1, r1⟩, ⟨l2, r2⟩, ⟨l3, r3⟩⟩ := HD.out
          obtain ⟨q1, e1⟩ : ∃ q, q = dg s 1 := ⟨_, rfl⟩
          rw [← e1] at HR l1 r1
          obtain ⟨q2, e2⟩ : ∃ q, q = dg s 2 := ⟨_, rfl⟩
          rw [← e2] at HR l2 r2
          obtain ⟨q3, e3⟩ : ∃ q, q = dg s 3 := ⟨_, rfl⟩
          rw [← e3] at HR l3 r3
          have HE : Hid (q1 = dg s 1 ∧ q2 = dg s 2 ∧ q3 = dg s 3) := ⟨e1, e2, e3⟩
          clear e1 e2 e3
          have HJ : Hid (∀ j, j < 8 → W.cell? ⟨g, j, none⟩ = ([.int .i64 q1, .int .i64 q1, .int .i64 q2, .int .i64 q2, .int .i64 q3, .int .i64 q3, .int .i64 15, .int .i64 15] : List Value)[j]?) := fun j hj => HR.out.1.cellAt j (by omega)
          have HY : Hid (AtC W w.heap.size ⟨0, 0, 0, 0⟩ ∧ Fr W w.heap.size ∧ Below w.heap.size w W) := by
            obtain ⟨x1, x2, x3, _⟩ := HX.out
            exact ⟨x1.below HR.out.2, x2.below HR.out.2, x3.trans (HR.out.2.mono x3.size)⟩
          have hglt : g < W.heap.size := lt_of_cell (HJ.out 0 (by decide))
          clear HR HX HI HD
          refine wp_region_lit 37 0 3 (fun _ => .cells #[] 0) [] (by kernel_rfl) (by kernel_rfl) rfl (fun k hk => absurd hk (by omega)) rfl (fun i h1 h2 => absurd h2 (by omega)) ?_
          apply Exists.intro
          refine ⟨fun bs ne => ?_, ?_⟩
          · have j0 := fun t : Gb W bs => (keepAt t.below (HJ.out 0 (by decide)) 0).trans (HJ.out 0 (by decide))
            have j1 := fun t : Gb W bs => (keepAt t.below (HJ.out 0 (by decide)) 1).trans (HJ.out 1 (by decide))
            have j2 := fun t : Gb W bs => (keepAt t.below (HJ.out 0 (by decide)) 2).trans (HJ.out 2 (by decide))
            have j3 := fun t : Gb W bs => (keepAt t.below (HJ.out 0 (by decide)) 3).trans (HJ.out 3 (by decide))
            have j4 := fun t : Gb W bs => (keepAt t.below (HJ.out 0 (by decide)) 4).trans (HJ.out 4 (by decide))
            have j5 := fun t : Gb W bs => (keepAt t.below (HJ.out 0 (by decide)) 5).trans (HJ.out 5 (by decide))
            have j6 := fun t : Gb W bs => (keepAt t.below (HJ.out 0 (by decide)) 6).trans (HJ.out 6 (by decide))
            have j7 := fun t : Gb W bs => (keepAt t.below (HJ.out 0 (by decide)) 7).trans (HJ.out 7 (by decide))
            simp only [List.take_succ_cons, List.take_zero]
            repeat (go_big_quiet_step (fail))
            exact wpQuiet_nil rfl
          · intro bl wr2 hb _ _
            obtain ⟨HC, HF, HDD⟩ := HY.out
            replace HC := HC.below hb
            replace HF := (HF.below hb).2
            replace HDD := HDD.trans (hb.mono HDD.size)
            obtain ⟨c0, c1, c2, c3⟩ := HC
            simp only [layL]
            refine wpAny_one 37 (by kernel_rfl) rfl ?_
            intro K hK
            go_simp
            refine hK _ _ ?_
            clear hK K
            refine wpAny_one 38 (by kernel_rfl) rfl ?_
            intro K hK
            go_simp
            refine hK _ _ ?_
            clear hK K
            refine wpAny_one 39 (by kernel_rfl) rfl ?_
            intro K hK
            go_simp
            refine hK _ _ ?_
            clear hK K
            refine wpAny_done (by kernel_rfl) ?_ _
            go_wp2
            obtain ⟨e1, e2, e3⟩ := HE.out
            exact bodyPost_ret (v := .tuple #[.agg #[.int .u8 _, .int .u8 _, .int .u8 _, .int .u8 _], .int .i64 0, .int .i64 0]) (by simp [results, Tryd.results27, go_sem, c0, c1, c2, c3, e1, e2, e3]) rfl ⟨rfl, set4_below HDD (by omega) _ _ _ _⟩

set_option maxRecDepth 10000 in
set_option maxHeartbeats 4000000 in
theorem rparse_7 (s : ByteArray) (w : World) (hz : s.size = 7) (hbel : bel s = s.size) :
    Calls Tryd.prog 27 #[.string s] w fun e w' => e = .returned (.tuple #[(Value.agg #[.int .u8 (parC s).r, .int .u8 (parC s).g, .int .u8 (parC s).b, .int .u8 (parC s).a]), .int .i64 0, .int .i64 0]) ∧ Below w.heap.size w w' := by
  obtain ⟨i0, hi, hz0, hz1, hz2⟩ := info_parts8 info_int
  have HI : Hid (Tryd.prog.info? 3 = some i0 ∧ i0.zero = some (.int .i64 0) ∧ i0.size = 1 ∧ i0.bytes = 8) := ⟨hi, hz0, hz1, hz2⟩
  clear hi hz0 hz1 hz2
  have HB : Hid (∀ (j : Nat) (h : j < s.size), belB (s[j]).toNat j = true) := fun j h => (bel_at s).1.2 j h (by omega)
  have b1 := dg_bd (s := s) (j := 1) (by omega) (by omega)
  have b2 := dg_bd (s := s) (j := 2) (by omega) (by omega)
  have b3 := dg_bd (s := s) (j := 3) (by omega) (by omega)
  have b4 := dg_bd (s := s) (j := 4) (by omega) (by omega)
  have b5 := dg_bd (s := s) (j := 5) (by omega) (by omega)
  have b6 := dg_bd (s := s) (j := 6) (by omega) (by omega)
  have HD : Hid ((0 ≤ dg s 1 ∧ dg s 1 ≤ 15) ∧ (0 ≤ dg s 2 ∧ dg s 2 ≤ 15) ∧ (0 ≤ dg s 3 ∧ dg s 3 ≤ 15) ∧ (0 ≤ dg s 4 ∧ dg s 4 ≤ 15) ∧ (0 ≤ dg s 5 ∧ dg s 5 ≤ 15) ∧ (0 ≤ dg s 6 ∧ dg s 6 ≤ 15)) := ⟨b1, b2, b3, b4, b5, b6⟩
  have HC : Hid (parC s = ⟨16 * dg s 1 + dg s 2, 16 * dg s 3 + dg s 4, 16 * dg s 5 + dg s 6, 16 * 15 + 15⟩) := by
    show parC s = _
    unfold parC
    rw [if_pos (ok_iff.2 ⟨hbel, by omega⟩)]
    rw [if_neg (by omega), if_pos (by omega)]
    rfl
  clear b1 b2 b3 b4 b5 b6 hbel
  rw [HC.out]
  clear HC
  go_enter Tryd.func27, Tryd.ntmps27
  go_wp2
  go_loopw [5] (fun i wr => ∃ k : Nat, k ≤ 7 ∧ i = .int .i64 k ∧ wr = w.alloc (.cells #[.int .u8 0, .int .u8 0, .int .u8 0, .int .u8 0] 25)) (fun i _ => 7 - (intOf i).toNat)
  case atStart => exact ⟨0, Nat.zero_le _, rfl, rfl⟩
  case round =>
    obtain ⟨k, hk, rfl, rfl⟩ := hrel
    by_cases hlt : k < 7
    · by_cases h0 : k = 0
      · subst h0
        have hb := HB.out 0 (by omega)
        rw [bel_zero] at hb
        have hb2 : (((s[0]).toNat : Int) == 35) = true := by rw [beq_iff_eq] at hb ⊢; omega
        clear hb
        go_wp2
        go_roundw
        case rel => exact ⟨1, by omega, by go_num, by first | rfl | trivial⟩
        case measure => simp [intOf]
      · have hks : k < s.size := by omega
        have hb := HB.out k hks
        rw [bel_pos h0 (by omega)] at hb
        go_wp2_with (go_at_call 35; refine (digit_any _ _ (UInt8.toNat_lt _)).mono ?_; rintro e w' ⟨rfl, rfl⟩)
        go_roundw
        case rel => exact ⟨k + 1, by omega, by go_num, by first | rfl | trivial⟩
        case measure => simp [intOf]; omega
    · obtain rfl : k = 7 := by omega
      clear hlt hk HB
      have C0 := AtC.new w 0 0 0 0 25
      have F0 := Fr.new w #[.int .u8 0, .int .u8 0, .int .u8 0, .int .u8 0] 25
      have L0 : Below w.heap.size w (w.alloc (.cells #[.int .u8 0, .int .u8 0, .int .u8 0, .int .u8 0] 25)) := (Below.refl _ w).alloc (Nat.le_refl _) _
      have sz0 : (w.alloc (.cells #[.int .u8 0, .int .u8 0, .int .u8 0, .int .u8 0] 25)).heap.size = w.heap.size + 1 := by simp
      generalize w.alloc (.cells #[.int .u8 0, .int .u8 0, .int .u8 0, .int .u8 0] 25) = X0 at *
      have HX : Hid (AtC X0 w.heap.size ⟨0, 0, 0, 0⟩ ∧ Fr X0 w.heap.size ∧ Below w.heap.size w X0 ∧ X0.heap.size = w.heap.size + 1) := ⟨C0, F0, L0, sz0⟩
      clear C0 F0 L0 sz0
      go_wp2
      go_loopw [6, 7] (fun v i wr => ∃ k : Nat, k ≤ 6 ∧ i = .int .i64 ((k : Int) + 1) ∧ wr.ownsRow X0.heap.size 3 1 v (1 * k) (dl s 1 k) ∧ Below X0.heap.size X0 wr) (fun _ i _ => 7 - (intOf i).toNat)
      case atStart => exact ⟨0, Nat.zero_le _, rfl, World.ownsRow_nil _ _ _ _, Below.refl _ _⟩
      case round =>
        obtain ⟨k, hk, rfl, hown, hL⟩ := hrel
        by_cases hlt : k < 6
        · have hks : k + 1 < s.size := by omega
          have HG : Hid (dg s (k + 1) = dig (s[k + 1]).toNat) := dg_at hks
          have HW : Hid (wr.ownsRow X0.heap.size 3 1 u6 (1 * k) (dl s 1 k) ∧ Below X0.heap.size X0 wr) := ⟨hown, hL⟩
          obtain ⟨hi, hz0, hz1, hz2⟩ := HI.out
          have hc3 : Hid (1 * k + 1 ≤ maxLen) := by unfold Hid maxLen; omega
          have hc4 : Hid ((1 * k + 1) * 8 ≤ 140737488355328) := by unfold Hid; omega
          have Hown : Hid (∀ o1, (wr.alloc o1).ownsRow X0.heap.size 3 1 u6 (1 * k) (dl s 1 k)) := fun o1 => own_below HW.out.1 ((Below.refl _ wr).alloc (Nat.le_refl _) o1)
          have hc5 : Hid (∀ o1, X0.heap.size ≤ (wr.alloc o1).heap.size) := by intro o1; have := HW.out.2.size; simp; omega
          clear hown hL
          go_wp2_with (first
            | (go_at_call 35; refine (digit_any _ _ (UInt8.toNat_lt _)).mono ?_; rintro e w' ⟨rfl, rfl⟩)
            | (at_builtin; refine wpList_append_own _ rfl _ _ 55 rfl X0.heap.size 3 i0 (.int .i64 0) 1 8 Tryd.underlying55 hi hz0 hz1 hz2 rfl (by decide) u6 (1 * k) (dl s 1 k) rfl (Hown.out _) _ 1 1 [.int .i64 (dig (s[k + 1]).toNat)] rfl rfl (cellNew _ _ _) (oneInt _) hc3.out hc4.out (hc5.out _) ?_))
          intro v' w4 hown' hgrow hnil
          have b4 : Below X0.heap.size X0 w4 := (HW.out.2.alloc HW.out.2.size _).grown hgrow (hc5.out _) (fun g hg => ((Hown.out (.cells #[] 0)).lt g hg).1)
          have HR : Hid (w4.ownsRow X0.heap.size 3 1 v' (1 * (k + 1)) (dl s 1 (k + 1)) ∧ Below X0.heap.size X0 w4) := by
            refine ⟨?_, b4⟩
            rw [dl, HG.out]
            simpa using hown'
          clear hown' hgrow hnil hi hz0 hz1 hz2 b4
          go_wp2
          go_roundw
          case rel =>
            (repeat apply Exists.intro)
            exact ⟨⟨k + 1, by omega, by go_num, HR.out.1, HR.out.2⟩, rfl⟩
          case measure => simp [intOf]; omega
        · obtain rfl : k = 6 := by omega
          clear hlt hk
          have HW : Hid (wr.ownsRow X0.heap.size 3 1 u6 6 [.int .i64 (dg s 1), .int .i64 (dg s 2), .int .i64 (dg s 3), .int .i64 (dg s 4), .int .i64 (dg s 5), .int .i64 (dg s 6)] ∧ Below X0.heap.size X0 wr) := ⟨hown, hL⟩
          obtain ⟨hi, hz0, hz1, hz2⟩ := HI.out
          have Hown : Hid (∀ o1, (wr.alloc o1).ownsRow X0.heap.size 3 1 u6 6 [.int .i64 (dg s 1), .int .i64 (dg s 2), .int .i64 (dg s 3), .int .i64 (dg s 4), .int .i64 (dg s 5), .int .i64 (dg s 6)]) := fun o1 => own_below HW.out.1 ((Below.refl _ wr).alloc (Nat.le_refl _) o1)
          have hc5 : Hid (∀ o1, X0.heap.size ≤ (wr.alloc o1).heap.size) := by intro o1; have := HW.out.2.size; simp; omega
          clear hown hL
          go_wp2_with (at_builtin; refine wpList_append_own _ rfl _ _ 55 rfl X0.heap.size 3 i0 (.int .i64 0) 1 8 Tryd.underlying55 hi hz0 hz1 hz2 rfl (by decide) u6 6 [.int .i64 (dg s 1), .int .i64 (dg s 2), .int .i64 (dg s 3), .int .i64 (dg s 4), .int .i64 (dg s 5), .int .i64 (dg s 6)] rfl (Hown.out _) _ 2 2 [.int .i64 15, .int .i64 15] rfl rfl (cellNew2 _ _ _ _) (twoInt _ _) (by decide) (by decide) (hc5.out _) ?_)
          intro v' W hown' hgrow hnil
          have b4 : Below X0.heap.size X0 W := (HW.out.2.alloc HW.out.2.size _).grown hgrow (hc5.out _) (fun g hg => ((Hown.out (.cells #[] 0)).lt g hg).1)
          have HR : Hid (W.ownsRow X0.heap.size 3 1 v' 8 [.int .i64 (dg s 1), .int .i64 (dg s 2), .int .i64 (dg s 3), .int .i64 (dg s 4), .int .i64 (dg s 5), .int .i64 (dg s 6), .int .i64 (15), .int .i64 (15)] ∧ Below X0.heap.size X0 W) := ⟨hown', b4⟩
          clear hown' hgrow hnil hi hz0 hz1 hz2 b4
          obtain ⟨g, cap, hu6⟩ : ∃ g cap, v' = .slice (some ⟨g, 0, none⟩) 8 cap := by
            obtain ⟨_, h | ⟨g, cap, cur, h1, _⟩⟩ := HR.out.1
            · exact absurd h.2 (by decide)
            · exact ⟨g, cap, h1⟩
          subst hu6
          go_wp2_with fail
          obtain ⟨⟨l1, r1⟩, ⟨l2, r2⟩, ⟨l3, r3⟩, ⟨l4, r4⟩, ⟨l5, r5⟩, ⟨l6, r6⟩⟩ := HD.out
          obtain ⟨q1, e1⟩ : ∃ q, q = dg s 1 := ⟨_, rfl⟩
          rw [← e1] at HR l1 r1
          obtain ⟨q2, e2⟩ : ∃ q, q = dg s 2 := ⟨_, rfl⟩
          rw [← e2] at HR l2 r2
          obtain ⟨q3, e3⟩ : ∃ q, q = dg s 3 := ⟨_, rfl⟩
          rw [← e3] at HR l3 r3
          obtain ⟨q4, e4⟩ : ∃ q, q = dg s 4 := ⟨_, rfl⟩
          rw [← e4] at HR l4 r4
          obtain ⟨q5, e5⟩ : ∃ q, q = dg s 5 := ⟨_, rfl⟩
          rw [← e5] at HR l5 r5
          obtain ⟨q6, e6⟩ : ∃ q, q = dg s 6 := ⟨_, rfl⟩
          rw [← e6] at HR l6 r6
          have HE : Hid (q1 = dg s 1 ∧ q2 = dg s 2 ∧ q3 = dg s 3 ∧ q4 = dg s 4 ∧ q5 = dg s 5 ∧ q6 = dg s 6) := ⟨e1, e2, e3, e4, e5, e6⟩
          clear e1 e2 e3 e4 e5 e6
          have HJ : Hid (∀ j, j < 8 → W.cell? ⟨g, j, none⟩ = ([.int .i64 q1, .int .i64 q2, .int .i64 q3, .int .i64 q4, .int .i64 q5, .int .i64 q6, .int .i64 15, .int .i64 15] : List Value)[j]?) := fun j hj => HR.out.1.cellAt j (by omega)
          have HY : Hid (AtC W w.heap.size ⟨0, 0, 0, 0⟩ ∧ Fr W w.heap.size ∧ Below w.heap.size w W) := by
            obtain ⟨x1, x2, x3, _⟩ := HX.out
            exact ⟨x1.below HR.out.2, x2.below HR.out.2, x3.trans (HR.out.2.mono x3.size)⟩
          have hglt : g < W.heap.size := lt_of_cell (HJ.out 0 (by decide))
          clear HR HX HI HD
          refine wp_region_lit 37 0 3 (fun _ => .cells #[] 0) [] (by kernel_rfl) (by kernel_rfl) rfl (fun k hk => absurd hk (by omega)) rfl (fun i h1 h2 => absurd h2 (by omega)) ?_
          apply Exists.intro
          refine ⟨fun bs ne => ?_, ?_⟩
          · have j0 := fun t : Gb W bs => (keepAt t.below (HJ.out 0 (by decide)) 0).trans (HJ.out 0 (by decide))
            have j1 := fun t : Gb W bs => (keepAt t.below (HJ.out 0 (by decide)) 1).trans (HJ.out 1 (by decide))
            have j2 := fun t : Gb W bs => (keepAt t.below (HJ.out 0 (by decide)) 2).trans (HJ.out 2 (by decide))
            have j3 := fun t : Gb W bs => (keepAt t.below (HJ.out 0 (by decide)) 3).trans (HJ.out 3 (by decide))
            have j4 := fun t : Gb W bs => (keepAt t.below (HJ.out 0 (by decide)) 4).trans (HJ.out 4 (by decide))
            have j5 := fun t : Gb W bs => (keepAt t.below (HJ.out 0 (by decide)) 5).trans (HJ.out 5 (by decide))
            have j6 := fun t : Gb W bs => (keepAt t.below (HJ.out 0 (by decide)) 6).trans (HJ.out 6 (by decide))
            have j7 := fun t : Gb W bs => (keepAt t.below (HJ.out 0 (by decide)) 7).trans (HJ.out 7 (by decide))
            simp only [List.take_succ_cons, List.take_zero]
            repeat (go_big_quiet_step (fail))
            exact wpQuiet_nil rfl
          · intro bl wr2 hb _ _
            obtain ⟨HC, HF, HDD⟩ := HY.out
            replace HC := HC.below hb
            replace HF := (HF.below hb).2
            replace HDD := HDD.trans (hb.mono HDD.size)
            obtain ⟨c0, c1, c2, c3⟩ := HC
            simp only [layL]
            refine wpAny_one 37 (by kernel_rfl) rfl ?_
            intro K hK
            go_simp
            refine hK _ _ ?_
            clear hK K
            refine wpAny_one 38 (by kernel_rfl) rfl ?_
            intro K hK
            go_simp
            refine hK _ _ ?_
            clear hK K
            refine wpAny_one 39 (by kernel_rfl) rfl ?_
            intro K hK
            go_simp
            refine hK _ _ ?_
            clear hK K
            refine wpAny_done (by kernel_rfl) ?_ _
            go_wp2
            obtain ⟨e1, e2, e3, e4, e5, e6⟩ := HE.out
            exact bodyPost_ret (v := .tuple #[.agg #[.int .u8 _, .int .u8 _, .int .u8 _, .int .u8 _], .int .i64 0, .int .i64 0]) (by simp [results, Tryd.results27, go_sem, c0, c1, c2, c3, e1, e2, e3, e4, e5, e6]) rfl ⟨rfl, set4_below HDD (by omega) _ _ _ _⟩

set_option maxRecDepth 10000 in
set_option maxHeartbeats 4000000 in
theorem rparse_9 (s : ByteArray) (w : World) (hz : s.size = 9) (hbel : bel s = s.size) :
    Calls Tryd.prog 27 #[.string s] w fun e w' => e = .returned (.tuple #[(Value.agg #[.int .u8 (parC s).r, .int .u8 (parC s).g, .int .u8 (parC s).b, .int .u8 (parC s).a]), .int .i64 0, .int .i64 0]) ∧ Below w.heap.size w w' := by
  obtain ⟨i0, hi, hz0, hz1, hz2⟩ := info_parts8 info_int
  have HI : Hid (Tryd.prog.info? 3 = some i0 ∧ i0.zero = some (.int .i64 0) ∧ i0.size = 1 ∧ i0.bytes = 8) := ⟨hi, hz0, hz1, hz2⟩
  clear hi hz0 hz1 hz2
  have HB : Hid (∀ (j : Nat) (h : j < s.size), belB (s[j]).toNat j = true) := fun j h => (bel_at s).1.2 j h (by omega)
  have b1 := dg_bd (s := s) (j := 1) (by omega) (by omega)
  have b2 := dg_bd (s := s) (j := 2) (by omega) (by omega)
  have b3 := dg_bd (s := s) (j := 3) (by omega) (by omega)
  have b4 := dg_bd (s := s) (j := 4) (by omega) (by omega)
  have b5 := dg_bd (s := s) (j := 5) (by omega) (by omega)
  have b6 := dg_bd (s := s) (j := 6) (by omega) (by omega)
  have b7 := dg_bd (s := s) (j := 7) (by omega) (by omega)
  have b8 := dg_bd (s := s) (j := 8) (by omega) (by omega)
  have HD : Hid ((0 ≤ dg s 1 ∧ dg s 1 ≤ 15) ∧ (0 ≤ dg s 2 ∧ dg s 2 ≤ 15) ∧ (0 ≤ dg s 3 ∧ dg s 3 ≤ 15) ∧ (0 ≤ dg s 4 ∧ dg s 4 ≤ 15) ∧ (0 ≤ dg s 5 ∧ dg s 5 ≤ 15) ∧ (0 ≤ dg s 6 ∧ dg s 6 ≤ 15) ∧ (0 ≤ dg s 7 ∧ dg s 7 ≤ 15) ∧ (0 ≤ dg s 8 ∧ dg s 8 ≤ 15)) := ⟨b1, b2, b3, b4, b5, b6, b7, b8⟩
  have HC : Hid (parC s = ⟨16 * dg s 1 + dg s 2, 16 * dg s 3 + dg s 4, 16 * dg s 5 + dg s 6, 16 * dg s 7 + dg s 8⟩) := by
    show parC s = _
    unfold parC
    rw [if_pos (ok_iff.2 ⟨hbel, by omega⟩)]
    rw [if_neg (by omega), if_neg (by omega)]
  clear b1 b2 b3 b4 b5 b6 b7 b8 hbel
  rw [HC.out]
  clear HC
  go_enter Tryd.func27, Tryd.ntmps27
  go_wp2
  go_loopw [5] (fun i wr => ∃ k : Nat, k ≤ 9 ∧ i = .int .i64 k ∧ wr = w.alloc (.cells #[.int .u8 0, .int .u8 0, .int .u8 0, .int .u8 0] 25)) (fun i _ => 9 - (intOf i).toNat)
  case atStart => exact ⟨0, Nat.zero_le _, rfl, rfl⟩
  case round =>
    obtain ⟨k, hk, rfl, rfl⟩ := hrel
    by_cases hlt : k < 9
    · by_cases h0 : k = 0
      · subst h0
        have hb := HB.out 0 (by omega)
        rw [bel_zero] at hb
        have hb2 : (((s[0]).toNat : Int) == 35) = true := by rw [beq_iff_eq] at hb ⊢; omega
        clear hb
        go_wp2
        go_roundw
        case rel => exact ⟨1, by omega, by go_num, by first | rfl | trivial⟩
        case measure => simp [intOf]
      · have hks : k < s.size := by omega
        have hb := HB.out k hks
        rw [bel_pos h0 (by omega)] at hb
        go_wp2_with (go_at_call 35; refine (digit_any _ _ (UInt8.toNat_lt _)).mono ?_; rintro e w' ⟨rfl, rfl⟩)
        go_roundw
        case rel => exact ⟨k + 1, by omega, by go_num, by first | rfl | trivial⟩
        case measure => simp [intOf]; omega
    · obtain rfl : k = 9 := by omega
      clear hlt hk HB
      have C0 := AtC.new w 0 0 0 0 25
      have F0 := Fr.new w #[.int .u8 0, .int .u8 0, .int .u8 0, .int .u8 0] 25
      have L0 : Below w.heap.size w (w.alloc (.cells #[.int .u8 0, .int .u8 0, .int .u8 0, .int .u8 0] 25)) := (Below.refl _ w).alloc (Nat.le_refl _) _
      have sz0 : (w.alloc (.cells #[.int .u8 0, .int .u8 0, .int .u8 0, .int .u8 0] 25)).heap.size = w.heap.size + 1 := by simp
      generalize w.alloc (.cells #[.int .u8 0, .int .u8 0, .int .u8 0, .int .u8 0] 25) = X0 at *
      have HX : Hid (AtC X0 w.heap.size ⟨0, 0, 0, 0⟩ ∧ Fr X0 w.heap.size ∧ Below w.heap.size w X0 ∧ X0.heap.size = w.heap.size + 1) := ⟨C0, F0, L0, sz0⟩
      clear C0 F0 L0 sz0
      go_wp2
      go_loopw [6, 7] (fun v i wr => ∃ k : Nat, k ≤ 8 ∧ i = .int .i64 ((k : Int) + 1) ∧ wr.ownsRow X0.heap.size 3 1 v (1 * k) (dl s 1 k) ∧ Below X0.heap.size X0 wr) (fun _ i _ => 9 - (intOf i).toNat)
      case atStart => exact ⟨0, Nat.zero_le _, rfl, World.ownsRow_nil _ _ _ _, Below.refl _ _⟩
      case round =>
        obtain ⟨k, hk, rfl, hown, hL⟩ := hrel
        by_cases hlt : k < 8
        · have hks : k + 1 < s.size := by omega
          have HG : Hid (dg s (k + 1) = dig (s[k + 1]).toNat) := dg_at hks
          have HW : Hid (wr.ownsRow X0.heap.size 3 1 u6 (1 * k) (dl s 1 k) ∧ Below X0.heap.size X0 wr) := ⟨hown, hL⟩
          obtain ⟨hi, hz0, hz1, hz2⟩ := HI.out
          have hc3 : Hid (1 * k + 1 ≤ maxLen) := by unfold Hid maxLen; omega
          have hc4 : Hid ((1 * k + 1) * 8 ≤ 140737488355328) := by unfold Hid; omega
          have Hown : Hid (∀ o1, (wr.alloc o1).ownsRow X0.heap.size 3 1 u6 (1 * k) (dl s 1 k)) := fun o1 => own_below HW.out.1 ((Below.refl _ wr).alloc (Nat.le_refl _) o1)
          have hc5 : Hid (∀ o1, X0.heap.size ≤ (wr.alloc o1).heap.size) := by intro o1; have := HW.out.2.size; simp; omega
          clear hown hL
          go_wp2_with (first
            | (go_at_call 35; refine (digit_any _ _ (UInt8.toNat_lt _)).mono ?_; rintro e w' ⟨rfl, rfl⟩)
            | (at_builtin; refine wpList_append_own _ rfl _ _ 55 rfl X0.heap.size 3 i0 (.int .i64 0) 1 8 Tryd.underlying55 hi hz0 hz1 hz2 rfl (by decide) u6 (1 * k) (dl s 1 k) rfl (Hown.out _) _ 1 1 [.int .i64 (dig (s[k + 1]).toNat)] rfl rfl (cellNew _ _ _) (oneInt _) hc3.out hc4.out (hc5.out _) ?_))
          intro v' w4 hown' hgrow hnil
          have b4 : Below X0.heap.size X0 w4 := (HW.out.2.alloc HW.out.2.size _).grown hgrow (hc5.out _) (fun g hg => ((Hown.out (.cells #[] 0)).lt g hg).1)
          have HR : Hid (w4.ownsRow X0.heap.size 3 1 v' (1 * (k + 1)) (dl s 1 (k + 1)) ∧ Below X0.heap.size X0 w4) := by
            refine ⟨?_, b4⟩
            rw [dl, HG.out]
            simpa using hown'
          clear hown' hgrow hnil hi hz0 hz1 hz2 b4
          go_wp2
          go_roundw
          case rel =>
            (repeat apply Exists.intro)
            exact ⟨⟨k + 1, by omega, by go_num, HR.out.1, HR.out.2⟩, rfl⟩
          case measure => simp [intOf]; omega
        · obtain rfl : k = 8 := by omega
          clear hlt hk
          have HR : Hid (wr.ownsRow X0.heap.size 3 1 u6 8 [.int .i64 (dg s 1), .int .i64 (dg s 2), .int .i64 (dg s 3), .int .i64 (dg s 4), .int .i64 (dg s 5), .int .i64 (dg s 6), .int .i64 (dg s 7), .int .i64 (dg s 8)] ∧ Below X0.heap.size X0 wr) := ⟨hown, hL⟩
          clear hown hL
          obtain ⟨g, cap, hu6⟩ : ∃ g cap, u6 = .slice (some ⟨g, 0, none⟩) 8 cap := by
            obtain ⟨_, h | ⟨g, cap, cur, h1, _⟩⟩ := HR.out.1
            · exact absurd h.2 (by decide)
            · exact ⟨g, cap, h1⟩
          subst hu6
          go_wp2_with fail
          obtain ⟨W, hW⟩ : ∃ W, W = wr := ⟨_, rfl⟩
          rw [← hW] at HR ⊢
          clear hW
          obtain ⟨⟨l1, r1⟩, ⟨l2, r2⟩, ⟨l3, r3⟩, ⟨l4, r4⟩, ⟨l5, r5⟩, ⟨l6, r6⟩, ⟨l7, r7⟩, ⟨l8, r8⟩⟩ := HD.out
          obtain ⟨q1, e1⟩ : ∃ q, q = dg s 1 := ⟨_, rfl⟩
          rw [← e1] at HR l1 r1
          obtain ⟨q2, e2⟩ : ∃ q, q = dg s 2 := ⟨_, rfl⟩
          rw [← e2] at HR l2 r2
          obtain ⟨q3, e3⟩ : ∃ q, q = dg s 3 := ⟨_, rfl⟩
          rw [← e3] at HR l3 r3
          obtain ⟨q4, e4⟩ : ∃ q, q = dg s 4 := ⟨_, rfl⟩
          rw [← e4] at HR l4 r4
          obtain ⟨q5, e5⟩ : ∃ q, q = dg s 5 := ⟨_, rfl⟩
          rw [← e5] at HR l5 r5
          obtain ⟨q6, e6⟩ : ∃ q, q = dg s 6 := ⟨_, rfl⟩
          rw [← e6] at HR l6 r6
          obtain ⟨q7, e7⟩ : ∃ q, q = dg s 7 := ⟨_, rfl⟩
          rw [← e7] at HR l7 r7
          obtain ⟨q8, e8⟩ : ∃ q, q = dg s 8 := ⟨_, rfl⟩
          rw [← e8] at HR l8 r8
          have HE : Hid (q1 = dg s 1 ∧ q2 = dg s 2 ∧ q3 = dg s 3 ∧ q4 = dg s 4 ∧ q5 = dg s 5 ∧ q6 = dg s 6 ∧ q7 = dg s 7 ∧ q8 = dg s 8) := ⟨e1, e2, e3, e4, e5, e6, e7, e8⟩
          clear e1 e2 e3 e4 e5 e6 e7 e8
          have HJ : Hid (∀ j, j < 8 → W.cell? ⟨g, j, none⟩ = ([.int .i64 q1, .int .i64 q2, .int .i64 q3, .int .i64 q4, .int .i64 q5, .int .i64 q6, .int .i64 q7, .int .i64 q8] : List Value)[j]?) := fun j hj => HR.out.1.cellAt j (by omega)
          have HY : Hid (AtC W w.heap.size ⟨0, 0, 0, 0⟩ ∧ Fr W w.heap.size ∧ Below w.heap.size w W) := by
            obtain ⟨x1, x2, x3, _⟩ := HX.out
            exact ⟨x1.below HR.out.2, x2.below HR.out.2, x3.trans (HR.out.2.mono x3.size)⟩
          have hglt : g < W.heap.size := lt_of_cell (HJ.out 0 (by decide))
          clear HR HX HI HD
          refine wp_region_lit 37 0 3 (fun _ => .cells #[] 0) [] (by kernel_rfl) (by kernel_rfl) rfl (fun k hk => absurd hk (by omega)) rfl (fun i h1 h2 => absurd h2 (by omega)) ?_
          apply Exists.intro
          refine ⟨fun bs ne => ?_, ?_⟩
          · have j0 := fun t : Gb W bs => (keepAt t.below (HJ.out 0 (by decide)) 0).trans (HJ.out 0 (by decide))
            have j1 := fun t : Gb W bs => (keepAt t.below (HJ.out 0 (by decide)) 1).trans (HJ.out 1 (by decide))
            have j2 := fun t : Gb W bs => (keepAt t.below (HJ.out 0 (by decide)) 2).trans (HJ.out 2 (by decide))
            have j3 := fun t : Gb W bs => (keepAt t.below (HJ.out 0 (by decide)) 3).trans (HJ.out 3 (by decide))
            have j4 := fun t : Gb W bs => (keepAt t.below (HJ.out 0 (by decide)) 4).trans (HJ.out 4 (by decide))
            have j5 := fun t : Gb W bs => (keepAt t.below (HJ.out 0 (by decide)) 5).trans (HJ.out 5 (by decide))
            have j6 := fun t : Gb W bs => (keepAt t.below (HJ.out 0 (by decide)) 6).trans (HJ.out 6 (by decide))
            have j7 := fun t : Gb W bs => (keepAt t.below (HJ.out 0 (by decide)) 7).trans (HJ.out 7 (by decide))
            simp only [List.take_succ_cons, List.take_zero]
            repeat (go_big_quiet_step (fail))
            exact wpQuiet_nil rfl
          · intro bl wr2 hb _ _
            obtain ⟨HC, HF, HDD⟩ := HY.out
            replace HC := HC.below hb
            replace HF := (HF.below hb).2
            replace HDD := HDD.trans (hb.mono HDD.size)
            obtain ⟨c0, c1, c2, c3⟩ := HC
            simp only [layL]
            refine wpAny_one 37 (by kernel_rfl) rfl ?_
            intro K hK
            go_simp
            refine hK _ _ ?_
            clear hK K
            refine wpAny_one 38 (by kernel_rfl) rfl ?_
            intro K hK
            go_simp
            refine hK _ _ ?_
            clear hK K
            refine wpAny_one 39 (by kernel_rfl) rfl ?_
            intro K hK
            go_simp
            refine hK _ _ ?_
            clear hK K
            refine wpAny_done (by kernel_rfl) ?_ _
            go_wp2
            obtain ⟨e1, e2, e3, e4, e5, e6, e7, e8⟩ := HE.out
            exact bodyPost_ret (v := .tuple #[.agg #[.int .u8 _, .int .u8 _, .int .u8 _, .int .u8 _], .int .i64 0, .int .i64 0]) (by simp [results, Tryd.results27, go_sem, c0, c1, c2, c3, e1, e2, e3, e4, e5, e6, e7, e8]) rfl ⟨rfl, set4_below HDD (by omega) _ _ _ _⟩

end Go.Proofs.YtbppadheejdhcaaDoor
