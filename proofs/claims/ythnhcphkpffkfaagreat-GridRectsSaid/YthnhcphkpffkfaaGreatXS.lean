/-
  The document's calls: Share, Need, Most, Starts, Row.
-/
import Derived.Test.YthnhcphkpffkfaaGreatXR
namespace Go.Proofs.YthnhcphkpffkfaaGreat
open Go.RowKit
attribute [local go_sem] ite_maxK ite_minK

set_option maxRecDepth 10000 in
set_option maxHeartbeats 4000000 in
theorem rbegins_any (xs : List Int) (gap : Int) (v : Value) (w : World) (hv : IS w v xs) (hn : xs.length ≤ 1024) (hx : ∀ x ∈ xs, 0 ≤ x ∧ x ≤ 16777216) (hg : 0 ≤ gap ∧ gap ≤ 16384) :
    Calls Tryz.prog 72 #[v, .int .i64 gap] w fun e w' => ∃ u, e = .returned u ∧ Hid (OwI w.heap.size w' u (bgs gap 0 xs) ∧ Below w.heap.size w w') := by
  obtain ⟨oa, cap, rfl, hc, hgg⟩ := hv
  have HG : Hid (0 < xs.length → ∃ g o, oa = some ⟨g, o, none⟩ ∧ g < w.heap.size ∧ ∀ i (h : i < xs.length), w.cell? ⟨g, o + i, none⟩ = some (.int .i64 xs[i])) := hgg
  have HX : Hid (∀ x ∈ xs, 0 ≤ x ∧ x ≤ 16777216) := hx
  obtain ⟨i0, hi, hz0, hz1, hz2⟩ := info_parts info_int
  have HI : Hid (Tryz.prog.info? 3 = some i0 ∧ i0.zero = some (.int .i64 0) ∧ i0.size = 1 ∧ i0.bytes = 8) := ⟨hi, hz0, hz1, hz2⟩
  clear hgg hx hi hz0 hz1 hz2
  go_enter Tryz.func72, Tryz.ntmps72
  go_wp2_with fail
  go_loopw [5, 6, 7] (fun u s i wr => ∃ (k : Nat) (x : Int), k ≤ xs.length ∧ i = .int .i64 k ∧ s = .int .i64 x ∧ Hid (x = bgE gap 0 (xs.take k) ∧ OwI w.heap.size wr u (bgs gap 0 (xs.take k)) ∧ Below w.heap.size w wr)) (fun _ _ i _ => xs.length - (intOf i).toNat)
  case atStart => exact ⟨0, 0, Nat.zero_le _, rfl, rfl, by simp [bgE], OwI.nil _ _, Below.refl _ _⟩
  case round =>
    obtain ⟨k, x, hk, rfl, rfl, HK⟩ := hrel
    by_cases hlt : k < xs.length
    · have ik : (k : Int) < xs.length := by omega
      obtain ⟨g, o, rfl, hgl, hat⟩ := HG.out (by omega)
      have x0 := (HK.out.2.2.cell (p := ⟨g, o + k, none⟩) hgl).trans (hat k hlt)
      have hbx := HX.out xs[k] (List.getElem_mem hlt)
      have hbe := bgE_bd gap 16777216 hg.1 (xs.take k) 0 fun y hy => HX.out y (List.mem_of_mem_take hy)
      have hlen : ((xs.take k).length : Int) ≤ 1024 := by simp; omega
      have hb1 : 0 ≤ x ∧ x ≤ 17196646400 := by
        rw [HK.out.1]
        have : ((xs.take k).length : Int) * (16777216 + gap) ≤ 1024 * 16793600 := Int.mul_le_mul hlen (by omega) (by omega) (by omega)
        omega
      have Hbl : Hid ((bgs gap 0 (xs.take k)).length = k) := by unfold Hid; rw [bgs_len]; simp; omega
      have ho : wr.ownsRow w.heap.size 3 1 u5 k (flatI (bgs gap 0 (xs.take k))) := by have h := HK.out.2.1; unfold OwI at h; rwa [Hbl.out] at h
      have HA : Hid (∀ o, (wr.alloc o).ownsRow w.heap.size 3 1 u5 k (flatI (bgs gap 0 (xs.take k))) ∧ w.heap.size ≤ (wr.alloc o).heap.size) := fun o => ⟨row_below ho ((Below.refl _ _).alloc (Nat.le_refl _) _), by have := HK.out.2.2.size; simp; omega⟩
      have HN : Hid (bgE gap 0 (xs.take (k + 1)) = x + xs[k] + gap ∧ bgs gap 0 (xs.take (k + 1)) = bgs gap 0 (xs.take k) ++ [x]) := by
        unfold Hid
        rw [← List.take_append_getElem hlt, bgE_snoc, bgs_snoc, HK.out.1]
        exact ⟨rfl, rfl⟩
      have HB : Hid (Below w.heap.size w wr ∧ w.cell? ⟨g, o + k, none⟩ = some (.int .i64 xs[k]) ∧ g < w.heap.size) := ⟨HK.out.2.2, hat k hlt, hgl⟩
      have hc3 : Hid (k + 1 ≤ maxLen) := by unfold Hid maxLen; omega
      have hc4 : Hid ((k + 1) * 8 ≤ 140737488355328) := by unfold Hid; omega
      obtain ⟨hi, hz0, hz1, hz2⟩ := HI.out
      clear HK hat hbe hlen ho
      generalize xs[k] = q at *
      generalize bgs gap 0 (xs.take k) = bl at *
      have hw1 : IntKind.i64.wrap (x + q) = x + q := by rw [IntKind.wrap_i64]; omega
      have hw2 : IntKind.i64.wrap (x + q + gap) = x + q + gap := by rw [IntKind.wrap_i64]; omega
      go_wp2_with (at_builtin; refine wpList_append_lies _ rfl _ _ 22 rfl w.heap.size 3 i0 (.int .i64 0) 1 8 Tryz.underlying22 hi hz0 hz1 hz2 rfl (by decide) u5 k (flatI bl) rfl (HA.out _).1 _ 1 1 [.int .i64 x] rfl rfl (cell_oneB _ _ _ _ rfl) (one1 _) (by decide) hc3.out hc4.out (HA.out _).2 _ rfl ?_)
      intro g4 cap4 w4 hown' hgrow hlies _
      have H4 : Hid (OwI w.heap.size w4 (.slice (some ⟨g4, 0, none⟩) (k + 1) cap4) (bgs gap 0 (xs.take (k + 1))) ∧ Below w.heap.size w w4) := by
        obtain ⟨a1, _, _⟩ := HB.out
        have b1 : Below wr.heap.size wr (wr.alloc (.cells #[.int .i64 x] 3)) := (Below.refl _ _).alloc (Nat.le_refl _) _
        refine ⟨?_, app_below (a1.trans (b1.mono a1.size)) (HA.out _).1 (Nat.le_refl _) hgrow⟩
        rw [HN.out.2]
        unfold OwI
        rw [List.length_append, Hbl.out, flatI_app]
        exact hown'
      have y0 : w4.cell? ⟨g, o + k, none⟩ = some (.int .i64 q) := (H4.out.2.cell (p := ⟨g, o + k, none⟩) HB.out.2.2).trans HB.out.2.1
      have HN1 : Hid (x + q + gap = bgE gap 0 (xs.take (k + 1))) := HN.out.1.symm
      clear hown' hgrow hlies hi hz0 hz1 hz2 HA HN x0
      go_wp2
      exact ⟨⟨k + 1, x + q + gap, by omega, by go_num, rfl, HN1.out, H4.out⟩, by simp [intOf]; omega⟩
    · obtain rfl : k = xs.length := by omega
      have HF : Hid (OwI w.heap.size wr u5 (bgs gap 0 xs) ∧ Below w.heap.size w wr) := by have := HK.out.2; rwa [List.take_length] at this
      obtain ⟨oc, cc, e, _, _⟩ := row_val HF.out.1
      subst e
      clear HK
      go_wp2
      go_ret
      exact ⟨_, rfl, HF⟩

/-- Two lists and an error, as the document makes them. -/
def AnsD (w : World) (xs ys : List Int) (er : Int) (e : Ending) (w' : World) : Prop := ∃ v u, e = .returned (.tuple #[v, u, .int .i64 er]) ∧ Hid (OwI w.heap.size w' v xs ∧ OwI w.heap.size w' u ys ∧ Below w.heap.size w w')
theorem sha_row (T : List Tk) {gap room : Int} : shaR T (max 0 (room - gap * ((T.length : Int) - 1))) = shaR T (rwM T gap room) := by
  by_cases h : T.length = 0
  · obtain rfl : T = [] := List.length_eq_zero_iff.1 h
    rw [shaR_nil, shaR_nil]
  · congr 1
    unfold rwM
    rw [show max ((T.length : Int) - 1) 0 = (T.length : Int) - 1 by omega]
    omega

set_option maxRecDepth 10000 in
set_option maxHeartbeats 2000000 in
theorem rRow_any (T : List Tk) (gap room : Int) (tv : Value) (w : World) (hT : TS w tv T) :
    Calls Tryz.prog 45 #[tv, .int .i64 gap, .int .i64 room] w fun e w' => AnsD w (rwL T gap room) (rwS T gap room) (rwE T gap room) e w' := by
  have HC := rcheck_tk T tv w hT
  have HTS : Hid (TS w tv T) := hT
  have H1 : Hid (∀ W, Calls Tryz.prog 69 #[.int .i64 gap] W fun e w' => e = .returned (.bool (sdB gap)) ∧ w' = W) := fun W => rgaps_any gap W
  have H2 : Hid (∀ W, Calls Tryz.prog 70 #[.int .i64 room] W fun e w' => e = .returned (.bool (rmB room)) ∧ w' = W) := fun W => rroom_any room W
  unfold rwS rwL rwE
  by_cases h0 : chT T = 0
  · rw [if_pos h0, if_pos h0]
    obtain ⟨hn, hk⟩ := chT_zero h0
    rw [h0] at HC
    clear h0
    cases hr : rwB gap room
    · have hr2 : sdB gap = false ∨ sdB gap = true ∧ rmB room = false := by
        unfold rwB at hr
        cases h1 : sdB gap
        · exact .inl rfl
        · rw [h1] at hr; exact .inr ⟨rfl, hr⟩
      clear hT hr hk
      rcases hr2 with h1 | ⟨h1, h2⟩
      · rw [h1] at H1
        clear h1
        go_enter Tryz.func45, Tryz.ntmps45
        go_wp2_with fail
        refine HC.mono ?_
        rintro e w1 ⟨rfl, hb⟩
        have HB : Hid (Below w.heap.size w w1) := hb
        clear HC hb
        go_wp2_with fail
        refine (H1.out _).mono ?_
        rintro e w2 ⟨rfl, rfl⟩
        go_wp2
        go_ret3
        exact ⟨_, _, rfl, OwI.nil _ _, OwI.nil _ _, HB.out⟩
      · rw [h1] at H1
        rw [h2] at H2
        clear h1 h2
        go_enter Tryz.func45, Tryz.ntmps45
        go_wp2_with fail
        refine HC.mono ?_
        rintro e w1 ⟨rfl, hb⟩
        have HB : Hid (Below w.heap.size w w1) := hb
        clear HC hb
        go_wp2_with fail
        refine (H1.out _).mono ?_
        rintro e w2 ⟨rfl, rfl⟩
        go_wp2_with fail
        refine (H2.out _).mono ?_
        rintro e w3 ⟨rfl, rfl⟩
        go_wp2
        go_ret3
        exact ⟨_, _, rfl, OwI.nil _ _, OwI.nil _ _, HB.out⟩
    · obtain ⟨h1, h2⟩ : sdB gap = true ∧ rmB room = true := by unfold rwB at hr; simpa using hr
      rw [h1] at H1
      rw [h2] at H2
      have hg := (sd_iff gap).1 h1
      have hrm := (rm_iff room).1 h2
      obtain ⟨m1, m2, m3, m4⟩ := rwM_bd hn hg hrm
      have hgl : -16384 ≤ gap * ((T.length : Int) - 1) ∧ gap * ((T.length : Int) - 1) ≤ 16777216 := by
        by_cases hz : T.length = 0
        · rw [hz]
          simp
          omega
        · rw [show max ((T.length : Int) - 1) 0 = (T.length : Int) - 1 by omega] at m3 m4
          omega
      obtain ⟨rm, Hrm⟩ : ∃ rm, Hid (rm = max 0 (room - gap * ((T.length : Int) - 1))) := ⟨_, rfl⟩
      have hrmb : 0 ≤ rm ∧ rm ≤ 16793600 := by have := Hrm.out; omega
      have hrz : rm ≤ 32768 ∨ T.length = 0 := by
        by_cases hz : T.length = 0
        · exact .inr hz
        · rw [show max ((T.length : Int) - 1) 0 = (T.length : Int) - 1 by omega] at m3
          left
          have := Hrm.out
          omega
      have HSh : Hid (∀ W, Below w.heap.size w W → Calls Tryz.prog 71 #[tv, .int .i64 rm] W fun e w' => ∃ v, e = .returned v ∧ Hid (OwI W.heap.size w' v (shaR T rm) ∧ Below W.heap.size W w')) := fun W hW => sharing_any T _ tv W (HTS.out.below hW) hn hk hrmb hrz
      have Hsr : Hid (shaR T rm = shaR T (rwM T gap room)) := by unfold Hid; rw [Hrm.out]; exact sha_row T
      rw [Hsr.out] at HSh
      have HBg : Hid (∀ v W, IS W v (shaR T (rwM T gap room)) → Calls Tryz.prog 72 #[v, .int .i64 gap] W fun e w' => ∃ u, e = .returned u ∧ Hid (OwI W.heap.size w' u (bgs gap 0 (shaR T (rwM T gap room))) ∧ Below W.heap.size W w')) := fun v W hv => rbegins_any _ gap v W hv (by rw [shaR_len hk]; exact hn) (shaR_bd hk hn m2) hg
      have hwl : IntKind.i64.wrap ((T.length : Int) - 1) = (T.length : Int) - 1 := by rw [IntKind.wrap_i64]; omega
      have hwm : IntKind.i64.wrap (gap * ((T.length : Int) - 1)) = gap * ((T.length : Int) - 1) := by rw [IntKind.wrap_i64]; omega
      have hwr : IntKind.i64.wrap (room - gap * ((T.length : Int) - 1)) = room - gap * ((T.length : Int) - 1) := by rw [IntKind.wrap_i64]; omega
      have hmx : max 0 (room - gap * ((T.length : Int) - 1)) = rm := Hrm.out.symm
      have hm1 : (if (0 : Int) < room - gap * ((T.length : Int) - 1) then room - gap * ((T.length : Int) - 1) else 0) = rm := by rw [Hrm.out]; split <;> omega
      have hm2 : (if gap * ((T.length : Int) - 1) < room then room - gap * ((T.length : Int) - 1) else 0) = rm := by rw [Hrm.out]; split <;> omega
      rw [show (if true = true then shaR T (rwM T gap room) else []) = shaR T (rwM T gap room) from rfl]
      obtain ⟨toa, tcp, rfl, _⟩ := hT
      generalize shaR T (rwM T gap room) = sl at *
      clear hr h1 h2 m1 m2 m3 m4 hk Hrm Hsr hg hrm hgl hrmb hrz
      go_enter Tryz.func45, Tryz.ntmps45
      go_wp2_with fail
      refine HC.mono ?_
      rintro e w1 ⟨rfl, hb⟩
      have HB : Hid (Below w.heap.size w w1) := hb
      clear HC hb
      go_wp2_with fail
      refine (H1.out _).mono ?_
      rintro e w2 ⟨rfl, rfl⟩
      go_wp2_with fail
      refine (H2.out _).mono ?_
      rintro e w3 ⟨rfl, rfl⟩
      go_wp2_with fail
      refine (HSh.out _ HB.out).mono ?_
      rintro e w5 ⟨v, rfl, H5⟩
      have HB5 : Hid (Below w.heap.size w w5 ∧ OwI w.heap.size w5 v sl) := ⟨HB.out.trans (H5.out.2.mono HB.out.size), H5.out.1.weaken HB.out.size⟩
      clear HB H5 HSh
      go_wp2_with fail
      refine (HBg.out v w5 HB5.out.2.is).mono ?_
      rintro e w6 ⟨u, rfl, H6⟩
      have HF : Hid (OwI w.heap.size w6 v sl ∧ OwI w.heap.size w6 u (bgs gap 0 sl) ∧ Below w.heap.size w w6) := by
        obtain ⟨k2, k3⟩ := H6.out
        exact ⟨HB5.out.2.below k3, k2.weaken HB5.out.1.size, HB5.out.1.trans (k3.mono HB5.out.1.size)⟩
      clear H6 HBg
      go_wp2
      go_ret3
      exact ⟨_, _, rfl, HF⟩
  · rw [if_neg h0, if_neg h0]
    obtain ⟨er, Her⟩ : ∃ er, Hid (er = chT T) := ⟨_, rfl⟩
    rw [← Her.out] at HC ⊢
    have hne : (er != 0) = true := by rw [Her.out]; simpa using h0
    have hne2 : (er == 0) = false := by rw [Her.out]; simpa using h0
    clear Her h0 hT
    go_enter Tryz.func45, Tryz.ntmps45
    go_wp2_with fail
    refine HC.mono ?_
    rintro e w1 ⟨rfl, hb⟩
    have HB : Hid (Below w.heap.size w w1) := hb
    clear HC hb
    go_wp2
    go_ret3
    exact ⟨_, _, rfl, OwI.nil _ _, OwI.nil _ _, HB.out⟩

end Go.Proofs.YthnhcphkpffkfaaGreat
