/-
  The document's calls: Share, Need, Most, Starts, Row.
-/
import Derived.Test.YtchjmmchflbfcaaXR
namespace Go.Proofs.Ytchjmmchflbfcaa
open Go.RowKit
attribute [local go_sem] ite_max ite_min

set_option maxHeartbeats 1000000 in
theorem rShare_any (T : List Tk) (room : Int) (tv : Value) (w : World) (hT : TS w tv T) :
    Calls Try.prog 17 #[tv, .int .i64 room] w fun e w' => AnsI w (shL T room) (shE T room) e w' := by
  have HC := rcheck_any T tv w hT
  have HTS : Hid (TS w tv T) := hT
  unfold shL shE
  by_cases h0 : chT T = 0
  · rw [if_pos h0, if_pos h0]
    obtain ⟨hn, hk⟩ := chT_zero h0
    rw [h0] at HC
    cases hr : rmB room
    · have HR := fun W => rroom_any room W
      rw [hr] at HR
      clear h0 hk hT
      go_enter Try.func17, Try.ntmps17
      go_wp2_with fail
      refine HC.mono ?_
      rintro e w1 ⟨rfl, hb⟩
      have HB : Hid (Below w.heap.size w w1) := hb
      clear HC hb
      go_wp2_with fail
      refine (HR _).mono ?_
      rintro e w2 ⟨rfl, rfl⟩
      go_wp2
      go_ret2
      exact ⟨_, rfl, OwI.nil _ _, HB.out⟩
    · have HR := fun W => rroom_any room W
      rw [hr] at HR
      have hrb := (rm_iff room).1 hr
      have HS : Hid (∀ W, Below w.heap.size w W → Calls Try.prog 36 #[tv, .int .i64 room] W fun e w' => ∃ v, e = .returned v ∧ Hid (OwI W.heap.size w' v (shaR T room) ∧ Below W.heap.size W w')) := fun W hW => sharing_any T room tv W (HTS.out.below hW) hn hk ⟨hrb.1, by omega⟩ (.inl hrb.2)
      clear h0 hk hT hr hrb
      go_enter Try.func17, Try.ntmps17
      go_wp2_with fail
      refine HC.mono ?_
      rintro e w1 ⟨rfl, hb⟩
      have HB : Hid (Below w.heap.size w w1) := hb
      clear HC hb
      go_wp2_with fail
      refine (HR _).mono ?_
      rintro e w2 ⟨rfl, rfl⟩
      go_wp2_with fail
      refine (HS.out _ HB.out).mono ?_
      rintro e w3 ⟨v, rfl, H3⟩
      have HF : Hid (OwI w.heap.size w3 v (shaR T room) ∧ Below w.heap.size w w3) := ⟨H3.out.1.weaken HB.out.size, HB.out.trans (H3.out.2.mono HB.out.size)⟩
      go_wp2
      go_ret2
      exact ⟨_, rfl, HF⟩
  · rw [if_neg h0, if_neg h0]
    obtain ⟨er, Her⟩ : ∃ er, Hid (er = chT T) := ⟨_, rfl⟩
    rw [← Her.out] at HC ⊢
    have hne : (er != 0) = true := by rw [Her.out]; simpa using h0
    have hne2 : (er == 0) = false := by rw [Her.out]; simpa using h0
    clear Her h0 hT
    go_enter Try.func17, Try.ntmps17
    go_wp2_with fail
    refine HC.mono ?_
    rintro e w1 ⟨rfl, hb⟩
    have HB : Hid (Below w.heap.size w w1) := hb
    clear HC hb
    go_wp2
    go_ret2
    exact ⟨_, rfl, OwI.nil _ _, HB.out⟩

set_option maxRecDepth 10000 in
set_option maxHeartbeats 4000000 in
theorem rNeed_any (T : List Tk) (tv : Value) (w : World) (hT : TS w tv T) :
    Calls Try.prog 19 #[tv] w fun e w' => e = .returned (.tuple #[.int .i64 (neN T), .int .i64 (chT T)]) ∧ Below w.heap.size w w' := by
  have HC := rcheck_any T tv w hT
  unfold neN
  by_cases h0 : chT T = 0
  · rw [if_pos h0]
    obtain ⟨hn, hk⟩ := chT_zero h0
    rw [h0] at HC ⊢
    obtain ⟨oa, cap, rfl, hc, hg⟩ := hT
    have HG : Hid (0 < T.length → ∃ g o, oa = some ⟨g, o, none⟩ ∧ g < w.heap.size ∧ ∀ i (h : i < T.length), TkAt w g (o + i * 3) T[i]) := hg
    have HK : Hid (∀ t ∈ T, okT t) := hk
    obtain ⟨R, HR⟩ : ∃ R : Int, Hid (R = mnS T) := ⟨_, rfl⟩
    rw [← HR.out]
    clear h0 hk hg
    go_enter Try.func19, Try.ntmps19
    go_wp2_with fail
    refine HC.mono ?_
    rintro e w1 ⟨rfl, hb⟩
    have HB : Hid (Below w.heap.size w w1) := hb
    clear HC hb
    go_wp2_with fail
    go_loopw [5, 6] (fun s i wr => ∃ (k : Nat) (x : Int), k ≤ T.length ∧ i = .int .i64 k ∧ s = .int .i64 x ∧ Hid (x = mnS (T.take k) ∧ Below w.heap.size w wr)) (fun _ i _ => T.length - (intOf i).toNat)
    case atStart => exact ⟨0, 0, Nat.zero_le _, rfl, rfl, rfl, HB.out⟩
    case round =>
      obtain ⟨k, x, hkl, rfl, rfl, HI⟩ := hrel
      clear HB
      by_cases hlt : k < T.length
      · have ik : (k : Int) < T.length := by omega
        obtain ⟨g, o, rfl, hg, hat⟩ := HG.out (by omega)
        have hx := (hat k hlt).below HI.out.2 hg
        have hbd := mnS_bd (T := T.take k) fun t ht => HK.out t (List.mem_of_mem_take ht)
        have hkt := HK.out T[k] (List.getElem_mem hlt)
        have hbx : 0 ≤ x ∧ x ≤ 16777216 := by
          rw [HI.out.1]
          have : (T.take k).length ≤ 1024 := by simp; omega
          omega
        have HN : Hid (x + T[k].mn = mnS (T.take (k + 1)) ∧ Below w.heap.size w wr) := ⟨by rw [← List.take_append_getElem hlt, mnS_snoc, HI.out.1], HI.out.2⟩
        obtain ⟨x0, x1, x2⟩ := hx
        obtain ⟨o1, o2, _, _, _⟩ := hkt
        clear hat HI hbd
        generalize T[k] = q at *
        have hw : IntKind.i64.wrap (x + q.mn) = x + q.mn := by rw [IntKind.wrap_i64]; omega
        go_wp2
        exact ⟨⟨k + 1, x + q.mn, by omega, by go_num, rfl, HN.out⟩, by simp [intOf]; omega⟩
      · obtain rfl : k = T.length := by omega
        have HF : Hid (x = R ∧ Below w.heap.size w wr) := ⟨by rw [HI.out.1, HR.out, List.take_length], HI.out.2⟩
        clear HI
        go_wp2
        go_ret2
        exact ⟨by rw [HF.out.1]; rfl, HF.out.2⟩
  · rw [if_neg h0]
    obtain ⟨er, Her⟩ : ∃ er, Hid (er = chT T) := ⟨_, rfl⟩
    rw [← Her.out] at HC ⊢
    have hne : (er != 0) = true := by rw [Her.out]; simpa using h0
    clear Her h0 hT
    go_enter Try.func19, Try.ntmps19
    go_wp2_with fail
    refine HC.mono ?_
    rintro e w1 ⟨rfl, hb⟩
    have HB : Hid (Below w.heap.size w w1) := hb
    clear HC hb
    go_wp2
    go_ret2
    exact ⟨rfl, HB.out⟩

set_option maxRecDepth 10000 in
set_option maxHeartbeats 4000000 in
theorem rMost_any (T : List Tk) (tv : Value) (w : World) (hT : TS w tv T) :
    Calls Try.prog 20 #[tv] w fun e w' => e = .returned (.tuple #[.int .i64 (moN T), .int .i64 (chT T)]) ∧ Below w.heap.size w w' := by
  have HC := rcheck_any T tv w hT
  unfold moN
  by_cases h0 : chT T = 0
  · rw [if_pos h0]
    obtain ⟨hn, hk⟩ := chT_zero h0
    rw [h0] at HC ⊢
    obtain ⟨oa, cap, rfl, hc, hg⟩ := hT
    have HG : Hid (0 < T.length → ∃ g o, oa = some ⟨g, o, none⟩ ∧ g < w.heap.size ∧ ∀ i (h : i < T.length), TkAt w g (o + i * 3) T[i]) := hg
    have HK : Hid (∀ t ∈ T, okT t) := hk
    obtain ⟨R, HR⟩ : ∃ R : Int, Hid (R = mosI T) := ⟨_, rfl⟩
    rw [← HR.out]
    clear h0 hk hg
    go_enter Try.func20, Try.ntmps20
    go_wp2_with fail
    refine HC.mono ?_
    rintro e w1 ⟨rfl, hb⟩
    have HB : Hid (Below w.heap.size w w1) := hb
    clear HC hb
    go_wp2_with fail
    go_loopw [5, 6] (fun s i wr => ∃ (k : Nat) (x : Int), k ≤ T.length ∧ i = .int .i64 k ∧ s = .int .i64 x ∧ Hid (x = topS (T.take k) ∧ anyB (T.take k) = false ∧ Below w.heap.size w wr)) (fun _ i _ => T.length - (intOf i).toNat)
    case atStart => exact ⟨0, 0, Nat.zero_le _, rfl, rfl, rfl, rfl, HB.out⟩
    case round =>
      obtain ⟨k, x, hkl, rfl, rfl, HI⟩ := hrel
      clear HB
      by_cases hlt : k < T.length
      · have ik : (k : Int) < T.length := by omega
        obtain ⟨g, o, rfl, hg, hat⟩ := HG.out (by omega)
        obtain ⟨x0, x1, x2⟩ := (hat k hlt).below HI.out.2.2 hg
        have hbd := topS_bd (T := T.take k) fun t ht => HK.out t (List.mem_of_mem_take ht)
        have hkt := HK.out T[k] (List.getElem_mem hlt)
        have hbx : 0 ≤ x ∧ x ≤ 16777216 := by
          rw [HI.out.1]
          have : (T.take k).length ≤ 1024 := by simp; omega
          omega
        have HN : Hid (topS (T.take (k + 1)) = x + topT T[k] ∧ anyB (T.take (k + 1)) = (!(T[k].gr == 0) && T[k].mx == 0)) := by
          unfold Hid
          rw [← List.take_append_getElem hlt, topS_snoc, anyB_snoc, HI.out.1, HI.out.2.1]
          exact ⟨rfl, rfl⟩
        have HT : Hid (anyB (T.take (k + 1)) = true → R = -1) := fun h => by rw [HR.out]; unfold mosI; rw [if_pos (anyB_take h)]
        have HBw : Hid (Below w.heap.size w wr) := HI.out.2.2
        obtain ⟨o1, o2, o3, o4, o5⟩ := hkt
        clear hat HI hbd
        generalize T[k] = q at *
        cases hgr : (q.gr == 0)
        · have hg0 : q.gr ≠ 0 := by simpa using hgr
          cases hm : (q.mx == 0)
          · have hm0 : q.mx ≠ 0 := by simpa using hm
            have HE : Hid (x + q.mx = topS (T.take (k + 1)) ∧ anyB (T.take (k + 1)) = false) := by
              refine ⟨?_, by rw [HN.out.2, hgr, hm]; rfl⟩
              rw [HN.out.1]
              unfold topT
              rw [if_neg hg0]
            have hw : IntKind.i64.wrap (x + q.mx) = x + q.mx := by rw [IntKind.wrap_i64]; omega
            clear HN HT hg0 hm0 o3
            go_wp2
            exact ⟨⟨k + 1, x + q.mx, by omega, by go_num, rfl, HE.out.1, HE.out.2, HBw.out⟩, by simp [intOf]; omega⟩
          · have hR : Hid (R = -1) := HT.out (by rw [HN.out.2, hgr, hm]; rfl)
            clear HN HT hg0 o3
            go_wp2
            go_ret2
            exact ⟨by rw [hR.out]; rfl, HBw.out⟩
        · have hg0 : q.gr = 0 := by simpa using hgr
          have HE : Hid (x + q.mn = topS (T.take (k + 1)) ∧ anyB (T.take (k + 1)) = false) := by
            refine ⟨?_, by rw [HN.out.2, hgr]; rfl⟩
            rw [HN.out.1]
            unfold topT
            rw [if_pos hg0]
          have hw : IntKind.i64.wrap (x + q.mn) = x + q.mn := by rw [IntKind.wrap_i64]; omega
          clear HN HT hg0 o3
          go_wp2
          exact ⟨⟨k + 1, x + q.mn, by omega, by go_num, rfl, HE.out.1, HE.out.2, HBw.out⟩, by simp [intOf]; omega⟩
      · obtain rfl : k = T.length := by omega
        have HE : Hid (x = R ∧ Below w.heap.size w wr) := by
          obtain ⟨h1, h2, h3⟩ := HI.out
          rw [List.take_length] at h1 h2
          refine ⟨?_, h3⟩
          rw [HR.out]
          unfold mosI
          rw [if_neg (by rw [h2]; decide), h1]
        clear HI
        go_wp2
        go_ret2
        exact ⟨by rw [HE.out.1]; rfl, HE.out.2⟩
  · rw [if_neg h0]
    obtain ⟨er, Her⟩ : ∃ er, Hid (er = chT T) := ⟨_, rfl⟩
    rw [← Her.out] at HC ⊢
    have hne : (er != 0) = true := by rw [Her.out]; simpa using h0
    clear Her h0 hT
    go_enter Try.func20, Try.ntmps20
    go_wp2_with fail
    refine HC.mono ?_
    rintro e w1 ⟨rfl, hb⟩
    have HB : Hid (Below w.heap.size w w1) := hb
    clear HC hb
    go_wp2
    go_ret2
    exact ⟨rfl, HB.out⟩

set_option maxRecDepth 10000 in
set_option maxHeartbeats 4000000 in
theorem rbegins_any (xs : List Int) (gap : Int) (v : Value) (w : World) (hv : IS w v xs) (hn : xs.length ≤ 1024) (hx : ∀ x ∈ xs, 0 ≤ x ∧ x ≤ 16777216) (hg : 0 ≤ gap ∧ gap ≤ 16384) :
    Calls Try.prog 38 #[v, .int .i64 gap] w fun e w' => ∃ u, e = .returned u ∧ Hid (OwI w.heap.size w' u (bgs gap 0 xs) ∧ Below w.heap.size w w') := by
  obtain ⟨oa, cap, rfl, hc, hgg⟩ := hv
  have HG : Hid (0 < xs.length → ∃ g o, oa = some ⟨g, o, none⟩ ∧ g < w.heap.size ∧ ∀ i (h : i < xs.length), w.cell? ⟨g, o + i, none⟩ = some (.int .i64 xs[i])) := hgg
  have HX : Hid (∀ x ∈ xs, 0 ≤ x ∧ x ≤ 16777216) := hx
  obtain ⟨i0, hi, hz0, hz1, hz2⟩ := info_parts info_int
  have HI : Hid (Try.prog.info? 3 = some i0 ∧ i0.zero = some (.int .i64 0) ∧ i0.size = 1 ∧ i0.bytes = 8) := ⟨hi, hz0, hz1, hz2⟩
  clear hgg hx hi hz0 hz1 hz2
  go_enter Try.func38, Try.ntmps38
  go_wp2_with fail
  go_loopw [5, 6, 7] (fun u s i wr => ∃ (k : Nat) (x : Int), k ≤ xs.length ∧ i = .int .i64 k ∧ s = .int .i64 x ∧ Hid (x = bgE gap 0 (xs.take k) ∧ OwI w.heap.size wr u (bgs gap 0 (xs.take k)) ∧ Below w.heap.size w wr)) (fun _ _ i _ => xs.length - (intOf i).toNat)
  case atStart => exact ⟨0, 0, Nat.zero_le _, rfl, rfl, by simp [bgE], OwI.nil _ _, Below.refl _ _⟩
  case round =>
    obtain ⟨k, x, hk, rfl, rfl, HK⟩ := hrel
    by_cases hlt : k < xs.length
    · have ik : (k : Int) < xs.length := by omega
      obtain ⟨g, o, rfl, hgl, hat⟩ := HG.out (by omega)
      have x0 := (HK.out.2.2.cell (p := ⟨g, o + k, none⟩) hgl).trans (hat k hlt)
      have hbx := HX.out xs[k] (List.getElem_mem hlt)
      have hbe := bgE_bd gap 16777216 hg.1 (xs.take k) 0 fun y hy => HX.out y (List.mem_of_mem_take hy)
      have hlen : ((xs.take k).length : Int) ≤ 1024 := by simp; omega
      have hb1 : 0 ≤ x ∧ x ≤ 17196646400 := by
        rw [HK.out.1]
        have : ((xs.take k).length : Int) * (16777216 + gap) ≤ 1024 * 16793600 := Int.mul_le_mul hlen (by omega) (by omega) (by omega)
        omega
      have Hbl : Hid ((bgs gap 0 (xs.take k)).length = k) := by unfold Hid; rw [bgs_len]; simp; omega
      have ho : wr.ownsRow w.heap.size 3 1 u5 k (flatI (bgs gap 0 (xs.take k))) := by have h := HK.out.2.1; unfold OwI at h; rwa [Hbl.out] at h
      have HA : Hid (∀ o, (wr.alloc o).ownsRow w.heap.size 3 1 u5 k (flatI (bgs gap 0 (xs.take k))) ∧ w.heap.size ≤ (wr.alloc o).heap.size) := fun o => ⟨row_below ho ((Below.refl _ _).alloc (Nat.le_refl _) _), by have := HK.out.2.2.size; simp; omega⟩
      have HN : Hid (bgE gap 0 (xs.take (k + 1)) = x + xs[k] + gap ∧ bgs gap 0 (xs.take (k + 1)) = bgs gap 0 (xs.take k) ++ [x]) := by
        unfold Hid
        rw [← List.take_append_getElem hlt, bgE_snoc, bgs_snoc, HK.out.1]
        exact ⟨rfl, rfl⟩
      have HB : Hid (Below w.heap.size w wr ∧ w.cell? ⟨g, o + k, none⟩ = some (.int .i64 xs[k]) ∧ g < w.heap.size) := ⟨HK.out.2.2, hat k hlt, hgl⟩
      have hc3 : Hid (k + 1 ≤ maxLen) := by unfold Hid maxLen; omega
      have hc4 : Hid ((k + 1) * 8 ≤ 140737488355328) := by unfold Hid; omega
      obtain ⟨hi, hz0, hz1, hz2⟩ := HI.out
      clear HK hat hbe hlen ho
      generalize xs[k] = q at *
      generalize bgs gap 0 (xs.take k) = bl at *
      have hw1 : IntKind.i64.wrap (x + q) = x + q := by rw [IntKind.wrap_i64]; omega
      have hw2 : IntKind.i64.wrap (x + q + gap) = x + q + gap := by rw [IntKind.wrap_i64]; omega
      go_wp2_with (at_builtin; refine wpList_append_lies _ rfl _ _ 22 rfl w.heap.size 3 i0 (.int .i64 0) 1 8 Try.underlying22 hi hz0 hz1 hz2 rfl (by decide) u5 k (flatI bl) rfl (HA.out _).1 _ 1 1 [.int .i64 x] rfl rfl (cell_oneB _ _ _ _ rfl) (one1 _) (by decide) hc3.out hc4.out (HA.out _).2 _ rfl ?_)
      intro g4 cap4 w4 hown' hgrow hlies _
      have H4 : Hid (OwI w.heap.size w4 (.slice (some ⟨g4, 0, none⟩) (k + 1) cap4) (bgs gap 0 (xs.take (k + 1))) ∧ Below w.heap.size w w4) := by
        obtain ⟨a1, _, _⟩ := HB.out
        have b1 : Below wr.heap.size wr (wr.alloc (.cells #[.int .i64 x] 3)) := (Below.refl _ _).alloc (Nat.le_refl _) _
        refine ⟨?_, app_below (a1.trans (b1.mono a1.size)) (HA.out _).1 (Nat.le_refl _) hgrow⟩
        rw [HN.out.2]
        unfold OwI
        rw [List.length_append, Hbl.out, flatI_app]
        exact hown'
      have y0 : w4.cell? ⟨g, o + k, none⟩ = some (.int .i64 q) := (H4.out.2.cell (p := ⟨g, o + k, none⟩) HB.out.2.2).trans HB.out.2.1
      have HN1 : Hid (x + q + gap = bgE gap 0 (xs.take (k + 1))) := HN.out.1.symm
      clear hown' hgrow hlies hi hz0 hz1 hz2 HA HN x0
      go_wp2
      exact ⟨⟨k + 1, x + q + gap, by omega, by go_num, rfl, HN1.out, H4.out⟩, by simp [intOf]; omega⟩
    · obtain rfl : k = xs.length := by omega
      have HF : Hid (OwI w.heap.size wr u5 (bgs gap 0 xs) ∧ Below w.heap.size w wr) := by have := HK.out.2; rwa [List.take_length] at this
      obtain ⟨oc, cc, e, _, _⟩ := row_val HF.out.1
      subst e
      clear HK
      go_wp2
      go_ret
      exact ⟨_, rfl, HF⟩

set_option maxRecDepth 10000 in
set_option maxHeartbeats 4000000 in
theorem rStarts_any (xs : List Int) (gap : Int) (v : Value) (w : World) (hv : IS w v xs) :
    Calls Try.prog 22 #[v, .int .i64 gap] w fun e w' => AnsI w (stL xs gap) (stE xs gap) e w' := by
  have HIS : Hid (IS w v xs) := hv
  obtain ⟨oa, cap, rfl, hc, hgg⟩ := hv
  have HG : Hid (0 < xs.length → ∃ g o, oa = some ⟨g, o, none⟩ ∧ g < w.heap.size ∧ ∀ i (h : i < xs.length), w.cell? ⟨g, o + i, none⟩ = some (.int .i64 xs[i])) := hgg
  clear hgg
  have HB : Hid (Below w.heap.size w w) := Below.refl _ _
  by_cases h2 : 1024 < xs.length
  · have e1 : chS xs = 4 := by unfold chS; rw [if_pos h2]
    have HE : Hid (stL xs gap = [] ∧ stE xs gap = 4) := by unfold Hid stL stE; rw [e1]; exact ⟨rfl, rfl⟩
    rw [HE.out.1, HE.out.2]
    have i2 : (1024 : Int) < xs.length := by omega
    clear e1 HE
    go_enter Try.func22, Try.ntmps22
    go_wp2
    go_ret2
    exact ⟨_, rfl, OwI.nil _ _, HB.out⟩
  have i2 : ¬ (1024 : Int) < xs.length := by omega
  obtain ⟨RL, RE, HRR⟩ : ∃ RL RE, Hid (RL = stL xs gap ∧ RE = stE xs gap) := ⟨stL xs gap, stE xs gap, rfl, rfl⟩
  rw [← HRR.out.1, ← HRR.out.2]
  have HM : Hid (∀ n W, Calls Try.prog 35 #[.int .i64 n] W fun e w' => e = .returned (.bool (rmB n)) ∧ w' = W) := fun n W => rroom_any n W
  have HGa : Hid (∀ W, Calls Try.prog 37 #[.int .i64 gap] W fun e w' => e = .returned (.bool (sdB gap)) ∧ w' = W) := fun W => rgaps_any gap W
  go_enter Try.func22, Try.ntmps22
  go_wp2_with fail
  go_loopw [6] (fun i wr => ∃ k : Nat, k ≤ xs.length ∧ i = .int .i64 k ∧ wr = w ∧ Hid ((xs.take k).all rmB = true)) (fun i _ => xs.length - (intOf i).toNat)
  case atStart => exact ⟨0, Nat.zero_le _, rfl, rfl, rfl⟩
  case round =>
    obtain ⟨k, hk, rfl, rfl, HK⟩ := hrel
    by_cases hlt : k < xs.length
    · have ik : (k : Int) < xs.length := by omega
      obtain ⟨g, o, rfl, hg, hat⟩ := HG.out (by omega)
      have x0 := hat k hlt
      have HT : Hid ((rmB xs[k] = true → (xs.take (k + 1)).all rmB = true) ∧ (rmB xs[k] = false → RL = [] ∧ RE = 2)) := ⟨fun h => take_all hlt HK.out h, fun h => by
        have e1 : chS xs = 2 := by unfold chS; rw [if_neg h2, if_neg (by rw [all_not hlt h]; decide)]
        rw [HRR.out.1, HRR.out.2]
        unfold stL stE
        rw [e1]
        exact ⟨rfl, rfl⟩⟩
      clear hat HK
      generalize xs[k] = x at *
      go_wp2_with fail
      refine (HM.out _ _).mono ?_
      rintro e w1 ⟨rfl, rfl⟩
      cases hq : rmB x
      · have hR : Hid (RL = [] ∧ RE = 2) := HT.out.2 hq
        clear HT
        go_wp2
        go_ret2
        exact ⟨_, by rw [hR.out.2]; rfl, by rw [hR.out.1]; exact OwI.nil _ _, HB.out⟩
      · have HA : Hid ((xs.take (k + 1)).all rmB = true) := HT.out.1 hq
        clear HT
        go_wp2
        exact ⟨⟨k + 1, by omega, by go_num, trivial, HA.out⟩, by simp [intOf]; omega⟩
    · obtain rfl : k = xs.length := by omega
      have e1 : chS xs = 0 := by have := HK.out; rw [List.take_length] at this; unfold chS; rw [if_neg h2, if_pos this]
      have HR1 : Hid ((sdB gap = false → RL = [] ∧ RE = 2) ∧ (sdB gap = true → RL = bgs gap 0 xs ∧ RE = 0)) := by
        rw [HRR.out.1, HRR.out.2]
        unfold stL stE
        rw [if_pos e1, if_pos e1]
        exact ⟨fun h => by rw [h]; exact ⟨rfl, rfl⟩, fun h => by rw [h]; exact ⟨rfl, rfl⟩⟩
      obtain ⟨hn, hxb⟩ := chS_zero e1
      have HBg : Hid (sdB gap = true → Calls Try.prog 38 #[.slice oa xs.length cap, .int .i64 gap] wr fun e w' => ∃ u, e = .returned u ∧ Hid (OwI wr.heap.size w' u (bgs gap 0 xs) ∧ Below wr.heap.size wr w')) := fun h => rbegins_any xs gap _ wr HIS.out hn (fun x hx => by have := hxb x hx; omega) ((sd_iff gap).1 h)
      clear HK e1 hxb
      go_wp2_with fail
      refine (HGa.out _).mono ?_
      rintro e w1 ⟨rfl, rfl⟩
      cases hs : sdB gap
      · have hR := HR1.out.1 hs
        have HR : Hid (RL = [] ∧ RE = 2) := hR
        clear hR HR1
        go_wp2
        go_ret2
        exact ⟨_, by rw [HR.out.2]; rfl, by rw [HR.out.1]; exact OwI.nil _ _, HB.out⟩
      · have HR : Hid (RL = bgs gap 0 xs ∧ RE = 0) := HR1.out.2 hs
        have HC := HBg.out hs
        clear HR1 HBg
        go_wp2_with fail
        refine HC.mono ?_
        rintro e w3 ⟨u, rfl, H3⟩
        go_wp2
        go_ret2
        exact ⟨_, by rw [HR.out.2]; rfl, by rw [HR.out.1]; exact H3.out⟩

/-- Two lists and an error, as the document makes them. -/
def AnsD (w : World) (xs ys : List Int) (er : Int) (e : Ending) (w' : World) : Prop := ∃ v u, e = .returned (.tuple #[v, u, .int .i64 er]) ∧ Hid (OwI w.heap.size w' v xs ∧ OwI w.heap.size w' u ys ∧ Below w.heap.size w w')
theorem sha_row (T : List Tk) {gap room : Int} : shaR T (max 0 (room - gap * ((T.length : Int) - 1))) = shaR T (rwM T gap room) := by
  by_cases h : T.length = 0
  · obtain rfl : T = [] := List.length_eq_zero_iff.1 h
    rw [shaR_nil, shaR_nil]
  · congr 1
    unfold rwM
    rw [show max ((T.length : Int) - 1) 0 = (T.length : Int) - 1 by omega]
    omega

set_option maxRecDepth 10000 in
set_option maxHeartbeats 2000000 in
theorem rRow_any (T : List Tk) (gap room : Int) (tv : Value) (w : World) (hT : TS w tv T) :
    Calls Try.prog 23 #[tv, .int .i64 gap, .int .i64 room] w fun e w' => AnsD w (rwL T gap room) (rwS T gap room) (rwE T gap room) e w' := by
  have HC := rcheck_any T tv w hT
  have HTS : Hid (TS w tv T) := hT
  have H1 : Hid (∀ W, Calls Try.prog 37 #[.int .i64 gap] W fun e w' => e = .returned (.bool (sdB gap)) ∧ w' = W) := fun W => rgaps_any gap W
  have H2 : Hid (∀ W, Calls Try.prog 35 #[.int .i64 room] W fun e w' => e = .returned (.bool (rmB room)) ∧ w' = W) := fun W => rroom_any room W
  unfold rwS rwL rwE
  by_cases h0 : chT T = 0
  · rw [if_pos h0, if_pos h0]
    obtain ⟨hn, hk⟩ := chT_zero h0
    rw [h0] at HC
    clear h0
    cases hr : rwB gap room
    · have hr2 : sdB gap = false ∨ sdB gap = true ∧ rmB room = false := by
        unfold rwB at hr
        cases h1 : sdB gap
        · exact .inl rfl
        · rw [h1] at hr; exact .inr ⟨rfl, hr⟩
      clear hT hr hk
      rcases hr2 with h1 | ⟨h1, h2⟩
      · rw [h1] at H1
        clear h1
        go_enter Try.func23, Try.ntmps23
        go_wp2_with fail
        refine HC.mono ?_
        rintro e w1 ⟨rfl, hb⟩
        have HB : Hid (Below w.heap.size w w1) := hb
        clear HC hb
        go_wp2_with fail
        refine (H1.out _).mono ?_
        rintro e w2 ⟨rfl, rfl⟩
        go_wp2
        go_ret3
        exact ⟨_, _, rfl, OwI.nil _ _, OwI.nil _ _, HB.out⟩
      · rw [h1] at H1
        rw [h2] at H2
        clear h1 h2
        go_enter Try.func23, Try.ntmps23
        go_wp2_with fail
        refine HC.mono ?_
        rintro e w1 ⟨rfl, hb⟩
        have HB : Hid (Below w.heap.size w w1) := hb
        clear HC hb
        go_wp2_with fail
        refine (H1.out _).mono ?_
        rintro e w2 ⟨rfl, rfl⟩
        go_wp2_with fail
        refine (H2.out _).mono ?_
        rintro e w3 ⟨rfl, rfl⟩
        go_wp2
        go_ret3
        exact ⟨_, _, rfl, OwI.nil _ _, OwI.nil _ _, HB.out⟩
    · obtain ⟨h1, h2⟩ : sdB gap = true ∧ rmB room = true := by unfold rwB at hr; simpa using hr
      rw [h1] at H1
      rw [h2] at H2
      have hg := (sd_iff gap).1 h1
      have hrm := (rm_iff room).1 h2
      obtain ⟨m1, m2, m3, m4⟩ := rwM_bd hn hg hrm
      have hgl : -16384 ≤ gap * ((T.length : Int) - 1) ∧ gap * ((T.length : Int) - 1) ≤ 16777216 := by
        by_cases hz : T.length = 0
        · rw [hz]
          simp
          omega
        · rw [show max ((T.length : Int) - 1) 0 = (T.length : Int) - 1 by omega] at m3 m4
          omega
      obtain ⟨rm, Hrm⟩ : ∃ rm, Hid (rm = max 0 (room - gap * ((T.length : Int) - 1))) := ⟨_, rfl⟩
      have hrmb : 0 ≤ rm ∧ rm ≤ 16793600 := by have := Hrm.out; omega
      have hrz : rm ≤ 32768 ∨ T.length = 0 := by
        by_cases hz : T.length = 0
        · exact .inr hz
        · rw [show max ((T.length : Int) - 1) 0 = (T.length : Int) - 1 by omega] at m3
          left
          have := Hrm.out
          omega
      have HSh : Hid (∀ W, Below w.heap.size w W → Calls Try.prog 36 #[tv, .int .i64 rm] W fun e w' => ∃ v, e = .returned v ∧ Hid (OwI W.heap.size w' v (shaR T rm) ∧ Below W.heap.size W w')) := fun W hW => sharing_any T _ tv W (HTS.out.below hW) hn hk hrmb hrz
      have Hsr : Hid (shaR T rm = shaR T (rwM T gap room)) := by unfold Hid; rw [Hrm.out]; exact sha_row T
      rw [Hsr.out] at HSh
      have HBg : Hid (∀ v W, IS W v (shaR T (rwM T gap room)) → Calls Try.prog 38 #[v, .int .i64 gap] W fun e w' => ∃ u, e = .returned u ∧ Hid (OwI W.heap.size w' u (bgs gap 0 (shaR T (rwM T gap room))) ∧ Below W.heap.size W w')) := fun v W hv => rbegins_any _ gap v W hv (by rw [shaR_len hk]; exact hn) (shaR_bd hk hn m2) hg
      have hwl : IntKind.i64.wrap ((T.length : Int) - 1) = (T.length : Int) - 1 := by rw [IntKind.wrap_i64]; omega
      have hwm : IntKind.i64.wrap (gap * ((T.length : Int) - 1)) = gap * ((T.length : Int) - 1) := by rw [IntKind.wrap_i64]; omega
      have hwr : IntKind.i64.wrap (room - gap * ((T.length : Int) - 1)) = room - gap * ((T.length : Int) - 1) := by rw [IntKind.wrap_i64]; omega
      have hmx : max 0 (room - gap * ((T.length : Int) - 1)) = rm := Hrm.out.symm
      have hm1 : (if (0 : Int) < room - gap * ((T.length : Int) - 1) then room - gap * ((T.length : Int) - 1) else 0) = rm := by rw [Hrm.out]; split <;> omega
      have hm2 : (if gap * ((T.length : Int) - 1) < room then room - gap * ((T.length : Int) - 1) else 0) = rm := by rw [Hrm.out]; split <;> omega
      rw [show (if true = true then shaR T (rwM T gap room) else []) = shaR T (rwM T gap room) from rfl]
      obtain ⟨toa, tcp, rfl, _⟩ := hT
      generalize shaR T (rwM T gap room) = sl at *
      clear hr h1 h2 m1 m2 m3 m4 hk Hrm Hsr hg hrm hgl hrmb hrz
      go_enter Try.func23, Try.ntmps23
      go_wp2_with fail
      refine HC.mono ?_
      rintro e w1 ⟨rfl, hb⟩
      have HB : Hid (Below w.heap.size w w1) := hb
      clear HC hb
      go_wp2_with fail
      refine (H1.out _).mono ?_
      rintro e w2 ⟨rfl, rfl⟩
      go_wp2_with fail
      refine (H2.out _).mono ?_
      rintro e w3 ⟨rfl, rfl⟩
      go_wp2_with fail
      refine (HSh.out _ HB.out).mono ?_
      rintro e w5 ⟨v, rfl, H5⟩
      have HB5 : Hid (Below w.heap.size w w5 ∧ OwI w.heap.size w5 v sl) := ⟨HB.out.trans (H5.out.2.mono HB.out.size), H5.out.1.weaken HB.out.size⟩
      clear HB H5 HSh
      go_wp2_with fail
      refine (HBg.out v w5 HB5.out.2.is).mono ?_
      rintro e w6 ⟨u, rfl, H6⟩
      have HF : Hid (OwI w.heap.size w6 v sl ∧ OwI w.heap.size w6 u (bgs gap 0 sl) ∧ Below w.heap.size w w6) := by
        obtain ⟨k2, k3⟩ := H6.out
        exact ⟨HB5.out.2.below k3, k2.weaken HB5.out.1.size, HB5.out.1.trans (k3.mono HB5.out.1.size)⟩
      clear H6 HBg
      go_wp2
      go_ret3
      exact ⟨_, _, rfl, HF⟩
  · rw [if_neg h0, if_neg h0]
    obtain ⟨er, Her⟩ : ∃ er, Hid (er = chT T) := ⟨_, rfl⟩
    rw [← Her.out] at HC ⊢
    have hne : (er != 0) = true := by rw [Her.out]; simpa using h0
    have hne2 : (er == 0) = false := by rw [Her.out]; simpa using h0
    clear Her h0 hT
    go_enter Try.func23, Try.ntmps23
    go_wp2_with fail
    refine HC.mono ?_
    rintro e w1 ⟨rfl, hb⟩
    have HB : Hid (Below w.heap.size w w1) := hb
    clear HC hb
    go_wp2
    go_ret3
    exact ⟨_, _, rfl, OwI.nil _ _, OwI.nil _ _, HB.out⟩

end Go.Proofs.Ytchjmmchflbfcaa
