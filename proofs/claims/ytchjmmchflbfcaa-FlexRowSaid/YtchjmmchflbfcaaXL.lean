/-
  FlexRow: in a row none lie over one another; the end is within the room.
-/
import Derived.Test.YtchjmmchflbfcaaXJ
namespace Go.Proofs.Ytchjmmchflbfcaa
open Go.RowKit
attribute [local go_sem] ite_max ite_min

def sumJ : List Int → Int
  | [] => 0
  | x :: l => x + sumJ l
theorem sumJ_o : ∀ R : List Ce, sumJ (R.map (·.o)) = sumO R
  | [] => rfl
  | c :: R => by rw [List.map_cons, sumJ, sumO, sumJ_o R]
theorem bgE_sum (gap : Int) : ∀ (xs : List Int) (a : Int), bgE gap a xs = a + sumJ xs + xs.length * gap
  | [], a => by simp [bgE, sumJ]
  | x :: l, a => by
    rw [bgE, bgE_sum gap l, sumJ, List.length_cons, Int.natCast_add, Int.add_mul, Int.natCast_one, Int.one_mul]
    omega
theorem bgs_at (gap : Int) : ∀ (xs : List Int) (a : Int) (i : Nat) (h : i < (bgs gap a xs).length), (bgs gap a xs)[i] = bgE gap a (xs.take i)
  | [], _, i, h => absurd h (by simp [bgs])
  | x :: l, a, 0, _ => rfl
  | x :: l, a, i + 1, h => by
    have h' : i < (bgs gap (a + x + gap) l).length := by rw [bgs_len] at h ⊢; simpa using h
    have := bgs_at gap l (a + x + gap) i h'
    simpa [bgs, bgE] using this
theorem sha_le {T : List Tk} (hk : ∀ t ∈ T, okT t) (room : Int) : sumJ (shaR T room) ≤ max (mnS T) room := by
  unfold shaR
  rw [sumJ_o, sha_sum hk room]
  split <;> omega
theorem sha_min {T : List Tk} (hk : ∀ t ∈ T, okT t) (room : Int) : ∀ i (h : i < T.length) (h2 : i < (shaR T room).length), T[i].mn ≤ (shaR T room)[i] := by
  have htk := sha_tk hk room
  have hl : (shaC T room).length = T.length := by have := congrArg List.length htk; simpa using this
  intro i h h2
  have e1 : T[i] = ((shaC T room)[i]'(by omega)).t := by
    have : T[i] = ((shaC T room).map (·.t))[i]'(by simp; omega) := by simp only [htk]
    rw [this, List.getElem_map]
  have e2 : (shaR T room)[i] = ((shaC T room)[i]'(by omega)).o := List.getElem_map (fun c : Ce => c.o)
  rw [e1, e2]
  exact (sha_lo hk room _ (List.getElem_mem _)).1
/-- The end of a row. -/
theorem row_end {T : List Tk} (hk : ∀ t ∈ T, okT t) {gap room : Int} (hg : 0 ≤ gap) (hn : 0 < T.length) : bgE gap 0 (shaR T (rwM T gap room)) - gap ≤ max room (mnS T + gap * max 0 ((T.length : Int) - 1)) := by
  have h1 := sha_le hk (rwM T gap room)
  have h2 := shaR_len hk (rwM T gap room)
  rw [bgE_sum, h2]
  have e : (T.length : Int) * gap = gap * max 0 ((T.length : Int) - 1) + gap := by
    have : max 0 ((T.length : Int) - 1) = (T.length : Int) - 1 := by omega
    rw [this, Int.mul_sub, Int.mul_one, Int.mul_comm gap]
    omega
  have e2 : rwM T gap room = room - min room (gap * max 0 ((T.length : Int) - 1)) := by
    unfold rwM
    rw [show max ((T.length : Int) - 1) 0 = max 0 ((T.length : Int) - 1) by omega]
  have h3 : 0 ≤ mnS T := (mnS_bd hk).1
  rw [e2] at h1 ⊢
  have h4 : 0 ≤ gap * max 0 ((T.length : Int) - 1) := Int.mul_nonneg hg (by omega)
  omega

set_option maxRecDepth 10000 in
set_option maxHeartbeats 8000000 in
theorem row_walk (T : List Tk) (gap room : Int) (tv : Value) (w : World) (hT : TS w tv T) (hlen : T.length ≤ 9223372036854775807) :
    Calls Try.prog 7 #[tv, .int .i64 gap, .int .i64 room] w fun e w' => e = .returned (.bool true) ∧ Below w.heap.size w w' := by
  have HAl := alive_any w
  have HTS : Hid (TS w tv T) := hT
  obtain ⟨oa, cap, rfl, hc, hg⟩ := hT
  by_cases h300 : 2000 < T.length
  · have i300 : (2000 : Int) < T.length := by omega
    clear hg
    go_enter Try.func7, Try.ntmps7
    go_wp2_with fail
    refine HAl.mono ?_
    rintro e w1 ⟨rfl, hb⟩
    have HB : Hid (Below w.heap.size w w1) := hb
    clear hb HAl
    go_wp2
    go_ret
    exact ⟨rfl, HB.out⟩
  have i300 : ¬ (2000 : Int) < T.length := by omega
  have HRo : Hid (∀ W, Below w.heap.size w W → Calls Try.prog 13 #[.slice oa T.length cap, .int .i64 gap, .int .i64 room] W fun e w' => AnsR W (rwL T gap room) (rwS T gap room) (rwE T gap room) e w') := fun W hW => Row_any T gap room _ W (HTS.out.below hW)
  have HNe : Hid (∀ W, Below w.heap.size w W → Calls Try.prog 10 #[.slice oa T.length cap] W fun e w' => e = .returned (.tuple #[.int .i64 (neN T), .int .i64 (chT T)]) ∧ Below W.heap.size W w') := fun W hW => Need_any T _ W (HTS.out.below hW)
  have HG : Hid (0 < T.length → ∃ g o, oa = some ⟨g, o, none⟩ ∧ g < w.heap.size ∧ ∀ i (h : i < T.length), TkAt w g (o + i * 3) T[i]) := hg
  clear hg HTS
  by_cases hE : rwE T gap room = 0
  · have h0 : chT T = 0 ∧ rwB gap room = true := by
      unfold rwE at hE
      by_cases c : chT T = 0
      · rw [if_pos c] at hE
        cases d : rwB gap room
        · rw [d] at hE; exact absurd hE (by decide)
        · exact ⟨c, rfl⟩
      · rw [if_neg c] at hE; exact absurd hE c
    obtain ⟨hn, hk⟩ := chT_zero h0.1
    obtain ⟨hgb, hrb⟩ : sdB gap = true ∧ rmB room = true := by have := h0.2; unfold rwB at this; simpa using this
    have hgp := (sd_iff gap).1 hgb
    have hrm := (rm_iff room).1 hrb
    have eL : rwL T gap room = shaR T (rwM T gap room) := by unfold rwL; rw [if_pos h0.1, if_pos h0.2]
    have eS : rwS T gap room = bgs gap 0 (shaR T (rwM T gap room)) := by unfold rwS; rw [eL]
    have eN : neN T = mnS T := by unfold neN; rw [if_pos h0.1]
    obtain ⟨m1, m2, m3, m4⟩ := rwM_bd hn hgp hrm
    have HMi : Hid (∀ i (h : i < T.length) (h2 : i < (shaR T (rwM T gap room)).length), T[i].mn ≤ (shaR T (rwM T gap room))[i]) := sha_min hk _
    have HXb : Hid (∀ x ∈ shaR T (rwM T gap room), 0 ≤ x ∧ x ≤ 16777216) := shaR_bd hk hn m2
    have HEn : Hid (0 < T.length → bgE gap 0 (shaR T (rwM T gap room)) - gap ≤ max room (mnS T + gap * max 0 ((T.length : Int) - 1))) := row_end hk hgp.1
    have hmn := mnS_bd hk
    have hxl : (shaR T (rwM T gap room)).length = T.length := shaR_len hk _
    rw [hE, eL, eS] at HRo
    rw [h0.1, eN] at HNe
    have hgm : 0 ≤ gap * max 0 ((T.length : Int) - 1) ∧ gap * max 0 ((T.length : Int) - 1) ≤ 16777216 := by
      rw [show max 0 ((T.length : Int) - 1) = max ((T.length : Int) - 1) 0 by omega]
      exact ⟨m3, m4⟩
    clear hE h0 eL eS eN hk m1 m2 m3 m4 hgb hrb
    obtain ⟨nd, Hnd⟩ : ∃ nd, Hid (nd = mnS T) := ⟨_, rfl⟩
    rw [← Hnd.out] at HNe HEn hmn
    clear Hnd
    generalize shaR T (rwM T gap room) = xs at *
    have hyl : (bgs gap 0 xs).length = T.length := by rw [bgs_len]; exact hxl
    have HYa : Hid (∀ i (h : i < (bgs gap 0 xs).length), (bgs gap 0 xs)[i] = bgE gap 0 (xs.take i)) := bgs_at gap xs 0
    go_enter Try.func7, Try.ntmps7
    go_wp2_with fail
    refine HAl.mono ?_
    rintro e w1 ⟨rfl, hb⟩
    have HB : Hid (Below w.heap.size w w1) := hb
    clear hb HAl
    go_wp2_with fail
    refine (HRo.out _ HB.out).mono ?_
    rintro e w2 ⟨v, u, rfl, HV⟩
    replace HB : Hid (Below w.heap.size w w2 ∧ IS w2 v xs ∧ IS w2 u (bgs gap 0 xs)) := ⟨HB.out.trans (HV.out.2.2.2.mono HB.out.size), HV.out.1.is, HV.out.2.1.is⟩
    clear HV HRo
    go_wp2_with fail
    refine (HNe.out _ HB.out.1).mono ?_
    rintro e w4 ⟨rfl, hb⟩
    replace HB : Hid (Below w.heap.size w w4 ∧ IS w4 v xs ∧ IS w4 u (bgs gap 0 xs)) := ⟨HB.out.1.trans (hb.mono HB.out.1.size), HB.out.2.1.below hb, HB.out.2.2.below hb⟩
    clear hb HNe
    obtain ⟨va, vc, e, hvc, hvg⟩ := HB.out.2.1
    rw [hxl] at e hvc
    subst e
    obtain ⟨ua, uc, e, huc, hug⟩ := HB.out.2.2
    rw [hyl] at e huc
    subst e
    have HB4 : Hid (Below w.heap.size w w4) := HB.out.1
    have HGe : Hid (∀ i (h : i < T.length) W, Below w4.heap.size w4 W → ∃ g o g2 o2 g3 o3, oa = some ⟨g, o, none⟩ ∧ va = some ⟨g2, o2, none⟩ ∧ ua = some ⟨g3, o3, none⟩ ∧ TkAt W g (o + i * 3) T[i] ∧ W.cell? ⟨g2, o2 + i, none⟩ = some (.int .i64 (xs[i]'(by rw [hxl]; exact h))) ∧ W.cell? ⟨g3, o3 + i, none⟩ = some (.int .i64 (bgE gap 0 (xs.take i)))) := fun i h W hW => by
      obtain ⟨g, o, e1, l1, a1⟩ := HG.out (by omega)
      obtain ⟨g2, o2, e2, l2, a2⟩ := hvg (by omega)
      obtain ⟨g3, o3, e3, l3, a3⟩ := hug (by omega)
      refine ⟨g, o, g2, o2, g3, o3, e1, e2, e3, ((a1 i h).below HB4.out l1).below hW (Nat.lt_of_lt_of_le l1 HB4.out.size), (hW.cell (p := ⟨g2, o2 + i, none⟩) l2).trans (a2 i (by rw [hxl]; exact h)), ?_⟩
      rw [← HYa.out i (by rw [hyl]; exact h)]
      exact (hW.cell (p := ⟨g3, o3 + i, none⟩) l3).trans (a3 i (by rw [hyl]; exact h))
    clear hvg hug HG HB HYa hyl
    have hwn : IntKind.i64.wrap (-gap) = -gap := by rw [IntKind.wrap_i64]; omega
    have HQ0 : Hid (Below w4.heap.size w4 w4) := Below.refl _ _
    go_wp2_with fail
    go_loopw [13, 14] (fun s i wr => ∃ (k : Nat) (x : Int), i = .int .i64 k ∧ s = .int .i64 x ∧ k ≤ T.length ∧ Hid (x = bgE gap 0 (xs.take k) - gap ∧ Below w4.heap.size w4 wr)) (fun _ i _ => T.length - (intOf i).toNat)
    case atStart => exact ⟨0, -gap, rfl, rfl, Nat.zero_le _, by simp [bgE], HQ0.out⟩
    case round =>
      obtain ⟨i, E, rfl, rfl, hil, HQ⟩ := hrel
      clear HQ0
      by_cases hlt : i < T.length
      · have ii : (i : Int) < T.length := by omega
        have hix : i < xs.length := by rw [hxl]; exact hlt
        obtain ⟨g, o, g2, o2, g3, o3, rfl, rfl, rfl, ⟨x0, x1, x2⟩, y0, z0⟩ := HGe.out i hlt wr HQ.out.2
        have hmi := HMi.out i hlt hix
        have hab := HXb.out xs[i] (List.getElem_mem hix)
        have hbe := bgE_bd gap 16777216 hgp.1 (xs.take i) 0 fun y hy => HXb.out y (List.mem_of_mem_take hy)
        have hlen2 : ((xs.take i).length : Int) ≤ 1024 := by simp; omega
        have hb1 : 0 ≤ bgE gap 0 (xs.take i) ∧ bgE gap 0 (xs.take i) ≤ 17196646400 := by
          have : ((xs.take i).length : Int) * (16777216 + gap) ≤ 1024 * 16793600 := Int.mul_le_mul hlen2 (by omega) (by omega) (by omega)
          omega
        have HN : Hid (bgE gap 0 (xs.take i) + xs[i] = bgE gap 0 (xs.take (i + 1)) - gap ∧ ∀ n, Below w4.heap.size w4 (wr.drewN n)) := ⟨by rw [← List.take_append_getElem hix, bgE_snoc]; omega, fun n => below_drewN HQ.out.2⟩
        have HQ1 := HQ.out.1
        clear HQ hbe hlen2
        generalize bgE gap 0 (xs.take i) = B at *
        generalize T[i] = q at *
        generalize xs[i] = a at *
        have hw1 : IntKind.i64.wrap (E + gap) = B := by rw [IntKind.wrap_i64]; omega
        have hw2 : IntKind.i64.wrap (B + a) = B + a := by rw [IntKind.wrap_i64]; omega
        have d1 : ¬ a < q.mn := by omega
        clear HQ1
        go_upto_region 14 with fail
        have d2 : decide (a < q.mn) = false := decide_eq_false d1
        go_quiet (fail)
        go_wp2_with fail
        go_quiet (fail)
        go_wp2
        exact ⟨⟨i + 1, B + a, by go_num, rfl, by omega, HN.out.1, HN.out.2 _⟩, by simp [intOf]; omega⟩
      · obtain rfl : i = T.length := by omega
        have HE : Hid (Below w.heap.size w wr) := HB4.out.trans (HQ.out.2.mono HB4.out.size)
        have hEe : E = bgE gap 0 xs - gap := by rw [HQ.out.1, List.take_of_length_le (by omega)]
        have HLe : Hid (0 < T.length → E ≤ max room (nd + gap * max 0 ((T.length : Int) - 1))) := fun h => by rw [hEe]; exact HEn.out h
        clear HQ hEe HEn
        obtain ⟨mm, Hmm⟩ : ∃ mm, Hid (mm = max 0 ((T.length : Int) - 1)) := ⟨_, rfl⟩
        rw [← Hmm.out] at HLe hgm
        have hmx : max 0 ((T.length : Int) - 1) = mm := Hmm.out.symm
        have hm1 : (if (0 : Int) < (T.length : Int) - 1 then (T.length : Int) - 1 else 0) = mm := by rw [Hmm.out]; split <;> omega
        have hm2 : (if (1 : Int) < (T.length : Int) then (T.length : Int) - 1 else 0) = mm := by rw [Hmm.out]; split <;> omega
        have hm3 : (if 1 < T.length then (T.length : Int) - 1 else 0) = mm := by rw [Hmm.out]; split <;> omega
        have hwl : IntKind.i64.wrap ((T.length : Int) - 1) = (T.length : Int) - 1 := by rw [IntKind.wrap_i64]; omega
        have hwm : IntKind.i64.wrap (gap * mm) = gap * mm := by rw [IntKind.wrap_i64]; omega
        have hwa : IntKind.i64.wrap (nd + gap * mm) = nd + gap * mm := by rw [IntKind.wrap_i64]; omega
        clear Hmm
        go_upto_region 18 with fail
        by_cases hz : T.length = 0
        · have hzb : ((T.length : Int) == 0) = true := by simp [hz]
          clear HLe hz hmx hm1 hm2 hm3
          go_wp2
          go_ret
          exact ⟨rfl, HE.out⟩
        · have hzb : ((T.length : Int) == 0) = false := beq_eq_false_iff_ne.2 (by omega)
          have hle := HLe.out (by omega)
          generalize nd + gap * mm = al at *
          clear HLe hz hmx hm1 hm2 hm3
          go_wp2
          go_ret
          exact ⟨rfl, HE.out⟩
  · have h0 : rwL T gap room = [] ∧ rwS T gap room = [] := by
      have e : rwL T gap room = [] := by
        unfold rwL
        unfold rwE at hE
        by_cases c : chT T = 0
        · rw [if_pos c] at hE ⊢
          cases d : rwB gap room
          · rfl
          · rw [d] at hE; exact absurd rfl hE
        · rw [if_neg c]
      exact ⟨e, by unfold rwS; rw [e]; rfl⟩
    obtain ⟨er, Her⟩ : ∃ er, Hid (er = rwE T gap room) := ⟨_, rfl⟩
    rw [← Her.out, h0.1, h0.2] at HRo
    have hne : (er != 0) = true := by rw [Her.out]; simpa using hE
    clear Her hE h0
    go_enter Try.func7, Try.ntmps7
    go_wp2_with fail
    refine HAl.mono ?_
    rintro e w1 ⟨rfl, hb⟩
    have HB : Hid (Below w.heap.size w w1) := hb
    clear hb HAl
    go_wp2_with fail
    refine (HRo.out _ HB.out).mono ?_
    rintro e w2 ⟨v, u, rfl, HV⟩
    replace HB : Hid (Below w.heap.size w w2 ∧ IS w2 v [] ∧ IS w2 u []) := ⟨HB.out.trans (HV.out.2.2.2.mono HB.out.size), HV.out.1.is, HV.out.2.1.is⟩
    clear HV HRo
    obtain ⟨va, vc, rfl, _, _⟩ := HB.out.2.1
    obtain ⟨ua, uc, rfl, _, _⟩ := HB.out.2.2
    replace HB : Hid (Below w.heap.size w w2) := HB.out.1
    go_wp2
    go_ret
    exact ⟨rfl, HB.out⟩

end Go.Proofs.Ytchjmmchflbfcaa
