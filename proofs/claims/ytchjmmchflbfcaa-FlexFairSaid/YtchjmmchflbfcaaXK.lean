/-
  FlexFair: all room is used, as far as it can be, and fairly.
-/
import Derived.Test.YtchjmmchflbfcaaXJ
namespace Go.Proofs.Ytchjmmchflbfcaa
open Go.RowKit
attribute [local go_sem] ite_max ite_min

def sumI : List Int → Int
  | [] => 0
  | x :: l => x + sumI l
theorem sumI_snoc : ∀ (l : List Int) (x : Int), sumI (l ++ [x]) = sumI l + x
  | [], x => by simp [sumI]
  | y :: l, x => by rw [List.cons_append, sumI, sumI_snoc l x, sumI]; omega
theorem sumI_o : ∀ R : List Ce, sumI (R.map (·.o)) = sumO R
  | [] => rfl
  | c :: R => by rw [List.map_cons, sumI, sumO, sumI_o R]
theorem sumI_bd (M : Int) : ∀ (l : List Int), (∀ x ∈ l, 0 ≤ x ∧ x ≤ M) → 0 ≤ sumI l ∧ sumI l ≤ l.length * M
  | [], _ => by simp [sumI]
  | y :: l, h => by
    have h1 := sumI_bd M l fun x hx => h x (by simp [hx])
    have h2 := h y (by simp)
    rw [sumI, List.length_cons, Int.natCast_add, Int.add_mul]
    omega
/-- What the sharing is, place by place. -/
structure FairI (T : List Tk) (xs : List Int) : Prop where
  len : xs.length = T.length
  lo : ∀ i (h : i < T.length) (h2 : i < xs.length), T[i].mn ≤ xs[i] ∧ (T[i].mn < xs[i] → 0 < T[i].gr) ∧ (T[i].mn < xs[i] → T[i].mx ≠ 0 → xs[i] ≤ T[i].mx)
  fr : ∀ i k (hi : i < T.length) (hi2 : i < xs.length) (hk : k < T.length) (hk2 : k < xs.length), T[i].mn < xs[i] → 0 < T[k].gr → (T[k].mx = 0 ∨ xs[k] < T[k].mx) → (xs[i] - T[i].mn - 1) * T[k].gr < (xs[k] - T[k].mn + 1) * T[i].gr
theorem fair_of {T : List Tk} (hk : ∀ t ∈ T, okT t) (room : Int) : FairI T (shaR T room) := by
  have htk := sha_tk hk room
  have hl : (shaC T room).length = T.length := by have := congrArg List.length htk; simpa using this
  have e1 : ∀ i (h : i < T.length), T[i] = ((shaC T room)[i]'(by omega)).t := fun i h => by
    have : T[i] = ((shaC T room).map (·.t))[i]'(by simp; omega) := by simp only [htk]
    rw [this, List.getElem_map]
  have e2 : ∀ i (h : i < (shaR T room).length), (shaR T room)[i] = ((shaC T room)[i]'(by unfold shaR at h; simpa using h)).o := fun i h => by
    exact List.getElem_map (fun c : Ce => c.o)
  refine ⟨shaR_len hk room, fun i h h2 => ?_, fun i k hi hi2 hk1 hk2 h1 h2 h3 => ?_⟩
  · rw [e1 i h, e2 i h2]
    exact sha_lo hk room _ (List.getElem_mem _)
  · rw [e1 i hi, e2 i hi2] at h1 ⊢
    rw [e1 k hk1] at h2 h3 ⊢
    rw [e2 k hk2] at h3 ⊢
    exact sha_fr hk room _ (List.getElem_mem _) _ (List.getElem_mem _) h1 h2 h3
theorem fair_sum {T : List Tk} (hk : ∀ t ∈ T, okT t) (room : Int) : sumI (shaR T room) = if 0 ≤ mosI T then min (max (mnS T) room) (mosI T) else max (mnS T) room := by
  unfold shaR
  rw [sumI_o]
  exact sha_sum hk room

set_option maxRecDepth 10000 in
set_option maxHeartbeats 8000000 in
theorem fair_walk (T : List Tk) (room : Int) (tv : Value) (w : World) (hT : TS w tv T) (hlen : T.length ≤ 9223372036854775807) :
    Calls Try.prog 6 #[tv, .int .i64 room] w fun e w' => e = .returned (.bool true) ∧ Below w.heap.size w w' := by
  have HAl := alive_any w
  have HTS : Hid (TS w tv T) := hT
  obtain ⟨oa, cap, rfl, hc, hg⟩ := hT
  by_cases h300 : 300 < T.length
  · have i300 : (300 : Int) < T.length := by omega
    clear hg
    go_enter Try.func6, Try.ntmps6
    go_wp2_with fail
    refine HAl.mono ?_
    rintro e w1 ⟨rfl, hb⟩
    have HB : Hid (Below w.heap.size w w1) := hb
    clear hb HAl
    go_wp2
    go_ret
    exact ⟨rfl, HB.out⟩
  have i300 : ¬ (300 : Int) < T.length := by omega
  have HSh : Hid (∀ W, Below w.heap.size w W → Calls Try.prog 8 #[.slice oa T.length cap, .int .i64 room] W fun e w' => AnsI W (shL T room) (shE T room) e w') := fun W hW => Share_any T room _ W (HTS.out.below hW)
  have HNe : Hid (∀ W, Below w.heap.size w W → Calls Try.prog 10 #[.slice oa T.length cap] W fun e w' => e = .returned (.tuple #[.int .i64 (neN T), .int .i64 (chT T)]) ∧ Below W.heap.size W w') := fun W hW => Need_any T _ W (HTS.out.below hW)
  have HMo : Hid (∀ W, Below w.heap.size w W → Calls Try.prog 11 #[.slice oa T.length cap] W fun e w' => e = .returned (.tuple #[.int .i64 (moN T), .int .i64 (chT T)]) ∧ Below W.heap.size W w') := fun W hW => Most_any T _ W (HTS.out.below hW)
  have HG : Hid (0 < T.length → ∃ g o, oa = some ⟨g, o, none⟩ ∧ g < w.heap.size ∧ ∀ i (h : i < T.length), TkAt w g (o + i * 3) T[i]) := hg
  clear hg HTS
  by_cases hE : shE T room = 0
  · -- all goes well
    have h0 : chT T = 0 ∧ rmB room = true := by
      unfold shE at hE
      by_cases c : chT T = 0
      · rw [if_pos c] at hE
        cases d : rmB room
        · rw [d] at hE; exact absurd hE (by decide)
        · exact ⟨c, rfl⟩
      · rw [if_neg c] at hE; exact absurd hE c
    obtain ⟨hn, hk⟩ := chT_zero h0.1
    have hrm := (rm_iff room).1 h0.2
    have eL : shL T room = shaR T room := by unfold shL; rw [if_pos h0.1, if_pos h0.2]
    have eN : neN T = mnS T := by unfold neN; rw [if_pos h0.1]
    have eM : moN T = mosI T := by unfold moN; rw [if_pos h0.1]
    have HF : Hid (FairI T (shaR T room)) := fair_of hk room
    have HSu : Hid (sumI (shaR T room) = if 0 ≤ mosI T then min (max (mnS T) room) (mosI T) else max (mnS T) room) := fair_sum hk room
    have HXb : Hid (∀ x ∈ shaR T room, 0 ≤ x ∧ x ≤ 16777216) := shaR_bd hk hn hrm.2
    have HKo : Hid (∀ t ∈ T, okT t) := hk
    have hmn := mnS_bd hk
    have hmt : 0 ≤ mosI T → mnS T ≤ mosI T := fun h => by
      unfold mosI at h ⊢
      split at h
      · omega
      · next c => rw [if_neg c]; exact min_top hk (by simpa using c)
    rw [hE, eL] at HSh
    rw [h0.1, eN] at HNe
    rw [h0.1, eM] at HMo
    have hxl : (shaR T room).length = T.length := shaR_len hk room
    clear hE h0 eL eN eM hk
    obtain ⟨nd, Hnd⟩ : ∃ nd, Hid (nd = mnS T) := ⟨_, rfl⟩
    obtain ⟨mo, Hmo⟩ : ∃ mo, Hid (mo = mosI T) := ⟨_, rfl⟩
    rw [← Hnd.out] at HNe HSu hmn hmt
    rw [← Hmo.out] at HMo HSu hmt
    clear Hnd Hmo
    generalize shaR T room = xs at *
    go_enter Try.func6, Try.ntmps6
    go_wp2_with fail
    refine HAl.mono ?_
    rintro e w1 ⟨rfl, hb⟩
    have HB : Hid (Below w.heap.size w w1) := hb
    clear hb HAl
    go_wp2_with fail
    refine (HSh.out _ HB.out).mono ?_
    rintro e w2 ⟨v, rfl, HV⟩
    replace HB : Hid (Below w.heap.size w w2 ∧ IS w2 v xs) := ⟨HB.out.trans (HV.out.2.mono HB.out.size), HV.out.1.is⟩
    clear HV HSh
    go_wp2_with fail
    refine (HNe.out _ HB.out.1).mono ?_
    rintro e w3 ⟨rfl, hb⟩
    replace HB : Hid (Below w.heap.size w w3 ∧ IS w3 v xs) := ⟨HB.out.1.trans (hb.mono HB.out.1.size), HB.out.2.below hb⟩
    clear hb HNe
    go_wp2_with fail
    refine (HMo.out _ HB.out.1).mono ?_
    rintro e w4 ⟨rfl, hb⟩
    replace HB : Hid (Below w.heap.size w w4 ∧ IS w4 v xs) := ⟨HB.out.1.trans (hb.mono HB.out.1.size), HB.out.2.below hb⟩
    clear hb HMo
    obtain ⟨va, vc, e, hvc, hvg⟩ := HB.out.2
    rw [hxl] at e hvc
    subst e
    have HV : Hid (0 < xs.length → ∃ g o, va = some ⟨g, o, none⟩ ∧ g < w4.heap.size ∧ ∀ i (h : i < xs.length), w4.cell? ⟨g, o + i, none⟩ = some (.int .i64 xs[i])) := hvg
    have HB4 : Hid (Below w.heap.size w w4) := HB.out.1
    have HGe : Hid (∀ i (h : i < T.length) W, Below w4.heap.size w4 W → ∃ g o g2 o2, oa = some ⟨g, o, none⟩ ∧ va = some ⟨g2, o2, none⟩ ∧ TkAt W g (o + i * 3) T[i] ∧ W.cell? ⟨g2, o2 + i, none⟩ = some (.int .i64 (xs[i]'(by rw [hxl]; exact h)))) := fun i h W hW => by
      obtain ⟨g, o, e1, l1, a1⟩ := HG.out (by omega)
      obtain ⟨g2, o2, e2, l2, a2⟩ := HV.out (by omega)
      exact ⟨g, o, g2, o2, e1, e2, ((a1 i h).below HB4.out l1).below hW (Nat.lt_of_lt_of_le l1 HB4.out.size), (hW.cell (p := ⟨g2, o2 + i, none⟩) l2).trans (a2 i (by rw [hxl]; exact h))⟩
    clear hvg HG HV HB
    -- the test of what was answered
    go_upto_region 9 with fail
    go_cut [69] (fun s wx => s = .bool false ∧ wx = w4)
    case first =>
      by_cases m0 : 0 ≤ mo
      · have m1 : ¬ mo < nd := by have := hmt m0; omega
        clear hmt
        go_wp2_with fail
        go_meet
        exact ⟨rfl, rfl⟩
      · clear hmt
        go_wp2_with fail
        go_meet
        exact ⟨rfl, rfl⟩
    case rest =>
    obtain ⟨rfl, e4⟩ := hcut
    rw [e4]
    clear e4
    have HQ0 : Hid (Below w4.heap.size w4 w4) := Below.refl _ _
    go_wp2_with fail
    go_loopw [12, 13, 14, 15, 16, 17] (fun s i _ _ _ _ wr => ∃ (k : Nat) (x : Int), i = .int .i64 k ∧ s = .int .i64 x ∧ k ≤ T.length ∧ Hid (x = sumI (xs.take k) ∧ Below w4.heap.size w4 wr)) (fun _ i _ _ _ _ _ => T.length - (intOf i).toNat)
    case atStart => exact ⟨0, 0, rfl, rfl, Nat.zero_le _, by simp [sumI], HQ0.out⟩
    case round =>
      obtain ⟨i, sx, rfl, rfl, hil, HQ⟩ := hrel
      clear HQ0
      by_cases hlt : i < T.length
      · have ii : (i : Int) < T.length := by omega
        have hix : i < xs.length := by rw [hxl]; exact hlt
        obtain ⟨g, o, g2, o2, rfl, rfl, ⟨x0, x1, x2⟩, y0⟩ := HGe.out i hlt wr HQ.out.2
        obtain ⟨l1, l2, l3⟩ := HF.out.lo i hlt hix
        obtain ⟨o1, o2', o3, o4, o5⟩ := HKo.out T[i] (List.getElem_mem hlt)
        have hab := HXb.out xs[i] (List.getElem_mem hix)
        have hsb := sumI_bd 16777216 (xs.take i) fun y hy => HXb.out y (List.mem_of_mem_take hy)
        have hsl : ((xs.take i).length : Int) ≤ 300 := by simp; omega
        have hsx : 0 ≤ sx ∧ sx ≤ 5033164800 := by
          rw [HQ.out.1]
          omega
        have HSn : Hid (sx + xs[i] = sumI (xs.take (i + 1))) := by unfold Hid; rw [← List.take_append_getElem hix, sumI_snoc, HQ.out.1]
        have HFr : Hid (∀ k (hk : k < T.length) (hk2 : k < xs.length), T[i].mn < xs[i] → 0 < T[k].gr → (T[k].mx = 0 ∨ xs[k] < T[k].mx) → (xs[i] - T[i].mn - 1) * T[k].gr < (xs[k] - T[k].mn + 1) * T[i].gr) := fun k hk hk2 => HF.out.fr i k hlt hix hk hk2
        have HGi : Hid (∀ W, Below w4.heap.size w4 W → TkAt W g (o + i * 3) T[i] ∧ W.cell? ⟨g2, o2 + i, none⟩ = some (.int .i64 xs[i])) := fun W hW => by
          obtain ⟨_, _, _, _, e1, e2, h1, h2⟩ := HGe.out i hlt W hW
          injection e1 with e1
          injection e1 with e1 e1' _
          injection e2 with e2
          injection e2 with e2 e2' _
          subst e1 e1' e2 e2'
          exact ⟨h1, h2⟩
        have HGk : Hid (∀ k (h : k < T.length) W, Below w4.heap.size w4 W → TkAt W g (o + k * 3) T[k] ∧ W.cell? ⟨g2, o2 + k, none⟩ = some (.int .i64 (xs[k]'(by rw [hxl]; exact h)))) := fun k h W hW => by
          obtain ⟨_, _, _, _, e1, e2, h1, h2⟩ := HGe.out k h W hW
          injection e1 with e1
          injection e1 with e1 e1' _
          injection e2 with e2
          injection e2 with e2 e2' _
          subst e1 e1' e2 e2'
          exact ⟨h1, h2⟩
        have HB : Hid (Below w4.heap.size w4 wr) := HQ.out.2
        clear hsb hsl HQ
        generalize hqi : T[i] = q at *
        generalize hai : xs[i] = a at *
        have Hqa : Hid (T[i] = q ∧ xs[i] = a) := ⟨hqi, hai⟩
        clear hqi hai
        obtain ⟨X, HX⟩ : ∃ X, Hid (X = a - q.mn) := ⟨_, rfl⟩
        have hX : 0 ≤ X ∧ X ≤ 16777216 := by have := HX.out; omega
        have hwX : IntKind.i64.wrap (a - q.mn) = X := by rw [IntKind.wrap_i64]; have := HX.out; omega
        have hwS : IntKind.i64.wrap (sx + a) = sx + a := by rw [IntKind.wrap_i64]; omega
        have HL : Hid ((0 < X → 0 < q.gr) ∧ (0 < X → q.mx ≠ 0 → a ≤ q.mx) ∧ (0 < q.mx ∨ q.mx = 0)) := ⟨fun h => l2 (by have := HX.out; omega), fun h => l3 (by have := HX.out; omega), by omega⟩
        clear l1 l2 l3 o3
        go_wp2_with fail
        go_quiet (fail)
        go_upto_region 16 with fail
        have HBn : Hid (∀ n, Below w4.heap.size w4 (wr.drewN n)) := fun n => below_drewN HB.out
        go_cut [123] (fun s wx => s = .bool false ∧ Hid (Below w4.heap.size w4 wx))
        case first =>
          clear HGe HGk HGi HFr HSn HF HXb HKo HSu hmt hmn Hqa
          by_cases hx0 : 0 < X
          · have hg0 := HL.out.1 hx0
            have hgb : (q.gr == 0) = false := beq_eq_false_iff_ne.2 (by omega)
            rcases HL.out.2.2 with hm | hm
            · have ha : ¬ q.mx < a := by have := HL.out.2.1 hx0 (by omega); omega
              have d1 : decide (X < 0) = false := decide_eq_false (by omega)
              have d2 : decide (0 < X) = true := decide_eq_true hx0
              have d3 : decide (0 < q.mx) = true := decide_eq_true hm
              have d4 : decide (q.mx < a) = false := decide_eq_false ha
              clear HL HX
              go_quiet (fail)
              go_wp2_with fail
              go_meet
              first | exact ⟨rfl, below_drewN (HBn.out _)⟩ | exact ⟨rfl, HBn.out _⟩
            · have d1 : decide (X < 0) = false := decide_eq_false (by omega)
              have d2 : decide (0 < X) = true := decide_eq_true hx0
              have d3 : decide (0 < q.mx) = false := decide_eq_false (by omega)
              clear HL HX hm
              go_quiet (fail)
              go_wp2_with fail
              go_meet
              first | exact ⟨rfl, below_drewN (HBn.out _)⟩ | exact ⟨rfl, HBn.out _⟩
          · have d1 : decide (X < 0) = false := decide_eq_false (by omega)
            have d2 : decide (0 < X) = false := decide_eq_false hx0
            clear HL HX hx0
            go_quiet (fail)
            go_wp2_with fail
            go_meet
            first | exact ⟨rfl, below_drewN (HBn.out _)⟩ | exact ⟨rfl, HBn.out _⟩
        case rest =>
        obtain ⟨rfl, HB2⟩ := hcut
        clear HBn HB x0 x1 x2 y0
        obtain ⟨⟨x0, x1, x2⟩, y0⟩ := HGi.out wc HB2.out
        go_wp2_with fail
        go_loopw [15, 16, 17] (fun kv _ _ wr => ∃ k : Nat, kv = .int .i64 k ∧ k ≤ T.length ∧ Hid (Below w4.heap.size w4 wr)) (fun kv _ _ _ => T.length - (intOf kv).toNat)
        case atStart => exact ⟨0, rfl, Nat.zero_le _, HB2⟩
        case round =>
          obtain ⟨k, rfl, hkl, HR⟩ := hrel
          clear HB2 x0 x1 x2 y0
          by_cases hkt : k < T.length
          · have ik : (k : Int) < T.length := by omega
            have hkx : k < xs.length := by rw [hxl]; exact hkt
            obtain ⟨⟨x0, x1, x2⟩, y0⟩ := HGi.out wr HR.out
            obtain ⟨⟨z0, z1, z2⟩, v0⟩ := HGk.out k hkt wr HR.out
            obtain ⟨p1, p2, p3, p4, p5⟩ := HKo.out T[k] (List.getElem_mem hkt)
            have hbk := HXb.out xs[k] (List.getElem_mem hkx)
            have HFk : Hid (0 < X → 0 < T[k].gr → (T[k].mx = 0 ∨ xs[k] < T[k].mx) → (X - 1) * T[k].gr < (xs[k] - T[k].mn + 1) * q.gr) := fun h1 h2 h3 => by
              have := HFr.out k hkt hkx (by have := HX.out; omega) h2 h3
              rw [HX.out]
              exact this
            have HRn : Hid (∀ n, Below w4.heap.size w4 (wr.drewN n)) := fun n => below_drewN HR.out
            have hlok := (HF.out.lo k hkt hkx).1
            clear HR
            generalize hrk : T[k] = r at *
            generalize hck : xs[k] = c at *
            have Hrc : Hid (T[k] = r ∧ xs[k] = c) := ⟨hrk, hck⟩
            clear hrk hck
            obtain ⟨Y, HY⟩ : ∃ Y, Hid (Y = c - r.mn) := ⟨_, rfl⟩
            have hY : 0 ≤ Y ∧ Y ≤ 16777216 := by have := HY.out; omega
            have hwY : IntKind.i64.wrap (c - r.mn) = Y := by rw [IntKind.wrap_i64]; have := HY.out; omega
            obtain ⟨M, HM⟩ : ∃ M, Hid (M = (decide (0 < r.gr) && (decide (r.mx = 0) || decide (c < r.mx)))) := ⟨_, rfl⟩
            go_wp2_with fail
            go_quiet (fail)
            go_upto_region 23 with fail
            go_cut [17] (fun s wx => s = .bool M ∧ Hid (Below w4.heap.size w4 wx))
            case first =>
              clear HGe HGk HGi HFr HSn HF HXb HKo HSu hmt hmn Hqa HFk HL
              by_cases e1 : 0 < r.gr
              · cases e2 : (r.mx == 0)
                · have hM : Hid (M = decide (c < r.mx)) := by
                    unfold Hid
                    have : decide (r.mx = 0) = false := by simpa using e2
                    rw [HM.out, decide_eq_true e1, this]
                    rfl
                  have d1 : decide (0 < r.gr) = true := decide_eq_true e1
                  clear HM p3
                  go_quiet (fail)
                  go_wp2_with fail
                  go_meet
                  first | exact ⟨by rw [hM.out], below_drewN (HRn.out _)⟩ | exact ⟨by rw [hM.out], HRn.out _⟩
                · have hM : Hid (M = true) := by
                    unfold Hid
                    have : decide (r.mx = 0) = true := by simpa using e2
                    rw [HM.out, decide_eq_true e1, this]
                    rfl
                  have d1 : decide (0 < r.gr) = true := decide_eq_true e1
                  clear HM p3
                  go_quiet (fail)
                  go_wp2_with fail
                  go_meet
                  first | exact ⟨by rw [hM.out], below_drewN (HRn.out _)⟩ | exact ⟨by rw [hM.out], HRn.out _⟩
              · have hM : Hid (M = false) := by
                  unfold Hid
                  rw [HM.out, decide_eq_false e1]
                  rfl
                have d1 : decide (0 < r.gr) = false := decide_eq_false e1
                clear HM p3 e1
                go_quiet (fail)
                go_wp2_with fail
                go_meet
                first | exact ⟨by rw [hM.out], below_drewN (HRn.out _)⟩ | exact ⟨by rw [hM.out], HRn.out _⟩
            case rest =>
            obtain ⟨rfl, HB3⟩ := hcut
            clear x0 x1 x2 y0 z0 z1 z2 v0 HRn
            obtain ⟨⟨x0, x1, x2⟩, y0⟩ := HGi.out wc HB3.out
            have hzk := HGk.out k hkt wc HB3.out
            rw [Hrc.out.1, Hrc.out.2] at hzk
            obtain ⟨⟨z0, z1, z2⟩, v0⟩ := hzk
            have HBm : Hid (∀ n, Below w4.heap.size w4 (wc.drewN n)) := fun n => below_drewN HB3.out
            have HFM : Hid (0 < X → M = true → (X - 1) * r.gr < (Y + 1) * q.gr) := fun h1 h2 => by
              rw [HM.out, Bool.and_eq_true, Bool.or_eq_true, decide_eq_true_eq, decide_eq_true_eq, decide_eq_true_eq] at h2
              rw [HY.out]
              exact HFk.out h1 h2.1 h2.2
            clear HGe HGk HGi HFr HSn HF HXb HKo HSu hmt hmn Hqa HFk HL HM p3
            by_cases hx0 : 0 < X
            · cases M
              · go_upto_region 24 with fail
                have d1 : decide (0 < X) = true := decide_eq_true hx0
                clear HFM
                go_quiet (fail)
                go_wp2
                exact ⟨⟨k + 1, by go_num, by omega, HBm.out _⟩, by simp [intOf]; omega⟩
              · have hlt2 := HFM.out hx0 rfl
                have hm1 := mul_bd (show 0 ≤ X - 1 by omega) (show X - 1 ≤ 16777216 by omega) p4 p5
                have hm2 := mul_bd (show 0 ≤ Y + 1 by omega) (show Y + 1 ≤ 16777217 by omega) o4 o5
                have w1 : IntKind.i64.wrap (X - 1) = X - 1 := by rw [IntKind.wrap_i64]; omega
                have w2 : IntKind.i64.wrap (Y + 1) = Y + 1 := by rw [IntKind.wrap_i64]; omega
                have w3 : IntKind.i64.wrap ((X - 1) * r.gr) = (X - 1) * r.gr := by rw [IntKind.wrap_i64]; omega
                have w4' : IntKind.i64.wrap ((Y + 1) * q.gr) = (Y + 1) * q.gr := by rw [IntKind.wrap_i64]; omega
                have Hlt2 : Hid ((X - 1) * r.gr < (Y + 1) * q.gr) := hlt2
                clear HFM hlt2 hm1 hm2
                go_upto_region 24 with fail
                have d1 : decide (0 < X) = true := decide_eq_true hx0
                have d2 : decide ((Y + 1) * q.gr ≤ (X - 1) * r.gr) = false := decide_eq_false (by have := Hlt2.out; omega)
                go_quiet (fail)
                go_wp2
                exact ⟨⟨k + 1, by go_num, by omega, HBm.out _⟩, by simp [intOf]; omega⟩
            · go_upto_region 24 with fail
              have d1 : decide (0 < X) = false := decide_eq_false hx0
              clear HFM hx0
              go_quiet (fail)
              go_wp2
              exact ⟨⟨k + 1, by go_num, by omega, HBm.out _⟩, by simp [intOf]; omega⟩
          · obtain rfl : k = T.length := by omega
            have HN : Hid (sx + a = sumI (xs.take (i + 1)) ∧ Below w4.heap.size w4 wr) := ⟨HSn.out, HR.out⟩
            clear HR
            go_wp2
            exact ⟨⟨i + 1, sx + a, by go_num, rfl, by omega, HN.out⟩, by simp [intOf]; omega⟩
      · obtain rfl : i = T.length := by omega
        have HE : Hid (sx = sumI xs ∧ Below w.heap.size w wr) := ⟨by rw [HQ.out.1, List.take_of_length_le (by omega)], HB4.out.trans (HQ.out.2.mono HB4.out.size)⟩
        clear HQ
        have HS2 : Hid (sx = if 0 ≤ mo then min (max nd room) mo else max nd room) := by unfold Hid; rw [HE.out.1, HSu.out]
        by_cases m0 : 0 ≤ mo
        · have HS3 : Hid (sx = min (max nd room) mo) := by have := HS2.out; rwa [if_pos m0] at this
          clear HS2 hmt
          go_wp2
          go_ret
          exact ⟨by rw [HS3.out]; simp, HE.out.2⟩
        · have HS3 : Hid (sx = max nd room) := by have := HS2.out; rwa [if_neg m0] at this
          clear HS2 hmt
          go_wp2
          go_ret
          exact ⟨by rw [HS3.out]; simp, HE.out.2⟩
  · have h0 : shL T room = [] := by
      unfold shL
      unfold shE at hE
      by_cases c : chT T = 0
      · rw [if_pos c] at hE ⊢
        cases d : rmB room
        · rfl
        · rw [d] at hE; exact absurd rfl hE
      · rw [if_neg c]
    obtain ⟨er, Her⟩ : ∃ er, Hid (er = shE T room) := ⟨_, rfl⟩
    rw [← Her.out, h0] at HSh
    have hne : (er != 0) = true := by rw [Her.out]; simpa using hE
    clear Her hE h0
    generalize neN T = nn at *
    generalize moN T = mm at *
    generalize chT T = cc at *
    go_enter Try.func6, Try.ntmps6
    go_wp2_with fail
    refine HAl.mono ?_
    rintro e w1 ⟨rfl, hb⟩
    have HB : Hid (Below w.heap.size w w1) := hb
    clear hb HAl
    go_wp2_with fail
    refine (HSh.out _ HB.out).mono ?_
    rintro e w2 ⟨v, rfl, HV⟩
    replace HB : Hid (Below w.heap.size w w2 ∧ IS w2 v []) := ⟨HB.out.trans (HV.out.2.mono HB.out.size), HV.out.1.is⟩
    clear HV HSh
    obtain ⟨va, vc, rfl, _, _⟩ := HB.out.2
    replace HB : Hid (Below w.heap.size w w2) := HB.out.1
    go_wp2_with fail
    refine (HNe.out _ HB.out).mono ?_
    rintro e w3 ⟨rfl, hb⟩
    replace HB : Hid (Below w.heap.size w w3) := HB.out.trans (hb.mono HB.out.size)
    clear hb HNe
    go_wp2_with fail
    refine (HMo.out _ HB.out).mono ?_
    rintro e w4 ⟨rfl, hb⟩
    replace HB : Hid (Below w.heap.size w w4) := HB.out.trans (hb.mono HB.out.size)
    clear hb HMo
    go_wp2
    go_ret
    exact ⟨rfl, HB.out⟩

end Go.Proofs.Ytchjmmchflbfcaa
