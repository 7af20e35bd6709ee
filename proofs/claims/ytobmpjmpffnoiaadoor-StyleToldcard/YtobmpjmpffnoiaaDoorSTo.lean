/-
  The walk of the statement StyleTold: what Which tells holds and says what the look says.
-/
import Derived.Test.YtobmpjmpffnoiaaDoorSB1
import Derived.Test.YtobmpjmpffnoiaaDoorSTp
import Derived.Test.YtobmpjmpffnoiaaDoorSHo
namespace Go.Proofs.YtobmpjmpffnoiaaDoor
open Go.RowKit Go.Shelf

theorem okR_of {rs : List Rl} (h : chkR rs = 0) {n : Nat} (hn : n < rs.length) : okR rs[n] = true := by
  unfold chkR at h
  by_cases h1 : 256 < rs.length
  · rw [if_pos h1] at h; simp at h
  · rw [if_neg h1] at h
    by_cases h2 : rs.all okR = true
    · exact List.all_eq_true.1 h2 _ (List.getElem_mem hn)
    · rw [if_neg h2] at h; simp at h

set_option maxRecDepth 20000 in
set_option maxHeartbeats 8000000 in
theorem told_walk (rs : List Rl) (v : Value) (kind : Nat) (t : ByteArray) (st : Nat) (w : World) (hT : Tab w) (hv : Rules w v rs) (hs : ∀ r ∈ rs, r.cls.size ≤ 9223372036854775807 ∧ r.wf) (hl : rs.length ≤ 9223372036854775807) (_hk : kind < 256) (ht : t.size ≤ 9223372036854775807) (_hst : st < 256) :
    Calls Tryd.prog 8 #[v, .int .u8 (kind : Nat), .string t, .int .u8 (st : Nat)] w fun e w' => e = .returned (.bool true) ∧ Below w.heap.size w w' := by
  have HV : Hid (Rules w v rs ∧ Tab w) := ⟨hv, hT⟩
  have HS : Hid (∀ r ∈ rs, r.cls.size ≤ 9223372036854775807 ∧ r.wf) := hs
  obtain ⟨oa, cap, rfl, hc, hg⟩ := id hv
  have HG : Hid (0 < rs.length → ∃ g o, oa = some ⟨g, o, none⟩ ∧ g < w.heap.size ∧ ∀ i (h : i < rs.length), RlAt w g (o + i * 14) rs[i]) := hg
  clear hv hs hg
  go_enter Tryd.func8, Tryd.ntmps8
  go_wp2_with fail
  refine (alive_any _ hT).mono ?_
  rintro e w1 ⟨rfl, L⟩
  by_cases h100 : 100 < rs.length ∨ 5000 < t.size
  · by_cases h1 : 100 < rs.length
    · have h1' : (100 : Int) < rs.length := by omega
      go_wp2
      go_ret
      exact ⟨rfl, L⟩
    · have h1' : ¬ (100 : Int) < rs.length := by omega
      have h2' : (5000 : Int) < t.size := by omega
      go_wp2
      go_ret
      exact ⟨rfl, L⟩
  have h1 : ¬ 100 < rs.length := by omega
  have h1' : ¬ (100 : Int) < rs.length := by omega
  have h2 : ¬ 5000 < t.size := by omega
  have h2' : ¬ (5000 : Int) < t.size := by omega
  have HL : Hid (Below w.heap.size w w1) := L
  clear L hT h100
  go_wp2_with fail
  by_cases hb : chkR rs = 0
  · refine (look_ok rs _ kind t st w1 (HV.out.2.below HL.out) (HV.out.1.below HL.out) HS.out (by omega) (by omega) hb).mono ?_
    rintro e w2 ⟨l, hH, rfl, hb2⟩
    have H2 : Hid (Held rs kind t st l ∧ Below w.heap.size w w2) := ⟨hH, HL.out.trans (hb2.mono HL.out.size)⟩
    clear hH hb2 HL
    have hd1 : decide ((100 : Int) < rs.length) = false := decide_eq_false (by omega)
    have hd2 : decide ((5000 : Int) < t.size) = false := decide_eq_false (by omega)
    obtain ⟨y, HY⟩ : ∃ y, Hid (y = ly (lks rs (bwd l l.length))) := ⟨_, rfl⟩
    rw [← HY.out]
    have K0 := Blk.new w2 (#[.int .u8 (y.has : Nat), .int .u8 y.r, .int .u8 y.g, .int .u8 y.b, .int .u8 y.a, .int .u8 y.r2, .int .u8 y.g2, .int .u8 y.b2, .int .u8 y.a2, .bool y.bd, .int .i64 y.pad]) 33
    have HK0 : Hid (Blk (w2.alloc (.cells (#[.int .u8 (y.has : Nat), .int .u8 y.r, .int .u8 y.g, .int .u8 y.b, .int .u8 y.a, .int .u8 y.r2, .int .u8 y.g2, .int .u8 y.b2, .int .u8 y.a2, .bool y.bd, .int .i64 y.pad]) 33)) w2.heap.size (#[.int .u8 (y.has : Nat), .int .u8 y.r, .int .u8 y.g, .int .u8 y.b, .int .u8 y.a, .int .u8 y.r2, .int .u8 y.g2, .int .u8 y.b2, .int .u8 y.a2, .bool y.bd, .int .i64 y.pad]) 33 ∧ Below w.heap.size w (w2.alloc (.cells (#[.int .u8 (y.has : Nat), .int .u8 y.r, .int .u8 y.g, .int .u8 y.b, .int .u8 y.a, .int .u8 y.r2, .int .u8 y.g2, .int .u8 y.b2, .int .u8 y.a2, .bool y.bd, .int .i64 y.pad]) 33))) := ⟨K0, H2.out.2.alloc H2.out.2.size _⟩
    clear K0
    go_wp2_with fail
    try simp only [hd1, hd2]
    go_loopw [12] (fun vf wr => ∃ k : Nat, k ≤ 4 ∧ vf = .int .i64 ((2 ^ k : Nat) : Int) ∧ Blk wr w2.heap.size (#[.int .u8 (y.has : Nat), .int .u8 y.r, .int .u8 y.g, .int .u8 y.b, .int .u8 y.a, .int .u8 y.r2, .int .u8 y.g2, .int .u8 y.b2, .int .u8 y.a2, .bool y.bd, .int .i64 y.pad]) 33 ∧ Below w.heap.size w wr) (fun vf _ => 16 - (intOf vf).toNat)
    case atStart => exact ⟨0, by omega, rfl, HK0.out⟩
    case round =>
      obtain ⟨k, hk, rfl, KY, LY⟩ := hrel
      have HQ : Hid (Blk wr w2.heap.size (#[.int .u8 (y.has : Nat), .int .u8 y.r, .int .u8 y.g, .int .u8 y.b, .int .u8 y.a, .int .u8 y.r2, .int .u8 y.g2, .int .u8 y.b2, .int .u8 y.a2, .bool y.bd, .int .i64 y.pad]) 33 ∧ Below w.heap.size w wr ∧ Tab wr ∧ Rules wr (.slice oa rs.length cap) rs) := ⟨KY, LY, HV.out.2.below LY, HV.out.1.below LY⟩
      clear KY LY HK0
      obtain rfl | rfl | rfl | rfl | rfl : k = 0 ∨ k = 1 ∨ k = 2 ∨ k = 3 ∨ k = 4 := by omega
      case inr.inr.inr.inr =>
        go_wp2
        go_ret
        exact ⟨rfl, HQ.out.2.1⟩
      case inl =>
        have hB : Bit 1 0 := .inl ⟨rfl, rfl⟩
        have HW : Hid (∀ W, Tab W → Rules W (.slice oa rs.length cap) rs → Calls Tryd.prog 17 #[.slice oa rs.length cap, .int .u8 (kind : Nat), .string t, .int .u8 (st : Nat), .int .u8 1] W fun e w' => e = .returned (.tuple #[.int .i64 (whN rs 1 (bwd l l.length)), .int .i64 0]) ∧ Below W.heap.size W w') := fun W hT hv =>
          (which_ok rs _ kind t st 1 W hT hv HS.out (by omega) (by omega) hb (bit_thg hB)).mono fun e w' ⟨m, hm, he, hw⟩ => by
            rw [held_unique hm H2.out.1] at he
            exact ⟨he, hw⟩
        have hbit : (bits .and .u8 (y.has : Int) 1 != 0) = (pick (lks rs (bwd l l.length)) 0).isSome := by rw [HY.out]; exact ly_bit _ hB
        rcases told_plain H2.out.1 (fun r hr => (HS.out r hr).2.2.2) hB with ⟨hn, hp⟩ | ⟨n, hn, _, hh, hwn, htb, pkq⟩
        · rw [hp] at hbit
          rw [hn] at HW
          clear hn hp
          go_wp2_with fail
          refine (HW.out _ (HQ.out.2.2.1) (HQ.out.2.2.2)).mono ?_
          rintro e w3 ⟨rfl, h3⟩
          have KY := HQ.out.1.below h3
          obtain ⟨c0, c1, c2, c3, c4, c5, c6, c7, c8, c9, c10⟩ := KY.at11
          have HQ' : Hid (Blk w3 w2.heap.size (#[.int .u8 (y.has : Nat), .int .u8 y.r, .int .u8 y.g, .int .u8 y.b, .int .u8 y.a, .int .u8 y.r2, .int .u8 y.g2, .int .u8 y.b2, .int .u8 y.a2, .bool y.bd, .int .i64 y.pad]) 33 ∧ Below w.heap.size w w3) := ⟨KY, HQ.out.2.1.trans (h3.mono HQ.out.2.1.size)⟩
          clear KY h3 HQ
          go_wp2_with fail
          go_roundw
          case rel => exact ⟨1, by omega, by go_num, HQ'.out⟩
          case measure => simp [intOf]
        · rw [pkq] at hbit
          rw [hwn] at HW
          have HE : Hid (y.r = rs[n].look.r ∧ y.g = rs[n].look.g ∧ y.b = rs[n].look.b ∧ y.a = rs[n].look.a) := ⟨by rw [HY.out]; show pk _ 0 _ _ = _; unfold pk; rw [pkq], by rw [HY.out]; show pk _ 0 _ _ = _; unfold pk; rw [pkq], by rw [HY.out]; show pk _ 0 _ _ = _; unfold pk; rw [pkq], by rw [HY.out]; show pk _ 0 _ _ = _; unfold pk; rw [pkq]⟩
          have X0 : Hid (∀ W, Tab W → Calls Tryd.prog 27 #[(Value.agg #[.int .u8 (rs[n].kind : Nat), .string rs[n].cls, .int .u8 (rs[n].state : Nat), .int .u8 (rs[n].look.has : Nat), .int .u8 rs[n].look.r, .int .u8 rs[n].look.g, .int .u8 rs[n].look.b, .int .u8 rs[n].look.a, .int .u8 rs[n].look.r2, .int .u8 rs[n].look.g2, .int .u8 rs[n].look.b2, .int .u8 rs[n].look.a2, .bool rs[n].look.bd, .int .i64 rs[n].look.pad]), .int .u8 (kind : Nat), .string t, .int .u8 (st : Nat)] W fun e w' => e = .returned (.bool true) ∧ Below W.heap.size W w') := fun W hT => by
            rw [← hh]; exact lholds_any _ kind t st W hT (okR_of hb hn) (HS.out _ (List.getElem_mem hn)) (by omega)
          have htb' : (bits .and .u8 (rs[n].look.has : Int) 1 != 0) = true := by rw [← htb]; exact bit_tb hB (HS.out _ (List.getElem_mem hn)).2.2.2
          have n1 : (n : Int) < (rs.length : Int) := by omega
          have n2 : ¬ (rs.length : Int) ≤ (n : Int) := by omega
          have n3 : ¬ rs.length ≤ n := by omega
          have n4 : ¬ (n : Int) < -1 := by omega
          have n5 : ¬ (n : Int) < 0 := by omega
          have hat : Hid (∀ W, Below w.heap.size w W → ∃ g o, oa = some ⟨g, o, none⟩ ∧ g < w.heap.size ∧ RlAt W g (o + n * 14) rs[n]) := fun W hW => by
            obtain ⟨g, o, h1, h2, h3⟩ := HG.out (by omega)
            exact ⟨g, o, h1, h2, (h3 n hn).kept fun j => hW.cell (p := ⟨g, j, none⟩) h2⟩
          clear hwn pkq hh htb
          generalize rs[n] = X at *
          have EC : ∀ w, (binOp .neq 31 (.agg #[.int .u8 X.look.r, .int .u8 X.look.g, .int .u8 X.look.b, .int .u8 X.look.a]) (.agg #[.int .u8 y.r, .int .u8 y.g, .int .u8 y.b, .int .u8 y.a])).run Tryd.prog w = .ok (.bool false) w := fun w => by
            obtain ⟨e0, e1, e2, e3⟩ := HE.out
            rw [e0, e1, e2, e3]
            simp [go_sem]
          clear HE
          go_wp2_with fail
          refine (HW.out _ (HQ.out.2.2.1) (HQ.out.2.2.2)).mono ?_
          rintro e w3 ⟨rfl, h3⟩
          have KY := HQ.out.1.below h3
          have L3 := HQ.out.2.1.trans (h3.mono HQ.out.2.1.size)
          have T3 := HQ.out.2.2.1.below h3
          obtain ⟨c0, c1, c2, c3, c4, c5, c6, c7, c8, c9, c10⟩ := KY.at11
          obtain ⟨g, o, hoa, hg, x0, x1, x2, x3, x4, x5, x6, x7, x8, x9, x10, x11, x12, x13⟩ := hat.out w3 L3
          have g3 : g < w3.heap.size := Nat.lt_of_lt_of_le hg L3.size
          have HQ' : Hid (Blk w3 w2.heap.size (#[.int .u8 (y.has : Nat), .int .u8 y.r, .int .u8 y.g, .int .u8 y.b, .int .u8 y.a, .int .u8 y.r2, .int .u8 y.g2, .int .u8 y.b2, .int .u8 y.a2, .bool y.bd, .int .i64 y.pad]) 33 ∧ Below w.heap.size w w3 ∧ Tab w3) := ⟨KY, L3, T3⟩
          subst hoa
          clear KY h3 HQ L3 T3 HW hat
          go_wp2_with fail
          have KX := Blk.new w3 (#[.int .u8 (X.look.has : Nat), .int .u8 X.look.r, .int .u8 X.look.g, .int .u8 X.look.b, .int .u8 X.look.a, .int .u8 X.look.r2, .int .u8 X.look.g2, .int .u8 X.look.b2, .int .u8 X.look.a2, .bool X.look.bd, .int .i64 X.look.pad]) 33
          have KY := HQ'.out.1.alloc (.cells (#[.int .u8 (X.look.has : Nat), .int .u8 X.look.r, .int .u8 X.look.g, .int .u8 X.look.b, .int .u8 X.look.a, .int .u8 X.look.r2, .int .u8 X.look.g2, .int .u8 X.look.b2, .int .u8 X.look.a2, .bool X.look.bd, .int .i64 X.look.pad]) 33)
          have b4 : Below w3.heap.size w3 (w3.alloc (.cells (#[.int .u8 (X.look.has : Nat), .int .u8 X.look.r, .int .u8 X.look.g, .int .u8 X.look.b, .int .u8 X.look.a, .int .u8 X.look.r2, .int .u8 X.look.g2, .int .u8 X.look.b2, .int .u8 X.look.a2, .bool X.look.bd, .int .i64 X.look.pad]) 33)) := (Below.refl _ w3).alloc (Nat.le_refl _) _
          have L4 := HQ'.out.2.1.trans (b4.mono HQ'.out.2.1.size)
          have T4 := HQ'.out.2.2.below b4
          generalize w3.alloc (.cells (#[.int .u8 (X.look.has : Nat), .int .u8 X.look.r, .int .u8 X.look.g, .int .u8 X.look.b, .int .u8 X.look.a, .int .u8 X.look.r2, .int .u8 X.look.g2, .int .u8 X.look.b2, .int .u8 X.look.a2, .bool X.look.bd, .int .i64 X.look.pad]) 33) = w4 at *
          refine (X0.out _ T4).mono ?_
          rintro e w5 ⟨rfl, h5⟩
          replace KX := KX.below h5
          replace KY := KY.below h5
          have HQ5 : Hid (Blk w5 w2.heap.size (#[.int .u8 (y.has : Nat), .int .u8 y.r, .int .u8 y.g, .int .u8 y.b, .int .u8 y.a, .int .u8 y.r2, .int .u8 y.g2, .int .u8 y.b2, .int .u8 y.a2, .bool y.bd, .int .i64 y.pad]) 33 ∧ Below w.heap.size w w5) := ⟨KY, L4.trans (h5.mono L4.size)⟩
          obtain ⟨d0, d1, d2, d3, d4, d5, d6, d7, d8, d9, d10⟩ := KX.at11
          obtain ⟨e0, e1, e2, e3, e4, e5, e6, e7, e8, e9, e10⟩ := KY.at11
          clear KX KY b4 L4 T4 HQ' h5 X0 c0 c1 c2 c3 c4 c5 c6 c7 c8 c9 c10 x0 x1 x2 x3 x4 x5 x6 x7 x8 x9 x10 x11 x12 x13
          go_wp2_with fail
          go_roundw
          case rel => exact ⟨1, by omega, by go_num, HQ5.out⟩
          case measure => simp [intOf]
      case inr.inl =>
        have hB : Bit 2 1 := .inr (.inl ⟨rfl, rfl⟩)
        have HW : Hid (∀ W, Tab W → Rules W (.slice oa rs.length cap) rs → Calls Tryd.prog 17 #[.slice oa rs.length cap, .int .u8 (kind : Nat), .string t, .int .u8 (st : Nat), .int .u8 2] W fun e w' => e = .returned (.tuple #[.int .i64 (whN rs 2 (bwd l l.length)), .int .i64 0]) ∧ Below W.heap.size W w') := fun W hT hv =>
          (which_ok rs _ kind t st 2 W hT hv HS.out (by omega) (by omega) hb (bit_thg hB)).mono fun e w' ⟨m, hm, he, hw⟩ => by
            rw [held_unique hm H2.out.1] at he
            exact ⟨he, hw⟩
        have hbit : (bits .and .u8 (y.has : Int) 2 != 0) = (pick (lks rs (bwd l l.length)) 1).isSome := by rw [HY.out]; exact ly_bit _ hB
        rcases told_plain H2.out.1 (fun r hr => (HS.out r hr).2.2.2) hB with ⟨hn, hp⟩ | ⟨n, hn, _, hh, hwn, htb, pkq⟩
        · rw [hp] at hbit
          rw [hn] at HW
          clear hn hp
          go_wp2_with fail
          refine (HW.out _ (HQ.out.2.2.1) (HQ.out.2.2.2)).mono ?_
          rintro e w3 ⟨rfl, h3⟩
          have KY := HQ.out.1.below h3
          obtain ⟨c0, c1, c2, c3, c4, c5, c6, c7, c8, c9, c10⟩ := KY.at11
          have HQ' : Hid (Blk w3 w2.heap.size (#[.int .u8 (y.has : Nat), .int .u8 y.r, .int .u8 y.g, .int .u8 y.b, .int .u8 y.a, .int .u8 y.r2, .int .u8 y.g2, .int .u8 y.b2, .int .u8 y.a2, .bool y.bd, .int .i64 y.pad]) 33 ∧ Below w.heap.size w w3) := ⟨KY, HQ.out.2.1.trans (h3.mono HQ.out.2.1.size)⟩
          clear KY h3 HQ
          go_wp2_with fail
          go_roundw
          case rel => exact ⟨2, by omega, by go_num, HQ'.out⟩
          case measure => simp [intOf]
        · rw [pkq] at hbit
          rw [hwn] at HW
          have HE : Hid (y.r2 = rs[n].look.r2 ∧ y.g2 = rs[n].look.g2 ∧ y.b2 = rs[n].look.b2 ∧ y.a2 = rs[n].look.a2) := ⟨by rw [HY.out]; show pk _ 1 _ _ = _; unfold pk; rw [pkq], by rw [HY.out]; show pk _ 1 _ _ = _; unfold pk; rw [pkq], by rw [HY.out]; show pk _ 1 _ _ = _; unfold pk; rw [pkq], by rw [HY.out]; show pk _ 1 _ _ = _; unfold pk; rw [pkq]⟩
          have X0 : Hid (∀ W, Tab W → Calls Tryd.prog 27 #[(Value.agg #[.int .u8 (rs[n].kind : Nat), .string rs[n].cls, .int .u8 (rs[n].state : Nat), .int .u8 (rs[n].look.has : Nat), .int .u8 rs[n].look.r, .int .u8 rs[n].look.g, .int .u8 rs[n].look.b, .int .u8 rs[n].look.a, .int .u8 rs[n].look.r2, .int .u8 rs[n].look.g2, .int .u8 rs[n].look.b2, .int .u8 rs[n].look.a2, .bool rs[n].look.bd, .int .i64 rs[n].look.pad]), .int .u8 (kind : Nat), .string t, .int .u8 (st : Nat)] W fun e w' => e = .returned (.bool true) ∧ Below W.heap.size W w') := fun W hT => by
            rw [← hh]; exact lholds_any _ kind t st W hT (okR_of hb hn) (HS.out _ (List.getElem_mem hn)) (by omega)
          have htb' : (bits .and .u8 (rs[n].look.has : Int) 2 != 0) = true := by rw [← htb]; exact bit_tb hB (HS.out _ (List.getElem_mem hn)).2.2.2
          have n1 : (n : Int) < (rs.length : Int) := by omega
          have n2 : ¬ (rs.length : Int) ≤ (n : Int) := by omega
          have n3 : ¬ rs.length ≤ n := by omega
          have n4 : ¬ (n : Int) < -1 := by omega
          have n5 : ¬ (n : Int) < 0 := by omega
          have hat : Hid (∀ W, Below w.heap.size w W → ∃ g o, oa = some ⟨g, o, none⟩ ∧ g < w.heap.size ∧ RlAt W g (o + n * 14) rs[n]) := fun W hW => by
            obtain ⟨g, o, h1, h2, h3⟩ := HG.out (by omega)
            exact ⟨g, o, h1, h2, (h3 n hn).kept fun j => hW.cell (p := ⟨g, j, none⟩) h2⟩
          clear hwn pkq hh htb
          generalize rs[n] = X at *
          have EC : ∀ w, (binOp .neq 31 (.agg #[.int .u8 X.look.r2, .int .u8 X.look.g2, .int .u8 X.look.b2, .int .u8 X.look.a2]) (.agg #[.int .u8 y.r2, .int .u8 y.g2, .int .u8 y.b2, .int .u8 y.a2])).run Tryd.prog w = .ok (.bool false) w := fun w => by
            obtain ⟨e0, e1, e2, e3⟩ := HE.out
            rw [e0, e1, e2, e3]
            simp [go_sem]
          clear HE
          go_wp2_with fail
          refine (HW.out _ (HQ.out.2.2.1) (HQ.out.2.2.2)).mono ?_
          rintro e w3 ⟨rfl, h3⟩
          have KY := HQ.out.1.below h3
          have L3 := HQ.out.2.1.trans (h3.mono HQ.out.2.1.size)
          have T3 := HQ.out.2.2.1.below h3
          obtain ⟨c0, c1, c2, c3, c4, c5, c6, c7, c8, c9, c10⟩ := KY.at11
          obtain ⟨g, o, hoa, hg, x0, x1, x2, x3, x4, x5, x6, x7, x8, x9, x10, x11, x12, x13⟩ := hat.out w3 L3
          have g3 : g < w3.heap.size := Nat.lt_of_lt_of_le hg L3.size
          have HQ' : Hid (Blk w3 w2.heap.size (#[.int .u8 (y.has : Nat), .int .u8 y.r, .int .u8 y.g, .int .u8 y.b, .int .u8 y.a, .int .u8 y.r2, .int .u8 y.g2, .int .u8 y.b2, .int .u8 y.a2, .bool y.bd, .int .i64 y.pad]) 33 ∧ Below w.heap.size w w3 ∧ Tab w3) := ⟨KY, L3, T3⟩
          subst hoa
          clear KY h3 HQ L3 T3 HW hat
          go_wp2_with fail
          have KX := Blk.new w3 (#[.int .u8 (X.look.has : Nat), .int .u8 X.look.r, .int .u8 X.look.g, .int .u8 X.look.b, .int .u8 X.look.a, .int .u8 X.look.r2, .int .u8 X.look.g2, .int .u8 X.look.b2, .int .u8 X.look.a2, .bool X.look.bd, .int .i64 X.look.pad]) 33
          have KY := HQ'.out.1.alloc (.cells (#[.int .u8 (X.look.has : Nat), .int .u8 X.look.r, .int .u8 X.look.g, .int .u8 X.look.b, .int .u8 X.look.a, .int .u8 X.look.r2, .int .u8 X.look.g2, .int .u8 X.look.b2, .int .u8 X.look.a2, .bool X.look.bd, .int .i64 X.look.pad]) 33)
          have b4 : Below w3.heap.size w3 (w3.alloc (.cells (#[.int .u8 (X.look.has : Nat), .int .u8 X.look.r, .int .u8 X.look.g, .int .u8 X.look.b, .int .u8 X.look.a, .int .u8 X.look.r2, .int .u8 X.look.g2, .int .u8 X.look.b2, .int .u8 X.look.a2, .bool X.look.bd, .int .i64 X.look.pad]) 33)) := (Below.refl _ w3).alloc (Nat.le_refl _) _
          have L4 := HQ'.out.2.1.trans (b4.mono HQ'.out.2.1.size)
          have T4 := HQ'.out.2.2.below b4
          generalize w3.alloc (.cells (#[.int .u8 (X.look.has : Nat), .int .u8 X.look.r, .int .u8 X.look.g, .int .u8 X.look.b, .int .u8 X.look.a, .int .u8 X.look.r2, .int .u8 X.look.g2, .int .u8 X.look.b2, .int .u8 X.look.a2, .bool X.look.bd, .int .i64 X.look.pad]) 33) = w4 at *
          refine (X0.out _ T4).mono ?_
          rintro e w5 ⟨rfl, h5⟩
          replace KX := KX.below h5
          replace KY := KY.below h5
          have HQ5 : Hid (Blk w5 w2.heap.size (#[.int .u8 (y.has : Nat), .int .u8 y.r, .int .u8 y.g, .int .u8 y.b, .int .u8 y.a, .int .u8 y.r2, .int .u8 y.g2, .int .u8 y.b2, .int .u8 y.a2, .bool y.bd, .int .i64 y.pad]) 33 ∧ Below w.heap.size w w5) := ⟨KY, L4.trans (h5.mono L4.size)⟩
          obtain ⟨d0, d1, d2, d3, d4, d5, d6, d7, d8, d9, d10⟩ := KX.at11
          obtain ⟨e0, e1, e2, e3, e4, e5, e6, e7, e8, e9, e10⟩ := KY.at11
          clear KX KY b4 L4 T4 HQ' h5 X0 c0 c1 c2 c3 c4 c5 c6 c7 c8 c9 c10 x0 x1 x2 x3 x4 x5 x6 x7 x8 x9 x10 x11 x12 x13
          go_wp2_with fail
          go_roundw
          case rel => exact ⟨2, by omega, by go_num, HQ5.out⟩
          case measure => simp [intOf]
      case inr.inr.inl =>
        have hB : Bit 4 2 := .inr (.inr (.inl ⟨rfl, rfl⟩))
        have HW : Hid (∀ W, Tab W → Rules W (.slice oa rs.length cap) rs → Calls Tryd.prog 17 #[.slice oa rs.length cap, .int .u8 (kind : Nat), .string t, .int .u8 (st : Nat), .int .u8 4] W fun e w' => e = .returned (.tuple #[.int .i64 (whN rs 4 (bwd l l.length)), .int .i64 0]) ∧ Below W.heap.size W w') := fun W hT hv =>
          (which_ok rs _ kind t st 4 W hT hv HS.out (by omega) (by omega) hb (bit_thg hB)).mono fun e w' ⟨m, hm, he, hw⟩ => by
            rw [held_unique hm H2.out.1] at he
            exact ⟨he, hw⟩
        have hbit : (bits .and .u8 (y.has : Int) 4 != 0) = (pick (lks rs (bwd l l.length)) 2).isSome := by rw [HY.out]; exact ly_bit _ hB
        rcases told_plain H2.out.1 (fun r hr => (HS.out r hr).2.2.2) hB with ⟨hn, hp⟩ | ⟨n, hn, _, hh, hwn, htb, pkq⟩
        · rw [hp] at hbit
          rw [hn] at HW
          clear hn hp
          go_wp2_with fail
          refine (HW.out _ (HQ.out.2.2.1) (HQ.out.2.2.2)).mono ?_
          rintro e w3 ⟨rfl, h3⟩
          have KY := HQ.out.1.below h3
          obtain ⟨c0, c1, c2, c3, c4, c5, c6, c7, c8, c9, c10⟩ := KY.at11
          have HQ' : Hid (Blk w3 w2.heap.size (#[.int .u8 (y.has : Nat), .int .u8 y.r, .int .u8 y.g, .int .u8 y.b, .int .u8 y.a, .int .u8 y.r2, .int .u8 y.g2, .int .u8 y.b2, .int .u8 y.a2, .bool y.bd, .int .i64 y.pad]) 33 ∧ Below w.heap.size w w3) := ⟨KY, HQ.out.2.1.trans (h3.mono HQ.out.2.1.size)⟩
          clear KY h3 HQ
          go_wp2_with fail
          go_roundw
          case rel => exact ⟨3, by omega, by go_num, HQ'.out⟩
          case measure => simp [intOf]
        · rw [pkq] at hbit
          rw [hwn] at HW
          have HE : Hid (y.bd = rs[n].look.bd) := by rw [HY.out]; show pk _ 2 _ _ = _; unfold pk; rw [pkq]
          have X0 : Hid (∀ W, Tab W → Calls Tryd.prog 27 #[(Value.agg #[.int .u8 (rs[n].kind : Nat), .string rs[n].cls, .int .u8 (rs[n].state : Nat), .int .u8 (rs[n].look.has : Nat), .int .u8 rs[n].look.r, .int .u8 rs[n].look.g, .int .u8 rs[n].look.b, .int .u8 rs[n].look.a, .int .u8 rs[n].look.r2, .int .u8 rs[n].look.g2, .int .u8 rs[n].look.b2, .int .u8 rs[n].look.a2, .bool rs[n].look.bd, .int .i64 rs[n].look.pad]), .int .u8 (kind : Nat), .string t, .int .u8 (st : Nat)] W fun e w' => e = .returned (.bool true) ∧ Below W.heap.size W w') := fun W hT => by
            rw [← hh]; exact lholds_any _ kind t st W hT (okR_of hb hn) (HS.out _ (List.getElem_mem hn)) (by omega)
          have htb' : (bits .and .u8 (rs[n].look.has : Int) 4 != 0) = true := by rw [← htb]; exact bit_tb hB (HS.out _ (List.getElem_mem hn)).2.2.2
          have n1 : (n : Int) < (rs.length : Int) := by omega
          have n2 : ¬ (rs.length : Int) ≤ (n : Int) := by omega
          have n3 : ¬ rs.length ≤ n := by omega
          have n4 : ¬ (n : Int) < -1 := by omega
          have n5 : ¬ (n : Int) < 0 := by omega
          have hat : Hid (∀ W, Below w.heap.size w W → ∃ g o, oa = some ⟨g, o, none⟩ ∧ g < w.heap.size ∧ RlAt W g (o + n * 14) rs[n]) := fun W hW => by
            obtain ⟨g, o, h1, h2, h3⟩ := HG.out (by omega)
            exact ⟨g, o, h1, h2, (h3 n hn).kept fun j => hW.cell (p := ⟨g, j, none⟩) h2⟩
          clear hwn pkq hh htb
          generalize rs[n] = X at *
          go_wp2_with fail
          refine (HW.out _ (HQ.out.2.2.1) (HQ.out.2.2.2)).mono ?_
          rintro e w3 ⟨rfl, h3⟩
          have KY := HQ.out.1.below h3
          have L3 := HQ.out.2.1.trans (h3.mono HQ.out.2.1.size)
          have T3 := HQ.out.2.2.1.below h3
          obtain ⟨c0, c1, c2, c3, c4, c5, c6, c7, c8, c9, c10⟩ := KY.at11
          obtain ⟨g, o, hoa, hg, x0, x1, x2, x3, x4, x5, x6, x7, x8, x9, x10, x11, x12, x13⟩ := hat.out w3 L3
          have g3 : g < w3.heap.size := Nat.lt_of_lt_of_le hg L3.size
          have HQ' : Hid (Blk w3 w2.heap.size (#[.int .u8 (y.has : Nat), .int .u8 y.r, .int .u8 y.g, .int .u8 y.b, .int .u8 y.a, .int .u8 y.r2, .int .u8 y.g2, .int .u8 y.b2, .int .u8 y.a2, .bool y.bd, .int .i64 y.pad]) 33 ∧ Below w.heap.size w w3 ∧ Tab w3) := ⟨KY, L3, T3⟩
          subst hoa
          clear KY h3 HQ L3 T3 HW hat
          go_wp2_with fail
          have KX := Blk.new w3 (#[.int .u8 (X.look.has : Nat), .int .u8 X.look.r, .int .u8 X.look.g, .int .u8 X.look.b, .int .u8 X.look.a, .int .u8 X.look.r2, .int .u8 X.look.g2, .int .u8 X.look.b2, .int .u8 X.look.a2, .bool X.look.bd, .int .i64 X.look.pad]) 33
          have KY := HQ'.out.1.alloc (.cells (#[.int .u8 (X.look.has : Nat), .int .u8 X.look.r, .int .u8 X.look.g, .int .u8 X.look.b, .int .u8 X.look.a, .int .u8 X.look.r2, .int .u8 X.look.g2, .int .u8 X.look.b2, .int .u8 X.look.a2, .bool X.look.bd, .int .i64 X.look.pad]) 33)
          have b4 : Below w3.heap.size w3 (w3.alloc (.cells (#[.int .u8 (X.look.has : Nat), .int .u8 X.look.r, .int .u8 X.look.g, .int .u8 X.look.b, .int .u8 X.look.a, .int .u8 X.look.r2, .int .u8 X.look.g2, .int .u8 X.look.b2, .int .u8 X.look.a2, .bool X.look.bd, .int .i64 X.look.pad]) 33)) := (Below.refl _ w3).alloc (Nat.le_refl _) _
          have L4 := HQ'.out.2.1.trans (b4.mono HQ'.out.2.1.size)
          have T4 := HQ'.out.2.2.below b4
          generalize w3.alloc (.cells (#[.int .u8 (X.look.has : Nat), .int .u8 X.look.r, .int .u8 X.look.g, .int .u8 X.look.b, .int .u8 X.look.a, .int .u8 X.look.r2, .int .u8 X.look.g2, .int .u8 X.look.b2, .int .u8 X.look.a2, .bool X.look.bd, .int .i64 X.look.pad]) 33) = w4 at *
          refine (X0.out _ T4).mono ?_
          rintro e w5 ⟨rfl, h5⟩
          replace KX := KX.below h5
          replace KY := KY.below h5
          have HQ5 : Hid (Blk w5 w2.heap.size (#[.int .u8 (y.has : Nat), .int .u8 y.r, .int .u8 y.g, .int .u8 y.b, .int .u8 y.a, .int .u8 y.r2, .int .u8 y.g2, .int .u8 y.b2, .int .u8 y.a2, .bool y.bd, .int .i64 y.pad]) 33 ∧ Below w.heap.size w w5) := ⟨KY, L4.trans (h5.mono L4.size)⟩
          obtain ⟨d0, d1, d2, d3, d4, d5, d6, d7, d8, d9, d10⟩ := KX.at11
          obtain ⟨e0, e1, e2, e3, e4, e5, e6, e7, e8, e9, e10⟩ := KY.at11
          clear KX KY b4 L4 T4 HQ' h5 X0 c0 c1 c2 c3 c4 c5 c6 c7 c8 c9 c10 x0 x1 x2 x3 x4 x5 x6 x7 x8 x9 x10 x11 x12 x13
          have EC : X.look.bd = y.bd := HE.out.symm
          clear HE
          go_wp2_with fail
          go_roundw
          case rel => exact ⟨3, by omega, by go_num, HQ5.out⟩
          case measure => simp [intOf]
      case inr.inr.inr.inl =>
        have hB : Bit 8 3 := .inr (.inr (.inr ⟨rfl, rfl⟩))
        have HW : Hid (∀ W, Tab W → Rules W (.slice oa rs.length cap) rs → Calls Tryd.prog 17 #[.slice oa rs.length cap, .int .u8 (kind : Nat), .string t, .int .u8 (st : Nat), .int .u8 8] W fun e w' => e = .returned (.tuple #[.int .i64 (whN rs 8 (bwd l l.length)), .int .i64 0]) ∧ Below W.heap.size W w') := fun W hT hv =>
          (which_ok rs _ kind t st 8 W hT hv HS.out (by omega) (by omega) hb (bit_thg hB)).mono fun e w' ⟨m, hm, he, hw⟩ => by
            rw [held_unique hm H2.out.1] at he
            exact ⟨he, hw⟩
        have hbit : (bits .and .u8 (y.has : Int) 8 != 0) = (pick (lks rs (bwd l l.length)) 3).isSome := by rw [HY.out]; exact ly_bit _ hB
        rcases told_plain H2.out.1 (fun r hr => (HS.out r hr).2.2.2) hB with ⟨hn, hp⟩ | ⟨n, hn, _, hh, hwn, htb, pkq⟩
        · rw [hp] at hbit
          rw [hn] at HW
          clear hn hp
          go_wp2_with fail
          refine (HW.out _ (HQ.out.2.2.1) (HQ.out.2.2.2)).mono ?_
          rintro e w3 ⟨rfl, h3⟩
          have KY := HQ.out.1.below h3
          obtain ⟨c0, c1, c2, c3, c4, c5, c6, c7, c8, c9, c10⟩ := KY.at11
          have HQ' : Hid (Blk w3 w2.heap.size (#[.int .u8 (y.has : Nat), .int .u8 y.r, .int .u8 y.g, .int .u8 y.b, .int .u8 y.a, .int .u8 y.r2, .int .u8 y.g2, .int .u8 y.b2, .int .u8 y.a2, .bool y.bd, .int .i64 y.pad]) 33 ∧ Below w.heap.size w w3) := ⟨KY, HQ.out.2.1.trans (h3.mono HQ.out.2.1.size)⟩
          clear KY h3 HQ
          go_wp2_with fail
          go_roundw
          case rel => exact ⟨4, by omega, by go_num, HQ'.out⟩
          case measure => simp [intOf]
        · rw [pkq] at hbit
          rw [hwn] at HW
          have HE : Hid (y.pad = rs[n].look.pad) := by rw [HY.out]; show pk _ 3 _ _ = _; unfold pk; rw [pkq]
          have X0 : Hid (∀ W, Tab W → Calls Tryd.prog 27 #[(Value.agg #[.int .u8 (rs[n].kind : Nat), .string rs[n].cls, .int .u8 (rs[n].state : Nat), .int .u8 (rs[n].look.has : Nat), .int .u8 rs[n].look.r, .int .u8 rs[n].look.g, .int .u8 rs[n].look.b, .int .u8 rs[n].look.a, .int .u8 rs[n].look.r2, .int .u8 rs[n].look.g2, .int .u8 rs[n].look.b2, .int .u8 rs[n].look.a2, .bool rs[n].look.bd, .int .i64 rs[n].look.pad]), .int .u8 (kind : Nat), .string t, .int .u8 (st : Nat)] W fun e w' => e = .returned (.bool true) ∧ Below W.heap.size W w') := fun W hT => by
            rw [← hh]; exact lholds_any _ kind t st W hT (okR_of hb hn) (HS.out _ (List.getElem_mem hn)) (by omega)
          have htb' : (bits .and .u8 (rs[n].look.has : Int) 8 != 0) = true := by rw [← htb]; exact bit_tb hB (HS.out _ (List.getElem_mem hn)).2.2.2
          have n1 : (n : Int) < (rs.length : Int) := by omega
          have n2 : ¬ (rs.length : Int) ≤ (n : Int) := by omega
          have n3 : ¬ rs.length ≤ n := by omega
          have n4 : ¬ (n : Int) < -1 := by omega
          have n5 : ¬ (n : Int) < 0 := by omega
          have hat : Hid (∀ W, Below w.heap.size w W → ∃ g o, oa = some ⟨g, o, none⟩ ∧ g < w.heap.size ∧ RlAt W g (o + n * 14) rs[n]) := fun W hW => by
            obtain ⟨g, o, h1, h2, h3⟩ := HG.out (by omega)
            exact ⟨g, o, h1, h2, (h3 n hn).kept fun j => hW.cell (p := ⟨g, j, none⟩) h2⟩
          clear hwn pkq hh htb
          generalize rs[n] = X at *
          have EC : (X.look.pad != y.pad) = false := by rw [HE.out]; simp
          clear HE
          go_wp2_with fail
          refine (HW.out _ (HQ.out.2.2.1) (HQ.out.2.2.2)).mono ?_
          rintro e w3 ⟨rfl, h3⟩
          have KY := HQ.out.1.below h3
          have L3 := HQ.out.2.1.trans (h3.mono HQ.out.2.1.size)
          have T3 := HQ.out.2.2.1.below h3
          obtain ⟨c0, c1, c2, c3, c4, c5, c6, c7, c8, c9, c10⟩ := KY.at11
          obtain ⟨g, o, hoa, hg, x0, x1, x2, x3, x4, x5, x6, x7, x8, x9, x10, x11, x12, x13⟩ := hat.out w3 L3
          have g3 : g < w3.heap.size := Nat.lt_of_lt_of_le hg L3.size
          have HQ' : Hid (Blk w3 w2.heap.size (#[.int .u8 (y.has : Nat), .int .u8 y.r, .int .u8 y.g, .int .u8 y.b, .int .u8 y.a, .int .u8 y.r2, .int .u8 y.g2, .int .u8 y.b2, .int .u8 y.a2, .bool y.bd, .int .i64 y.pad]) 33 ∧ Below w.heap.size w w3 ∧ Tab w3) := ⟨KY, L3, T3⟩
          subst hoa
          clear KY h3 HQ L3 T3 HW hat
          go_wp2_with fail
          have KX := Blk.new w3 (#[.int .u8 (X.look.has : Nat), .int .u8 X.look.r, .int .u8 X.look.g, .int .u8 X.look.b, .int .u8 X.look.a, .int .u8 X.look.r2, .int .u8 X.look.g2, .int .u8 X.look.b2, .int .u8 X.look.a2, .bool X.look.bd, .int .i64 X.look.pad]) 33
          have KY := HQ'.out.1.alloc (.cells (#[.int .u8 (X.look.has : Nat), .int .u8 X.look.r, .int .u8 X.look.g, .int .u8 X.look.b, .int .u8 X.look.a, .int .u8 X.look.r2, .int .u8 X.look.g2, .int .u8 X.look.b2, .int .u8 X.look.a2, .bool X.look.bd, .int .i64 X.look.pad]) 33)
          have b4 : Below w3.heap.size w3 (w3.alloc (.cells (#[.int .u8 (X.look.has : Nat), .int .u8 X.look.r, .int .u8 X.look.g, .int .u8 X.look.b, .int .u8 X.look.a, .int .u8 X.look.r2, .int .u8 X.look.g2, .int .u8 X.look.b2, .int .u8 X.look.a2, .bool X.look.bd, .int .i64 X.look.pad]) 33)) := (Below.refl _ w3).alloc (Nat.le_refl _) _
          have L4 := HQ'.out.2.1.trans (b4.mono HQ'.out.2.1.size)
          have T4 := HQ'.out.2.2.below b4
          generalize w3.alloc (.cells (#[.int .u8 (X.look.has : Nat), .int .u8 X.look.r, .int .u8 X.look.g, .int .u8 X.look.b, .int .u8 X.look.a, .int .u8 X.look.r2, .int .u8 X.look.g2, .int .u8 X.look.b2, .int .u8 X.look.a2, .bool X.look.bd, .int .i64 X.look.pad]) 33) = w4 at *
          refine (X0.out _ T4).mono ?_
          rintro e w5 ⟨rfl, h5⟩
          replace KX := KX.below h5
          replace KY := KY.below h5
          have HQ5 : Hid (Blk w5 w2.heap.size (#[.int .u8 (y.has : Nat), .int .u8 y.r, .int .u8 y.g, .int .u8 y.b, .int .u8 y.a, .int .u8 y.r2, .int .u8 y.g2, .int .u8 y.b2, .int .u8 y.a2, .bool y.bd, .int .i64 y.pad]) 33 ∧ Below w.heap.size w w5) := ⟨KY, L4.trans (h5.mono L4.size)⟩
          obtain ⟨d0, d1, d2, d3, d4, d5, d6, d7, d8, d9, d10⟩ := KX.at11
          obtain ⟨e0, e1, e2, e3, e4, e5, e6, e7, e8, e9, e10⟩ := KY.at11
          clear KX KY b4 L4 T4 HQ' h5 X0 c0 c1 c2 c3 c4 c5 c6 c7 c8 c9 c10 x0 x1 x2 x3 x4 x5 x6 x7 x8 x9 x10 x11 x12 x13
          go_wp2_with fail
          go_roundw
          case rel => exact ⟨4, by omega, by go_num, HQ5.out⟩
          case measure => simp [intOf]
  · refine (look_bad rs _ kind t st w1 (HV.out.2.below HL.out) (HV.out.1.below HL.out) HS.out hb).mono ?_
    rintro e w2 ⟨rfl, hb2⟩
    have hb' : (chkR rs == 0) = false := beq_eq_false_iff_ne.2 hb
    have L2 : Below w.heap.size w w2 := HL.out.trans (hb2.mono HL.out.size)
    have H2 : Hid (Below w.heap.size w w2) := L2
    clear hb2 L2 hb
    generalize chkR rs = e0 at *
    go_wp2
    go_ret
    exact ⟨rfl, H2.out.alloc H2.out.size _⟩

end Go.Proofs.YtobmpjmpffnoiaaDoor
