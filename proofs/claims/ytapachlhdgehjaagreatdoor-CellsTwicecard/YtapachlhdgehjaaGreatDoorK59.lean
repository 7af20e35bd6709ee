/-
  CellsTwice: one list drawn behind another one.
-/
import Derived.Test.YtapachlhdgehjaaGreatDoorK56
import Derived.Test.YtapachlhdgehjaaGreatDoorK58
import Derived.Test.YtapachlhdgehjaaGreatDoorK47
namespace Go.Proofs.YtapachlhdgehjaaGreatDoor
open Go.RowKit

set_option maxHeartbeats 1000000 in
theorem large15 (a b : Int) (oa : Option Addr) (n cap : Nat) (w : World) : Calls Tryz.prog 7 #[.agg #[.int .i64 a, .int .i64 b, .slice oa n cap]] w fun e w' => e = .returned (.bool (decide ((600 : Int) < (n : Nat)))) ∧ Below w.heap.size w w' := by
  have hB := (Below.refl _ w).alloc (Nat.le_refl _) (.cells #[.int .i64 a, .int .i64 b, .slice oa n cap] 26)
  obtain ⟨c0, c1, c2⟩ := Bk.at3S (Bk.new w #[.int .i64 a, .int .i64 b, .slice oa n cap] 26)
  go_enter Tryz.func7, Tryz.ntmps7
  go_wp2
  go_ret
  exact ⟨rfl, hB⟩

structure TwF (w : World) (sB : Nat) (a b : Int) (v vl vm : Value) (L : List Ce) (l m : List St) (W : World) : Prop where
  s : Bk W sB #[.int .i64 a, .int .i64 b, v] 26
  c : LsC W v L
  l : LsS W vl l
  m : LsS W vm m
  b : Below w.heap.size w W
theorem TwF.below {w : World} {sB : Nat} {a b : Int} {v vl vm : Value} {L : List Ce} {l m : List St} {W W' : World} (h : TwF w sB a b v vl vm L l m W) (hb : Below W.heap.size W W') : TwF w sB a b v vl vm L l m W' :=
  ⟨h.s.below hb, h.c.below hb, h.l.below hb, h.m.below hb, h.b.trans (hb.mono h.b.size)⟩

set_option maxRecDepth 20000 in
set_option maxHeartbeats 8000000 in
theorem ctwice_walk (a b : Int) (L : List Ce) (l m : List St) (v vl vm : Value) (w : World) (hv : LsC w v L) (hvl : LsS w vl l) (hvm : LsS w vm m) (nv : NoNil v) (nl : NoNil vl) (nm : NoNil vm) (hwc : WfC L) (hwl : Wfs l) (hwm : Wfs m) (hE : Env15 w) :
    Calls Tryz.prog 3 #[.agg #[.int .i64 a, .int .i64 b, v], vl, vm] w fun e w' => e = .returned (.bool true) ∧ Below w.heap.size w w' := by
  obtain ⟨oa, cap, rfl, hcap, _⟩ := id hv
  obtain ⟨ol, cl, rfl, hcl, _⟩ := id hvl
  obtain ⟨om, cm, rfl, hcm, _⟩ := id hvm
  obtain ⟨n, hn⟩ : ∃ n, n = L.length := ⟨_, rfl⟩
  obtain ⟨nl', hnl⟩ : ∃ k, k = l.length := ⟨_, rfl⟩
  obtain ⟨nm', hnm⟩ : ∃ k, k = m.length := ⟨_, rfl⟩
  have H0 : Hid (∀ W, W = w.alloc (.cells #[.int .i64 a, .int .i64 b, .slice oa n cap] 26) → TwF w w.heap.size a b (.slice oa n cap) (.slice ol nl' cl) (.slice om nm' cm) L l m W) := fun W hW => by
    have bb : Below w.heap.size w W := by rw [hW]; exact (Below.refl _ w).alloc (Nat.le_refl _) _
    rw [hn, hnl, hnm]
    refine ⟨by rw [hW, hn]; exact Bk.new _ _ _, hv.below bb, hvl.below bb, hvm.below bb, bb⟩
  have HE : Hid (Env15 w) := hE
  have HAw : Hid (∀ W, Below w.heap.size w W → Calls Tryz.prog 6 #[] W fun e w' => e = .returned (.bool true) ∧ Below W.heap.size W w') := fun W h => awake15_any W (HE.out.below h)
  obtain ⟨lg, hlg⟩ : ∃ lg, lg = decide ((600 : Int) < (n : Nat)) := ⟨_, rfl⟩
  have HLg : Hid (∀ W, Calls Tryz.prog 7 #[.agg #[.int .i64 a, .int .i64 b, .slice oa n cap]] W fun e w' => e = .returned (.bool lg) ∧ Below W.heap.size W w') := fun W => by rw [hlg]; exact large15 a b oa n cap W
  rw [← hn, ← hnl, ← hnm]
  cases lg with
  | true =>
    clear hv hvl hvm nv nl nm hwc hwl hwm hE HE hn hnl hnm hcap hcl hcm hlg
    go_enter Tryz.func3, Tryz.ntmps3
    go_wp2_with fail
    obtain ⟨W0, hW0⟩ : ∃ W0, W0 = w.alloc (.cells #[.int .i64 a, .int .i64 b, .slice oa n cap] 26) := ⟨_, rfl⟩
    obtain ⟨sB, hsB⟩ : ∃ sB, sB = w.heap.size := ⟨_, rfl⟩
    have H1 := show Hid (TwF w sB a b (.slice oa n cap) (.slice ol nl' cl) (.slice om nm' cm) L l m W0) from by rw [hsB]; exact H0.out W0 hW0
    rw [← hW0, ← hsB]
    clear hW0 hsB H0
    refine (HAw.out _ H1.out.b).mono ?_
    rintro e w1 ⟨rfl, hb⟩
    have H2 := show Hid _ from H1.out.below hb
    clear hb H1 HAw
    obtain ⟨z0, z1, z2⟩ := Bk.at3S H2.out.s
    go_wp2_with fail
    refine (HLg.out _).mono ?_
    rintro e w2 ⟨rfl, hb⟩
    have H3 := show Hid _ from H2.out.below hb
    clear hb H2 HLg z0 z1 z2
    go_wp2
    go_ret
    exact ⟨rfl, H3.out.b⟩
  | false =>
    by_cases k1 : (40 : Int) < (nl' : Nat)
    · clear hv hvl hvm nv nl nm hwc hwl hwm hE HE hn hnl hnm hcap hcl hcm hlg
      go_enter Tryz.func3, Tryz.ntmps3
      go_wp2_with fail
      obtain ⟨W0, hW0⟩ : ∃ W0, W0 = w.alloc (.cells #[.int .i64 a, .int .i64 b, .slice oa n cap] 26) := ⟨_, rfl⟩
      obtain ⟨sB, hsB⟩ : ∃ sB, sB = w.heap.size := ⟨_, rfl⟩
      have H1 := show Hid (TwF w sB a b (.slice oa n cap) (.slice ol nl' cl) (.slice om nm' cm) L l m W0) from by rw [hsB]; exact H0.out W0 hW0
      rw [← hW0, ← hsB]
      clear hW0 hsB H0
      refine (HAw.out _ H1.out.b).mono ?_
      rintro e w1 ⟨rfl, hb⟩
      have H2 := show Hid _ from H1.out.below hb
      clear hb H1 HAw
      obtain ⟨z0, z1, z2⟩ := Bk.at3S H2.out.s
      go_wp2_with fail
      refine (HLg.out _).mono ?_
      rintro e w2 ⟨rfl, hb⟩
      have H3 := show Hid _ from H2.out.below hb
      clear hb H2 HLg z0 z1 z2
      go_wp2
      go_ret
      exact ⟨rfl, H3.out.b⟩
    by_cases k2 : (40 : Int) < (nm' : Nat)
    · clear hv hvl hvm nv nl nm hwc hwl hwm hE HE hn hnl hnm hcap hcl hcm hlg
      go_enter Tryz.func3, Tryz.ntmps3
      go_wp2_with fail
      obtain ⟨W0, hW0⟩ : ∃ W0, W0 = w.alloc (.cells #[.int .i64 a, .int .i64 b, .slice oa n cap] 26) := ⟨_, rfl⟩
      obtain ⟨sB, hsB⟩ : ∃ sB, sB = w.heap.size := ⟨_, rfl⟩
      have H1 := show Hid (TwF w sB a b (.slice oa n cap) (.slice ol nl' cl) (.slice om nm' cm) L l m W0) from by rw [hsB]; exact H0.out W0 hW0
      rw [← hW0, ← hsB]
      clear hW0 hsB H0
      refine (HAw.out _ H1.out.b).mono ?_
      rintro e w1 ⟨rfl, hb⟩
      have H2 := show Hid _ from H1.out.below hb
      clear hb H1 HAw
      obtain ⟨z0, z1, z2⟩ := Bk.at3S H2.out.s
      go_wp2_with fail
      refine (HLg.out _).mono ?_
      rintro e w2 ⟨rfl, hb⟩
      have H3 := show Hid _ from H2.out.below hb
      clear hb H2 HLg z0 z1 z2
      go_wp2
      go_ret
      exact ⟨rfl, H3.out.b⟩
    have hl4 : l.length ≤ 40 ∧ m.length ≤ 40 := by omega
    have hl6 : L.length ≤ 600 := by
      have := of_decide_eq_false hlg.symm
      omega
    rcases (show scE a b L = 150 ∨ scE a b L = 0 by unfold scE; split <;> simp) with hs | hs
    · have HD1 : Hid (∀ W, TwF w w.heap.size a b (.slice oa n cap) (.slice ol nl' cl) (.slice om nm' cm) L l m W → True) := fun _ _ => trivial
      clear HD1
      have HD1 : Hid (∀ sB W, TwF w sB a b (.slice oa n cap) (.slice ol nl' cl) (.slice om nm' cm) L l m W → Calls Tryz.prog 8 #[.agg #[.int .i64 a, .int .i64 b, .slice oa n cap], .slice ol nl' cl] W fun e w' => e = .returned (.tuple #[.agg #[.int .i64 0, .int .i64 0, .slice none 0 0], .int .i64 150]) ∧ Below W.heap.size W w') := fun sB W h => dDraw_scr a b L _ _ W h.c (by omega) hs (HE.out.t W h.b).1
      clear hv hvl hvm nv nl nm hwc hwl hwm hE HE hn hnl hnm hcap hcl hcm hlg hs hl4 hl6
      go_enter Tryz.func3, Tryz.ntmps3
      go_wp2_with fail
      obtain ⟨W0, hW0⟩ : ∃ W0, W0 = w.alloc (.cells #[.int .i64 a, .int .i64 b, .slice oa n cap] 26) := ⟨_, rfl⟩
      obtain ⟨sB, hsB⟩ : ∃ sB, sB = w.heap.size := ⟨_, rfl⟩
      have H1 := show Hid (TwF w sB a b (.slice oa n cap) (.slice ol nl' cl) (.slice om nm' cm) L l m W0) from by rw [hsB]; exact H0.out W0 hW0
      rw [← hW0, ← hsB]
      clear hW0 hsB H0
      refine (HAw.out _ H1.out.b).mono ?_
      rintro e w1 ⟨rfl, hb⟩
      have H2 := show Hid _ from H1.out.below hb
      clear hb H1 HAw
      obtain ⟨z0, z1, z2⟩ := Bk.at3S H2.out.s
      go_wp2_with fail
      refine (HLg.out _).mono ?_
      rintro e w2 ⟨rfl, hb⟩
      have H3 := show Hid _ from H2.out.below hb
      clear hb H2 HLg z0 z1 z2
      obtain ⟨z0, z1, z2⟩ := Bk.at3S H3.out.s
      go_wp2_with fail
      refine (HD1.out sB _ H3.out).mono ?_
      rintro e w3 ⟨rfl, hb⟩
      have H4 := show Hid (Below w.heap.size w (w3.alloc (.cells #[.int .i64 0, .int .i64 0, .slice none 0 0] 26))) from by
        have h := (H3.out.below hb).b
        exact h.alloc h.size _
      clear hb H3 HD1 z0 z1 z2
      go_wp2
      go_ret
      exact ⟨rfl, H4.out⟩
    by_cases hc : chkS l ≠ 0
    · obtain ⟨E, hEq⟩ : ∃ E, E = chkS l := ⟨_, rfl⟩
      have hE0 : ¬ E = 0 := by rw [hEq]; exact hc
      have HD1 : Hid (∀ sB W, TwF w sB a b (.slice oa n cap) (.slice ol nl' cl) (.slice om nm' cm) L l m W → Calls Tryz.prog 8 #[.agg #[.int .i64 a, .int .i64 b, .slice oa n cap], .slice ol nl' cl] W fun e w' => e = .returned (.tuple #[.agg #[.int .i64 0, .int .i64 0, .slice none 0 0], .int .i64 E]) ∧ Below W.heap.size W w') := fun sB W h => by rw [hEq]; exact dDraw_lst a b L _ l _ W h.c (by omega) hs h.l hwl.txs (aw_xys hwl) hc (HE.out.t W h.b).1
      clear hv hvl hvm nv nl nm hwc hwl hwm hE HE hn hnl hnm hcap hcl hcm hlg hs hl4 hl6 hc hEq
      go_enter Tryz.func3, Tryz.ntmps3
      go_wp2_with fail
      obtain ⟨W0, hW0⟩ : ∃ W0, W0 = w.alloc (.cells #[.int .i64 a, .int .i64 b, .slice oa n cap] 26) := ⟨_, rfl⟩
      obtain ⟨sB, hsB⟩ : ∃ sB, sB = w.heap.size := ⟨_, rfl⟩
      have H1 := show Hid (TwF w sB a b (.slice oa n cap) (.slice ol nl' cl) (.slice om nm' cm) L l m W0) from by rw [hsB]; exact H0.out W0 hW0
      rw [← hW0, ← hsB]
      clear hW0 hsB H0
      refine (HAw.out _ H1.out.b).mono ?_
      rintro e w1 ⟨rfl, hb⟩
      have H2 := show Hid _ from H1.out.below hb
      clear hb H1 HAw
      obtain ⟨z0, z1, z2⟩ := Bk.at3S H2.out.s
      go_wp2_with fail
      refine (HLg.out _).mono ?_
      rintro e w2 ⟨rfl, hb⟩
      have H3 := show Hid _ from H2.out.below hb
      clear hb H2 HLg z0 z1 z2
      obtain ⟨z0, z1, z2⟩ := Bk.at3S H3.out.s
      go_wp2_with fail
      refine (HD1.out sB _ H3.out).mono ?_
      rintro e w3 ⟨rfl, hb⟩
      have H4 := show Hid (Below w.heap.size w (w3.alloc (.cells #[.int .i64 0, .int .i64 0, .slice none 0 0] 26))) from by
        have h := (H3.out.below hb).b
        exact h.alloc h.size _
      clear hb H3 HD1 z0 z1 z2
      go_wp2
      go_ret
      exact ⟨rfl, H4.out⟩
    replace hc : chkS l = 0 := Decidable.not_not.1 hc
    obtain ⟨hz, hln, hok⟩ : szB a b = true ∧ (L.length : Int) = a * b ∧ okCs L = true := by
      unfold scE at hs
      split at hs
      · next h => exact h
      · cases hs
    have hz5 := szB_iff.1 hz
    obtain ⟨a0, rfl⟩ : ∃ k : Nat, a = k := ⟨a.toNat, by omega⟩
    obtain ⟨b0, rfl⟩ : ∃ k : Nat, b = k := ⟨b.toNat, by omega⟩
    obtain ⟨A, hA⟩ : ∃ A, A = drwS a0 L (flaL l) := ⟨_, rfl⟩
    have hAl : A.length = n := by rw [hA, drwS_len, hn]
    have hAo : okCs A = true := by rw [hA]; exact drwS_okC hok _
    have hAw : WfC A := by rw [hA]; exact wf_drwS hwc fun p hp => ⟨(hwl _ (fla_facts hc p hp).2).2.2.1, (hwl _ (fla_facts hc p hp).2).2.2.2.1⟩
    have hAs : scE (a0 : Nat) (b0 : Nat) A = 0 := by unfold scE; rw [if_pos ⟨hz, by rw [hAl, hn]; exact hln, hAo⟩]
    have HD1 : Hid (∀ sB W, TwF w sB (a0 : Nat) (b0 : Nat) (.slice oa n cap) (.slice ol nl' cl) (.slice om nm' cm) L l m W → Calls Tryz.prog 8 #[.agg #[.int .i64 (a0 : Nat), .int .i64 (b0 : Nat), .slice oa n cap], .slice ol nl' cl] W fun e w' => ∃ ga cg, e = .returned (.tuple #[.agg #[.int .i64 (a0 : Nat), .int .i64 (b0 : Nat), .slice ga n cg], .int .i64 0]) ∧ Hid (LsC w' (.slice ga n cg) A ∧ NoNil (.slice ga n cg) ∧ Below W.heap.size W w')) := fun sB W h => by
      refine (dDraw_ok frame_any a0 b0 L _ l _ W h.c (by rw [hn]; exact nv) hz hln hok h.l hwl.txs (aw_xys hwl) hc hwc (fun s hs => ⟨(hwl s hs).2.2.1, (hwl s hs).2.2.2.1⟩) (HE.out.t W h.b).1 (fun W' h' => HE.out.t W' (h.b.trans (h'.mono h.b.size)))).mono ?_
      rintro e w' ⟨u, rfl, hu⟩
      rw [← hA] at hu
      have hnn := own_nil hu.out.1
      obtain ⟨ga, cg, rfl, _, _⟩ := id hu.out.1.lsc
      have hq := hu.out.1.lsc
      rw [hAl] at hnn hq ⊢
      exact ⟨ga, cg, rfl, hq, hnn, hu.out.2⟩
    have HJ : Hid (∀ sB W, TwF w sB (a0 : Nat) (b0 : Nat) (.slice oa n cap) (.slice ol nl' cl) (.slice om nm' cm) L l m W → Calls Tryz.prog 9 #[.slice ol nl' cl, .slice om nm' cm] W fun e w' => AnsS W (joiL l m) (joiE l m) e w') := fun sB W h => ljoin_any l m _ _ W h.l h.m (by rw [hnl]; exact nl) (by rw [hnm]; exact nm) hwl.txs hwm.txs (aw_xys hwl) (aw_xys hwm) (by omega) (by omega)
    by_cases hd : chkS m ≠ 0
    · obtain ⟨E, hEq⟩ : ∃ E, E = chkS m := ⟨_, rfl⟩
      have hE0 : ¬ E = 0 := by rw [hEq]; exact hd
      have hjE : joiE l m = E := by unfold joiE; rw [if_pos hc, if_neg hd, hEq]
      have HD2 : Hid (∀ W ga cg, Below w.heap.size w W → LsC W (.slice ga n cg) A → LsS W (.slice om nm' cm) m → Calls Tryz.prog 8 #[.agg #[.int .i64 (a0 : Nat), .int .i64 (b0 : Nat), .slice ga n cg], .slice om nm' cm] W fun e w' => e = .returned (.tuple #[.agg #[.int .i64 0, .int .i64 0, .slice none 0 0], .int .i64 E]) ∧ Below W.heap.size W w') := fun W ga cg h h1 h2 => by rw [hEq]; exact dDraw_lst a0 b0 A _ m _ W h1 (by omega) hAs h2 hwm.txs (aw_xys hwm) hd (HE.out.t W h).1
      rw [hjE] at HJ
      clear hv hvl hvm nv nl nm hwc hwl hwm hE HE hn hnl hnm hcap hcl hcm hlg hs hl4 hl6 hc hEq hz hln hok hz5 hA hAl hAo hAw hAs hd hjE
      go_enter Tryz.func3, Tryz.ntmps3
      go_wp2_with fail
      obtain ⟨W0, hW0⟩ : ∃ W0, W0 = w.alloc (.cells #[.int .i64 (a0 : Nat), .int .i64 (b0 : Nat), .slice oa n cap] 26) := ⟨_, rfl⟩
      obtain ⟨sB, hsB⟩ : ∃ sB, sB = w.heap.size := ⟨_, rfl⟩
      have H1 := show Hid (TwF w sB (a0 : Nat) (b0 : Nat) (.slice oa n cap) (.slice ol nl' cl) (.slice om nm' cm) L l m W0) from by rw [hsB]; exact H0.out W0 hW0
      rw [← hW0, ← hsB]
      clear hW0 hsB H0
      refine (HAw.out _ H1.out.b).mono ?_
      rintro e w1 ⟨rfl, hb⟩
      have H2 := show Hid _ from H1.out.below hb
      clear hb H1 HAw
      obtain ⟨z0, z1, z2⟩ := Bk.at3S H2.out.s
      go_wp2_with fail
      refine (HLg.out _).mono ?_
      rintro e w2 ⟨rfl, hb⟩
      have H3 := show Hid _ from H2.out.below hb
      clear hb H2 HLg z0 z1 z2
      obtain ⟨z0, z1, z2⟩ := Bk.at3S H3.out.s
      go_wp2_with fail
      refine (HD1.out sB _ H3.out).mono ?_
      rintro e w3 ⟨ga, cg, rfl, hh⟩
      have H4 := show Hid (TwF w sB (a0 : Nat) (b0 : Nat) (.slice oa n cap) (.slice ol nl' cl) (.slice om nm' cm) L l m w3 ∧ LsC w3 (.slice ga n cg) A ∧ NoNil (.slice ga n cg)) from ⟨H3.out.below hh.out.2.2, hh.out.1, hh.out.2.1⟩
      have H5 : Hid (∀ W, W = w3.alloc (.cells #[.int .i64 (a0 : Nat), .int .i64 (b0 : Nat), .slice ga n cg] 26) → TwF w sB (a0 : Nat) (b0 : Nat) (.slice oa n cap) (.slice ol nl' cl) (.slice om nm' cm) L l m W ∧ LsC W (.slice ga n cg) A ∧ NoNil (.slice ga n cg) ∧ Bk W w3.heap.size #[.int .i64 (a0 : Nat), .int .i64 (b0 : Nat), .slice ga n cg] 26) := fun W hW => by
        subst hW
        have hb := (Below.refl _ w3).alloc (Nat.le_refl _) (.cells #[.int .i64 (a0 : Nat), .int .i64 (b0 : Nat), .slice ga n cg] 26)
        exact ⟨H4.out.1.below hb, H4.out.2.1.below hb, H4.out.2.2, Bk.new _ _ _⟩
      obtain ⟨W5, hW5⟩ : ∃ W5, W5 = w3.alloc (.cells #[.int .i64 (a0 : Nat), .int .i64 (b0 : Nat), .slice ga n cg] 26) := ⟨_, rfl⟩
      obtain ⟨dB, hdB⟩ : ∃ dB, dB = w3.heap.size := ⟨_, rfl⟩
      have H6 := show Hid (TwF w sB (a0 : Nat) (b0 : Nat) (.slice oa n cap) (.slice ol nl' cl) (.slice om nm' cm) L l m W5 ∧ LsC W5 (.slice ga n cg) A ∧ NoNil (.slice ga n cg) ∧ Bk W5 dB #[.int .i64 (a0 : Nat), .int .i64 (b0 : Nat), .slice ga n cg] 26) from by rw [hdB]; exact H5.out W5 hW5
      clear hh H3 H4 H5 HD1 z0 z1 z2
      obtain ⟨y0, y1, y2⟩ := Bk.at3S H6.out.2.2.2
      rw [hW5, hdB] at y0 y1 y2
      go_wp2_with fail
      rw [← hW5, ← hdB]
      clear y0 y1 y2 hW5 hdB
      refine (HD2.out _ ga cg H6.out.1.b H6.out.2.1 H6.out.1.m).mono ?_
      rintro e w7 ⟨rfl, hb⟩
      have H7 := show Hid (TwF w sB (a0 : Nat) (b0 : Nat) (.slice oa n cap) (.slice ol nl' cl) (.slice om nm' cm) L l m w7) from H6.out.1.below hb
      have H8 : Hid (∀ W, W = w7.alloc (.cells #[.int .i64 0, .int .i64 0, .slice none 0 0] 26) → TwF w sB (a0 : Nat) (b0 : Nat) (.slice oa n cap) (.slice ol nl' cl) (.slice om nm' cm) L l m W ∧ Bk W w7.heap.size #[.int .i64 0, .int .i64 0, .slice none 0 0] 26) := fun W hW => by
        subst hW
        exact ⟨H7.out.below ((Below.refl _ w7).alloc (Nat.le_refl _) _), Bk.new _ _ _⟩
      clear hb H6 H7 HD2
      go_wp2_with fail
      obtain ⟨W8, hW8⟩ : ∃ W8, W8 = w7.alloc (.cells #[.int .i64 0, .int .i64 0, .slice none 0 0] 26) := ⟨_, rfl⟩
      obtain ⟨gB, hgB⟩ : ∃ gB, gB = w7.heap.size := ⟨_, rfl⟩
      have H9 := show Hid (TwF w sB (a0 : Nat) (b0 : Nat) (.slice oa n cap) (.slice ol nl' cl) (.slice om nm' cm) L l m W8 ∧ Bk W8 gB #[.int .i64 0, .int .i64 0, .slice none 0 0] 26) from by rw [hgB]; exact H8.out W8 hW8
      rw [← hW8, ← hgB]
      clear hW8 hgB H8
      refine (HJ.out sB _ H9.out.1).mono ?_
      rintro e w9 ⟨uj, rfl, hj⟩
      have HA := show Hid (Below w.heap.size w w9 ∧ Bk w9 gB #[.int .i64 0, .int .i64 0, .slice none 0 0] 26) from ⟨(H9.out.1.below hj.out.2).b, H9.out.2.below hj.out.2⟩
      clear hj H9 HJ
      obtain ⟨x0, x1, x2⟩ := Bk.at3S HA.out.2
      go_wp2
      go_ret
      exact ⟨rfl, HA.out.1⟩
    replace hd : chkS m = 0 := Decidable.not_not.1 hd
    obtain ⟨B, hB⟩ : ∃ B, B = drwS a0 A (flaL m) := ⟨_, rfl⟩
    have hBl : B.length = n := by rw [hB, drwS_len, hAl]
    have hBj : drwS a0 L (flaL (l ++ m)) = B := by rw [hB, hA, drwS_join a0 L hc]
    have hlm : chkS (l ++ m) = 0 := chk_join hc hd (by omega)
    have hjE : joiE l m = 0 := by unfold joiE; rw [if_pos hc, if_pos hd, if_neg (by omega)]
    have hjL : joiL l m = l ++ m := by unfold joiL; rw [if_pos hjE]
    have hwj : Wfs (l ++ m) := fun s hs => (List.mem_append.1 hs).elim (hwl s) (hwm s)
    rw [hjE, hjL] at HJ
    have HD2 : Hid (∀ W ga cg, Below w.heap.size w W → LsC W (.slice ga n cg) A → NoNil (.slice ga n cg) → LsS W (.slice om nm' cm) m → Calls Tryz.prog 8 #[.agg #[.int .i64 (a0 : Nat), .int .i64 (b0 : Nat), .slice ga n cg], .slice om nm' cm] W fun e w' => ∃ gb cb, e = .returned (.tuple #[.agg #[.int .i64 (a0 : Nat), .int .i64 (b0 : Nat), .slice gb n cb], .int .i64 0]) ∧ Hid (LsC w' (.slice gb n cb) B ∧ Below W.heap.size W w')) := fun W ga cg h h1 h2 h3 => by
      refine (dDraw_ok frame_any a0 b0 A _ m _ W h1 h2 hz (by rw [hAl, hn]; exact hln) hAo h3 hwm.txs (aw_xys hwm) hd hAw (fun s hs => ⟨(hwm s hs).2.2.1, (hwm s hs).2.2.2.1⟩) (HE.out.t W h).1 (fun W' h' => HE.out.t W' (h.trans (h'.mono h.size)))).mono ?_
      rintro e w' ⟨u, rfl, hu⟩
      rw [← hB] at hu
      obtain ⟨ga, cg, rfl, _, _⟩ := id hu.out.1.lsc
      have hq := hu.out.1.lsc
      rw [hBl] at hq ⊢
      exact ⟨ga, cg, rfl, hq, hu.out.2⟩
    have HD3 : Hid (∀ sB W vj, TwF w sB (a0 : Nat) (b0 : Nat) (.slice oa n cap) (.slice ol nl' cl) (.slice om nm' cm) L l m W → LsS W vj (l ++ m) → Calls Tryz.prog 8 #[.agg #[.int .i64 (a0 : Nat), .int .i64 (b0 : Nat), .slice oa n cap], vj] W fun e w' => ∃ gb cb, e = .returned (.tuple #[.agg #[.int .i64 (a0 : Nat), .int .i64 (b0 : Nat), .slice gb n cb], .int .i64 0]) ∧ Hid (LsC w' (.slice gb n cb) B ∧ Below W.heap.size W w')) := fun sB W vj h h3 => by
      refine (dDraw_ok frame_any a0 b0 L _ (l ++ m) _ W h.c (by rw [hn]; exact nv) hz hln hok h3 hwj.txs (aw_xys hwj) hlm hwc (fun s hs => ⟨(hwj s hs).2.2.1, (hwj s hs).2.2.2.1⟩) (HE.out.t W h.b).1 (fun W' h' => HE.out.t W' (h.b.trans (h'.mono h.b.size)))).mono ?_
      rintro e w' ⟨u, rfl, hu⟩
      rw [hBj] at hu
      obtain ⟨ga, cg, rfl, _, _⟩ := id hu.out.1.lsc
      have hq := hu.out.1.lsc
      rw [hBl] at hq ⊢
      exact ⟨ga, cg, rfl, hq, hu.out.2⟩
    have HSm : Hid (∀ W u v, LsC W u B → LsC W v B → Calls Tryz.prog 10 #[.agg #[.int .i64 (a0 : Nat), .int .i64 (b0 : Nat), u], .agg #[.int .i64 (a0 : Nat), .int .i64 (b0 : Nat), v]] W fun e w' => e = .returned (.bool true) ∧ Below W.heap.size W w') := fun W u v h h' => scr15_any a0 b0 B u v W h h' (by omega)
    clear hv hvl hvm nv nl nm hwc hwl hwm hE HE hn hnl hnm hcap hcl hcm hlg hs hl4 hl6 hc hz hln hok hz5 hA hAl hAo hAw hAs hd hjE hB hBl hBj hlm hjL hwj
    go_enter Tryz.func3, Tryz.ntmps3
    go_wp2_with fail
    obtain ⟨W0, hW0⟩ : ∃ W0, W0 = w.alloc (.cells #[.int .i64 (a0 : Nat), .int .i64 (b0 : Nat), .slice oa n cap] 26) := ⟨_, rfl⟩
    obtain ⟨sB, hsB⟩ : ∃ sB, sB = w.heap.size := ⟨_, rfl⟩
    have H1 := show Hid (TwF w sB (a0 : Nat) (b0 : Nat) (.slice oa n cap) (.slice ol nl' cl) (.slice om nm' cm) L l m W0) from by rw [hsB]; exact H0.out W0 hW0
    rw [← hW0, ← hsB]
    clear hW0 hsB H0
    refine (HAw.out _ H1.out.b).mono ?_
    rintro e w1 ⟨rfl, hb⟩
    have H2 := show Hid _ from H1.out.below hb
    clear hb H1 HAw
    obtain ⟨z0, z1, z2⟩ := Bk.at3S H2.out.s
    go_wp2_with fail
    refine (HLg.out _).mono ?_
    rintro e w2 ⟨rfl, hb⟩
    have H3 := show Hid _ from H2.out.below hb
    clear hb H2 HLg z0 z1 z2
    obtain ⟨z0, z1, z2⟩ := Bk.at3S H3.out.s
    go_wp2_with fail
    refine (HD1.out sB _ H3.out).mono ?_
    rintro e w3 ⟨ga, cg, rfl, hh⟩
    have H4 := show Hid (TwF w sB (a0 : Nat) (b0 : Nat) (.slice oa n cap) (.slice ol nl' cl) (.slice om nm' cm) L l m w3 ∧ LsC w3 (.slice ga n cg) A ∧ NoNil (.slice ga n cg)) from ⟨H3.out.below hh.out.2.2, hh.out.1, hh.out.2.1⟩
    have H5 : Hid (∀ W, W = w3.alloc (.cells #[.int .i64 (a0 : Nat), .int .i64 (b0 : Nat), .slice ga n cg] 26) → TwF w sB (a0 : Nat) (b0 : Nat) (.slice oa n cap) (.slice ol nl' cl) (.slice om nm' cm) L l m W ∧ LsC W (.slice ga n cg) A ∧ NoNil (.slice ga n cg) ∧ Bk W w3.heap.size #[.int .i64 (a0 : Nat), .int .i64 (b0 : Nat), .slice ga n cg] 26) := fun W hW => by
      subst hW
      have hb := (Below.refl _ w3).alloc (Nat.le_refl _) (.cells #[.int .i64 (a0 : Nat), .int .i64 (b0 : Nat), .slice ga n cg] 26)
      exact ⟨H4.out.1.below hb, H4.out.2.1.below hb, H4.out.2.2, Bk.new _ _ _⟩
    obtain ⟨W5, hW5⟩ : ∃ W5, W5 = w3.alloc (.cells #[.int .i64 (a0 : Nat), .int .i64 (b0 : Nat), .slice ga n cg] 26) := ⟨_, rfl⟩
    obtain ⟨dB, hdB⟩ : ∃ dB, dB = w3.heap.size := ⟨_, rfl⟩
    have H6 := show Hid (TwF w sB (a0 : Nat) (b0 : Nat) (.slice oa n cap) (.slice ol nl' cl) (.slice om nm' cm) L l m W5 ∧ LsC W5 (.slice ga n cg) A ∧ NoNil (.slice ga n cg) ∧ Bk W5 dB #[.int .i64 (a0 : Nat), .int .i64 (b0 : Nat), .slice ga n cg] 26) from by rw [hdB]; exact H5.out W5 hW5
    clear hh H3 H4 H5 HD1 z0 z1 z2
    obtain ⟨y0, y1, y2⟩ := Bk.at3S H6.out.2.2.2
    rw [hW5, hdB] at y0 y1 y2
    go_wp2_with fail
    rw [← hW5, ← hdB]
    clear y0 y1 y2 hW5 hdB
    refine (HD2.out _ ga cg H6.out.1.b H6.out.2.1 H6.out.2.2.1 H6.out.1.m).mono ?_
    rintro e w7 ⟨gb, cb, rfl, hh⟩
    have H7 := show Hid (TwF w sB (a0 : Nat) (b0 : Nat) (.slice oa n cap) (.slice ol nl' cl) (.slice om nm' cm) L l m w7 ∧ LsC w7 (.slice gb n cb) B) from ⟨H6.out.1.below hh.out.2, hh.out.1⟩
    have H8 : Hid (∀ W, W = w7.alloc (.cells #[.int .i64 (a0 : Nat), .int .i64 (b0 : Nat), .slice gb n cb] 26) → TwF w sB (a0 : Nat) (b0 : Nat) (.slice oa n cap) (.slice ol nl' cl) (.slice om nm' cm) L l m W ∧ LsC W (.slice gb n cb) B ∧ Bk W w7.heap.size #[.int .i64 (a0 : Nat), .int .i64 (b0 : Nat), .slice gb n cb] 26) := fun W hW => by
      subst hW
      have hb := (Below.refl _ w7).alloc (Nat.le_refl _) (.cells #[.int .i64 (a0 : Nat), .int .i64 (b0 : Nat), .slice gb n cb] 26)
      exact ⟨H7.out.1.below hb, H7.out.2.below hb, Bk.new _ _ _⟩
    clear hh H6 H7 HD2
    go_wp2_with fail
    obtain ⟨W8, hW8⟩ : ∃ W8, W8 = w7.alloc (.cells #[.int .i64 (a0 : Nat), .int .i64 (b0 : Nat), .slice gb n cb] 26) := ⟨_, rfl⟩
    obtain ⟨gB, hgB⟩ : ∃ gB, gB = w7.heap.size := ⟨_, rfl⟩
    have H9 := show Hid (TwF w sB (a0 : Nat) (b0 : Nat) (.slice oa n cap) (.slice ol nl' cl) (.slice om nm' cm) L l m W8 ∧ LsC W8 (.slice gb n cb) B ∧ Bk W8 gB #[.int .i64 (a0 : Nat), .int .i64 (b0 : Nat), .slice gb n cb] 26) from by rw [hgB]; exact H8.out W8 hW8
    rw [← hW8, ← hgB]
    clear hW8 hgB H8
    refine (HJ.out sB _ H9.out.1).mono ?_
    rintro e w9 ⟨uj, rfl, hj⟩
    have HA := show Hid (TwF w sB (a0 : Nat) (b0 : Nat) (.slice oa n cap) (.slice ol nl' cl) (.slice om nm' cm) L l m w9 ∧ LsC w9 (.slice gb n cb) B ∧ Bk w9 gB #[.int .i64 (a0 : Nat), .int .i64 (b0 : Nat), .slice gb n cb] 26 ∧ LsS w9 uj (l ++ m)) from ⟨H9.out.1.below hj.out.2, H9.out.2.1.below hj.out.2, H9.out.2.2.below hj.out.2, hj.out.1.lss⟩
    clear hj H9 HJ
    obtain ⟨z0, z1, z2⟩ := Bk.at3S HA.out.1.s
    go_wp2_with fail
    refine (HD3.out sB _ uj HA.out.1 HA.out.2.2.2).mono ?_
    rintro e w10 ⟨gc, cc, rfl, hh⟩
    have HB := show Hid (Below w.heap.size w w10 ∧ LsC w10 (.slice gb n cb) B ∧ Bk w10 gB #[.int .i64 (a0 : Nat), .int .i64 (b0 : Nat), .slice gb n cb] 26 ∧ LsC w10 (.slice gc n cc) B) from ⟨(HA.out.1.below hh.out.2).b, HA.out.2.1.below hh.out.2, HA.out.2.2.1.below hh.out.2, hh.out.1⟩
    have HC : Hid (∀ W, W = w10.alloc (.cells #[.int .i64 (a0 : Nat), .int .i64 (b0 : Nat), .slice gc n cc] 26) → Below w.heap.size w W ∧ LsC W (.slice gb n cb) B ∧ Bk W gB #[.int .i64 (a0 : Nat), .int .i64 (b0 : Nat), .slice gb n cb] 26 ∧ LsC W (.slice gc n cc) B ∧ Bk W w10.heap.size #[.int .i64 (a0 : Nat), .int .i64 (b0 : Nat), .slice gc n cc] 26) := fun W hW => by
      subst hW
      have hb := (Below.refl _ w10).alloc (Nat.le_refl _) (.cells #[.int .i64 (a0 : Nat), .int .i64 (b0 : Nat), .slice gc n cc] 26)
      exact ⟨HB.out.1.alloc HB.out.1.size _, HB.out.2.1.below hb, HB.out.2.2.1.below hb, HB.out.2.2.2.below hb, Bk.new _ _ _⟩
    obtain ⟨W11, hW11⟩ : ∃ W11, W11 = w10.alloc (.cells #[.int .i64 (a0 : Nat), .int .i64 (b0 : Nat), .slice gc n cc] 26) := ⟨_, rfl⟩
    have HC2 := show Hid _ from HC.out W11 hW11
    clear hh HA HB HC HD3 z0 z1 z2
    obtain ⟨z0, z1, z2⟩ := Bk.at3S HC2.out.2.2.1
    obtain ⟨y0, y1, y2⟩ := Bk.at3S HC2.out.2.2.2.2
    rw [hW11] at z0 z1 z2 y0 y1 y2
    go_wp2_with fail
    rw [← hW11]
    clear z0 z1 z2 y0 y1 y2 hW11
    refine (HSm.out _ _ _ HC2.out.2.2.2.1 HC2.out.2.1).mono ?_
    rintro e w12 ⟨rfl, hb⟩
    have HF := show Hid (Below w.heap.size w w12) from HC2.out.1.trans (hb.mono HC2.out.1.size)
    clear hb HC2 HSm
    go_wp2
    go_ret
    exact ⟨rfl, HF.out⟩

end Go.Proofs.YtapachlhdgehjaaGreatDoor
