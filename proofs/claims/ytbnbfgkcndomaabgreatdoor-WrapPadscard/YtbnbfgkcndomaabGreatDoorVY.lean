/-
  Wrappers put about a part: typed, Around, All; Inner.
-/
import Derived.Test.YtbnbfgkcndomaabGreatDoorVW
import Derived.Test.YtbnbfgkcndomaabGreatDoorVTy1
import Derived.Test.YtbnbfgkcndomaabGreatDoorVTy3
import Derived.Test.YtbnbfgkcndomaabGreatDoorReg3
namespace Go.Proofs.YtbnbfgkcndomaabGreatDoor
open Go.RowKit

theorem typed_any : ∀ c : Nat, c < 64 → ∀ (a : Nat) (w : World), Calls Tryz.prog 55 #[.int .u16 (c : Nat), .pointer (some ⟨a, 0, none⟩)] w fun e w' => ∃ b, e = .returned (.iface (cid c) (.pointer (some ⟨b, 0, none⟩))) ∧ PtrC w' b (1 + popN c) a ∧ Below w.heap.size w w'
  | 0, _, a, w => tyd_0 a w
  | 1, _, a, w => tyd_1 a w
  | 2, _, a, w => tyd_2 a w
  | 3, _, a, w => tyd_3 a w
  | 4, _, a, w => tyd_4 a w
  | 5, _, a, w => tyd_5 a w
  | 6, _, a, w => tyd_6 a w
  | 7, _, a, w => tyd_7 a w
  | 8, _, a, w => tyd_8 a w
  | 9, _, a, w => tyd_9 a w
  | 10, _, a, w => tyd_10 a w
  | 11, _, a, w => tyd_11 a w
  | 12, _, a, w => tyd_12 a w
  | 13, _, a, w => tyd_13 a w
  | 14, _, a, w => tyd_14 a w
  | 15, _, a, w => tyd_15 a w
  | 16, _, a, w => tyd_16 a w
  | 17, _, a, w => tyd_17 a w
  | 18, _, a, w => tyd_18 a w
  | 19, _, a, w => tyd_19 a w
  | 20, _, a, w => tyd_20 a w
  | 21, _, a, w => tyd_21 a w
  | 22, _, a, w => tyd_22 a w
  | 23, _, a, w => tyd_23 a w
  | 24, _, a, w => tyd_24 a w
  | 25, _, a, w => tyd_25 a w
  | 26, _, a, w => tyd_26 a w
  | 27, _, a, w => tyd_27 a w
  | 28, _, a, w => tyd_28 a w
  | 29, _, a, w => tyd_29 a w
  | 30, _, a, w => tyd_30 a w
  | 31, _, a, w => tyd_31 a w
  | 32, _, a, w => tyd_32 a w
  | 33, _, a, w => tyd_33 a w
  | 34, _, a, w => tyd_34 a w
  | 35, _, a, w => tyd_35 a w
  | 36, _, a, w => tyd_36 a w
  | 37, _, a, w => tyd_37 a w
  | 38, _, a, w => tyd_38 a w
  | 39, _, a, w => tyd_39 a w
  | 40, _, a, w => tyd_40 a w
  | 41, _, a, w => tyd_41 a w
  | 42, _, a, w => tyd_42 a w
  | 43, _, a, w => tyd_43 a w
  | 44, _, a, w => tyd_44 a w
  | 45, _, a, w => tyd_45 a w
  | 46, _, a, w => tyd_46 a w
  | 47, _, a, w => tyd_47 a w
  | 48, _, a, w => tyd_48 a w
  | 49, _, a, w => tyd_49 a w
  | 50, _, a, w => tyd_50 a w
  | 51, _, a, w => tyd_51 a w
  | 52, _, a, w => tyd_52 a w
  | 53, _, a, w => tyd_53 a w
  | 54, _, a, w => tyd_54 a w
  | 55, _, a, w => tyd_55 a w
  | 56, _, a, w => tyd_56 a w
  | 57, _, a, w => tyd_57 a w
  | 58, _, a, w => tyd_58 a w
  | 59, _, a, w => tyd_59 a w
  | 60, _, a, w => tyd_60 a w
  | 61, _, a, w => tyd_61 a w
  | 62, _, a, w => tyd_62 a w
  | 63, _, a, w => tyd_63 a w
  | n + 64, h, _, _ => absurd h (by omega)

/-- What comes of one wrapper more. -/
def stp (s : Bs × List Wr) (x : Wr) : Bs × List Wr := if x.kind = 7 then (.half, []) else (s.1, x :: s.2)
def runW (s : Bs × List Wr) (l : List Wr) : Bs × List Wr := l.foldl stp s
theorem run_snoc (s : Bs × List Wr) (l : List Wr) (x : Wr) : runW s (l ++ [x]) = stp (runW s l) x := by simp [runW]
theorem stp_len (s : Bs × List Wr) (x : Wr) : (stp s x).2.length ≤ s.2.length + 1 := by
  unfold stp
  split <;> simp
theorem run_len : ∀ (l : List Wr) (s : Bs × List Wr), (runW s l).2.length ≤ s.2.length + l.length
  | [], s => by simp [runW]
  | x :: l, s => by
    have h := run_len l (stp s x)
    have h2 := stp_len s x
    show (runW (stp s x) l).2.length ≤ _
    simp only [List.length_cons]
    omega
theorem stp_can (s : Bs × List Wr) (x : Wr) : canL (stp s x).1 (stp s x).2 = lefC (canL s.1 s.2) x := by
  unfold stp
  split
  · rename_i h
    show (0 : Nat) = _
    unfold lefC
    rw [h]
    rfl
  · rfl
theorem stp_kind (s : Bs × List Wr) (x : Wr) : kindL (stp s x).1 (stp s x).2 = if x.kind = 7 then 0 else if kindL s.1 s.2 = 0 then 9 else kindL s.1 s.2 := by
  unfold stp
  split <;> rfl
theorem stp_name (s : Bs × List Wr) (x : Wr) : nameL (stp s x).1 (stp s x).2 = if x.kind = 7 then ⟨#[]⟩ else if x.kind = 4 then x.text else nameL s.1 s.2 := by
  unfold stp
  split <;> rfl
theorem stp_steps (s : Bs × List Wr) (x : Wr) : (stp s x).2.length = if x.kind = 7 then 0 else s.2.length + 1 := by
  unfold stp
  split <;> rfl
theorem stp_un (s : Bs × List Wr) (x : Wr) : (!(stp s x).2.isEmpty || (stp s x).1.isHalf) = true := by
  unfold stp
  split <;> rfl

theorem around_nil (x : Wr) (w : World) :
    Calls Tryz.prog 15 #[.nilIface, (Value.agg #[.int .u8 (x.kind : Nat), .int .u16 (x.mask : Nat), .int .i64 x.num, .string x.text])] w fun e w' => e = .returned (.tuple #[.nilIface, .int .i64 8]) ∧ Below w.heap.size w w' := by
  go_enter Tryz.func15, Tryz.ntmps15
  go_wp2
  exact bodyPost_ret (v := .tuple #[.nilIface, .int .i64 8]) (by simp [results, Tryz.results15, go_sem]) rfl ⟨rfl, (Below.refl _ w).alloc (Nat.le_refl _) _⟩

theorem around_bad (x : Wr) (i : Nat) (y : Value) (w : World) (hT : Tab w) (hx : x.wf) (ho : okW x = false) :
    Calls Tryz.prog 15 #[.iface i y, (Value.agg #[.int .u8 (x.kind : Nat), .int .u16 (x.mask : Nat), .int .i64 x.num, .string x.text])] w fun e w' => e = .returned (.tuple #[.nilIface, .int .i64 70]) ∧ Below w.heap.size w w' := by
  have L := (Below.refl _ w).alloc (Nat.le_refl _) (.cells (#[.int .u8 (x.kind : Nat), .int .u16 (x.mask : Nat), .int .i64 x.num, .string x.text]) 58)
  have H := wMay_any x _ (hT.below L) hx
  rw [ho] at H
  clear hT hx ho
  go_enter Tryz.func15, Tryz.ntmps15
  go_wp2_with fail
  refine H.mono ?_
  rintro e w1 ⟨rfl, hb⟩
  have L1 : Hid (Below w.heap.size w w1) := L.trans (hb.mono L.size)
  clear hb L
  go_wp2
  exact bodyPost_ret (v := .tuple #[.nilIface, .int .i64 70]) (by simp [results, Tryz.results15, go_sem]) rfl ⟨rfl, L1.out⟩

theorem around_half (x : Wr) (i : Nat) (y : Value) (w : World) (hT : Tab w) (hx : x.wf) (ho : okW x = true) (h7 : x.kind = 7) :
    Calls Tryz.prog 15 #[.iface i y, (Value.agg #[.int .u8 (x.kind : Nat), .int .u16 (x.mask : Nat), .int .i64 x.num, .string x.text])] w fun e w' => e = .returned (.tuple #[Bs.half.val, .int .i64 0]) ∧ Below w.heap.size w w' := by
  have L := (Below.refl _ w).alloc (Nat.le_refl _) (.cells (#[.int .u8 (x.kind : Nat), .int .u16 (x.mask : Nat), .int .i64 x.num, .string x.text]) 58)
  have K := Blk.new w (#[.int .u8 (x.kind : Nat), .int .u16 (x.mask : Nat), .int .i64 x.num, .string x.text]) 58
  have H := wMay_any x _ (hT.below L) hx
  rw [ho] at H
  obtain ⟨xk, xm, xn, xt⟩ := x
  simp only at h7
  subst h7
  clear hT hx ho
  go_enter Tryz.func15, Tryz.ntmps15
  go_wp2_with fail
  refine H.mono ?_
  rintro e w1 ⟨rfl, hb⟩
  have L1 : Hid (Below w.heap.size w w1) := L.trans (hb.mono L.size)
  have c0 := (K.below hb).cell 0
  clear hb L K
  go_wp2
  exact bodyPost_ret (v := .tuple #[.iface 114 (.pointer none), .int .i64 0]) (by simp [results, Tryz.results15, go_sem]) rfl ⟨rfl, L1.out⟩

theorem around_many (B : Bs) (l : List Wr) (x : Wr) (v : Value) (w : World) (hT : Tab w) (hP : Pw w B l v) (hx : x.wf) (ho : okW x = true) (h7 : x.kind ≠ 7) (hl : 16 ≤ l.length) (hl2 : l.length ≤ 1000) :
    Calls Tryz.prog 15 #[v, (Value.agg #[.int .u8 (x.kind : Nat), .int .u16 (x.mask : Nat), .int .i64 x.num, .string x.text])] w fun e w' => e = .returned (.tuple #[.nilIface, .int .i64 4]) ∧ Below w.heap.size w w' := by
  have L := (Below.refl _ w).alloc (Nat.le_refl _) (.cells (#[.int .u8 (x.kind : Nat), .int .u16 (x.mask : Nat), .int .i64 x.num, .string x.text]) 58)
  have K := Blk.new w (#[.int .u8 (x.kind : Nat), .int .u16 (x.mask : Nat), .int .i64 x.num, .string x.text]) 58
  have H := wMay_any x _ (hT.below L) hx
  rw [ho] at H
  have HP : Hid (∀ w', Below w.heap.size w w' → Calls Tryz.prog 54 #[v] w' fun e w'' => e = .returned (.int .i64 (l.length : Nat)) ∧ w'' = w') := fun w' h => (hP.below h).wraps hl2
  obtain ⟨i, y, rfl, _, _⟩ := hP.tf
  obtain ⟨xk, xm, xn, xt⟩ := x
  simp only at h7
  have k7 : ((xk : Int) == 7) = false := beq_eq_false_iff_ne.2 (by omega)
  have hl3 : (16 : Int) ≤ (l.length : Int) := by omega
  clear hT hx ho hP h7 hl
  go_enter Tryz.func15, Tryz.ntmps15
  go_wp2_with fail
  refine H.mono ?_
  rintro e w1 ⟨rfl, hb⟩
  have L1 : Hid (Below w.heap.size w w1) := L.trans (hb.mono L.size)
  have c0 := (K.below hb).cell 0
  clear hb L K
  go_wp2_with fail
  refine (HP.out _ L1.out).mono ?_
  rintro e w2 ⟨rfl, rfl⟩
  go_wp2
  exact bodyPost_ret (v := .tuple #[.nilIface, .int .i64 4]) (by simp [results, Tryz.results15, go_sem]) rfl ⟨rfl, L1.out⟩

set_option maxHeartbeats 4000000 in
theorem around_ok (B : Bs) (l : List Wr) (x : Wr) (v : Value) (w : World) (hT : Tab w) (hP : Pw w B l v) (hx : x.wf) (ho : okW x = true) (h7 : x.kind ≠ 7) (hl : l.length < 16) :
    Calls Tryz.prog 15 #[v, (Value.agg #[.int .u8 (x.kind : Nat), .int .u16 (x.mask : Nat), .int .i64 x.num, .string x.text])] w fun e w' => ∃ v', e = .returned (.tuple #[v', .int .i64 0]) ∧ Pw w' B (x :: l) v' ∧ Below w.heap.size w w' := by
  have L := (Below.refl _ w).alloc (Nat.le_refl _) (.cells (#[.int .u8 (x.kind : Nat), .int .u16 (x.mask : Nat), .int .i64 x.num, .string x.text]) 58)
  have K := Blk.new w (#[.int .u8 (x.kind : Nat), .int .u16 (x.mask : Nat), .int .i64 x.num, .string x.text]) 58
  have H := wMay_any x _ (hT.below L) hx
  rw [ho] at H
  have HP : Hid (∀ w', Below w.heap.size w w' → Calls Tryz.prog 54 #[v] w' fun e w'' => e = .returned (.int .i64 (l.length : Nat)) ∧ w'' = w') := fun w' h => (hP.below h).wraps (by omega)
  have HC : Hid (∀ w', Calls Tryz.prog 26 #[v] w' fun e w'' => e = .returned (.int .u16 (canL B l : Nat)) ∧ w'' = w') := fun w' => hP.canC w'
  have hlt : canL B (x :: l) < 64 := lef_lt _ _ hP.can_lt (ok_mask ho)
  have HL : Hid (∀ w', Calls Tryz.prog 56 #[.int .u16 (canL B l : Nat), (Value.agg #[.int .u8 (x.kind : Nat), .int .u16 (x.mask : Nat), .int .i64 x.num, .string x.text])] w' fun e w'' => e = .returned (.int .u16 (canL B (x :: l) : Nat)) ∧ Below w'.heap.size w' w'') := fun w' => left_any _ _ w' hP.can_lt (ok_mask ho)
  have HY : Hid (∀ a w', Below w.heap.size w w' → Blk w' a #[v, .int .u8 (x.kind : Nat), .int .u16 (x.mask : Nat), .int .i64 x.num, .string x.text] 119 → Calls Tryz.prog 55 #[.int .u16 (canL B (x :: l) : Nat), .pointer (some ⟨a, 0, none⟩)] w' fun e w'' => ∃ v', e = .returned v' ∧ Hid (Pw w'' B (x :: l) v' ∧ Below w.heap.size w w'')) := fun a w' h1 h2 =>
    (typed_any _ hlt a w').mono fun e w'' ⟨b, he, hp, hb⟩ => ⟨_, he, ⟨⟨b, a, v, rfl, hp, h2.below hb, hlt, ho, (hP.below h1).below hb⟩, h1.trans (hb.mono h1.size)⟩⟩
  obtain ⟨i, y, rfl, _, _⟩ := hP.tf
  have k7 : ((x.kind : Int) == 7) = false := beq_eq_false_iff_ne.2 (by omega)
  have hl3 : ¬ (16 : Int) ≤ (l.length : Int) := by omega
  clear hT hx ho hP h7 hl hlt
  generalize canL B (x :: l) = c2 at *
  generalize canL B l = c1 at *
  go_enter Tryz.func15, Tryz.ntmps15
  go_wp2_with fail
  refine H.mono ?_
  rintro e w1 ⟨rfl, hb⟩
  have L1 : Hid (Below w.heap.size w w1 ∧ Blk w1 w.heap.size (#[.int .u8 (x.kind : Nat), .int .u16 (x.mask : Nat), .int .i64 x.num, .string x.text]) 58) := ⟨L.trans (hb.mono L.size), K.below hb⟩
  have c0 := (K.below hb).cell 0
  clear hb L K H
  go_wp2_with fail
  refine (HP.out _ L1.out.1).mono ?_
  rintro e w2 ⟨rfl, rfl⟩
  go_upto_region 9 with fail
  clear c0 HP
  have c0 := L1.out.2.cell 0
  have c1' := L1.out.2.cell 1
  have c2' := L1.out.2.cell 2
  have c3' := L1.out.2.cell 3
  go_cut [4, 5] (fun s4 s5 wx => s5 = .int .i64 0 ∧ Hid (Pw wx B (x :: l) s4 ∧ Below w.heap.size w wx))
  case first =>
    clear c0 c1' c2' c3'
    refine R3.wp_region_lit 7 1 3 (fun _ b => .pointer (some ⟨b, 0, none⟩)) (fun _ => .cells #[.iface i y, .int .u8 (x.kind : Nat), .int .u16 (x.mask : Nat), .int .i64 x.num, .string x.text] 119) [29] (by kernel_rfl) (by kernel_rfl) rfl ?_ rfl ?_
    · intro k hk
      have hc : k = 0 := by omega
      subst hc; rfl
    apply Exists.intro
    refine ⟨fun bs ne => ?_, ?_, ?_⟩
    · have x0 := fun t : Gb w2 bs => (L1.out.2.below t.below).cell 0
      have x1 := fun t : Gb w2 bs => (L1.out.2.below t.below).cell 1
      have x2 := fun t : Gb w2 bs => (L1.out.2.below t.below).cell 2
      have x3 := fun t : Gb w2 bs => (L1.out.2.below t.below).cell 3
      simp only [List.take_succ_cons, List.take_zero]
      repeat (go_big_quiet_step (first
        | (go_at_call 26; exact gb_same (HC.out _))
        | (go_at_call 56; exact gb_call (HL.out _))))
      exact wpQuiet_nil rfl
    · intro i h1 h2
      have hc : i = 7 := by omega
      subst hc
      exact ⟨_, rfl, rfl, fun _ => by kernel_rfl⟩
    intro bl wr hbl hlo _
    obtain ⟨q1, q2⟩ := hlo 7 (by omega) (by omega)
    simp only [R3.layL]
    generalize bl 7 = g0 at *
    clear hlo
    have HZ : Hid (Below w.heap.size w wr) := L1.out.1.trans (hbl.mono L1.out.1.size)
    have hY := HY.out g0 wr HZ.out q2
    clear hbl q1 q2
    refine wpAny_one 8 (by kernel_rfl) rfl ?_
    intro K hK
    go_simp
    go_wp2_with (go_at_call 55; refine hY.mono ?_; rintro e w5 ⟨v', rfl, H5⟩)
    try (refine hK _ _ ?_)
    try clear hK K
    clear hY
    refine wpAny_one 9 (by kernel_rfl) rfl ?_
    intro K hK
    go_simp
    refine hK _ _ ?_
    clear hK K
    refine wpAny_one 10 (by kernel_rfl) rfl ?_
    intro K hK
    go_simp
    refine hK _ _ ?_
    clear hK K
    refine wpAny_done (by kernel_rfl) ?_ _
    go_wp2_with fail
    go_meet
    exact ⟨rfl, H5⟩
  case rest =>
    obtain ⟨rfl, H5⟩ := hcut
    clear HC HL HY L1
    go_wp2
    exact bodyPost_ret (v := .tuple #[_, .int .i64 0]) (by simp [results, Tryz.results15, go_sem]) rfl ⟨_, rfl, H5.out.1, H5.out.2⟩

end Go.Proofs.YtbnbfgkcndomaabGreatDoor

namespace Go.Proofs.YtbnbfgkcndomaabGreatDoor
open Go.RowKit

theorem around_one (B : Bs) (l : List Wr) (x : Wr) (v : Value) (w : World) (hT : Tab w) (hP : Pw w B l v) (hx : x.wf) (ho : okW x = true) (hf : x.kind = 7 ∨ l.length < 16) :
    Calls Tryz.prog 15 #[v, (Value.agg #[.int .u8 (x.kind : Nat), .int .u16 (x.mask : Nat), .int .i64 x.num, .string x.text])] w fun e w' => ∃ v', e = .returned (.tuple #[v', .int .i64 0]) ∧ Pw w' (stp (B, l) x).1 (stp (B, l) x).2 v' ∧ Below w.heap.size w w' := by
  by_cases h7 : x.kind = 7
  · obtain ⟨i, y, rfl, _, _⟩ := hP.tf
    refine (around_half x i y w hT hx ho h7).mono ?_
    rintro e w' ⟨rfl, hb⟩
    refine ⟨_, rfl, ?_, hb⟩
    rw [show stp (B, l) x = (.half, []) from if_pos h7]
    exact ⟨rfl, trivial⟩
  · refine (around_ok B l x v w hT hP hx ho h7 (by omega)).mono ?_
    rintro e w' ⟨v', rfl, hp, hb⟩
    refine ⟨_, rfl, ?_, hb⟩
    rw [show stp (B, l) x = (B, x :: l) from if_neg h7]
    exact hp

theorem all_nil (v : Value) (w : World) :
    Calls Tryz.prog 13 #[.nilIface, v] w fun e w' => e = .returned (.tuple #[.nilIface, .int .i64 8]) ∧ Below w.heap.size w w' := by
  go_enter Tryz.func13, Tryz.ntmps13
  go_wp2
  exact bodyPost_ret (v := .tuple #[.nilIface, .int .i64 8]) (by simp [results, Tryz.results13, go_sem]) rfl ⟨rfl, Below.refl _ _⟩

theorem all_bad (i : Nat) (y vw : Value) (ws : List Wr) (w : World) (hT : Tab w) (hv : Wraps w vw ws) (hs : ∀ x ∈ ws, x.wf) (hz : ckE ws ≠ 0) :
    Calls Tryz.prog 13 #[.iface i y, vw] w fun e w' => e = .returned (.tuple #[.nilIface, .int .i64 (ckE ws)]) ∧ Below w.heap.size w w' := by
  have hC := checkAll_any ws vw w hT hv hs
  have hz1 : (ckE ws != 0) = true := by simpa using hz
  generalize ckE ws = E at *
  clear hT hv hs hz
  go_enter Tryz.func13, Tryz.ntmps13
  go_wp2_with fail
  refine hC.mono ?_
  rintro e w1 ⟨rfl, hb⟩
  go_wp2
  exact bodyPost_ret (v := .tuple #[.nilIface, .int .i64 E]) (by simp [results, Tryz.results13, go_sem]) rfl ⟨rfl, hb⟩

set_option maxHeartbeats 2000000 in
theorem all_ok (B : Bs) (l0 ws : List Wr) (v vw : Value) (w : World) (hT : Tab w) (hP : Pw w B l0 v) (hv : Wraps w vw ws) (hs : ∀ x ∈ ws, x.wf) (hz : ckE ws = 0) (hf : ∀ k (h : k < ws.length), ws[k].kind = 7 ∨ (runW (B, l0) (ws.take k)).2.length < 16) :
    Calls Tryz.prog 13 #[v, vw] w fun e w' => ∃ v', e = .returned (.tuple #[v', .int .i64 0]) ∧ Pw w' (runW (B, l0) ws).1 (runW (B, l0) ws).2 v' ∧ Below w.heap.size w w' := by
  have hC := checkAll_any ws vw w hT hv hs
  rw [hz] at hC
  have HA : Hid ((∀ x ∈ ws, okW x = true) ∧ (∀ x ∈ ws, x.wf) ∧ Tab w ∧ Pw w B l0 v ∧ ∀ k (h : k < ws.length), ws[k].kind = 7 ∨ (runW (B, l0) (ws.take k)).2.length < 16) := ⟨all_of hz, hs, hT, hP, hf⟩
  obtain ⟨i, y, rfl, _, _⟩ := hP.tf
  obtain ⟨oa, cap, rfl, hc', hg⟩ := hv
  have HG : Hid (0 < ws.length → ∃ g o, oa = some ⟨g, o, none⟩ ∧ g < w.heap.size ∧ ∀ i (h : i < ws.length), WrAt w g (o + i * 4) ws[i]) := hg
  have hln : ws.length ≤ 16 := by
    unfold ckE at hz
    split at hz
    · omega
    · omega
  clear hT hP hs hz hf hg
  go_enter Tryz.func13, Tryz.ntmps13
  go_wp2_with fail
  refine hC.mono ?_
  rintro e w1 ⟨rfl, hb⟩
  have HB : Hid (Below w.heap.size w w1) := hb
  clear hb hC
  go_wp2_with fail
  go_loopw [0, 19] (fun pv i wr => ∃ k : Nat, k ≤ ws.length ∧ i = .int .i64 k ∧ Hid (Pw wr (runW (B, l0) (ws.take k)).1 (runW (B, l0) (ws.take k)).2 pv ∧ Below w.heap.size w wr)) (fun _ i _ => ws.length - (intOf i).toNat)
  case atStart => exact ⟨0, Nat.zero_le _, rfl, HA.out.2.2.2.1.below HB.out, HB.out⟩
  case round =>
    obtain ⟨k, hk, rfl, HR⟩ := hrel
    by_cases hlt : k < ws.length
    · obtain ⟨g, o, rfl, hg, hat⟩ := HG.out (by omega)
      have hx := (hat k hlt).kept (w' := wr) fun j => HR.out.2.cell (p := ⟨g, j, none⟩) hg
      have e1 : ws.take (k + 1) = ws.take k ++ [ws[k]] := (List.take_append_getElem hlt).symm
      have e2 : runW (B, l0) (ws.take (k + 1)) = stp (runW (B, l0) (ws.take k)) ws[k] := by rw [e1, run_snoc]
      have L' : Below w.heap.size w (wr.alloc (.cells (#[.int .u8 (ws[k].kind : Nat), .int .u16 (ws[k].mask : Nat), .int .i64 ws[k].num, .string ws[k].text]) 58)) := HR.out.2.alloc HR.out.2.size _
      have HO : Hid (Calls Tryz.prog 15 #[u0, (Value.agg #[.int .u8 (ws[k].kind : Nat), .int .u16 (ws[k].mask : Nat), .int .i64 ws[k].num, .string ws[k].text])] (wr.alloc (.cells (#[.int .u8 (ws[k].kind : Nat), .int .u16 (ws[k].mask : Nat), .int .i64 ws[k].num, .string ws[k].text]) 58)) fun e w' => ∃ v', e = .returned (.tuple #[v', .int .i64 0]) ∧ Pw w' (runW (B, l0) (ws.take (k + 1))).1 (runW (B, l0) (ws.take (k + 1))).2 v' ∧ Below (wr.alloc (.cells (#[.int .u8 (ws[k].kind : Nat), .int .u16 (ws[k].mask : Nat), .int .i64 ws[k].num, .string ws[k].text]) 58)).heap.size (wr.alloc (.cells (#[.int .u8 (ws[k].kind : Nat), .int .u16 (ws[k].mask : Nat), .int .i64 ws[k].num, .string ws[k].text]) 58)) w') := by
        rw [e2]
        exact around_one _ _ _ _ _ (HA.out.2.2.1.below L') (HR.out.1.below ((Below.refl _ _).alloc (Nat.le_refl _) _)) (HA.out.2.1 _ (List.getElem_mem hlt)) (HA.out.1 _ (List.getElem_mem hlt)) (HA.out.2.2.2.2 k hlt)
      have HL : Hid (Below w.heap.size w (wr.alloc (.cells (#[.int .u8 (ws[k].kind : Nat), .int .u16 (ws[k].mask : Nat), .int .i64 ws[k].num, .string ws[k].text]) 58))) := L'
      clear e1 e2 L' hat HR
      generalize ws[k] = x at *
      obtain ⟨x0, x1, x2, x3⟩ := hx
      go_wp2_with fail
      refine HO.out.mono ?_
      rintro e w2 ⟨v', rfl, hp, hb⟩
      have H1 : Hid (Pw w2 (runW (B, l0) (ws.take (k + 1))).1 (runW (B, l0) (ws.take (k + 1))).2 v' ∧ Below w.heap.size w w2) := ⟨hp, HL.out.trans (hb.mono HL.out.size)⟩
      clear hb hp HO HL
      go_wp2
      go_roundw
      case rel => exact ⟨k + 1, by omega, by go_num, H1.out⟩
      case measure => simp [intOf]; omega
    · obtain rfl : k = ws.length := by omega
      rw [List.take_length] at HR
      go_wp2
      exact bodyPost_ret (v := .tuple #[_, .int .i64 0]) (by simp [results, Tryz.results13, go_sem]) rfl ⟨_, rfl, HR.out.1, HR.out.2⟩

set_option maxHeartbeats 2000000 in
theorem inner_any (B : Bs) (l : List Wr) (v : Value) (w : World) (hP : Pw w B l v) (hl : l.length ≤ 1000) :
    Calls Tryz.prog 19 #[v] w fun e w' => e = .returned (.tuple #[B.val, .int .i64 (l.length : Nat)]) ∧ w' = w := by
  have key : ∀ (l' : List Wr) (pv : Value), Pw w B l' pv → ∃ nv, Calls Tryz.prog 59 #[pv] w (fun e w' => e = .returned nv ∧ w' = w) ∧ (l' = [] ∧ nv = .nilIface ∨ ∃ x l'' i y, l' = x :: l'' ∧ nv = .iface i y ∧ Pw w B l'' nv) := by
    intro l' pv h
    cases l' with
    | nil => exact ⟨.nilIface, h.unw0, .inl ⟨rfl, rfl⟩⟩
    | cons x l'' =>
      obtain ⟨iv, hp, hc⟩ := h.unw
      obtain ⟨i, y, e, _, _⟩ := hp.tf
      exact ⟨iv, hc, .inr ⟨x, l'', i, y, rfl, e, hp⟩⟩
  have HK : Hid (∀ (l' : List Wr) (pv : Value), Pw w B l' pv → ∃ nv, Calls Tryz.prog 59 #[pv] w (fun e w' => e = .returned nv ∧ w' = w) ∧ (l' = [] ∧ nv = .nilIface ∨ ∃ x l'' i y, l' = x :: l'' ∧ nv = .iface i y ∧ Pw w B l'' nv)) := key
  obtain ⟨nv, hc, hn⟩ := key l v hP
  have HN : Hid (Pw w B l v ∧ (l = [] ∧ nv = .nilIface ∨ ∃ x l'' i y, l = x :: l'' ∧ nv = .iface i y ∧ Pw w B l'' nv)) := ⟨hP, hn⟩
  clear key hP hn
  go_enter Tryz.func19, Tryz.ntmps19
  go_wp2_with fail
  refine hc.mono ?_
  rintro e w1 ⟨rfl, rfl⟩
  clear hc
  go_wp2_with fail
  go_loopw [0, 4, 5] (fun pv st nv wr => wr = w1 ∧ ∃ (k : Nat) (l' : List Wr), l'.length + k = l.length ∧ st = .int .i64 k ∧ Hid (Pw w1 B l' pv ∧ (l' = [] ∧ nv = .nilIface ∨ ∃ x l'' i y, l' = x :: l'' ∧ nv = .iface i y ∧ Pw w1 B l'' nv))) (fun _ st _ _ => l.length - (intOf st).toNat)
  case atStart => exact ⟨rfl, 0, l, rfl, rfl, HN.out⟩
  case round =>
    obtain ⟨rfl, k, l', hk, rfl, HR⟩ := hrel
    obtain ⟨hp, hn⟩ := HR.out
    clear HR HN
    rcases hn with ⟨rfl, rfl⟩ | ⟨x, l'', i, y, rfl, rfl, hq⟩
    · obtain rfl : k = l.length := by simpa using hk
      obtain ⟨rfl, _⟩ := hp
      go_wp2
      exact bodyPost_ret (v := .tuple #[_, .int .i64 (l.length : Nat)]) (by simp [results, Tryz.results19, go_sem]) rfl ⟨rfl, rfl⟩
    · obtain ⟨nv2, hc, hn⟩ := HK.out _ _ hq
      have HQ : Hid (Pw wr B l'' (.iface i y) ∧ (l'' = [] ∧ nv2 = .nilIface ∨ ∃ x l3 i y, l'' = x :: l3 ∧ nv2 = .iface i y ∧ Pw wr B l3 nv2)) := ⟨hq, hn⟩
      simp only [List.length_cons] at hk
      clear hq hn hp
      go_wp2_with fail
      refine hc.mono ?_
      rintro e w2 ⟨rfl, rfl⟩
      go_wp2
      go_roundw
      case rel => first | exact ⟨rfl, k + 1, l'', by omega, by go_num, HQ.out⟩ | exact ⟨trivial, k + 1, l'', by omega, by go_num, HQ.out⟩
      case measure => simp [intOf]; omega

end Go.Proofs.YtbnbfgkcndomaabGreatDoor
