/-
  The statements' own button, can, alive.
-/
import Derived.Test.YtbnbfgkcndomaabGreatDoorVY
import Derived.Test.YtbnbfgkcndomaabGreatDoorUL
namespace Go.Proofs.YtbnbfgkcndomaabGreatDoor
open Go.RowKit Go.Shelf

theorem run_can : ∀ (l : List Wr) (s : Bs × List Wr), canL (runW s l).1 (runW s l).2 = sayC (canL s.1 s.2) l
  | [], _ => rfl
  | x :: l, s => by
    show canL (runW (stp s x) l).1 (runW (stp s x) l).2 = sayC (lefC (canL s.1 s.2) x) l
    rw [run_can l (stp s x), stp_can]
theorem fits_of (s : Bs × List Wr) (ws : List Wr) (h : s.2.length + ws.length ≤ 16) : ∀ k (h : k < ws.length), ws[k].kind = 7 ∨ (runW s (ws.take k)).2.length < 16 := fun k hk =>
  .inr (by have := run_len (ws.take k) s; rw [List.length_take] at this; omega)
theorem ck_len {l : List Wr} (h : ckE l = 0) : l.length ≤ 16 := by
  unfold ckE at h
  split at h <;> omega

/-- The button "ok" of the name b. -/
def ndB : Nd := ⟨2, ⟨#[98]⟩, ⟨#[]⟩, ⟨#[111, 107]⟩, 0, 0, 0, 0, 0, 0, false, 0, 0, 0, 0, 0, false, none, 0, 0, none, 0, 0⟩
def butB (b : Nat) : Bs := .made (ptOf ndB none 0 0) b
set_option maxHeartbeats 1000000 in
theorem button_any (w : World) (T : Tbs w) :
    Calls Tryz.prog 65 #[] w fun e w' => ∃ b, e = .returned (butB b).val ∧ Pw w' (butB b) [] (butB b).val ∧ Below w.heap.size w w' := by
  have hM := make_nil ndB w T rfl (by decide +kernel)
  clear T
  simp only [ndB] at hM
  go_enter Tryz.func65, Tryz.ntmps65
  go_wp2_with fail
  refine hM.mono ?_
  rintro e w1 ⟨b, rfl, hpt, hle, hb⟩
  go_wp2
  go_ret
  exact ⟨b, rfl, ⟨rfl, hpt, rfl⟩, hb⟩

set_option maxHeartbeats 1000000 in
theorem canW_any (ws : List Wr) (v : Value) (w : World) (T : Tbs w) (hv : Wraps w v ws) (hs : ∀ x ∈ ws, x.wf) (hz : ckE ws = 0) :
    Calls Tryz.prog 66 #[v] w fun e w' => e = .returned (.int .u16 (sayC 7 ws : Nat)) ∧ Below w.heap.size w w' := by
  have hB := button_any w T
  have HA : Hid (∀ W b, Below w.heap.size w W → Pw W (butB b) [] (butB b).val → Calls Tryz.prog 13 #[(butB b).val, v] W fun e w' => ∃ i y, e = .returned (.tuple #[.iface i y, .int .i64 0]) ∧ Hid (Pw w' (runW (butB b, []) ws).1 (runW (butB b, []) ws).2 (.iface i y) ∧ Below w.heap.size w w')) := fun W b h hP =>
    (all_ok (butB b) [] ws _ v W (T.2.2.below h) hP (hv.below h) hs hz (fits_of _ _ (by have := ck_len hz; simp; omega))).mono fun e w' ⟨v', he, hp, hb⟩ => by
      obtain ⟨i, y, rfl, _, _⟩ := hp.tf
      exact ⟨i, y, he, ⟨hp, h.trans (hb.mono h.size)⟩⟩
  have HO : Hid (∀ W b i y, Pw W (runW (butB b, []) ws).1 (runW (butB b, []) ws).2 (.iface i y) → Calls Tryz.prog 22 #[.iface i y] W fun e w' => e = .returned (.int .u16 (sayC 7 ws : Nat)) ∧ w' = W) := fun W b i y h => by
    have := h.holds7 W
    rwa [run_can] at this
  clear T hv hs hz
  go_enter Tryz.func66, Tryz.ntmps66
  go_wp2_with fail
  refine hB.mono ?_
  rintro e w1 ⟨b, rfl, hp, hb⟩
  go_wp2_with fail
  refine (HA.out _ b hb hp).mono ?_
  rintro e w2 ⟨i, y, rfl, H2⟩
  clear hB hp hb HA
  go_wp2_with fail
  refine (HO.out _ b i y H2.out.1).mono ?_
  rintro e w3 ⟨rfl, rfl⟩
  go_wp2
  go_ret
  exact ⟨rfl, H2.out.2⟩

def hidW : Wr := ⟨1, 4, 0, ⟨#[]⟩⟩
def focW : Wr := ⟨5, 0, 7, ⟨#[]⟩⟩
def droW : Wr := ⟨6, 0, 0, ⟨#[102, 105, 108, 101]⟩⟩
def halW : Wr := ⟨7, 0, 0, ⟨#[]⟩⟩
theorem w_wf : hidW.wf ∧ focW.wf ∧ droW.wf ∧ halW.wf := by
  refine ⟨⟨by decide, by decide, by decide, ?_⟩, ⟨by decide, by decide, by decide, ?_⟩, ⟨by decide, by decide, by decide, ?_⟩, ⟨by decide, by decide, by decide, ?_⟩⟩ <;> exact ⟨by decide, by decide⟩
theorem hide_any (w : World) : Calls Tryz.prog 64 #[] w fun e w' => e = .returned (Value.agg #[.int .u8 (hidW.kind : Nat), .int .u16 (hidW.mask : Nat), .int .i64 hidW.num, .string hidW.text]) ∧ Below w.heap.size w w' := by
  go_enter Tryz.func64, Tryz.ntmps64
  go_wp2
  exact bodyPost_ret (v := .agg #[.int .u8 1, .int .u16 4, .int .i64 0, .string ⟨#[]⟩]) (by simp [results, Tryz.results64, go_sem]) rfl ⟨rfl, by repeat (first | exact Below.refl _ _ | refine Below.setCell ?_ (by simp <;> omega) _ | refine Below.alloc ?_ (by simp <;> omega) _)⟩
theorem focus_any (w : World) : Calls Tryz.prog 67 #[] w fun e w' => e = .returned (Value.agg #[.int .u8 (focW.kind : Nat), .int .u16 (focW.mask : Nat), .int .i64 focW.num, .string focW.text]) ∧ Below w.heap.size w w' := by
  go_enter Tryz.func67, Tryz.ntmps67
  go_wp2
  exact bodyPost_ret (v := .agg #[.int .u8 5, .int .u16 0, .int .i64 7, .string ⟨#[]⟩]) (by simp [results, Tryz.results67, go_sem]) rfl ⟨rfl, by repeat (first | exact Below.refl _ _ | refine Below.setCell ?_ (by simp <;> omega) _ | refine Below.alloc ?_ (by simp <;> omega) _)⟩
theorem drop_any (w : World) : Calls Tryz.prog 68 #[] w fun e w' => e = .returned (Value.agg #[.int .u8 (droW.kind : Nat), .int .u16 (droW.mask : Nat), .int .i64 droW.num, .string droW.text]) ∧ Below w.heap.size w w' := by
  go_enter Tryz.func68, Tryz.ntmps68
  go_wp2
  exact bodyPost_ret (v := .agg #[.int .u8 6, .int .u16 0, .int .i64 0, .string ⟨#[102, 105, 108, 101]⟩]) (by simp [results, Tryz.results68, go_sem]) rfl ⟨rfl, by repeat (first | exact Below.refl _ _ | refine Below.setCell ?_ (by simp <;> omega) _ | refine Below.alloc ?_ (by simp <;> omega) _)⟩

theorem wraps_one {W : World} {g : Nat} {x : Wr} {t : TypeId} (h : Blk W g (#[.int .u8 (x.kind : Nat), .int .u16 (x.mask : Nat), .int .i64 x.num, .string x.text]) t) : Wraps W (.slice (some ⟨g, 0, none⟩) 1 1) [x] := by
  refine ⟨_, 1, rfl, Nat.le_refl _, fun _ => ⟨g, 0, rfl, h.lt, fun i hi => ?_⟩⟩
  match i, hi with
  | 0, _ => exact ⟨h.cell 0, h.cell 1, h.cell 2, h.cell 3⟩
  | n + 1, hi => exact absurd hi (by simp)
theorem wraps_two {W : World} {g : Nat} {x y : Wr} {t : TypeId} (h : Blk W g #[.int .u8 (x.kind : Nat), .int .u16 (x.mask : Nat), .int .i64 x.num, .string x.text, .int .u8 (y.kind : Nat), .int .u16 (y.mask : Nat), .int .i64 y.num, .string y.text] t) : Wraps W (.slice (some ⟨g, 0, none⟩) 2 2) [x, y] := by
  refine ⟨_, 2, rfl, Nat.le_refl _, fun _ => ⟨g, 0, rfl, h.lt, fun i hi => ?_⟩⟩
  match i, hi with
  | 0, _ => exact ⟨h.cell 0, h.cell 1, h.cell 2, h.cell 3⟩
  | 1, _ => exact ⟨h.cell 4, h.cell 5, h.cell 6, h.cell 7⟩
  | n + 2, hi => exact absurd hi (by simp)
theorem can_one (x : Wr) (c : Int) (w : World) (T : Tbs w) (hx : x.wf) (hz : ckE [x] = 0) (hc : ((sayC 7 [x] : Nat) : Int) = c) :
    Calls Tryz.prog 66 #[.slice (some ⟨w.heap.size, 0, none⟩) 1 1] (w.alloc (.cells (#[.int .u8 (x.kind : Nat), .int .u16 (x.mask : Nat), .int .i64 x.num, .string x.text]) 58)) fun e w' => e = .returned (.int .u16 c) ∧ Below w.heap.size w w' := by
  have L := (Below.refl _ w).alloc (Nat.le_refl _) (.cells (#[.int .u8 (x.kind : Nat), .int .u16 (x.mask : Nat), .int .i64 x.num, .string x.text]) 58)
  rw [← hc]
  exact (canW_any [x] _ _ (T.below L) (wraps_one (Blk.new _ _ _)) (fun y hy => by simp at hy; subst hy; exact hx) hz).mono fun e w' ⟨h1, h2⟩ => ⟨h1, L.trans (h2.mono L.size)⟩
theorem can_two (x y : Wr) (c : Int) (w : World) (T : Tbs w) (hx : x.wf) (hy : y.wf) (hz : ckE [x, y] = 0) (hc : ((sayC 7 [x, y] : Nat) : Int) = c) :
    Calls Tryz.prog 66 #[.slice (some ⟨w.heap.size, 0, none⟩) 2 2] (w.alloc (.cells #[.int .u8 (x.kind : Nat), .int .u16 (x.mask : Nat), .int .i64 x.num, .string x.text, .int .u8 (y.kind : Nat), .int .u16 (y.mask : Nat), .int .i64 y.num, .string y.text] 58)) fun e w' => e = .returned (.int .u16 c) ∧ Below w.heap.size w w' := by
  have L := (Below.refl _ w).alloc (Nat.le_refl _) (.cells #[.int .u8 (x.kind : Nat), .int .u16 (x.mask : Nat), .int .i64 x.num, .string x.text, .int .u8 (y.kind : Nat), .int .u16 (y.mask : Nat), .int .i64 y.num, .string y.text] 58)
  rw [← hc]
  exact (canW_any [x, y] _ _ (T.below L) (wraps_two (Blk.new _ _ _)) (fun z hz => by simp at hz; rcases hz with rfl | rfl <;> assumption) hz).mono fun e w' ⟨h1, h2⟩ => ⟨h1, L.trans (h2.mono L.size)⟩
theorem says_hide (w : World) (T : Tbs w) :
    Calls Tryz.prog 25 #[.int .u16 63, .slice (some ⟨w.heap.size, 0, none⟩) 1 1] (w.alloc (.cells (#[.int .u8 (hidW.kind : Nat), .int .u16 (hidW.mask : Nat), .int .i64 hidW.num, .string hidW.text]) 58)) fun e w' => e = .returned (.tuple #[.int .u16 59, .int .i64 0]) ∧ Below w.heap.size w w' := by
  have L := (Below.refl _ w).alloc (Nat.le_refl _) (.cells (#[.int .u8 (hidW.kind : Nat), .int .u16 (hidW.mask : Nat), .int .i64 hidW.num, .string hidW.text]) 58)
  exact (says_any 63 [hidW] _ _ (by decide) (T.2.2.below L) (wraps_one (Blk.new _ _ _)) (fun y hy => by simp at hy; subst hy; exact w_wf.1)).mono fun e w' ⟨h1, h2⟩ => ⟨h1, L.trans (h2.mono L.size)⟩

set_option maxHeartbeats 4000000 in
theorem alive7_any (w : World) (T : Tbs w) :
    Calls Tryz.prog 21 #[] w fun e w' => e = .returned (.bool true) ∧ Below w.heap.size w w' := by
  have HT : Hid (Tbs w) := T
  have C1 : Hid (∀ W, Tbs W → Calls Tryz.prog 66 #[.slice (some ⟨W.heap.size, 0, none⟩) 1 1] (W.alloc (.cells (#[.int .u8 (hidW.kind : Nat), .int .u16 (hidW.mask : Nat), .int .i64 hidW.num, .string hidW.text]) 58)) fun e w' => e = .returned (.int .u16 3) ∧ Below W.heap.size W w') := fun W h => can_one hidW 3 W h w_wf.1 (by decide +kernel) (by decide +kernel)
  have C2 : Hid (∀ W, Tbs W → Calls Tryz.prog 66 #[.slice (some ⟨W.heap.size, 0, none⟩) 2 2] (W.alloc (.cells #[.int .u8 (hidW.kind : Nat), .int .u16 (hidW.mask : Nat), .int .i64 hidW.num, .string hidW.text, .int .u8 (focW.kind : Nat), .int .u16 (focW.mask : Nat), .int .i64 focW.num, .string focW.text] 58)) fun e w' => e = .returned (.int .u16 7) ∧ Below W.heap.size W w') := fun W h => can_two hidW focW 7 W h w_wf.1 w_wf.2.1 (by decide +kernel) (by decide +kernel)
  have C3 : Hid (∀ W, Tbs W → Calls Tryz.prog 66 #[.slice (some ⟨W.heap.size, 0, none⟩) 2 2] (W.alloc (.cells #[.int .u8 (focW.kind : Nat), .int .u16 (focW.mask : Nat), .int .i64 focW.num, .string focW.text, .int .u8 (hidW.kind : Nat), .int .u16 (hidW.mask : Nat), .int .i64 hidW.num, .string hidW.text] 58)) fun e w' => e = .returned (.int .u16 3) ∧ Below W.heap.size W w') := fun W h => can_two focW hidW 3 W h w_wf.2.1 w_wf.1 (by decide +kernel) (by decide +kernel)
  have C4 : Hid (∀ W, Tbs W → Calls Tryz.prog 66 #[.slice (some ⟨W.heap.size, 0, none⟩) 1 1] (W.alloc (.cells (#[.int .u8 (droW.kind : Nat), .int .u16 (droW.mask : Nat), .int .i64 droW.num, .string droW.text]) 58)) fun e w' => e = .returned (.int .u16 23) ∧ Below W.heap.size W w') := fun W h => can_one droW 23 W h w_wf.2.2.1 (by decide +kernel) (by decide +kernel)
  have HS : Hid (∀ W, Tbs W → Calls Tryz.prog 25 #[.int .u16 63, .slice (some ⟨W.heap.size, 0, none⟩) 1 1] (W.alloc (.cells (#[.int .u8 (hidW.kind : Nat), .int .u16 (hidW.mask : Nat), .int .i64 hidW.num, .string hidW.text]) 58)) fun e w' => e = .returned (.tuple #[.int .u16 59, .int .i64 0]) ∧ Below W.heap.size W w') := says_hide
  clear T
  go_enter Tryz.func21, Tryz.ntmps21
  go_wp2_with fail
  refine (hide_any _).mono ?_
  rintro e w1 ⟨rfl, hb⟩
  have L1 : Hid (Below w.heap.size w w1) := hb
  clear hb
  go_wp2_with fail
  refine (HS.out _ (HT.out.below L1.out)).mono ?_
  rintro e w2 ⟨rfl, hb⟩
  have L2 : Hid (Below w.heap.size w w2) := L1.out.trans (hb.mono L1.out.size)
  clear hb L1
  go_wp2_with fail
  refine (button_any _ (HT.out.below L2.out)).mono ?_
  rintro e w3 ⟨b, rfl, _, hb⟩
  have L3 : Hid (Below w.heap.size w w3) := L2.out.trans (hb.mono L2.out.size)
  clear hb L2
  simp only [butB, Bs.val]
  go_wp2_with fail
  refine (hide_any _).mono ?_
  rintro e w4 ⟨rfl, hb⟩
  have L4 : Hid (Below w.heap.size w w4) := L3.out.trans (hb.mono L3.out.size)
  clear hb L3
  go_wp2_with fail
  refine (C1.out _ (HT.out.below L4.out)).mono ?_
  rintro e w5 ⟨rfl, hb⟩
  have L5 : Hid (Below w.heap.size w w5) := L4.out.trans (hb.mono L4.out.size)
  clear hb L4
  go_wp2_with fail
  refine (hide_any _).mono ?_
  rintro e w6 ⟨rfl, hb⟩
  have L6 : Hid (Below w.heap.size w w6) := L5.out.trans (hb.mono L5.out.size)
  clear hb L5
  go_wp2_with fail
  refine (focus_any _).mono ?_
  rintro e w7 ⟨rfl, hb⟩
  have L7 : Hid (Below w.heap.size w w7) := L6.out.trans (hb.mono L6.out.size)
  clear hb L6
  go_wp2_with fail
  refine (C2.out _ (HT.out.below L7.out)).mono ?_
  rintro e w8 ⟨rfl, hb⟩
  have L8 : Hid (Below w.heap.size w w8) := L7.out.trans (hb.mono L7.out.size)
  clear hb L7
  go_wp2_with fail
  refine (focus_any _).mono ?_
  rintro e w9 ⟨rfl, hb⟩
  have L9 : Hid (Below w.heap.size w w9) := L8.out.trans (hb.mono L8.out.size)
  clear hb L8
  go_wp2_with fail
  refine (hide_any _).mono ?_
  rintro e w10 ⟨rfl, hb⟩
  have L10 : Hid (Below w.heap.size w w10) := L9.out.trans (hb.mono L9.out.size)
  clear hb L9
  go_wp2_with fail
  refine (C3.out _ (HT.out.below L10.out)).mono ?_
  rintro e w11 ⟨rfl, hb⟩
  have L11 : Hid (Below w.heap.size w w11) := L10.out.trans (hb.mono L10.out.size)
  clear hb L10
  go_wp2_with fail
  refine (drop_any _).mono ?_
  rintro e w12 ⟨rfl, hb⟩
  have L12 : Hid (Below w.heap.size w w12) := L11.out.trans (hb.mono L11.out.size)
  clear hb L11
  go_wp2_with fail
  refine (C4.out _ (HT.out.below L12.out)).mono ?_
  rintro e w13 ⟨rfl, hb⟩
  have L13 : Hid (Below w.heap.size w w13) := L12.out.trans (hb.mono L12.out.size)
  clear hb L12
  go_wp2
  go_ret
  exact ⟨rfl, L13.out⟩

end Go.Proofs.YtbnbfgkcndomaabGreatDoor
