/-
  The statements own button, can, alive; small wrappers; rows of wrappers that grow; the walk of the statement WrapShows.
-/
import Derived.Test.YtbnbfgkcndomaabGreatDoorVY
import Derived.Test.YtbnbfgkcndomaabGreatDoorUL
import Derived.Test.YtbnbfgkcndomaabGreatDoorVA
import Derived.Test.YtbnbfgkcndomaabGreatDoorVOp
namespace Go.Proofs.YtbnbfgkcndomaabGreatDoor
open Go.RowKit Go.Shelf

theorem run_can : ∀ (l : List Wr) (s : Bs × List Wr), canL (runW s l).1 (runW s l).2 = sayC (canL s.1 s.2) l
  | [], _ => rfl
  | x :: l, s => by
    show canL (runW (stp s x) l).1 (runW (stp s x) l).2 = sayC (lefC (canL s.1 s.2) x) l
    rw [run_can l (stp s x), stp_can]
theorem fits_of (s : Bs × List Wr) (ws : List Wr) (h : s.2.length + ws.length ≤ 16) : ∀ k (h : k < ws.length), ws[k].kind = 7 ∨ (runW s (ws.take k)).2.length < 16 := fun k hk =>
  .inr (by have := run_len (ws.take k) s; rw [List.length_take] at this; omega)
theorem ck_len {l : List Wr} (h : ckE l = 0) : l.length ≤ 16 := by
  unfold ckE at h
  split at h <;> omega

/-- The button "ok" of the name b. -/
def ndB : Nd := ⟨2, ⟨#[98]⟩, ⟨#[]⟩, ⟨#[111, 107]⟩, 0, 0, 0, 0, 0, 0, false, 0, 0, 0, 0, 0, false, none, 0, 0, none, 0, 0⟩
def butB (b : Nat) : Bs := .made (ptOf ndB none 0 0) b
set_option maxHeartbeats 1000000 in
theorem button_any (w : World) (T : Tbs w) :
    Calls Tryz.prog 65 #[] w fun e w' => ∃ b, e = .returned (butB b).val ∧ Pw w' (butB b) [] (butB b).val ∧ Below w.heap.size w w' := by
  have hM := make_nil ndB w T rfl (by decide +kernel)
  clear T
  simp only [ndB] at hM
  go_enter Tryz.func65, Tryz.ntmps65
  go_wp2_with fail
  refine hM.mono ?_
  rintro e w1 ⟨b, rfl, hpt, hle, hb⟩
  go_wp2
  go_ret
  exact ⟨b, rfl, ⟨rfl, hpt, rfl⟩, hb⟩

set_option maxHeartbeats 1000000 in
theorem canW_any (ws : List Wr) (v : Value) (w : World) (T : Tbs w) (hv : Wraps w v ws) (hs : ∀ x ∈ ws, x.wf) (hz : ckE ws = 0) :
    Calls Tryz.prog 66 #[v] w fun e w' => e = .returned (.int .u16 (sayC 7 ws : Nat)) ∧ Below w.heap.size w w' := by
  have hB := button_any w T
  have HA : Hid (∀ W b, Below w.heap.size w W → Pw W (butB b) [] (butB b).val → Calls Tryz.prog 13 #[(butB b).val, v] W fun e w' => ∃ i y, e = .returned (.tuple #[.iface i y, .int .i64 0]) ∧ Hid (Pw w' (runW (butB b, []) ws).1 (runW (butB b, []) ws).2 (.iface i y) ∧ Below w.heap.size w w')) := fun W b h hP =>
    (all_ok (butB b) [] ws _ v W (T.2.2.below h) hP (hv.below h) hs hz (fits_of _ _ (by have := ck_len hz; simp; omega))).mono fun e w' ⟨v', he, hp, hb⟩ => by
      obtain ⟨i, y, rfl, _, _⟩ := hp.tf
      exact ⟨i, y, he, ⟨hp, h.trans (hb.mono h.size)⟩⟩
  have HO : Hid (∀ W b i y, Pw W (runW (butB b, []) ws).1 (runW (butB b, []) ws).2 (.iface i y) → Calls Tryz.prog 22 #[.iface i y] W fun e w' => e = .returned (.int .u16 (sayC 7 ws : Nat)) ∧ w' = W) := fun W b i y h => by
    have := h.holds7 W
    rwa [run_can] at this
  clear T hv hs hz
  go_enter Tryz.func66, Tryz.ntmps66
  go_wp2_with fail
  refine hB.mono ?_
  rintro e w1 ⟨b, rfl, hp, hb⟩
  go_wp2_with fail
  refine (HA.out _ b hb hp).mono ?_
  rintro e w2 ⟨i, y, rfl, H2⟩
  clear hB hp hb HA
  go_wp2_with fail
  refine (HO.out _ b i y H2.out.1).mono ?_
  rintro e w3 ⟨rfl, rfl⟩
  go_wp2
  go_ret
  exact ⟨rfl, H2.out.2⟩

def hidW : Wr := ⟨1, 4, 0, ⟨#[]⟩⟩
def focW : Wr := ⟨5, 0, 7, ⟨#[]⟩⟩
def droW : Wr := ⟨6, 0, 0, ⟨#[102, 105, 108, 101]⟩⟩
def halW : Wr := ⟨7, 0, 0, ⟨#[]⟩⟩
theorem w_wf : hidW.wf ∧ focW.wf ∧ droW.wf ∧ halW.wf := by
  refine ⟨⟨by decide, by decide, by decide, ?_⟩, ⟨by decide, by decide, by decide, ?_⟩, ⟨by decide, by decide, by decide, ?_⟩, ⟨by decide, by decide, by decide, ?_⟩⟩ <;> exact ⟨by decide, by decide⟩
theorem hide_any (w : World) : Calls Tryz.prog 64 #[] w fun e w' => e = .returned (Value.agg #[.int .u8 (hidW.kind : Nat), .int .u16 (hidW.mask : Nat), .int .i64 hidW.num, .string hidW.text]) ∧ Below w.heap.size w w' := by
  go_enter Tryz.func64, Tryz.ntmps64
  go_wp2
  exact bodyPost_ret (v := .agg #[.int .u8 1, .int .u16 4, .int .i64 0, .string ⟨#[]⟩]) (by simp [results, Tryz.results64, go_sem]) rfl ⟨rfl, by repeat (first | exact Below.refl _ _ | refine Below.setCell ?_ (by simp <;> omega) _ | refine Below.alloc ?_ (by simp <;> omega) _)⟩
theorem focus_any (w : World) : Calls Tryz.prog 67 #[] w fun e w' => e = .returned (Value.agg #[.int .u8 (focW.kind : Nat), .int .u16 (focW.mask : Nat), .int .i64 focW.num, .string focW.text]) ∧ Below w.heap.size w w' := by
  go_enter Tryz.func67, Tryz.ntmps67
  go_wp2
  exact bodyPost_ret (v := .agg #[.int .u8 5, .int .u16 0, .int .i64 7, .string ⟨#[]⟩]) (by simp [results, Tryz.results67, go_sem]) rfl ⟨rfl, by repeat (first | exact Below.refl _ _ | refine Below.setCell ?_ (by simp <;> omega) _ | refine Below.alloc ?_ (by simp <;> omega) _)⟩
theorem drop_any (w : World) : Calls Tryz.prog 68 #[] w fun e w' => e = .returned (Value.agg #[.int .u8 (droW.kind : Nat), .int .u16 (droW.mask : Nat), .int .i64 droW.num, .string droW.text]) ∧ Below w.heap.size w w' := by
  go_enter Tryz.func68, Tryz.ntmps68
  go_wp2
  exact bodyPost_ret (v := .agg #[.int .u8 6, .int .u16 0, .int .i64 0, .string ⟨#[102, 105, 108, 101]⟩]) (by simp [results, Tryz.results68, go_sem]) rfl ⟨rfl, by repeat (first | exact Below.refl _ _ | refine Below.setCell ?_ (by simp <;> omega) _ | refine Below.alloc ?_ (by simp <;> omega) _)⟩

theorem wraps_one {W : World} {g : Nat} {x : Wr} {t : TypeId} (h : Blk W g (#[.int .u8 (x.kind : Nat), .int .u16 (x.mask : Nat), .int .i64 x.num, .string x.text]) t) : Wraps W (.slice (some ⟨g, 0, none⟩) 1 1) [x] := by
  refine ⟨_, 1, rfl, Nat.le_refl _, fun _ => ⟨g, 0, rfl, h.lt, fun i hi => ?_⟩⟩
  match i, hi with
  | 0, _ => exact ⟨h.cell 0, h.cell 1, h.cell 2, h.cell 3⟩
  | n + 1, hi => exact absurd hi (by simp)
theorem wraps_two {W : World} {g : Nat} {x y : Wr} {t : TypeId} (h : Blk W g #[.int .u8 (x.kind : Nat), .int .u16 (x.mask : Nat), .int .i64 x.num, .string x.text, .int .u8 (y.kind : Nat), .int .u16 (y.mask : Nat), .int .i64 y.num, .string y.text] t) : Wraps W (.slice (some ⟨g, 0, none⟩) 2 2) [x, y] := by
  refine ⟨_, 2, rfl, Nat.le_refl _, fun _ => ⟨g, 0, rfl, h.lt, fun i hi => ?_⟩⟩
  match i, hi with
  | 0, _ => exact ⟨h.cell 0, h.cell 1, h.cell 2, h.cell 3⟩
  | 1, _ => exact ⟨h.cell 4, h.cell 5, h.cell 6, h.cell 7⟩
  | n + 2, hi => exact absurd hi (by simp)
theorem can_one (x : Wr) (c : Int) (w : World) (T : Tbs w) (hx : x.wf) (hz : ckE [x] = 0) (hc : ((sayC 7 [x] : Nat) : Int) = c) :
    Calls Tryz.prog 66 #[.slice (some ⟨w.heap.size, 0, none⟩) 1 1] (w.alloc (.cells (#[.int .u8 (x.kind : Nat), .int .u16 (x.mask : Nat), .int .i64 x.num, .string x.text]) 58)) fun e w' => e = .returned (.int .u16 c) ∧ Below w.heap.size w w' := by
  have L := (Below.refl _ w).alloc (Nat.le_refl _) (.cells (#[.int .u8 (x.kind : Nat), .int .u16 (x.mask : Nat), .int .i64 x.num, .string x.text]) 58)
  rw [← hc]
  exact (canW_any [x] _ _ (T.below L) (wraps_one (Blk.new _ _ _)) (fun y hy => by simp at hy; subst hy; exact hx) hz).mono fun e w' ⟨h1, h2⟩ => ⟨h1, L.trans (h2.mono L.size)⟩
theorem can_two (x y : Wr) (c : Int) (w : World) (T : Tbs w) (hx : x.wf) (hy : y.wf) (hz : ckE [x, y] = 0) (hc : ((sayC 7 [x, y] : Nat) : Int) = c) :
    Calls Tryz.prog 66 #[.slice (some ⟨w.heap.size, 0, none⟩) 2 2] (w.alloc (.cells #[.int .u8 (x.kind : Nat), .int .u16 (x.mask : Nat), .int .i64 x.num, .string x.text, .int .u8 (y.kind : Nat), .int .u16 (y.mask : Nat), .int .i64 y.num, .string y.text] 58)) fun e w' => e = .returned (.int .u16 c) ∧ Below w.heap.size w w' := by
  have L := (Below.refl _ w).alloc (Nat.le_refl _) (.cells #[.int .u8 (x.kind : Nat), .int .u16 (x.mask : Nat), .int .i64 x.num, .string x.text, .int .u8 (y.kind : Nat), .int .u16 (y.mask : Nat), .int .i64 y.num, .string y.text] 58)
  rw [← hc]
  exact (canW_any [x, y] _ _ (T.below L) (wraps_two (Blk.new _ _ _)) (fun z hz => by simp at hz; rcases hz with rfl | rfl <;> assumption) hz).mono fun e w' ⟨h1, h2⟩ => ⟨h1, L.trans (h2.mono L.size)⟩
theorem says_hide (w : World) (T : Tbs w) :
    Calls Tryz.prog 25 #[.int .u16 63, .slice (some ⟨w.heap.size, 0, none⟩) 1 1] (w.alloc (.cells (#[.int .u8 (hidW.kind : Nat), .int .u16 (hidW.mask : Nat), .int .i64 hidW.num, .string hidW.text]) 58)) fun e w' => e = .returned (.tuple #[.int .u16 59, .int .i64 0]) ∧ Below w.heap.size w w' := by
  have L := (Below.refl _ w).alloc (Nat.le_refl _) (.cells (#[.int .u8 (hidW.kind : Nat), .int .u16 (hidW.mask : Nat), .int .i64 hidW.num, .string hidW.text]) 58)
  exact (says_any 63 [hidW] _ _ (by decide) (T.2.2.below L) (wraps_one (Blk.new _ _ _)) (fun y hy => by simp at hy; subst hy; exact w_wf.1)).mono fun e w' ⟨h1, h2⟩ => ⟨h1, L.trans (h2.mono L.size)⟩

set_option maxHeartbeats 4000000 in
theorem alive7_any (w : World) (T : Tbs w) :
    Calls Tryz.prog 21 #[] w fun e w' => e = .returned (.bool true) ∧ Below w.heap.size w w' := by
  have HT : Hid (Tbs w) := T
  have C1 : Hid (∀ W, Tbs W → Calls Tryz.prog 66 #[.slice (some ⟨W.heap.size, 0, none⟩) 1 1] (W.alloc (.cells (#[.int .u8 (hidW.kind : Nat), .int .u16 (hidW.mask : Nat), .int .i64 hidW.num, .string hidW.text]) 58)) fun e w' => e = .returned (.int .u16 3) ∧ Below W.heap.size W w') := fun W h => can_one hidW 3 W h w_wf.1 (by decide +kernel) (by decide +kernel)
  have C2 : Hid (∀ W, Tbs W → Calls Tryz.prog 66 #[.slice (some ⟨W.heap.size, 0, none⟩) 2 2] (W.alloc (.cells #[.int .u8 (hidW.kind : Nat), .int .u16 (hidW.mask : Nat), .int .i64 hidW.num, .string hidW.text, .int .u8 (focW.kind : Nat), .int .u16 (focW.mask : Nat), .int .i64 focW.num, .string focW.text] 58)) fun e w' => e = .returned (.int .u16 7) ∧ Below W.heap.size W w') := fun W h => can_two hidW focW 7 W h w_wf.1 w_wf.2.1 (by decide +kernel) (by decide +kernel)
  have C3 : Hid (∀ W, Tbs W → Calls Tryz.prog 66 #[.slice (some ⟨W.heap.size, 0, none⟩) 2 2] (W.alloc (.cells #[.int .u8 (focW.kind : Nat), .int .u16 (focW.mask : Nat), .int .i64 focW.num, .string focW.text, .int .u8 (hidW.kind : Nat), .int .u16 (hidW.mask : Nat), .int .i64 hidW.num, .string hidW.text] 58)) fun e w' => e = .returned (.int .u16 3) ∧ Below W.heap.size W w') := fun W h => can_two focW hidW 3 W h w_wf.2.1 w_wf.1 (by decide +kernel) (by decide +kernel)
  have C4 : Hid (∀ W, Tbs W → Calls Tryz.prog 66 #[.slice (some ⟨W.heap.size, 0, none⟩) 1 1] (W.alloc (.cells (#[.int .u8 (droW.kind : Nat), .int .u16 (droW.mask : Nat), .int .i64 droW.num, .string droW.text]) 58)) fun e w' => e = .returned (.int .u16 23) ∧ Below W.heap.size W w') := fun W h => can_one droW 23 W h w_wf.2.2.1 (by decide +kernel) (by decide +kernel)
  have HS : Hid (∀ W, Tbs W → Calls Tryz.prog 25 #[.int .u16 63, .slice (some ⟨W.heap.size, 0, none⟩) 1 1] (W.alloc (.cells (#[.int .u8 (hidW.kind : Nat), .int .u16 (hidW.mask : Nat), .int .i64 hidW.num, .string hidW.text]) 58)) fun e w' => e = .returned (.tuple #[.int .u16 59, .int .i64 0]) ∧ Below W.heap.size W w') := says_hide
  clear T
  go_enter Tryz.func21, Tryz.ntmps21
  go_wp2_with fail
  refine (hide_any _).mono ?_
  rintro e w1 ⟨rfl, hb⟩
  have L1 : Hid (Below w.heap.size w w1) := hb
  clear hb
  go_wp2_with fail
  refine (HS.out _ (HT.out.below L1.out)).mono ?_
  rintro e w2 ⟨rfl, hb⟩
  have L2 : Hid (Below w.heap.size w w2) := L1.out.trans (hb.mono L1.out.size)
  clear hb L1
  go_wp2_with fail
  refine (button_any _ (HT.out.below L2.out)).mono ?_
  rintro e w3 ⟨b, rfl, _, hb⟩
  have L3 : Hid (Below w.heap.size w w3) := L2.out.trans (hb.mono L2.out.size)
  clear hb L2
  simp only [butB, Bs.val]
  go_wp2_with fail
  refine (hide_any _).mono ?_
  rintro e w4 ⟨rfl, hb⟩
  have L4 : Hid (Below w.heap.size w w4) := L3.out.trans (hb.mono L3.out.size)
  clear hb L3
  go_wp2_with fail
  refine (C1.out _ (HT.out.below L4.out)).mono ?_
  rintro e w5 ⟨rfl, hb⟩
  have L5 : Hid (Below w.heap.size w w5) := L4.out.trans (hb.mono L4.out.size)
  clear hb L4
  go_wp2_with fail
  refine (hide_any _).mono ?_
  rintro e w6 ⟨rfl, hb⟩
  have L6 : Hid (Below w.heap.size w w6) := L5.out.trans (hb.mono L5.out.size)
  clear hb L5
  go_wp2_with fail
  refine (focus_any _).mono ?_
  rintro e w7 ⟨rfl, hb⟩
  have L7 : Hid (Below w.heap.size w w7) := L6.out.trans (hb.mono L6.out.size)
  clear hb L6
  go_wp2_with fail
  refine (C2.out _ (HT.out.below L7.out)).mono ?_
  rintro e w8 ⟨rfl, hb⟩
  have L8 : Hid (Below w.heap.size w w8) := L7.out.trans (hb.mono L7.out.size)
  clear hb L7
  go_wp2_with fail
  refine (focus_any _).mono ?_
  rintro e w9 ⟨rfl, hb⟩
  have L9 : Hid (Below w.heap.size w w9) := L8.out.trans (hb.mono L8.out.size)
  clear hb L8
  go_wp2_with fail
  refine (hide_any _).mono ?_
  rintro e w10 ⟨rfl, hb⟩
  have L10 : Hid (Below w.heap.size w w10) := L9.out.trans (hb.mono L9.out.size)
  clear hb L9
  go_wp2_with fail
  refine (C3.out _ (HT.out.below L10.out)).mono ?_
  rintro e w11 ⟨rfl, hb⟩
  have L11 : Hid (Below w.heap.size w w11) := L10.out.trans (hb.mono L10.out.size)
  clear hb L10
  go_wp2_with fail
  refine (drop_any _).mono ?_
  rintro e w12 ⟨rfl, hb⟩
  have L12 : Hid (Below w.heap.size w w12) := L11.out.trans (hb.mono L11.out.size)
  clear hb L11
  go_wp2_with fail
  refine (C4.out _ (HT.out.below L12.out)).mono ?_
  rintro e w13 ⟨rfl, hb⟩
  have L13 : Hid (Below w.heap.size w w13) := L12.out.trans (hb.mono L12.out.size)
  clear hb L12
  go_wp2
  go_ret
  exact ⟨rfl, L13.out⟩

end Go.Proofs.YtbnbfgkcndomaabGreatDoor

namespace Go.Proofs.YtbnbfgkcndomaabGreatDoor
open Go.RowKit

structure Sl where
  kind : Nat
  mask : Nat
  num : Nat
  text : ByteArray
def Sl.wf (x : Sl) : Prop := x.kind < 256 ∧ x.mask < 256 ∧ x.num < 256 ∧ x.text.size ≤ 9223372036854775807
/-- The wrapper that a small one makes. -/
def wrK (k : Nat) (s : Sl) : Wr := if k = 1 ∨ k = 2 then ⟨k, s.mask % 64, 0, ⟨#[]⟩⟩ else if k = 3 ∨ k = 5 then ⟨k, 0, s.num, ⟨#[]⟩⟩ else if k = 6 then ⟨k, 0, 0, ⟨#[120]⟩⟩ else ⟨k, 0, 0, ⟨#[]⟩⟩
def wrOf (s : Sl) : Wr := wrK (1 + s.kind % 7) s
theorem wrK_ok (k : Nat) (s : Sl) (hk : 1 ≤ k ∧ k ≤ 7) (hs : s.wf) : okW (wrK k s) = true := by
  have hc : k = 1 ∨ k = 2 ∨ k = 3 ∨ k = 4 ∨ k = 5 ∨ k = 6 ∨ k = 7 := by omega
  have hm : s.mask % 64 < 64 := Nat.mod_lt _ (by decide)
  have hn := hs.2.2.1
  rcases hc with rfl | rfl | rfl | rfl | rfl | rfl | rfl
  · show okW ⟨1, s.mask % 64, 0, ⟨#[]⟩⟩ = true
    simp [okW, mskB, numB, txtB, hm]; rfl
  · show okW ⟨2, s.mask % 64, 0, ⟨#[]⟩⟩ = true
    simp [okW, mskB, numB, txtB, hm]; rfl
  · show okW ⟨3, 0, s.num, ⟨#[]⟩⟩ = true
    have h1 : fromTo (s.num : Int) 0 16384 = true := by simp [fromTo]; omega
    show (decide (1 ≤ 3) && (decide (3 ≤ 7) && (decide (0 = 0) && (fromTo (s.num : Int) 0 16384 && decide ((⟨#[]⟩ : ByteArray).size = 0))))) = true
    rw [h1]; rfl
  · exact (by decide +kernel : okW ⟨4, 0, 0, ⟨#[]⟩⟩ = true)
  · show okW ⟨5, 0, s.num, ⟨#[]⟩⟩ = true
    have h1 : fromTo (s.num : Int) (-1) 1048576 = true := by simp [fromTo]; omega
    show (decide (1 ≤ 5) && (decide (5 ≤ 7) && (decide (0 = 0) && (fromTo (s.num : Int) (-1) 1048576 && decide ((⟨#[]⟩ : ByteArray).size = 0))))) = true
    rw [h1]; rfl
  · exact (by decide +kernel : okW ⟨6, 0, 0, ⟨#[120]⟩⟩ = true)
  · exact (by decide +kernel : okW ⟨7, 0, 0, ⟨#[]⟩⟩ = true)
theorem wrOf_ok (s : Sl) (hs : s.wf) : okW (wrOf s) = true := wrK_ok _ s (by have := Nat.mod_lt s.kind (show 7 > 0 by decide); omega) hs
theorem wrK_wf (k : Nat) (s : Sl) (hk : 1 ≤ k ∧ k ≤ 7) (hs : s.wf) : (wrK k s).wf := by
  have hc : k = 1 ∨ k = 2 ∨ k = 3 ∨ k = 4 ∨ k = 5 ∨ k = 6 ∨ k = 7 := by omega
  have hm : s.mask % 64 < 64 := Nat.mod_lt _ (by decide)
  have hn := hs.2.2.1
  have h64 : s.mask % 64 < 65536 := by omega
  have hI : I64 (s.num : Int) := ⟨by omega, by omega⟩
  have h0 : I64 0 := ⟨by decide, by decide⟩
  rcases hc with rfl | rfl | rfl | rfl | rfl | rfl | rfl
  · show Wr.wf ⟨1, s.mask % 64, 0, ⟨#[]⟩⟩
    exact ⟨by show (1 : Nat) < 256; decide, h64, by show ByteArray.size ⟨#[]⟩ ≤ 9223372036854775807; decide, h0⟩
  · show Wr.wf ⟨2, s.mask % 64, 0, ⟨#[]⟩⟩
    exact ⟨by show (2 : Nat) < 256; decide, h64, by show ByteArray.size ⟨#[]⟩ ≤ 9223372036854775807; decide, h0⟩
  · show Wr.wf ⟨3, 0, s.num, ⟨#[]⟩⟩
    exact ⟨by show (3 : Nat) < 256; decide, by show (0 : Nat) < 65536; decide, by show ByteArray.size ⟨#[]⟩ ≤ 9223372036854775807; decide, hI⟩
  · show Wr.wf ⟨4, 0, 0, ⟨#[]⟩⟩
    exact ⟨by show (4 : Nat) < 256; decide, by show (0 : Nat) < 65536; decide, by show ByteArray.size ⟨#[]⟩ ≤ 9223372036854775807; decide, h0⟩
  · show Wr.wf ⟨5, 0, s.num, ⟨#[]⟩⟩
    exact ⟨by show (5 : Nat) < 256; decide, by show (0 : Nat) < 65536; decide, by show ByteArray.size ⟨#[]⟩ ≤ 9223372036854775807; decide, hI⟩
  · show Wr.wf ⟨6, 0, 0, ⟨#[120]⟩⟩
    exact ⟨by show (6 : Nat) < 256; decide, by show (0 : Nat) < 65536; decide, by show ByteArray.size ⟨#[120]⟩ ≤ 9223372036854775807; decide, h0⟩
  · show Wr.wf ⟨7, 0, 0, ⟨#[]⟩⟩
    exact ⟨by show (7 : Nat) < 256; decide, by show (0 : Nat) < 65536; decide, by show ByteArray.size ⟨#[]⟩ ≤ 9223372036854775807; decide, h0⟩
theorem wrOf_wf (s : Sl) (hs : s.wf) : (wrOf s).wf := wrK_wf _ s (by have := Nat.mod_lt s.kind (show 7 > 0 by decide); omega) hs

/-- A small one that lies from cell p of block g on. -/
def SlAt (w : World) (g p : Nat) (x : Sl) : Prop := w.cell? ⟨g, p, none⟩ = some (.int .u8 (x.kind : Nat)) ∧ w.cell? ⟨g, p + 1, none⟩ = some (.int .u8 (x.mask : Nat)) ∧ w.cell? ⟨g, p + 2, none⟩ = some (.int .u8 (x.num : Nat)) ∧ w.cell? ⟨g, p + 3, none⟩ = some (.string x.text)
theorem SlAt.kept {w w' : World} {g p : Nat} {x : Sl} (h : SlAt w g p x) (hb : ∀ o, w'.cell? ⟨g, o, none⟩ = w.cell? ⟨g, o, none⟩) : SlAt w' g p x := by
  have e := fun j => hb (p + j)
  exact ⟨(e 0).trans h.1, (e 1).trans h.2.1, (e 2).trans h.2.2.1, (e 3).trans h.2.2.2⟩
def Smalls (w : World) (v : Value) (l : List Sl) : Prop := ∃ oa cap, v = .slice oa l.length cap ∧ l.length ≤ cap ∧ (0 < l.length → ∃ g o, oa = some ⟨g, o, none⟩ ∧ g < w.heap.size ∧ ∀ i (h : i < l.length), SlAt w g (o + i * 4) l[i])

end Go.Proofs.YtbnbfgkcndomaabGreatDoor

namespace Go.Proofs.YtbnbfgkcndomaabGreatDoor
open Go.RowKit

set_option maxHeartbeats 1000000 in
theorem wrapper_any (s : Sl) (hs : s.wf) (w : World) :
    Calls Tryz.prog 23 #[.agg #[.int .u8 (s.kind : Nat), .int .u8 (s.mask : Nat), .int .u8 (s.num : Nat), .string s.text]] w fun e w' => e = .returned (Value.agg #[.int .u8 ((wrOf s).kind : Nat), .int .u16 ((wrOf s).mask : Nat), .int .i64 (wrOf s).num, .string (wrOf s).text]) ∧ Below w.heap.size w w' := by
  have L : Hid (∀ o, Below w.heap.size w ((w.alloc (.cells #[.int .u8 (s.kind : Nat), .int .u8 (s.mask : Nat), .int .u8 (s.num : Nat), .string s.text] 70)).alloc o)) := fun o => ((Below.refl _ w).alloc (Nat.le_refl _) _).alloc (by simp) _
  obtain ⟨k, m, n, t⟩ := s
  obtain ⟨j, hj, hjl⟩ : ∃ j, k % 7 = j ∧ j < 7 := ⟨k % 7, rfl, Nat.mod_lt _ (by decide)⟩
  have e1 : Int.tmod (k : Int) 7 = (j : Int) := by rw [← hj, Int.tmod_eq_emod_of_nonneg (by omega)]; omega
  have e2 : Int.tmod (m : Int) 64 = ((m % 64 : Nat) : Int) := by rw [Int.tmod_eq_emod_of_nonneg (by omega)]; omega
  obtain ⟨h1, h2, h3, h4⟩ := hs
  simp only at h1 h2 h3 h4
  have e0 : wrOf ⟨k, m, n, t⟩ = wrK (1 + j) ⟨k, m, n, t⟩ := by rw [← hj]; rfl
  rw [e0]
  clear e0 hj
  have hc : j = 0 ∨ j = 1 ∨ j = 2 ∨ j = 3 ∨ j = 4 ∨ j = 5 ∨ j = 6 := by omega
  rcases hc with rfl | rfl | rfl | rfl | rfl | rfl | rfl
  · go_enter Tryz.func23, Tryz.ntmps23
    go_wp2
    exact bodyPost_ret (v := .agg #[.int .u8 1, .int .u16 ((m % 64 : Nat) : Int), .int .i64 0, .string ⟨#[]⟩]) (by simp [results, Tryz.results23, go_sem]) rfl ⟨rfl, by repeat (first | exact Below.refl _ _ | refine Below.setCell ?_ (by simp <;> omega) _ | refine Below.alloc ?_ (by simp <;> omega) _)⟩
  · go_enter Tryz.func23, Tryz.ntmps23
    go_wp2
    exact bodyPost_ret (v := .agg #[.int .u8 2, .int .u16 ((m % 64 : Nat) : Int), .int .i64 0, .string ⟨#[]⟩]) (by simp [results, Tryz.results23, go_sem]) rfl ⟨rfl, by repeat (first | exact Below.refl _ _ | refine Below.setCell ?_ (by simp <;> omega) _ | refine Below.alloc ?_ (by simp <;> omega) _)⟩
  · go_enter Tryz.func23, Tryz.ntmps23
    go_wp2
    exact bodyPost_ret (v := .agg #[.int .u8 3, .int .u16 0, .int .i64 (n : Int), .string ⟨#[]⟩]) (by simp [results, Tryz.results23, go_sem]) rfl ⟨rfl, by repeat (first | exact Below.refl _ _ | refine Below.setCell ?_ (by simp <;> omega) _ | refine Below.alloc ?_ (by simp <;> omega) _)⟩
  · go_enter Tryz.func23, Tryz.ntmps23
    go_wp2
    exact bodyPost_ret (v := .agg #[.int .u8 4, .int .u16 0, .int .i64 0, .string ⟨#[]⟩]) (by simp [results, Tryz.results23, go_sem]) rfl ⟨rfl, by repeat (first | exact Below.refl _ _ | refine Below.setCell ?_ (by simp <;> omega) _ | refine Below.alloc ?_ (by simp <;> omega) _)⟩
  · go_enter Tryz.func23, Tryz.ntmps23
    go_wp2
    exact bodyPost_ret (v := .agg #[.int .u8 5, .int .u16 0, .int .i64 (n : Int), .string ⟨#[]⟩]) (by simp [results, Tryz.results23, go_sem]) rfl ⟨rfl, by repeat (first | exact Below.refl _ _ | refine Below.setCell ?_ (by simp <;> omega) _ | refine Below.alloc ?_ (by simp <;> omega) _)⟩
  · go_enter Tryz.func23, Tryz.ntmps23
    go_wp2
    exact bodyPost_ret (v := .agg #[.int .u8 6, .int .u16 0, .int .i64 0, .string ⟨#[120]⟩]) (by simp [results, Tryz.results23, go_sem]) rfl ⟨rfl, by repeat (first | exact Below.refl _ _ | refine Below.setCell ?_ (by simp <;> omega) _ | refine Below.alloc ?_ (by simp <;> omega) _)⟩
  · go_enter Tryz.func23, Tryz.ntmps23
    go_wp2
    exact bodyPost_ret (v := .agg #[.int .u8 7, .int .u16 0, .int .i64 0, .string ⟨#[]⟩]) (by simp [results, Tryz.results23, go_sem]) rfl ⟨rfl, by repeat (first | exact Below.refl _ _ | refine Below.setCell ?_ (by simp <;> omega) _ | refine Below.alloc ?_ (by simp <;> omega) _)⟩

end Go.Proofs.YtbnbfgkcndomaabGreatDoor

namespace Go.Proofs.YtbnbfgkcndomaabGreatDoor
open Go.RowKit

def celW (x : Wr) : List Value := [.int .u8 (x.kind : Nat), .int .u16 (x.mask : Nat), .int .i64 x.num, .string x.text]
def flatW (l : List Wr) : List Value := l.flatMap celW
theorem flatW_snoc (l : List Wr) (x : Wr) : flatW (l ++ [x]) = flatW l ++ celW x := by simp [flatW]
theorem flatW_at : ∀ (l : List Wr) (k : Nat) (h : k < l.length) (j : Nat), j < 4 → (flatW l)[k * 4 + j]? = (celW l[k])[j]?
  | [], k, h, _, _ => absurd h (by simp)
  | x :: l, 0, _, j, hj => by
    show (celW x ++ flatW l)[0 * 4 + j]? = _
    rw [List.getElem?_append_left (by simp [celW]; omega)]
    simp
  | x :: l, k + 1, h, j, hj => by
    show (celW x ++ flatW l)[(k + 1) * 4 + j]? = _
    rw [List.getElem?_append_right (by simp [celW]; omega)]
    have := flatW_at l k (by simpa using h) j hj
    rw [show (k + 1) * 4 + j - (celW x).length = k * 4 + j by simp [celW]; omega]
    simpa using this
theorem wraps_own {w : World} {base : Nat} {e : TypeId} {v : Value} {l : List Wr} (h : w.ownsRow base e 4 v l.length (flatW l)) : Wraps w v l := by
  rcases h.2 with ⟨rfl, h0⟩ | ⟨g, cap, cur, rfl, hb, hg, hc, _⟩
  · exact ⟨none, 0, by rw [h0], by omega, fun h => absurd h (by omega)⟩
  · refine ⟨_, cap, rfl, hc, fun _ => ⟨g, 0, rfl, (Array.getElem?_eq_some_iff.1 hg).1, fun i hi => ?_⟩⟩
    have q := fun j (hj : j < 4) => (h.cellAt (i * 4 + j) (by omega)).trans (flatW_at l i hi j hj)
    have z : ∀ j, (0 + i * 4 + j) = i * 4 + j := fun j => by omega
    refine ⟨?_, ?_, ?_, ?_⟩
    · have := q 0 (by omega); rw [Nat.add_zero] at this; rw [Nat.zero_add]; exact this
    · have := q 1 (by omega); rw [z 1]; exact this
    · have := q 2 (by omega); rw [z 2]; exact this
    · have := q 3 (by omega); rw [z 3]; exact this
theorem info_wrap : (Tryz.prog.info? 58).map (fun i => (i.zero, i.size, i.bytes)) = some (some (.agg #[.int .u8 0, .int .u16 0, .int .i64 0, .string ByteArray.empty]), 4, 32) := by kernel_rfl
theorem info_w3 {P : Program} {t : TypeId} {z : Value} {s b : Nat} (h : (P.info? t).map (fun i => (i.zero, i.size, i.bytes)) = some (some z, s, b)) : ∃ i, P.info? t = some i ∧ i.zero = some z ∧ i.size = s ∧ i.bytes = b := by
  cases hi : P.info? t with
  | none => rw [hi] at h; simp at h
  | some i => rw [hi] at h; simp at h; exact ⟨i, rfl, h.1, h.2.1, h.2.2⟩
theorem cellW4 (w : World) (x : Wr) (t : TypeId) (b : Nat) (h : b = w.heap.size) : ∀ (j : Nat) (u : Value), (celW x)[j]? = some u → (w.alloc (.cells (#[.int .u8 (x.kind : Nat), .int .u16 (x.mask : Nat), .int .i64 x.num, .string x.text]) t)).cell? ((⟨b, 0, none⟩ : Addr).add j) = some u := by
  subst h
  intro j u hj
  have B := Blk.new w (#[.int .u8 (x.kind : Nat), .int .u16 (x.mask : Nat), .int .i64 x.num, .string x.text]) t
  have := B.cell j
  rw [Addr.add_lit]
  rw [show (0 + j) = j by omega, this]
  simpa [celW] using hj
theorem oneW (x : Wr) : ∀ u ∈ celW x, u.oneCell' = true := by
  intro u hu
  simp [celW] at hu
  rcases hu with rfl | rfl | rfl | rfl <;> rfl

theorem heap_cell {w w' : World} {b : Nat} (h : w'.heap[b]? = w.heap[b]?) (o : Nat) : w'.cell? ⟨b, o, none⟩ = w.cell? ⟨b, o, none⟩ := by
  simp [World.cell?, h]
/-- A wrapped part stays, where all but a row of wrappers stays. -/
theorem Pw.beside {w w' : World} {B : Bs} {g : Nat} (hk : ∀ j, j < w.heap.size → j ≠ g → w'.heap[j]? = w.heap[j]?) (hz : w.heap.size ≤ w'.heap.size) (g0 : ∃ k, w.cell? ⟨g, 0, none⟩ = some (.int .u8 k)) (g1 : ∃ k, w.cell? ⟨g, 1, none⟩ = some (.int .u16 k)) : ∀ {l : List Wr} {v : Value}, Pw w B l v → Pw w' B l v
  | [], v, h => by
    refine ⟨h.1, ?_⟩
    cases B with
    | made p b =>
      refine ⟨?_, h.2.2⟩
      have hc := h.2.1.kind.2
      have hl := h.2.1.lt
      obtain ⟨T, hb⟩ := h.2.1
      have hne : b ≠ g := by
        rintro rfl
        obtain ⟨k, hk'⟩ := g1
        rw [hk'] at hc
        cases hc
      exact ⟨T, (hk b hl hne).trans hb⟩
    | hol t => trivial
    | half => trivial
  | x :: l, v, ⟨b, a, iv, e, h1, h2, h3, h4, h5⟩ => by
    have hb : b ≠ g := by
      rintro rfl
      obtain ⟨k, hk'⟩ := g0
      have := h1.2 0 (by omega)
      rw [hk'] at this
      cases this
    have ha : a ≠ g := by
      rintro rfl
      obtain ⟨k, hk'⟩ := g1
      have := h2.cell 1
      rw [hk'] at this
      simp at this
    exact ⟨b, a, iv, e, ⟨Nat.lt_of_lt_of_le h1.1 hz, fun j hj => (heap_cell (hk b h1.1 hb) j).trans (h1.2 j hj)⟩, (hk a h2.lt ha).trans h2, h3, h4, Pw.beside hk hz g0 g1 h5⟩
theorem Pw.grown {w w' : World} {B : Bs} {base : Nat} {e : TypeId} {rv : Value} {ws : List Wr} (ho : w.ownsRow base e 4 rv ws.length (flatW ws)) (h0 : ws = [] → rv = .slice none 0 0) (hg : w.grownBy w' rv.ownBlock) {l : List Wr} {v : Value} (h : Pw w B l v) : Pw w' B l v := by
  cases ws with
  | nil =>
    have := h0 rfl
    subst this
    exact Pw.below ⟨hg.os, hg.tape, hg.output, hg.size, fun j hj => hg.block j hj (by simp [Value.ownBlock])⟩ h
  | cons y ys =>
    rcases ho.2 with ⟨rfl, hq⟩ | ⟨g, cap, cur, rfl, hb, hgx, hc, _⟩
    · exact absurd hq (by simp)
    · have c0 := ho.cellAt 0 (by simp)
      have c1 := ho.cellAt 1 (by simp; omega)
      exact Pw.beside (g := g) (fun j hj hne => hg.block j hj (by simp [Value.ownBlock]; omega)) hg.size ⟨_, c0⟩ ⟨_, c1⟩ h

end Go.Proofs.YtbnbfgkcndomaabGreatDoor

namespace Go.Proofs.YtbnbfgkcndomaabGreatDoor
open Go.ChangeShapes Go.WideShapes Go.ChangeAt Go.RowKit Go.Joins

theorem cells_sm : Tryz.prog.cellsOf 70 = 4 := by kernel_rfl
def cellsM (x : Sl) : List Value := [.int .u8 (x.kind : Nat), .int .u8 (x.mask : Nat), .int .u8 (x.num : Nat), .string x.text]

set_option maxRecDepth 100000 in
theorem small_cells {H : Type} {enc : TypeId × Value → H} {W : World} {b : Nat} {sp : Nat → Bool} {held : Bool} {fuel : Nat} {cs : List Value} {x : DataW H × List MemPlace} (h : DataW.trod enc Tryz.prog W b sp held fuel 70 cs = some x) :
    ∃ r : Sl, cs = cellsM r ∧ r.wf := by
  obtain ⟨y0, y1, y2, y3, n, _, hl, h0, h1, h2, h3⟩ := trod_struct4 Tryz.underlying70 h
  rw [cells_sm] at hl
  match cs, hl with
  | [c0, c1, c2, c3], _ =>
    simp [cellw_u8, cellw_t] at h0 h1 h2 h3
    obtain ⟨a0, e0, _, w0⟩ := DataW.trod_int Tryz.underlying5 h0
    obtain ⟨a1, e1, _, w1⟩ := DataW.trod_int Tryz.underlying5 h1
    obtain ⟨a2, e2, _, w2⟩ := DataW.trod_int Tryz.underlying5 h2
    obtain ⟨a3, e3, _, w3⟩ := DataW.trod_string Tryz.underlying9 h3
    simp at e0 e1 e2 e3
    subst e0 e1 e2 e3
    have hb0 := bounds_u8 w0
    have hb1 := bounds_u8 w1
    have hb2 := bounds_u8 w2
    refine ⟨⟨a0.toNat, a1.toNat, a2.toNat, a3⟩, ?_, ?_, ?_, ?_, w3⟩
    · simp [cellsM, Int.toNat_of_nonneg hb0.1, Int.toNat_of_nonneg hb1.1, Int.toNat_of_nonneg hb2.1]
    · show a0.toNat < 256
      omega
    · show a1.toNat < 256
      omega
    · show a2.toNat < 256
      omega

set_option maxRecDepth 100000 in
theorem smalls_of {W : World} {g o : Nat} : ∀ (n : Nat), (∀ i, i < n → ∃ r : Sl, SlAt W g (o + i * 4) r ∧ r.wf) → ∃ rs : List Sl, rs.length = n ∧ (∀ i (h : i < rs.length), SlAt W g (o + i * 4) rs[i]) ∧ ∀ r ∈ rs, r.wf
  | 0, _ => ⟨[], rfl, fun i h => absurd h (Nat.not_lt_zero i), fun r hr => by simp at hr⟩
  | n + 1, h => by
    obtain ⟨rs, hl, ha, hw⟩ := smalls_of n fun i hi => h i (by omega)
    obtain ⟨r, hr, hz⟩ := h n (by omega)
    refine ⟨rs ++ [r], by simp [hl], fun i hi => ?_, fun x hx => ?_⟩
    · by_cases e : i < rs.length
      · rw [List.getElem_append_left e]; exact ha i e
      · have : i = n := by simp at hi; omega
        subst this
        subst hl
        rw [List.getElem_concat_length rfl]
        exact hr
    · rcases List.mem_append.1 hx with hx | hx
      · exact hw x hx
      · simp at hx; subst hx; exact hz

set_option maxRecDepth 100000 in
theorem open_smalls {H : Type} {enc : TypeId × Value → H} {W : World} {base b : Nat} {sp : Nat → Bool} {held : Bool} {v : Value} {d : DataW H} {p : List MemPlace}
    (hv : Value.okWide Tryz.prog W .any base 66 v) (h : DataW.Trod enc Tryz.prog W b sp held 66 v d p) : ∃ rs : List Sl, Smalls W v rs ∧ (∀ r ∈ rs, r.wf) ∧ rs.length ≤ 9223372036854775807 := by
  obtain ⟨oa, len, cap, rfl⟩ := okWide_slice Tryz.underlying66 hv
  obtain ⟨fuel, hf⟩ := h
  rcases DataW.trod_slice Tryz.underlying66 hf with ⟨he, _⟩ | ⟨a, len', cap', el, rest, n, _, he, _, _, hlc, hcm, hel, hat, _, _⟩
  · simp [Value.cells] at he
    obtain ⟨rfl, rfl, rfl⟩ := he
    exact ⟨[], ⟨none, 0, rfl, Nat.le_refl _, fun h => by simp at h⟩, fun r hr => by simp at hr, by simp⟩
  · simp [Value.cells] at he
    obtain ⟨rfl, rfl, rfl⟩ := he
    rw [cells_sm] at hat
    obtain ⟨g, o, s⟩ := a
    have key : ∀ i, i < len → ∃ r : Sl, (∀ j, j < 4 → W.cell? ((Addr.mk g o s).add (i * 4) |>.add j) = (cellsM r)[j]?) ∧ r.wf := by
      intro i hi
      have h1 := hat i hi
      obtain ⟨bb, hb⟩ : ∃ bb, el[i]? = some bb := ⟨el[i]'(by omega), List.getElem?_eq_getElem (by omega)⟩
      rw [hb] at h1
      obtain ⟨ce, hce, hte⟩ := Option.bind_eq_some_iff.1 h1
      obtain ⟨r, hr, hw⟩ := small_cells hte
      obtain ⟨_, _, hcc⟩ := World.cells?_some hce
      exact ⟨r, fun j hj => by rw [hcc j hj, hr], hw⟩
    by_cases h0 : len = 0
    · subst h0
      exact ⟨[], ⟨_, cap, rfl, Nat.zero_le _, fun h => by simp at h⟩, fun r hr => by simp at hr, by simp⟩
    obtain rfl : s = none := by
      obtain ⟨r, hr, _⟩ := key 0 (by omega)
      have h00 := hr 0 (by omega)
      have : (Addr.add (Addr.add ⟨g, o, s⟩ (0 * 4)) 0) = ⟨g, o, s⟩ := by simp [Addr.add]
      rw [this] at h00
      exact Go.Proofs.cell_spot h00
    obtain ⟨rs, hl, ha, hw⟩ := smalls_of (W := W) (g := g) (o := o) len fun i hi => by
      obtain ⟨r, hr, hz⟩ := key i hi
      have e := fun j hj => hr j hj
      simp only [Addr.add_lit] at e
      exact ⟨r, ⟨e 0 (by omega), e 1 (by omega), e 2 (by omega), e 3 (by omega)⟩, hz⟩
    subst hl
    have hg : g < W.heap.size := by
      have h1 := (ha 0 (by omega)).1
      rcases Nat.lt_or_ge g W.heap.size with h' | h'
      · exact h'
      · simp [World.cell?, Array.getElem?_eq_none h'] at h1
    exact ⟨rs, ⟨_, cap, rfl, hlc, fun _ => ⟨g, o, rfl, hg, ha⟩⟩, hw, by have : cap ≤ 9223372036854775807 := hcm; omega⟩

end Go.Proofs.YtbnbfgkcndomaabGreatDoor

namespace Go.Proofs.YtbnbfgkcndomaabGreatDoor
open Go.RowKit Go.Shelf

/-- A node of a kind. -/
def ndK (k : Nat) : Nd := ⟨k, ⟨#[]⟩, ⟨#[]⟩, ⟨#[]⟩, 0, 0, 0, 0, 0, 0, false, 0, 0, 0, 0, 0, false, none, 0, 0, none, 0, 0⟩
theorem ndK_ok (k : Nat) : okN (ndK k) = true := by
  show okN (ndK 1) = true
  decide +kernel
theorem stp_hol (s : Bs × List Wr) (x : Wr) : ((stp s x).2.isEmpty && (stp s x).1.isHalf) = decide (x.kind = 7) ∧ decide (kindL (stp s x).1 (stp s x).2 = 0) = decide (x.kind = 7) := by
  by_cases h : x.kind = 7
  · rw [show stp s x = (.half, []) from if_pos h, decide_eq_true h]
    exact ⟨rfl, rfl⟩
  · rw [show stp s x = (s.1, x :: s.2) from if_neg h, decide_eq_false h]
    refine ⟨rfl, decide_eq_false ?_⟩
    show ¬ (if kindL s.1 s.2 = 0 then 9 else kindL s.1 s.2) = 0
    split <;> omega

set_option maxRecDepth 10000 in
set_option maxHeartbeats 8000000 in
theorem shows_big (k : Nat) (hk8 : k < 256) (l : List Sl) (v : Value) (w : World) (T : Tbs w) (hv : Smalls w v l) (hn : 16 < l.length) :
    Calls Tryz.prog 5 #[.int .u8 (k : Nat), v] w fun e w' => e = .returned (.bool true) ∧ Below w.heap.size w w' := by
  obtain ⟨j, hj, hjl⟩ : ∃ j, k % 10 = j ∧ j < 10 := ⟨k % 10, rfl, Nat.mod_lt _ (by decide)⟩
  have e1 : Int.tmod (k : Int) 10 = (j : Int) := by rw [← hj, Int.tmod_eq_emod_of_nonneg (by omega)]; omega
  have hkb : kindB (1 + j) = true := by simp [kindB]; omega
  have hM := make_nil (ndK (1 + j)) w T hkb (ndK_ok _)
  have HT : Hid (Tbs w) := T
  simp only [ndK] at hM
  obtain ⟨oa, cap, rfl, _, _⟩ := hv
  have hm : (16 : Int) < (l.length : Int) := by omega
  clear T hj hkb
  go_enter Tryz.func5, Tryz.ntmps5
  go_wp2_with fail
  refine hM.mono ?_
  rintro e w1 ⟨b, rfl, _, _, hb⟩
  have L1 : Hid (Below w.heap.size w w1) := hb
  clear hb hM
  go_wp2_with fail
  refine (alive7_any _ (HT.out.below L1.out)).mono ?_
  rintro e w2 ⟨rfl, hb⟩
  have L2 : Hid (Below w.heap.size w w2) := L1.out.trans (hb.mono L1.out.size)
  clear hb L1
  go_wp2_with fail
  refine (alive7_any _ (HT.out.below L2.out)).mono ?_
  rintro e w3 ⟨rfl, hb⟩
  have L3 : Hid (Below w.heap.size w w3) := L2.out.trans (hb.mono L2.out.size)
  clear hb L2
  go_wp2
  go_ret
  exact ⟨rfl, L3.out⟩

/-- The wrappers that the first k small ones make. -/
def wrsOf (l : List Sl) : List Wr := l.map wrOf
def stS (B : Bs) (l : List Sl) : Bs × List Wr := runW (B, []) (wrsOf l)
theorem stS_snoc (B : Bs) (l : List Sl) (x : Sl) : stS B (l ++ [x]) = stp (stS B l) (wrOf x) := by
  unfold stS wrsOf
  rw [List.map_append, List.map_singleton, run_snoc]

set_option maxRecDepth 10000 in
set_option maxHeartbeats 16000000 in
theorem shows_small (k : Nat) (hk8 : k < 256) (l : List Sl) (v : Value) (w : World) (T : Tbs w) (hv : Smalls w v l) (hs : ∀ x ∈ l, x.wf) (hn : l.length ≤ 16) :
    Calls Tryz.prog 5 #[.int .u8 (k : Nat), v] w fun e w' => e = .returned (.bool true) ∧ Below w.heap.size w w' := by
  obtain ⟨j, hj, hjl⟩ : ∃ j, k % 10 = j ∧ j < 10 := ⟨k % 10, rfl, Nat.mod_lt _ (by decide)⟩
  have e1 : Int.tmod (k : Int) 10 = (j : Int) := by rw [← hj, Int.tmod_eq_emod_of_nonneg (by omega)]; omega
  have hkb : kindB (1 + j) = true := by simp [kindB]; omega
  have hM := make_nil (ndK (1 + j)) w T hkb (ndK_ok _)
  have HT : Hid (Tbs w) := T
  obtain ⟨pt, hpt⟩ : ∃ pt, pt = ptOf (ndK (1 + j)) none 0 0 := ⟨_, rfl⟩
  have HPT : Hid (∀ W b, PtIn W b pt → Pw W (.made pt b) [] (.iface (tyOf (1 + j)).id (.pointer (some ⟨b, 0, none⟩)))) := fun W b h => ⟨by rw [hpt]; rfl, h, by rw [hpt]; exact hkb⟩
  rw [← hpt] at hM
  simp only [ndK] at hM
  clear hpt
  obtain ⟨oa, cap, rfl, _, hg⟩ := hv
  have HG : Hid (0 < l.length → ∃ g o, oa = some ⟨g, o, none⟩ ∧ g < w.heap.size ∧ ∀ i (h : i < l.length), SlAt w g (o + i * 4) l[i]) := hg
  have HS : Hid (∀ x ∈ l, x.wf) := hs
  have hm : ¬ (16 : Int) < (l.length : Int) := by omega
  obtain ⟨i0, HI⟩ : ∃ i0, Hid (Tryz.prog.info? 58 = some i0 ∧ i0.zero = some (.agg #[.int .u8 0, .int .u16 0, .int .i64 0, .string ByteArray.empty]) ∧ i0.size = 4 ∧ i0.bytes = 32) := info_w3 info_wrap
  clear T hj hg hs hkb
  generalize (tyOf (1 + j)).id = ti at *
  go_enter Tryz.func5, Tryz.ntmps5
  go_wp2_with fail
  refine hM.mono ?_
  rintro e w1 ⟨b, rfl, hp, _, hb⟩
  have L1 : Hid (Below w.heap.size w w1 ∧ Pw w1 (.made pt b) [] (.iface ti (.pointer (some ⟨b, 0, none⟩)))) := ⟨hb, HPT.out _ _ hp⟩
  clear hb hM hp HPT
  go_wp2_with fail
  refine (alive7_any _ (HT.out.below L1.out.1)).mono ?_
  rintro e w2 ⟨rfl, hb⟩
  have L2 : Hid (Below w.heap.size w w2 ∧ Pw w2 (.made pt b) [] (.iface ti (.pointer (some ⟨b, 0, none⟩)))) := ⟨L1.out.1.trans (hb.mono L1.out.1.size), L1.out.2.below hb⟩
  clear hb L1
  generalize (Value.pointer (some ⟨b, 0, none⟩)) = py at *
  generalize Bs.made pt b = B at *
  go_wp2_with fail
  refine (L2.out.2.holds7 _).mono ?_
  rintro e w3 ⟨rfl, rfl⟩
  have HB : Hid (canL B [] < 64) := L2.out.2.can_lt
  go_wp2_with fail
  go_loopw [5, 7, 9, 10, 11, 12] (fun pv c av sp ho i wr => ∃ k : Nat, k ≤ l.length ∧ i = .int .i64 k ∧ c = .int .u16 (canL (stS B (l.take k)).1 (stS B (l.take k)).2 : Nat) ∧ sp = .int .i64 ((stS B (l.take k)).2.length : Nat) ∧ (∃ bo : Bool, ho = .bool bo) ∧ Hid (Below w.heap.size w wr ∧ Pw wr (stS B (l.take k)).1 (stS B (l.take k)).2 pv ∧ wr.ownsRow w.heap.size 58 4 av (wrsOf (l.take k)).length (flatW (wrsOf (l.take k))) ∧ (k = 0 → av = .slice none 0 0))) (fun _ _ _ _ _ i _ => l.length - (intOf i).toNat)
  case atStart => exact ⟨0, Nat.zero_le _, rfl, rfl, rfl, ⟨_, rfl⟩, L2.out.1, L2.out.2, World.ownsRow_nil _ _ _ _, fun _ => rfl⟩
  case round =>
    obtain ⟨k, hk, rfl, rfl, rfl, ⟨bo, rfl⟩, HR⟩ := hrel
    clear L2
    by_cases hlt : k < l.length
    · obtain ⟨g, o, rfl, hg, hat⟩ := HG.out (by omega)
      have hx := (hat k hlt).kept (w' := wr) fun j => HR.out.1.cell (p := ⟨g, j, none⟩) hg
      have hxw := HS.out _ (List.getElem_mem hlt)
      have e2 : stS B (l.take (k + 1)) = stp (stS B (l.take k)) (wrOf l[k]) := by rw [← List.take_append_getElem hlt, stS_snoc]
      have e3 : wrsOf (l.take (k + 1)) = wrsOf (l.take k) ++ [wrOf l[k]] := by rw [← List.take_append_getElem hlt]; unfold wrsOf; rw [List.map_append, List.map_singleton]
      have hlen : (wrsOf (l.take k)).length = k := by simp [wrsOf]; omega
      have hlt2 : canL (stS B (l.take k)).1 (stS B (l.take k)).2 < 64 := HR.out.2.1.can_lt
      have hsl : (stS B (l.take k)).2.length ≤ k := by
        have := run_len (wrsOf (l.take k)) (B, [])
        rw [hlen] at this
        show (runW (B, []) (wrsOf (l.take k))).2.length ≤ k
        simpa using this
      have HW : Hid (∀ W, Calls Tryz.prog 23 #[.agg #[.int .u8 (l[k].kind : Nat), .int .u8 (l[k].mask : Nat), .int .u8 (l[k].num : Nat), .string l[k].text]] W fun e w' => e = .returned (Value.agg #[.int .u8 ((wrOf l[k]).kind : Nat), .int .u16 ((wrOf l[k]).mask : Nat), .int .i64 (wrOf l[k]).num, .string (wrOf l[k]).text]) ∧ Below W.heap.size W w') := fun W => wrapper_any _ hxw W
      have HX : Hid (okW (wrOf l[k]) = true ∧ (wrOf l[k]).wf) := ⟨wrOf_ok _ hxw, wrOf_wf _ hxw⟩
      have HE : Hid (stS B (l.take (k + 1)) = stp (stS B (l.take k)) (wrOf l[k]) ∧ wrsOf (l.take (k + 1)) = wrsOf (l.take k) ++ [wrOf l[k]] ∧ (wrsOf (l.take k)).length = k) := ⟨e2, e3, hlen⟩
      have ik : (k : Int) < (l.length : Int) := by omega
      obtain ⟨x0, x1, x2, x3⟩ := hx
      clear hat hg HG hxw HS e2 e3 hlen
      generalize wrOf l[k] = x at *
      generalize l[k] = sx at *
      go_wp2_with fail
      refine (HW.out _).mono ?_
      rintro e w4 ⟨rfl, hb⟩
      have R4 : Hid (Below w.heap.size w w4 ∧ Pw w4 (stS B (l.take k)).1 (stS B (l.take k)).2 u5 ∧ w4.ownsRow w.heap.size 58 4 u9 (wrsOf (l.take k)).length (flatW (wrsOf (l.take k))) ∧ (k = 0 → u9 = .slice none 0 0)) := ⟨HR.out.1.trans (hb.mono HR.out.1.size), HR.out.2.1.below hb, row_below HR.out.2.2.1 hb, HR.out.2.2.2⟩
      clear hb HR HW x0 x1 x2 x3
      obtain ⟨hi, hz0, hz1, hz2⟩ := HI.out
      have h5 : w.heap.size ≤ ((w4.alloc (.cells (#[.int .u8 (x.kind : Nat), .int .u16 (x.mask : Nat), .int .i64 x.num, .string x.text]) 58)).alloc (.cells (#[.int .u8 (x.kind : Nat), .int .u16 (x.mask : Nat), .int .i64 x.num, .string x.text]) 58)).heap.size := by have := R4.out.1.size; simp; omega
      have hc5 : Hid (w.heap.size ≤ ((w4.alloc (.cells (#[.int .u8 (x.kind : Nat), .int .u16 (x.mask : Nat), .int .i64 x.num, .string x.text]) 58)).alloc (.cells (#[.int .u8 (x.kind : Nat), .int .u16 (x.mask : Nat), .int .i64 x.num, .string x.text]) 58)).heap.size) := h5
      clear h5
      have hown : ((w4.alloc (.cells (#[.int .u8 (x.kind : Nat), .int .u16 (x.mask : Nat), .int .i64 x.num, .string x.text]) 58)).alloc (.cells (#[.int .u8 (x.kind : Nat), .int .u16 (x.mask : Nat), .int .i64 x.num, .string x.text]) 58)).ownsRow w.heap.size 58 4 u9 (wrsOf (l.take k)).length (flatW (wrsOf (l.take k))) := (R4.out.2.2.1.alloc _).alloc _
      have hlk : (wrsOf (l.take k)).length ≤ 16 := by rw [HE.out.2.2]; omega
      go_wp2_with (at_builtin; refine wpList_append_own _ rfl _ _ 26 rfl w.heap.size 58 i0 (.agg #[.int .u8 0, .int .u16 0, .int .i64 0, .string ByteArray.empty]) 4 32 Tryz.underlying26 hi hz0 hz1 hz2 rfl (by decide) _ _ _ rfl hown ⟨w4.heap.size + 1, 0, none⟩ 1 1 (celW x) rfl rfl ?c1 (oneW x) ?c3 ?c4 hc5.out ?_)
      case c1 => exact cellW4 _ _ _ _ (by simp)
      case c3 => unfold maxLen; omega
      case c4 => omega
      intro v' w5 hown' hgrow _
      have HW5 : Hid (Below w.heap.size w w5 ∧ Pw w5 (stS B (l.take k)).1 (stS B (l.take k)).2 u5 ∧ w5.ownsRow w.heap.size 58 4 v' (wrsOf (l.take (k + 1))).length (flatW (wrsOf (l.take (k + 1)))) ∧ Blk w5 w4.heap.size (#[.int .u8 (x.kind : Nat), .int .u16 (x.mask : Nat), .int .i64 x.num, .string x.text]) 58) := by
        have hA : Below w4.heap.size w4 ((w4.alloc (.cells (#[.int .u8 (x.kind : Nat), .int .u16 (x.mask : Nat), .int .i64 x.num, .string x.text]) 58)).alloc (.cells (#[.int .u8 (x.kind : Nat), .int .u16 (x.mask : Nat), .int .i64 x.num, .string x.text]) 58)) := ((Below.refl _ w4).alloc (Nat.le_refl _) _).alloc (by simp) _
        refine ⟨(R4.out.1.trans (hA.mono R4.out.1.size)).grown hgrow hc5.out (fun b hb => (hown.lt b hb).1), Pw.grown hown (fun h => R4.out.2.2.2 (by rw [← HE.out.2.2, h]; rfl)) hgrow (R4.out.2.1.below hA), ?_, ?_⟩
        · rw [HE.out.2.1, List.length_append, flatW_snoc]
          exact hown'
        · have B5 : Blk ((w4.alloc (.cells (#[.int .u8 (x.kind : Nat), .int .u16 (x.mask : Nat), .int .i64 x.num, .string x.text]) 58)).alloc (.cells (#[.int .u8 (x.kind : Nat), .int .u16 (x.mask : Nat), .int .i64 x.num, .string x.text]) 58)) w4.heap.size (#[.int .u8 (x.kind : Nat), .int .u16 (x.mask : Nat), .int .i64 x.num, .string x.text]) 58 := (Blk.new _ _ _).alloc _
          refine (hgrow.block _ B5.lt (fun h => ?_)).trans B5
          have := (R4.out.2.2.1.lt _ h.symm).2
          omega
      have HN : Hid (canL (stS B (l.take (k + 1))).1 (stS B (l.take (k + 1))).2 = lefC (canL (stS B (l.take k)).1 (stS B (l.take k)).2) x ∧ (stS B (l.take (k + 1))).2.length = (if x.kind = 7 then 0 else (stS B (l.take k)).2.length + 1) ∧ (!(stS B (l.take (k + 1))).2.isEmpty || (stS B (l.take (k + 1))).1.isHalf) = true ∧ decide (kindL (stS B (l.take (k + 1))).1 (stS B (l.take (k + 1))).2 = 0) = decide (x.kind = 7)) := by
        rw [HE.out.1]
        exact ⟨stp_can _ _, stp_steps _ _, stp_un _ _, (stp_hol _ _).2⟩
      have HAr : Hid (Calls Tryz.prog 15 #[u5, (Value.agg #[.int .u8 (x.kind : Nat), .int .u16 (x.mask : Nat), .int .i64 x.num, .string x.text])] w5 fun e w' => ∃ i y, e = .returned (.tuple #[.iface i y, .int .i64 0]) ∧ Hid (Pw w' (stS B (l.take (k + 1))).1 (stS B (l.take (k + 1))).2 (.iface i y) ∧ Below w5.heap.size w5 w')) := by
        rw [HE.out.1]
        refine (around_one _ _ x u5 w5 (HT.out.2.2.below HW5.out.1) HW5.out.2.1 HX.out.2 HX.out.1 (.inr (by omega))).mono ?_
        rintro e w' ⟨vq, he, hq, hb⟩
        obtain ⟨i, y, rfl, _, _⟩ := hq.tf
        exact ⟨i, y, he, ⟨hq, hb⟩⟩
      have HM : Hid (x.kind = 1 ∨ x.kind = 2 → x.mask < 64) := ok_mask HX.out.1
      clear hown' hgrow hown hc5 hlk R4 hi hz0 hz1 hz2
      have c0 := HW5.out.2.2.2.cell 0
      have c1 := HW5.out.2.2.2.cell 1
      have c2 := HW5.out.2.2.2.cell 2
      have c3 := HW5.out.2.2.2.cell 3
      generalize hcn : canL (stS B (l.take (k + 1))).1 (stS B (l.take (k + 1))).2 = cn at HN
      have HCN : Hid (canL (stS B (l.take (k + 1))).1 (stS B (l.take (k + 1))).2 = cn) := hcn
      clear hcn
      have hcl : cn = lefC (canL (stS B (l.take k)).1 (stS B (l.take k)).2) x := HN.out.1
      generalize canL (stS B (l.take k)).1 (stS B (l.take k)).2 = cc at *
      generalize hss : (stS B (l.take k)).2.length = ss at *
      obtain ⟨xk, xm, xn, xt⟩ := x
      simp only at HN HM hcl c0 c1 c2 c3
      have hxk : xk = 1 ∨ xk = 2 ∨ xk = 5 ∨ xk = 6 ∨ xk = 7 ∨ (xk ≠ 1 ∧ xk ≠ 2 ∧ xk ≠ 5 ∧ xk ≠ 6 ∧ xk ≠ 7) := by omega
      clear hss HE HX
      rcases hxk with rfl | rfl | rfl | rfl | rfl | ⟨n1, n2, n5, n6, n7⟩
      · have f := and_fin ⟨cc, hlt2⟩ ⟨xm, HM.out (.inl rfl)⟩
        have e := f.2.1
        have e2 := f.2.2.1
        have e3 := f.2.2.2.1
        simp only at e e2 e3
        have hq : (cn : Int) = ((cc &&& (63 ^^^ xm) : Nat) : Int) := by rw [hcl]; rfl
        clear f hcl
        go_wp2_with fail
        refine HAr.out.mono ?_
        rintro e w6 ⟨qi, qy, rfl, H6⟩
        have Q : Hid (Below w.heap.size w w6 ∧ w6.ownsRow w.heap.size 58 4 v' (wrsOf (l.take (k + 1))).length (flatW (wrsOf (l.take (k + 1))))) := ⟨HW5.out.1.trans (H6.out.2.mono HW5.out.1.size), row_below HW5.out.2.2.1 H6.out.2⟩
        have hho := H6.out.1.holds7 w6
        have hno := H6.out.1.noneC
        obtain ⟨i1, y1, hv1, hf, _⟩ := H6.out.1.tf
        obtain ⟨rfl, rfl⟩ : qi = i1 ∧ qy = y1 := by cases hv1; exact ⟨rfl, rfl⟩
        have hau := hf.au
        rw [HN.out.2.2.1] at hau
        rw [HCN.out] at hho
        rw [HN.out.2.2.2, show decide (_ = 7) = false from rfl] at hno
        clear hv1 hf c0 c1 c2 c3
        simp only [cond_true] at hau
        go_wp2_with fail
        refine hho.mono ?_
        rintro e w7 ⟨rfl, rfl⟩
        go_wp2_with fail
        refine hno.mono ?_
        rintro e w8 ⟨rfl, rfl⟩
        go_wp2
        go_roundw
        case rel =>
          refine ⟨k + 1, by omega, by go_num, by rw [HCN.out, hq], ?_, ⟨_, rfl⟩, Q.out.1, H6.out.1, Q.out.2, fun h => absurd h (by omega)⟩
          rw [HN.out.2.1, if_neg (by decide)]
          go_num
        case measure => simp [intOf]; omega
      · have e := (and_fin ⟨cc, hlt2⟩ ⟨xm, HM.out (.inr rfl)⟩).2.1
        have hq : (cn : Int) = bits .and .u16 (cc : Int) (xm : Int) := by rw [hcl]; exact e.symm
        clear e hcl
        go_wp2_with fail
        refine HAr.out.mono ?_
        rintro e w6 ⟨qi, qy, rfl, H6⟩
        have Q : Hid (Below w.heap.size w w6 ∧ w6.ownsRow w.heap.size 58 4 v' (wrsOf (l.take (k + 1))).length (flatW (wrsOf (l.take (k + 1))))) := ⟨HW5.out.1.trans (H6.out.2.mono HW5.out.1.size), row_below HW5.out.2.2.1 H6.out.2⟩
        have hho := H6.out.1.holds7 w6
        have hno := H6.out.1.noneC
        obtain ⟨i1, y1, hv1, hf, _⟩ := H6.out.1.tf
        obtain ⟨rfl, rfl⟩ : qi = i1 ∧ qy = y1 := by cases hv1; exact ⟨rfl, rfl⟩
        have hau := hf.au
        rw [HN.out.2.2.1] at hau
        rw [HCN.out] at hho
        rw [HN.out.2.2.2, show decide (_ = 7) = false from rfl] at hno
        clear hv1 hf c0 c1 c2 c3
        simp only [cond_true] at hau
        go_wp2_with fail
        refine hho.mono ?_
        rintro e w7 ⟨rfl, rfl⟩
        go_wp2_with fail
        refine hno.mono ?_
        rintro e w8 ⟨rfl, rfl⟩
        go_wp2
        go_roundw
        case rel =>
          refine ⟨k + 1, by omega, by go_num, by rw [HCN.out, hq], ?_, ⟨_, rfl⟩, Q.out.1, H6.out.1, Q.out.2, fun h => absurd h (by omega)⟩
          rw [HN.out.2.1, if_neg (by decide)]
          go_num
        case measure => simp [intOf]; omega
      · have e := (or_fin ⟨cc, hlt2⟩).1
        have hq : (cn : Int) = bits .or .u16 (cc : Int) 4 := by rw [hcl]; exact e.symm
        clear e hcl
        go_wp2_with fail
        refine HAr.out.mono ?_
        rintro e w6 ⟨qi, qy, rfl, H6⟩
        have Q : Hid (Below w.heap.size w w6 ∧ w6.ownsRow w.heap.size 58 4 v' (wrsOf (l.take (k + 1))).length (flatW (wrsOf (l.take (k + 1))))) := ⟨HW5.out.1.trans (H6.out.2.mono HW5.out.1.size), row_below HW5.out.2.2.1 H6.out.2⟩
        have hho := H6.out.1.holds7 w6
        have hno := H6.out.1.noneC
        obtain ⟨i1, y1, hv1, hf, _⟩ := H6.out.1.tf
        obtain ⟨rfl, rfl⟩ : qi = i1 ∧ qy = y1 := by cases hv1; exact ⟨rfl, rfl⟩
        have hau := hf.au
        rw [HN.out.2.2.1] at hau
        rw [HCN.out] at hho
        rw [HN.out.2.2.2, show decide (_ = 7) = false from rfl] at hno
        clear hv1 hf c0 c1 c2 c3
        simp only [cond_true] at hau
        go_wp2_with fail
        refine hho.mono ?_
        rintro e w7 ⟨rfl, rfl⟩
        go_wp2_with fail
        refine hno.mono ?_
        rintro e w8 ⟨rfl, rfl⟩
        go_wp2
        go_roundw
        case rel =>
          refine ⟨k + 1, by omega, by go_num, by rw [HCN.out, hq], ?_, ⟨_, rfl⟩, Q.out.1, H6.out.1, Q.out.2, fun h => absurd h (by omega)⟩
          rw [HN.out.2.1, if_neg (by decide)]
          go_num
        case measure => simp [intOf]; omega
      · have e := (or_fin ⟨cc, hlt2⟩).2.1
        have hq : (cn : Int) = bits .or .u16 (cc : Int) 16 := by rw [hcl]; exact e.symm
        clear e hcl
        go_wp2_with fail
        refine HAr.out.mono ?_
        rintro e w6 ⟨qi, qy, rfl, H6⟩
        have Q : Hid (Below w.heap.size w w6 ∧ w6.ownsRow w.heap.size 58 4 v' (wrsOf (l.take (k + 1))).length (flatW (wrsOf (l.take (k + 1))))) := ⟨HW5.out.1.trans (H6.out.2.mono HW5.out.1.size), row_below HW5.out.2.2.1 H6.out.2⟩
        have hho := H6.out.1.holds7 w6
        have hno := H6.out.1.noneC
        obtain ⟨i1, y1, hv1, hf, _⟩ := H6.out.1.tf
        obtain ⟨rfl, rfl⟩ : qi = i1 ∧ qy = y1 := by cases hv1; exact ⟨rfl, rfl⟩
        have hau := hf.au
        rw [HN.out.2.2.1] at hau
        rw [HCN.out] at hho
        rw [HN.out.2.2.2, show decide (_ = 7) = false from rfl] at hno
        clear hv1 hf c0 c1 c2 c3
        simp only [cond_true] at hau
        go_wp2_with fail
        refine hho.mono ?_
        rintro e w7 ⟨rfl, rfl⟩
        go_wp2_with fail
        refine hno.mono ?_
        rintro e w8 ⟨rfl, rfl⟩
        go_wp2
        go_roundw
        case rel =>
          refine ⟨k + 1, by omega, by go_num, by rw [HCN.out, hq], ?_, ⟨_, rfl⟩, Q.out.1, H6.out.1, Q.out.2, fun h => absurd h (by omega)⟩
          rw [HN.out.2.1, if_neg (by decide)]
          go_num
        case measure => simp [intOf]; omega
      · have hq : (cn : Int) = 0 := by rw [hcl]; rfl
        clear hcl
        go_wp2_with fail
        refine HAr.out.mono ?_
        rintro e w6 ⟨qi, qy, rfl, H6⟩
        have Q : Hid (Below w.heap.size w w6 ∧ w6.ownsRow w.heap.size 58 4 v' (wrsOf (l.take (k + 1))).length (flatW (wrsOf (l.take (k + 1))))) := ⟨HW5.out.1.trans (H6.out.2.mono HW5.out.1.size), row_below HW5.out.2.2.1 H6.out.2⟩
        have hho := H6.out.1.holds7 w6
        have hno := H6.out.1.noneC
        obtain ⟨i1, y1, hv1, hf, _⟩ := H6.out.1.tf
        obtain ⟨rfl, rfl⟩ : qi = i1 ∧ qy = y1 := by cases hv1; exact ⟨rfl, rfl⟩
        have hau := hf.au
        rw [HN.out.2.2.1] at hau
        rw [HCN.out] at hho
        rw [HN.out.2.2.2] at hno
        simp only [decide_true] at hno
        clear hv1 hf c0 c1 c2 c3
        simp only [cond_true] at hau
        go_wp2_with fail
        refine hho.mono ?_
        rintro e w7 ⟨rfl, rfl⟩
        go_wp2_with fail
        refine hno.mono ?_
        rintro e w8 ⟨rfl, rfl⟩
        go_wp2
        go_roundw
        case rel =>
          refine ⟨k + 1, by omega, by go_num, by rw [HCN.out, hq], ?_, ⟨_, rfl⟩, Q.out.1, H6.out.1, Q.out.2, fun h => absurd h (by omega)⟩
          rw [HN.out.2.1]
          rfl
        case measure => simp [intOf]; omega
      · have hq : (cn : Int) = (cc : Int) := by rw [hcl]; simp [lefC, n1, n2, n5, n6, n7]
        have k1 : ((xk : Int) == 1) = false := beq_eq_false_iff_ne.2 (by omega)
        have k2 : ((xk : Int) == 2) = false := beq_eq_false_iff_ne.2 (by omega)
        have k5 : ((xk : Int) == 5) = false := beq_eq_false_iff_ne.2 (by omega)
        have k6 : ((xk : Int) == 6) = false := beq_eq_false_iff_ne.2 (by omega)
        have k7 : ((xk : Int) == 7) = false := beq_eq_false_iff_ne.2 (by omega)
        clear hcl
        have HD : Hid (decide (xk = 7) = false ∧ ¬ xk = 7) := ⟨decide_eq_false n7, n7⟩
        clear n1 n2 n5 n6 n7
        go_wp2_with fail
        refine HAr.out.mono ?_
        rintro e w6 ⟨qi, qy, rfl, H6⟩
        have Q : Hid (Below w.heap.size w w6 ∧ w6.ownsRow w.heap.size 58 4 v' (wrsOf (l.take (k + 1))).length (flatW (wrsOf (l.take (k + 1))))) := ⟨HW5.out.1.trans (H6.out.2.mono HW5.out.1.size), row_below HW5.out.2.2.1 H6.out.2⟩
        have hho := H6.out.1.holds7 w6
        have hno := H6.out.1.noneC
        obtain ⟨i1, y1, hv1, hf, _⟩ := H6.out.1.tf
        obtain ⟨rfl, rfl⟩ : qi = i1 ∧ qy = y1 := by cases hv1; exact ⟨rfl, rfl⟩
        have hau := hf.au
        rw [HN.out.2.2.1] at hau
        rw [HCN.out] at hho
        rw [HN.out.2.2.2, HD.out.1] at hno
        clear hv1 hf c0 c1 c2 c3
        simp only [cond_true] at hau
        go_wp2_with fail
        refine hho.mono ?_
        rintro e w7 ⟨rfl, rfl⟩
        go_wp2_with fail
        refine hno.mono ?_
        rintro e w8 ⟨rfl, rfl⟩
        go_wp2
        go_roundw
        case rel =>
          refine ⟨k + 1, by omega, by go_num, by rw [HCN.out, hq], ?_, ⟨_, rfl⟩, Q.out.1, H6.out.1, Q.out.2, fun h => absurd h (by omega)⟩
          rw [HN.out.2.1, if_neg HD.out.2]
          go_num
        case measure => simp [intOf]; omega
    · obtain rfl : k = l.length := by omega
      have HR2 := HR
      rw [List.take_length] at HR2
      rw [List.take_length]
      have hsl : (stS B l).2.length ≤ 100 := by
        have := run_len (wrsOf l) (B, [])
        have h2 : (wrsOf l).length = l.length := by simp [wrsOf]
        rw [h2] at this
        show (runW (B, []) (wrsOf l)).2.length ≤ 100
        simp at this
        omega
      have hW : Wraps wr u9 (wrsOf l) := wraps_own HR2.out.2.2.1
      have hwf : ∀ x ∈ wrsOf l, x.wf ∧ okW x = true := by
        intro x hx
        obtain ⟨y, hy, rfl⟩ := List.mem_map.1 hx
        exact ⟨wrOf_wf _ (HS.out _ hy), wrOf_ok _ (HS.out _ hy)⟩
      have hck : ckE (wrsOf l) = 0 := by
        unfold ckE
        rw [if_neg (by simp [wrsOf]; omega), if_pos (List.all_eq_true.2 fun x hx => (hwf x hx).2)]
      have hsa := says_any (canL B []) (wrsOf l) u9 wr (Nat.lt_trans HB.out (by decide)) (HT.out.2.2.below HR2.out.1) hW (fun x hx => (hwf x hx).1)
      have e1' : saE (canL B []) (wrsOf l) = 0 := by unfold saE; rw [if_pos HB.out, hck]
      have e2' : saC (canL B []) (wrsOf l) = canL (stS B l).1 (stS B l).2 := by
        unfold saC
        rw [if_pos e1']
        exact (run_can (wrsOf l) (B, [])).symm
      rw [e1', e2'] at hsa
      have HPw : Hid (Pw wr (stS B l).1 (stS B l).2 u5) := HR2.out.2.1
      have HBl : Hid (Below w.heap.size w wr) := HR2.out.1
      have ik : ¬ (l.length : Int) < (l.length : Int) := by omega
      clear hW hwf hck e1' e2' HR HR2 HS HG HB HT hlt hk
      go_wp2_with fail
      refine hsa.mono ?_
      rintro e w4 ⟨rfl, hb⟩
      have HP4 : Hid (Pw w4 (stS B l).1 (stS B l).2 u5 ∧ Below w.heap.size w w4) := ⟨HPw.out.below hb, HBl.out.trans (hb.mono HBl.out.size)⟩
      have hIn := inner_any _ _ _ w4 HP4.out.1 (by omega)
      have hCa := HP4.out.1.canC w4
      clear hb hsa HPw HBl hsl
      generalize canL (stS B l).1 (stS B l).2 = cc at *
      generalize (stS B l).2.length = ss at *
      generalize (stS B l).1.val = bv at *
      go_wp2_with fail
      refine hIn.mono ?_
      rintro e w5 ⟨rfl, rfl⟩
      go_wp2_with fail
      refine hCa.mono ?_
      rintro e w6 ⟨rfl, rfl⟩
      go_wp2
      go_ret
      exact ⟨rfl, HP4.out.2⟩

theorem shows_walk (k : Nat) (l : List Sl) (v : Value) (w : World) (T : Tbs w) (hk : k < 256) (hv : Smalls w v l) (hs : ∀ x ∈ l, x.wf) :
    Calls Tryz.prog 5 #[.int .u8 (k : Nat), v] w fun e w' => e = .returned (.bool true) ∧ Below w.heap.size w w' := by
  by_cases hn : l.length ≤ 16
  · exact shows_small k hk l v w T hv hs hn
  · exact shows_big k hk l v w T hv (by omega)


end Go.Proofs.YtbnbfgkcndomaabGreatDoor
