/-
  The statement VectorNames, walked.
-/
import Derived.Test.YtpbkgdombadbmaaGreatDoorK16
namespace Go.Proofs.YtpbkgdombadbmaaGreatDoor
open Go.RowKit

set_option maxRecDepth 10000 in
set_option maxHeartbeats 1000000 in
theorem wrong16_any (s : ByteArray) (a : Nat) (w : World) (hE : EnR w.heap.size w ∧ EtI w) (h1 : rdE s = 160) (h2 : rdA s = a) :
    Calls Tryz.prog 7 #[.string s, .int .i64 (a : Nat)] w fun e w' => e = .returned (.bool true) ∧ Below w.heap.size w w' := by
  have HR : Hid (Calls Tryz.prog 11 #[.string s] w fun e w' => ∃ oa cap, e = .returned (.tuple #[.slice oa 0 cap, .agg #[.int .i64 0, .int .i64 0], .int .i64 (a : Nat), .int .i64 160]) ∧ Below w.heap.size w w') := by
    have n : ¬ rdE s = 0 := by rw [h1]; decide
    refine (vread_any s w hE.1 hE.2).mono ?_
    rintro e w' ⟨u, rfl, hu, hb⟩
    rw [show rdL s = [] by unfold rdL; rw [if_neg n]] at hu
    rw [h1, h2, show rdW s = 0 by unfold rdW; rw [if_neg n], show rdH s = 0 by unfold rdH; rw [if_neg n]]
    obtain ⟨oa, cap, rfl, _⟩ := OwS.lss hu
    exact ⟨oa, cap, rfl, hb⟩
  clear hE h1 h2
  go_enter Tryz.func7, Tryz.ntmps7
  go_wp2_with fail
  refine HR.out.mono ?_
  rintro e w2 ⟨oa, cap, rfl, hb⟩
  have B2 : Hid (Below w.heap.size w (w2.alloc (.cells #[.int .i64 0, .int .i64 0] 23))) := by
    have b1 : Below w2.heap.size w2 (w2.alloc (.cells #[.int .i64 0, .int .i64 0] 23)) := (Below.refl _ w2).alloc (Nat.le_refl _) _
    exact hb.trans (b1.mono hb.size)
  clear hb HR
  go_wp2
  go_ret
  exact ⟨rfl, B2.out⟩

def gW : St := ⟨3, ⟨0, 0, 9, 1⟩, ⟨255, 255, 255, 255⟩, ⟨0, 0, 0, 0⟩, ⟨#[97, 32, 98]⟩, 0⟩
def t1W : ByteArray := ⟨#[60, 115, 104, 97, 112, 101, 115, 32, 119, 61, 34, 56, 34, 32, 104, 61, 34, 51, 34, 62, 10, 60, 119, 114, 105, 116, 101, 32, 120, 61, 34, 48, 34, 32, 121, 61, 34, 48, 34, 32, 119, 61, 34, 57, 34, 32, 104, 61, 34, 49, 34, 32, 99, 61, 34, 35, 102, 102, 102, 34, 32, 98, 61, 34, 35, 48, 48, 48, 48, 48, 48, 48, 48, 34, 32, 110, 61, 34, 48, 34, 62, 97, 38, 50, 48, 59, 98, 60, 47, 119, 114, 105, 116, 101, 62, 10, 60, 47, 115, 104, 97, 112, 101, 115, 62, 10]⟩
def t2W : ByteArray := ⟨#[60, 115, 104, 97, 112, 101, 115, 32, 119, 61, 34, 56, 34, 32, 104, 61, 34, 51, 34, 62, 10, 60, 47, 115, 104, 97, 112, 101, 115, 62, 10]⟩
theorem t1_text : (⟨(texT [gW] 8 3).toArray⟩ : ByteArray) = t1W ∧ texE [gW] 8 3 = 0 := by
  have : texT [gW] 8 3 = t1W.data.toList := by decide +kernel
  exact ⟨by rw [this], by decide +kernel⟩
theorem t2_text : (⟨(texT [] 8 3).toArray⟩ : ByteArray) = t2W ∧ texE [] 8 3 = 0 := by
  have : texT [] 8 3 = t2W.data.toList := by decide +kernel
  exact ⟨by rw [this], by decide +kernel⟩
theorem t3_text : (⟨(texT [] (-1) 0).toArray⟩ : ByteArray) = ⟨#[]⟩ ∧ texE [] (-1) 0 = 9 := by
  have : texT [] (-1) 0 = [] := by decide +kernel
  exact ⟨by rw [this], by decide +kernel⟩
theorem gW_wf : Wfs [gW] := fun s hs => by
  obtain rfl : s = gW := by simpa using hs
  refine ⟨⟨?_, ?_⟩, ⟨?_, ?_, ?_, ?_⟩, ?_, ?_, ?_, ?_⟩ <;> first | (simp [gW, Co.ok, By, I64]; done) | decide
theorem lss_nil0 (w : World) : LsS w (.slice none 0 0) [] := ⟨_, _, rfl, Nat.le_refl _, fun h => absurd h (Nat.lt_irrefl 0)⟩

set_option maxRecDepth 10000 in
set_option maxHeartbeats 8000000 in
theorem vnames_walk (w : World) (hE : EnR w.heap.size w ∧ EtI w) : Calls Tryz.prog 3 #[] w fun e w' => e = .returned (.bool true) ∧ Below w.heap.size w w' := by
  obtain ⟨g, hg⟩ : ∃ g, g = gW := ⟨_, rfl⟩
  obtain ⟨T1, hT1⟩ : ∃ T, T = t1W := ⟨_, rfl⟩
  obtain ⟨T2, hT2⟩ : ∃ T, T = t2W := ⟨_, rfl⟩
  have en : ∀ W, Below w.heap.size w W → EnR W.heap.size W ∧ EtI W := fun W hb => ⟨(hE.1.on hb).mono hb.size, hE.2.below hb⟩
  have HA : Hid (∀ W, Below w.heap.size w W → Calls Tryz.prog 10 #[] W fun e w' => e = .returned (.bool true) ∧ Below W.heap.size W w') := fun W h => alive16_any W (en W h).1 (en W h).2
  have HW : Hid (∀ W s (a : Nat), rdE s = 160 → rdA s = a → Below w.heap.size w W → Calls Tryz.prog 7 #[.string s, .int .i64 (a : Nat)] W fun e w' => e = .returned (.bool true) ∧ Below W.heap.size W w') := fun W s a h1 h2 hb => wrong16_any s a W (en W hb) h1 h2
  have HX1 : Hid (∀ W v, LsS W v [g] → Below w.heap.size w W → Calls Tryz.prog 6 #[v, .agg #[.int .i64 8, .int .i64 3]] W fun e w' => e = .returned (.tuple #[.string T1, .int .i64 0]) ∧ Below W.heap.size W w') := fun W v h hb => by
    have q := vtext_any [g] v 8 3 W h (by rw [hg]; exact gW_wf) ⟨by decide, by decide⟩ ⟨by decide, by decide⟩ (hE.1.on hb).here.pw
    rw [hg, t1_text.1, t1_text.2] at q
    rw [hT1]
    exact q
  have HX2 : Hid (∀ W, Below w.heap.size w W → Calls Tryz.prog 6 #[.slice none 0 0, .agg #[.int .i64 8, .int .i64 3]] W fun e w' => e = .returned (.tuple #[.string T2, .int .i64 0]) ∧ Below W.heap.size W w') := fun W hb => by
    have q := vtext_any [] _ 8 3 W (lss_nil0 W) (fun s hs => by cases hs) ⟨by decide, by decide⟩ ⟨by decide, by decide⟩ (hE.1.on hb).here.pw
    rw [t2_text.1, t2_text.2] at q
    rw [hT2]
    exact q
  have HX3 : Hid (∀ W, Below w.heap.size w W → Calls Tryz.prog 6 #[.slice none 0 0, .agg #[.int .i64 (-1), .int .i64 0]] W fun e w' => e = .returned (.tuple #[.string ⟨#[]⟩, .int .i64 9]) ∧ Below W.heap.size W w') := fun W hb => by
    have q := vtext_any [] _ (-1) 0 W (lss_nil0 W) (fun s hs => by cases hs) ⟨by decide, by decide⟩ ⟨by decide, by decide⟩ (hE.1.on hb).here.pw
    rw [t3_text.1, t3_text.2] at q
    exact q
  have HPl : Hid (∀ W s u (q : Nat) (c : Int), vpA s = (u, q, c) → s.size ≤ 1000 → Calls Tryz.prog 8 #[.string s] W fun e w' => e = .returned (.tuple #[.string ⟨u.toArray⟩, .int .i64 (q : Nat), .int .i64 c]) ∧ Below W.heap.size W w') := fun W s u q c h hs => by
    have r := vplain_any s W (by omega)
    rw [h] at r
    exact r
  have HEs : Hid (∀ W s u, escL s.data.toList = u → s.size ≤ 1000 → Calls Tryz.prog 9 #[.string s] W fun e w' => e = .returned (.string ⟨u.toArray⟩) ∧ Below W.heap.size W w') := fun W s u h hs => by
    have r := vesc_any s W (by omega)
    rw [h] at r
    exact r
  have hl1 : (T1.toList == [60, 115, 104, 97, 112, 101, 115, 32, 119, 61, 34, 56, 34, 32, 104, 61, 34, 51, 34, 62, 10, 60, 119, 114, 105, 116, 101, 32, 120, 61, 34, 48, 34, 32, 121, 61, 34, 48, 34, 32, 119, 61, 34, 57, 34, 32, 104, 61, 34, 49, 34, 32, 99, 61, 34, 35, 102, 102, 102, 34, 32, 98, 61, 34, 35, 48, 48, 48, 48, 48, 48, 48, 48, 34, 32, 110, 61, 34, 48, 34, 62, 97, 38, 50, 48, 59, 98, 60, 47, 119, 114, 105, 116, 101, 62, 10, 60, 47, 115, 104, 97, 112, 101, 115, 62, 10]) = true := by rw [hT1]; decide +kernel
  have hl2 : (T2.toList == [60, 115, 104, 97, 112, 101, 115, 32, 119, 61, 34, 56, 34, 32, 104, 61, 34, 51, 34, 62, 10, 60, 47, 115, 104, 97, 112, 101, 115, 62, 10]) = true := by rw [hT2]; decide +kernel
  have HT2 : Hid (T2 = t2W) := hT2
  have hsz : T2.size + 1 ≤ 9223372036854775807 := by rw [hT2]; decide
  have HLs : Hid (∀ o : Obj, LsS ((w.alloc o).alloc (.cells (#[.int .u8 g.k, .int .i64 g.r.x, .int .i64 g.r.y, .int .i64 g.r.w, .int .i64 g.r.h, .int .u8 g.c.r, .int .u8 g.c.g, .int .u8 g.c.b, .int .u8 g.c.a, .int .u8 g.b.r, .int .u8 g.b.g, .int .u8 g.b.b, .int .u8 g.b.a, .string g.t, .int .i64 g.n]) 31)) (.slice (some ⟨w.heap.size + 1, 0, none⟩) 1 1) [g]) := fun o => by
    have q := lss_one (w.alloc o) g 31
    rw [show (w.alloc o).heap.size = w.heap.size + 1 by simp] at q
    exact q
  have hgv : (#[.int .u8 3, .int .i64 0, .int .i64 0, .int .i64 9, .int .i64 1, .int .u8 255, .int .u8 255, .int .u8 255, .int .u8 255, .int .u8 0, .int .u8 0, .int .u8 0, .int .u8 0, .string ⟨#[97, 32, 98]⟩, .int .i64 0] : Array Value) = (#[.int .u8 g.k, .int .i64 g.r.x, .int .i64 g.r.y, .int .i64 g.r.w, .int .i64 g.r.h, .int .u8 g.c.r, .int .u8 g.c.g, .int .u8 g.c.b, .int .u8 g.c.a, .int .u8 g.b.r, .int .u8 g.b.g, .int .u8 g.b.b, .int .u8 g.b.a, .string g.t, .int .i64 g.n]) := by rw [hg]; rfl
  clear hE en hg hT1 hT2
  go_enter Tryz.func3, Tryz.ntmps3
  have B0 : Hid (Below w.heap.size w w) := Below.refl _ _
  go_wp2_with fail
  have B0b : Hid (Below w.heap.size w ((w.alloc (.cells (#[.int .u8 g.k, .int .i64 g.r.x, .int .i64 g.r.y, .int .i64 g.r.w, .int .i64 g.r.h, .int .u8 g.c.r, .int .u8 g.c.g, .int .u8 g.c.b, .int .u8 g.c.a, .int .u8 g.b.r, .int .u8 g.b.g, .int .u8 g.b.b, .int .u8 g.b.a, .string g.t, .int .i64 g.n]) 31)).alloc (.cells (#[.int .u8 g.k, .int .i64 g.r.x, .int .i64 g.r.y, .int .i64 g.r.w, .int .i64 g.r.h, .int .u8 g.c.r, .int .u8 g.c.g, .int .u8 g.c.b, .int .u8 g.c.a, .int .u8 g.b.r, .int .u8 g.b.g, .int .u8 g.b.b, .int .u8 g.b.a, .string g.t, .int .i64 g.n]) 31))) := ((Below.refl _ w).alloc (Nat.le_refl _) _).alloc (by simp) _
  refine (HX1.out _ _ (HLs.out _) B0b.out).mono ?_
  rintro e w1 ⟨rfl, hb⟩
  have B1 : Hid (Below w.heap.size w w1) := B0b.out.trans (hb.mono B0b.out.size)
  clear hb B0 B0b HX1 HLs hgv
  go_wp2_with fail
  refine (HX2.out _ B1.out).mono ?_
  rintro e w2 ⟨rfl, hb2⟩
  have B2 : Hid (Below w.heap.size w w2) := B1.out.trans (hb2.mono B1.out.size)
  clear hb2 B1
  go_wp2_with fail
  refine (HX3.out _ B2.out).mono ?_
  rintro e w3 ⟨rfl, hb3⟩
  have B3 : Hid (Below w.heap.size w w3) := B2.out.trans (hb3.mono B2.out.size)
  clear hb3 B2
  go_wp2_with fail
  refine (HW.out _ _ 0 (by decide +kernel) (by decide +kernel) B3.out).mono ?_
  rintro e w4 ⟨rfl, hb4⟩
  have B4 : Hid (Below w.heap.size w w4) := B3.out.trans (hb4.mono B3.out.size)
  clear hb4 B3
  go_wp2_with fail
  refine (HW.out _ _ 18 (by decide +kernel) (by decide +kernel) B4.out).mono ?_
  rintro e w5 ⟨rfl, hb5⟩
  have B5 : Hid (Below w.heap.size w w5) := B4.out.trans (hb5.mono B4.out.size)
  clear hb5 B4
  go_wp2_with fail
  refine (HW.out _ _ 11 (by decide +kernel) (by decide +kernel) B5.out).mono ?_
  rintro e w6 ⟨rfl, hb6⟩
  have B6 : Hid (Below w.heap.size w w6) := B5.out.trans (hb6.mono B5.out.size)
  clear hb6 B5
  go_wp2_with fail
  refine (HW.out _ _ 54 (by decide +kernel) (by decide +kernel) B6.out).mono ?_
  rintro e w7 ⟨rfl, hb7⟩
  have B7 : Hid (Below w.heap.size w w7) := B6.out.trans (hb7.mono B6.out.size)
  clear hb7 B6
  go_wp2_with fail
  refine (HW.out _ _ 31 (by rw [HT2.out]; decide +kernel) (by rw [HT2.out]; decide +kernel) B7.out).mono ?_
  rintro e w8 ⟨rfl, hb8⟩
  have B8 : Hid (Below w.heap.size w w8) := B7.out.trans (hb8.mono B7.out.size)
  clear hb8 B7
  go_wp2_with fail
  refine (HW.out _ _ 21 (by decide +kernel) (by decide +kernel) B8.out).mono ?_
  rintro e w9 ⟨rfl, hb9⟩
  have B9 : Hid (Below w.heap.size w w9) := B8.out.trans (hb9.mono B8.out.size)
  clear hb9 B8
  go_wp2_with fail
  refine (HPl.out _ _ [97, 60, 98] 0 0 (by decide +kernel) (by decide)).mono ?_
  rintro e w10 ⟨rfl, hb10⟩
  have B10 : Hid (Below w.heap.size w w10) := B9.out.trans (hb10.mono B9.out.size)
  clear hb10 B9
  go_wp2_with fail
  refine (HPl.out _ _ [] 0 160 (by decide +kernel) (by decide)).mono ?_
  rintro e w11 ⟨rfl, hb11⟩
  have B11 : Hid (Below w.heap.size w w11) := B10.out.trans (hb11.mono B10.out.size)
  clear hb11 B10
  go_wp2_with fail
  refine (HPl.out _ _ [] 1 160 (by decide +kernel) (by decide)).mono ?_
  rintro e w12 ⟨rfl, hb12⟩
  have B12 : Hid (Below w.heap.size w w12) := B11.out.trans (hb12.mono B11.out.size)
  clear hb12 B11
  go_wp2_with fail
  refine (HPl.out _ _ [] 0 160 (by decide +kernel) (by decide)).mono ?_
  rintro e w13 ⟨rfl, hb13⟩
  have B13 : Hid (Below w.heap.size w w13) := B12.out.trans (hb13.mono B12.out.size)
  clear hb13 B12
  go_wp2_with fail
  refine (HEs.out _ _ [97, 38, 51, 99, 59, 98] (by decide +kernel) (by decide)).mono ?_
  rintro e w14 ⟨rfl, hb14⟩
  have B14 : Hid (Below w.heap.size w w14) := B13.out.trans (hb14.mono B13.out.size)
  clear hb14 B13
  go_wp2_with fail
  refine (HEs.out _ _ [38, 102, 102, 59] (by decide +kernel) (by decide)).mono ?_
  rintro e w15 ⟨rfl, hb15⟩
  have B15 : Hid (Below w.heap.size w w15) := B14.out.trans (hb15.mono B14.out.size)
  clear hb15 B14
  go_wp2_with fail
  refine (HA.out _ B15.out).mono ?_
  rintro e w16 ⟨rfl, hb16⟩
  have B16 : Hid (Below w.heap.size w w16) := B15.out.trans (hb16.mono B15.out.size)
  clear hb16 B15
  go_wp2
  go_ret
  exact ⟨rfl, B16.out⟩

end Go.Proofs.YtpbkgdombadbmaaGreatDoor
