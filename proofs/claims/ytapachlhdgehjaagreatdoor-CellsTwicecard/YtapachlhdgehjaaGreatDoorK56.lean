/-
  Texts of this claim, one behind the other: what each is about stands ahead of it.
-/
import Derived.Test.YtapachlhdgehjaaGreatDoorK55
import Derived.Test.YtapachlhdgehjaaGreatDoorK16
import Derived.Test.YtapachlhdgehjaaGreatDoorK24
import Derived.Test.YtapachlhdgehjaaGreatDoorK9
import Derived.Test.YtapachlhdgehjaaGreatDoorK3
import Derived.Test.YtapachlhdgehjaaGreatDoorK25
import Derived.Test.YtapachlhdgehjaaGreatDoorK28
import Derived.Test.YtapachlhdgehjaaGreatDoorK45
import Derived.Test.YtapachlhdgehjaaGreatDoorRows
import Derived.Test.YtapachlhdgehjaaGreatDoorK48
import Derived.PinnedBridge
import Derived.Lib.LaidU8T
import Derived.Lib.LaidTab
import Derived.MakeChecks
import Derived.LaidHandle
import Derived.LaidLaws
import Derived.ChangeMade
import Derived.RowKitTokens
import Derived.Lay
import Derived.Deep.DeepLaidRun
/-
  Package cells: Read of a text whose things are known.
-/
namespace Go.Proofs.YtapachlhdgehjaaGreatDoor
open Go.RowKit

structure Kno (W H : Nat) (q : ByteArray) (s0 : Stt) (I : Nat → Stt → Prop) (bad : Bool) (LF : List Ce) (pF : Nat) : Prop where
  st : I 0 s0
  go : ∀ p s, I p s → p < q.size → (∃ z t, 0 < z ∧ p + z ≤ q.size ∧ Stp W H s (q.extract p q.size) z t ∧ I (p + z) t) ∨ (bad = true ∧ p = pF ∧ NoS W H s (q.extract p q.size))
  en : ∀ s, I q.size s → bad = false ∧ s.L = LF
def RdAns (W H : Nat) (bad : Bool) (LF : List Ce) (pF : Nat) (w : World) (e : Ending) (w' : World) : Prop :=
  (bad = false ∧ ∃ g n cap, e = .returned (.tuple #[.agg #[.int .i64 (W : Nat), .int .i64 (H : Nat), .slice (some ⟨g, 0, none⟩) n cap], .int .i64 0, .int .i64 0]) ∧ ScM w.heap.size w' g n cap LF ∧ Below w.heap.size w w') ∨
  (bad = true ∧ e = .returned (.tuple #[.agg #[.int .i64 0, .int .i64 0, .slice none 0 0], .int .i64 (pF : Nat), .int .i64 150]) ∧ Below w.heap.size w w')
theorem scr_size3 : (Tryz.prog.info? 26).map (·.size) = some 3 := by kernel_rfl

set_option maxRecDepth 20000 in
set_option maxHeartbeats 8000000 in
theorem read_known (W H : Nat) (l : List Ce) (v : Value) (q : ByteArray) (I : Nat → Stt → Prop) (bad : Bool) (LF : List Ce) (pF : Nat) (w : World) (hv : LsC w v l) (hn : NoNil v) (hE : scE W H l = 0) (hl0 : 0 < l.length) (hq : q.size ≤ 1048576) (K : Kno W H q ⟨0, 0, coZ, coZ, l⟩ I bad LF pF) (T : Tabs w) (D : TabC w) :
    Calls Tryz.prog 25 #[.agg #[.int .i64 (W : Nat), .int .i64 (H : Nat), v], .string q] w fun e w' => RdAns W H bad LF pF w e w' := by
  have hs : szB W H = true ∧ (l.length : Int) = W * H := by
    unfold scE at hE
    split at hE
    · rename_i h; exact ⟨h.1, h.2.1⟩
    · cases hE
  obtain ⟨hs, hlen⟩ := hs
  obtain ⟨s1, s2, s3, s4, s5⟩ := szB_iff.1 hs
  have HC : Hid (∀ W1, Below w.heap.size w W1 → Calls Tryz.prog 26 #[.agg #[.int .i64 (W : Nat), .int .i64 (H : Nat), v]] W1 fun e w' => e = .returned (.int .i64 0) ∧ Below W1.heap.size W1 w') := fun W1 h => by
    have := checkC_any W H l v W1 (hv.below h) (by omega) (T.below h)
    rw [hE] at this
    exact this
  have HCo : Hid (∀ W1, Below w.heap.size w W1 → Calls Tryz.prog 28 #[.agg #[.int .i64 (W : Nat), .int .i64 (H : Nat), v]] W1 fun e w' => ∃ u, e = .returned (.agg #[.int .i64 (W : Nat), .int .i64 (H : Nat), u]) ∧ Hid (OwC W1.heap.size w' u l ∧ Below W1.heap.size W1 w')) := fun W1 h => copied_any W H l v W1 (hv.below h) hn (by omega)
  have HK : Hid (Kno W H q ⟨0, 0, coZ, coZ, l⟩ I bad LF pF) := K
  have HTh : Hid (∀ lo b g n cap s t p z W1, RdS lo b W H g n cap s W1 → (n : Int) = W * H → Below w.heap.size w W1 → p < q.size → Stp W H s (q.extract p q.size) z t → Calls Tryz.prog 53 #[.pointer (some ⟨b, 0, none⟩), .string (q.extract p q.size)] W1 fun e w' => e = .returned (.int .i64 (z : Nat)) ∧ RdS lo b W H g n cap t w' ∧ Below lo W1 w') := fun lo b g n cap s t p z W1 h1 h2 h3 h4 h5 => thing_any lo b W H g n cap s t _ z W1 h1 (by simp; omega) (by simp; omega) hs h2 (T.below h3) (D.below h3) h5
  have HNo : Hid (∀ lo b g n cap s p W1, RdS lo b W H g n cap s W1 → Below w.heap.size w W1 → p < q.size → NoS W H s (q.extract p q.size) → Calls Tryz.prog 53 #[.pointer (some ⟨b, 0, none⟩), .string (q.extract p q.size)] W1 fun e w' => e = .returned (.int .i64 0) ∧ Below lo W1 w') := fun lo b g n cap s p W1 h1 h3 h4 h5 => thing_no lo b W H g n cap s _ W1 h1 (by simp; omega) (by omega) (T.below h3) (D.below h3) h5
  have HLen : Hid ((l.length : Int) = W * H ∧ 0 < l.length) := ⟨hlen, hl0⟩
  have hvf : ∃ oa m cp, v = .slice oa m cp := by
    obtain ⟨oa, cp, e, _⟩ := hv
    exact ⟨oa, _, cp, e⟩
  obtain ⟨oa, m, cp, rfl⟩ := hvf
  have H0 : Hid (∀ W1, W1 = (w.alloc (.cells #[.int .i64 (W : Nat), .int .i64 (H : Nat), .slice oa m cp] 26)).alloc (.cells #[.int .i64 0, .int .i64 0, .slice none 0 0] 26) → Bk W1 w.heap.size #[.int .i64 (W : Nat), .int .i64 (H : Nat), .slice oa m cp] 26 ∧ Bk W1 (w.heap.size + 1) #[.int .i64 0, .int .i64 0, .slice none 0 0] 26 ∧ Below w.heap.size w W1) := fun W1 hW => by
    have k2 := Bk.new (w.alloc (.cells #[.int .i64 (W : Nat), .int .i64 (H : Nat), .slice oa m cp] 26)) #[.int .i64 0, .int .i64 0, .slice none 0 0] 26
    simp only [World.size_alloc] at k2
    subst hW
    exact ⟨(Bk.new w _ _).below ((Below.refl _ _).alloc (Nat.le_refl _) _), k2, ((Below.refl _ w).alloc (Nat.le_refl _) _).alloc (by simp) _⟩
  have hqI : decide ((1048576 : Int) < (q.size : Int)) = false := by simp; omega
  clear hv hn hE K T D hs hlen hl0 s1 s2 s3 s4 s5
  go_enter Tryz.func25, Tryz.ntmps25
  go_wp2_with fail
  obtain ⟨W1, hW1⟩ : ∃ W1, W1 = (w.alloc (.cells #[.int .i64 (W : Nat), .int .i64 (H : Nat), .slice oa m cp] 26)).alloc (.cells #[.int .i64 0, .int .i64 0, .slice none 0 0] 26) := ⟨_, rfl⟩
  obtain ⟨sb, hsb⟩ : ∃ sb, sb = w.heap.size := ⟨_, rfl⟩
  have H1 : Hid (Bk W1 sb #[.int .i64 (W : Nat), .int .i64 (H : Nat), .slice oa m cp] 26 ∧ Bk W1 (sb + 1) #[.int .i64 0, .int .i64 0, .slice none 0 0] 26 ∧ Below w.heap.size w W1) := by rw [hsb]; exact H0.out W1 hW1
  have HSb : Hid (w.heap.size ≤ sb) := by rw [hsb]; exact Nat.le_refl _
  rw [← hW1, ← hsb]
  clear hW1 hsb H0
  refine (HC.out _ H1.out.2.2).mono ?_
  rintro e W2 ⟨rfl, hb2⟩
  have H2 : Hid (Bk W2 sb #[.int .i64 (W : Nat), .int .i64 (H : Nat), .slice oa m cp] 26 ∧ Bk W2 (sb + 1) #[.int .i64 0, .int .i64 0, .slice none 0 0] 26 ∧ Below w.heap.size w W2) := ⟨H1.out.1.below hb2, H1.out.2.1.below hb2, H1.out.2.2.trans (hb2.mono H1.out.2.2.size)⟩
  obtain ⟨x0, x1, x2⟩ := Bk.at3S H2.out.1
  clear hb2 H1 HC
  go_wp2_with fail
  refine (HCo.out _ H2.out.2.2).mono ?_
  rintro e W3 ⟨u, rfl, hu⟩
  obtain ⟨gu, cu, rfl, hsm⟩ := hu.out.1.scm HLen.out.2
  obtain ⟨n, hnn⟩ : ∃ n, n = l.length := ⟨_, rfl⟩
  rw [← hnn] at hsm ⊢
  have HNn : Hid ((n : Int) = W * H) := by rw [hnn]; exact HLen.out.1
  obtain ⟨lo, hlo⟩ : ∃ lo, lo = W2.heap.size := ⟨_, rfl⟩
  have H3 : Hid (∀ W4, W4 = W3.alloc (.cells (rdC W H gu n cu 0 0 coZ coZ) 103) → RdS lo W3.heap.size W H gu n cu ⟨0, 0, coZ, coZ, l⟩ W4 ∧ Below lo W2 W4) := fun W4 hW => by
    rw [hlo]
    subst hW
    have hb3 := hu.out.2
    exact ⟨⟨Bk.new _ _ _, hsm.below ((Below.refl _ _).alloc (Nat.le_refl _) _), by have := hsm.lt.2; omega, hb3.size, by simp; have := hb3.size; omega⟩, hb3.alloc hb3.size _⟩
  have HLo : Hid (w.heap.size ≤ lo ∧ sb + 1 < lo ∧ Below w.heap.size w W2) := by rw [hlo]; exact ⟨H2.out.2.2.size, H2.out.2.1.lt, H2.out.2.2⟩
  have HRb : Hid (∀ W4, Below lo W2 W4 → Bk W4 (sb + 1) #[.int .i64 0, .int .i64 0, .slice none 0 0] 26) := fun W4 h => by
    rw [hlo] at h
    exact H2.out.2.1.below h
  clear hu hsm hnn H2 x0 x1 x2 hlo HCo
  go_wp2_with fail
  obtain ⟨W4, hW4⟩ : ∃ W4, W4 = W3.alloc (.cells (rdC W H gu n cu 0 0 coZ coZ) 103) := ⟨_, rfl⟩
  obtain ⟨b, hb⟩ : ∃ b, b = W3.heap.size := ⟨_, rfl⟩
  have H4 : Hid (RdS lo b W H gu n cu ⟨0, 0, coZ, coZ, l⟩ W4 ∧ Below lo W2 W4) := by rw [hb]; exact H3.out W4 hW4
  rw [show W3.alloc (.cells #[.int .i64 (W : Nat), .int .i64 (H : Nat), .slice (some ⟨gu, 0, none⟩) n cu, .int .i64 0, .int .i64 0, .int .u8 0, .int .u8 0, .int .u8 0, .int .u8 0, .int .u8 0, .int .u8 0, .int .u8 0, .int .u8 0] 103) = W4 from hW4.symm, ← hb]
  clear hW4 hb H3
  go_loopw [9] (fun i wr => ∃ (p : Nat) (s : Stt), p ≤ q.size ∧ i = .int .i64 p ∧ Hid (I p s ∧ RdS lo b W H gu n cu s wr ∧ Below lo W2 wr)) (fun i _ => q.size - (RowKit.intOf i).toNat)
  case atStart => exact ⟨0, _, Nat.zero_le _, rfl, HK.out.st, H4.out.1, H4.out.2⟩
  case round =>
    obtain ⟨p, s, hp, rfl, HR⟩ := hrel
    clear H4
    have hbw : Below w.heap.size w wr := HLo.out.2.2.trans (HR.out.2.2.mono HLo.out.1)
    by_cases hlt : p < q.size
    · have ip : (p : Int) < q.size := by omega
      have ip2 : (p : Int) ≤ q.size := by omega
      rcases HK.out.go p s HR.out.1 hlt with ⟨z, t, hz0, hz1, hst, hI⟩ | ⟨hbad, hpF, hno⟩
      · have HT : Hid (Calls Tryz.prog 53 #[.pointer (some ⟨b, 0, none⟩), .string (q.extract p q.size)] wr fun e w' => e = .returned (.int .i64 (z : Nat)) ∧ RdS lo b W H gu n cu t w' ∧ Below lo wr w') := HTh.out lo b gu n cu s t p z wr HR.out.2.1 HNn.out hbw hlt hst
        have HI : Hid (I (p + z) t) := hI
        have hzz : ((z : Int) == 0) = false := by simp; omega
        clear hst hI
        go_wp2_with fail
        refine HT.out.mono ?_
        rintro e W6 ⟨rfl, h6, h7⟩
        have H6 : Hid (I (p + z) t ∧ RdS lo b W H gu n cu t W6 ∧ Below lo W2 W6) := ⟨HI.out, h6, HR.out.2.2.trans h7⟩
        clear h6 h7 HT HI HR hbw
        go_wp2
        exact ⟨⟨p + z, t, hz1, by go_num, H6⟩, by simp [RowKit.intOf]; omega⟩
      · have HT : Hid (Calls Tryz.prog 53 #[.pointer (some ⟨b, 0, none⟩), .string (q.extract p q.size)] wr fun e w' => e = .returned (.int .i64 0) ∧ Below lo wr w') := HNo.out lo b gu n cu s p wr HR.out.2.1 hbw hlt hno
        have HB : Hid (bad = true ∧ p = pF) := ⟨hbad, hpF⟩
        clear hno hbad hpF
        go_wp2_with fail
        refine HT.out.mono ?_
        rintro e W6 ⟨rfl, h7⟩
        have h8 := HR.out.2.2.trans h7
        have H6 : Hid (Bk W6 (sb + 1) #[.int .i64 0, .int .i64 0, .slice none 0 0] 26 ∧ Below w.heap.size w W6) := ⟨HRb.out _ h8, HLo.out.2.2.trans (h8.mono HLo.out.1)⟩
        clear h7 h8 HT HR hbw
        go_wp2_with (refine wpList_store_row rfl 26 (.tmp 4) (.tmp 34) rfl (sb + 1) #[.int .i64 0, .int .i64 0, .slice none 0 0] rfl rfl 26 _ H6.out.1 scr_size3 rfl (by simp [Value.oneCell']) ?_)
        obtain ⟨W7, hW7⟩ : ∃ W7, W7 = W6.setRow (sb + 1) #[.int .i64 0, .int .i64 0, .slice none 0 0] := ⟨_, rfl⟩
        have H7 : Hid (Bk W7 (sb + 1) #[.int .i64 0, .int .i64 0, .slice none 0 0] 26 ∧ Below w.heap.size w W7) := by rw [hW7]; exact ⟨setRow_heap W6 (sb + 1) _ _ 26 _ H6.out.1, below_setRow H6.out.2 (by have := HSb.out; omega) _⟩
        rw [← hW7]
        clear hW7 H6
        go_wp2_with fail
        have hld : (loadVar 26 ⟨sb + 1, 0, none⟩).run Tryz.prog W7 = .ok (.agg #[.int .i64 0, .int .i64 0, .slice none 0 0]) W7 := run_loadVar_row W7 (sb + 1) 26 26 _ _ _ H7.out.1 Tryz.underlying26 rfl scr_size3
        refine bodyPost_ret (v := .tuple #[.agg #[.int .i64 0, .int .i64 0, .slice none 0 0], .int .i64 (p : Nat), .int .i64 150]) ?_ rfl (.inr ⟨HB.out.1, by rw [HB.out.2], H7.out.2⟩)
        simp [results, Tryz.results25, asAddr, hld]
    · obtain rfl : p = q.size := by omega
      have HE : Hid (bad = false ∧ s.L = LF) := HK.out.en s HR.out.1
      have H6 : Hid (Bk wr (sb + 1) #[.int .i64 0, .int .i64 0, .slice none 0 0] 26 ∧ Below w.heap.size w wr ∧ ScM w.heap.size wr gu n cu LF) := by
        refine ⟨HRb.out _ HR.out.2.2, hbw, ?_⟩
        rw [← HE.out.2]
        exact ⟨HR.out.2.1.sc.1, row_weaken HR.out.2.1.sc.2 HLo.out.1⟩
      have r0 : wr.cell? ⟨b, 0, none⟩ = some (.int .i64 (W : Nat)) := HR.out.2.1.bk.cell 0
      have r1 : wr.cell? ⟨b, 1, none⟩ = some (.int .i64 (H : Nat)) := HR.out.2.1.bk.cell 1
      have r2 : wr.cell? ⟨b, 2, none⟩ = some (.slice (some ⟨gu, 0, none⟩) n cu) := HR.out.2.1.bk.cell 2
      have hgb : gu ≠ sb + 1 := by have h1 := HR.out.2.1.sc.lt.1; have h2 := HLo.out.2.1; omega
      clear HR hbw
      go_wp2_with (refine wpList_store_row rfl 26 (.tmp 4) (.tmp 40) rfl (sb + 1) #[.int .i64 (W : Nat), .int .i64 (H : Nat), .slice (some ⟨gu, 0, none⟩) n cu] rfl rfl 26 _ H6.out.1 scr_size3 rfl (by simp [Value.oneCell']) ?_)
      obtain ⟨W7, hW7⟩ : ∃ W7, W7 = wr.setRow (sb + 1) #[.int .i64 (W : Nat), .int .i64 (H : Nat), .slice (some ⟨gu, 0, none⟩) n cu] := ⟨_, rfl⟩
      have H7 : Hid (Bk W7 (sb + 1) #[.int .i64 (W : Nat), .int .i64 (H : Nat), .slice (some ⟨gu, 0, none⟩) n cu] 26 ∧ Below w.heap.size w W7 ∧ ScM w.heap.size W7 gu n cu LF) := by
        rw [hW7]
        refine ⟨setRow_heap wr (sb + 1) _ _ 26 _ H6.out.1, below_setRow H6.out.2.1 (by have := HSb.out; omega) _, H6.out.2.2.1, ?_⟩
        exact World.ownsRow.kept (row := some (sb + 1)) H6.out.2.2.2 ⟨rfl, rfl, rfl, by simp, fun k _ hk => setRow_other _ _ _ _ (fun e => hk (by simp [e]))⟩ (.inr (fun e => hgb (by injection e)))
      rw [← hW7]
      clear hW7 H6 r0 r1 r2
      go_wp2_with fail
      have hld : (loadVar 26 ⟨sb + 1, 0, none⟩).run Tryz.prog W7 = .ok (.agg #[.int .i64 (W : Nat), .int .i64 (H : Nat), .slice (some ⟨gu, 0, none⟩) n cu]) W7 := run_loadVar_row W7 (sb + 1) 26 26 _ _ _ H7.out.1 Tryz.underlying26 rfl scr_size3
      refine bodyPost_ret (v := .tuple #[.agg #[.int .i64 (W : Nat), .int .i64 (H : Nat), .slice (some ⟨gu, 0, none⟩) n cu], .int .i64 0, .int .i64 0]) ?_ rfl (.inl ⟨HE.out.1, gu, n, cu, rfl, H7.out.2.2, H7.out.2.1⟩)
      simp [results, Tryz.results25, asAddr, hld]

end Go.Proofs.YtapachlhdgehjaaGreatDoor

/-
  The screens and texts of awake, in plain words.
-/
namespace Go.Proofs.YtapachlhdgehjaaGreatDoor
open Go.RowKit

def wht : Co := ⟨255, 255, 255, 255⟩
def st1 : St := ⟨3, ⟨1, 0, 2, 2⟩, wht, coZ, ⟨#[97, 98, 10, 99]⟩, 0⟩
def st2 : St := ⟨3, ⟨3, 0, 1, 1⟩, wht, coZ, ⟨#[228, 184, 128, 120]⟩, 0⟩
def bl0 : Ce := ⟨32, coZ, coZ, false, false⟩
def A8 : List Ce := [bl0, ⟨97, wht, coZ, false, false⟩, ⟨98, wht, coZ, false, false⟩, bl0, bl0, ⟨99, wht, coZ, false, false⟩, bl0, bl0]
def S8 : List Ce := [bl0, bl0, bl0, bl0, bl0, bl0, bl0, bl0]
theorem a8_eq : drwS 4 S8 (flaL [st1]) = A8 := by decide +kernel
theorem b8_eq : (drwS 4 S8 (flaL [st2])).length = 8 ∧ ((drwS 4 S8 (flaL [st2])).getD 3 ceZ).wd = true ∧ ((drwS 4 S8 (flaL [st2])).getD 3 ceZ).r = 19968 := by decide +kernel
theorem s8_ok : scE 4 2 S8 = 0 := by decide +kernel
theorem a8_ok : scE 4 2 A8 = 0 := by decide +kernel
theorem t8_eq : (⟨(txtB 4 A8 2).toArray⟩ : ByteArray) = ⟨#[32, 97, 98, 32, 10, 32, 99, 32, 32, 10]⟩ := by decide +kernel
theorem chk1 : chkS [st1] = 0 ∧ chkS [st2] = 0 := by decide +kernel
def ru1 : Ru := ⟨1, 0, [⟨97, wht, coZ, false, false⟩, ⟨98, wht, coZ, false, false⟩]⟩
def ru2 : Ru := ⟨1, 1, [⟨99, wht, coZ, false, false⟩]⟩
theorem rn_eq : rnL 4 S8 A8 2 = [ru1, ru2] := rfl
def x8 : ByteArray := ⟨#[27, 91, 49, 59, 50, 72, 27, 91, 51, 56, 59, 50, 59, 50, 53, 53, 59, 50, 53, 53, 59, 50, 53, 53, 59, 50, 53, 53, 109, 97, 98, 27, 91, 50, 59, 50, 72, 99]⟩
theorem x8_eq : (⟨(escS [ru1, ru2] (coZ, coZ) 2).1.toArray⟩ : ByteArray) = x8 := by decide +kernel
theorem x8_len : (escS [ru1, ru2] (coZ, coZ) 2).1.length ≤ 1048576 := by decide +kernel

end Go.Proofs.YtapachlhdgehjaaGreatDoor

/-
  The calls of awake: contracts at its screens and texts.
-/
namespace Go.Proofs.YtapachlhdgehjaaGreatDoor
open Go.RowKit

structure AwW (w : World) (wB sB gs : Nat) (W : World) : Prop where
  wb : Bk W wB #[.int .u8 255, .int .u8 255, .int .u8 255, .int .u8 255] 38
  sb : Bk W sB #[.int .i64 4, .int .i64 2, .slice (some ⟨gs, 0, none⟩) 8 8] 26
  s : Bk W gs (flatC S8).toArray 65
  lo : Below w.heap.size w W
theorem AwW.below {w : World} {wB sB gs : Nat} {W W' : World} (h : AwW w wB sB gs W) (hb : Below W.heap.size W W') : AwW w wB sB gs W' := ⟨h.wb.below hb, h.sb.below hb, h.s.below hb, h.lo.trans (hb.mono h.lo.size)⟩
theorem flatC_bk {W : World} {g : Nat} {L : List Ce} (h : Bk W g (flatC L).toArray 65) : LsC W (.slice (some ⟨g, 0, none⟩) L.length L.length) L := by
  refine ⟨_, L.length, rfl, Nat.le_refl _, fun _ => ⟨g, 0, rfl, h.lt, fun i hi => ?_⟩⟩
  rw [ceat_iff]
  intro j hj
  rw [Nat.zero_add, h.cell, List.getElem?_toArray, flatC_at L i hi j hj]
structure Env15 (w : World) : Prop where
  t : ∀ W, Below w.heap.size w W → TbD W
  d : TabC w
  p : PwC w.heap.size w
theorem Env15.below {w W : World} (h : Env15 w) (hb : Below w.heap.size w W) : Env15 W := ⟨fun W' h' => h.t W' (hb.trans (h'.mono hb.size)), h.d.below hb, (h.p.on hb).mono hb.size⟩

theorem aw_bk15 {W : World} {b : Nat} {s : St} {t : TypeId} (h : Bk W b (#[.int .u8 s.k, .int .i64 s.r.x, .int .i64 s.r.y, .int .i64 s.r.w, .int .i64 s.r.h, .int .u8 s.c.r, .int .u8 s.c.g, .int .u8 s.c.b, .int .u8 s.c.a, .int .u8 s.b.r, .int .u8 s.b.g, .int .u8 s.b.b, .int .u8 s.b.a, .string s.t, .int .i64 s.n]) t) : StAt W b 0 s := by
  rw [stat_iff]
  intro j hj
  rw [Nat.zero_add, h.cell]
  show (sCel s).toArray[j]? = _
  rw [List.getElem?_toArray]
theorem aw_xys {l : List St} (h : Wfs l) : Xys l := fun s hs => ⟨(h s hs).2.1.1, (h s hs).2.1.2.1⟩
theorem st_wf : Wfs [st1] ∧ Wfs [st2] := by
  constructor <;> intro s hs <;> rw [List.mem_singleton] at hs <;> subst hs <;> exact ⟨⟨by decide, by decide⟩, ⟨⟨by decide, by decide⟩, ⟨by decide, by decide⟩, ⟨by decide, by decide⟩, ⟨by decide, by decide⟩⟩, ⟨⟨by decide, by decide⟩, ⟨by decide, by decide⟩, ⟨by decide, by decide⟩, ⟨by decide, by decide⟩⟩, ⟨⟨by decide, by decide⟩, ⟨by decide, by decide⟩, ⟨by decide, by decide⟩, ⟨by decide, by decide⟩⟩, by decide, ⟨by decide, by decide⟩⟩
theorem s8_wf : WfC S8 := by
  intro c hc
  have : c = bl0 := by simpa [S8] using hc
  subst this
  exact ⟨⟨⟨by decide, by decide⟩, ⟨by decide, by decide⟩, ⟨by decide, by decide⟩, ⟨by decide, by decide⟩⟩, ⟨⟨by decide, by decide⟩, ⟨by decide, by decide⟩, ⟨by decide, by decide⟩, ⟨by decide, by decide⟩⟩⟩

theorem awBlank (W : World) : Calls Tryz.prog 17 #[.agg #[.int .i64 4, .int .i64 2], .agg #[.int .u8 0, .int .u8 0, .int .u8 0, .int .u8 0]] W fun e w' => ∃ g, e = .returned (.tuple #[.agg #[.int .i64 4, .int .i64 2, .slice (some ⟨g, 0, none⟩) 8 8], .int .i64 0]) ∧ W.heap.size ≤ g ∧ Bk w' g (flatC S8).toArray 65 ∧ Below W.heap.size W w' :=
  blank_ok 4 2 coZ 8 W (by decide) (by decide)
theorem awDraw (st : St) (hst : Wfs [st]) (hk : chkS [st] = 0) (w : World) (wB sB gs gx : Nat) (W : World) (hE : Env15 w) (h : AwW w wB sB gs W) (hx : Bk W gx (#[.int .u8 st.k, .int .i64 st.r.x, .int .i64 st.r.y, .int .i64 st.r.w, .int .i64 st.r.h, .int .u8 st.c.r, .int .u8 st.c.g, .int .u8 st.c.b, .int .u8 st.c.a, .int .u8 st.b.r, .int .u8 st.b.g, .int .u8 st.b.b, .int .u8 st.b.a, .string st.t, .int .i64 st.n]) 55) :
    Calls Tryz.prog 8 #[.agg #[.int .i64 4, .int .i64 2, .slice (some ⟨gs, 0, none⟩) 8 8], .slice (some ⟨gx, 0, none⟩) 1 1] W fun e w' => ∃ ga ca, e = .returned (.tuple #[.agg #[.int .i64 4, .int .i64 2, .slice (some ⟨ga, 0, none⟩) 8 ca], .int .i64 0]) ∧ Hid (LsC w' (.slice (some ⟨ga, 0, none⟩) 8 ca) (drwS 4 S8 (flaL [st])) ∧ Below W.heap.size W w') := by
  have hl : LsS W (.slice (some ⟨gx, 0, none⟩) 1 1) [st] := by
    refine ⟨_, 1, rfl, Nat.le_refl _, fun _ => ⟨gx, 0, rfl, hx.lt, fun i hi => ?_⟩⟩
    obtain rfl : i = 0 := by simpa using hi
    exact aw_bk15 hx
  refine (dDraw_ok frame_any 4 2 S8 (.slice (some ⟨gs, 0, none⟩) 8 8) [st] _ W (flatC_bk h.s) (fun c e => by cases e) (by decide) rfl (by decide +kernel) hl hst.txs (aw_xys hst) hk s8_wf (fun s hs => ⟨(hst s hs).2.2.1, (hst s hs).2.2.2.1⟩) (hE.t W h.lo).1 (fun W' h' => hE.t W' (h.lo.trans (h'.mono h.lo.size)))).mono ?_
  rintro e w' ⟨u, rfl, hu⟩
  have hlen : (drwS 4 S8 (flaL [st])).length = 8 := by rw [drwS_len]; rfl
  obtain ⟨ga, ca, rfl, hsm⟩ := hu.out.1.scm (by rw [hlen]; decide)
  rw [hlen] at hsm ⊢
  exact ⟨ga, ca, rfl, hsm.own.lsc, hu.out.2⟩

end Go.Proofs.YtapachlhdgehjaaGreatDoor

/-
  A screen that came in, written out; what the listed variables give: the tables of runes, the runes of frames, the library's numbers and its decoder's tables.
-/
namespace Go.Proofs.YtapachlhdgehjaaGreatDoor
open Go.ChangeShapes Go.WideShapes Go.ChangeAt Go.RowKit Go.Joins Go.Lib

theorem own_w : ownKnob Tryz.prog.godebug = none := by kernel_rfl
theorem laid_w : laidOutB Tryz.prog = true := by kernel_rfl
theorem cells_ce : Tryz.prog.cellsOf 65 = 11 := by kernel_rfl
theorem cells_scr : Tryz.prog.cellsOf 26 = 3 := by kernel_rfl
theorem cells_lc : Tryz.prog.cellsOf 24 = 1 := by kernel_rfl
theorem cells_i32 : Tryz.prog.cellsOf 21 = 1 := by kernel_rfl
theorem cells_bo : Tryz.prog.cellsOf 4 = 1 := by kernel_rfl
theorem trod_struct5c {H : Type} {enc : TypeId × Value → H} {P : Program} {w : World} {base : Nat} {spare : Nat → Bool} {held : Bool} {t : TypeId} {f0 f1 f2 f3 f4 : Field} {fuel : Nat} {cs : List Value} {x : DataW H × List MemPlace} (ht : P.underlying t = some (.struct #[f0, f1, f2, f3, f4])) (h : DataW.trod enc P w base spare held fuel t cs = some x) :
    ∃ y0 y1 y2 y3 y4 n, cs.length = P.cellsOf t ∧ DataW.trod enc P w base spare held n f0.type ((cs.drop f0.offset).take (P.cellsOf f0.type)) = some y0 ∧
      DataW.trod enc P w base spare held n f1.type ((cs.drop f1.offset).take (P.cellsOf f1.type)) = some y1 ∧ DataW.trod enc P w base spare held n f2.type ((cs.drop f2.offset).take (P.cellsOf f2.type)) = some y2 ∧
      DataW.trod enc P w base spare held n f3.type ((cs.drop f3.offset).take (P.cellsOf f3.type)) = some y3 ∧ DataW.trod enc P w base spare held n f4.type ((cs.drop f4.offset).take (P.cellsOf f4.type)) = some y4 := by
  obtain ⟨xs, n, _, rfl, hl, hlen, hf⟩ := DataW.trod_struct ht h
  match xs, hlen with
  | [y0, y1, y2, y3, y4], _ => exact ⟨y0, y1, y2, y3, y4, n, hl, by simpa using hf 0 f0 rfl, by simpa using hf 1 f1 rfl, by simpa using hf 2 f2 rfl, by simpa using hf 3 f3 rfl, by simpa using hf 4 f4 rfl⟩
set_option maxRecDepth 100000 in
theorem ce_cells {H : Type} {enc : TypeId × Value → H} {W : World} {b : Nat} {sp : Nat → Bool} {held : Bool} {fuel : Nat} {cs : List Value} {x : DataW H × List MemPlace} (h : DataW.trod enc Tryz.prog W b sp held fuel 65 cs = some x) :
    ∃ c : Ce, cs = cCel c ∧ c.c.ok ∧ c.b.ok := by
  obtain ⟨y0, y1, y2, y3, y4, n, hl, h0, h1, h2, h3, h4⟩ := trod_struct5c Tryz.underlying65 h
  rw [cells_ce] at hl
  match cs, hl with
  | [c0, c1, c2, c3, c4, c5, c6, c7, c8, c9, c10], _ =>
    simp [cells_i32, cells_c, cells_bo] at h0 h1 h2 h3 h4
    obtain ⟨a0, e0, _, w0⟩ := DataW.trod_int Tryz.underlying21 h0
    obtain ⟨c, d0, d1, d2, d3, okc⟩ := colZ_cells h1
    obtain ⟨k, f0, f1, f2, f3, okk⟩ := colZ_cells h2
    obtain ⟨p, ep, _⟩ := DataW.trod_bool Tryz.underlying4 h3
    obtain ⟨q, eq, _⟩ := DataW.trod_bool Tryz.underlying4 h4
    simp at e0 ep eq
    refine ⟨⟨a0, c, k, p, q⟩, ?_, okc, okk⟩
    rw [e0, d0, d1, d2, d3, f0, f1, f2, f3, ep, eq]
    rfl
theorem ces_of {W : World} {g o : Nat} : ∀ (n : Nat), (∀ i, i < n → ∃ s : Ce, CeAt W g (o + i * 11) s ∧ s.c.ok ∧ s.b.ok) → ∃ l : List Ce, l.length = n ∧ (∀ i (h : i < l.length), CeAt W g (o + i * 11) l[i]) ∧ WfC l
  | 0, _ => ⟨[], rfl, fun i h => absurd h (Nat.not_lt_zero i), fun r hr => by simp at hr⟩
  | n + 1, h => by
    obtain ⟨rs, hl, ha, hw⟩ := ces_of n fun i hi => h i (by omega)
    obtain ⟨r, hr, hz⟩ := h n (by omega)
    refine ⟨rs ++ [r], by simp [hl], fun i hi => ?_, fun x hx => ?_⟩
    · by_cases e : i < rs.length
      · rw [List.getElem_append_left e]; exact ha i e
      · have : i = n := by simp at hi; omega
        subst this
        subst hl
        rw [List.getElem_concat_length rfl]
        exact hr
    · rcases List.mem_append.1 hx with hx | hx
      · exact hw x hx
      · simp at hx; subst hx; exact hz
set_option maxRecDepth 100000 in
theorem open_ces {H : Type} {enc : TypeId × Value → H} {W : World} {b : Nat} {sp : Nat → Bool} {held : Bool} {fuel : Nat} {v : Value} {x : DataW H × List MemPlace}
    (hf : DataW.trod enc Tryz.prog W b sp held fuel 24 [v] = some x) : ∃ l : List Ce, LsC W v l ∧ WfC l ∧ NoNil v := by
  rcases DataW.trod_slice Tryz.underlying24 hf with ⟨he, _⟩ | ⟨a, len, cap, el, rest, n, _, he, _, _, hlc, hcm, hel, hat, _, _⟩
  · simp at he
    subst he
    exact ⟨[], ⟨none, 0, rfl, Nat.le_refl _, fun h => by simp at h⟩, fun r hr => by simp at hr, fun c hc => by injection hc with _ _ h; exact h.symm⟩
  · simp at he
    subst he
    have hnn : NoNil (.slice (some a) len cap) := fun c hc => by injection hc with h1 _ _; cases h1
    rw [cells_ce] at hat
    obtain ⟨g, o, s⟩ := a
    have key : ∀ i, i < len → ∃ r : Ce, (∀ j, j < 11 → W.cell? ((Addr.mk g o s).add (i * 11) |>.add j) = (cCel r)[j]?) ∧ r.c.ok ∧ r.b.ok := by
      intro i hi
      have h1 := hat i hi
      obtain ⟨bb, hb⟩ : ∃ bb, el[i]? = some bb := ⟨el[i]'(by omega), List.getElem?_eq_getElem (by omega)⟩
      rw [hb] at h1
      obtain ⟨ce, hce, hte⟩ := Option.bind_eq_some_iff.1 h1
      obtain ⟨r, hr, hw⟩ := ce_cells hte
      obtain ⟨_, _, hcc⟩ := World.cells?_some hce
      exact ⟨r, fun j hj => by rw [hcc j hj, hr], hw⟩
    by_cases h0 : len = 0
    · subst h0
      exact ⟨[], ⟨_, cap, rfl, Nat.zero_le _, fun h => by simp at h⟩, fun r hr => by simp at hr, hnn⟩
    obtain rfl : s = none := by
      obtain ⟨r, hr, _⟩ := key 0 (by omega)
      have h00 := hr 0 (by omega)
      have : (Addr.add (Addr.add ⟨g, o, s⟩ (0 * 11)) 0) = ⟨g, o, s⟩ := by simp [Addr.add]
      rw [this] at h00
      exact Go.Proofs.cell_spot h00
    obtain ⟨rs, hl, ha, hw⟩ := ces_of (W := W) (g := g) (o := o) len fun i hi => by
      obtain ⟨r, hr, hz⟩ := key i hi
      have e := fun j hj => hr j hj
      simp only [Addr.add_lit] at e
      exact ⟨r, ceat_iff.2 e, hz⟩
    subst hl
    have hg : g < W.heap.size := by
      have h1 := (ha 0 (by omega)).1
      rcases Nat.lt_or_ge g W.heap.size with h' | h'
      · exact h'
      · simp [World.cell?, Array.getElem?_eq_none h'] at h1
    exact ⟨rs, ⟨_, cap, rfl, hlc, fun _ => ⟨g, o, rfl, hg, ha⟩⟩, hw, hnn⟩
set_option maxRecDepth 100000 in
theorem open_screen {H : Type} {enc : TypeId × Value → H} {W : World} {base b : Nat} {sp : Nat → Bool} {held : Bool} {v : Value} {d : DataW H} {p : List MemPlace}
    (hv : Value.okWide Tryz.prog W .any base 26 v) (h : DataW.Trod enc Tryz.prog W b sp held 26 v d p) : ∃ (x y : Int) (L : List Ce) (u : Value), v = .agg #[.int .i64 x, .int .i64 y, u] ∧ LsC W u L ∧ WfC L ∧ NoNil u := by
  obtain ⟨cs, rfl, hsz⟩ := okWide_struct Tryz.underlying26 hv
  obtain ⟨c0, c1, c2, rfl⟩ := array3 (hsz.trans cells_scr)
  obtain ⟨fuel, hf⟩ := h
  obtain ⟨y0, y1, n, _, hl, h0, h1⟩ := trod_struct2 Tryz.underlying26 hf
  simp [Value.cells, cells_s, cells_lc] at h0 h1
  obtain ⟨y00, y01, n0, _, _, h00, h01⟩ := trod_struct2 Tryz.underlying23 h0
  simp [cells_i] at h00 h01
  obtain ⟨a0, e0, _, w0⟩ := DataW.trod_int Tryz.underlying3 h00
  obtain ⟨a1, e1, _, w1⟩ := DataW.trod_int Tryz.underlying3 h01
  simp at e0 e1
  subst e0 e1
  obtain ⟨l, k1, k2, k3⟩ := open_ces h1
  exact ⟨a0, a1, l, c2, rfl, k1, k2, k3⟩

def spanData (xs : List (Int × Int)) : DataW Unit := .slice (xs.map fun x => .agg ([x.1, x.2].map fun z => .lit (.int .i32 z))) []
theorem marks_eq : Rows.laid_casement_runes_marks (H := Unit) = spanData marksL := by kernel_rfl
theorem wides_eq : Rows.laid_casement_runes_wides (H := Unit) = spanData widesL := by kernel_rfl
theorem c_span : Tryz.prog.cellsOf 260 = 2 := by kernel_rfl
theorem c_i32 : Tryz.prog.cellsOf 21 = 1 := by kernel_rfl

theorem spans_of_reads {name : String} {g : Nat} (hn : Tryz.prog.globalNamed name = some g) (hy : (Tryz.prog.globals[g]?).map (·.type) = some 258) {xs : List (Int × Int)} (h0 : xs ≠ []) {w : World} (h : VarReads Tryz.prog w name (spanData xs)) : Spans w g xs := by
  obtain ⟨g', t, cs, fuel, p, hg, hty, hvar, hd⟩ := h
  obtain rfl := Option.some.inj (hn.symm.trans hg)
  obtain rfl := Option.some.inj (hy.symm.trans hty)
  rcases DataW.trod_slice Tryz.underlying258 hd with ⟨_, hx⟩ | ⟨a, len, cap, el, rs, m, rfl, hcs, hx, _, hlc, _, hel, helem, _, _⟩
  · cases hx
  · have eE : el.map (·.1) = xs.map fun x => (.agg ([x.1, x.2].map fun z => .lit (.int .i32 z)) : DataW Unit) := by
      have := congrArg Prod.fst hx
      simp only [spanData, DataW.slice.injEq] at this
      exact this.1.symm
    have hlen : len = xs.length := by
      have := congrArg List.length eE
      simp at this
      omega
    subst hlen
    have hrange : ∀ i (hi : i < xs.length), ∀ j, j < 2 → w.cell? ((a.add (i * 2)).add j) = ([.int .i32 xs[i].1, .int .i32 xs[i].2] : List Value)[j]? := by
      intro i hi j hj
      have h1 := helem i hi
      rw [c_span] at h1
      obtain ⟨b, hb⟩ : ∃ b, el[i]? = some b := ⟨el[i]'(by omega), List.getElem?_eq_getElem (by omega)⟩
      rw [hb] at h1
      obtain ⟨ce, hce, hte⟩ := Option.bind_eq_some_iff.1 h1
      have hb1 : b.1 = .agg ([xs[i].1, xs[i].2].map fun z => .lit (.int .i32 z)) := by
        have := congrArg (·[i]?) eE
        simpa [hb, hi] using this
      have hcs2 := ints_of_struct (p := b.2) Tryz.underlying260 (fun q f hq => by
        match q, hq with
        | 0, hq => simp at hq; subst hq; exact ⟨Tryz.underlying21, rfl, c_i32⟩
        | 1, hq => simp at hq; subst hq; exact ⟨Tryz.underlying21, rfl, c_i32⟩
        | q + 2, hq => simp at hq) (by rw [c_span]; rfl) (by rw [← hb1]; exact hte)
      obtain ⟨_, _, hcc⟩ := World.cells?_some hce
      rw [hcc j hj, hcs2]
      rfl
    obtain ⟨R, o, sR⟩ := a
    have hpos : 0 < xs.length := by
      cases xs with
      | nil => exact absurd rfl h0
      | cons _ _ => simp
    obtain rfl : sR = none := by
      have h00 := hrange 0 hpos 0 (by omega)
      have : (Addr.add (Addr.add ⟨R, o, sR⟩ (0 * 2)) 0) = ⟨R, o, sR⟩ := by simp [Addr.add]
      rw [this] at h00
      exact cell_spot h00
    refine ⟨R, o, cap, ?_, hlc, fun i hi => ?_⟩
    · rw [World.var?_cell hg hvar 0, ← Array.getElem?_toList, hcs]
      rfl
    · have k0 := hrange i hi 0 (by omega)
      have k1 := hrange i hi 1 (by omega)
      rw [Addr.add_lit, Addr.add_lit] at k0 k1
      exact ⟨by simpa using k0, by simpa using k1⟩

set_option maxRecDepth 100000 in
theorem c_box4 : Tryz.prog.cellsOf 207 = 4 := by kernel_rfl
set_option maxRecDepth 100000 in
theorem box_of {W : World} (h : VarReads Tryz.prog W "casement/cells.box" (Rows.laid_casement_cells_box (H := Unit))) : ∀ i j : Nat, i < 4 → j < 4 → W.cell? ⟨1, i * 4 + j, none⟩ = some (.int .i32 (([0, 9474, 9474, 9474, 9472, 9484, 9488, 9474, 9472, 9492, 9496, 9474, 9472, 9472, 9472, 9633] : List Int).getD (i * 4 + j) 0)) := by
  obtain ⟨g', t, cs, fuel, p, hg, hty, hvar, hd⟩ := h
  obtain rfl := Option.some.inj ((show Tryz.prog.globalNamed "casement/cells.box" = some 1 by kernel_rfl).symm.trans hg)
  obtain rfl := Option.some.inj ((show (Tryz.prog.globals[1]?).map (·.type) = some 208 by kernel_rfl).symm.trans hty)
  obtain ⟨xs, m, rfl, hx, hl, hn, hf⟩ := DataW.trod_array Tryz.underlying208 hd
  match xs, hn with
  | [x0, x1, x2, x3], _ =>
    obtain ⟨x0, p0⟩ := x0
    obtain ⟨x1, p1⟩ := x1
    obtain ⟨x2, p2⟩ := x2
    obtain ⟨x3, p3⟩ := x3
    have hx1 := congrArg Prod.fst hx
    simp only [Rows.laid_casement_cells_box, List.map_cons, List.map_nil, DataW.agg.injEq, List.cons.injEq, and_true] at hx1
    obtain ⟨rfl, rfl, rfl, rfl⟩ := hx1
    have f0 := hf 0 (by omega)
    have f1 := hf 1 (by omega)
    have f2 := hf 2 (by omega)
    have f3 := hf 3 (by omega)
    rw [c_box4] at f0 f1 f2 f3
    have k0 := cells_of_tab (zs := [0, 9474, 9474, 9474]) Tryz.underlying207 Tryz.underlying21 c_i32 c_box4 f0
    have k1 := cells_of_tab (zs := [9472, 9484, 9488, 9474]) Tryz.underlying207 Tryz.underlying21 c_i32 c_box4 f1
    have k2 := cells_of_tab (zs := [9472, 9492, 9496, 9474]) Tryz.underlying207 Tryz.underlying21 c_i32 c_box4 f2
    have k3 := cells_of_tab (zs := [9472, 9472, 9472, 9633]) Tryz.underlying207 Tryz.underlying21 c_i32 c_box4 f3
    intro i j hi hj
    rw [World.var?_cell hg hvar (i * 4 + j), ← Array.getElem?_toList]
    have e : cs.toList[i * 4 + j]? = ((cs.toList.drop (i * 4)).take 4)[j]? := by simp [hj, List.getElem?_drop]
    rw [e]
    rcases (show i = 0 ∨ i = 1 ∨ i = 2 ∨ i = 3 by omega) with rfl | rfl | rfl | rfl
    · rw [k0]
      rcases (show j = 0 ∨ j = 1 ∨ j = 2 ∨ j = 3 by omega) with rfl | rfl | rfl | rfl <;> rfl
    · rw [k1]
      rcases (show j = 0 ∨ j = 1 ∨ j = 2 ∨ j = 3 by omega) with rfl | rfl | rfl | rfl <;> rfl
    · rw [k2]
      rcases (show j = 0 ∨ j = 1 ∨ j = 2 ∨ j = 3 by omega) with rfl | rfl | rfl | rfl <;> rfl
    · rw [k3]
      rcases (show j = 0 ∨ j = 1 ∨ j = 2 ∨ j = 3 by omega) with rfl | rfl | rfl | rfl <;> rfl

theorem pow_eq : Rows.laid_internal_strconv_uint64pow10 (H := Unit) = Lib.tabData .u64 Lib.pow10Tab := by kernel_rfl
theorem pw_ofC {W : World} {l : List (String × DataW Unit)} (hm : ("internal/strconv.uint64pow10", Rows.laid_internal_strconv_uint64pow10) ∈ l) (hL : laidMet Tryz.prog l W) : PwC W.heap.size W := by
  have r2 : Lib.VarReads Tryz.prog W "internal/strconv.uint64pow10" (Lib.tabData .u64 Lib.pow10Tab) := pow_eq ▸ Lib.laidMet.reads hL hm
  obtain ⟨g', t, cs, fuel, p, hg, hty, hvar, hd⟩ := r2
  obtain rfl := Option.some.inj ((show Tryz.prog.globalNamed "internal/strconv.uint64pow10" = some 7 by kernel_rfl).symm.trans hg)
  obtain rfl := Option.some.inj ((show (Tryz.prog.globals[7]?).map (·.type) = some 283 by kernel_rfl).symm.trans hty)
  refine Lib.tabBelow_of_tabIs ?_
  unfold Lib.TabIs
  rw [hvar, ← Lib.cells_of_tab Tryz.underlying283 Tryz.underlying181 (by kernel_rfl) (by kernel_rfl) hd]
theorem accept_eq : Rows.laid_unicode_utf8_acceptRanges (H := Unit) = acceptData := by kernel_rfl
theorem xU : U8Extra Tryz.prog Tryz.lays197_ren := ⟨by kernel_rfl, by kernel_rfl, by kernel_rfl, by kernel_rfl, by kernel_rfl, by kernel_rfl, by kernel_rfl⟩
theorem tU : U8Types Tryz.prog Tryz.lays197_ren := { Tryz.lays197 with }
abbrev laidC : List (String × DataW Unit) := [("math/bits.deBruijn32tab", Rows.laid_math_bits_deBruijn32tab), ("math/bits.deBruijn64tab", Rows.laid_math_bits_deBruijn64tab), ("internal/strconv.uint64pow10", Rows.laid_internal_strconv_uint64pow10), ("unicode/utf8.acceptRanges", Rows.laid_unicode_utf8_acceptRanges), ("casement/runes.marks", Rows.laid_casement_runes_marks), ("casement/runes.wides", Rows.laid_casement_runes_wides), ("casement/cells.box", Rows.laid_casement_cells_box), ("unicode/utf8.first", Rows.laid_unicode_utf8_first)]
set_option maxRecDepth 100000 in
theorem env15_of {W : World} {l : List (String × DataW Unit)} (hl : l = laidC) (hd : laidMet Tryz.prog l W) (hsh : W.ShapedOpen Tryz.prog) : Env15 W := by
  subst hl
  have r1 : VarReads Tryz.prog W "unicode/utf8.acceptRanges" acceptData := accept_eq ▸ Lib.laidMet.reads hd (.tail _ (.tail _ (.tail _ (.head _))))
  have r7 : VarReads Tryz.prog W "unicode/utf8.first" firstData := Pinned.utf8First_eq ▸ Lib.laidMet.reads hd (.tail _ (.tail _ (.tail _ (.tail _ (.tail _ (.tail _ (.tail _ (.head _))))))))
  have r3 : VarReads Tryz.prog W "casement/runes.marks" (spanData marksL) := marks_eq ▸ Lib.laidMet.reads hd (.tail _ (.tail _ (.tail _ (.tail _ (.head _)))))
  have r4 : VarReads Tryz.prog W "casement/runes.wides" (spanData widesL) := wides_eq ▸ Lib.laidMet.reads hd (.tail _ (.tail _ (.tail _ (.tail _ (.tail _ (.head _))))))
  have r5 : VarReads Tryz.prog W "casement/cells.box" (Rows.laid_casement_cells_box (H := Unit)) := Lib.laidMet.reads hd (.tail _ (.tail _ (.tail _ (.tail _ (.tail _ (.tail _ (.head _)))))))
  have T : Tabs W := ⟨spans_of_reads (by kernel_rfl) (by kernel_rfl) (by decide) r3, spans_of_reads (by kernel_rfl) (by kernel_rfl) (by decide) r4⟩
  have hbx := box_of r5
  obtain ⟨m, hm⟩ := Tryz.laysM145.s1_3 W hsh
  have lt : ∀ {g o : Nat} {v : Value}, W.cell? ⟨g, o, none⟩ = some v → g < W.heap.size := fun {g o v} hc => by
    rcases Nat.lt_or_ge g W.heap.size with h1 | h1
    · exact h1
    · simp [World.cell?, Array.getElem?_eq_none h1] at hc
  refine ⟨fun W' hb => ⟨T.below hb, ⟨m, ?_⟩, fun i j hi hj => ?_⟩, utf8Tabs_of_readsT tU xU r7 r1, pw_ofC (.tail _ (.tail _ (.head _))) hd⟩
  · exact (hb.cell (p := ⟨_, 0, none⟩) (lt hm)).trans hm
  · rw [hb.cell (p := ⟨1, i * 4 + j, none⟩) (lt (hbx i j hi hj))]; exact hbx i j hi hj

end Go.Proofs.YtapachlhdgehjaaGreatDoor

/-
  In plain words: what is drawn may be a screen's cells; one list drawn behind another one.
-/
namespace Go.Proofs.YtapachlhdgehjaaGreatDoor
open Go.RowKit Go.Shelf

def okG (r : Int) (wd tl : Bool) : Bool := vldR r && (if width r = 1 then !wd && !tl else if width r = 2 then wd != tl else false)
theorem decN_vld (n b0 b1 b2 b3 : Nat) (h0 : b0 < 256) : (Lib.decodeN n b0 b1 b2 b3).1 < 55296 ∨ (57343 < (Lib.decodeN n b0 b1 b2 b3).1 ∧ (Lib.decodeN n b0 b1 b2 b3).1 ≤ 1114111) := by
  unfold Lib.decodeN
  repeat' split
  all_goals (simp only; omega)
theorem rn_vld (s : ByteArray) (p : Nat) : vldR (rn s p) = true := by
  have h : rn s p < 55296 ∨ (57343 < rn s p ∧ rn s p ≤ 1114111) := by
    show (Utf8.decode s p).1 < 55296 ∨ (57343 < (Utf8.decode s p).1 ∧ (Utf8.decode s p).1 ≤ 1114111)
    rw [Lib.decode_at]
    exact decN_vld _ _ _ _ _ (UInt8.toNat_lt _)
  unfold vldR
  rw [decide_eq_true_eq]
  omega
theorem glR_ok {r : Int} (hr : vldR r = true) : ∀ g ∈ glR r, okG g.r g.wd g.tl = true := by
  intro g hg
  unfold glR at hg
  split at hg
  · next h =>
    have : g = ⟨r, true, false⟩ ∨ g = ⟨r, false, true⟩ := by simpa using hg
    rcases this with rfl | rfl <;> simp [okG, hr, h]
  · split at hg
    · next h =>
      have : g = ⟨r, false, false⟩ := by simpa using hg
      subst this
      simp [okG, hr, h]
    · cases hg
theorem lnF_ok (s : ByteArray) : ∀ f q, ∀ g ∈ lnF s f q, okG g.r g.wd g.tl = true
  | 0, _, g, hg => by cases hg
  | f + 1, q, g, hg => by
    unfold lnF at hg
    split at hg
    · rcases List.mem_append.1 hg with h | h
      · exact glR_ok (rn_vld s q) g h
      · exact lnF_ok s f _ g h
    · cases hg
theorem glyA_ok (t : ByteArray) (x y : Int) (g : Gl) (h : glyA (wrP t) x y = some g) : okG g.r g.wd g.tl = true := by
  unfold glyA at h
  split at h
  · have hm := List.mem_of_getElem? h
    cases e : (wrP t)[y.toNat]? with
    | none => rw [e] at hm; cases hm
    | some row =>
      rw [e] at hm
      have hr := List.mem_of_getElem? e
      obtain ⟨l, _, rfl⟩ := List.mem_map.1 hr
      exact lnF_ok _ _ _ g hm
  · cases h
theorem frmG_ok (r : Rc) (px py : Int) (h : frmR r px py ≠ 0) : okG (frmR r px py) false false = true := by
  unfold frmR at h ⊢
  repeat' split
  all_goals first | decide +kernel | (simp_all)
theorem mad_okC (px py : Int) (c : Ce) (s : St) (h : okCe c = true) : okCe (madC wrP overC px py c s) = true := by
  unfold madC
  split
  · split
    · exact h
    · split
      · show okG 32 false false = true
        decide +kernel
      · exact h
  · split
    · split
      · next hf => exact frmG_ok _ _ _ hf.1
      · exact h
    · split
      · split
        · exact h
        · next g hg => exact glyA_ok _ _ _ g hg
      · exact h
theorem drw_okC (px py : Int) : ∀ (A : List (St × Rc)) (c : Ce), okCe c = true → okCe (drwC wrP overC px py c A) = true
  | [], c, h => h
  | p :: A, c, h => by
    have e : drwC wrP overC px py c (p :: A) = drwC wrP overC px py (if (drw p.1 && zHa p.2 px py) = true then madC wrP overC px py c p.1 else c) A := rfl
    rw [e]
    refine drw_okC px py A _ ?_
    split
    · exact mad_okC px py c p.1 h
    · exact h
theorem drwS_okC {a : Nat} {L : List Ce} (hL : okCs L = true) (A : List (St × Rc)) : okCs (drwS a L A) = true := by
  unfold okCs at hL ⊢
  rw [List.all_eq_true] at hL ⊢
  intro c hc
  obtain ⟨k, hk, rfl⟩ := List.mem_iff_getElem.1 hc
  simp only [drwS, List.getElem_mapIdx]
  exact drw_okC _ _ A _ (hL _ (List.getElem_mem _))
theorem chk_clp {l : List St} (h : chkS l = 0) : clpE 0 l = 0 := (chkS_zero h).2
theorem drwS_join (a : Nat) (L : List Ce) {l m : List St} (h : chkS l = 0) : drwS a L (flaL (l ++ m)) = drwS a (drwS a L (flaL l)) (flaL m) := by
  apply List.ext_getElem (by rw [drwS_len, drwS_len, drwS_len])
  intro k h1 h2
  simp only [drwS, List.getElem_mapIdx, flaL]
  rw [drw_fla, drw_fla, drw_fla, drw_join _ _ (chk_clp h)]
theorem clp_behind : ∀ (l : List St) (n : Nat) (m : List St), clpE n l = 0 → clpE n (l ++ m) = clpE 0 m
  | [], n, m, h => by
    have hn : n = 0 := by
      unfold clpE at h
      split at h
      · cases h
      · omega
    subst hn
    rfl
  | s :: l, n, m, h => by
    obtain ⟨h1, h2, h3⟩ := clpE_cons h
    have e := clp_behind l _ m h3
    rw [← e]
    show clpE n (s :: (l ++ m)) = _
    conv => lhs; unfold clpE
    simp [h1, h2]
theorem chk_join {l m : List St} (hl : chkS l = 0) (hm : chkS m = 0) (h : l.length + m.length ≤ 16384) : chkS (l ++ m) = 0 := by
  unfold chkS
  rw [List.length_append, if_neg (by omega), clp_behind l 0 m (chk_clp hl)]
  exact chk_clp hm

end Go.Proofs.YtapachlhdgehjaaGreatDoor
