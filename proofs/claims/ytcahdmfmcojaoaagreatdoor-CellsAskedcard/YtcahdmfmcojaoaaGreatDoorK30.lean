/-
  Texts of this claim, one behind the other: what each is about stands ahead of it.
-/
import Derived.Test.YtcahdmfmcojaoaaGreatDoorK29
import Derived.Test.YtcahdmfmcojaoaaGreatDoorK7
import Derived.Test.YtcahdmfmcojaoaaGreatDoorK8
import Derived.Deep.RegionWith
import Derived.Deep.WholeRow
/-
  Package cells: a reader's cell, escape, thing.
-/
namespace Go.Proofs.YtcahdmfmcojaoaaGreatDoor
open Go.RowKit Go.Shelf

def TabC (w : World) : Prop := Lib.Utf8Tabs 1 2 w
theorem TabC.below {W w1 : World} (h : TabC W) (hb : Below W.heap.size W w1) : TabC w1 := Utf8Tabs_below h hb
theorem decodeC_any (s : ByteArray) (w : World) (D : TabC w) :
    Calls Tryz.prog 129 #[.string s] w fun e w' => e = .returned (.tuple #[.int .i32 (Lib.decodeGo s).1, .int .i64 (Lib.decodeGo s).2]) ∧ Below w.heap.size w w' := Any.utf8_DecodeRuneInString Tryz.lays197 s w D

set_option maxRecDepth 20000 in
set_option maxHeartbeats 8000000 in
theorem cell_ok (lo b W H g n cap : Nat) (xn yn : Nat) (c k : Co) (L : List Ce) (q : ByteArray) (r : Int) (rN : Nat) (zs : Nat) (w : World) (hR : RdW lo b W H g n cap (xn : Nat) (yn : Nat) c k L w) (hq : 0 < q.size) (h14 : ¬ bA q 0 = 14) (h15 : ¬ bA q 0 = 15) (hrN : r = (rN : Int)) (hd : Lib.decodeGo q = (rN, zs)) (hr : ¬ r = 65533) (hzs : zs ≤ 4) (hw : width r = 1) (hy : yn < H) (hx : xn + 1 ≤ W) (hs : szB W H = true) (hn : (n : Int) = W * H) (T : Tabs w) (D : TabC w) :
    Calls Tryz.prog 96 #[.pointer (some ⟨b, 0, none⟩), .string q] w fun e w' => e = .returned (.int .i64 (zs : Nat)) ∧ RdW lo b W H g n cap ((xn : Int) + 1) (yn : Nat) c k (L.set (yn * W + xn) ⟨r, c, k, false, false⟩) w' ∧ Below lo w w' := by
  have k14 : (((q[0]'hq).toNat : Int) == 14) = false := by rw [← bA_at hq]; simp; omega
  have k15 : (((q[0]'hq).toNat : Int) == 15) = false := by rw [← bA_at hq]; simp; omega
  have iq : (0 : Int) < q.size := by omega
  have kr : (r == 65533) = false := by simp; omega
  have HD : Hid (Calls Tryz.prog 129 #[.string q] w fun e w' => e = .returned (.tuple #[.int .i32 r, .int .i64 (zs : Nat)]) ∧ Below w.heap.size w w') := by
    have := decodeC_any q w D
    rw [hd] at this
    rw [hrN]
    exact this
  have HM : Hid (∀ W1, Below w.heap.size w W1 → Calls Tryz.prog 131 #[.int .i32 r, .string ByteArray.empty] W1 fun e w' => ∃ hb, e = .returned (.slice (some ⟨hb, 0, none⟩) 1 2) ∧ Hid (Bk w' hb (duoA ⟨r, coZ, coZ, false, false⟩ ⟨0, coZ, coZ, false, false⟩) 205 ∧ W1.heap.size ≤ hb ∧ Below W1.heap.size W1 w')) := fun W1 h => meant_one r W1 (T.below h) hw
  have HPu : Hid (∀ hb W1, RdW lo b W H g n cap xn yn c k L W1 → Bk W1 hb (duoA ⟨r, coZ, coZ, false, false⟩ ⟨0, coZ, coZ, false, false⟩) 205 → Calls Tryz.prog 130 #[.pointer (some ⟨b, 0, none⟩), .slice (some ⟨hb, 0, none⟩) 1 2] W1 fun e w' => e = .returned (.bool true) ∧ RdW lo b W H g n cap ((xn : Int) + 1) (yn : Nat) c k (L.set (yn * W + xn) ⟨r, c, k, false, false⟩) w' ∧ Below lo W1 w') := fun hb W1 h1 h2 => put_one lo b W H g n cap xn yn c k L hb _ _ W1 h1 h2 hy hx hs hn
  have H0 : Hid (RdW lo b W H g n cap xn yn c k L w) := hR
  clear hR h14 h15 hd hr hrN hw hy hx hs hn T D
  go_enter Tryz.func96, Tryz.ntmps96
  go_wp2_with fail
  refine HD.out.mono ?_
  rintro e W1 ⟨rfl, hb1⟩
  have H1 : Hid (RdW lo b W H g n cap xn yn c k L W1 ∧ Below w.heap.size w W1) := ⟨H0.out.bel hb1, hb1⟩
  clear hb1 HD
  go_wp2_with fail
  refine (HM.out _ H1.out.2).mono ?_
  rintro e W2 ⟨hb, rfl, h2⟩
  have H2 : Hid (RdW lo b W H g n cap xn yn c k L W2 ∧ Below w.heap.size w W2 ∧ Bk W2 hb (duoA ⟨r, coZ, coZ, false, false⟩ ⟨0, coZ, coZ, false, false⟩) 205) := ⟨H1.out.1.bel h2.out.2.2, H1.out.2.trans (h2.out.2.2.mono H1.out.2.size), h2.out.1⟩
  clear h2 H1 HM
  go_wp2_with fail
  refine (HPu.out hb _ H2.out.1 H2.out.2.2).mono ?_
  rintro e W3 ⟨rfl, h3, h4⟩
  have H3 : Hid (RdW lo b W H g n cap ((xn : Int) + 1) (yn : Nat) c k (L.set (yn * W + xn) ⟨r, c, k, false, false⟩) W3 ∧ Below lo w W3) := ⟨h3, (H2.out.2.1.mono H0.out.sz).trans h4⟩
  clear h3 h4 H2 HPu H0
  go_wp2
  go_ret
  exact ⟨by simp, H3.out⟩

set_option maxRecDepth 20000 in
set_option maxHeartbeats 8000000 in
theorem cell_no (lo b W H g n cap : Nat) (xn yn : Nat) (c k : Co) (L : List Ce) (q : ByteArray) (r : Int) (rN : Nat) (zs : Nat) (w : World) (hR : RdW lo b W H g n cap (xn : Nat) (yn : Nat) c k L w) (hq : 0 < q.size) (h14 : ¬ bA q 0 = 14) (h15 : ¬ bA q 0 = 15) (hrN : r = (rN : Int)) (hd : Lib.decodeGo q = (rN, zs)) (hr : ¬ r = 65533) (hw : width r = 1) (hy : yn < H) (hx : W < xn + 1) (hW : W ≤ 16384) (hxb : xn ≤ 100000) (T : Tabs w) (D : TabC w) :
    Calls Tryz.prog 96 #[.pointer (some ⟨b, 0, none⟩), .string q] w fun e w' => e = .returned (.int .i64 0) ∧ Below lo w w' := by
  have k14 : (((q[0]'hq).toNat : Int) == 14) = false := by rw [← bA_at hq]; simp; omega
  have k15 : (((q[0]'hq).toNat : Int) == 15) = false := by rw [← bA_at hq]; simp; omega
  have iq : (0 : Int) < q.size := by omega
  have kr : (r == 65533) = false := by simp; omega
  have HD : Hid (Calls Tryz.prog 129 #[.string q] w fun e w' => e = .returned (.tuple #[.int .i32 r, .int .i64 (zs : Nat)]) ∧ Below w.heap.size w w') := by
    have := decodeC_any q w D
    rw [hd] at this
    rw [hrN]
    exact this
  have HM : Hid (∀ W1, Below w.heap.size w W1 → Calls Tryz.prog 131 #[.int .i32 r, .string ByteArray.empty] W1 fun e w' => ∃ hb, e = .returned (.slice (some ⟨hb, 0, none⟩) 1 2) ∧ Hid (Bk w' hb (duoA ⟨r, coZ, coZ, false, false⟩ ⟨0, coZ, coZ, false, false⟩) 205 ∧ W1.heap.size ≤ hb ∧ Below W1.heap.size W1 w')) := fun W1 h => meant_one r W1 (T.below h) hw
  have HPu : Hid (∀ hb W1, RdW lo b W H g n cap xn yn c k L W1 → Calls Tryz.prog 130 #[.pointer (some ⟨b, 0, none⟩), .slice (some ⟨hb, 0, none⟩) 1 2] W1 fun e w' => e = .returned (.bool false) ∧ Below lo W1 w') := fun hb W1 h1 => put_no lo b W H g n cap xn yn c k L hb W1 h1 hy hx hW hxb
  have H0 : Hid (RdW lo b W H g n cap xn yn c k L w) := hR
  clear hR h14 h15 hd hr hrN hw hy hx T D
  go_enter Tryz.func96, Tryz.ntmps96
  go_wp2_with fail
  refine HD.out.mono ?_
  rintro e W1 ⟨rfl, hb1⟩
  have H1 : Hid (RdW lo b W H g n cap xn yn c k L W1 ∧ Below w.heap.size w W1) := ⟨H0.out.bel hb1, hb1⟩
  clear hb1 HD
  go_wp2_with fail
  refine (HM.out _ H1.out.2).mono ?_
  rintro e W2 ⟨hb, rfl, h2⟩
  have H2 : Hid (RdW lo b W H g n cap xn yn c k L W2 ∧ Below w.heap.size w W2) := ⟨H1.out.1.bel h2.out.2.2, H1.out.2.trans (h2.out.2.2.mono H1.out.2.size)⟩
  clear h2 H1 HM
  go_wp2_with fail
  refine (HPu.out hb _ H2.out.1).mono ?_
  rintro e W3 ⟨rfl, h4⟩
  have H3 : Hid (Below lo w W3) := (H2.out.2.mono H0.out.sz).trans h4
  clear h4 H2 HPu H0
  go_wp2
  go_ret
  exact ⟨rfl, H3.out⟩

end Go.Proofs.YtcahdmfmcojaoaaGreatDoor

/-
  Package cells: thing, of a text that begins with one; steps of a reader in plain words.
-/
namespace Go.Proofs.YtcahdmfmcojaoaaGreatDoor
open Go.RowKit

structure Stt where
  x : Nat
  y : Nat
  c : Co
  k : Co
  L : List Ce
def Stp (W H : Nat) (s : Stt) (q : ByteArray) (z : Nat) (t : Stt) : Prop :=
  (bA q 0 = 27 ∧ ∃ a0 a1 : Nat, sqA q = some ([(a0 : Int), (a1 : Int)], 72, z) ∧ 1 ≤ a0 ∧ a0 ≤ 16384 ∧ 1 ≤ a1 ∧ a1 ≤ 16384 ∧ t = ⟨a1 - 1, a0 - 1, s.c, s.k, s.L⟩) ∨
  (bA q 0 = 27 ∧ ∃ d : Co, d.ok ∧ sqA q = some ([38, 2, d.r, d.g, d.b, d.a], 109, z) ∧ t = ⟨s.x, s.y, d, s.k, s.L⟩) ∨
  (¬ bA q 0 = 27 ∧ ¬ bA q 0 = 14 ∧ ¬ bA q 0 = 15 ∧ ∃ r : Nat, Lib.decodeGo q = (r, z) ∧ ¬ r = 65533 ∧ z ≤ 4 ∧ width (r : Int) = 1 ∧ s.y < H ∧ s.x + 1 ≤ W ∧ t = ⟨s.x + 1, s.y, s.c, s.k, s.L.set (s.y * W + s.x) ⟨(r : Int), s.c, s.k, false, false⟩⟩)
def NoS (W H : Nat) (s : Stt) (q : ByteArray) : Prop := ¬ bA q 0 = 27 ∧ ¬ bA q 0 = 14 ∧ ¬ bA q 0 = 15 ∧ ∃ r z : Nat, Lib.decodeGo q = (r, z) ∧ ¬ r = 65533 ∧ z ≤ 4 ∧ width (r : Int) = 1 ∧ s.y < H ∧ W < s.x + 1 ∧ s.x ≤ 100000
abbrev RdS (lo b W H g n cap : Nat) (s : Stt) (w : World) : Prop := RdW lo b W H g n cap (s.x : Nat) (s.y : Nat) s.c s.k s.L w

set_option maxRecDepth 20000 in
set_option maxHeartbeats 8000000 in
theorem escape_any (lo b W H g n cap : Nat) (s t : Stt) (q : ByteArray) (z : Nat) (w : World) (hR : RdS lo b W H g n cap s w) (hq : q.size ≤ 2000000)
    (ns : List Int) (l : Nat) (hs : sqA q = some (ns, l, z)) (hcnt : ns.length = 2 ∨ ns.length = 6)
    (hO : ∀ W1, RdS lo b W H g n cap s W1 → Calls Tryz.prog 128 #[.pointer (some ⟨b, 0, none⟩), .agg (sqC ns ns.length l z)] W1 fun e w' => e = .returned (.bool true) ∧ RdS lo b W H g n cap t w' ∧ Below lo W1 w' ∧ FrB b W1 w') :
    Calls Tryz.prog 95 #[.pointer (some ⟨b, 0, none⟩), .string q] w fun e w' => e = .returned (.int .i64 (z : Nat)) ∧ RdS lo b W H g n cap t w' ∧ Below lo w w' := by
  have HS : Hid (Calls Tryz.prog 127 #[.string q] w fun e w' => e = .returned (.tuple #[.agg (sqC ns ns.length l z), .bool true]) ∧ Below w.heap.size w w') := seqOf_ok q ns l z w hq hs hcnt
  have H0 : Hid (RdS lo b W H g n cap s w) := hR
  have HOb : Hid (∀ W1, RdS lo b W H g n cap s W1 → Calls Tryz.prog 128 #[.pointer (some ⟨b, 0, none⟩), .agg (sqC ns ns.length l z)] W1 fun e w' => e = .returned (.bool true) ∧ RdS lo b W H g n cap t w' ∧ Below lo W1 w' ∧ FrB b W1 w') := hO
  clear hR hq hs hcnt hO
  unfold sqC at HS HOb
  generalize ns.length = m at *
  have e0 : ∃ v, six ns 0 = .int .i64 v := ⟨_, rfl⟩
  have e1 : ∃ v, six ns 1 = .int .i64 v := ⟨_, rfl⟩
  have e2 : ∃ v, six ns 2 = .int .i64 v := ⟨_, rfl⟩
  have e3 : ∃ v, six ns 3 = .int .i64 v := ⟨_, rfl⟩
  have e4 : ∃ v, six ns 4 = .int .i64 v := ⟨_, rfl⟩
  have e5 : ∃ v, six ns 5 = .int .i64 v := ⟨_, rfl⟩
  generalize six ns 0 = v0 at *
  generalize six ns 1 = v1 at *
  generalize six ns 2 = v2 at *
  generalize six ns 3 = v3 at *
  generalize six ns 4 = v4 at *
  generalize six ns 5 = v5 at *
  obtain ⟨v0, rfl⟩ := e0
  obtain ⟨v1, rfl⟩ := e1
  obtain ⟨v2, rfl⟩ := e2
  obtain ⟨v3, rfl⟩ := e3
  obtain ⟨v4, rfl⟩ := e4
  obtain ⟨v5, rfl⟩ := e5
  go_enter Tryz.func95, Tryz.ntmps95
  go_wp2_with fail
  refine HS.out.mono ?_
  rintro e W1 ⟨rfl, hb1⟩
  have H1 : Hid (∀ W2, W2 = W1.alloc (.cells #[.int .i64 v0, .int .i64 v1, .int .i64 v2, .int .i64 v3, .int .i64 v4, .int .i64 v5, .int .i64 (m : Nat), .int .u8 (l : Nat), .int .i64 (z : Nat)] 191) → RdS lo b W H g n cap s W2 ∧ Below lo w W2 ∧ Bk W2 W1.heap.size #[.int .i64 v0, .int .i64 v1, .int .i64 v2, .int .i64 v3, .int .i64 v4, .int .i64 v5, .int .i64 (m : Nat), .int .u8 (l : Nat), .int .i64 (z : Nat)] 191 ∧ lo ≤ W1.heap.size ∧ b < W1.heap.size) := fun W2 hW => by
    subst hW
    have h1 := H0.out.bel hb1
    exact ⟨h1.bel ((Below.refl _ _).alloc (Nat.le_refl _) _), (hb1.mono H0.out.sz).alloc h1.sz _, Bk.new _ _ _, h1.sz, h1.bk.lt⟩
  clear hb1 HS
  go_wp2_with fail
  refine (HOb.out _ (H1.out _ rfl).1).mono ?_
  rintro e W3 ⟨rfl, h1, h2, h3⟩
  obtain ⟨j1, j2, j3, j4, j5⟩ := H1.out _ rfl
  obtain ⟨sb, hsb⟩ : ∃ sb, sb = W1.heap.size := ⟨_, rfl⟩
  have H3 : Hid (RdS lo b W H g n cap t W3 ∧ Below lo w W3) := ⟨h1, j2.trans h2⟩
  have hk := h3.bk j3 (by omega)
  rw [← hsb] at hk
  have c8 : W3.cell? ⟨sb, 8, none⟩ = some (.int .i64 (z : Nat)) := hk.cell 8
  rw [← hsb]
  clear h1 h2 h3 j1 j2 j3 j4 j5 hsb hk H1 HOb H0
  go_wp2
  go_ret
  exact ⟨rfl, H3.out⟩

set_option maxRecDepth 20000 in
set_option maxHeartbeats 8000000 in
theorem thing_any (lo b W H g n cap : Nat) (s t : Stt) (q : ByteArray) (z : Nat) (w : World) (hR : RdS lo b W H g n cap s w) (hq : q.size ≤ 2000000) (hq0 : 0 < q.size) (hs : szB W H = true) (hn : (n : Int) = W * H) (T : Tabs w) (D : TabC w) (hp : Stp W H s q z t) :
    Calls Tryz.prog 59 #[.pointer (some ⟨b, 0, none⟩), .string q] w fun e w' => e = .returned (.int .i64 (z : Nat)) ∧ RdS lo b W H g n cap t w' ∧ Below lo w w' := by
  have iq : (0 : Int) < q.size := by omega
  have eb := bA_at hq0
  have hcase : (bA q 0 = 27 ∧ Calls Tryz.prog 95 #[.pointer (some ⟨b, 0, none⟩), .string q] w fun e w' => e = .returned (.int .i64 (z : Nat)) ∧ RdS lo b W H g n cap t w' ∧ Below lo w w') ∨ (¬ bA q 0 = 27 ∧ Calls Tryz.prog 96 #[.pointer (some ⟨b, 0, none⟩), .string q] w fun e w' => e = .returned (.int .i64 (z : Nat)) ∧ RdS lo b W H g n cap t w' ∧ Below lo w w') := by
    rcases hp with ⟨h1, a0, a1, h2, h3, h4, h5, h6, rfl⟩ | ⟨h1, d, hd, h2, rfl⟩ | ⟨h1, h2, h3, r, h4, h5, hz4, h6, h7, h8, rfl⟩
    · refine .inl ⟨h1, escape_any lo b W H g n cap s _ q z w hR hq _ _ h2 (.inl rfl) (fun W1 hW => ?_)⟩
      have := obeyH_any lo b W H g n cap s.x s.y s.c s.k s.L a0 a1 0 0 0 0 z W1 hW ⟨by omega, by omega⟩ ⟨by omega, by omega⟩
      rw [show (a1 : Int) - 1 = ((a1 - 1 : Nat) : Int) by omega, show (a0 : Int) - 1 = ((a0 - 1 : Nat) : Int) by omega] at this
      exact this
    · refine .inl ⟨h1, escape_any lo b W H g n cap s _ q z w hR hq _ _ h2 (.inr rfl) (fun W1 hW => ?_)⟩
      exact obeyM_any lo b W H g n cap s.x s.y s.c s.k s.L d hd z W1 hW
    · refine .inr ⟨h1, (cell_ok lo b W H g n cap s.x s.y s.c s.k s.L q r r z w hR hq0 h2 h3 rfl h4 (by omega) hz4 h6 h7 h8 hs hn T D)⟩
  clear hR hq hs hn T D hp
  rcases hcase with ⟨h1, h2⟩ | ⟨h1, h2⟩
  · have H2 : Hid (Calls Tryz.prog 95 #[.pointer (some ⟨b, 0, none⟩), .string q] w fun e w' => e = .returned (.int .i64 (z : Nat)) ∧ RdS lo b W H g n cap t w' ∧ Below lo w w') := h2
    have k1 : (((q[0]'hq0).toNat : Int) == 27) = true := by rw [← eb, h1]; rfl
    clear h1 h2 eb
    go_enter Tryz.func59, Tryz.ntmps59
    go_wp2_with fail
    refine H2.out.mono ?_
    rintro e W1 ⟨rfl, h3⟩
    have H3 : Hid (RdS lo b W H g n cap t W1 ∧ Below lo w W1) := h3
    clear h3 H2
    go_wp2
    go_ret
    exact ⟨rfl, H3.out⟩
  · have H2 : Hid (Calls Tryz.prog 96 #[.pointer (some ⟨b, 0, none⟩), .string q] w fun e w' => e = .returned (.int .i64 (z : Nat)) ∧ RdS lo b W H g n cap t w' ∧ Below lo w w') := h2
    have k1 : (((q[0]'hq0).toNat : Int) == 27) = false := by rw [← eb]; simp; omega
    clear h1 h2 eb
    go_enter Tryz.func59, Tryz.ntmps59
    go_wp2_with fail
    refine H2.out.mono ?_
    rintro e W1 ⟨rfl, h3⟩
    have H3 : Hid (RdS lo b W H g n cap t W1 ∧ Below lo w W1) := h3
    clear h3 H2
    go_wp2
    go_ret
    exact ⟨rfl, H3.out⟩

set_option maxRecDepth 20000 in
set_option maxHeartbeats 8000000 in
theorem thing_no (lo b W H g n cap : Nat) (s : Stt) (q : ByteArray) (w : World) (hR : RdS lo b W H g n cap s w) (hq0 : 0 < q.size) (hW : W ≤ 16384) (T : Tabs w) (D : TabC w) (hp : NoS W H s q) :
    Calls Tryz.prog 59 #[.pointer (some ⟨b, 0, none⟩), .string q] w fun e w' => e = .returned (.int .i64 0) ∧ Below lo w w' := by
  have iq : (0 : Int) < q.size := by omega
  have eb := bA_at hq0
  obtain ⟨h1, h2, h3, r, z, h4, h5, _, h6, h7, h8, h9⟩ := hp
  have H2 : Hid (Calls Tryz.prog 96 #[.pointer (some ⟨b, 0, none⟩), .string q] w fun e w' => e = .returned (.int .i64 0) ∧ Below lo w w') := cell_no lo b W H g n cap s.x s.y s.c s.k s.L q r r z w hR hq0 h2 h3 rfl h4 (by omega) h6 h7 h8 hW h9 T D
  have k1 : (((q[0]'hq0).toNat : Int) == 27) = false := by rw [← eb]; simp; omega
  clear hR hW T D h1 h2 h3 h4 h5 h6 h7 h8 h9 eb
  go_enter Tryz.func59, Tryz.ntmps59
  go_wp2_with fail
  refine H2.out.mono ?_
  rintro e W1 ⟨rfl, h3⟩
  have H3 : Hid (Below lo w W1) := h3
  clear h3 H2
  go_wp2
  go_ret
  exact ⟨rfl, H3.out⟩

end Go.Proofs.YtcahdmfmcojaoaaGreatDoor

/-
  Package cells: edges, At, copied.
-/
namespace Go.Proofs.YtcahdmfmcojaoaaGreatDoor
open Go.RowKit

def edgN (k n : Int) : Int := (if k = 0 then 1 else 0) + (if k = n - 1 then 2 else 0)
theorem edgN_bd (k n : Int) : 0 ≤ edgN k n ∧ edgN k n ≤ 3 := by unfold edgN; split <;> split <;> omega
theorem edgesC_any (k n : Int) (w : World) (hn : -100000 ≤ n ∧ n ≤ 100000) : Calls Tryz.prog 141 #[.int .i64 k, .int .i64 n] w fun e w' => e = .returned (.int .i64 (edgN k n)) ∧ w' = w := by
  by_cases h1 : k = 0
  · by_cases h2 : k = n - 1
    · have e : edgN k n = 3 := by unfold edgN; rw [if_pos h1, if_pos h2]; rfl
      have h3 : (k == 0) = true := by simpa using h1
      have h4 : (k == n - 1) = true := by simpa using h2
      have He : Hid (edgN k n = 3) := e
      clear e h1 h2
      go_enter Tryz.func141, Tryz.ntmps141
      go_wp2
      go_ret
      exact ⟨by rw [He.out]; rfl, rfl⟩
    · have e : edgN k n = 1 := by unfold edgN; rw [if_pos h1, if_neg h2]; rfl
      have h3 : (k == 0) = true := by simpa using h1
      have h4 : (k == n - 1) = false := by simpa using h2
      have He : Hid (edgN k n = 1) := e
      clear e h1 h2
      go_enter Tryz.func141, Tryz.ntmps141
      go_wp2
      go_ret
      exact ⟨by rw [He.out]; rfl, rfl⟩
  · by_cases h2 : k = n - 1
    · have e : edgN k n = 2 := by unfold edgN; rw [if_neg h1, if_pos h2]; rfl
      have h3 : (k == 0) = false := by simpa using h1
      have h4 : (k == n - 1) = true := by simpa using h2
      have He : Hid (edgN k n = 2) := e
      clear e h1 h2
      go_enter Tryz.func141, Tryz.ntmps141
      go_wp2
      go_ret
      exact ⟨by rw [He.out]; rfl, rfl⟩
    · have e : edgN k n = 0 := by unfold edgN; rw [if_neg h1, if_neg h2]; rfl
      have h3 : (k == 0) = false := by simpa using h1
      have h4 : (k == n - 1) = false := by simpa using h2
      have He : Hid (edgN k n = 0) := e
      clear e h1 h2
      go_enter Tryz.func141, Tryz.ntmps141
      go_wp2
      go_ret
      exact ⟨by rw [He.out]; rfl, rfl⟩

theorem Bk.put3S {W : World} {b : Nat} {a0 a1 a2 v0 v1 v2 : Value} {t : TypeId} (h : Bk W b #[a0, a1, a2] t) : Bk (((W.setCell ⟨b, 0, none⟩ v0).setCell ⟨b, 1, none⟩ v1).setCell ⟨b, 2, none⟩ v2) b #[v0, v1, v2] t := by
  have h0 : Bk (W.setCell ⟨b, 0, none⟩ v0) b #[v0, a1, a2] t := h.put 0 v0
  have h1 : Bk ((W.setCell ⟨b, 0, none⟩ v0).setCell ⟨b, 1, none⟩ v1) b #[v0, v1, a2] t := h0.put 1 v1
  exact h1.put 2 v2
theorem OwC.set {lo : Nat} {w : World} {u : Value} {l : List Ce} (h : OwC lo w u l) (p : Addr) (v : Value) (hp : p.block < lo) : OwC lo (w.setCell p v) u l := by
  refine ⟨h.1, ?_⟩
  rcases h.2 with ⟨h1, h2⟩ | ⟨g', cap', cur, h1, hb, hc, h2⟩
  · exact .inl ⟨h1, h2⟩
  · exact .inr ⟨g', cap', cur, h1, hb, (Below.heap_setCell _ _ _ g' (by omega)).trans hc, h2⟩
set_option maxRecDepth 10000 in
set_option maxHeartbeats 2000000 in
theorem copied_any (a b : Int) (l : List Ce) (v : Value) (w : World) (hv : LsC w v l) (hn : NoNil v) (hl : l.length ≤ 1000000) : Calls Tryz.prog 37 #[.agg #[.int .i64 a, .int .i64 b, v]] w fun e w' => ∃ u, e = .returned (.agg #[.int .i64 a, .int .i64 b, u]) ∧ Hid (OwC w.heap.size w' u l ∧ Below w.heap.size w w') := by
  obtain ⟨oa, cap, rfl, hcap, hg⟩ := id hv
  have HC : Hid (∀ W, Below w.heap.size w W → Calls Tryz.prog 68 #[.slice oa l.length cap] W fun e w' => ∃ u, e = .returned u ∧ OwC W.heap.size w' u l ∧ Below W.heap.size W w') := fun W h => cloneC_any l _ W (hv.below h) hn hl
  have HB : Hid (Bk ((w.alloc (.cells #[.int .i64 a, .int .i64 b, .slice oa l.length cap] 26)).alloc (.cells #[.int .i64 0, .int .i64 0, .slice none 0 0] 26)) w.heap.size #[.int .i64 a, .int .i64 b, .slice oa l.length cap] 26 ∧ Bk ((w.alloc (.cells #[.int .i64 a, .int .i64 b, .slice oa l.length cap] 26)).alloc (.cells #[.int .i64 0, .int .i64 0, .slice none 0 0] 26)) (w.heap.size + 1) #[.int .i64 0, .int .i64 0, .slice none 0 0] 26 ∧ Below w.heap.size w ((w.alloc (.cells #[.int .i64 a, .int .i64 b, .slice oa l.length cap] 26)).alloc (.cells #[.int .i64 0, .int .i64 0, .slice none 0 0] 26))) := by
    have k1 := Bk.new w #[.int .i64 a, .int .i64 b, .slice oa l.length cap] 26
    have k2 := Bk.new (w.alloc (.cells #[.int .i64 a, .int .i64 b, .slice oa l.length cap] 26)) #[.int .i64 0, .int .i64 0, .slice none 0 0] 26
    rw [World.size_alloc] at k2
    exact ⟨k1.below ((Below.refl _ _).alloc (Nat.le_refl _) _), k2, ((Below.refl _ w).alloc (Nat.le_refl _) _).alloc (by simp) _⟩
  clear hg hv hn
  go_enter Tryz.func37, Tryz.ntmps37
  go_wp2_with fail
  generalize (w.alloc (.cells #[.int .i64 a, .int .i64 b, .slice oa l.length cap] 26)).alloc (.cells #[.int .i64 0, .int .i64 0, .slice none 0 0] 26) = w1 at *
  obtain ⟨a0, a1, a2⟩ := Bk.at3S HB.out.1
  have HM : Hid (∀ W, Below w1.heap.size w1 W → (W.cell? ⟨w.heap.size, 0, none⟩ = some (.int .i64 a) ∧ W.cell? ⟨w.heap.size, 1, none⟩ = some (.int .i64 b) ∧ W.cell? ⟨w.heap.size, 2, none⟩ = some (.slice oa l.length cap)) ∧ Bk W (w.heap.size + 1) #[.int .i64 0, .int .i64 0, .slice none 0 0] 26 ∧ Below w.heap.size w W) := fun W h => ⟨Bk.at3S (HB.out.1.below h), HB.out.2.1.below h, HB.out.2.2.trans (h.mono HB.out.2.2.size)⟩
  go_region_with (go_at_call 68; refine (HC.out _ (HB.out.2.2.drew)).mono ?_; rintro e w2 ⟨u, rfl, hu, hb⟩; obtain ⟨⟨k0, k1, k2⟩, k3, k4⟩ := HM.out w2 (((Below.refl w1.heap.size w1).drew).trans hb); obtain ⟨z0, z1, z2⟩ := Bk.at3S k3; have y0 := k3.frozen 0; have y1 := k3.frozen 1; have y2 := k3.frozen 2; have HU : Hid (OwC w1.heap.size w2 u l ∧ Below w.heap.size w w2 ∧ Bk w2 (w.heap.size + 1) #[.int .i64 0, .int .i64 0, .slice none 0 0] 26) := ⟨hu, k4, k3⟩; obtain ⟨ou, cu, eu, hcu, -⟩ := row_val hu; subst eu; clear hu hb k3 k4)
  all_goals
    obtain ⟨W3, hW3⟩ : ∃ W3, W3 = ((w2.setCell ⟨w.heap.size + 1, 0, none⟩ (.int .i64 a)).setCell ⟨w.heap.size + 1, 1, none⟩ (.int .i64 b)).setCell ⟨w.heap.size + 1, 2, none⟩ (.slice ou l.length cu) := ⟨_, rfl⟩
    have H3 : Hid (OwC w.heap.size W3 (.slice ou l.length cu) l ∧ Below w.heap.size w W3 ∧ Bk W3 (w.heap.size + 1) #[.int .i64 a, .int .i64 b, .slice ou l.length cu] 26) := by
      obtain ⟨u1, u2, u3⟩ := HU.out
      have hl1 := HB.out.2.1.lt
      rw [hW3]
      exact ⟨row_weaken (OwC.set (OwC.set (OwC.set u1 _ _ hl1) _ _ hl1) _ _ hl1) HB.out.2.2.size, ((u2.setCell (p := ⟨w.heap.size + 1, 0, none⟩) (by simp) _).setCell (p := ⟨w.heap.size + 1, 1, none⟩) (by simp) _).setCell (p := ⟨w.heap.size + 1, 2, none⟩) (by simp) _, u3.put3S⟩
    rw [← hW3]
    clear hW3 HU k0 k1 k2 z0 z1 z2 y0 y1 y2 HM HB HC a0 a1 a2
    obtain ⟨k0, k1, k2⟩ := Bk.at3S H3.out.2.2
    go_wp2
    exact bodyPost_ret (v := .agg #[.int .i64 a, .int .i64 b, .slice ou l.length cu]) (by simp [results, Tryz.results37, go_sem, k0, k1, k2]) rfl ⟨_, rfl, H3.out.1, H3.out.2.1⟩

end Go.Proofs.YtcahdmfmcojaoaaGreatDoor

/-
  Package cells: Read of a text whose things are known.
-/
namespace Go.Proofs.YtcahdmfmcojaoaaGreatDoor
open Go.RowKit

structure Kno (W H : Nat) (q : ByteArray) (s0 : Stt) (I : Nat → Stt → Prop) (bad : Bool) (LF : List Ce) (pF : Nat) : Prop where
  st : I 0 s0
  go : ∀ p s, I p s → p < q.size → (∃ z t, 0 < z ∧ p + z ≤ q.size ∧ Stp W H s (q.extract p q.size) z t ∧ I (p + z) t) ∨ (bad = true ∧ p = pF ∧ NoS W H s (q.extract p q.size))
  en : ∀ s, I q.size s → bad = false ∧ s.L = LF
def RdAns (W H : Nat) (bad : Bool) (LF : List Ce) (pF : Nat) (w : World) (e : Ending) (w' : World) : Prop :=
  (bad = false ∧ ∃ g n cap, e = .returned (.tuple #[.agg #[.int .i64 (W : Nat), .int .i64 (H : Nat), .slice (some ⟨g, 0, none⟩) n cap], .int .i64 0, .int .i64 0]) ∧ ScM w.heap.size w' g n cap LF ∧ Below w.heap.size w w') ∨
  (bad = true ∧ e = .returned (.tuple #[.agg #[.int .i64 0, .int .i64 0, .slice none 0 0], .int .i64 (pF : Nat), .int .i64 150]) ∧ Below w.heap.size w w')
theorem scr_size3 : (Tryz.prog.info? 26).map (·.size) = some 3 := by kernel_rfl

set_option maxRecDepth 20000 in
set_option maxHeartbeats 8000000 in
theorem read_known (W H : Nat) (l : List Ce) (v : Value) (q : ByteArray) (I : Nat → Stt → Prop) (bad : Bool) (LF : List Ce) (pF : Nat) (w : World) (hv : LsC w v l) (hn : NoNil v) (hE : scE W H l = 0) (hl0 : 0 < l.length) (hq : q.size ≤ 1048576) (K : Kno W H q ⟨0, 0, coZ, coZ, l⟩ I bad LF pF) (T : Tabs w) (D : TabC w) :
    Calls Tryz.prog 22 #[.agg #[.int .i64 (W : Nat), .int .i64 (H : Nat), v], .string q] w fun e w' => RdAns W H bad LF pF w e w' := by
  have hs : szB W H = true ∧ (l.length : Int) = W * H := by
    unfold scE at hE
    split at hE
    · rename_i h; exact ⟨h.1, h.2.1⟩
    · cases hE
  obtain ⟨hs, hlen⟩ := hs
  obtain ⟨s1, s2, s3, s4, s5⟩ := szB_iff.1 hs
  have HC : Hid (∀ W1, Below w.heap.size w W1 → Calls Tryz.prog 23 #[.agg #[.int .i64 (W : Nat), .int .i64 (H : Nat), v]] W1 fun e w' => e = .returned (.int .i64 0) ∧ Below W1.heap.size W1 w') := fun W1 h => by
    have := checkC_any W H l v W1 (hv.below h) (by omega) (T.below h)
    rw [hE] at this
    exact this
  have HCo : Hid (∀ W1, Below w.heap.size w W1 → Calls Tryz.prog 37 #[.agg #[.int .i64 (W : Nat), .int .i64 (H : Nat), v]] W1 fun e w' => ∃ u, e = .returned (.agg #[.int .i64 (W : Nat), .int .i64 (H : Nat), u]) ∧ Hid (OwC W1.heap.size w' u l ∧ Below W1.heap.size W1 w')) := fun W1 h => copied_any W H l v W1 (hv.below h) hn (by omega)
  have HK : Hid (Kno W H q ⟨0, 0, coZ, coZ, l⟩ I bad LF pF) := K
  have HTh : Hid (∀ lo b g n cap s t p z W1, RdS lo b W H g n cap s W1 → (n : Int) = W * H → Below w.heap.size w W1 → p < q.size → Stp W H s (q.extract p q.size) z t → Calls Tryz.prog 59 #[.pointer (some ⟨b, 0, none⟩), .string (q.extract p q.size)] W1 fun e w' => e = .returned (.int .i64 (z : Nat)) ∧ RdS lo b W H g n cap t w' ∧ Below lo W1 w') := fun lo b g n cap s t p z W1 h1 h2 h3 h4 h5 => thing_any lo b W H g n cap s t _ z W1 h1 (by simp; omega) (by simp; omega) hs h2 (T.below h3) (D.below h3) h5
  have HNo : Hid (∀ lo b g n cap s p W1, RdS lo b W H g n cap s W1 → Below w.heap.size w W1 → p < q.size → NoS W H s (q.extract p q.size) → Calls Tryz.prog 59 #[.pointer (some ⟨b, 0, none⟩), .string (q.extract p q.size)] W1 fun e w' => e = .returned (.int .i64 0) ∧ Below lo W1 w') := fun lo b g n cap s p W1 h1 h3 h4 h5 => thing_no lo b W H g n cap s _ W1 h1 (by simp; omega) (by omega) (T.below h3) (D.below h3) h5
  have HLen : Hid ((l.length : Int) = W * H ∧ 0 < l.length) := ⟨hlen, hl0⟩
  have hvf : ∃ oa m cp, v = .slice oa m cp := by
    obtain ⟨oa, cp, e, _⟩ := hv
    exact ⟨oa, _, cp, e⟩
  obtain ⟨oa, m, cp, rfl⟩ := hvf
  have H0 : Hid (∀ W1, W1 = (w.alloc (.cells #[.int .i64 (W : Nat), .int .i64 (H : Nat), .slice oa m cp] 26)).alloc (.cells #[.int .i64 0, .int .i64 0, .slice none 0 0] 26) → Bk W1 w.heap.size #[.int .i64 (W : Nat), .int .i64 (H : Nat), .slice oa m cp] 26 ∧ Bk W1 (w.heap.size + 1) #[.int .i64 0, .int .i64 0, .slice none 0 0] 26 ∧ Below w.heap.size w W1) := fun W1 hW => by
    have k2 := Bk.new (w.alloc (.cells #[.int .i64 (W : Nat), .int .i64 (H : Nat), .slice oa m cp] 26)) #[.int .i64 0, .int .i64 0, .slice none 0 0] 26
    simp only [World.size_alloc] at k2
    subst hW
    exact ⟨(Bk.new w _ _).below ((Below.refl _ _).alloc (Nat.le_refl _) _), k2, ((Below.refl _ w).alloc (Nat.le_refl _) _).alloc (by simp) _⟩
  have hqI : decide ((1048576 : Int) < (q.size : Int)) = false := by simp; omega
  clear hv hn hE K T D hs hlen hl0 s1 s2 s3 s4 s5
  go_enter Tryz.func22, Tryz.ntmps22
  go_wp2_with fail
  obtain ⟨W1, hW1⟩ : ∃ W1, W1 = (w.alloc (.cells #[.int .i64 (W : Nat), .int .i64 (H : Nat), .slice oa m cp] 26)).alloc (.cells #[.int .i64 0, .int .i64 0, .slice none 0 0] 26) := ⟨_, rfl⟩
  obtain ⟨sb, hsb⟩ : ∃ sb, sb = w.heap.size := ⟨_, rfl⟩
  have H1 : Hid (Bk W1 sb #[.int .i64 (W : Nat), .int .i64 (H : Nat), .slice oa m cp] 26 ∧ Bk W1 (sb + 1) #[.int .i64 0, .int .i64 0, .slice none 0 0] 26 ∧ Below w.heap.size w W1) := by rw [hsb]; exact H0.out W1 hW1
  have HSb : Hid (w.heap.size ≤ sb) := by rw [hsb]; exact Nat.le_refl _
  rw [← hW1, ← hsb]
  clear hW1 hsb H0
  refine (HC.out _ H1.out.2.2).mono ?_
  rintro e W2 ⟨rfl, hb2⟩
  have H2 : Hid (Bk W2 sb #[.int .i64 (W : Nat), .int .i64 (H : Nat), .slice oa m cp] 26 ∧ Bk W2 (sb + 1) #[.int .i64 0, .int .i64 0, .slice none 0 0] 26 ∧ Below w.heap.size w W2) := ⟨H1.out.1.below hb2, H1.out.2.1.below hb2, H1.out.2.2.trans (hb2.mono H1.out.2.2.size)⟩
  obtain ⟨x0, x1, x2⟩ := Bk.at3S H2.out.1
  clear hb2 H1 HC
  go_wp2_with fail
  refine (HCo.out _ H2.out.2.2).mono ?_
  rintro e W3 ⟨u, rfl, hu⟩
  obtain ⟨gu, cu, rfl, hsm⟩ := hu.out.1.scm HLen.out.2
  obtain ⟨n, hnn⟩ : ∃ n, n = l.length := ⟨_, rfl⟩
  rw [← hnn] at hsm ⊢
  have HNn : Hid ((n : Int) = W * H) := by rw [hnn]; exact HLen.out.1
  obtain ⟨lo, hlo⟩ : ∃ lo, lo = W2.heap.size := ⟨_, rfl⟩
  have H3 : Hid (∀ W4, W4 = W3.alloc (.cells (rdC W H gu n cu 0 0 coZ coZ) 111) → RdS lo W3.heap.size W H gu n cu ⟨0, 0, coZ, coZ, l⟩ W4 ∧ Below lo W2 W4) := fun W4 hW => by
    rw [hlo]
    subst hW
    have hb3 := hu.out.2
    exact ⟨⟨Bk.new _ _ _, hsm.below ((Below.refl _ _).alloc (Nat.le_refl _) _), by have := hsm.lt.2; omega, hb3.size, by simp; have := hb3.size; omega⟩, hb3.alloc hb3.size _⟩
  have HLo : Hid (w.heap.size ≤ lo ∧ sb + 1 < lo ∧ Below w.heap.size w W2) := by rw [hlo]; exact ⟨H2.out.2.2.size, H2.out.2.1.lt, H2.out.2.2⟩
  have HRb : Hid (∀ W4, Below lo W2 W4 → Bk W4 (sb + 1) #[.int .i64 0, .int .i64 0, .slice none 0 0] 26) := fun W4 h => by
    rw [hlo] at h
    exact H2.out.2.1.below h
  clear hu hsm hnn H2 x0 x1 x2 hlo HCo
  go_wp2_with fail
  obtain ⟨W4, hW4⟩ : ∃ W4, W4 = W3.alloc (.cells (rdC W H gu n cu 0 0 coZ coZ) 111) := ⟨_, rfl⟩
  obtain ⟨b, hb⟩ : ∃ b, b = W3.heap.size := ⟨_, rfl⟩
  have H4 : Hid (RdS lo b W H gu n cu ⟨0, 0, coZ, coZ, l⟩ W4 ∧ Below lo W2 W4) := by rw [hb]; exact H3.out W4 hW4
  rw [show W3.alloc (.cells #[.int .i64 (W : Nat), .int .i64 (H : Nat), .slice (some ⟨gu, 0, none⟩) n cu, .int .i64 0, .int .i64 0, .int .u8 0, .int .u8 0, .int .u8 0, .int .u8 0, .int .u8 0, .int .u8 0, .int .u8 0, .int .u8 0] 111) = W4 from hW4.symm, ← hb]
  clear hW4 hb H3
  go_loopw [9] (fun i wr => ∃ (p : Nat) (s : Stt), p ≤ q.size ∧ i = .int .i64 p ∧ Hid (I p s ∧ RdS lo b W H gu n cu s wr ∧ Below lo W2 wr)) (fun i _ => q.size - (RowKit.intOf i).toNat)
  case atStart => exact ⟨0, _, Nat.zero_le _, rfl, HK.out.st, H4.out.1, H4.out.2⟩
  case round =>
    obtain ⟨p, s, hp, rfl, HR⟩ := hrel
    clear H4
    have hbw : Below w.heap.size w wr := HLo.out.2.2.trans (HR.out.2.2.mono HLo.out.1)
    by_cases hlt : p < q.size
    · have ip : (p : Int) < q.size := by omega
      have ip2 : (p : Int) ≤ q.size := by omega
      rcases HK.out.go p s HR.out.1 hlt with ⟨z, t, hz0, hz1, hst, hI⟩ | ⟨hbad, hpF, hno⟩
      · have HT : Hid (Calls Tryz.prog 59 #[.pointer (some ⟨b, 0, none⟩), .string (q.extract p q.size)] wr fun e w' => e = .returned (.int .i64 (z : Nat)) ∧ RdS lo b W H gu n cu t w' ∧ Below lo wr w') := HTh.out lo b gu n cu s t p z wr HR.out.2.1 HNn.out hbw hlt hst
        have HI : Hid (I (p + z) t) := hI
        have hzz : ((z : Int) == 0) = false := by simp; omega
        clear hst hI
        go_wp2_with fail
        refine HT.out.mono ?_
        rintro e W6 ⟨rfl, h6, h7⟩
        have H6 : Hid (I (p + z) t ∧ RdS lo b W H gu n cu t W6 ∧ Below lo W2 W6) := ⟨HI.out, h6, HR.out.2.2.trans h7⟩
        clear h6 h7 HT HI HR hbw
        go_wp2
        exact ⟨⟨p + z, t, hz1, by go_num, H6⟩, by simp [RowKit.intOf]; omega⟩
      · have HT : Hid (Calls Tryz.prog 59 #[.pointer (some ⟨b, 0, none⟩), .string (q.extract p q.size)] wr fun e w' => e = .returned (.int .i64 0) ∧ Below lo wr w') := HNo.out lo b gu n cu s p wr HR.out.2.1 hbw hlt hno
        have HB : Hid (bad = true ∧ p = pF) := ⟨hbad, hpF⟩
        clear hno hbad hpF
        go_wp2_with fail
        refine HT.out.mono ?_
        rintro e W6 ⟨rfl, h7⟩
        have h8 := HR.out.2.2.trans h7
        have H6 : Hid (Bk W6 (sb + 1) #[.int .i64 0, .int .i64 0, .slice none 0 0] 26 ∧ Below w.heap.size w W6) := ⟨HRb.out _ h8, HLo.out.2.2.trans (h8.mono HLo.out.1)⟩
        clear h7 h8 HT HR hbw
        go_wp2_with (refine wpList_store_row rfl 26 (.tmp 4) (.tmp 34) rfl (sb + 1) #[.int .i64 0, .int .i64 0, .slice none 0 0] rfl rfl 26 _ H6.out.1 scr_size3 rfl (by simp [Value.oneCell']) ?_)
        obtain ⟨W7, hW7⟩ : ∃ W7, W7 = W6.setRow (sb + 1) #[.int .i64 0, .int .i64 0, .slice none 0 0] := ⟨_, rfl⟩
        have H7 : Hid (Bk W7 (sb + 1) #[.int .i64 0, .int .i64 0, .slice none 0 0] 26 ∧ Below w.heap.size w W7) := by rw [hW7]; exact ⟨setRow_heap W6 (sb + 1) _ _ 26 _ H6.out.1, below_setRow H6.out.2 (by have := HSb.out; omega) _⟩
        rw [← hW7]
        clear hW7 H6
        go_wp2_with fail
        have hld : (loadVar 26 ⟨sb + 1, 0, none⟩).run Tryz.prog W7 = .ok (.agg #[.int .i64 0, .int .i64 0, .slice none 0 0]) W7 := run_loadVar_row W7 (sb + 1) 26 26 _ _ _ H7.out.1 Tryz.underlying26 rfl scr_size3
        refine bodyPost_ret (v := .tuple #[.agg #[.int .i64 0, .int .i64 0, .slice none 0 0], .int .i64 (p : Nat), .int .i64 150]) ?_ rfl (.inr ⟨HB.out.1, by rw [HB.out.2], H7.out.2⟩)
        simp [results, Tryz.results22, asAddr, hld]
    · obtain rfl : p = q.size := by omega
      have HE : Hid (bad = false ∧ s.L = LF) := HK.out.en s HR.out.1
      have H6 : Hid (Bk wr (sb + 1) #[.int .i64 0, .int .i64 0, .slice none 0 0] 26 ∧ Below w.heap.size w wr ∧ ScM w.heap.size wr gu n cu LF) := by
        refine ⟨HRb.out _ HR.out.2.2, hbw, ?_⟩
        rw [← HE.out.2]
        exact ⟨HR.out.2.1.sc.1, row_weaken HR.out.2.1.sc.2 HLo.out.1⟩
      have r0 : wr.cell? ⟨b, 0, none⟩ = some (.int .i64 (W : Nat)) := HR.out.2.1.bk.cell 0
      have r1 : wr.cell? ⟨b, 1, none⟩ = some (.int .i64 (H : Nat)) := HR.out.2.1.bk.cell 1
      have r2 : wr.cell? ⟨b, 2, none⟩ = some (.slice (some ⟨gu, 0, none⟩) n cu) := HR.out.2.1.bk.cell 2
      have hgb : gu ≠ sb + 1 := by have h1 := HR.out.2.1.sc.lt.1; have h2 := HLo.out.2.1; omega
      clear HR hbw
      go_wp2_with (refine wpList_store_row rfl 26 (.tmp 4) (.tmp 40) rfl (sb + 1) #[.int .i64 (W : Nat), .int .i64 (H : Nat), .slice (some ⟨gu, 0, none⟩) n cu] rfl rfl 26 _ H6.out.1 scr_size3 rfl (by simp [Value.oneCell']) ?_)
      obtain ⟨W7, hW7⟩ : ∃ W7, W7 = wr.setRow (sb + 1) #[.int .i64 (W : Nat), .int .i64 (H : Nat), .slice (some ⟨gu, 0, none⟩) n cu] := ⟨_, rfl⟩
      have H7 : Hid (Bk W7 (sb + 1) #[.int .i64 (W : Nat), .int .i64 (H : Nat), .slice (some ⟨gu, 0, none⟩) n cu] 26 ∧ Below w.heap.size w W7 ∧ ScM w.heap.size W7 gu n cu LF) := by
        rw [hW7]
        refine ⟨setRow_heap wr (sb + 1) _ _ 26 _ H6.out.1, below_setRow H6.out.2.1 (by have := HSb.out; omega) _, H6.out.2.2.1, ?_⟩
        exact World.ownsRow.kept (row := some (sb + 1)) H6.out.2.2.2 ⟨rfl, rfl, rfl, by simp, fun k _ hk => setRow_other _ _ _ _ (fun e => hk (by simp [e]))⟩ (.inr (fun e => hgb (by injection e)))
      rw [← hW7]
      clear hW7 H6 r0 r1 r2
      go_wp2_with fail
      have hld : (loadVar 26 ⟨sb + 1, 0, none⟩).run Tryz.prog W7 = .ok (.agg #[.int .i64 (W : Nat), .int .i64 (H : Nat), .slice (some ⟨gu, 0, none⟩) n cu]) W7 := run_loadVar_row W7 (sb + 1) 26 26 _ _ _ H7.out.1 Tryz.underlying26 rfl scr_size3
      refine bodyPost_ret (v := .tuple #[.agg #[.int .i64 (W : Nat), .int .i64 (H : Nat), .slice (some ⟨gu, 0, none⟩) n cu], .int .i64 0, .int .i64 0]) ?_ rfl (.inl ⟨HE.out.1, gu, n, cu, rfl, H7.out.2.2, H7.out.2.1⟩)
      simp [results, Tryz.results22, asAddr, hld]

end Go.Proofs.YtcahdmfmcojaoaaGreatDoor
