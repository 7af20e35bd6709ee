/-
  Texts of this claim, one behind the other: what each is about stands ahead of it.
-/
import Derived.Test.YtcahdmfmcojaoaaGreatDoorK46
import Derived.Test.YtcahdmfmcojaoaaGreatDoorK48
import Derived.Test.YtcahdmfmcojaoaaGreatDoorK33
import Derived.Test.YtcahdmfmcojaoaaGreatDoorK47
import Derived.Test.YtcahdmfmcojaoaaGreatDoorK43
import Derived.Test.YtcahdmfmcojaoaaGreatDoorK44
import Derived.Test.YtcahdmfmcojaoaaGreatDoorK45
import Derived.Test.YtcahdmfmcojaoaaGreatDoorK42
/-
  What package list calls of Go's library: slices.Grow, Concat, Clone of strokes.
-/
namespace Go.Proofs.YtcahdmfmcojaoaaGreatDoor
open Go.RowKit Go.Shelf

end Go.Proofs.YtcahdmfmcojaoaaGreatDoor

/-
  Contracts of package list: Same, Join.
-/
namespace Go.Proofs.YtcahdmfmcojaoaaGreatDoor
open Go.RowKit

end Go.Proofs.YtcahdmfmcojaoaaGreatDoor

/-
  CellsTwice: one list drawn behind another one.
-/
namespace Go.Proofs.YtcahdmfmcojaoaaGreatDoor
open Go.RowKit

set_option maxHeartbeats 1000000 in
theorem large15 (a b : Int) (oa : Option Addr) (n cap : Nat) (w : World) : Calls Tryz.prog 6 #[.agg #[.int .i64 a, .int .i64 b, .slice oa n cap]] w fun e w' => e = .returned (.bool (decide ((600 : Int) < (n : Nat)))) ∧ Below w.heap.size w w' := by
  have hB := (Below.refl _ w).alloc (Nat.le_refl _) (.cells #[.int .i64 a, .int .i64 b, .slice oa n cap] 26)
  obtain ⟨c0, c1, c2⟩ := Bk.at3S (Bk.new w #[.int .i64 a, .int .i64 b, .slice oa n cap] 26)
  go_enter Tryz.func6, Tryz.ntmps6
  go_wp2
  go_ret
  exact ⟨rfl, hB⟩

end Go.Proofs.YtcahdmfmcojaoaaGreatDoor

/-
  CellsAsked: cells, texts and blanks.
-/
namespace Go.Proofs.YtcahdmfmcojaoaaGreatDoor
open Go.RowKit

structure AkW (w : World) (sB : Nat) (a b x y sw sh : Int) (c : Co) (v : Value) (L : List Ce) (W : World) : Prop where
  s : Bk W sB #[.int .i64 a, .int .i64 b, v] 26
  p : Bk W (sB + 1) #[.int .i64 x, .int .i64 y] 28
  z : Bk W (sB + 1 + 1) #[.int .i64 sw, .int .i64 sh] 23
  c : Bk W (sB + 1 + 1 + 1) #[.int .u8 c.r, .int .u8 c.g, .int .u8 c.b, .int .u8 c.a] 30
  l : LsC W v L
  b : Below w.heap.size w W
theorem AkW.below {w : World} {sB : Nat} {a b x y sw sh : Int} {c : Co} {v : Value} {L : List Ce} {W W' : World} (h : AkW w sB a b x y sw sh c v L W) (hb : Below W.heap.size W W') : AkW w sB a b x y sw sh c v L W' :=
  ⟨h.s.below hb, h.p.below hb, h.z.below hb, h.c.below hb, h.l.below hb, h.b.trans (hb.mono h.b.size)⟩
theorem AkW.alloc {w : World} {sB : Nat} {a b x y sw sh : Int} {c : Co} {v : Value} {L : List Ce} {W : World} (h : AkW w sB a b x y sw sh c v L W) (o : Obj) : AkW w sB a b x y sw sh c v L (W.alloc o) := h.below ((Below.refl _ W).alloc (Nat.le_refl _) o)

set_option maxRecDepth 20000 in
set_option maxHeartbeats 8000000 in
theorem casked_walk (a b x y sw sh : Int) (c : Co) (L : List Ce) (v : Value) (w : World) (hv : LsC w v L) (nv : NoNil v) (hE : Env15 w) :
    Calls Tryz.prog 3 #[.agg #[.int .i64 a, .int .i64 b, v], .agg #[.int .i64 x, .int .i64 y], .agg #[.int .i64 sw, .int .i64 sh], (Value.agg #[.int .u8 c.r, .int .u8 c.g, .int .u8 c.b, .int .u8 c.a])] w fun e w' => e = .returned (.bool true) ∧ Below w.heap.size w w' := by
  obtain ⟨oa, cap, rfl, hcap, _⟩ := id hv
  obtain ⟨n, hn⟩ : ∃ n, n = L.length := ⟨_, rfl⟩
  have H0 : Hid (∀ W, W = (((w.alloc (.cells #[.int .i64 a, .int .i64 b, .slice oa n cap] 26)).alloc (.cells #[.int .i64 x, .int .i64 y] 28)).alloc (.cells #[.int .i64 sw, .int .i64 sh] 23)).alloc (.cells #[.int .u8 c.r, .int .u8 c.g, .int .u8 c.b, .int .u8 c.a] 30) → AkW w w.heap.size a b x y sw sh c (.slice oa n cap) L W) := fun W hW => by
    have k1 := Bk.new w #[.int .i64 a, .int .i64 b, .slice oa n cap] 26
    have k2 := Bk.new (w.alloc (.cells #[.int .i64 a, .int .i64 b, .slice oa n cap] 26)) #[.int .i64 x, .int .i64 y] 28
    have k3 := Bk.new ((w.alloc (.cells #[.int .i64 a, .int .i64 b, .slice oa n cap] 26)).alloc (.cells #[.int .i64 x, .int .i64 y] 28)) #[.int .i64 sw, .int .i64 sh] 23
    have k4 := Bk.new (((w.alloc (.cells #[.int .i64 a, .int .i64 b, .slice oa n cap] 26)).alloc (.cells #[.int .i64 x, .int .i64 y] 28)).alloc (.cells #[.int .i64 sw, .int .i64 sh] 23)) #[.int .u8 c.r, .int .u8 c.g, .int .u8 c.b, .int .u8 c.a] 30
    simp only [World.size_alloc] at k2 k3 k4
    have bb : Below w.heap.size w W := by rw [hW]; exact ((((Below.refl w.heap.size w).alloc (Nat.le_refl _) _).alloc (by simp) _).alloc (by simp; omega) _).alloc (by simp; omega) _
    refine ⟨?_, ?_, ?_, ?_, by rw [hn]; exact hv.below bb, bb⟩
    · rw [hW]; exact ((k1.alk _).alk _).alk _
    · rw [hW]; exact (k2.alk _).alk _
    · rw [hW]; exact k3.alk _
    · rw [hW]; exact k4
  have HAw : Hid (∀ W, Below w.heap.size w W → Calls Tryz.prog 5 #[] W fun e w' => e = .returned (.bool true) ∧ Below W.heap.size W w') := fun W h => awake15_any W (hE.below h)
  obtain ⟨lg, hlg⟩ : ∃ lg, lg = decide ((600 : Int) < (n : Nat)) := ⟨_, rfl⟩
  have HLg : Hid (∀ W, Calls Tryz.prog 6 #[.agg #[.int .i64 a, .int .i64 b, .slice oa n cap]] W fun e w' => e = .returned (.bool lg) ∧ Below W.heap.size W w') := fun W => by rw [hlg]; exact large15 a b oa n cap W
  rw [← hn]
  cases lg with
  | true =>
    clear hv nv hE hn hcap hlg
    go_enter Tryz.func3, Tryz.ntmps3
    go_wp2_with fail
    obtain ⟨W0, hW0⟩ : ∃ W0, W0 = (((w.alloc (.cells #[.int .i64 a, .int .i64 b, .slice oa n cap] 26)).alloc (.cells #[.int .i64 x, .int .i64 y] 28)).alloc (.cells #[.int .i64 sw, .int .i64 sh] 23)).alloc (.cells #[.int .u8 c.r, .int .u8 c.g, .int .u8 c.b, .int .u8 c.a] 30) := ⟨_, rfl⟩
    have H1 := show Hid _ from H0.out W0 hW0
    rw [← hW0]
    clear hW0 H0
    obtain ⟨sB, hsB⟩ : ∃ sB, sB = w.heap.size := ⟨_, rfl⟩
    have H1 := show Hid (AkW w sB a b x y sw sh c (.slice oa n cap) L W0) from by rw [hsB]; exact H1.out
    rw [← hsB]
    clear hsB
    refine (HAw.out _ H1.out.b).mono ?_
    rintro e w1 ⟨rfl, hb⟩
    have H2 := show Hid _ from H1.out.below hb
    clear hb H1 HAw
    obtain ⟨z0, z1, z2⟩ := Bk.at3S H2.out.s
    go_wp2_with fail
    refine (HLg.out _).mono ?_
    rintro e w2 ⟨rfl, hb⟩
    have H3 := show Hid _ from H2.out.below hb
    clear hb H2 HLg z0 z1 z2
    go_wp2
    go_ret
    exact ⟨rfl, H3.out.b⟩
  | false =>
    have hl6 : L.length ≤ 600 := by
      have := of_decide_eq_false hlg.symm
      omega
    have HT : Hid (∀ W, Below w.heap.size w W → Tabs W) := fun W h => (hE.t W h).1
    obtain ⟨cc, hcc⟩ : ∃ cc, cc = atC a b L x y := ⟨_, rfl⟩
    obtain ⟨ce, hce⟩ : ∃ ce, ce = atE a b L x y := ⟨_, rfl⟩
    have HA1 : Hid (∀ W, Below w.heap.size w W → LsC W (.slice oa n cap) L → Calls Tryz.prog 7 #[.agg #[.int .i64 a, .int .i64 b, .slice oa n cap], .agg #[.int .i64 x, .int .i64 y]] W fun e w' => e = .returned (.tuple #[(Value.agg #[.int .i32 cc.r, .int .u8 cc.c.r, .int .u8 cc.c.g, .int .u8 cc.c.b, .int .u8 cc.c.a, .int .u8 cc.b.r, .int .u8 cc.b.g, .int .u8 cc.b.b, .int .u8 cc.b.a, .bool cc.wd, .bool cc.tl]), .int .i64 ce]) ∧ Below W.heap.size W w') := fun W h hl => by rw [hcc, hce]; exact atS_any a b L _ x y W hl (by omega) (HT.out W h)
    have HA2 : Hid (∀ W, LsC W (.slice oa n cap) L → Calls Tryz.prog 8 #[.agg #[.int .i64 a, .int .i64 b, .slice oa n cap], .agg #[.int .i64 x, .int .i64 y]] W fun e w' => e = .returned (.tuple #[(Value.agg #[.int .i32 cc.r, .int .u8 cc.c.r, .int .u8 cc.c.g, .int .u8 cc.c.b, .int .u8 cc.c.a, .int .u8 cc.b.r, .int .u8 cc.b.g, .int .u8 cc.b.b, .int .u8 cc.b.a, .bool cc.wd, .bool cc.tl]), .int .i64 ce]) ∧ Below W.heap.size W w') := fun W hl => by rw [hcc, hce]; exact rat15_any a b L _ x y W hl (by omega)
    obtain ⟨TT, TE, HT1, HT2⟩ : ∃ (TT : ByteArray) (TE : Int), Hid (∀ W, Below w.heap.size w W → LsC W (.slice oa n cap) L → Calls Tryz.prog 9 #[.agg #[.int .i64 a, .int .i64 b, .slice oa n cap]] W fun e w' => e = .returned (.tuple #[.string TT, .int .i64 TE]) ∧ Below W.heap.size W w') ∧ Hid (∀ W, LsC W (.slice oa n cap) L → Calls Tryz.prog 10 #[.agg #[.int .i64 a, .int .i64 b, .slice oa n cap]] W fun e w' => e = .returned (.tuple #[.string TT, .int .i64 TE]) ∧ Below W.heap.size W w') := by
      rcases sc_two a b L with h0 | h1
      · have hs : szB a b = true := by
          unfold scE at h0
          split at h0
          · next h => exact h.1
          · cases h0
        have hz := szB_iff.1 hs
        obtain ⟨a0, rfl⟩ : ∃ k : Nat, a = k := ⟨a.toNat, by omega⟩
        obtain ⟨b0, rfl⟩ : ∃ k : Nat, b = k := ⟨b.toNat, by omega⟩
        have nv' : NoNil (.slice oa n cap) := by rw [hn]; exact nv
        exact ⟨_, _, fun W h hl => text_all a0 b0 L _ W hl nv' (by omega) h0 (HT.out W h), fun W hl => rtext_all a0 b0 L _ W hl nv' h0⟩
      · exact ⟨_, _, fun W h hl => text_bad a b L _ W hl (by omega) h1 (HT.out W h), fun W hl => rtext_bad a b L _ W hl (by omega) h1⟩
    have hq := fun W => eql_cell cc cc W
    rw [eqC_self] at hq
    have HB1 : Hid (szB sw sh = false → ∀ W, Calls Tryz.prog 11 #[.agg #[.int .i64 sw, .int .i64 sh], (Value.agg #[.int .u8 c.r, .int .u8 c.g, .int .u8 c.b, .int .u8 c.a])] W fun e w' => e = .returned (.tuple #[.agg #[.int .i64 0, .int .i64 0, .slice none 0 0], .int .i64 150]) ∧ Below W.heap.size W w') := fun h W => blank_bad sw sh c W h
    have HB2 : Hid (szB sw sh = false → ∀ W, Calls Tryz.prog 12 #[.agg #[.int .i64 sw, .int .i64 sh], (Value.agg #[.int .u8 c.r, .int .u8 c.g, .int .u8 c.b, .int .u8 c.a])] W fun e w' => e = .returned (.tuple #[.agg #[.int .i64 0, .int .i64 0, .slice none 0 0], .int .i64 150]) ∧ Below W.heap.size W w') := fun h W => rblank15_bad sw sh c W h
    have HB3 : Hid (∀ m : Nat, szB sw sh = true → (m : Int) = sw * sh → ∀ W, Calls Tryz.prog 11 #[.agg #[.int .i64 sw, .int .i64 sh], (Value.agg #[.int .u8 c.r, .int .u8 c.g, .int .u8 c.b, .int .u8 c.a])] W fun e w' => ∃ u, e = .returned (.tuple #[.agg #[.int .i64 sw, .int .i64 sh, u], .int .i64 0]) ∧ LsC w' u (blkC c m) ∧ Below W.heap.size W w') := fun m h hm W => (blank_ok sw sh c m W h hm).mono fun e w' ⟨g, he, hg, hbk, hb⟩ => by
      refine ⟨_, he, ?_, hb⟩
      refine ⟨_, m, by rw [blkC_len], by rw [blkC_len]; exact Nat.le_refl _, fun _ => ⟨g, 0, rfl, hbk.lt, fun i hi => ?_⟩⟩
      rw [ceat_iff]
      intro j hj
      rw [Nat.zero_add, hbk.cell, List.getElem?_toArray, flatC_at _ i hi j hj]
    have HB4 : Hid (∀ m : Nat, szB sw sh = true → (m : Int) = sw * sh → ∀ W, Calls Tryz.prog 12 #[.agg #[.int .i64 sw, .int .i64 sh], (Value.agg #[.int .u8 c.r, .int .u8 c.g, .int .u8 c.b, .int .u8 c.a])] W fun e w' => ∃ u, e = .returned (.tuple #[.agg #[.int .i64 sw, .int .i64 sh, u], .int .i64 0]) ∧ LsC w' u (blkC c m) ∧ Below W.heap.size W w') := fun m h hm W => rblank15_ok sw sh c m W h hm
    have HSm : Hid (∀ (p q : Int) (K : List Ce) (va vb : Value) W, LsC W va K → LsC W vb K → K.length < 1000000 → Calls Tryz.prog 13 #[.agg #[.int .i64 p, .int .i64 q, va], .agg #[.int .i64 p, .int .i64 q, vb]] W fun e w' => e = .returned (.bool true) ∧ Below W.heap.size W w') := fun p q K va vb W h1 h2 h3 => scr15_any p q K va vb W h1 h2 h3
    clear hv nv hE hn hcap hlg HT hcc hce hl6
    go_enter Tryz.func3, Tryz.ntmps3
    go_wp2_with fail
    obtain ⟨W0, hW0⟩ : ∃ W0, W0 = (((w.alloc (.cells #[.int .i64 a, .int .i64 b, .slice oa n cap] 26)).alloc (.cells #[.int .i64 x, .int .i64 y] 28)).alloc (.cells #[.int .i64 sw, .int .i64 sh] 23)).alloc (.cells #[.int .u8 c.r, .int .u8 c.g, .int .u8 c.b, .int .u8 c.a] 30) := ⟨_, rfl⟩
    have H1 := show Hid _ from H0.out W0 hW0
    rw [← hW0]
    clear hW0 H0
    obtain ⟨sB, hsB⟩ : ∃ sB, sB = w.heap.size := ⟨_, rfl⟩
    have H1 := show Hid (AkW w sB a b x y sw sh c (.slice oa n cap) L W0) from by rw [hsB]; exact H1.out
    rw [← hsB]
    clear hsB
    refine (HAw.out _ H1.out.b).mono ?_
    rintro e w1 ⟨rfl, hb⟩
    have H2 := show Hid _ from H1.out.below hb
    clear hb H1 HAw
    obtain ⟨z0, z1, z2⟩ := Bk.at3S H2.out.s
    go_wp2_with fail
    refine (HLg.out _).mono ?_
    rintro e w2 ⟨rfl, hb⟩
    have H3 := show Hid _ from H2.out.below hb
    clear hb H2 HLg z0 z1 z2
    obtain ⟨z0, z1, z2⟩ := Bk.at3S H3.out.s
    have p0 := H3.out.p.cell 0
    have p1 := H3.out.p.cell 1
    simp only [List.getElem?_toArray, List.getElem?_cons_zero, List.getElem?_cons_succ] at p0 p1
    go_wp2_with fail
    refine (HA1.out _ H3.out.b H3.out.l).mono ?_
    rintro e w3 ⟨rfl, hb⟩
    obtain ⟨bA, hbA⟩ : ∃ bA, bA = w3.heap.size := ⟨_, rfl⟩
    obtain ⟨W4, hW4⟩ : ∃ W4, W4 = w3.alloc (.cells (#[.int .i32 cc.r, .int .u8 cc.c.r, .int .u8 cc.c.g, .int .u8 cc.c.b, .int .u8 cc.c.a, .int .u8 cc.b.r, .int .u8 cc.b.g, .int .u8 cc.b.b, .int .u8 cc.b.a, .bool cc.wd, .bool cc.tl]) 34) := ⟨_, rfl⟩
    have H4 : Hid (AkW w sB a b x y sw sh c (.slice oa n cap) L W4 ∧ Bk W4 bA (#[.int .i32 cc.r, .int .u8 cc.c.r, .int .u8 cc.c.g, .int .u8 cc.c.b, .int .u8 cc.c.a, .int .u8 cc.b.r, .int .u8 cc.b.g, .int .u8 cc.b.b, .int .u8 cc.b.a, .bool cc.wd, .bool cc.tl]) 34) := by
      rw [hW4, hbA]
      exact ⟨(H3.out.below hb).alloc _, Bk.new _ _ _⟩
    clear hb H3 HA1 z0 z1 z2 p0 p1
    obtain ⟨z0, z1, z2⟩ := Bk.at3S H4.out.1.s
    have p0 := H4.out.1.p.cell 0
    have p1 := H4.out.1.p.cell 1
    simp only [List.getElem?_toArray, List.getElem?_cons_zero, List.getElem?_cons_succ] at p0 p1
    rw [hW4] at z0 z1 z2 p0 p1
    go_wp2_with fail
    rw [← hW4, ← hbA]
    rw [← hW4] at z0 z1 z2 p0 p1
    clear hW4 hbA
    refine (HA2.out _ H4.out.1.l).mono ?_
    rintro e w5 ⟨rfl, hb⟩
    obtain ⟨bC, hbC⟩ : ∃ bC, bC = w5.heap.size := ⟨_, rfl⟩
    obtain ⟨W6, hW6⟩ : ∃ W6, W6 = w5.alloc (.cells (#[.int .i32 cc.r, .int .u8 cc.c.r, .int .u8 cc.c.g, .int .u8 cc.c.b, .int .u8 cc.c.a, .int .u8 cc.b.r, .int .u8 cc.b.g, .int .u8 cc.b.b, .int .u8 cc.b.a, .bool cc.wd, .bool cc.tl]) 34) := ⟨_, rfl⟩
    have H6 : Hid (AkW w sB a b x y sw sh c (.slice oa n cap) L W6 ∧ Bk W6 bA (#[.int .i32 cc.r, .int .u8 cc.c.r, .int .u8 cc.c.g, .int .u8 cc.c.b, .int .u8 cc.c.a, .int .u8 cc.b.r, .int .u8 cc.b.g, .int .u8 cc.b.b, .int .u8 cc.b.a, .bool cc.wd, .bool cc.tl]) 34 ∧ Bk W6 bC (#[.int .i32 cc.r, .int .u8 cc.c.r, .int .u8 cc.c.g, .int .u8 cc.c.b, .int .u8 cc.c.a, .int .u8 cc.b.r, .int .u8 cc.b.g, .int .u8 cc.b.b, .int .u8 cc.b.a, .bool cc.wd, .bool cc.tl]) 34) := by
      rw [hW6, hbC]
      exact ⟨(H4.out.1.below hb).alloc _, (H4.out.2.below hb).alk _, Bk.new _ _ _⟩
    clear hb H4 HA2 z0 z1 z2 p0 p1
    obtain ⟨z0, z1, z2⟩ := Bk.at3S H6.out.1.s
    rw [hW6] at z0 z1 z2
    go_wp2_with fail
    rw [← hW6, ← hbC]
    rw [← hW6] at z0 z1 z2
    clear hW6 hbC
    refine (HT1.out _ H6.out.1.b H6.out.1.l).mono ?_
    rintro e w7 ⟨rfl, hb⟩
    have H7 : Hid (AkW w sB a b x y sw sh c (.slice oa n cap) L w7 ∧ Bk w7 bA (#[.int .i32 cc.r, .int .u8 cc.c.r, .int .u8 cc.c.g, .int .u8 cc.c.b, .int .u8 cc.c.a, .int .u8 cc.b.r, .int .u8 cc.b.g, .int .u8 cc.b.b, .int .u8 cc.b.a, .bool cc.wd, .bool cc.tl]) 34 ∧ Bk w7 bC (#[.int .i32 cc.r, .int .u8 cc.c.r, .int .u8 cc.c.g, .int .u8 cc.c.b, .int .u8 cc.c.a, .int .u8 cc.b.r, .int .u8 cc.b.g, .int .u8 cc.b.b, .int .u8 cc.b.a, .bool cc.wd, .bool cc.tl]) 34) := ⟨H6.out.1.below hb, H6.out.2.1.below hb, H6.out.2.2.below hb⟩
    clear hb H6 HT1 z0 z1 z2
    obtain ⟨z0, z1, z2⟩ := Bk.at3S H7.out.1.s
    go_wp2_with fail
    refine (HT2.out _ H7.out.1.l).mono ?_
    rintro e w8 ⟨rfl, hb⟩
    have H8 : Hid (AkW w sB a b x y sw sh c (.slice oa n cap) L w8 ∧ Bk w8 bA (#[.int .i32 cc.r, .int .u8 cc.c.r, .int .u8 cc.c.g, .int .u8 cc.c.b, .int .u8 cc.c.a, .int .u8 cc.b.r, .int .u8 cc.b.g, .int .u8 cc.b.b, .int .u8 cc.b.a, .bool cc.wd, .bool cc.tl]) 34 ∧ Bk w8 bC (#[.int .i32 cc.r, .int .u8 cc.c.r, .int .u8 cc.c.g, .int .u8 cc.c.b, .int .u8 cc.c.a, .int .u8 cc.b.r, .int .u8 cc.b.g, .int .u8 cc.b.b, .int .u8 cc.b.a, .bool cc.wd, .bool cc.tl]) 34) := ⟨H7.out.1.below hb, H7.out.2.1.below hb, H7.out.2.2.below hb⟩
    clear hb H7 HT2 z0 z1 z2
    obtain ⟨c0, c1, c2, c3, c4, c5, c6, c7, c8, c9, c10⟩ := bk_ceat H8.out.2.1
    obtain ⟨d0, d1, d2, d3, d4, d5, d6, d7, d8, d9, d10⟩ := bk_ceat H8.out.2.2
    simp only [Nat.zero_add] at c0 c1 c2 c3 c4 c5 c6 c7 c8 c9 c10 d0 d1 d2 d3 d4 d5 d6 d7 d8 d9 d10
    have q0 := H8.out.1.z.cell 0
    have q1 := H8.out.1.z.cell 1
    simp only [List.getElem?_toArray, List.getElem?_cons_zero, List.getElem?_cons_succ] at q0 q1
    have H9 : Hid (AkW w sB a b x y sw sh c (.slice oa n cap) L w8) := H8.out.1
    clear H8
    by_cases hG : szB sw sh = true ∧ 600 < sw * sh
    · have hz := szB_iff.1 hG.1
      have g1 := hz.1
      have g2 := hz.2.1
      have g3 := hz.2.2.1
      have g4 := hz.2.2.2.1
      have g5 := hz.2.2.2.2
      have g6 := hG.2
      have g7 : 0 ≤ sw * sh := by omega
      clear hG hz HB1 HB2 HB3 HB4 HSm
      go_wp2
      go_ret
      exact ⟨rfl, H9.out.b⟩
    have HG : Hid (¬ (szB sw sh = true ∧ 600 < sw * sh)) := hG
    clear hG
    have cs : ¬ 0 ≤ sw ∨ (0 ≤ sw ∧ ¬ 0 ≤ sh) ∨ (0 ≤ sw ∧ 0 ≤ sh ∧ ¬ sw ≤ 16384) ∨ (0 ≤ sw ∧ 0 ≤ sh ∧ sw ≤ 16384 ∧ ¬ sh ≤ 16384) ∨ (0 ≤ sw ∧ 0 ≤ sh ∧ sw ≤ 16384 ∧ sh ≤ 16384 ∧ ¬ sw * sh ≤ 262144) ∨ (0 ≤ sw ∧ 0 ≤ sh ∧ sw ≤ 16384 ∧ sh ≤ 16384 ∧ sw * sh ≤ 262144) := by omega
    rcases cs with g1 | ⟨g1, g2⟩ | ⟨g1, g2, g3⟩ | ⟨g1, g2, g3, g4⟩ | ⟨g1, g2, g3, g4, g5⟩ | ⟨g1, g2, g3, g4, g5⟩
    · have hbad : szB sw sh = false := by rw [← Bool.not_eq_true, szB_iff]; omega
      have HB1' : Hid (∀ W, Calls Tryz.prog 11 #[.agg #[.int .i64 sw, .int .i64 sh], (Value.agg #[.int .u8 c.r, .int .u8 c.g, .int .u8 c.b, .int .u8 c.a])] W fun e w' => e = .returned (.tuple #[.agg #[.int .i64 0, .int .i64 0, .slice none 0 0], .int .i64 150]) ∧ Below W.heap.size W w') := HB1.out hbad
      have HB2' : Hid (∀ W, Calls Tryz.prog 12 #[.agg #[.int .i64 sw, .int .i64 sh], (Value.agg #[.int .u8 c.r, .int .u8 c.g, .int .u8 c.b, .int .u8 c.a])] W fun e w' => e = .returned (.tuple #[.agg #[.int .i64 0, .int .i64 0, .slice none 0 0], .int .i64 150]) ∧ Below W.heap.size W w') := HB2.out hbad
      clear HB1 HB2 HB3 HB4 HG hbad
      have e0 := H9.out.c.cell 0
      have e1 := H9.out.c.cell 1
      have e2 := H9.out.c.cell 2
      have e3 := H9.out.c.cell 3
      simp only [List.getElem?_toArray, List.getElem?_cons_zero, List.getElem?_cons_succ] at e0 e1 e2 e3
      go_wp2_with fail
      refine (HB1'.out _).mono ?_
      rintro e w9 ⟨rfl, hb⟩
      obtain ⟨bE, hbE⟩ : ∃ bE, bE = w9.heap.size := ⟨_, rfl⟩
      obtain ⟨W10, hW10⟩ : ∃ W10, W10 = w9.alloc (.cells #[.int .i64 0, .int .i64 0, .slice none 0 0] 26) := ⟨_, rfl⟩
      have H10 : Hid (AkW w sB a b x y sw sh c (.slice oa n cap) L W10 ∧ Bk W10 bE #[.int .i64 0, .int .i64 0, .slice none 0 0] 26 ∧ (True)) := by
        rw [hW10, hbE]
        exact ⟨(H9.out.below hb).alloc _, Bk.new _ _ _, True.intro⟩
      clear hb H9 HB1' q0 q1 e0 e1 e2 e3 c0 c1 c2 c3 c4 c5 c6 c7 c8 c9 c10 d0 d1 d2 d3 d4 d5 d6 d7 d8 d9 d10
      have q0 := H10.out.1.z.cell 0
      have q1 := H10.out.1.z.cell 1
      have e0 := H10.out.1.c.cell 0
      have e1 := H10.out.1.c.cell 1
      have e2 := H10.out.1.c.cell 2
      have e3 := H10.out.1.c.cell 3
      simp only [List.getElem?_toArray, List.getElem?_cons_zero, List.getElem?_cons_succ] at q0 q1 e0 e1 e2 e3
      rw [hW10] at q0 q1 e0 e1 e2 e3
      go_wp2_with fail
      rw [← hW10, ← hbE]
      clear q0 q1 e0 e1 e2 e3 hW10 hbE
      refine (HB2'.out _).mono ?_
      rintro e w11 ⟨rfl, hb⟩
      obtain ⟨bF, hbF⟩ : ∃ bF, bF = w11.heap.size := ⟨_, rfl⟩
      obtain ⟨W12, hW12⟩ : ∃ W12, W12 = w11.alloc (.cells #[.int .i64 0, .int .i64 0, .slice none 0 0] 26) := ⟨_, rfl⟩
      have H12 : Hid (Below w.heap.size w W12 ∧ Bk W12 bE #[.int .i64 0, .int .i64 0, .slice none 0 0] 26 ∧ Bk W12 bF #[.int .i64 0, .int .i64 0, .slice none 0 0] 26 ∧ (True)) := by
        rw [hW12, hbF]
        exact ⟨((H10.out.1.below hb).alloc _).b, (H10.out.2.1.below hb).alk _, Bk.new _ _ _, True.intro⟩
      clear hb H10 HB2'
      obtain ⟨q0, q1, q2⟩ := Bk.at3S H12.out.2.1
      obtain ⟨e0, e1, e2⟩ := Bk.at3S H12.out.2.2.1
      rw [hW12] at q0 q1 q2 e0 e1 e2
      go_wp2_with fail
      rw [← hW12]
      clear q0 q1 q2 e0 e1 e2 hW12 hbF
      refine (HSm.out 0 0 [] _ _ _ (lsc_nil _) (lsc_nil _) (by decide)).mono ?_
      rintro e w13 ⟨rfl, hb⟩
      have H13 : Hid (Below w.heap.size w w13) := H12.out.1.trans (hb.mono H12.out.1.size)
      clear hb H12 HSm
      go_wp2
      go_ret
      exact ⟨rfl, H13.out⟩
    · have hbad : szB sw sh = false := by rw [← Bool.not_eq_true, szB_iff]; omega
      have HB1' : Hid (∀ W, Calls Tryz.prog 11 #[.agg #[.int .i64 sw, .int .i64 sh], (Value.agg #[.int .u8 c.r, .int .u8 c.g, .int .u8 c.b, .int .u8 c.a])] W fun e w' => e = .returned (.tuple #[.agg #[.int .i64 0, .int .i64 0, .slice none 0 0], .int .i64 150]) ∧ Below W.heap.size W w') := HB1.out hbad
      have HB2' : Hid (∀ W, Calls Tryz.prog 12 #[.agg #[.int .i64 sw, .int .i64 sh], (Value.agg #[.int .u8 c.r, .int .u8 c.g, .int .u8 c.b, .int .u8 c.a])] W fun e w' => e = .returned (.tuple #[.agg #[.int .i64 0, .int .i64 0, .slice none 0 0], .int .i64 150]) ∧ Below W.heap.size W w') := HB2.out hbad
      clear HB1 HB2 HB3 HB4 HG hbad
      have e0 := H9.out.c.cell 0
      have e1 := H9.out.c.cell 1
      have e2 := H9.out.c.cell 2
      have e3 := H9.out.c.cell 3
      simp only [List.getElem?_toArray, List.getElem?_cons_zero, List.getElem?_cons_succ] at e0 e1 e2 e3
      go_wp2_with fail
      refine (HB1'.out _).mono ?_
      rintro e w9 ⟨rfl, hb⟩
      obtain ⟨bE, hbE⟩ : ∃ bE, bE = w9.heap.size := ⟨_, rfl⟩
      obtain ⟨W10, hW10⟩ : ∃ W10, W10 = w9.alloc (.cells #[.int .i64 0, .int .i64 0, .slice none 0 0] 26) := ⟨_, rfl⟩
      have H10 : Hid (AkW w sB a b x y sw sh c (.slice oa n cap) L W10 ∧ Bk W10 bE #[.int .i64 0, .int .i64 0, .slice none 0 0] 26 ∧ (True)) := by
        rw [hW10, hbE]
        exact ⟨(H9.out.below hb).alloc _, Bk.new _ _ _, True.intro⟩
      clear hb H9 HB1' q0 q1 e0 e1 e2 e3 c0 c1 c2 c3 c4 c5 c6 c7 c8 c9 c10 d0 d1 d2 d3 d4 d5 d6 d7 d8 d9 d10
      have q0 := H10.out.1.z.cell 0
      have q1 := H10.out.1.z.cell 1
      have e0 := H10.out.1.c.cell 0
      have e1 := H10.out.1.c.cell 1
      have e2 := H10.out.1.c.cell 2
      have e3 := H10.out.1.c.cell 3
      simp only [List.getElem?_toArray, List.getElem?_cons_zero, List.getElem?_cons_succ] at q0 q1 e0 e1 e2 e3
      rw [hW10] at q0 q1 e0 e1 e2 e3
      go_wp2_with fail
      rw [← hW10, ← hbE]
      clear q0 q1 e0 e1 e2 e3 hW10 hbE
      refine (HB2'.out _).mono ?_
      rintro e w11 ⟨rfl, hb⟩
      obtain ⟨bF, hbF⟩ : ∃ bF, bF = w11.heap.size := ⟨_, rfl⟩
      obtain ⟨W12, hW12⟩ : ∃ W12, W12 = w11.alloc (.cells #[.int .i64 0, .int .i64 0, .slice none 0 0] 26) := ⟨_, rfl⟩
      have H12 : Hid (Below w.heap.size w W12 ∧ Bk W12 bE #[.int .i64 0, .int .i64 0, .slice none 0 0] 26 ∧ Bk W12 bF #[.int .i64 0, .int .i64 0, .slice none 0 0] 26 ∧ (True)) := by
        rw [hW12, hbF]
        exact ⟨((H10.out.1.below hb).alloc _).b, (H10.out.2.1.below hb).alk _, Bk.new _ _ _, True.intro⟩
      clear hb H10 HB2'
      obtain ⟨q0, q1, q2⟩ := Bk.at3S H12.out.2.1
      obtain ⟨e0, e1, e2⟩ := Bk.at3S H12.out.2.2.1
      rw [hW12] at q0 q1 q2 e0 e1 e2
      go_wp2_with fail
      rw [← hW12]
      clear q0 q1 q2 e0 e1 e2 hW12 hbF
      refine (HSm.out 0 0 [] _ _ _ (lsc_nil _) (lsc_nil _) (by decide)).mono ?_
      rintro e w13 ⟨rfl, hb⟩
      have H13 : Hid (Below w.heap.size w w13) := H12.out.1.trans (hb.mono H12.out.1.size)
      clear hb H12 HSm
      go_wp2
      go_ret
      exact ⟨rfl, H13.out⟩
    · have hbad : szB sw sh = false := by rw [← Bool.not_eq_true, szB_iff]; omega
      have HB1' : Hid (∀ W, Calls Tryz.prog 11 #[.agg #[.int .i64 sw, .int .i64 sh], (Value.agg #[.int .u8 c.r, .int .u8 c.g, .int .u8 c.b, .int .u8 c.a])] W fun e w' => e = .returned (.tuple #[.agg #[.int .i64 0, .int .i64 0, .slice none 0 0], .int .i64 150]) ∧ Below W.heap.size W w') := HB1.out hbad
      have HB2' : Hid (∀ W, Calls Tryz.prog 12 #[.agg #[.int .i64 sw, .int .i64 sh], (Value.agg #[.int .u8 c.r, .int .u8 c.g, .int .u8 c.b, .int .u8 c.a])] W fun e w' => e = .returned (.tuple #[.agg #[.int .i64 0, .int .i64 0, .slice none 0 0], .int .i64 150]) ∧ Below W.heap.size W w') := HB2.out hbad
      clear HB1 HB2 HB3 HB4 HG hbad
      have e0 := H9.out.c.cell 0
      have e1 := H9.out.c.cell 1
      have e2 := H9.out.c.cell 2
      have e3 := H9.out.c.cell 3
      simp only [List.getElem?_toArray, List.getElem?_cons_zero, List.getElem?_cons_succ] at e0 e1 e2 e3
      go_wp2_with fail
      refine (HB1'.out _).mono ?_
      rintro e w9 ⟨rfl, hb⟩
      obtain ⟨bE, hbE⟩ : ∃ bE, bE = w9.heap.size := ⟨_, rfl⟩
      obtain ⟨W10, hW10⟩ : ∃ W10, W10 = w9.alloc (.cells #[.int .i64 0, .int .i64 0, .slice none 0 0] 26) := ⟨_, rfl⟩
      have H10 : Hid (AkW w sB a b x y sw sh c (.slice oa n cap) L W10 ∧ Bk W10 bE #[.int .i64 0, .int .i64 0, .slice none 0 0] 26 ∧ (True)) := by
        rw [hW10, hbE]
        exact ⟨(H9.out.below hb).alloc _, Bk.new _ _ _, True.intro⟩
      clear hb H9 HB1' q0 q1 e0 e1 e2 e3 c0 c1 c2 c3 c4 c5 c6 c7 c8 c9 c10 d0 d1 d2 d3 d4 d5 d6 d7 d8 d9 d10
      have q0 := H10.out.1.z.cell 0
      have q1 := H10.out.1.z.cell 1
      have e0 := H10.out.1.c.cell 0
      have e1 := H10.out.1.c.cell 1
      have e2 := H10.out.1.c.cell 2
      have e3 := H10.out.1.c.cell 3
      simp only [List.getElem?_toArray, List.getElem?_cons_zero, List.getElem?_cons_succ] at q0 q1 e0 e1 e2 e3
      rw [hW10] at q0 q1 e0 e1 e2 e3
      go_wp2_with fail
      rw [← hW10, ← hbE]
      clear q0 q1 e0 e1 e2 e3 hW10 hbE
      refine (HB2'.out _).mono ?_
      rintro e w11 ⟨rfl, hb⟩
      obtain ⟨bF, hbF⟩ : ∃ bF, bF = w11.heap.size := ⟨_, rfl⟩
      obtain ⟨W12, hW12⟩ : ∃ W12, W12 = w11.alloc (.cells #[.int .i64 0, .int .i64 0, .slice none 0 0] 26) := ⟨_, rfl⟩
      have H12 : Hid (Below w.heap.size w W12 ∧ Bk W12 bE #[.int .i64 0, .int .i64 0, .slice none 0 0] 26 ∧ Bk W12 bF #[.int .i64 0, .int .i64 0, .slice none 0 0] 26 ∧ (True)) := by
        rw [hW12, hbF]
        exact ⟨((H10.out.1.below hb).alloc _).b, (H10.out.2.1.below hb).alk _, Bk.new _ _ _, True.intro⟩
      clear hb H10 HB2'
      obtain ⟨q0, q1, q2⟩ := Bk.at3S H12.out.2.1
      obtain ⟨e0, e1, e2⟩ := Bk.at3S H12.out.2.2.1
      rw [hW12] at q0 q1 q2 e0 e1 e2
      go_wp2_with fail
      rw [← hW12]
      clear q0 q1 q2 e0 e1 e2 hW12 hbF
      refine (HSm.out 0 0 [] _ _ _ (lsc_nil _) (lsc_nil _) (by decide)).mono ?_
      rintro e w13 ⟨rfl, hb⟩
      have H13 : Hid (Below w.heap.size w w13) := H12.out.1.trans (hb.mono H12.out.1.size)
      clear hb H12 HSm
      go_wp2
      go_ret
      exact ⟨rfl, H13.out⟩
    · have hbad : szB sw sh = false := by rw [← Bool.not_eq_true, szB_iff]; omega
      have HB1' : Hid (∀ W, Calls Tryz.prog 11 #[.agg #[.int .i64 sw, .int .i64 sh], (Value.agg #[.int .u8 c.r, .int .u8 c.g, .int .u8 c.b, .int .u8 c.a])] W fun e w' => e = .returned (.tuple #[.agg #[.int .i64 0, .int .i64 0, .slice none 0 0], .int .i64 150]) ∧ Below W.heap.size W w') := HB1.out hbad
      have HB2' : Hid (∀ W, Calls Tryz.prog 12 #[.agg #[.int .i64 sw, .int .i64 sh], (Value.agg #[.int .u8 c.r, .int .u8 c.g, .int .u8 c.b, .int .u8 c.a])] W fun e w' => e = .returned (.tuple #[.agg #[.int .i64 0, .int .i64 0, .slice none 0 0], .int .i64 150]) ∧ Below W.heap.size W w') := HB2.out hbad
      clear HB1 HB2 HB3 HB4 HG hbad
      have e0 := H9.out.c.cell 0
      have e1 := H9.out.c.cell 1
      have e2 := H9.out.c.cell 2
      have e3 := H9.out.c.cell 3
      simp only [List.getElem?_toArray, List.getElem?_cons_zero, List.getElem?_cons_succ] at e0 e1 e2 e3
      go_wp2_with fail
      refine (HB1'.out _).mono ?_
      rintro e w9 ⟨rfl, hb⟩
      obtain ⟨bE, hbE⟩ : ∃ bE, bE = w9.heap.size := ⟨_, rfl⟩
      obtain ⟨W10, hW10⟩ : ∃ W10, W10 = w9.alloc (.cells #[.int .i64 0, .int .i64 0, .slice none 0 0] 26) := ⟨_, rfl⟩
      have H10 : Hid (AkW w sB a b x y sw sh c (.slice oa n cap) L W10 ∧ Bk W10 bE #[.int .i64 0, .int .i64 0, .slice none 0 0] 26 ∧ (True)) := by
        rw [hW10, hbE]
        exact ⟨(H9.out.below hb).alloc _, Bk.new _ _ _, True.intro⟩
      clear hb H9 HB1' q0 q1 e0 e1 e2 e3 c0 c1 c2 c3 c4 c5 c6 c7 c8 c9 c10 d0 d1 d2 d3 d4 d5 d6 d7 d8 d9 d10
      have q0 := H10.out.1.z.cell 0
      have q1 := H10.out.1.z.cell 1
      have e0 := H10.out.1.c.cell 0
      have e1 := H10.out.1.c.cell 1
      have e2 := H10.out.1.c.cell 2
      have e3 := H10.out.1.c.cell 3
      simp only [List.getElem?_toArray, List.getElem?_cons_zero, List.getElem?_cons_succ] at q0 q1 e0 e1 e2 e3
      rw [hW10] at q0 q1 e0 e1 e2 e3
      go_wp2_with fail
      rw [← hW10, ← hbE]
      clear q0 q1 e0 e1 e2 e3 hW10 hbE
      refine (HB2'.out _).mono ?_
      rintro e w11 ⟨rfl, hb⟩
      obtain ⟨bF, hbF⟩ : ∃ bF, bF = w11.heap.size := ⟨_, rfl⟩
      obtain ⟨W12, hW12⟩ : ∃ W12, W12 = w11.alloc (.cells #[.int .i64 0, .int .i64 0, .slice none 0 0] 26) := ⟨_, rfl⟩
      have H12 : Hid (Below w.heap.size w W12 ∧ Bk W12 bE #[.int .i64 0, .int .i64 0, .slice none 0 0] 26 ∧ Bk W12 bF #[.int .i64 0, .int .i64 0, .slice none 0 0] 26 ∧ (True)) := by
        rw [hW12, hbF]
        exact ⟨((H10.out.1.below hb).alloc _).b, (H10.out.2.1.below hb).alk _, Bk.new _ _ _, True.intro⟩
      clear hb H10 HB2'
      obtain ⟨q0, q1, q2⟩ := Bk.at3S H12.out.2.1
      obtain ⟨e0, e1, e2⟩ := Bk.at3S H12.out.2.2.1
      rw [hW12] at q0 q1 q2 e0 e1 e2
      go_wp2_with fail
      rw [← hW12]
      clear q0 q1 q2 e0 e1 e2 hW12 hbF
      refine (HSm.out 0 0 [] _ _ _ (lsc_nil _) (lsc_nil _) (by decide)).mono ?_
      rintro e w13 ⟨rfl, hb⟩
      have H13 : Hid (Below w.heap.size w w13) := H12.out.1.trans (hb.mono H12.out.1.size)
      clear hb H12 HSm
      go_wp2
      go_ret
      exact ⟨rfl, H13.out⟩
    · obtain ⟨m1, m2⟩ := mul_bd g1 g3 g2 g4
      have hbad : szB sw sh = false := by rw [← Bool.not_eq_true, szB_iff]; omega
      have HB1' : Hid (∀ W, Calls Tryz.prog 11 #[.agg #[.int .i64 sw, .int .i64 sh], (Value.agg #[.int .u8 c.r, .int .u8 c.g, .int .u8 c.b, .int .u8 c.a])] W fun e w' => e = .returned (.tuple #[.agg #[.int .i64 0, .int .i64 0, .slice none 0 0], .int .i64 150]) ∧ Below W.heap.size W w') := HB1.out hbad
      have HB2' : Hid (∀ W, Calls Tryz.prog 12 #[.agg #[.int .i64 sw, .int .i64 sh], (Value.agg #[.int .u8 c.r, .int .u8 c.g, .int .u8 c.b, .int .u8 c.a])] W fun e w' => e = .returned (.tuple #[.agg #[.int .i64 0, .int .i64 0, .slice none 0 0], .int .i64 150]) ∧ Below W.heap.size W w') := HB2.out hbad
      clear HB1 HB2 HB3 HB4 HG hbad
      have e0 := H9.out.c.cell 0
      have e1 := H9.out.c.cell 1
      have e2 := H9.out.c.cell 2
      have e3 := H9.out.c.cell 3
      simp only [List.getElem?_toArray, List.getElem?_cons_zero, List.getElem?_cons_succ] at e0 e1 e2 e3
      go_wp2_with fail
      refine (HB1'.out _).mono ?_
      rintro e w9 ⟨rfl, hb⟩
      obtain ⟨bE, hbE⟩ : ∃ bE, bE = w9.heap.size := ⟨_, rfl⟩
      obtain ⟨W10, hW10⟩ : ∃ W10, W10 = w9.alloc (.cells #[.int .i64 0, .int .i64 0, .slice none 0 0] 26) := ⟨_, rfl⟩
      have H10 : Hid (AkW w sB a b x y sw sh c (.slice oa n cap) L W10 ∧ Bk W10 bE #[.int .i64 0, .int .i64 0, .slice none 0 0] 26 ∧ (True)) := by
        rw [hW10, hbE]
        exact ⟨(H9.out.below hb).alloc _, Bk.new _ _ _, True.intro⟩
      clear hb H9 HB1' q0 q1 e0 e1 e2 e3 c0 c1 c2 c3 c4 c5 c6 c7 c8 c9 c10 d0 d1 d2 d3 d4 d5 d6 d7 d8 d9 d10
      have q0 := H10.out.1.z.cell 0
      have q1 := H10.out.1.z.cell 1
      have e0 := H10.out.1.c.cell 0
      have e1 := H10.out.1.c.cell 1
      have e2 := H10.out.1.c.cell 2
      have e3 := H10.out.1.c.cell 3
      simp only [List.getElem?_toArray, List.getElem?_cons_zero, List.getElem?_cons_succ] at q0 q1 e0 e1 e2 e3
      rw [hW10] at q0 q1 e0 e1 e2 e3
      go_wp2_with fail
      rw [← hW10, ← hbE]
      clear q0 q1 e0 e1 e2 e3 hW10 hbE
      refine (HB2'.out _).mono ?_
      rintro e w11 ⟨rfl, hb⟩
      obtain ⟨bF, hbF⟩ : ∃ bF, bF = w11.heap.size := ⟨_, rfl⟩
      obtain ⟨W12, hW12⟩ : ∃ W12, W12 = w11.alloc (.cells #[.int .i64 0, .int .i64 0, .slice none 0 0] 26) := ⟨_, rfl⟩
      have H12 : Hid (Below w.heap.size w W12 ∧ Bk W12 bE #[.int .i64 0, .int .i64 0, .slice none 0 0] 26 ∧ Bk W12 bF #[.int .i64 0, .int .i64 0, .slice none 0 0] 26 ∧ (True)) := by
        rw [hW12, hbF]
        exact ⟨((H10.out.1.below hb).alloc _).b, (H10.out.2.1.below hb).alk _, Bk.new _ _ _, True.intro⟩
      clear hb H10 HB2'
      obtain ⟨q0, q1, q2⟩ := Bk.at3S H12.out.2.1
      obtain ⟨e0, e1, e2⟩ := Bk.at3S H12.out.2.2.1
      rw [hW12] at q0 q1 q2 e0 e1 e2
      go_wp2_with fail
      rw [← hW12]
      clear q0 q1 q2 e0 e1 e2 hW12 hbF
      refine (HSm.out 0 0 [] _ _ _ (lsc_nil _) (lsc_nil _) (by decide)).mono ?_
      rintro e w13 ⟨rfl, hb⟩
      have H13 : Hid (Below w.heap.size w w13) := H12.out.1.trans (hb.mono H12.out.1.size)
      clear hb H12 HSm
      go_wp2
      go_ret
      exact ⟨rfl, H13.out⟩
    · obtain ⟨m1, m2⟩ := mul_bd g1 g3 g2 g4
      have hok : szB sw sh = true := szB_iff.2 ⟨g1, g3, g2, g4, g5⟩
      have g6 : ¬ 600 < sw * sh := fun h => HG.out ⟨hok, h⟩
      obtain ⟨m, hm⟩ : ∃ m : Nat, (m : Int) = sw * sh := ⟨(sw * sh).toNat, by omega⟩
      have HM : Hid ((blkC c m).length < 1000000) := by show (blkC c m).length < 1000000; rw [blkC_len]; omega
      have HB1' := show Hid _ from HB3.out m hok hm
      have HB2' := show Hid _ from HB4.out m hok hm
      clear HB1 HB2 HB3 HB4 HG hok hm
      have e0 := H9.out.c.cell 0
      have e1 := H9.out.c.cell 1
      have e2 := H9.out.c.cell 2
      have e3 := H9.out.c.cell 3
      simp only [List.getElem?_toArray, List.getElem?_cons_zero, List.getElem?_cons_succ] at e0 e1 e2 e3
      go_wp2_with fail
      refine (HB1'.out _).mono ?_
      rintro e w9 ⟨u, rfl, hu, hb⟩
      obtain ⟨ou, cu, rfl, _, _⟩ := id hu
      obtain ⟨bE, hbE⟩ : ∃ bE, bE = w9.heap.size := ⟨_, rfl⟩
      obtain ⟨W10, hW10⟩ : ∃ W10, W10 = w9.alloc (.cells #[.int .i64 sw, .int .i64 sh, .slice ou (blkC c m).length cu] 26) := ⟨_, rfl⟩
      have H10 : Hid (AkW w sB a b x y sw sh c (.slice oa n cap) L W10 ∧ Bk W10 bE #[.int .i64 sw, .int .i64 sh, .slice ou (blkC c m).length cu] 26 ∧ (LsC W10 (.slice ou (blkC c m).length cu) (blkC c m))) := by
        rw [hW10, hbE]
        exact ⟨(H9.out.below hb).alloc _, Bk.new _ _ _, hu.below ((Below.refl _ _).alloc (Nat.le_refl _) _)⟩
      clear hb H9 HB1' q0 q1 e0 e1 e2 e3 c0 c1 c2 c3 c4 c5 c6 c7 c8 c9 c10 d0 d1 d2 d3 d4 d5 d6 d7 d8 d9 d10
      have q0 := H10.out.1.z.cell 0
      have q1 := H10.out.1.z.cell 1
      have e0 := H10.out.1.c.cell 0
      have e1 := H10.out.1.c.cell 1
      have e2 := H10.out.1.c.cell 2
      have e3 := H10.out.1.c.cell 3
      simp only [List.getElem?_toArray, List.getElem?_cons_zero, List.getElem?_cons_succ] at q0 q1 e0 e1 e2 e3
      rw [hW10] at q0 q1 e0 e1 e2 e3
      go_wp2_with fail
      rw [← hW10, ← hbE]
      clear q0 q1 e0 e1 e2 e3 hW10 hbE
      refine (HB2'.out _).mono ?_
      rintro e w11 ⟨u, rfl, hu, hb⟩
      obtain ⟨ov, cv, rfl, _, _⟩ := id hu
      obtain ⟨bF, hbF⟩ : ∃ bF, bF = w11.heap.size := ⟨_, rfl⟩
      obtain ⟨W12, hW12⟩ : ∃ W12, W12 = w11.alloc (.cells #[.int .i64 sw, .int .i64 sh, .slice ov (blkC c m).length cv] 26) := ⟨_, rfl⟩
      have H12 : Hid (Below w.heap.size w W12 ∧ Bk W12 bE #[.int .i64 sw, .int .i64 sh, .slice ou (blkC c m).length cu] 26 ∧ Bk W12 bF #[.int .i64 sw, .int .i64 sh, .slice ov (blkC c m).length cv] 26 ∧ (LsC W12 (.slice ou (blkC c m).length cu) (blkC c m) ∧ LsC W12 (.slice ov (blkC c m).length cv) (blkC c m))) := by
        rw [hW12, hbF]
        exact ⟨((H10.out.1.below hb).alloc _).b, (H10.out.2.1.below hb).alk _, Bk.new _ _ _, (H10.out.2.2.below hb).below ((Below.refl _ _).alloc (Nat.le_refl _) _), hu.below ((Below.refl _ _).alloc (Nat.le_refl _) _)⟩
      clear hb H10 HB2'
      obtain ⟨q0, q1, q2⟩ := Bk.at3S H12.out.2.1
      obtain ⟨e0, e1, e2⟩ := Bk.at3S H12.out.2.2.1
      rw [hW12] at q0 q1 q2 e0 e1 e2
      go_wp2_with fail
      rw [← hW12]
      clear q0 q1 q2 e0 e1 e2 hW12 hbF
      refine (HSm.out sw sh (blkC c m) _ _ _ H12.out.2.2.2.1 H12.out.2.2.2.2 HM.out).mono ?_
      rintro e w13 ⟨rfl, hb⟩
      have H13 : Hid (Below w.heap.size w w13) := H12.out.1.trans (hb.mono H12.out.1.size)
      clear hb H12 HSm
      go_wp2
      go_ret
      exact ⟨rfl, H13.out⟩

end Go.Proofs.YtcahdmfmcojaoaaGreatDoor
