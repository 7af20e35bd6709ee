/-
  Texts of this claim, one behind the other: what each is about stands ahead of it.
-/
import Derived.Test.YtfjbnejmcanamaaGreatDoorK34
import Derived.Test.YtfjbnejmcanamaaGreatDoorK15
import Derived.Test.YtfjbnejmcanamaaGreatDoorK36
import Derived.Test.YtfjbnejmcanamaaGreatDoorK16
import Derived.Test.YtfjbnejmcanamaaGreatDoorCards
import Derived.Test.YtfjbnejmcanamaaGreatDoorTie
import Derived.ProofKit
import Derived.OpenShut
import Derived.Deep.DeepHandedRow
import Derived.Lay
import Derived.LaidOnce
import Derived.SevenTiedAt
import Derived.LaidLaws
/-
  The statement TopBackends, walked.
-/
namespace Go.Proofs.YtfjbnejmcanamaaGreatDoor
open Go.RowKit

def tN : ByteArray := ⟨#[60, 115, 104, 97, 112, 101, 115, 32, 119, 61, 34, 49, 34, 32, 104, 61, 34, 49, 34, 62, 10, 60, 47, 115, 104, 97, 112, 101, 115, 62, 10]⟩
theorem tN_text : (⟨(texT [] 1 1).toArray⟩ : ByteArray) = tN := by
  have : texT [] 1 1 = tN.data.toList := by decide +kernel
  rw [this]
theorem tN_err : texE [] 1 1 = 0 := by decide +kernel
theorem lss_none (w : World) : LsS w (.slice none 0 0) [] := ⟨none, 0, rfl, Nat.le_refl _, fun h => by simp at h⟩
theorem wfs_none : Wfs [] := fun s hs => by cases hs
/-- The error of a list that may be written, with a size that may be. -/
theorem tex_three {l : List St} {zw zh : Int} (h : chkS l = 0) (hz : sizB zw zh = true) (he : texE l zw zh ≠ 0) : texE l zw zh = 3 := by
  unfold texE at he ⊢
  rw [if_neg (by rw [h]; decide), hz, if_neg (by decide)] at he ⊢
  split at he
  · next h1 => rw [if_pos h1]
  · exact absurd rfl he

set_option maxRecDepth 20000 in
set_option maxHeartbeats 8000000 in
theorem tback_walk (FR : LFrm) (l : List St) (vl : Value) (zw zh : Int) (c : Co) (w : World) (hv : LsS w vl l) (hw : Wfs l) (i1 : I64 zw) (i2 : I64 zh) (hc : c.ok) (hE : EnR w.heap.size w ∧ EtI w) (HT : ∀ W, Below w.heap.size w W → TbD W) :
    Calls Tryz.prog 3 #[vl, .agg #[.int .i64 zw, .int .i64 zh], (Value.agg #[.int .u8 c.r, .int .u8 c.g, .int .u8 c.b, .int .u8 c.a])] w fun e w' => e = .returned (.bool true) ∧ Below w.heap.size w w' := by
  obtain ⟨oa, cap, rfl, hcap, _⟩ := id hv
  obtain ⟨n, hn⟩ : ∃ n, n = l.length := ⟨_, rfl⟩
  obtain ⟨K, hK⟩ : ∃ K, K = tN := ⟨_, rfl⟩
  have HK : Hid (∀ W, Below w.heap.size w W → Calls Tryz.prog 4 #[.slice none 0 0, .agg #[.int .i64 1, .int .i64 1]] W fun e w' => e = .returned (.tuple #[.string K, .int .i64 0]) ∧ Below W.heap.size W w') := fun W h => by
    have q := vtext_any [] _ 1 1 W (lss_none W) wfs_none ⟨by decide, by decide⟩ ⟨by decide, by decide⟩ (hE.1.on h).here.pw
    rw [tN_text, tN_err] at q
    rw [hK]
    exact q
  obtain ⟨T, hT⟩ : ∃ T : ByteArray, T = ⟨(texT l zw zh).toArray⟩ := ⟨_, rfl⟩
  obtain ⟨E, hEe⟩ : ∃ E, E = texE l zw zh := ⟨_, rfl⟩
  obtain ⟨ck, hck⟩ : ∃ ck, ck = chkS l := ⟨_, rfl⟩
  have HCk : Hid (∀ W, LsS W (.slice oa n cap) l → Calls Tryz.prog 5 #[.slice oa n cap] W fun e w' => e = .returned (.int .i64 ck) ∧ Below W.heap.size W w') := fun W h => by
    rw [hck]
    exact zcheck_any l _ W h hw.txs
  have HX : Hid (∀ W, VbF w (.slice oa n cap) l zw zh c W → Calls Tryz.prog 4 #[.slice oa n cap, .agg #[.int .i64 zw, .int .i64 zh]] W fun e w' => e = .returned (.tuple #[.string T, .int .i64 E]) ∧ Below W.heap.size W w') := fun W h => by
    rw [hT, hEe]
    exact vtext_any l _ zw zh W h.l hw i1 i2 (hE.1.on h.b).here.pw
  have H0 : Hid (∀ W, W = (w.alloc (.cells #[.int .i64 zw, .int .i64 zh] 24)).alloc (.cells #[.int .u8 c.r, .int .u8 c.g, .int .u8 c.b, .int .u8 c.a] 26) → VbF w (.slice oa n cap) l zw zh c W) := fun W hW => by
    have k1 := Bk.new w #[.int .i64 zw, .int .i64 zh] 24
    have k2 := Bk.new (w.alloc (.cells #[.int .i64 zw, .int .i64 zh] 24)) #[.int .u8 c.r, .int .u8 c.g, .int .u8 c.b, .int .u8 c.a] 26
    simp only [World.size_alloc] at k2
    have bb : Below w.heap.size w W := by rw [hW]; exact ((Below.refl _ w).alloc (Nat.le_refl _) _).alloc (by simp) _
    rw [hW] at bb ⊢
    refine ⟨Bk.alk k1 _, k2, bb, ?_⟩
    rw [hn]
    exact hv.below bb
  rw [← hn]
  have hKe : (K == (⟨#[]⟩ : ByteArray)) = false := by rw [hK]; decide
  have hKs : ¬ K = (⟨#[]⟩ : ByteArray) := by rw [hK]; decide
  have hKl : (K.toList == []) = false := by rw [hK]; decide +kernel
  have hKm : ¬ K.toList = [] := fun h => by rw [h] at hKl; cases hKl
  by_cases hc0 : ck = 0
  · subst hc0
    by_cases k1 : zw < 1
    · clear hv hw i1 i2 hc hE HT FR hT hEe hn hK hck hcap HX
      go_enter Tryz.func3, Tryz.ntmps3
      go_wp2_with fail
      obtain ⟨W0, hW0⟩ : ∃ W0, W0 = (w.alloc (.cells #[.int .i64 zw, .int .i64 zh] 24)).alloc (.cells #[.int .u8 c.r, .int .u8 c.g, .int .u8 c.b, .int .u8 c.a] 26) := ⟨_, rfl⟩
      have H1 := show Hid _ from H0.out W0 hW0
      rw [← hW0]
      clear hW0 H0
      refine (HK.out _ H1.out.b).mono ?_
      rintro e w1 ⟨rfl, hb⟩
      have H2 := show Hid _ from H1.out.below hb
      clear hb H1 HK
      obtain ⟨z0, z1⟩ := Bk.at2 H2.out.z
      go_wp2_with fail
      refine (HCk.out _ H2.out.l).mono ?_
      rintro e w2 ⟨rfl, hb⟩
      have H3 := show Hid _ from H2.out.below hb
      clear hb H2 HCk z0 z1
      obtain ⟨z0, z1⟩ := Bk.at2 H3.out.z
      have B6 := show Hid _ from H3.out.b
      clear H3
      go_wp2
      go_ret
      exact ⟨rfl, B6.out⟩
    by_cases k2 : zh < 1
    · clear hv hw i1 i2 hc hE HT FR hT hEe hn hK hck hcap HX
      go_enter Tryz.func3, Tryz.ntmps3
      go_wp2_with fail
      obtain ⟨W0, hW0⟩ : ∃ W0, W0 = (w.alloc (.cells #[.int .i64 zw, .int .i64 zh] 24)).alloc (.cells #[.int .u8 c.r, .int .u8 c.g, .int .u8 c.b, .int .u8 c.a] 26) := ⟨_, rfl⟩
      have H1 := show Hid _ from H0.out W0 hW0
      rw [← hW0]
      clear hW0 H0
      refine (HK.out _ H1.out.b).mono ?_
      rintro e w1 ⟨rfl, hb⟩
      have H2 := show Hid _ from H1.out.below hb
      clear hb H1 HK
      obtain ⟨z0, z1⟩ := Bk.at2 H2.out.z
      go_wp2_with fail
      refine (HCk.out _ H2.out.l).mono ?_
      rintro e w2 ⟨rfl, hb⟩
      have H3 := show Hid _ from H2.out.below hb
      clear hb H2 HCk z0 z1
      obtain ⟨z0, z1⟩ := Bk.at2 H3.out.z
      have B6 := show Hid _ from H3.out.b
      clear H3
      go_wp2
      go_ret
      exact ⟨rfl, B6.out⟩
    by_cases k3 : 64 < zw
    · clear hv hw i1 i2 hc hE HT FR hT hEe hn hK hck hcap HX
      go_enter Tryz.func3, Tryz.ntmps3
      go_wp2_with fail
      obtain ⟨W0, hW0⟩ : ∃ W0, W0 = (w.alloc (.cells #[.int .i64 zw, .int .i64 zh] 24)).alloc (.cells #[.int .u8 c.r, .int .u8 c.g, .int .u8 c.b, .int .u8 c.a] 26) := ⟨_, rfl⟩
      have H1 := show Hid _ from H0.out W0 hW0
      rw [← hW0]
      clear hW0 H0
      refine (HK.out _ H1.out.b).mono ?_
      rintro e w1 ⟨rfl, hb⟩
      have H2 := show Hid _ from H1.out.below hb
      clear hb H1 HK
      obtain ⟨z0, z1⟩ := Bk.at2 H2.out.z
      go_wp2_with fail
      refine (HCk.out _ H2.out.l).mono ?_
      rintro e w2 ⟨rfl, hb⟩
      have H3 := show Hid _ from H2.out.below hb
      clear hb H2 HCk z0 z1
      obtain ⟨z0, z1⟩ := Bk.at2 H3.out.z
      have B6 := show Hid _ from H3.out.b
      clear H3
      go_wp2
      go_ret
      exact ⟨rfl, B6.out⟩
    by_cases k4 : 64 < zh
    · clear hv hw i1 i2 hc hE HT FR hT hEe hn hK hck hcap HX
      go_enter Tryz.func3, Tryz.ntmps3
      go_wp2_with fail
      obtain ⟨W0, hW0⟩ : ∃ W0, W0 = (w.alloc (.cells #[.int .i64 zw, .int .i64 zh] 24)).alloc (.cells #[.int .u8 c.r, .int .u8 c.g, .int .u8 c.b, .int .u8 c.a] 26) := ⟨_, rfl⟩
      have H1 := show Hid _ from H0.out W0 hW0
      rw [← hW0]
      clear hW0 H0
      refine (HK.out _ H1.out.b).mono ?_
      rintro e w1 ⟨rfl, hb⟩
      have H2 := show Hid _ from H1.out.below hb
      clear hb H1 HK
      obtain ⟨z0, z1⟩ := Bk.at2 H2.out.z
      go_wp2_with fail
      refine (HCk.out _ H2.out.l).mono ?_
      rintro e w2 ⟨rfl, hb⟩
      have H3 := show Hid _ from H2.out.below hb
      clear hb H2 HCk z0 z1
      obtain ⟨z0, z1⟩ := Bk.at2 H3.out.z
      have B6 := show Hid _ from H3.out.b
      clear H3
      go_wp2
      go_ret
      exact ⟨rfl, B6.out⟩
    have hsz : sizB zw zh = true := by
      unfold sizB
      simp only [Bool.and_eq_true, decide_eq_true_eq]
      omega
    by_cases he : E = 0
    · obtain ⟨r1, r2, r3, r4, r5⟩ := rd_text (hEe ▸ he) hw
      obtain ⟨t1, t2, t3, t4⟩ := tex_zero (hEe ▸ he)
      rw [← hT] at r1 r2 r3 r4 r5
      subst he
      have HR : Hid (∀ W, Below w.heap.size w W → Calls Tryz.prog 6 #[.string T] W fun e w' => ∃ u, e = .returned (.tuple #[u, .agg #[.int .i64 zw, .int .i64 zh], .int .i64 0, .int .i64 0]) ∧ OwS W.heap.size w' u l ∧ Below W.heap.size W w') := fun W hb => by
        have q := vread_any T W ((hE.1.on hb).mono hb.size) (hE.2.below hb)
        unfold RdQ at q
        rw [r1, r2, r3, r4, r5] at q
        exact q
      have HSm : Hid (∀ W u, LsS W (.slice oa n cap) l → LsS W u l → Calls Tryz.prog 7 #[.slice oa n cap, u] W fun e w' => e = .returned (.bool true) ∧ Below W.heap.size W w') := fun W u h h' => by
        have q := lsame_any l l _ u W h h' (by have := (chk_small t1).2; omega)
        rw [samZ_self] at q
        exact q
      obtain ⟨a, rfl⟩ : ∃ a : Nat, zw = a := ⟨zw.toNat, by omega⟩
      obtain ⟨b, rfl⟩ : ∃ b : Nat, zh = b := ⟨zh.toNat, by omega⟩
      have hmb := mul_bd (show (0 : Int) ≤ a by omega) (show (a : Int) ≤ 16384 by omega) (show (0 : Int) ≤ b by omega) (show (b : Int) ≤ 16384 by omega)
      have hab : (a : Int) * b ≤ 4096 := by
        rw [← Int.natCast_mul]
        have h1 : a * b ≤ 64 * 64 := Nat.mul_le_mul (by omega) (by omega)
        omega
      obtain ⟨N, hN⟩ : ∃ N : Nat, (N : Int) = (a : Int) * b := ⟨((a : Int) * b).toNat, by omega⟩
      have hs : szB a b = true := szB_iff.2 ⟨by omega, by omega, by omega, by omega, by omega⟩
      have HSc : Hid (∀ W, Below w.heap.size w W → Calls Tryz.prog 8 #[.string T, (Value.agg #[.int .u8 c.r, .int .u8 c.g, .int .u8 c.b, .int .u8 c.a])] W fun e w' => ∃ u, e = .returned (.tuple #[.agg #[.int .i64 (a : Nat), .int .i64 (b : Nat), u], .int .i64 0, .int .i64 0]) ∧ OwC W.heap.size w' u (drwB a c N l) ∧ Below W.heap.size W w') := fun W h => vscreen_any FR T l a b N c W ⟨(hE.1.on h).mono h.size, hE.2.below h⟩ (fun W' h' => HT W' (h.trans (h'.mono h.size))) r1 r2 r3 r4 r5 hs hN hw t1 hc
      have HBl : Hid (∀ W, Calls Tryz.prog 9 #[.agg #[.int .i64 (a : Nat), .int .i64 (b : Nat)], (Value.agg #[.int .u8 c.r, .int .u8 c.g, .int .u8 c.b, .int .u8 c.a])] W fun e w' => ∃ g, e = .returned (.tuple #[.agg #[.int .i64 (a : Nat), .int .i64 (b : Nat), .slice (some ⟨g, 0, none⟩) N N], .int .i64 0]) ∧ W.heap.size ≤ g ∧ Bk w' g (flatC (blkC c N)).toArray 63 ∧ Below W.heap.size W w') := fun W => blank_ok a b c N W hs hN
      have HDr : Hid (∀ W g, Below w.heap.size w W → Bk W g (flatC (blkC c N)).toArray 63 → LsS W (.slice oa n cap) l → Calls Tryz.prog 10 #[.agg #[.int .i64 (a : Nat), .int .i64 (b : Nat), .slice (some ⟨g, 0, none⟩) N N], .slice oa n cap] W fun e w' => ∃ u, e = .returned (.tuple #[.agg #[.int .i64 (a : Nat), .int .i64 (b : Nat), u], .int .i64 0]) ∧ Hid (OwC W.heap.size w' u (drwB a c N l) ∧ Below W.heap.size W w')) := fun W g hb h h' => drawB_any FR a b N g c l _ W h hs hN h' hw t1 hc (fun W' hb' => HT W' (hb.trans (hb'.mono hb.size)))
      have hdl : (drwB a c N l).length < 1000000 := by
        unfold drwB
        rw [drwS_len, blk_len]
        omega
      have HSs : Hid (∀ W u v, LsC W u (drwB a c N l) → LsC W v (drwB a c N l) → Calls Tryz.prog 11 #[.agg #[.int .i64 (a : Nat), .int .i64 (b : Nat), u], .agg #[.int .i64 (a : Nat), .int .i64 (b : Nat), v]] W fun e w' => e = .returned (.bool true) ∧ Below W.heap.size W w') := fun W u v h h' => scr15_any a b _ u v W h h' hdl
      clear hv hw i1 i2 hc hE HT FR hT hEe hn hK hck hcap r1 r2 r3 r4 r5 t1 t2 t3 t4 hmb hs hN hdl hab hsz
      go_enter Tryz.func3, Tryz.ntmps3
      go_wp2_with fail
      obtain ⟨W0, hW0⟩ : ∃ W0, W0 = (w.alloc (.cells #[.int .i64 (a : Int), .int .i64 (b : Int)] 24)).alloc (.cells #[.int .u8 c.r, .int .u8 c.g, .int .u8 c.b, .int .u8 c.a] 26) := ⟨_, rfl⟩
      have H1 := show Hid _ from H0.out W0 hW0
      rw [← hW0]
      clear hW0 H0
      refine (HK.out _ H1.out.b).mono ?_
      rintro e w1 ⟨rfl, hb⟩
      have H2 := show Hid _ from H1.out.below hb
      clear hb H1 HK
      obtain ⟨z0, z1⟩ := Bk.at2 H2.out.z
      go_wp2_with fail
      refine (HCk.out _ H2.out.l).mono ?_
      rintro e w2 ⟨rfl, hb⟩
      have H3 := show Hid _ from H2.out.below hb
      clear hb H2 HCk z0 z1
      obtain ⟨z0, z1⟩ := Bk.at2 H3.out.z
      go_wp2_with fail
      refine (HX.out _ H3.out).mono ?_
      rintro e w3 ⟨rfl, hb⟩
      have H3b := show Hid _ from H3.out.below hb
      clear hb H3 HX z0 z1
      go_wp2_with fail
      refine (HR.out _ H3b.out.b).mono ?_
      rintro e w4 ⟨u, rfl, hu, hb⟩
      have H4 := show Hid (VbF w (.slice oa n cap) l a b c (w4.alloc (.cells #[.int .i64 (a : Int), .int .i64 (b : Int)] 24)) ∧ LsS (w4.alloc (.cells #[.int .i64 (a : Int), .int .i64 (b : Int)] 24)) u l) from ⟨(H3b.out.below hb).alk _, OwS.lss (row_below hu ((Below.refl _ w4).alloc (Nat.le_refl _) _) : OwS w3.heap.size _ u l)⟩
      clear hb hu H3b HR
      obtain ⟨z0, z1⟩ := Bk.at2 H4.out.1.z
      go_wp2_with fail
      refine (HSm.out _ _ H4.out.1.l H4.out.2).mono ?_
      rintro e w5 ⟨rfl, hb⟩
      have H6 := show Hid _ from H4.out.1.below hb
      clear hb H4 HSm z0 z1
      obtain ⟨z0, z1⟩ := Bk.at2 H6.out.z
      have m0 := Bk.cell H6.out.c 0
      have m1 := Bk.cell H6.out.c 1
      have m2 := Bk.cell H6.out.c 2
      have m3 := Bk.cell H6.out.c 3
      simp only [List.getElem?_toArray, List.getElem?_cons_zero, List.getElem?_cons_succ] at m0 m1 m2 m3
      go_wp2_with fail
      refine (HSc.out _ H6.out.b).mono ?_
      rintro e w6 ⟨u6, rfl, hu6, hb⟩
      obtain ⟨o6, c6, rfl, _, _⟩ := row_val hu6
      obtain ⟨N6, hN6⟩ : ∃ N6, N6 = (drwB a c N l).length := ⟨_, rfl⟩
      rw [← hN6] at hu6 ⊢
      obtain ⟨sb, hsb⟩ : ∃ sb, sb = w6.heap.size := ⟨_, rfl⟩
      obtain ⟨W6, hW6⟩ : ∃ W6, W6 = w6.alloc (.cells #[.int .i64 (a : Nat), .int .i64 (b : Nat), .slice o6 N6 c6] 36) := ⟨_, rfl⟩
      have H7 := show Hid (VbF w (.slice oa n cap) l a b c W6 ∧ LsC W6 (.slice o6 N6 c6) (drwB a c N l) ∧ Bk W6 sb #[.int .i64 (a : Nat), .int .i64 (b : Nat), .slice o6 N6 c6] 36 ∧ N6 = (drwB a c N l).length) from ⟨by rw [hW6]; exact (H6.out.below hb).alk _, by rw [hW6]; exact (OwC.lsc hu6).below ((Below.refl _ w6).alloc (Nat.le_refl _) _), by rw [hW6, hsb]; exact Bk.new _ _ _, hN6⟩
      clear hb hu6 H6 HSc z0 z1 m0 m1 m2 m3 hN6
      obtain ⟨z0, z1⟩ := Bk.at2 H7.out.1.z
      have m0 := Bk.cell H7.out.1.c 0
      have m1 := Bk.cell H7.out.1.c 1
      have m2 := Bk.cell H7.out.1.c 2
      have m3 := Bk.cell H7.out.1.c 3
      simp only [List.getElem?_toArray, List.getElem?_cons_zero, List.getElem?_cons_succ] at m0 m1 m2 m3
      rw [hW6] at z0 z1 m0 m1 m2 m3
      go_wp2_with fail
      rw [← hW6, ← hsb]
      clear hW6 hsb z0 z1 m0 m1 m2 m3
      refine (HBl.out _).mono ?_
      rintro e w7 ⟨g, rfl, _, hg, hb⟩
      have H8 := show Hid (∀ o, VbF w (.slice oa n cap) l a b c (w7.alloc o) ∧ LsC (w7.alloc o) (.slice o6 N6 c6) (drwB a c N l) ∧ Bk (w7.alloc o) sb #[.int .i64 (a : Nat), .int .i64 (b : Nat), .slice o6 N6 c6] 36 ∧ Bk (w7.alloc o) g (flatC (blkC c N)).toArray 63 ∧ N6 = (drwB a c N l).length) from fun o => ⟨(H7.out.1.below hb).alk _, (H7.out.2.1.below hb).below ((Below.refl _ w7).alloc (Nat.le_refl _) _), Bk.alk (H7.out.2.2.1.below hb) _, Bk.alk hg _, H7.out.2.2.2⟩
      clear hb hg H7 HBl
      go_wp2_with fail
      refine (HDr.out _ g (H8.out _).1.b (H8.out _).2.2.2.1 (H8.out _).1.l).mono ?_
      rintro e w8 ⟨u8, rfl, h9⟩
      have h8 := H8.out (.cells #[.int .i64 (a : Nat), .int .i64 (b : Nat), .slice (some ⟨g, 0, none⟩) N N] 36)
      obtain ⟨o8, c8, hu8, _, _⟩ := row_val h9.out.1
      rw [← h8.2.2.2.2] at hu8
      subst hu8
      have H9 := show Hid (∀ o, LsC (w8.alloc o) (.slice o6 N6 c6) (drwB a c N l) ∧ LsC (w8.alloc o) (.slice o8 N6 c8) (drwB a c N l) ∧ Bk (w8.alloc o) sb #[.int .i64 (a : Nat), .int .i64 (b : Nat), .slice o6 N6 c6] 36 ∧ Below w.heap.size w (w8.alloc o)) from fun o => ⟨(h8.2.1.below h9.out.2).below ((Below.refl _ w8).alloc (Nat.le_refl _) _), (OwC.lsc h9.out.1).below ((Below.refl _ w8).alloc (Nat.le_refl _) _), Bk.alk (h8.2.2.1.below h9.out.2) _, ((h8.1.below h9.out.2).alk o).b⟩
      clear h8 h9 H8 HDr
      have k3 := H9.out (.cells #[.int .i64 (a : Nat), .int .i64 (b : Nat), .slice o8 N6 c8] 36)
      have x0 := Bk.cell k3.2.2.1 0
      have x1 := Bk.cell k3.2.2.1 1
      have x2 := Bk.cell k3.2.2.1 2
      simp only [List.getElem?_toArray, List.getElem?_cons_zero, List.getElem?_cons_succ] at x0 x1 x2
      clear k3
      go_wp2_with fail
      refine (HSs.out _ _ _ (H9.out _).1 (H9.out _).2.1).mono ?_
      rintro e w9 ⟨rfl, hb⟩
      have B9 : Hid (Below w.heap.size w w9) := (H9.out _).2.2.2.trans (hb.mono (H9.out _).2.2.2.size)
      clear hb H9 HSs x0 x1 x2
      go_wp2
      go_ret
      exact ⟨rfl, B9.out⟩
    · have hTz : T = ⟨#[]⟩ := by
        rw [hT]
        unfold texT
        rw [if_neg (by rw [← hEe]; exact he)]
      have hE3 : E = 3 := by
        rw [hEe]
        exact tex_three hck.symm hsz (by rw [← hEe]; exact he)
      subst hTz
      subst hE3
      clear hv hw i1 i2 hc hE HT FR hT hEe hn hK hck hcap hsz he
      go_enter Tryz.func3, Tryz.ntmps3
      go_wp2_with fail
      obtain ⟨W0, hW0⟩ : ∃ W0, W0 = (w.alloc (.cells #[.int .i64 zw, .int .i64 zh] 24)).alloc (.cells #[.int .u8 c.r, .int .u8 c.g, .int .u8 c.b, .int .u8 c.a] 26) := ⟨_, rfl⟩
      have H1 := show Hid _ from H0.out W0 hW0
      rw [← hW0]
      clear hW0 H0
      refine (HK.out _ H1.out.b).mono ?_
      rintro e w1 ⟨rfl, hb⟩
      have H2 := show Hid _ from H1.out.below hb
      clear hb H1 HK
      obtain ⟨z0, z1⟩ := Bk.at2 H2.out.z
      go_wp2_with fail
      refine (HCk.out _ H2.out.l).mono ?_
      rintro e w2 ⟨rfl, hb⟩
      have H3 := show Hid _ from H2.out.below hb
      clear hb H2 HCk z0 z1
      obtain ⟨z0, z1⟩ := Bk.at2 H3.out.z
      go_wp2_with fail
      refine (HX.out _ H3.out).mono ?_
      rintro e w3 ⟨rfl, hb⟩
      have B3 := show Hid (Below w.heap.size w w3) from (H3.out.below hb).b
      clear hb H3 HX z0 z1
      go_wp2
      go_ret
      exact ⟨rfl, B3.out⟩
  · have c0 : (ck == 0) = false := by simpa using hc0
    clear hv hw i1 i2 hc hE HT FR hT hEe hn hK hck hcap HX
    go_enter Tryz.func3, Tryz.ntmps3
    go_wp2_with fail
    obtain ⟨W0, hW0⟩ : ∃ W0, W0 = (w.alloc (.cells #[.int .i64 zw, .int .i64 zh] 24)).alloc (.cells #[.int .u8 c.r, .int .u8 c.g, .int .u8 c.b, .int .u8 c.a] 26) := ⟨_, rfl⟩
    have H1 := show Hid _ from H0.out W0 hW0
    rw [← hW0]
    clear hW0 H0
    refine (HK.out _ H1.out.b).mono ?_
    rintro e w1 ⟨rfl, hb⟩
    have H2 := show Hid _ from H1.out.below hb
    clear hb H1 HK
    obtain ⟨z0, z1⟩ := Bk.at2 H2.out.z
    go_wp2_with fail
    refine (HCk.out _ H2.out.l).mono ?_
    rintro e w2 ⟨rfl, hb⟩
    have H3 := show Hid _ from H2.out.below hb
    clear hb H2 HCk z0 z1
    obtain ⟨z0, z1⟩ := Bk.at2 H3.out.z
    have B6 := show Hid _ from H3.out.b
    clear H3
    go_wp2
    go_ret
    exact ⟨rfl, B6.out⟩

end Go.Proofs.YtfjbnejmcanamaaGreatDoor

/-
  The statement TopBackends holds: of any strokes, size and colour; no condition.
-/
namespace Go.Proofs.YtfjbnejmcanamaaGreatDoor
open Go.ChangeShapes Go.WideShapes Go.ChangeAt Go.RowKit
open Go.ChangeMaps (open_string shut_string)

set_option maxRecDepth 100000 in
theorem tback_reads (os : Os) {H : Type} (enc : TypeId × Value → H) : ∃ places, DataW.whole enc Tryz.prog ((laidV os).forCall (fun _ _ => 0) ⟨#[], #[.slice none 0 0, .agg #[.int .i64 0, .int .i64 0], .agg #[.int .u8 0, .int .u8 0, .int .u8 0, .int .u8 0]], []⟩).memory Tryz.f3.params.toList Rows.topBackendsSpec.vars false #[Value.slice none 0 0, .agg #[.int .i64 0, .int .i64 0], .agg #[.int .u8 0, .int .u8 0, .int .u8 0, .int .u8 0]].toList 8 = some ([.nil, .agg [.lit (.int .i64 0), .lit (.int .i64 0)], .agg [.lit (.int .u8 0), .lit (.int .u8 0), .lit (.int .u8 0), .lit (.int .u8 0)]], [], places) :=
  ⟨[], by kernel_rfl⟩

set_option maxRecDepth 100000 in
theorem tback_lifted (os : Os) (started : os.Started) (H : Type) (enc : TypeId × Value → H) (F : Stop.Interp) :
    ReturnsInHanded {} Tryz.checked os 3 .any ((OpenSpec.ofChange Rows.topBackendsSpec).preRow enc Tryz.prog Tryz.f3 Rows.topBackendsRow.domain false Rows.topBackendsRow.laid) (((OpenSpec.ofChange Rows.topBackendsSpec).at F).post enc Tryz.prog Tryz.f3 false true false false) := by
  obtain ⟨places, hx⟩ := tback_reads os enc
  have hok : Input.okWideB Tryz.prog ((laidV os).forCall (fun _ _ => 0) ⟨#[], #[.slice none 0 0, .agg #[.int .i64 0, .int .i64 0], .agg #[.int .u8 0, .int .u8 0, .int .u8 0, .int .u8 0]], []⟩) 3 ⟨#[], #[.slice none 0 0, .agg #[.int .i64 0, .int .i64 0], .agg #[.int .u8 0, .int .u8 0, .int .u8 0, .int .u8 0]], []⟩ = true := by kernel_rfl
  have hL : laidMetH Tryz.prog Rows.topBackendsRow.laid ((laidV os).forCall (fun _ _ => 0) ⟨#[], #[.slice none 0 0, .agg #[.int .i64 0, .int .i64 0], .agg #[.int .u8 0, .int .u8 0, .int .u8 0, .int .u8 0]], []⟩).memory := laidV_met os _
  refine returnsInHanded_of_row (C := Tryz.checked) (s := OpenSpec.ofChange Rows.topBackendsSpec) own_w started (by kernel_rfl) Tryz.func3
    ⟨laidV os, fun _ _ => 0, ⟨#[], #[.slice none 0 0, .agg #[.int .i64 0, .int .i64 0], .agg #[.int .u8 0, .int .u8 0, .int .u8 0, .int .u8 0]], []⟩, laidV_os os, World.shaped_of_ZipB (by kernel_rfl) (by kernel_rfl), (Input.okWide_of_okWideB (base := 0) hok).1, (Input.okWide_of_okWideB hok).2,
      OpenSpec.preRow_of_cond 8 hx (by kernel_rfl) (fun k hk => by cases hk) (by kernel_rfl) hL, by
        simp only [Assume.holds]
        exact ⟨by simp, by simp, fun _ => Modest.zero, by simp, by simp⟩⟩ ?_
  intro W base args ds gs before hval0 hW _ hcond _ hLaid hsh _
  have hval : ∀ (j : Nat) t v, Tryz.f3.params[j]? = some t → args[j]? = some v → Value.okWide Tryz.prog W .any base t v := hval0
  have hW' := hW
  obtain ⟨p, q, hA0, hV, rfl, _, _⟩ := hW
  have hA : DataW.TrodAll enc Tryz.prog W 0 (fun _ => true) true Tryz.f3.params.toList args.toList ds p := hA0
  rw [Tryz.params3] at hA hval
  obtain ⟨v0, v1, v2, d0, d1, d2, p0, p1, p2, rfl, rfl, rfl, h0, h1, h2⟩ := trodAll_three hA
  obtain ⟨rfl, rfl⟩ := trodVars_none hV
  have k0 := h0
  have lt0 : ∀ x ∈ p0, x.block < W.heap.size := by obtain ⟨m, hm⟩ := k0; exact DataW.trod_lt m _ _ _ hm
  obtain ⟨x0, f0, g0, e0⟩ := open_strokes (hval 0 22 v0 rfl rfl) h0
  have k1 := h1
  have lt1 : ∀ x ∈ p1, x.block < W.heap.size := by obtain ⟨m, hm⟩ := k1; exact DataW.trod_lt m _ _ _ hm
  obtain ⟨a1, b1, rfl, i1, j1⟩ := open_siz (hval 1 24 v1 rfl rfl) h1
  have k2 := h2
  have lt2 : ∀ x ∈ p2, x.block < W.heap.size := by obtain ⟨m, hm⟩ := k2; exact DataW.trod_lt m _ _ _ hm
  obtain ⟨x2, rfl, f2⟩ := open_colour (hval 2 26 v2 rfl rfl) h2
  obtain ⟨⟨en1, en2⟩, en3⟩ := env_of (show laidMetH Tryz.prog Rows.topBackendsRow.laid W from hLaid) hsh
  refine (tback_walk frame_any x0 _ a1 b1 x2 W f0 g0 i1 j1 f2 ⟨en1, en2⟩ en3).mono fun e W' ⟨he, hb⟩ => ?_
  subst he
  exact ⟨_, rfl, _, _, _, [], _, [], hW', trodAll_mk1 (shut_bool Tryz.underlying4 _), (trodAll_cons_mk (Below.trod laid_w (by kernel_rfl) (of_decide_eq_true (by kernel_rfl)) k0 hb lt0) (trodAll_cons_mk (Below.trod laid_w (by kernel_rfl) (of_decide_eq_true (by kernel_rfl)) k1 hb lt1) (trodAll_cons_mk (Below.trod laid_w (by kernel_rfl) (of_decide_eq_true (by kernel_rfl)) k2 hb lt2) trodAll_mk0))), rfl, hb.frame _, fun h => by cases h⟩

theorem tback_row : Rows.TopBackendsSaid :=
  OpenClaim.holds_of_cond 3 Tryz.f3 rfl rfl rfl rfl rfl rfl rfl ⟨rfl, rfl, rfl, rfl, rfl⟩ rfl rfl rfl rfl rfl (by kernel_rfl) Tryz.func3 (by kernel_rfl)
    (of_decide_eq_true (by kernel_rfl)) (by unfold Func.isWrapper; first | (rw [if_pos (by decide +kernel)]; kernel_rfl) | (rw [if_neg (by decide +kernel)]; exact ⟨rfl, rfl⟩))
    (fun os started H enc _ F => by rw [OpenClaim.pre_eq_preRow]; exact tback_lifted os started H enc F)

theorem tback_bare (f : FuncId) (fn : Func) (hf : Tryz.pinned.checked.prog.funcNamed "casement/casementtop.TopBackends" = some f) (hfn : Tryz.pinned.checked.prog.funcs[f]? = some fn) :
    true = Tryz.pinned.checked.prog.looks [] ∧ ∀ (j : Nat) t, fn.params[j]? = some t → Tryz.pinned.checked.prog.wantsStandIn t = false := by
  obtain rfl : f = 3 := Option.some.inj ((show Tryz.prog.funcNamed "casement/casementtop.TopBackends" = some 3 by kernel_rfl).symm.trans hf) |>.symm
  obtain rfl : fn = Tryz.f3 := (Option.some.inj (Tryz.func3.symm.trans hfn)).symm
  refine ⟨by kernel_rfl, fun j t ht => ?_⟩
  rw [Tryz.params3] at ht
  have hm : t ∈ [22, 24, 26] := by simpa using Array.mem_of_getElem? ht
  have hall : ([22, 24, 26].all fun u => !Tryz.prog.wantsStandIn u) = true := by kernel_rfl
  exact (show Tryz.prog.wantsStandIn t = false by simpa using List.all_eq_true.1 hall t hm)

theorem tback_card : Rows.TopBackendsCardSaid :=
  Claim7.holds_tied_plain_at .later [] _ _ _ _ tback_row (fun _ h => by cases h) (by kernel_rfl) (fun _ h => by cases h) topBackends_row_tie rfl ⟨rfl, rfl⟩ (by kernel_rfl) rfl tback_bare (by kernel_rfl)

#print axioms tback_card
end Go.Proofs.YtfjbnejmcanamaaGreatDoor
