/-
  Texts of this claim, one behind the other: what each is about stands ahead of it.
-/
import Derived.Test.YtfjbnejmcanamaaGreatDoorK23
import Derived.Test.YtfjbnejmcanamaaGreatDoorK33
import Derived.Test.YtfjbnejmcanamaaGreatDoorK26
import Derived.Test.YtfjbnejmcanamaaGreatDoorK24
import Derived.Test.YtfjbnejmcanamaaGreatDoorK32
import Derived.Lib.AtoiAllCases
import Derived.Lib.ItoaNum
import Derived.Test.YtfjbnejmcanamaaGreatDoorK16
import Derived.Test.YtfjbnejmcanamaaGreatDoorK21
import Derived.Test.YtfjbnejmcanamaaGreatDoorK31
/-
  Package vector: Screen, over what is asked of drawFrame.
-/
namespace Go.Proofs.YtfjbnejmcanamaaGreatDoor
open Go.RowKit

theorem bk_lsc {w : World} {g : Nat} (L : List Ce) (h : Bk w g (flatC L).toArray 63) : LsC w (.slice (some ⟨g, 0, none⟩) L.length L.length) L := by
  refine ⟨_, _, rfl, Nat.le_refl _, fun _ => ⟨g, 0, rfl, h.lt, fun i hi => ?_⟩⟩
  rw [ceat_iff]
  intro j hj
  rw [Nat.zero_add, Bk.cell h, ← flatC_at L i hi j hj]
  simp
theorem blk_len (c : Co) (n : Nat) : (blkC c n).length = n := by simp [blkC]
theorem blk_ok (c : Co) (n : Nat) : okCs (blkC c n) = true := by
  unfold okCs blkC
  rw [List.all_eq_true]
  intro x hx
  rw [List.eq_of_mem_replicate hx]
  show (vldR 32 && (if width 32 = 1 then !false && !false else if width 32 = 2 then false != false else false)) = true
  decide +kernel
theorem blk_wf {c : Co} (hc : c.ok) (n : Nat) : WfC (blkC c n) := fun x hx => by
  rw [List.eq_of_mem_replicate hx]
  exact ⟨coZ_ok, hc⟩
theorem nonil_some {g : Nat} {n m : Nat} : NoNil (.slice (some ⟨g, 0, none⟩) n m) := fun c h => by cases h
/-- A blank screen, drawn. -/
def drwB (a : Nat) (c : Co) (n : Nat) (l : List St) : List Ce := drwS a (blkC c n) (flaL l)
/-- What is asked of a list and a screen ahead of Draw. -/
theorem drawB_any (FR : LFrm) (a b n g : Nat) (c : Co) (l : List St) (vs : Value) (w : World) (hg : Bk w g (flatC (blkC c n)).toArray 63) (hs : szB a b = true) (hn : (n : Int) = (a : Int) * b) (hv : LsS w vs l) (hl : Wfs l) (hk : chkS l = 0) (hc : c.ok) (HT : ∀ W, Below w.heap.size w W → TbD W) :
    Calls Tryz.prog 10 #[.agg #[.int .i64 (a : Nat), .int .i64 (b : Nat), .slice (some ⟨g, 0, none⟩) n n], vs] w fun e w' => ∃ u, e = .returned (.tuple #[.agg #[.int .i64 (a : Nat), .int .i64 (b : Nat), u], .int .i64 0]) ∧ Hid (OwC w.heap.size w' u (drwB a c n l) ∧ Below w.heap.size w w') := by
  have h1 := bk_lsc (blkC c n) hg
  rw [blk_len] at h1
  exact dDraw_ok FR a b (blkC c n) _ l vs w h1 nonil_some hs (by rw [blk_len]; exact hn) (blk_ok c n) hv hl.txs (xys_of hl) hk (blk_wf hc n) (fun s hs => ⟨(hl s hs).2.2.1, (hl s hs).2.2.2.1⟩) (HT w (Below.refl _ _)).1 HT

set_option maxRecDepth 20000 in
set_option maxHeartbeats 8000000 in
theorem vscreen_any (FR : LFrm) (t : ByteArray) (l : List St) (a b n : Nat) (c : Co) (w : World) (hE : EnR w.heap.size w ∧ EtI w) (HT : ∀ W, Below w.heap.size w W → TbD W)
    (h0 : rdE t = 0) (h1 : rdL t = l) (h2 : rdW t = a) (h3 : rdH t = b) (h4 : rdA t = 0) (hs : szB a b = true) (hn : (n : Int) = (a : Int) * b) (hl : Wfs l) (hk : chkS l = 0) (hc : c.ok) :
    Calls Tryz.prog 8 #[.string t, (Value.agg #[.int .u8 c.r, .int .u8 c.g, .int .u8 c.b, .int .u8 c.a])] w fun e w' => ∃ u, e = .returned (.tuple #[.agg #[.int .i64 (a : Nat), .int .i64 (b : Nat), u], .int .i64 0, .int .i64 0]) ∧ OwC w.heap.size w' u (drwB a c n l) ∧ Below w.heap.size w w' := by
  obtain ⟨zb, hzb⟩ : ∃ zb, zb = w.heap.size + 1 := ⟨_, rfl⟩
  have HZ : Hid (zb = w.heap.size + 1) := hzb
  have HR : Hid (∀ W, Below w.heap.size w W → Calls Tryz.prog 6 #[.string t] W fun e w' => ∃ u, e = .returned (.tuple #[u, .agg #[.int .i64 (a : Nat), .int .i64 (b : Nat)], .int .i64 0, .int .i64 0]) ∧ OwS W.heap.size w' u l ∧ Below W.heap.size W w') := fun W hb => by
    have q := vread_any t W ((hE.1.on hb).mono hb.size) (hE.2.below hb)
    unfold RdQ at q
    rw [h0, h1, h2, h3, h4] at q
    exact q
  have HB : Hid (∀ W, Calls Tryz.prog 9 #[.agg #[.int .i64 (a : Nat), .int .i64 (b : Nat)], (Value.agg #[.int .u8 c.r, .int .u8 c.g, .int .u8 c.b, .int .u8 c.a])] W fun e w' => ∃ g, e = .returned (.tuple #[.agg #[.int .i64 (a : Nat), .int .i64 (b : Nat), .slice (some ⟨g, 0, none⟩) n n], .int .i64 0]) ∧ W.heap.size ≤ g ∧ Bk w' g (flatC (blkC c n)).toArray 63 ∧ Below W.heap.size W w') := fun W => blank_ok a b c n W hs hn
  have HD : Hid (∀ W g vs, Below w.heap.size w W → Bk W g (flatC (blkC c n)).toArray 63 → LsS W vs l → Calls Tryz.prog 10 #[.agg #[.int .i64 (a : Nat), .int .i64 (b : Nat), .slice (some ⟨g, 0, none⟩) n n], vs] W fun e w' => ∃ u, e = .returned (.tuple #[.agg #[.int .i64 (a : Nat), .int .i64 (b : Nat), u], .int .i64 0]) ∧ Hid (OwC W.heap.size w' u (drwB a c n l) ∧ Below W.heap.size W w')) := fun W g vs hb h h' => drawB_any FR a b n g c l vs W h hs hn h' hl hk hc (fun W' hb' => HT W' (hb.trans (hb'.mono hb.size)))
  have H0 : Hid (∀ W, W = (w.alloc (.cells #[.int .u8 c.r, .int .u8 c.g, .int .u8 c.b, .int .u8 c.a] 26)).alloc (.cells #[.int .i64 0, .int .i64 0, .slice none 0 0] 36) → Bk W w.heap.size #[.int .u8 c.r, .int .u8 c.g, .int .u8 c.b, .int .u8 c.a] 26 ∧ Bk W zb #[.int .i64 0, .int .i64 0, .slice none 0 0] 36 ∧ Below w.heap.size w W) := fun W hW => by
    have k1 := Bk.new w #[.int .u8 c.r, .int .u8 c.g, .int .u8 c.b, .int .u8 c.a] 26
    have k2 := Bk.new (w.alloc (.cells #[.int .u8 c.r, .int .u8 c.g, .int .u8 c.b, .int .u8 c.a] 26)) #[.int .i64 0, .int .i64 0, .slice none 0 0] 36
    simp only [World.size_alloc] at k2
    rw [hW, hzb]
    exact ⟨Bk.alk k1 _, k2, ((Below.refl _ w).alloc (Nat.le_refl _) _).alloc (by simp) _⟩
  clear hE HT h0 h1 h2 h3 h4 hs hn hl hk hc FR
  go_enter Tryz.func8, Tryz.ntmps8
  go_wp2_with fail
  obtain ⟨W0, hW0⟩ : ∃ W0, W0 = (w.alloc (.cells #[.int .u8 c.r, .int .u8 c.g, .int .u8 c.b, .int .u8 c.a] 26)).alloc (.cells #[.int .i64 0, .int .i64 0, .slice none 0 0] 36) := ⟨_, rfl⟩
  have H1 := show Hid _ from H0.out W0 hW0
  rw [← hW0, ← hzb]
  clear hW0 H0 hzb
  refine (HR.out _ H1.out.2.2).mono ?_
  rintro e w1 ⟨u, rfl, hu, hb1⟩
  obtain ⟨sb, hsb⟩ : ∃ sb, sb = w1.heap.size := ⟨_, rfl⟩
  have H2 : Hid (∀ W, W = w1.alloc (.cells #[.int .i64 (a : Nat), .int .i64 (b : Nat)] 24) → Bk W w.heap.size #[.int .u8 c.r, .int .u8 c.g, .int .u8 c.b, .int .u8 c.a] 26 ∧ Bk W zb #[.int .i64 0, .int .i64 0, .slice none 0 0] 36 ∧ Below w.heap.size w W ∧ LsS W u l ∧ Bk W sb #[.int .i64 (a : Nat), .int .i64 (b : Nat)] 24) := fun W hW => by
    have b1 : Below w1.heap.size w1 W := by rw [hW]; exact (Below.refl _ w1).alloc (Nat.le_refl _) _
    have bb := H1.out.2.2.trans (hb1.mono H1.out.2.2.size)
    exact ⟨(H1.out.1.below hb1).below b1, (H1.out.2.1.below hb1).below b1, bb.trans (b1.mono bb.size), OwS.lss (row_below hu b1 : OwS W0.heap.size W u l), by rw [hW, hsb]; exact Bk.new _ _ _⟩
  clear hu hb1 H1 HR
  obtain ⟨W1, hW1⟩ : ∃ W1, W1 = w1.alloc (.cells #[.int .i64 (a : Nat), .int .i64 (b : Nat)] 24) := ⟨_, rfl⟩
  have H3 := show Hid _ from H2.out W1 hW1
  have m0 := Bk.cell H3.out.1 0
  have m1 := Bk.cell H3.out.1 1
  have m2 := Bk.cell H3.out.1 2
  have m3 := Bk.cell H3.out.1 3
  simp only [List.getElem?_toArray, List.getElem?_cons_zero, List.getElem?_cons_succ] at m0 m1 m2 m3
  rw [hW1] at m0 m1 m2 m3
  go_wp2_with fail
  rw [← hW1, ← hsb]
  clear hsb hW1 m0 m1 m2 m3 H2
  refine (HB.out _).mono ?_
  rintro e w2 ⟨g, rfl, hgl, hg, hb2⟩
  have H4 : Hid (∀ o, Bk (w2.alloc o) zb #[.int .i64 0, .int .i64 0, .slice none 0 0] 36 ∧ Below w.heap.size w (w2.alloc o) ∧ LsS (w2.alloc o) u l ∧ Bk (w2.alloc o) g (flatC (blkC c n)).toArray 63) := fun o => by
    have b1 : Below w2.heap.size w2 (w2.alloc o) := (Below.refl _ w2).alloc (Nat.le_refl _) _
    have bb := H3.out.2.2.1.trans (hb2.mono H3.out.2.2.1.size)
    exact ⟨(H3.out.2.1.below hb2).below b1, bb.trans (b1.mono bb.size), (H3.out.2.2.2.1.below hb2).below b1, hg.below b1⟩
  clear hgl hg hb2 H3 HB
  go_wp2_with fail
  refine (HD.out _ g _ (H4.out _).2.1 (H4.out _).2.2.2 (H4.out _).2.2.1).mono ?_
  rintro e w3 ⟨u2, rfl, h5⟩
  obtain ⟨oa2, cap2, hu2, _, _⟩ := row_val h5.out.1
  obtain ⟨m2, hm2⟩ : ∃ m2, m2 = (drwB a c n l).length := ⟨_, rfl⟩
  rw [← hm2] at hu2
  clear hm2
  have H5 : Hid (∀ o, Bk (w3.alloc o) zb #[.int .i64 0, .int .i64 0, .slice none 0 0] 36 ∧ Below w.heap.size w (w3.alloc o) ∧ OwC (zb + 1) (w3.alloc o) u2 (drwB a c n l) ∧ zb < (w3.alloc o).heap.size) := fun o => by
    obtain ⟨p1, p2⟩ := h5.out
    have b1 : Below w3.heap.size w3 (w3.alloc o) := (Below.refl _ w3).alloc (Nat.le_refl _) _
    have h4 := H4.out (.cells #[.int .i64 (a : Nat), .int .i64 (b : Nat), .slice (some ⟨g, 0, none⟩) n n] 36)
    have bb := h4.2.1.trans (p2.mono h4.2.1.size)
    have k := (h4.1.below p2).below b1
    exact ⟨k, bb.trans (b1.mono bb.size), row_weaken (row_below p1 b1) (Nat.succ_le_of_lt h4.1.lt), k.lt⟩
  clear h5 H4 HD
  subst hu2
  go_wp2_with (refine wpList_store_row rfl 36 (.tmp 4) (.tmp 41) rfl zb #[.int .i64 (a : Nat), .int .i64 (b : Nat), .slice oa2 m2 cap2] rfl rfl 36 _ (H5.out _).1 (by kernel_rfl) rfl (by simp [Value.oneCell']) ?_)
  obtain ⟨W3, hW3⟩ : ∃ W3, W3 = (w3.alloc (.cells #[.int .i64 (a : Nat), .int .i64 (b : Nat), .slice oa2 m2 cap2] 36)).setRow zb #[.int .i64 (a : Nat), .int .i64 (b : Nat), .slice oa2 m2 cap2] := ⟨_, rfl⟩
  rw [← hW3]
  have h6 := H5.out (.cells #[.int .i64 (a : Nat), .int .i64 (b : Nat), .slice oa2 m2 cap2] 36)
  have hB3 : Bk W3 zb #[.int .i64 (a : Nat), .int .i64 (b : Nat), .slice oa2 m2 cap2] 36 := by rw [hW3]; exact setRow_heap _ _ _ _ _ _ h6.1
  have hld : (loadVar 36 ⟨zb, 0, none⟩).run Tryz.prog W3 = .ok (.agg #[.int .i64 (a : Nat), .int .i64 (b : Nat), .slice oa2 m2 cap2]) W3 := run_loadVar_row W3 zb 36 36 #[.int .i64 (a : Nat), .int .i64 (b : Nat), .slice oa2 m2 cap2] (0, 0) _ hB3 Tryz.underlying36 rfl (by kernel_rfl)
  have hK3 : Kp2 zb zb (w3.alloc (.cells #[.int .i64 (a : Nat), .int .i64 (b : Nat), .slice oa2 m2 cap2] 36)) W3 := by rw [hW3]; exact Kp2.row _ _ _ _
  have ho : OwC w.heap.size W3 (.slice oa2 m2 cap2) (drwB a c n l) := by
    obtain ⟨hl, h0 | ⟨g3, cap, cur, e, q1, q2, q3⟩⟩ := h6.2.2.1
    · exact ⟨hl, .inl h0⟩
    · have hz := HZ.out
      exact ⟨hl, .inr ⟨g3, cap, cur, e, by omega, (hK3.block g3 (Array.getElem?_eq_some_iff.1 q2).1 (by omega) (by omega)).trans q2, q3⟩⟩
  refine bodyPost_ret (v := .tuple #[.agg #[.int .i64 (a : Nat), .int .i64 (b : Nat), .slice oa2 m2 cap2], .int .i64 0, .int .i64 0]) ?_ rfl ⟨_, rfl, ho, h6.2.1.trans (hK3.below h6.2.1.size (by have := HZ.out; omega) (by have := HZ.out; omega))⟩
  simp [results, Tryz.results8, asAddr, hld]

end Go.Proofs.YtfjbnejmcanamaaGreatDoor

/-
  The statements' own alive, of stage 16.
-/
namespace Go.Proofs.YtfjbnejmcanamaaGreatDoor
open Go.RowKit

def fA : St := ⟨1, ⟨-1, 0, 4, 4⟩, ⟨255, 0, 0, 255⟩, ⟨0, 0, 0, 0⟩, ⟨#[]⟩, 2⟩
def fA0 : St := ⟨1, ⟨-1, 0, 4, 4⟩, ⟨255, 0, 0, 255⟩, ⟨0, 0, 0, 0⟩, ⟨#[]⟩, 0⟩
def tA : ByteArray := ⟨#[60, 115, 104, 97, 112, 101, 115, 32, 119, 61, 34, 56, 34, 32, 104, 61, 34, 51, 34, 62, 10, 60, 102, 105, 108, 108, 32, 120, 61, 34, 45, 49, 34, 32, 121, 61, 34, 48, 34, 32, 119, 61, 34, 52, 34, 32, 104, 61, 34, 52, 34, 32, 99, 61, 34, 35, 102, 48, 48, 34, 32, 110, 61, 34, 50, 34, 47, 62, 10, 60, 47, 115, 104, 97, 112, 101, 115, 62, 10]⟩
theorem tA_text : (⟨(texT [fA] 8 3).toArray⟩ : ByteArray) = tA := by
  have : texT [fA] 8 3 = tA.data.toList := by decide +kernel
  rw [this]
theorem tA_err : texE [fA] 8 3 = 0 := by decide +kernel
theorem tA_read : vsR tA = .inr ([fA], 8, 3) := by kernel_rfl
theorem tA_rd : rdE tA = 0 ∧ rdA tA = 0 ∧ rdL tA = [fA] ∧ rdW tA = 8 ∧ rdH tA = 3 := by
  have h0 : ¬ 65536 < tA.size := by decide
  have h1 : chkS [fA] = 0 := by decide +kernel
  have h2 : sizB 8 3 = true := by decide
  have e : rdE tA = 0 := by unfold rdE; rw [if_neg h0, tA_read]; simp [h1, h2]
  refine ⟨e, ?_, ?_, ?_, ?_⟩
  · unfold rdA; rw [if_neg h0, tA_read]
  · unfold rdL; rw [if_pos e, tA_read]
  · unfold rdW; rw [if_pos e, tA_read]
  · unfold rdH; rw [if_pos e, tA_read]
theorem fA_wf : Wfs [fA] := fun s hs => by
  obtain rfl : s = fA := by simpa using hs
  refine ⟨⟨?_, ?_⟩, ⟨?_, ?_, ?_, ?_⟩, ?_, ?_, ?_, ?_⟩ <;> first | (simp [fA, Co.ok, By, I64]; done) | decide
theorem lss_one (w : World) (s : St) (t : TypeId) : LsS (w.alloc (.cells (#[.int .u8 s.k, .int .i64 s.r.x, .int .i64 s.r.y, .int .i64 s.r.w, .int .i64 s.r.h, .int .u8 s.c.r, .int .u8 s.c.g, .int .u8 s.c.b, .int .u8 s.c.a, .int .u8 s.b.r, .int .u8 s.b.g, .int .u8 s.b.b, .int .u8 s.b.a, .string s.t, .int .i64 s.n]) t)) (.slice (some ⟨w.heap.size, 0, none⟩) 1 1) [s] := by
  refine ⟨_, _, rfl, Nat.le_refl _, fun _ => ⟨w.heap.size, 0, rfl, by simp, fun i hi => ?_⟩⟩
  have hi0 : i = 0 := by simpa using hi
  subst hi0
  exact bk15 (Bk.new w (#[.int .u8 s.k, .int .i64 s.r.x, .int .i64 s.r.y, .int .i64 s.r.w, .int .i64 s.r.h, .int .u8 s.c.r, .int .u8 s.c.g, .int .u8 s.c.b, .int .u8 s.c.a, .int .u8 s.b.r, .int .u8 s.b.g, .int .u8 s.b.b, .int .u8 s.b.a, .string s.t, .int .i64 s.n]) t)

end Go.Proofs.YtfjbnejmcanamaaGreatDoor

/-
  A colour's text is read as the colour, in plain words.
-/
namespace Go.Proofs.YtfjbnejmcanamaaGreatDoor
open Go.RowKit

/-- The text of these sixteens. -/
def sT (ns : List Nat) : ByteArray := ⟨(35 :: ns.map bt).toArray⟩
theorem sT_size (ns : List Nat) : (sT ns).size = ns.length + 1 := by simp [sT, ByteArray.size]
theorem sT_zero (ns : List Nat) (h : 0 < (sT ns).size) : (sT ns)[0] = 35 := rfl
theorem sT_succ (ns : List Nat) (j : Nat) (hj : j < ns.length) (h : j + 1 < (sT ns).size) : (sT ns)[j + 1] = bt ns[j] := by
  have h' : j + 1 < (35 :: ns.map bt).toArray.size := by simp; omega
  exact (show (sT ns)[j + 1] = (35 :: ns.map bt).toArray[j + 1]'h' from rfl).trans (by simp)
theorem dig_bt : ∀ x : Fin 16, dig (bt x.val).toNat = (x.val : Int) := by decide +kernel
theorem six_bt : ∀ x : Fin 16, six (bt x.val).toNat = true := by decide +kernel
theorem sT_dg {ns : List Nat} (hn : ∀ n ∈ ns, n < 16) (j : Nat) (hj : j < ns.length) : dg (sT ns) (j + 1) = (ns[j] : Nat) := by
  have h : j + 1 < (sT ns).size := by rw [sT_size]; omega
  rw [dg_at h, sT_succ ns j hj h]
  exact dig_bt ⟨ns[j], hn _ (List.getElem_mem hj)⟩
theorem sT_bel {ns : List Nat} (hn : ∀ n ∈ ns, n < 16) (h8 : ns.length ≤ 8) : bel (sT ns) = ns.length + 1 := by
  have hz := sT_size ns
  refine bel_is ⟨by omega, fun j hj hlt => ?_⟩ (fun h => absurd h (by omega))
  cases j with
  | zero => rw [sT_zero ns hj]; rfl
  | succ j =>
    rw [sT_succ ns j (by omega) hj]
    unfold belB
    rw [if_neg (by omega)]
    simp only [Bool.and_eq_true, decide_eq_true_eq]
    exact ⟨by omega, six_bt ⟨ns[j], hn _ (List.getElem_mem _)⟩⟩

theorem tw_eq {x : Nat} (hx : x < 256) (h : tw x = true) : x = 17 * (x % 16) := by
  unfold tw at h
  rw [sx_inj (by omega) (by omega)] at h
  simp only [beq_iff_eq] at h
  omega
def sxs (r g b a : Nat) : List Nat :=
  if a = 255 ∧ tw r = true ∧ tw g = true ∧ tw b = true then [r % 16, g % 16, b % 16]
  else if a = 255 then [r / 16, r % 16, g / 16, g % 16, b / 16, b % 16]
  else [r / 16, r % 16, g / 16, g % 16, b / 16, b % 16, a / 16, a % 16]
theorem txt_sT (c : Co) : txt c = sT (sxs c.r.toNat c.g.toNat c.b.toNat c.a.toNat) := by
  unfold txt txtL sxs
  split
  · rfl
  · split <;> rfl
theorem sxs_lt {r g b a : Nat} (hr : r < 256) (hg : g < 256) (hb : b < 256) (ha : a < 256) : (∀ n ∈ sxs r g b a, n < 16) ∧ (sxs r g b a).length ≤ 8 ∧ (a = 255 → (sxs r g b a).length ≤ 6) := by
  unfold sxs
  split
  · refine ⟨fun n hn => ?_, by simp, fun _ => by simp⟩
    simp at hn
    omega
  · split
    · refine ⟨fun n hn => ?_, by simp, fun _ => by simp⟩
      simp at hn
      omega
    · refine ⟨fun n hn => ?_, by simp, fun h => absurd h (by assumption)⟩
      simp at hn
      omega

theorem back_text (c : Co) (hc : c.ok) : okT (txt c) = true ∧ parC (txt c) = c ∧ (txt c).size ≤ 9 ∧ (c.a = 255 → (txt c).size ≤ 7) := by
  obtain ⟨⟨r1, r2⟩, ⟨g1, g2⟩, ⟨b1, b2⟩, ⟨a1, a2⟩⟩ := hc
  obtain ⟨r, g, b, a⟩ := c
  simp only at r1 r2 g1 g2 b1 b2 a1 a2
  obtain ⟨r, rfl⟩ := Int.eq_ofNat_of_zero_le r1
  obtain ⟨g, rfl⟩ := Int.eq_ofNat_of_zero_le g1
  obtain ⟨b, rfl⟩ := Int.eq_ofNat_of_zero_le b1
  obtain ⟨a, rfl⟩ := Int.eq_ofNat_of_zero_le a1
  rw [txt_sT]
  simp only [Int.toNat_natCast]
  obtain ⟨h1, h2, h3⟩ := sxs_lt (r := r) (g := g) (b := b) (a := a) (by omega) (by omega) (by omega) (by omega)
  have hbel := sT_bel h1 h2
  have hz := sT_size (sxs r g b a)
  refine ⟨?_, ?_, by omega, fun h => by have := h3 (by omega); omega⟩
  · rw [ok_iff]
    refine ⟨by omega, ?_⟩
    rw [hbel]
    unfold sxs
    split
    · simp
    · split <;> simp
  · have hd := fun j hj => sT_dg h1 j hj
    unfold parC
    have hlen : (sxs r g b a).length = 3 ∨ (sxs r g b a).length = 6 ∨ (sxs r g b a).length = 8 := by
      unfold sxs
      split
      · simp
      · split <;> simp
    rw [if_pos (ok_iff.2 ⟨by omega, by omega⟩), hbel]
    by_cases ht : a = 255 ∧ tw r = true ∧ tw g = true ∧ tw b = true
    · have e : sxs r g b a = [r % 16, g % 16, b % 16] := by unfold sxs; rw [if_pos ht]
      rw [e] at hd ⊢
      have q0 := hd 0 (by simp)
      have q1 := hd 1 (by simp)
      have q2 := hd 2 (by simp)
      simp at q0 q1 q2
      rw [if_pos (by simp), q0, q1, q2]
      obtain ⟨ha, t1, t2, t3⟩ := ht
      have u1 := tw_eq (by omega) t1
      have u2 := tw_eq (by omega) t2
      have u3 := tw_eq (by omega) t3
      simp only [Co.mk.injEq]
      omega
    · by_cases ha : a = 255
      · have e : sxs r g b a = [r / 16, r % 16, g / 16, g % 16, b / 16, b % 16] := by unfold sxs; rw [if_neg ht, if_pos ha]
        rw [e] at hd ⊢
        have q0 := hd 0 (by simp)
        have q1 := hd 1 (by simp)
        have q2 := hd 2 (by simp)
        have q3 := hd 3 (by simp)
        have q4 := hd 4 (by simp)
        have q5 := hd 5 (by simp)
        simp at q0 q1 q2 q3 q4 q5
        rw [if_neg (by simp), if_pos (by simp), q0, q1, q2, q3, q4, q5]
        simp only [Co.mk.injEq]
        omega
      · have e : sxs r g b a = [r / 16, r % 16, g / 16, g % 16, b / 16, b % 16, a / 16, a % 16] := by unfold sxs; rw [if_neg ht, if_neg ha]
        rw [e] at hd ⊢
        have q0 := hd 0 (by simp)
        have q1 := hd 1 (by simp)
        have q2 := hd 2 (by simp)
        have q3 := hd 3 (by simp)
        have q4 := hd 4 (by simp)
        have q5 := hd 5 (by simp)
        have q6 := hd 6 (by simp)
        have q7 := hd 7 (by simp)
        simp at q0 q1 q2 q3 q4 q5 q6 q7
        rw [if_neg (by simp), if_neg (by simp), q0, q1, q2, q3, q4, q5, q6, q7]
        simp only [Co.mk.injEq]
        omega

end Go.Proofs.YtfjbnejmcanamaaGreatDoor

/-
  What is written as shapes is read as itself, in plain words: numbers, colours, escaped texts.
-/
namespace Go.Proofs.YtfjbnejmcanamaaGreatDoor
open Go.RowKit Go.Lib

theorem rnO_app {P : Nat → Bool} : ∀ {l : List UInt8} {c : UInt8} {t : List UInt8}, (∀ x ∈ l, P x.toNat = true) → P c.toNat = false → rnO P (l ++ c :: t) = l.length
  | [], c, t, _, hc => by
    unfold rnO
    simp [hc]
  | x :: l, c, t, h, hc => by
    have ih := rnO_app (P := P) (l := l) (c := c) (t := t) (fun y hy => h y (List.mem_cons_of_mem _ hy)) hc
    have hx := h x (List.mem_cons_self ..)
    unfold rnO at ih ⊢
    rw [List.cons_append, List.takeWhile_cons]
    simp only [hx, if_true, List.length_cons, ih]

theorem dec_rec (u : Nat) : decDigits u = if u < 10 then [UInt8.ofNat (48 + u)] else decDigits (u / 10) ++ [UInt8.ofNat (48 + u % 10)] := by
  rw [decDigits]
  by_cases h : u < 10
  · rw [dif_pos h, if_pos h]
  · rw [dif_neg h, if_neg h]
theorem dec_dig (u : Nat) : ∀ c ∈ decDigits u, dgB c.toNat = true := by
  induction u using Nat.strongRecOn with
  | ind u ih =>
    intro c hc
    have one : ∀ k : Nat, k < 10 → dgB (UInt8.ofNat (48 + k)).toNat = true := fun k hk => by
      rw [UInt8.toNat_ofNat']
      unfold dgB
      simp only [Bool.and_eq_true, decide_eq_true_eq]
      omega
    rw [dec_rec] at hc
    split at hc
    · next h =>
      rw [List.mem_singleton.1 hc]
      exact one u h
    · rcases List.mem_append.1 hc with hc | hc
      · exact ih (u / 10) (by omega) c hc
      · rw [List.mem_singleton.1 hc]
        exact one _ (by omega)
theorem dec_len : ∀ (k u : Nat), u < 10 ^ (k + 1) → 0 < (decDigits u).length ∧ (decDigits u).length ≤ k + 1
  | 0, u, h => by
    rw [dec_rec, if_pos (by simpa using h)]
    exact ⟨by simp, by simp⟩
  | k + 1, u, h => by
    rw [dec_rec]
    split
    · exact ⟨by simp, by simp⟩
    · have := dec_len k (u / 10) (by
        rw [Nat.div_lt_iff_lt_mul (by decide)]
        rw [Nat.pow_succ] at h
        exact h)
      rw [List.length_append, List.length_singleton]
      omega
theorem par_app (l1 l2 : List UInt8) : ∀ acc, parseUint10 acc (l1 ++ l2) = match parseUint10 acc l1 with | .ok v => parseUint10 v l2 | .syntax => .syntax | .range => .range := by
  induction l1 with
  | nil => intro acc; rfl
  | cons c l1 ih =>
    intro acc
    rw [List.cons_append, parseUint10, parseUint10]
    split
    · split
      · rfl
      · split
        · rfl
        · exact ih _
    · rfl
theorem par_dec (u : Nat) (h : u < 1000000000) : parseUint10 0 (decDigits u) = .ok u := by
  induction u using Nat.strongRecOn with
  | ind u ih =>
    have one : ∀ acc k : Nat, k < 10 → acc < 1000000000 → parseUint10 acc [UInt8.ofNat (48 + k)] = .ok (acc * 10 + k) := fun acc k hk ha => by
      have e : (UInt8.ofNat (48 + k)).toNat = 48 + k := by rw [UInt8.toNat_ofNat']; omega
      rw [parseUint10, e, if_pos (by omega), if_neg (by omega), if_neg (by omega), parseUint10]
      congr 1
      omega
    rw [dec_rec]
    split
    · next h1 =>
      rw [one 0 u h1 (by decide)]
      congr 1
      omega
    · rw [par_app, ih (u / 10) (by omega) (by omega)]
      simp only
      rw [one (u / 10) (u % 10) (by omega) (by omega)]
      congr 1
      omega
theorem ato_itoa {n : Int} (h1 : -1000000000 < n) (h2 : n < 1000000000) : atoiAll (itoa n) = .ok n := by
  have mag : ∀ u : Nat, u < 1000000000 → parseMag (decDigits u) = .ok u := fun u hu => by
    unfold parseMag
    rw [if_neg (fun e => by have := (dec_len 8 u (by simpa using hu)).1; rw [e] at this; exact absurd this (by decide)), par_dec u hu]
  unfold itoa
  split
  · next hn =>
    rw [atoiAll_minus, mag _ (by omega)]
    unfold signed
    simp only
    rw [if_neg (by omega)]
    congr 1
    omega
  · next hn =>
    rcases e : decDigits n.toNat with _ | ⟨c, r⟩
    · exfalso
      have := (dec_len 8 n.toNat (by simp; omega)).1
      rw [e] at this
      exact absurd this (by decide)
    · have hd := dec_dig n.toNat c (by rw [e]; exact List.mem_cons_self ..)
      unfold dgB at hd
      simp only [Bool.and_eq_true, decide_eq_true_eq] at hd
      rw [atoiAll_plain c r (by omega) (by omega), ← e, mag _ (by omega)]
      unfold signless
      simp only
      rw [if_neg (by omega)]
      congr 1
      omega
theorem nuL_itoa {n : Int} {c : UInt8} {t : List UInt8} (h1 : -1000000000 < n) (h2 : n < 1000000000) (hc : dgB c.toNat = false) : nuL (itoa n ++ c :: t) = some n ∧ pcN (itoa n ++ c :: t) = itoa n := by
  have key : sgN (itoa n ++ c :: t) + dgN (itoa n ++ c :: t) = (itoa n).length ∧ dgN (itoa n ++ c :: t) ≤ 9 := by
    unfold itoa
    split
    · next hn =>
      have e1 : sgN (45 :: decDigits n.natAbs ++ c :: t) = 1 := by
        unfold sgN Lib.hasPrefix
        rfl
      have e2 : dgN (45 :: decDigits n.natAbs ++ c :: t) = (decDigits n.natAbs).length := by
        unfold dgN
        rw [e1]
        exact rnO_app (dec_dig _) hc
      rw [e1, e2, List.length_cons]
      exact ⟨by omega, (dec_len 8 _ (by simp; omega)).2⟩
    · next hn =>
      have hl := dec_len 8 n.toNat (by simp; omega)
      have e1 : sgN (decDigits n.toNat ++ c :: t) = 0 := by
        rcases e : decDigits n.toNat with _ | ⟨d, r⟩
        · rw [e] at hl
          exact absurd hl.1 (by decide)
        · have hd := dec_dig n.toNat d (by rw [e]; exact List.mem_cons_self ..)
          unfold dgB at hd
          simp only [Bool.and_eq_true, decide_eq_true_eq] at hd
          unfold sgN Lib.hasPrefix
          rw [if_neg]
          have h45 : ((45 : UInt8) == d) = false := by
            rw [beq_eq_false_iff_ne]
            intro e
            rw [← e] at hd
            exact absurd hd.1 (by decide)
          simp [List.isPrefixOf, h45]
      have e2 : dgN (decDigits n.toNat ++ c :: t) = (decDigits n.toNat).length := by
        unfold dgN
        rw [e1]
        exact rnO_app (dec_dig _) hc
      rw [e1, e2]
      exact ⟨by omega, hl.2⟩
  have hp : pcN (itoa n ++ c :: t) = itoa n := by
    unfold pcN
    rw [key.1, List.take_left]
  refine ⟨?_, hp⟩
  unfold nuL
  rw [if_neg (by omega), hp, ato_itoa h1 h2]
  simp

theorem bt_cl : ∀ k : Fin 16, clB (bt k.val).toNat = true := by decide +kernel
theorem coL_txt {c : Co} (hc : c.ok) {d : UInt8} {t : List UInt8} (hd : clB d.toNat = false) : coL ((txt c).data.toList ++ d :: t) = some c ∧ pcC ((txt c).data.toList ++ d :: t) = (txt c).data.toList := by
  obtain ⟨b1, b2, _, _⟩ := back_text c hc
  have hall : ∀ x ∈ (txt c).data.toList, clB x.toNat = true := fun x hx => by
    rw [txt_sT] at hx
    have hl := (sxs_lt (r := c.r.toNat) (g := c.g.toNat) (b := c.b.toNat) (a := c.a.toNat) (by have := hc.1; unfold By at this; omega) (by have := hc.2.1; unfold By at this; omega) (by have := hc.2.2.1; unfold By at this; omega) (by have := hc.2.2.2; unfold By at this; omega)).1
    unfold sT at hx
    have hx2 : x = 35 ∨ ∃ k, k ∈ sxs c.r.toNat c.g.toNat c.b.toNat c.a.toNat ∧ bt k = x := by simpa using hx
    rcases hx2 with rfl | ⟨k, hk, rfl⟩
    · decide
    · exact bt_cl ⟨k, hl k hk⟩
  have hp : pcC ((txt c).data.toList ++ d :: t) = (txt c).data.toList := by
    unfold pcC
    rw [rnO_app hall hd, List.take_left]
  refine ⟨?_, hp⟩
  unfold coL
  rw [hp]
  have e : (⟨(txt c).data.toList.toArray⟩ : ByteArray) = txt c := by simp
  rw [e, b2]
  have e2 : parE (txt c) = 0 := by unfold parE; rw [b1]; rfl
  rw [if_pos ⟨e2, rfl⟩]

theorem esc_no60 : ∀ (l : List UInt8), ∀ x ∈ escL l, x ≠ 60
  | [], x, h => by cases h
  | b :: l, x, h => by
    rw [escL_cons] at h
    rcases List.mem_append.1 h with h | h
    · unfold escB at h
      split at h
      · next hs =>
        rw [List.mem_singleton.1 h]
        intro e
        rw [e] at hs
        exact absurd hs (by decide)
      · have hb := b.toNat_lt
        have no : ∀ k : Fin 16, bt k.val ≠ 60 := by decide +kernel
        simp only [List.mem_cons, List.not_mem_nil, or_false] at h
        rcases h with rfl | rfl | rfl | rfl
        · decide
        · exact no ⟨b.toNat / 16, by omega⟩
        · exact no ⟨b.toNat % 16, by omega⟩
        · decide
    · exact esc_no60 l x h
theorem idx_no60 : ∀ (l t : List UInt8), (∀ x ∈ l, x ≠ 60) → (Lib.cut (l ++ 60 :: t) [60]).1 = l
  | l, t, h => by
    have hi : ∀ l : List UInt8, (∀ x ∈ l, x ≠ 60) → Lib.index (l ++ 60 :: t) [60] = (l.length : Int) := by
      intro l
      induction l with
      | nil => intro _; simp [Lib.index, List.isPrefixOf]
      | cons b l ih =>
        intro h
        have hb : ((60 : UInt8) == b) = false := by
          rw [beq_eq_false_iff_ne]
          exact fun e => h b (List.mem_cons_self ..) e.symm
        have := ih fun x hx => h x (List.mem_cons_of_mem _ hx)
        rw [List.cons_append, Lib.index, this]
        simp only [List.isPrefixOf, hb, Bool.false_and, Bool.false_eq_true, if_false]
        rw [if_neg (by simp), List.length_cons]
        omega
    unfold Lib.cut
    rw [hi l h]
    simp
theorem esA_esc (l : List UInt8) (t : List UInt8) : pcE (escL l ++ 60 :: t) = escL l ∧ esA (escL l ++ 60 :: t) = (l, 0, 0) := by
  have hp : pcE (escL l ++ 60 :: t) = escL l := idx_no60 _ _ (esc_no60 l)
  refine ⟨hp, ?_⟩
  unfold esA
  rw [hp]
  exact vpA_esc l

end Go.Proofs.YtfjbnejmcanamaaGreatDoor

/-
  What is written as shapes is read as itself, in plain words: lines, lists.
-/
namespace Go.Proofs.YtfjbnejmcanamaaGreatDoor
open Go.RowKit Go.Lib

/-- A stroke whose pieces can be read again. -/
structure Rdb (T : St) : Prop where
  x : -1000000000 < T.r.x ∧ T.r.x < 1000000000
  y : -1000000000 < T.r.y ∧ T.r.y < 1000000000
  w : -1000000000 < T.r.w ∧ T.r.w < 1000000000
  h : -1000000000 < T.r.h ∧ T.r.h < 1000000000
  n : -1000000000 < T.n ∧ T.n < 1000000000
  c : T.c.ok
  b : T.b.ok
/-- A stroke with what a letter tells. -/
def stF (T : St) (c : Nat) (st : St) : St :=
  if c = 88 then { st with r := { st.r with x := T.r.x } }
  else if c = 89 then { st with r := { st.r with y := T.r.y } }
  else if c = 87 then { st with r := { st.r with w := T.r.w } }
  else if c = 72 then { st with r := { st.r with h := T.r.h } }
  else if c = 67 then { st with c := T.c }
  else if c = 66 then { st with b := T.b }
  else if c = 78 then { st with n := T.n }
  else if c = 84 then { st with t := T.t }
  else st
def sepO (c d : Nat) : Bool := if c = 67 ∨ c = 66 then !clB d else if c = 84 then d == 60 else !dgB d
theorem tdL_pce {T : St} (hT : Rdb T) {n : Nat} {d : UInt8} (t : List UInt8) (hc : leB n = true) (hd : sepO n d.toNat = true) (st : St) : tdL n (pceF T n ++ d :: t) st = .inr (stF T n st, (pceF T n).length) := by
  unfold sepO at hd
  unfold tdL stF
  by_cases c1 : n = 88
  · subst c1
    obtain ⟨q1, q2⟩ := nuL_itoa (c := d) (t := t) hT.x.1 hT.x.2 (by simpa using hd)
    rw [if_pos rfl, if_pos rfl]
    rw [show pceF T 88 = itoa T.r.x from rfl, q1, q2]
  rw [if_neg c1, if_neg c1]
  by_cases c2 : n = 89
  · subst c2
    obtain ⟨q1, q2⟩ := nuL_itoa (c := d) (t := t) hT.y.1 hT.y.2 (by simpa using hd)
    rw [if_pos rfl, if_pos rfl]
    rw [show pceF T 89 = itoa T.r.y from rfl, q1, q2]
  rw [if_neg c2, if_neg c2]
  by_cases c3 : n = 87
  · subst c3
    obtain ⟨q1, q2⟩ := nuL_itoa (c := d) (t := t) hT.w.1 hT.w.2 (by simpa using hd)
    rw [if_pos rfl, if_pos rfl]
    rw [show pceF T 87 = itoa T.r.w from rfl, q1, q2]
  rw [if_neg c3, if_neg c3]
  by_cases c4 : n = 72
  · subst c4
    obtain ⟨q1, q2⟩ := nuL_itoa (c := d) (t := t) hT.h.1 hT.h.2 (by simpa using hd)
    rw [if_pos rfl, if_pos rfl]
    rw [show pceF T 72 = itoa T.r.h from rfl, q1, q2]
  rw [if_neg c4, if_neg c4]
  by_cases c5 : n = 67
  · subst c5
    obtain ⟨q1, q2⟩ := coL_txt (d := d) (t := t) hT.c (by simpa using hd)
    rw [if_pos rfl, if_pos rfl]
    rw [show pceF T 67 = (txt T.c).data.toList from rfl, q1, q2]
  rw [if_neg c5, if_neg c5]
  by_cases c6 : n = 66
  · subst c6
    obtain ⟨q1, q2⟩ := coL_txt (d := d) (t := t) hT.b (by simpa using hd)
    rw [if_pos rfl, if_pos rfl]
    rw [show pceF T 66 = (txt T.b).data.toList from rfl, q1, q2]
  rw [if_neg c6, if_neg c6]
  by_cases c7 : n = 78
  · subst c7
    obtain ⟨q1, q2⟩ := nuL_itoa (c := d) (t := t) hT.n.1 hT.n.2 (by simpa using hd)
    rw [if_pos rfl, if_pos rfl]
    rw [show pceF T 78 = itoa T.n from rfl, q1, q2]
  rw [if_neg c7, if_neg c7]
  by_cases c8 : n = 84
  · subst c8
    have hd6 : d = 60 := UInt8.toNat_inj.1 (by simpa using hd)
    subst hd6
    obtain ⟨q1, q2⟩ := esA_esc T.t.data.toList t
    rw [if_pos rfl, if_pos rfl]
    rw [show pceF T 84 = escL T.t.data.toList from rfl, q1, q2, if_pos rfl]
  · exfalso
    unfold leB at hc
    simp [c1, c2, c3, c4, c5, c6, c7, c8] at hc

/-- Behind each letter of a form stands a byte that ends its piece. -/
def sepN (c : Nat) : List UInt8 → Bool
  | [] => false
  | d :: _ => fxB d.toNat && sepO c d.toNat
def sepB : List UInt8 → Bool
  | [] => true
  | c :: r => (fxB c.toNat || (leB c.toNat && sepN c.toNat r)) && sepB r
theorem sepB_app : ∀ (a b : List UInt8), sepB (a ++ b) = true → sepB b = true
  | [], b, h => h
  | c :: a, b, h => by
    rw [List.cons_append, sepB, Bool.and_eq_true] at h
    exact sepB_app a b h.2
theorem bgB_yes {s : ByteArray} {p : Nat} {x y : List UInt8} (h : rsL s p = x ++ y) : bgB s p x = true ∧ rsL s (p + x.length) = y := by
  constructor
  · unfold bgB Lib.hasPrefix
    rw [h]
    exact List.isPrefixOf_iff_prefix.2 (List.prefix_append _ _)
  · unfold rsL at h ⊢
    rw [show List.drop (p + x.length) s.data.toList = List.drop x.length (List.drop p s.data.toList) from (List.drop_drop ..).symm, h, List.drop_left]
/-- A line that was written is read. -/
theorem lnL_lin {s : ByteArray} {T : St} (hT : Rdb T) : ∀ (f : Nat) (form : List UInt8) (p : Nat) (st : St) (rest : List UInt8), form.length < f → sepB form = true → rsL s p = linF form T ++ rest →
    lnL f form s p st = .inr ((lets form).foldl (fun (st : St) (c : UInt8) => stF T c.toNat st) st, p + (linF form T).length) ∧ rsL s (p + (linF form T).length) = rest
  | 0, _, _, _, _, h, _, _ => by omega
  | f + 1, form, p, st, rest, hf, hs, h => by
    refine ⟨?_, (bgB_yes h).2⟩
    have hpre : ∀ b ∈ form.takeWhile (fun c : UInt8 => fxB c.toNat), fxB b.toNat = true := fun b hb => List.all_eq_true.1 List.all_takeWhile b hb
    have hall : form = form.takeWhile (fun c : UInt8 => fxB c.toNat) ++ form.dropWhile (fun c : UInt8 => fxB c.toNat) := List.takeWhile_append_dropWhile.symm
    have hlet0 : lets (form.takeWhile (fun c : UInt8 => fxB c.toNat)) = [] := by
      unfold lets
      rw [List.filter_eq_nil_iff]
      intro b hb
      rw [hpre b hb]
      decide
    have hlin : linF form T = form.takeWhile (fun c : UInt8 => fxB c.toNat) ++ linF (form.dropWhile (fun c : UInt8 => fxB c.toNat)) T := by
      conv => lhs; rw [hall]
      rw [linF_app, lin_fix T _ hpre]
    have hlets : lets form = lets (form.dropWhile (fun c : UInt8 => fxB c.toNat)) := by
      conv => lhs; rw [hall]
      unfold lets at hlet0 ⊢
      rw [List.filter_append, hlet0]
      rfl
    have hk : (form.takeWhile (fun c : UInt8 => fxB c.toNat)).length = rnO fxB form := rfl
    rw [hlin, List.append_assoc] at h
    obtain ⟨b1, b2⟩ := bgB_yes h
    rw [hk] at b2
    rcases he : form.dropWhile (fun c : UInt8 => fxB c.toNat) with _ | ⟨c, r⟩
    · rw [lnL_end (by rw [take_rnO]; exact b1) (by rw [drop_rnO]; exact he), hlets, he, hlin, he]
      show Sum.inr (st, p + rnO fxB form) = Sum.inr (st, p + (form.takeWhile (fun c : UInt8 => fxB c.toNat) ++ []).length)
      rw [List.append_nil, hk]
    · have hcf : fxB c.toNat = false := by
        have := List.head?_dropWhile_not (fun c : UInt8 => fxB c.toNat) form
        rw [he] at this
        simpa using this
      have hs2 : sepB (c :: r) = true := by
        rw [hall, he] at hs
        exact sepB_app _ _ hs
      rw [sepB, Bool.and_eq_true, hcf, Bool.false_or, Bool.and_eq_true] at hs2
      obtain ⟨⟨hle, hd⟩, hsr⟩ := hs2
      rcases r with _ | ⟨d, r2⟩
      · exact absurd hd (by simp [sepN])
      simp only [sepN, Bool.and_eq_true] at hd
      rw [he, linF_cons] at b2
      have hlind : linF (d :: r2) T = d :: linF r2 T := by rw [linF_cons, fix_pce T hd.1]; rfl
      have htd := tdL_pce hT (linF r2 T ++ rest) hle hd.2 st
      have hr2 : rsL s (p + rnO fxB form) = pceF T c.toNat ++ d :: (linF r2 T ++ rest) := by
        rw [b2, hlind, List.append_assoc]
        rfl
      have hr3 : rsL s (p + rnO fxB form + (pceF T c.toNat).length) = linF (d :: r2) T ++ rest := by
        have := (bgB_yes hr2).2
        rw [this, hlind]
        rfl
      have hlen : form.length = rnO fxB form + (r2.length + 2) := by
        have := congrArg List.length hall
        rw [he, List.length_append, hk] at this
        exact this
      rw [lnL_go (by rw [take_rnO]; exact b1) (by rw [drop_rnO]; exact he), hr2, htd]
      have ih := (lnL_lin hT f (d :: r2) (p + rnO fxB form + (pceF T c.toNat).length) (stF T c.toNat st) rest (by rw [List.length_cons]; omega) hsr hr3).1
      simp only
      rw [ih, hlets, he, hlin, he, linF_cons c (d :: r2) T]
      have hl2 : lets (c :: d :: r2) = c :: lets (d :: r2) := by
        unfold lets
        rw [List.filter_cons, hcf]
        rfl
      rw [hl2, List.foldl_cons, List.length_append, List.length_append, hk]
      congr 2
      omega
theorem form_sep : ∀ k : Fin 6, sepB (forF (k.val : Int)) = true := by decide +kernel
theorem head_sep : sepB hedF = true := by decide +kernel

/-- The beginnings of the forms are unlike. -/
def prB (a b : List UInt8) : Bool := !a.isPrefixOf b && !b.isPrefixOf a
theorem pr_no {a b x : List UInt8} (h : prB a b = true) : a.isPrefixOf (b ++ x) = false := by
  unfold prB at h
  simp only [Bool.and_eq_true, Bool.not_eq_true'] at h
  cases hc : a.isPrefixOf (b ++ x) with
  | false => rfl
  | true =>
    exfalso
    rcases List.prefix_or_prefix_of_prefix (List.isPrefixOf_iff_prefix.1 hc) (List.prefix_append b x) with h1 | h1
    · rw [List.isPrefixOf_iff_prefix.2 h1] at h
      exact absurd h.1 (by decide)
    · rw [List.isPrefixOf_iff_prefix.2 h1] at h
      exact absurd h.2 (by decide)
def fixF (k : Int) : List UInt8 := (forF k).take (rnO fxB (forF k))
theorem fix_pr : ∀ i k : Fin 6, 1 ≤ i.val → i.val < k.val → prB (fixF (i.val : Int)) (fixF (k.val : Int)) = true := by decide +kernel
theorem fix_last : ∀ k : Fin 6, 1 ≤ k.val → prB lstF (fixF (k.val : Int)) = true := by decide +kernel
theorem str_fix (T : St) : ∃ x, strF T = fixF T.k ++ x := by
  have hall : forF T.k = (forF T.k).takeWhile (fun c : UInt8 => fxB c.toNat) ++ (forF T.k).dropWhile (fun c : UInt8 => fxB c.toNat) := List.takeWhile_append_dropWhile.symm
  refine ⟨linF ((forF T.k).dropWhile (fun c : UInt8 => fxB c.toNat)) T, ?_⟩
  unfold strF fixF
  conv => lhs; rw [hall]
  rw [linF_app, lin_fix T _ (fun b hb => List.all_eq_true.1 List.all_takeWhile b hb), take_rnO]

/-- What one stroke's line tells. -/
theorem one_back {T : St} (h : oneE T = 0) : { (lets (forF T.k)).foldl (fun (st : St) (c : UInt8) => stF T c.toNat st) zSo with k := T.k } = T := by
  obtain ⟨_, hk, hw⟩ := oneE_zero h
  unfold wroF at hw
  simp only [Bool.or_eq_false_iff, Bool.and_eq_false_iff, Bool.not_eq_false'] at hw
  obtain ⟨w1, w2, w3⟩ := hw
  obtain ⟨k, ⟨rx, ry, rw_, rh⟩, ⟨c1, c2, c3, c4⟩, ⟨b1, b2, b3, b4⟩, t, n⟩ := T
  have txt0 : ∀ t : ByteArray, t.size = 0 → (⟨#[]⟩ : ByteArray) = t := fun t ht => by
    obtain ⟨⟨l⟩⟩ := t
    have : l = [] := by simpa [ByteArray.size] using ht
    rw [this]
  simp only at hk w1 w2 w3
  rcases hk with rfl | rfl | rfl | rfl | rfl
  · have hz : t.size = 0 ∧ (b1 = 0 ∧ b2 = 0 ∧ b3 = 0 ∧ b4 = 0) := by simpa [coE] using w1
    obtain ⟨ht, rfl, rfl, rfl, rfl⟩ := hz
    rw [← txt0 t ht]
    rfl
  · have hz : t.size = 0 ∧ (b1 = 0 ∧ b2 = 0 ∧ b3 = 0 ∧ b4 = 0) := by simpa [coE] using w1
    obtain ⟨ht, rfl, rfl, rfl, rfl⟩ := hz
    rw [← txt0 t ht]
    rfl
  · rfl
  · have hz : t.size = 0 ∧ (b1 = 0 ∧ b2 = 0 ∧ b3 = 0 ∧ b4 = 0) := by simpa [coE] using w1
    obtain ⟨ht, rfl, rfl, rfl, rfl⟩ := hz
    have hc : c1 = 0 ∧ c2 = 0 ∧ c3 = 0 ∧ c4 = 0 := by simpa [coE] using w2
    obtain ⟨rfl, rfl, rfl, rfl⟩ := hc
    rw [← txt0 t ht]
    rfl
  · have hz : t.size = 0 ∧ (b1 = 0 ∧ b2 = 0 ∧ b3 = 0 ∧ b4 = 0) := by simpa [coE] using w1
    obtain ⟨ht, rfl, rfl, rfl, rfl⟩ := hz
    have hc : c1 = 0 ∧ c2 = 0 ∧ c3 = 0 ∧ c4 = 0 := by simpa [coE] using w2
    obtain ⟨rfl, rfl, rfl, rfl⟩ := hc
    have hr : rx = 0 ∧ ry = 0 ∧ rw_ = 0 ∧ rh = 0 := by simpa [zZr, eqB] using w3
    obtain ⟨rfl, rfl, rfl, rfl⟩ := hr
    rw [← txt0 t ht]
    rfl

end Go.Proofs.YtfjbnejmcanamaaGreatDoor

/-
  What is written as shapes is read as itself, in plain words: the whole text.
-/
namespace Go.Proofs.YtfjbnejmcanamaaGreatDoor
open Go.RowKit Go.Lib

theorem rdb_of {s : St} (h : oneE s = 0) (hw : WfS s) : Rdb s := by
  obtain ⟨hm, hk, hf⟩ := oneE_zero h
  have hr := may_iff.1 (show mayB s.r.x s.r.y s.r.w s.r.h = true from hm)
  have hn : 0 ≤ s.n ∧ s.n ≤ 1048576 := by
    unfold oneE at h
    split at h
    · cases h
    · next h1 =>
      simp only [wroK, Bool.or_eq_true, decide_eq_true_eq] at h1
      constructor
      · rcases Int.lt_or_le s.n 0 with h2 | h2
        · exact absurd (.inl (.inr (.inl (.inl h2)))) h1
        · exact h2
      · rcases Int.lt_or_le 1048576 s.n with h2 | h2
        · exact absurd (.inl (.inr (.inl (.inr h2)))) h1
        · exact h2
  exact ⟨by omega, by omega, by omega, by omega, by omega, hw.2.2.1, hw.2.2.2.1⟩

theorem skF_str {s : ByteArray} {p : Nat} {T : St} {rest : List UInt8} (h0 : oneE T = 0) (hw : WfS T) (h : rsL s p = strF T ++ rest) : ∀ (f k : Nat), 1 ≤ k → (k : Int) ≤ T.k → T.k < k + f → k + f ≤ 6 →
    skF s p f k = .inr (T, p + (strF T).length)
  | 0, k, _, _, h3, _ => by omega
  | f + 1, k, h1, h2, h3, h4 => by
    obtain ⟨x, hx⟩ := str_fix T
    obtain ⟨kk, hkk⟩ : ∃ kk : Nat, T.k = kk := ⟨T.k.toNat, by omega⟩
    by_cases he : (k : Int) = T.k
    · have hb : bgB s p ((forF k).take (rnO fxB (forF k))) = true := by
        have e : rsL s p = fixF T.k ++ (x ++ rest) := by rw [h, hx, List.append_assoc]
        have := (bgB_yes e).1
        rw [← he] at this
        exact this
      rw [skF_yes hb]
      have hl := (lnL_lin (rdb_of h0 hw) ((forF k).length + 1) (forF k) p zSo rest (Nat.lt_succ_self _) (form_sep ⟨k, by omega⟩) (by rw [he]; exact h)).1
      rw [hl, he]
      simp only
      rw [one_back h0]
      rfl
    · have hb : bgB s p ((forF k).take (rnO fxB (forF k))) = false := by
        unfold bgB Lib.hasPrefix
        rw [h, hx, List.append_assoc]
        have := fix_pr ⟨k, by omega⟩ ⟨kk, by omega⟩ h1 (by show k < kk; omega)
        rw [hkk]
        exact pr_no this
      rw [skF_no hb]
      exact skF_str h0 hw h f (k + 1) (by omega) (by omega) (by omega) (by omega)
theorem skL_str {s : ByteArray} {p : Nat} {T : St} {rest : List UInt8} (h0 : oneE T = 0) (hw : WfS T) (h : rsL s p = strF T ++ rest) : skL s p = .inr (T, p + (strF T).length) := by
  obtain ⟨_, hk, _⟩ := oneE_zero h0
  exact skF_str h0 hw h 5 1 (by omega) (by omega) (by omega) (by omega)
theorem vsF_shp {s : ByteArray} : ∀ (l : List St) (f p : Nat) (acc : List St), (∀ T ∈ l, oneE T = 0 ∧ WfS T) → l.length < f → rsL s p = shpF l ++ lstF → vsF s f p acc = .inr (acc ++ l)
  | [], f + 1, p, acc, _, _, h => by
    obtain ⟨b1, b2⟩ := bgB_yes (y := []) (h.trans (by show lstF = lstF ++ []; rw [List.append_nil]))
    rw [vsF_last b1, List.append_nil, if_neg]
    unfold rsL at b2
    rw [List.drop_eq_nil_iff, dl_len] at b2
    have : lstF.length = 10 := rfl
    omega
  | T :: l, f + 1, p, acc, ha, hf, h => by
    have h2 : rsL s p = strF T ++ (shpF l ++ lstF) := by
      rw [h]
      unfold shpF
      rw [List.flatMap_cons, List.append_assoc]
    obtain ⟨h0, hw⟩ := ha T (List.mem_cons_self ..)
    obtain ⟨_, hk, _⟩ := oneE_zero h0
    obtain ⟨x, hx⟩ := str_fix T
    have hb : bgB s p lstF = false := by
      unfold bgB Lib.hasPrefix
      rw [h2, hx, List.append_assoc]
      obtain ⟨kk, hkk⟩ : ∃ kk : Nat, T.k = kk := ⟨T.k.toNat, by omega⟩
      rw [hkk]
      exact pr_no (fix_last ⟨kk, by omega⟩ (by show 1 ≤ kk; omega))
    rw [vsF_go hb (skL_str h0 hw h2), vsF_shp l f _ _ (fun T' hT => ha T' (List.mem_cons_of_mem _ hT)) (by rw [List.length_cons] at hf; omega) (bgB_yes h2).2, List.append_assoc]
    rfl
theorem clp_all : ∀ (n : Nat) (l : List St), clpE n l = 0 → ∀ T ∈ l, oneE T = 0
  | _, [], _, T, h => by cases h
  | n, s :: l, hc, T, h => by
    obtain ⟨a1, _, a3⟩ := clpE_cons hc
    rcases List.mem_cons.1 h with rfl | h
    · exact a1
    · exact clp_all _ l a3 T h
theorem strF_pos (T : St) : 0 < (strF T).length := by
  obtain ⟨x, hx⟩ := str_fix T
  rw [hx, List.length_append]
  have h3 : 0 < rnO fxB (forF T.k) := by
    unfold forF
    repeat' split
    all_goals decide
  have h2 : (fixF T.k).length = rnO fxB (forF T.k) := by
    unfold fixF
    rw [List.length_take]
    have := rnO_le fxB (forF T.k)
    omega
  omega
theorem shp_len : ∀ l : List St, l.length ≤ (shpF l).length
  | [] => Nat.le_refl _
  | T :: l => by
    have h1 := shp_len l
    have h2 := strF_pos T
    have e : shpF (T :: l) = strF T ++ shpF l := List.flatMap_cons ..
    rw [e, List.length_append, List.length_cons]
    omega
theorem co0_ok : (⟨0, 0, 0, 0⟩ : Co).ok := ⟨⟨by decide, by decide⟩, ⟨by decide, by decide⟩, ⟨by decide, by decide⟩, ⟨by decide, by decide⟩⟩
/-- What is written is read as itself. -/
theorem vsR_back {l : List St} {zw zh : Int} (hk : chkS l = 0) (hw : Wfs l) (hz : sizB zw zh = true) : vsR ⟨(texF l zw zh).toArray⟩ = .inr (l, zw, zh) := by
  obtain ⟨s, hs⟩ : ∃ s : ByteArray, s = ⟨(texF l zw zh).toArray⟩ := ⟨_, rfl⟩
  have h0 : rsL s 0 = hdF zw zh ++ (shpF l ++ lstF) := by
    rw [hs]
    unfold rsL texF
    simp [List.append_assoc]
  have hzz : (0 ≤ zw ∧ zw ≤ 16384) ∧ (0 ≤ zh ∧ zh ≤ 16384) := by
    unfold sizB at hz
    simpa [Bool.and_eq_true, decide_eq_true_eq] using hz
  have hT : Rdb ⟨0, ⟨0, 0, zw, zh⟩, ⟨0, 0, 0, 0⟩, ⟨0, 0, 0, 0⟩, ByteArray.empty, 0⟩ := by
    refine ⟨⟨by show (-1000000000 : Int) < 0; decide, by show (0 : Int) < 1000000000; decide⟩, ⟨by show (-1000000000 : Int) < 0; decide, by show (0 : Int) < 1000000000; decide⟩, ⟨by show (-1000000000 : Int) < zw; omega, by show zw < 1000000000; omega⟩, ⟨by show (-1000000000 : Int) < zh; omega, by show zh < 1000000000; omega⟩, ⟨by show (-1000000000 : Int) < 0; decide, by show (0 : Int) < 1000000000; decide⟩, co0_ok, co0_ok⟩
  obtain ⟨l1, l2⟩ := lnL_lin hT 22 hedF 0 zSo (shpF l ++ lstF) (by decide) head_sep h0
  have hall : ∀ T ∈ l, oneE T = 0 ∧ WfS T := fun T hT => ⟨clp_all 0 l (chkS_zero hk).2 T hT, hw T hT⟩
  have hln : l.length < s.size + 1 := by
    have h1 := shp_len l
    have h2 := congrArg List.length h0
    rw [rsL_len, List.length_append, List.length_append] at h2
    omega
  have hv := vsF_shp l (s.size + 1) _ [] hall hln l2
  rw [← hs]
  unfold vsR
  rw [l1]
  simp only
  rw [hv]
  rfl

end Go.Proofs.YtfjbnejmcanamaaGreatDoor

/-
  The statement VectorBack, walked, over what is asked of drawFrame.
-/
namespace Go.Proofs.YtfjbnejmcanamaaGreatDoor
open Go.RowKit

/-- What lies while the statement goes on. -/
structure VbF (w : World) (vl : Value) (l : List St) (zw zh : Int) (c : Co) (W : World) : Prop where
  z : Bk W w.heap.size #[.int .i64 zw, .int .i64 zh] 24
  c : Bk W (w.heap.size + 1) #[.int .u8 c.r, .int .u8 c.g, .int .u8 c.b, .int .u8 c.a] 26
  b : Below w.heap.size w W
  l : LsS W vl l
theorem VbF.below {w : World} {vl : Value} {l : List St} {zw zh : Int} {c : Co} {W W' : World} (h : VbF w vl l zw zh c W) (hb : Below W.heap.size W W') : VbF w vl l zw zh c W' :=
  ⟨h.z.below hb, h.c.below hb, h.b.trans (hb.mono h.b.size), h.l.below hb⟩
theorem VbF.alk {w : World} {vl : Value} {l : List St} {zw zh : Int} {c : Co} {W : World} (h : VbF w vl l zw zh c W) (o : Obj) : VbF w vl l zw zh c (W.alloc o) := h.below ((Below.refl _ W).alloc (Nat.le_refl _) o)
theorem tex_zero {l : List St} {zw zh : Int} (h : texE l zw zh = 0) : chkS l = 0 ∧ sizB zw zh = true ∧ (texF l zw zh).length ≤ 65536 ∧ texT l zw zh = texF l zw zh := by
  have h0 := h
  unfold texE at h
  split at h
  · next h1 => exact absurd h h1
  · next h1 =>
    split at h
    · cases h
    · next h2 =>
      split at h
      · cases h
      · next h3 => exact ⟨Decidable.not_not.1 h1, by simpa using h2, by omega, by unfold texT; rw [if_pos h0]⟩
theorem rd_text {l : List St} {zw zh : Int} (h : texE l zw zh = 0) (hw : Wfs l) : rdE ⟨(texT l zw zh).toArray⟩ = 0 ∧ rdL ⟨(texT l zw zh).toArray⟩ = l ∧ rdW ⟨(texT l zw zh).toArray⟩ = zw ∧ rdH ⟨(texT l zw zh).toArray⟩ = zh ∧ rdA ⟨(texT l zw zh).toArray⟩ = 0 := by
  obtain ⟨h1, h2, h3, h4⟩ := tex_zero h
  rw [h4]
  have hv := vsR_back h1 hw h2
  have hs : ¬ 65536 < (⟨(texF l zw zh).toArray⟩ : ByteArray).size := by simp [ByteArray.size]; omega
  have e : rdE ⟨(texF l zw zh).toArray⟩ = 0 := by unfold rdE; rw [if_neg hs, hv]; simp [h1, h2]
  refine ⟨e, ?_, ?_, ?_, ?_⟩
  · unfold rdL; rw [if_pos e, hv]
  · unfold rdW; rw [if_pos e, hv]
  · unfold rdH; rw [if_pos e, hv]
  · unfold rdA; rw [if_neg hs, hv]

end Go.Proofs.YtfjbnejmcanamaaGreatDoor

/-
  The document's comparing of screens (stage 15).
-/
namespace Go.Proofs.YtfjbnejmcanamaaGreatDoor
open Go.RowKit

set_option maxRecDepth 20000 in
set_option maxHeartbeats 4000000 in
theorem scr15_any (p q : Int) (L : List Ce) (va vb : Value) (w : World) (ha : LsC w va L) (hb : LsC w vb L) (hl : L.length < 1000000) :
    Calls Tryz.prog 11 #[.agg #[.int .i64 p, .int .i64 q, va], .agg #[.int .i64 p, .int .i64 q, vb]] w fun e w' => e = .returned (.bool true) ∧ Below w.heap.size w w' := by
  obtain ⟨oa, ca, rfl, hca, hga⟩ := ha
  obtain ⟨ob, cb, rfl, hcb, hgb⟩ := hb
  obtain ⟨m, hm⟩ : ∃ m, m = L.length := ⟨_, rfl⟩
  have HA : Hid (0 < L.length → ∃ g o, oa = some ⟨g, o, none⟩ ∧ g < w.heap.size ∧ ∀ i (h : i < L.length), CeAt w g (o + i * 11) L[i]) := hga
  have HB : Hid (0 < L.length → ∃ g o, ob = some ⟨g, o, none⟩ ∧ g < w.heap.size ∧ ∀ i (h : i < L.length), CeAt w g (o + i * 11) L[i]) := hgb
  have HM : Hid (L.length = m) := hm.symm
  rw [← hm]
  rw [← hm] at hl
  obtain ⟨W2, hW2⟩ : ∃ W2, W2 = (w.alloc (.cells #[.int .i64 p, .int .i64 q, .slice oa m ca] 36)).alloc (.cells #[.int .i64 p, .int .i64 q, .slice ob m cb] 36) := ⟨_, rfl⟩
  have H2 : Hid (Bk W2 w.heap.size #[.int .i64 p, .int .i64 q, .slice oa m ca] 36 ∧ Bk W2 (w.heap.size + 1) #[.int .i64 p, .int .i64 q, .slice ob m cb] 36 ∧ Below w.heap.size w W2) := by
    have k1 := Bk.new w #[.int .i64 p, .int .i64 q, .slice oa m ca] 36
    have k2 := Bk.new (w.alloc (.cells #[.int .i64 p, .int .i64 q, .slice oa m ca] 36)) #[.int .i64 p, .int .i64 q, .slice ob m cb] 36
    simp only [World.size_alloc] at k2
    rw [hW2]
    exact ⟨k1.below ((Below.refl _ _).alloc (Nat.le_refl _) _), k2, ((Below.refl _ w).alloc (Nat.le_refl _) _).alloc (by simp) _⟩
  clear hga hgb hm hca hcb
  go_enter Tryz.func11, Tryz.ntmps11
  go_wp2_with fail
  rw [← hW2]
  clear hW2
  go_loopw [5] (fun i wr => ∃ k : Nat, k ≤ m ∧ i = .int .i64 k ∧ Hid (Below W2.heap.size W2 wr)) (fun i _ => m - (intOf i).toNat)
  case atStart => exact ⟨0, Nat.zero_le _, rfl, Below.refl _ _⟩
  case round =>
    obtain ⟨k, hk, rfl, HK⟩ := hrel
    have c0 := (H2.out.1.below HK.out).cell 2
    have c1 := (H2.out.2.1.below HK.out).cell 2
    simp only [List.getElem?_toArray, List.getElem?_cons_zero, List.getElem?_cons_succ] at c0 c1
    have HW : Hid (Below w.heap.size w wr) := H2.out.2.2.trans (HK.out.mono H2.out.2.2.size)
    by_cases hlt : k < m
    · have ik : (k : Int) < m := by omega
      have hla : k < L.length := by rw [HM.out]; exact hlt
      obtain ⟨g, o, rfl, hg, hat⟩ := HA.out (by omega)
      obtain ⟨g', o', rfl, hg', hat'⟩ := HB.out (by omega)
      have hx := (hat k hla).kept (w' := wr) fun j => HW.out.cell (p := ⟨g, j, none⟩) hg
      have hy := (hat' k hla).kept (w' := wr) fun j => HW.out.cell (p := ⟨g', j, none⟩) hg'
      clear hat hat'
      generalize L[k] = x at *
      obtain ⟨x0, x1, x2, x3, x4, x5, x6, x7, x8, x9, x10⟩ := hx
      obtain ⟨y0, y1, y2, y3, y4, y5, y6, y7, y8, y9, y10⟩ := hy
      have hq := neq_cellS x
      have HF : Hid (Below W2.heap.size W2 wr) := HK.out
      clear HK hla HW
      go_wp2_with fail
      go_quiet (fail)
      go_wp2
      go_roundw
      case rel => exact ⟨k + 1, by omega, by go_num, below_drewN HF.out⟩
      case measure => simp [intOf]; omega
    · obtain rfl : k = m := by omega
      go_wp2
      go_ret
      exact ⟨rfl, HW.out⟩

end Go.Proofs.YtfjbnejmcanamaaGreatDoor

/-
  The statements' own lists of strokes: lent, kept, written over.
-/
namespace Go.Proofs.YtfjbnejmcanamaaGreatDoor
open Go.RowKit

theorem grow_trS {w W W' : World} {r s : Option Nat} (h : w.grownBy W r) (k : W.grownBy W' s) (hs : s = r ∨ ∀ g, s = some g → w.heap.size ≤ g) : w.grownBy W' r := by
  refine ⟨k.os.trans h.os, k.tape.trans h.tape, k.output.trans h.output, Nat.le_trans h.size k.size, fun b hb hr => ?_⟩
  refine (k.block b (Nat.lt_of_lt_of_le hb h.size) ?_).trans (h.block b hb hr)
  intro c
  rcases hs with rfl | hs
  · exact hr c
  · have := hs b c.symm
    omega
theorem grow_setS (w : World) (g o : Nat) (v : Value) : w.grownBy (w.setCell ⟨g, o, none⟩ v) (some g) :=
  ⟨rfl, rfl, rfl, ((Below.refl 0 w).setCell (p := ⟨g, o, none⟩) (Nat.zero_le _) v).size, fun b _ hb => Below.heap_setCell _ _ _ b (fun e => hb (by rw [e]))⟩

end Go.Proofs.YtfjbnejmcanamaaGreatDoor

/-
  Contracts of the document's answer for layer 13: Join, Moved.
-/
namespace Go.Proofs.YtfjbnejmcanamaaGreatDoor
open Go.RowKit

def joiE (a b : List St) : Int := if chkS a = 0 then (if chkS b = 0 then (if 16384 < a.length + b.length then 4 else 0) else chkS b) else chkS a
def joiL (a b : List St) : List St := if joiE a b = 0 then a ++ b else []

/-- A list that lies somewhere laid behind a row of one's own. -/
theorem app_moreS {P : Program} {w : World} {ops : Array Oper} {rest : List Oper} {o : Oper} {a : Act} {Q : Exit → Act → World → Prop} (hgd : o.guard = none) (s x : Operand)
    (ho : o.op = .call { callee := .builtin .append, args := #[s, x], argTypes := #[22, 22] })
    (i : TypeInfo) (ht : P.underlying 22 = some (.slice 53)) (hi : P.info? 53 = some i) (hz : i.zero = some (.agg #[.int .u8 0, .int .i64 0, .int .i64 0, .int .i64 0, .int .i64 0, .int .u8 0, .int .u8 0, .int .u8 0, .int .u8 0, .int .u8 0, .int .u8 0, .int .u8 0, .int .u8 0, .string ByteArray.empty, .int .i64 0]))
    (hsize : i.size = 15) (hby : i.bytes = 72) (lo : Nat) (u : Value) (qs : List St) (n : Nat) (hn0 : n = qs.length) (hs : a.eval s = u) (hown : w.ownsRow lo 53 15 u n (flatZ qs)) (hlo : lo ≤ w.heap.size) (rs : List St) (oa : Option Addr) (cap : Nat) (m : Nat) (hm : m = rs.length) (hx : a.eval x = .slice oa m cap) (hv : LsS w (.slice oa m cap) rs) (hn : NoNil (.slice oa m cap))
    (hl : n + m ≤ 100000) (h : ∀ v' w', Hid (OwS lo w' v' (qs ++ rs) ∧ w.grownBy w' u.ownBlock) → wpList P ops Q rest (a.put o.dst v') w') : wpList P ops Q (o :: rest) a w := by
  subst hm
  cases oa with
  | none =>
    have h0 : rs = [] := by
      obtain ⟨oa, cap', e, _, hg⟩ := hv
      cases rs with
      | nil => rfl
      | cons r t =>
        obtain ⟨g, o, e2, _⟩ := hg (by simp)
        injection e with e1 _ _
        rw [e2] at e1
        cases e1
    subst h0
    obtain rfl : cap = 0 := hn cap rfl
    refine app_none hgd s x _ ho lo 53 i 15 ht hi u n (flatZ qs) hs hown hx ?_
    rintro _ _ rfl rfl
    refine h _ _ ⟨?_, World.grownBy.refl _ _⟩
    rw [List.append_nil]
    unfold OwS
    rw [← hn0]
    exact hown
  | some ad =>
    refine wpList_append_own _ hgd s x _ ho lo 53 i (.agg #[.int .u8 0, .int .i64 0, .int .i64 0, .int .i64 0, .int .i64 0, .int .u8 0, .int .u8 0, .int .u8 0, .int .u8 0, .int .u8 0, .int .u8 0, .int .u8 0, .int .u8 0, .string ByteArray.empty, .int .i64 0]) 15 72 ht hi hz hsize hby rfl (by decide) u n (flatZ qs) hs hown ad rs.length cap (flatZ rs) hx (flatZ_len rs) ?_ (onesZ rs) (by unfold maxLen; omega) (by omega) hlo ?_
    · intro j u' hj
      obtain ⟨oa, cap', e, _, hg⟩ := hv
      have hp : 0 < rs.length := by
        cases rs with
        | nil => simp [flatZ] at hj
        | cons r t => simp
      obtain ⟨g, o, e2, _, hat⟩ := hg hp
      injection e with e1 _ _
      rw [e2] at e1
      injection e1 with e1
      subst e1
      exact lss_src hat j u' hj
    · intro v' w' h2 h3 _
      refine h v' w' ⟨?_, h3⟩
      unfold OwS
      rw [List.length_append, ← hn0, flatZ_app]
      exact h2

def movS (p q : Int) (s : St) : St := if s.k = 5 then s else ⟨s.k, ⟨s.r.x + p, s.r.y + q, s.r.w, s.r.h⟩, s.c, s.b, s.t, s.n⟩
def movO (p q : Int) (l : List St) : Bool := l.all fun s => zMa (movS p q s).r
def movF (l : List St) (p q : Int) : Int := if chkS l = 0 then (if movO p q l = true then 0 else 9) else chkS l
def movG (l : List St) (p q : Int) : List St := if movF l p q = 0 then l.map (movS p q) else []
def clmp (p : Int) : Int := min (max p (-32769)) 32769
theorem mov_clmp {s : St} (h : zMa s.r = true) (p q : Int) : zMa (movS (clmp p) (clmp q) s).r = zMa (movS p q s).r ∧ (zMa (movS p q s).r = true → movS (clmp p) (clmp q) s = movS p q s) := by
  unfold movS
  by_cases h5 : s.k = 5
  · rw [if_pos h5, if_pos h5]
    exact ⟨rfl, fun _ => rfl⟩
  · rw [if_neg h5, if_neg h5]
    have hb := may_iff.1 h
    refine ⟨?_, fun k => ?_⟩
    · rw [Bool.eq_iff_iff]
      unfold zMa
      rw [may_iff, may_iff]
      simp only
      unfold clmp
      omega
    · have kb := may_iff.1 k
      have e1 : clmp p = p := by unfold clmp; simp only at kb; omega
      have e2 : clmp q = q := by unfold clmp; simp only at kb; omega
      rw [e1, e2]
theorem movO_clmp {l : List St} (h : ∀ s ∈ l, zMa s.r = true) (p q : Int) : movO (clmp p) (clmp q) l = movO p q l ∧ (movO p q l = true → l.map (movS (clmp p) (clmp q)) = l.map (movS p q)) := by
  unfold movO
  refine ⟨?_, fun k => ?_⟩
  · rw [Bool.eq_iff_iff, List.all_eq_true, List.all_eq_true]
    exact ⟨fun k s hs => by rw [← (mov_clmp (h s hs) p q).1]; exact k s hs, fun k s hs => by rw [(mov_clmp (h s hs) p q).1]; exact k s hs⟩
  · exact List.map_congr_left fun s hs => (mov_clmp (h s hs) p q).2 (List.all_eq_true.1 k s hs)

end Go.Proofs.YtfjbnejmcanamaaGreatDoor
