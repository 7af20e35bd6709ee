/-
  Texts of this claim, one behind the other: what each is about stands ahead of it.
-/
import Derived.Test.YtpbkgdombadbmaaGreatDoorK15
import Derived.Test.YtpbkgdombadbmaaGreatDoorK9
import Derived.LaidHandle
import Derived.LaidLaws
import Derived.Stop.LaidErr
import Derived.ChangeMade
import Derived.RowKitTokens
import Derived.Lay
import Derived.Deep.DeepLaidRun
/-
  The statements' own alive, of stage 16.
-/
namespace Go.Proofs.YtpbkgdombadbmaaGreatDoor
open Go.RowKit

def fA : St := ⟨1, ⟨-1, 0, 4, 4⟩, ⟨255, 0, 0, 255⟩, ⟨0, 0, 0, 0⟩, ⟨#[]⟩, 2⟩
def fA0 : St := ⟨1, ⟨-1, 0, 4, 4⟩, ⟨255, 0, 0, 255⟩, ⟨0, 0, 0, 0⟩, ⟨#[]⟩, 0⟩
def tA : ByteArray := ⟨#[60, 115, 104, 97, 112, 101, 115, 32, 119, 61, 34, 56, 34, 32, 104, 61, 34, 51, 34, 62, 10, 60, 102, 105, 108, 108, 32, 120, 61, 34, 45, 49, 34, 32, 121, 61, 34, 48, 34, 32, 119, 61, 34, 52, 34, 32, 104, 61, 34, 52, 34, 32, 99, 61, 34, 35, 102, 48, 48, 34, 32, 110, 61, 34, 50, 34, 47, 62, 10, 60, 47, 115, 104, 97, 112, 101, 115, 62, 10]⟩
theorem tA_text : (⟨(texT [fA] 8 3).toArray⟩ : ByteArray) = tA := by
  have : texT [fA] 8 3 = tA.data.toList := by decide +kernel
  rw [this]
theorem tA_err : texE [fA] 8 3 = 0 := by decide +kernel
theorem tA_read : vsR tA = .inr ([fA], 8, 3) := by kernel_rfl
theorem tA_rd : rdE tA = 0 ∧ rdA tA = 0 ∧ rdL tA = [fA] ∧ rdW tA = 8 ∧ rdH tA = 3 := by
  have h0 : ¬ 65536 < tA.size := by decide
  have h1 : chkS [fA] = 0 := by decide +kernel
  have h2 : sizB 8 3 = true := by decide
  have e : rdE tA = 0 := by unfold rdE; rw [if_neg h0, tA_read]; simp [h1, h2]
  refine ⟨e, ?_, ?_, ?_, ?_⟩
  · unfold rdA; rw [if_neg h0, tA_read]
  · unfold rdL; rw [if_pos e, tA_read]
  · unfold rdW; rw [if_pos e, tA_read]
  · unfold rdH; rw [if_pos e, tA_read]
theorem fA_wf : Wfs [fA] := fun s hs => by
  obtain rfl : s = fA := by simpa using hs
  refine ⟨⟨?_, ?_⟩, ⟨?_, ?_, ?_, ?_⟩, ?_, ?_, ?_, ?_⟩ <;> first | (simp [fA, Co.ok, By, I64]; done) | decide
theorem lss_one (w : World) (s : St) (t : TypeId) : LsS (w.alloc (.cells (#[.int .u8 s.k, .int .i64 s.r.x, .int .i64 s.r.y, .int .i64 s.r.w, .int .i64 s.r.h, .int .u8 s.c.r, .int .u8 s.c.g, .int .u8 s.c.b, .int .u8 s.c.a, .int .u8 s.b.r, .int .u8 s.b.g, .int .u8 s.b.b, .int .u8 s.b.a, .string s.t, .int .i64 s.n]) t)) (.slice (some ⟨w.heap.size, 0, none⟩) 1 1) [s] := by
  refine ⟨_, _, rfl, Nat.le_refl _, fun _ => ⟨w.heap.size, 0, rfl, by simp, fun i hi => ?_⟩⟩
  have hi0 : i = 0 := by simpa using hi
  subst hi0
  exact bk15 (Bk.new w (#[.int .u8 s.k, .int .i64 s.r.x, .int .i64 s.r.y, .int .i64 s.r.w, .int .i64 s.r.h, .int .u8 s.c.r, .int .u8 s.c.g, .int .u8 s.c.b, .int .u8 s.c.a, .int .u8 s.b.r, .int .u8 s.b.g, .int .u8 s.b.b, .int .u8 s.b.a, .string s.t, .int .i64 s.n]) t)

set_option maxHeartbeats 1000000 in
theorem fill16_any (w : World) : Calls Tryz.prog 17 #[.int .i64 (-1), .int .i64 0, .int .i64 4, .int .i64 4] w fun e w' => e = .returned (Value.agg #[.int .u8 fA0.k, .int .i64 fA0.r.x, .int .i64 fA0.r.y, .int .i64 fA0.r.w, .int .i64 fA0.r.h, .int .u8 fA0.c.r, .int .u8 fA0.c.g, .int .u8 fA0.c.b, .int .u8 fA0.c.a, .int .u8 fA0.b.r, .int .u8 fA0.b.g, .int .u8 fA0.b.b, .int .u8 fA0.b.a, .string fA0.t, .int .i64 fA0.n]) ∧ Below w.heap.size w w' := by
  have B0 : Hid (Below w.heap.size w (w.alloc (.cells (#[.int .u8 fA0.k, .int .i64 fA0.r.x, .int .i64 fA0.r.y, .int .i64 fA0.r.w, .int .i64 fA0.r.h, .int .u8 fA0.c.r, .int .u8 fA0.c.g, .int .u8 fA0.c.b, .int .u8 fA0.c.a, .int .u8 fA0.b.r, .int .u8 fA0.b.g, .int .u8 fA0.b.b, .int .u8 fA0.b.a, .string fA0.t, .int .i64 fA0.n]) 31))) := (Below.refl _ w).alloc (Nat.le_refl _) _
  go_enter Tryz.func17, Tryz.ntmps17
  go_wp2_with fail
  have hB := Bk.new w (#[.int .u8 fA0.k, .int .i64 fA0.r.x, .int .i64 fA0.r.y, .int .i64 fA0.r.w, .int .i64 fA0.r.h, .int .u8 fA0.c.r, .int .u8 fA0.c.g, .int .u8 fA0.c.b, .int .u8 fA0.c.a, .int .u8 fA0.b.r, .int .u8 fA0.b.g, .int .u8 fA0.b.b, .int .u8 fA0.b.a, .string fA0.t, .int .i64 fA0.n]) 31
  have hld : (loadVar 31 ⟨w.heap.size, 0, none⟩).run Tryz.prog (w.alloc (.cells (#[.int .u8 fA0.k, .int .i64 fA0.r.x, .int .i64 fA0.r.y, .int .i64 fA0.r.w, .int .i64 fA0.r.h, .int .u8 fA0.c.r, .int .u8 fA0.c.g, .int .u8 fA0.c.b, .int .u8 fA0.c.a, .int .u8 fA0.b.r, .int .u8 fA0.b.g, .int .u8 fA0.b.b, .int .u8 fA0.b.a, .string fA0.t, .int .i64 fA0.n]) 31)) = .ok (Value.agg #[.int .u8 fA0.k, .int .i64 fA0.r.x, .int .i64 fA0.r.y, .int .i64 fA0.r.w, .int .i64 fA0.r.h, .int .u8 fA0.c.r, .int .u8 fA0.c.g, .int .u8 fA0.c.b, .int .u8 fA0.c.a, .int .u8 fA0.b.r, .int .u8 fA0.b.g, .int .u8 fA0.b.b, .int .u8 fA0.b.a, .string fA0.t, .int .i64 fA0.n]) (w.alloc (.cells (#[.int .u8 fA0.k, .int .i64 fA0.r.x, .int .i64 fA0.r.y, .int .i64 fA0.r.w, .int .i64 fA0.r.h, .int .u8 fA0.c.r, .int .u8 fA0.c.g, .int .u8 fA0.c.b, .int .u8 fA0.c.a, .int .u8 fA0.b.r, .int .u8 fA0.b.g, .int .u8 fA0.b.b, .int .u8 fA0.b.a, .string fA0.t, .int .i64 fA0.n]) 31)) := run_loadVar_row _ _ 31 31 (#[.int .u8 fA0.k, .int .i64 fA0.r.x, .int .i64 fA0.r.y, .int .i64 fA0.r.w, .int .i64 fA0.r.h, .int .u8 fA0.c.r, .int .u8 fA0.c.g, .int .u8 fA0.c.b, .int .u8 fA0.c.a, .int .u8 fA0.b.r, .int .u8 fA0.b.g, .int .u8 fA0.b.b, .int .u8 fA0.b.a, .string fA0.t, .int .i64 fA0.n]) (0, 0) _ hB Tryz.underlying31 rfl size_st
  refine bodyPost_ret (v := (Value.agg #[.int .u8 fA0.k, .int .i64 fA0.r.x, .int .i64 fA0.r.y, .int .i64 fA0.r.w, .int .i64 fA0.r.h, .int .u8 fA0.c.r, .int .u8 fA0.c.g, .int .u8 fA0.c.b, .int .u8 fA0.c.a, .int .u8 fA0.b.r, .int .u8 fA0.b.g, .int .u8 fA0.b.b, .int .u8 fA0.b.a, .string fA0.t, .int .i64 fA0.n])) ?_ rfl ⟨rfl, B0.out⟩
  exact (by simpa [results, Tryz.results17, asAddr, fA0] using hld)

set_option maxRecDepth 10000 in
set_option maxHeartbeats 8000000 in
theorem alive16_any (w : World) (hE : EnR w.heap.size w) (hT : EtI w) : Calls Tryz.prog 10 #[] w fun e w' => e = .returned (.bool true) ∧ Below w.heap.size w w' := by
  obtain ⟨a, ha⟩ : ∃ a, a = fA0 := ⟨_, rfl⟩
  obtain ⟨f, hf⟩ : ∃ f, f = fA := ⟨_, rfl⟩
  obtain ⟨T, hT0⟩ : ∃ T, T = tA := ⟨_, rfl⟩
  have H1 : Hid (∀ W, Calls Tryz.prog 17 #[.int .i64 (-1), .int .i64 0, .int .i64 4, .int .i64 4] W fun e w' => e = .returned (Value.agg #[.int .u8 a.k, .int .i64 a.r.x, .int .i64 a.r.y, .int .i64 a.r.w, .int .i64 a.r.h, .int .u8 a.c.r, .int .u8 a.c.g, .int .u8 a.c.b, .int .u8 a.c.a, .int .u8 a.b.r, .int .u8 a.b.g, .int .u8 a.b.b, .int .u8 a.b.a, .string a.t, .int .i64 a.n]) ∧ Below W.heap.size W w') := fun W => by rw [ha]; exact fill16_any W
  have H2 : Hid (∀ W v, LsS W v [f] → Below w.heap.size w W → Calls Tryz.prog 6 #[v, .agg #[.int .i64 8, .int .i64 3]] W fun e w' => e = .returned (.tuple #[.string T, .int .i64 0]) ∧ Below W.heap.size W w') := fun W v h hb => by
    have q := vtext_any [f] v 8 3 W h (by rw [hf]; exact fA_wf) ⟨by decide, by decide⟩ ⟨by decide, by decide⟩ (hE.on hb).here.pw
    rw [hf, tA_text, tA_err] at q
    rw [hT0]
    exact q
  have H3 : Hid (∀ W, Below w.heap.size w W → Calls Tryz.prog 11 #[.string T] W fun e w' => ∃ u, e = .returned (.tuple #[u, .agg #[.int .i64 8, .int .i64 3], .int .i64 0, .int .i64 0]) ∧ OwS W.heap.size w' u [f] ∧ Below W.heap.size W w') := fun W hb => by
    have q := vread_any T W ((hE.on hb).mono hb.size) (hT.below hb)
    unfold RdQ at q
    rw [hT0, tA_rd.1, tA_rd.2.1, tA_rd.2.2.1, tA_rd.2.2.2.1, tA_rd.2.2.2.2] at q
    rw [hT0, hf]
    exact q
  have HA : Hid (a = fA0 ∧ f = fA ∧ T = tA) := ⟨ha, hf, hT0⟩
  have HS : Hid ((T.toList == [60, 115, 104, 97, 112, 101, 115, 32, 119, 61, 34, 56, 34, 32, 104, 61, 34, 51, 34, 62, 10, 60, 102, 105, 108, 108, 32, 120, 61, 34, 45, 49, 34, 32, 121, 61, 34, 48, 34, 32, 119, 61, 34, 52, 34, 32, 104, 61, 34, 52, 34, 32, 99, 61, 34, 35, 102, 48, 48, 34, 32, 110, 61, 34, 50, 34, 47, 62, 10, 60, 47, 115, 104, 97, 112, 101, 115, 62, 10]) = true) := by
    unfold Hid
    rw [hT0]
    decide +kernel
  clear ha hf hT0 hE hT
  go_enter Tryz.func10, Tryz.ntmps10
  go_wp2_with fail
  refine (H1.out _).mono ?_
  rintro e w1 ⟨rfl, hb1⟩
  obtain ⟨g, hg⟩ : ∃ g, g = w1.heap.size := ⟨_, rfl⟩
  have hcl : (#[.int .u8 a.k, .int .i64 a.r.x, .int .i64 a.r.y, .int .i64 a.r.w, .int .i64 a.r.h, .int .u8 a.c.r, .int .u8 a.c.g, .int .u8 a.c.b, .int .u8 a.c.a, .int .u8 a.b.r, .int .u8 a.b.g, .int .u8 a.b.b, .int .u8 a.b.a, .string a.t, .int .i64 2] : Array Value) = (#[.int .u8 f.k, .int .i64 f.r.x, .int .i64 f.r.y, .int .i64 f.r.w, .int .i64 f.r.h, .int .u8 f.c.r, .int .u8 f.c.g, .int .u8 f.c.b, .int .u8 f.c.a, .int .u8 f.b.r, .int .u8 f.b.g, .int .u8 f.b.b, .int .u8 f.b.a, .string f.t, .int .i64 f.n]) := by rw [HA.out.1, HA.out.2.1]; rfl
  have HB : Hid (∀ W, W = w1.alloc (.cells (#[.int .u8 f.k, .int .i64 f.r.x, .int .i64 f.r.y, .int .i64 f.r.w, .int .i64 f.r.h, .int .u8 f.c.r, .int .u8 f.c.g, .int .u8 f.c.b, .int .u8 f.c.a, .int .u8 f.b.r, .int .u8 f.b.g, .int .u8 f.b.b, .int .u8 f.b.a, .string f.t, .int .i64 f.n]) 31) → Bk W g (#[.int .u8 f.k, .int .i64 f.r.x, .int .i64 f.r.y, .int .i64 f.r.w, .int .i64 f.r.h, .int .u8 f.c.r, .int .u8 f.c.g, .int .u8 f.c.b, .int .u8 f.c.a, .int .u8 f.b.r, .int .u8 f.b.g, .int .u8 f.b.b, .int .u8 f.b.a, .string f.t, .int .i64 f.n]) 31 ∧ Below w.heap.size w W) := fun W hW => by
    have b1 : Below w1.heap.size w1 (w1.alloc (.cells (#[.int .u8 f.k, .int .i64 f.r.x, .int .i64 f.r.y, .int .i64 f.r.w, .int .i64 f.r.h, .int .u8 f.c.r, .int .u8 f.c.g, .int .u8 f.c.b, .int .u8 f.c.a, .int .u8 f.b.r, .int .u8 f.b.g, .int .u8 f.b.b, .int .u8 f.b.a, .string f.t, .int .i64 f.n]) 31)) := (Below.refl _ w1).alloc (Nat.le_refl _) _
    rw [hW, hg]
    exact ⟨Bk.new _ _ _, hb1.trans (b1.mono hb1.size)⟩
  clear hb1 H1
  go_wp2_with fail
  clear hcl
  obtain ⟨W2, hW2⟩ : ∃ W2, W2 = w1.alloc (.cells (#[.int .u8 f.k, .int .i64 f.r.x, .int .i64 f.r.y, .int .i64 f.r.w, .int .i64 f.r.h, .int .u8 f.c.r, .int .u8 f.c.g, .int .u8 f.c.b, .int .u8 f.c.a, .int .u8 f.b.r, .int .u8 f.b.g, .int .u8 f.b.b, .int .u8 f.b.a, .string f.t, .int .i64 f.n]) 31) := ⟨_, rfl⟩
  have HB2 := show Hid _ from HB.out W2 hW2
  have hs2 : w1.heap.size + 1 = W2.heap.size := by rw [hW2]; simp
  rw [← hW2, hs2, ← hg]
  clear hW2 HB hs2 hg
  have HL : Hid (LsS (W2.alloc (.cells (#[.int .u8 f.k, .int .i64 f.r.x, .int .i64 f.r.y, .int .i64 f.r.w, .int .i64 f.r.h, .int .u8 f.c.r, .int .u8 f.c.g, .int .u8 f.c.b, .int .u8 f.c.a, .int .u8 f.b.r, .int .u8 f.b.g, .int .u8 f.b.b, .int .u8 f.b.a, .string f.t, .int .i64 f.n]) 31)) (.slice (some ⟨W2.heap.size, 0, none⟩) 1 1) [f]) := lss_one W2 f _
  have HB3 : Hid (Bk (W2.alloc (.cells (#[.int .u8 f.k, .int .i64 f.r.x, .int .i64 f.r.y, .int .i64 f.r.w, .int .i64 f.r.h, .int .u8 f.c.r, .int .u8 f.c.g, .int .u8 f.c.b, .int .u8 f.c.a, .int .u8 f.b.r, .int .u8 f.b.g, .int .u8 f.b.b, .int .u8 f.b.a, .string f.t, .int .i64 f.n]) 31)) g (#[.int .u8 f.k, .int .i64 f.r.x, .int .i64 f.r.y, .int .i64 f.r.w, .int .i64 f.r.h, .int .u8 f.c.r, .int .u8 f.c.g, .int .u8 f.c.b, .int .u8 f.c.a, .int .u8 f.b.r, .int .u8 f.b.g, .int .u8 f.b.b, .int .u8 f.b.a, .string f.t, .int .i64 f.n]) 31 ∧ Below w.heap.size w (W2.alloc (.cells (#[.int .u8 f.k, .int .i64 f.r.x, .int .i64 f.r.y, .int .i64 f.r.w, .int .i64 f.r.h, .int .u8 f.c.r, .int .u8 f.c.g, .int .u8 f.c.b, .int .u8 f.c.a, .int .u8 f.b.r, .int .u8 f.b.g, .int .u8 f.b.b, .int .u8 f.b.a, .string f.t, .int .i64 f.n]) 31))) := by
    have b1 : Below W2.heap.size W2 (W2.alloc (.cells (#[.int .u8 f.k, .int .i64 f.r.x, .int .i64 f.r.y, .int .i64 f.r.w, .int .i64 f.r.h, .int .u8 f.c.r, .int .u8 f.c.g, .int .u8 f.c.b, .int .u8 f.c.a, .int .u8 f.b.r, .int .u8 f.b.g, .int .u8 f.b.b, .int .u8 f.b.a, .string f.t, .int .i64 f.n]) 31)) := (Below.refl _ W2).alloc (Nat.le_refl _) _
    exact ⟨HB2.out.1.below b1, HB2.out.2.trans (b1.mono HB2.out.2.size)⟩
  clear HB2
  refine (H2.out _ _ HL.out HB3.out.2).mono ?_
  rintro e w3 ⟨rfl, hb3⟩
  have HB4 : Hid (Bk w3 g (#[.int .u8 f.k, .int .i64 f.r.x, .int .i64 f.r.y, .int .i64 f.r.w, .int .i64 f.r.h, .int .u8 f.c.r, .int .u8 f.c.g, .int .u8 f.c.b, .int .u8 f.c.a, .int .u8 f.b.r, .int .u8 f.b.g, .int .u8 f.b.b, .int .u8 f.b.a, .string f.t, .int .i64 f.n]) 31 ∧ Below w.heap.size w w3) := ⟨HB3.out.1.below hb3, HB3.out.2.trans (hb3.mono HB3.out.2.size)⟩
  clear hb3 HB3 HL H2
  go_wp2_with fail
  refine (H3.out _ HB4.out.2).mono ?_
  rintro e w4 ⟨u, rfl, hu, hb4⟩
  obtain ⟨qb, hqb⟩ : ∃ qb, qb = w4.heap.size := ⟨_, rfl⟩
  have HB5 : Hid (Bk (w4.alloc (.cells #[.int .i64 8, .int .i64 3] 23)) g (#[.int .u8 f.k, .int .i64 f.r.x, .int .i64 f.r.y, .int .i64 f.r.w, .int .i64 f.r.h, .int .u8 f.c.r, .int .u8 f.c.g, .int .u8 f.c.b, .int .u8 f.c.a, .int .u8 f.b.r, .int .u8 f.b.g, .int .u8 f.b.b, .int .u8 f.b.a, .string f.t, .int .i64 f.n]) 31 ∧ Below w.heap.size w (w4.alloc (.cells #[.int .i64 8, .int .i64 3] 23)) ∧ OwS 0 (w4.alloc (.cells #[.int .i64 8, .int .i64 3] 23)) u [f] ∧ Bk (w4.alloc (.cells #[.int .i64 8, .int .i64 3] 23)) qb #[.int .i64 8, .int .i64 3] 23) := by
    have b1 : Below w4.heap.size w4 (w4.alloc (.cells #[.int .i64 8, .int .i64 3] 23)) := (Below.refl _ w4).alloc (Nat.le_refl _) _
    have bb := HB4.out.2.trans (hb4.mono HB4.out.2.size)
    exact ⟨(HB4.out.1.below hb4).below b1, bb.trans (b1.mono bb.size), own_lo (row_below hu b1) (Nat.zero_le _), by rw [hqb]; exact Bk.new _ _ _⟩
  clear hu hb4 HB4 H3
  go_wp2_with fail
  rw [← hqb]
  clear hqb
  generalize hW5 : w4.alloc (.cells #[.int .i64 8, .int .i64 3] 23) = W5 at *
  clear hW5
  obtain ⟨gu, cu, rfl, hcu, hgu⟩ : ∃ gu cu, u = .slice (some ⟨gu, 0, none⟩) 1 cu ∧ 1 ≤ cu ∧ Hid (∀ t : Gw W5, StAt t.wd gu 0 f) := by
    obtain ⟨_, ⟨_, h0⟩ | ⟨gg, cap, cur, rfl, h1, h2, h3, h4, h5, h6⟩⟩ := id HB5.out.2.2.1
    · cases h0
    · refine ⟨gg, cap, rfl, h3, fun t => ?_⟩
      have q := OwS.lss (row_below HB5.out.2.2.1 t.below : OwS 0 t.wd (.slice (some ⟨gg, 0, none⟩) 1 cap) [f])
      obtain ⟨oa, cp, he, _, hx⟩ := q
      obtain ⟨gz, oz, rfl, _, hh⟩ := hx Nat.one_pos
      injection he with e1 e2 e3
      injection e1 with e1
      injection e1 with e1 e4
      have := hh 0 Nat.one_pos
      subst e1
      obtain rfl : oz = 0 := by omega
      exact this
  have ne := gw_ne HB5.out.2.1
  have z0 := fun tt : Gw W5 => (Bk.at2 (HB5.out.2.2.2.below tt.below)).1
  have z1 := fun tt : Gw W5 => (Bk.at2 (HB5.out.2.2.2.below tt.below)).2
  have qf := fun tt : Gw W5 => bk15 (HB5.out.1.below tt.below)
  have qu := fun tt : Gw W5 => hgu.out tt
  have x0 := fun tt : Gw W5 => (qf tt).1
  have x1 := fun tt : Gw W5 => (qf tt).2.1
  have x2 := fun tt : Gw W5 => (qf tt).2.2.1
  have x3 := fun tt : Gw W5 => (qf tt).2.2.2.1
  have x4 := fun tt : Gw W5 => (qf tt).2.2.2.2.1
  have x5 := fun tt : Gw W5 => (qf tt).2.2.2.2.2.1
  have x6 := fun tt : Gw W5 => (qf tt).2.2.2.2.2.2.1
  have x7 := fun tt : Gw W5 => (qf tt).2.2.2.2.2.2.2.1
  have x8 := fun tt : Gw W5 => (qf tt).2.2.2.2.2.2.2.2.1
  have x9 := fun tt : Gw W5 => (qf tt).2.2.2.2.2.2.2.2.2.1
  have x10 := fun tt : Gw W5 => (qf tt).2.2.2.2.2.2.2.2.2.2.1
  have x11 := fun tt : Gw W5 => (qf tt).2.2.2.2.2.2.2.2.2.2.2.1
  have x12 := fun tt : Gw W5 => (qf tt).2.2.2.2.2.2.2.2.2.2.2.2.1
  have x13 := fun tt : Gw W5 => (qf tt).2.2.2.2.2.2.2.2.2.2.2.2.2.1
  have x14 := fun tt : Gw W5 => (qf tt).2.2.2.2.2.2.2.2.2.2.2.2.2.2
  have y0 := fun tt : Gw W5 => (qu tt).1
  have y1 := fun tt : Gw W5 => (qu tt).2.1
  have y2 := fun tt : Gw W5 => (qu tt).2.2.1
  have y3 := fun tt : Gw W5 => (qu tt).2.2.2.1
  have y4 := fun tt : Gw W5 => (qu tt).2.2.2.2.1
  have y5 := fun tt : Gw W5 => (qu tt).2.2.2.2.2.1
  have y6 := fun tt : Gw W5 => (qu tt).2.2.2.2.2.2.1
  have y7 := fun tt : Gw W5 => (qu tt).2.2.2.2.2.2.2.1
  have y8 := fun tt : Gw W5 => (qu tt).2.2.2.2.2.2.2.2.1
  have y9 := fun tt : Gw W5 => (qu tt).2.2.2.2.2.2.2.2.2.1
  have y10 := fun tt : Gw W5 => (qu tt).2.2.2.2.2.2.2.2.2.2.1
  have y11 := fun tt : Gw W5 => (qu tt).2.2.2.2.2.2.2.2.2.2.2.1
  have y12 := fun tt : Gw W5 => (qu tt).2.2.2.2.2.2.2.2.2.2.2.2.1
  have y13 := fun tt : Gw W5 => (qu tt).2.2.2.2.2.2.2.2.2.2.2.2.2.1
  have y14 := fun tt : Gw W5 => (qu tt).2.2.2.2.2.2.2.2.2.2.2.2.2.2
  simp only [Nat.zero_add] at x0 x1 x2 x3 x4 x5 x6 x7 x8 x9 x10 x11 x12 x13 x14 y0 y1 y2 y3 y4 y5 y6 y7 y8 y9 y10 y11 y12 y13 y14
  clear qf qu hgu
  have eqs := eql_stroke f f
  rw [eqS_self] at eqs
  have HZ : Hid (∀ t : Gw W5, Below w.heap.size w t.wd) := fun t => HB5.out.2.1.trans (t.below.mono HB5.out.2.1.size)
  have hs := HS.out
  clear HS HA HB5
  refine wp_region_gw (by kernel_rfl) (by kernel_rfl) ?_
  repeat (go_big_quiet_step (fail))
  refine wpQuiet_nil ?_
  rintro _ ⟨tt, rfl⟩
  have HB := HZ.out tt
  go_wp2
  go_ret
  exact ⟨rfl, HB⟩

end Go.Proofs.YtpbkgdombadbmaaGreatDoor

/-
  What the listed variables give: the library's numbers, its errors, the type of errors.
-/
namespace Go.Proofs.YtpbkgdombadbmaaGreatDoor
open Go.RowKit Go.ChangeShapes

theorem cut_rt : (Tryz.prog.cutTypes.find? (·.1 == "internal/reflectlite.rtype")).map (·.2) = some 109 := by kernel_rfl
theorem one_row : ((List.range 196).filter fun t => Tryz.prog.rowNamed t [101, 114, 114, 111, 114]) = [54] := by kernel_rfl
theorem n_types : Tryz.prog.types.size = 196 := by kernel_rfl
theorem et_name : Tryz.prog.globalNamed "errors.errorType" = some 0 := by kernel_rfl
theorem et_hand : typeHandle Tryz.prog 54 = .pointer (some ⟨7, 54, none⟩) := by kernel_rfl
theorem es_star : "*" ++ "errors.errorString" = "*errors.errorString" := by decide
theorem es_row (u : TypeId) (h : Tryz.prog.typeName? 3 u = some "*errors.errorString") : u = 161 :=
  typeName_ptr_named (nm := "errors.errorString") (by rw [es_star]; kernel_rfl) (by kernel_rfl) (by decide) u (by rw [es_star]; exact h)
theorem es_cells : Tryz.prog.cellsOf 163 = 1 := by kernel_rfl
theorem s_cells : Tryz.prog.cellsOf 9 = 1 := by kernel_rfl
theorem er_iface {W : World} {n : String} {g : Nat} {a : Addr} (hg : Tryz.prog.globalNamed n = some g) (h : W.var? Tryz.prog n = some #[.iface 161 (.pointer (some a))]) : ∃ ev, W.cell? ⟨g, 0, none⟩ = some ev ∧ (ev = .nilIface ∨ ∃ te pe, ev = .iface te pe) :=
  ⟨_, by simpa using World.var?_cell hg h 0, .inr ⟨_, _, rfl⟩⟩

theorem env_of {W : World} (h : laidMetH Tryz.prog Rows.vectorOneRow.laid W) (hsh : W.ShapedOpen Tryz.prog) : EnR W.heap.size W ∧ EtI W := by
  obtain ⟨hd, hh⟩ := (show laidMet Tryz.prog [("math/bits.deBruijn32tab", Rows.laid_math_bits_deBruijn32tab), ("math/bits.deBruijn64tab", Rows.laid_math_bits_deBruijn64tab), ("internal/strconv.uint64pow10", Rows.laid_internal_strconv_uint64pow10), ("strconv.ErrRange", Rows.laid_strconv_ErrRange), ("strconv.ErrSyntax", Rows.laid_strconv_ErrSyntax)] W ∧ handlesMet Tryz.prog [("errors.errorType", Rows.laid_errors_errorType)] W from h)
  constructor
  · have hp : PwI W := pw_of (.tail _ (.tail _ (.head _))) hd
    obtain ⟨a1, s1, v1, _, _, _⟩ := laid_sentinel hd.tail.tail.tail (g := 4) (ti := 54) (by kernel_rfl) (by kernel_rfl) Tryz.underlying54 es_row Tryz.underlying161 Tryz.underlying163 rfl rfl Tryz.underlying9 es_cells s_cells
    obtain ⟨a2, s2, v2, _, _, _⟩ := laid_sentinel hd.tail.tail.tail.tail (g := 3) (ti := 54) (by kernel_rfl) (by kernel_rfl) Tryz.underlying54 es_row Tryz.underlying161 Tryz.underlying163 rfl rfl Tryz.underlying9 es_cells s_cells
    have r1 := er_iface (g := 4) (by kernel_rfl) v1
    have r2 := er_iface (g := 3) (by kernel_rfl) v2
    obtain ⟨m, hm⟩ := Tryz.laysM145.s1_3 W hsh
    have lt : ∀ {g : Nat} {v : Value}, W.cell? ⟨g, 0, none⟩ = some v → g < W.heap.size := fun {g v} hc => by
      rcases Nat.lt_or_ge g W.heap.size with h1 | h1
      · exact h1
      · simp [World.cell?, Array.getElem?_eq_none h1] at hc
    intro w' hb
    refine ⟨hp.below hb, ?_, ?_, m, ?_⟩
    · obtain ⟨ev, hc, hk⟩ := r2
      exact ⟨ev, by rw [hb.cell (p := ⟨3, 0, none⟩) (lt hc)]; exact hc, hk⟩
    · obtain ⟨ev, hc, hk⟩ := r1
      exact ⟨ev, by rw [hb.cell (p := ⟨4, 0, none⟩) (lt hc)]; exact hc, hk⟩
    · rw [hb.cell (p := ⟨1, 0, none⟩) (lt hm)]; exact hm
  · obtain ⟨name, u, ty, e1, e2, e3, e4, e5⟩ := hh _ (List.mem_singleton.2 rfl)
    have en : name = [101, 114, 114, 111, 114] := (Option.some.inj e1).symm
    subst en
    obtain rfl := Option.some.inj (cut_rt.symm.trans e2)
    have hm : ty ∈ (List.range 196).filter fun t => Tryz.prog.rowNamed t [101, 114, 114, 111, 114] := List.mem_filter.2 ⟨List.mem_range.2 (by rw [← n_types]; exact e3), e4⟩
    rw [one_row] at hm
    obtain rfl := List.mem_singleton.1 hm
    rw [et_hand] at e5
    unfold EtI
    simpa using World.var?_cell et_name e5 0

/-- A world that lays them so. -/
noncomputable def laidV (os : Os) : World :=
  let w0 := World.laidAll Tryz.prog os [("math/bits.deBruijn32tab", Rows.laid_math_bits_deBruijn32tab), ("math/bits.deBruijn64tab", Rows.laid_math_bits_deBruijn64tab), ("internal/strconv.uint64pow10", Rows.laid_internal_strconv_uint64pow10), ("strconv.ErrRange", Rows.laid_strconv_ErrRange), ("strconv.ErrSyntax", Rows.laid_strconv_ErrSyntax)]
  { w0 with heap := w0.heap.modify 0 fun
      | .cells _ t frozen => .cells #[.iface 109 (.agg #[.pointer (some ⟨7, 54, none⟩)])] t frozen
      | o => o }
set_option maxRecDepth 100000 in
theorem laidV_os (os : Os) : (laidV os).os = os := by
  unfold laidV
  exact World.laidAll_os Tryz.prog os _
set_option maxRecDepth 100000 in
theorem laidV_met (os : Os) (args : Array Value) : laidMetH Tryz.prog Rows.vectorOneRow.laid ((laidV os).forCall (fun _ _ => 0) ⟨#[], args, []⟩).memory :=
  laidMetH_of_parts (laidMet_of_run3 8 (by kernel_rfl) (by kernel_rfl) (by kernel_rfl)) (by kernel_rfl)

end Go.Proofs.YtpbkgdombadbmaaGreatDoor

/-
  The statement VectorEscapes, walked.
-/
namespace Go.Proofs.YtpbkgdombadbmaaGreatDoor
open Go.RowKit

theorem ba_list (a : ByteArray) : (⟨a.data.toList.toArray⟩ : ByteArray) = a := by
  cases a
  simp
theorem esc_app2 (a b : ByteArray) : (⟨(escL (a ++ b).data.toList).toArray⟩ : ByteArray) = (⟨(escL a.data.toList).toArray⟩ : ByteArray) ++ ⟨(escL b.data.toList).toArray⟩ := by
  apply ByteArray.ext
  simp [escL_app]

set_option maxRecDepth 10000 in
set_option maxHeartbeats 4000000 in
theorem vescs_walk (a b : ByteArray) (w : World) (hE : EnR w.heap.size w ∧ EtI w) (ha : a.size ≤ 2000000) (hb : b.size ≤ 2000000) :
    Calls Tryz.prog 5 #[.string a, .string b] w fun e w' => e = .returned (.bool true) ∧ Below w.heap.size w w' := by
  obtain ⟨S, hS⟩ : ∃ S : ByteArray, S = ⟨(escL a.data.toList).toArray⟩ := ⟨_, rfl⟩
  obtain ⟨SB, hSB⟩ : ∃ S : ByteArray, S = ⟨(escL b.data.toList).toArray⟩ := ⟨_, rfl⟩
  have hsz : S.size ≤ 4 * a.size := by
    have h1 := escL_len a.data.toList
    have h2 := dl_len a
    have h3 : S.size = (escL a.data.toList).length := by rw [hS]; simp [ByteArray.size]
    omega
  have H1 : Hid (∀ W, Calls Tryz.prog 9 #[.string a] W fun e w' => e = .returned (.string S) ∧ Below W.heap.size W w') := fun W => by rw [hS]; exact vesc_any a W (by omega)
  have H2 : Hid (∀ W, Calls Tryz.prog 8 #[.string S] W fun e w' => e = .returned (.tuple #[.string a, .int .i64 0, .int .i64 0]) ∧ Below W.heap.size W w') := fun W => by
    have q := vplain_any S W (by omega)
    rw [show vpA S = (a.data.toList, 0, 0) by rw [hS]; exact vpA_esc _] at q
    rw [ba_list] at q
    exact q
  have H3 : Hid (∀ W, Calls Tryz.prog 9 #[.string (a ++ b)] W fun e w' => e = .returned (.string (S ++ SB)) ∧ Below W.heap.size W w') := fun W => by
    have q := vesc_any (a ++ b) W (by simp [ByteArray.size_append]; omega)
    rw [esc_app2, ← hS, ← hSB] at q
    exact q
  have H4 : Hid (∀ W, Calls Tryz.prog 9 #[.string b] W fun e w' => e = .returned (.string SB) ∧ Below W.heap.size W w') := fun W => by rw [hSB]; exact vesc_any b W (by omega)
  have HA : Hid (∀ W, Below w.heap.size w W → Calls Tryz.prog 10 #[] W fun e w' => e = .returned (.bool true) ∧ Below W.heap.size W w') := fun W h => alive16_any W ((hE.1.on h).mono h.size) (hE.2.below h)
  have hsb : SB.size ≤ 4 * b.size := by
    have h1 := escL_len b.data.toList
    have h2 := dl_len b
    have h3 : SB.size = (escL b.data.toList).length := by rw [hSB]; simp [ByteArray.size]
    omega
  have hc1 : a.size + b.size ≤ 9223372036854775807 := by omega
  have hc2 : S.size + SB.size ≤ 9223372036854775807 := by omega
  have hc3 : ¬ 9223372036854775807 < a.size + b.size := by omega
  have hc4 : ¬ 9223372036854775807 < S.size + SB.size := by omega
  have hn1 : ¬ (4 * (a.size : Int) < (S.size : Int)) := by omega
  have hn2 : (S.size : Int) ≤ 8000000 := by omega
  have hn3 : (a.size : Int) ≤ 2000000 := by omega
  rcases vpA_back b with ⟨u, hu, hue⟩ | ⟨q, hq, hqs⟩
  · obtain ⟨U, hU⟩ : ∃ U : ByteArray, U = ⟨u.toArray⟩ := ⟨_, rfl⟩
    have H5 : Hid (∀ W, Calls Tryz.prog 8 #[.string b] W fun e w' => e = .returned (.tuple #[.string U, .int .i64 0, .int .i64 0]) ∧ Below W.heap.size W w') := fun W => by
      have q := vplain_any b W (by omega)
      rw [hu, ← hU] at q
      exact q
    have H6 : Hid (∀ W, Calls Tryz.prog 9 #[.string U] W fun e w' => e = .returned (.string b) ∧ Below W.heap.size W w') := fun W => by
      have h1 := escL_ge u
      have h2 := dl_len b
      rw [hue] at h1
      have q := vesc_any U W (by rw [hU]; simp [ByteArray.size]; omega)
      rw [show U.data.toList = u by rw [hU]] at q
      rw [hue, ba_list] at q
      exact q
    clear hS hSB hE hU hu hue ha hb hsz
    go_enter Tryz.func5, Tryz.ntmps5
    go_wp2_with fail
    refine (H1.out _).mono ?_
    rintro e w1 ⟨rfl, hb⟩
    have B1 : Hid (Below w.heap.size w w1) := hb
    clear hb
    go_wp2_with fail
    refine (H2.out _).mono ?_
    rintro e w2 ⟨rfl, hb⟩
    have B2 : Hid (Below w.heap.size w w2) := B1.out.trans (hb.mono B1.out.size)
    clear hb B1 H2
    go_wp2_with fail
    refine (HA.out _ B2.out).mono ?_
    rintro e w3 ⟨rfl, hb⟩
    have B3 : Hid (Below w.heap.size w w3) := B2.out.trans (hb.mono B2.out.size)
    clear hb B2 HA
    go_wp2_with fail
    refine (H3.out _).mono ?_
    rintro e w4 ⟨rfl, hb⟩
    have B4 : Hid (Below w.heap.size w w4) := B3.out.trans (hb.mono B3.out.size)
    clear hb B3 H3
    go_wp2_with fail
    refine (H4.out _).mono ?_
    rintro e w5 ⟨rfl, hb⟩
    have B5 : Hid (Below w.heap.size w w5) := B4.out.trans (hb.mono B4.out.size)
    clear hb B4 H4
    go_wp2_with fail
    refine (H5.out _).mono ?_
    rintro e w6 ⟨rfl, hb⟩
    have B6 : Hid (Below w.heap.size w w6) := B5.out.trans (hb.mono B5.out.size)
    clear hb B5 H5
    go_wp2_with fail
    refine (H6.out _).mono ?_
    rintro e w7 ⟨rfl, hb⟩
    have B7 : Hid (Below w.heap.size w w7) := B6.out.trans (hb.mono B6.out.size)
    clear hb B6 H6
    go_wp2
    go_ret
    exact ⟨rfl, B7.out⟩
  · have H5 : Hid (∀ W, Calls Tryz.prog 8 #[.string b] W fun e w' => e = .returned (.tuple #[.string ⟨#[]⟩, .int .i64 (q : Nat), .int .i64 160]) ∧ Below W.heap.size W w') := fun W => by
      have q := vplain_any b W (by omega)
      rw [hq] at q
      exact q
    have hn4 : (q : Int) < b.size := by omega
    clear hS hSB hE hq ha hb hsz
    go_enter Tryz.func5, Tryz.ntmps5
    go_wp2_with fail
    refine (H1.out _).mono ?_
    rintro e w1 ⟨rfl, hb⟩
    have B1 : Hid (Below w.heap.size w w1) := hb
    clear hb
    go_wp2_with fail
    refine (H2.out _).mono ?_
    rintro e w2 ⟨rfl, hb⟩
    have B2 : Hid (Below w.heap.size w w2) := B1.out.trans (hb.mono B1.out.size)
    clear hb B1 H2
    go_wp2_with fail
    refine (HA.out _ B2.out).mono ?_
    rintro e w3 ⟨rfl, hb⟩
    have B3 : Hid (Below w.heap.size w w3) := B2.out.trans (hb.mono B2.out.size)
    clear hb B2 HA
    go_wp2_with fail
    refine (H3.out _).mono ?_
    rintro e w4 ⟨rfl, hb⟩
    have B4 : Hid (Below w.heap.size w w4) := B3.out.trans (hb.mono B3.out.size)
    clear hb B3 H3
    go_wp2_with fail
    refine (H4.out _).mono ?_
    rintro e w5 ⟨rfl, hb⟩
    have B5 : Hid (Below w.heap.size w w5) := B4.out.trans (hb.mono B4.out.size)
    clear hb B4 H4
    go_wp2_with fail
    refine (H5.out _).mono ?_
    rintro e w6 ⟨rfl, hb⟩
    have B6 : Hid (Below w.heap.size w w6) := B5.out.trans (hb.mono B5.out.size)
    clear hb B5 H5
    go_wp2
    go_ret
    exact ⟨rfl, B6.out⟩

end Go.Proofs.YtpbkgdombadbmaaGreatDoor
