/-
  Texts of this claim, one behind the other: what each is about stands ahead of it.
-/
import Derived.Test.YtdmhcmngajmghaaGreatDoorK15
import Derived.Test.YtdmhcmngajmghaaGreatDoorK3
/-
  The statements' own alive, of stage 16.
-/
namespace Go.Proofs.YtdmhcmngajmghaaGreatDoor
open Go.RowKit

def fA : St := ⟨1, ⟨-1, 0, 4, 4⟩, ⟨255, 0, 0, 255⟩, ⟨0, 0, 0, 0⟩, ⟨#[]⟩, 2⟩
def fA0 : St := ⟨1, ⟨-1, 0, 4, 4⟩, ⟨255, 0, 0, 255⟩, ⟨0, 0, 0, 0⟩, ⟨#[]⟩, 0⟩
def tA : ByteArray := ⟨#[60, 115, 104, 97, 112, 101, 115, 32, 119, 61, 34, 56, 34, 32, 104, 61, 34, 51, 34, 62, 10, 60, 102, 105, 108, 108, 32, 120, 61, 34, 45, 49, 34, 32, 121, 61, 34, 48, 34, 32, 119, 61, 34, 52, 34, 32, 104, 61, 34, 52, 34, 32, 99, 61, 34, 35, 102, 48, 48, 34, 32, 110, 61, 34, 50, 34, 47, 62, 10, 60, 47, 115, 104, 97, 112, 101, 115, 62, 10]⟩
theorem tA_text : (⟨(texT [fA] 8 3).toArray⟩ : ByteArray) = tA := by
  have : texT [fA] 8 3 = tA.data.toList := by decide +kernel
  rw [this]
theorem tA_err : texE [fA] 8 3 = 0 := by decide +kernel
theorem tA_read : vsR tA = .inr ([fA], 8, 3) := by kernel_rfl
theorem tA_rd : rdE tA = 0 ∧ rdA tA = 0 ∧ rdL tA = [fA] ∧ rdW tA = 8 ∧ rdH tA = 3 := by
  have h0 : ¬ 65536 < tA.size := by decide
  have h1 : chkS [fA] = 0 := by decide +kernel
  have h2 : sizB 8 3 = true := by decide
  have e : rdE tA = 0 := by unfold rdE; rw [if_neg h0, tA_read]; simp [h1, h2]
  refine ⟨e, ?_, ?_, ?_, ?_⟩
  · unfold rdA; rw [if_neg h0, tA_read]
  · unfold rdL; rw [if_pos e, tA_read]
  · unfold rdW; rw [if_pos e, tA_read]
  · unfold rdH; rw [if_pos e, tA_read]
theorem fA_wf : Wfs [fA] := fun s hs => by
  obtain rfl : s = fA := by simpa using hs
  refine ⟨⟨?_, ?_⟩, ⟨?_, ?_, ?_, ?_⟩, ?_, ?_, ?_, ?_⟩ <;> first | (simp [fA, Co.ok, By, I64]; done) | decide
theorem lss_one (w : World) (s : St) (t : TypeId) : LsS (w.alloc (.cells (#[.int .u8 s.k, .int .i64 s.r.x, .int .i64 s.r.y, .int .i64 s.r.w, .int .i64 s.r.h, .int .u8 s.c.r, .int .u8 s.c.g, .int .u8 s.c.b, .int .u8 s.c.a, .int .u8 s.b.r, .int .u8 s.b.g, .int .u8 s.b.b, .int .u8 s.b.a, .string s.t, .int .i64 s.n]) t)) (.slice (some ⟨w.heap.size, 0, none⟩) 1 1) [s] := by
  refine ⟨_, _, rfl, Nat.le_refl _, fun _ => ⟨w.heap.size, 0, rfl, by simp, fun i hi => ?_⟩⟩
  have hi0 : i = 0 := by simpa using hi
  subst hi0
  exact bk15 (Bk.new w (#[.int .u8 s.k, .int .i64 s.r.x, .int .i64 s.r.y, .int .i64 s.r.w, .int .i64 s.r.h, .int .u8 s.c.r, .int .u8 s.c.g, .int .u8 s.c.b, .int .u8 s.c.a, .int .u8 s.b.r, .int .u8 s.b.g, .int .u8 s.b.b, .int .u8 s.b.a, .string s.t, .int .i64 s.n]) t)

set_option maxHeartbeats 1000000 in
theorem fill16_any (w : World) : Calls Tryz.prog 13 #[.int .i64 (-1), .int .i64 0, .int .i64 4, .int .i64 4] w fun e w' => e = .returned (Value.agg #[.int .u8 fA0.k, .int .i64 fA0.r.x, .int .i64 fA0.r.y, .int .i64 fA0.r.w, .int .i64 fA0.r.h, .int .u8 fA0.c.r, .int .u8 fA0.c.g, .int .u8 fA0.c.b, .int .u8 fA0.c.a, .int .u8 fA0.b.r, .int .u8 fA0.b.g, .int .u8 fA0.b.b, .int .u8 fA0.b.a, .string fA0.t, .int .i64 fA0.n]) ∧ Below w.heap.size w w' := by
  have B0 : Hid (Below w.heap.size w (w.alloc (.cells (#[.int .u8 fA0.k, .int .i64 fA0.r.x, .int .i64 fA0.r.y, .int .i64 fA0.r.w, .int .i64 fA0.r.h, .int .u8 fA0.c.r, .int .u8 fA0.c.g, .int .u8 fA0.c.b, .int .u8 fA0.c.a, .int .u8 fA0.b.r, .int .u8 fA0.b.g, .int .u8 fA0.b.b, .int .u8 fA0.b.a, .string fA0.t, .int .i64 fA0.n]) 50))) := (Below.refl _ w).alloc (Nat.le_refl _) _
  go_enter Tryz.func13, Tryz.ntmps13
  go_wp2_with fail
  have hB := Bk.new w (#[.int .u8 fA0.k, .int .i64 fA0.r.x, .int .i64 fA0.r.y, .int .i64 fA0.r.w, .int .i64 fA0.r.h, .int .u8 fA0.c.r, .int .u8 fA0.c.g, .int .u8 fA0.c.b, .int .u8 fA0.c.a, .int .u8 fA0.b.r, .int .u8 fA0.b.g, .int .u8 fA0.b.b, .int .u8 fA0.b.a, .string fA0.t, .int .i64 fA0.n]) 50
  have hld : (loadVar 50 ⟨w.heap.size, 0, none⟩).run Tryz.prog (w.alloc (.cells (#[.int .u8 fA0.k, .int .i64 fA0.r.x, .int .i64 fA0.r.y, .int .i64 fA0.r.w, .int .i64 fA0.r.h, .int .u8 fA0.c.r, .int .u8 fA0.c.g, .int .u8 fA0.c.b, .int .u8 fA0.c.a, .int .u8 fA0.b.r, .int .u8 fA0.b.g, .int .u8 fA0.b.b, .int .u8 fA0.b.a, .string fA0.t, .int .i64 fA0.n]) 50)) = .ok (Value.agg #[.int .u8 fA0.k, .int .i64 fA0.r.x, .int .i64 fA0.r.y, .int .i64 fA0.r.w, .int .i64 fA0.r.h, .int .u8 fA0.c.r, .int .u8 fA0.c.g, .int .u8 fA0.c.b, .int .u8 fA0.c.a, .int .u8 fA0.b.r, .int .u8 fA0.b.g, .int .u8 fA0.b.b, .int .u8 fA0.b.a, .string fA0.t, .int .i64 fA0.n]) (w.alloc (.cells (#[.int .u8 fA0.k, .int .i64 fA0.r.x, .int .i64 fA0.r.y, .int .i64 fA0.r.w, .int .i64 fA0.r.h, .int .u8 fA0.c.r, .int .u8 fA0.c.g, .int .u8 fA0.c.b, .int .u8 fA0.c.a, .int .u8 fA0.b.r, .int .u8 fA0.b.g, .int .u8 fA0.b.b, .int .u8 fA0.b.a, .string fA0.t, .int .i64 fA0.n]) 50)) := run_loadVar_row _ _ 50 50 (#[.int .u8 fA0.k, .int .i64 fA0.r.x, .int .i64 fA0.r.y, .int .i64 fA0.r.w, .int .i64 fA0.r.h, .int .u8 fA0.c.r, .int .u8 fA0.c.g, .int .u8 fA0.c.b, .int .u8 fA0.c.a, .int .u8 fA0.b.r, .int .u8 fA0.b.g, .int .u8 fA0.b.b, .int .u8 fA0.b.a, .string fA0.t, .int .i64 fA0.n]) (0, 0) _ hB Tryz.underlying50 rfl size_st
  refine bodyPost_ret (v := (Value.agg #[.int .u8 fA0.k, .int .i64 fA0.r.x, .int .i64 fA0.r.y, .int .i64 fA0.r.w, .int .i64 fA0.r.h, .int .u8 fA0.c.r, .int .u8 fA0.c.g, .int .u8 fA0.c.b, .int .u8 fA0.c.a, .int .u8 fA0.b.r, .int .u8 fA0.b.g, .int .u8 fA0.b.b, .int .u8 fA0.b.a, .string fA0.t, .int .i64 fA0.n])) ?_ rfl ⟨rfl, B0.out⟩
  exact (by simpa [results, Tryz.results13, asAddr, fA0] using hld)

set_option maxRecDepth 10000 in
set_option maxHeartbeats 8000000 in
theorem alive16_any (w : World) (hE : EnR w.heap.size w) (hT : EtI w) : Calls Tryz.prog 4 #[] w fun e w' => e = .returned (.bool true) ∧ Below w.heap.size w w' := by
  obtain ⟨a, ha⟩ : ∃ a, a = fA0 := ⟨_, rfl⟩
  obtain ⟨f, hf⟩ : ∃ f, f = fA := ⟨_, rfl⟩
  obtain ⟨T, hT0⟩ : ∃ T, T = tA := ⟨_, rfl⟩
  have H1 : Hid (∀ W, Calls Tryz.prog 13 #[.int .i64 (-1), .int .i64 0, .int .i64 4, .int .i64 4] W fun e w' => e = .returned (Value.agg #[.int .u8 a.k, .int .i64 a.r.x, .int .i64 a.r.y, .int .i64 a.r.w, .int .i64 a.r.h, .int .u8 a.c.r, .int .u8 a.c.g, .int .u8 a.c.b, .int .u8 a.c.a, .int .u8 a.b.r, .int .u8 a.b.g, .int .u8 a.b.b, .int .u8 a.b.a, .string a.t, .int .i64 a.n]) ∧ Below W.heap.size W w') := fun W => by rw [ha]; exact fill16_any W
  have H2 : Hid (∀ W v, LsS W v [f] → Below w.heap.size w W → Calls Tryz.prog 5 #[v, .agg #[.int .i64 8, .int .i64 3]] W fun e w' => e = .returned (.tuple #[.string T, .int .i64 0]) ∧ Below W.heap.size W w') := fun W v h hb => by
    have q := vtext_any [f] v 8 3 W h (by rw [hf]; exact fA_wf) ⟨by decide, by decide⟩ ⟨by decide, by decide⟩ (hE.on hb).here.pw
    rw [hf, tA_text, tA_err] at q
    rw [hT0]
    exact q
  have H3 : Hid (∀ W, Below w.heap.size w W → Calls Tryz.prog 6 #[.string T] W fun e w' => ∃ u, e = .returned (.tuple #[u, .agg #[.int .i64 8, .int .i64 3], .int .i64 0, .int .i64 0]) ∧ OwS W.heap.size w' u [f] ∧ Below W.heap.size W w') := fun W hb => by
    have q := vread_any T W ((hE.on hb).mono hb.size) (hT.below hb)
    unfold RdQ at q
    rw [hT0, tA_rd.1, tA_rd.2.1, tA_rd.2.2.1, tA_rd.2.2.2.1, tA_rd.2.2.2.2] at q
    rw [hT0, hf]
    exact q
  have HA : Hid (a = fA0 ∧ f = fA ∧ T = tA) := ⟨ha, hf, hT0⟩
  have HS : Hid ((T.toList == [60, 115, 104, 97, 112, 101, 115, 32, 119, 61, 34, 56, 34, 32, 104, 61, 34, 51, 34, 62, 10, 60, 102, 105, 108, 108, 32, 120, 61, 34, 45, 49, 34, 32, 121, 61, 34, 48, 34, 32, 119, 61, 34, 52, 34, 32, 104, 61, 34, 52, 34, 32, 99, 61, 34, 35, 102, 48, 48, 34, 32, 110, 61, 34, 50, 34, 47, 62, 10, 60, 47, 115, 104, 97, 112, 101, 115, 62, 10]) = true) := by
    unfold Hid
    rw [hT0]
    decide +kernel
  clear ha hf hT0 hE hT
  go_enter Tryz.func4, Tryz.ntmps4
  go_wp2_with fail
  refine (H1.out _).mono ?_
  rintro e w1 ⟨rfl, hb1⟩
  obtain ⟨g, hg⟩ : ∃ g, g = w1.heap.size := ⟨_, rfl⟩
  have hcl : (#[.int .u8 a.k, .int .i64 a.r.x, .int .i64 a.r.y, .int .i64 a.r.w, .int .i64 a.r.h, .int .u8 a.c.r, .int .u8 a.c.g, .int .u8 a.c.b, .int .u8 a.c.a, .int .u8 a.b.r, .int .u8 a.b.g, .int .u8 a.b.b, .int .u8 a.b.a, .string a.t, .int .i64 2] : Array Value) = (#[.int .u8 f.k, .int .i64 f.r.x, .int .i64 f.r.y, .int .i64 f.r.w, .int .i64 f.r.h, .int .u8 f.c.r, .int .u8 f.c.g, .int .u8 f.c.b, .int .u8 f.c.a, .int .u8 f.b.r, .int .u8 f.b.g, .int .u8 f.b.b, .int .u8 f.b.a, .string f.t, .int .i64 f.n]) := by rw [HA.out.1, HA.out.2.1]; rfl
  have HB : Hid (∀ W, W = w1.alloc (.cells (#[.int .u8 f.k, .int .i64 f.r.x, .int .i64 f.r.y, .int .i64 f.r.w, .int .i64 f.r.h, .int .u8 f.c.r, .int .u8 f.c.g, .int .u8 f.c.b, .int .u8 f.c.a, .int .u8 f.b.r, .int .u8 f.b.g, .int .u8 f.b.b, .int .u8 f.b.a, .string f.t, .int .i64 f.n]) 50) → Bk W g (#[.int .u8 f.k, .int .i64 f.r.x, .int .i64 f.r.y, .int .i64 f.r.w, .int .i64 f.r.h, .int .u8 f.c.r, .int .u8 f.c.g, .int .u8 f.c.b, .int .u8 f.c.a, .int .u8 f.b.r, .int .u8 f.b.g, .int .u8 f.b.b, .int .u8 f.b.a, .string f.t, .int .i64 f.n]) 50 ∧ Below w.heap.size w W) := fun W hW => by
    have b1 : Below w1.heap.size w1 (w1.alloc (.cells (#[.int .u8 f.k, .int .i64 f.r.x, .int .i64 f.r.y, .int .i64 f.r.w, .int .i64 f.r.h, .int .u8 f.c.r, .int .u8 f.c.g, .int .u8 f.c.b, .int .u8 f.c.a, .int .u8 f.b.r, .int .u8 f.b.g, .int .u8 f.b.b, .int .u8 f.b.a, .string f.t, .int .i64 f.n]) 50)) := (Below.refl _ w1).alloc (Nat.le_refl _) _
    rw [hW, hg]
    exact ⟨Bk.new _ _ _, hb1.trans (b1.mono hb1.size)⟩
  clear hb1 H1
  go_wp2_with fail
  clear hcl
  obtain ⟨W2, hW2⟩ : ∃ W2, W2 = w1.alloc (.cells (#[.int .u8 f.k, .int .i64 f.r.x, .int .i64 f.r.y, .int .i64 f.r.w, .int .i64 f.r.h, .int .u8 f.c.r, .int .u8 f.c.g, .int .u8 f.c.b, .int .u8 f.c.a, .int .u8 f.b.r, .int .u8 f.b.g, .int .u8 f.b.b, .int .u8 f.b.a, .string f.t, .int .i64 f.n]) 50) := ⟨_, rfl⟩
  have HB2 := show Hid _ from HB.out W2 hW2
  have hs2 : w1.heap.size + 1 = W2.heap.size := by rw [hW2]; simp
  rw [← hW2, hs2, ← hg]
  clear hW2 HB hs2 hg
  have HL : Hid (LsS (W2.alloc (.cells (#[.int .u8 f.k, .int .i64 f.r.x, .int .i64 f.r.y, .int .i64 f.r.w, .int .i64 f.r.h, .int .u8 f.c.r, .int .u8 f.c.g, .int .u8 f.c.b, .int .u8 f.c.a, .int .u8 f.b.r, .int .u8 f.b.g, .int .u8 f.b.b, .int .u8 f.b.a, .string f.t, .int .i64 f.n]) 50)) (.slice (some ⟨W2.heap.size, 0, none⟩) 1 1) [f]) := lss_one W2 f _
  have HB3 : Hid (Bk (W2.alloc (.cells (#[.int .u8 f.k, .int .i64 f.r.x, .int .i64 f.r.y, .int .i64 f.r.w, .int .i64 f.r.h, .int .u8 f.c.r, .int .u8 f.c.g, .int .u8 f.c.b, .int .u8 f.c.a, .int .u8 f.b.r, .int .u8 f.b.g, .int .u8 f.b.b, .int .u8 f.b.a, .string f.t, .int .i64 f.n]) 50)) g (#[.int .u8 f.k, .int .i64 f.r.x, .int .i64 f.r.y, .int .i64 f.r.w, .int .i64 f.r.h, .int .u8 f.c.r, .int .u8 f.c.g, .int .u8 f.c.b, .int .u8 f.c.a, .int .u8 f.b.r, .int .u8 f.b.g, .int .u8 f.b.b, .int .u8 f.b.a, .string f.t, .int .i64 f.n]) 50 ∧ Below w.heap.size w (W2.alloc (.cells (#[.int .u8 f.k, .int .i64 f.r.x, .int .i64 f.r.y, .int .i64 f.r.w, .int .i64 f.r.h, .int .u8 f.c.r, .int .u8 f.c.g, .int .u8 f.c.b, .int .u8 f.c.a, .int .u8 f.b.r, .int .u8 f.b.g, .int .u8 f.b.b, .int .u8 f.b.a, .string f.t, .int .i64 f.n]) 50))) := by
    have b1 : Below W2.heap.size W2 (W2.alloc (.cells (#[.int .u8 f.k, .int .i64 f.r.x, .int .i64 f.r.y, .int .i64 f.r.w, .int .i64 f.r.h, .int .u8 f.c.r, .int .u8 f.c.g, .int .u8 f.c.b, .int .u8 f.c.a, .int .u8 f.b.r, .int .u8 f.b.g, .int .u8 f.b.b, .int .u8 f.b.a, .string f.t, .int .i64 f.n]) 50)) := (Below.refl _ W2).alloc (Nat.le_refl _) _
    exact ⟨HB2.out.1.below b1, HB2.out.2.trans (b1.mono HB2.out.2.size)⟩
  clear HB2
  refine (H2.out _ _ HL.out HB3.out.2).mono ?_
  rintro e w3 ⟨rfl, hb3⟩
  have HB4 : Hid (Bk w3 g (#[.int .u8 f.k, .int .i64 f.r.x, .int .i64 f.r.y, .int .i64 f.r.w, .int .i64 f.r.h, .int .u8 f.c.r, .int .u8 f.c.g, .int .u8 f.c.b, .int .u8 f.c.a, .int .u8 f.b.r, .int .u8 f.b.g, .int .u8 f.b.b, .int .u8 f.b.a, .string f.t, .int .i64 f.n]) 50 ∧ Below w.heap.size w w3) := ⟨HB3.out.1.below hb3, HB3.out.2.trans (hb3.mono HB3.out.2.size)⟩
  clear hb3 HB3 HL H2
  go_wp2_with fail
  refine (H3.out _ HB4.out.2).mono ?_
  rintro e w4 ⟨u, rfl, hu, hb4⟩
  obtain ⟨qb, hqb⟩ : ∃ qb, qb = w4.heap.size := ⟨_, rfl⟩
  have HB5 : Hid (Bk (w4.alloc (.cells #[.int .i64 8, .int .i64 3] 24)) g (#[.int .u8 f.k, .int .i64 f.r.x, .int .i64 f.r.y, .int .i64 f.r.w, .int .i64 f.r.h, .int .u8 f.c.r, .int .u8 f.c.g, .int .u8 f.c.b, .int .u8 f.c.a, .int .u8 f.b.r, .int .u8 f.b.g, .int .u8 f.b.b, .int .u8 f.b.a, .string f.t, .int .i64 f.n]) 50 ∧ Below w.heap.size w (w4.alloc (.cells #[.int .i64 8, .int .i64 3] 24)) ∧ OwS 0 (w4.alloc (.cells #[.int .i64 8, .int .i64 3] 24)) u [f] ∧ Bk (w4.alloc (.cells #[.int .i64 8, .int .i64 3] 24)) qb #[.int .i64 8, .int .i64 3] 24) := by
    have b1 : Below w4.heap.size w4 (w4.alloc (.cells #[.int .i64 8, .int .i64 3] 24)) := (Below.refl _ w4).alloc (Nat.le_refl _) _
    have bb := HB4.out.2.trans (hb4.mono HB4.out.2.size)
    exact ⟨(HB4.out.1.below hb4).below b1, bb.trans (b1.mono bb.size), own_lo (row_below hu b1) (Nat.zero_le _), by rw [hqb]; exact Bk.new _ _ _⟩
  clear hu hb4 HB4 H3
  go_wp2_with fail
  rw [← hqb]
  clear hqb
  generalize hW5 : w4.alloc (.cells #[.int .i64 8, .int .i64 3] 24) = W5 at *
  clear hW5
  obtain ⟨gu, cu, rfl, hcu, hgu⟩ : ∃ gu cu, u = .slice (some ⟨gu, 0, none⟩) 1 cu ∧ 1 ≤ cu ∧ Hid (∀ t : Gw W5, StAt t.wd gu 0 f) := by
    obtain ⟨_, ⟨_, h0⟩ | ⟨gg, cap, cur, rfl, h1, h2, h3, h4, h5, h6⟩⟩ := id HB5.out.2.2.1
    · cases h0
    · refine ⟨gg, cap, rfl, h3, fun t => ?_⟩
      have q := OwS.lss (row_below HB5.out.2.2.1 t.below : OwS 0 t.wd (.slice (some ⟨gg, 0, none⟩) 1 cap) [f])
      obtain ⟨oa, cp, he, _, hx⟩ := q
      obtain ⟨gz, oz, rfl, _, hh⟩ := hx Nat.one_pos
      injection he with e1 e2 e3
      injection e1 with e1
      injection e1 with e1 e4
      have := hh 0 Nat.one_pos
      subst e1
      obtain rfl : oz = 0 := by omega
      exact this
  have ne := gw_ne HB5.out.2.1
  have z0 := fun tt : Gw W5 => (Bk.at2 (HB5.out.2.2.2.below tt.below)).1
  have z1 := fun tt : Gw W5 => (Bk.at2 (HB5.out.2.2.2.below tt.below)).2
  have qf := fun tt : Gw W5 => bk15 (HB5.out.1.below tt.below)
  have qu := fun tt : Gw W5 => hgu.out tt
  have x0 := fun tt : Gw W5 => (qf tt).1
  have x1 := fun tt : Gw W5 => (qf tt).2.1
  have x2 := fun tt : Gw W5 => (qf tt).2.2.1
  have x3 := fun tt : Gw W5 => (qf tt).2.2.2.1
  have x4 := fun tt : Gw W5 => (qf tt).2.2.2.2.1
  have x5 := fun tt : Gw W5 => (qf tt).2.2.2.2.2.1
  have x6 := fun tt : Gw W5 => (qf tt).2.2.2.2.2.2.1
  have x7 := fun tt : Gw W5 => (qf tt).2.2.2.2.2.2.2.1
  have x8 := fun tt : Gw W5 => (qf tt).2.2.2.2.2.2.2.2.1
  have x9 := fun tt : Gw W5 => (qf tt).2.2.2.2.2.2.2.2.2.1
  have x10 := fun tt : Gw W5 => (qf tt).2.2.2.2.2.2.2.2.2.2.1
  have x11 := fun tt : Gw W5 => (qf tt).2.2.2.2.2.2.2.2.2.2.2.1
  have x12 := fun tt : Gw W5 => (qf tt).2.2.2.2.2.2.2.2.2.2.2.2.1
  have x13 := fun tt : Gw W5 => (qf tt).2.2.2.2.2.2.2.2.2.2.2.2.2.1
  have x14 := fun tt : Gw W5 => (qf tt).2.2.2.2.2.2.2.2.2.2.2.2.2.2
  have y0 := fun tt : Gw W5 => (qu tt).1
  have y1 := fun tt : Gw W5 => (qu tt).2.1
  have y2 := fun tt : Gw W5 => (qu tt).2.2.1
  have y3 := fun tt : Gw W5 => (qu tt).2.2.2.1
  have y4 := fun tt : Gw W5 => (qu tt).2.2.2.2.1
  have y5 := fun tt : Gw W5 => (qu tt).2.2.2.2.2.1
  have y6 := fun tt : Gw W5 => (qu tt).2.2.2.2.2.2.1
  have y7 := fun tt : Gw W5 => (qu tt).2.2.2.2.2.2.2.1
  have y8 := fun tt : Gw W5 => (qu tt).2.2.2.2.2.2.2.2.1
  have y9 := fun tt : Gw W5 => (qu tt).2.2.2.2.2.2.2.2.2.1
  have y10 := fun tt : Gw W5 => (qu tt).2.2.2.2.2.2.2.2.2.2.1
  have y11 := fun tt : Gw W5 => (qu tt).2.2.2.2.2.2.2.2.2.2.2.1
  have y12 := fun tt : Gw W5 => (qu tt).2.2.2.2.2.2.2.2.2.2.2.2.1
  have y13 := fun tt : Gw W5 => (qu tt).2.2.2.2.2.2.2.2.2.2.2.2.2.1
  have y14 := fun tt : Gw W5 => (qu tt).2.2.2.2.2.2.2.2.2.2.2.2.2.2
  simp only [Nat.zero_add] at x0 x1 x2 x3 x4 x5 x6 x7 x8 x9 x10 x11 x12 x13 x14 y0 y1 y2 y3 y4 y5 y6 y7 y8 y9 y10 y11 y12 y13 y14
  clear qf qu hgu
  have eqs := eql_stroke f f
  rw [eqS_self] at eqs
  have HZ : Hid (∀ t : Gw W5, Below w.heap.size w t.wd) := fun t => HB5.out.2.1.trans (t.below.mono HB5.out.2.1.size)
  have hs := HS.out
  clear HS HA HB5
  refine wp_region_gw (by kernel_rfl) (by kernel_rfl) ?_
  repeat (go_big_quiet_step (fail))
  refine wpQuiet_nil ?_
  rintro _ ⟨tt, rfl⟩
  have HB := HZ.out tt
  go_wp2
  go_ret
  exact ⟨rfl, HB⟩

end Go.Proofs.YtdmhcmngajmghaaGreatDoor

/-
  Drawing lists place by place: what shows at a place is the same without what nobody sees; cut to a region it shows there alone.
-/
namespace Go.Proofs.YtdmhcmngajmghaaGreatDoor

theorem has_iff (r : Rc) (px py : Int) : zHa r px py = true ↔ (-16384 ≤ r.x ∧ r.x + r.w ≤ 16384 ∧ -16384 ≤ r.y ∧ r.y + r.h ≤ 16384) ∧ r.x ≤ px ∧ px < r.x + r.w ∧ r.y ≤ py ∧ py < r.y + r.h := by
  have h := keepE_iff r
  unfold keepE at h
  unfold zHa hasB
  rw [Bool.and_eq_true, h]
  simp only [Bool.and_eq_true, decide_eq_true_eq]
  constructor
  · rintro ⟨⟨_, _, _, _, _, _⟩, _, _, _, _⟩
    omega
  · rintro ⟨⟨_, _, _, _⟩, _, _, _, _⟩
    omega
theorem has_keep {r : Rc} {px py : Int} (h : zHa r px py = true) : zEm r = false := by
  unfold zHa hasB at h
  unfold zEm
  cases e : emptyB r.x r.y r.w r.h
  · rfl
  · rw [e] at h; simp at h
theorem has_em {r : Rc} (h : zEm r = true) (px py : Int) : zHa r px py = false := by
  cases e : zHa r px py
  · rfl
  · rw [has_keep e] at h; cases h
theorem has_zr (px py : Int) : zHa zr px py = false := has_em rfl px py
theorem em_iff (r : Rc) : zEm r = false ↔ -16384 ≤ r.x ∧ 0 < r.w ∧ r.x + r.w ≤ 16384 ∧ -16384 ≤ r.y ∧ 0 < r.h ∧ r.y + r.h ≤ 16384 := by
  rw [← keepE_iff]
  unfold zEm keepE
  simp
theorem has_meet (a b : Rc) (px py : Int) : zHa (zMe a b) px py = (zHa a px py && zHa b px py) := by
  cases ea : zEm a
  · cases eb : zEm b
    · have ha := (em_iff a).1 ea
      have hb := (em_iff b).1 eb
      have e : zMe a b = btw (max a.x b.x) (max a.y b.y) (min (a.x + a.w) (b.x + b.w)) (min (a.y + a.h) (b.y + b.h)) := by
        unfold zEm at ea eb
        unfold zMe meetR
        rw [ea, eb]
        rfl
      rw [e]
      by_cases h : min (a.x + a.w) (b.x + b.w) ≤ max a.x b.x ∨ min (a.y + a.h) (b.y + b.h) ≤ max a.y b.y
      · rw [btw_no h, has_zr]
        symm
        rw [Bool.eq_false_iff]
        intro k
        rw [Bool.and_eq_true, has_iff, has_iff] at k
        omega
      · rw [btw_yes (by omega) (by omega), Bool.eq_iff_iff, Bool.and_eq_true, has_iff, has_iff, has_iff]
        simp only
        omega
    · rw [has_em eb, Bool.and_false]
      have e : zMe a b = zr := by
        unfold zEm at ea eb
        unfold zMe meetR
        rw [ea, eb]
        rfl
      rw [e, has_zr]
  · rw [has_em ea, Bool.false_and]
    have e : zMe a b = zr := by
      unfold zEm at ea
      unfold zMe meetR
      rw [ea]
      rfl
    rw [e, has_zr]
theorem rc_of_eqB {r q : Rc} (h : eqB r q.x q.y q.w q.h = true) : r = q := by
  cases r; cases q
  simp [eqB] at h
  simp [h]
theorem in_has {a b : Rc} (h : zIn a b = true) {px py : Int} (k : zHa a px py = true) : zHa b px py = true := by
  unfold zIn inB at h
  have e := has_keep k
  unfold zEm at e
  rw [e, Bool.false_or] at h
  have e2 : zMe a b = a := rc_of_eqB h
  have e3 := has_meet a b px py
  rw [e2, k] at e3
  simpa using e3.symm
theorem ov_has {a b : Rc} {px py : Int} (h1 : zHa a px py = true) (h2 : zHa b px py = true) : zOv a b = true := by
  unfold zOv overB
  cases e : eqB (meetR a.x a.y a.w a.h b.x b.y b.w b.h) 0 0 0 0
  · rfl
  · have e2 : zMe a b = zr := rc_of_eqB (q := zr) e
    have e3 := has_meet a b px py
    rw [e2, h1, h2, has_zr] at e3
    cases e3

/-- Is a place at a rectangle's edge? -/
def edgB (r : Rc) (px py : Int) : Bool := (px == r.x) || ((py == r.y) || ((px == r.x + r.w - 1) || (py == r.y + r.h - 1)))
/-- Does a stroke draw at a place of the rectangle in which it shows? -/
def cnd (px py : Int) (s : St) : Bool := if s.k = 1 then !(s.c.a == 0) else if s.k = 2 then !(s.c.a == 0) && edgB s.r px py else if s.k = 3 then !(s.t.size == 0) else false
theorem btw_has (a b c d : Int) (h1 : -16384 ≤ a) (h2 : -16384 ≤ b) (h3 : c ≤ 16384) (h4 : d ≤ 16384) (px py : Int) : zHa (btw a b c d) px py = true ↔ a ≤ px ∧ px < c ∧ b ≤ py ∧ py < d := by
  by_cases h : c ≤ a ∨ d ≤ b
  · rw [btw_no h, has_zr]
    constructor
    · intro k; cases k
    · intro k; omega
  · rw [btw_yes (by omega) (by omega), has_iff]
    simp only
    omega
theorem sid_has {q : Rc} {px py : Int} (h : zHa q px py = true) : (sidR q).any (fun a => zHa a px py) = edgB q px py := by
  have k := (has_iff q px py).1 h
  rw [Bool.eq_iff_iff]
  unfold sidR edgB
  simp only [List.any_cons, List.any_nil, Bool.or_false, Bool.or_eq_true, beq_iff_eq]
  rw [btw_has _ _ _ _ (by omega) (by omega) (by omega) (by omega), btw_has _ _ _ _ (by omega) (by omega) (by omega) (by omega), btw_has _ _ _ _ (by omega) (by omega) (by omega) (by omega), btw_has _ _ _ _ (by omega) (by omega) (by omega) (by omega)]
  omega
theorem any_keep (r : Rc) (px py : Int) : ∀ l : List Rc, ((l.map (fun q => zMe q r)).filter (fun q => !zEm q)).any (fun a => zHa a px py) = (zHa r px py && l.any (fun a => zHa a px py))
  | [] => by simp
  | q :: l => by
    have ih := any_keep r px py l
    rw [List.map_cons, List.filter_cons, List.any_cons]
    cases e : zEm (zMe q r)
    · simp only [Bool.not_false, if_true, List.any_cons]
      rw [ih, has_meet]
      cases zHa q px py <;> cases zHa r px py <;> simp
    · simp only [Bool.not_true, Bool.false_eq_true, if_false]
      have h := has_em e px py
      rw [has_meet] at h
      rw [ih]
      revert h
      cases zHa q px py <;> cases zHa r px py <;> simp
/-- The places at which a stroke shows, place by place. -/
theorem plc_any {s : St} {r : Rc} {px py : Int} (hk : s.k = 1 ∨ s.k = 2 ∨ s.k = 3 ∨ s.k = 4 ∨ s.k = 5) (hr : zHa r px py = true → zHa s.r px py = true) :
    (plc s r).any (fun a => zHa a px py) = (zHa r px py && cnd px py s) := by
  unfold plc
  cases hn : noP s r
  · rw [if_neg (by simp)]
    unfold noP at hn
    simp only [Bool.or_eq_false_iff] at hn
    obtain ⟨h1, h2, h3, h4⟩ := hn
    have hd : s.k < 4 := by unfold drw at h4; simpa using h4
    by_cases h : s.k = 2
    · rw [if_pos h, any_keep]
      have ha : (s.c.a == 0) = false := by rw [h] at h3; simpa using h3
      unfold cnd
      rw [if_neg (by omega), if_pos h, ha]
      cases e : zHa r px py
      · rfl
      · rw [sid_has (hr e)]; rfl
    · rw [if_neg h]
      simp only [List.any_cons, List.any_nil, Bool.or_false]
      have hc : cnd px py s = true := by
        unfold cnd
        rcases hk with k | k | k | k | k
        · rw [if_pos k]
          rw [k] at h3
          simp at h3 ⊢
          exact h3
        · exact absurd k h
        · rw [if_neg (by omega), if_neg h, if_pos k]
          rw [k] at h2
          simp at h2 ⊢
          exact h2
        · omega
        · omega
      rw [hc, Bool.and_true]
  · rw [if_pos rfl]
    unfold noP at hn
    simp only [List.any_nil]
    cases e : zHa r px py
    · rfl
    · have h1 := has_keep e
      rw [h1, Bool.false_or] at hn
      symm
      rw [Bool.true_and]
      unfold cnd
      simp only [Bool.or_eq_true, Bool.and_eq_true] at hn
      rcases hk with k | k | k | k | k
      · rw [if_pos k]
        rw [k] at hn
        simp [drw, k] at hn
        simp [hn]
      · rw [if_neg (by omega), if_pos k]
        rw [k] at hn
        simp [drw, k] at hn
        simp [hn]
      · rw [if_neg (by omega), if_neg (by omega), if_pos k]
        rw [k] at hn
        simp [drw, k] at hn
        simp [hn]
      · rw [if_neg (by omega), if_neg (by omega), if_neg (by omega)]
      · rw [if_neg (by omega), if_neg (by omega), if_neg (by omega)]

/-- Strokes with whether they show at a place. -/
def hs (px py : Int) (p : St × Rc) : St × Bool := (p.1, zHa p.2 px py)
def dH (px py : Int) (p : St × Bool) : Bool := p.2 && cnd px py p.1
def oH (p : St × Bool) : Bool := p.2 && opq p.1
theorem oH_dH {px py : Int} {p : St × Bool} (h : oH p = true) : dH px py p = true := by
  unfold oH opq at h
  simp only [Bool.and_eq_true, beq_iff_eq] at h
  unfold dH cnd
  rw [h.1, if_pos h.2.1, h.2.2]
  rfl
/-- Those that draw there, from the last opaque Fill on. -/
def outH (px py : Int) : List (St × Bool) → List St
  | [] => []
  | p :: t => if (dH px py p && !t.any oH) = true then p.1 :: outH px py t else outH px py t
theorem outH_app (px py : Int) : ∀ a b : List (St × Bool), outH px py (a ++ b) = (if b.any oH = true then [] else outH px py a) ++ outH px py b
  | [], b => by show outH px py b = (if b.any oH = true then [] else []) ++ _; split <;> rfl
  | p :: a, b => by
    show (if (dH px py p && !(a ++ b).any oH) = true then p.1 :: outH px py (a ++ b) else outH px py (a ++ b)) = _
    rw [outH_app px py a b, List.any_append, show outH px py (p :: a) = (if (dH px py p && !a.any oH) = true then p.1 :: outH px py a else outH px py a) from rfl]
    cases b.any oH <;> cases a.any oH <;> cases dH px py p <;> simp
theorem outH_ne (px py : Int) : ∀ l : List (St × Bool), (outH px py l = [] ↔ l.any (dH px py) = false)
  | [] => by simp [outH]
  | p :: t => by
    have ih := outH_ne px py t
    unfold outH
    rw [List.any_cons]
    cases e : t.any (dH px py)
    · have h : t.any oH = false := by
        rw [List.any_eq_false] at e ⊢
        intro x hx hc
        exact e x hx (oH_dH hc)
      rw [h]
      cases dH px py p
      · simp [ih.2 e]
      · simp
    · have : outH px py t ≠ [] := fun h => by rw [ih.1 h] at e; cases e
      split <;> simp [this]
/-- Without a stroke that does not draw there. -/
theorem outH_drop (px py : Int) {p : St × Bool} (h : dH px py p = false) (a b : List (St × Bool)) : outH px py (a ++ p :: b) = outH px py (a ++ b) ∧ (a ++ p :: b).any oH = (a ++ b).any oH := by
  have ho : oH p = false := by
    cases e : oH p
    · rfl
    · rw [oH_dH e] at h; cases h
  have e1 : (p :: b).any oH = b.any oH := by rw [List.any_cons, ho, Bool.false_or]
  have e2 : outH px py (p :: b) = outH px py b := by rw [outH, h]; rfl
  rw [outH_app, outH_app, e1, e2, List.any_append, List.any_append, e1]
  exact ⟨rfl, rfl⟩
theorem hs_clip {px py : Int} {p : St × Rc} (h : p.1.k = 4 ∨ p.1.k = 5) : dH px py (hs px py p) = false := by
  unfold dH hs cnd
  rw [if_neg (by simp only; omega), if_neg (by simp only; omega), if_neg (by simp only; omega), Bool.and_false]
theorem outH_idl (px py : Int) {l m : List (St × Rc)} (h : Idl (fun p : St × Rc => p.1.k) l m) : outH px py (l.map (hs px py)) = outH px py (m.map (hs px py)) ∧ (l.map (hs px py)).any oH = (m.map (hs px py)).any oH := by
  induction h with
  | refl => exact ⟨rfl, rfl⟩
  | step a b m c o h1 h2 _ ih =>
    rw [List.map_append, List.map_cons, List.map_cons]
    rw [List.map_append] at ih
    have q1 := outH_drop px py (hs_clip (px := px) (py := py) (p := c) (.inl h1)) (a.map (hs px py)) (hs px py o :: b.map (hs px py))
    have q2 := outH_drop px py (hs_clip (px := px) (py := py) (p := o) (.inr h2)) (a.map (hs px py)) (b.map (hs px py))
    exact ⟨q1.1.trans (q2.1.trans ih.1), q1.2.trans (q2.2.trans ih.2)⟩

/-- A stroke's places are told by where it shows. -/
def Gd (p : St × Rc) : Prop := ∀ px py, (plc p.1 p.2).any (fun a => zHa a px py) = dH px py (hs px py p)
/-- Is a place in all clips? -/
def inO (px py : Int) : List Rc → Bool
  | [] => true
  | c :: _ => zHa c px py
theorem shR_has (px py : Int) (cs : List Rc) (s : St) : zHa (shR cs s) px py = (inO px py cs && zHa s.r px py) := by
  have h : zHa (topR cs s.r) px py = (inO px py cs && zHa s.r px py) := by
    cases cs with
    | nil => simp [topR, inO]
    | cons c cs => show zHa (zMe s.r c) px py = (zHa c px py && _); rw [has_meet, Bool.and_comm]
  rw [← h]
  unfold shR
  split
  · next e => rw [has_zr, has_em e]
  · rfl
theorem ann_gd : ∀ (l : List St) (cs : List Rc) (n : Nat), clpE n l = 0 → ∀ p ∈ ann cs l, Gd p
  | [], _, _, _, p, hp => by cases hp
  | s :: l, cs, n, h, p, hp => by
    obtain ⟨h1, h2, h3⟩ := clpE_cons h
    rcases List.mem_cons.1 (show p ∈ (s, shR cs s) :: ann (nxC cs s) l from hp) with rfl | hp
    · intro px py
      refine plc_any (oneE_zero h1).2.1 fun k => ?_
      have k : zHa (shR cs s) px py = true := k
      rw [shR_has] at k
      exact (Bool.and_eq_true_iff.1 k).2
    · exact ann_gd l _ _ h3 p hp
/-- Without what nobody sees, the same shows. -/
theorem outH_kepN (px py : Int) : ∀ l : List (St × Rc), (∀ p ∈ l, Gd p) → outH px py ((kepN l).map (hs px py)) = outH px py (l.map (hs px py)) ∧ ((kepN l).map (hs px py)).any oH = (l.map (hs px py)).any oH
  | [], _ => ⟨rfl, rfl⟩
  | p :: t, hg => by
    obtain ⟨i1, i2⟩ := outH_kepN px py t fun q hq => hg q (List.mem_cons_of_mem p hq)
    unfold kepN
    by_cases h : hidB p t = true
    · rw [if_pos h, List.map_cons]
      have key : dH px py (hs px py p) = true → (t.map (hs px py)).any oH = true := by
        intro hd
        rw [← hg p List.mem_cons_self px py, List.any_eq_true] at hd
        obtain ⟨a, ha, hap⟩ := hd
        unfold hidB at h
        rw [Bool.and_eq_true, Bool.or_eq_true] at h
        rcases h.2 with h | h
        · rw [List.isEmpty_iff] at h
          rw [h] at ha
          cases ha
        · rw [List.any_eq_true] at h
          obtain ⟨q, hq, hq2⟩ := h
          rw [Bool.and_eq_true, List.all_eq_true] at hq2
          rw [List.any_eq_true]
          refine ⟨hs px py q, List.mem_map_of_mem hq, ?_⟩
          show (zHa q.2 px py && opq q.1) = true
          rw [in_has (hq2.2 a ha) hap, hq2.1]
          rfl
      have ko : oH (hs px py p) = true → (t.map (hs px py)).any oH = true := fun k => key (oH_dH k)
      refine ⟨?_, ?_⟩
      · rw [i1, outH]
        cases e : dH px py (hs px py p)
        · rfl
        · rw [key e]; rfl
      · rw [i2, List.any_cons]
        cases e : oH (hs px py p)
        · rfl
        · rw [ko e]; rfl
    · rw [if_neg h, List.map_cons, List.map_cons, outH, outH, List.any_cons, List.any_cons, i1, i2]
      exact ⟨rfl, rfl⟩

/-- What the statements' own look tells: stroke by stroke, clip by clip. -/
def atO (px py : Int) (i : Bool) (s : St) (o : List St) : List St :=
  if s.k = 1 then (if (i && (zHa s.r px py && decide (0 < s.c.a))) = true then (if (i && (zHa s.r px py && s.c.a == 255)) = true then [] else o) ++ [s] else (if (i && (zHa s.r px py && s.c.a == 255)) = true then [] else o))
  else if s.k = 2 then (if (i && (zHa s.r px py && (edgB s.r px py && decide (0 < s.c.a)))) = true then o ++ [s] else o)
  else (if (i && (zHa s.r px py && !(s.t.size == 0))) = true then o ++ [s] else o)
def atS (px py : Int) : List Bool → Bool → List St → List St → List St
  | _, _, o, [] => o
  | cs, i, o, s :: l =>
    if s.k = 4 then atS px py (i :: cs) (i && zHa s.r px py) o l
    else if s.k = 5 then (if cs.isEmpty = true then [] else atS px py cs.tail (cs.headD true) o l)
    else atS px py cs i (atO px py i s o) l
def bls (px py : Int) : List Rc → List Bool
  | [] => []
  | _ :: cs => inO px py cs :: bls px py cs
theorem at_ann (px py : Int) : ∀ (l : List St) (cs : List Rc) (o : List St), clpE cs.length l = 0 → (∀ s ∈ l, 0 ≤ s.c.a) →
    atS px py (bls px py cs) (inO px py cs) o l = (if ((ann cs l).map (hs px py)).any oH = true then [] else o) ++ outH px py ((ann cs l).map (hs px py))
  | [], cs, o, _, _ => by
    cases cs <;> simp [atS, ann, outH]
  | s :: l, cs, o, h, hp => by
    obtain ⟨h1, h2, h3⟩ := clpE_cons h
    have hp' : ∀ q ∈ l, 0 ≤ q.c.a := fun q hq => hp q (List.mem_cons_of_mem s hq)
    have ha : 0 ≤ s.c.a := hp s List.mem_cons_self
    rw [← nxC_len] at h3
    obtain ⟨_, hk, _⟩ := oneE_zero h1
    have hsh := shR_has px py cs s
    show _ = (if ((hs px py (s, shR cs s)) :: (ann (nxC cs s) l).map (hs px py)).any oH = true then [] else o) ++ outH px py (hs px py (s, shR cs s) :: (ann (nxC cs s) l).map (hs px py))
    rw [List.any_cons, outH]
    have eH : oH (hs px py (s, shR cs s)) = ((inO px py cs && zHa s.r px py) && opq s) := by unfold oH hs; rw [hsh]
    have eD : dH px py (hs px py (s, shR cs s)) = ((inO px py cs && zHa s.r px py) && cnd px py s) := by unfold dH hs; rw [hsh]
    rw [eH, eD]
    have draws : s.k < 4 → atS px py (bls px py cs) (inO px py cs) o (s :: l) = atS px py (bls px py cs) (inO px py cs) (atO px py (inO px py cs) s o) l := by
      intro k
      rw [atS, if_neg (show ¬ s.k = 4 by omega), if_neg (show ¬ s.k = 5 by omega)]
    have nxt : s.k < 4 → nxC cs s = cs := fun k => nxC_drw cs (by unfold drw; exact decide_eq_true k)
    rcases hk with k | k | k | k | k
    · rw [draws (by omega)]
      rw [nxt (by omega)] at h3 ⊢
      rw [at_ann px py l cs _ h3 hp']
      unfold atO cnd opq
      rw [if_pos k, if_pos k, k]
      have c1 : decide (0 < s.c.a) = !(s.c.a == 0) := by
        rw [Bool.eq_iff_iff]; simp; omega
      rw [c1]
      generalize ((ann cs l).map (hs px py)).any oH = A
      generalize outH px py ((ann cs l).map (hs px py)) = B
      generalize inO px py cs = i
      generalize zHa s.r px py = z
      by_cases c0 : s.c.a = 0
      · rw [c0]
        cases A <;> cases i <;> cases z <;> simp
      · by_cases c2 : s.c.a = 255
        · rw [c2]
          cases A <;> cases i <;> cases z <;> simp [hs]
        · have e0 : (s.c.a == 0) = false := beq_eq_false_iff_ne.2 c0
          have e2 : (s.c.a == 255) = false := beq_eq_false_iff_ne.2 c2
          rw [e0, e2]
          cases A <;> cases i <;> cases z <;> simp [hs]
    · rw [draws (by omega)]
      rw [nxt (by omega)] at h3 ⊢
      rw [at_ann px py l cs _ h3 hp']
      unfold atO cnd opq
      rw [if_neg (show ¬ s.k = 1 by omega), if_pos k, if_neg (show ¬ s.k = 1 by omega), if_pos k, k]
      have c1 : decide (0 < s.c.a) = !(s.c.a == 0) := by
        rw [Bool.eq_iff_iff]; simp; omega
      rw [c1]
      generalize ((ann cs l).map (hs px py)).any oH = A
      generalize outH px py ((ann cs l).map (hs px py)) = B
      generalize inO px py cs = i
      generalize zHa s.r px py = z
      generalize edgB s.r px py = e
      generalize (s.c.a == 0) = f
      cases A <;> cases i <;> cases z <;> cases e <;> cases f <;> simp [hs]
    · rw [draws (by omega)]
      rw [nxt (by omega)] at h3 ⊢
      rw [at_ann px py l cs _ h3 hp']
      unfold atO cnd opq
      rw [if_neg (show ¬ s.k = 1 by omega), if_neg (show ¬ s.k = 2 by omega), if_neg (show ¬ s.k = 1 by omega), if_neg (show ¬ s.k = 2 by omega), if_pos k, k]
      generalize ((ann cs l).map (hs px py)).any oH = A
      generalize outH px py ((ann cs l).map (hs px py)) = B
      generalize inO px py cs = i
      generalize zHa s.r px py = z
      generalize (s.t.size == 0) = f
      cases A <;> cases i <;> cases z <;> cases f <;> simp [hs]
    · have e1 : nxC cs s = shR cs s :: cs := by unfold nxC; rw [if_pos k]
      have e2 : atS px py (bls px py cs) (inO px py cs) o (s :: l) = atS px py (bls px py (nxC cs s)) (inO px py (nxC cs s)) o l := by
        rw [e1]
        show _ = atS px py (inO px py cs :: bls px py cs) (zHa (shR cs s) px py) o l
        rw [hsh]
        rw [atS, if_pos k]
      rw [e2, at_ann px py l _ _ h3 hp']
      unfold cnd opq
      rw [if_neg (show ¬ s.k = 1 by omega), if_neg (show ¬ s.k = 2 by omega), if_neg (show ¬ s.k = 3 by omega), show (s.k == 1) = false from beq_eq_false_iff_ne.2 (by omega)]
      simp only [Bool.and_false, Bool.false_or, Bool.false_and, Bool.false_eq_true, if_false]
    · have hn : cs ≠ [] := fun e => h2 ⟨k, by rw [e]; rfl⟩
      cases cs with
      | nil => exact absurd rfl hn
      | cons c cs =>
        have e1 : nxC (c :: cs) s = cs := by unfold nxC; rw [if_neg (by omega), if_pos k]; rfl
        rw [e1] at h3 ⊢
        have e2 : atS px py (bls px py (c :: cs)) (inO px py (c :: cs)) o (s :: l) = atS px py (bls px py cs) (inO px py cs) o l := by
          show atS px py (inO px py cs :: bls px py cs) (zHa c px py) o (s :: l) = _
          rw [atS, if_neg (by omega), if_pos k]
          rfl
        rw [e2, at_ann px py l _ _ h3 hp']
        unfold cnd opq
        rw [if_neg (show ¬ s.k = 1 by omega), if_neg (show ¬ s.k = 2 by omega), if_neg (show ¬ s.k = 3 by omega), show (s.k == 1) = false from beq_eq_false_iff_ne.2 (by omega)]
        simp only [Bool.and_false, Bool.false_or, Bool.false_and, Bool.false_eq_true, if_false]
/-- What shows at a place. -/
def atL (px py : Int) (l : List St) : List St := atS px py [] true [] l
def APos (l : List St) : Prop := ∀ s ∈ l, 0 ≤ s.c.a
theorem atL_ann (px py : Int) {l : List St} (h : clpE 0 l = 0) (ha : APos l) : atL px py l = outH px py ((ann [] l).map (hs px py)) := by
  have := at_ann px py l [] [] h ha
  show atS px py (bls px py []) (inO px py []) [] l = _
  rw [this]
  split <;> rfl
theorem APos.sub {l m : List St} (h : APos l) (k : m.Sublist l) : APos m := fun s hs => h s (k.subset hs)
theorem norL_sub (l : List St) : (norL l).Sublist l := by
  unfold norL
  refine (idl_sub (bz_idl St.k _ [])).trans ?_
  have := (dro_sub (dro_kepN (ann [] l))).map Prod.fst
  rwa [ann_fst] at this
/-- Norm shows the same. -/
theorem at_norL (px py : Int) {l : List St} (h : clpE 0 l = 0) (ha : APos l) : atL px py (norL l) = atL px py l := by
  rw [atL_ann px py (norL_clp h) (ha.sub (norL_sub l)), atL_ann px py h ha, ann_norL]
  have h1 := outH_idl px py (bz_idl (fun p : St × Rc => p.1.k) (kepN (ann [] l)) [])
  have h2 := outH_kepN px py (ann [] l) (ann_gd l [] 0 h)
  exact h1.1.symm.trans h2.1
/-- What is shown there is what is touched there. -/
theorem at_any (px py : Int) {l : List St} (h : clpE 0 l = 0) (ha : APos l) : (atL px py l = [] ↔ (plA (ann [] l)).any (fun a => zHa a px py) = false) := by
  rw [atL_ann px py h ha, outH_ne]
  have hg := ann_gd l [] 0 h
  generalize ann [] l = A at *
  have e : (A.map (hs px py)).any (dH px py) = (plA A).any (fun a => zHa a px py) := by
    induction A with
    | nil => rfl
    | cons p A ih =>
      rw [List.map_cons, List.any_cons, ih fun q hq => hg q (List.mem_cons_of_mem p hq), ← hg p List.mem_cons_self px py]
      unfold plA
      rw [List.flatMap_cons, List.any_append]
  rw [e]

/-- Clips below one more clip. -/
def Und (px py : Int) (b : Bool) : List Rc → List Rc → Prop
  | [], ds => ∃ q, ds = [q] ∧ zHa q px py = b
  | c :: cs, ds => ∃ c' t, ds = c' :: t ∧ zHa c' px py = (b && zHa c px py) ∧ Und px py b cs t
theorem und_in {px py : Int} {b : Bool} : ∀ {cs cs' : List Rc}, Und px py b cs cs' → inO px py cs' = (b && inO px py cs)
  | [], _, h => by
    obtain ⟨q, rfl, h⟩ := h
    show zHa q px py = (b && true)
    rw [h, Bool.and_true]
  | _ :: _, _, h => by
    obtain ⟨c', t, rfl, h, _⟩ := h
    exact h
theorem und_nxt {px py : Int} {b : Bool} {cs cs' : List Rc} (h : Und px py b cs cs') {s : St} (hn : ¬ (s.k = 5 ∧ cs.length = 0)) : Und px py b (nxC cs s) (nxC cs' s) := by
  unfold nxC
  by_cases k4 : s.k = 4
  · rw [if_pos k4, if_pos k4]
    refine ⟨_, _, rfl, ?_, h⟩
    rw [shR_has, shR_has, und_in h, Bool.and_assoc]
  · rw [if_neg k4, if_neg k4]
    by_cases k5 : s.k = 5
    · rw [if_pos k5, if_pos k5]
      cases cs with
      | nil => exact absurd ⟨k5, rfl⟩ hn
      | cons c cs =>
        obtain ⟨c', t, rfl, _, h⟩ := h
        exact h
    · rw [if_neg k5, if_neg k5]
      exact h
theorem und_ann {px py : Int} {b : Bool} : ∀ (l : List St) {cs cs' : List Rc}, Und px py b cs cs' → clpE cs.length l = 0 → (ann cs' l).map (hs px py) = ((ann cs l).map (hs px py)).map fun p => (p.1, b && p.2)
  | [], _, _, _, _ => rfl
  | s :: l, cs, cs', h, hc => by
    obtain ⟨h1, h2, h3⟩ := clpE_cons hc
    rw [← nxC_len] at h3
    show hs px py (s, shR cs' s) :: (ann (nxC cs' s) l).map (hs px py) = (s, b && zHa (shR cs s) px py) :: _
    rw [und_ann l (und_nxt h h2) h3]
    congr 1
    show (s, zHa (shR cs' s) px py) = _
    rw [shR_has, shR_has, und_in h, Bool.and_assoc]
theorem end_und : ∀ (l : List St) (cs ds : List Rc), clpE cs.length l = 0 → endC (cs ++ ds) l = ds
  | [], cs, ds, h => by
    unfold clpE at h
    split at h
    · cases h
    · next h1 =>
      have : cs = [] := List.length_eq_zero_iff.1 (by omega)
      rw [this]
      rfl
  | s :: l, cs, ds, h => by
    obtain ⟨h1, h2, h3⟩ := clpE_cons h
    have e : ∃ cs', nxC (cs ++ ds) s = cs' ++ ds ∧ cs'.length = opn cs.length s := by
      unfold nxC opn
      by_cases k4 : s.k = 4
      · rw [if_pos k4, if_pos k4]
        exact ⟨shR (cs ++ ds) s :: cs, rfl, rfl⟩
      · rw [if_neg k4, if_neg k4]
        by_cases k5 : s.k = 5
        · rw [if_pos k5, if_pos k5]
          cases cs with
          | nil => exact absurd ⟨k5, rfl⟩ h2
          | cons c cs => exact ⟨cs, rfl, rfl⟩
        · rw [if_neg k5, if_neg k5]
          exact ⟨cs, rfl, rfl⟩
    obtain ⟨cs', e1, e2⟩ := e
    show endC (nxC (cs ++ ds) s) l = ds
    rw [e1]
    exact end_und l cs' ds (by rw [e2]; exact h3)
theorem clp_app : ∀ (a b : List St) (n : Nat), clpE n a = 0 → clpE n (a ++ b) = clpE 0 b
  | [], b, n, h => by
    unfold clpE at h
    split at h
    · cases h
    · next h1 =>
      have : n = 0 := by omega
      rw [this]
      rfl
  | s :: a, b, n, h => by
    obtain ⟨h1, h2, h3⟩ := clpE_cons h
    show clpE n (s :: (a ++ b)) = _
    rw [clpE, if_neg (by simp [h1]), if_neg h2]
    exact clp_app a b _ h3
theorem clp_more : ∀ (a : List St) (n : Nat), clpE n a = 0 → clpE (n + 1) (a ++ [opeS]) = 0
  | [], n, h => by
    unfold clpE at h
    split at h
    · cases h
    · next h1 =>
      have : n = 0 := by omega
      rw [this]
      rfl
  | s :: a, n, h => by
    obtain ⟨h1, h2, h3⟩ := clpE_cons h
    refine clpE_mk h1 (fun e => by omega) ?_
    have e : opn (n + 1) s = opn n s + 1 := by
      unfold opn
      by_cases k4 : s.k = 4
      · rw [if_pos k4, if_pos k4]
      · rw [if_neg k4, if_neg k4]
        by_cases k5 : s.k = 5
        · rw [if_pos k5, if_pos k5]
          have : n ≠ 0 := fun e => h2 ⟨k5, e⟩
          omega
        · rw [if_neg k5, if_neg k5]
    rw [e]
    exact clp_more a _ h3
theorem one_clip {q : Rc} (h : zEm q = false) : oneE (cliS q) = 0 := by
  have h2 : zMa q = true := may_of h
  have e1 : wroK (cliS q) = false := rfl
  have e2 : wroF (cliS q) = false := rfl
  unfold oneE
  rw [e1, e2]
  show (if zMa q = true then (0 : Int) else 5) = 0
  rw [if_pos h2]
theorem grp_clp {l : List St} (h : clpE 0 l = 0) {q : Rc} (hq : zEm q = false) : clpE 0 (grpL (ann [] l) q) = 0 := by
  unfold grpL
  refine idl_clp (bz_idl St.k _ []) 0 ?_
  refine clpE_mk (one_clip hq) (fun e => by cases e.1) ?_
  exact clp_more _ 0 (dro_clp l [] 0 (dro_wit q _) h)
theorem grp_len (l : List St) (q : Rc) : (grpL (ann [] l) q).length ≤ l.length + 2 := by
  unfold grpL
  refine Nat.le_trans (busy_len _) ?_
  have := dro_len (dro_wit q (ann [] l))
  rw [ann_len] at this
  simp
  omega
/-- One piece of a list that is cut to a region, place by place. -/
theorem grp_out (px py : Int) {l : List St} (h : clpE 0 l = 0) {q : Rc} (hq : zEm q = false) :
    outH px py ((ann [] (grpL (ann [] l) q)).map (hs px py)) = (if zHa q px py = true then outH px py ((ann [] l).map (hs px py)) else []) ∧
    ((ann [] (grpL (ann [] l) q)).map (hs px py)).any oH = (zHa q px py && ((ann [] l).map (hs px py)).any oH) ∧ endC [] (grpL (ann [] l) q) = [] := by
  have hd := dro_wit q (ann [] l)
  have hg := ann_gd l [] 0 h
  have hc := dro_clp l [] 0 hd h
  have he := dro_ann l [] hd
  have hsub := dro_sub hd
  have hN := grp_clp h hq
  have hW : ∀ p ∈ ann [] l, zHa q px py = true → witP q p = false → dH px py (hs px py p) = false := by
    intro p hp hqp hw
    rw [← hg p hp px py, List.any_eq_false]
    intro a ha hap
    unfold witP at hw
    rw [Bool.or_eq_false_iff, List.any_eq_false] at hw
    exact hw.2 a ha (ov_has hap hqp)
  have key : ∀ A : List (St × Rc), (∀ p ∈ A, zHa q px py = true → witP q p = false → dH px py (hs px py p) = false) → zHa q px py = true → outH px py ((A.filter (witP q)).map (hs px py)) = outH px py (A.map (hs px py)) ∧ ((A.filter (witP q)).map (hs px py)).any oH = (A.map (hs px py)).any oH := by
    intro A
    induction A with
    | nil => intro _ _; exact ⟨rfl, rfl⟩
    | cons p A ih =>
      intro hA hqp
      obtain ⟨i1, i2⟩ := ih (fun x hx => hA x (List.mem_cons_of_mem p hx)) hqp
      rw [List.filter_cons]
      by_cases hw : witP q p = true
      · rw [if_pos hw, List.map_cons, List.map_cons, outH, outH, List.any_cons, List.any_cons, i1, i2]
        exact ⟨rfl, rfl⟩
      · have e := hA p List.mem_cons_self hqp (Bool.eq_false_iff.2 hw)
        rw [if_neg hw, i1, i2, List.map_cons]
        have := outH_drop px py e [] (A.map (hs px py))
        exact ⟨this.1.symm, this.2.symm⟩
  have eC : shR [] (cliS q) = q := by
    unfold shR
    show (if zEm q = true then zr else q) = q
    rw [if_neg (by simp [hq])]
  refine ⟨?_, ?_, ?_⟩
  rotate_left 2
  · have := end_und (grpL (ann [] l) q) [] [] hN
    exact this
  all_goals
    unfold grpL
    rw [ann_busy]
    have hI := outH_idl px py (bz_idl (fun p : St × Rc => p.1.k) (ann [] (cliS q :: (((ann [] l).filter (witP q)).map Prod.fst ++ [opeS]))) [])
    have e1 : ann [] (cliS q :: (((ann [] l).filter (witP q)).map Prod.fst ++ [opeS])) = (cliS q, q) :: (ann [q] (((ann [] l).filter (witP q)).map Prod.fst) ++ ann (endC [q] (((ann [] l).filter (witP q)).map Prod.fst)) [opeS]) := by
      show (cliS q, shR [] (cliS q)) :: ann [shR [] (cliS q)] _ = _
      rw [eC, ann_app]
    have e2 : endC [q] (((ann [] l).filter (witP q)).map Prod.fst) = [q] := end_und _ [] [q] hc
    have e3 : (ann [q] (((ann [] l).filter (witP q)).map Prod.fst)).map (hs px py) = (((ann [] l).filter (witP q)).map (hs px py)).map fun p => (p.1, zHa q px py && p.2) := by
      rw [und_ann (b := zHa q px py) _ (cs := []) (show Und px py (zHa q px py) [] [q] from ⟨q, rfl, rfl⟩) hc, he]
    have d1 := outH_drop px py (hs_clip (px := px) (py := py) (p := (cliS q, q)) (.inl rfl)) [] ((ann [q] (((ann [] l).filter (witP q)).map Prod.fst) ++ ann [q] [opeS]).map (hs px py))
    have d2 := outH_drop px py (hs_clip (px := px) (py := py) (p := (opeS, shR [q] opeS)) (.inr rfl)) ((ann [q] (((ann [] l).filter (witP q)).map Prod.fst)).map (hs px py)) []
    rw [e1, e2, List.reverse_nil, List.nil_append] at hI
    rw [e1, e2]
  · refine hI.1.symm.trans ?_
    rw [List.map_cons]
    refine d1.1.trans ?_
    rw [List.nil_append, List.map_append]
    refine d2.1.trans ?_
    rw [List.append_nil, e3]
    cases hqp : zHa q px py
    · simp only [Bool.false_and, Bool.false_eq_true, if_false]
      generalize List.map (hs px py) ((ann [] l).filter (witP q)) = X
      induction X with
      | nil => rfl
      | cons x X ih =>
        rw [List.map_cons, outH]
        have : dH px py (x.1, false) = false := rfl
        rw [this, ih]
        rfl
    · simp only [Bool.true_and, if_true]
      rw [show (fun p : St × Bool => (p.1, p.2)) = id from rfl, List.map_id]
      exact (key _ hW hqp).1
  · refine hI.2.symm.trans ?_
    rw [List.map_cons]
    refine d1.2.trans ?_
    rw [List.nil_append, List.map_append]
    refine d2.2.trans ?_
    rw [List.append_nil, e3]
    cases hqp : zHa q px py
    · simp only [Bool.false_and]
      generalize List.map (hs px py) ((ann [] l).filter (witP q)) = X
      induction X with
      | nil => rfl
      | cons x X ih =>
        rw [List.map_cons, List.any_cons, ih]
        rfl
    · simp only [Bool.true_and]
      rw [show (fun p : St × Bool => (p.1, p.2)) = id from rfl, List.map_id]
      exact (key _ hW hqp).2
/-- How often a place lies in a rectangle of a list. -/
def cntR (px py : Int) (F : List Rc) : Nat := (F.filter fun q => zHa q px py).length
theorem wit_clp {l : List St} (h : clpE 0 l = 0) : ∀ {F : List Rc}, (∀ q ∈ F, zEm q = false) → clpE 0 (witA l F) = 0
  | [], _ => rfl
  | q :: F, hF => by
    unfold witA
    rw [List.flatMap_cons, clp_app _ _ 0 (grp_clp h (hF q List.mem_cons_self))]
    exact wit_clp h fun x hx => hF x (List.mem_cons_of_mem q hx)
theorem wit_len (l : List St) : ∀ F : List Rc, (witA l F).length ≤ F.length * (l.length + 2)
  | [] => Nat.zero_le _
  | q :: F => by
    have h1 := grp_len l q
    have h2 := wit_len l F
    unfold witA at h2 ⊢
    rw [List.flatMap_cons, List.length_append, List.length_cons, Nat.add_mul]
    omega
theorem wit_out (px py : Int) {l : List St} (h : clpE 0 l = 0) : ∀ {F : List Rc}, (∀ q ∈ F, zEm q = false) → cntR px py F ≤ 1 →
    outH px py ((ann [] (witA l F)).map (hs px py)) = (if F.any (fun q => zHa q px py) = true then outH px py ((ann [] l).map (hs px py)) else []) ∧
    ((ann [] (witA l F)).map (hs px py)).any oH = (F.any (fun q => zHa q px py) && ((ann [] l).map (hs px py)).any oH)
  | [], _, _ => ⟨rfl, rfl⟩
  | q :: F, hF, hc => by
    obtain ⟨g1, g2, g3⟩ := grp_out px py h (hF q List.mem_cons_self)
    have hc' : cntR px py F ≤ 1 := by
      unfold cntR at hc ⊢
      rw [List.filter_cons] at hc
      split at hc
      · rw [List.length_cons] at hc
        omega
      · exact hc
    obtain ⟨i1, i2⟩ := wit_out px py h (fun x hx => hF x (List.mem_cons_of_mem q hx)) hc'
    have e : ann [] (witA l (q :: F)) = ann [] (grpL (ann [] l) q) ++ ann [] (witA l F) := by
      show ann [] (List.flatMap _ (q :: F)) = _
      rw [List.flatMap_cons, ann_app, g3]
      rfl
    rw [e, List.map_append, outH_app, List.any_append, i1, i2, g1, g2, List.any_cons]
    cases hq : zHa q px py
    · simp
    · have hz : F.any (fun q => zHa q px py) = false := by
        unfold cntR at hc
        rw [List.filter_cons, if_pos hq, List.length_cons] at hc
        have : F.filter (fun q => zHa q px py) = [] := List.length_eq_zero_iff.1 (by omega)
        rw [List.filter_eq_nil_iff] at this
        rw [List.any_eq_false]
        exact this
      rw [hz]
      simp
theorem wit_pos {l : List St} (h : APos l) (F : List Rc) : APos (witA l F) := by
  intro s hs
  unfold witA at hs
  obtain ⟨q, _, hs⟩ := List.mem_flatMap.1 hs
  unfold grpL at hs
  have := (idl_sub (bz_idl St.k _ [])).subset hs
  simp only [List.reverse_nil, List.nil_append, List.mem_cons, List.mem_append, List.not_mem_nil, or_false] at this
  rcases this with rfl | h2 | rfl
  · exact Int.le_refl _
  · have h3 := ((dro_sub (dro_wit q (ann [] l))).map Prod.fst).subset h2
    rw [ann_fst] at h3
    exact h s h3
  · exact Int.le_refl _
/-- Cut to rectangles that lie apart, a list shows the same there, and nothing elsewhere. -/
theorem at_wit (px py : Int) {l : List St} (h : clpE 0 l = 0) (ha : APos l) {F : List Rc} (hF : ∀ q ∈ F, zEm q = false) (hc : cntR px py F ≤ 1) :
    atL px py (witA l F) = if F.any (fun q => zHa q px py) = true then atL px py l else [] := by
  rw [atL_ann px py (wit_clp h hF) (wit_pos ha F), atL_ann px py h ha]
  exact (wit_out px py h hF hc).1

end Go.Proofs.YtdmhcmngajmghaaGreatDoor
