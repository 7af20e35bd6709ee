/-
  Small wrappers: which wrapper they make; lists of them in memory.
-/
import Derived.Test.YtbnbfgkcndomaabGreatDoorVA
namespace Go.Proofs.YtbnbfgkcndomaabGreatDoor
open Go.RowKit

structure Sl where
  kind : Nat
  mask : Nat
  num : Nat
  text : ByteArray
def Sl.wf (x : Sl) : Prop := x.kind < 256 ∧ x.mask < 256 ∧ x.num < 256 ∧ x.text.size ≤ 9223372036854775807
/-- The wrapper that a small one makes. -/
def wrK (k : Nat) (s : Sl) : Wr := if k = 1 ∨ k = 2 then ⟨k, s.mask % 64, 0, ⟨#[]⟩⟩ else if k = 3 ∨ k = 5 then ⟨k, 0, s.num, ⟨#[]⟩⟩ else if k = 6 then ⟨k, 0, 0, ⟨#[120]⟩⟩ else ⟨k, 0, 0, ⟨#[]⟩⟩
def wrOf (s : Sl) : Wr := wrK (1 + s.kind % 7) s
theorem wrK_ok (k : Nat) (s : Sl) (hk : 1 ≤ k ∧ k ≤ 7) (hs : s.wf) : okW (wrK k s) = true := by
  have hc : k = 1 ∨ k = 2 ∨ k = 3 ∨ k = 4 ∨ k = 5 ∨ k = 6 ∨ k = 7 := by omega
  have hm : s.mask % 64 < 64 := Nat.mod_lt _ (by decide)
  have hn := hs.2.2.1
  rcases hc with rfl | rfl | rfl | rfl | rfl | rfl | rfl
  · show okW ⟨1, s.mask % 64, 0, ⟨#[]⟩⟩ = true
    simp [okW, mskB, numB, txtB, hm]; rfl
  · show okW ⟨2, s.mask % 64, 0, ⟨#[]⟩⟩ = true
    simp [okW, mskB, numB, txtB, hm]; rfl
  · show okW ⟨3, 0, s.num, ⟨#[]⟩⟩ = true
    have h1 : fromTo (s.num : Int) 0 16384 = true := by simp [fromTo]; omega
    show (decide (1 ≤ 3) && (decide (3 ≤ 7) && (decide (0 = 0) && (fromTo (s.num : Int) 0 16384 && decide ((⟨#[]⟩ : ByteArray).size = 0))))) = true
    rw [h1]; rfl
  · exact (by decide +kernel : okW ⟨4, 0, 0, ⟨#[]⟩⟩ = true)
  · show okW ⟨5, 0, s.num, ⟨#[]⟩⟩ = true
    have h1 : fromTo (s.num : Int) (-1) 1048576 = true := by simp [fromTo]; omega
    show (decide (1 ≤ 5) && (decide (5 ≤ 7) && (decide (0 = 0) && (fromTo (s.num : Int) (-1) 1048576 && decide ((⟨#[]⟩ : ByteArray).size = 0))))) = true
    rw [h1]; rfl
  · exact (by decide +kernel : okW ⟨6, 0, 0, ⟨#[120]⟩⟩ = true)
  · exact (by decide +kernel : okW ⟨7, 0, 0, ⟨#[]⟩⟩ = true)
theorem wrOf_ok (s : Sl) (hs : s.wf) : okW (wrOf s) = true := wrK_ok _ s (by have := Nat.mod_lt s.kind (show 7 > 0 by decide); omega) hs
theorem wrK_wf (k : Nat) (s : Sl) (hk : 1 ≤ k ∧ k ≤ 7) (hs : s.wf) : (wrK k s).wf := by
  have hc : k = 1 ∨ k = 2 ∨ k = 3 ∨ k = 4 ∨ k = 5 ∨ k = 6 ∨ k = 7 := by omega
  have hm : s.mask % 64 < 64 := Nat.mod_lt _ (by decide)
  have hn := hs.2.2.1
  have h64 : s.mask % 64 < 65536 := by omega
  have hI : I64 (s.num : Int) := ⟨by omega, by omega⟩
  have h0 : I64 0 := ⟨by decide, by decide⟩
  rcases hc with rfl | rfl | rfl | rfl | rfl | rfl | rfl
  · show Wr.wf ⟨1, s.mask % 64, 0, ⟨#[]⟩⟩
    exact ⟨by show (1 : Nat) < 256; decide, h64, by show ByteArray.size ⟨#[]⟩ ≤ 9223372036854775807; decide, h0⟩
  · show Wr.wf ⟨2, s.mask % 64, 0, ⟨#[]⟩⟩
    exact ⟨by show (2 : Nat) < 256; decide, h64, by show ByteArray.size ⟨#[]⟩ ≤ 9223372036854775807; decide, h0⟩
  · show Wr.wf ⟨3, 0, s.num, ⟨#[]⟩⟩
    exact ⟨by show (3 : Nat) < 256; decide, by show (0 : Nat) < 65536; decide, by show ByteArray.size ⟨#[]⟩ ≤ 9223372036854775807; decide, hI⟩
  · show Wr.wf ⟨4, 0, 0, ⟨#[]⟩⟩
    exact ⟨by show (4 : Nat) < 256; decide, by show (0 : Nat) < 65536; decide, by show ByteArray.size ⟨#[]⟩ ≤ 9223372036854775807; decide, h0⟩
  · show Wr.wf ⟨5, 0, s.num, ⟨#[]⟩⟩
    exact ⟨by show (5 : Nat) < 256; decide, by show (0 : Nat) < 65536; decide, by show ByteArray.size ⟨#[]⟩ ≤ 9223372036854775807; decide, hI⟩
  · show Wr.wf ⟨6, 0, 0, ⟨#[120]⟩⟩
    exact ⟨by show (6 : Nat) < 256; decide, by show (0 : Nat) < 65536; decide, by show ByteArray.size ⟨#[120]⟩ ≤ 9223372036854775807; decide, h0⟩
  · show Wr.wf ⟨7, 0, 0, ⟨#[]⟩⟩
    exact ⟨by show (7 : Nat) < 256; decide, by show (0 : Nat) < 65536; decide, by show ByteArray.size ⟨#[]⟩ ≤ 9223372036854775807; decide, h0⟩
theorem wrOf_wf (s : Sl) (hs : s.wf) : (wrOf s).wf := wrK_wf _ s (by have := Nat.mod_lt s.kind (show 7 > 0 by decide); omega) hs

/-- A small one that lies from cell p of block g on. -/
def SlAt (w : World) (g p : Nat) (x : Sl) : Prop := w.cell? ⟨g, p, none⟩ = some (.int .u8 (x.kind : Nat)) ∧ w.cell? ⟨g, p + 1, none⟩ = some (.int .u8 (x.mask : Nat)) ∧ w.cell? ⟨g, p + 2, none⟩ = some (.int .u8 (x.num : Nat)) ∧ w.cell? ⟨g, p + 3, none⟩ = some (.string x.text)
theorem SlAt.kept {w w' : World} {g p : Nat} {x : Sl} (h : SlAt w g p x) (hb : ∀ o, w'.cell? ⟨g, o, none⟩ = w.cell? ⟨g, o, none⟩) : SlAt w' g p x := by
  have e := fun j => hb (p + j)
  exact ⟨(e 0).trans h.1, (e 1).trans h.2.1, (e 2).trans h.2.2.1, (e 3).trans h.2.2.2⟩
def Smalls (w : World) (v : Value) (l : List Sl) : Prop := ∃ oa cap, v = .slice oa l.length cap ∧ l.length ≤ cap ∧ (0 < l.length → ∃ g o, oa = some ⟨g, o, none⟩ ∧ g < w.heap.size ∧ ∀ i (h : i < l.length), SlAt w g (o + i * 4) l[i])

end Go.Proofs.YtbnbfgkcndomaabGreatDoor

namespace Go.Proofs.YtbnbfgkcndomaabGreatDoor
open Go.RowKit

set_option maxHeartbeats 1000000 in
theorem wrapper_any (s : Sl) (hs : s.wf) (w : World) :
    Calls Tryz.prog 23 #[.agg #[.int .u8 (s.kind : Nat), .int .u8 (s.mask : Nat), .int .u8 (s.num : Nat), .string s.text]] w fun e w' => e = .returned (Value.agg #[.int .u8 ((wrOf s).kind : Nat), .int .u16 ((wrOf s).mask : Nat), .int .i64 (wrOf s).num, .string (wrOf s).text]) ∧ Below w.heap.size w w' := by
  have L : Hid (∀ o, Below w.heap.size w ((w.alloc (.cells #[.int .u8 (s.kind : Nat), .int .u8 (s.mask : Nat), .int .u8 (s.num : Nat), .string s.text] 70)).alloc o)) := fun o => ((Below.refl _ w).alloc (Nat.le_refl _) _).alloc (by simp) _
  obtain ⟨k, m, n, t⟩ := s
  obtain ⟨j, hj, hjl⟩ : ∃ j, k % 7 = j ∧ j < 7 := ⟨k % 7, rfl, Nat.mod_lt _ (by decide)⟩
  have e1 : Int.tmod (k : Int) 7 = (j : Int) := by rw [← hj, Int.tmod_eq_emod_of_nonneg (by omega)]; omega
  have e2 : Int.tmod (m : Int) 64 = ((m % 64 : Nat) : Int) := by rw [Int.tmod_eq_emod_of_nonneg (by omega)]; omega
  obtain ⟨h1, h2, h3, h4⟩ := hs
  simp only at h1 h2 h3 h4
  have e0 : wrOf ⟨k, m, n, t⟩ = wrK (1 + j) ⟨k, m, n, t⟩ := by rw [← hj]; rfl
  rw [e0]
  clear e0 hj
  have hc : j = 0 ∨ j = 1 ∨ j = 2 ∨ j = 3 ∨ j = 4 ∨ j = 5 ∨ j = 6 := by omega
  rcases hc with rfl | rfl | rfl | rfl | rfl | rfl | rfl
  · go_enter Tryz.func23, Tryz.ntmps23
    go_wp2
    exact bodyPost_ret (v := .agg #[.int .u8 1, .int .u16 ((m % 64 : Nat) : Int), .int .i64 0, .string ⟨#[]⟩]) (by simp [results, Tryz.results23, go_sem]) rfl ⟨rfl, by repeat (first | exact Below.refl _ _ | refine Below.setCell ?_ (by simp <;> omega) _ | refine Below.alloc ?_ (by simp <;> omega) _)⟩
  · go_enter Tryz.func23, Tryz.ntmps23
    go_wp2
    exact bodyPost_ret (v := .agg #[.int .u8 2, .int .u16 ((m % 64 : Nat) : Int), .int .i64 0, .string ⟨#[]⟩]) (by simp [results, Tryz.results23, go_sem]) rfl ⟨rfl, by repeat (first | exact Below.refl _ _ | refine Below.setCell ?_ (by simp <;> omega) _ | refine Below.alloc ?_ (by simp <;> omega) _)⟩
  · go_enter Tryz.func23, Tryz.ntmps23
    go_wp2
    exact bodyPost_ret (v := .agg #[.int .u8 3, .int .u16 0, .int .i64 (n : Int), .string ⟨#[]⟩]) (by simp [results, Tryz.results23, go_sem]) rfl ⟨rfl, by repeat (first | exact Below.refl _ _ | refine Below.setCell ?_ (by simp <;> omega) _ | refine Below.alloc ?_ (by simp <;> omega) _)⟩
  · go_enter Tryz.func23, Tryz.ntmps23
    go_wp2
    exact bodyPost_ret (v := .agg #[.int .u8 4, .int .u16 0, .int .i64 0, .string ⟨#[]⟩]) (by simp [results, Tryz.results23, go_sem]) rfl ⟨rfl, by repeat (first | exact Below.refl _ _ | refine Below.setCell ?_ (by simp <;> omega) _ | refine Below.alloc ?_ (by simp <;> omega) _)⟩
  · go_enter Tryz.func23, Tryz.ntmps23
    go_wp2
    exact bodyPost_ret (v := .agg #[.int .u8 5, .int .u16 0, .int .i64 (n : Int), .string ⟨#[]⟩]) (by simp [results, Tryz.results23, go_sem]) rfl ⟨rfl, by repeat (first | exact Below.refl _ _ | refine Below.setCell ?_ (by simp <;> omega) _ | refine Below.alloc ?_ (by simp <;> omega) _)⟩
  · go_enter Tryz.func23, Tryz.ntmps23
    go_wp2
    exact bodyPost_ret (v := .agg #[.int .u8 6, .int .u16 0, .int .i64 0, .string ⟨#[120]⟩]) (by simp [results, Tryz.results23, go_sem]) rfl ⟨rfl, by repeat (first | exact Below.refl _ _ | refine Below.setCell ?_ (by simp <;> omega) _ | refine Below.alloc ?_ (by simp <;> omega) _)⟩
  · go_enter Tryz.func23, Tryz.ntmps23
    go_wp2
    exact bodyPost_ret (v := .agg #[.int .u8 7, .int .u16 0, .int .i64 0, .string ⟨#[]⟩]) (by simp [results, Tryz.results23, go_sem]) rfl ⟨rfl, by repeat (first | exact Below.refl _ _ | refine Below.setCell ?_ (by simp <;> omega) _ | refine Below.alloc ?_ (by simp <;> omega) _)⟩

end Go.Proofs.YtbnbfgkcndomaabGreatDoor
