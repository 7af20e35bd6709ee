/-
  The walk of the statement StyleNames: the chapter's numbers, rules at their ends, the usual rules.
-/
import Derived.Test.YtobmpjmpffnoiaaDoorSN1
import Derived.Test.YtobmpjmpffnoiaaDoorSX5
import Derived.Test.YtobmpjmpffnoiaaDoorSQ1
namespace Go.Proofs.YtobmpjmpffnoiaaDoor
open Go.RowKit Go.Shelf

theorem us_wf : ∀ r ∈ usL, r.cls.size ≤ 9223372036854775807 ∧ r.wf := by
  intro r hr
  simp only [usL, List.mem_cons, List.not_mem_nil, or_false] at hr
  rcases hr with rfl | rfl | rfl | rfl | rfl | rfl <;> exact ⟨by decide, by decide, by decide, by decide⟩
theorem us_chk : chkR usL = 0 := by decide +kernel
/-- Cells that may be written. -/
def WrC (W : World) (B n : Nat) : Prop := B < W.heap.size ∧ (∀ i, i < n → ∃ x, W.cell? ⟨B, i, none⟩ = some x) ∧ ∀ j, W.frozen? ⟨B, j, none⟩ = false
theorem WrC.set {W : World} {B n : Nat} (h : WrC W B n) (k : Nat) (v : Value) : WrC (W.setCell ⟨B, k, none⟩ v) B n := by
  refine ⟨by simpa [World.setCell] using h.1, fun i hi => ?_, fun j => by rw [World.frozen?_setCell]; exact h.2.2 j⟩
  by_cases e : i = k
  · subst e
    obtain ⟨x, hx⟩ := h.2.1 i hi
    exact ⟨v, World.cell?_setCell_same' _ _ _ (by rw [hx]; rfl)⟩
  · obtain ⟨x, hx⟩ := h.2.1 i hi
    exact ⟨x, by rw [World.cell?_setCell_other _ _ _ _ (by intro he; apply e; injection he; omega)]; exact hx⟩
theorem WrC.blk {W : World} {B n : Nat} {vs : Array Value} {t : TypeId} (h : Blk W B vs t) (hn : n ≤ vs.size) : WrC W B n :=
  ⟨h.lt, fun i hi => ⟨vs[i]'(by omega), (h.cell i).trans (Array.getElem?_eq_getElem (by omega))⟩, fun j => h.frozen j⟩
theorem WrC.below {W W' : World} {B n : Nat} (h : WrC W B n) (hb : Below W.heap.size W W') : WrC W' B n :=
  ⟨Nat.lt_of_lt_of_le h.1 hb.size, fun i hi => by obtain ⟨x, hx⟩ := h.2.1 i hi; exact ⟨x, (hb.cell (p := ⟨B, i, none⟩) h.1).trans hx⟩, fun j => (hb.frozen (p := ⟨B, j, none⟩) h.1).trans (h.2.2 j)⟩

def rAt (c : ByteArray) : List Rl := [⟨0, c, 0, Lk.zero⟩]
def rPad (n : Int) : List Rl := [⟨0, ByteArray.empty, 0, ⟨8, 0, 0, 0, 0, 0, 0, 0, 0, false, n⟩⟩]
def rStr : List Rl := [⟨0, ByteArray.empty, 0, ⟨8, 0, 0, 0, 0, 0, 0, 0, 0, false, 5⟩⟩, ⟨0, ByteArray.empty, 1, ⟨7, 255, 0, 0, 255, 255, 0, 0, 255, false, 0⟩⟩]
theorem rStr_wf : ∀ r ∈ rStr, r.cls.size ≤ 9223372036854775807 ∧ r.wf := by
  intro r hr
  simp only [rStr, List.mem_cons, List.not_mem_nil, or_false] at hr
  rcases hr with rfl | rfl <;> exact ⟨by decide, by decide, by decide, by decide⟩
theorem rStr_hs : hs rStr 1 ByteArray.empty 1 2 = [0, 1] := by decide +kernel
theorem rStr_is {l : List Nat} (h : Held rStr 1 ByteArray.empty 1 l) : l = [0, 1] := held_is h (by decide +kernel) (fun x => by rw [show rStr.length = 2 from rfl, rStr_hs])
theorem rStr_ly : ly (lks rStr (bwd [0, 1] 2)) = ⟨15, 255, 0, 0, 255, 255, 0, 0, 255, false, 5⟩ := by kernel_rfl
def rWr : List Rl := [⟨0, ⟨#[97, 32, 98]⟩, 0, Lk.zero⟩, ⟨0, ⟨#[32]⟩, 0, Lk.zero⟩, ⟨0, ByteArray.empty, 0, ⟨1, 0, 0, 0, 0, 0, 0, 0, 0, false, 1⟩⟩, ⟨0, ByteArray.empty, 0, ⟨8, 0, 0, 0, 0, 255, 0, 0, 255, false, 0⟩⟩, ⟨0, ByteArray.empty, 0, ⟨8, 0, 0, 0, 0, 0, 0, 0, 0, true, 0⟩⟩, ⟨0, ByteArray.empty, 0, ⟨14, 255, 0, 0, 255, 0, 0, 0, 0, false, 0⟩⟩]
theorem wr_wf : ∀ r ∈ rWr, r.cls.size ≤ 9223372036854775807 ∧ r.wf := by
  intro r hr
  simp only [rWr, List.mem_cons, List.not_mem_nil, or_false] at hr
  rcases hr with rfl | rfl | rfl | rfl | rfl | rfl <;> exact ⟨by decide, by decide, by decide, by decide⟩
theorem wr_chk (i : Nat) (hi : i < 6) : chkR [rWr[i]'hi] = 50 := by
  match i, hi with
  | 0, _ => exact (by decide +kernel : chkR [rWr[0]'(by decide)] = 50)
  | 1, _ => exact (by decide +kernel : chkR [rWr[1]'(by decide)] = 50)
  | 2, _ => exact (by decide +kernel : chkR [rWr[2]'(by decide)] = 50)
  | 3, _ => exact (by decide +kernel : chkR [rWr[3]'(by decide)] = 50)
  | 4, _ => exact (by decide +kernel : chkR [rWr[4]'(by decide)] = 50)
  | 5, _ => exact (by decide +kernel : chkR [rWr[5]'(by decide)] = 50)
theorem wr_one {W : World} {g : Nat} {t : TypeId} (h : Blk W g (cellsA rWr) t) (i : Nat) (hi : i < 6) (c : Nat) (hc : 1 ≤ c) : Rules W (.slice (some ⟨g, i * 14, none⟩) 1 c) [rWr[i]'hi] := by
  refine ⟨_, c, rfl, hc, fun _ => ⟨g, i * 14, rfl, h.lt, fun j hj => ?_⟩⟩
  obtain rfl : j = 0 := by simp at hj; exact hj
  have h1 := rules_blk h (Nat.le_refl _)
  obtain ⟨oa, cc, e1, _, h2⟩ := h1
  obtain ⟨g', o', e2, _, h3⟩ := h2 (by decide)
  simp only [Value.slice.injEq] at e1
  rw [e2] at e1
  obtain ⟨e3, _⟩ := e1
  cases e3
  have h4 := h3 i hi
  simpa using h4
theorem rAt_wf (c : ByteArray) (hc : c.size ≤ 9223372036854775807) : ∀ r ∈ rAt c, r.cls.size ≤ 9223372036854775807 ∧ r.wf := by
  intro r hr
  simp only [rAt, List.mem_cons, List.not_mem_nil, or_false] at hr
  subst hr
  exact ⟨hc, show (0 : Nat) < 256 by decide, show (0 : Nat) < 256 by decide, show (0 : Nat) < 256 by decide⟩
theorem rPad_wf (n : Int) : ∀ r ∈ rPad n, r.cls.size ≤ 9223372036854775807 ∧ r.wf := by
  intro r hr
  simp only [rPad, List.mem_cons, List.not_mem_nil, or_false] at hr
  subst hr
  exact ⟨show ByteArray.empty.size ≤ 9223372036854775807 by decide, show (0 : Nat) < 256 by decide, show (0 : Nat) < 256 by decide, show (8 : Nat) < 256 by decide⟩
theorem info_u8 : (Tryd.prog.info? 5).map (fun i => (i.zero, i.size, i.bytes)) = some (some (.int .u8 0), 1, 1) := by kernel_rfl
theorem make_bytes (w : World) : ∃ arr : Array Value, Hid (arr.size = 65) ∧ (Instr.makeSlice 36 (.int .i64 65) (.int .i64 65)).run Tryd.prog w = .ok (.slice (some ⟨w.heap.size, 0, none⟩) 65 65) (w.alloc (.cells arr 5)) := by
  obtain ⟨i0, hi, hz0, hz1, hz2⟩ := info_parts info_u8
  have h := run_make (P := Tryd.prog) w 36 5 i0 (.int .u8 0) Tryd.underlying36 hi hz0 .i64 .i64 65 65 (by omega) (Int.le_refl _) (by rw [hz2]; decide) (by decide)
  rw [hz1] at h
  exact ⟨_, size_madeCells _ _, h⟩

set_option maxRecDepth 20000 in
set_option maxHeartbeats 40000000 in
theorem names_walk (w : World) (hT : Tab w) : Calls Tryd.prog 3 #[] w fun e w' => e = .returned (.bool true) ∧ Below w.heap.size w w' := by
  go_enter Tryd.func3, Tryd.ntmps3
  go_wp2_with fail
  refine (alive_any _ hT).mono ?_
  rintro e w1 ⟨rfl, L1⟩
  obtain ⟨arr, HZ, hmk⟩ := make_rules w1
  have L2 : Below w.heap.size w (w1.alloc (.cells arr 35)) := L1.alloc L1.size _
  have HT : Hid (∀ W, Below w.heap.size w W → Tab W) := fun W hW => hT.below hW
  have H2 : Hid (Below w.heap.size w (w1.alloc (.cells arr 35)) ∧ Rules (w1.alloc (.cells arr 35)) (.slice (some ⟨w1.heap.size, 0, none⟩) 257 257) (zR 257) ∧ Rules (w1.alloc (.cells arr 35)) (.slice (some ⟨w1.heap.size, 0, none⟩) 256 257) (zR 256)) := ⟨L2, HZ.out⟩
  clear L1 L2 hT HZ
  go_wp2_with fail
  clear hmk
  generalize w1.alloc (.cells arr 35) = w2 at *
  generalize w1.heap.size = bl at *
  have C1 : Hid (Calls Tryd.prog 10 #[.slice (some ⟨bl, 0, none⟩) 256 257] w2 fun e w' => ∃ B, e = .returned (.tuple #[.slice (some ⟨B, 0, none⟩) 256 256, .int .i64 0]) ∧ (w'.cell? ⟨B, 255, none⟩ = some (.int .i64 255) ∧ B < w'.heap.size) ∧ Below w2.heap.size w2 w') := by
    have h := order_any (zR 256) _ w2 (HT.out _ H2.out.1) H2.out.2.2 (z_wf 256) (by rw [z_len]; decide) z_chk
    rw [z_len] at h
    refine h.mono fun e w' ⟨B, f, he, hB, hR, hM, hb⟩ => ⟨B, he, ⟨?_, hR.lt⟩, hb⟩
    have := hR.at' 255 (by decide)
    rw [z_order hM, Nat.zero_add] at this
    exact this
  refine C1.out.mono ?_
  rintro e w3 ⟨B, rfl, hB, hb3⟩
  have H3 : Hid (Below w.heap.size w w3 ∧ Rules w3 (.slice (some ⟨bl, 0, none⟩) 257 257) (zR 257) ∧ (w3.cell? ⟨B, 255, none⟩ = some (.int .i64 255) ∧ B < w3.heap.size)) := ⟨H2.out.1.trans (hb3.mono H2.out.1.size), H2.out.2.1.below hb3, hB⟩
  clear hb3 hB H2 C1
  go_wp2_with fail
  have C2 : Hid (Calls Tryd.prog 10 #[.slice (some ⟨bl, 0, none⟩) 257 257] w3 fun e w' => e = .returned (.tuple #[.slice none 0 0, .int .i64 4]) ∧ Below w3.heap.size w3 w') := by
    have h := order_bad (zR 257) _ w3 (HT.out _ H3.out.1) H3.out.2.1 (z_wf 257) (by rw [z_many]; decide)
    rw [z_many] at h
    exact h
  refine C2.out.mono ?_
  rintro e w4 ⟨rfl, hb4⟩
  have c1 : w4.cell? ⟨B, 255, none⟩ = some (.int .i64 255) := (hb4.cell (p := ⟨B, 255, none⟩) H3.out.2.2.2).trans H3.out.2.2.1
  have H4 : Hid (Below w.heap.size w w4) := H3.out.1.trans (hb4.mono H3.out.1.size)
  clear hb4 H3 C2
  go_wp2_with fail
  refine (usual_any w4).mono ?_
  rintro e w5 ⟨rfl, rfl⟩
  go_wp2_with fail
  clear c1
  have K5 := Blk.new w4 (cellsA usL) 35
  have hwbu : w.heap.size ≤ w4.heap.size := H4.out.size
  have L5 : Below w.heap.size w (w4.alloc (.cells (cellsA usL) 35)) := H4.out.alloc H4.out.size _
  generalize w4.alloc (.cells (cellsA usL) 35) = w5 at *
  generalize w4.heap.size = bu at *
  have H5 : Hid (Below w.heap.size w w5 ∧ Blk w5 bu (cellsA usL) 35) := ⟨L5, K5⟩
  clear L5 K5 H4
  refine (rusual_any w5).mono ?_
  rintro e wx ⟨rfl, rfl⟩
  go_wp2_with fail
  have hbx : Below w5.heap.size w5 (w5.alloc (.cells (cellsA usL) 35)) := (Below.refl _ _).alloc (Nat.le_refl _) _
  have R1 : Rules (w5.alloc (.cells (cellsA usL) 35)) (.slice (some ⟨w5.heap.size, 0, none⟩) 6 6) usL := rules_blk (Blk.new w5 (cellsA usL) 35) (by decide)
  have H6 : Hid (Below w.heap.size w (w5.alloc (.cells (cellsA usL) 35)) ∧ Blk (w5.alloc (.cells (cellsA usL) 35)) bu (cellsA usL) 35 ∧ Rules (w5.alloc (.cells (cellsA usL) 35)) (.slice (some ⟨w5.heap.size, 0, none⟩) 6 6) usL) := ⟨H5.out.1.trans (hbx.mono H5.out.1.size), H5.out.2.below hbx, R1⟩
  clear hbx R1
  generalize w5.alloc (.cells (cellsA usL) 35) = w6 at *
  generalize w5.heap.size = br at *
  refine (same_any usL _ _ w6 (rules_blk H6.out.2.1 (by decide)) H6.out.2.2 (by decide)).mono ?_
  rintro e w6s ⟨rfl, hbs⟩
  have H6s : Hid (Below w.heap.size w w6s ∧ Blk w6s bu (cellsA usL) 35) := ⟨H6.out.1.trans (hbs.mono H6.out.1.size), H6.out.2.1.below hbs⟩
  clear hbs H6 H5
  go_wp2_with fail
  have HW : Hid (Below w.heap.size w w6s ∧ w.heap.size ≤ bu ∧ WrC w6s bu 84) := ⟨H6s.out.1, hwbu, WrC.blk H6s.out.2 (by decide)⟩
  clear H6s
  go_loopw [9] (fun vi wr => ∃ k : Nat, k ≤ 6 ∧ vi = .int .i64 k ∧ Hid (Below w.heap.size w wr ∧ w.heap.size ≤ bu ∧ WrC wr bu 84)) (fun vi _ => 6 - (intOf vi).toNat)
  case atStart => exact ⟨0, Nat.zero_le _, rfl, HW.out⟩
  case round =>
    obtain ⟨k, hk, rfl, HR⟩ := hrel
    clear HW
    by_cases hlt : k < 6
    · have ik : (k : Int) < 6 := by omega
      have f1 := HR.out.2.2.2.2
      obtain ⟨x0, c0⟩ := HR.out.2.2.2.1 (k * 14) (by omega)
      obtain ⟨x1, c1⟩ := HR.out.2.2.2.1 (k * 14 + 1) (by omega)
      obtain ⟨x2, c2⟩ := HR.out.2.2.2.1 (k * 14 + 2) (by omega)
      obtain ⟨x3, c3⟩ := HR.out.2.2.2.1 (k * 14 + 3) (by omega)
      obtain ⟨x4, c4⟩ := HR.out.2.2.2.1 (k * 14 + 4) (by omega)
      obtain ⟨x5, c5⟩ := HR.out.2.2.2.1 (k * 14 + 5) (by omega)
      obtain ⟨x6, c6⟩ := HR.out.2.2.2.1 (k * 14 + 6) (by omega)
      obtain ⟨x7, c7⟩ := HR.out.2.2.2.1 (k * 14 + 7) (by omega)
      obtain ⟨x8, c8⟩ := HR.out.2.2.2.1 (k * 14 + 8) (by omega)
      obtain ⟨x9, c9⟩ := HR.out.2.2.2.1 (k * 14 + 9) (by omega)
      obtain ⟨x10, c10⟩ := HR.out.2.2.2.1 (k * 14 + 10) (by omega)
      obtain ⟨x11, c11⟩ := HR.out.2.2.2.1 (k * 14 + 11) (by omega)
      obtain ⟨x12, c12⟩ := HR.out.2.2.2.1 (k * 14 + 12) (by omega)
      obtain ⟨x13, c13⟩ := HR.out.2.2.2.1 (k * 14 + 13) (by omega)
      go_wp2_with fail
      go_roundw
      case rel => exact ⟨k + 1, by omega, by go_num, ((((((((((((((HR.out.1.setCell (p := ⟨bu, k * 14, none⟩) HR.out.2.1 _).setCell (p := ⟨bu, k * 14 + 1, none⟩) HR.out.2.1 _).setCell (p := ⟨bu, k * 14 + 2, none⟩) HR.out.2.1 _).setCell (p := ⟨bu, k * 14 + 3, none⟩) HR.out.2.1 _).setCell (p := ⟨bu, k * 14 + 4, none⟩) HR.out.2.1 _).setCell (p := ⟨bu, k * 14 + 5, none⟩) HR.out.2.1 _).setCell (p := ⟨bu, k * 14 + 6, none⟩) HR.out.2.1 _).setCell (p := ⟨bu, k * 14 + 7, none⟩) HR.out.2.1 _).setCell (p := ⟨bu, k * 14 + 8, none⟩) HR.out.2.1 _).setCell (p := ⟨bu, k * 14 + 9, none⟩) HR.out.2.1 _).setCell (p := ⟨bu, k * 14 + 10, none⟩) HR.out.2.1 _).setCell (p := ⟨bu, k * 14 + 11, none⟩) HR.out.2.1 _).setCell (p := ⟨bu, k * 14 + 12, none⟩) HR.out.2.1 _).setCell (p := ⟨bu, k * 14 + 13, none⟩) HR.out.2.1 _), HR.out.2.1, ((((((((((((((HR.out.2.2.set (k * 14) _).set (k * 14 + 1) _).set (k * 14 + 2) _).set (k * 14 + 3) _).set (k * 14 + 4) _).set (k * 14 + 5) _).set (k * 14 + 6) _).set (k * 14 + 7) _).set (k * 14 + 8) _).set (k * 14 + 9) _).set (k * 14 + 10) _).set (k * 14 + 11) _).set (k * 14 + 12) _).set (k * 14 + 13) _)⟩
      case measure => simp [intOf]; omega
    · obtain rfl : k = 6 := by omega
      have H7 : Hid (Below w.heap.size w wr) := HR.out.1
      clear HR
      go_wp2_with fail
      refine (usual_any wr).mono ?_
      rintro e wv ⟨rfl, rfl⟩
      go_wp2_with fail
      have K8 := Blk.new wr (cellsA usL) 35
      have L8 : Below w.heap.size w (wr.alloc (.cells (cellsA usL) 35)) := H7.out.alloc H7.out.size _
      generalize wr.alloc (.cells (cellsA usL) 35) = w8 at *
      generalize wr.heap.size = bv at *
      have H8 : Hid (Below w.heap.size w w8 ∧ Blk w8 bv (cellsA usL) 35) := ⟨L8, K8⟩
      clear L8 K8 H7
      refine (rusual_any w8).mono ?_
      rintro e wx ⟨rfl, rfl⟩
      go_wp2_with fail
      have hbx : Below w8.heap.size w8 (w8.alloc (.cells (cellsA usL) 35)) := (Below.refl _ _).alloc (Nat.le_refl _) _
      have R1 : Rules (w8.alloc (.cells (cellsA usL) 35)) (.slice (some ⟨w8.heap.size, 0, none⟩) 6 6) usL := rules_blk (Blk.new w8 (cellsA usL) 35) (by decide)
      have H9 : Hid (Below w.heap.size w (w8.alloc (.cells (cellsA usL) 35)) ∧ Blk (w8.alloc (.cells (cellsA usL) 35)) bv (cellsA usL) 35 ∧ Rules (w8.alloc (.cells (cellsA usL) 35)) (.slice (some ⟨w8.heap.size, 0, none⟩) 6 6) usL) := ⟨H8.out.1.trans (hbx.mono H8.out.1.size), H8.out.2.below hbx, R1⟩
      clear hbx R1
      generalize w8.alloc (.cells (cellsA usL) 35) = w9 at *
      generalize w8.heap.size = bs at *
      refine (same_any usL _ _ w9 (rules_blk H9.out.2.1 (by decide)) H9.out.2.2 (by decide)).mono ?_
      rintro e w9s ⟨rfl, hbs⟩
      have H9s : Hid (Below w.heap.size w w9s ∧ Blk w9s bv (cellsA usL) 35) := ⟨H9.out.1.trans (hbs.mono H9.out.1.size), H9.out.2.1.below hbs⟩
      clear hbs H9 H8
      have nvb : bv ≠ w9s.heap.size := by have := H9s.out.2.lt; omega
      obtain ⟨arr2, HA, hmk⟩ := make_bytes w9s
      have LA : Below w.heap.size w (w9s.alloc (.cells arr2 5)) := H9s.out.1.alloc H9s.out.1.size _
      have KA := Blk.new w9s arr2 5
      have KV := H9s.out.2.alloc (.cells arr2 5)
      have HA2 : Hid (w.heap.size ≤ w9s.heap.size) := H9s.out.1.size
      go_wp2_with fail
      clear hmk
      generalize w9s.alloc (.cells arr2 5) = w10 at *
      generalize w9s.heap.size = bb at *
      have H10 : Hid (Below w.heap.size w w10 ∧ Blk w10 bv (cellsA usL) 35 ∧ Blk w10 bb arr2 5 ∧ arr2.size = 65 ∧ w.heap.size ≤ bb ∧ bv ≠ bb) := ⟨LA, KV, KA, HA.out, HA2.out, nvb⟩
      clear LA KA KV HA HA2 H9s
      go_loopw [13] (fun vi wr => ∃ k : Nat, k ≤ 65 ∧ vi = .int .i64 k ∧ ∃ vs : Array Value, Hid (vs.size = 65 ∧ Blk wr bb vs 5 ∧ (∀ j, j < k → vs[j]? = some (.int .u8 97)) ∧ Blk wr bv (cellsA usL) 35 ∧ Below w.heap.size w wr)) (fun vi _ => 65 - (intOf vi).toNat)
      case atStart => exact ⟨0, Nat.zero_le _, rfl, arr2, H10.out.2.2.2.1, H10.out.2.2.1, fun j hj => by omega, H10.out.2.1, H10.out.1⟩
      case round =>
        obtain ⟨k, hk, rfl, vs, HR⟩ := hrel
        have hwb : Hid (w.heap.size ≤ bb ∧ bv ≠ bb) := H10.out.2.2.2.2
        clear H10
        by_cases hlt : k < 65
        · have ik : (k : Int) < 65 := by omega
          have hkv : k < vs.size := by rw [HR.out.1]; exact hlt
          have c1 : wr.cell? ⟨bb, k, none⟩ = some vs[k] := (HR.out.2.1.cell k).trans (Array.getElem?_eq_getElem hkv)
          have f1 := HR.out.2.1.frozen k
          go_wp2_with fail
          go_roundw
          case rel =>
            obtain ⟨v1, v2, v3, v4, v5⟩ := HR.out
            refine ⟨k + 1, by omega, by go_num, vs.setIfInBounds k (.int .u8 97), by simp [v1], v2.put k _, fun i hi => ?_, v4.other ⟨bb, k, none⟩ _ (fun h => hwb.out.2 h.symm), v5.setCell (p := ⟨bb, k, none⟩) hwb.out.1 _⟩
            by_cases e : i = k
            · subst e; simp [hkv]
            · rw [Array.getElem?_setIfInBounds_ne (by omega)]; exact v3 i (by omega)
          case measure => simp [intOf]; omega
        · obtain rfl : k = 65 := by omega
          obtain ⟨s64, Hs64⟩ : ∃ s : ByteArray, Hid (s = ⟨(List.replicate 64 97).toArray⟩) := ⟨_, rfl⟩
          obtain ⟨s65, Hs65⟩ : ∃ s : ByteArray, Hid (s = ⟨(List.replicate 65 97).toArray⟩) := ⟨_, rfl⟩
          have cv : ∀ (n : Nat) (W : World), n ≤ 65 → Below wr.heap.size wr W → (convert 36 9 (.slice (some ⟨bb, 0, none⟩) n 65)).run Tryd.prog W = .ok (.string ⟨(List.replicate n 97).toArray⟩) W := fun n W hn hW => by
            have h := run_convert_bytes_back W 36 9 5 ⟨bb, 0, none⟩ 65 (List.replicate n 97) Tryd.underlying36 Tryd.underlying5 Tryd.underlying9 fun j hj => by
              have hj' : j < n := by simpa using hj
              rw [Addr.add_lit, Nat.zero_add, (HR.out.2.1.below hW).cell j, HR.out.2.2.1 j (by omega), List.getElem_replicate]
              rfl
            rw [List.length_replicate] at h
            exact h
          have cv1 : (convert 36 9 (.slice (some ⟨bb, 0, none⟩) 64 65)).run Tryd.prog wr = .ok (.string s64) wr := by rw [Hs64.out]; exact cv 64 wr (by omega) (Below.refl _ _)
          have cv2 : ∀ c, (convert 36 9 (.slice (some ⟨bb, 0, none⟩) 65 65)).run Tryd.prog (wr.alloc c) = .ok (.string s65) (wr.alloc c) := fun c => by rw [Hs65.out]; exact cv 65 _ (by omega) ((Below.refl _ _).alloc (Nat.le_refl _) _)
          have H11 : Hid (Below w.heap.size w wr ∧ Blk wr bv (cellsA usL) 35) := ⟨HR.out.2.2.2.2, HR.out.2.2.2.1⟩
          clear cv HR
          go_wp2_with fail
          have k0 := (((((((Blk.new wr #[.int .u8 0, .string s64, .int .u8 0, .int .u8 0, .int .u8 0, .int .u8 0, .int .u8 0, .int .u8 0, .int .u8 0, .int .u8 0, .int .u8 0, .int .u8 0, .bool false, .int .i64 0] 35).alloc (.cells #[.int .u8 0, .string s65, .int .u8 0, .int .u8 0, .int .u8 0, .int .u8 0, .int .u8 0, .int .u8 0, .int .u8 0, .int .u8 0, .int .u8 0, .int .u8 0, .bool false, .int .i64 0] 35)).alloc (.cells #[.int .u8 0, .string ⟨#[]⟩, .int .u8 0, .int .u8 8, .int .u8 0, .int .u8 0, .int .u8 0, .int .u8 0, .int .u8 0, .int .u8 0, .int .u8 0, .int .u8 0, .bool false, .int .i64 16384] 35)).alloc (.cells #[.int .u8 0, .string ⟨#[]⟩, .int .u8 0, .int .u8 8, .int .u8 0, .int .u8 0, .int .u8 0, .int .u8 0, .int .u8 0, .int .u8 0, .int .u8 0, .int .u8 0, .bool false, .int .i64 16385] 35)).alloc (.cells #[.int .u8 0, .string ⟨#[255]⟩, .int .u8 0, .int .u8 0, .int .u8 0, .int .u8 0, .int .u8 0, .int .u8 0, .int .u8 0, .int .u8 0, .int .u8 0, .int .u8 0, .bool false, .int .i64 0] 35)).alloc (.cells #[.int .u8 255, .int .u8 0, .int .u8 0, .int .u8 255] 31)).alloc (.cells #[.int .u8 0, .string ⟨#[]⟩, .int .u8 0, .int .u8 8, .int .u8 0, .int .u8 0, .int .u8 0, .int .u8 0, .int .u8 0, .int .u8 0, .int .u8 0, .int .u8 0, .bool false, .int .i64 5, .int .u8 0, .string ⟨#[]⟩, .int .u8 1, .int .u8 7, .int .u8 255, .int .u8 0, .int .u8 0, .int .u8 255, .int .u8 255, .int .u8 0, .int .u8 0, .int .u8 255, .bool false, .int .i64 0] 35))
          have k1 := ((((((Blk.new (wr.alloc (.cells #[.int .u8 0, .string s64, .int .u8 0, .int .u8 0, .int .u8 0, .int .u8 0, .int .u8 0, .int .u8 0, .int .u8 0, .int .u8 0, .int .u8 0, .int .u8 0, .bool false, .int .i64 0] 35)) #[.int .u8 0, .string s65, .int .u8 0, .int .u8 0, .int .u8 0, .int .u8 0, .int .u8 0, .int .u8 0, .int .u8 0, .int .u8 0, .int .u8 0, .int .u8 0, .bool false, .int .i64 0] 35).alloc (.cells #[.int .u8 0, .string ⟨#[]⟩, .int .u8 0, .int .u8 8, .int .u8 0, .int .u8 0, .int .u8 0, .int .u8 0, .int .u8 0, .int .u8 0, .int .u8 0, .int .u8 0, .bool false, .int .i64 16384] 35)).alloc (.cells #[.int .u8 0, .string ⟨#[]⟩, .int .u8 0, .int .u8 8, .int .u8 0, .int .u8 0, .int .u8 0, .int .u8 0, .int .u8 0, .int .u8 0, .int .u8 0, .int .u8 0, .bool false, .int .i64 16385] 35)).alloc (.cells #[.int .u8 0, .string ⟨#[255]⟩, .int .u8 0, .int .u8 0, .int .u8 0, .int .u8 0, .int .u8 0, .int .u8 0, .int .u8 0, .int .u8 0, .int .u8 0, .int .u8 0, .bool false, .int .i64 0] 35)).alloc (.cells #[.int .u8 255, .int .u8 0, .int .u8 0, .int .u8 255] 31)).alloc (.cells #[.int .u8 0, .string ⟨#[]⟩, .int .u8 0, .int .u8 8, .int .u8 0, .int .u8 0, .int .u8 0, .int .u8 0, .int .u8 0, .int .u8 0, .int .u8 0, .int .u8 0, .bool false, .int .i64 5, .int .u8 0, .string ⟨#[]⟩, .int .u8 1, .int .u8 7, .int .u8 255, .int .u8 0, .int .u8 0, .int .u8 255, .int .u8 255, .int .u8 0, .int .u8 0, .int .u8 255, .bool false, .int .i64 0] 35))
          have k2 := (((((Blk.new ((wr.alloc (.cells #[.int .u8 0, .string s64, .int .u8 0, .int .u8 0, .int .u8 0, .int .u8 0, .int .u8 0, .int .u8 0, .int .u8 0, .int .u8 0, .int .u8 0, .int .u8 0, .bool false, .int .i64 0] 35)).alloc (.cells #[.int .u8 0, .string s65, .int .u8 0, .int .u8 0, .int .u8 0, .int .u8 0, .int .u8 0, .int .u8 0, .int .u8 0, .int .u8 0, .int .u8 0, .int .u8 0, .bool false, .int .i64 0] 35)) #[.int .u8 0, .string ⟨#[]⟩, .int .u8 0, .int .u8 8, .int .u8 0, .int .u8 0, .int .u8 0, .int .u8 0, .int .u8 0, .int .u8 0, .int .u8 0, .int .u8 0, .bool false, .int .i64 16384] 35).alloc (.cells #[.int .u8 0, .string ⟨#[]⟩, .int .u8 0, .int .u8 8, .int .u8 0, .int .u8 0, .int .u8 0, .int .u8 0, .int .u8 0, .int .u8 0, .int .u8 0, .int .u8 0, .bool false, .int .i64 16385] 35)).alloc (.cells #[.int .u8 0, .string ⟨#[255]⟩, .int .u8 0, .int .u8 0, .int .u8 0, .int .u8 0, .int .u8 0, .int .u8 0, .int .u8 0, .int .u8 0, .int .u8 0, .int .u8 0, .bool false, .int .i64 0] 35)).alloc (.cells #[.int .u8 255, .int .u8 0, .int .u8 0, .int .u8 255] 31)).alloc (.cells #[.int .u8 0, .string ⟨#[]⟩, .int .u8 0, .int .u8 8, .int .u8 0, .int .u8 0, .int .u8 0, .int .u8 0, .int .u8 0, .int .u8 0, .int .u8 0, .int .u8 0, .bool false, .int .i64 5, .int .u8 0, .string ⟨#[]⟩, .int .u8 1, .int .u8 7, .int .u8 255, .int .u8 0, .int .u8 0, .int .u8 255, .int .u8 255, .int .u8 0, .int .u8 0, .int .u8 255, .bool false, .int .i64 0] 35))
          have k3 := ((((Blk.new (((wr.alloc (.cells #[.int .u8 0, .string s64, .int .u8 0, .int .u8 0, .int .u8 0, .int .u8 0, .int .u8 0, .int .u8 0, .int .u8 0, .int .u8 0, .int .u8 0, .int .u8 0, .bool false, .int .i64 0] 35)).alloc (.cells #[.int .u8 0, .string s65, .int .u8 0, .int .u8 0, .int .u8 0, .int .u8 0, .int .u8 0, .int .u8 0, .int .u8 0, .int .u8 0, .int .u8 0, .int .u8 0, .bool false, .int .i64 0] 35)).alloc (.cells #[.int .u8 0, .string ⟨#[]⟩, .int .u8 0, .int .u8 8, .int .u8 0, .int .u8 0, .int .u8 0, .int .u8 0, .int .u8 0, .int .u8 0, .int .u8 0, .int .u8 0, .bool false, .int .i64 16384] 35)) #[.int .u8 0, .string ⟨#[]⟩, .int .u8 0, .int .u8 8, .int .u8 0, .int .u8 0, .int .u8 0, .int .u8 0, .int .u8 0, .int .u8 0, .int .u8 0, .int .u8 0, .bool false, .int .i64 16385] 35).alloc (.cells #[.int .u8 0, .string ⟨#[255]⟩, .int .u8 0, .int .u8 0, .int .u8 0, .int .u8 0, .int .u8 0, .int .u8 0, .int .u8 0, .int .u8 0, .int .u8 0, .int .u8 0, .bool false, .int .i64 0] 35)).alloc (.cells #[.int .u8 255, .int .u8 0, .int .u8 0, .int .u8 255] 31)).alloc (.cells #[.int .u8 0, .string ⟨#[]⟩, .int .u8 0, .int .u8 8, .int .u8 0, .int .u8 0, .int .u8 0, .int .u8 0, .int .u8 0, .int .u8 0, .int .u8 0, .int .u8 0, .bool false, .int .i64 5, .int .u8 0, .string ⟨#[]⟩, .int .u8 1, .int .u8 7, .int .u8 255, .int .u8 0, .int .u8 0, .int .u8 255, .int .u8 255, .int .u8 0, .int .u8 0, .int .u8 255, .bool false, .int .i64 0] 35))
          have k4 := (((Blk.new ((((wr.alloc (.cells #[.int .u8 0, .string s64, .int .u8 0, .int .u8 0, .int .u8 0, .int .u8 0, .int .u8 0, .int .u8 0, .int .u8 0, .int .u8 0, .int .u8 0, .int .u8 0, .bool false, .int .i64 0] 35)).alloc (.cells #[.int .u8 0, .string s65, .int .u8 0, .int .u8 0, .int .u8 0, .int .u8 0, .int .u8 0, .int .u8 0, .int .u8 0, .int .u8 0, .int .u8 0, .int .u8 0, .bool false, .int .i64 0] 35)).alloc (.cells #[.int .u8 0, .string ⟨#[]⟩, .int .u8 0, .int .u8 8, .int .u8 0, .int .u8 0, .int .u8 0, .int .u8 0, .int .u8 0, .int .u8 0, .int .u8 0, .int .u8 0, .bool false, .int .i64 16384] 35)).alloc (.cells #[.int .u8 0, .string ⟨#[]⟩, .int .u8 0, .int .u8 8, .int .u8 0, .int .u8 0, .int .u8 0, .int .u8 0, .int .u8 0, .int .u8 0, .int .u8 0, .int .u8 0, .bool false, .int .i64 16385] 35)) #[.int .u8 0, .string ⟨#[255]⟩, .int .u8 0, .int .u8 0, .int .u8 0, .int .u8 0, .int .u8 0, .int .u8 0, .int .u8 0, .int .u8 0, .int .u8 0, .int .u8 0, .bool false, .int .i64 0] 35).alloc (.cells #[.int .u8 255, .int .u8 0, .int .u8 0, .int .u8 255] 31)).alloc (.cells #[.int .u8 0, .string ⟨#[]⟩, .int .u8 0, .int .u8 8, .int .u8 0, .int .u8 0, .int .u8 0, .int .u8 0, .int .u8 0, .int .u8 0, .int .u8 0, .int .u8 0, .bool false, .int .i64 5, .int .u8 0, .string ⟨#[]⟩, .int .u8 1, .int .u8 7, .int .u8 255, .int .u8 0, .int .u8 0, .int .u8 255, .int .u8 255, .int .u8 0, .int .u8 0, .int .u8 255, .bool false, .int .i64 0] 35))
          have k5 := ((Blk.new (((((wr.alloc (.cells #[.int .u8 0, .string s64, .int .u8 0, .int .u8 0, .int .u8 0, .int .u8 0, .int .u8 0, .int .u8 0, .int .u8 0, .int .u8 0, .int .u8 0, .int .u8 0, .bool false, .int .i64 0] 35)).alloc (.cells #[.int .u8 0, .string s65, .int .u8 0, .int .u8 0, .int .u8 0, .int .u8 0, .int .u8 0, .int .u8 0, .int .u8 0, .int .u8 0, .int .u8 0, .int .u8 0, .bool false, .int .i64 0] 35)).alloc (.cells #[.int .u8 0, .string ⟨#[]⟩, .int .u8 0, .int .u8 8, .int .u8 0, .int .u8 0, .int .u8 0, .int .u8 0, .int .u8 0, .int .u8 0, .int .u8 0, .int .u8 0, .bool false, .int .i64 16384] 35)).alloc (.cells #[.int .u8 0, .string ⟨#[]⟩, .int .u8 0, .int .u8 8, .int .u8 0, .int .u8 0, .int .u8 0, .int .u8 0, .int .u8 0, .int .u8 0, .int .u8 0, .int .u8 0, .bool false, .int .i64 16385] 35)).alloc (.cells #[.int .u8 0, .string ⟨#[255]⟩, .int .u8 0, .int .u8 0, .int .u8 0, .int .u8 0, .int .u8 0, .int .u8 0, .int .u8 0, .int .u8 0, .int .u8 0, .int .u8 0, .bool false, .int .i64 0] 35)) #[.int .u8 255, .int .u8 0, .int .u8 0, .int .u8 255] 31).alloc (.cells #[.int .u8 0, .string ⟨#[]⟩, .int .u8 0, .int .u8 8, .int .u8 0, .int .u8 0, .int .u8 0, .int .u8 0, .int .u8 0, .int .u8 0, .int .u8 0, .int .u8 0, .bool false, .int .i64 5, .int .u8 0, .string ⟨#[]⟩, .int .u8 1, .int .u8 7, .int .u8 255, .int .u8 0, .int .u8 0, .int .u8 255, .int .u8 255, .int .u8 0, .int .u8 0, .int .u8 255, .bool false, .int .i64 0] 35))
          have k6 := (Blk.new ((((((wr.alloc (.cells #[.int .u8 0, .string s64, .int .u8 0, .int .u8 0, .int .u8 0, .int .u8 0, .int .u8 0, .int .u8 0, .int .u8 0, .int .u8 0, .int .u8 0, .int .u8 0, .bool false, .int .i64 0] 35)).alloc (.cells #[.int .u8 0, .string s65, .int .u8 0, .int .u8 0, .int .u8 0, .int .u8 0, .int .u8 0, .int .u8 0, .int .u8 0, .int .u8 0, .int .u8 0, .int .u8 0, .bool false, .int .i64 0] 35)).alloc (.cells #[.int .u8 0, .string ⟨#[]⟩, .int .u8 0, .int .u8 8, .int .u8 0, .int .u8 0, .int .u8 0, .int .u8 0, .int .u8 0, .int .u8 0, .int .u8 0, .int .u8 0, .bool false, .int .i64 16384] 35)).alloc (.cells #[.int .u8 0, .string ⟨#[]⟩, .int .u8 0, .int .u8 8, .int .u8 0, .int .u8 0, .int .u8 0, .int .u8 0, .int .u8 0, .int .u8 0, .int .u8 0, .int .u8 0, .bool false, .int .i64 16385] 35)).alloc (.cells #[.int .u8 0, .string ⟨#[255]⟩, .int .u8 0, .int .u8 0, .int .u8 0, .int .u8 0, .int .u8 0, .int .u8 0, .int .u8 0, .int .u8 0, .int .u8 0, .int .u8 0, .bool false, .int .i64 0] 35)).alloc (.cells #[.int .u8 255, .int .u8 0, .int .u8 0, .int .u8 255] 31)) #[.int .u8 0, .string ⟨#[]⟩, .int .u8 0, .int .u8 8, .int .u8 0, .int .u8 0, .int .u8 0, .int .u8 0, .int .u8 0, .int .u8 0, .int .u8 0, .int .u8 0, .bool false, .int .i64 5, .int .u8 0, .string ⟨#[]⟩, .int .u8 1, .int .u8 7, .int .u8 255, .int .u8 0, .int .u8 0, .int .u8 255, .int .u8 255, .int .u8 0, .int .u8 0, .int .u8 255, .bool false, .int .i64 0] 35)
          simp only [World.size_alloc] at k0 k1 k2 k3 k4 k5 k6
          have bX : Below wr.heap.size wr (((((((wr.alloc (.cells #[.int .u8 0, .string s64, .int .u8 0, .int .u8 0, .int .u8 0, .int .u8 0, .int .u8 0, .int .u8 0, .int .u8 0, .int .u8 0, .int .u8 0, .int .u8 0, .bool false, .int .i64 0] 35)).alloc (.cells #[.int .u8 0, .string s65, .int .u8 0, .int .u8 0, .int .u8 0, .int .u8 0, .int .u8 0, .int .u8 0, .int .u8 0, .int .u8 0, .int .u8 0, .int .u8 0, .bool false, .int .i64 0] 35)).alloc (.cells #[.int .u8 0, .string ⟨#[]⟩, .int .u8 0, .int .u8 8, .int .u8 0, .int .u8 0, .int .u8 0, .int .u8 0, .int .u8 0, .int .u8 0, .int .u8 0, .int .u8 0, .bool false, .int .i64 16384] 35)).alloc (.cells #[.int .u8 0, .string ⟨#[]⟩, .int .u8 0, .int .u8 8, .int .u8 0, .int .u8 0, .int .u8 0, .int .u8 0, .int .u8 0, .int .u8 0, .int .u8 0, .int .u8 0, .bool false, .int .i64 16385] 35)).alloc (.cells #[.int .u8 0, .string ⟨#[255]⟩, .int .u8 0, .int .u8 0, .int .u8 0, .int .u8 0, .int .u8 0, .int .u8 0, .int .u8 0, .int .u8 0, .int .u8 0, .int .u8 0, .bool false, .int .i64 0] 35)).alloc (.cells #[.int .u8 255, .int .u8 0, .int .u8 0, .int .u8 255] 31)).alloc (.cells #[.int .u8 0, .string ⟨#[]⟩, .int .u8 0, .int .u8 8, .int .u8 0, .int .u8 0, .int .u8 0, .int .u8 0, .int .u8 0, .int .u8 0, .int .u8 0, .int .u8 0, .bool false, .int .i64 5, .int .u8 0, .string ⟨#[]⟩, .int .u8 1, .int .u8 7, .int .u8 255, .int .u8 0, .int .u8 0, .int .u8 255, .int .u8 255, .int .u8 0, .int .u8 0, .int .u8 255, .bool false, .int .i64 0] 35)) := ((((((((Below.refl _ wr).alloc (by exact Nat.le_refl _) _).alloc (by simp) _).alloc (by simp; omega) _).alloc (by simp; omega) _).alloc (by simp; omega) _).alloc (by simp; omega) _).alloc (by simp; omega) _)
          have kV := H11.out.2.below bX
          have LX := H11.out.1.trans (bX.mono H11.out.1.size)
          generalize (((((((wr.alloc (.cells #[.int .u8 0, .string s64, .int .u8 0, .int .u8 0, .int .u8 0, .int .u8 0, .int .u8 0, .int .u8 0, .int .u8 0, .int .u8 0, .int .u8 0, .int .u8 0, .bool false, .int .i64 0] 35)).alloc (.cells #[.int .u8 0, .string s65, .int .u8 0, .int .u8 0, .int .u8 0, .int .u8 0, .int .u8 0, .int .u8 0, .int .u8 0, .int .u8 0, .int .u8 0, .int .u8 0, .bool false, .int .i64 0] 35)).alloc (.cells #[.int .u8 0, .string ⟨#[]⟩, .int .u8 0, .int .u8 8, .int .u8 0, .int .u8 0, .int .u8 0, .int .u8 0, .int .u8 0, .int .u8 0, .int .u8 0, .int .u8 0, .bool false, .int .i64 16384] 35)).alloc (.cells #[.int .u8 0, .string ⟨#[]⟩, .int .u8 0, .int .u8 8, .int .u8 0, .int .u8 0, .int .u8 0, .int .u8 0, .int .u8 0, .int .u8 0, .int .u8 0, .int .u8 0, .bool false, .int .i64 16385] 35)).alloc (.cells #[.int .u8 0, .string ⟨#[255]⟩, .int .u8 0, .int .u8 0, .int .u8 0, .int .u8 0, .int .u8 0, .int .u8 0, .int .u8 0, .int .u8 0, .int .u8 0, .int .u8 0, .bool false, .int .i64 0] 35)).alloc (.cells #[.int .u8 255, .int .u8 0, .int .u8 0, .int .u8 255] 31)).alloc (.cells #[.int .u8 0, .string ⟨#[]⟩, .int .u8 0, .int .u8 8, .int .u8 0, .int .u8 0, .int .u8 0, .int .u8 0, .int .u8 0, .int .u8 0, .int .u8 0, .int .u8 0, .bool false, .int .i64 5, .int .u8 0, .string ⟨#[]⟩, .int .u8 1, .int .u8 7, .int .u8 255, .int .u8 0, .int .u8 0, .int .u8 255, .int .u8 255, .int .u8 0, .int .u8 0, .int .u8 255, .bool false, .int .i64 0] 35)) = W at *
          generalize wr.heap.size = n0 at *
          have H12 : Hid (Below w.heap.size w W ∧ Blk W bv (cellsA usL) 35 ∧ Blk W (n0) (cellsA (rAt s64)) 35 ∧ Blk W (n0 + 1) (cellsA (rAt s65)) 35 ∧ Blk W (n0 + 1 + 1) (cellsA (rPad 16384)) 35 ∧ Blk W (n0 + 1 + 1 + 1) (cellsA (rPad 16385)) 35 ∧ Blk W (n0 + 1 + 1 + 1 + 1) (cellsA (rAt ⟨#[255]⟩)) 35 ∧ Blk W (n0 + 1 + 1 + 1 + 1 + 1) #[.int .u8 255, .int .u8 0, .int .u8 0, .int .u8 255] 31 ∧ Blk W (n0 + 1 + 1 + 1 + 1 + 1 + 1) (cellsA (rStr)) 35) := ⟨LX, kV, k0, k1, k2, k3, k4, k5, k6⟩
          clear k0 k1 k2 k3 k4 k5 k6 bX kV LX H11 cv1 cv2
          have CL : Hid (Calls Tryd.prog 14 #[.slice (some ⟨n0 + 1 + 1 + 1 + 1 + 1 + 1, 0, none⟩) 2 2, .int .u8 1, .string ⟨#[]⟩, .int .u8 1] W fun e w' => e = .returned (.tuple #[(Value.agg #[.int .u8 15, .int .u8 255, .int .u8 0, .int .u8 0, .int .u8 255, .int .u8 255, .int .u8 0, .int .u8 0, .int .u8 255, .bool false, .int .i64 5]), .int .i64 0]) ∧ Below W.heap.size W w') := (look_ok rStr _ 1 ByteArray.empty 1 W (HT.out _ H12.out.1) (rules_blk H12.out.2.2.2.2.2.2.2.2 (by decide)) rStr_wf (by decide) (by decide) (by decide +kernel)).mono fun e w'' ⟨l, hl, he, hw⟩ => by
            obtain rfl := rStr_is hl
            rw [show ([0, 1] : List Nat).length = 2 from rfl, rStr_ly] at he
            exact ⟨he, hw⟩
          refine CL.out.mono ?_
          rintro e W2 ⟨rfl, hb2⟩
          have H13 : Hid (Below w.heap.size w W2 ∧ Blk W2 bv (cellsA usL) 35 ∧ Blk W2 (n0) (cellsA (rAt s64)) 35 ∧ Blk W2 (n0 + 1) (cellsA (rAt s65)) 35 ∧ Blk W2 (n0 + 1 + 1) (cellsA (rPad 16384)) 35 ∧ Blk W2 (n0 + 1 + 1 + 1) (cellsA (rPad 16385)) 35 ∧ Blk W2 (n0 + 1 + 1 + 1 + 1) (cellsA (rAt ⟨#[255]⟩)) 35 ∧ Blk W2 (n0 + 1 + 1 + 1 + 1 + 1) #[.int .u8 255, .int .u8 0, .int .u8 0, .int .u8 255] 31 ∧ Blk W2 (n0 + 1 + 1 + 1 + 1 + 1 + 1) (cellsA (rStr)) 35) := ⟨H12.out.1.trans (hb2.mono H12.out.1.size), H12.out.2.1.below hb2, H12.out.2.2.1.below hb2, H12.out.2.2.2.1.below hb2, H12.out.2.2.2.2.1.below hb2, H12.out.2.2.2.2.2.1.below hb2, H12.out.2.2.2.2.2.2.1.below hb2, H12.out.2.2.2.2.2.2.2.1.below hb2, H12.out.2.2.2.2.2.2.2.2.below hb2⟩
          have r0 := H13.out.2.2.2.2.2.2.2.1.at4.1
          have r1 := H13.out.2.2.2.2.2.2.2.1.at4.2.1
          have r2 := H13.out.2.2.2.2.2.2.2.1.at4.2.2.1
          have r3 := H13.out.2.2.2.2.2.2.2.1.at4.2.2.2
          have ln := H13.out.2.2.2.2.2.2.2.1.lt
          clear hb2 H12 CL
          go_wp2_with fail
          clear r0 r1 r2 r3 ln
          have b3 : Below W2.heap.size W2 ((W2.alloc (.cells #[.int .u8 15, .int .u8 255, .int .u8 0, .int .u8 0, .int .u8 255, .int .u8 255, .int .u8 0, .int .u8 0, .int .u8 255, .bool false, .int .i64 5] 33)).alloc (.cells #[.int .u8 0, .string ⟨#[97, 32, 98]⟩, .int .u8 0, .int .u8 0, .int .u8 0, .int .u8 0, .int .u8 0, .int .u8 0, .int .u8 0, .int .u8 0, .int .u8 0, .int .u8 0, .bool false, .int .i64 0, .int .u8 0, .string ⟨#[32]⟩, .int .u8 0, .int .u8 0, .int .u8 0, .int .u8 0, .int .u8 0, .int .u8 0, .int .u8 0, .int .u8 0, .int .u8 0, .int .u8 0, .bool false, .int .i64 0, .int .u8 0, .string ⟨#[]⟩, .int .u8 0, .int .u8 1, .int .u8 0, .int .u8 0, .int .u8 0, .int .u8 0, .int .u8 0, .int .u8 0, .int .u8 0, .int .u8 0, .bool false, .int .i64 1, .int .u8 0, .string ⟨#[]⟩, .int .u8 0, .int .u8 8, .int .u8 0, .int .u8 0, .int .u8 0, .int .u8 0, .int .u8 255, .int .u8 0, .int .u8 0, .int .u8 255, .bool false, .int .i64 0, .int .u8 0, .string ⟨#[]⟩, .int .u8 0, .int .u8 8, .int .u8 0, .int .u8 0, .int .u8 0, .int .u8 0, .int .u8 0, .int .u8 0, .int .u8 0, .int .u8 0, .bool true, .int .i64 0, .int .u8 0, .string ⟨#[]⟩, .int .u8 0, .int .u8 14, .int .u8 255, .int .u8 0, .int .u8 0, .int .u8 255, .int .u8 0, .int .u8 0, .int .u8 0, .int .u8 0, .bool false, .int .i64 0] 35)) := ((Below.refl _ W2).alloc (Nat.le_refl _) _).alloc (by simp) _
          have kw := Blk.new (W2.alloc (.cells #[.int .u8 15, .int .u8 255, .int .u8 0, .int .u8 0, .int .u8 255, .int .u8 255, .int .u8 0, .int .u8 0, .int .u8 255, .bool false, .int .i64 5] 33)) #[.int .u8 0, .string ⟨#[97, 32, 98]⟩, .int .u8 0, .int .u8 0, .int .u8 0, .int .u8 0, .int .u8 0, .int .u8 0, .int .u8 0, .int .u8 0, .int .u8 0, .int .u8 0, .bool false, .int .i64 0, .int .u8 0, .string ⟨#[32]⟩, .int .u8 0, .int .u8 0, .int .u8 0, .int .u8 0, .int .u8 0, .int .u8 0, .int .u8 0, .int .u8 0, .int .u8 0, .int .u8 0, .bool false, .int .i64 0, .int .u8 0, .string ⟨#[]⟩, .int .u8 0, .int .u8 1, .int .u8 0, .int .u8 0, .int .u8 0, .int .u8 0, .int .u8 0, .int .u8 0, .int .u8 0, .int .u8 0, .bool false, .int .i64 1, .int .u8 0, .string ⟨#[]⟩, .int .u8 0, .int .u8 8, .int .u8 0, .int .u8 0, .int .u8 0, .int .u8 0, .int .u8 255, .int .u8 0, .int .u8 0, .int .u8 255, .bool false, .int .i64 0, .int .u8 0, .string ⟨#[]⟩, .int .u8 0, .int .u8 8, .int .u8 0, .int .u8 0, .int .u8 0, .int .u8 0, .int .u8 0, .int .u8 0, .int .u8 0, .int .u8 0, .bool true, .int .i64 0, .int .u8 0, .string ⟨#[]⟩, .int .u8 0, .int .u8 14, .int .u8 255, .int .u8 0, .int .u8 0, .int .u8 255, .int .u8 0, .int .u8 0, .int .u8 0, .int .u8 0, .bool false, .int .i64 0] 35
          rw [World.size_alloc] at kw
          generalize hW3 : ((W2.alloc (.cells #[.int .u8 15, .int .u8 255, .int .u8 0, .int .u8 0, .int .u8 255, .int .u8 255, .int .u8 0, .int .u8 0, .int .u8 255, .bool false, .int .i64 5] 33)).alloc (.cells #[.int .u8 0, .string ⟨#[97, 32, 98]⟩, .int .u8 0, .int .u8 0, .int .u8 0, .int .u8 0, .int .u8 0, .int .u8 0, .int .u8 0, .int .u8 0, .int .u8 0, .int .u8 0, .bool false, .int .i64 0, .int .u8 0, .string ⟨#[32]⟩, .int .u8 0, .int .u8 0, .int .u8 0, .int .u8 0, .int .u8 0, .int .u8 0, .int .u8 0, .int .u8 0, .int .u8 0, .int .u8 0, .bool false, .int .i64 0, .int .u8 0, .string ⟨#[]⟩, .int .u8 0, .int .u8 1, .int .u8 0, .int .u8 0, .int .u8 0, .int .u8 0, .int .u8 0, .int .u8 0, .int .u8 0, .int .u8 0, .bool false, .int .i64 1, .int .u8 0, .string ⟨#[]⟩, .int .u8 0, .int .u8 8, .int .u8 0, .int .u8 0, .int .u8 0, .int .u8 0, .int .u8 255, .int .u8 0, .int .u8 0, .int .u8 255, .bool false, .int .i64 0, .int .u8 0, .string ⟨#[]⟩, .int .u8 0, .int .u8 8, .int .u8 0, .int .u8 0, .int .u8 0, .int .u8 0, .int .u8 0, .int .u8 0, .int .u8 0, .int .u8 0, .bool true, .int .i64 0, .int .u8 0, .string ⟨#[]⟩, .int .u8 0, .int .u8 14, .int .u8 255, .int .u8 0, .int .u8 0, .int .u8 255, .int .u8 0, .int .u8 0, .int .u8 0, .int .u8 0, .bool false, .int .i64 0] 35)) = W3 at *
          generalize hbw : W2.heap.size + 1 = bw at *
          have H14 : Hid (Below w.heap.size w W3 ∧ Blk W3 bv (cellsA usL) 35 ∧ Blk W3 (n0) (cellsA (rAt s64)) 35 ∧ Blk W3 (n0 + 1) (cellsA (rAt s65)) 35 ∧ Blk W3 (n0 + 1 + 1) (cellsA (rPad 16384)) 35 ∧ Blk W3 (n0 + 1 + 1 + 1) (cellsA (rPad 16385)) 35 ∧ Blk W3 (n0 + 1 + 1 + 1 + 1) (cellsA (rAt ⟨#[255]⟩)) 35 ∧ Blk W3 bw (cellsA rWr) 35) := ⟨(H13.out.1.trans (b3.mono H13.out.1.size)), (H13.out.2.1.below b3), (H13.out.2.2.1.below b3), (H13.out.2.2.2.1.below b3), (H13.out.2.2.2.2.1.below b3), (H13.out.2.2.2.2.2.1.below b3), (H13.out.2.2.2.2.2.2.1.below b3), kw⟩
          clear hW3 hbw b3 kw H13
          go_loopw [24] (fun vi wr => ∃ k : Nat, k ≤ 6 ∧ vi = .int .i64 k ∧ Hid (Below w.heap.size w wr ∧ Blk wr bv (cellsA usL) 35 ∧ Blk wr (n0) (cellsA (rAt s64)) 35 ∧ Blk wr (n0 + 1) (cellsA (rAt s65)) 35 ∧ Blk wr (n0 + 1 + 1) (cellsA (rPad 16384)) 35 ∧ Blk wr (n0 + 1 + 1 + 1) (cellsA (rPad 16385)) 35 ∧ Blk wr (n0 + 1 + 1 + 1 + 1) (cellsA (rAt ⟨#[255]⟩)) 35 ∧ Blk wr bw (cellsA rWr) 35)) (fun vi _ => 6 - (intOf vi).toNat)
          case atStart => exact ⟨0, Nat.zero_le _, rfl, H14.out⟩
          case round =>
            obtain ⟨k, hk, rfl, HR⟩ := hrel
            clear H14
            have CK : Hid (∀ (i c : Nat) (hi : i < 6), 1 ≤ c → Calls Tryd.prog 15 #[.slice (some ⟨bw, i * 14, none⟩) 1 c] wr fun e w' => e = .returned (.int .i64 50) ∧ Below wr.heap.size wr w') := fun i c hi hc => by
              have h := check_rules [rWr[i]'hi] (.slice (some ⟨bw, i * 14, none⟩) 1 c) wr (HT.out _ HR.out.1) (wr_one HR.out.2.2.2.2.2.2.2 i hi c hc) (fun r hr => by simp at hr; subst hr; exact wr_wf _ (List.getElem_mem _))
              rw [wr_chk i hi] at h
              exact h
            obtain rfl | rfl | rfl | rfl | rfl | rfl | rfl : k = 0 ∨ k = 1 ∨ k = 2 ∨ k = 3 ∨ k = 4 ∨ k = 5 ∨ k = 6 := by omega
            · have C := CK.out 0 6 (by omega) (by omega)
              have C' : Hid (Calls Tryd.prog 15 #[.slice (some ⟨bw, 0, none⟩) 1 6] wr fun e w' => e = .returned (.int .i64 50) ∧ Below wr.heap.size wr w') := C
              clear C CK
              go_wp2_with fail
              refine C'.out.mono ?_
              rintro e w9 ⟨rfl, h9⟩
              have H9 : Hid (Below w.heap.size w w9 ∧ Blk w9 bv (cellsA usL) 35 ∧ Blk w9 (n0) (cellsA (rAt s64)) 35 ∧ Blk w9 (n0 + 1) (cellsA (rAt s65)) 35 ∧ Blk w9 (n0 + 1 + 1) (cellsA (rPad 16384)) 35 ∧ Blk w9 (n0 + 1 + 1 + 1) (cellsA (rPad 16385)) 35 ∧ Blk w9 (n0 + 1 + 1 + 1 + 1) (cellsA (rAt ⟨#[255]⟩)) 35 ∧ Blk w9 bw (cellsA rWr) 35) := ⟨(HR.out.1.trans (h9.mono HR.out.1.size)), (HR.out.2.1.below h9), (HR.out.2.2.1.below h9), (HR.out.2.2.2.1.below h9), (HR.out.2.2.2.2.1.below h9), (HR.out.2.2.2.2.2.1.below h9), (HR.out.2.2.2.2.2.2.1.below h9), (HR.out.2.2.2.2.2.2.2.below h9)⟩
              clear h9 HR C'
              go_wp2_with fail
              go_roundw
              case rel => exact ⟨1, by omega, by go_num, H9.out⟩
              case measure => simp [intOf]
            · have C := CK.out 1 5 (by omega) (by omega)
              have C' : Hid (Calls Tryd.prog 15 #[.slice (some ⟨bw, 14, none⟩) 1 5] wr fun e w' => e = .returned (.int .i64 50) ∧ Below wr.heap.size wr w') := C
              clear C CK
              go_wp2_with fail
              refine C'.out.mono ?_
              rintro e w9 ⟨rfl, h9⟩
              have H9 : Hid (Below w.heap.size w w9 ∧ Blk w9 bv (cellsA usL) 35 ∧ Blk w9 (n0) (cellsA (rAt s64)) 35 ∧ Blk w9 (n0 + 1) (cellsA (rAt s65)) 35 ∧ Blk w9 (n0 + 1 + 1) (cellsA (rPad 16384)) 35 ∧ Blk w9 (n0 + 1 + 1 + 1) (cellsA (rPad 16385)) 35 ∧ Blk w9 (n0 + 1 + 1 + 1 + 1) (cellsA (rAt ⟨#[255]⟩)) 35 ∧ Blk w9 bw (cellsA rWr) 35) := ⟨(HR.out.1.trans (h9.mono HR.out.1.size)), (HR.out.2.1.below h9), (HR.out.2.2.1.below h9), (HR.out.2.2.2.1.below h9), (HR.out.2.2.2.2.1.below h9), (HR.out.2.2.2.2.2.1.below h9), (HR.out.2.2.2.2.2.2.1.below h9), (HR.out.2.2.2.2.2.2.2.below h9)⟩
              clear h9 HR C'
              go_wp2_with fail
              go_roundw
              case rel => exact ⟨2, by omega, by go_num, H9.out⟩
              case measure => simp [intOf]
            · have C := CK.out 2 4 (by omega) (by omega)
              have C' : Hid (Calls Tryd.prog 15 #[.slice (some ⟨bw, 28, none⟩) 1 4] wr fun e w' => e = .returned (.int .i64 50) ∧ Below wr.heap.size wr w') := C
              clear C CK
              go_wp2_with fail
              refine C'.out.mono ?_
              rintro e w9 ⟨rfl, h9⟩
              have H9 : Hid (Below w.heap.size w w9 ∧ Blk w9 bv (cellsA usL) 35 ∧ Blk w9 (n0) (cellsA (rAt s64)) 35 ∧ Blk w9 (n0 + 1) (cellsA (rAt s65)) 35 ∧ Blk w9 (n0 + 1 + 1) (cellsA (rPad 16384)) 35 ∧ Blk w9 (n0 + 1 + 1 + 1) (cellsA (rPad 16385)) 35 ∧ Blk w9 (n0 + 1 + 1 + 1 + 1) (cellsA (rAt ⟨#[255]⟩)) 35 ∧ Blk w9 bw (cellsA rWr) 35) := ⟨(HR.out.1.trans (h9.mono HR.out.1.size)), (HR.out.2.1.below h9), (HR.out.2.2.1.below h9), (HR.out.2.2.2.1.below h9), (HR.out.2.2.2.2.1.below h9), (HR.out.2.2.2.2.2.1.below h9), (HR.out.2.2.2.2.2.2.1.below h9), (HR.out.2.2.2.2.2.2.2.below h9)⟩
              clear h9 HR C'
              go_wp2_with fail
              go_roundw
              case rel => exact ⟨3, by omega, by go_num, H9.out⟩
              case measure => simp [intOf]
            · have C := CK.out 3 3 (by omega) (by omega)
              have C' : Hid (Calls Tryd.prog 15 #[.slice (some ⟨bw, 42, none⟩) 1 3] wr fun e w' => e = .returned (.int .i64 50) ∧ Below wr.heap.size wr w') := C
              clear C CK
              go_wp2_with fail
              refine C'.out.mono ?_
              rintro e w9 ⟨rfl, h9⟩
              have H9 : Hid (Below w.heap.size w w9 ∧ Blk w9 bv (cellsA usL) 35 ∧ Blk w9 (n0) (cellsA (rAt s64)) 35 ∧ Blk w9 (n0 + 1) (cellsA (rAt s65)) 35 ∧ Blk w9 (n0 + 1 + 1) (cellsA (rPad 16384)) 35 ∧ Blk w9 (n0 + 1 + 1 + 1) (cellsA (rPad 16385)) 35 ∧ Blk w9 (n0 + 1 + 1 + 1 + 1) (cellsA (rAt ⟨#[255]⟩)) 35 ∧ Blk w9 bw (cellsA rWr) 35) := ⟨(HR.out.1.trans (h9.mono HR.out.1.size)), (HR.out.2.1.below h9), (HR.out.2.2.1.below h9), (HR.out.2.2.2.1.below h9), (HR.out.2.2.2.2.1.below h9), (HR.out.2.2.2.2.2.1.below h9), (HR.out.2.2.2.2.2.2.1.below h9), (HR.out.2.2.2.2.2.2.2.below h9)⟩
              clear h9 HR C'
              go_wp2_with fail
              go_roundw
              case rel => exact ⟨4, by omega, by go_num, H9.out⟩
              case measure => simp [intOf]
            · have C := CK.out 4 2 (by omega) (by omega)
              have C' : Hid (Calls Tryd.prog 15 #[.slice (some ⟨bw, 56, none⟩) 1 2] wr fun e w' => e = .returned (.int .i64 50) ∧ Below wr.heap.size wr w') := C
              clear C CK
              go_wp2_with fail
              refine C'.out.mono ?_
              rintro e w9 ⟨rfl, h9⟩
              have H9 : Hid (Below w.heap.size w w9 ∧ Blk w9 bv (cellsA usL) 35 ∧ Blk w9 (n0) (cellsA (rAt s64)) 35 ∧ Blk w9 (n0 + 1) (cellsA (rAt s65)) 35 ∧ Blk w9 (n0 + 1 + 1) (cellsA (rPad 16384)) 35 ∧ Blk w9 (n0 + 1 + 1 + 1) (cellsA (rPad 16385)) 35 ∧ Blk w9 (n0 + 1 + 1 + 1 + 1) (cellsA (rAt ⟨#[255]⟩)) 35 ∧ Blk w9 bw (cellsA rWr) 35) := ⟨(HR.out.1.trans (h9.mono HR.out.1.size)), (HR.out.2.1.below h9), (HR.out.2.2.1.below h9), (HR.out.2.2.2.1.below h9), (HR.out.2.2.2.2.1.below h9), (HR.out.2.2.2.2.2.1.below h9), (HR.out.2.2.2.2.2.2.1.below h9), (HR.out.2.2.2.2.2.2.2.below h9)⟩
              clear h9 HR C'
              go_wp2_with fail
              go_roundw
              case rel => exact ⟨5, by omega, by go_num, H9.out⟩
              case measure => simp [intOf]
            · have C := CK.out 5 1 (by omega) (by omega)
              have C' : Hid (Calls Tryd.prog 15 #[.slice (some ⟨bw, 70, none⟩) 1 1] wr fun e w' => e = .returned (.int .i64 50) ∧ Below wr.heap.size wr w') := C
              clear C CK
              go_wp2_with fail
              refine C'.out.mono ?_
              rintro e w9 ⟨rfl, h9⟩
              have H9 : Hid (Below w.heap.size w w9 ∧ Blk w9 bv (cellsA usL) 35 ∧ Blk w9 (n0) (cellsA (rAt s64)) 35 ∧ Blk w9 (n0 + 1) (cellsA (rAt s65)) 35 ∧ Blk w9 (n0 + 1 + 1) (cellsA (rPad 16384)) 35 ∧ Blk w9 (n0 + 1 + 1 + 1) (cellsA (rPad 16385)) 35 ∧ Blk w9 (n0 + 1 + 1 + 1 + 1) (cellsA (rAt ⟨#[255]⟩)) 35 ∧ Blk w9 bw (cellsA rWr) 35) := ⟨(HR.out.1.trans (h9.mono HR.out.1.size)), (HR.out.2.1.below h9), (HR.out.2.2.1.below h9), (HR.out.2.2.2.1.below h9), (HR.out.2.2.2.2.1.below h9), (HR.out.2.2.2.2.2.1.below h9), (HR.out.2.2.2.2.2.2.1.below h9), (HR.out.2.2.2.2.2.2.2.below h9)⟩
              clear h9 HR C'
              go_wp2_with fail
              go_roundw
              case rel => exact ⟨6, by omega, by go_num, H9.out⟩
              case measure => simp [intOf]
            · clear CK
              go_wp2_with fail
              have D0 : Hid (Calls Tryd.prog 15 #[.slice (some ⟨n0, 0, none⟩) 1 1] wr fun e w' => e = .returned (.int .i64 0) ∧ Below wr.heap.size wr w') := by
                have h := check_rules (rAt s64) _ wr (HT.out _ HR.out.1) (rules_blk (c := 1) HR.out.2.2.1 (show (1 : Nat) ≤ 1 by decide)) (rAt_wf _ (by rw [Hs64.out]; decide))
                rw [show chkR (rAt s64) = 0 from by rw [Hs64.out]; decide +kernel] at h
                exact h
              refine D0.out.mono ?_
              rintro e v0 ⟨rfl, hq⟩
              have G0 : Hid (Below w.heap.size w v0 ∧ Blk v0 bv (cellsA usL) 35 ∧ Blk v0 (n0) (cellsA (rAt s64)) 35 ∧ Blk v0 (n0 + 1) (cellsA (rAt s65)) 35 ∧ Blk v0 (n0 + 1 + 1) (cellsA (rPad 16384)) 35 ∧ Blk v0 (n0 + 1 + 1 + 1) (cellsA (rPad 16385)) 35 ∧ Blk v0 (n0 + 1 + 1 + 1 + 1) (cellsA (rAt ⟨#[255]⟩)) 35 ∧ Blk v0 bw (cellsA rWr) 35) := ⟨(HR.out.1.trans (hq.mono HR.out.1.size)), (HR.out.2.1.below hq), (HR.out.2.2.1.below hq), (HR.out.2.2.2.1.below hq), (HR.out.2.2.2.2.1.below hq), (HR.out.2.2.2.2.2.1.below hq), (HR.out.2.2.2.2.2.2.1.below hq), (HR.out.2.2.2.2.2.2.2.below hq)⟩
              clear hq HR D0
              go_wp2_with fail
              have D1 : Hid (Calls Tryd.prog 15 #[.slice (some ⟨n0 + 1, 0, none⟩) 1 1] v0 fun e w' => e = .returned (.int .i64 50) ∧ Below v0.heap.size v0 w') := by
                have h := check_rules (rAt s65) _ v0 (HT.out _ G0.out.1) (rules_blk (c := 1) G0.out.2.2.2.1 (show (1 : Nat) ≤ 1 by decide)) (rAt_wf _ (by rw [Hs65.out]; decide))
                rw [show chkR (rAt s65) = 50 from by rw [Hs65.out]; decide +kernel] at h
                exact h
              refine D1.out.mono ?_
              rintro e v1 ⟨rfl, hq⟩
              have G1 : Hid (Below w.heap.size w v1 ∧ Blk v1 bv (cellsA usL) 35 ∧ Blk v1 (n0) (cellsA (rAt s64)) 35 ∧ Blk v1 (n0 + 1) (cellsA (rAt s65)) 35 ∧ Blk v1 (n0 + 1 + 1) (cellsA (rPad 16384)) 35 ∧ Blk v1 (n0 + 1 + 1 + 1) (cellsA (rPad 16385)) 35 ∧ Blk v1 (n0 + 1 + 1 + 1 + 1) (cellsA (rAt ⟨#[255]⟩)) 35 ∧ Blk v1 bw (cellsA rWr) 35) := ⟨(G0.out.1.trans (hq.mono G0.out.1.size)), (G0.out.2.1.below hq), (G0.out.2.2.1.below hq), (G0.out.2.2.2.1.below hq), (G0.out.2.2.2.2.1.below hq), (G0.out.2.2.2.2.2.1.below hq), (G0.out.2.2.2.2.2.2.1.below hq), (G0.out.2.2.2.2.2.2.2.below hq)⟩
              clear hq G0 D1
              go_wp2_with fail
              have D2 : Hid (Calls Tryd.prog 15 #[.slice (some ⟨n0 + 1 + 1, 0, none⟩) 1 1] v1 fun e w' => e = .returned (.int .i64 0) ∧ Below v1.heap.size v1 w') := by
                have h := check_rules (rPad 16384) _ v1 (HT.out _ G1.out.1) (rules_blk (c := 1) G1.out.2.2.2.2.1 (show (1 : Nat) ≤ 1 by decide)) (rPad_wf _)
                rw [show chkR (rPad 16384) = 0 from by decide +kernel] at h
                exact h
              refine D2.out.mono ?_
              rintro e v2 ⟨rfl, hq⟩
              have G2 : Hid (Below w.heap.size w v2 ∧ Blk v2 bv (cellsA usL) 35 ∧ Blk v2 (n0) (cellsA (rAt s64)) 35 ∧ Blk v2 (n0 + 1) (cellsA (rAt s65)) 35 ∧ Blk v2 (n0 + 1 + 1) (cellsA (rPad 16384)) 35 ∧ Blk v2 (n0 + 1 + 1 + 1) (cellsA (rPad 16385)) 35 ∧ Blk v2 (n0 + 1 + 1 + 1 + 1) (cellsA (rAt ⟨#[255]⟩)) 35 ∧ Blk v2 bw (cellsA rWr) 35) := ⟨(G1.out.1.trans (hq.mono G1.out.1.size)), (G1.out.2.1.below hq), (G1.out.2.2.1.below hq), (G1.out.2.2.2.1.below hq), (G1.out.2.2.2.2.1.below hq), (G1.out.2.2.2.2.2.1.below hq), (G1.out.2.2.2.2.2.2.1.below hq), (G1.out.2.2.2.2.2.2.2.below hq)⟩
              clear hq G1 D2
              go_wp2_with fail
              have D3 : Hid (Calls Tryd.prog 15 #[.slice (some ⟨n0 + 1 + 1 + 1, 0, none⟩) 1 1] v2 fun e w' => e = .returned (.int .i64 50) ∧ Below v2.heap.size v2 w') := by
                have h := check_rules (rPad 16385) _ v2 (HT.out _ G2.out.1) (rules_blk (c := 1) G2.out.2.2.2.2.2.1 (show (1 : Nat) ≤ 1 by decide)) (rPad_wf _)
                rw [show chkR (rPad 16385) = 50 from by decide +kernel] at h
                exact h
              refine D3.out.mono ?_
              rintro e v3 ⟨rfl, hq⟩
              have G3 : Hid (Below w.heap.size w v3 ∧ Blk v3 bv (cellsA usL) 35 ∧ Blk v3 (n0) (cellsA (rAt s64)) 35 ∧ Blk v3 (n0 + 1) (cellsA (rAt s65)) 35 ∧ Blk v3 (n0 + 1 + 1) (cellsA (rPad 16384)) 35 ∧ Blk v3 (n0 + 1 + 1 + 1) (cellsA (rPad 16385)) 35 ∧ Blk v3 (n0 + 1 + 1 + 1 + 1) (cellsA (rAt ⟨#[255]⟩)) 35 ∧ Blk v3 bw (cellsA rWr) 35) := ⟨(G2.out.1.trans (hq.mono G2.out.1.size)), (G2.out.2.1.below hq), (G2.out.2.2.1.below hq), (G2.out.2.2.2.1.below hq), (G2.out.2.2.2.2.1.below hq), (G2.out.2.2.2.2.2.1.below hq), (G2.out.2.2.2.2.2.2.1.below hq), (G2.out.2.2.2.2.2.2.2.below hq)⟩
              clear hq G2 D3
              go_wp2_with fail
              have D4 : Hid (Calls Tryd.prog 15 #[.slice (some ⟨n0 + 1 + 1 + 1 + 1, 0, none⟩) 1 1] v3 fun e w' => e = .returned (.int .i64 50) ∧ Below v3.heap.size v3 w') := by
                have h := check_rules (rAt ⟨#[255]⟩) _ v3 (HT.out _ G3.out.1) (rules_blk (c := 1) G3.out.2.2.2.2.2.2.1 (show (1 : Nat) ≤ 1 by decide)) (rAt_wf _ (by decide))
                rw [show chkR (rAt ⟨#[255]⟩) = 50 from by decide +kernel] at h
                exact h
              refine D4.out.mono ?_
              rintro e v4 ⟨rfl, hq⟩
              have G4 : Hid (Below w.heap.size w v4 ∧ Blk v4 bv (cellsA usL) 35 ∧ Blk v4 (n0) (cellsA (rAt s64)) 35 ∧ Blk v4 (n0 + 1) (cellsA (rAt s65)) 35 ∧ Blk v4 (n0 + 1 + 1) (cellsA (rPad 16384)) 35 ∧ Blk v4 (n0 + 1 + 1 + 1) (cellsA (rPad 16385)) 35 ∧ Blk v4 (n0 + 1 + 1 + 1 + 1) (cellsA (rAt ⟨#[255]⟩)) 35 ∧ Blk v4 bw (cellsA rWr) 35) := ⟨(G3.out.1.trans (hq.mono G3.out.1.size)), (G3.out.2.1.below hq), (G3.out.2.2.1.below hq), (G3.out.2.2.2.1.below hq), (G3.out.2.2.2.2.1.below hq), (G3.out.2.2.2.2.2.1.below hq), (G3.out.2.2.2.2.2.2.1.below hq), (G3.out.2.2.2.2.2.2.2.below hq)⟩
              clear hq G3 D4
              go_wp2_with fail
              have D5 : Hid (Calls Tryd.prog 15 #[.slice (some ⟨bv, 0, none⟩) 6 6] v4 fun e w' => e = .returned (.int .i64 0) ∧ Below v4.heap.size v4 w') := by
                have h := check_rules (usL) _ v4 (HT.out _ G4.out.1) (rules_blk (c := 6) G4.out.2.1 (by decide)) us_wf
                rw [show chkR (usL) = 0 from us_chk] at h
                exact h
              refine D5.out.mono ?_
              rintro e v5 ⟨rfl, hq⟩
              have G5 : Hid (Below w.heap.size w v5 ∧ Blk v5 bv (cellsA usL) 35 ∧ Blk v5 (n0) (cellsA (rAt s64)) 35 ∧ Blk v5 (n0 + 1) (cellsA (rAt s65)) 35 ∧ Blk v5 (n0 + 1 + 1) (cellsA (rPad 16384)) 35 ∧ Blk v5 (n0 + 1 + 1 + 1) (cellsA (rPad 16385)) 35 ∧ Blk v5 (n0 + 1 + 1 + 1 + 1) (cellsA (rAt ⟨#[255]⟩)) 35 ∧ Blk v5 bw (cellsA rWr) 35) := ⟨(G4.out.1.trans (hq.mono G4.out.1.size)), (G4.out.2.1.below hq), (G4.out.2.2.1.below hq), (G4.out.2.2.2.1.below hq), (G4.out.2.2.2.2.1.below hq), (G4.out.2.2.2.2.2.1.below hq), (G4.out.2.2.2.2.2.2.1.below hq), (G4.out.2.2.2.2.2.2.2.below hq)⟩
              clear hq G4 D5
              go_wp2
              go_ret
              exact ⟨rfl, G5.out.1⟩

end Go.Proofs.YtobmpjmpffnoiaaDoor
