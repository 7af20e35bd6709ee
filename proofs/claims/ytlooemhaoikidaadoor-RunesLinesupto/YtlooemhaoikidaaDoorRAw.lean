/-
  The examples of the document that the statements ask first: awake answers true.
-/
import Derived.Test.YtlooemhaoikidaaDoorRA
import Derived.Test.YtlooemhaoikidaaDoorRL5
import Derived.Test.YtlooemhaoikidaaDoorRU
import Derived.Test.YtlooemhaoikidaaDoorRD
namespace Go.Proofs.YtlooemhaoikidaaDoor
open Go.RowKit Go.Shelf

/-- All tables that the package's calls read. -/
def All (w : World) : Prop := Tabs w ∧ TabsU w ∧ TabM w ∧ TabD w
theorem All.below {W w1 : World} (h : All W) (hb : Below W.heap.size W w1) : All w1 := ⟨h.1.below hb, h.2.1.below hb, h.2.2.1.below hb, h.2.2.2.below hb⟩

theorem ex_cells : sumC (pcs ⟨#[97, 228, 184, 128]⟩) = 3 ∧ (pcs ⟨#[97, 228, 184, 128]⟩).length = 2 := by decide +kernel
theorem ex_cut : cutS ⟨#[119, 105, 110, 100, 111, 119]⟩ 5 ⟨#[46, 46]⟩ = ⟨#[119, 105, 110, 46, 46]⟩ ∧ cutB ⟨#[119, 105, 110, 100, 111, 119]⟩ 5 = true := by decide +kernel
theorem ex_lines : outL (paras ⟨#[111, 110, 101, 32, 116, 119, 111, 32, 116, 104, 114, 101, 101]⟩) (roomOf 7) = [⟨#[111, 110, 101, 32, 116, 119, 111]⟩, ⟨#[32, 116, 104, 114, 101, 101]⟩] ∧ widL (paras ⟨#[111, 110, 101, 32, 116, 119, 111, 32, 116, 104, 114, 101, 101]⟩) (roomOf 7) 0 = 7 := by decide +kernel
theorem ex_next : nextN ⟨#[101, 204, 129]⟩ 0 = 3 ∧ nextB ⟨#[101, 204, 129]⟩ 0 = true := by decide +kernel
theorem ex_word : wordA ⟨#[97, 46, 46, 98]⟩ 1 = (3, true) := by decide +kernel
theorem ex_width : width 97 = 1 ∧ width 19968 = 2 ∧ width 769 = 0 ∧ width (-1) = 1 := by decide +kernel
theorem ex_at : atA ⟨#[97, 98, 255]⟩ = 2 := by decide +kernel
theorem ex_clean : cleanA ⟨#[97, 1, 98, 255]⟩ = ⟨#[97, 98, 239, 191, 189]⟩ := by decide +kernel

theorem chain_all {w A B : World} (h : All A ∧ Below w.heap.size w A) (hb : Below A.heap.size A B) : All B ∧ Below w.heap.size w B := ⟨h.1.below hb, h.2.trans (hb.mono h.2.size)⟩

set_option maxRecDepth 10000 in
set_option maxHeartbeats 2000000 in
theorem awake_any (w : World) (A : All w) :
    Calls Tryd.prog 9 #[] w fun e w' => e = .returned (.bool true) ∧ Below w.heap.size w w' := by
  have H0 : Hid (All w ∧ Below w.heap.size w w) := ⟨A, Below.refl _ _⟩
  clear A
  go_enter Tryd.func9, Tryd.ntmps9
  go_wp2_with fail
  refine (cells_any _ _ H0.out.1.1 (by decide)).mono ?_
  rintro e w1 ⟨rfl, hb⟩
  have H1 : Hid (All w1 ∧ Below w.heap.size w w1) := chain_all H0.out hb
  clear hb
  rw [ex_cells.1, ex_cells.2]
  go_wp2_with fail
  refine (cut_any _ _ _ _ H1.out.1.1 (by decide) (by decide) (by decide)).mono ?_
  rintro e w2 ⟨rfl, hb⟩
  have H2 : Hid (All w2 ∧ Below w.heap.size w w2) := chain_all H1.out hb
  clear hb
  rw [ex_cut.1, ex_cut.2]
  go_wp2_with fail
  refine (lines_any _ _ _ H2.out.1.1 H2.out.1.2.2.1 (by decide)).mono ?_
  rintro e w3 ⟨v, rfl, hrow, hb⟩
  have H3 : Hid (All w3 ∧ Below w.heap.size w w3) := chain_all H2.out hb
  clear hb
  rw [ex_lines.1] at hrow
  rw [ex_lines.2]
  obtain ⟨g, cap, hv, hcap, hg0, hg1⟩ : ∃ g cap, v = .slice (some ⟨g, 0, none⟩) 2 cap ∧ 2 ≤ cap ∧ w3.cell? ⟨g, 0, none⟩ = some (.string ⟨#[111, 110, 101, 32, 116, 119, 111]⟩) ∧ w3.cell? ⟨g, 1, none⟩ = some (.string ⟨#[32, 116, 104, 114, 101, 101]⟩) := by
    obtain ⟨_, h | ⟨g, cap, cur, h1, _, h2, h3, _, _, h4⟩⟩ := hrow
    · exact absurd h.2 (by decide)
    · refine ⟨g, cap, h1, h3, ?_, ?_⟩
      · have hc : Blk w3 g cur 9 := h2
        have e : cur.toList[0]? = some (.string ⟨#[111, 110, 101, 32, 116, 119, 111]⟩) := by
          have := congrArg (fun l => l[0]?) h4
          simpa [List.getElem?_take] using this
        rw [hc.cell 0, ← Array.getElem?_toList]; exact e
      · have hc : Blk w3 g cur 9 := h2
        have e : cur.toList[1]? = some (.string ⟨#[32, 116, 104, 114, 101, 101]⟩) := by
          have := congrArg (fun l => l[1]?) h4
          simpa [List.getElem?_take] using this
        rw [hc.cell 1, ← Array.getElem?_toList]; exact e
  subst hv
  have HG3 : Hid (w3.cell? ⟨g, 0, none⟩ = some (.string ⟨#[111, 110, 101, 32, 116, 119, 111]⟩) ∧ w3.cell? ⟨g, 1, none⟩ = some (.string ⟨#[32, 116, 104, 114, 101, 101]⟩)) := ⟨hg0, hg1⟩
  clear hrow hg0 hg1
  go_wp2_with fail
  refine (next_any _ _ _ H3.out.1.1).mono ?_
  rintro e w4 ⟨rfl, hb⟩
  have H4 : Hid (All w4 ∧ Below w.heap.size w w4) := chain_all H3.out hb
  have HG4 : Hid (w4.cell? ⟨g, 0, none⟩ = some (.string ⟨#[111, 110, 101, 32, 116, 119, 111]⟩) ∧ w4.cell? ⟨g, 1, none⟩ = some (.string ⟨#[32, 116, 104, 114, 101, 101]⟩)) := ⟨cellB (Nat.le_refl _) hb HG3.out.1, cellB (Nat.le_refl _) hb HG3.out.2⟩
  clear hb
  rw [ex_next.1, ex_next.2]
  go_wp2_with fail
  refine (word_any _ _ _ H4.out.1.1 H4.out.1.2.1).mono ?_
  rintro e w5 ⟨rfl, hb⟩
  have H5 : Hid (All w5 ∧ Below w.heap.size w w5) := chain_all H4.out hb
  have HG5 : Hid (w5.cell? ⟨g, 0, none⟩ = some (.string ⟨#[111, 110, 101, 32, 116, 119, 111]⟩) ∧ w5.cell? ⟨g, 1, none⟩ = some (.string ⟨#[32, 116, 104, 114, 101, 101]⟩)) := ⟨cellB (Nat.le_refl _) hb HG4.out.1, cellB (Nat.le_refl _) hb HG4.out.2⟩
  clear hb
  rw [ex_word]
  go_wp2_with fail
  refine (width_any _ _ H5.out.1.1).mono ?_
  rintro e w6 ⟨rfl, hb⟩
  have H6 : Hid (All w6 ∧ Below w.heap.size w w6) := chain_all H5.out hb
  have HG6 : Hid (w6.cell? ⟨g, 0, none⟩ = some (.string ⟨#[111, 110, 101, 32, 116, 119, 111]⟩) ∧ w6.cell? ⟨g, 1, none⟩ = some (.string ⟨#[32, 116, 104, 114, 101, 101]⟩)) := ⟨cellB (Nat.le_refl _) hb HG5.out.1, cellB (Nat.le_refl _) hb HG5.out.2⟩
  clear hb
  rw [ex_width.1]
  go_wp2_with fail
  refine (width_any _ _ H6.out.1.1).mono ?_
  rintro e w7 ⟨rfl, hb⟩
  have H7 : Hid (All w7 ∧ Below w.heap.size w w7) := chain_all H6.out hb
  have HG7 : Hid (w7.cell? ⟨g, 0, none⟩ = some (.string ⟨#[111, 110, 101, 32, 116, 119, 111]⟩) ∧ w7.cell? ⟨g, 1, none⟩ = some (.string ⟨#[32, 116, 104, 114, 101, 101]⟩)) := ⟨cellB (Nat.le_refl _) hb HG6.out.1, cellB (Nat.le_refl _) hb HG6.out.2⟩
  clear hb
  rw [ex_width.2.1]
  go_wp2_with fail
  refine (width_any _ _ H7.out.1.1).mono ?_
  rintro e w8 ⟨rfl, hb⟩
  have H8 : Hid (All w8 ∧ Below w.heap.size w w8) := chain_all H7.out hb
  have HG8 : Hid (w8.cell? ⟨g, 0, none⟩ = some (.string ⟨#[111, 110, 101, 32, 116, 119, 111]⟩) ∧ w8.cell? ⟨g, 1, none⟩ = some (.string ⟨#[32, 116, 104, 114, 101, 101]⟩)) := ⟨cellB (Nat.le_refl _) hb HG7.out.1, cellB (Nat.le_refl _) hb HG7.out.2⟩
  clear hb
  rw [ex_width.2.2.1]
  go_wp2_with fail
  refine (width_any _ _ H8.out.1.1).mono ?_
  rintro e w9 ⟨rfl, hb⟩
  have H9 : Hid (All w9 ∧ Below w.heap.size w w9) := chain_all H8.out hb
  have HG9 : w9.cell? ⟨g, 0, none⟩ = some (.string ⟨#[111, 110, 101, 32, 116, 119, 111]⟩) ∧ w9.cell? ⟨g, 1, none⟩ = some (.string ⟨#[32, 116, 104, 114, 101, 101]⟩) := ⟨cellB (Nat.le_refl _) hb HG8.out.1, cellB (Nat.le_refl _) hb HG8.out.2⟩
  clear hb
  rw [ex_width.2.2.2]
  obtain ⟨g0, g1⟩ := HG9
  go_wp2_with fail
  refine (at_any _ _ H9.out.1.2.2.2).mono ?_
  rintro e w10 ⟨rfl, hb⟩
  have H10 : Hid (All w10 ∧ Below w.heap.size w w10) := chain_all H9.out hb
  clear hb g0 g1
  rw [ex_at]
  go_wp2_with fail
  refine (clean_any _ _ (by decide)).mono ?_
  rintro e w11 ⟨rfl, hb⟩
  have H11 : Hid (All w11 ∧ Below w.heap.size w w11) := chain_all H10.out hb
  clear hb
  rw [ex_clean]
  go_wp2
  go_ret
  exact ⟨rfl, H11.out.2⟩

end Go.Proofs.YtlooemhaoikidaaDoor
