/-
  The walk of the statement RunesCut: it answers true; of what was there nothing turns.
-/
import Derived.Test.YtlooemhaoikidaaDoorFQ4
import Derived.Test.YtlooemhaoikidaaDoorRU
import Derived.Test.YtlooemhaoikidaaDoorFU
import Derived.Test.YtlooemhaoikidaaDoorRAw
namespace Go.Proofs.YtlooemhaoikidaaDoor
open Go.RowKit Go.Shelf

set_option maxRecDepth 10000 in
set_option maxHeartbeats 8000000 in
theorem cuts_walk (s : ByteArray) (cells : Int) (mark : ByteArray) (w : World) (A : All w) (hs : s.size ≤ 1048576) (hm : mark.size ≤ 1048576) (hc : cells ≤ 9223372036854775807) :
    Calls Tryd.prog 4 #[.string s, .int .i64 cells, .string mark] w fun e w' => e = .returned (.bool true) ∧ Below w.heap.size w w' := by
  have N1 : Hid (∀ w, All w → Calls Tryd.prog 18 #[.string s, .int .i64 cells, .string mark] w fun e w' => e = .returned (.tuple #[.string (cutS s cells mark), .bool (cutB s cells)]) ∧ Below w.heap.size w w') := fun w A => cut_any s cells mark w A.1 (by unfold Short; omega) (by unfold Short; omega) hc
  have N2 : Hid (∀ w, Calls Tryd.prog 19 #[.string s, .int .i64 cells, .string mark] w fun e w' => e = .returned (.tuple #[.string (cutS s cells mark), .bool (cutB s cells)]) ∧ Below w.heap.size w w') := fun w => rcut_any s cells mark w hs hm hc
  have N3 : Hid (∀ w, All w → Calls Tryd.prog 20 #[.string s, .int .i64 cells] w fun e w' => ∃ v, e = .returned (.tuple #[v, .int .i64 (widL (paras s) (roomOf cells) 0)]) ∧ w'.ownsRow w.heap.size 9 1 v (outL (paras s) (roomOf cells)).length ((outL (paras s) (roomOf cells)).map Value.string) ∧ Below w.heap.size w w') := fun w A => lines_any s cells w A.1 A.2.2.1 hs
  have N4 : Hid (∀ w, Calls Tryd.prog 21 #[.string s, .int .i64 cells] w fun e w' => ∃ v, e = .returned (.tuple #[v, .int .i64 (widL (paras s) (roomOf cells) 0)]) ∧ w'.ownsRow w.heap.size 9 1 v (outL (paras s) (roomOf cells)).length ((outL (paras s) (roomOf cells)).map Value.string) ∧ Below w.heap.size w w') := fun w => rlines_any s cells w hs
  have hpos := outL_pos s (roomOf cells)
  have hlen := outB s cells hs
  generalize cutS s cells mark = c1 at *
  generalize cutB s cells = c2 at *
  generalize widL (paras s) (roomOf cells) 0 = m at *
  generalize outL (paras s) (roomOf cells) = R at *
  have H0 : Hid (All w ∧ Below w.heap.size w w) := ⟨A, Below.refl _ _⟩
  clear A
  go_enter Tryd.func4, Tryd.ntmps4
  go_wp2_with fail
  refine (awake_any _ H0.out.1).mono ?_
  rintro e w1 ⟨rfl, hb⟩
  have H1 : Hid (All w1 ∧ Below w.heap.size w w1) := chain_all H0.out hb
  clear hb
  go_wp2_with fail
  refine (N1.out _ H1.out.1).mono ?_
  rintro e w2 ⟨rfl, hb⟩
  have H2 : Hid (All w2 ∧ Below w.heap.size w w2) := chain_all H1.out hb
  clear hb
  go_wp2_with fail
  refine (N2.out _).mono ?_
  rintro e w3 ⟨rfl, hb⟩
  have H3 : Hid (All w3 ∧ Below w.heap.size w w3) := chain_all H2.out hb
  clear hb
  go_wp2_with fail
  refine (N3.out _ H3.out.1).mono ?_
  rintro e w4 ⟨v, rfl, hv, hb⟩
  obtain ⟨g, cap, cs, hve, hcap, hg, kg, hcs⟩ := row_blk hv hpos
  subst hve
  obtain ⟨g', cap', hve, _, _, hrd⟩ := row_rd hv hpos
  injection hve with hve1 hve2 hve3
  injection hve1 with hve1
  injection hve1 with hve1 _ _
  subst hve1 hve3
  have H4 : Hid ((All w4 ∧ Below w.heap.size w w4) ∧ Rd w4 g R ∧ Blk w4 g cs 9 ∧ w.heap.size ≤ g) := ⟨chain_all H3.out hb, hrd, kg, Nat.le_trans H3.out.2.size hg⟩
  clear hb hv kg hrd hg
  go_wp2_with fail
  refine (N4.out _).mono ?_
  rintro e w5 ⟨u, rfl, hu, hb⟩
  obtain ⟨g', cap', rfl, hcap', hg', hrd'⟩ := row_rd hu hpos
  have hgg : g ≠ g' := by have := H4.out.2.2.1.lt; omega
  have H5 : Hid ((All w5 ∧ Below w.heap.size w w5) ∧ Rd w5 g R ∧ Blk w5 g cs 9 ∧ w.heap.size ≤ g ∧ Rd w5 g' R) := ⟨chain_all H4.out.1 hb, H4.out.2.1.below hb, H4.out.2.2.1.below hb, H4.out.2.2.2, hrd'⟩
  clear hb hu H4 hrd' hg'
  go_wp2_with fail
  refine (texts_rd R g g' cap cap' _ H5.out.2.1 H5.out.2.2.2.2 (by omega)).mono ?_
  rintro e w6 ⟨rfl, hb⟩
  have H6 : Hid ((All w6 ∧ Below w.heap.size w w6) ∧ Blk w6 g cs 9 ∧ w.heap.size ≤ g ∧ Rd w6 g' R) := ⟨chain_all H5.out.1 hb, H5.out.2.2.1.below hb, H5.out.2.2.2.1, H5.out.2.2.2.2.below hb⟩
  clear hb H5
  go_wp2_with fail
  go_loopw [17] (fun i wr => ∃ (k : Nat) (cs : Array Value), i = .int .i64 k ∧ k ≤ R.length ∧ R.length ≤ cs.size ∧ Blk wr g cs 9 ∧ Rd wr g' R ∧ (All w ∧ Below w.heap.size w wr)) (fun i _ => R.length - (intOf i).toNat)
  case atStart => exact ⟨0, cs, rfl, Nat.zero_le _, hcs, H6.out.2.1, H6.out.2.2.2, H0.out.1, H6.out.1.2⟩
  case round =>
    obtain ⟨k, ds, rfl, hk, hds, kg, hrd, hA, hB⟩ := hrel
    by_cases hlt : k < R.length
    · have c1 : wr.cell? ⟨g, k, none⟩ = some (ds[k]'(by omega)) := by rw [kg.cell k]; simp
      have c2 := kg.frozen k
      have HN : Hid (∀ v : Value, Blk (wr.setCell ⟨g, k, none⟩ v) g (ds.setIfInBounds k v) 9 ∧ Rd (wr.setCell ⟨g, k, none⟩ v) g' R ∧ (All w ∧ Below w.heap.size w (wr.setCell ⟨g, k, none⟩ v))) := fun v => ⟨kg.put k v, hrd.other k v hgg, hA, hB.setCell (p := ⟨g, k, none⟩) (by simpa using H6.out.2.2.1) v⟩
      generalize ds[k]'(by omega) = d at c1
      clear kg hrd hA hB
      go_wp2
      go_roundw
      case rel => exact ⟨k + 1, _, by go_num, by omega, by simpa using hds, (HN.out _).1, (HN.out _).2.1, (HN.out _).2.2⟩
      case measure => simp [intOf]; omega
    · have H7 : Hid ((All wr ∧ Below w.heap.size w wr) ∧ Rd wr g' R) := ⟨⟨hA.below hB, hB⟩, hrd⟩
      clear kg hrd hA hB H6
      go_wp2_with fail
      refine (N3.out _ H7.out.1.1).mono ?_
      rintro e w8 ⟨v, rfl, hv, hb⟩
      obtain ⟨g2, cap2, rfl, hcap2, _, hrd2⟩ := row_rd hv hpos
      have H8 : Hid ((All w8 ∧ Below w.heap.size w w8) ∧ Rd w8 g' R ∧ Rd w8 g2 R) := ⟨chain_all H7.out.1 hb, H7.out.2.below hb, hrd2⟩
      clear hb hv hrd2 H7
      go_wp2_with fail
      refine (texts_rd R g2 g' cap2 cap' _ H8.out.2.2 H8.out.2.1 (by omega)).mono ?_
      rintro e w9 ⟨rfl, hb⟩
      have H9 : Hid (Below w.heap.size w w9) := H8.out.1.2.trans (hb.mono H8.out.1.2.size)
      clear hb H8
      go_wp2
      go_ret
      exact ⟨rfl, H9.out⟩

end Go.Proofs.YtlooemhaoikidaaDoor
