/-
  The tables that the rows list: what lies in memory.
-/
import Derived.Test.YtbnbfgkcndomaabGreatDoorRows
import Derived.Test.YtbnbfgkcndomaabGreatDoorUI0
import Derived.PinnedBridge
import Derived.Lib.LaidU8T
import Derived.Lib.LaidTab
import Derived.MakeChecks
namespace Go.Proofs.YtbnbfgkcndomaabGreatDoor
open Go.RowKit Go.Shelf Go.Lib

def spanData (xs : List (Int × Int)) : DataW Unit := .slice (xs.map fun x => .agg ([x.1, x.2].map fun z => .lit (.int .i32 z))) []
theorem marks_eq : Rows.laid_casement_runes_marks (H := Unit) = spanData marksL := by kernel_rfl
theorem wides_eq : Rows.laid_casement_runes_wides (H := Unit) = spanData widesL := by kernel_rfl
theorem accept_eq : Rows.laid_unicode_utf8_acceptRanges (H := Unit) = acceptData := by kernel_rfl
theorem c_span : Tryz.prog.cellsOf 478 = 2 := by kernel_rfl
theorem c_i32 : Tryz.prog.cellsOf 21 = 1 := by kernel_rfl

theorem spans_of_reads {name : String} {g : Nat} (hn : Tryz.prog.globalNamed name = some g) (hy : (Tryz.prog.globals[g]?).map (·.type) = some 476) {xs : List (Int × Int)} (h0 : xs ≠ []) {w : World} (h : VarReads Tryz.prog w name (spanData xs)) : Spans w g xs := by
  obtain ⟨g', t, cs, fuel, p, hg, hty, hvar, hd⟩ := h
  obtain rfl := Option.some.inj (hn.symm.trans hg)
  obtain rfl := Option.some.inj (hy.symm.trans hty)
  rcases DataW.trod_slice Tryz.underlying476 hd with ⟨_, hx⟩ | ⟨a, len, cap, el, rs, m, rfl, hcs, hx, _, hlc, _, hel, helem, _, _⟩
  · cases hx
  · have eE : el.map (·.1) = xs.map fun x => (.agg ([x.1, x.2].map fun z => .lit (.int .i32 z)) : DataW Unit) := by
      have := congrArg Prod.fst hx
      simp only [spanData, DataW.slice.injEq] at this
      exact this.1.symm
    have hlen : len = xs.length := by
      have := congrArg List.length eE
      simp at this
      omega
    subst hlen
    have hrange : ∀ i (hi : i < xs.length), ∀ j, j < 2 → w.cell? ((a.add (i * 2)).add j) = ([.int .i32 xs[i].1, .int .i32 xs[i].2] : List Value)[j]? := by
      intro i hi j hj
      have h1 := helem i hi
      rw [c_span] at h1
      obtain ⟨b, hb⟩ : ∃ b, el[i]? = some b := ⟨el[i]'(by omega), List.getElem?_eq_getElem (by omega)⟩
      rw [hb] at h1
      obtain ⟨ce, hce, hte⟩ := Option.bind_eq_some_iff.1 h1
      have hb1 : b.1 = .agg ([xs[i].1, xs[i].2].map fun z => .lit (.int .i32 z)) := by
        have := congrArg (·[i]?) eE
        simpa [hb, hi] using this
      have hcs2 := ints_of_struct (p := b.2) Tryz.underlying478 (fun q f hq => by
        match q, hq with
        | 0, hq => simp at hq; subst hq; exact ⟨Tryz.underlying21, rfl, c_i32⟩
        | 1, hq => simp at hq; subst hq; exact ⟨Tryz.underlying21, rfl, c_i32⟩
        | q + 2, hq => simp at hq) (by rw [c_span]; rfl) (by rw [← hb1]; exact hte)
      obtain ⟨_, _, hcc⟩ := World.cells?_some hce
      rw [hcc j hj, hcs2]
      rfl
    obtain ⟨R, o, sR⟩ := a
    have hpos : 0 < xs.length := by
      cases xs with
      | nil => exact absurd rfl h0
      | cons _ _ => simp
    obtain rfl : sR = none := by
      have h00 := hrange 0 hpos 0 (by omega)
      have : (Addr.add (Addr.add ⟨R, o, sR⟩ (0 * 2)) 0) = ⟨R, o, sR⟩ := by simp [Addr.add]
      rw [this] at h00
      exact cell_spot h00
    refine ⟨R, o, cap, ?_, hlc, fun i hi => ?_⟩
    · rw [World.var?_cell hg hvar 0, ← Array.getElem?_toList, hcs]
      rfl
    · have k0 := hrange i hi 0 (by omega)
      have k1 := hrange i hi 1 (by omega)
      rw [Addr.add_lit, Addr.add_lit] at k0 k1
      exact ⟨by simpa using k0, by simpa using k1⟩

theorem xU : U8Extra Tryz.prog Tryz.lays197_ren := ⟨by kernel_rfl, by kernel_rfl, by kernel_rfl, by kernel_rfl, by kernel_rfl, by kernel_rfl, by kernel_rfl⟩
theorem tU : U8Types Tryz.prog Tryz.lays197_ren := { Tryz.lays197 with }

/-- What a row's list gives, and the world's shape. -/
theorem tbs_of {W : World} {l : List (String × DataW Unit)} (hl : l = [("unicode/utf8.acceptRanges", Rows.laid_unicode_utf8_acceptRanges), ("casement/runes.marks", Rows.laid_casement_runes_marks), ("casement/runes.wides", Rows.laid_casement_runes_wides), ("unicode/utf8.first", Rows.laid_unicode_utf8_first)]) (hL : laidMet Tryz.prog l W) (hsh : W.ShapedOpen Tryz.prog) : Tbs W := by
  subst hl
  have r1 : VarReads Tryz.prog W "unicode/utf8.acceptRanges" acceptData := accept_eq ▸ Lib.laidMet.reads hL (.head _)
  have r3 : VarReads Tryz.prog W "casement/runes.marks" (spanData marksL) := marks_eq ▸ Lib.laidMet.reads hL (.tail _ (.head _))
  have r4 : VarReads Tryz.prog W "casement/runes.wides" (spanData widesL) := wides_eq ▸ Lib.laidMet.reads hL (.tail _ (.tail _ (.head _)))
  have r7 : VarReads Tryz.prog W "unicode/utf8.first" firstData := Pinned.utf8First_eq ▸ Lib.laidMet.reads hL (.tail _ (.tail _ (.tail _ (.head _))))
  exact ⟨⟨spans_of_reads (by kernel_rfl) (by kernel_rfl) (by decide) r3, spans_of_reads (by kernel_rfl) (by kernel_rfl) (by decide) r4⟩, Tryz.laysM138.s1_3 W hsh, utf8Tabs_of_readsT tU xU r7 r1⟩

end Go.Proofs.YtbnbfgkcndomaabGreatDoor
