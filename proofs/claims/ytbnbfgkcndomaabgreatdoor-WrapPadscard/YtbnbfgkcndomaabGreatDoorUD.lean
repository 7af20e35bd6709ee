/-
  Parts in memory; measuring: Measure, by the method and by the call.
-/
import Derived.Test.YtbnbfgkcndomaabGreatDoorUC
import Derived.Test.YtbnbfgkcndomaabGreatDoorReg2
namespace Go.Proofs.YtbnbfgkcndomaabGreatDoor
open Go.RowKit

def droT : ByteArray := ⟨#[116, 101, 120, 116]⟩
/-- A part that was made: its type, its kind and name, what it keeps of its node, the parts that it holds. -/
structure Pt where
  t : Ty
  k : Nat
  name : ByteArray
  aw : Int
  ah : Int
  mw : Int
  mh : Int
  tx : ByteArray
  o : Int
  ox : Int
  oy : Int
  pa : Option Addr
  pn : Nat
  pc : Nat
def Pt.cells (p : Pt) : Array Value :=
  match p.t with
  | .label => #[.int .u8 (p.k : Nat), .string p.name, .int .i64 p.aw, .int .i64 p.ah, .int .i64 p.mw, .int .i64 p.mh, .string p.tx]
  | .button => #[.int .u8 (p.k : Nat), .string p.name, .int .i64 p.aw, .int .i64 p.ah, .int .i64 p.mw, .int .i64 p.mh, .string p.tx, .int .i64 p.o]
  | .field => #[.int .u8 (p.k : Nat), .string p.name, .int .i64 p.aw, .int .i64 p.ah, .int .i64 p.mw, .int .i64 p.mh, .string p.tx, .int .i64 p.o, .string droT]
  | .box => #[.int .u8 (p.k : Nat), .string p.name, .int .i64 p.aw, .int .i64 p.ah, .int .i64 p.mw, .int .i64 p.mh, .slice p.pa p.pn p.pc]
  | .scroll => #[.int .u8 (p.k : Nat), .string p.name, .int .i64 p.aw, .int .i64 p.ah, .int .i64 p.mw, .int .i64 p.mh, .string p.tx, .int .i64 p.o, .int .i64 p.ox, .int .i64 p.oy, .slice p.pa p.pn p.pc]
  | .canvas => #[.int .u8 (p.k : Nat), .string p.name, .string p.tx]
  | .gap => #[.int .u8 (p.k : Nat), .string p.name, .int .i64 p.aw, .int .i64 p.ah, .int .i64 p.mw, .int .i64 p.mh]
def PtIn (w : World) (b : Nat) (p : Pt) : Prop := ∃ T, Blk w b p.cells T
theorem PtIn.below {w w' : World} {b : Nat} {p : Pt} (h : PtIn w b p) (hb : Below w.heap.size w w') : PtIn w' b p := by
  obtain ⟨T, h⟩ := h
  exact ⟨T, h.below hb⟩
theorem PtIn.lt {w : World} {b : Nat} {p : Pt} (h : PtIn w b p) : b < w.heap.size := by
  obtain ⟨T, h⟩ := h
  exact h.lt
theorem PtIn.alloc {w : World} {b : Nat} {p : Pt} (h : PtIn w b p) (o : Obj) : PtIn (w.alloc o) b p := h.below ((Below.refl _ _).alloc (Nat.le_refl _) o)
theorem PtIn.other {w : World} {b : Nat} {p : Pt} (h : PtIn w b p) (q : Addr) (v : Value) (hq : q.block ≠ b) : PtIn (w.setCell q v) b p := by
  obtain ⟨T, h⟩ := h
  exact ⟨T, h.other q v hq⟩
theorem PtIn.kind {w : World} {b : Nat} {p : Pt} (h : PtIn w b p) : w.cell? ⟨b, 0, none⟩ = some (.int .u8 (p.k : Nat)) ∧ w.cell? ⟨b, 1, none⟩ = some (.string p.name) := by
  obtain ⟨T, h⟩ := h
  have h0 := h.cell 0
  have h1 := h.cell 1
  obtain ⟨t, k, name, aw, ah, mw, mh, tx, o, ox, oy, pa, pn, pc⟩ := p
  cases t <;> exact ⟨h0, h1⟩

theorem PtIn.mea {w : World} {b : Nat} {p : Pt} (h : PtIn w b p) (ht : p.t.mes = true) (f : Nat) :
    (method (f + 1) p.t.id (.pointer (some ⟨b, 0, none⟩)) "Measure").run Tryz.prog w = .ok (204, .agg #[.int .i64 p.aw, .int .i64 p.ah, .int .i64 p.mw, .int .i64 p.mh]) w := by
  obtain ⟨T, h⟩ := h
  have h2 := h.cell 2
  have h3 := h.cell 3
  have h4 := h.cell 4
  have h5 := h.cell 5
  obtain ⟨t, k, name, aw, ah, mw, mh, tx, o, ox, oy, pa, pn, pc⟩ := p
  cases t <;> first | (cases ht; done) | skip
  · exact me_label_Measure f b aw ah mw mh w h2 h3 h4 h5
  · exact me_button_Measure f b aw ah mw mh w h2 h3 h4 h5
  · exact me_field_Measure f b aw ah mw mh w h2 h3 h4 h5
  · exact me_box_Measure f b aw ah mw mh w h2 h3 h4 h5
  · exact me_scroll_Measure f b aw ah mw mh w h2 h3 h4 h5
  · exact me_gap_Measure f b aw ah mw mh w h2 h3 h4 h5
theorem PtIn.str {w : World} {b : Nat} {p : Pt} (h : PtIn w b p) (ht : p.t.pai = true) (f : Nat) :
    (method (f + 1) p.t.id (.pointer (some ⟨b, 0, none⟩)) "Strokes").run Tryz.prog w = .ok (206, .agg #[.string p.tx]) w := by
  obtain ⟨T, h⟩ := h
  have h2 := h.cell 2
  have h6 := h.cell 6
  obtain ⟨t, k, name, aw, ah, mw, mh, tx, o, ox, oy, pa, pn, pc⟩ := p
  cases t <;> first | (cases ht; done) | skip
  · exact me_label_Strokes f b tx w h6
  · exact me_button_Strokes f b tx w h6
  · exact me_field_Strokes f b tx w h6
  · exact me_scroll_Strokes f b tx w h6
  · exact me_canvas_Strokes f b tx w h2
theorem PtIn.ord {w : World} {b : Nat} {p : Pt} (h : PtIn w b p) (ht : p.t.foc = true) (f : Nat) :
    (method (f + 1) p.t.id (.pointer (some ⟨b, 0, none⟩)) "Order").run Tryz.prog w = .ok (220, .agg #[.int .i64 p.o]) w ∧ (nilAhead (f + 1) p.t.id (.pointer (some ⟨b, 0, none⟩)) "Order").run Tryz.prog w = .ok (some false) w := by
  obtain ⟨T, h⟩ := h
  have h7 := h.cell 7
  obtain ⟨t, k, name, aw, ah, mw, mh, tx, o, ox, oy, pa, pn, pc⟩ := p
  cases t <;> first | (cases ht; done) | skip
  · exact ⟨me_button_Order f b o w h7, na_button_Order f b w⟩
  · exact ⟨me_field_Order f b o w h7, na_field_Order f b w⟩
  · exact ⟨me_scroll_Order f b o w h7, na_scroll_Order f b w⟩
theorem PtIn.off {w : World} {b : Nat} {p : Pt} (h : PtIn w b p) (ht : p.t.scr = true) (f : Nat) :
    (method (f + 1) p.t.id (.pointer (some ⟨b, 0, none⟩)) "Offset").run Tryz.prog w = .ok (229, .agg #[.int .i64 p.ox, .int .i64 p.oy]) w ∧ (nilAhead (f + 1) p.t.id (.pointer (some ⟨b, 0, none⟩)) "Offset").run Tryz.prog w = .ok (some false) w := by
  obtain ⟨T, h⟩ := h
  have h8 := h.cell 8
  have h9 := h.cell 9
  obtain ⟨t, k, name, aw, ah, mw, mh, tx, o, ox, oy, pa, pn, pc⟩ := p
  cases t <;> first | (cases ht; done) | skip
  exact ⟨me_scroll_Offset f b ox oy w h8 h9, na_scroll_Offset f b w⟩
theorem PtIn.tak {w : World} {b : Nat} {p : Pt} (h : PtIn w b p) (ht : p.t.acc = true) (f : Nat) :
    (method (f + 1) p.t.id (.pointer (some ⟨b, 0, none⟩)) "Takes").run Tryz.prog w = .ok (223, .agg #[.string droT]) w := by
  obtain ⟨T, h⟩ := h
  have h8 := h.cell 8
  obtain ⟨t, k, name, aw, ah, mw, mh, tx, o, ox, oy, pa, pn, pc⟩ := p
  cases t <;> first | (cases ht; done) | skip
  exact me_field_Takes f b droT w h8
theorem PtIn.par {w : World} {b : Nat} {p : Pt} (h : PtIn w b p) (ht : p.t.hol = true) (f : Nat) :
    (method (f + 1) p.t.id (.pointer (some ⟨b, 0, none⟩)) "Parts").run Tryz.prog w = .ok (226, .agg #[.slice p.pa p.pn p.pc]) w := by
  obtain ⟨T, h⟩ := h
  have h6 := h.cell 6
  have h10 := h.cell 10
  obtain ⟨t, k, name, aw, ah, mw, mh, tx, o, ox, oy, pa, pn, pc⟩ := p
  cases t <;> first | (cases ht; done) | skip
  · exact me_box_Parts f b pa pn pc w h6
  · exact me_scroll_Parts f b pa pn pc w h10

theorem le1 (n : Nat) : n ≤ n + 1 := by omega
theorem le2 (n : Nat) : n ≤ n + 1 + 1 := by omega

/-- A number within a bound (0: none). -/
def lim (n b : Int) : Int := if 0 < b then min n b else n
theorem atMost_any (n b : Int) (w : World) :
    Calls Tryz.prog 207 #[.int .i64 n, .int .i64 b] w fun e w' => e = .returned (.int .i64 (lim n b)) ∧ w' = w := by
  unfold lim
  by_cases h : 0 < b
  · rw [if_pos h]
    go_enter Tryz.func207, Tryz.ntmps207
    go_wp2
    all_goals (go_ret; exact ⟨ret_int (by omega), rfl⟩)
  · rw [if_neg h]
    go_enter Tryz.func207, Tryz.ntmps207
    go_wp2
    go_ret
    exact ⟨rfl, rfl⟩

set_option maxHeartbeats 2000000 in
theorem measuring_any (aw ah mw mh rw' rh : Int) (w : World) :
    Calls Tryz.prog 204 #[.agg #[.int .i64 aw, .int .i64 ah, .int .i64 mw, .int .i64 mh], .agg #[.int .i64 rw', .int .i64 rh]] w fun e w' => e = .returned (.agg #[.int .i64 (lim (lim aw mw) rw'), .int .i64 (lim (lim ah mh) rh)]) ∧ Below w.heap.size w w' := by
  have hS : Hid (∀ n b w, Calls Tryz.prog 207 #[.int .i64 n, .int .i64 b] w fun e w' => e = .returned (.int .i64 (lim n b)) ∧ w' = w) := atMost_any
  go_enter Tryz.func204, Tryz.ntmps204
  go_wp2_with fail
  obtain ⟨W, hW⟩ : ∃ W, W = ((w.alloc (.cells #[.int .i64 aw, .int .i64 ah, .int .i64 mw, .int .i64 mh] 195)).alloc (.cells #[.int .i64 rw', .int .i64 rh] 23)).alloc (.cells #[.int .i64 0, .int .i64 0] 23) := ⟨_, rfl⟩
  rw [← hW]
  have HL : Hid (At4 W w.heap.size aw ah mw mh ∧ At2 W (w.heap.size + 1) rw' rh ∧ At2 W (w.heap.size + 1 + 1) 0 0 ∧ Fr W (w.heap.size + 1 + 1) ∧ Below w.heap.size w W) := by
    rw [hW]
    exact ⟨((At4.new w aw ah mw mh 195).alloc _).alloc _, (At2.new' (w.alloc _) (w.heap.size + 1) rw' rh 23 (by simp)).alloc _, At2.new' ((w.alloc _).alloc _) (w.heap.size + 1 + 1) 0 0 23 (by simp), fr2 w _ _ _ _, (((Below.refl w.heap.size w).alloc (Nat.le_refl _) _).alloc (by simp) _).alloc (by simp; omega) _⟩
  clear hW
  refine wp_region_lit 21 0 1 (fun _ => .cells #[] 0) [] (by kernel_rfl) (by kernel_rfl) rfl (fun k hk => absurd hk (by omega)) rfl (fun i h1 h2 => absurd h2 (by omega)) ?_
  apply Exists.intro
  refine ⟨fun bs ne => ?_, ?_⟩
  · obtain ⟨HA, HB, _⟩ := HL.out
    have d0 := fun t : Gb W bs => (HA.below t.below).1
    have d1 := fun t : Gb W bs => (HA.below t.below).2.1
    have d2 := fun t : Gb W bs => (HA.below t.below).2.2.1
    have d3 := fun t : Gb W bs => (HA.below t.below).2.2.2
    have e0 := fun t : Gb W bs => (HB.below t.below).1
    have e1 := fun t : Gb W bs => (HB.below t.below).2
    clear HA HB
    simp only [List.take_succ_cons, List.take_zero]
    repeat (go_big_quiet_step (first | (go_at_call 207; exact gb_same (hS.out _ _ _))))
    exact wpQuiet_nil rfl
  · intro bl wr hb _ _
    obtain ⟨HA, HB, HC, HF, HD⟩ := HL.out
    replace HC := HC.below hb
    replace HF := (HF.below hb).2
    replace HD := HD.trans (hb.mono HD.size)
    obtain ⟨c0, c1⟩ := HC
    simp only [layL]
    refine wpAny_one 21 (by kernel_rfl) rfl ?_
    intro K hK
    go_simp
    refine hK _ _ ?_
    clear hK K
    refine wpAny_done (by kernel_rfl) ?_ _
    go_wp2
    exact bodyPost_ret (v := .agg #[.int .i64 _, .int .i64 _]) (by simp [results, Tryz.results204, go_sem, c0, c1]) rfl ⟨rfl, (HD.setCell (le2 _) _).setCell (le2 _) _⟩

end Go.Proofs.YtbnbfgkcndomaabGreatDoor
