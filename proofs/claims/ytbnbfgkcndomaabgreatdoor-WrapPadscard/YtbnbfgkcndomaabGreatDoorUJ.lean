/-
  What a node's part asks for: measuringOf. (A node is loaded whole by a law: nineteen cells are too many for the walk.)
-/
import Derived.Test.YtbnbfgkcndomaabGreatDoorUI0
namespace Go.Proofs.YtbnbfgkcndomaabGreatDoor
open Go.RowKit Go.Shelf

/-- How wide and high the lines of a text are. -/
def linW (s : ByteArray) : Int := widL (paras s) (roomOf 0) 0
def linH (s : ByteArray) : Nat := (outL (paras s) (roomOf 0)).length

theorem linesSize_any (s : ByteArray) (k : Int) (w : World) (T : Tbs w) (hs : s.size ≤ 1048576) :
    Calls Tryz.prog 141 #[.string s, .int .i64 k] w fun e w' => e = .returned (.agg #[.int .i64 (wrap64 (linW s + k)), .int .i64 (linH s : Nat)]) ∧ Below w.heap.size w w' := by
  have hL := lines_any s 0 (w.alloc (.cells #[.int .i64 0, .int .i64 0] 23)) (T.alloc _).1 (T.alloc _).2.1 hs
  have e1 : widL (paras s) (roomOf 0) 0 = linW s := rfl
  have e2 : (outL (paras s) (roomOf 0)).length = linH s := rfl
  rw [e1, e2] at hL
  generalize (outL (paras s) (roomOf 0)).map Value.string = vs at *
  generalize linW s = lw at *
  generalize linH s = lh at *
  have A := Blk.new w #[.int .i64 0, .int .i64 0] 23
  have L : Below w.heap.size w (w.alloc (.cells #[.int .i64 0, .int .i64 0] 23)) := (Below.refl _ w).alloc (Nat.le_refl _) _
  have HA : Hid (Blk (w.alloc (.cells #[.int .i64 0, .int .i64 0] 23)) w.heap.size #[.int .i64 0, .int .i64 0] 23 ∧ Below w.heap.size w (w.alloc (.cells #[.int .i64 0, .int .i64 0] 23))) := ⟨A, L⟩
  clear T A L e1 e2
  go_enter Tryz.func141, Tryz.ntmps141
  go_wp2_with fail
  refine hL.mono ?_
  rintro e w1 ⟨v, rfl, hown, hb⟩
  obtain ⟨oa, cp, hv⟩ : ∃ oa cp, v = .slice oa lh cp := by
    obtain ⟨hl, h⟩ := hown
    rcases h with ⟨h0, h1⟩ | ⟨g, cap, cur, rfl, _⟩
    · exact ⟨none, 0, by first | (subst h1; exact h0) | (obtain ⟨h1, _⟩ := h1; subst h1; exact h0) | (obtain ⟨_, h1⟩ := h1; subst h1; exact h0)⟩
    · exact ⟨_, _, rfl⟩
  subst hv
  obtain ⟨A, L⟩ := HA.out
  replace A := A.below hb
  replace L := L.trans (hb.mono L.size)
  have a0 := A.cell 0
  have a1 := A.cell 1
  have fa := A.frozen
  have HL : Hid (Below w.heap.size w w1) := L
  clear A L hb hown hL HA
  go_wp2
  exact bodyPost_ret (v := .agg #[.int .i64 (wrap64 (lw + k)), .int .i64 (lh : Nat)]) (by simp [results, Tryz.results141, go_sem, a0, a1]) rfl ⟨rfl, (HL.out.setCell (Nat.le_refl _) _).setCell (Nat.le_refl _) _⟩

def txtW (n : Nd) : Int := if n.kind = 1 then wrap64 (linW n.text) else if n.kind = 2 then wrap64 (linW n.text + 4) else if n.kind = 3 then wrap64 (linW n.text + 1) else if n.kind = 7 then 1 else 0
def txtH (n : Nd) : Int := if n.kind = 1 ∨ n.kind = 2 ∨ n.kind = 3 then (linH n.text : Nat) else if n.kind = 7 then 1 else 0

set_option maxHeartbeats 2000000 in
theorem textSize_any (n : Nd) (w : World) (T : Tbs w) (hk : kindB n.kind = true) (hs : n.text.size ≤ 1048576) :
    Calls Tryz.prog 135 #[(Value.agg #[.int .u8 (n.kind : Nat), .string n.name, .string n.cls, .string n.text, .int .i64 n.minW, .int .i64 n.minH, .int .i64 n.maxW, .int .i64 n.maxH, .int .i64 n.grow, .int .i64 n.order, .bool n.column, .int .i64 n.columns, .int .i64 n.span, .int .i64 n.gap, .int .i64 n.offX, .int .i64 n.offY, .bool n.hidden, .slice n.wA n.wN n.wC, .slice n.kA n.kN n.kC])] w fun e w' => e = .returned (.agg #[.int .i64 (txtW n), .int .i64 (txtH n)]) ∧ Below w.heap.size w w' := by
  have hL : Hid (∀ k, Calls Tryz.prog 141 #[.string n.text, .int .i64 k] ((w.alloc (.cells (#[.int .u8 (n.kind : Nat), .string n.name, .string n.cls, .string n.text, .int .i64 n.minW, .int .i64 n.minH, .int .i64 n.maxW, .int .i64 n.maxH, .int .i64 n.grow, .int .i64 n.order, .bool n.column, .int .i64 n.columns, .int .i64 n.span, .int .i64 n.gap, .int .i64 n.offX, .int .i64 n.offY, .bool n.hidden, .slice n.wA n.wN n.wC, .slice n.kA n.kN n.kC]) 29)).alloc (.cells #[.int .i64 0, .int .i64 0] 23)) fun e w' => e = .returned (.agg #[.int .i64 (wrap64 (linW n.text + k)), .int .i64 (linH n.text : Nat)]) ∧ Below ((w.alloc (.cells (#[.int .u8 (n.kind : Nat), .string n.name, .string n.cls, .string n.text, .int .i64 n.minW, .int .i64 n.minH, .int .i64 n.maxW, .int .i64 n.maxH, .int .i64 n.grow, .int .i64 n.order, .bool n.column, .int .i64 n.columns, .int .i64 n.span, .int .i64 n.gap, .int .i64 n.offX, .int .i64 n.offY, .bool n.hidden, .slice n.wA n.wN n.wC, .slice n.kA n.kN n.kC]) 29)).alloc (.cells #[.int .i64 0, .int .i64 0] 23)).heap.size ((w.alloc (.cells (#[.int .u8 (n.kind : Nat), .string n.name, .string n.cls, .string n.text, .int .i64 n.minW, .int .i64 n.minH, .int .i64 n.maxW, .int .i64 n.maxH, .int .i64 n.grow, .int .i64 n.order, .bool n.column, .int .i64 n.columns, .int .i64 n.span, .int .i64 n.gap, .int .i64 n.offX, .int .i64 n.offY, .bool n.hidden, .slice n.wA n.wN n.wC, .slice n.kA n.kN n.kC]) 29)).alloc (.cells #[.int .i64 0, .int .i64 0] 23)) w') := fun k => linesSize_any n.text k _ ((T.alloc _).alloc _) hs
  have A := Blk.new (w.alloc (.cells (#[.int .u8 (n.kind : Nat), .string n.name, .string n.cls, .string n.text, .int .i64 n.minW, .int .i64 n.minH, .int .i64 n.maxW, .int .i64 n.maxH, .int .i64 n.grow, .int .i64 n.order, .bool n.column, .int .i64 n.columns, .int .i64 n.span, .int .i64 n.gap, .int .i64 n.offX, .int .i64 n.offY, .bool n.hidden, .slice n.wA n.wN n.wC, .slice n.kA n.kN n.kC]) 29)) #[.int .i64 0, .int .i64 0] 23
  rw [World.size_alloc] at A
  have HA : Hid (Blk ((w.alloc (.cells (#[.int .u8 (n.kind : Nat), .string n.name, .string n.cls, .string n.text, .int .i64 n.minW, .int .i64 n.minH, .int .i64 n.maxW, .int .i64 n.maxH, .int .i64 n.grow, .int .i64 n.order, .bool n.column, .int .i64 n.columns, .int .i64 n.span, .int .i64 n.gap, .int .i64 n.offX, .int .i64 n.offY, .bool n.hidden, .slice n.wA n.wN n.wC, .slice n.kA n.kN n.kC]) 29)).alloc (.cells #[.int .i64 0, .int .i64 0] 23)) (w.heap.size + 1) #[.int .i64 0, .int .i64 0] 23 ∧ Below w.heap.size w ((w.alloc (.cells (#[.int .u8 (n.kind : Nat), .string n.name, .string n.cls, .string n.text, .int .i64 n.minW, .int .i64 n.minH, .int .i64 n.maxW, .int .i64 n.maxH, .int .i64 n.grow, .int .i64 n.order, .bool n.column, .int .i64 n.columns, .int .i64 n.span, .int .i64 n.gap, .int .i64 n.offX, .int .i64 n.offY, .bool n.hidden, .slice n.wA n.wN n.wC, .slice n.kA n.kN n.kC]) 29)).alloc (.cells #[.int .i64 0, .int .i64 0] 23))) := ⟨A, ((Below.refl _ w).alloc (Nat.le_refl _) _).alloc (by simp) _⟩
  clear A T
  have hc := kind_cases hk
  clear hk
  obtain ⟨kind, name, cls, text, minW, minH, maxW, maxH, grow, order, column, columns, span, gap, offX, offY, hidden, wA, wN, wC, kA, kN, kC⟩ := n
  simp only at hc hL HA ⊢
  simp only [txtW, txtH]
  clear hs
  generalize linW text = lw at *
  generalize linH text = lh at *
  rcases hc with rfl | rfl | rfl | rfl | rfl | rfl | rfl | rfl | rfl | rfl
  · go_enter Tryz.func135, Tryz.ntmps135
    go_wp2_with fail
    refine (hL.out _).mono ?_
    rintro e w1 ⟨rfl, hb⟩
    obtain ⟨A, L⟩ := HA.out
    replace A := A.below hb
    replace L := L.trans (hb.mono L.size)
    have a0 := A.cell 0
    have a1 := A.cell 1
    have fa := A.frozen
    have HL : Hid (Below w.heap.size w w1) := L
    clear A L hb hL HA
    go_wp2
    exact bodyPost_ret (v := .agg #[.int .i64 (wrap64 lw), .int .i64 (lh : Nat)]) (by simp [results, Tryz.results135, go_sem, a0, a1]) rfl ⟨rfl, (HL.out.setCell (le1 _) _).setCell (le1 _) _⟩
  · go_enter Tryz.func135, Tryz.ntmps135
    go_wp2_with fail
    refine (hL.out _).mono ?_
    rintro e w1 ⟨rfl, hb⟩
    obtain ⟨A, L⟩ := HA.out
    replace A := A.below hb
    replace L := L.trans (hb.mono L.size)
    have a0 := A.cell 0
    have a1 := A.cell 1
    have fa := A.frozen
    have HL : Hid (Below w.heap.size w w1) := L
    clear A L hb hL HA
    go_wp2
    exact bodyPost_ret (v := .agg #[.int .i64 (wrap64 (lw + 4)), .int .i64 (lh : Nat)]) (by simp [results, Tryz.results135, go_sem, a0, a1]) rfl ⟨rfl, (HL.out.setCell (le1 _) _).setCell (le1 _) _⟩
  · go_enter Tryz.func135, Tryz.ntmps135
    go_wp2_with fail
    refine (hL.out _).mono ?_
    rintro e w1 ⟨rfl, hb⟩
    obtain ⟨A, L⟩ := HA.out
    replace A := A.below hb
    replace L := L.trans (hb.mono L.size)
    have a0 := A.cell 0
    have a1 := A.cell 1
    have fa := A.frozen
    have HL : Hid (Below w.heap.size w w1) := L
    clear A L hb hL HA
    go_wp2
    exact bodyPost_ret (v := .agg #[.int .i64 (wrap64 (lw + 1)), .int .i64 (lh : Nat)]) (by simp [results, Tryz.results135, go_sem, a0, a1]) rfl ⟨rfl, (HL.out.setCell (le1 _) _).setCell (le1 _) _⟩
  iterate 3
    · go_enter Tryz.func135, Tryz.ntmps135
      go_wp2
      exact bodyPost_ret (v := .agg #[.int .i64 0, .int .i64 0]) (by simp [results, Tryz.results135, go_sem]) rfl ⟨rfl, HA.out.2⟩
  · go_enter Tryz.func135, Tryz.ntmps135
    go_wp2
    exact bodyPost_ret (v := .agg #[.int .i64 1, .int .i64 1]) (by simp [results, Tryz.results135, go_sem]) rfl ⟨rfl, ((Below.refl _ w).alloc (Nat.le_refl _) _).alloc (by simp) _⟩
  iterate 3
    · go_enter Tryz.func135, Tryz.ntmps135
      go_wp2
      exact bodyPost_ret (v := .agg #[.int .i64 0, .int .i64 0]) (by simp [results, Tryz.results135, go_sem]) rfl ⟨rfl, HA.out.2⟩

/-- A text in brackets, if it may be so long. -/
def brkT (s : ByteArray) : ByteArray := if 65536 < s.size + 4 then s else (⟨#[91, 32]⟩ ++ s) ++ ⟨#[32, 93]⟩
theorem bracketed_any (s : ByteArray) (w : World) (hs : s.size ≤ 1048576) :
    Calls Tryz.prog 136 #[.string s] w fun e w' => e = .returned (.string (brkT s)) ∧ w' = w := by
  unfold brkT
  by_cases h : 65536 < s.size + 4
  · rw [if_pos h]
    have h1 : (65536 : Int) < 2 + (s.size : Int) + 2 := by omega
    go_enter Tryz.func136, Tryz.ntmps136
    go_wp2
    go_ret
    exact ⟨rfl, rfl⟩
  · rw [if_neg h]
    have h1 : ¬ (65536 : Int) < 2 + (s.size : Int) + 2 := by omega
    go_enter Tryz.func136, Tryz.ntmps136
    go_wp2
    go_ret
    exact ⟨rfl, rfl⟩

def wrtT (n : Nd) : ByteArray := if n.kind = 1 ∨ n.kind = 3 then n.text else if n.kind = 2 then brkT n.text else if n.kind = 7 then ⟨#[42]⟩ else ⟨#[]⟩
set_option maxHeartbeats 1000000 in
theorem written_any (n : Nd) (w : World) (hk : kindB n.kind = true) (hs : n.text.size ≤ 1048576) :
    Calls Tryz.prog 112 #[(Value.agg #[.int .u8 (n.kind : Nat), .string n.name, .string n.cls, .string n.text, .int .i64 n.minW, .int .i64 n.minH, .int .i64 n.maxW, .int .i64 n.maxH, .int .i64 n.grow, .int .i64 n.order, .bool n.column, .int .i64 n.columns, .int .i64 n.span, .int .i64 n.gap, .int .i64 n.offX, .int .i64 n.offY, .bool n.hidden, .slice n.wA n.wN n.wC, .slice n.kA n.kN n.kC])] w fun e w' => e = .returned (.string (wrtT n)) ∧ w' = w.alloc (.cells (#[.int .u8 (n.kind : Nat), .string n.name, .string n.cls, .string n.text, .int .i64 n.minW, .int .i64 n.minH, .int .i64 n.maxW, .int .i64 n.maxH, .int .i64 n.grow, .int .i64 n.order, .bool n.column, .int .i64 n.columns, .int .i64 n.span, .int .i64 n.gap, .int .i64 n.offX, .int .i64 n.offY, .bool n.hidden, .slice n.wA n.wN n.wC, .slice n.kA n.kN n.kC]) 29) := by
  have hL := fun w => bracketed_any n.text w hs
  have hc := kind_cases hk
  clear hk hs
  obtain ⟨kind, name, cls, text, minW, minH, maxW, maxH, grow, order, column, columns, span, gap, offX, offY, hidden, wA, wN, wC, kA, kN, kC⟩ := n
  simp only at hc hL ⊢
  simp only [wrtT]
  generalize brkT text = bt at *
  rcases hc with rfl | rfl | rfl | rfl | rfl | rfl | rfl | rfl | rfl | rfl
  all_goals
    go_enter Tryz.func112, Tryz.ntmps112
    go_wp2_with (go_at_call 136; refine (hL _).mono ?_; rintro e w1 ⟨rfl, rfl⟩)
    go_ret
    exact ⟨rfl, rfl⟩


theorem load_node {w : World} {b : Nat} {n : Nd} {t : TypeId} (h : Blk w b (#[.int .u8 (n.kind : Nat), .string n.name, .string n.cls, .string n.text, .int .i64 n.minW, .int .i64 n.minH, .int .i64 n.maxW, .int .i64 n.maxH, .int .i64 n.grow, .int .i64 n.order, .bool n.column, .int .i64 n.columns, .int .i64 n.span, .int .i64 n.gap, .int .i64 n.offX, .int .i64 n.offY, .bool n.hidden, .slice n.wA n.wN n.wC, .slice n.kA n.kN n.kC]) t) : (Instr.loadAt 29 (.pointer (some ⟨b, 0, none⟩))).run Tryz.prog w = .ok (Value.agg #[.int .u8 (n.kind : Nat), .string n.name, .string n.cls, .string n.text, .int .i64 n.minW, .int .i64 n.minH, .int .i64 n.maxW, .int .i64 n.maxH, .int .i64 n.grow, .int .i64 n.order, .bool n.column, .int .i64 n.columns, .int .i64 n.span, .int .i64 n.gap, .int .i64 n.offX, .int .i64 n.offY, .bool n.hidden, .slice n.wA n.wN n.wC, .slice n.kA n.kN n.kC]) w := by
  show (loadVar 29 ⟨b, 0, none⟩).run Tryz.prog w = _
  exact run_loadVar_row w b t 29 (#[.int .u8 (n.kind : Nat), .string n.name, .string n.cls, .string n.text, .int .i64 n.minW, .int .i64 n.minH, .int .i64 n.maxW, .int .i64 n.maxH, .int .i64 n.grow, .int .i64 n.order, .bool n.column, .int .i64 n.columns, .int .i64 n.span, .int .i64 n.gap, .int .i64 n.offX, .int .i64 n.offY, .bool n.hidden, .slice n.wA n.wN n.wC, .slice n.kA n.kN n.kC]) (0, 0) _ h Tryz.underlying29 (by rfl) (by kernel_rfl)
theorem wpList_load {P : Program} {w : World} {ops : Array Oper} {rest : List Oper} {o : Oper} {a : Act} {Q : Exit → Act → World → Prop} (hg : o.guard = none) (p : Operand) (t : TypeId) (hop : o.op = Op.load t p) (v ptr : Value) (hp : a.eval p = ptr)
    (hrun : (Instr.loadAt t ptr).run P w = .ok v w) (hK : wpList P ops Q rest (a.put o.dst v) w) : wpList P ops Q (o :: rest) a w := by
  refine wpList_plain hg fun K' hK' => ?_
  unfold Oper.wp
  simp [execOp, hop, hp, hrun, Result.andThen]
  exact hK' _ _ hK

def askW (n : Nd) : Int := max (txtW n) n.minW
def askH (n : Nd) : Int := max (txtH n) n.minH

set_option maxHeartbeats 2000000 in
theorem measuringOf_any (n : Nd) (w : World) (T : Tbs w) (hk : kindB n.kind = true) (hs : n.text.size ≤ 1048576) :
    Calls Tryz.prog 111 #[(Value.agg #[.int .u8 (n.kind : Nat), .string n.name, .string n.cls, .string n.text, .int .i64 n.minW, .int .i64 n.minH, .int .i64 n.maxW, .int .i64 n.maxH, .int .i64 n.grow, .int .i64 n.order, .bool n.column, .int .i64 n.columns, .int .i64 n.span, .int .i64 n.gap, .int .i64 n.offX, .int .i64 n.offY, .bool n.hidden, .slice n.wA n.wN n.wC, .slice n.kA n.kN n.kC])] w fun e w' => e = .returned (.agg #[.int .i64 (askW n), .int .i64 (askH n), .int .i64 n.maxW, .int .i64 n.maxH]) ∧ Below w.heap.size w w' := by
  have HL := textSize_any n ((w.alloc (.cells (#[.int .u8 (n.kind : Nat), .string n.name, .string n.cls, .string n.text, .int .i64 n.minW, .int .i64 n.minH, .int .i64 n.maxW, .int .i64 n.maxH, .int .i64 n.grow, .int .i64 n.order, .bool n.column, .int .i64 n.columns, .int .i64 n.span, .int .i64 n.gap, .int .i64 n.offX, .int .i64 n.offY, .bool n.hidden, .slice n.wA n.wN n.wC, .slice n.kA n.kN n.kC]) 29)).alloc (.cells #[.int .i64 0, .int .i64 0, .int .i64 0, .int .i64 0] 195)) ((T.alloc _).alloc _) hk hs
  have A := Blk.new (w.alloc (.cells (#[.int .u8 (n.kind : Nat), .string n.name, .string n.cls, .string n.text, .int .i64 n.minW, .int .i64 n.minH, .int .i64 n.maxW, .int .i64 n.maxH, .int .i64 n.grow, .int .i64 n.order, .bool n.column, .int .i64 n.columns, .int .i64 n.span, .int .i64 n.gap, .int .i64 n.offX, .int .i64 n.offY, .bool n.hidden, .slice n.wA n.wN n.wC, .slice n.kA n.kN n.kC]) 29)) #[.int .i64 0, .int .i64 0, .int .i64 0, .int .i64 0] 195
  rw [World.size_alloc] at A
  have HA : Hid (Blk ((w.alloc (.cells (#[.int .u8 (n.kind : Nat), .string n.name, .string n.cls, .string n.text, .int .i64 n.minW, .int .i64 n.minH, .int .i64 n.maxW, .int .i64 n.maxH, .int .i64 n.grow, .int .i64 n.order, .bool n.column, .int .i64 n.columns, .int .i64 n.span, .int .i64 n.gap, .int .i64 n.offX, .int .i64 n.offY, .bool n.hidden, .slice n.wA n.wN n.wC, .slice n.kA n.kN n.kC]) 29)).alloc (.cells #[.int .i64 0, .int .i64 0, .int .i64 0, .int .i64 0] 195)) (w.heap.size + 1) #[.int .i64 0, .int .i64 0, .int .i64 0, .int .i64 0] 195 ∧ Blk ((w.alloc (.cells (#[.int .u8 (n.kind : Nat), .string n.name, .string n.cls, .string n.text, .int .i64 n.minW, .int .i64 n.minH, .int .i64 n.maxW, .int .i64 n.maxH, .int .i64 n.grow, .int .i64 n.order, .bool n.column, .int .i64 n.columns, .int .i64 n.span, .int .i64 n.gap, .int .i64 n.offX, .int .i64 n.offY, .bool n.hidden, .slice n.wA n.wN n.wC, .slice n.kA n.kN n.kC]) 29)).alloc (.cells #[.int .i64 0, .int .i64 0, .int .i64 0, .int .i64 0] 195)) w.heap.size (#[.int .u8 (n.kind : Nat), .string n.name, .string n.cls, .string n.text, .int .i64 n.minW, .int .i64 n.minH, .int .i64 n.maxW, .int .i64 n.maxH, .int .i64 n.grow, .int .i64 n.order, .bool n.column, .int .i64 n.columns, .int .i64 n.span, .int .i64 n.gap, .int .i64 n.offX, .int .i64 n.offY, .bool n.hidden, .slice n.wA n.wN n.wC, .slice n.kA n.kN n.kC]) 29 ∧ Below w.heap.size w ((w.alloc (.cells (#[.int .u8 (n.kind : Nat), .string n.name, .string n.cls, .string n.text, .int .i64 n.minW, .int .i64 n.minH, .int .i64 n.maxW, .int .i64 n.maxH, .int .i64 n.grow, .int .i64 n.order, .bool n.column, .int .i64 n.columns, .int .i64 n.span, .int .i64 n.gap, .int .i64 n.offX, .int .i64 n.offY, .bool n.hidden, .slice n.wA n.wN n.wC, .slice n.kA n.kN n.kC]) 29)).alloc (.cells #[.int .i64 0, .int .i64 0, .int .i64 0, .int .i64 0] 195))) := ⟨A, (Blk.new _ _ _).alloc _, ((Below.refl _ w).alloc (Nat.le_refl _) _).alloc (by simp) _⟩
  clear A T hk hs
  unfold askW askH
  generalize txtW n = tw at *
  generalize txtH n = th at *
  have hl := load_node HA.out.2.1
  go_enter Tryz.func111, Tryz.ntmps111
  go_upto_region 1 with fail
  generalize (w.alloc (.cells (#[.int .u8 (n.kind : Nat), .string n.name, .string n.cls, .string n.text, .int .i64 n.minW, .int .i64 n.minH, .int .i64 n.maxW, .int .i64 n.maxH, .int .i64 n.grow, .int .i64 n.order, .bool n.column, .int .i64 n.columns, .int .i64 n.span, .int .i64 n.gap, .int .i64 n.offX, .int .i64 n.offY, .bool n.hidden, .slice n.wA n.wN n.wC, .slice n.kA n.kN n.kC]) 29)).alloc (.cells #[.int .i64 0, .int .i64 0, .int .i64 0, .int .i64 0] 195) = W at *
  refine Go.wp_region_lit ?_
  refine wpList_load rfl _ _ rfl _ _ rfl hl ?_
  clear hl
  generalize (Value.agg #[.int .u8 (n.kind : Nat), .string n.name, .string n.cls, .string n.text, .int .i64 n.minW, .int .i64 n.minH, .int .i64 n.maxW, .int .i64 n.maxH, .int .i64 n.grow, .int .i64 n.order, .bool n.column, .int .i64 n.columns, .int .i64 n.span, .int .i64 n.gap, .int .i64 n.offX, .int .i64 n.offY, .bool n.hidden, .slice n.wA n.wN n.wC, .slice n.kA n.kN n.kC]) = nv at *
  go_wp2_with fail
  refine HL.mono ?_
  rintro e w1 ⟨rfl, hb⟩
  obtain ⟨A, B, L⟩ := HA.out
  replace A := A.below hb
  replace B := B.below hb
  replace L := L.trans (hb.mono L.size)
  have a0 := A.cell 0
  have a1 := A.cell 1
  have a2 := A.cell 2
  have a3 := A.cell 3
  have fa := A.frozen
  have b4 := B.cell 4
  have b5 := B.cell 5
  have b6 := B.cell 6
  have b7 := B.cell 7
  have s1 : w.heap.size + 1 < w1.heap.size := A.lt
  have s2 : w.heap.size < w1.heap.size := B.lt
  have HL : Hid (Below w.heap.size w w1) := L
  clear A B L hb HA
  go_wp2
  refine bodyPost_ret (v := .agg #[.int .i64 (max tw n.minW), .int .i64 (max th n.minH), .int .i64 n.maxW, .int .i64 n.maxH]) ?_ rfl ⟨rfl, ?_⟩
  · simp [results, Tryz.results111, go_sem, *]
  · exact (set4_below HL.out (le1 _) _ _ _ _).alloc (by simp [World.setCell]; omega) _

end Go.Proofs.YtbnbfgkcndomaabGreatDoor
