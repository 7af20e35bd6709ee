/-
  Texts of this claim, one behind the other: what each is about stands ahead of it.
-/
import Derived.RangeFuncNested
import Derived.RangeFuncBound
import Derived.RangeFuncCalls
import Derived.RangeFuncLeaves
import Derived.RangeFuncBox
import Derived.Laws.Rows
import Derived.Lib.OthersKept
import Derived.Test.YtapachlhdgehjaaGreatDoorChecked
import Derived.Test.YtapachlhdgehjaaGreatDoorK6
import Derived.WalkKit
import Derived.WalkSpells
import Derived.WalkLawsBesides
import Derived.Test.YtapachlhdgehjaaGreatDoorK5
import Derived.Deep.RegionWith
import Derived.Deep.DeepCutAuto
/-
  A range over an iterator that keeps a variable of its own in cells (one block, the first that it lays): the caller's law, and what the iterator owes.
-/
namespace Go.Proofs.YtapachlhdgehjaaGreatDoor
open Go.RowKit

variable {F : Fence} {n : Nat} {P : Program}

def Stores {β : Type} (b : Nat) (J : β → World → Prop) : Prop := ∀ s W o v, J s W → J s (W.setCell ⟨b, o, none⟩ v)

theorem same_set {W : World} {p : Addr} {v : Value} {k : Nat} {o : Obj} (h : W.heap[k]? = some o) (hk : p.block ≠ k) : (W.setCell p v).heap[k]? = some o := by
  exact (Below.heap_setCell _ _ _ k (fun e => hk e.symm)).trans h

def Blk (W : World) (b : Nat) (vs : Array Value) (t : TypeId) : Prop := W.heap[b]? = some (.cells vs t)
theorem Blk.lt {W : World} {b : Nat} {vs : Array Value} {t : TypeId} (h : Blk W b vs t) : b < W.heap.size := (Array.getElem?_eq_some_iff.1 h).1
theorem Blk.cell {W : World} {b : Nat} {vs : Array Value} {t : TypeId} (h : Blk W b vs t) (o : Nat) : W.cell? ⟨b, o, none⟩ = vs[o]? := by
  simp [World.cell?, show W.heap[b]? = _ from h]
theorem Blk.frozen {W : World} {b : Nat} {vs : Array Value} {t : TypeId} (h : Blk W b vs t) (o : Nat) : W.frozen? ⟨b, o, none⟩ = false := by
  simp [World.frozen?, show W.heap[b]? = _ from h]
theorem Blk.below {W W' : World} {b : Nat} {vs : Array Value} {t : TypeId} (h : Blk W b vs t) (hb : Below W.heap.size W W') : Blk W' b vs t := (hb.block b h.lt).trans h
theorem Blk.alloc {W : World} {b : Nat} {vs : Array Value} {t : TypeId} (h : Blk W b vs t) (o : Obj) : Blk (W.alloc o) b vs t := h.below ((Below.refl _ _).alloc (Nat.le_refl _) o)
theorem Blk.new (W : World) (vs : Array Value) (t : TypeId) : Blk (W.alloc (.cells vs t)) W.heap.size vs t := World.alloc_heap_new W _
theorem Blk.put {W : World} {b : Nat} {vs : Array Value} {t : TypeId} (h : Blk W b vs t) (o : Nat) (v : Value) : Blk (W.setCell ⟨b, o, none⟩ v) b (vs.setIfInBounds o v) t := heap_setCell_same W b o vs t v h
theorem Blk.put4 {W : World} {b : Nat} {a0 a1 a2 a3 : Value} {t : TypeId} (h : Blk W b #[a0, a1, a2, a3] t) (v0 v1 v2 v3 : Value) :
    Blk ((((W.setCell ⟨b, 0, none⟩ v0).setCell ⟨b, 1, none⟩ v1).setCell ⟨b, 2, none⟩ v2).setCell ⟨b, 3, none⟩ v3) b #[v0, v1, v2, v3] t := by
  simpa using (((h.put 0 v0).put 1 v1).put 2 v2).put 3 v3
theorem Blk.at4 {W : World} {b : Nat} {a0 a1 a2 a3 : Value} {t : TypeId} (h : Blk W b #[a0, a1, a2, a3] t) : W.cell? ⟨b, 0, none⟩ = some a0 ∧ W.cell? ⟨b, 1, none⟩ = some a1 ∧ W.cell? ⟨b, 2, none⟩ = some a2 ∧ W.cell? ⟨b, 3, none⟩ = some a3 :=
  ⟨h.cell 0, h.cell 1, h.cell 2, h.cell 3⟩
end Go.Proofs.YtapachlhdgehjaaGreatDoor

/-
  Contracts of package runes: controls, marks, wide ones, how wide a rune is.
-/
namespace Go.Proofs.YtapachlhdgehjaaGreatDoor
open Go.RowKit

theorem ret_boolR {a b : Bool} (h : a = true ↔ b = true) : Ending.returned (.bool a) = .returned (.bool b) := by rw [Bool.eq_iff_iff.2 h]

def Spans (w : World) (g : Nat) (xs : List (Int × Int)) : Prop :=
  ∃ (a o c : Nat), w.cell? ⟨g, 0, none⟩ = some (.slice (some ⟨a, o, none⟩) xs.length c) ∧ xs.length ≤ c ∧
    ∀ (i : Nat) (h : i < xs.length), w.cell? ⟨a, o + i * 2, none⟩ = some (.int .i32 xs[i].1) ∧ w.cell? ⟨a, o + i * 2 + 1, none⟩ = some (.int .i32 xs[i].2)
theorem cellB {W w1 : World} {B : Nat} {p : Addr} {v : Value} (hB : W.heap.size ≤ B) (hb : Below B W w1) (h : W.cell? p = some v) : w1.cell? p = some v :=
  (hb.cell (Nat.lt_of_lt_of_le (World.block_lt_of_cell? W p h) hB)).trans h
theorem Spans.below {W w1 : World} {g : Nat} {xs : List (Int × Int)} (h : Spans W g xs) (hb : Below W.heap.size W w1) : Spans w1 g xs := by
  obtain ⟨a, o, c, h0, hc, h1⟩ := h
  exact ⟨a, o, c, cellB (Nat.le_refl _) hb h0, hc, fun i hi => ⟨cellB (Nat.le_refl _) hb (h1 i hi).1, cellB (Nat.le_refl _) hb (h1 i hi).2⟩⟩

theorem look_drop (r : Int) (xs : List (Int × Int)) (k : Nat) (h : k < xs.length) : look (xs.drop k) r = if r ≤ xs[k].2 then decide (xs[k].1 ≤ r) else look (xs.drop (k + 1)) r := by
  rw [List.drop_eq_getElem_cons h]
  simp only [look]

set_option maxHeartbeats 400000 in
theorem isControl_any (r : Int) (w : World) :
    Calls Tryz.prog 156 #[.int .i32 r] w fun e w' => e = .returned (.bool (ctl r)) ∧ w' = w := by
  by_cases c1 : 0 ≤ r
  · by_cases c2 : r ≤ 31
    · go_enter Tryz.func156, Tryz.ntmps156
      go_wp2
      go_ret
      exact ⟨ret_boolR (by simp [ctl]; omega), rfl⟩
    · by_cases c3 : 127 ≤ r
      · go_enter Tryz.func156, Tryz.ntmps156
        go_wp2
        go_ret
        exact ⟨ret_boolR (by simp [ctl]; omega), rfl⟩
      · go_enter Tryz.func156, Tryz.ntmps156
        go_wp2
        go_ret
        exact ⟨ret_boolR (by simp [ctl]; omega), rfl⟩
  · go_enter Tryz.func156, Tryz.ntmps156
    go_wp2
    go_ret
    exact ⟨ret_boolR (by simp [ctl]; omega), rfl⟩

set_option maxHeartbeats 1000000 in
theorem isMark_any (r : Int) (w : World) (xs : List (Int × Int)) (T : Spans w 4 xs) (hlen : xs.length ≤ 1000) :
    Calls Tryz.prog 157 #[.int .i32 r] w fun e w' => e = .returned (.bool (look xs r)) ∧ Below w.heap.size w w' := by
  obtain ⟨a, o, c, h0, hc, h1⟩ := T
  have H1 : Hid (∀ (i : Nat) (h : i < xs.length), w.cell? ⟨a, o + i * 2, none⟩ = some (.int .i32 xs[i].1) ∧ w.cell? ⟨a, o + i * 2 + 1, none⟩ = some (.int .i32 xs[i].2)) := h1
  clear h1
  go_enter Tryz.func157, Tryz.ntmps157
  go_wp2
  go_loopw [7] (fun i wr => ∃ k : Nat, k ≤ xs.length ∧ i = .int .i64 k ∧ look xs r = look (xs.drop k) r ∧ Below w.heap.size w wr) (fun i _ => xs.length - (intOf i).toNat)
  case atStart => exact ⟨0, Nat.zero_le _, rfl, by simp, Below.refl _ _⟩
  case round =>
    obtain ⟨k, hk, rfl, hall, hw⟩ := hrel
    by_cases hlt : k < xs.length
    · obtain ⟨f0, f1⟩ := H1.out k hlt
      have p0 : wr.cell? ⟨a, o + k * 2, none⟩ = some (.int .i32 xs[k].1) := cellB (Nat.le_refl _) hw f0
      have p1 : wr.cell? ⟨a, o + k * 2 + 1, none⟩ = some (.int .i32 xs[k].2) := cellB (Nat.le_refl _) hw f1
      have hd := look_drop r xs k hlt
      have HE : Hid (look xs r = look (xs.drop k) r ∧ Below w.heap.size w wr ∧ look (xs.drop k) r = if r ≤ xs[k].2 then decide (xs[k].1 ≤ r) else look (xs.drop (k + 1)) r) := ⟨hall, hw, hd⟩
      clear hall hw hd f0 f1 h0
      generalize xs[k] = x at *
      by_cases ht : r ≤ x.2
      · go_wp2
        go_ret
        obtain ⟨hall, hw, hd⟩ := HE.out
        refine ⟨?_, hw.alloc hw.size _⟩
        rw [hall, hd, if_pos ht]
        rfl
      · go_wp2
        go_roundw
        case rel =>
          obtain ⟨hall, hw, hd⟩ := HE.out
          exact ⟨k + 1, by omega, by go_num, by rw [hall, hd, if_neg ht], hw.alloc hw.size _⟩
        case measure => simp [intOf]; omega
    · go_wp2
      go_ret
      refine ⟨?_, hw⟩
      rw [hall, List.drop_eq_nil_of_le (by omega)]
      rfl

set_option maxHeartbeats 1000000 in
theorem isWide_any (r : Int) (w : World) (xs : List (Int × Int)) (T : Spans w 5 xs) (hlen : xs.length ≤ 1000) :
    Calls Tryz.prog 158 #[.int .i32 r] w fun e w' => e = .returned (.bool (look xs r)) ∧ Below w.heap.size w w' := by
  obtain ⟨a, o, c, h0, hc, h1⟩ := T
  have H1 : Hid (∀ (i : Nat) (h : i < xs.length), w.cell? ⟨a, o + i * 2, none⟩ = some (.int .i32 xs[i].1) ∧ w.cell? ⟨a, o + i * 2 + 1, none⟩ = some (.int .i32 xs[i].2)) := h1
  clear h1
  go_enter Tryz.func158, Tryz.ntmps158
  go_wp2
  go_loopw [7] (fun i wr => ∃ k : Nat, k ≤ xs.length ∧ i = .int .i64 k ∧ look xs r = look (xs.drop k) r ∧ Below w.heap.size w wr) (fun i _ => xs.length - (intOf i).toNat)
  case atStart => exact ⟨0, Nat.zero_le _, rfl, by simp, Below.refl _ _⟩
  case round =>
    obtain ⟨k, hk, rfl, hall, hw⟩ := hrel
    by_cases hlt : k < xs.length
    · obtain ⟨f0, f1⟩ := H1.out k hlt
      have p0 : wr.cell? ⟨a, o + k * 2, none⟩ = some (.int .i32 xs[k].1) := cellB (Nat.le_refl _) hw f0
      have p1 : wr.cell? ⟨a, o + k * 2 + 1, none⟩ = some (.int .i32 xs[k].2) := cellB (Nat.le_refl _) hw f1
      have hd := look_drop r xs k hlt
      have HE : Hid (look xs r = look (xs.drop k) r ∧ Below w.heap.size w wr ∧ look (xs.drop k) r = if r ≤ xs[k].2 then decide (xs[k].1 ≤ r) else look (xs.drop (k + 1)) r) := ⟨hall, hw, hd⟩
      clear hall hw hd f0 f1 h0
      generalize xs[k] = x at *
      by_cases ht : r ≤ x.2
      · go_wp2
        go_ret
        obtain ⟨hall, hw, hd⟩ := HE.out
        refine ⟨?_, hw.alloc hw.size _⟩
        rw [hall, hd, if_pos ht]
        rfl
      · go_wp2
        go_roundw
        case rel =>
          obtain ⟨hall, hw, hd⟩ := HE.out
          exact ⟨k + 1, by omega, by go_num, by rw [hall, hd, if_neg ht], hw.alloc hw.size _⟩
        case measure => simp [intOf]; omega
    · go_wp2
      go_ret
      refine ⟨?_, hw⟩
      rw [hall, List.drop_eq_nil_of_le (by omega)]
      rfl

def Tabs (w : World) : Prop := Spans w 4 marksL ∧ Spans w 5 widesL
theorem Tabs.below {W w1 : World} (h : Tabs W) (hb : Below W.heap.size W w1) : Tabs w1 := ⟨h.1.below hb, h.2.below hb⟩
theorem mark_any (r : Int) (w : World) (T : Tabs w) :
    Calls Tryz.prog 157 #[.int .i32 r] w fun e w' => e = .returned (.bool (mrk r)) ∧ Below w.heap.size w w' := isMark_any r w marksL T.1 (by decide)
theorem wide_any (r : Int) (w : World) (T : Tabs w) :
    Calls Tryz.prog 158 #[.int .i32 r] w fun e w' => e = .returned (.bool (wide r)) ∧ Below w.heap.size w w' := isWide_any r w widesL T.2 (by decide)

set_option maxHeartbeats 400000 in
theorem width_any (r : Int) (w : World) (T : Tabs w) :
    Calls Tryz.prog 124 #[.int .i32 r] w fun e w' => e = .returned (.int .i64 (width r)) ∧ Below w.heap.size w w' := by
  have HT : Hid (Tabs w) := T
  clear T
  go_enter Tryz.func124, Tryz.ntmps124
  go_wp2_with fail
  refine (isControl_any _ _).mono ?_
  rintro e w1 ⟨rfl, rfl⟩
  cases h1 : ctl r
  · go_wp2_with fail
    refine (mark_any _ _ HT.out).mono ?_
    rintro e w2 ⟨rfl, hb⟩
    cases h2 : mrk r
    · go_wp2_with fail
      refine (wide_any _ _ (HT.out.below hb)).mono ?_
      rintro e w3 ⟨rfl, hb'⟩
      have HB : Hid (Below w1.heap.size w1 w3) := hb.trans (hb'.mono hb.size)
      clear hb hb'
      cases h3 : wide r
      · go_wp2
        go_ret
        exact ⟨by simp [width, h1, h2, h3], HB.out⟩
      · go_wp2
        go_ret
        exact ⟨by simp [width, h1, h2, h3], HB.out⟩
    · go_wp2
      go_ret
      exact ⟨by simp [width, h2], hb⟩
  · go_wp2
    go_ret
    exact ⟨by simp [width, h1], Below.refl _ _⟩

end Go.Proofs.YtapachlhdgehjaaGreatDoor

/-
  Package cells: what may be (a size, a place, a cell, cells, a screen), rows and blanks.
-/
namespace Go.Proofs.YtapachlhdgehjaaGreatDoor
open Go.RowKit

def vldR (r : Int) : Bool := decide (0 ≤ r ∧ r < 55296 ∨ 57343 < r ∧ r ≤ 1114111)
def okCe (c : Ce) : Bool := vldR c.r && (if width c.r = 1 then !c.wd && !c.tl else if width c.r = 2 then c.wd != c.tl else false)
def okCs (l : List Ce) : Bool := l.all okCe
def szB (a b : Int) : Bool := decide (0 ≤ a ∧ a ≤ 16384 ∧ 0 ≤ b ∧ b ≤ 16384 ∧ a * b ≤ 262144)
def plB (a b x y : Int) : Bool := decide (0 ≤ x ∧ x < a ∧ 0 ≤ y ∧ y < b)
def scE (a b : Int) (l : List Ce) : Int := if szB a b = true ∧ (l.length : Int) = a * b ∧ okCs l = true then 0 else 150
theorem szB_iff {a b : Int} : szB a b = true ↔ 0 ≤ a ∧ a ≤ 16384 ∧ 0 ≤ b ∧ b ≤ 16384 ∧ a * b ≤ 262144 := by simp [szB]
theorem plB_iff {a b x y : Int} : plB a b x y = true ↔ 0 ≤ x ∧ x < a ∧ 0 ≤ y ∧ y < b := by simp [plB]
theorem mul_bd {a b : Int} (h1 : 0 ≤ a) (h2 : a ≤ 16384) (h3 : 0 ≤ b) (h4 : b ≤ 16384) : 0 ≤ a * b ∧ a * b ≤ 268435456 := ⟨Int.mul_nonneg h1 h3, Int.le_trans (Int.mul_le_mul h2 h4 h3 (by omega)) (by decide)⟩

theorem valid_any (r : Int) (w : World) : Calls Tryz.prog 123 #[.int .i32 r] w fun e w' => e = .returned (.bool (vldR r)) ∧ w' = w := by
  have cs : ¬ 0 ≤ r ∨ (0 ≤ r ∧ r < 55296) ∨ (0 ≤ r ∧ ¬ r < 55296 ∧ ¬ 57343 < r) ∨ (0 ≤ r ∧ ¬ r < 55296 ∧ 57343 < r ∧ r ≤ 1114111) ∨ (0 ≤ r ∧ ¬ r < 55296 ∧ 57343 < r ∧ ¬ r ≤ 1114111) := by omega
  rcases cs with c1 | ⟨c1, c2⟩ | ⟨c1, c2, c3⟩ | ⟨c1, c2, c3, c4⟩ | ⟨c1, c2, c3, c4⟩
  · by_cases c3 : 57343 < r
    · exact absurd c3 (by omega)
    · go_enter Tryz.func123, Tryz.ntmps123
      go_wp2
      go_ret
      exact ⟨ret_boolR (by simp [vldR]; omega), rfl⟩
  all_goals
    go_enter Tryz.func123, Tryz.ntmps123
    go_wp2
    go_ret
    exact ⟨ret_boolR (by simp [vldR]; omega), rfl⟩

set_option maxHeartbeats 1000000 in
theorem size_any (a b : Int) (w : World) : Calls Tryz.prog 39 #[.agg #[.int .i64 a, .int .i64 b]] w fun e w' => e = .returned (.bool (szB a b)) ∧ Below w.heap.size w w' := by
  have HL : Hid (∀ c, Below w.heap.size w (w.alloc c)) := fun c => (Below.refl _ w).alloc (Nat.le_refl _) _
  have cs : ¬ 0 ≤ a ∨ (0 ≤ a ∧ ¬ a ≤ 16384) ∨ (0 ≤ a ∧ a ≤ 16384 ∧ ¬ 0 ≤ b) ∨ (0 ≤ a ∧ a ≤ 16384 ∧ 0 ≤ b ∧ ¬ b ≤ 16384) ∨ (0 ≤ a ∧ a ≤ 16384 ∧ 0 ≤ b ∧ b ≤ 16384) := by omega
  rcases cs with c1 | ⟨c1, c2⟩ | ⟨c1, c2, c3⟩ | ⟨c1, c2, c3, c4⟩ | ⟨c1, c2, c3, c4⟩
  rotate_right
  · obtain ⟨m1, m2⟩ := mul_bd c1 c2 c3 c4
    generalize hm : a * b = m at m1 m2
    have hs : szB a b = decide (m ≤ 262144) := by
      rw [Bool.eq_iff_iff, szB_iff, hm]
      simp only [decide_eq_true_eq]
      omega
    have HM : Hid (a * b = m) := hm
    rw [hs]
    rw [← hm] at m1 m2 ⊢
    clear hs hm
    go_enter Tryz.func39, Tryz.ntmps39
    go_wp2
    go_ret
    exact ⟨rfl, HL.out _⟩
  all_goals
    have hs : szB a b = false := by
      rw [← Bool.not_eq_true, szB_iff]
      omega
    rw [hs]
    clear hs
    go_enter Tryz.func39, Tryz.ntmps39
    go_wp2
    go_ret
    exact ⟨rfl, HL.out _⟩

set_option maxHeartbeats 1000000 in
theorem place_any (a b x y : Int) (w : World) : Calls Tryz.prog 80 #[.agg #[.int .i64 a, .int .i64 b], .agg #[.int .i64 x, .int .i64 y]] w fun e w' => e = .returned (.bool (plB a b x y)) ∧ Below w.heap.size w w' := by
  have HL : Hid (∀ c d, Below w.heap.size w ((w.alloc c).alloc d)) := fun c d => ((Below.refl _ w).alloc (Nat.le_refl _) _).alloc (by simp) _
  have cs : ¬ 0 ≤ x ∨ (0 ≤ x ∧ ¬ x < a) ∨ (0 ≤ x ∧ x < a ∧ ¬ 0 ≤ y) ∨ (0 ≤ x ∧ x < a ∧ 0 ≤ y ∧ ¬ y < b) ∨ (0 ≤ x ∧ x < a ∧ 0 ≤ y ∧ y < b) := by omega
  rcases cs with c1 | ⟨c1, c2⟩ | ⟨c1, c2, c3⟩ | ⟨c1, c2, c3, c4⟩ | ⟨c1, c2, c3, c4⟩
  all_goals
    go_enter Tryz.func80, Tryz.ntmps80
    go_wp2
    go_ret
    exact ⟨ret_boolR (by simp [plB]; omega), HL.out _ _⟩

set_option maxHeartbeats 1000000 in
theorem cellOk_any (c : Ce) (w : World) (T : Tabs w) : Calls Tryz.prog 88 #[(Value.agg #[.int .i32 c.r, .int .u8 c.c.r, .int .u8 c.c.g, .int .u8 c.c.b, .int .u8 c.c.a, .int .u8 c.b.r, .int .u8 c.b.g, .int .u8 c.b.b, .int .u8 c.b.a, .bool c.wd, .bool c.tl])] w fun e w' => e = .returned (.bool (okCe c)) ∧ Below w.heap.size w w' := by
  have HB : Hid (∀ W, Below (w.alloc (.cells (#[.int .i32 c.r, .int .u8 c.c.r, .int .u8 c.c.g, .int .u8 c.c.b, .int .u8 c.c.a, .int .u8 c.b.r, .int .u8 c.b.g, .int .u8 c.b.b, .int .u8 c.b.a, .bool c.wd, .bool c.tl]) 65)).heap.size (w.alloc (.cells (#[.int .i32 c.r, .int .u8 c.c.r, .int .u8 c.c.g, .int .u8 c.c.b, .int .u8 c.c.a, .int .u8 c.b.r, .int .u8 c.b.g, .int .u8 c.b.b, .int .u8 c.b.a, .bool c.wd, .bool c.tl]) 65)) W → Bk W w.heap.size (#[.int .i32 c.r, .int .u8 c.c.r, .int .u8 c.c.g, .int .u8 c.c.b, .int .u8 c.c.a, .int .u8 c.b.r, .int .u8 c.b.g, .int .u8 c.b.b, .int .u8 c.b.a, .bool c.wd, .bool c.tl]) 65 ∧ Below w.heap.size w W) := fun W h => ⟨(Bk.new w _ _).below h, ((Below.refl _ w).alloc (Nat.le_refl _) _).trans (h.mono (by simp))⟩
  have HT : Hid (∀ W, Below w.heap.size w W → Tabs W) := fun W h => T.below h
  have HL : Hid (∀ c, Below w.heap.size w (w.alloc c)) := fun c => (Below.refl _ w).alloc (Nat.le_refl _) _
  clear T
  go_enter Tryz.func88, Tryz.ntmps88
  go_wp2_with fail
  refine (valid_any _ _).mono ?_
  rintro e w1 ⟨rfl, rfl⟩
  cases hv : vldR c.r
  · go_wp2
    go_ret
    exact ⟨by simp [okCe, hv], HL.out _⟩
  · go_wp2_with fail
    refine (width_any _ _ (HT.out _ (HL.out _))).mono ?_
    rintro e w2 ⟨rfl, hb⟩
    obtain ⟨B1, B2⟩ := HB.out _ hb
    have H1 : Hid (Below w.heap.size w w2) := B2
    have cc := B1.cell
    have a9 := cc 9
    have a10 := cc 10
    simp only [List.getElem?_toArray, List.getElem?_cons_zero, List.getElem?_cons_succ] at a9 a10
    have HO : Hid (okCe c = (if width c.r = 1 then !c.wd && !c.tl else if width c.r = 2 then c.wd != c.tl else false)) := by
      show okCe c = _
      unfold okCe
      rw [hv, Bool.true_and]
    clear hb B1 B2 cc HB HT HL
    generalize width c.r = n at *
    by_cases h1 : n = 1
    · subst h1
      cases hw : c.wd <;> cases ht : c.tl
      all_goals
        rw [hw] at a9
        rw [ht] at a10
        go_wp2
        go_ret
        exact ⟨by rw [HO.out]; simp [hw, ht], H1.out⟩
    · by_cases h2 : n = 2
      · subst h2
        cases hw : c.wd <;> cases ht : c.tl
        all_goals
          rw [hw] at a9
          rw [ht] at a10
          go_wp2
          go_ret
          exact ⟨by rw [HO.out]; simp [hw, ht], H1.out⟩
      · go_wp2
        go_ret
        exact ⟨by rw [HO.out, if_neg h1, if_neg h2]; rfl, H1.out⟩

theorem all_step {l : List Ce} {k : Nat} (h : k < l.length) (hk : (l.take k).all okCe = true) (ho : okCe l[k] = true) : (l.take (k + 1)).all okCe = true := by
  rw [List.take_add_one, List.all_append, hk, Bool.true_and, List.getElem?_eq_getElem h]
  simp [ho]
theorem all_fail {l : List Ce} {k : Nat} (h : k < l.length) (ho : okCe l[k] = false) : okCs l = false := by
  unfold okCs
  rw [← Bool.not_eq_true, List.all_eq_true]
  intro q
  have := q l[k] (List.getElem_mem h)
  rw [ho] at this
  cases this

set_option maxHeartbeats 2000000 in
theorem cellsOk_any (l : List Ce) (v : Value) (w : World) (hv : LsC w v l) (hl : l.length ≤ 9223372036854775806) (T : Tabs w) : Calls Tryz.prog 54 #[v] w fun e w' => e = .returned (.bool (okCs l)) ∧ Below w.heap.size w w' := by
  obtain ⟨oa, cap, rfl, hcap, hg⟩ := hv
  have HG : Hid (0 < l.length → ∃ g o, oa = some ⟨g, o, none⟩ ∧ g < w.heap.size ∧ ∀ i (h : i < l.length), CeAt w g (o + i * 11) l[i]) := hg
  have HT : Hid (∀ W, Below w.heap.size w W → Tabs W) := fun W h => T.below h
  clear hg T
  go_enter Tryz.func54, Tryz.ntmps54
  go_wp2
  go_loopw [7] (fun i wr => ∃ k : Nat, k ≤ l.length ∧ i = .int .i64 k ∧ (l.take k).all okCe = true ∧ Below w.heap.size w wr) (fun i _ => l.length - (intOf i).toNat)
  case atStart => exact ⟨0, Nat.zero_le _, rfl, by simp, Below.refl _ _⟩
  case round =>
    obtain ⟨k, hk, rfl, hall, hw⟩ := hrel
    by_cases hlt : k < l.length
    · obtain ⟨g, o, rfl, g1, g2⟩ := HG.out (by omega)
      obtain ⟨d0, d1, d2, d3, d4, d5, d6, d7, d8, d9, d10⟩ : CeAt wr g (o + k * 11) l[k] := (g2 k hlt).kept fun j => hw.cell (p := ⟨g, j, none⟩) g1
      have HC : Hid (∀ W, Below w.heap.size w W → Calls Tryz.prog 88 #[(Value.agg #[.int .i32 l[k].r, .int .u8 l[k].c.r, .int .u8 l[k].c.g, .int .u8 l[k].c.b, .int .u8 l[k].c.a, .int .u8 l[k].b.r, .int .u8 l[k].b.g, .int .u8 l[k].b.b, .int .u8 l[k].b.a, .bool l[k].wd, .bool l[k].tl])] W fun e w' => e = .returned (.bool (okCe l[k])) ∧ Below W.heap.size W w') := fun W h => cellOk_any _ W (HT.out W h)
      have HA : Hid ((l.take k).all okCe = true ∧ Below w.heap.size w wr ∧ (okCe l[k] = true → (l.take (k + 1)).all okCe = true) ∧ (okCe l[k] = false → okCs l = false)) := ⟨hall, hw, all_step hlt hall, all_fail hlt⟩
      have gl := Nat.lt_of_lt_of_le g1 hw.size
      clear hall hw g2 g1
      generalize l[k] = c at *
      go_wp2_with fail
      refine (HC.out _ ?_).mono ?_
      · exact HA.out.2.1.alloc HA.out.2.1.size _
      rintro e w1 ⟨rfl, hb⟩
      have HB : Hid (Below w.heap.size w w1) := (HA.out.2.1.alloc HA.out.2.1.size _).trans (hb.mono (HA.out.2.1.alloc HA.out.2.1.size _).size)
      clear hb
      cases ho : okCe c
      · go_wp2
        go_ret
        exact ⟨by rw [HA.out.2.2.2 ho]; rfl, HB.out⟩
      · go_wp2
        go_roundw
        case rel => exact ⟨k + 1, by omega, by go_num, HA.out.2.2.1 ho, HB.out⟩
        case measure => simp [intOf]; omega
    · go_wp2
      go_ret
      refine ⟨?_, hw⟩
      have : k = l.length := by omega
      subst this
      rw [List.take_length] at hall
      rw [show okCs l = true from hall]
      rfl

end Go.Proofs.YtapachlhdgehjaaGreatDoor

/-
  Package cells: Check, blank, row, At, copied.
-/
namespace Go.Proofs.YtapachlhdgehjaaGreatDoor
open Go.RowKit

theorem mulB {a b : Int} (h : szB a b = true) : 0 ≤ a * b ∧ a * b ≤ 262144 := by
  obtain ⟨h1, h2, h3, h4, h5⟩ := szB_iff.1 h
  exact ⟨Int.mul_nonneg h1 h3, h5⟩

theorem Bk.at3S {W : World} {b : Nat} {a0 a1 a2 : Value} {t : TypeId} (h : Bk W b #[a0, a1, a2] t) : W.cell? ⟨b, 0, none⟩ = some a0 ∧ W.cell? ⟨b, 1, none⟩ = some a1 ∧ W.cell? ⟨b, 2, none⟩ = some a2 := ⟨by rw [h.cell]; rfl, by rw [h.cell]; rfl, by rw [h.cell]; rfl⟩

set_option maxRecDepth 10000 in
set_option maxHeartbeats 2000000 in
theorem checkC_any (a b : Int) (l : List Ce) (v : Value) (w : World) (hv : LsC w v l) (hl : l.length ≤ 9223372036854775806) (T : Tabs w) : Calls Tryz.prog 26 #[.agg #[.int .i64 a, .int .i64 b, v]] w fun e w' => e = .returned (.int .i64 (scE a b l)) ∧ Below w.heap.size w w' := by
  obtain ⟨oa, cap, rfl, hcap, hg⟩ := id hv
  have HB : Hid (∀ W, Below (w.alloc (.cells #[.int .i64 a, .int .i64 b, .slice oa l.length cap] 26)).heap.size (w.alloc (.cells #[.int .i64 a, .int .i64 b, .slice oa l.length cap] 26)) W → Bk W w.heap.size #[.int .i64 a, .int .i64 b, .slice oa l.length cap] 26 ∧ Below w.heap.size w W) := fun W h => ⟨(Bk.new w _ _).below h, ((Below.refl _ w).alloc (Nat.le_refl _) _).trans (h.mono (by simp))⟩
  have HC : Hid (∀ W, Below w.heap.size w W → Calls Tryz.prog 54 #[.slice oa l.length cap] W fun e w' => e = .returned (.bool (okCs l)) ∧ Below W.heap.size W w') := fun W h => cellsOk_any l _ W (hv.below h) hl (T.below h)
  clear hg hv T
  go_enter Tryz.func26, Tryz.ntmps26
  go_wp2_with fail
  refine (size_any _ _ _).mono ?_
  rintro e w1 ⟨rfl, hb⟩
  obtain ⟨B1, B2⟩ := HB.out _ hb
  have H1 : Hid (Below w.heap.size w w1) := B2
  cases hs : szB a b
  · have he : scE a b l = 150 := by unfold scE; rw [hs, if_neg (by simp)]
    clear hb B1 B2 HB HC
    go_wp2
    go_ret
    exact ⟨by rw [he]; rfl, H1.out⟩
  · obtain ⟨m1, m2⟩ := mulB hs
    obtain ⟨a0, a1, a2⟩ := Bk.at3S B1
    have HS : Hid (szB a b = true) := hs
    clear hb hs
    by_cases hq : (l.length : Int) = a * b
    · have e1 : scE a b l = if okCs l = true then 0 else 150 := by unfold scE; rw [HS.out]; simp [hq]
      clear HB B1 B2
      go_wp2_with fail
      refine (HC.out _ H1.out).mono ?_
      rintro e w2 ⟨rfl, hb2⟩
      have H2 : Hid (Below w.heap.size w w2) := H1.out.trans (hb2.mono H1.out.size)
      clear hb2 H1 HC
      cases ho : okCs l
      · go_wp2
        go_ret
        exact ⟨by rw [e1, ho]; rfl, H2.out⟩
      · go_wp2
        go_ret
        exact ⟨by rw [e1, ho]; rfl, H2.out⟩
    · have e1 : scE a b l = 150 := by unfold scE; rw [if_neg]; rintro ⟨_, h, _⟩; exact hq h
      clear HB B1 B2 HC
      go_wp2
      go_ret
      exact ⟨by rw [e1]; rfl, H1.out⟩

theorem blank_any (c : Co) (w : World) : Calls Tryz.prog 41 #[(Value.agg #[.int .u8 c.r, .int .u8 c.g, .int .u8 c.b, .int .u8 c.a])] w fun e w' => e = .returned (Value.agg #[.int .i32 (⟨32, coZ, c, false, false⟩ : Ce).r, .int .u8 (⟨32, coZ, c, false, false⟩ : Ce).c.r, .int .u8 (⟨32, coZ, c, false, false⟩ : Ce).c.g, .int .u8 (⟨32, coZ, c, false, false⟩ : Ce).c.b, .int .u8 (⟨32, coZ, c, false, false⟩ : Ce).c.a, .int .u8 (⟨32, coZ, c, false, false⟩ : Ce).b.r, .int .u8 (⟨32, coZ, c, false, false⟩ : Ce).b.g, .int .u8 (⟨32, coZ, c, false, false⟩ : Ce).b.b, .int .u8 (⟨32, coZ, c, false, false⟩ : Ce).b.a, .bool (⟨32, coZ, c, false, false⟩ : Ce).wd, .bool (⟨32, coZ, c, false, false⟩ : Ce).tl]) ∧ Below w.heap.size w w' := by
  have HL : Hid (∀ c d, Below w.heap.size w ((w.alloc c).alloc d)) := fun c d => ((Below.refl _ w).alloc (Nat.le_refl _) _).alloc (by simp) _
  go_enter Tryz.func41, Tryz.ntmps41
  go_wp2
  exact bodyPost_ret (v := (Value.agg #[.int .i32 (⟨32, coZ, c, false, false⟩ : Ce).r, .int .u8 (⟨32, coZ, c, false, false⟩ : Ce).c.r, .int .u8 (⟨32, coZ, c, false, false⟩ : Ce).c.g, .int .u8 (⟨32, coZ, c, false, false⟩ : Ce).c.b, .int .u8 (⟨32, coZ, c, false, false⟩ : Ce).c.a, .int .u8 (⟨32, coZ, c, false, false⟩ : Ce).b.r, .int .u8 (⟨32, coZ, c, false, false⟩ : Ce).b.g, .int .u8 (⟨32, coZ, c, false, false⟩ : Ce).b.b, .int .u8 (⟨32, coZ, c, false, false⟩ : Ce).b.a, .bool (⟨32, coZ, c, false, false⟩ : Ce).wd, .bool (⟨32, coZ, c, false, false⟩ : Ce).tl])) (by simp [results, Tryz.results41, go_sem, coZ]) rfl ⟨rfl, HL.out _ _⟩

theorem rowC_any (a b y : Int) (g o n cap : Nat) (w : World) (hs : szB a b = true) (hn : (n : Int) = a * b) (hc : n ≤ cap) (hy : 0 ≤ y) (hyb : y < b) (ha : 0 < a) (p : Nat) (hp : (p : Int) = y * a) (m : Nat) (hm : (m : Int) = a) :
    Calls Tryz.prog 45 #[.agg #[.int .i64 a, .int .i64 b, .slice (some ⟨g, o, none⟩) n cap], .int .i64 y] w fun e w' => e = .returned (.slice (some ⟨g, o + p * 11, none⟩) m (cap - p)) ∧ Below w.heap.size w w' := by
  have HL : Hid (∀ c, Below w.heap.size w (w.alloc c)) := fun c => (Below.refl _ w).alloc (Nat.le_refl _) _
  obtain ⟨h1, h2, h3, h4, h5⟩ := szB_iff.1 hs
  have hq : (y + 1) * a = y * a + a := by rw [Int.add_mul, Int.one_mul]
  have hle : y * a + a ≤ a * b := by rw [← hq, Int.mul_comm a b]; exact Int.mul_le_mul_of_nonneg_right (by omega) h1
  have k1 : 0 ≤ y * a := Int.mul_nonneg hy h1
  rw [← hp] at hq hle k1
  rw [← hn] at hle h5
  have hpc : p < cap := by omega
  have hpm : p + m ≤ cap := by omega
  have hy2 : y ≤ 16384 := by omega
  have e1 : y * a = (p : Int) := hp.symm
  clear hs hp
  subst hm
  go_enter Tryz.func45, Tryz.ntmps45
  go_wp2
  go_ret
  refine ⟨?_, HL.out _⟩
  show Ending.returned (.slice (some ⟨g, o + p * 11, none⟩) (p + m - p) (cap - p)) = _
  rw [Nat.add_sub_cancel_left]

end Go.Proofs.YtapachlhdgehjaaGreatDoor

/-
  Cells written over in memory of one's own.
-/
namespace Go.Proofs.YtapachlhdgehjaaGreatDoor
open Go.RowKit

def ScM (lo : Nat) (w : World) (g n cap : Nat) (L : List Ce) : Prop := L.length = n ∧ w.ownsRow lo 65 11 (.slice (some ⟨g, 0, none⟩) n cap) n (flatC L)
theorem ScM.own {lo : Nat} {w : World} {g n cap : Nat} {L : List Ce} (h : ScM lo w g n cap L) : OwC lo w (.slice (some ⟨g, 0, none⟩) n cap) L := by
  unfold OwC
  rw [h.1]
  exact h.2
theorem ScM.below {lo : Nat} {w w' : World} {g n cap : Nat} {L : List Ce} (h : ScM lo w g n cap L) (hb : Below w.heap.size w w') : ScM lo w' g n cap L := ⟨h.1, row_below h.2 hb⟩
theorem ScM.lt {lo : Nat} {w : World} {g n cap : Nat} {L : List Ce} (h : ScM lo w g n cap L) : lo ≤ g ∧ g < w.heap.size := row_lt h.2 g rfl
theorem ScM.cap {lo : Nat} {w : World} {g n cap : Nat} {L : List Ce} (h : ScM lo w g n cap L) : n ≤ cap := by
  obtain ⟨_, ⟨h, _⟩ | ⟨g', cap', cur, h, hb, hc, h1, _⟩⟩ := h.2
  · cases h
  · injection h with _ _ e3
    subst e3
    exact h1
theorem ScM.at {lo : Nat} {w : World} {g n cap : Nat} {L : List Ce} (h : ScM lo w g n cap L) (k : Nat) (hk : k < L.length) : CeAt w g (k * 11) L[k] := by
  rw [ceat_iff]
  intro j hj
  rw [own_cell h.2 (k * 11 + j) (by have := h.1; omega), flatC_at L k hk j hj]
theorem ScM.frozen {lo : Nat} {w : World} {g n cap : Nat} {L : List Ce} (h : ScM lo w g n cap L) (j : Nat) : w.frozen? ⟨g, j, none⟩ = false := own_frozen h.2 j
theorem OwC.scm {lo : Nat} {w : World} {v : Value} {L : List Ce} (h : OwC lo w v L) (hp : 0 < L.length) : ∃ g cap, v = .slice (some ⟨g, 0, none⟩) L.length cap ∧ ScM lo w g L.length cap L := by
  obtain ⟨hl, ⟨rfl, h0⟩ | ⟨g, cap, cur, rfl, hb, hc, h1, h2, h3, h4⟩⟩ := id h
  · omega
  · exact ⟨g, cap, rfl, rfl, h⟩

theorem flatC_put : ∀ (L : List Ce) (k : Nat) (_ : k < L.length) (c : Ce), (((((((((((flatC L).set (k * 11) (.int .i32 c.r)).set (k * 11 + 1) (.int .u8 c.c.r)).set (k * 11 + 2) (.int .u8 c.c.g)).set (k * 11 + 3) (.int .u8 c.c.b)).set (k * 11 + 4) (.int .u8 c.c.a)).set (k * 11 + 5) (.int .u8 c.b.r)).set (k * 11 + 6) (.int .u8 c.b.g)).set (k * 11 + 7) (.int .u8 c.b.b)).set (k * 11 + 8) (.int .u8 c.b.a)).set (k * 11 + 9) (.bool c.wd)).set (k * 11 + 10) (.bool c.tl) = flatC (L.set k c)
  | [], k, h, _ => absurd h (Nat.not_lt_zero _)
  | s :: L, 0, _, c => rfl
  | s :: L, k + 1, h, c => by
    have h' : k < L.length := by simpa using h
    have ih := flatC_put L k h' c
    have e : ∀ (X : List Value) (j : Nat) (v : Value), (cCel s ++ X).set ((k + 1) * 11 + j) v = cCel s ++ X.set (k * 11 + j) v := fun X j v => by
      rw [List.set_append_right _ _ (by rw [cCel_len]; omega), cCel_len]
      congr 2
      omega
    have e0 := fun X v => e X 0 v
    simp only [Nat.add_zero] at e0
    show (((((((((((cCel s ++ flatC L).set ((k + 1) * 11) (.int .i32 c.r)).set ((k + 1) * 11 + 1) (.int .u8 c.c.r)).set ((k + 1) * 11 + 2) (.int .u8 c.c.g)).set ((k + 1) * 11 + 3) (.int .u8 c.c.b)).set ((k + 1) * 11 + 4) (.int .u8 c.c.a)).set ((k + 1) * 11 + 5) (.int .u8 c.b.r)).set ((k + 1) * 11 + 6) (.int .u8 c.b.g)).set ((k + 1) * 11 + 7) (.int .u8 c.b.b)).set ((k + 1) * 11 + 8) (.int .u8 c.b.a)).set ((k + 1) * 11 + 9) (.bool c.wd)).set ((k + 1) * 11 + 10) (.bool c.tl) = _
    rw [e0, e, e, e, e, e, e, e, e, e, e, ih]
    rfl
theorem flatC_fore : ∀ (L : List Ce) (k : Nat) (h : k < L.length) (c : Ce), ((((flatC L).set (k * 11 + 1) (.int .u8 c.c.r)).set (k * 11 + 2) (.int .u8 c.c.g)).set (k * 11 + 3) (.int .u8 c.c.b)).set (k * 11 + 4) (.int .u8 c.c.a) = flatC (L.set k ⟨L[k].r, c.c, L[k].b, L[k].wd, L[k].tl⟩)
  | [], k, h, _ => absurd h (Nat.not_lt_zero _)
  | s :: L, 0, _, c => rfl
  | s :: L, k + 1, h, c => by
    have h' : k < L.length := by simpa using h
    have ih := flatC_fore L k h' c
    have e : ∀ (X : List Value) (j : Nat) (v : Value), (cCel s ++ X).set ((k + 1) * 11 + j) v = cCel s ++ X.set (k * 11 + j) v := fun X j v => by
      rw [List.set_append_right _ _ (by rw [cCel_len]; omega), cCel_len]
      congr 2
      omega
    show ((((cCel s ++ flatC L).set ((k + 1) * 11 + 1) (.int .u8 c.c.r)).set ((k + 1) * 11 + 2) (.int .u8 c.c.g)).set ((k + 1) * 11 + 3) (.int .u8 c.c.b)).set ((k + 1) * 11 + 4) (.int .u8 c.c.a) = _
    rw [e, e, e, e, ih]
    rfl
theorem flatC_back : ∀ (L : List Ce) (k : Nat) (h : k < L.length) (c : Ce), ((((flatC L).set (k * 11 + 5) (.int .u8 c.b.r)).set (k * 11 + 6) (.int .u8 c.b.g)).set (k * 11 + 7) (.int .u8 c.b.b)).set (k * 11 + 8) (.int .u8 c.b.a) = flatC (L.set k ⟨L[k].r, L[k].c, c.b, L[k].wd, L[k].tl⟩)
  | [], k, h, _ => absurd h (Nat.not_lt_zero _)
  | s :: L, 0, _, c => rfl
  | s :: L, k + 1, h, c => by
    have h' : k < L.length := by simpa using h
    have ih := flatC_back L k h' c
    have e : ∀ (X : List Value) (j : Nat) (v : Value), (cCel s ++ X).set ((k + 1) * 11 + j) v = cCel s ++ X.set (k * 11 + j) v := fun X j v => by
      rw [List.set_append_right _ _ (by rw [cCel_len]; omega), cCel_len]
      congr 2
      omega
    show ((((cCel s ++ flatC L).set ((k + 1) * 11 + 5) (.int .u8 c.b.r)).set ((k + 1) * 11 + 6) (.int .u8 c.b.g)).set ((k + 1) * 11 + 7) (.int .u8 c.b.b)).set ((k + 1) * 11 + 8) (.int .u8 c.b.a) = _
    rw [e, e, e, e, ih]
    rfl
theorem ScM.put {lo : Nat} {w : World} {g n cap : Nat} {L : List Ce} (h : ScM lo w g n cap L) (k : Nat) (hk : k < L.length) (p : Nat) (hp : p = k * 11) (c : Ce) : ScM lo ((((((((((((w).setCell ⟨g, p, none⟩ (.int .i32 c.r)).setCell ⟨g, p + 1, none⟩ (.int .u8 c.c.r)).setCell ⟨g, p + 2, none⟩ (.int .u8 c.c.g)).setCell ⟨g, p + 3, none⟩ (.int .u8 c.c.b)).setCell ⟨g, p + 4, none⟩ (.int .u8 c.c.a)).setCell ⟨g, p + 5, none⟩ (.int .u8 c.b.r)).setCell ⟨g, p + 6, none⟩ (.int .u8 c.b.g)).setCell ⟨g, p + 7, none⟩ (.int .u8 c.b.b)).setCell ⟨g, p + 8, none⟩ (.int .u8 c.b.a)).setCell ⟨g, p + 9, none⟩ (.bool c.wd)).setCell ⟨g, p + 10, none⟩ (.bool c.tl)) g n cap (L.set k c) := by
  subst hp
  refine ⟨by rw [List.length_set]; exact h.1, ?_⟩
  rw [← flatC_put L k hk c]
  exact own_set (own_set (own_set (own_set (own_set (own_set (own_set (own_set (own_set (own_set (own_set (h.2) _ _) _ _) _ _) _ _) _ _) _ _) _ _) _ _) _ _) _ _) _ _
theorem ScM.fore {lo : Nat} {w : World} {g n cap : Nat} {L : List Ce} (h : ScM lo w g n cap L) (k : Nat) (hk : k < L.length) (p : Nat) (hp : p = k * 11) (c : Ce) : ScM lo (((((w).setCell ⟨g, p + 1, none⟩ (.int .u8 c.c.r)).setCell ⟨g, p + 2, none⟩ (.int .u8 c.c.g)).setCell ⟨g, p + 3, none⟩ (.int .u8 c.c.b)).setCell ⟨g, p + 4, none⟩ (.int .u8 c.c.a)) g n cap (L.set k ⟨L[k].r, c.c, L[k].b, L[k].wd, L[k].tl⟩) := by
  subst hp
  refine ⟨by rw [List.length_set]; exact h.1, ?_⟩
  rw [← flatC_fore L k hk c]
  exact own_set (own_set (own_set (own_set (h.2) _ _) _ _) _ _) _ _
theorem ScM.back {lo : Nat} {w : World} {g n cap : Nat} {L : List Ce} (h : ScM lo w g n cap L) (k : Nat) (hk : k < L.length) (p : Nat) (hp : p = k * 11) (c : Ce) : ScM lo (((((w).setCell ⟨g, p + 5, none⟩ (.int .u8 c.b.r)).setCell ⟨g, p + 6, none⟩ (.int .u8 c.b.g)).setCell ⟨g, p + 7, none⟩ (.int .u8 c.b.b)).setCell ⟨g, p + 8, none⟩ (.int .u8 c.b.a)) g n cap (L.set k ⟨L[k].r, L[k].c, c.b, L[k].wd, L[k].tl⟩) := by
  subst hp
  refine ⟨by rw [List.length_set]; exact h.1, ?_⟩
  rw [← flatC_back L k hk c]
  exact own_set (own_set (own_set (own_set (h.2) _ _) _ _) _ _) _ _
theorem ob_transC {w W W' : World} {r : Option Nat} (h : w.grownBy W r) (k : W.grownBy W' r) : w.grownBy W' r := 
  ⟨k.os.trans h.os, k.tape.trans h.tape, k.output.trans h.output, Nat.le_trans h.size k.size, fun b hb hr => (k.block b (Nat.lt_of_lt_of_le hb h.size) hr).trans (h.block b hb hr)⟩
theorem ob_setC (w : World) (g o : Nat) (v : Value) : w.grownBy (w.setCell ⟨g, o, none⟩ v) (some g) := 
  ⟨rfl, rfl, rfl, ((Below.refl 0 w).setCell (p := ⟨g, o, none⟩) (Nat.zero_le _) v).size, fun b _ hb => Below.heap_setCell _ _ _ b (fun e => hb (by rw [e]))⟩
theorem ob_putC (w : World) (g p : Nat) (c : Ce) : w.grownBy ((((((((((((w).setCell ⟨g, p, none⟩ (.int .i32 c.r)).setCell ⟨g, p + 1, none⟩ (.int .u8 c.c.r)).setCell ⟨g, p + 2, none⟩ (.int .u8 c.c.g)).setCell ⟨g, p + 3, none⟩ (.int .u8 c.c.b)).setCell ⟨g, p + 4, none⟩ (.int .u8 c.c.a)).setCell ⟨g, p + 5, none⟩ (.int .u8 c.b.r)).setCell ⟨g, p + 6, none⟩ (.int .u8 c.b.g)).setCell ⟨g, p + 7, none⟩ (.int .u8 c.b.b)).setCell ⟨g, p + 8, none⟩ (.int .u8 c.b.a)).setCell ⟨g, p + 9, none⟩ (.bool c.wd)).setCell ⟨g, p + 10, none⟩ (.bool c.tl)) (some g) :=
  ob_transC (ob_transC (ob_transC (ob_transC (ob_transC (ob_transC (ob_transC (ob_transC (ob_transC (ob_transC (ob_setC _ _ _ _) (ob_setC _ _ _ _)) (ob_setC _ _ _ _)) (ob_setC _ _ _ _)) (ob_setC _ _ _ _)) (ob_setC _ _ _ _)) (ob_setC _ _ _ _)) (ob_setC _ _ _ _)) (ob_setC _ _ _ _)) (ob_setC _ _ _ _)) (ob_setC _ _ _ _)
theorem ob_foreC (w : World) (g p : Nat) (c : Ce) : w.grownBy (((((w).setCell ⟨g, p + 1, none⟩ (.int .u8 c.c.r)).setCell ⟨g, p + 2, none⟩ (.int .u8 c.c.g)).setCell ⟨g, p + 3, none⟩ (.int .u8 c.c.b)).setCell ⟨g, p + 4, none⟩ (.int .u8 c.c.a)) (some g) :=
  ob_transC (ob_transC (ob_transC (ob_setC _ _ _ _) (ob_setC _ _ _ _)) (ob_setC _ _ _ _)) (ob_setC _ _ _ _)
theorem ob_backC (w : World) (g p : Nat) (c : Ce) : w.grownBy (((((w).setCell ⟨g, p + 5, none⟩ (.int .u8 c.b.r)).setCell ⟨g, p + 6, none⟩ (.int .u8 c.b.g)).setCell ⟨g, p + 7, none⟩ (.int .u8 c.b.b)).setCell ⟨g, p + 8, none⟩ (.int .u8 c.b.a)) (some g) :=
  ob_transC (ob_transC (ob_transC (ob_setC _ _ _ _) (ob_setC _ _ _ _)) (ob_setC _ _ _ _)) (ob_setC _ _ _ _)

def updR (L : List Ce) (o m : Nat) (f : Nat → Ce → Ce) : List Ce := L.mapIdx fun k c => if o ≤ k ∧ k < o + m then f k c else c
theorem updR_len (L : List Ce) (o m : Nat) (f : Nat → Ce → Ce) : (updR L o m f).length = L.length := by simp [updR]
theorem updR_at (L : List Ce) (o m : Nat) (f : Nat → Ce → Ce) (k : Nat) (h : k < (updR L o m f).length) : (updR L o m f)[k] = if o ≤ k ∧ k < o + m then f k (L[k]'(by rw [updR_len] at h; exact h)) else L[k]'(by rw [updR_len] at h; exact h) := by simp [updR]
theorem updR_zero (L : List Ce) (o : Nat) (f : Nat → Ce → Ce) : updR L o 0 f = L := by
  apply List.ext_getElem (updR_len _ _ _ _)
  intro k h1 h2
  rw [updR_at, if_neg (by omega)]
theorem updR_next (L : List Ce) (o m : Nat) (f : Nat → Ce → Ce) (h : o + m < L.length) : (updR L o m f).set (o + m) (f (o + m) L[o + m]) = updR L o (m + 1) f := by
  apply List.ext_getElem (by rw [List.length_set, updR_len, updR_len])
  intro k h1 h2
  rw [List.getElem_set, updR_at L o (m + 1) f k h2]
  by_cases e : o + m = k
  · subst e
    rw [if_pos rfl, if_pos (by omega)]
  · rw [if_neg e, updR_at]
    by_cases c : o ≤ k ∧ k < o + m
    · rw [if_pos c, if_pos (by omega)]
    · rw [if_neg c, if_neg (by omega)]
theorem updR_own (L : List Ce) (o m : Nat) (f : Nat → Ce → Ce) (h : o + m < L.length) : (updR L o m f)[o + m]'(by rw [updR_len]; exact h) = L[o + m] := by
  rw [updR_at, if_neg (by omega)]

end Go.Proofs.YtapachlhdgehjaaGreatDoor
