/-
  Texts of this claim, one behind the other: what each is about stands ahead of it.
-/
import Derived.RangeFuncNested
import Derived.RangeFuncBound
import Derived.RangeFuncCalls
import Derived.RangeFuncLeaves
import Derived.RangeFuncBox
import Derived.Laws.Rows
import Derived.Lib.OthersKept
import Derived.Test.YtcahdmfmcojaoaaGreatDoorChecked
import Derived.Test.YtcahdmfmcojaoaaGreatDoorK6
import Derived.WalkKit
import Derived.WalkSpells
import Derived.WalkLawsBesides
import Derived.Test.YtcahdmfmcojaoaaGreatDoorK5
import Derived.Deep.RegionWith
import Derived.Deep.DeepCutAuto
/-
  A range over an iterator that keeps a variable of its own in cells (one block, the first that it lays): the caller's law, and what the iterator owes.
-/
namespace Go.Proofs.YtcahdmfmcojaoaaGreatDoor
open Go.RowKit

variable {F : Fence} {n : Nat} {P : Program}

def Stores {β : Type} (b : Nat) (J : β → World → Prop) : Prop := ∀ s W o v, J s W → J s (W.setCell ⟨b, o, none⟩ v)

theorem same_set {W : World} {p : Addr} {v : Value} {k : Nat} {o : Obj} (h : W.heap[k]? = some o) (hk : p.block ≠ k) : (W.setCell p v).heap[k]? = some o := by
  exact (Below.heap_setCell _ _ _ k (fun e => hk e.symm)).trans h

def Blk (W : World) (b : Nat) (vs : Array Value) (t : TypeId) : Prop := W.heap[b]? = some (.cells vs t)
theorem Blk.lt {W : World} {b : Nat} {vs : Array Value} {t : TypeId} (h : Blk W b vs t) : b < W.heap.size := (Array.getElem?_eq_some_iff.1 h).1
theorem Blk.cell {W : World} {b : Nat} {vs : Array Value} {t : TypeId} (h : Blk W b vs t) (o : Nat) : W.cell? ⟨b, o, none⟩ = vs[o]? := by
  simp [World.cell?, show W.heap[b]? = _ from h]
theorem Blk.frozen {W : World} {b : Nat} {vs : Array Value} {t : TypeId} (h : Blk W b vs t) (o : Nat) : W.frozen? ⟨b, o, none⟩ = false := by
  simp [World.frozen?, show W.heap[b]? = _ from h]
theorem Blk.below {W W' : World} {b : Nat} {vs : Array Value} {t : TypeId} (h : Blk W b vs t) (hb : Below W.heap.size W W') : Blk W' b vs t := (hb.block b h.lt).trans h
theorem Blk.alloc {W : World} {b : Nat} {vs : Array Value} {t : TypeId} (h : Blk W b vs t) (o : Obj) : Blk (W.alloc o) b vs t := h.below ((Below.refl _ _).alloc (Nat.le_refl _) o)
theorem Blk.new (W : World) (vs : Array Value) (t : TypeId) : Blk (W.alloc (.cells vs t)) W.heap.size vs t := World.alloc_heap_new W _
theorem Blk.put {W : World} {b : Nat} {vs : Array Value} {t : TypeId} (h : Blk W b vs t) (o : Nat) (v : Value) : Blk (W.setCell ⟨b, o, none⟩ v) b (vs.setIfInBounds o v) t := heap_setCell_same W b o vs t v h
theorem Blk.put4 {W : World} {b : Nat} {a0 a1 a2 a3 : Value} {t : TypeId} (h : Blk W b #[a0, a1, a2, a3] t) (v0 v1 v2 v3 : Value) :
    Blk ((((W.setCell ⟨b, 0, none⟩ v0).setCell ⟨b, 1, none⟩ v1).setCell ⟨b, 2, none⟩ v2).setCell ⟨b, 3, none⟩ v3) b #[v0, v1, v2, v3] t := by
  simpa using (((h.put 0 v0).put 1 v1).put 2 v2).put 3 v3
theorem Blk.at4 {W : World} {b : Nat} {a0 a1 a2 a3 : Value} {t : TypeId} (h : Blk W b #[a0, a1, a2, a3] t) : W.cell? ⟨b, 0, none⟩ = some a0 ∧ W.cell? ⟨b, 1, none⟩ = some a1 ∧ W.cell? ⟨b, 2, none⟩ = some a2 ∧ W.cell? ⟨b, 3, none⟩ = some a3 :=
  ⟨h.cell 0, h.cell 1, h.cell 2, h.cell 3⟩
end Go.Proofs.YtcahdmfmcojaoaaGreatDoor

/-
  Contracts of package runes: controls, marks, wide ones, how wide a rune is.
-/
namespace Go.Proofs.YtcahdmfmcojaoaaGreatDoor
open Go.RowKit

theorem ret_boolR {a b : Bool} (h : a = true ↔ b = true) : Ending.returned (.bool a) = .returned (.bool b) := by rw [Bool.eq_iff_iff.2 h]

def Spans (w : World) (g : Nat) (xs : List (Int × Int)) : Prop :=
  ∃ (a o c : Nat), w.cell? ⟨g, 0, none⟩ = some (.slice (some ⟨a, o, none⟩) xs.length c) ∧ xs.length ≤ c ∧
    ∀ (i : Nat) (h : i < xs.length), w.cell? ⟨a, o + i * 2, none⟩ = some (.int .i32 xs[i].1) ∧ w.cell? ⟨a, o + i * 2 + 1, none⟩ = some (.int .i32 xs[i].2)
theorem cellB {W w1 : World} {B : Nat} {p : Addr} {v : Value} (hB : W.heap.size ≤ B) (hb : Below B W w1) (h : W.cell? p = some v) : w1.cell? p = some v :=
  (hb.cell (Nat.lt_of_lt_of_le (World.block_lt_of_cell? W p h) hB)).trans h
theorem Spans.below {W w1 : World} {g : Nat} {xs : List (Int × Int)} (h : Spans W g xs) (hb : Below W.heap.size W w1) : Spans w1 g xs := by
  obtain ⟨a, o, c, h0, hc, h1⟩ := h
  exact ⟨a, o, c, cellB (Nat.le_refl _) hb h0, hc, fun i hi => ⟨cellB (Nat.le_refl _) hb (h1 i hi).1, cellB (Nat.le_refl _) hb (h1 i hi).2⟩⟩

theorem look_drop (r : Int) (xs : List (Int × Int)) (k : Nat) (h : k < xs.length) : look (xs.drop k) r = if r ≤ xs[k].2 then decide (xs[k].1 ≤ r) else look (xs.drop (k + 1)) r := by
  rw [List.drop_eq_getElem_cons h]
  simp only [look]

set_option maxHeartbeats 400000 in
theorem isControl_any (r : Int) (w : World) :
    Calls Tryz.prog 157 #[.int .i32 r] w fun e w' => e = .returned (.bool (ctl r)) ∧ w' = w := by
  by_cases c1 : 0 ≤ r
  · by_cases c2 : r ≤ 31
    · go_enter Tryz.func157, Tryz.ntmps157
      go_wp2
      go_ret
      exact ⟨ret_boolR (by simp [ctl]; omega), rfl⟩
    · by_cases c3 : 127 ≤ r
      · go_enter Tryz.func157, Tryz.ntmps157
        go_wp2
        go_ret
        exact ⟨ret_boolR (by simp [ctl]; omega), rfl⟩
      · go_enter Tryz.func157, Tryz.ntmps157
        go_wp2
        go_ret
        exact ⟨ret_boolR (by simp [ctl]; omega), rfl⟩
  · go_enter Tryz.func157, Tryz.ntmps157
    go_wp2
    go_ret
    exact ⟨ret_boolR (by simp [ctl]; omega), rfl⟩

set_option maxHeartbeats 1000000 in
theorem isMark_any (r : Int) (w : World) (xs : List (Int × Int)) (T : Spans w 3 xs) (hlen : xs.length ≤ 1000) :
    Calls Tryz.prog 158 #[.int .i32 r] w fun e w' => e = .returned (.bool (look xs r)) ∧ Below w.heap.size w w' := by
  obtain ⟨a, o, c, h0, hc, h1⟩ := T
  have H1 : Hid (∀ (i : Nat) (h : i < xs.length), w.cell? ⟨a, o + i * 2, none⟩ = some (.int .i32 xs[i].1) ∧ w.cell? ⟨a, o + i * 2 + 1, none⟩ = some (.int .i32 xs[i].2)) := h1
  clear h1
  go_enter Tryz.func158, Tryz.ntmps158
  go_wp2
  go_loopw [7] (fun i wr => ∃ k : Nat, k ≤ xs.length ∧ i = .int .i64 k ∧ look xs r = look (xs.drop k) r ∧ Below w.heap.size w wr) (fun i _ => xs.length - (intOf i).toNat)
  case atStart => exact ⟨0, Nat.zero_le _, rfl, by simp, Below.refl _ _⟩
  case round =>
    obtain ⟨k, hk, rfl, hall, hw⟩ := hrel
    by_cases hlt : k < xs.length
    · obtain ⟨f0, f1⟩ := H1.out k hlt
      have p0 : wr.cell? ⟨a, o + k * 2, none⟩ = some (.int .i32 xs[k].1) := cellB (Nat.le_refl _) hw f0
      have p1 : wr.cell? ⟨a, o + k * 2 + 1, none⟩ = some (.int .i32 xs[k].2) := cellB (Nat.le_refl _) hw f1
      have hd := look_drop r xs k hlt
      have HE : Hid (look xs r = look (xs.drop k) r ∧ Below w.heap.size w wr ∧ look (xs.drop k) r = if r ≤ xs[k].2 then decide (xs[k].1 ≤ r) else look (xs.drop (k + 1)) r) := ⟨hall, hw, hd⟩
      clear hall hw hd f0 f1 h0
      generalize xs[k] = x at *
      by_cases ht : r ≤ x.2
      · go_wp2
        go_ret
        obtain ⟨hall, hw, hd⟩ := HE.out
        refine ⟨?_, hw.alloc hw.size _⟩
        rw [hall, hd, if_pos ht]
        rfl
      · go_wp2
        go_roundw
        case rel =>
          obtain ⟨hall, hw, hd⟩ := HE.out
          exact ⟨k + 1, by omega, by go_num, by rw [hall, hd, if_neg ht], hw.alloc hw.size _⟩
        case measure => simp [intOf]; omega
    · go_wp2
      go_ret
      refine ⟨?_, hw⟩
      rw [hall, List.drop_eq_nil_of_le (by omega)]
      rfl

set_option maxHeartbeats 1000000 in
theorem isWide_any (r : Int) (w : World) (xs : List (Int × Int)) (T : Spans w 4 xs) (hlen : xs.length ≤ 1000) :
    Calls Tryz.prog 159 #[.int .i32 r] w fun e w' => e = .returned (.bool (look xs r)) ∧ Below w.heap.size w w' := by
  obtain ⟨a, o, c, h0, hc, h1⟩ := T
  have H1 : Hid (∀ (i : Nat) (h : i < xs.length), w.cell? ⟨a, o + i * 2, none⟩ = some (.int .i32 xs[i].1) ∧ w.cell? ⟨a, o + i * 2 + 1, none⟩ = some (.int .i32 xs[i].2)) := h1
  clear h1
  go_enter Tryz.func159, Tryz.ntmps159
  go_wp2
  go_loopw [7] (fun i wr => ∃ k : Nat, k ≤ xs.length ∧ i = .int .i64 k ∧ look xs r = look (xs.drop k) r ∧ Below w.heap.size w wr) (fun i _ => xs.length - (intOf i).toNat)
  case atStart => exact ⟨0, Nat.zero_le _, rfl, by simp, Below.refl _ _⟩
  case round =>
    obtain ⟨k, hk, rfl, hall, hw⟩ := hrel
    by_cases hlt : k < xs.length
    · obtain ⟨f0, f1⟩ := H1.out k hlt
      have p0 : wr.cell? ⟨a, o + k * 2, none⟩ = some (.int .i32 xs[k].1) := cellB (Nat.le_refl _) hw f0
      have p1 : wr.cell? ⟨a, o + k * 2 + 1, none⟩ = some (.int .i32 xs[k].2) := cellB (Nat.le_refl _) hw f1
      have hd := look_drop r xs k hlt
      have HE : Hid (look xs r = look (xs.drop k) r ∧ Below w.heap.size w wr ∧ look (xs.drop k) r = if r ≤ xs[k].2 then decide (xs[k].1 ≤ r) else look (xs.drop (k + 1)) r) := ⟨hall, hw, hd⟩
      clear hall hw hd f0 f1 h0
      generalize xs[k] = x at *
      by_cases ht : r ≤ x.2
      · go_wp2
        go_ret
        obtain ⟨hall, hw, hd⟩ := HE.out
        refine ⟨?_, hw.alloc hw.size _⟩
        rw [hall, hd, if_pos ht]
        rfl
      · go_wp2
        go_roundw
        case rel =>
          obtain ⟨hall, hw, hd⟩ := HE.out
          exact ⟨k + 1, by omega, by go_num, by rw [hall, hd, if_neg ht], hw.alloc hw.size _⟩
        case measure => simp [intOf]; omega
    · go_wp2
      go_ret
      refine ⟨?_, hw⟩
      rw [hall, List.drop_eq_nil_of_le (by omega)]
      rfl

def Tabs (w : World) : Prop := Spans w 3 marksL ∧ Spans w 4 widesL
theorem Tabs.below {W w1 : World} (h : Tabs W) (hb : Below W.heap.size W w1) : Tabs w1 := ⟨h.1.below hb, h.2.below hb⟩
theorem mark_any (r : Int) (w : World) (T : Tabs w) :
    Calls Tryz.prog 158 #[.int .i32 r] w fun e w' => e = .returned (.bool (mrk r)) ∧ Below w.heap.size w w' := isMark_any r w marksL T.1 (by decide)
theorem wide_any (r : Int) (w : World) (T : Tabs w) :
    Calls Tryz.prog 159 #[.int .i32 r] w fun e w' => e = .returned (.bool (wide r)) ∧ Below w.heap.size w w' := isWide_any r w widesL T.2 (by decide)

set_option maxHeartbeats 400000 in
theorem width_any (r : Int) (w : World) (T : Tabs w) :
    Calls Tryz.prog 133 #[.int .i32 r] w fun e w' => e = .returned (.int .i64 (width r)) ∧ Below w.heap.size w w' := by
  have HT : Hid (Tabs w) := T
  clear T
  go_enter Tryz.func133, Tryz.ntmps133
  go_wp2_with fail
  refine (isControl_any _ _).mono ?_
  rintro e w1 ⟨rfl, rfl⟩
  cases h1 : ctl r
  · go_wp2_with fail
    refine (mark_any _ _ HT.out).mono ?_
    rintro e w2 ⟨rfl, hb⟩
    cases h2 : mrk r
    · go_wp2_with fail
      refine (wide_any _ _ (HT.out.below hb)).mono ?_
      rintro e w3 ⟨rfl, hb'⟩
      have HB : Hid (Below w1.heap.size w1 w3) := hb.trans (hb'.mono hb.size)
      clear hb hb'
      cases h3 : wide r
      · go_wp2
        go_ret
        exact ⟨by simp [width, h1, h2, h3], HB.out⟩
      · go_wp2
        go_ret
        exact ⟨by simp [width, h1, h2, h3], HB.out⟩
    · go_wp2
      go_ret
      exact ⟨by simp [width, h2], hb⟩
  · go_wp2
    go_ret
    exact ⟨by simp [width, h1], Below.refl _ _⟩

end Go.Proofs.YtcahdmfmcojaoaaGreatDoor

/-
  Package cells: what may be (a size, a place, a cell, cells, a screen), rows and blanks.
-/
namespace Go.Proofs.YtcahdmfmcojaoaaGreatDoor
open Go.RowKit

def vldR (r : Int) : Bool := decide (0 ≤ r ∧ r < 55296 ∨ 57343 < r ∧ r ≤ 1114111)
def okCe (c : Ce) : Bool := vldR c.r && (if width c.r = 1 then !c.wd && !c.tl else if width c.r = 2 then c.wd != c.tl else false)
def okCs (l : List Ce) : Bool := l.all okCe
def szB (a b : Int) : Bool := decide (0 ≤ a ∧ a ≤ 16384 ∧ 0 ≤ b ∧ b ≤ 16384 ∧ a * b ≤ 262144)
def plB (a b x y : Int) : Bool := decide (0 ≤ x ∧ x < a ∧ 0 ≤ y ∧ y < b)
def scE (a b : Int) (l : List Ce) : Int := if szB a b = true ∧ (l.length : Int) = a * b ∧ okCs l = true then 0 else 150
theorem szB_iff {a b : Int} : szB a b = true ↔ 0 ≤ a ∧ a ≤ 16384 ∧ 0 ≤ b ∧ b ≤ 16384 ∧ a * b ≤ 262144 := by simp [szB]
theorem plB_iff {a b x y : Int} : plB a b x y = true ↔ 0 ≤ x ∧ x < a ∧ 0 ≤ y ∧ y < b := by simp [plB]
theorem mul_bd {a b : Int} (h1 : 0 ≤ a) (h2 : a ≤ 16384) (h3 : 0 ≤ b) (h4 : b ≤ 16384) : 0 ≤ a * b ∧ a * b ≤ 268435456 := ⟨Int.mul_nonneg h1 h3, Int.le_trans (Int.mul_le_mul h2 h4 h3 (by omega)) (by decide)⟩

theorem valid_any (r : Int) (w : World) : Calls Tryz.prog 132 #[.int .i32 r] w fun e w' => e = .returned (.bool (vldR r)) ∧ w' = w := by
  have cs : ¬ 0 ≤ r ∨ (0 ≤ r ∧ r < 55296) ∨ (0 ≤ r ∧ ¬ r < 55296 ∧ ¬ 57343 < r) ∨ (0 ≤ r ∧ ¬ r < 55296 ∧ 57343 < r ∧ r ≤ 1114111) ∨ (0 ≤ r ∧ ¬ r < 55296 ∧ 57343 < r ∧ ¬ r ≤ 1114111) := by omega
  rcases cs with c1 | ⟨c1, c2⟩ | ⟨c1, c2, c3⟩ | ⟨c1, c2, c3, c4⟩ | ⟨c1, c2, c3, c4⟩
  · by_cases c3 : 57343 < r
    · exact absurd c3 (by omega)
    · go_enter Tryz.func132, Tryz.ntmps132
      go_wp2
      go_ret
      exact ⟨ret_boolR (by simp [vldR]; omega), rfl⟩
  all_goals
    go_enter Tryz.func132, Tryz.ntmps132
    go_wp2
    go_ret
    exact ⟨ret_boolR (by simp [vldR]; omega), rfl⟩

set_option maxHeartbeats 1000000 in
theorem size_any (a b : Int) (w : World) : Calls Tryz.prog 32 #[.agg #[.int .i64 a, .int .i64 b]] w fun e w' => e = .returned (.bool (szB a b)) ∧ Below w.heap.size w w' := by
  have HL : Hid (∀ c, Below w.heap.size w (w.alloc c)) := fun c => (Below.refl _ w).alloc (Nat.le_refl _) _
  have cs : ¬ 0 ≤ a ∨ (0 ≤ a ∧ ¬ a ≤ 16384) ∨ (0 ≤ a ∧ a ≤ 16384 ∧ ¬ 0 ≤ b) ∨ (0 ≤ a ∧ a ≤ 16384 ∧ 0 ≤ b ∧ ¬ b ≤ 16384) ∨ (0 ≤ a ∧ a ≤ 16384 ∧ 0 ≤ b ∧ b ≤ 16384) := by omega
  rcases cs with c1 | ⟨c1, c2⟩ | ⟨c1, c2, c3⟩ | ⟨c1, c2, c3, c4⟩ | ⟨c1, c2, c3, c4⟩
  rotate_right
  · obtain ⟨m1, m2⟩ := mul_bd c1 c2 c3 c4
    generalize hm : a * b = m at m1 m2
    have hs : szB a b = decide (m ≤ 262144) := by
      rw [Bool.eq_iff_iff, szB_iff, hm]
      simp only [decide_eq_true_eq]
      omega
    have HM : Hid (a * b = m) := hm
    rw [hs]
    rw [← hm] at m1 m2 ⊢
    clear hs hm
    go_enter Tryz.func32, Tryz.ntmps32
    go_wp2
    go_ret
    exact ⟨rfl, HL.out _⟩
  all_goals
    have hs : szB a b = false := by
      rw [← Bool.not_eq_true, szB_iff]
      omega
    rw [hs]
    clear hs
    go_enter Tryz.func32, Tryz.ntmps32
    go_wp2
    go_ret
    exact ⟨rfl, HL.out _⟩

set_option maxHeartbeats 1000000 in
theorem place_any (a b x y : Int) (w : World) : Calls Tryz.prog 24 #[.agg #[.int .i64 a, .int .i64 b], .agg #[.int .i64 x, .int .i64 y]] w fun e w' => e = .returned (.bool (plB a b x y)) ∧ Below w.heap.size w w' := by
  have HL : Hid (∀ c d, Below w.heap.size w ((w.alloc c).alloc d)) := fun c d => ((Below.refl _ w).alloc (Nat.le_refl _) _).alloc (by simp) _
  have cs : ¬ 0 ≤ x ∨ (0 ≤ x ∧ ¬ x < a) ∨ (0 ≤ x ∧ x < a ∧ ¬ 0 ≤ y) ∨ (0 ≤ x ∧ x < a ∧ 0 ≤ y ∧ ¬ y < b) ∨ (0 ≤ x ∧ x < a ∧ 0 ≤ y ∧ y < b) := by omega
  rcases cs with c1 | ⟨c1, c2⟩ | ⟨c1, c2, c3⟩ | ⟨c1, c2, c3, c4⟩ | ⟨c1, c2, c3, c4⟩
  all_goals
    go_enter Tryz.func24, Tryz.ntmps24
    go_wp2
    go_ret
    exact ⟨ret_boolR (by simp [plB]; omega), HL.out _ _⟩

set_option maxHeartbeats 1000000 in
theorem cellOk_any (c : Ce) (w : World) (T : Tabs w) : Calls Tryz.prog 97 #[(Value.agg #[.int .i32 c.r, .int .u8 c.c.r, .int .u8 c.c.g, .int .u8 c.c.b, .int .u8 c.c.a, .int .u8 c.b.r, .int .u8 c.b.g, .int .u8 c.b.b, .int .u8 c.b.a, .bool c.wd, .bool c.tl])] w fun e w' => e = .returned (.bool (okCe c)) ∧ Below w.heap.size w w' := by
  have HB : Hid (∀ W, Below (w.alloc (.cells (#[.int .i32 c.r, .int .u8 c.c.r, .int .u8 c.c.g, .int .u8 c.c.b, .int .u8 c.c.a, .int .u8 c.b.r, .int .u8 c.b.g, .int .u8 c.b.b, .int .u8 c.b.a, .bool c.wd, .bool c.tl]) 34)).heap.size (w.alloc (.cells (#[.int .i32 c.r, .int .u8 c.c.r, .int .u8 c.c.g, .int .u8 c.c.b, .int .u8 c.c.a, .int .u8 c.b.r, .int .u8 c.b.g, .int .u8 c.b.b, .int .u8 c.b.a, .bool c.wd, .bool c.tl]) 34)) W → Bk W w.heap.size (#[.int .i32 c.r, .int .u8 c.c.r, .int .u8 c.c.g, .int .u8 c.c.b, .int .u8 c.c.a, .int .u8 c.b.r, .int .u8 c.b.g, .int .u8 c.b.b, .int .u8 c.b.a, .bool c.wd, .bool c.tl]) 34 ∧ Below w.heap.size w W) := fun W h => ⟨(Bk.new w _ _).below h, ((Below.refl _ w).alloc (Nat.le_refl _) _).trans (h.mono (by simp))⟩
  have HT : Hid (∀ W, Below w.heap.size w W → Tabs W) := fun W h => T.below h
  have HL : Hid (∀ c, Below w.heap.size w (w.alloc c)) := fun c => (Below.refl _ w).alloc (Nat.le_refl _) _
  clear T
  go_enter Tryz.func97, Tryz.ntmps97
  go_wp2_with fail
  refine (valid_any _ _).mono ?_
  rintro e w1 ⟨rfl, rfl⟩
  cases hv : vldR c.r
  · go_wp2
    go_ret
    exact ⟨by simp [okCe, hv], HL.out _⟩
  · go_wp2_with fail
    refine (width_any _ _ (HT.out _ (HL.out _))).mono ?_
    rintro e w2 ⟨rfl, hb⟩
    obtain ⟨B1, B2⟩ := HB.out _ hb
    have H1 : Hid (Below w.heap.size w w2) := B2
    have cc := B1.cell
    have a9 := cc 9
    have a10 := cc 10
    simp only [List.getElem?_toArray, List.getElem?_cons_zero, List.getElem?_cons_succ] at a9 a10
    have HO : Hid (okCe c = (if width c.r = 1 then !c.wd && !c.tl else if width c.r = 2 then c.wd != c.tl else false)) := by
      show okCe c = _
      unfold okCe
      rw [hv, Bool.true_and]
    clear hb B1 B2 cc HB HT HL
    generalize width c.r = n at *
    by_cases h1 : n = 1
    · subst h1
      cases hw : c.wd <;> cases ht : c.tl
      all_goals
        rw [hw] at a9
        rw [ht] at a10
        go_wp2
        go_ret
        exact ⟨by rw [HO.out]; simp [hw, ht], H1.out⟩
    · by_cases h2 : n = 2
      · subst h2
        cases hw : c.wd <;> cases ht : c.tl
        all_goals
          rw [hw] at a9
          rw [ht] at a10
          go_wp2
          go_ret
          exact ⟨by rw [HO.out]; simp [hw, ht], H1.out⟩
      · go_wp2
        go_ret
        exact ⟨by rw [HO.out, if_neg h1, if_neg h2]; rfl, H1.out⟩

theorem all_step {l : List Ce} {k : Nat} (h : k < l.length) (hk : (l.take k).all okCe = true) (ho : okCe l[k] = true) : (l.take (k + 1)).all okCe = true := by
  rw [List.take_add_one, List.all_append, hk, Bool.true_and, List.getElem?_eq_getElem h]
  simp [ho]
theorem all_fail {l : List Ce} {k : Nat} (h : k < l.length) (ho : okCe l[k] = false) : okCs l = false := by
  unfold okCs
  rw [← Bool.not_eq_true, List.all_eq_true]
  intro q
  have := q l[k] (List.getElem_mem h)
  rw [ho] at this
  cases this

set_option maxHeartbeats 2000000 in
theorem cellsOk_any (l : List Ce) (v : Value) (w : World) (hv : LsC w v l) (hl : l.length ≤ 9223372036854775806) (T : Tabs w) : Calls Tryz.prog 60 #[v] w fun e w' => e = .returned (.bool (okCs l)) ∧ Below w.heap.size w w' := by
  obtain ⟨oa, cap, rfl, hcap, hg⟩ := hv
  have HG : Hid (0 < l.length → ∃ g o, oa = some ⟨g, o, none⟩ ∧ g < w.heap.size ∧ ∀ i (h : i < l.length), CeAt w g (o + i * 11) l[i]) := hg
  have HT : Hid (∀ W, Below w.heap.size w W → Tabs W) := fun W h => T.below h
  clear hg T
  go_enter Tryz.func60, Tryz.ntmps60
  go_wp2
  go_loopw [7] (fun i wr => ∃ k : Nat, k ≤ l.length ∧ i = .int .i64 k ∧ (l.take k).all okCe = true ∧ Below w.heap.size w wr) (fun i _ => l.length - (intOf i).toNat)
  case atStart => exact ⟨0, Nat.zero_le _, rfl, by simp, Below.refl _ _⟩
  case round =>
    obtain ⟨k, hk, rfl, hall, hw⟩ := hrel
    by_cases hlt : k < l.length
    · obtain ⟨g, o, rfl, g1, g2⟩ := HG.out (by omega)
      obtain ⟨d0, d1, d2, d3, d4, d5, d6, d7, d8, d9, d10⟩ : CeAt wr g (o + k * 11) l[k] := (g2 k hlt).kept fun j => hw.cell (p := ⟨g, j, none⟩) g1
      have HC : Hid (∀ W, Below w.heap.size w W → Calls Tryz.prog 97 #[(Value.agg #[.int .i32 l[k].r, .int .u8 l[k].c.r, .int .u8 l[k].c.g, .int .u8 l[k].c.b, .int .u8 l[k].c.a, .int .u8 l[k].b.r, .int .u8 l[k].b.g, .int .u8 l[k].b.b, .int .u8 l[k].b.a, .bool l[k].wd, .bool l[k].tl])] W fun e w' => e = .returned (.bool (okCe l[k])) ∧ Below W.heap.size W w') := fun W h => cellOk_any _ W (HT.out W h)
      have HA : Hid ((l.take k).all okCe = true ∧ Below w.heap.size w wr ∧ (okCe l[k] = true → (l.take (k + 1)).all okCe = true) ∧ (okCe l[k] = false → okCs l = false)) := ⟨hall, hw, all_step hlt hall, all_fail hlt⟩
      have gl := Nat.lt_of_lt_of_le g1 hw.size
      clear hall hw g2 g1
      generalize l[k] = c at *
      go_wp2_with fail
      refine (HC.out _ ?_).mono ?_
      · exact HA.out.2.1.alloc HA.out.2.1.size _
      rintro e w1 ⟨rfl, hb⟩
      have HB : Hid (Below w.heap.size w w1) := (HA.out.2.1.alloc HA.out.2.1.size _).trans (hb.mono (HA.out.2.1.alloc HA.out.2.1.size _).size)
      clear hb
      cases ho : okCe c
      · go_wp2
        go_ret
        exact ⟨by rw [HA.out.2.2.2 ho]; rfl, HB.out⟩
      · go_wp2
        go_roundw
        case rel => exact ⟨k + 1, by omega, by go_num, HA.out.2.2.1 ho, HB.out⟩
        case measure => simp [intOf]; omega
    · go_wp2
      go_ret
      refine ⟨?_, hw⟩
      have : k = l.length := by omega
      subst this
      rw [List.take_length] at hall
      rw [show okCs l = true from hall]
      rfl

end Go.Proofs.YtcahdmfmcojaoaaGreatDoor

/-
  Cells cloned, laid behind one another, repeated.
-/
namespace Go.Proofs.YtcahdmfmcojaoaaGreatDoor
open Go.RowKit

theorem lsc_src {w : World} {g o : Nat} {M : List Ce} (h : ∀ i (h : i < M.length), CeAt w g (o + i * 11) M[i]) : ∀ (j : Nat) (u : Value), (flatC M)[j]? = some u → w.cell? ((⟨g, o, none⟩ : Addr).add j) = some u := by
  intro j u hj
  have hl : j < (flatC M).length := (List.getElem?_eq_some_iff.1 hj).1
  rw [flatC_len] at hl
  have hq : j / 11 < M.length := by omega
  have h1 := flatC_at M (j / 11) hq (j % 11) (Nat.mod_lt _ (by decide))
  have h2 := ceat_iff.1 (h (j / 11) hq) (j % 11) (Nat.mod_lt _ (by decide))
  rw [show j / 11 * 11 + j % 11 = j by omega, hj] at h1
  rw [← h1, Nat.add_assoc, show j / 11 * 11 + j % 11 = j by omega] at h2
  have e : (⟨g, o, none⟩ : Addr).add j = ⟨g, o + j, none⟩ := by unfold Addr.add; split <;> simp_all
  rw [e]
  exact h2
theorem app_moreC {P : Program} {w : World} {ops : Array Oper} {rest : List Oper} {o : Oper} {a : Act} {Q : Exit → Act → World → Prop} (hgd : o.guard = none) (s x : Operand)
    (ho : o.op = .call { callee := .builtin .append, args := #[s, x], argTypes := #[24, 24] })
    (i : TypeInfo) (ht : P.underlying 24 = some (.slice 34)) (hi : P.info? 34 = some i) (hz : i.zero = some (.agg #[.int .i32 0, .int .u8 0, .int .u8 0, .int .u8 0, .int .u8 0, .int .u8 0, .int .u8 0, .int .u8 0, .int .u8 0, .bool false, .bool false]))
    (hsize : i.size = 11) (hby : i.bytes = 16) (lo : Nat) (u : Value) (qs : List Ce) (n : Nat) (hn0 : n = qs.length) (hs : a.eval s = u) (hown : w.ownsRow lo 34 11 u n (flatC qs)) (hlo : lo ≤ w.heap.size) (rs : List Ce) (oa : Option Addr) (cap : Nat) (m : Nat) (hm : m = rs.length) (hx : a.eval x = .slice oa m cap) (hv : LsC w (.slice oa m cap) rs) (hn : NoNil (.slice oa m cap))
    (hl : n + m ≤ 1000000) (h : ∀ v' w', Hid (OwC lo w' v' (qs ++ rs) ∧ w.grownBy w' u.ownBlock) → wpList P ops Q rest (a.put o.dst v') w') : wpList P ops Q (o :: rest) a w := by
  subst hm
  cases oa with
  | none =>
    have h0 : rs = [] := by
      obtain ⟨oa, cap', e, _, hg⟩ := hv
      cases rs with
      | nil => rfl
      | cons r t =>
        obtain ⟨g, o, e2, _⟩ := hg (by simp)
        injection e with e1 _ _
        rw [e2] at e1
        cases e1
    subst h0
    obtain rfl : cap = 0 := hn cap rfl
    refine app_none hgd s x _ ho lo 34 i 11 ht hi u n (flatC qs) hs hown hx ?_
    rintro _ _ rfl rfl
    refine h _ _ ⟨?_, World.grownBy.refl _ _⟩
    rw [List.append_nil]
    unfold OwC
    rw [← hn0]
    exact hown
  | some ad =>
    refine wpList_append_own _ hgd s x _ ho lo 34 i (.agg #[.int .i32 0, .int .u8 0, .int .u8 0, .int .u8 0, .int .u8 0, .int .u8 0, .int .u8 0, .int .u8 0, .int .u8 0, .bool false, .bool false]) 11 16 ht hi hz hsize hby rfl (by decide) u n (flatC qs) hs hown ad rs.length cap (flatC rs) hx (flatC_len rs) ?_ (onesC rs) (by unfold maxLen; omega) (by omega) hlo ?_
    · intro j u' hj
      obtain ⟨oa, cap', e, _, hg⟩ := hv
      have hp : 0 < rs.length := by
        cases rs with
        | nil => simp [flatC] at hj
        | cons r t => simp
      obtain ⟨g, o, e2, _, hat⟩ := hg hp
      injection e with e1 _ _
      rw [e2] at e1
      injection e1 with e1
      subst e1
      exact lsc_src hat j u' hj
    · intro v' w' h2 h3 _
      refine h v' w' ⟨?_, h3⟩
      unfold OwC
      rw [List.length_append, ← hn0, flatC_app]
      exact h2
theorem nil_neC (ad : Addr) (n cap : Nat) (W : World) : (binOp .eql 24 (.slice (some ad) n cap) (.slice none 0 0)).run Tryz.prog W = .ok (.bool false) W := by kernel_rfl
theorem nil_eqC (W : World) : (binOp .eql 24 (.slice none 0 0) (.slice none 0 0)).run Tryz.prog W = .ok (.bool true) W := by kernel_rfl

set_option maxRecDepth 10000 in
set_option maxHeartbeats 4000000 in
theorem cloneC_any (l : List Ce) (v : Value) (w : World) (hv : LsC w v l) (hn : NoNil v) (hl : l.length ≤ 1000000) :
    Calls Tryz.prog 68 #[v] w fun e w' => ∃ u, e = .returned u ∧ OwC w.heap.size w' u l ∧ Below w.heap.size w w' := by
  obtain ⟨i0, hi, hz0, hz1, hz2⟩ := info_parts info_cell
  obtain ⟨oa, cap, rfl, hc, hg⟩ := id hv
  have HV : Hid (LsC w (.slice oa l.length cap) l ∧ NoNil (.slice oa l.length cap)) := ⟨hv, hn⟩
  cases oa with
  | none =>
    have h0 : l = [] := by
      cases l with
      | nil => rfl
      | cons r t =>
        obtain ⟨g, o, e2, _⟩ := hg (by simp)
        cases e2
    subst h0
    obtain rfl : cap = 0 := hn cap rfl
    clear hg hv hn HV
    have EN := nil_eqC
    go_enter Tryz.func68, Tryz.ntmps68
    go_wp2
    go_ret
    exact ⟨_, rfl, OwC.nil _ _, Below.refl _ _⟩
  | some ad =>
    clear hg hv hn
    have HB : Hid (Below w.heap.size w (w.alloc (.cells #[] 34))) := (Below.refl _ _).alloc (Nat.le_refl _) _
    have HO : Hid ((w.alloc (.cells #[] 34)).ownsRow w.heap.size 34 11 (.slice (some ⟨w.heap.size, 0, none⟩) 0 0) 0 (flatC [])) := ⟨rfl, .inr ⟨w.heap.size, 0, #[], rfl, Nat.le_refl _, Bk.new _ _ _, Nat.le_refl _, by unfold maxLen; omega, rfl, rfl⟩⟩
    have EN2 := fun W => nil_neC ad l.length cap W
    go_enter Tryz.func68, Tryz.ntmps68
    go_wp2_with (at_builtin; refine app_moreC rfl _ _ rfl i0 Tryz.underlying24 hi hz0 hz1 hz2 w.heap.size (.slice (some ⟨w.heap.size, 0, none⟩) 0 0) [] 0 rfl rfl HO.out HB.out.size l (some ad) cap l.length rfl rfl (HV.out.1.below HB.out) HV.out.2 (by omega) ?_)
    intro v' w4 H4
    have HF : Hid (OwC w.heap.size w4 v' l ∧ Below w.heap.size w w4) := ⟨H4.out.1, HB.out.grown H4.out.2 HB.out.size (fun g hg => (row_lt HO.out g hg).1)⟩
    clear H4 HO HB hi hz0 hz1 hz2
    go_wp2
    go_ret
    exact ⟨_, rfl, HF.out.1, HF.out.2⟩

end Go.Proofs.YtcahdmfmcojaoaaGreatDoor

/-
  Package cells: Check, blank, row, At, copied.
-/
namespace Go.Proofs.YtcahdmfmcojaoaaGreatDoor
open Go.RowKit

theorem mulB {a b : Int} (h : szB a b = true) : 0 ≤ a * b ∧ a * b ≤ 262144 := by
  obtain ⟨h1, h2, h3, h4, h5⟩ := szB_iff.1 h
  exact ⟨Int.mul_nonneg h1 h3, h5⟩

theorem Bk.at3S {W : World} {b : Nat} {a0 a1 a2 : Value} {t : TypeId} (h : Bk W b #[a0, a1, a2] t) : W.cell? ⟨b, 0, none⟩ = some a0 ∧ W.cell? ⟨b, 1, none⟩ = some a1 ∧ W.cell? ⟨b, 2, none⟩ = some a2 := ⟨by rw [h.cell]; rfl, by rw [h.cell]; rfl, by rw [h.cell]; rfl⟩

set_option maxRecDepth 10000 in
set_option maxHeartbeats 2000000 in
theorem checkC_any (a b : Int) (l : List Ce) (v : Value) (w : World) (hv : LsC w v l) (hl : l.length ≤ 9223372036854775806) (T : Tabs w) : Calls Tryz.prog 23 #[.agg #[.int .i64 a, .int .i64 b, v]] w fun e w' => e = .returned (.int .i64 (scE a b l)) ∧ Below w.heap.size w w' := by
  obtain ⟨oa, cap, rfl, hcap, hg⟩ := id hv
  have HB : Hid (∀ W, Below (w.alloc (.cells #[.int .i64 a, .int .i64 b, .slice oa l.length cap] 26)).heap.size (w.alloc (.cells #[.int .i64 a, .int .i64 b, .slice oa l.length cap] 26)) W → Bk W w.heap.size #[.int .i64 a, .int .i64 b, .slice oa l.length cap] 26 ∧ Below w.heap.size w W) := fun W h => ⟨(Bk.new w _ _).below h, ((Below.refl _ w).alloc (Nat.le_refl _) _).trans (h.mono (by simp))⟩
  have HC : Hid (∀ W, Below w.heap.size w W → Calls Tryz.prog 60 #[.slice oa l.length cap] W fun e w' => e = .returned (.bool (okCs l)) ∧ Below W.heap.size W w') := fun W h => cellsOk_any l _ W (hv.below h) hl (T.below h)
  clear hg hv T
  go_enter Tryz.func23, Tryz.ntmps23
  go_wp2_with fail
  refine (size_any _ _ _).mono ?_
  rintro e w1 ⟨rfl, hb⟩
  obtain ⟨B1, B2⟩ := HB.out _ hb
  have H1 : Hid (Below w.heap.size w w1) := B2
  cases hs : szB a b
  · have he : scE a b l = 150 := by unfold scE; rw [hs, if_neg (by simp)]
    clear hb B1 B2 HB HC
    go_wp2
    go_ret
    exact ⟨by rw [he]; rfl, H1.out⟩
  · obtain ⟨m1, m2⟩ := mulB hs
    obtain ⟨a0, a1, a2⟩ := Bk.at3S B1
    have HS : Hid (szB a b = true) := hs
    clear hb hs
    by_cases hq : (l.length : Int) = a * b
    · have e1 : scE a b l = if okCs l = true then 0 else 150 := by unfold scE; rw [HS.out]; simp [hq]
      clear HB B1 B2
      go_wp2_with fail
      refine (HC.out _ H1.out).mono ?_
      rintro e w2 ⟨rfl, hb2⟩
      have H2 : Hid (Below w.heap.size w w2) := H1.out.trans (hb2.mono H1.out.size)
      clear hb2 H1 HC
      cases ho : okCs l
      · go_wp2
        go_ret
        exact ⟨by rw [e1, ho]; rfl, H2.out⟩
      · go_wp2
        go_ret
        exact ⟨by rw [e1, ho]; rfl, H2.out⟩
    · have e1 : scE a b l = 150 := by unfold scE; rw [if_neg]; rintro ⟨_, h, _⟩; exact hq h
      clear HB B1 B2 HC
      go_wp2
      go_ret
      exact ⟨by rw [e1]; rfl, H1.out⟩

theorem blank_any (c : Co) (w : World) : Calls Tryz.prog 34 #[(Value.agg #[.int .u8 c.r, .int .u8 c.g, .int .u8 c.b, .int .u8 c.a])] w fun e w' => e = .returned (Value.agg #[.int .i32 (⟨32, coZ, c, false, false⟩ : Ce).r, .int .u8 (⟨32, coZ, c, false, false⟩ : Ce).c.r, .int .u8 (⟨32, coZ, c, false, false⟩ : Ce).c.g, .int .u8 (⟨32, coZ, c, false, false⟩ : Ce).c.b, .int .u8 (⟨32, coZ, c, false, false⟩ : Ce).c.a, .int .u8 (⟨32, coZ, c, false, false⟩ : Ce).b.r, .int .u8 (⟨32, coZ, c, false, false⟩ : Ce).b.g, .int .u8 (⟨32, coZ, c, false, false⟩ : Ce).b.b, .int .u8 (⟨32, coZ, c, false, false⟩ : Ce).b.a, .bool (⟨32, coZ, c, false, false⟩ : Ce).wd, .bool (⟨32, coZ, c, false, false⟩ : Ce).tl]) ∧ Below w.heap.size w w' := by
  have HL : Hid (∀ c d, Below w.heap.size w ((w.alloc c).alloc d)) := fun c d => ((Below.refl _ w).alloc (Nat.le_refl _) _).alloc (by simp) _
  go_enter Tryz.func34, Tryz.ntmps34
  go_wp2
  exact bodyPost_ret (v := (Value.agg #[.int .i32 (⟨32, coZ, c, false, false⟩ : Ce).r, .int .u8 (⟨32, coZ, c, false, false⟩ : Ce).c.r, .int .u8 (⟨32, coZ, c, false, false⟩ : Ce).c.g, .int .u8 (⟨32, coZ, c, false, false⟩ : Ce).c.b, .int .u8 (⟨32, coZ, c, false, false⟩ : Ce).c.a, .int .u8 (⟨32, coZ, c, false, false⟩ : Ce).b.r, .int .u8 (⟨32, coZ, c, false, false⟩ : Ce).b.g, .int .u8 (⟨32, coZ, c, false, false⟩ : Ce).b.b, .int .u8 (⟨32, coZ, c, false, false⟩ : Ce).b.a, .bool (⟨32, coZ, c, false, false⟩ : Ce).wd, .bool (⟨32, coZ, c, false, false⟩ : Ce).tl])) (by simp [results, Tryz.results34, go_sem, coZ]) rfl ⟨rfl, HL.out _ _⟩

theorem rowC_any (a b y : Int) (g o n cap : Nat) (w : World) (hs : szB a b = true) (hn : (n : Int) = a * b) (hc : n ≤ cap) (hy : 0 ≤ y) (hyb : y < b) (ha : 0 < a) (p : Nat) (hp : (p : Int) = y * a) (m : Nat) (hm : (m : Int) = a) :
    Calls Tryz.prog 28 #[.agg #[.int .i64 a, .int .i64 b, .slice (some ⟨g, o, none⟩) n cap], .int .i64 y] w fun e w' => e = .returned (.slice (some ⟨g, o + p * 11, none⟩) m (cap - p)) ∧ Below w.heap.size w w' := by
  have HL : Hid (∀ c, Below w.heap.size w (w.alloc c)) := fun c => (Below.refl _ w).alloc (Nat.le_refl _) _
  obtain ⟨h1, h2, h3, h4, h5⟩ := szB_iff.1 hs
  have hq : (y + 1) * a = y * a + a := by rw [Int.add_mul, Int.one_mul]
  have hle : y * a + a ≤ a * b := by rw [← hq, Int.mul_comm a b]; exact Int.mul_le_mul_of_nonneg_right (by omega) h1
  have k1 : 0 ≤ y * a := Int.mul_nonneg hy h1
  rw [← hp] at hq hle k1
  rw [← hn] at hle h5
  have hpc : p < cap := by omega
  have hpm : p + m ≤ cap := by omega
  have hy2 : y ≤ 16384 := by omega
  have e1 : y * a = (p : Int) := hp.symm
  clear hs hp
  subst hm
  go_enter Tryz.func28, Tryz.ntmps28
  go_wp2
  go_ret
  refine ⟨?_, HL.out _⟩
  show Ending.returned (.slice (some ⟨g, o + p * 11, none⟩) (p + m - p) (cap - p)) = _
  rw [Nat.add_sub_cancel_left]

end Go.Proofs.YtcahdmfmcojaoaaGreatDoor
