/-
  Contracts of package runes: controls, marks, wide ones, how wide a rune is.
-/
import Derived.Test.YtbnbfgkcndomaabGreatDoorChecked
import Derived.Test.YtbnbfgkcndomaabGreatDoorRP
import Derived.Test.YtbnbfgkcndomaabGreatDoorRF
import Derived.WalkKit
import Derived.WalkSpells
import Derived.WalkLawsBesides
namespace Go.Proofs.YtbnbfgkcndomaabGreatDoor
open Go.RowKit

theorem ret_boolR {a b : Bool} (h : a = true ↔ b = true) : Ending.returned (.bool a) = .returned (.bool b) := by rw [Bool.eq_iff_iff.2 h]

/-- A variable that holds a table of spans. -/
def Spans (w : World) (g : Nat) (xs : List (Int × Int)) : Prop :=
  ∃ (a o c : Nat), w.cell? ⟨g, 0, none⟩ = some (.slice (some ⟨a, o, none⟩) xs.length c) ∧ xs.length ≤ c ∧
    ∀ (i : Nat) (h : i < xs.length), w.cell? ⟨a, o + i * 2, none⟩ = some (.int .i32 xs[i].1) ∧ w.cell? ⟨a, o + i * 2 + 1, none⟩ = some (.int .i32 xs[i].2)
theorem cellB {W w1 : World} {B : Nat} {p : Addr} {v : Value} (hB : W.heap.size ≤ B) (hb : Below B W w1) (h : W.cell? p = some v) : w1.cell? p = some v :=
  (hb.cell (Nat.lt_of_lt_of_le (World.block_lt_of_cell? W p h) hB)).trans h
theorem Spans.below {W w1 : World} {g : Nat} {xs : List (Int × Int)} (h : Spans W g xs) (hb : Below W.heap.size W w1) : Spans w1 g xs := by
  obtain ⟨a, o, c, h0, hc, h1⟩ := h
  exact ⟨a, o, c, cellB (Nat.le_refl _) hb h0, hc, fun i hi => ⟨cellB (Nat.le_refl _) hb (h1 i hi).1, cellB (Nat.le_refl _) hb (h1 i hi).2⟩⟩

theorem look_drop (r : Int) (xs : List (Int × Int)) (k : Nat) (h : k < xs.length) : look (xs.drop k) r = if r ≤ xs[k].2 then decide (xs[k].1 ≤ r) else look (xs.drop (k + 1)) r := by
  rw [List.drop_eq_getElem_cons h]
  simp only [look]

set_option maxHeartbeats 400000 in
theorem isControl_any (r : Int) (w : World) :
    Calls Tryz.prog 170 #[.int .i32 r] w fun e w' => e = .returned (.bool (ctl r)) ∧ w' = w := by
  by_cases c1 : 0 ≤ r
  · by_cases c2 : r ≤ 31
    · go_enter Tryz.func170, Tryz.ntmps170
      go_wp2
      go_ret
      exact ⟨ret_boolR (by simp [ctl]; omega), rfl⟩
    · by_cases c3 : 127 ≤ r
      · go_enter Tryz.func170, Tryz.ntmps170
        go_wp2
        go_ret
        exact ⟨ret_boolR (by simp [ctl]; omega), rfl⟩
      · go_enter Tryz.func170, Tryz.ntmps170
        go_wp2
        go_ret
        exact ⟨ret_boolR (by simp [ctl]; omega), rfl⟩
  · go_enter Tryz.func170, Tryz.ntmps170
    go_wp2
    go_ret
    exact ⟨ret_boolR (by simp [ctl]; omega), rfl⟩

set_option maxHeartbeats 1000000 in
theorem isMark_any (r : Int) (w : World) (xs : List (Int × Int)) (T : Spans w 3 xs) (hlen : xs.length ≤ 1000) :
    Calls Tryz.prog 169 #[.int .i32 r] w fun e w' => e = .returned (.bool (look xs r)) ∧ Below w.heap.size w w' := by
  obtain ⟨a, o, c, h0, hc, h1⟩ := T
  have H1 : Hid (∀ (i : Nat) (h : i < xs.length), w.cell? ⟨a, o + i * 2, none⟩ = some (.int .i32 xs[i].1) ∧ w.cell? ⟨a, o + i * 2 + 1, none⟩ = some (.int .i32 xs[i].2)) := h1
  clear h1
  go_enter Tryz.func169, Tryz.ntmps169
  go_wp2
  go_loopw [7] (fun i wr => ∃ k : Nat, k ≤ xs.length ∧ i = .int .i64 k ∧ look xs r = look (xs.drop k) r ∧ Below w.heap.size w wr) (fun i _ => xs.length - (intOf i).toNat)
  case atStart => exact ⟨0, Nat.zero_le _, rfl, by simp, Below.refl _ _⟩
  case round =>
    obtain ⟨k, hk, rfl, hall, hw⟩ := hrel
    by_cases hlt : k < xs.length
    · obtain ⟨f0, f1⟩ := H1.out k hlt
      have p0 : wr.cell? ⟨a, o + k * 2, none⟩ = some (.int .i32 xs[k].1) := cellB (Nat.le_refl _) hw f0
      have p1 : wr.cell? ⟨a, o + k * 2 + 1, none⟩ = some (.int .i32 xs[k].2) := cellB (Nat.le_refl _) hw f1
      have hd := look_drop r xs k hlt
      have HE : Hid (look xs r = look (xs.drop k) r ∧ Below w.heap.size w wr ∧ look (xs.drop k) r = if r ≤ xs[k].2 then decide (xs[k].1 ≤ r) else look (xs.drop (k + 1)) r) := ⟨hall, hw, hd⟩
      clear hall hw hd f0 f1 h0
      generalize xs[k] = x at *
      by_cases ht : r ≤ x.2
      · go_wp2
        go_ret
        obtain ⟨hall, hw, hd⟩ := HE.out
        refine ⟨?_, hw.alloc hw.size _⟩
        rw [hall, hd, if_pos ht]
        rfl
      · go_wp2
        go_roundw
        case rel =>
          obtain ⟨hall, hw, hd⟩ := HE.out
          exact ⟨k + 1, by omega, by go_num, by rw [hall, hd, if_neg ht], hw.alloc hw.size _⟩
        case measure => simp [intOf]; omega
    · go_wp2
      go_ret
      refine ⟨?_, hw⟩
      rw [hall, List.drop_eq_nil_of_le (by omega)]
      rfl

set_option maxHeartbeats 1000000 in
theorem isWide_any (r : Int) (w : World) (xs : List (Int × Int)) (T : Spans w 4 xs) (hlen : xs.length ≤ 1000) :
    Calls Tryz.prog 171 #[.int .i32 r] w fun e w' => e = .returned (.bool (look xs r)) ∧ Below w.heap.size w w' := by
  obtain ⟨a, o, c, h0, hc, h1⟩ := T
  have H1 : Hid (∀ (i : Nat) (h : i < xs.length), w.cell? ⟨a, o + i * 2, none⟩ = some (.int .i32 xs[i].1) ∧ w.cell? ⟨a, o + i * 2 + 1, none⟩ = some (.int .i32 xs[i].2)) := h1
  clear h1
  go_enter Tryz.func171, Tryz.ntmps171
  go_wp2
  go_loopw [7] (fun i wr => ∃ k : Nat, k ≤ xs.length ∧ i = .int .i64 k ∧ look xs r = look (xs.drop k) r ∧ Below w.heap.size w wr) (fun i _ => xs.length - (intOf i).toNat)
  case atStart => exact ⟨0, Nat.zero_le _, rfl, by simp, Below.refl _ _⟩
  case round =>
    obtain ⟨k, hk, rfl, hall, hw⟩ := hrel
    by_cases hlt : k < xs.length
    · obtain ⟨f0, f1⟩ := H1.out k hlt
      have p0 : wr.cell? ⟨a, o + k * 2, none⟩ = some (.int .i32 xs[k].1) := cellB (Nat.le_refl _) hw f0
      have p1 : wr.cell? ⟨a, o + k * 2 + 1, none⟩ = some (.int .i32 xs[k].2) := cellB (Nat.le_refl _) hw f1
      have hd := look_drop r xs k hlt
      have HE : Hid (look xs r = look (xs.drop k) r ∧ Below w.heap.size w wr ∧ look (xs.drop k) r = if r ≤ xs[k].2 then decide (xs[k].1 ≤ r) else look (xs.drop (k + 1)) r) := ⟨hall, hw, hd⟩
      clear hall hw hd f0 f1 h0
      generalize xs[k] = x at *
      by_cases ht : r ≤ x.2
      · go_wp2
        go_ret
        obtain ⟨hall, hw, hd⟩ := HE.out
        refine ⟨?_, hw.alloc hw.size _⟩
        rw [hall, hd, if_pos ht]
        rfl
      · go_wp2
        go_roundw
        case rel =>
          obtain ⟨hall, hw, hd⟩ := HE.out
          exact ⟨k + 1, by omega, by go_num, by rw [hall, hd, if_neg ht], hw.alloc hw.size _⟩
        case measure => simp [intOf]; omega
    · go_wp2
      go_ret
      refine ⟨?_, hw⟩
      rw [hall, List.drop_eq_nil_of_le (by omega)]
      rfl

theorem Spans.same {W w1 : World} {g : Nat} {xs : List (Int × Int)} (h : Spans W g xs) (hb : Same W w1) : Spans w1 g xs := by
  obtain ⟨a, o, c, h0, hc, h1⟩ := h
  exact ⟨a, o, c, hb.cell h0, hc, fun i hi => ⟨hb.cell (h1 i hi).1, hb.cell (h1 i hi).2⟩⟩
/-- The tables of marks and of wide runes. -/
def Tabs (w : World) : Prop := Spans w 3 marksL ∧ Spans w 4 widesL
theorem Tabs.below {W w1 : World} (h : Tabs W) (hb : Below W.heap.size W w1) : Tabs w1 := ⟨h.1.below hb, h.2.below hb⟩
theorem Tabs.same {W w1 : World} (h : Tabs W) (hb : Same W w1) : Tabs w1 := ⟨h.1.same hb, h.2.same hb⟩
theorem mark_any (r : Int) (w : World) (T : Tabs w) :
    Calls Tryz.prog 169 #[.int .i32 r] w fun e w' => e = .returned (.bool (mrk r)) ∧ Below w.heap.size w w' := isMark_any r w marksL T.1 (by decide)
theorem wide_any (r : Int) (w : World) (T : Tabs w) :
    Calls Tryz.prog 171 #[.int .i32 r] w fun e w' => e = .returned (.bool (wide r)) ∧ Below w.heap.size w w' := isWide_any r w widesL T.2 (by decide)

set_option maxHeartbeats 400000 in
theorem width_any (r : Int) (w : World) (T : Tabs w) :
    Calls Tryz.prog 164 #[.int .i32 r] w fun e w' => e = .returned (.int .i64 (width r)) ∧ Below w.heap.size w w' := by
  have HT : Hid (Tabs w) := T
  clear T
  go_enter Tryz.func164, Tryz.ntmps164
  go_wp2_with fail
  refine (isControl_any _ _).mono ?_
  rintro e w1 ⟨rfl, rfl⟩
  cases h1 : ctl r
  · go_wp2_with fail
    refine (mark_any _ _ HT.out).mono ?_
    rintro e w2 ⟨rfl, hb⟩
    cases h2 : mrk r
    · go_wp2_with fail
      refine (wide_any _ _ (HT.out.below hb)).mono ?_
      rintro e w3 ⟨rfl, hb'⟩
      have HB : Hid (Below w1.heap.size w1 w3) := hb.trans (hb'.mono hb.size)
      clear hb hb'
      cases h3 : wide r
      · go_wp2
        go_ret
        exact ⟨by simp [width, h1, h2, h3], HB.out⟩
      · go_wp2
        go_ret
        exact ⟨by simp [width, h1, h2, h3], HB.out⟩
    · go_wp2
      go_ret
      exact ⟨by simp [width, h2], hb⟩
  · go_wp2
    go_ret
    exact ⟨by simp [width, h1], Below.refl _ _⟩

/-- A piece, as a value. -/
abbrev pcV (a b : Int) (r c : Int) : Value := .agg #[.int .i64 a, .int .i64 b, .int .i32 r, .int .i64 c]

set_option maxHeartbeats 400000 in
theorem takes_any (a b r c q : Int) (w : World) (T : Tabs w) :
    Calls Tryz.prog 163 #[pcV a b r c, .int .i32 q] w fun e w' => e = .returned (.bool (mrk q && !ctl r)) ∧ Below w.heap.size w w' := by
  have HT : Hid (Tabs w) := T
  clear T
  go_enter Tryz.func163, Tryz.ntmps163
  go_wp2_with fail
  have Lb : Below w.heap.size w (w.alloc (.cells #[.int .i64 a, .int .i64 b, .int .i32 r, .int .i64 c] 464)) := (Below.refl _ w).alloc (Nat.le_refl _) _
  refine (mark_any _ _ (HT.out.below Lb)).mono ?_
  rintro e w2 ⟨rfl, hb⟩
  have hc : w2.cell? ⟨w.heap.size, 2, none⟩ = some (.int .i32 r) := (hb.cell (p := ⟨w.heap.size, 2, none⟩) (by simp)).trans (by simp)
  have HB : Hid (Below w.heap.size w w2) := Lb.trans (hb.mono (by simp))
  clear hb Lb
  cases h2 : mrk q
  · go_wp2
    go_ret
    exact ⟨by simp [h2], HB.out⟩
  · go_wp2_with fail
    refine (isControl_any _ _).mono ?_
    rintro e w3 ⟨rfl, rfl⟩
    go_wp2
    go_ret
    exact ⟨by simp [h2], HB.out⟩

end Go.Proofs.YtbnbfgkcndomaabGreatDoor
