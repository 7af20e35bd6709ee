/-
  Contracts of package runes: the kind of a piece.
-/
import Derived.Test.YtlooemhaoikidaaDoorRC
import Derived.Test.YtlooemhaoikidaaDoorRS
namespace Go.Proofs.YtlooemhaoikidaaDoor
open Go.RowKit Go.Shelf

/-- The tables of letters and of digits. -/
def TabsU (w : World) : Prop := Lib.TabIs Tryd.prog w "unicode.properties" .u8 Lib.propertiesTab ∧ Lib.RVar 5 Lib.letterT w ∧ Lib.RVar 6 Lib.digitT w
theorem TabsU.below {W w1 : World} (h : TabsU W) (hb : Below W.heap.size W w1) : TabsU w1 :=
  ⟨TabIs_below (g := 4) (by kernel_rfl) h.1 hb, RVar_below h.2.1 hb, RVar_below h.2.2 hb⟩

theorem letter_any (r : Int) (w : World) (hlo : -2147483648 ≤ r) (hhi : r ≤ 2147483647) (T : TabsU w) :
    Calls Tryd.prog 65 #[.int .i32 r] w fun e w' => e = .returned (.bool (Lib.isLetterU r)) ∧ Below w.heap.size w w' := Any.unicode_IsLetter_all Tryd.lays200 (by kernel_rfl) r w hlo hhi T.1 T.2.1
theorem digit_any (r : Int) (w : World) (hlo : -2147483648 ≤ r) (hhi : r ≤ 2147483647) (T : TabsU w) :
    Calls Tryd.prog 66 #[.int .i32 r] w fun e w' => e = .returned (.bool (Lib.isDigitU r)) ∧ Below w.heap.size w w' := Any.unicode_IsDigit_all Tryd.lays198 r w hlo hhi T.2.2

/-- The kind of a piece, by its first rune. -/
def kindI (r : Int) : Int := if r = 32 ∨ r = 9 ∨ r = 10 then 1 else if Lib.isLetterU r || (Lib.isDigitU r || decide (r = 95)) then 2 else 0

theorem ret_int {a b : Int} (h : a = b) : Ending.returned (.int .i64 a) = .returned (.int .i64 b) := by rw [h]

set_option maxHeartbeats 800000 in
theorem kind_any (a b r c : Int) (w : World) (hlo : -2147483648 ≤ r) (hhi : r ≤ 2147483647) (T : TabsU w) :
    Calls Tryd.prog 49 #[pcV a b r c] w fun e w' => e = .returned (.int .i64 (kindI r)) ∧ Below w.heap.size w w' := by
  have Lb : Below w.heap.size w (w.alloc (.cells #[.int .i64 a, .int .i64 b, .int .i32 r, .int .i64 c] 47)) := (Below.refl _ w).alloc (Nat.le_refl _) _
  have HT : Hid (TabsU (w.alloc (.cells #[.int .i64 a, .int .i64 b, .int .i32 r, .int .i64 c] 47)) ∧ Below w.heap.size w (w.alloc (.cells #[.int .i64 a, .int .i64 b, .int .i32 r, .int .i64 c] 47))) := ⟨T.below Lb, Lb⟩
  clear T Lb
  by_cases h1 : r = 32
  · go_enter Tryd.func49, Tryd.ntmps49
    go_wp2
    go_ret
    exact ⟨ret_int (by simp [kindI, h1]), (Below.refl _ w).alloc (Nat.le_refl _) _⟩
  by_cases h2 : r = 9
  · go_enter Tryd.func49, Tryd.ntmps49
    go_wp2
    go_ret
    exact ⟨ret_int (by simp [kindI, h2]), (Below.refl _ w).alloc (Nat.le_refl _) _⟩
  by_cases h3 : r = 10
  · go_enter Tryd.func49, Tryd.ntmps49
    go_wp2
    go_ret
    exact ⟨ret_int (by simp [kindI, h3]), (Below.refl _ w).alloc (Nat.le_refl _) _⟩
  go_enter Tryd.func49, Tryd.ntmps49
  go_wp2_with fail
  refine (letter_any _ _ hlo hhi HT.out.1).mono ?_
  rintro e w1 ⟨rfl, hb⟩
  have HB : Hid (TabsU w1 ∧ Below w.heap.size w w1) := ⟨HT.out.1.below hb, HT.out.2.trans (hb.mono (by simp))⟩
  clear hb
  cases hl : Lib.isLetterU r
  · go_wp2_with fail
    refine (digit_any _ _ hlo hhi HB.out.1).mono ?_
    rintro e w2 ⟨rfl, hb⟩
    have HC : Hid (Below w.heap.size w w2) := HB.out.2.trans (hb.mono HB.out.2.size)
    clear hb
    cases hd : Lib.isDigitU r
    · by_cases h4 : r = 95
      · go_wp2
        go_ret
        exact ⟨ret_int (by simp [kindI, h4]), HC.out⟩
      · go_wp2
        go_ret
        exact ⟨ret_int (by simp [kindI, h1, h2, h3, h4, hl, hd]), HC.out⟩
    · go_wp2
      go_ret
      exact ⟨ret_int (by simp [kindI, h1, h2, h3, hd]), HC.out⟩
  · go_wp2
    go_ret
    exact ⟨ret_int (by simp [kindI, h1, h2, h3, hl]), HB.out.2⟩

end Go.Proofs.YtlooemhaoikidaaDoor
