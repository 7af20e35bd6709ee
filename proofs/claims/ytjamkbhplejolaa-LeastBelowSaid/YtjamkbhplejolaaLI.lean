/-
  The statements' own awake.
-/
import Derived.Test.YtjamkbhplejolaaLHb
import Derived.Test.YtjamkbhplejolaaLF3b
import Derived.Test.YtjamkbhplejolaaLF4b
import Derived.Test.YtjamkbhplejolaaLF5b
namespace Go.Proofs.Ytjamkbhplejolaa
open Go.RowKit

def lit1 : List Bq := [⟨0, 1, 5⟩, ⟨1, 2, 3⟩, ⟨0, 2, 4⟩]
def lit2 : List Bq := [⟨0, 1, 5⟩, ⟨1, 0, -4⟩]
theorem lit_1 : solL 3 lit1 = [0, 5, 8] ∧ solE 3 lit1 = 0 ∧ tgL 3 lit1 = [0, 1] ∧ moL 3 lit1 20 = [12, 17, 20] ∧ moE 3 lit1 20 = 0 := by decide +kernel
theorem lit_2 : solL 2 lit2 = [] ∧ solE 2 lit2 = 90 ∧ LopL 2 lit2 = [0, 1] ∧ chk 2 lit2 = 0 ∧ kpN [0, 5] lit2 = 1 ∧ kpE [0, 5] lit2 = 0 := by decide +kernel
theorem bs_new (w : World) (L : List Bq) (vs : Array Value) (hv : vs = (flatQ L).toArray) : BS (w.alloc (.cells vs 39)) (.slice (some ⟨w.heap.size, 0, none⟩) L.length L.length) L := by
  subst hv
  have hb := Bk.new w (flatQ L).toArray 39
  refine ⟨_, L.length, rfl, Nat.le_refl _, fun _ => ⟨w.heap.size, 0, rfl, hb.lt, fun i hi => ?_⟩⟩
  obtain ⟨f0, f1, f2⟩ := flatQ_at L i hi
  refine ⟨?_, ?_, ?_⟩
  · rw [Nat.zero_add, hb.cell]; simpa using f0
  · rw [Nat.zero_add, hb.cell]; simpa using f1
  · rw [Nat.zero_add, hb.cell]; simpa using f2
theorem is_new (w : World) (xs : List Int) (vs : Array Value) (hv : vs = (flatI xs).toArray) : IS (w.alloc (.cells vs 3)) (.slice (some ⟨w.heap.size, 0, none⟩) xs.length xs.length) xs := by
  subst hv
  exact Nb.is (Bk.new w (flatI xs).toArray 3)
theorem bel_tr {a b c : World} (h : Below a.heap.size a b) (k : Below b.heap.size b c) : Below a.heap.size a c := h.trans (k.mono h.size)
theorem bel_al (a : World) (o : Obj) : Below a.heap.size a (a.alloc o) := (Below.refl _ _).alloc (Nat.le_refl _) o

set_option maxRecDepth 10000 in
set_option maxHeartbeats 8000000 in
theorem awake_any (w : World) : Calls Try.prog 9 #[] w fun e w' => e = .returned (.bool true) ∧ Below w.heap.size w w' := by
  have A1 : Hid (∀ W v, BS W v lit1 → Calls Try.prog 12 #[.int .i64 3, v] W fun e w' => AnsI W [0, 5, 8] 0 e w') := fun W v h => by
    have q := Solve_any 3 lit1 v W h
    rw [lit_1.1, lit_1.2.1] at q
    exact q
  have A2 : Hid (∀ W v, BS W v lit1 → Calls Try.prog 16 #[.int .i64 3, v] W fun e w' => AnsI W [0, 1] 0 e w') := fun W v h => by
    have q := Tight_any 3 lit1 v W h
    rw [lit_1.2.2.1, lit_1.2.1] at q
    exact q
  have A3 : Hid (∀ W v, BS W v lit1 → Calls Try.prog 23 #[.int .i64 3, v, .int .i64 20] W fun e w' => AnsI W [12, 17, 20] 0 e w') := fun W v h => by
    have q := Most_any 3 lit1 20 v W h
    rw [lit_1.2.2.2.1, lit_1.2.2.2.2] at q
    exact q
  have A4 : Hid (∀ W v, BS W v lit2 → Calls Try.prog 12 #[.int .i64 2, v] W fun e w' => AnsI W [] 90 e w') := fun W v h => by
    have q := Solve_any 2 lit2 v W h
    rw [lit_2.1, lit_2.2.1] at q
    exact q
  have A5 : Hid (∀ W v, BS W v lit2 → Calls Try.prog 14 #[.int .i64 2, v] W fun e w' => AnsI W [0, 1] 0 e w') := fun W v h => by
    have q := Loop_any 2 lit2 v W h
    rw [lit_2.2.2.1, lit_2.2.2.2.1] at q
    exact q
  have A6 : Hid (∀ W u v, IS W u [0, 5] → BS W v lit2 → Calls Try.prog 21 #[u, v] W fun e w' => e = .returned (.tuple #[.int .i64 1, .int .i64 0]) ∧ Below W.heap.size W w') := fun W u v h k => by
    have q := Keeps_any [0, 5] lit2 u v W h k
    rw [lit_2.2.2.2.2.1, lit_2.2.2.2.2.2] at q
    exact q
  have A7 : Hid (∀ W u v xs, xs.length ≤ 10 → IS W u xs → IS W v xs → Calls Try.prog 18 #[u, v] W fun e w' => e = .returned (.bool true) ∧ Below W.heap.size W w') := fun W u v xs hl h k => by
    have q := same_any xs xs u v W h k (by omega)
    rw [decide_eq_true rfl] at q
    exact q
  have B1 : Hid (BS (w.alloc (.cells #[.int .i64 0, .int .i64 1, .int .i64 5, .int .i64 1, .int .i64 2, .int .i64 3, .int .i64 0, .int .i64 2, .int .i64 4] 39)) (.slice (some ⟨w.heap.size, 0, none⟩) 3 3) lit1) := bs_new w lit1 _ rfl
  have C1 : Hid (Below w.heap.size w (w.alloc (.cells #[.int .i64 0, .int .i64 1, .int .i64 5, .int .i64 1, .int .i64 2, .int .i64 3, .int .i64 0, .int .i64 2, .int .i64 4] 39))) := bel_al _ _
  go_enter Try.func9, Try.ntmps9
  go_wp2_with fail
  refine (A1.out _ _ B1.out).mono ?_
  rintro e w1 ⟨vx, rfl, H1⟩
  have F1 : Hid (Below w.heap.size w w1 ∧ BS w1 (.slice (some ⟨w.heap.size, 0, none⟩) 3 3) lit1 ∧ IS w1 vx [0, 5, 8]) := ⟨bel_tr C1.out H1.out.2, B1.out.below H1.out.2, H1.out.1.is⟩
  clear H1 B1 C1 A1
  go_wp2_with fail
  refine (A2.out _ _ F1.out.2.1).mono ?_
  rintro e w2 ⟨vt, rfl, H2⟩
  have F2 : Hid (Below w.heap.size w w2 ∧ BS w2 (.slice (some ⟨w.heap.size, 0, none⟩) 3 3) lit1 ∧ IS w2 vx [0, 5, 8] ∧ IS w2 vt [0, 1]) := ⟨bel_tr F1.out.1 H2.out.2, F1.out.2.1.below H2.out.2, F1.out.2.2.below H2.out.2, H2.out.1.is⟩
  clear H2 F1 A2
  go_wp2_with fail
  refine (A3.out _ _ F2.out.2.1).mono ?_
  rintro e w3 ⟨vm, rfl, H3⟩
  have F3 : Hid (Below w.heap.size w w3 ∧ IS w3 vx [0, 5, 8] ∧ IS w3 vt [0, 1] ∧ IS w3 vm [12, 17, 20]) := ⟨bel_tr F2.out.1 H3.out.2, F2.out.2.2.1.below H3.out.2, F2.out.2.2.2.below H3.out.2, H3.out.1.is⟩
  have B2 : Hid (BS (w3.alloc (.cells #[.int .i64 0, .int .i64 1, .int .i64 5, .int .i64 1, .int .i64 0, .int .i64 (-4)] 39)) (.slice (some ⟨w3.heap.size, 0, none⟩) 2 2) lit2) := bs_new w3 lit2 _ rfl
  clear H3 F2 A3
  go_wp2_with fail
  refine (A4.out _ _ B2.out).mono ?_
  rintro e w4 ⟨v4, rfl, H4⟩
  have F4 : Hid (Below w.heap.size w w4 ∧ BS w4 (.slice (some ⟨w3.heap.size, 0, none⟩) 2 2) lit2 ∧ IS w4 vx [0, 5, 8] ∧ IS w4 vt [0, 1] ∧ IS w4 vm [12, 17, 20]) := by
    have b := bel_tr (bel_al w3 _) H4.out.2
    exact ⟨bel_tr F3.out.1 b, B2.out.below H4.out.2, F3.out.2.1.below b, F3.out.2.2.1.below b, F3.out.2.2.2.below b⟩
  clear H4 F3 A4 B2
  go_wp2_with fail
  refine (A5.out _ _ F4.out.2.1).mono ?_
  rintro e w5 ⟨vr, rfl, H5⟩
  have F5 : Hid (Below w.heap.size w w5 ∧ BS w5 (.slice (some ⟨w3.heap.size, 0, none⟩) 2 2) lit2 ∧ IS w5 vx [0, 5, 8] ∧ IS w5 vt [0, 1] ∧ IS w5 vm [12, 17, 20] ∧ IS w5 vr [0, 1]) := ⟨bel_tr F4.out.1 H5.out.2, F4.out.2.1.below H5.out.2, F4.out.2.2.1.below H5.out.2, F4.out.2.2.2.1.below H5.out.2, F4.out.2.2.2.2.below H5.out.2, H5.out.1.is⟩
  clear H5 F4 A5
  have B6 : Hid (IS (w5.alloc (.cells #[.int .i64 0, .int .i64 5] 3)) (.slice (some ⟨w5.heap.size, 0, none⟩) 2 2) [0, 5] ∧ BS (w5.alloc (.cells #[.int .i64 0, .int .i64 5] 3)) (.slice (some ⟨w3.heap.size, 0, none⟩) 2 2) lit2) := ⟨is_new w5 [0, 5] _ rfl, F5.out.2.1.below (bel_al _ _)⟩
  go_wp2_with fail
  refine (A6.out _ _ _ B6.out.1 B6.out.2).mono ?_
  rintro e w6 ⟨rfl, h6⟩
  have F6 : Hid (Below w.heap.size w w6 ∧ IS w6 vx [0, 5, 8] ∧ IS w6 vt [0, 1] ∧ IS w6 vm [12, 17, 20] ∧ IS w6 vr [0, 1]) := by
    have b := bel_tr (bel_al w5 _) h6
    exact ⟨bel_tr F5.out.1 b, F5.out.2.2.1.below b, F5.out.2.2.2.1.below b, F5.out.2.2.2.2.1.below b, F5.out.2.2.2.2.2.below b⟩
  clear h6 F5 A6 B6
  have B7 : Hid (IS (w6.alloc (.cells #[.int .i64 0, .int .i64 5, .int .i64 8] 3)) (.slice (some ⟨w6.heap.size, 0, none⟩) 3 3) [0, 5, 8] ∧ IS (w6.alloc (.cells #[.int .i64 0, .int .i64 5, .int .i64 8] 3)) vx [0, 5, 8]) := ⟨is_new w6 [0, 5, 8] _ rfl, F6.out.2.1.below (bel_al _ _)⟩
  go_wp2_with fail
  refine (A7.out _ _ _ [0, 5, 8] (by decide) B7.out.2 B7.out.1).mono ?_
  rintro e w7 ⟨rfl, h7⟩
  have F7 : Hid (Below w.heap.size w w7 ∧ IS w7 vt [0, 1] ∧ IS w7 vm [12, 17, 20] ∧ IS w7 vr [0, 1]) := by
    have b := bel_tr (bel_al w6 _) h7
    exact ⟨bel_tr F6.out.1 b, F6.out.2.2.1.below b, F6.out.2.2.2.1.below b, F6.out.2.2.2.2.below b⟩
  clear h7 F6 B7
  have B8 : Hid (IS (w7.alloc (.cells #[.int .i64 0, .int .i64 1] 3)) (.slice (some ⟨w7.heap.size, 0, none⟩) 2 2) [0, 1] ∧ IS (w7.alloc (.cells #[.int .i64 0, .int .i64 1] 3)) vt [0, 1]) := ⟨is_new w7 [0, 1] _ rfl, F7.out.2.1.below (bel_al _ _)⟩
  go_wp2_with fail
  refine (A7.out _ _ _ [0, 1] (by decide) B8.out.2 B8.out.1).mono ?_
  rintro e w8 ⟨rfl, h8⟩
  have F8 : Hid (Below w.heap.size w w8 ∧ IS w8 vm [12, 17, 20] ∧ IS w8 vr [0, 1]) := by
    have b := bel_tr (bel_al w7 _) h8
    exact ⟨bel_tr F7.out.1 b, F7.out.2.2.1.below b, F7.out.2.2.2.below b⟩
  clear h8 F7 B8
  have B9 : Hid (IS (w8.alloc (.cells #[.int .i64 12, .int .i64 17, .int .i64 20] 3)) (.slice (some ⟨w8.heap.size, 0, none⟩) 3 3) [12, 17, 20] ∧ IS (w8.alloc (.cells #[.int .i64 12, .int .i64 17, .int .i64 20] 3)) vm [12, 17, 20]) := ⟨is_new w8 [12, 17, 20] _ rfl, F8.out.2.1.below (bel_al _ _)⟩
  go_wp2_with fail
  refine (A7.out _ _ _ [12, 17, 20] (by decide) B9.out.2 B9.out.1).mono ?_
  rintro e w9 ⟨rfl, h9⟩
  have F9 : Hid (Below w.heap.size w w9 ∧ IS w9 vr [0, 1]) := by
    have b := bel_tr (bel_al w8 _) h9
    exact ⟨bel_tr F8.out.1 b, F8.out.2.2.below b⟩
  clear h9 F8 B9
  have B10 : Hid (IS (w9.alloc (.cells #[.int .i64 0, .int .i64 1] 3)) (.slice (some ⟨w9.heap.size, 0, none⟩) 2 2) [0, 1] ∧ IS (w9.alloc (.cells #[.int .i64 0, .int .i64 1] 3)) vr [0, 1]) := ⟨is_new w9 [0, 1] _ rfl, F9.out.2.below (bel_al _ _)⟩
  go_wp2_with fail
  refine (A7.out _ _ _ [0, 1] (by decide) B10.out.2 B10.out.1).mono ?_
  rintro e w10 ⟨rfl, h10⟩
  have F10 : Hid (Below w.heap.size w w10) := bel_tr F9.out.1 (bel_tr (bel_al w9 _) h10)
  clear h10 F9 B10
  go_wp2
  go_ret
  exact ⟨rfl, F10.out⟩

end Go.Proofs.Ytjamkbhplejolaa
