/-
  Contracts of the document's answer for layer 4: palettes.
-/
import Derived.Test.YtbppadheejdhcaaDoorER2
import Derived.Test.YtbppadheejdhcaaDoorCW3
import Derived.Test.YtbppadheejdhcaaDoorDW2
namespace Go.Proofs.YtbppadheejdhcaaDoor
open Go.RowKit

def nmL : List ByteArray := [⟨#[35, 48, 48, 48]⟩, ⟨#[35, 56, 48, 48, 48, 48, 48]⟩, ⟨#[35, 48, 48, 56, 48, 48, 48]⟩, ⟨#[35, 56, 48, 56, 48, 48, 48]⟩, ⟨#[35, 48, 48, 48, 48, 56, 48]⟩, ⟨#[35, 56, 48, 48, 48, 56, 48]⟩, ⟨#[35, 48, 48, 56, 48, 56, 48]⟩, ⟨#[35, 99, 48, 99, 48, 99, 48]⟩, ⟨#[35, 56, 48, 56, 48, 56, 48]⟩, ⟨#[35, 102, 48, 48]⟩, ⟨#[35, 48, 102, 48]⟩, ⟨#[35, 102, 102, 48]⟩, ⟨#[35, 48, 48, 102]⟩, ⟨#[35, 102, 48, 102]⟩, ⟨#[35, 48, 102, 102]⟩, ⟨#[35, 102, 102, 102]⟩]
def nm (k : Nat) : ByteArray := nmL.getD k ByteArray.empty
theorem nm_all : ∀ k : Fin 16, ((parC (nm k.val)).r = (bkM k.val).r ∧ (parC (nm k.val)).g = (bkM k.val).g ∧ (parC (nm k.val)).b = (bkM k.val).b ∧ (parC (nm k.val)).a = (bkM k.val).a) ∧ okT (nm k.val) = true ∧ (nm k.val).size ≤ 7 := by decide +kernel
theorem co_ext {x y : Co} (h1 : x.r = y.r) (h2 : x.g = y.g) (h3 : x.b = y.b) (h4 : x.a = y.a) : x = y := by
  cases x; cases y; simp_all
theorem nm_is (k : Fin 16) : parC (nm k.val) = bkM k.val ∧ okT (nm k.val) = true ∧ (nm k.val).size ≤ 7 :=
  ⟨co_ext (nm_all k).1.1 (nm_all k).1.2.1 (nm_all k).1.2.2.1 (nm_all k).1.2.2.2, (nm_all k).2⟩

set_option maxHeartbeats 1000000 in
theorem named_any (k : Nat) (w : World) (hk : k < 16) :
    Calls Tryd.prog 28 #[.int .i64 k] w fun e w' => e = .returned (.string (nm k)) ∧ Below w.heap.size w w' := by
  have cs : k = 0 ∨ k = 1 ∨ k = 2 ∨ k = 3 ∨ k = 4 ∨ k = 5 ∨ k = 6 ∨ k = 7 ∨ k = 8 ∨ k = 9 ∨ k = 10 ∨ k = 11 ∨ k = 12 ∨ k = 13 ∨ k = 14 ∨ k = 15 := by omega
  rcases cs with rfl | rfl | rfl | rfl | rfl | rfl | rfl | rfl | rfl | rfl | rfl | rfl | rfl | rfl | rfl | rfl
  all_goals
    go_enter Tryd.func28, Tryd.ntmps28
    go_wp2
    go_ret
    exact ⟨rfl, (Below.refl _ w).alloc (Nat.le_refl _) _⟩

set_option maxHeartbeats 1000000 in
theorem level_any (k : Nat) (w : World) (hk : k < 6) :
    Calls Tryd.prog 29 #[.int .i64 k] w fun e w' => e = .returned (.int .u8 (levN k)) ∧ Below w.heap.size w w' := by
  have cs : k = 0 ∨ k = 1 ∨ k = 2 ∨ k = 3 ∨ k = 4 ∨ k = 5 := by omega
  rcases cs with rfl | rfl | rfl | rfl | rfl | rfl
  all_goals
    go_enter Tryd.func29, Tryd.ntmps29
    go_wp2
    go_ret
    exact ⟨rfl, (Below.refl _ w).alloc (Nat.le_refl _) _⟩

theorem rparse_nm (k : Nat) (w : World) (hk : k < 16) :
    Calls Tryd.prog 27 #[.string (nm k)] w fun e w' => e = .returned (.tuple #[(Value.agg #[.int .u8 (bkM k).r, .int .u8 (bkM k).g, .int .u8 (bkM k).b, .int .u8 (bkM k).a]), .int .i64 0, .int .i64 0]) ∧ Below w.heap.size w w' := by
  obtain ⟨h1, h2, h3⟩ := nm_is ⟨k, hk⟩
  simp only at h1 h2 h3
  obtain ⟨k1, k2⟩ := ok_iff.1 h2
  rw [← h1]
  rcases k2 with h | h | h
  · exact rparse_4 (nm k) w (by omega) k1
  · exact rparse_7 (nm k) w (by omega) k1
  · exact rparse_9 (nm k) w (by omega) k1

set_option maxRecDepth 20000 in
set_option maxHeartbeats 1000000 in
theorem rback_low (n : Nat) (many : Bool) (w : World) (hn : n < 256) (h16 : many = true ∧ n < 16 ∨ many = false) :
    Calls Tryd.prog 18 #[.int .u8 n, .bool many] w fun e w' => e = .returned (Value.agg #[.int .u8 (bk n many).r, .int .u8 (bk n many).g, .int .u8 (bk n many).b, .int .u8 (bk n many).a]) ∧ Below w.heap.size w w' := by
  obtain ⟨q, hq⟩ : ∃ q, q = n % 16 := ⟨_, rfl⟩
  have hq16 : q < 16 := by omega
  have e : bk n many = bkM q := by
    rcases h16 with ⟨rfl, h⟩ | rfl
    · show bkM n = _; rw [hq, Nat.mod_eq_of_lt h]
    · rw [hq]; rfl
  rw [e]
  clear e
  have H1 : Hid (∀ w, Calls Tryd.prog 28 #[.int .i64 q] w fun e w' => e = .returned (.string (nm q)) ∧ Below w.heap.size w w') := fun w => named_any q w hq16
  have H2 : Hid (∀ w, Calls Tryd.prog 27 #[.string (nm q)] w fun e w' => e = .returned (.tuple #[(Value.agg #[.int .u8 (bkM q).r, .int .u8 (bkM q).g, .int .u8 (bkM q).b, .int .u8 (bkM q).a]), .int .i64 0, .int .i64 0]) ∧ Below w.heap.size w w') := fun w => rparse_nm q w hq16
  generalize bkM q = c at *
  generalize nm q = s at *
  rcases h16 with ⟨rfl, h⟩ | rfl
  · have hqn : q = n := by omega
    subst hqn
    clear hq
    go_enter Tryd.func18, Tryd.ntmps18
    go_wp2_with fail
    refine (H1.out _).mono ?_
    rintro e w1 ⟨rfl, hb⟩
    have C := (AtC.new w 0 0 0 0 25).below hb
    have F := (Fr.new w _ _).below hb
    have L := ((Below.refl w.heap.size w).alloc (Nat.le_refl _) _).trans (hb.mono (by simp))
    clear hb
    go_wp2_with fail
    refine (H2.out _).mono ?_
    rintro e w2 ⟨rfl, hb⟩
    replace C := C.below hb
    replace F := F.below hb
    replace L := L.trans (hb.mono L.size)
    clear hb
    have lc := C.lt
    replace F := F.2
    obtain ⟨z0, z1, z2, z3⟩ := id C
    go_wp2
    have L' := set4_below (b := w.heap.size) L (Nat.le_refl _) (.int .u8 c.r) (.int .u8 c.g) (.int .u8 c.b) (.int .u8 c.a)
    obtain ⟨r0, r1, r2, r3⟩ := (AtC.put C c.r c.g c.b c.a).alloc (Obj.cells #[.int .u8 c.r, .int .u8 c.g, .int .u8 c.b, .int .u8 c.a] 25)
    exact bodyPost_ret (v := (Value.agg #[.int .u8 c.r, .int .u8 c.g, .int .u8 c.b, .int .u8 c.a])) (by simp [results, Tryd.results18, go_sem, r0, r1, r2, r3]) rfl ⟨rfl, L'.alloc L'.size _⟩
  · have hq' : (n : Int) % 16 = (q : Int) := by omega
    clear hq
    go_enter Tryd.func18, Tryd.ntmps18
    go_wp2_with fail
    refine (H1.out _).mono ?_
    rintro e w1 ⟨rfl, hb⟩
    have C := (AtC.new w 0 0 0 0 25).below hb
    have F := (Fr.new w _ _).below hb
    have L := ((Below.refl w.heap.size w).alloc (Nat.le_refl _) _).trans (hb.mono (by simp))
    clear hb
    go_wp2_with fail
    refine (H2.out _).mono ?_
    rintro e w2 ⟨rfl, hb⟩
    replace C := C.below hb
    replace F := F.below hb
    replace L := L.trans (hb.mono L.size)
    clear hb
    have lc := C.lt
    replace F := F.2
    obtain ⟨z0, z1, z2, z3⟩ := id C
    go_wp2
    have L' := set4_below (b := w.heap.size) L (Nat.le_refl _) (.int .u8 c.r) (.int .u8 c.g) (.int .u8 c.b) (.int .u8 c.a)
    obtain ⟨r0, r1, r2, r3⟩ := (AtC.put C c.r c.g c.b c.a).alloc (Obj.cells #[.int .u8 c.r, .int .u8 c.g, .int .u8 c.b, .int .u8 c.a] 25)
    exact bodyPost_ret (v := (Value.agg #[.int .u8 c.r, .int .u8 c.g, .int .u8 c.b, .int .u8 c.a])) (by simp [results, Tryd.results18, go_sem, r0, r1, r2, r3]) rfl ⟨rfl, L'.alloc L'.size _⟩

set_option maxRecDepth 20000 in
set_option maxHeartbeats 1000000 in
theorem rback_grey (n : Nat) (w : World) (hn : n < 256) (h : 232 ≤ n) :
    Calls Tryd.prog 18 #[.int .u8 n, .bool true] w fun e w' => e = .returned (Value.agg #[.int .u8 (bk n true).r, .int .u8 (bk n true).g, .int .u8 (bk n true).b, .int .u8 (bk n true).a]) ∧ Below w.heap.size w w' := by
  rw [show bk n true = ⟨8 + 10 * ((n : Int) - 232), 8 + 10 * ((n : Int) - 232), 8 + 10 * ((n : Int) - 232), 255⟩ by unfold bk; rw [if_pos rfl]; unfold bkM; rw [if_neg (by omega), if_neg (by omega), show ((n : Int) - 232) * 10 + 8 = 8 + 10 * ((n : Int) - 232) by omega]]
  go_enter Tryd.func18, Tryd.ntmps18
  go_wp2
  exact bodyPost_ret (v := .agg #[.int .u8 _, .int .u8 _, .int .u8 _, .int .u8 _]) (by simp [results, Tryd.results18, go_sem]; try omega) rfl ⟨rfl, (Below.refl _ w).alloc (Nat.le_refl _) _⟩

set_option maxRecDepth 20000 in
set_option maxHeartbeats 1000000 in
theorem rback_cube (n : Nat) (w : World) (h16 : 16 ≤ n) (h : n < 232) :
    Calls Tryd.prog 18 #[.int .u8 n, .bool true] w fun e w' => e = .returned (Value.agg #[.int .u8 (bk n true).r, .int .u8 (bk n true).g, .int .u8 (bk n true).b, .int .u8 (bk n true).a]) ∧ Below w.heap.size w w' := by
  rw [show bk n true = ⟨levN ((n - 16) / 36), levN ((n - 16) / 6 % 6), levN ((n - 16) % 6), 255⟩ by unfold bk; rw [if_pos rfl]; unfold bkM; rw [if_neg (by omega), if_pos h]]
  obtain ⟨q1, hq1⟩ : ∃ q, q = (n - 16) / 36 := ⟨_, rfl⟩
  obtain ⟨q2, hq2⟩ : ∃ q, q = (n - 16) / 6 % 6 := ⟨_, rfl⟩
  obtain ⟨q3, hq3⟩ : ∃ q, q = (n - 16) % 6 := ⟨_, rfl⟩
  rw [← hq1, ← hq2, ← hq3]
  have e1 : ((n : Int) - 16) / 36 = (q1 : Int) := by omega
  have e2 : ((n : Int) - 16) / 6 % 6 = (q2 : Int) := by omega
  have e3 : ((n : Int) - 16) % 6 = (q3 : Int) := by omega
  have H1 : Hid (∀ w, Calls Tryd.prog 29 #[.int .i64 q1] w fun e w' => e = .returned (.int .u8 (levN q1)) ∧ Below w.heap.size w w') := fun w => level_any q1 w (by omega)
  have H2 : Hid (∀ w, Calls Tryd.prog 29 #[.int .i64 q2] w fun e w' => e = .returned (.int .u8 (levN q2)) ∧ Below w.heap.size w w') := fun w => level_any q2 w (by omega)
  have H3 : Hid (∀ w, Calls Tryd.prog 29 #[.int .i64 q3] w fun e w' => e = .returned (.int .u8 (levN q3)) ∧ Below w.heap.size w w') := fun w => level_any q3 w (by omega)
  clear hq1 hq2 hq3
  go_enter Tryd.func18, Tryd.ntmps18
  go_wp2_with fail
  refine (H1.out _).mono ?_
  rintro e w1 ⟨rfl, hb⟩
  have C := (AtC.new w 0 0 0 0 25).below hb
  have F := (Fr.new w _ _).below hb
  have L := ((Below.refl w.heap.size w).alloc (Nat.le_refl _) _).trans (hb.mono (by simp))
  clear hb
  go_wp2_with fail
  refine (H2.out _).mono ?_
  rintro e w2 ⟨rfl, hb⟩
  replace C := C.below hb
  replace F := F.below hb
  replace L := L.trans (hb.mono L.size)
  clear hb
  go_wp2_with fail
  refine (H3.out _).mono ?_
  rintro e w3 ⟨rfl, hb⟩
  replace C := C.below hb
  replace F := (F.below hb).2
  replace L := L.trans (hb.mono L.size)
  clear hb
  obtain ⟨z0, z1, z2, z3⟩ := C
  go_wp2
  exact bodyPost_ret (v := .agg #[.int .u8 _, .int .u8 _, .int .u8 _, .int .u8 _]) (by simp [results, Tryd.results18, go_sem, z0, z1, z2, z3]) rfl ⟨rfl, set4_below L (by omega) _ _ _ _⟩

theorem rback_any (n : Nat) (many : Bool) (w : World) (hn : n < 256) :
    Calls Tryd.prog 18 #[.int .u8 n, .bool many] w fun e w' => e = .returned (Value.agg #[.int .u8 (bk n many).r, .int .u8 (bk n many).g, .int .u8 (bk n many).b, .int .u8 (bk n many).a]) ∧ Below w.heap.size w w' := by
  cases many
  · exact rback_low n false w hn (.inr rfl)
  · by_cases h : n < 16
    · exact rback_low n true w hn (.inl ⟨rfl, h⟩)
    · by_cases h2 : n < 232
      · exact rback_cube n w (by omega) h2
      · exact rback_grey n w hn (by omega)

set_option maxHeartbeats 400000 in
theorem rsquare_any (x y : Int) (w : World) (hx : By x) (hy : By y) :
    Calls Tryd.prog 40 #[.int .u8 x, .int .u8 y] w fun e w' => e = .returned (.int .i64 (sq x y)) ∧ w' = w := by
  obtain ⟨s1, s2⟩ := sq_bd hx hy
  obtain ⟨x1, x2⟩ := hx
  obtain ⟨y1, y2⟩ := hy
  unfold sq at s1 s2
  go_enter Tryd.func40, Tryd.ntmps40
  go_wp2
  go_ret
  exact ⟨rfl, rfl⟩

set_option maxHeartbeats 1000000 in
theorem rfar_any (a b : Co) (w : World) (ha : a.ok) (hb : b.ok) :
    Calls Tryd.prog 34 #[(Value.agg #[.int .u8 a.r, .int .u8 a.g, .int .u8 a.b, .int .u8 a.a]), (Value.agg #[.int .u8 b.r, .int .u8 b.g, .int .u8 b.b, .int .u8 b.a])] w fun e w' => e = .returned (.int .i64 (farI a b)) ∧ Below w.heap.size w w' := by
  obtain ⟨h1, h2⟩ := sq_bd ha.1 hb.1
  obtain ⟨h3, h4⟩ := sq_bd ha.2.1 hb.2.1
  obtain ⟨h5, h6⟩ := sq_bd ha.2.2.1 hb.2.2.1
  have H1 : Hid (∀ w, Calls Tryd.prog 40 #[.int .u8 a.r, .int .u8 b.r] w fun e w' => e = .returned (.int .i64 (sq a.r b.r)) ∧ w' = w) := fun w => rsquare_any _ _ w ha.1 hb.1
  have H2 : Hid (∀ w, Calls Tryd.prog 40 #[.int .u8 a.g, .int .u8 b.g] w fun e w' => e = .returned (.int .i64 (sq a.g b.g)) ∧ w' = w) := fun w => rsquare_any _ _ w ha.2.1 hb.2.1
  have H3 : Hid (∀ w, Calls Tryd.prog 40 #[.int .u8 a.b, .int .u8 b.b] w fun e w' => e = .returned (.int .i64 (sq a.b b.b)) ∧ w' = w) := fun w => rsquare_any _ _ w ha.2.2.1 hb.2.2.1
  clear ha hb
  unfold farI
  generalize sq a.r b.r = u1 at *
  generalize sq a.g b.g = u2 at *
  generalize sq a.b b.b = u3 at *
  go_enter Tryd.func34, Tryd.ntmps34
  go_wp2_with fail
  obtain ⟨A, B, L⟩ := boxes_cc w a b 25 25
  have ne := gw_ne L
  have a0 := fun t => (gwC A t).1
  have a1 := fun t => (gwC A t).2.1
  have a2 := fun t => (gwC A t).2.2.1
  have b0 := fun t => (gwC B t).1
  have b1 := fun t => (gwC B t).2.1
  have b2 := fun t => (gwC B t).2.2.1
  clear A B
  refine wp_region_gw (by kernel_rfl) (by kernel_rfl) ?_
  repeat (go_big_quiet_step (first
    | (go_at_call_of 40 (Value.int .u8 a.r); exact gw_same (H1.out _))
    | (go_at_call_of 40 (Value.int .u8 a.g); exact gw_same (H2.out _))
    | (go_at_call_of 40 (Value.int .u8 a.b); exact gw_same (H3.out _))))
  refine wpQuiet_nil ?_
  rintro _ ⟨t, rfl⟩
  go_wp2
  go_ret
  exact ⟨rfl, L.trans (t.below.mono L.size)⟩

end Go.Proofs.YtbppadheejdhcaaDoor
