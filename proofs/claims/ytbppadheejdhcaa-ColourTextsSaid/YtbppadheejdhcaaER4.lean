/-
  Contract of the document's answer for layer 4: Text.
-/
import Derived.Test.YtbppadheejdhcaaER3
namespace Go.Proofs.Ytbppadheejdhcaa
open Go.RowKit

theorem at0 (x y : UInt8) (h : 0 < (⟨#[x, y]⟩ : ByteArray).size) : (⟨#[x, y]⟩ : ByteArray)[0] = x := rfl
theorem at1 (x y : UInt8) (h : 1 < (⟨#[x, y]⟩ : ByteArray).size) : (⟨#[x, y]⟩ : ByteArray)[1] = y := rfl
theorem size2 (x y : UInt8) : (⟨#[x, y]⟩ : ByteArray).size = 2 := rfl
theorem tw_bt {x : Nat} (h : x < 256) : ((((bt (x / 16)).toNat : Nat) : Int) == (((bt (x % 16)).toNat : Nat) : Int)) = tw x := by
  rw [bt_nat (by omega), bt_nat (Nat.mod_lt _ (by decide))]
  unfold tw
  rw [Bool.eq_iff_iff]
  simp only [beq_iff_eq]
  omega
theorem ext01 (x y : UInt8) : (⟨#[x, y]⟩ : ByteArray).extract 0 1 = ⟨#[x]⟩ := by
  apply ByteArray.ext
  simp

theorem cat4 (x y z : UInt8) : (⟨#[35]⟩ ++ ⟨#[x]⟩ ++ ⟨#[y]⟩ ++ ⟨#[z]⟩ : ByteArray) = ⟨#[35, x, y, z]⟩ := by
  apply ByteArray.ext
  simp
theorem cat7 (a b c d e f : UInt8) : (⟨#[35]⟩ ++ ⟨#[a, b]⟩ ++ ⟨#[c, d]⟩ ++ ⟨#[e, f]⟩ : ByteArray) = ⟨#[35, a, b, c, d, e, f]⟩ := by
  apply ByteArray.ext
  simp
theorem cat9 (a b c d e f g h : UInt8) : (⟨#[35]⟩ ++ ⟨#[a, b]⟩ ++ ⟨#[c, d]⟩ ++ ⟨#[e, f]⟩ ++ ⟨#[g, h]⟩ : ByteArray) = ⟨#[35, a, b, c, d, e, f, g, h]⟩ := by
  apply ByteArray.ext
  simp
attribute [local go_sem] at0 at1 ext01

set_option maxHeartbeats 2000000 in
theorem rtext_short (r g b : Nat) (w : World) (hr : r < 256) (hg : g < 256) (hb : b < 256) (h1 : tw r = true) (h2 : tw g = true) (h3 : tw b = true) :
    Calls Try.prog 10 #[.agg #[.int .u8 r, .int .u8 g, .int .u8 b, .int .u8 255]] w fun e w' => e = .returned (.string ⟨#[35, bt (r / 16), bt (g / 16), bt (b / 16)]⟩) ∧ Below w.heap.size w w' := by
  rw [← tw_bt hr] at h1
  rw [← tw_bt hg] at h2
  rw [← tw_bt hb] at h3
  have H2 : Hid (∀ (x : Nat) w, x < 256 → Calls Try.prog 27 #[.int .u8 x] w fun e w' => e = .returned (.string ⟨#[bt (x / 16), bt (x % 16)]⟩) ∧ Below w.heap.size w w') := fun x w hx => two_any x w hx
  go_enter Try.func10, Try.ntmps10
  go_wp2_with fail
  have A := AtC.new w r g b 255 23
  have L : Below w.heap.size w (w.alloc (.cells #[.int .u8 r, .int .u8 g, .int .u8 b, .int .u8 255] 23)) := (Below.refl _ w).alloc (Nat.le_refl _) _
  generalize w.alloc (.cells #[.int .u8 r, .int .u8 g, .int .u8 b, .int .u8 255] 23) = W at *
  have HA : Hid (AtC W w.heap.size ⟨r, g, b, 255⟩ ∧ Below w.heap.size w W) := ⟨A, L⟩
  have ne := gw_ne L
  have a0 := fun t => (gwC A t).1
  have a1 := fun t => (gwC A t).2.1
  have a2 := fun t => (gwC A t).2.2.1
  clear A L
  refine wp_region_gw (by kernel_rfl) (by kernel_rfl) ?_
  repeat (go_big_quiet_step (first
    | (go_at_call 27; exact gw_call (H2.out _ _ (by assumption)))))
  refine wpQuiet_nil ?_
  rintro _ ⟨t, rfl⟩
  clear a0 a1 a2 ne
  have HB : Hid (AtC t.wd w.heap.size ⟨r, g, b, 255⟩ ∧ Below w.heap.size w t.wd) := ⟨HA.out.1.below t.below, HA.out.2.trans (t.below.mono HA.out.2.size)⟩
  generalize t.wd = W1 at *
  clear HA
  go_wp2_with fail
  have ne := gw_ne HB.out.2
  have a3 := fun t => (gwC HB.out.1 t).2.2.2
  refine wp_region_gw (by kernel_rfl) (by kernel_rfl) ?_
  repeat (go_big_quiet_step (fail))
  refine wpQuiet_nil ?_
  rintro _ ⟨t2, rfl⟩
  clear a3 ne
  have HC : Hid (Below w.heap.size w t2.wd) := HB.out.2.trans (t2.below.mono HB.out.2.size)
  generalize t2.wd = W2 at *
  clear HB
  go_wp2_with fail
  have ne := gw_ne HC.out
  refine wp_region_gw (by kernel_rfl) (by kernel_rfl) ?_
  repeat (go_big_quiet_step (fail))
  refine wpQuiet_nil ?_
  rintro _ ⟨t3, rfl⟩
  go_wp2
  go_ret
  exact ⟨congrArg (fun z => Ending.returned (.string z)) (cat4 _ _ _), HC.out.trans (t3.below.mono HC.out.size)⟩

set_option maxHeartbeats 2000000 in
theorem rtext_six (r g b : Nat) (w : World) (hr : r < 256) (hg : g < 256) (hb : b < 256) (ht : tw r = false ∨ (tw r = true ∧ tw g = false) ∨ (tw r = true ∧ tw g = true ∧ tw b = false)) :
    Calls Try.prog 10 #[.agg #[.int .u8 r, .int .u8 g, .int .u8 b, .int .u8 255]] w fun e w' => e = .returned (.string ⟨#[35, bt (r / 16), bt (r % 16), bt (g / 16), bt (g % 16), bt (b / 16), bt (b % 16)]⟩) ∧ Below w.heap.size w w' := by
  rw [← tw_bt hr, ← tw_bt hg, ← tw_bt hb] at ht
  have H2 : Hid (∀ (x : Nat) w, x < 256 → Calls Try.prog 27 #[.int .u8 x] w fun e w' => e = .returned (.string ⟨#[bt (x / 16), bt (x % 16)]⟩) ∧ Below w.heap.size w w') := fun x w hx => two_any x w hx
  rcases ht with h1 | ⟨h1, h2⟩ | ⟨h1, h2, h3⟩
  all_goals
    go_enter Try.func10, Try.ntmps10
    go_wp2_with fail
    have A := AtC.new w r g b 255 23
    have L : Below w.heap.size w (w.alloc (.cells #[.int .u8 r, .int .u8 g, .int .u8 b, .int .u8 255] 23)) := (Below.refl _ w).alloc (Nat.le_refl _) _
    generalize w.alloc (.cells #[.int .u8 r, .int .u8 g, .int .u8 b, .int .u8 255] 23) = W at *
    have HA : Hid (AtC W w.heap.size ⟨r, g, b, 255⟩ ∧ Below w.heap.size w W) := ⟨A, L⟩
    have ne := gw_ne L
    have a0 := fun t => (gwC A t).1
    have a1 := fun t => (gwC A t).2.1
    have a2 := fun t => (gwC A t).2.2.1
    clear A L
    refine wp_region_gw (by kernel_rfl) (by kernel_rfl) ?_
    repeat (go_big_quiet_step (first
      | (go_at_call 27; exact gw_call (H2.out _ _ (by assumption)))))
    refine wpQuiet_nil ?_
    rintro _ ⟨t, rfl⟩
    clear a0 a1 a2 ne
    have HB : Hid (AtC t.wd w.heap.size ⟨r, g, b, 255⟩ ∧ Below w.heap.size w t.wd) := ⟨HA.out.1.below t.below, HA.out.2.trans (t.below.mono HA.out.2.size)⟩
    generalize t.wd = W1 at *
    clear HA
    go_wp2_with fail
    have ne := gw_ne HB.out.2
    have a3 := fun t => (gwC HB.out.1 t).2.2.2
    refine wp_region_gw (by kernel_rfl) (by kernel_rfl) ?_
    repeat (go_big_quiet_step (fail))
    refine wpQuiet_nil ?_
    rintro _ ⟨t2, rfl⟩
    clear ne
    have HC : Hid (AtC t2.wd w.heap.size ⟨r, g, b, 255⟩ ∧ Below w.heap.size w t2.wd) := ⟨HB.out.1.below t2.below, HB.out.2.trans (t2.below.mono HB.out.2.size)⟩
    clear a3
    generalize t2.wd = W2 at *
    clear HB
    obtain ⟨d0, d1, d2, d3⟩ := HC.out.1
    go_wp2
    go_ret
    exact ⟨congrArg (fun z => Ending.returned (.string z)) (cat7 _ _ _ _ _ _), HC.out.2⟩

set_option maxRecDepth 20000 in
set_option maxHeartbeats 2000000 in
theorem rtext_eight (r g b a : Nat) (w : World) (hr : r < 256) (hg : g < 256) (hb : b < 256) (ha : a < 255) :
    Calls Try.prog 10 #[.agg #[.int .u8 r, .int .u8 g, .int .u8 b, .int .u8 a]] w fun e w' => e = .returned (.string ⟨#[35, bt (r / 16), bt (r % 16), bt (g / 16), bt (g % 16), bt (b / 16), bt (b % 16), bt (a / 16), bt (a % 16)]⟩) ∧ Below w.heap.size w w' := by
  have h255 : ((a : Int) == 255) = false := by rw [beq_eq_false_iff_ne]; omega
  have ha' : a < 256 := by omega
  have H2 : Hid (∀ (x : Nat) w, x < 256 → Calls Try.prog 27 #[.int .u8 x] w fun e w' => e = .returned (.string ⟨#[bt (x / 16), bt (x % 16)]⟩) ∧ Below w.heap.size w w') := fun x w hx => two_any x w hx
  iterate 1
    go_enter Try.func10, Try.ntmps10
    go_wp2_with fail
    have A := AtC.new w r g b a 23
    have L : Below w.heap.size w (w.alloc (.cells #[.int .u8 r, .int .u8 g, .int .u8 b, .int .u8 a] 23)) := (Below.refl _ w).alloc (Nat.le_refl _) _
    generalize w.alloc (.cells #[.int .u8 r, .int .u8 g, .int .u8 b, .int .u8 a] 23) = W at *
    have HA : Hid (AtC W w.heap.size ⟨r, g, b, a⟩ ∧ Below w.heap.size w W) := ⟨A, L⟩
    have ne := gw_ne L
    have a0 := fun t => (gwC A t).1
    have a1 := fun t => (gwC A t).2.1
    have a2 := fun t => (gwC A t).2.2.1
    clear A L
    refine wp_region_gw (by kernel_rfl) (by kernel_rfl) ?_
    repeat (go_big_quiet_step (first
      | (go_at_call 27; exact gw_call (H2.out _ _ (by assumption)))))
    refine wpQuiet_nil ?_
    rintro _ ⟨t, rfl⟩
    clear a0 a1 a2 ne
    have HB : Hid (AtC t.wd w.heap.size ⟨r, g, b, a⟩ ∧ Below w.heap.size w t.wd) := ⟨HA.out.1.below t.below, HA.out.2.trans (t.below.mono HA.out.2.size)⟩
    generalize t.wd = W1 at *
    clear HA
    go_wp2_with fail
    have ne := gw_ne HB.out.2
    have a3 := fun t => (gwC HB.out.1 t).2.2.2
    refine wp_region_gw (by kernel_rfl) (by kernel_rfl) ?_
    repeat (go_big_quiet_step (fail))
    refine wpQuiet_nil ?_
    rintro _ ⟨t2, rfl⟩
    clear ne
    have HC : Hid (AtC t2.wd w.heap.size ⟨r, g, b, a⟩ ∧ Below w.heap.size w t2.wd) := ⟨HB.out.1.below t2.below, HB.out.2.trans (t2.below.mono HB.out.2.size)⟩
    clear a3
    generalize t2.wd = W2 at *
    clear HB
    obtain ⟨d0, d1, d2, d3⟩ := HC.out.1
    go_wp2_with fail
    refine (H2.out _ _ (by assumption)).mono ?_
    rintro e w3 ⟨rfl, hb3⟩
    have L3 := HC.out.2.trans (hb3.mono HC.out.2.size)
    clear hb3
    go_wp2
    go_ret
    exact ⟨congrArg (fun z => Ending.returned (.string z)) (cat9 _ _ _ _ _ _ _ _), L3⟩

theorem rtext_any (c : Co) (w : World) (hc : c.ok) :
    Calls Try.prog 10 #[(Value.agg #[.int .u8 c.r, .int .u8 c.g, .int .u8 c.b, .int .u8 c.a])] w fun e w' => e = .returned (.string (txt c)) ∧ Below w.heap.size w w' := by
  obtain ⟨⟨r1, r2⟩, ⟨g1, g2⟩, ⟨b1, b2⟩, ⟨a1, a2⟩⟩ := hc
  obtain ⟨r, g, b, a⟩ := c
  simp only at r1 r2 g1 g2 b1 b2 a1 a2
  obtain ⟨r, rfl⟩ := Int.eq_ofNat_of_zero_le r1
  obtain ⟨g, rfl⟩ := Int.eq_ofNat_of_zero_le g1
  obtain ⟨b, rfl⟩ := Int.eq_ofNat_of_zero_le b1
  obtain ⟨a, rfl⟩ := Int.eq_ofNat_of_zero_le a1
  unfold txt txtL
  simp only [Int.toNat_natCast]
  have tq : ∀ x : Nat, x < 256 → tw x = true → x / 16 = x % 16 := fun x hx h => by
    unfold tw at h
    rw [sx_inj (by omega) (by omega)] at h
    simpa using h
  by_cases h : a = 255
  · subst h
    by_cases ht : tw r = true ∧ tw g = true ∧ tw b = true
    · rw [if_pos ⟨rfl, ht⟩]
      have h := rtext_short r g b w (by omega) (by omega) (by omega) ht.1 ht.2.1 ht.2.2
      rw [tq r (by omega) ht.1, tq g (by omega) ht.2.1, tq b (by omega) ht.2.2] at h
      exact h
    · rw [if_neg (fun h => ht h.2), if_pos rfl]
      refine rtext_six r g b w (by omega) (by omega) (by omega) ?_
      cases e1 : tw r
      · exact .inl rfl
      · cases e2 : tw g
        · exact .inr (.inl ⟨rfl, rfl⟩)
        · cases e3 : tw b
          · exact .inr (.inr ⟨rfl, rfl, rfl⟩)
          · exact absurd ⟨e1, e2, e3⟩ ht
  · rw [if_neg (fun h' => h h'.1), if_neg h]
    exact rtext_eight r g b a w (by omega) (by omega) (by omega) (by omega)

end Go.Proofs.Ytbppadheejdhcaa
