/-
  Contract of package colour: the colour of sixteens.
-/
import Derived.Test.YtbppadheejdhcaaDoorCT1
namespace Go.Proofs.YtbppadheejdhcaaDoor
open Go.RowKit

/-- A block of four parts. -/
def AtP (w : World) (b : Nat) (f : Nat → Int) : Prop := ∀ j, j < 4 → w.cell? ⟨b, j, none⟩ = some (.int .u8 (f j))
theorem AtP.below {W w1 : World} {b : Nat} {f : Nat → Int} (h : AtP W b f) (hb : Below W.heap.size W w1) : AtP w1 b f :=
  fun j hj => (keepAt hb (h 0 (by decide)) j).trans (h j hj)

theorem rd_bd {t : ByteArray} (hs : ∀ (j : Nat) (h : j < t.size), six (t[j]).toNat = true) (each : Nat) : ∀ i j, i ≤ t.size → 0 ≤ rd t each i j ∧ rd t each i j ≤ 255
  | 0, j, _ => by unfold rd; split <;> omega
  | i + 1, j, h => by
    have hi := rd_bd hs each i j (by omega)
    unfold rd
    split
    · have h2 := hs i (by omega)
      have h3 := dig_lt (t[i]).toNat
      rw [dg_at (by omega)]
      unfold six at h2
      simp at h2
      omega
    · exact hi

theorem or16 : ∀ (y d : Fin 16), bits .or .u8 ((y.val : Int) * 16) (d.val : Int) = (y.val : Int) * 16 + (d.val : Int) := by decide +kernel
theorem or_add (x d : Int) (h0 : 0 ≤ d) (h1 : d ≤ 15) : bits .or .u8 (x * 16 % 256) d = x * 16 % 256 + d := by
  have h := or16 ⟨(x % 16).toNat, by omega⟩ ⟨d.toNat, by omega⟩
  simp only at h
  rw [show (((x % 16).toNat : Nat) : Int) = x % 16 by omega, show ((d.toNat : Nat) : Int) = d by omega, show x % 16 * 16 = x * 16 % 256 by omega] at h
  exact h
theorem AtP.put {w : World} {b q : Nat} {f : Nat → Int} (h : AtP w b f) (v : Int) (hq : q < 4) : AtP (w.setCell ⟨b, q, none⟩ (.int .u8 v)) b (fun j => if j = q then v else f j) := by
  intro j hj
  by_cases e : j = q
  · subst e
    have := h j hj
    simp [go_sem, this]
  · rw [World.cell?_setCell_other _ _ _ _ (fun h => e (by cases h; rfl))]
    simp [e, h j hj]
theorem AtP.congr {w : World} {b : Nat} {f g : Nat → Int} (h : AtP w b f) (e : ∀ j, j < 4 → f j = g j) : AtP w b g := fun j hj => by rw [← e j hj]; exact h j hj

set_option maxHeartbeats 1000000 in
theorem read_two (t : ByteArray) (w : World) (ht : t.size = 6 ∨ t.size = 8) (hs : ∀ (j : Nat) (h : j < t.size), six (t[j]).toNat = true) :
    Calls Tryd.prog 31 #[.string t, .int .i64 2] w fun e w' => e = .returned (.agg #[.int .u8 (rd t 2 t.size 0), .int .u8 (rd t 2 t.size 1), .int .u8 (rd t 2 t.size 2), .int .u8 (rd t 2 t.size 3)]) ∧ Below w.heap.size w w' := by
  have HS : Hid (∀ (j : Nat) (h : j < t.size), six (t[j]).toNat = true) := hs
  have hb := rd_bd hs 2
  have HB : Hid (∀ i j, i ≤ t.size → 0 ≤ rd t 2 i j ∧ rd t 2 i j ≤ 255) := hb
  clear hs hb
  go_enter Tryd.func31, Tryd.ntmps31
  go_wp2
  go_loopw [12] (fun i wr => ∃ k : Nat, k ≤ t.size ∧ i = .int .i64 k ∧ AtP wr (w.heap.size + 1) (rd t 2 k) ∧ Fr wr (w.heap.size + 1) ∧ AtC wr w.heap.size ⟨0, 0, 0, 0⟩ ∧ Fr wr w.heap.size ∧ Below w.heap.size w wr) (fun i _ => t.size - (intOf i).toNat)
  case atStart =>
    refine ⟨0, Nat.zero_le _, rfl, ?_, fr1 _ _ _ _, (AtC.new _ _ _ _ _ _).alloc _, (Fr.new _ _ _).alloc _, ((Below.refl _ w).alloc (Nat.le_refl _) _).alloc (by simp) _⟩
    intro j hj
    have hc : j = 0 ∨ j = 1 ∨ j = 2 ∨ j = 3 := by omega
    rcases hc with rfl | rfl | rfl | rfl <;> simp [rd, go_sem]
  case round =>
    obtain ⟨k, hk, rfl, hP, hF, hC, hG, hL⟩ := hrel
    by_cases hlt : k < t.size
    · obtain ⟨q, hq⟩ : ∃ q, q = k / 2 := ⟨_, rfl⟩
      have hq' : ((k : Int) / 2) = (q : Int) := by omega
      have hq4 : q < 4 := by omega
      have hc := hP q hq4
      have hlt2 : w.heap.size + 1 < wr.heap.size := hF.1
      have hfr := hF.2 q
      have hxb := HB.out k q hk
      generalize hx : rd t 2 k q = x at *
      have HQ : Hid (q = k / 2 ∧ rd t 2 k q = x) := ⟨hq, hx⟩
      have HH : Hid (AtP wr (w.heap.size + 1) (rd t 2 k) ∧ Fr wr (w.heap.size + 1) ∧ AtC wr w.heap.size ⟨0, 0, 0, 0⟩ ∧ Fr wr w.heap.size ∧ Below w.heap.size w wr) := ⟨hP, hF, hC, hG, hL⟩
      clear hP hF hC hG hL hq hx
      obtain ⟨hx1, hx2⟩ := hxb
      have hsx := HS.out k hlt
      have hd := dig_lt (t[k]).toNat
      have hd0 : 0 ≤ dig (t[k]).toNat := by unfold six at hsx; simpa using hsx
      have hor := or_add x (dig (t[k]).toNat) hd0 hd.1
      have HV : Hid (∀ w, Calls Tryd.prog 37 #[.int .u8 ((t[k]).toNat : Nat)] w fun e w' => e = .returned (.int .u8 (dig (t[k]).toNat)) ∧ w' = w) := fun w => value_any _ w hsx
      have HD : Hid (dg t k = dig (t[k]).toNat) := dg_at hlt
      clear hsx
      go_wp2_with fail
      generalize hW : wr.setCell { block := w.heap.size + 1, off := q } (Value.int IntKind.u8 (x * 16 % 256)) = W
      have HW : Hid (W.cell? ⟨w.heap.size + 1, q, none⟩ = some (.int .u8 (x * 16 % 256)) ∧ Fr W (w.heap.size + 1) ∧ AtP W (w.heap.size + 1) (fun j => if j = q then x * 16 % 256 else rd t 2 k j) ∧ AtC W w.heap.size ⟨0, 0, 0, 0⟩ ∧ Fr W w.heap.size ∧ Below w.heap.size w W) := by
        obtain ⟨hP, hF, hC, hG, hL⟩ := HH.out
        have hP' := hP.put (x * 16 % 256) hq4
        rw [hW] at hP'
        refine ⟨by have := hP' q hq4; simpa using this, hW ▸ hF.set _ _, hP', hW ▸ hC.set _ (by show w.heap.size + 1 ≠ _; omega), hW ▸ hG.set _ _, hW ▸ hL.setCell (by show _ ≤ w.heap.size + 1; omega) _⟩
      clear HH hc hfr hW
      refine wp_region_lit 9 0 1 (fun _ => .cells #[] 0) [] (by kernel_rfl) (by kernel_rfl) rfl (fun k hk => absurd hk (by omega)) rfl (fun i h1 h2 => absurd h2 (by omega)) ?_
      apply Exists.intro
      refine ⟨fun bs ne => ?_, ?_⟩
      · have d0 := fun tt : Gb W bs => (keepAt tt.below HW.out.1 q).trans HW.out.1
        simp only [List.take_succ_cons, List.take_zero]
        repeat (go_big_quiet_step (first
          | (go_at_call 37; exact gb_same (HV.out _))))
        exact wpQuiet_nil rfl
      · intro bl wx hbl _ _
        obtain ⟨h1, hF, hP, hC, hG, hL⟩ := HW.out
        have c0 := (keepAt hbl h1 q).trans h1
        have hF' := hF.below hbl
        have hff := hF'.2 q
        have hsz := hF'.1
        simp only [layL]
        refine wpAny_one 9 (by kernel_rfl) rfl ?_
        intro K hK
        go_simp
        refine hK _ _ ?_
        clear hK K
        refine wpAny_done (by kernel_rfl) ?_ _
        go_wp2
        go_roundw
        case rel =>
          obtain ⟨hq, hx⟩ := HQ.out
          refine ⟨k + 1, by omega, by go_num, ((hP.below hbl).put _ hq4).congr fun j hj => ?_, hF'.set _ _, (hC.below hbl).set _ (by show w.heap.size + 1 ≠ _; omega), (hG.below hbl).set _ _, (hL.trans (hbl.mono hL.size)).setCell (by show _ ≤ w.heap.size + 1; omega) _⟩
          rw [rd, ← hq]
          by_cases e : j = q
          · subst e
            simp [hx, HD.out]
          · simp [e]
        case measure => simp [intOf]; omega
    · obtain rfl : k = t.size := by omega
      have c0 := hP 0 (by decide)
      have c1 := hP 1 (by decide)
      have c2 := hP 2 (by decide)
      have c3 := hP 3 (by decide)
      have lt1 : w.heap.size + 1 < wr.heap.size := hF.1
      have lt0 := hG.1
      have f0 := hG.2
      obtain ⟨z0, z1, z2, z3⟩ := hC
      have HL : Hid (Below w.heap.size w wr) := hL
      clear hP hF hG hL
      obtain ⟨y0, hy0⟩ : ∃ y, y = rd t 2 t.size 0 := ⟨_, rfl⟩
      obtain ⟨y1, hy1⟩ : ∃ y, y = rd t 2 t.size 1 := ⟨_, rfl⟩
      obtain ⟨y2, hy2⟩ : ∃ y, y = rd t 2 t.size 2 := ⟨_, rfl⟩
      obtain ⟨y3, hy3⟩ : ∃ y, y = rd t 2 t.size 3 := ⟨_, rfl⟩
      rw [← hy0] at c0
      rw [← hy1] at c1
      rw [← hy2] at c2
      rw [← hy3] at c3
      have HY : Hid (y0 = rd t 2 t.size 0 ∧ y1 = rd t 2 t.size 1 ∧ y2 = rd t 2 t.size 2 ∧ y3 = rd t 2 t.size 3) := ⟨hy0, hy1, hy2, hy3⟩
      clear hy0 hy1 hy2 hy3
      go_wp2
      have L' := set4_below (b := w.heap.size) HL.out (Nat.le_refl _) (.int .u8 y0) (.int .u8 y1) (.int .u8 y2) (.int .u8 y3)
      obtain ⟨r0, r1, r2, r3⟩ := (AtC.put (k := w.heap.size) (c := ⟨0, 0, 0, 0⟩) ⟨z0, z1, z2, z3⟩ y0 y1 y2 y3).alloc (Obj.cells #[.int .u8 y0, .int .u8 y1, .int .u8 y2, .int .u8 y3] 25)
      exact bodyPost_ret (v := .agg #[.int .u8 y0, .int .u8 y1, .int .u8 y2, .int .u8 y3]) (by simp [results, Tryd.results31, go_sem, r0, r1, r2, r3]) rfl ⟨by rw [← HY.out.1, ← HY.out.2.1, ← HY.out.2.2.1, ← HY.out.2.2.2], L'.alloc L'.size _⟩

theorem or17F : ∀ y : Fin 16, bits .or .u8 (y.val : Int) ((y.val : Int) * 16) = 17 * (y.val : Int) := by decide +kernel
theorem or17 (y : Int) (h0 : 0 ≤ y) (h1 : y ≤ 15) : bits .or .u8 y (y * 16) = 17 * y := by
  have h := or17F ⟨y.toNat, by omega⟩
  simp only at h
  rwa [show ((y.toNat : Nat) : Int) = y by omega] at h

set_option maxHeartbeats 1000000 in
theorem read_one (t : ByteArray) (w : World) (ht : t.size = 3) (hs : ∀ (j : Nat) (h : j < t.size), six (t[j]).toNat = true) :
    Calls Tryd.prog 31 #[.string t, .int .i64 1] w fun e w' => e = .returned (.agg #[.int .u8 (17 * dg t 0), .int .u8 (17 * dg t 1), .int .u8 (17 * dg t 2), .int .u8 255]) ∧ Below w.heap.size w w' := by
  have HS : Hid (∀ (j : Nat) (h : j < t.size), six (t[j]).toNat = true) := hs
  have hb := rd_bd hs 1
  have HB : Hid (∀ i j, i ≤ t.size → 0 ≤ rd t 1 i j ∧ rd t 1 i j ≤ 255) := hb
  clear hs hb
  go_enter Tryd.func31, Tryd.ntmps31
  go_wp2
  go_loopw [12] (fun i wr => ∃ k : Nat, k ≤ t.size ∧ i = .int .i64 k ∧ AtP wr (w.heap.size + 1) (rd t 1 k) ∧ Fr wr (w.heap.size + 1) ∧ AtC wr w.heap.size ⟨0, 0, 0, 0⟩ ∧ Fr wr w.heap.size ∧ Below w.heap.size w wr) (fun i _ => t.size - (intOf i).toNat)
  case atStart =>
    refine ⟨0, Nat.zero_le _, rfl, ?_, fr1 _ _ _ _, (AtC.new _ _ _ _ _ _).alloc _, (Fr.new _ _ _).alloc _, ((Below.refl _ w).alloc (Nat.le_refl _) _).alloc (by simp) _⟩
    intro j hj
    have hc : j = 0 ∨ j = 1 ∨ j = 2 ∨ j = 3 := by omega
    rcases hc with rfl | rfl | rfl | rfl <;> simp [rd, go_sem]
  case round =>
    obtain ⟨k, hk, rfl, hP, hF, hC, hG, hL⟩ := hrel
    by_cases hlt : k < t.size
    · have hq : k = k / 1 := by omega
      have hq4 : k < 4 := by omega
      have hc := hP k hq4
      have hlt2 : w.heap.size + 1 < wr.heap.size := hF.1
      have hfr := hF.2 k
      have hxb := HB.out k k hk
      generalize hx : rd t 1 k k = x at *
      have HQ : Hid (k = k / 1 ∧ rd t 1 k k = x) := ⟨hq, hx⟩
      have HH : Hid (AtP wr (w.heap.size + 1) (rd t 1 k) ∧ Fr wr (w.heap.size + 1) ∧ AtC wr w.heap.size ⟨0, 0, 0, 0⟩ ∧ Fr wr w.heap.size ∧ Below w.heap.size w wr) := ⟨hP, hF, hC, hG, hL⟩
      clear hP hF hC hG hL hq hx
      obtain ⟨hx1, hx2⟩ := hxb
      have hsx := HS.out k hlt
      have hd := dig_lt (t[k]).toNat
      have hd0 : 0 ≤ dig (t[k]).toNat := by unfold six at hsx; simpa using hsx
      have hor := or_add x (dig (t[k]).toNat) hd0 hd.1
      have HV : Hid (∀ w, Calls Tryd.prog 37 #[.int .u8 ((t[k]).toNat : Nat)] w fun e w' => e = .returned (.int .u8 (dig (t[k]).toNat)) ∧ w' = w) := fun w => value_any _ w hsx
      have HD : Hid (dg t k = dig (t[k]).toNat) := dg_at hlt
      clear hsx
      go_wp2_with fail
      generalize hW : wr.setCell { block := w.heap.size + 1, off := k } (Value.int IntKind.u8 (x * 16 % 256)) = W
      have HW : Hid (W.cell? ⟨w.heap.size + 1, k, none⟩ = some (.int .u8 (x * 16 % 256)) ∧ Fr W (w.heap.size + 1) ∧ AtP W (w.heap.size + 1) (fun j => if j = k then x * 16 % 256 else rd t 1 k j) ∧ AtC W w.heap.size ⟨0, 0, 0, 0⟩ ∧ Fr W w.heap.size ∧ Below w.heap.size w W) := by
        obtain ⟨hP, hF, hC, hG, hL⟩ := HH.out
        have hP' := hP.put (x * 16 % 256) hq4
        rw [hW] at hP'
        refine ⟨by have := hP' k hq4; simpa using this, hW ▸ hF.set _ _, hP', hW ▸ hC.set _ (by show w.heap.size + 1 ≠ _; omega), hW ▸ hG.set _ _, hW ▸ hL.setCell (by show _ ≤ w.heap.size + 1; omega) _⟩
      clear HH hc hfr hW
      refine wp_region_lit 9 0 1 (fun _ => .cells #[] 0) [] (by kernel_rfl) (by kernel_rfl) rfl (fun k hk => absurd hk (by omega)) rfl (fun i h1 h2 => absurd h2 (by omega)) ?_
      apply Exists.intro
      refine ⟨fun bs ne => ?_, ?_⟩
      · have d0 := fun tt : Gb W bs => (keepAt tt.below HW.out.1 k).trans HW.out.1
        simp only [List.take_succ_cons, List.take_zero]
        repeat (go_big_quiet_step (first
          | (go_at_call 37; exact gb_same (HV.out _))))
        exact wpQuiet_nil rfl
      · intro bl wx hbl _ _
        obtain ⟨h1, hF, hP, hC, hG, hL⟩ := HW.out
        have c0 := (keepAt hbl h1 k).trans h1
        have hF' := hF.below hbl
        have hff := hF'.2 k
        have hsz := hF'.1
        simp only [layL]
        refine wpAny_one 9 (by kernel_rfl) rfl ?_
        intro K hK
        go_simp
        refine hK _ _ ?_
        clear hK K
        refine wpAny_done (by kernel_rfl) ?_ _
        go_wp2
        go_roundw
        case rel =>
          obtain ⟨hq, hx⟩ := HQ.out
          refine ⟨k + 1, by omega, by go_num, ((hP.below hbl).put _ hq4).congr fun j hj => ?_, hF'.set _ _, (hC.below hbl).set _ (by show w.heap.size + 1 ≠ _; omega), (hG.below hbl).set _ _, (hL.trans (hbl.mono hL.size)).setCell (by show _ ≤ w.heap.size + 1; omega) _⟩
          rw [rd, ← hq]
          by_cases e : j = k
          · subst e
            simp [hx, HD.out]
          · simp [e]
        case measure => simp [intOf]; omega
    · obtain rfl : k = t.size := by omega
      have d0 := HS.out 0 (by omega)
      have d1 := HS.out 1 (by omega)
      have d2 := HS.out 2 (by omega)
      have e0 := dig_lt (t[0]'(by omega)).toNat
      have e1 := dig_lt (t[1]'(by omega)).toNat
      have e2 := dig_lt (t[2]'(by omega)).toNat
      rw [← dg_at (by omega)] at e0 e1 e2
      unfold six at d0 d1 d2
      rw [← dg_at (by omega)] at d0 d1 d2
      simp only [decide_eq_true_eq] at d0 d1 d2
      have r0 : rd t 1 t.size 0 = dg t 0 := by rw [ht]; simp [rd]
      have r1 : rd t 1 t.size 1 = dg t 1 := by rw [ht]; simp [rd]
      have r2 : rd t 1 t.size 2 = dg t 2 := by rw [ht]; simp [rd]
      have r3 : rd t 1 t.size 3 = 255 := by rw [ht]; simp [rd]
      have c0 := hP 0 (by decide)
      have c1 := hP 1 (by decide)
      have c2 := hP 2 (by decide)
      have c3 := hP 3 (by decide)
      rw [r0] at c0
      rw [r1] at c1
      rw [r2] at c2
      rw [r3] at c3
      have lt1 : w.heap.size + 1 < wr.heap.size := hF.1
      have lt0 := hG.1
      have f0 := hG.2
      obtain ⟨z0, z1, z2, z3⟩ := hC
      have HL : Hid (Below w.heap.size w wr) := hL
      obtain ⟨y0, hy0⟩ : ∃ y, y = dg t 0 := ⟨_, rfl⟩
      obtain ⟨y1, hy1⟩ : ∃ y, y = dg t 1 := ⟨_, rfl⟩
      obtain ⟨y2, hy2⟩ : ∃ y, y = dg t 2 := ⟨_, rfl⟩
      rw [← hy0] at c0 d0 e0
      rw [← hy1] at c1 d1 e1
      rw [← hy2] at c2 d2 e2
      have o0 := or17 y0 d0 e0.1
      have o1 := or17 y1 d1 e1.1
      have o2 := or17 y2 d2 e2.1
      have HY : Hid (y0 = dg t 0 ∧ y1 = dg t 1 ∧ y2 = dg t 2) := ⟨hy0, hy1, hy2⟩
      clear hy0 hy1 hy2 hP hF hG hL r0 r1 r2 r3 HS HB
      go_wp2
      have L' := set4_below (b := w.heap.size) HL.out (Nat.le_refl _) (.int .u8 (17 * y0)) (.int .u8 (17 * y1)) (.int .u8 (17 * y2)) (.int .u8 255)
      obtain ⟨r0, r1, r2, r3⟩ := (AtC.put (k := w.heap.size) (c := ⟨0, 0, 0, 0⟩) ⟨z0, z1, z2, z3⟩ (17 * y0) (17 * y1) (17 * y2) 255).alloc (Obj.cells #[.int .u8 (17 * y0), .int .u8 (17 * y1), .int .u8 (17 * y2), .int .u8 255] 25)
      exact bodyPost_ret (v := .agg #[.int .u8 (17 * y0), .int .u8 (17 * y1), .int .u8 (17 * y2), .int .u8 255]) (by simp [results, Tryd.results31, go_sem, r0, r1, r2, r3]) rfl ⟨by rw [← HY.out.1, ← HY.out.2.1, ← HY.out.2.2], L'.alloc L'.size _⟩

end Go.Proofs.YtbppadheejdhcaaDoor
