/-
  The document's Must.
-/
import Derived.Test.YtdbafcldpleogaaGreatDoorUH
namespace Go.Proofs.YtdbafcldpleogaaGreatDoor
open Go.RowKit

theorem cb_1 (t : Ty) : (bits .and .u16 ((t.can : Nat) : Int) 1 == 0) = !t.mes := by cases t <;> decide
theorem cb_2 (t : Ty) : (bits .and .u16 ((t.can : Nat) : Int) 2 == 0) = !t.pai := by cases t <;> decide
theorem cb_4 (t : Ty) : (bits .and .u16 ((t.can : Nat) : Int) 4 == 0) = !t.foc := by cases t <;> decide
theorem cb_8 (t : Ty) : (bits .and .u16 ((t.can : Nat) : Int) 8 == 0) = !t.scr := by cases t <;> decide
theorem cb_16 (t : Ty) : (bits .and .u16 ((t.can : Nat) : Int) 16 == 0) = !t.acc := by cases t <;> decide
theorem cb_32 (t : Ty) : (bits .and .u16 ((t.can : Nat) : Int) 32 == 0) = !t.hol := by cases t <;> decide

theorem rmust_none (c : Int) (m : Nat) (hm : m < 65536) (w : World) :
    Calls Tryz.prog 15 #[.int .u16 c, .int .u16 (m : Nat), .bool true] w fun e w' => e = .returned (.tuple #[.int .u16 0, .int .i64 (bif beyB m then 2 else 8)]) ∧ w' = w := by
  rw [bey_lt m hm]
  by_cases h : 63 < m
  · have h' : (63 : Int) < (m : Int) := by omega
    rw [decide_eq_true h]
    clear h hm
    go_enter Tryz.func15, Tryz.ntmps15
    go_wp2
    exact bodyPost_ret (v := .tuple #[.int .u16 0, .int .i64 2]) (by simp [results, Tryz.results15, go_sem]) rfl ⟨rfl, rfl⟩
  · have h' : ¬ (63 : Int) < (m : Int) := by omega
    rw [decide_eq_false h]
    clear h hm
    go_enter Tryz.func15, Tryz.ntmps15
    go_wp2
    exact bodyPost_ret (v := .tuple #[.int .u16 0, .int .i64 8]) (by simp [results, Tryz.results15, go_sem]) rfl ⟨rfl, rfl⟩

set_option maxHeartbeats 4000000 in
theorem rmust_ty (t : Ty) (m : Nat) (hm : m < 65536) (w : World) :
    Calls Tryz.prog 15 #[.int .u16 (t.can : Nat), .int .u16 (m : Nat), .bool false] w fun e w' => e = .returned (.tuple #[.int .u16 (bif beyB m then 0 else misK t m 0), .int .i64 (bif beyB m then 2 else if misK t m 0 = 0 then 0 else 61)]) ∧ w' = w := by
  rw [bey_lt m hm]
  obtain ⟨r2, hr2⟩ : ∃ r2 : Int, r2 = if misK t m 0 = 0 then 0 else 61 := ⟨_, rfl⟩
  rw [← hr2]
  have HR2 : Hid (r2 = if misK t m 0 = 0 then 0 else 61) := hr2
  clear hr2
  by_cases h : 63 < m
  · have h' : (63 : Int) < (m : Int) := by omega
    rw [decide_eq_true h]
    simp only [cond_true]
    clear h hm HR2
    go_enter Tryz.func15, Tryz.ntmps15
    go_wp2
    exact bodyPost_ret (v := .tuple #[.int .u16 0, .int .i64 2]) (by simp [results, Tryz.results15, go_sem]) rfl ⟨rfl, rfl⟩
  · have h' : ¬ (63 : Int) < (m : Int) := by omega
    rw [decide_eq_false h]
    clear h hm
    simp only [cond_false]
    obtain ⟨r, hr⟩ : ∃ r, r = misK t m 0 := ⟨_, rfl⟩
    rw [← hr] at HR2 ⊢
    have HR : Hid (r = misK t m 0) := hr
    clear hr
    have B1 : Hid (∀ b : Unit, (bits .and .u16 ((t.can : Nat) : Int) 1 == 0) = !t.mes) := fun _ => cb_1 t
    have B2 : Hid (∀ b : Unit, (bits .and .u16 ((t.can : Nat) : Int) 2 == 0) = !t.pai) := fun _ => cb_2 t
    have B4 : Hid (∀ b : Unit, (bits .and .u16 ((t.can : Nat) : Int) 4 == 0) = !t.foc) := fun _ => cb_4 t
    have B8 : Hid (∀ b : Unit, (bits .and .u16 ((t.can : Nat) : Int) 8 == 0) = !t.scr) := fun _ => cb_8 t
    have B16 : Hid (∀ b : Unit, (bits .and .u16 ((t.can : Nat) : Int) 16 == 0) = !t.acc) := fun _ => cb_16 t
    have B32 : Hid (∀ b : Unit, (bits .and .u16 ((t.can : Nat) : Int) 32 == 0) = !t.hol) := fun _ => cb_32 t
    generalize ((t.can : Nat) : Int) = c at *
    generalize hmi : ((m : Nat) : Int) = mi at *
    clear hmi
    go_enter Tryz.func15, Tryz.ntmps15
    go_wp2_with fail
    go_loopw [8] (fun s wr => ∃ k : Nat, k ≤ 6 ∧ s = .int .u16 ((2 ^ k : Nat) : Int) ∧ r = misK t mi k ∧ wr = w) (fun s _ => 65 - (intOf s).toNat)
    case atStart => exact ⟨0, Nat.zero_le _, rfl, HR.out, rfl⟩
    case round =>
      obtain ⟨k, hk, rfl, hq, rfl⟩ := hrel
      have HQ : Hid (r = misK t mi k) := hq
      clear hq
      have ck : k = 0 ∨ k = 1 ∨ k = 2 ∨ k = 3 ∨ k = 4 ∨ k = 5 ∨ k = 6 := by omega
      rcases ck with rfl | rfl | rfl | rfl | rfl | rfl | rfl
      · clear hk
        cases hb : mb mi 1
        · have hb' : (bits .and .u16 mi 1 != 0) = false := hb
          have HB : Hid (mb mi 1 = false) := hb
          clear hb
          go_wp2_with fail
          go_roundw
          case rel => exact ⟨0 + 1, by omega, by rfl, by have h1 := HQ.out; have h2 := HB.out; simpa [misK, h2] using h1, by first | trivial | rfl⟩
          case measure => simp [intOf]
        · have hb' : (bits .and .u16 mi 1 != 0) = true := hb
          have HB : Hid (mb mi 1 = true) := hb
          clear hb
          cases ht : t.mes
          · have hc : (bits .and .u16 c 1 == 0) = true := by rw [B1.out (), ht]; rfl
            have hr : r = 1 := by have h1 := HQ.out; have h2 := HB.out; simpa [misK, h2, ht] using h1
            have HQr : Hid (r = 1) := hr
            clear ht hr
            go_wp2
            exact bodyPost_ret (v := .tuple #[.int .u16 1, .int .i64 61]) (by simp [results, Tryz.results15, go_sem]) rfl ⟨by rw [HR2.out, HQr.out]; rfl, rfl⟩
          · have hc : (bits .and .u16 c 1 == 0) = false := by rw [B1.out (), ht]; rfl
            have HT : Hid (t.mes = true) := ht
            clear ht
            go_wp2_with fail
            go_roundw
            case rel => exact ⟨0 + 1, by omega, by rfl, by have h1 := HQ.out; have h2 := HT.out; simpa [misK, h2] using h1, by first | trivial | rfl⟩
            case measure => simp [intOf]
      · clear hk
        cases hb : mb mi 2
        · have hb' : (bits .and .u16 mi 2 != 0) = false := hb
          have HB : Hid (mb mi 2 = false) := hb
          clear hb
          go_wp2_with fail
          go_roundw
          case rel => exact ⟨1 + 1, by omega, by rfl, by have h1 := HQ.out; have h2 := HB.out; simpa [misK, h2] using h1, by first | trivial | rfl⟩
          case measure => simp [intOf]
        · have hb' : (bits .and .u16 mi 2 != 0) = true := hb
          have HB : Hid (mb mi 2 = true) := hb
          clear hb
          cases ht : t.pai
          · have hc : (bits .and .u16 c 2 == 0) = true := by rw [B2.out (), ht]; rfl
            have hr : r = 2 := by have h1 := HQ.out; have h2 := HB.out; simpa [misK, h2, ht] using h1
            have HQr : Hid (r = 2) := hr
            clear ht hr
            go_wp2
            exact bodyPost_ret (v := .tuple #[.int .u16 2, .int .i64 61]) (by simp [results, Tryz.results15, go_sem]) rfl ⟨by rw [HR2.out, HQr.out]; rfl, rfl⟩
          · have hc : (bits .and .u16 c 2 == 0) = false := by rw [B2.out (), ht]; rfl
            have HT : Hid (t.pai = true) := ht
            clear ht
            go_wp2_with fail
            go_roundw
            case rel => exact ⟨1 + 1, by omega, by rfl, by have h1 := HQ.out; have h2 := HT.out; simpa [misK, h2] using h1, by first | trivial | rfl⟩
            case measure => simp [intOf]
      · clear hk
        cases hb : mb mi 4
        · have hb' : (bits .and .u16 mi 4 != 0) = false := hb
          have HB : Hid (mb mi 4 = false) := hb
          clear hb
          go_wp2_with fail
          go_roundw
          case rel => exact ⟨2 + 1, by omega, by rfl, by have h1 := HQ.out; have h2 := HB.out; simpa [misK, h2] using h1, by first | trivial | rfl⟩
          case measure => simp [intOf]
        · have hb' : (bits .and .u16 mi 4 != 0) = true := hb
          have HB : Hid (mb mi 4 = true) := hb
          clear hb
          cases ht : t.foc
          · have hc : (bits .and .u16 c 4 == 0) = true := by rw [B4.out (), ht]; rfl
            have hr : r = 4 := by have h1 := HQ.out; have h2 := HB.out; simpa [misK, h2, ht] using h1
            have HQr : Hid (r = 4) := hr
            clear ht hr
            go_wp2
            exact bodyPost_ret (v := .tuple #[.int .u16 4, .int .i64 61]) (by simp [results, Tryz.results15, go_sem]) rfl ⟨by rw [HR2.out, HQr.out]; rfl, rfl⟩
          · have hc : (bits .and .u16 c 4 == 0) = false := by rw [B4.out (), ht]; rfl
            have HT : Hid (t.foc = true) := ht
            clear ht
            go_wp2_with fail
            go_roundw
            case rel => exact ⟨2 + 1, by omega, by rfl, by have h1 := HQ.out; have h2 := HT.out; simpa [misK, h2] using h1, by first | trivial | rfl⟩
            case measure => simp [intOf]
      · clear hk
        cases hb : mb mi 8
        · have hb' : (bits .and .u16 mi 8 != 0) = false := hb
          have HB : Hid (mb mi 8 = false) := hb
          clear hb
          go_wp2_with fail
          go_roundw
          case rel => exact ⟨3 + 1, by omega, by rfl, by have h1 := HQ.out; have h2 := HB.out; simpa [misK, h2] using h1, by first | trivial | rfl⟩
          case measure => simp [intOf]
        · have hb' : (bits .and .u16 mi 8 != 0) = true := hb
          have HB : Hid (mb mi 8 = true) := hb
          clear hb
          cases ht : t.scr
          · have hc : (bits .and .u16 c 8 == 0) = true := by rw [B8.out (), ht]; rfl
            have hr : r = 8 := by have h1 := HQ.out; have h2 := HB.out; simpa [misK, h2, ht] using h1
            have HQr : Hid (r = 8) := hr
            clear ht hr
            go_wp2
            exact bodyPost_ret (v := .tuple #[.int .u16 8, .int .i64 61]) (by simp [results, Tryz.results15, go_sem]) rfl ⟨by rw [HR2.out, HQr.out]; rfl, rfl⟩
          · have hc : (bits .and .u16 c 8 == 0) = false := by rw [B8.out (), ht]; rfl
            have HT : Hid (t.scr = true) := ht
            clear ht
            go_wp2_with fail
            go_roundw
            case rel => exact ⟨3 + 1, by omega, by rfl, by have h1 := HQ.out; have h2 := HT.out; simpa [misK, h2] using h1, by first | trivial | rfl⟩
            case measure => simp [intOf]
      · clear hk
        cases hb : mb mi 16
        · have hb' : (bits .and .u16 mi 16 != 0) = false := hb
          have HB : Hid (mb mi 16 = false) := hb
          clear hb
          go_wp2_with fail
          go_roundw
          case rel => exact ⟨4 + 1, by omega, by rfl, by have h1 := HQ.out; have h2 := HB.out; simpa [misK, h2] using h1, by first | trivial | rfl⟩
          case measure => simp [intOf]
        · have hb' : (bits .and .u16 mi 16 != 0) = true := hb
          have HB : Hid (mb mi 16 = true) := hb
          clear hb
          cases ht : t.acc
          · have hc : (bits .and .u16 c 16 == 0) = true := by rw [B16.out (), ht]; rfl
            have hr : r = 16 := by have h1 := HQ.out; have h2 := HB.out; simpa [misK, h2, ht] using h1
            have HQr : Hid (r = 16) := hr
            clear ht hr
            go_wp2
            exact bodyPost_ret (v := .tuple #[.int .u16 16, .int .i64 61]) (by simp [results, Tryz.results15, go_sem]) rfl ⟨by rw [HR2.out, HQr.out]; rfl, rfl⟩
          · have hc : (bits .and .u16 c 16 == 0) = false := by rw [B16.out (), ht]; rfl
            have HT : Hid (t.acc = true) := ht
            clear ht
            go_wp2_with fail
            go_roundw
            case rel => exact ⟨4 + 1, by omega, by rfl, by have h1 := HQ.out; have h2 := HT.out; simpa [misK, h2] using h1, by first | trivial | rfl⟩
            case measure => simp [intOf]
      · clear hk
        cases hb : mb mi 32
        · have hb' : (bits .and .u16 mi 32 != 0) = false := hb
          have HB : Hid (mb mi 32 = false) := hb
          clear hb
          go_wp2_with fail
          go_roundw
          case rel => exact ⟨5 + 1, by omega, by rfl, by have h1 := HQ.out; have h2 := HB.out; simpa [misK, h2] using h1, by first | trivial | rfl⟩
          case measure => simp [intOf]
        · have hb' : (bits .and .u16 mi 32 != 0) = true := hb
          have HB : Hid (mb mi 32 = true) := hb
          clear hb
          cases ht : t.hol
          · have hc : (bits .and .u16 c 32 == 0) = true := by rw [B32.out (), ht]; rfl
            have hr : r = 32 := by have h1 := HQ.out; have h2 := HB.out; simpa [misK, h2, ht] using h1
            have HQr : Hid (r = 32) := hr
            clear ht hr
            go_wp2
            exact bodyPost_ret (v := .tuple #[.int .u16 32, .int .i64 61]) (by simp [results, Tryz.results15, go_sem]) rfl ⟨by rw [HR2.out, HQr.out]; rfl, rfl⟩
          · have hc : (bits .and .u16 c 32 == 0) = false := by rw [B32.out (), ht]; rfl
            have HT : Hid (t.hol = true) := ht
            clear ht
            go_wp2_with fail
            go_roundw
            case rel => exact ⟨5 + 1, by omega, by rfl, by have h1 := HQ.out; have h2 := HT.out; simpa [misK, h2] using h1, by first | trivial | rfl⟩
            case measure => simp [intOf]
      · have hr : Hid (r = 0) := HQ.out
        go_wp2
        exact bodyPost_ret (v := .tuple #[.int .u16 0, .int .i64 0]) (by simp [results, Tryz.results15, go_sem]) rfl ⟨by rw [HR2.out, hr.out]; rfl, rfl⟩

end Go.Proofs.YtdbafcldpleogaaGreatDoor
