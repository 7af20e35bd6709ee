/-
  Contract of the document's answer for layer 3: the lines of a paragraph, the walk.
-/
import Derived.Test.YtlooemhaoikidaaDoorFPa
namespace Go.Proofs.YtlooemhaoikidaaDoor
open Go.RowKit Go.Shelf

theorem ne_list (t : ByteArray) : t.toList = t.data.toList := by first | exact ByteArray.toList_eq t | exact Lib.toList_data t | simp

def PInv (s : ByteArray) (cells : Int) (P : List ByteArray) (w : World) (t : ByteArray) (os : List ByteArray) (v : Value) (wr : World) : Prop :=
  os.length + t.size ≤ s.size ∧ P = os ++ parR cells (t.size + 1) t os.isEmpty ∧ wr.ownsRow w.heap.size 9 1 v os.length (os.map Value.string) ∧ Below w.heap.size w wr
theorem app_step {w w1 w4 : World} {os : List ByteArray} {x : ByteArray} {u v' : Value} {o : Obj} (hB : Below w.heap.size w w1) (ar : (w1.alloc o).ownsRow w.heap.size 9 1 u os.length (os.map Value.string)) (h5 : w.heap.size ≤ (w1.alloc o).heap.size)
    (hown' : w4.ownsRow w.heap.size 9 1 v' (os.length + 1) (os.map Value.string ++ [.string x])) (hgrow : (w1.alloc o).grownBy w4 u.ownBlock) :
    Below w.heap.size w w4 ∧ w4.ownsRow w.heap.size 9 1 v' (os ++ [x]).length ((os ++ [x]).map Value.string) := by
  refine ⟨(hB.alloc hB.size _).grown hgrow h5 (fun g hg => (row_lt ar g hg).1), ?_⟩
  rw [List.length_append, List.map_append]
  exact hown'
theorem par_stop {cells : Int} {t : ByteArray} {e : Bool} (h : ¬ (1 ≤ cells ∧ 0 < t.size ∧ lineR cells t.size (pcs t) ≠ t.size)) (h2 : 0 < t.size ∨ e = true) : parR cells (t.size + 1) t e = [t] := by
  rw [parR, if_neg h, if_pos h2]
theorem par_nil {cells : Int} {t : ByteArray} (h : ¬ 0 < t.size) : parR cells (t.size + 1) t false = [] := by
  rw [parR, if_neg (fun k => h k.2.1), if_neg (by intro k; rcases k with k | k; exact h k; exact absurd k (by decide))]
theorem par_go {cells : Int} {t : ByteArray} {e : Bool} {n : Nat} (hn : n = lineR cells t.size (pcs t)) (h : 1 ≤ cells) (h0 : 0 < t.size) (h1 : n ≠ t.size) : parR cells (t.size + 1) t e = t.extract 0 n :: parR cells ((t.extract n t.size).size + 1) (t.extract n t.size) false := by
  have hb := lineR_bd cells t h0
  rw [parR, if_pos ⟨h, h0, by rw [← hn]; exact h1⟩, ← hn]
  rw [parR_fuel cells t.size ((t.extract n t.size).size + 1) _ _ (by rw [tail_size]; omega) (by omega)]

set_option maxRecDepth 10000 in
set_option maxHeartbeats 2000000 in
theorem rpara_any (s : ByteArray) (cells : Int) (w : World) (hs : s.size ≤ 1048576) :
    Calls Tryd.prog 48 #[.string s, .int .i64 cells] w fun e w' => ∃ v, e = .returned v ∧ w'.ownsRow w.heap.size 9 1 v (parR cells (s.size + 1) s true).length ((parR cells (s.size + 1) s true).map Value.string) ∧ Below w.heap.size w w' := by
  obtain ⟨i0, hi, hz0, hz1, hz2⟩ := info_parts info_string
  have HI : Hid (Tryd.prog.info? 9 = some i0 ∧ i0.zero = some (.string ByteArray.empty) ∧ i0.size = 1 ∧ i0.bytes = 16) := ⟨hi, hz0, hz1, hz2⟩
  clear hi hz0 hz1 hz2
  obtain ⟨P, hP⟩ : ∃ P, P = parR cells (s.size + 1) s true := ⟨_, rfl⟩
  rw [← hP]
  have HP : Hid (P = parR cells (s.size + 1) s true) := hP
  clear hP
  go_enter Tryd.func48, Tryd.ntmps48
  go_wp2_with fail
  go_loopw [0, 5] (fun a v wr => ∃ (t : ByteArray) (os : List ByteArray), a = .string t ∧ PInv s cells P w t os v wr) (fun a _ _ => match a with | .string t => t.size | _ => 0)
  case atStart => exact ⟨s, [], rfl, by simp, by rw [HP.out]; rfl, World.ownsRow_nil _ _ _ _, Below.refl _ _⟩
  case round =>
    obtain ⟨t, os, rfl, hI⟩ := hrel
    have HV : Hid (PInv s cells P w t os u5 wr) := hI
    obtain ⟨hlen, hPt, hown, hBr⟩ := hI
    by_cases ht : 0 < t.size
    · have hne : ¬ (t = ByteArray.empty) := by rintro rfl; exact absurd ht (by decide)
      have hne2 : t.toList.isEmpty = false := by rw [ne_list]; cases hd : t.data.toList with
        | nil => exact absurd (congrArg List.length hd) (by rw [Array.length_toList]; exact Nat.ne_of_gt ht)
        | cons _ _ => rfl
      by_cases hc : 1 ≤ cells
      · have hbd := lineR_bd cells t ht
        obtain ⟨n, hn⟩ : ∃ n, n = lineR cells t.size (pcs t) := ⟨_, rfl⟩
        rw [← hn] at hbd
        by_cases hnt : n = t.size
        · have HF : Hid (P = os ++ [t]) := by unfold Hid; rw [hPt, par_stop (by rw [← hn]; omega) (.inl ht)]
          clear hown hBr hPt
          go_wp2_with fail
          refine (rline_any t cells wr (by omega) ht).mono ?_
          rintro e w1 ⟨rfl, hb⟩
          rw [← hn, hnt]
          have H1 : Hid (w1.ownsRow w.heap.size 9 1 u5 os.length (os.map Value.string) ∧ Below w.heap.size w w1) := ⟨row_below HV.out.2.2.1 hb, HV.out.2.2.2.trans (hb.mono HV.out.2.2.2.size)⟩
          clear hb hn hnt hbd
          obtain ⟨hi, hz0, hz1, hz2⟩ := HI.out
          have hc3 : Hid (os.length + 1 ≤ maxLen) := by unfold Hid maxLen; omega
          have hc4 : Hid ((os.length + 1) * 16 ≤ 140737488355328) := by unfold Hid; omega
          have Hown : Hid (∀ o1, (w1.alloc o1).ownsRow w.heap.size 9 1 u5 os.length (os.map Value.string)) := fun o1 => row_below H1.out.1 ((Below.refl _ w1).alloc (Nat.le_refl _) o1)
          have hc5 : Hid (∀ o1, w.heap.size ≤ (w1.alloc o1).heap.size) := by intro o1; have := H1.out.2.size; simp; omega
          go_wp2_with (at_builtin; refine wpList_append_own _ rfl _ _ 31 rfl w.heap.size 9 i0 (.string ByteArray.empty) 1 16 Tryd.underlying31 hi hz0 hz1 hz2 rfl (by decide) u5 os.length (os.map Value.string) rfl (Hown.out _) _ 1 1 [.string (t)] rfl rfl (cellNew _ _ _) (oneStr _) hc3.out hc4.out (hc5.out _) ?_)
          intro v' w4 hown' hgrow hnil
          have H4 : Hid (Below w.heap.size w w4 ∧ w4.ownsRow w.heap.size 9 1 v' (os ++ [t]).length ((os ++ [t]).map Value.string)) := app_step H1.out.2 (Hown.out _) (hc5.out _) hown' hgrow
          clear hown' hgrow hnil hi hz0 hz1 hz2
          go_wp2
          go_ret
          exact ⟨_, rfl, by rw [HF.out]; exact H4.out.2, H4.out.1⟩
        · have HF : Hid (P = (os ++ [t.extract 0 n]) ++ parR cells ((t.extract n t.size).size + 1) (t.extract n t.size) false) := by unfold Hid; rw [hPt, par_go hn hc ht hnt]; simp
          clear hown hBr hPt
          go_wp2_with fail
          refine (rline_any t cells wr (by omega) ht).mono ?_
          rintro e w1 ⟨rfl, hb⟩
          rw [← hn]
          have H1 : Hid (w1.ownsRow w.heap.size 9 1 u5 os.length (os.map Value.string) ∧ Below w.heap.size w w1) := ⟨row_below HV.out.2.2.1 hb, HV.out.2.2.2.trans (hb.mono HV.out.2.2.2.size)⟩
          clear hb hn
          obtain ⟨hi, hz0, hz1, hz2⟩ := HI.out
          have hc3 : Hid (os.length + 1 ≤ maxLen) := by unfold Hid maxLen; omega
          have hc4 : Hid ((os.length + 1) * 16 ≤ 140737488355328) := by unfold Hid; omega
          have Hown : Hid (∀ o1, (w1.alloc o1).ownsRow w.heap.size 9 1 u5 os.length (os.map Value.string)) := fun o1 => row_below H1.out.1 ((Below.refl _ w1).alloc (Nat.le_refl _) o1)
          have hc5 : Hid (∀ o1, w.heap.size ≤ (w1.alloc o1).heap.size) := by intro o1; have := H1.out.2.size; simp; omega
          go_wp2_with (at_builtin; refine wpList_append_own _ rfl _ _ 31 rfl w.heap.size 9 i0 (.string ByteArray.empty) 1 16 Tryd.underlying31 hi hz0 hz1 hz2 rfl (by decide) u5 os.length (os.map Value.string) rfl (Hown.out _) _ 1 1 [.string (t.extract 0 n)] rfl rfl (cellNew _ _ _) (oneStr _) hc3.out hc4.out (hc5.out _) ?_)
          intro v' w4 hown' hgrow hnil
          have H4 : Hid (Below w.heap.size w w4 ∧ w4.ownsRow w.heap.size 9 1 v' (os ++ [t.extract 0 n]).length ((os ++ [t.extract 0 n]).map Value.string)) := app_step H1.out.2 (Hown.out _) (hc5.out _) hown' hgrow
          clear hown' hgrow hnil hi hz0 hz1 hz2
          have HR : Hid (PInv s cells P w (t.extract n t.size) (os ++ [t.extract 0 n]) v' w4 ∧ (t.extract n t.size).size < t.size) := by
            refine ⟨⟨?_, ?_, H4.out.2, H4.out.1⟩, ?_⟩
            · rw [List.length_append, List.length_singleton, tail_size]; omega
            · rw [HF.out]; cases os <;> rfl
            · rw [tail_size]; omega
          go_wp2
          go_roundw
          case rel => exact ⟨_, _, rfl, HR.out.1⟩
          case measure => exact HR.out.2
      · have HF : Hid (P = os ++ [t]) := by unfold Hid; rw [hPt, par_stop (by omega) (.inl ht)]
        have H1 : Hid (wr.ownsRow w.heap.size 9 1 u5 os.length (os.map Value.string) ∧ Below w.heap.size w wr) := ⟨hown, hBr⟩
        clear hown hBr hPt
        obtain ⟨hi, hz0, hz1, hz2⟩ := HI.out
        have hc3 : Hid (os.length + 1 ≤ maxLen) := by unfold Hid maxLen; omega
        have hc4 : Hid ((os.length + 1) * 16 ≤ 140737488355328) := by unfold Hid; omega
        have Hown : Hid (∀ o1, (wr.alloc o1).ownsRow w.heap.size 9 1 u5 os.length (os.map Value.string)) := fun o1 => row_below H1.out.1 ((Below.refl _ wr).alloc (Nat.le_refl _) o1)
        have hc5 : Hid (∀ o1, w.heap.size ≤ (wr.alloc o1).heap.size) := by intro o1; have := H1.out.2.size; simp; omega
        go_wp2_with (at_builtin; refine wpList_append_own _ rfl _ _ 31 rfl w.heap.size 9 i0 (.string ByteArray.empty) 1 16 Tryd.underlying31 hi hz0 hz1 hz2 rfl (by decide) u5 os.length (os.map Value.string) rfl (Hown.out _) _ 1 1 [.string (t)] rfl rfl (cellNew _ _ _) (oneStr _) hc3.out hc4.out (hc5.out _) ?_)
        intro v' w4 hown' hgrow hnil
        have H4 : Hid (Below w.heap.size w w4 ∧ w4.ownsRow w.heap.size 9 1 v' (os ++ [t]).length ((os ++ [t]).map Value.string)) := app_step H1.out.2 (Hown.out _) (hc5.out _) hown' hgrow
        clear hown' hgrow hnil hi hz0 hz1 hz2
        go_wp2
        go_ret
        exact ⟨_, rfl, by rw [HF.out]; exact H4.out.2, H4.out.1⟩
    · obtain rfl : t = ByteArray.empty := by
        apply ByteArray.ext
        apply Array.eq_empty_of_size_eq_zero
        have : t.data.size = t.size := rfl
        omega
      have H1 : Hid (wr.ownsRow w.heap.size 9 1 u5 os.length (os.map Value.string) ∧ Below w.heap.size w wr) := ⟨hown, hBr⟩
      obtain ⟨ao, cap, hu5, hcap⟩ : ∃ ao cap, u5 = .slice ao os.length cap ∧ os.length ≤ cap := by
        obtain ⟨_, h | ⟨g, cap, cur, h1, _, h2, h3, _⟩⟩ := hown
        · exact ⟨none, 0, by rw [h.1, h.2], by rw [h.2]; exact Nat.le_refl _⟩
        · exact ⟨_, cap, h1, h3⟩
      by_cases hcc : 1 ≤ cells
      all_goals
        by_cases ho : os.length = 0
        · have he : os = [] := List.length_eq_zero_iff.1 ho
          have HF : Hid (P = os ++ [ByteArray.empty]) := by unfold Hid; rw [hPt, par_stop (by intro h; exact ht h.2.1) (.inr (by rw [he]; rfl))]
          have hu : u5 = .slice ao 0 cap := by rw [hu5, ho]
          clear hown hBr hPt he hu5
          have HU : Hid (u5 = .slice ao 0 cap) := hu
          subst hu
          obtain ⟨hi, hz0, hz1, hz2⟩ := HI.out
          have hc3 : Hid (0 + 1 ≤ maxLen) := by unfold Hid maxLen; omega
          have hc4 : Hid ((0 + 1) * 16 ≤ 140737488355328) := by unfold Hid; omega
          have Hown : Hid (∀ o1, (wr.alloc o1).ownsRow w.heap.size 9 1 (.slice ao 0 cap) 0 (os.map Value.string)) := fun o1 => row_below (by have h := H1.out.1; rw [ho] at h; exact h) ((Below.refl _ wr).alloc (Nat.le_refl _) o1)
          have hc5 : Hid (∀ o1, w.heap.size ≤ (wr.alloc o1).heap.size) := by intro o1; have := H1.out.2.size; simp; omega
          go_wp2_with (at_builtin; refine wpList_append_own _ rfl _ _ 31 rfl w.heap.size 9 i0 (.string ByteArray.empty) 1 16 Tryd.underlying31 hi hz0 hz1 hz2 rfl (by decide) (.slice ao 0 cap) 0 (os.map Value.string) rfl (Hown.out _) _ 1 1 [.string (ByteArray.empty)] rfl rfl (cellNew _ _ _) (oneStr _) hc3.out hc4.out (hc5.out _) ?_)
          intro v' w4 hown' hgrow hnil
          have H4 : Hid (Below w.heap.size w w4 ∧ w4.ownsRow w.heap.size 9 1 v' (os ++ [ByteArray.empty]).length ((os ++ [ByteArray.empty]).map Value.string)) := app_step H1.out.2 (by rw [ho]; exact Hown.out _) (hc5.out _) (by rw [ho]; exact hown') hgrow
          clear hown' hgrow hnil hi hz0 hz1 hz2
          go_wp2
          go_ret
          exact ⟨_, rfl, by rw [HF.out]; exact H4.out.2, H4.out.1⟩
        · have HF : Hid (P = os) := by
            unfold Hid
            have e : os.isEmpty = false := by cases os with
              | nil => exact absurd rfl ho
              | cons _ _ => rfl
            rw [hPt, e, par_nil ht, List.append_nil]
          subst hu5
          clear hown hBr hPt
          go_wp2
          go_ret
          exact ⟨_, rfl, by rw [HF.out]; exact H1.out.1, H1.out.2⟩

end Go.Proofs.YtlooemhaoikidaaDoor
