/-
  The document's grid: each, number, first.
-/
import Derived.Test.YthnhcphkpffkfaaGreatYM
namespace Go.Proofs.YthnhcphkpffkfaaGreat
open Go.RowKit

/-- A list of numbers written out. -/
theorem is_lit (w : World) (xs : List Int) (t : TypeId) : IS (w.alloc (.cells (flatI xs).toArray t)) (.slice (some ⟨w.heap.size, 0, none⟩) xs.length xs.length) xs := by
  refine ⟨_, _, rfl, Nat.le_refl _, fun _ => ⟨w.heap.size, 0, rfl, by simp, fun i hi => ?_⟩⟩
  rw [Nat.zero_add, (Bk.new w (flatI xs).toArray t).cell]
  rw [List.getElem?_toArray]
  exact flatI_at xs i hi

set_option maxHeartbeats 2000000 in
theorem reach_any (l : List Int) (most : Int) (v : Value) (w : World) (hv : IS w v l) :
    Calls Tryz.prog 35 #[v, .int .i64 most] w fun e w' => e = .returned (.int .i64 (eaC l most)) ∧ w' = w := by
  obtain ⟨oa, cap, rfl, hc, hg⟩ := hv
  have HG : Hid (0 < l.length → ∃ g o, oa = some ⟨g, o, none⟩ ∧ g < w.heap.size ∧ ∀ i (h : i < l.length), w.cell? ⟨g, o + i, none⟩ = some (.int .i64 l[i])) := hg
  clear hg
  unfold eaC
  by_cases h2 : 1024 < l.length
  · rw [if_pos h2]
    have i2 : (1024 : Int) < l.length := by omega
    go_enter Tryz.func35, Tryz.ntmps35
    go_wp2
    go_ret
    exact ⟨rfl, rfl⟩
  rw [if_neg (by omega)]
  have i2 : ¬ (1024 : Int) < l.length := by omega
  obtain ⟨R, HR⟩ : ∃ R : Int, Hid (R = if l.all (inG most) = true then 0 else 2) := ⟨_, rfl⟩
  rw [← HR.out]
  go_enter Tryz.func35, Tryz.ntmps35
  go_wp2_with fail
  go_loopw [5] (fun i wr => ∃ k : Nat, k ≤ l.length ∧ i = .int .i64 k ∧ wr = w ∧ Hid ((l.take k).all (inG most) = true)) (fun i _ => l.length - (intOf i).toNat)
  case atStart => exact ⟨0, Nat.zero_le _, rfl, rfl, rfl⟩
  case round =>
    obtain ⟨k, hk, rfl, rfl, HK⟩ := hrel
    by_cases hlt : k < l.length
    · have ik : (k : Int) < l.length := by omega
      obtain ⟨g, o, rfl, hg, hat⟩ := HG.out (by omega)
      have x0 := hat k hlt
      have HT : Hid ((inG most l[k] = true → (l.take (k + 1)).all (inG most) = true) ∧ (inG most l[k] = false → R = 2)) := ⟨fun h => take_all hlt HK.out h, fun h => by rw [HR.out, if_neg (by rw [all_not hlt h]; decide)]⟩
      clear hat HK
      generalize l[k] = x at *
      by_cases c1 : x < 0
      · have hR : Hid (R = 2) := HT.out.2 (by unfold inG; simp; omega)
        clear HT
        go_wp2
        go_ret
        exact ⟨by rw [hR.out]; rfl, rfl⟩
      · by_cases c2 : most < x
        · have hR : Hid (R = 2) := HT.out.2 (by unfold inG; simp; omega)
          clear HT
          go_wp2
          go_ret
          exact ⟨by rw [hR.out]; rfl, rfl⟩
        · have HA : Hid ((l.take (k + 1)).all (inG most) = true) := HT.out.1 (by unfold inG; simp; omega)
          clear HT
          go_wp2
          exact ⟨⟨k + 1, by omega, by go_num, trivial, HA.out⟩, by simp [intOf]; omega⟩
    · obtain rfl : k = l.length := by omega
      have HF : Hid (R = 0) := by have := HK.out; rw [List.take_length] at this; unfold Hid; rw [HR.out, if_pos this]
      clear HK
      go_wp2
      go_ret
      exact ⟨by rw [HF.out]; rfl, rfl⟩

set_option maxHeartbeats 2000000 in
theorem rnum_any (x most : Int) (w : World) :
    Calls Tryz.prog 37 #[.int .i64 x, .int .i64 most] w fun e w' => e = .returned (.int .i64 (nuC x most)) ∧ w' = w := by
  obtain ⟨R, HR⟩ : ∃ R : Int, Hid (R = nuC x most) := ⟨_, rfl⟩
  rw [← HR.out]
  by_cases c1 : x < 0
  · have hR : Hid (R = 2) := by unfold Hid; rw [HR.out]; unfold nuC inG; rw [if_neg]; simp; omega
    clear HR
    go_enter Tryz.func37, Tryz.ntmps37
    go_wp2
    go_ret
    exact ⟨by rw [hR.out]; rfl, rfl⟩
  · by_cases c2 : most < x
    · have hR : Hid (R = 2) := by unfold Hid; rw [HR.out]; unfold nuC inG; rw [if_neg]; simp; omega
      clear HR
      go_enter Tryz.func37, Tryz.ntmps37
      go_wp2
      go_ret
      exact ⟨by rw [hR.out]; rfl, rfl⟩
    · have hR : Hid (R = 0) := by unfold Hid; rw [HR.out]; unfold nuC inG; rw [if_pos]; simp; omega
      clear HR
      go_enter Tryz.func37, Tryz.ntmps37
      go_wp2
      go_ret
      exact ⟨by rw [hR.out]; rfl, rfl⟩

theorem fsC_skip : ∀ {l : List Int} {k : Nat}, k ≤ l.length → (∀ e ∈ l.take k, e = 0) → fsC l = fsC (l.drop k)
  | _, 0, _, _ => by simp
  | [], k + 1, h, _ => by simp at h
  | e :: l, k + 1, h, h0 => by
    rw [fsC, if_pos (h0 e (by simp)), List.drop_succ_cons]
    exact fsC_skip (by simpa using h) fun d hd => h0 d (by rw [List.take_succ_cons]; exact List.mem_cons_of_mem _ hd)

set_option maxHeartbeats 2000000 in
theorem rfirst_any (l : List Int) (v : Value) (w : World) (hv : IS w v l) (hl : l.length ≤ 4096) :
    Calls Tryz.prog 34 #[v] w fun e w' => e = .returned (.int .i64 (fsC l)) ∧ w' = w := by
  obtain ⟨oa, cap, rfl, hc, hg⟩ := hv
  have HG : Hid (0 < l.length → ∃ g o, oa = some ⟨g, o, none⟩ ∧ g < w.heap.size ∧ ∀ i (h : i < l.length), w.cell? ⟨g, o + i, none⟩ = some (.int .i64 l[i])) := hg
  clear hg
  obtain ⟨R, HR⟩ : ∃ R : Int, Hid (R = fsC l) := ⟨_, rfl⟩
  rw [← HR.out]
  go_enter Tryz.func34, Tryz.ntmps34
  go_wp2_with fail
  go_loopw [3] (fun i wr => ∃ k : Nat, k ≤ l.length ∧ i = .int .i64 k ∧ wr = w ∧ Hid (∀ e ∈ l.take k, e = 0)) (fun i _ => l.length - (intOf i).toNat)
  case atStart => exact ⟨0, Nat.zero_le _, rfl, rfl, fun e he => by simp at he⟩
  case round =>
    obtain ⟨k, hk, rfl, rfl, HK⟩ := hrel
    by_cases hlt : k < l.length
    · have ik : (k : Int) < l.length := by omega
      obtain ⟨g, o, rfl, hg, hat⟩ := HG.out (by omega)
      have x0 := hat k hlt
      have HT : Hid ((l[k] = 0 → ∀ e ∈ l.take (k + 1), e = 0) ∧ (l[k] ≠ 0 → R = l[k])) := by
        refine ⟨fun h e he => ?_, fun h => ?_⟩
        · rw [List.take_succ_eq_append_getElem hlt] at he
          rcases List.mem_append.1 he with he | he
          · exact HK.out e he
          · simp at he; omega
        · rw [HR.out, fsC_skip (k := k) (by omega) HK.out, List.drop_eq_getElem_cons hlt, fsC, if_neg h]
      clear hat HK
      generalize l[k] = x at *
      by_cases c1 : x = 0
      · have HA : Hid (∀ e ∈ l.take (k + 1), e = 0) := HT.out.1 c1
        clear HT
        subst c1
        go_wp2
        exact ⟨⟨k + 1, by omega, by go_num, trivial, HA.out⟩, by simp [intOf]; omega⟩
      · have hR : Hid (R = x) := HT.out.2 c1
        clear HT
        go_wp2
        go_ret
        exact ⟨by rw [hR.out]; rfl, rfl⟩
    · obtain rfl : k = l.length := by omega
      have HF : Hid (R = 0) := by
        have := HK.out
        unfold Hid
        rw [HR.out, fsC_skip (k := l.length) (Nat.le_refl _) this]
        simp [fsC]
      clear HK
      go_wp2
      go_ret
      exact ⟨by rw [HF.out]; rfl, rfl⟩

end Go.Proofs.YthnhcphkpffkfaaGreat
