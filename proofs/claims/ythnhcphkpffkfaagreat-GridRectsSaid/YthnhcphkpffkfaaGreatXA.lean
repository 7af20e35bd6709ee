/-
  Tracks in memory; which may be: isSide, isRoom, mayBe, check, checkSizes, the document's; the least of two; grows, lacks, need.
-/
import Derived.Test.YthnhcphkpffkfaaGreatKM
import Derived.Test.YthnhcphkpffkfaaGreatXP4
namespace Go.Proofs.YthnhcphkpffkfaaGreat
open Go.RowKit

def TkAt (w : World) (g o : Nat) (t : Tk) : Prop := w.cell? ⟨g, o, none⟩ = some (.int .i64 t.mn) ∧ w.cell? ⟨g, o + 1, none⟩ = some (.int .i64 t.mx) ∧ w.cell? ⟨g, o + 2, none⟩ = some (.int .i64 t.gr)
theorem TkAt.kept {w w' : World} {g o : Nat} {t : Tk} (h : TkAt w g o t) (k : ∀ j, w'.cell? ⟨g, j, none⟩ = w.cell? ⟨g, j, none⟩) : TkAt w' g o t := by
  unfold TkAt; rw [k, k, k]; exact h
theorem TkAt.below {B : Nat} {w w' : World} {g o : Nat} {t : Tk} (h : TkAt w g o t) (hb : Below B w w') (hg : g < B) : TkAt w' g o t := h.kept fun j => hb.cell (p := ⟨g, j, none⟩) hg
/-- A slice that holds tracks. -/
def TS (w : World) (v : Value) (T : List Tk) : Prop := ∃ oa cap, v = .slice oa T.length cap ∧ T.length ≤ cap ∧ (0 < T.length → ∃ g o, oa = some ⟨g, o, none⟩ ∧ g < w.heap.size ∧ ∀ i (h : i < T.length), TkAt w g (o + i * 3) T[i])
theorem TS.below {w w' : World} {v : Value} {T : List Tk} (h : TS w v T) (hb : Below w.heap.size w w') : TS w' v T := by
  obtain ⟨oa, cap, e, hc, hg⟩ := h
  refine ⟨oa, cap, e, hc, fun hp => ?_⟩
  obtain ⟨g, o, e1, g1, g2⟩ := hg hp
  exact ⟨g, o, e1, Nat.lt_of_lt_of_le g1 hb.size, fun i hi => (g2 i hi).below hb g1⟩
def sdB (n : Int) : Bool := decide (0 ≤ n) && decide (n ≤ 16384)
def rmB (n : Int) : Bool := decide (0 ≤ n) && decide (n ≤ 32768)
theorem rm_iff (n : Int) : rmB n = true ↔ 0 ≤ n ∧ n ≤ 32768 := by unfold rmB; simp
theorem sd_iff (n : Int) : sdB n = true ↔ 0 ≤ n ∧ n ≤ 16384 := by unfold sdB; simp
def okB (t : Tk) : Bool := sdB t.mn && sdB t.mx && sdB t.gr && (decide (t.mx = 0) || decide (t.mn ≤ t.mx))
theorem okB_iff (t : Tk) : okB t = true ↔ okT t := by
  unfold okB sdB okT
  simp only [Bool.and_eq_true, Bool.or_eq_true, decide_eq_true_eq]
  omega
/-- What is wrong with tracks. -/
def chT (T : List Tk) : Int := if 1024 < T.length then 4 else if T.all okB = true then 0 else 100
theorem chT_zero {T : List Tk} (h : chT T = 0) : T.length ≤ 1024 ∧ ∀ t ∈ T, okT t := by
  unfold chT at h
  split at h
  · omega
  split at h
  · next h3 => exact ⟨by omega, fun t ht => (okB_iff t).1 (List.all_eq_true.1 h3 t ht)⟩
  · omega
theorem chT_cases (T : List Tk) : chT T = 0 ∨ chT T = 4 ∨ chT T = 100 := by
  unfold chT
  split
  · simp
  split <;> simp
def chS (xs : List Int) : Int := if 1024 < xs.length then 4 else if xs.all rmB = true then 0 else 2
theorem chS_zero {xs : List Int} (h : chS xs = 0) : xs.length ≤ 1024 ∧ ∀ x ∈ xs, 0 ≤ x ∧ x ≤ 32768 := by
  unfold chS at h
  split at h
  · omega
  split at h
  · next h3 => exact ⟨by omega, fun t ht => (rm_iff t).1 (List.all_eq_true.1 h3 t ht)⟩
  · omega
theorem chS_cases (xs : List Int) : chS xs = 0 ∨ chS xs = 4 ∨ chS xs = 2 := by
  unfold chS
  split
  · simp
  split <;> simp
theorem take_all {α : Type} {L : List α} {p : α → Bool} {k : Nat} (hk : k < L.length) (h : (L.take k).all p = true) (hp : p L[k] = true) : (L.take (k + 1)).all p = true := by
  rw [← List.take_append_getElem hk, List.all_append, h]
  simp [hp]
theorem all_not {α : Type} {L : List α} {p : α → Bool} {k : Nat} (hk : k < L.length) (hp : p L[k] = false) : L.all p = false := by
  rw [List.all_eq_false]
  exact ⟨_, List.getElem_mem hk, by simp [hp]⟩

set_option maxHeartbeats 1000000 in
theorem isSide_any (n : Int) (w : World) : Calls Tryz.prog 61 #[.int .i64 n] w fun e w' => e = .returned (.bool (sdB n)) ∧ w' = w := by
  unfold sdB
  by_cases h : 0 ≤ n
  · have HR : Hid ((decide (0 ≤ n) && decide (n ≤ 16384)) = decide (n ≤ 16384)) := by unfold Hid; simp [h]
    rw [HR.out]
    clear HR
    go_enter Tryz.func61, Tryz.ntmps61
    go_wp2
    go_ret
    exact ⟨rfl, rfl⟩
  · have HR : Hid ((decide (0 ≤ n) && decide (n ≤ 16384)) = false) := by unfold Hid; simp [h]
    rw [HR.out]
    clear HR
    go_enter Tryz.func61, Tryz.ntmps61
    go_wp2
    go_ret
    exact ⟨rfl, rfl⟩

set_option maxHeartbeats 1000000 in
theorem isRoom_any (n : Int) (w : World) : Calls Tryz.prog 62 #[.int .i64 n] w fun e w' => e = .returned (.bool (rmB n)) ∧ w' = w := by
  unfold rmB
  by_cases h : 0 ≤ n
  · have HR : Hid ((decide (0 ≤ n) && decide (n ≤ 32768)) = decide (n ≤ 32768)) := by unfold Hid; simp [h]
    rw [HR.out]
    clear HR
    go_enter Tryz.func62, Tryz.ntmps62
    go_wp2
    go_ret
    exact ⟨rfl, rfl⟩
  · have HR : Hid ((decide (0 ≤ n) && decide (n ≤ 32768)) = false) := by unfold Hid; simp [h]
    rw [HR.out]
    clear HR
    go_enter Tryz.func62, Tryz.ntmps62
    go_wp2
    go_ret
    exact ⟨rfl, rfl⟩

set_option maxHeartbeats 1000000 in
theorem rroom_any (n : Int) (w : World) : Calls Tryz.prog 70 #[.int .i64 n] w fun e w' => e = .returned (.bool (rmB n)) ∧ w' = w := by
  unfold rmB
  by_cases h : 0 ≤ n
  · have HR : Hid ((decide (0 ≤ n) && decide (n ≤ 32768)) = decide (n ≤ 32768)) := by unfold Hid; simp [h]
    rw [HR.out]
    clear HR
    go_enter Tryz.func70, Tryz.ntmps70
    go_wp2
    go_ret
    exact ⟨rfl, rfl⟩
  · have HR : Hid ((decide (0 ≤ n) && decide (n ≤ 32768)) = false) := by unfold Hid; simp [h]
    rw [HR.out]
    clear HR
    go_enter Tryz.func70, Tryz.ntmps70
    go_wp2
    go_ret
    exact ⟨rfl, rfl⟩

set_option maxHeartbeats 1000000 in
theorem rgaps_any (n : Int) (w : World) : Calls Tryz.prog 69 #[.int .i64 n] w fun e w' => e = .returned (.bool (sdB n)) ∧ w' = w := by
  unfold sdB
  by_cases h : 0 ≤ n
  · have HR : Hid ((decide (0 ≤ n) && decide (n ≤ 16384)) = decide (n ≤ 16384)) := by unfold Hid; simp [h]
    rw [HR.out]
    clear HR
    go_enter Tryz.func69, Tryz.ntmps69
    go_wp2
    go_ret
    exact ⟨rfl, rfl⟩
  · have HR : Hid ((decide (0 ≤ n) && decide (n ≤ 16384)) = false) := by unfold Hid; simp [h]
    rw [HR.out]
    clear HR
    go_enter Tryz.func69, Tryz.ntmps69
    go_wp2
    go_ret
    exact ⟨rfl, rfl⟩

set_option maxHeartbeats 2000000 in
theorem mayBe_any (t : Tk) (w : World) : Calls Tryz.prog 78 #[.agg #[.int .i64 t.mn, .int .i64 t.mx, .int .i64 t.gr]] w fun e w' => e = .returned (.bool (okB t)) ∧ Below w.heap.size w w' := by
  have HA : Hid (∀ n W, Calls Tryz.prog 61 #[.int .i64 n] W fun e w' => e = .returned (.bool (sdB n)) ∧ w' = W) := fun n W => isSide_any n W
  have HL : Hid (Below w.heap.size w (w.alloc (.cells #[.int .i64 t.mn, .int .i64 t.mx, .int .i64 t.gr] 96))) := (Below.refl _ _).alloc (Nat.le_refl _) _
  obtain ⟨R, HR⟩ : ∃ R, Hid (R = okB t) := ⟨_, rfl⟩
  rw [← HR.out]
  cases h1 : sdB t.mn
  · have h := HR.out
    have hR : Hid (R = false) := by unfold Hid; rw [h]; unfold okB; rw [h1]; rfl
    clear h HR
    go_enter Tryz.func78, Tryz.ntmps78
    go_wp2_with fail
    refine (HA.out _ _).mono ?_
    rintro e w1 ⟨rfl, rfl⟩
    go_wp2
    go_ret
    exact ⟨by rw [hR.out]; rfl, HL.out⟩
  cases h2 : sdB t.mx
  · have h := HR.out
    have hR : Hid (R = false) := by unfold Hid; rw [h]; unfold okB; rw [h1, h2]; rfl
    clear h HR
    go_enter Tryz.func78, Tryz.ntmps78
    go_wp2_with fail
    refine (HA.out _ _).mono ?_
    rintro e w1 ⟨rfl, rfl⟩
    go_wp2_with fail
    refine (HA.out _ _).mono ?_
    rintro e w1 ⟨rfl, rfl⟩
    go_wp2
    go_ret
    exact ⟨by rw [hR.out]; rfl, HL.out⟩
  cases h3 : sdB t.gr
  · have h := HR.out
    have hR : Hid (R = false) := by unfold Hid; rw [h]; unfold okB; rw [h1, h2, h3]; rfl
    clear h HR
    go_enter Tryz.func78, Tryz.ntmps78
    go_wp2_with fail
    refine (HA.out _ _).mono ?_
    rintro e w1 ⟨rfl, rfl⟩
    go_wp2_with fail
    refine (HA.out _ _).mono ?_
    rintro e w1 ⟨rfl, rfl⟩
    go_wp2_with fail
    refine (HA.out _ _).mono ?_
    rintro e w1 ⟨rfl, rfl⟩
    go_wp2
    go_ret
    exact ⟨by rw [hR.out]; rfl, HL.out⟩
  cases h4 : (t.mx == 0)
  · have h := HR.out
    have hR : Hid (R = decide (t.mn ≤ t.mx)) := by
      unfold Hid
      rw [h]
      unfold okB
      have : decide (t.mx = 0) = false := by simpa using h4
      rw [h1, h2, h3, this]
      rfl
    clear h HR
    go_enter Tryz.func78, Tryz.ntmps78
    go_wp2_with fail
    refine (HA.out _ _).mono ?_
    rintro e w1 ⟨rfl, rfl⟩
    go_wp2_with fail
    refine (HA.out _ _).mono ?_
    rintro e w1 ⟨rfl, rfl⟩
    go_wp2_with fail
    refine (HA.out _ _).mono ?_
    rintro e w1 ⟨rfl, rfl⟩
    go_wp2
    go_ret
    exact ⟨by rw [hR.out]; rfl, HL.out⟩
  · have h := HR.out
    have hR : Hid (R = true) := by
      unfold Hid
      rw [h]
      unfold okB
      have : decide (t.mx = 0) = true := by simpa using h4
      rw [h1, h2, h3, this]
      rfl
    clear h HR
    go_enter Tryz.func78, Tryz.ntmps78
    go_wp2_with fail
    refine (HA.out _ _).mono ?_
    rintro e w1 ⟨rfl, rfl⟩
    go_wp2_with fail
    refine (HA.out _ _).mono ?_
    rintro e w1 ⟨rfl, rfl⟩
    go_wp2_with fail
    refine (HA.out _ _).mono ?_
    rintro e w1 ⟨rfl, rfl⟩
    go_wp2
    go_ret
    exact ⟨by rw [hR.out]; rfl, HL.out⟩

set_option maxHeartbeats 4000000 in
theorem rmay_tk (t : Tk) (w : World) : Calls Tryz.prog 85 #[.agg #[.int .i64 t.mn, .int .i64 t.mx, .int .i64 t.gr]] w fun e w' => e = .returned (.bool (okB t)) ∧ Below w.heap.size w w' := by
  have HL : Hid (Below w.heap.size w (w.alloc (.cells #[.int .i64 t.mn, .int .i64 t.mx, .int .i64 t.gr] 96))) := (Below.refl _ _).alloc (Nat.le_refl _) _
  obtain ⟨R, HR⟩ : ∃ R, Hid (R = okB t) := ⟨_, rfl⟩
  rw [← HR.out]
  have HR2 : Hid ((R = true ↔ 0 ≤ t.mn ∧ t.mn ≤ 16384 ∧ (t.mx = 0 ∨ t.mn ≤ t.mx ∧ t.mx ≤ 16384) ∧ 0 ≤ t.gr ∧ t.gr ≤ 16384)) := by unfold Hid; rw [HR.out]; exact okB_iff t
  have HF : Hid (¬ (0 ≤ t.mn ∧ t.mn ≤ 16384 ∧ (t.mx = 0 ∨ t.mn ≤ t.mx ∧ t.mx ≤ 16384) ∧ 0 ≤ t.gr ∧ t.gr ≤ 16384) → R = false) := fun h => by
    cases hR : R
    · rfl
    · exact absurd (HR2.out.1 hR) h
  clear HR
  obtain ⟨a, b, c⟩ := t
  simp only at HR2 HF HL ⊢
  by_cases h1 : 0 ≤ a
  case neg =>
    have hR : Hid (R = false) := HF.out (by omega)
    clear HR2 HF
    go_enter Tryz.func85, Tryz.ntmps85
    go_wp2
    go_ret
    exact ⟨by rw [hR.out]; rfl, HL.out⟩
  by_cases h2 : a ≤ 16384
  case neg =>
    have hR : Hid (R = false) := HF.out (by omega)
    clear HR2 HF
    go_enter Tryz.func85, Tryz.ntmps85
    go_wp2
    go_ret
    exact ⟨by rw [hR.out]; rfl, HL.out⟩
  cases h3 : (b == 0)
  · have h3' : b ≠ 0 := by simpa using h3
    have h3h : Hid (b ≠ 0) := h3'
    clear h3'
    by_cases h4 : a ≤ b
    case neg =>
      have hR : Hid (R = false) := HF.out (by have := h3h.out; omega)
      clear HR2 HF h3h
      go_enter Tryz.func85, Tryz.ntmps85
      go_wp2
      go_ret
      exact ⟨by rw [hR.out]; rfl, HL.out⟩
    by_cases h5 : b ≤ 16384
    case neg =>
      have hR : Hid (R = false) := HF.out (by have := h3h.out; omega)
      clear HR2 HF h3h
      go_enter Tryz.func85, Tryz.ntmps85
      go_wp2
      go_ret
      exact ⟨by rw [hR.out]; rfl, HL.out⟩
    by_cases h6 : 0 ≤ c
    case neg =>
      have hR : Hid (R = false) := HF.out (by have := h3h.out; omega)
      clear HR2 HF h3h
      go_enter Tryz.func85, Tryz.ntmps85
      go_wp2
      go_ret
      exact ⟨by rw [hR.out]; rfl, HL.out⟩
    have hR : Hid (R = decide (c ≤ 16384)) := by
      unfold Hid
      by_cases h7 : c ≤ 16384
      · rw [decide_eq_true h7]; exact HR2.out.2 ⟨h1, h2, .inr ⟨h4, h5⟩, h6, h7⟩
      · rw [decide_eq_false h7]; exact HF.out (by omega)
    clear HR2 HF h3h
    go_enter Tryz.func85, Tryz.ntmps85
    go_wp2
    go_ret
    exact ⟨by rw [hR.out]; rfl, HL.out⟩
  · have h3' : b = 0 := by simpa using h3
    have h3h : Hid (b = 0) := h3'
    clear h3'
    by_cases h6 : 0 ≤ c
    case neg =>
      have hR : Hid (R = false) := HF.out (by have := h3h.out; omega)
      clear HR2 HF h3h
      go_enter Tryz.func85, Tryz.ntmps85
      go_wp2
      go_ret
      exact ⟨by rw [hR.out]; rfl, HL.out⟩
    have hR : Hid (R = decide (c ≤ 16384)) := by
      unfold Hid
      have := h3h.out
      by_cases h7 : c ≤ 16384
      · rw [decide_eq_true h7]; exact HR2.out.2 ⟨h1, h2, .inl this, h6, h7⟩
      · rw [decide_eq_false h7]; exact HF.out (by omega)
    clear HR2 HF h3h
    go_enter Tryz.func85, Tryz.ntmps85
    go_wp2
    go_ret
    exact ⟨by rw [hR.out]; rfl, HL.out⟩

end Go.Proofs.YthnhcphkpffkfaaGreat
