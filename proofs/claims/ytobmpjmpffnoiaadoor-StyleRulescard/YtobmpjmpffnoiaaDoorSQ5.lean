/-
  The document's answer: the order of rules, by counting.
-/
import Derived.Test.YtobmpjmpffnoiaaDoorSQ4
import Derived.Test.YtobmpjmpffnoiaaDoorSW9
namespace Go.Proofs.YtobmpjmpffnoiaaDoor
open Go.RowKit Go.Shelf

def sB (s : Nat → Int) (i k : Nat) : Bool := decide (s k < s i ∨ (s k = s i ∧ k < i))
theorem sB_iff {s : Nat → Int} {i k : Nat} : sB s i k = true ↔ Wk s k i := by unfold sB Wk; simp
def cwk (s : Nat → Int) (i : Nat) : Nat → Nat
  | 0 => 0
  | k + 1 => cwk s i k + (sB s i k).toNat
theorem sB_self (s : Nat → Int) (i : Nat) : sB s i i = false := by unfold sB; simp
theorem cwk_le (s : Nat → Int) (i : Nat) : ∀ k, cwk s i k + (if i < k then 1 else 0) ≤ k
  | 0 => by simp [cwk]
  | k + 1 => by
    have ih := cwk_le s i k
    show cwk s i k + (sB s i k).toNat + _ ≤ k + 1
    have hb := Bool.toNat_le (sB s i k)
    by_cases h : i = k
    · subst h
      rw [sB_self]
      simp
      split at ih <;> omega
    · split at ih <;> split <;> omega
theorem cwk_mono {s : Nat → Int} {a b : Nat} (h : Wk s a b) : ∀ k, cwk s a k + (if a < k then 1 else 0) ≤ cwk s b k
  | 0 => by simp [cwk]
  | k + 1 => by
    have ih := cwk_mono h k
    show cwk s a k + (sB s a k).toNat + _ ≤ cwk s b k + (sB s b k).toNat
    by_cases hk : k = a
    · subst hk
      rw [sB_self, sB_iff.2 h]
      simp
      split at ih <;> omega
    · have hle : (sB s a k).toNat ≤ (sB s b k).toNat := by
        cases ha : sB s a k
        · simp
        · rw [sB_iff.2 ((sB_iff.1 ha).trans h)]
          exact Nat.le_refl _
      split at ih <;> split <;> omega
theorem cwk_order {s : Nat → Int} {f : Nat → Nat} {n : Nat} (h : Mrg s id f 0 n) {j : Nat} (hj : j < n) : cwk s (f j) n = j := by
  have lt : ∀ i, i < n → f i < n := fun i hi => by
    obtain ⟨x, _, x2, e⟩ := h.2.inn i (Nat.zero_le _) hi
    rw [e]; exact x2
  have st : ∀ i, i + 1 < n → cwk s (f i) n < cwk s (f (i + 1)) n := fun i hi => by
    have := cwk_mono (h.1 i (i + 1) (Nat.zero_le _) (by omega) hi) n
    rw [if_pos (lt i (by omega))] at this
    omega
  have lo : ∀ i, i < n → i ≤ cwk s (f i) n := by
    intro i
    induction i with
    | zero => intro _; exact Nat.zero_le _
    | succ i ih => intro hi; have := st i hi; have := ih (by omega); omega
  have hi : ∀ d i, i + d + 1 = n → cwk s (f i) n ≤ i := by
    intro d
    induction d with
    | zero =>
      intro i e
      have := cwk_le s (f i) n
      rw [if_pos (lt i (by omega))] at this
      omega
    | succ d ih =>
      intro i e
      have := ih (i + 1) (by omega)
      have := st i (by omega)
      omega
  have := lo j hj
  have := hi (n - 1 - j) j (by omega)
  omega
theorem cwk_lt (s : Nat → Int) {i n : Nat} (h : i < n) : cwk s i n < n := by
  have := cwk_le s i n
  rw [if_pos h] at this
  omega
theorem cwk_inj {s : Nat → Int} {a b n : Nat} (ha : a < n) (hb : b < n) (h : cwk s a n = cwk s b n) : a = b := by
  by_cases e : a = b
  · exact e
  · exfalso
    rcases wk_or s a b e with h1 | h1
    · have := cwk_mono h1 n
      rw [if_pos ha] at this
      omega
    · have := cwk_mono h1 n
      rw [if_pos hb] at this
      omega

set_option maxRecDepth 20000 in
set_option maxHeartbeats 4000000 in
theorem rorder_any (rs : List Rl) (v : Value) (w : World) (hT : Tab w) (hv : Rules w v rs) (hs : ∀ r ∈ rs, r.cls.size ≤ 9223372036854775807 ∧ r.wf) (hl : rs.length < 1000) (hb : chkR rs = 0) (h15 : ∀ r ∈ rs, r.state ≤ 15) (f : Nat → Nat) (hM : Mrg (str rs) id f 0 rs.length) :
    Calls Tryd.prog 18 #[v] w fun e w' => ∃ B : Nat, e = .returned (.tuple #[.slice (some ⟨B, 0, none⟩) rs.length rs.length, .int .i64 0]) ∧ w.heap.size ≤ B ∧ Row w' B 0 rs.length f ∧ Below w.heap.size w w' := by
  have hC := rcheck_rules rs v w hT hv hs
  rw [hb] at hC
  have hS : Hid (∀ (x y : Nat) (W : World), Below w.heap.size w W → x < rs.length → y < rs.length → Calls Tryd.prog 39 #[v, .int .i64 x, .int .i64 y] W fun e w' => e = .returned (.bool (sB (str rs) x y)) ∧ Below W.heap.size W w') := fun x y W hW hx hy => rstronger_any rs v x y W (hv.below hW) h15 hx hy (by omega)
  have hO : Hid (∀ (b : Bool) w, Calls Tryd.prog 40 #[.bool b] w fun e w' => e = .returned (.int .i64 (b.toNat : Nat)) ∧ w' = w) := rtold_any
  have HM : Hid (Mrg (str rs) id f 0 rs.length) := hM
  obtain ⟨oa, cap, rfl, _, _⟩ := hv
  clear hs hT hb h15 hM
  go_enter Tryd.func18, Tryd.ntmps18
  go_wp2_with fail
  refine hC.mono ?_
  rintro e w1 ⟨rfl, hb⟩
  have HB : Hid (Below w.heap.size w w1) := hb
  clear hb hC
  obtain ⟨arr, ha, hmk⟩ := make_ints rs.length (by omega) w1
  have K := Blk.new w1 arr 3
  have HK : Hid (arr.size = rs.length ∧ Blk (w1.alloc (.cells arr 3)) w1.heap.size arr 3) := ⟨ha, K⟩
  clear ha K
  go_wp2_with fail
  have HL0 : Hid (Below w.heap.size w (w1.alloc (.cells arr 3)) ∧ w.heap.size ≤ w1.heap.size) := ⟨HB.out.alloc HB.out.size _, HB.out.size⟩
  clear hmk HB
  generalize w1.heap.size = B at *
  go_loopw [6] (fun vi wr => ∃ i : Nat, i ≤ rs.length ∧ vi = .int .i64 i ∧ ∃ vs : Array Value, Hid (vs.size = rs.length ∧ Blk wr B vs 3 ∧ (∀ x, x < i → vs[cwk (str rs) x rs.length]? = some (.int .i64 x)) ∧ Below w.heap.size w wr)) (fun vi _ => rs.length - (intOf vi).toNat)
  case atStart => exact ⟨0, Nat.zero_le _, rfl, arr, HK.out.1, HK.out.2, fun x hx => by omega, HL0.out.1⟩
  case round =>
    obtain ⟨i, hi, rfl, vs, HV⟩ := hrel
    clear HK
    by_cases hlt : i < rs.length
    · have ii : (i : Int) < (rs.length : Int) := by omega
      go_wp2_with fail
      go_loopw [7, 8] (fun vw vk wr2 => ∃ k : Nat, k ≤ rs.length ∧ vk = .int .i64 k ∧ ∃ c : Nat, vw = .int .i64 c ∧ c ≤ k ∧ Hid (c = cwk (str rs) i k ∧ Blk wr2 B vs 3 ∧ Below w.heap.size w wr2)) (fun _ vk _ => rs.length - (intOf vk).toNat)
      case atStart => exact ⟨0, Nat.zero_le _, rfl, 0, rfl, Nat.le_refl _, rfl, HV.out.2.1, HV.out.2.2.2⟩
      case round =>
        obtain ⟨k, hk, rfl, c, rfl, hc, HR⟩ := hrel
        by_cases hkl : k < rs.length
        · have ik : (k : Int) < (rs.length : Int) := by omega
          by_cases hki : k = i
          · have hki' : ((k : Int) == (i : Int)) = true := beq_iff_eq.2 (by omega)
            have hki2 : (k : Int) = (i : Int) := by omega
            have HE : Hid (cwk (str rs) i (k + 1) = cwk (str rs) i k) := by
              show cwk (str rs) i k + (sB (str rs) i k).toNat = _
              rw [hki, sB_self]; rfl
            subst hki
            go_wp2_with fail
            go_roundw
            case rel => exact ⟨k + 1, by omega, by go_num, c, rfl, by omega, HR.out.1.trans HE.out.symm, HR.out.2⟩
            case measure => simp [intOf]; omega
          · have hki' : ((k : Int) == (i : Int)) = false := beq_eq_false_iff_ne.2 (by omega)
            have hki2 : ¬ (k : Int) = (i : Int) := by omega
            have HE : Hid (cwk (str rs) i (k + 1) = c + (sB (str rs) i k).toNat) := by
              rw [HR.out.1]; rfl
            have S1 : Hid (Calls Tryd.prog 39 #[.slice oa rs.length cap, .int .i64 i, .int .i64 k] wr fun e w' => e = .returned (.bool (sB (str rs) i k)) ∧ Below wr.heap.size wr w') := hS.out i k wr HR.out.2.2 hlt hkl
            generalize sB (str rs) i k = b at *
            go_wp2_with fail
            refine S1.out.mono ?_
            rintro e w3 ⟨rfl, h3⟩
            have H3 : Hid (Blk w3 B vs 3 ∧ Below w.heap.size w w3) := ⟨HR.out.2.1.below h3, HR.out.2.2.trans (h3.mono HR.out.2.2.size)⟩
            clear h3 S1 HR
            go_wp2_with fail
            refine (hO.out _ _).mono ?_
            rintro e w4 ⟨rfl, rfl⟩
            have hbn := Bool.toNat_le b
            generalize b.toNat = d at *
            go_wp2_with fail
            go_roundw
            case rel => exact ⟨k + 1, by omega, by go_num, c + d, by go_num, by omega, HE.out.symm, H3.out⟩
            case measure => simp [intOf]; omega
        · obtain rfl : k = rs.length := by omega
          have hcl : c < rs.length := by rw [HR.out.1]; exact cwk_lt _ hlt
          have icl : (c : Int) < (rs.length : Int) := by omega
          have hcv : c < vs.size := by rw [HV.out.1]; exact hcl
          have c1 : wr.cell? ⟨B, c, none⟩ = some vs[c] := (HR.out.2.1.cell c).trans (Array.getElem?_eq_getElem hcv)
          have f1 := HR.out.2.1.frozen c
          go_wp2_with fail
          go_roundw
          case rel =>
            obtain ⟨v1, v2, v3, v4⟩ := HV.out
            refine ⟨i + 1, by omega, by go_num, vs.setIfInBounds c (.int .i64 i), by simp [v1], HR.out.2.1.put c _, fun x hx => ?_, HR.out.2.2.setCell (p := ⟨B, c, none⟩) HL0.out.2 _⟩
            by_cases e : x = i
            · subst e
              rw [← HR.out.1]
              simp [hcv]
            · rw [Array.getElem?_setIfInBounds_ne]
              · exact v3 x (by omega)
              · intro h
                rw [HR.out.1] at h
                exact e (cwk_inj (by omega) hlt h.symm)
          case measure => simp [intOf]; omega
    · obtain rfl : i = rs.length := by omega
      have HR : Hid (Row wr B 0 rs.length f ∧ Below w.heap.size w wr) := by
        obtain ⟨v1, v2, v3, v4⟩ := HV.out
        refine ⟨⟨v2.lt, fun j hj => ?_, fun j => v2.frozen j⟩, v4⟩
        have hf : f j < rs.length := by
          obtain ⟨x, _, x2, e⟩ := HM.out.2.inn j (Nat.zero_le _) hj
          rw [e]; exact x2
        have := v3 (f j) hf
        rw [cwk_order HM.out hj] at this
        rw [Nat.zero_add]
        exact (v2.cell j).trans this
      go_wp2
      exact bodyPost_ret (v := .tuple #[.slice (some ⟨B, 0, none⟩) rs.length rs.length, .int .i64 0]) (by simp [results, Tryd.results18, go_sem]) rfl ⟨B, rfl, HL0.out.2, HR.out.1, HR.out.2⟩

end Go.Proofs.YtobmpjmpffnoiaaDoor
