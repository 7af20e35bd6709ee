/-
  Contract of the document's answer for layer 3: where the first line of a text ends.
-/
import Derived.Test.YtlooemhaoikidaaDoorFU
namespace Go.Proofs.YtlooemhaoikidaaDoor
open Go.RowKit Go.Shelf

/-- The document's line: of the pieces that follow, the cells so far, the last blank's end. -/
def lnR (cells : Int) (N : Nat) : List Pc → Int → Nat → Nat
  | [], _, _ => N
  | x :: t, n, b => if cells < n + width x.r then (if x.r ≠ 32 ∧ 0 < b then b else x.fr) else lnR cells N t (n + width x.r) (if x.r = 32 then x.to else b)
def lineR (cells : Int) (N : Nat) : List Pc → Nat
  | [] => N
  | x :: t => lnR cells N t (width x.r) (if x.r = 32 then x.to else 0)
theorem ln_drop (cells : Int) (N : Nat) (l : List Pc) (n : Int) (b k : Nat) (h : k < l.length) : lnR cells N (l.drop k) n b = if cells < n + width l[k].r then (if l[k].r ≠ 32 ∧ 0 < b then b else l[k].fr) else lnR cells N (l.drop (k + 1)) (n + width l[k].r) (if l[k].r = 32 then l[k].to else b) := by
  rw [List.drop_eq_getElem_cons h, lnR]
theorem pcs_some (s : ByteArray) (h : 0 < s.size) : 0 < (pcs s).length := by
  apply Nat.pos_of_ne_zero
  intro e
  have := pcs_last s
  rw [List.length_eq_zero_iff.1 e] at this
  exact absurd this (by simp [lastTo]; omega)

set_option maxRecDepth 10000 in
set_option maxHeartbeats 1000000 in
theorem rline_any (s : ByteArray) (cells : Int) (w : World) (hs : s.size ≤ 1048576) (h0 : 0 < s.size) :
    Calls Tryd.prog 64 #[.string s, .int .i64 cells] w fun e w' => e = .returned (.int .i64 (lineR cells s.size (pcs s) : Nat)) ∧ Below w.heap.size w w' := by
  have HP : Hid (∀ w, Calls Tryd.prog 33 #[.string s] w fun e w' => ∃ v, e = .returned v ∧ w'.ownsRow w.heap.size 51 4 v (pcs s).length (flatP (pcs s)) ∧ Below w.heap.size w w') := fun w => rpieces_any s w hs
  have hlen := pcs_len s
  have hpos := pcs_some s h0
  have HTo : Hid (∀ x ∈ pcs s, x.to ≤ s.size) := pcs_to s
  generalize pcs s = l at *
  have HX : Hid (lineR cells s.size l = lnR cells s.size (l.drop 1) (width l[0].r) (if l[0].r = 32 then l[0].to else 0)) := by
    unfold Hid
    cases l with
    | nil => exact absurd hpos (by simp)
    | cons x t => rfl
  generalize lineR cells s.size l = fx at *
  go_enter Tryd.func64, Tryd.ntmps64
  go_wp2_with fail
  refine (HP.out _).mono ?_
  rintro e w1 ⟨v, rfl, hown, hb⟩
  obtain ⟨ao, cap, rfl, hcap, hR⟩ := row_at hown
  have HR : Hid (RowAt w1 ao l ∧ Below w.heap.size w w1) := ⟨hR, hb⟩
  clear hown hR hb
  obtain ⟨g, hao, c0, c1, c2, c3⟩ := HR.out.1 0 hpos
  subst hao
  have hto := HTo.out l[0] (List.getElem_mem hpos)
  have hw0 := width_range l[0].r
  generalize width l[0].r = d0 at *
  by_cases hbl : l[0].r = 32
  all_goals
    first | rw [if_pos hbl] at HX | rw [if_neg hbl] at HX
    go_wp2
    go_loopw [6, 7, 8] (fun n b i wr => ∃ (k q : Nat) (m : Int), 1 ≤ k ∧ k ≤ l.length ∧ i = .int .i64 k ∧ b = .int .i64 q ∧ n = .int .i64 m ∧ 0 ≤ m ∧ m ≤ 2 * k ∧ q ≤ s.size ∧ fx = lnR cells s.size (l.drop k) m q ∧ wr = w1) (fun _ _ i _ => l.length - (intOf i).toNat)
    case atStart =>
      exact ⟨1, _, _, Nat.le_refl _, hpos, rfl, by first | rfl | (rw [Int.natCast_zero]), rfl, by omega, by omega, by first | exact hto | exact Nat.zero_le _, HX.out, rfl⟩
    case round =>
      obtain ⟨k, q, m, hk1, hk, rfl, rfl, rfl, hm0, hm1, hq, hft, rfl⟩ := hrel
      clear c0 c1 c2 c3 hto
      by_cases hlt : k < l.length
      · obtain ⟨g', hao, c0, c1, c2, c3⟩ := HR.out.1 k hlt
        cases hao
        have hb2 := width_range l[k].r
        have hto := HTo.out l[k] (List.getElem_mem hlt)
        rw [ln_drop _ _ l _ _ k hlt] at hft
        generalize width l[k].r = d at *
        generalize l[k].r = r at *
        generalize l[k].fr = fr at *
        generalize l[k].to = t at *
        by_cases hc : cells < m + d
        · rw [if_pos hc] at hft
          by_cases hr : r = 32
          · rw [if_neg (by omega)] at hft
            have HY : Hid (fx = fr) := hft
            clear hft
            go_wp2
            go_ret
            exact ⟨by rw [HY.out]; rfl, HR.out.2⟩
          · by_cases hq0 : 0 < q
            · rw [if_pos ⟨hr, hq0⟩] at hft
              have HY : Hid (fx = q) := hft
              clear hft
              go_wp2
              go_ret
              exact ⟨by rw [HY.out]; rfl, HR.out.2⟩
            · rw [if_neg (by omega)] at hft
              have HY : Hid (fx = fr) := hft
              clear hft
              go_wp2
              go_ret
              exact ⟨by rw [HY.out]; rfl, HR.out.2⟩
        · rw [if_neg hc] at hft
          by_cases hr : r = 32
          · rw [if_pos hr] at hft
            have HY : Hid (fx = lnR cells s.size (l.drop (k + 1)) (m + d) t) := hft
            clear hft
            go_wp2
            go_roundw
            case rel => exact ⟨k + 1, t, m + d, by omega, by omega, by go_num, rfl, rfl, by omega, by omega, hto, HY.out, by first | rfl | trivial⟩
            case measure => simp [intOf]; omega
          · rw [if_neg hr] at hft
            have HY : Hid (fx = lnR cells s.size (l.drop (k + 1)) (m + d) q) := hft
            clear hft
            go_wp2
            go_roundw
            case rel => exact ⟨k + 1, q, m + d, by omega, by omega, by go_num, rfl, rfl, by omega, by omega, hq, HY.out, by first | rfl | trivial⟩
            case measure => simp [intOf]; omega
      · obtain rfl : k = l.length := by omega
        have HY : Hid (fx = s.size) := by unfold Hid; rw [hft, List.drop_length]; rfl
        clear hft
        go_wp2
        go_ret
        exact ⟨by rw [HY.out]; rfl, HR.out.2⟩

end Go.Proofs.YtlooemhaoikidaaDoor
