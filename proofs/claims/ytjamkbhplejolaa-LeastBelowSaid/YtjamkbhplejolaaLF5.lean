/-
  Most.
-/
import Derived.Test.YtjamkbhplejolaaLF1
namespace Go.Proofs.Ytjamkbhplejolaa
open Go.RowKit

def moB (N : Nat) (x : Nat → Int) (most : Int) : Bool := (List.range N).all fun v => decide (x v ≤ most)
def moX (n : Int) (L : List Bq) : Nat → Int := (rds (nat (L.map trq)) n.toNat rs0).x
def moE (n : Int) (L : List Bq) (most : Int) : Int := if chk n L = 0 then (if most < 0 ∨ 1099511627776 < most then 2 else if slE n.toNat (L.map trq) = 0 then (if moB n.toNat (moX n L) most = true then 0 else 90) else slE n.toNat (L.map trq)) else chk n L
def moL (n : Int) (L : List Bq) (most : Int) : List Int := if moE n L most = 0 then rowN n.toNat (fun v => most - moX n L v) else []
def mid (x : Nat → Int) (most : Int) (k : Nat) (v : Nat) : Int := if v < k then most - x v else x v
theorem mid_step (x : Nat → Int) (most : Int) (k : Nat) : setN (mid x most k) k (most - x k) = mid x most (k + 1) := by
  funext v
  unfold setN mid
  by_cases c : v = k
  · subst c; rw [if_pos rfl, if_pos (by omega)]
  · rw [if_neg c]
    by_cases d : v < k
    · rw [if_pos d, if_pos (by omega)]
    · rw [if_neg d, if_neg (by omega)]
theorem mid_zero (x : Nat → Int) (most : Int) : mid x most 0 = x := by
  funext v
  unfold mid
  rw [if_neg (Nat.not_lt_zero v)]
theorem mid_end (x : Nat → Int) (most : Int) (N : Nat) : rowN N (mid x most N) = rowN N (fun v => most - x v) := rowN_congr fun k hk => by unfold mid; rw [if_pos hk]
theorem mid_at (x : Nat → Int) (most : Int) (k : Nat) : mid x most k k = x k := by unfold mid; rw [if_neg (Nat.lt_irrefl k)]
theorem moB_no {N : Nat} {x : Nat → Int} {most : Int} {k : Nat} (hk : k < N) (h : most < x k) : moB N x most = false := by
  unfold moB
  rw [List.all_eq_false]
  exact ⟨k, List.mem_range.2 hk, by simp; omega⟩
theorem moB_yes {N : Nat} {x : Nat → Int} {most : Int} (h : ∀ j, j < N → x j ≤ most) : moB N x most = true := by
  unfold moB
  rw [List.all_eq_true]
  exact fun j hj => decide_eq_true (h j (List.mem_range.1 hj))
/-- What is known of the row that is being turned. -/
def MoI (w : World) (N : Nat) (x : Nat → Int) (most : Int) (k : Nat) (v : Value) (wr : World) : Prop := wr.ownsRow w.heap.size 3 1 v N (flatI (rowN N (mid x most k))) ∧ (∀ j, j < k → x j ≤ most) ∧ Below w.heap.size w wr
theorem MoI.facts {w : World} {N : Nat} {x : Nat → Int} {most : Int} {k g cap : Nat} {wr : World} (h : MoI w N x most k (.slice (some ⟨g, 0, none⟩) N cap) wr) (hk : k < N) : wr.cell? ⟨g, k, none⟩ = some (.int .i64 (x k)) ∧ wr.frozen? ⟨g, k, none⟩ = false := by
  refine ⟨?_, own_frozen h.1 k⟩
  rw [own_cell h.1 k (by omega), flatI_at _ _ (by rw [rowN_len]; exact hk)]
  simp [rowN, mid_at]
theorem MoI.step {w : World} {N : Nat} {x : Nat → Int} {most : Int} {k g cap : Nat} {wr : World} (h : MoI w N x most k (.slice (some ⟨g, 0, none⟩) N cap) wr) (hg : w.heap.size ≤ g) (hk : x k ≤ most) : MoI w N x most (k + 1) (.slice (some ⟨g, 0, none⟩) N cap) (wr.setCell ⟨g, k, none⟩ (.int .i64 (most - x k))) := by
  refine ⟨?_, fun j hj => ?_, h.2.2.setCell (p := ⟨g, k, none⟩) hg _⟩
  · have q := own_set h.1 k (.int .i64 (most - x k))
    rw [← flatI_set, rowN_set, mid_step] at q
    exact q
  · by_cases c : j = k
    · rw [c]; exact hk
    · exact h.2.1 j (by omega)
theorem moE_ok {n : Int} {L : List Bq} {most : Int} (h0 : chk n L = 0) (h1 : ¬ (most < 0 ∨ 1099511627776 < most)) (h2 : slE n.toNat (L.map trq) = 0) : moE n L most = if moB n.toNat (moX n L) most = true then 0 else 90 := by
  unfold moE
  rw [if_pos h0, if_neg h1, if_pos h2]

set_option maxRecDepth 10000 in
set_option maxHeartbeats 4000000 in
theorem Most_any (n : Int) (L : List Bq) (most : Int) (v : Value) (w : World) (hv : BS w v L) :
    Calls Try.prog 23 #[.int .i64 n, v, .int .i64 most] w fun e w' => AnsI w (moL n L most) (moE n L most) e w' := by
  have HC : Hid (Calls Try.prog 28 #[.int .i64 n, v] w fun e w' => e = .returned (.int .i64 (chk n L)) ∧ Below w.heap.size w w') := check_any n L v w hv
  by_cases h0 : chk n L = 0
  · obtain ⟨h1, h2, h3, h4⟩ := chk_zero h0
    obtain ⟨N, rfl⟩ : ∃ N : Nat, n = N := ⟨n.toNat, by omega⟩
    have hn : N ≤ 4096 := by omega
    rw [h0] at HC
    by_cases hm : most < 0 ∨ 1099511627776 < most
    · have HE : Hid (moE N L most = 2 ∧ moL N L most = []) := by
        have e : moE N L most = 2 := by unfold moE; rw [if_pos h0, if_pos hm]
        exact ⟨e, by unfold moL; rw [e]; rfl⟩
      rw [HE.out.1, HE.out.2]
      clear hv h0 h1 h2 h3 h4 HE
      rcases (show most < 0 ∨ (¬ most < 0 ∧ 1099511627776 < most) by omega) with hm1 | ⟨hm1, hm2⟩
      all_goals
        clear hm
        go_enter Try.func23, Try.ntmps23
        go_wp2_with fail
        refine HC.out.mono ?_
        rintro e w1 ⟨rfl, hb1⟩
        have H1 : Hid (Below w.heap.size w w1) := hb1
        clear hb1 HC
        go_wp2
        go_ret2
        exact ⟨_, rfl, OwI.nil _ _, H1.out⟩
    · have hm1 : ¬ most < 0 := by omega
      have hm2 : ¬ 1099511627776 < most := by omega
      have HT : Hid (∀ W, Below w.heap.size w W → Calls Try.prog 35 #[v] W fun e w' => ∃ u, e = .returned u ∧ Hid (OwB W.heap.size w' u (L.map trq) ∧ Below W.heap.size W w')) := fun W h => turned_any L v W (hv.below h) h3
      have hkT : ∀ q ∈ L.map trq, okQ (N : Int) q = true := fun q hq => by
        obtain ⟨p, hp, rfl⟩ := List.mem_map.1 hq
        rw [okQ_trq]; exact h4 p hp
      have HS : Hid (∀ W u, BS W u (L.map trq) → Calls Try.prog 29 #[.int .i64 N, u] W fun e w' => AnsI W (slL N (L.map trq)) (slE N (L.map trq)) e w') := fun W u h => solve_any N (L.map trq) u W h hn (by simpa using h3) hkT
      by_cases hs : slE N (L.map trq) = 0
      · have hE := moE_ok h0 hm (by rw [Int.toNat_natCast]; exact hs)
        have hL : slL N (L.map trq) = rowN N (moX N L) := by
          have hl : (rds (nat (L.map trq)) N rs0).l = none := by
            unfold slE at hs
            split at hs
            · next h => exact h
            · omega
          unfold slL moX
          rw [if_pos hl, Int.toNat_natCast]
        have hbd : ∀ v, 0 ≤ moX N L v ∧ moX N L v ≤ 17592186044416 := by
          unfold moX
          rw [Int.toNat_natCast]
          exact rds_bound hn (by simpa using h3) hkT
        rw [Int.toNat_natCast] at hE
        have HR : Hid ((moB N (moX N L) most = true → moE N L most = 0 ∧ moL N L most = rowN N (fun v => most - moX N L v)) ∧ (moB N (moX N L) most = false → moE N L most = 90 ∧ moL N L most = [])) := by
          constructor
          · intro hb
            rw [hb, if_pos rfl] at hE
            exact ⟨hE, by unfold moL; rw [if_pos hE, Int.toNat_natCast]⟩
          · intro hb
            rw [hb, if_neg (by decide)] at hE
            exact ⟨hE, by unfold moL; rw [hE]; rfl⟩
        rw [hL, hs] at HS
        generalize moE N L most = rE at *
        generalize moL N L most = rL at *
        have HBd : Hid (∀ v, 0 ≤ moX N L v ∧ moX N L v ≤ 17592186044416) := hbd
        generalize moX N L = x at *
        obtain ⟨oa, cap, rfl, hc, _⟩ := hv
        clear h0 h1 h2 h3 h4 hkT hE hs hL hbd hm
        go_enter Try.func23, Try.ntmps23
        go_wp2_with fail
        refine HC.out.mono ?_
        rintro e w1 ⟨rfl, hb1⟩
        have H1 : Hid (Below w.heap.size w w1) := hb1
        clear hb1 HC
        go_wp2_with fail
        refine (HT.out _ H1.out).mono ?_
        rintro e w2 ⟨u, rfl, H2⟩
        have H2b : Hid (Below w.heap.size w w2) := H1.out.trans (H2.out.2.mono H1.out.size)
        have HU : Hid (BS w2 u (L.map trq)) := H2.out.1.bs
        clear H1 H2 HT
        go_wp2_with fail
        refine (HS.out _ _ HU.out).mono ?_
        rintro e w3 ⟨y, rfl, H3⟩
        have H3b : Hid (MoI w N x most 0 y w3) := by
          refine ⟨?_, fun j hj => absurd hj (Nat.not_lt_zero j), H2b.out.trans (H3.out.2.mono H2b.out.size)⟩
          rw [mid_zero]
          have h := H3.out.1.weaken H2b.out.size
          unfold OwI at h
          rw [rowN_len] at h
          exact h
        clear H3 H2b HU HS
        obtain ⟨oy, cy, rfl, hcy, hgy⟩ := row_val H3b.out.1
        have HY : Hid (0 < N → ∃ g, oy = some ⟨g, 0, none⟩ ∧ w.heap.size ≤ g) := fun h => by obtain ⟨g, e, h1, _⟩ := hgy h; exact ⟨g, e, h1⟩
        clear hgy
        go_wp2_with fail
        go_loopw [37] (fun i wr => ∃ k : Nat, i = .int .i64 k ∧ k ≤ N ∧ Hid (MoI w N x most k (.slice oy N cy) wr)) (fun i _ => N - (intOf i).toNat)
        case atStart => exact ⟨0, rfl, Nat.zero_le _, H3b⟩
        case round =>
          obtain ⟨k, rfl, hk, HM⟩ := hrel
          clear H3b
          by_cases hlt : k < N
          · have ik : (k : Int) < N := by omega
            obtain ⟨g, rfl, hgl⟩ := HY.out (by omega)
            obtain ⟨y0, y1⟩ := HM.out.facts hlt
            obtain ⟨b1, b2⟩ := HBd.out k
            by_cases hx : most < x k
            · have HF : Hid (rE = 90 ∧ rL = [] ∧ Below w.heap.size w wr) := by
                obtain ⟨e1, e2⟩ := HR.out.2 (moB_no hlt hx)
                exact ⟨e1, e2, HM.out.2.2⟩
              clear HM
              generalize x k = xk at *
              go_wp2
              go_ret2
              exact ⟨_, by rw [HF.out.1]; rfl, by rw [HF.out.2.1]; exact OwI.nil _ _, HF.out.2.2⟩
            · have HN : Hid (MoI w N x most (k + 1) (.slice (some ⟨g, 0, none⟩) N cy) (wr.setCell ⟨g, k, none⟩ (.int .i64 (most - x k)))) := HM.out.step hgl (by omega)
              clear HM
              generalize x k = xk at *
              go_wp2
              exact ⟨⟨k + 1, by go_num, by omega, HN⟩, by simp [intOf]; omega⟩
          · obtain rfl : k = N := by omega
            have HF : Hid (rE = 0 ∧ OwI w.heap.size wr (.slice oy k cy) rL ∧ Below w.heap.size w wr) := by
              obtain ⟨e1, e2⟩ := HR.out.1 (moB_yes HM.out.2.1)
              refine ⟨e1, ?_, HM.out.2.2⟩
              rw [e2]
              have h := HM.out.1
              rw [mid_end] at h
              unfold OwI
              rw [rowN_len]
              exact h
            clear HM
            go_wp2
            go_ret2
            exact ⟨_, by rw [HF.out.1]; rfl, HF.out.2⟩
      · have HE : Hid (moE N L most = slE N (L.map trq) ∧ moL N L most = []) := by
          have e : moE N L most = slE N (L.map trq) := by unfold moE; rw [if_pos h0, if_neg hm, Int.toNat_natCast, if_neg hs]
          exact ⟨e, by unfold moL; rw [e, if_neg hs]⟩
        rw [HE.out.1, HE.out.2]
        have h9 : (slE N (L.map trq) != 0) = true := by simp [hs]
        generalize slE N (L.map trq) = z at *
        generalize slL N (L.map trq) = xs at *
        obtain ⟨oa, cap, rfl, hc, _⟩ := hv
        clear h0 h1 h2 h3 h4 HE hkT hs hm
        go_enter Try.func23, Try.ntmps23
        go_wp2_with fail
        refine HC.out.mono ?_
        rintro e w1 ⟨rfl, hb1⟩
        have H1 : Hid (Below w.heap.size w w1) := hb1
        clear hb1 HC
        go_wp2_with fail
        refine (HT.out _ H1.out).mono ?_
        rintro e w2 ⟨u, rfl, H2⟩
        have H2b : Hid (Below w.heap.size w w2) := H1.out.trans (H2.out.2.mono H1.out.size)
        have HU : Hid (BS w2 u (L.map trq)) := H2.out.1.bs
        clear H1 H2 HT
        go_wp2_with fail
        refine (HS.out _ _ HU.out).mono ?_
        rintro e w3 ⟨y, rfl, H3⟩
        have H3b : Hid (Below w.heap.size w w3) := H2b.out.trans (H3.out.2.mono H2b.out.size)
        clear H3 H2b HU HS
        go_wp2
        go_ret2
        exact ⟨_, rfl, OwI.nil _ _, H3b.out⟩
  · have HE : Hid (moE n L most = chk n L ∧ moL n L most = []) := by
      have e : moE n L most = chk n L := by unfold moE; rw [if_neg h0]
      exact ⟨e, by unfold moL; rw [e, if_neg h0]⟩
    rw [HE.out.1, HE.out.2]
    have h1 : (chk n L != 0) = true := by simp [h0]
    generalize chk n L = z at *
    clear h0 hv HE
    go_enter Try.func23, Try.ntmps23
    go_wp2_with fail
    refine HC.out.mono ?_
    rintro e w1 ⟨rfl, hb1⟩
    have H1 : Hid (Below w.heap.size w w1) := hb1
    clear hb1
    go_wp2
    go_ret2
    exact ⟨_, rfl, OwI.nil _ _, H1.out⟩

end Go.Proofs.Ytjamkbhplejolaa
