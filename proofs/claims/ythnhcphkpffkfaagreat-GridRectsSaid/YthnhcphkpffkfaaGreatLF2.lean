/-
  solve, Solve; the document's Solve.
-/
import Derived.Test.YthnhcphkpffkfaaGreatLE
namespace Go.Proofs.YthnhcphkpffkfaaGreat
open Go.RowKit

def slL (N : Nat) (L : List Bq) : List Int := if (rds (nat L) N rs0).l = none then rowN N (rds (nat L) N rs0).x else []
def slE (N : Nat) (L : List Bq) : Int := if (rds (nat L) N rs0).l = none then 0 else 90
def solL (n : Int) (L : List Bq) : List Int := if chkQ n L = 0 then slL n.toNat L else []
def solE (n : Int) (L : List Bq) : Int := if chkQ n L = 0 then slE n.toNat L else chkQ n L
/-- A list and an error answered, in memory of the call's own. -/
def AnsB (w : World) (xs : List Int) (er : Int) (e : Ending) (w' : World) : Prop := ∃ v, e = .returned (.tuple #[v, .int .i64 er]) ∧ Hid (OwI w.heap.size w' v xs ∧ Below w.heap.size w w')
theorem rw_own {w : World} {n ga gb : Nat} {wr : World} {s : Rs} (h : RW w n ga gb wr s) (hg : w.heap.size ≤ ga) (hn : n ≤ 4096) : OwI w.heap.size wr (.slice (some ⟨ga, 0, none⟩) n n) (rowN n s.x) := by
  have := h.1.own hg (by rw [rowN_len]; unfold maxLen; omega)
  rwa [rowN_len] at this
theorem lasI_some {o : Option Nat} (h : o ≠ none) : 0 ≤ lasI o := by
  cases o with
  | none => exact absurd rfl h
  | some v => show (0 : Int) ≤ v; omega

set_option maxHeartbeats 1000000 in
theorem holds_any (a b : Value) (l : Option Nat) (w : World) : Calls Tryz.prog 98 #[.agg #[a, b, .int .i64 (lasI l)]] w fun e w' => e = .returned (.bool (decide (l = none))) ∧ Below w.heap.size w w' := by
  have HB : Hid (∀ o, Below w.heap.size w (w.alloc o)) := fun o => (Below.refl _ _).alloc (Nat.le_refl _) o
  have HE : Hid (decide (l = none) = decide (lasI l = -1)) := by
    unfold Hid
    cases l with
    | none => rfl
    | some v => simp [lasI]
  rw [HE.out]
  generalize lasI l = z
  go_enter Tryz.func98, Tryz.ntmps98
  go_wp2
  go_ret
  exact ⟨rfl, HB.out _⟩

set_option maxHeartbeats 2000000 in
theorem solve_any (N : Nat) (L : List Bq) (v : Value) (w : World) (hv : BS w v L) (hn : N ≤ 4096) (hL : L.length ≤ 4096) (hk : ∀ q ∈ L, okQ N q = true) :
    Calls Tryz.prog 91 #[.int .i64 N, v] w fun e w' => AnsB w (slL N L) (slE N L) e w' := by
  have HR := run_any N L v w hv hn hL hk
  have HR' : Hid (Calls Tryz.prog 97 #[.int .i64 N, v] w fun e w' => ∃ ga gb, e = .returned (.agg #[.slice (some ⟨ga, 0, none⟩) N N, .slice (some ⟨gb, 0, none⟩) N N, .int .i64 (lasI (rds (nat L) N rs0).l)]) ∧ Hid (RW w N ga gb w' (rds (nat L) N rs0) ∧ ga ≠ gb ∧ w.heap.size ≤ ga ∧ w.heap.size ≤ gb)) := HR
  clear HR hk hL hv
  unfold slL slE
  generalize rds (nat L) N rs0 = S at *
  have HH : Hid (∀ a b W, Calls Tryz.prog 98 #[.agg #[a, b, .int .i64 (lasI S.l)]] W fun e w' => e = .returned (.bool (decide (S.l = none))) ∧ Below W.heap.size W w') := fun a b W => holds_any a b S.l W
  by_cases hl : S.l = none
  · rw [if_pos hl, if_pos hl]
    have hd : decide (S.l = none) = true := decide_eq_true hl
    rw [hd] at HH
    generalize lasI S.l = z at *
    clear hl hd
    go_enter Tryz.func91, Tryz.ntmps91
    go_wp2_with fail
    refine HR'.out.mono ?_
    rintro e w1 ⟨ga, gb, rfl, H1⟩
    have HB : Hid (Below w.heap.size w (w1.alloc (.cells #[.slice (some ⟨ga, 0, none⟩) N N, .slice (some ⟨gb, 0, none⟩) N N, .int .i64 z] 118)) ∧ OwI w.heap.size (w1.alloc (.cells #[.slice (some ⟨ga, 0, none⟩) N N, .slice (some ⟨gb, 0, none⟩) N N, .int .i64 z] 118)) (.slice (some ⟨ga, 0, none⟩) N N) (rowN N S.x) ∧ Bk (w1.alloc (.cells #[.slice (some ⟨ga, 0, none⟩) N N, .slice (some ⟨gb, 0, none⟩) N N, .int .i64 z] 118)) w1.heap.size #[.slice (some ⟨ga, 0, none⟩) N N, .slice (some ⟨gb, 0, none⟩) N N, .int .i64 z] 118) :=
      ⟨H1.out.1.2.2.alloc H1.out.1.2.2.size _, (rw_own H1.out.1 H1.out.2.2.1 hn).below ((Below.refl _ _).alloc (Nat.le_refl _) _), Bk.new _ _ _⟩
    clear H1
    go_wp2_with fail
    refine (HH.out _ _ _).mono ?_
    rintro e w2 ⟨rfl, hb2⟩
    have H2 : Hid (Below w.heap.size w w2 ∧ OwI w.heap.size w2 (.slice (some ⟨ga, 0, none⟩) N N) (rowN N S.x)) := ⟨HB.out.1.trans (hb2.mono HB.out.1.size), HB.out.2.1.below hb2⟩
    obtain ⟨c0, c1, c2⟩ := (HB.out.2.2.below hb2).at3
    clear hb2 HB
    go_wp2
    go_ret2
    exact ⟨_, rfl, H2.out.2, H2.out.1⟩
  · rw [if_neg hl, if_neg hl]
    have hd : decide (S.l = none) = false := decide_eq_false hl
    rw [hd] at HH
    generalize lasI S.l = z at *
    clear hl hd
    go_enter Tryz.func91, Tryz.ntmps91
    go_wp2_with fail
    refine HR'.out.mono ?_
    rintro e w1 ⟨ga, gb, rfl, H1⟩
    have HB : Hid (Below w.heap.size w (w1.alloc (.cells #[.slice (some ⟨ga, 0, none⟩) N N, .slice (some ⟨gb, 0, none⟩) N N, .int .i64 z] 118)) ∧ OwI w.heap.size (w1.alloc (.cells #[.slice (some ⟨ga, 0, none⟩) N N, .slice (some ⟨gb, 0, none⟩) N N, .int .i64 z] 118)) (.slice (some ⟨ga, 0, none⟩) N N) (rowN N S.x) ∧ Bk (w1.alloc (.cells #[.slice (some ⟨ga, 0, none⟩) N N, .slice (some ⟨gb, 0, none⟩) N N, .int .i64 z] 118)) w1.heap.size #[.slice (some ⟨ga, 0, none⟩) N N, .slice (some ⟨gb, 0, none⟩) N N, .int .i64 z] 118) :=
      ⟨H1.out.1.2.2.alloc H1.out.1.2.2.size _, (rw_own H1.out.1 H1.out.2.2.1 hn).below ((Below.refl _ _).alloc (Nat.le_refl _) _), Bk.new _ _ _⟩
    clear H1
    go_wp2_with fail
    refine (HH.out _ _ _).mono ?_
    rintro e w2 ⟨rfl, hb2⟩
    have H2 : Hid (Below w.heap.size w w2 ∧ OwI w.heap.size w2 (.slice (some ⟨ga, 0, none⟩) N N) (rowN N S.x)) := ⟨HB.out.1.trans (hb2.mono HB.out.1.size), HB.out.2.1.below hb2⟩
    obtain ⟨c0, c1, c2⟩ := (HB.out.2.2.below hb2).at3
    clear hb2 HB
    go_wp2
    go_ret2
    exact ⟨_, rfl, OwI.nil _ _, H2.out.1⟩

set_option maxHeartbeats 2000000 in
theorem Solve_any (n : Int) (L : List Bq) (v : Value) (w : World) (hv : BS w v L) :
    Calls Tryz.prog 75 #[.int .i64 n, v] w fun e w' => AnsB w (solL n L) (solE n L) e w' := by
  have HC : Hid (Calls Tryz.prog 90 #[.int .i64 n, v] w fun e w' => e = .returned (.int .i64 (chkQ n L)) ∧ Below w.heap.size w w') := check_bn n L v w hv
  unfold solL solE
  by_cases h0 : chkQ n L = 0
  · obtain ⟨h1, h2, h3, h4⟩ := chk_zero h0
    obtain ⟨N, rfl⟩ : ∃ N : Nat, n = N := ⟨n.toNat, by omega⟩
    rw [if_pos h0, if_pos h0, Int.toNat_natCast]
    rw [h0] at HC
    have HS : Hid (∀ W, Below w.heap.size w W → Calls Tryz.prog 91 #[.int .i64 N, v] W fun e w' => AnsB W (slL N L) (slE N L) e w') := fun W h => solve_any N L v W (hv.below h) (by omega) h3 h4
    generalize slL N L = xs at *
    generalize slE N L = er at *
    obtain ⟨oa, cap, rfl, _, _⟩ := hv
    clear h0 h1 h2 h3 h4
    go_enter Tryz.func75, Tryz.ntmps75
    go_wp2_with fail
    refine HC.out.mono ?_
    rintro e w1 ⟨rfl, hb1⟩
    have H1 : Hid (Below w.heap.size w w1) := hb1
    clear hb1
    go_wp2_with fail
    refine (HS.out _ H1.out).mono ?_
    rintro e w2 ⟨u, rfl, H2⟩
    have H3 : Hid (OwI w.heap.size w2 u xs ∧ Below w.heap.size w w2) := ⟨H2.out.1.weaken H1.out.size, H1.out.trans (H2.out.2.mono H1.out.size)⟩
    clear H2
    go_wp2
    go_ret2
    exact ⟨_, rfl, H3⟩
  · rw [if_neg h0, if_neg h0]
    have h1 : (chkQ n L != 0) = true := by simp [h0]
    generalize chkQ n L = z at *
    clear h0 hv
    go_enter Tryz.func75, Tryz.ntmps75
    go_wp2_with fail
    refine HC.out.mono ?_
    rintro e w1 ⟨rfl, hb1⟩
    have H1 : Hid (Below w.heap.size w w1) := hb1
    clear hb1
    go_wp2
    go_ret2
    exact ⟨_, rfl, OwI.nil _ _, H1.out⟩

set_option maxHeartbeats 2000000 in
theorem rSolve_any (n : Int) (L : List Bq) (v : Value) (w : World) (hv : BS w v L) :
    Calls Tryz.prog 67 #[.int .i64 n, v] w fun e w' => AnsB w (solL n L) (solE n L) e w' := by
  have HC : Hid (Calls Tryz.prog 83 #[.int .i64 n, v] w fun e w' => e = .returned (.int .i64 (chkQ n L)) ∧ Below w.heap.size w w') := rcheck_bn n L v w hv
  unfold solL solE
  by_cases h0 : chkQ n L = 0
  · obtain ⟨h1, h2, h3, h4⟩ := chk_zero h0
    obtain ⟨N, rfl⟩ : ∃ N : Nat, n = N := ⟨n.toNat, by omega⟩
    rw [if_pos h0, if_pos h0, Int.toNat_natCast]
    rw [h0] at HC
    have hn : N ≤ 4096 := by omega
    have HS : Hid (∀ W, Below w.heap.size w W → Calls Tryz.prog 84 #[.int .i64 N, v] W fun e w' => ∃ ga gb, e = .returned (.tuple #[.slice (some ⟨ga, 0, none⟩) N N, .slice (some ⟨gb, 0, none⟩) N N, .int .i64 (lasI (rds (nat L) N rs0).l)]) ∧ Hid (RW W N ga gb w' (rds (nat L) N rs0) ∧ ga ≠ gb ∧ W.heap.size ≤ ga ∧ W.heap.size ≤ gb)) := fun W h => rounds_any N L v W (hv.below h) (by omega) h3 h4
    unfold slL slE
    generalize rds (nat L) N rs0 = S at *
    obtain ⟨oa, cap, rfl, _, _⟩ := hv
    clear h0 h1 h2 h3 h4
    cases hl : S.l with
    | none =>
      rw [hl] at HS
      have e : lasI none = -1 := rfl
      rw [e] at HS
      rw [if_pos rfl, if_pos rfl]
      clear hl e
      go_enter Tryz.func67, Tryz.ntmps67
      go_wp2_with fail
      refine HC.out.mono ?_
      rintro e w1 ⟨rfl, hb1⟩
      have H1 : Hid (Below w.heap.size w w1) := hb1
      clear hb1
      go_wp2_with fail
      refine (HS.out _ H1.out).mono ?_
      rintro e w2 ⟨ga, gb, rfl, H2⟩
      have H3 : Hid (OwI w.heap.size w2 (.slice (some ⟨ga, 0, none⟩) N N) (rowN N S.x) ∧ Below w.heap.size w w2) := ⟨(rw_own H2.out.1 H2.out.2.2.1 hn).weaken H1.out.size, H1.out.trans (H2.out.1.2.2.mono H1.out.size)⟩
      clear H2
      go_wp2
      go_ret2
      exact ⟨_, rfl, H3⟩
    | some x =>
      rw [hl] at HS
      have e : lasI (some x) = x := rfl
      rw [e] at HS
      rw [if_neg (by simp), if_neg (by simp)]
      have ix : (0 : Int) ≤ x := by omega
      clear hl e
      go_enter Tryz.func67, Tryz.ntmps67
      go_wp2_with fail
      refine HC.out.mono ?_
      rintro e w1 ⟨rfl, hb1⟩
      have H1 : Hid (Below w.heap.size w w1) := hb1
      clear hb1
      go_wp2_with fail
      refine (HS.out _ H1.out).mono ?_
      rintro e w2 ⟨ga, gb, rfl, H2⟩
      have H3 : Hid (Below w.heap.size w w2) := H1.out.trans (H2.out.1.2.2.mono H1.out.size)
      clear H2
      go_wp2
      go_ret2
      exact ⟨_, rfl, OwI.nil _ _, H3.out⟩
  · rw [if_neg h0, if_neg h0]
    have h1 : (chkQ n L != 0) = true := by simp [h0]
    generalize chkQ n L = z at *
    clear h0 hv
    go_enter Tryz.func67, Tryz.ntmps67
    go_wp2_with fail
    refine HC.out.mono ?_
    rintro e w1 ⟨rfl, hb1⟩
    have H1 : Hid (Below w.heap.size w w1) := hb1
    clear hb1
    go_wp2
    go_ret2
    exact ⟨_, rfl, OwI.nil _ _, H1.out⟩

end Go.Proofs.YthnhcphkpffkfaaGreat
