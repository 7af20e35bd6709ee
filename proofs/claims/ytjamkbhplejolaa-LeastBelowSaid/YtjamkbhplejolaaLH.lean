/-
  Loop; the document's Loop.
-/
import Derived.Test.YtjamkbhplejolaaLG
namespace Go.Proofs.Ytjamkbhplejolaa
open Go.RowKit

def lopL (N : Nat) (L : List Bq) : List Int := match (rds (nat L) N rs0).l with
  | none => []
  | some v => toI (rotN (bakL (nat L) (rds (nat L) N rs0) N v).reverse)
def LopL (n : Int) (L : List Bq) : List Int := if chk n L = 0 then lopL n.toNat L else []
theorem last_lt {N : Nat} {L : List Bn} (hn : Abt N L) {v : Nat} (hv : (rds L N rs0).l = some v) : v < N ∧ 0 < N := by
  have h0 : 0 < N := by
    rcases Nat.eq_zero_or_pos N with h | h
    · subst h; rw [rds] at hv; cases hv
    · exact h
  obtain ⟨r, hI, hr⟩ := rds_inv N 0 (inv_start L) v hv h0
  rw [Nat.zero_add] at hr
  obtain ⟨i, b, _, h2, h3, _⟩ := hI.yes v (by omega)
  have := (hn b (List.mem_of_getElem? h2)).2
  omega

set_option maxRecDepth 10000 in
set_option maxHeartbeats 4000000 in
theorem Loop_any (n : Int) (L : List Bq) (v : Value) (w : World) (hv : BS w v L) :
    Calls Try.prog 14 #[.int .i64 n, v] w fun e w' => AnsI w (LopL n L) (chk n L) e w' := by
  have HC : Hid (Calls Try.prog 28 #[.int .i64 n, v] w fun e w' => e = .returned (.int .i64 (chk n L)) ∧ Below w.heap.size w w') := check_any n L v w hv
  unfold LopL
  by_cases h0 : chk n L = 0
  · obtain ⟨h1, h2, h3, h4⟩ := chk_zero h0
    obtain ⟨N, rfl⟩ : ∃ N : Nat, n = N := ⟨n.toNat, by omega⟩
    have hn : N ≤ 4096 := by omega
    rw [if_pos h0, Int.toNat_natCast, h0]
    rw [h0] at HC
    have HR : Hid (∀ W, Below w.heap.size w W → Calls Try.prog 31 #[.int .i64 N, v] W fun e w' => ∃ ga gb, e = .returned (.agg #[.slice (some ⟨ga, 0, none⟩) N N, .slice (some ⟨gb, 0, none⟩) N N, .int .i64 (lasI (rds (nat L) N rs0).l)]) ∧ Hid (RW W N ga gb w' (rds (nat L) N rs0) ∧ ga ≠ gb ∧ W.heap.size ≤ ga ∧ W.heap.size ≤ gb)) := fun W h => run_any N L v W (hv.below h) hn h3 h4
    have HV : Hid (BS w v L) := hv
    have HK : Hid (∀ q ∈ L, okQ N q = true) := h4
    have HLs : Hid (∀ x, (rds (nat L) N rs0).l = some x → x < N ∧ Lpf (nat L) (rds (nat L) N rs0) N x (lopU (nat L) (rds (nat L) N rs0) N x) (lopP (nat L) (rds (nat L) N rs0) N x)) := fun x hx => ⟨(last_lt (nat_abt h4) hx).1, lpf_of (nat_abt h4) hx (last_lt (nat_abt h4) hx).2⟩
    unfold lopL bakL
    generalize rds (nat L) N rs0 = S at *
    have HH : Hid (∀ a b W, Calls Try.prog 32 #[.agg #[a, b, .int .i64 (lasI S.l)]] W fun e w' => e = .returned (.bool (decide (S.l = none))) ∧ Below W.heap.size W w') := fun a b W => holds_any a b S.l W
    obtain ⟨oa, cap, rfl, hc, _⟩ := hv
    clear h0 h1 h2 h3 h4
    cases hl : S.l with
    | none =>
      rw [hl] at HR HH
      simp only
      have hd : decide ((none : Option Nat) = none) = true := rfl
      rw [hd] at HH
      generalize lasI none = z at *
      clear hl hd HLs HV HK
      go_enter Try.func14, Try.ntmps14
      go_wp2_with fail
      refine HC.out.mono ?_
      rintro e w1 ⟨rfl, hb1⟩
      have H1 : Hid (Below w.heap.size w w1) := hb1
      clear hb1 HC
      go_wp2_with fail
      refine (HR.out _ H1.out).mono ?_
      rintro e w2 ⟨ga, gb, rfl, H2⟩
      have HB : Hid (∀ o, Below w.heap.size w (w2.alloc o)) := fun o => by
        have b := H1.out.trans (H2.out.1.2.2.mono H1.out.size)
        exact b.alloc b.size o
      clear H2 HR
      go_wp2_with fail
      refine (HH.out _ _ _).mono ?_
      rintro e w3 ⟨rfl, hb3⟩
      have H3 : Hid (Below w.heap.size w w3) := (HB.out _).trans (hb3.mono (HB.out _).size)
      clear hb3 HB
      go_wp2
      go_ret2
      exact ⟨_, rfl, OwI.nil _ _, H3.out⟩
    | some x =>
      obtain ⟨hx, hf⟩ := HLs.out x hl
      rw [hl] at HR HH
      simp only
      have hd : decide (some x = none) = false := rfl
      rw [hd] at HH
      have e : lasI (some x) = x := rfl
      rw [e] at HR HH
      have HLo : Hid (∀ ga gb W, Below w.heap.size w W → Nb W gb (rowN N (madI S.m)) → Calls Try.prog 33 #[.agg #[.slice (some ⟨ga, 0, none⟩) N N, .slice (some ⟨gb, 0, none⟩) N N, .int .i64 x], .slice oa L.length cap] W fun e w' => ∃ y, e = .returned y ∧ Hid (OwI W.heap.size w' y (toI (rotN (bck (nat L) S (lopP (nat L) S N x) (lopU (nat L) S N x)).reverse)) ∧ Below W.heap.size W w')) := fun ga gb W h hb => loop_any N L ga gb _ S x W (HV.out.below h) hb hn HK.out hx _ _ hf
      generalize toI (rotN (bck (nat L) S (lopP (nat L) S N x) (lopU (nat L) S N x)).reverse) = ys at *
      clear hl hd HLs hf e
      go_enter Try.func14, Try.ntmps14
      go_wp2_with fail
      refine HC.out.mono ?_
      rintro e w1 ⟨rfl, hb1⟩
      have H1 : Hid (Below w.heap.size w w1) := hb1
      clear hb1 HC
      go_wp2_with fail
      refine (HR.out _ H1.out).mono ?_
      rintro e w2 ⟨ga, gb, rfl, H2⟩
      have HB : Hid (∀ vs t, Below w.heap.size w (w2.alloc (.cells vs t)) ∧ Nb (w2.alloc (.cells vs t)) gb (rowN N (madI S.m)) ∧ Bk (w2.alloc (.cells vs t)) w2.heap.size vs t) := fun vs t => by
        have b := H1.out.trans (H2.out.1.2.2.mono H1.out.size)
        exact ⟨b.alloc b.size _, H2.out.1.2.1.alloc _, Bk.new _ _ _⟩
      clear H2 HR
      go_wp2_with fail
      refine (HH.out _ _ _).mono ?_
      rintro e w3 ⟨rfl, hb3⟩
      have H3 : Hid (Below w.heap.size w w3 ∧ Nb w3 gb (rowN N (madI S.m))) := ⟨(HB.out _ _).1.trans (hb3.mono (HB.out _ _).1.size), (HB.out _ _).2.1.below hb3⟩
      obtain ⟨c0, c1, c2⟩ := ((HB.out #[.slice (some ⟨ga, 0, none⟩) N N, .slice (some ⟨gb, 0, none⟩) N N, .int .i64 x] 47).2.2.below hb3).at3
      clear hb3 HB
      go_wp2_with fail
      refine (HLo.out _ _ _ H3.out.1 H3.out.2).mono ?_
      rintro e w4 ⟨y, rfl, H4⟩
      have H5 : Hid (OwI w.heap.size w4 y ys ∧ Below w.heap.size w w4) := ⟨H4.out.1.weaken H3.out.1.size, H3.out.1.trans (H4.out.2.mono H3.out.1.size)⟩
      clear H4 HLo
      go_wp2
      go_ret2
      exact ⟨_, rfl, H5⟩
  · rw [if_neg h0]
    have h1 : (chk n L != 0) = true := by simp [h0]
    generalize chk n L = z at *
    clear h0 hv
    go_enter Try.func14, Try.ntmps14
    go_wp2_with fail
    refine HC.out.mono ?_
    rintro e w1 ⟨rfl, hb1⟩
    have H1 : Hid (Below w.heap.size w w1) := hb1
    clear hb1
    go_wp2
    go_ret2
    exact ⟨_, rfl, OwI.nil _ _, H1.out⟩

end Go.Proofs.Ytjamkbhplejolaa
