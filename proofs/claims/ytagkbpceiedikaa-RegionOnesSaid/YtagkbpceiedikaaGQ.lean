/-
  Contracts: slices.Concat of two lists of rectangles; package region's Join.
-/
import Derived.Test.YtagkbpceiedikaaGO
import Derived.Test.YtagkbpceiedikaaGS2
import Derived.Laws.AppendOwnNone
namespace Go.Proofs.Ytagkbpceiedikaa
open Go.RowKit Go.Sort Go.Shelf

theorem grow_any (n : Nat) (w : World) (hn : n ≤ 1000000) :
    Calls Try.prog 71 #[.slice none 0 0, .int .i64 n] w fun e w' => ∃ u, e = .returned u ∧ w'.ownsRow w.heap.size 35 4 u 0 [] ∧ Below w.heap.size w w' := by
  by_cases h0 : n = 0
  · subst h0
    have h := Any8.slices_Grow_room Try.growR none 0 0 0 w (Nat.le_refl _) (by omega) (by omega) (by omega)
    change Calls Try.prog 71 _ _ _ at h
    exact h.mono fun e w' ⟨he, hw⟩ => ⟨_, he, World.ownsRow_nil _ _ _ _, by rw [hw]; exact Below.refl _ _⟩
  · obtain ⟨i0, hi, hz0, hz1, hz2⟩ := info_parts info_rect
    have h := Any8.slices_Grow_grow Try.growR i0 (.agg #[.int .i64 0, .int .i64 0, .int .i64 0, .int .i64 0]) hi hz0 (by rw [hz1]; decide) none 0 0 n [] w (Nat.le_refl _) (by omega) (by rw [hz2]; omega) (by omega) (by simp) (fun _ => rfl) (fun a h => by cases h)
    change Calls Try.prog 71 _ _ _ at h
    refine h.mono fun e w' ⟨he, hw⟩ => ⟨_, he, ?_, ?_⟩
    · have hle := grownCap_le_maxLen w (0 + n) 0 35 (by unfold maxLen; omega)
      refine ⟨rfl, .inr ⟨w.heap.size, _, ([] : List Value).toArray ++ Builtin.zeroCells (Value.agg #[Value.int .i64 0, .int .i64 0, .int .i64 0, .int .i64 0]).cells (0 + n - 0) ++ Builtin.zeroCells (Value.agg #[Value.int .i64 0, .int .i64 0, .int .i64 0, .int .i64 0]).cells (grownCap w (0 + n) 0 35 - (0 + n)), rfl, Nat.le_refl _, ?_, Nat.zero_le _, hle, ?_, by simp⟩⟩
      · rw [hw]
        exact Bk.new w.drew _ _
      · have hzc : (Value.agg #[Value.int .i64 0, .int .i64 0, .int .i64 0, .int .i64 0]).cells.size = 4 := rfl
        rw [Array.size_append, Array.size_append, size_zeroCells, size_zeroCells, hzc]
        simp
        have : n ≤ grownCap w n 0 35 := grownCap_ge w n 0 35
        show n * 4 + (grownCap w n 0 35 - n) * 4 = grownCap w n 0 35 * 4
        omega
    · rw [hw]
      exact ((Below.refl _ w).drew).alloc (Nat.le_refl _) _

theorem addr_add (g o j : Nat) : (⟨g, o, none⟩ : Addr).add j = ⟨g, o + j, none⟩ := by
  unfold Addr.add
  split <;> simp_all
theorem lsr_src {w : World} {g o : Nat} {M : List Rc} (h : ∀ i (h : i < M.length), RcAt w g (o + i * 4) M[i]) : ∀ (j : Nat) (u : Value), (flat M)[j]? = some u → w.cell? ((⟨g, o, none⟩ : Addr).add j) = some u := by
  intro j u hj
  have hl : j < (flat M).length := (List.getElem?_eq_some_iff.1 hj).1
  rw [flat_len] at hl
  have hq : j / 4 < M.length := by omega
  obtain ⟨f0, f1, f2, f3⟩ := flat_at M (j / 4) hq
  obtain ⟨c0, c1, c2, c3⟩ := h (j / 4) hq
  rw [addr_add]
  rcases (show j = j / 4 * 4 ∨ j = j / 4 * 4 + 1 ∨ j = j / 4 * 4 + 2 ∨ j = j / 4 * 4 + 3 by omega) with e | e | e | e
  · rw [e, f0] at hj; rw [show o + j = o + j / 4 * 4 by omega, c0]; exact hj
  · rw [e, f1] at hj; rw [show o + j = o + j / 4 * 4 + 1 by omega, c1]; exact hj
  · rw [e, f2] at hj; rw [show o + j = o + j / 4 * 4 + 2 by omega, c2]; exact hj
  · rw [e, f3] at hj; rw [show o + j = o + j / 4 * 4 + 3 by omega, c3]; exact hj
theorem flat_ones (l : List Rc) : ∀ u ∈ flat l, u.oneCell' = true := by
  induction l with
  | nil => intro u hu; cases hu
  | cons r t ih =>
    intro u hu
    have hu' : u ∈ cel r ++ flat t := hu
    rcases List.mem_append.1 hu' with h | h
    · simp [cel] at h
      rcases h with rfl | rfl | rfl | rfl <;> rfl
    · exact ih u h
/-- No room behind no list. -/
def NoNil (v : Value) : Prop := ∀ c, v = .slice none 0 c → c = 0
theorem own_nil {w : World} {base : Nat} {e : TypeId} {size n : Nat} {v : Value} {xs : List Value} (h : w.ownsRow base e size v n xs) : NoNil v := by
  intro c hc
  obtain ⟨_, ⟨h, _⟩ | ⟨g, cap, cur, h, _⟩⟩ := h
  · rw [h] at hc; injection hc with _ _ hc; exact hc.symm
  · rw [h] at hc; injection hc with hc _ _; cases hc

theorem app_none {P : Program} {w : World} {ops : Array Oper} {rest : List Oper} {o : Oper} {a : Act} {Q : Exit → Act → World → Prop} (hgd : o.guard = none) (s x : Operand) (t : TypeId)
    (ho : o.op = .call { callee := .builtin .append, args := #[s, x], argTypes := #[t, t] })
    (base : Nat) (e : TypeId) (i : TypeInfo) (size : Nat) (ht : P.underlying t = some (.slice e)) (hi : P.info? e = some i)
    (v : Value) (n : Nat) (xs : List Value) (hs : a.eval s = v) (hown : w.ownsRow base e size v n xs) (hx : a.eval x = .slice none 0 0)
    (h : ∀ v' w', v' = v → w' = w → wpList P ops Q rest (a.put o.dst v') w') : wpList P ops Q (o :: rest) a w :=
  wpList_append_own_none hgd s x t ho base e i size ht hi v n xs hs hown hx (h v w rfl rfl)

def COut (A B : List Rc) (w : World) (hb : Nat) (va vb : Value) (k : Nat) (v : Value) (wr : World) : Prop :=
  k ≤ 2 ∧ wr.ownsRow w.heap.size 35 4 v (([A, B].take k).flatten).length (flat (([A, B].take k).flatten)) ∧ Below w.heap.size w wr ∧ Bk wr hb #[va, vb] 23

set_option maxRecDepth 10000 in
set_option maxHeartbeats 4000000 in
theorem concat_any (A B : List Rc) (va vb : Value) (hb : Nat) (w : World) (hva : LsR w va A) (hvb : LsR w vb B) (na : NoNil va) (nb : NoNil vb) (hbk : Bk w hb #[va, vb] 23) (hA : A.length ≤ 1024) (hB : B.length ≤ 1024) :
    Calls Try.prog 46 #[.slice (some ⟨hb, 0, none⟩) 2 2] w fun e w' => ∃ u, e = .returned u ∧ w'.ownsRow w.heap.size 35 4 u (A ++ B).length (flat (A ++ B)) ∧ Below w.heap.size w w' := by
  obtain ⟨i0, hi, hz0, hz1, hz2⟩ := info_parts info_rect
  have HI : Hid (Try.prog.info? 35 = some i0 ∧ i0.zero = some (.agg #[.int .i64 0, .int .i64 0, .int .i64 0, .int .i64 0]) ∧ i0.size = 4 ∧ i0.bytes = 32) := ⟨hi, hz0, hz1, hz2⟩
  obtain ⟨oa, ca, rfl, hca, hga⟩ := hva
  obtain ⟨ob, cb, rfl, hcb, hgb⟩ := hvb
  have HP : Hid (∀ k, k < 2 → ∃ (M : List Rc) (oM : Option Addr) (cM : Nat), #[Value.slice oa A.length ca, .slice ob B.length cb][k]? = some (.slice oM M.length cM) ∧ (0 < M.length → ∃ g o, oM = some ⟨g, o, none⟩ ∧ g < w.heap.size ∧ ∀ i (h : i < M.length), RcAt w g (o + i * 4) M[i]) ∧ NoNil (.slice oM M.length cM) ∧ M.length ≤ 1024 ∧ ([A, B].take (k + 1)).flatten = ([A, B].take k).flatten ++ M ∧ (([A, B].take k).flatten).length ≤ 1024) := by
    intro k hk
    rcases (show k = 0 ∨ k = 1 by omega) with rfl | rfl
    · exact ⟨A, oa, ca, rfl, hga, na, hA, by simp, by simp⟩
    · exact ⟨B, ob, cb, rfl, hgb, nb, hB, by simp, by simp; omega⟩
  have HK : Hid (Bk w hb #[.slice oa A.length ca, .slice ob B.length cb] 23) := hbk
  have HGr : Hid (∀ n : Nat, n ≤ 1000000 → Calls Try.prog 71 #[.slice none 0 0, .int .i64 n] w fun e w' => ∃ u, e = .returned u ∧ w'.ownsRow w.heap.size 35 4 u 0 [] ∧ Below w.heap.size w w') := fun n h => grow_any n w h
  clear hi hz0 hz1 hz2 hga hgb na nb hbk
  go_enter Try.func46, Try.ntmps46
  go_wp2_with fail
  go_loopw [3, 11] (fun s i wr => ∃ k : Nat, k ≤ 2 ∧ i = .int .i64 k ∧ s = .int .i64 ((([A, B].take k).flatten).length : Nat) ∧ wr = w) (fun _ i _ => 2 - (intOf i).toNat)
  case atStart => exact ⟨0, by omega, rfl, rfl, rfl⟩
  case round =>
    obtain ⟨k, hk, rfl, rfl, rfl⟩ := hrel
    by_cases hlt : k < 2
    · obtain ⟨M, oM, cM, hcell, _, _, hMl, hacc, hal⟩ := HP.out k hlt
      have hc : wr.cell? ⟨hb, k, none⟩ = some (.slice oM M.length cM) := by rw [HK.out.cell]; exact hcell
      have HN : Hid ((([A, B].take (k + 1)).flatten).length = (([A, B].take k).flatten).length + M.length) := by unfold Hid; rw [hacc, List.length_append]
      generalize (([A, B].take k).flatten).length = n at *
      clear hcell hacc
      have HRel : Hid (∃ k' : Nat, k' ≤ 2 ∧ Value.int .i64 ((k : Int) + 1) = .int .i64 k' ∧ Value.int .i64 ((n : Int) + (M.length : Int)) = .int .i64 ((([A, B].take k').flatten).length : Nat) ∧ True) := ⟨k + 1, by omega, by go_num, by rw [HN.out, Int.natCast_add], trivial⟩
      go_wp2
      go_roundw
      case rel => exact HRel.out
      case measure => simp [intOf]; omega
    · obtain rfl : k = 2 := by omega
      have e2 : ([A, B].take 2).flatten = A ++ B := by simp
      rw [e2]
      have hlen : (A ++ B).length ≤ 2048 := by rw [List.length_append]; omega
      have HG2 := HGr.out (A ++ B).length (by omega)
      have HG3 : Hid (Calls Try.prog 71 #[.slice none 0 0, .int .i64 ((A ++ B).length : Nat)] wr fun e w' => ∃ u, e = .returned u ∧ w'.ownsRow wr.heap.size 35 4 u 0 [] ∧ Below wr.heap.size wr w') := HG2
      clear HG2 HGr
      obtain ⟨n, hnn⟩ : ∃ n, n = (A ++ B).length := ⟨_, rfl⟩
      rw [← hnn] at HG3 hlen ⊢
      clear hnn
      go_wp2_with fail
      refine HG3.out.mono ?_
      rintro e w1 ⟨u1, rfl, hu1, hb1⟩
      have HC0 : Hid (COut A B wr hb (.slice oa A.length ca) (.slice ob B.length cb) 0 u1 w1) := ⟨by omega, hu1, hb1, HK.out.below hb1⟩
      clear hu1 hb1 HG3
      go_wp2_with fail
      obtain ⟨ww, hww⟩ : ∃ ww : World, ww = wr := ⟨_, rfl⟩
      rw [← hww] at HC0
      have HPw : Hid (∀ k, k < 2 → ∃ (M : List Rc) (oM : Option Addr) (cM : Nat), #[Value.slice oa A.length ca, .slice ob B.length cb][k]? = some (.slice oM M.length cM) ∧ (0 < M.length → ∃ g o, oM = some ⟨g, o, none⟩ ∧ g < ww.heap.size ∧ ∀ i (h : i < M.length), RcAt ww g (o + i * 4) M[i]) ∧ NoNil (.slice oM M.length cM) ∧ M.length ≤ 1024 ∧ ([A, B].take (k + 1)).flatten = ([A, B].take k).flatten ++ M ∧ (([A, B].take k).flatten).length ≤ 1024) := by unfold Hid; rw [hww]; exact HP.out
      have Hww : Hid (ww = wr) := hww
      clear hww
      go_loopw [6, 27] (fun v i wq => ∃ k : Nat, i = .int .i64 k ∧ COut A B ww hb (.slice oa A.length ca) (.slice ob B.length cb) k v wq) (fun _ i _ => 2 - (intOf i).toNat)
      case atStart => exact ⟨0, rfl, HC0.out⟩
      case round =>
        obtain ⟨k, rfl, hI⟩ := hrel
        obtain ⟨hk2, hown, hBr, hbk⟩ := hI
        by_cases hlt : k < 2
        · obtain ⟨M, oM, cM, hcell, hM, hMn, hMl, hacc, hal⟩ := HPw.out k hlt
          have hc : wr.cell? ⟨hb, k, none⟩ = some (.slice oM M.length cM) := by rw [hbk.cell]; exact hcell
          obtain ⟨acc, hac⟩ : ∃ acc, acc = ([A, B].take k).flatten := ⟨_, rfl⟩
          rw [← hac] at hown hacc hal
          have HA : Hid (([A, B].take (k + 1)).flatten = acc ++ M) := hacc
          have HO : Hid (wr.ownsRow ww.heap.size 35 4 u6 acc.length (flat acc) ∧ Below ww.heap.size ww wr ∧ Bk wr hb #[.slice oa A.length ca, .slice ob B.length cb] 23) := ⟨hown, hBr, hbk⟩
          have hsz : ww.heap.size ≤ wr.heap.size := hBr.size
          obtain ⟨hi, hz0, hz1, hz2⟩ := HI.out
          cases oM with
          | none =>
            have hM0 : M = [] := by
              cases hMM : M with
              | nil => rfl
              | cons r t =>
                rw [hMM] at hM
                obtain ⟨g, o, h, _⟩ := hM (by simp)
                cases h
            subst hM0
            obtain rfl : cM = 0 := hMn cM rfl
            have HRel : Hid (∃ k' : Nat, Value.int .i64 ((k : Int) + 1) = .int .i64 k' ∧ COut A B ww hb (.slice oa A.length ca) (.slice ob B.length cb) k' u6 wr) := by
              refine ⟨k + 1, by go_num, by omega, ?_, hBr, hbk⟩
              rw [HA.out, List.append_nil]
              exact hown
            have HOw : Hid (wr.ownsRow ww.heap.size 35 4 u6 acc.length (flat acc)) := hown
            clear hown hBr hbk hac hacc hM hMn hcell HO
            go_wp2_with (at_builtin; refine app_none rfl _ _ 23 rfl ww.heap.size 35 i0 4 Try.underlying23 hi u6 acc.length (flat acc) rfl HOw.out rfl ?_)
            exact ⟨HRel.out, by simp [intOf]; omega⟩
          | some ad =>
            have HNw : Hid (∀ (j : Nat) (u : Value), (flat M)[j]? = some u → wr.cell? (ad.add j) = some u) := by
              intro j u hj
              by_cases hp : 0 < M.length
              · obtain ⟨g, o, h, hg, hat⟩ := hM hp
                injection h with h
                subst h
                exact lsr_src (fun i hi => (hat i hi).kept fun q => hBr.cell (p := ⟨g, q, none⟩) hg) j u hj
              · have : M = [] := List.eq_nil_of_length_eq_zero (by omega)
                rw [this] at hj
                cases hj
            have hc3 : Hid (acc.length + M.length ≤ maxLen) := by unfold Hid maxLen; omega
            have hc4 : Hid ((acc.length + M.length) * 32 ≤ 140737488355328) := by unfold Hid; omega
            have HOw : Hid (wr.ownsRow ww.heap.size 35 4 u6 acc.length (flat acc)) := hown
            have HFl : Hid ((flat M).length = M.length * 4) := flat_len M
            clear hown hBr hbk hac hacc hM hMn hcell
            go_wp2_with (at_builtin; refine wpList_append_own _ rfl _ _ 23 rfl ww.heap.size 35 i0 (.agg #[.int .i64 0, .int .i64 0, .int .i64 0, .int .i64 0]) 4 32 Try.underlying23 hi hz0 hz1 hz2 rfl (by decide) u6 acc.length (flat acc) rfl HOw.out ad M.length cM (flat M) rfl HFl.out HNw.out (flat_ones M) hc3.out hc4.out hsz ?_)
            intro v' w4 hown' hgrow hnil
            have HRel : Hid (∃ k' : Nat, Value.int .i64 ((k : Int) + 1) = .int .i64 k' ∧ COut A B ww hb (.slice oa A.length ca) (.slice ob B.length cb) k' v' w4) := by
              refine ⟨k + 1, by go_num, by omega, ?_, app_below HO.out.2.1 HO.out.1 (Nat.le_refl _) hgrow, HO.out.2.2.apart HO.out.1 (by decide) hgrow⟩
              rw [HA.out, List.length_append, flat_app]
              exact hown'
            clear hown' hgrow hnil hi hz0 hz1 hz2
            go_wp2
            go_roundw
            case rel => exact HRel.out
            case measure => simp [intOf]; omega
        · obtain rfl : k = 2 := by omega
          have e2 : ([A, B].take 2).flatten = A ++ B := by simp
          rw [e2] at hown
          have HF : Hid (wr.ownsRow ww.heap.size 35 4 u6 (A ++ B).length (flat (A ++ B)) ∧ Below ww.heap.size ww wr) := ⟨hown, hBr⟩
          rw [Hww.out] at HF
          clear hown hBr hbk
          go_wp2
          go_ret
          exact ⟨_, rfl, HF.out.1, HF.out.2⟩

set_option maxHeartbeats 2000000 in
theorem joinL_any (a b : List Rc) (va vb : Value) (w : World) (ha : LsR w va a) (hb : LsR w vb b) (ia : I64s a) (ib : I64s b) (na : NoNil va) (nb : NoNil vb) :
    Calls Try.prog 12 #[va, vb] w fun e w' => Ans w (ansL (twoE a b) (formF false (a ++ b) [])) (ansE (twoE a b) (formF false (a ++ b) [])) e w' := by
  have H1 : Hid (Calls Try.prog 45 #[va, vb] w fun e w' => e = .returned (.int .i64 (twoE a b)) ∧ Below w.heap.size w w') := both_any a b va vb w ha hb ia ib
  by_cases h0 : twoE a b = 0
  · have hal := (lisE_zero (twoE_zero h0).1).1
    have hbl := (lisE_zero (twoE_zero h0).2).1
    have hl2 : (a ++ b).length ≤ 3000 := by rw [List.length_append]; omega
    have iab : I64s (a ++ b) := fun r hr => by rcases List.mem_append.1 hr with h | h; exact ia r h; exact ib r h
    have HC : Hid (∀ hd W, Below w.heap.size w W → Bk W hd #[va, vb] 23 → Calls Try.prog 46 #[.slice (some ⟨hd, 0, none⟩) 2 2] W fun e w' => ∃ u, e = .returned u ∧ w'.ownsRow W.heap.size 35 4 u (a ++ b).length (flat (a ++ b)) ∧ Below W.heap.size W w') := fun hd W h hk => concat_any a b va vb hd W (ha.below h) (hb.below h) na nb hk hal hbl
    have H2 : Hid (∀ u W, LsR W u (a ++ b) → Calls Try.prog 43 #[u, (.slice none 0 0), .func (.func 44) #[] #[]] W fun e w' => ∃ u, e = .returned u ∧ w'.ownsRow W.heap.size 35 4 u (formF false (a ++ b) []).length (flat (formF false (a ++ b) [])) ∧ Below W.heap.size W w') := fun u W h => form_any false (a ++ b) [] u (.slice none 0 0) W h (lsr_nil W) iab (fun r hr => by cases hr) hl2 (by simp)
    have HT : Hid (∀ u base W, W.ownsRow base 35 4 u (formF false (a ++ b) []).length (flat (formF false (a ++ b) [])) → Calls Try.prog 42 #[u] W fun e w' => ∃ v, e = .returned (.tuple #[v, .int .i64 (ansE 0 (formF false (a ++ b) []))]) ∧ w'.ownsRow base 35 4 v (ansL 0 (formF false (a ++ b) [])).length (flat (ansL 0 (formF false (a ++ b) []))) ∧ w' = W) := fun u base W h => told_any _ u base W h (by have := formF_len false (a ++ b) [] hl2 (by simp); omega)
    rw [h0] at H1 ⊢
    generalize ansL 0 (formF false (a ++ b) []) = L at *
    generalize ansE 0 (formF false (a ++ b) []) = E at *
    generalize formF false (a ++ b) [] = F at *
    obtain ⟨oa, ca, rfl, hca, _⟩ := ha
    obtain ⟨ob, cb, rfl, hcb, _⟩ := hb
    clear ia ib h0 na nb iab
    go_enter Try.func12, Try.ntmps12
    go_wp2_with fail
    refine H1.out.mono ?_
    rintro e w1 ⟨rfl, hb1⟩
    have HB : Hid (Below w.heap.size w w1) := hb1
    have HB1 : Hid (Below w.heap.size w (w1.alloc (.cells #[.slice oa a.length ca, .slice ob b.length cb] 23)) ∧ Bk (w1.alloc (.cells #[.slice oa a.length ca, .slice ob b.length cb] 23)) w1.heap.size #[.slice oa a.length ca, .slice ob b.length cb] 23) := ⟨hb1.alloc hb1.size _, Bk.new _ _ _⟩
    clear hb1
    go_wp2_with fail
    refine (HC.out _ _ HB1.out.1 HB1.out.2).mono ?_
    rintro e w2 ⟨u, rfl, hu, hb2⟩
    have HU : Hid (LsR w2 u (a ++ b) ∧ Below w.heap.size w w2) := ⟨lsr_own hu, HB1.out.1.trans (hb2.mono HB1.out.1.size)⟩
    clear hb2 hu
    go_wp2_with fail
    refine (H2.out u _ HU.out.1).mono ?_
    rintro e w3 ⟨y, rfl, hy, hb3⟩
    have HY : Hid (w3.ownsRow w.heap.size 35 4 y F.length (flat F) ∧ Below w.heap.size w w3) := ⟨row_weaken hy HU.out.2.size, HU.out.2.trans (hb3.mono HU.out.2.size)⟩
    clear hb3 hy
    go_wp2_with fail
    refine (HT.out y _ _ HY.out.1).mono ?_
    rintro e w4 ⟨z, rfl, hz, hw⟩
    have HZ : Hid (w4.ownsRow w.heap.size 35 4 z L.length (flat L) ∧ Below w.heap.size w w4) := ⟨hz, by rw [hw]; exact HY.out.2⟩
    clear hz hw
    go_wp2
    go_ret2
    exact ⟨_, rfl, HZ.out.1, HZ.out.2⟩
  · rw [show ansE (twoE a b) (formF false (a ++ b) []) = twoE a b by unfold ansE; rw [if_neg h0], show ansL (twoE a b) (formF false (a ++ b) []) = [] by unfold ansL; rw [if_neg (fun h => h0 h.1)]]
    generalize twoE a b = ea at *
    have h1 : (ea != 0) = true := by simp [h0]
    clear ha hb ia ib h0 na nb
    go_enter Try.func12, Try.ntmps12
    go_wp2_with fail
    refine H1.out.mono ?_
    rintro e w1 ⟨rfl, hb1⟩
    have HB : Hid (Below w.heap.size w w1) := hb1
    clear hb1
    go_wp2
    go_ret2
    exact ⟨_, rfl, World.ownsRow_nil _ _ _ _, HB.out⟩

end Go.Proofs.Ytagkbpceiedikaa
