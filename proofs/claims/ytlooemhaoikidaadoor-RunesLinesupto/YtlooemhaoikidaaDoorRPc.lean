/-
  The walk of the statement RunesPieces: it answers true.
-/
import Derived.Test.YtlooemhaoikidaaDoorRAw
import Derived.Test.YtlooemhaoikidaaDoorRB
namespace Go.Proofs.YtlooemhaoikidaaDoor
open Go.RowKit Go.Shelf

/-- Pieces end where the text does. -/
theorem grow_last (s : ByteArray) : ∀ f a r q e, s.size < f + q → lastTo (grow s f a r q) e = if 0 < f then s.size else e
  | 0, _, _, _, _, _ => by simp [grow, lastTo]
  | f + 1, a, r, q, e, h => by
    have hp := sz_pos s q
    rw [if_pos (by omega)]
    by_cases hq : q < s.size
    · cases hm : (mrk (rn s q) && !ctl r)
      · rw [grow_out hq hm, lastTo, grow_last s f q (rn s q) (q + sz s q) _ (by omega), if_pos (by omega)]
      · rw [grow_in hq hm, grow_last s f a r (q + sz s q) _ (by omega), if_pos (by omega)]
    · rw [grow_end hq]; rfl
theorem pcs_last (s : ByteArray) : lastTo (pcs s) 0 = s.size := by
  unfold pcs
  split
  · next h => rw [h]; rfl
  · rw [grow_last s _ _ _ _ _ (by have := sz_pos s 0; omega), if_pos (by omega)]

theorem ch_split {N : Nat} : ∀ (pre rest : List Pc) (a : Nat), Ch N a (pre ++ rest) → Ch N (lastTo pre a) rest ∧ a ≤ lastTo pre a ∧ (∀ x ∈ pre, x.to ≤ lastTo pre a ∧ x.fr < x.to ∧ x.fr < lastTo pre a) ∧ (pre ≠ [] → a < lastTo pre a)
  | [], rest, a, h => ⟨h, Nat.le_refl _, by simp, by simp⟩
  | x :: t, rest, a, h => by
    obtain ⟨h1, h2, h3, h4⟩ := h
    obtain ⟨i1, i2, i3, i4⟩ := ch_split t rest x.to h4
    refine ⟨i1, by rw [lastTo]; omega, fun y hy => ?_, fun _ => by rw [lastTo]; omega⟩
    rw [lastTo]
    rcases List.mem_cons.1 hy with rfl | hy
    · omega
    · exact i3 y hy
theorem ch_le {N : Nat} : ∀ (l : List Pc) (a : Nat), a ≤ N → Ch N a l → lastTo l a ≤ N
  | [], _, h, _ => h
  | x :: t, _, _, h => ch_le t x.to h.2.2.1 h.2.2.2

theorem wordL_skip (l r : List Pc) (p : Int) (e : Nat) (k : Int) (h : ∀ x ∈ l, (x.to : Int) ≤ p) : wordL (l ++ r) p e k = wordL r p e k := by
  induction l with
  | nil => rfl
  | cons a t ih =>
    have ha := h a (by simp)
    rw [List.cons_append, wordL, if_pos ha]
    exact ih (fun x hx => h x (by simp [hx]))
theorem wordL_rest (N : Nat) (p : Int) : ∀ (l : List Pc) (e : Nat) (k : Int), 0 < e → p < e → e ≤ N → Ch N e l → ∃ e', wordL l p e k = (e', true) ∧ e ≤ e' ∧ e' ≤ N
  | [], e, k, h0, _, hN, _ => ⟨e, by simp [wordL, h0], Nat.le_refl _, hN⟩
  | x :: t, e, k, h0, hp, hN, hc => by
    obtain ⟨h1, h2, h3, h4⟩ := hc
    rw [wordL, if_neg (by omega), if_neg (by omega)]
    split
    · obtain ⟨e', i1, i2, i3⟩ := wordL_rest N p t x.to k (by omega) (by omega) h3 h4
      exact ⟨e', i1, by omega, i3⟩
    · exact ⟨e, rfl, Nat.le_refl _, hN⟩
theorem nextL_none (l : List Pc) (p : Int) (h : ∀ x ∈ l, (x.to : Int) ≤ p) : nextL l p = none := by
  have := nextL_app l [] p h
  rwa [List.append_nil] at this
theorem backL_app : ∀ (l r : List Pc) (p : Int) (b : Nat), (∀ x ∈ l, (x.fr : Int) < p) → backL (l ++ r) p b = backL r p (lastFr l b)
  | [], _, _, _, _ => rfl
  | x :: t, r, p, b, h => by
    have := h x (by simp)
    rw [List.cons_append, backL, if_neg (by omega), lastFr]
    exact backL_app t r p x.fr (fun y hy => h y (by simp [hy]))

/-- One step on. -/
theorem step_on (s : ByteArray) (pre rest : List Pc) (x : Pc) (h : pcs s = pre ++ x :: rest) (p : Nat) (hp : p = lastTo pre 0) :
    p < s.size ∧ nextN s p = x.to ∧ nextB s p = true ∧ p < x.to ∧ x.to ≤ s.size ∧ x.fr = p ∧ (∃ e, wordA s p = (e, true) ∧ x.to ≤ e ∧ e ≤ s.size) := by
  have hc := pcs_ch s
  rw [h] at hc
  obtain ⟨⟨c1, c2, c3, c4⟩, _, i3, _⟩ := ch_split pre (x :: rest) 0 hc
  rw [← hp] at c1 c2 i3
  have hpre : ∀ y ∈ pre, (y.to : Int) ≤ p := fun y hy => by have := (i3 y hy).1; omega
  refine ⟨by omega, ?_, ?_, by omega, c3, c1, ?_⟩
  · rw [nextN, if_neg (by omega), h, nextL_app _ _ _ hpre, nextL, if_pos (by omega)]; rfl
  · rw [nextB, if_neg (by omega), h, nextL_app _ _ _ hpre, nextL, if_pos (by omega)]; rfl
  · rw [wordA, if_neg (by omega), h, wordL_skip _ _ _ _ _ hpre, wordL, if_neg (by omega), if_pos rfl]
    exact wordL_rest s.size p rest x.to _ (by omega) (by omega) c3 c4
/-- One step back. -/
theorem step_back (s : ByteArray) (pre rest : List Pc) (x : Pc) (h : pcs s = (pre ++ [x]) ++ rest) (p : Nat) (hp : p = lastTo (pre ++ [x]) 0) :
    backB s p = true ∧ backN s p = x.fr ∧ x.fr = lastTo pre 0 := by
  have hc := pcs_ch s
  have hl := ch_le (pcs s) 0 (Nat.zero_le _) hc
  rw [h] at hc
  obtain ⟨r1, r2, r3, r4⟩ := ch_split (pre ++ [x]) rest 0 hc
  rw [← hp] at r1 r2 r3 r4
  have hx := lastTo_snoc pre x 0
  rw [← hp] at hx
  have hN : p ≤ s.size := by rw [hx]; exact pcs_to s x (by rw [h]; simp)
  have h0 : 0 < p := r4 (by simp)
  have hb : backB s p = true := by rw [backB, decide_eq_true (show (1 : Int) ≤ p by omega), decide_eq_true (show (p : Int) ≤ s.size by omega)]; rfl
  rw [List.append_assoc] at hc
  obtain ⟨q1, _⟩ := ch_split pre ([x] ++ rest) 0 hc
  refine ⟨hb, ?_, q1.1⟩
  rw [backN, if_pos hb, h, backL_app _ _ _ _ (fun y hy => by have := (r3 y hy).2.2; omega), lastFr_snoc]
  cases rest with
  | nil => rfl
  | cons y t =>
    have := r1.1
    rw [backL, if_pos (by omega)]
theorem back_none (s : ByteArray) : backB s 0 = false := by simp [backB]
theorem next_none (s : ByteArray) : nextB s s.size = false := by
  rw [nextB, if_neg (by omega), nextL_none _ _ (fun x hx => by have := pcs_to s x hx; omega)]; rfl

theorem info_int : (Tryd.prog.info? 3).map (fun i => (i.zero, i.size, i.bytes)) = some (some (.int .i64 0), 1, 8) := by kernel_rfl
def frs (l : List Pc) : List Value := l.map fun x => .int .i64 x.fr

theorem cellNew (w : World) (x : Value) (t : TypeId) : ∀ (j : Nat) (u : Value), [x][j]? = some u → (w.alloc (.cells #[x] t)).cell? ((⟨w.heap.size, 0, none⟩ : Addr).add j) = some u := by
  intro j u hj
  match j, hj with
  | 0, hj =>
    simp at hj
    subst hj
    exact (Blk.new w #[x] t).at1
theorem oneInt (x : Int) : ∀ u ∈ [Value.int .i64 x], u.oneCell' = true := by
  intro u hu
  rw [List.mem_singleton] at hu
  subst hu
  rfl

set_option maxRecDepth 10000 in
set_option maxHeartbeats 2000000 in
theorem pieces_walk (s : ByteArray) (w : World) (A : All w) (hs : s.size ≤ 1048576) :
    Calls Tryd.prog 7 #[.string s] w fun e w' => e = .returned (.bool true) ∧ Below w.heap.size w w' := by
  obtain ⟨i0, hi, hz0, hz1, hz2⟩ := info_parts info_int
  have HI : Hid (Tryd.prog.info? 3 = some i0 ∧ i0.zero = some (.int .i64 0) ∧ i0.size = 1 ∧ i0.bytes = 8) := ⟨hi, hz0, hz1, hz2⟩
  clear hi hz0 hz1 hz2
  have hpl := pcs_len s
  have H0 : Hid (All w ∧ Below w.heap.size w w) := ⟨A, Below.refl _ _⟩
  clear A
  go_enter Tryd.func7, Tryd.ntmps7
  go_wp2_with fail
  refine (awake_any _ H0.out.1).mono ?_
  rintro e w1 ⟨rfl, hb⟩
  have H1 : Hid (All w1 ∧ Below w.heap.size w w1) := chain_all H0.out hb
  clear hb
  go_wp2_with fail
  go_loopw [4, 5] (fun v a wr => ∃ (pre rest : List Pc), pcs s = pre ++ rest ∧ a = .int .i64 (lastTo pre 0 : Nat) ∧ wr.ownsRow w.heap.size 3 1 v pre.length (frs pre) ∧ All wr ∧ Below w.heap.size w wr) (fun _ a _ => s.size - (intOf a).toNat)
  case atStart => exact ⟨[], pcs s, rfl, rfl, World.ownsRow_nil _ _ _ _, H1.out.1, H1.out.2⟩
  case round =>
    obtain ⟨pre, rest, hpr, rfl, hown, hA, hbr⟩ := hrel
    cases rest with
    | nil =>
      rw [List.append_nil] at hpr
      subst hpr
      have hlast := pcs_last s
      rw [hlast]
      have HR : Hid (wr.ownsRow w.heap.size 3 1 u4 (pcs s).length (frs (pcs s)) ∧ All wr ∧ Below w.heap.size w wr) := ⟨hown, hA, hbr⟩
      obtain ⟨ao, cap, hu4, hcap⟩ : ∃ ao cap, u4 = .slice ao (pcs s).length cap ∧ (pcs s).length ≤ cap := by
        obtain ⟨_, h | ⟨g, cap, cur, h1, _, h2, h3, _⟩⟩ := hown
        · exact ⟨none, 0, by rw [h.1, h.2], by rw [h.2]; exact Nat.le_refl _⟩
        · exact ⟨_, cap, h1, h3⟩
      subst hu4
      clear hown hA hbr hlast
      go_wp2_with fail
      refine (cells_any s wr HR.out.2.1.1 (by unfold Short; omega)).mono ?_
      rintro e w2 ⟨rfl, hb⟩
      have H2 : Hid (w2.ownsRow w.heap.size 3 1 (.slice ao (pcs s).length cap) (pcs s).length (frs (pcs s)) ∧ All w2 ∧ Below w.heap.size w w2) := by
        obtain ⟨h1, h2, h3⟩ := HR.out
        exact ⟨row_below h1 hb, h2.below hb, h3.trans (hb.mono h3.size)⟩
      clear hb
      go_wp2_with fail
      refine (next_any s s.size w2 H2.out.2.1.1).mono ?_
      rintro e w3 ⟨rfl, hb⟩
      rw [next_none s]
      have H3 : Hid (w3.ownsRow w.heap.size 3 1 (.slice ao (pcs s).length cap) (pcs s).length (frs (pcs s)) ∧ All w3 ∧ Below w.heap.size w w3) := by
        obtain ⟨h1, h2, h3⟩ := H2.out
        exact ⟨row_below h1 hb, h2.below hb, h3.trans (hb.mono h3.size)⟩
      clear hb
      go_wp2_with fail
      obtain ⟨wo, hwo⟩ : ∃ wo : World, wo = w3 := ⟨_, rfl⟩
      go_loopw [14, 15] (fun a i wq => ∃ (pre rest : List Pc), pcs s = pre ++ rest ∧ a = .int .i64 (lastTo pre 0 : Nat) ∧ i = .int .i64 ((pre.length : Int) - 1) ∧ wq.ownsRow w.heap.size 3 1 (.slice ao (pcs s).length cap) (pcs s).length (frs (pcs s)) ∧ All wq ∧ Below w.heap.size w wq) (fun _ i _ => (intOf i + 1).toNat)
      case atStart => exact ⟨pcs s, [], by simp, by rw [pcs_last s], rfl, H3.out.1, H3.out.2.1, H3.out.2.2⟩
      case round =>
        obtain ⟨pre, rest, hpr, rfl, rfl, hown, hA, hbr⟩ := hrel
        rcases List.eq_nil_or_concat pre with hn | ⟨pre', x, hx⟩
        · subst hn
          have HQ : Hid (All wr ∧ Below w.heap.size w wr) := ⟨hA, hbr⟩
          clear hown hA hbr hpr
          go_wp2_with fail
          refine (back_any s _ wr HQ.out.1.1).mono ?_
          rintro e w4 ⟨rfl, hb⟩
          have HF : Hid (Below w.heap.size w w4) := HQ.out.2.trans (hb.mono HQ.out.2.size)
          clear hb
          have e0 : ((lastTo [] 0 : Nat) : Int) = 0 := rfl
          rw [e0, back_none s]
          go_wp2
          go_ret
          exact ⟨rfl, HF.out⟩
        · rw [List.concat_eq_append] at hx
          subst hx
          obtain ⟨p, hp⟩ : ∃ p, p = lastTo (pre' ++ [x]) 0 := ⟨_, rfl⟩
          obtain ⟨t1, t2, t3⟩ := step_back s pre' rest x hpr p hp
          rw [← hp]
          have hlen : (pre' ++ [x]).length = pre'.length + 1 := by simp
          rw [hlen]
          have hlt : pre'.length < (pcs s).length := by rw [hpr]; simp
          obtain ⟨g, hao, hcell⟩ : ∃ g, ao = some ⟨g, 0, none⟩ ∧ wr.cell? ⟨g, pre'.length, none⟩ = some (.int .i64 x.fr) := by
            obtain ⟨_, h | ⟨g, cap', cur, h1, _, h2, h3, _, _, h4⟩⟩ := hown
            · omega
            · have hc : Blk wr g cur 3 := h2
              cases h1
              refine ⟨g, rfl, ?_⟩
              have e : (frs (pcs s))[pre'.length]? = some (.int .i64 x.fr) := by rw [hpr]; simp [frs]
              rw [hc.cell, ← Array.getElem?_toList, ← e, ← h4, List.getElem?_take, if_pos (by omega)]
          subst hao
          have HQ : Hid (pcs s = pre' ++ ([x] ++ rest) ∧ wr.ownsRow w.heap.size 3 1 (.slice (some ⟨g, 0, none⟩) (pcs s).length cap) (pcs s).length (frs (pcs s)) ∧ All wr ∧ Below w.heap.size w wr ∧ x.fr = lastTo pre' 0) := ⟨by rw [hpr, List.append_assoc], hown, hA, hbr, t3⟩
          have HC : Hid (wr.cell? ⟨g, pre'.length, none⟩ = some (.int .i64 x.fr)) := hcell
          clear hown hA hbr hpr hcell hp t3
          go_wp2_with fail
          refine (back_any s p wr HQ.out.2.2.1.1).mono ?_
          rintro e w4 ⟨rfl, hb⟩
          rw [t1, t2]
          have hcell : w4.cell? ⟨g, pre'.length, none⟩ = some (.int .i64 x.fr) := cellB (Nat.le_refl _) hb HC.out
          have H4 : Hid (w4.ownsRow w.heap.size 3 1 (.slice (some ⟨g, 0, none⟩) (pcs s).length cap) (pcs s).length (frs (pcs s)) ∧ All w4 ∧ Below w.heap.size w w4) := by
            obtain ⟨_, h1, h2, h3, _⟩ := HQ.out
            exact ⟨row_below h1 hb, h2.below hb, h3.trans (hb.mono h3.size)⟩
          clear hb
          go_wp2
          obtain ⟨q1, _, _, _, q5⟩ := HQ.out
          obtain ⟨r1, r2, r3⟩ := H4.out
          refine ⟨⟨pre', [x] ++ rest, q1, by rw [q5], rfl, r1, r2, r3⟩, ?_⟩
          simp [intOf]
    | cons x rest =>
      obtain ⟨p, hp⟩ : ∃ p, p = lastTo pre 0 := ⟨_, rfl⟩
      obtain ⟨s1, s2, s3, s4, s5, s6, e, s7, s8, s9⟩ := step_on s pre rest x hpr p hp
      rw [← hp]
      have HR : Hid (pcs s = pre ++ x :: rest ∧ p = lastTo pre 0 ∧ wr.ownsRow w.heap.size 3 1 u4 pre.length (frs pre) ∧ All wr ∧ Below w.heap.size w wr ∧ x.fr = p) := ⟨hpr, hp, hown, hA, hbr, s6⟩
      have hpn : pre.length < 1048576 := by rw [hpr] at hpl; simp at hpl; omega
      clear hpr hp hown hA hbr s6
      go_wp2_with fail
      refine (next_any s p wr HR.out.2.2.2.1.1).mono ?_
      rintro e' w2 ⟨rfl, hb⟩
      have H2 : Hid (wr.ownsRow w.heap.size 3 1 u4 pre.length (frs pre) ∧ w2.ownsRow w.heap.size 3 1 u4 pre.length (frs pre) ∧ All w2 ∧ Below w.heap.size w w2) := by
        obtain ⟨_, _, h1, h2, h3, _⟩ := HR.out
        exact ⟨h1, row_below h1 hb, h2.below hb, h3.trans (hb.mono h3.size)⟩
      clear hb
      rw [s2, s3]
      go_wp2_with fail
      refine (word_any s p w2 H2.out.2.2.1.1 H2.out.2.2.1.2.1).mono ?_
      rintro e' w3 ⟨rfl, hb⟩
      rw [s7]
      have H3 : Hid (w3.ownsRow w.heap.size 3 1 u4 pre.length (frs pre) ∧ All w3 ∧ Below w.heap.size w w3) := by
        obtain ⟨_, h1, h2, h3⟩ := H2.out
        exact ⟨row_below h1 hb, h2.below hb, h3.trans (hb.mono h3.size)⟩
      clear hb s7
      obtain ⟨hi, hz0, hz1, hz2⟩ := HI.out
      have hc3 : Hid (pre.length + 1 ≤ maxLen) := by unfold Hid maxLen; omega
      have hc4 : Hid ((pre.length + 1) * 8 ≤ 140737488355328) := by unfold Hid; omega
      have Hown : Hid (∀ o1, (w3.alloc o1).ownsRow w.heap.size 3 1 u4 pre.length (frs pre)) := fun o1 => row_below H3.out.1 ((Below.refl _ w3).alloc (Nat.le_refl _) o1)
      have hc5 : Hid (∀ o1, w.heap.size ≤ (w3.alloc o1).heap.size) := by intro o1; have := H3.out.2.2.size; simp; omega
      go_wp2_with (at_builtin; refine wpList_append_own _ rfl _ _ 41 rfl w.heap.size 3 i0 (.int .i64 0) 1 8 Tryd.underlying41 hi hz0 hz1 hz2 rfl (by decide) u4 pre.length (frs pre) rfl (Hown.out _) _ 1 1 [.int .i64 p] rfl rfl (cellNew _ _ _) (oneInt _) hc3.out hc4.out (hc5.out _) ?_)
      intro v' w4 hown' hgrow hnil
      have R : ∃ (pre' rest' : List Pc), pcs s = pre' ++ rest' ∧ Value.int .i64 x.to = .int .i64 (lastTo pre' 0 : Nat) ∧ w4.ownsRow w.heap.size 3 1 v' pre'.length (frs pre') ∧ All w4 ∧ Below w.heap.size w w4 := by
        obtain ⟨h1, h2, _, _, _, h6⟩ := HR.out
        obtain ⟨_, hA, hB⟩ := H3.out
        have ar := Hown.out (.cells #[.int .i64 p] 3)
        have b4 : Below w.heap.size w w4 := (hB.alloc hB.size _).grown hgrow (hc5.out _) (fun g hg => (row_lt ar g hg).1)
        refine ⟨pre ++ [x], rest, by rw [h1]; simp, by rw [lastTo_snoc], ?_, H0.out.1.below b4, b4⟩
        rw [List.length_append, frs, List.map_append]
        simpa [frs, h6] using hown'
      have HR4 : Hid (∃ (pre' rest' : List Pc), pcs s = pre' ++ rest' ∧ Value.int .i64 x.to = .int .i64 (lastTo pre' 0 : Nat) ∧ w4.ownsRow w.heap.size 3 1 v' pre'.length (frs pre') ∧ All w4 ∧ Below w.heap.size w w4) := R
      clear R hown' hgrow hnil hi hz0 hz1 hz2
      go_wp2
      go_roundw
      case rel => exact HR4.out
      case measure => simp [intOf]; omega

end Go.Proofs.YtlooemhaoikidaaDoor
