/-
  Bounds in memory of one's own; bounds turned round.
-/
import Derived.Test.YtjamkbhplejolaaLF4
namespace Go.Proofs.Ytjamkbhplejolaa
open Go.RowKit

def celQ (q : Bq) : List Value := [.int .i64 q.a, .int .i64 q.b, .int .i64 q.f]
def flatQ : List Bq → List Value
  | [] => []
  | q :: t => celQ q ++ flatQ t
theorem flatQ_app (l m : List Bq) : flatQ (l ++ m) = flatQ l ++ flatQ m := by
  induction l with
  | nil => rfl
  | cons r l ih => show celQ r ++ flatQ (l ++ m) = (celQ r ++ flatQ l) ++ flatQ m; rw [ih, List.append_assoc]
theorem flatQ_len (l : List Bq) : (flatQ l).length = l.length * 3 := by
  induction l with
  | nil => rfl
  | cons r l ih => show (celQ r ++ flatQ l).length = _; rw [List.length_append, ih]; simp [celQ]; omega
theorem flatQ_at (l : List Bq) (k : Nat) (h : k < l.length) : (flatQ l)[k * 3]? = some (.int .i64 l[k].a) ∧ (flatQ l)[k * 3 + 1]? = some (.int .i64 l[k].b) ∧ (flatQ l)[k * 3 + 2]? = some (.int .i64 l[k].f) := by
  induction l generalizing k with
  | nil => simp at h
  | cons r l ih =>
    cases k with
    | zero => simp [flatQ, celQ]
    | succ k =>
      have e : ∀ j, (flatQ (r :: l))[(k + 1) * 3 + j]? = (flatQ l)[k * 3 + j]? := fun j => by
        show (celQ r ++ flatQ l)[(k + 1) * 3 + j]? = _
        rw [List.getElem?_append_right (by simp [celQ]; omega)]
        congr 1
        simp [celQ]
        omega
      have h' : k < l.length := by simpa using h
      obtain ⟨i0, i1, i2⟩ := ih k h'
      have e0 := e 0
      rw [Nat.add_zero, Nat.add_zero] at e0
      exact ⟨e0.trans i0, (e 1).trans i1, (e 2).trans i2⟩
theorem flatQ_ones (l : List Bq) : ∀ u ∈ flatQ l, u.oneCell' = true := by
  induction l with
  | nil => intro u hu; cases hu
  | cons r t ih =>
    intro u hu
    rcases List.mem_append.1 (show u ∈ celQ r ++ flatQ t from hu) with h | h
    · simp [celQ] at h
      rcases h with rfl | rfl | rfl <;> rfl
    · exact ih u h
theorem flatQ_put (l : List Bq) (r q : Bq) (t : List Bq) : (((flatQ (l ++ r :: t)).set (l.length * 3) (.int .i64 q.a)).set (l.length * 3 + 1) (.int .i64 q.b)).set (l.length * 3 + 2) (.int .i64 q.f) = flatQ (l ++ q :: t) := by
  rw [flatQ_app, flatQ_app, List.set_append_right _ _ (by rw [flatQ_len]; exact Nat.le_refl _), List.set_append_right _ _ (by rw [flatQ_len]; omega), List.set_append_right _ _ (by rw [flatQ_len]; omega), flatQ_len]
  congr 1
  show (((celQ r ++ flatQ t).set (l.length * 3 - l.length * 3) _).set (l.length * 3 + 1 - l.length * 3) _).set (l.length * 3 + 2 - l.length * 3) _ = celQ q ++ flatQ t
  rw [Nat.sub_self, Nat.add_sub_cancel_left, Nat.add_sub_cancel_left]
  rfl
theorem bs_src {w : World} {g o : Nat} {M : List Bq} (h : ∀ i (h : i < M.length), BqAt w g (o + i * 3) M[i]) : ∀ (j : Nat) (u : Value), (flatQ M)[j]? = some u → w.cell? ((⟨g, o, none⟩ : Addr).add j) = some u := by
  intro j u hj
  have hl : j < (flatQ M).length := (List.getElem?_eq_some_iff.1 hj).1
  rw [flatQ_len] at hl
  have hq : j / 3 < M.length := by omega
  obtain ⟨f0, f1, f2⟩ := flatQ_at M (j / 3) hq
  obtain ⟨c0, c1, c2⟩ := h (j / 3) hq
  rw [addr_plus]
  rcases (show j = j / 3 * 3 ∨ j = j / 3 * 3 + 1 ∨ j = j / 3 * 3 + 2 by omega) with e | e | e
  · rw [e, f0] at hj; rw [show o + j = o + j / 3 * 3 by omega, c0]; exact hj
  · rw [e, f1] at hj; rw [show o + j = o + j / 3 * 3 + 1 by omega, c1]; exact hj
  · rw [e, f2] at hj; rw [show o + j = o + j / 3 * 3 + 2 by omega, c2]; exact hj
def OwB (lo : Nat) (w : World) (v : Value) (L : List Bq) : Prop := w.ownsRow lo 39 3 v L.length (flatQ L)
theorem OwB.nil (lo : Nat) (w : World) : OwB lo w (.slice none 0 0) [] := World.ownsRow_nil _ _ _ _
theorem OwB.below {lo : Nat} {w w' : World} {v : Value} {L : List Bq} (h : OwB lo w v L) (hb : Below w.heap.size w w') : OwB lo w' v L := row_below h hb
theorem OwB.bs {lo : Nat} {w : World} {v : Value} {L : List Bq} (h : OwB lo w v L) : BS w v L := by
  obtain ⟨hl, ⟨rfl, h0⟩ | ⟨g, cap, cur, rfl, hb, hc, h1, h2, h3, h4⟩⟩ := h
  · obtain rfl : L = [] := List.length_eq_zero_iff.1 h0
    exact ⟨none, 0, rfl, Nat.le_refl _, fun h => absurd h (Nat.lt_irrefl 0)⟩
  · refine ⟨_, cap, rfl, h1, fun _ => ⟨g, 0, rfl, (Array.getElem?_eq_some_iff.1 hc).1, fun i hi => ?_⟩⟩
    obtain ⟨f0, f1, f2⟩ := flatQ_at L i hi
    have e : ∀ j, j < L.length * 3 → (cur.toList.take (L.length * 3))[j]? = cur[j]? := fun j hj => by rw [List.getElem?_take_of_lt (by omega), Array.getElem?_toList]
    rw [← h4, e _ (by omega)] at f0 f1 f2
    refine ⟨?_, ?_, ?_⟩
    · rw [Nat.zero_add, Bk.cell hc, f0]
    · rw [Nat.zero_add, Bk.cell hc, f1]
    · rw [Nat.zero_add, Bk.cell hc, f2]
theorem info_bound : (Try.prog.info? 39).map (fun i => (i.zero, i.size, i.bytes)) = some (some (.agg #[.int .i64 0, .int .i64 0, .int .i64 0]), 3, 24) := by kernel_rfl
def zQ : Bq := ⟨0, 0, 0⟩
theorem flatQ_rep (n : Nat) : flatQ (List.replicate n zQ) = List.replicate (n * 3) (.int .i64 0) := by
  induction n with
  | zero => rfl
  | succ n ih =>
    rw [List.replicate_succ, show (n + 1) * 3 = n * 3 + 1 + 1 + 1 by omega, List.replicate_succ, List.replicate_succ, List.replicate_succ]
    show celQ zQ ++ flatQ (List.replicate n zQ) = _
    rw [ih]
    rfl
theorem make_bounds (n : Nat) (hn : n < 1000000) (w : World) : (Instr.makeSlice 22 (.int .i64 (n : Nat)) (.int .i64 (n : Nat))).run Try.prog w = .ok (.slice (some ⟨w.heap.size, 0, none⟩) n n) (w.alloc (.cells (flatQ (List.replicate n zQ)).toArray 39)) := by
  obtain ⟨i0, hi, hz0, hz1, hz2⟩ := info_parts info_bound
  have h := run_make (P := Try.prog) w 22 39 i0 (.agg #[.int .i64 0, .int .i64 0, .int .i64 0]) Try.underlying22 hi hz0 .i64 .i64 (n : Int) (n : Int) (by omega) (Int.le_refl _) (by rw [hz2]; omega) (by omega)
  simp only [Int.toNat_natCast, hz1] at h
  rw [h, flatQ_rep]
  congr 3
  refine Array.ext (by simp [size_madeCells]) fun i h1 h2 => ?_
  have h3 : i % 3 < 3 := Nat.mod_lt _ (by omega)
  have hz : ∀ j, j < 3 → (#[Value.int .i64 0, .int .i64 0, .int .i64 0] : Array Value)[j]! = .int .i64 0 := by
    intro j hj
    match j, hj with
    | 0, _ => rfl
    | 1, _ => rfl
    | 2, _ => rfl
  simp [madeCells, Value.cells]
  simpa using hz (i % 3) h3
def trq (q : Bq) : Bq := ⟨q.b, q.a, q.f⟩
theorem nat_trq (L : List Bq) : nat (L.map trq) = trn (nat L) := by
  unfold nat trn
  rw [List.map_map, List.map_map]
  rfl
theorem okQ_trq (n : Int) (q : Bq) : okQ n (trq q) = okQ n q := by
  rw [Bool.eq_iff_iff, okQ_iff, okQ_iff]
  show 0 ≤ q.b ∧ q.b < n ∧ 0 ≤ q.a ∧ q.a < n ∧ -1048576 ≤ q.f ∧ q.f ≤ 1048576 ↔ _
  omega
theorem chk_trq (n : Int) (L : List Bq) : chk n (L.map trq) = chk n L := by
  unfold chk
  rw [List.length_map, List.all_map]
  have e : (okQ n ∘ trq) = okQ n := funext fun q => okQ_trq n q
  rw [e]
theorem BS.under {B : Nat} {w w' : World} {v : Value} {L : List Bq} (h : BS w v L) (hb : Below B w w') (hB : B = w.heap.size) : BS w' v L := by subst hB; exact h.below hb

set_option maxRecDepth 10000 in
set_option maxHeartbeats 4000000 in
theorem turned_any (L : List Bq) (v : Value) (w : World) (hv : BS w v L) (hL : L.length ≤ 4096) :
    Calls Try.prog 35 #[v] w fun e w' => ∃ u, e = .returned u ∧ Hid (OwB w.heap.size w' u (L.map trq) ∧ Below w.heap.size w w') := by
  obtain ⟨oa, cap, rfl, hc, hg⟩ := hv
  have HG : Hid (0 < L.length → ∃ g o, oa = some ⟨g, o, none⟩ ∧ g < w.heap.size ∧ ∀ i (h : i < L.length), BqAt w g (o + i * 3) L[i]) := hg
  have hmk := make_bounds L.length (by omega) w
  have H0 : Hid (OwB w.heap.size (w.alloc (.cells (flatQ (List.replicate L.length zQ)).toArray 39)) (.slice (some ⟨w.heap.size, 0, none⟩) L.length L.length) ((L.map trq).take 0 ++ List.replicate L.length zQ) ∧ Below w.heap.size w (w.alloc (.cells (flatQ (List.replicate L.length zQ)).toArray 39))) := by
    refine ⟨⟨by rw [flatQ_len], .inr ⟨w.heap.size, L.length, _, by simp, Nat.le_refl _, Bk.new _ _ _, by simp, by unfold maxLen; omega, by simp [flatQ_len], ?_⟩⟩, (Below.refl _ _).alloc (Nat.le_refl _) _⟩
    simp [List.take_of_length_le, flatQ_len]
  clear hg
  go_enter Try.func35, Try.ntmps35
  go_wp2_with fail
  generalize w.alloc (.cells (flatQ (List.replicate L.length zQ)).toArray 39) = W0 at *
  obtain ⟨b, Hb⟩ : ∃ b, Hid (b = w.heap.size) := ⟨w.heap.size, by unfold Hid; rfl⟩
  rw [← Hb.out]
  have H1 : Hid (OwB w.heap.size W0 (.slice (some ⟨b, 0, none⟩) L.length L.length) ((L.map trq).take 0 ++ List.replicate (L.length - 0) zQ) ∧ Below w.heap.size w W0) := by rw [Hb.out]; exact H0.out
  clear H0 hmk
  go_loopw [11] (fun i wr => ∃ k : Nat, i = .int .i64 k ∧ k ≤ L.length ∧ Hid (OwB w.heap.size wr (.slice (some ⟨b, 0, none⟩) L.length L.length) ((L.map trq).take k ++ List.replicate (L.length - k) zQ) ∧ Below w.heap.size w wr)) (fun i _ => L.length - (intOf i).toNat)
  case atStart => exact ⟨0, rfl, Nat.zero_le _, H1⟩
  case round =>
    obtain ⟨k, rfl, hk, HR⟩ := hrel
    clear H1
    by_cases hlt : k < L.length
    · have ik : (k : Int) < L.length := by omega
      obtain ⟨g, o, rfl, hgl, hat⟩ := HG.out (by omega)
      have hx := (hat k hlt).below HR.out.2 hgl
      obtain ⟨x0, x1, x2⟩ := hx
      have hlen : ((L.map trq).take k ++ List.replicate (L.length - k) zQ).length = L.length := by simp; omega
      have hown : ∀ X, Below wr.heap.size wr X → X.ownsRow w.heap.size 39 3 (.slice (some ⟨b, 0, none⟩) L.length L.length) L.length (flatQ ((L.map trq).take k ++ List.replicate (L.length - k) zQ)) := fun X hX => by
        have h := HR.out.1.below hX
        unfold OwB at h
        rw [hlen] at h
        exact h
      have hbl : b < wr.heap.size := by
        obtain ⟨_, _, e, _, h⟩ := row_val (hown wr (Below.refl _ _))
        obtain ⟨g', e2, _, h3⟩ := h (by omega)
        injection e with e
        rw [e2] at e
        injection e with e
        injection e with e
        subst e
        exact h3
      have hat' := flatQ_at ((L.map trq).take k ++ List.replicate (L.length - k) zQ) k (by omega)
      have q0 : ∃ z, wr.cell? ⟨b, k * 3, none⟩ = some z := ⟨_, (own_cell (hown wr (Below.refl _ _)) (k * 3) (by omega)).trans hat'.1⟩
      have q1 : ∃ z, wr.cell? ⟨b, k * 3 + 1, none⟩ = some z := ⟨_, (own_cell (hown wr (Below.refl _ _)) (k * 3 + 1) (by omega)).trans hat'.2.1⟩
      have q2 : ∃ z, wr.cell? ⟨b, k * 3 + 2, none⟩ = some z := ⟨_, (own_cell (hown wr (Below.refl _ _)) (k * 3 + 2) (by omega)).trans hat'.2.2⟩
      obtain ⟨z0, q0⟩ := q0
      obtain ⟨z1, q1⟩ := q1
      obtain ⟨z2, q2⟩ := q2
      have f0 := own_frozen (hown wr (Below.refl _ _)) (k * 3)
      have f1 := own_frozen (hown wr (Below.refl _ _)) (k * 3 + 1)
      have f2 := own_frozen (hown wr (Below.refl _ _)) (k * 3 + 2)
      have HN : Hid (OwB w.heap.size (((wr.setCell ⟨b, k * 3, none⟩ (.int .i64 L[k].b)).setCell ⟨b, k * 3 + 1, none⟩ (.int .i64 L[k].a)).setCell ⟨b, k * 3 + 2, none⟩ (.int .i64 L[k].f)) (.slice (some ⟨b, 0, none⟩) L.length L.length) ((L.map trq).take (k + 1) ++ List.replicate (L.length - (k + 1)) zQ) ∧ Below w.heap.size w (((wr.setCell ⟨b, k * 3, none⟩ (.int .i64 L[k].b)).setCell ⟨b, k * 3 + 1, none⟩ (.int .i64 L[k].a)).setCell ⟨b, k * 3 + 2, none⟩ (.int .i64 L[k].f))) := by
        have hlo : w.heap.size ≤ b := by rw [Hb.out]; exact Nat.le_refl _
        refine ⟨?_, ((HR.out.2.setCell (p := ⟨b, k * 3, none⟩) hlo _).setCell (p := ⟨b, k * 3 + 1, none⟩) hlo _).setCell (p := ⟨b, k * 3 + 2, none⟩) hlo _⟩
        have h := own_set (own_set (own_set (hown wr (Below.refl _ _)) (k * 3) (.int .i64 L[k].b)) (k * 3 + 1) (.int .i64 L[k].a)) (k * 3 + 2) (.int .i64 L[k].f)
        obtain ⟨m, hm⟩ : ∃ m, L.length - k = m + 1 := ⟨L.length - k - 1, by omega⟩
        have hkl : ((L.map trq).take k).length = k := by simp; omega
        have e := flatQ_put ((L.map trq).take k) zQ (trq L[k]) (List.replicate m zQ)
        rw [hkl] at e
        rw [hm, List.replicate_succ] at h
        have e' : (((flatQ ((L.map trq).take k ++ zQ :: List.replicate m zQ)).set (k * 3) (.int .i64 L[k].b)).set (k * 3 + 1) (.int .i64 L[k].a)).set (k * 3 + 2) (.int .i64 L[k].f) = flatQ ((L.map trq).take k ++ trq L[k] :: List.replicate m zQ) := e
        rw [e'] at h
        have e2 : (L.map trq).take (k + 1) ++ List.replicate (L.length - (k + 1)) zQ = (L.map trq).take k ++ trq L[k] :: List.replicate m zQ := by
          rw [← List.take_append_getElem (by simpa using hlt), List.getElem_map, List.append_assoc, show L.length - (k + 1) = m by omega]
          rfl
        unfold OwB
        rw [e2]
        have e3 : ((L.map trq).take k ++ trq L[k] :: List.replicate m zQ).length = L.length := by simp; omega
        rw [e3]
        exact h
      have HN2 : Hid (∀ o, OwB w.heap.size ((((wr.setCell ⟨b, k * 3, none⟩ (.int .i64 L[k].b)).setCell ⟨b, k * 3 + 1, none⟩ (.int .i64 L[k].a)).setCell ⟨b, k * 3 + 2, none⟩ (.int .i64 L[k].f)).alloc o) (.slice (some ⟨b, 0, none⟩) L.length L.length) ((L.map trq).take (k + 1) ++ List.replicate (L.length - (k + 1)) zQ) ∧ Below w.heap.size w ((((wr.setCell ⟨b, k * 3, none⟩ (.int .i64 L[k].b)).setCell ⟨b, k * 3 + 1, none⟩ (.int .i64 L[k].a)).setCell ⟨b, k * 3 + 2, none⟩ (.int .i64 L[k].f)).alloc o)) := fun o => ⟨HN.out.1.below ((Below.refl _ _).alloc (Nat.le_refl _) o), HN.out.2.alloc HN.out.2.size o⟩
      clear HR hat hown hat' hlen HN
      generalize L[k] = q at *
      have nb1 : ¬ b = wr.heap.size := by omega
      have nb2 : ¬ wr.heap.size = b := by omega
      go_wp2
      exact ⟨⟨k + 1, by go_num, by omega, HN2.out _⟩, by simp [intOf]; omega⟩
    · obtain rfl : k = L.length := by omega
      have HF : Hid (OwB w.heap.size wr (.slice (some ⟨b, 0, none⟩) L.length L.length) (L.map trq) ∧ Below w.heap.size w wr) := by
        have h := HR.out
        rw [Nat.sub_self, List.replicate_zero, List.append_nil, List.take_of_length_le (by simp)] at h
        exact h
      clear HR
      go_wp2
      go_ret
      exact ⟨_, rfl, HF⟩

end Go.Proofs.Ytjamkbhplejolaa
