/-
  The statements' own lent, kept, over, work.
-/
import Derived.Test.YtagkbpceiedikaaH7
import Derived.Test.YtagkbpceiedikaaGX
namespace Go.Proofs.Ytagkbpceiedikaa
open Go.RowKit Go.Shelf

def mark : Rc := ⟨777, 0, 0, 0⟩
/-- A list of one's own with a mark behind it; its block lies from lo up to hi. -/
def Lent (lo hi : Nat) (W : World) (v : Value) (rs : List Rc) : Prop := ∃ g cap, v = .slice (some ⟨g, 0, none⟩) rs.length cap ∧ W.ownsRow lo 35 4 (.slice (some ⟨g, 0, none⟩) (rs ++ [mark]).length cap) (rs ++ [mark]).length (flat (rs ++ [mark])) ∧ g < hi
theorem Lent.below {lo hi : Nat} {W W' : World} {v : Value} {rs : List Rc} (h : Lent lo hi W v rs) (hb : Below W.heap.size W W') : Lent lo hi W' v rs := by
  obtain ⟨g, cap, e, ho, hg⟩ := h
  exact ⟨g, cap, e, row_below ho hb, hg⟩
theorem Lent.lsr {lo hi : Nat} {W : World} {v : Value} {rs : List Rc} (h : Lent lo hi W v rs) : LsR W v rs ∧ NoNil v := by
  obtain ⟨g, cap, rfl, ho, _⟩ := h
  refine ⟨?_, fun c hc => by injection hc with h1 _ _; cases h1⟩
  obtain ⟨oa, cap', e, hc, hg⟩ := lsr_own ho
  obtain ⟨oa2, cap2, e2, hc2, _⟩ := row_val ho
  injection e2 with _ _ e3
  subst e3
  refine ⟨_, cap, rfl, by simp at hc2; omega, fun hp => ?_⟩
  obtain ⟨g', o, e1, hlt, hat⟩ := hg (by simp)
  injection e with e2 _ _
  rw [e1] at e2
  injection e2 with e2
  injection e2 with e3 e4 _
  subst e3 e4
  refine ⟨g, 0, rfl, hlt, fun i hi => ?_⟩
  have q := hat i (by simp; omega)
  rwa [List.getElem_append_left hi] at q
/-- A list that a call made; its block lies from lo up to hi. -/
def Rw (lo hi : Nat) (W : World) (v : Value) (F : List Rc) : Prop := W.ownsRow lo 35 4 v F.length (flat F) ∧ ∀ g, v.ownBlock = some g → g < hi
theorem Rw.below {lo hi : Nat} {W W' : World} {v : Value} {F : List Rc} (h : Rw lo hi W v F) (hb : Below W.heap.size W W') : Rw lo hi W' v F := ⟨row_below h.1 hb, h.2⟩
theorem Rw.lsr {lo hi : Nat} {W : World} {v : Value} {F : List Rc} (h : Rw lo hi W v F) : LsR W v F := lsr_own h.1
theorem rw_of {w w' : World} {v : Value} {F : List Rc} (h : w'.ownsRow w.heap.size 35 4 v F.length (flat F)) : Rw w.heap.size w'.heap.size w' v F := ⟨h, fun g hg => (h.lt g hg).2⟩
theorem Rw.kept {lo hi lo2 hi2 : Nat} {W W' : World} {u v : Value} {F G : List Rc} (h : Rw lo hi W u F) (k : Rw lo2 hi2 W v G) (hd : hi ≤ lo2 ∨ hi2 ≤ lo) (hg : W.grownBy W' v.ownBlock) : Rw lo hi W' u F := by
  refine ⟨h.1.kept hg ?_, h.2⟩
  cases e : u.ownBlock with
  | none => exact .inl rfl
  | some g =>
    refine .inr fun c => ?_
    have h1 := h.2 g e
    have h2 := (h.1.lt g e).1
    have h3 := k.2 g c.symm
    have h4 := (k.1.lt g c.symm).1
    omega
theorem Lent.kept {lo hi lo2 hi2 : Nat} {W W' : World} {u v : Value} {rs G : List Rc} (h : Lent lo hi W u rs) (k : Rw lo2 hi2 W v G) (hd : hi ≤ lo2) (hg : W.grownBy W' v.ownBlock) : Lent lo hi W' u rs := by
  obtain ⟨g, cap, e, ho, hlt⟩ := h
  refine ⟨g, cap, e, ho.kept hg (.inr fun c => ?_), hlt⟩
  have h4 := (k.1.lt g c.symm).1
  omega
theorem grow_below {B : Nat} {w W W' : World} {lo hi : Nat} {v : Value} {G : List Rc} (hb : Below B w W) (k : Rw lo hi W v G) (hB : B ≤ lo) (hs : B ≤ W.heap.size) (hg : W.grownBy W' v.ownBlock) : Below B w W' :=
  hb.grown hg hs fun g e => Nat.le_trans hB (k.1.lt g e).1
theorem grow_tr {w W W' : World} {r s : Option Nat} (h : w.grownBy W r) (k : W.grownBy W' s) (hs : s = r ∨ ∀ g, s = some g → w.heap.size ≤ g) : w.grownBy W' r := by
  refine ⟨k.os.trans h.os, k.tape.trans h.tape, k.output.trans h.output, Nat.le_trans h.size k.size, fun b hb hr => ?_⟩
  refine (k.block b (Nat.lt_of_lt_of_le hb h.size) ?_).trans (h.block b hb hr)
  intro c
  rcases hs with rfl | hs
  · exact hr c
  · have := hs b c.symm
    omega
theorem grow_set (w : World) (g o : Nat) (v : Value) : w.grownBy (w.setCell ⟨g, o, none⟩ v) (some g) :=
  ⟨rfl, rfl, rfl, ((Below.refl 0 w).setCell (p := ⟨g, o, none⟩) (Nat.zero_le _) v).size, fun b _ hb => Below.heap_setCell _ _ _ b (fun e => hb (by rw [e]))⟩


def wrkB (n : Nat) : Bool := (decide (40 < n) && decide (n ≤ 1024)) || decide (3000 < n)
set_option maxHeartbeats 1000000 in
theorem work_any (oa : Option Addr) (n cap : Nat) (w : World) : Calls Try.prog 19 #[.slice oa n cap] w fun e w' => e = .returned (.bool (wrkB n)) ∧ Below w.heap.size w w' := by
  unfold wrkB
  by_cases h1 : 40 < n
  · by_cases h2 : n ≤ 1024
    · have j1 : (40 : Int) < n := by omega
      have j2 : (n : Int) ≤ 1024 := by omega
      have HR : Hid ((decide (40 < n) && decide (n ≤ 1024) || decide (3000 < n)) = true) := by unfold Hid; simp [h1, h2]
      rw [HR.out]
      clear h1 h2
      go_enter Try.func19, Try.ntmps19
      go_wp2
      go_ret
      exact ⟨rfl, Below.refl _ _⟩
    · have j1 : (40 : Int) < n := by omega
      have j2 : ¬ (n : Int) ≤ 1024 := by omega
      have HR : Hid ((decide (40 < n) && decide (n ≤ 1024) || decide (3000 < n)) = decide ((3000 : Int) < n)) := by
        unfold Hid
        rw [decide_eq_false h2, Bool.and_false, Bool.false_or]
        exact decide_eq_decide.2 (by omega)
      rw [HR.out]
      clear h1 h2
      go_enter Try.func19, Try.ntmps19
      go_wp2
      go_ret
      exact ⟨rfl, Below.refl _ _⟩
  · have j1 : ¬ (40 : Int) < n := by omega
    have HR : Hid ((decide (40 < n) && decide (n ≤ 1024) || decide (3000 < n)) = decide ((3000 : Int) < n)) := by
      unfold Hid
      rw [decide_eq_false h1, Bool.false_and, Bool.false_or]
      exact decide_eq_decide.2 (by omega)
    rw [HR.out]
    clear h1
    go_enter Try.func19, Try.ntmps19
    go_wp2
    go_ret
    exact ⟨rfl, Below.refl _ _⟩

/-- A list that lies somewhere laid behind no list. -/
theorem app_first {P : Program} {w : World} {ops : Array Oper} {rest : List Oper} {o : Oper} {a : Act} {Q : Exit → Act → World → Prop} (hgd : o.guard = none) (s x : Operand)
    (ho : o.op = .call { callee := .builtin .append, args := #[s, x], argTypes := #[23, 23] })
    (i : TypeInfo) (ht : P.underlying 23 = some (.slice 35)) (hi : P.info? 35 = some i) (hz : i.zero = some (.agg #[.int .i64 0, .int .i64 0, .int .i64 0, .int .i64 0]))
    (hsize : i.size = 4) (hby : i.bytes = 32) (hs : a.eval s = .slice none 0 0) (rs : List Rc) (oa : Option Addr) (cap : Nat) (hx : a.eval x = .slice oa rs.length cap) (hv : LsR w (.slice oa rs.length cap) rs) (hn : NoNil (.slice oa rs.length cap))
    (hl : rs.length ≤ 100000) (h : ∀ v' w', Hid (w'.ownsRow w.heap.size 35 4 v' rs.length (flat rs) ∧ Below w.heap.size w w') → wpList P ops Q rest (a.put o.dst v') w') : wpList P ops Q (o :: rest) a w := by
  have hown : w.ownsRow w.heap.size 35 4 (.slice none 0 0) 0 [] := World.ownsRow_nil _ _ _ _
  cases oa with
  | none =>
    have h0 : rs = [] := by
      obtain ⟨oa, cap', e, _, hg⟩ := hv
      cases rs with
      | nil => rfl
      | cons r t =>
        obtain ⟨g, o, e2, _⟩ := hg (by simp)
        injection e with e1 _ _
        rw [e2] at e1
        cases e1
    subst h0
    obtain rfl : cap = 0 := hn cap rfl
    refine app_none hgd s x _ ho w.heap.size 35 i 4 ht hi (.slice none 0 0) 0 [] hs hown hx ?_
    rintro _ _ rfl rfl
    exact h _ _ ⟨hown, Below.refl _ _⟩
  | some ad =>
    refine wpList_append_own _ hgd s x _ ho w.heap.size 35 i (.agg #[.int .i64 0, .int .i64 0, .int .i64 0, .int .i64 0]) 4 32 ht hi hz hsize hby rfl (by decide) (.slice none 0 0) 0 [] hs hown ad rs.length cap (flat rs) hx (flat_len rs) ?_ (flat_ones rs) (by unfold maxLen; omega) (by omega) (Nat.le_refl _) ?_
    · intro j u hj
      obtain ⟨oa, cap', e, _, hg⟩ := hv
      have hp : 0 < rs.length := by
        cases rs with
        | nil => simp [flat] at hj
        | cons r t => simp
      obtain ⟨g, o, e2, _, hat⟩ := hg hp
      injection e with e1 _ _
      rw [e2] at e1
      injection e1 with e1
      subst e1
      exact lsr_src hat j u hj
    · intro v' w' h2 h3 _
      rw [Nat.zero_add, List.nil_append] at h2
      exact h v' w' ⟨h2, (Below.refl _ w).grown h3 (Nat.le_refl _) (fun g e => by cases e)⟩

set_option maxHeartbeats 2000000 in
theorem lent_any (rs : List Rc) (v : Value) (w : World) (hv : LsR w v rs) (hn : NoNil v) (hl : rs.length ≤ 3000) :
    Calls Try.prog 20 #[v] w fun e w' => ∃ u, e = .returned u ∧ Lent w.heap.size w'.heap.size w' u rs ∧ Below w.heap.size w w' := by
  obtain ⟨oa, cap, rfl, hc, _⟩ := id hv
  obtain ⟨i0, hi, hz0, hz1, hz2⟩ := info_parts info_rect
  have HI : Hid (Try.prog.info? 35 = some i0 ∧ i0.zero = some (.agg #[.int .i64 0, .int .i64 0, .int .i64 0, .int .i64 0]) ∧ i0.size = 4 ∧ i0.bytes = 32) := ⟨hi, hz0, hz1, hz2⟩
  have HV : Hid (LsR w (.slice oa rs.length cap) rs ∧ NoNil (.slice oa rs.length cap)) := ⟨hv, hn⟩
  clear hv hn
  go_enter Try.func20, Try.ntmps20
  go_wp2_with (at_builtin; refine app_first rfl _ _ rfl i0 Try.underlying23 hi hz0 hz1 hz2 rfl rs oa cap rfl HV.out.1 HV.out.2 (by omega) ?_)
  intro v1 w1 H1
  have hc3 : Hid (rs.length + 1 ≤ maxLen) := by unfold Hid maxLen; omega
  have hc4 : Hid ((rs.length + 1) * 32 ≤ 140737488355328) := by unfold Hid; omega
  have HA : Hid (∀ o, (w1.alloc o).ownsRow w.heap.size 35 4 v1 rs.length (flat rs) ∧ Below w.heap.size w (w1.alloc o)) := fun o => ⟨row_below H1.out.1 ((Below.refl _ _).alloc (Nat.le_refl _) _), H1.out.2.alloc H1.out.2.size _⟩
  go_wp2_with (at_builtin; refine wpList_append_own _ rfl _ _ 23 rfl w.heap.size 35 i0 (.agg #[.int .i64 0, .int .i64 0, .int .i64 0, .int .i64 0]) 4 32 Try.underlying23 hi hz0 hz1 hz2 rfl (by decide) v1 rs.length (flat rs) rfl (HA.out _).1 _ 1 1 [.int .i64 777, .int .i64 0, .int .i64 0, .int .i64 0] rfl rfl (cell_fourB _ _ _ _ _ _ _ rfl) (one4 ⟨777, 0, 0, 0⟩) hc3.out hc4.out (HA.out _).2.size ?_)
  intro v2 w2 hown hgrow hnil
  have hown2 : w2.ownsRow w.heap.size 35 4 v2 (rs ++ [mark]).length (flat (rs ++ [mark])) := by rw [flat_app, List.length_append]; exact hown
  have hb2 := app_below (HA.out _).2 (HA.out _).1 (Nat.le_refl _) hgrow
  obtain ⟨o2, c2, rfl, hc2, hg2⟩ := row_val hown2
  obtain ⟨g, rfl, hg3, hg4⟩ := hg2 (by simp)
  have HF : Hid (Lent w.heap.size w2.heap.size w2 (.slice (some ⟨g, 0, none⟩) rs.length c2) rs ∧ Below w.heap.size w w2) := ⟨⟨g, c2, rfl, hown2, hg4⟩, hb2⟩
  have hlen : (rs ++ [mark]).length = rs.length + 1 := by simp
  rw [hlen] at hc2 ⊢
  clear hown hgrow hnil hown2 hb2 hg2 hg3 hg4 hlen hi hz0 hz1 hz2 HA H1 HV
  go_wp2
  go_ret
  exact ⟨_, rfl, HF.out⟩

set_option maxHeartbeats 2000000 in
theorem keptL_any (lo hi : Nat) (rs : List Rc) (x v : Value) (w : World) (hx : Lent lo hi w x rs) (hv : LsR w v rs) (hl : rs.length ≤ 3000) :
    Calls Try.prog 28 #[x, v] w fun e w' => e = .returned (.bool true) ∧ Below w.heap.size w w' := by
  have q := sameL_any rs rs x v w hx.lsr.1 hv (by omega)
  rw [(sameB_iff rs rs).2 rfl] at q
  have HS : Hid (Calls Try.prog 51 #[x, v] w fun e w' => e = .returned (.bool true) ∧ Below w.heap.size w w') := q
  obtain ⟨oa, cap, rfl, hc, _⟩ := id hv
  have HX : Hid (Lent lo hi w x rs) := hx
  obtain ⟨g, c2, rfl, ho, hg⟩ := id hx
  obtain ⟨o2, c3, e, hc3, hg3⟩ := row_val ho
  injection e with e1 _ e3
  subst e3
  obtain ⟨g', e4, _, hgl⟩ := hg3 (by simp)
  rw [e4] at e1
  injection e1 with e1
  injection e1 with e1 _ _
  subst e1
  have hcel : w.cell? ⟨g, rs.length * 4, none⟩ = some (.int .i64 777) := by
    rw [own_cell ho (rs.length * 4) (by simp)]
    have := (flat_at (rs ++ [mark]) rs.length (by simp)).1
    rw [this]
    simp [mark]
  have hlen : (rs ++ [mark]).length = rs.length + 1 := by simp
  rw [hlen] at hc3
  clear q ho hx hv hg3 e4 hlen
  go_enter Try.func28, Try.ntmps28
  go_wp2_with fail
  refine HS.out.mono ?_
  rintro e w1 ⟨rfl, hb1⟩
  have H1 : Hid (Below w.heap.size w w1) := hb1
  have hcel1 : w1.cell? ⟨g, rs.length * 4, none⟩ = some (.int .i64 777) := (hb1.cell (p := ⟨g, rs.length * 4, none⟩) hgl).trans hcel
  clear hb1 hcel
  go_wp2
  go_ret
  exact ⟨rfl, H1.out⟩

theorem flat_put4 (l : List Rc) (r q : Rc) (t : List Rc) : ((((flat (l ++ r :: t)).set (l.length * 4) (.int .i64 q.x)).set (l.length * 4 + 1) (.int .i64 q.y)).set (l.length * 4 + 2) (.int .i64 q.w)).set (l.length * 4 + 3) (.int .i64 q.h) = flat (l ++ q :: t) := by
  rw [flat_app, flat_app, List.set_append_right _ _ (by rw [flat_len]; exact Nat.le_refl _), List.set_append_right _ _ (by rw [flat_len]; omega), List.set_append_right _ _ (by rw [flat_len]; omega), List.set_append_right _ _ (by rw [flat_len]; omega), flat_len]
  congr 1
  show ((((cel r ++ flat t).set (l.length * 4 - l.length * 4) _).set (l.length * 4 + 1 - l.length * 4) _).set (l.length * 4 + 2 - l.length * 4) _).set (l.length * 4 + 3 - l.length * 4) _ = cel q ++ flat t
  rw [Nat.sub_self, Nat.add_sub_cancel_left, Nat.add_sub_cancel_left, Nat.add_sub_cancel_left]
  rfl
/-- A row of so many rectangles, whatever they are, that has grown out of a list's block. -/
def OvI (W : World) (r : Option Nat) (lo n : Nat) (v : Value) (wr : World) : Prop := ∃ L : List Rc, L.length = n ∧ wr.ownsRow lo 35 4 v L.length (flat L) ∧ W.grownBy wr r ∧ (v.ownBlock = r ∨ ∀ g, v.ownBlock = some g → W.heap.size ≤ g)
theorem split_at {L : List Rc} {k : Nat} (h : k < L.length) : ∃ l r t, L = l ++ r :: t ∧ l.length = k := by
  refine ⟨L.take k, L[k], L.drop (k + 1), ?_, by rw [List.length_take]; omega⟩
  rw [← List.drop_eq_getElem_cons h, List.take_append_drop]

set_option maxRecDepth 10000 in
set_option maxHeartbeats 4000000 in
theorem over_any (lo : Nat) (F : List Rc) (v : Value) (w : World) (ho : w.ownsRow lo 35 4 v F.length (flat F)) (hlo : lo ≤ w.heap.size) (hl : F.length ≤ 3000) :
    Calls Try.prog 27 #[v] w fun e w' => e = .returned (.tuple #[]) ∧ w.grownBy w' v.ownBlock := by
  obtain ⟨oa, cap, rfl, hc, hg⟩ := row_val ho
  obtain ⟨i0, hi, hz0, hz1, hz2⟩ := info_parts info_rect
  have HI : Hid (Try.prog.info? 35 = some i0 ∧ i0.zero = some (.agg #[.int .i64 0, .int .i64 0, .int .i64 0, .int .i64 0]) ∧ i0.size = 4 ∧ i0.bytes = 32) := ⟨hi, hz0, hz1, hz2⟩
  have HG : Hid (0 < F.length → ∃ g, oa = some ⟨g, 0, none⟩ ∧ lo ≤ g ∧ g < w.heap.size) := hg
  obtain ⟨ob, hob⟩ : ∃ ob, ob = (Value.slice oa F.length cap).ownBlock := ⟨_, rfl⟩
  have H0 : Hid (OvI w ob lo F.length (.slice oa F.length cap) w) := ⟨F, rfl, ho, World.grownBy.refl _ _, .inl hob.symm⟩
  have HOB : Hid (ob = (Value.slice oa F.length cap).ownBlock) := hob
  rw [← hob]
  clear hob ho hg hi hz0 hz1 hz2
  generalize F.length = n at *
  go_enter Try.func27, Try.ntmps27
  go_wp2_with fail
  go_loopw [2] (fun i wr => ∃ k : Nat, i = .int .i64 k ∧ k ≤ n ∧ Hid (OvI w ob lo n (.slice oa n cap) wr)) (fun i _ => n - (intOf i).toNat)
  case atStart => exact ⟨0, rfl, Nat.zero_le _, H0⟩
  case round =>
    obtain ⟨k, rfl, hk, HR⟩ := hrel
    by_cases hlt : k < n
    · have ik : (k : Int) < n := by omega
      obtain ⟨g, rfl, hg1, hg2⟩ := HG.out (by omega)
      have hob : ob = some g := HOB.out
      obtain ⟨L, hL, hown, hgr, _⟩ := HR.out
      have hown' : wr.ownsRow lo 35 4 (.slice (some ⟨g, 0, none⟩) n cap) n (flat L) := by rw [hL] at hown; exact hown
      have c0 : ∃ z, wr.cell? ⟨g, k * 4, none⟩ = some z := ⟨_, (own_cell hown' (k * 4) (by omega)).trans (flat_at L k (by omega)).1⟩
      have c1 : ∃ z, wr.cell? ⟨g, k * 4 + 1, none⟩ = some z := ⟨_, (own_cell hown' (k * 4 + 1) (by omega)).trans (flat_at L k (by omega)).2.1⟩
      have c2 : ∃ z, wr.cell? ⟨g, k * 4 + 2, none⟩ = some z := ⟨_, (own_cell hown' (k * 4 + 2) (by omega)).trans (flat_at L k (by omega)).2.2.1⟩
      have c3 : ∃ z, wr.cell? ⟨g, k * 4 + 3, none⟩ = some z := ⟨_, (own_cell hown' (k * 4 + 3) (by omega)).trans (flat_at L k (by omega)).2.2.2⟩
      obtain ⟨z0, c0⟩ := c0
      obtain ⟨z1, c1⟩ := c1
      obtain ⟨z2, c2⟩ := c2
      obtain ⟨z3, c3⟩ := c3
      have f0 := own_frozen hown' (k * 4)
      have f1 := own_frozen hown' (k * 4 + 1)
      have f2 := own_frozen hown' (k * 4 + 2)
      have f3 := own_frozen hown' (k * 4 + 3)
      have HRel : Hid (OvI w ob lo n (.slice (some ⟨g, 0, none⟩) n cap) ((((wr.setCell ⟨g, k * 4, none⟩ (.int .i64 999)).setCell ⟨g, k * 4 + 1, none⟩ (.int .i64 0)).setCell ⟨g, k * 4 + 2, none⟩ (.int .i64 0)).setCell ⟨g, k * 4 + 3, none⟩ (.int .i64 0))) := by
        obtain ⟨l, r, t, rfl, hlk⟩ := split_at (show k < L.length by omega)
        refine ⟨l ++ ⟨999, 0, 0, 0⟩ :: t, by rw [← hL]; simp, ?_, ?_, .inl hob.symm⟩
        · have q := own_set (own_set (own_set (own_set hown' (k * 4) (.int .i64 999)) (k * 4 + 1) (.int .i64 0)) (k * 4 + 2) (.int .i64 0)) (k * 4 + 3) (.int .i64 0)
          have r := flat_put4 l r ⟨999, 0, 0, 0⟩ t
          rw [hlk] at r
          rw [r] at q
          have e : (l ++ ⟨999, 0, 0, 0⟩ :: t).length = n := by rw [← hL]; simp
          rw [e]
          exact q
        · rw [hob] at hgr ⊢
          exact grow_tr (grow_tr (grow_tr (grow_tr hgr (grow_set _ _ _ _) (.inl rfl)) (grow_set _ _ _ _) (.inl rfl)) (grow_set _ _ _ _) (.inl rfl)) (grow_set _ _ _ _) (.inl rfl)
      clear hown hown' hgr hob HR
      go_wp2
      exact ⟨⟨k + 1, by go_num, by omega, HRel⟩, by simp [intOf]; omega⟩
    · have ik : ¬ (k : Int) < n := by omega
      have HQ : Hid (OvI w ob lo n (.slice oa n cap) wr) := HR
      clear HR
      go_wp2_with fail
      go_loopw [0, 3] (fun v i wr => ∃ m : Nat, i = .int .i64 m ∧ m ≤ 9 ∧ Hid (OvI w ob lo (n + m) v wr)) (fun _ i _ => 9 - (intOf i).toNat)
      case atStart => exact ⟨0, rfl, Nat.zero_le _, HQ⟩
      case round =>
        obtain ⟨m, rfl, hm, HM⟩ := hrel
        by_cases hm9 : m < 9
        · have im : (m : Int) < 9 := by omega
          obtain ⟨L, hL, hown, hgr, hor⟩ := HM.out
          obtain ⟨hi, hz0, hz1, hz2⟩ := HI.out
          have hls : lo ≤ wr.heap.size := Nat.le_trans hlo hgr.size
          have hc3 : Hid (L.length + 1 ≤ maxLen) := by unfold Hid maxLen; omega
          have hc4 : Hid ((L.length + 1) * 32 ≤ 140737488355328) := by unfold Hid; omega
          have HA : Hid (∀ o, (wr.alloc o).ownsRow lo 35 4 u0 L.length (flat L) ∧ lo ≤ (wr.alloc o).heap.size) := fun o => ⟨row_below hown ((Below.refl _ _).alloc (Nat.le_refl _) _), by simp; omega⟩
          have HB : Hid (w.grownBy wr ob ∧ (u0.ownBlock = ob ∨ ∀ g, u0.ownBlock = some g → w.heap.size ≤ g) ∧ L.length = n + m) := ⟨hgr, hor, hL⟩
          clear hown hgr hor hL hls HM
          go_wp2_with (at_builtin; refine wpList_append_lies _ rfl _ _ 23 rfl lo 35 i0 (.agg #[.int .i64 0, .int .i64 0, .int .i64 0, .int .i64 0]) 4 32 Try.underlying23 hi hz0 hz1 hz2 rfl (by decide) u0 L.length (flat L) rfl (HA.out _).1 _ 1 1 [.int .i64 998, .int .i64 0, .int .i64 0, .int .i64 0] rfl rfl (cell_fourB _ _ _ _ _ _ _ rfl) (one4 ⟨998, 0, 0, 0⟩) (by decide) hc3.out hc4.out (HA.out _).2 _ rfl ?_)
          intro g4 cap4 w4 hown' hgrow hlies _
          have HRel : Hid (OvI w ob lo (n + (m + 1)) (.slice (some ⟨g4, 0, none⟩) (L.length + 1) cap4) w4) := by
            have hg1 : w.grownBy w4 ob := grow_tr (grow_tr HB.out.1 (World.grownBy_alloc wr _ none) (.inr fun g e => by cases e)) hgrow HB.out.2.1
            refine ⟨L ++ [⟨998, 0, 0, 0⟩], by rw [List.length_append, HB.out.2.2]; rfl, by rw [flat_app, List.length_append]; exact hown', hg1, ?_⟩
            rcases hlies with h | h
            · rcases HB.out.2.1 with k | k
              · exact .inl (by rw [← k, h]; rfl)
              · refine .inr fun g e => ?_
                refine k g ?_
                rw [h]
                exact e
            · refine .inr fun g e => ?_
              simp [Value.ownBlock] at e
              have := HB.out.1.size
              rw [← e, h]
              simp
              omega
          clear hown' hgrow hlies hi hz0 hz1 hz2
          go_wp2
          exact ⟨⟨m + 1, by go_num, by omega, HRel⟩, by simp [intOf]; omega⟩
        · have im : ¬ (m : Int) < 9 := by omega
          have HF : Hid (w.grownBy wr ob) := by obtain ⟨_, _, _, h, _⟩ := HM.out; exact h
          clear HM
          go_wp2
          go_end0
          exact ⟨rfl, HF.out⟩

end Go.Proofs.Ytagkbpceiedikaa
