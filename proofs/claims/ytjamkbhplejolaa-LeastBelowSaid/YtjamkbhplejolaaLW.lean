/-
  The statements' own lent, kept, spoil.
-/
import Derived.Test.YtjamkbhplejolaaLI
namespace Go.Proofs.Ytjamkbhplejolaa
open Go.RowKit

def markQ : Bq := ⟨77, 0, 0⟩
/-- Bounds of one's own with a mark behind them; their block lies from lo up to hi. -/
def Lent (lo hi : Nat) (W : World) (v : Value) (L : List Bq) : Prop := ∃ g cap, v = .slice (some ⟨g, 0, none⟩) L.length cap ∧ W.ownsRow lo 39 3 (.slice (some ⟨g, 0, none⟩) (L ++ [markQ]).length cap) (L ++ [markQ]).length (flatQ (L ++ [markQ])) ∧ g < hi
theorem Lent.below {lo hi : Nat} {W W' : World} {v : Value} {L : List Bq} (h : Lent lo hi W v L) (hb : Below W.heap.size W W') : Lent lo hi W' v L := by
  obtain ⟨g, cap, e, ho, hg⟩ := h
  exact ⟨g, cap, e, row_below ho hb, hg⟩
theorem Lent.bs {lo hi : Nat} {W : World} {v : Value} {L : List Bq} (h : Lent lo hi W v L) : BS W v L := by
  obtain ⟨g, cap, rfl, ho, _⟩ := h
  obtain ⟨oa, cap', e, hc, hg⟩ := OwB.bs ho
  injection e with e1 _ e3
  subst e3
  have hl : (L ++ [markQ]).length = L.length + 1 := by simp
  refine ⟨_, cap, rfl, by omega, fun hp => ?_⟩
  obtain ⟨g', o, e4, hlt, hat⟩ := hg (by omega)
  rw [← e1] at e4
  injection e4 with e4
  injection e4 with e5 e6 _
  subst e5 e6
  refine ⟨g, 0, rfl, hlt, fun i hi => ?_⟩
  have q := hat i (by omega)
  rwa [List.getElem_append_left hi] at q
/-- Numbers that a call made; their block lies from lo up to hi. -/
def RwI (lo hi : Nat) (W : World) (v : Value) (xs : List Int) : Prop := OwI lo W v xs ∧ ∀ g, v.ownBlock = some g → g < hi
theorem RwI.below {lo hi : Nat} {W W' : World} {v : Value} {xs : List Int} (h : RwI lo hi W v xs) (hb : Below W.heap.size W W') : RwI lo hi W' v xs := ⟨h.1.below hb, h.2⟩
theorem rwi_of {w w' : World} {v : Value} {xs : List Int} (h : OwI w.heap.size w' v xs) : RwI w.heap.size w'.heap.size w' v xs := ⟨h, fun g hg => (row_lt h g hg).2⟩
theorem RwI.kept {lo hi lo2 hi2 : Nat} {W W' : World} {u v : Value} {xs ys : List Int} (h : RwI lo hi W u xs) (k : RwI lo2 hi2 W v ys) (hd : hi ≤ lo2 ∨ hi2 ≤ lo) (hg : W.grownBy W' v.ownBlock) : RwI lo hi W' u xs := by
  refine ⟨World.ownsRow.kept h.1 hg ?_, h.2⟩
  cases e : u.ownBlock with
  | none => exact .inl rfl
  | some g =>
    refine .inr fun c => ?_
    have h1 := h.2 g e
    have h2 := (row_lt h.1 g e).1
    have h3 := k.2 g c.symm
    have h4 := (row_lt k.1 g c.symm).1
    omega
theorem Lent.kept {lo hi lo2 hi2 : Nat} {W W' : World} {u v : Value} {L : List Bq} {ys : List Int} (h : Lent lo hi W u L) (k : RwI lo2 hi2 W v ys) (hd : hi ≤ lo2) (hg : W.grownBy W' v.ownBlock) : Lent lo hi W' u L := by
  obtain ⟨g, cap, e, ho, hlt⟩ := h
  refine ⟨g, cap, e, World.ownsRow.kept ho hg (.inr fun c => ?_), hlt⟩
  have h4 := (row_lt k.1 g c.symm).1
  omega
theorem grow_belowI {B : Nat} {w W W' : World} {lo hi : Nat} {v : Value} {ys : List Int} (hb : Below B w W) (k : RwI lo hi W v ys) (hB : B ≤ lo) (hs : B ≤ W.heap.size) (hg : W.grownBy W' v.ownBlock) : Below B w W' :=
  hb.grown hg hs fun g e => Nat.le_trans hB (row_lt k.1 g e).1
theorem neq_bound (a b c x y z : Int) (w : World) : (binOp .neq 39 (.agg #[.int .i64 a, .int .i64 b, .int .i64 c]) (.agg #[.int .i64 x, .int .i64 y, .int .i64 z])).run Try.prog w = .ok (.bool (!((a == x) && ((b == y) && (c == z))))) w := by
  have h : ∀ p q : Int, (p == q) = decide (p = q) := fun p q => by rw [Bool.eq_iff_iff]; simp
  by_cases h1 : a = x <;> by_cases h2 : b = y <;> by_cases h3 : c = z <;> simp [go_sem, h, h1, h2, h3]
theorem eql_bound (a b c x y z : Int) (w : World) : (binOp .eql 39 (.agg #[.int .i64 a, .int .i64 b, .int .i64 c]) (.agg #[.int .i64 x, .int .i64 y, .int .i64 z])).run Try.prog w = .ok (.bool ((a == x) && ((b == y) && (c == z)))) w := by
  have h : ∀ p q : Int, (p == q) = decide (p = q) := fun p q => by rw [Bool.eq_iff_iff]; simp
  by_cases h1 : a = x <;> by_cases h2 : b = y <;> by_cases h3 : c = z <;> simp [go_sem, h, h1, h2, h3]
theorem cell_three (w : World) (x y z : Value) (t : TypeId) (b : Nat) (h : b = w.heap.size) : ∀ (j : Nat) (u : Value), [x, y, z][j]? = some u → (w.alloc (.cells #[x, y, z] t)).cell? ((⟨b, 0, none⟩ : Addr).add j) = some u := by
  subst h
  exact cell_bk3 (Bk.new w #[x, y, z] t)

/-- A list of bounds laid behind no list. -/
theorem app_firstQ {P : Program} {w : World} {ops : Array Oper} {rest : List Oper} {o : Oper} {a : Act} {Q : Exit → Act → World → Prop} (hgd : o.guard = none) (s x : Operand)
    (ho : o.op = .call { callee := .builtin .append, args := #[s, x], argTypes := #[22, 22] })
    (i : TypeInfo) (ht : P.underlying 22 = some (.slice 39)) (hi : P.info? 39 = some i) (hz : i.zero = some (.agg #[.int .i64 0, .int .i64 0, .int .i64 0]))
    (hsize : i.size = 3) (hby : i.bytes = 24) (hs : a.eval s = .slice none 0 0) (L : List Bq) (oa : Option Addr) (cap : Nat) (hx : a.eval x = .slice oa L.length cap) (hv : BS w (.slice oa L.length cap) L) (hn : NoNil (.slice oa L.length cap))
    (hl : L.length ≤ 2000000) (h : ∀ v' w', Hid (w'.ownsRow w.heap.size 39 3 v' L.length (flatQ L) ∧ Below w.heap.size w w') → wpList P ops Q rest (a.put o.dst v') w') : wpList P ops Q (o :: rest) a w := by
  have hown : w.ownsRow w.heap.size 39 3 (.slice none 0 0) 0 [] := World.ownsRow_nil _ _ _ _
  cases oa with
  | none =>
    have h0 : L = [] := by
      obtain ⟨oa, cap', e, _, hg⟩ := hv
      cases L with
      | nil => rfl
      | cons r t =>
        obtain ⟨g, o, e2, _⟩ := hg (by simp)
        injection e with e1 _ _
        rw [e2] at e1
        cases e1
    subst h0
    obtain rfl : cap = 0 := hn cap rfl
    refine app_none hgd s x _ ho w.heap.size 39 i 3 ht hi (.slice none 0 0) 0 [] hs hown hx ?_
    rintro _ _ rfl rfl
    exact h _ _ ⟨hown, Below.refl _ _⟩
  | some ad =>
    refine wpList_append_own _ hgd s x _ ho w.heap.size 39 i (.agg #[.int .i64 0, .int .i64 0, .int .i64 0]) 3 24 ht hi hz hsize hby rfl (by decide) (.slice none 0 0) 0 [] hs hown ad L.length cap (flatQ L) hx (flatQ_len L) ?_ (flatQ_ones L) (by unfold maxLen; omega) (by omega) (Nat.le_refl _) ?_
    · intro j u hj
      obtain ⟨oa, cap', e, _, hg⟩ := hv
      have hp : 0 < L.length := by
        cases L with
        | nil => simp [flatQ] at hj
        | cons r t => simp
      obtain ⟨g, o, e2, _, hat⟩ := hg hp
      injection e with e1 _ _
      rw [e2] at e1
      injection e1 with e1
      subst e1
      exact bs_src hat j u hj
    · intro v' w' h2 h3 _
      rw [Nat.zero_add, List.nil_append] at h2
      exact h v' w' ⟨h2, (Below.refl _ w).grown h3 (Nat.le_refl _) (fun g e => by cases e)⟩

set_option maxHeartbeats 2000000 in
theorem lent_any (L : List Bq) (v : Value) (w : World) (hv : BS w v L) (hn : NoNil v) (hl : L.length ≤ 1100000) :
    Calls Try.prog 11 #[v] w fun e w' => ∃ u, e = .returned u ∧ Lent w.heap.size w'.heap.size w' u L ∧ Below w.heap.size w w' := by
  obtain ⟨oa, cap, rfl, hc, _⟩ := id hv
  obtain ⟨i0, hi, hz0, hz1, hz2⟩ := info_parts info_bound
  have HV : Hid (BS w (.slice oa L.length cap) L ∧ NoNil (.slice oa L.length cap)) := ⟨hv, hn⟩
  clear hv hn
  go_enter Try.func11, Try.ntmps11
  go_wp2_with (at_builtin; refine app_firstQ rfl _ _ rfl i0 Try.underlying22 hi hz0 hz1 hz2 rfl L oa cap rfl HV.out.1 HV.out.2 (by omega) ?_)
  intro v1 w1 H1
  have hc3 : Hid (L.length + 1 ≤ maxLen) := by unfold Hid maxLen; omega
  have hc4 : Hid ((L.length + 1) * 24 ≤ 140737488355328) := by unfold Hid; omega
  have HA : Hid (∀ o, (w1.alloc o).ownsRow w.heap.size 39 3 v1 L.length (flatQ L) ∧ Below w.heap.size w (w1.alloc o)) := fun o => ⟨row_below H1.out.1 ((Below.refl _ _).alloc (Nat.le_refl _) _), H1.out.2.alloc H1.out.2.size _⟩
  go_wp2_with (at_builtin; refine wpList_append_own _ rfl _ _ 22 rfl w.heap.size 39 i0 (.agg #[.int .i64 0, .int .i64 0, .int .i64 0]) 3 24 Try.underlying22 hi hz0 hz1 hz2 rfl (by decide) v1 L.length (flatQ L) rfl (HA.out _).1 _ 1 1 [.int .i64 77, .int .i64 0, .int .i64 0] rfl rfl (cell_three _ _ _ _ _ _ rfl) (one3 _ _ _) hc3.out hc4.out (HA.out _).2.size ?_)
  intro v2 w2 hown hgrow hnil
  have hown2 : w2.ownsRow w.heap.size 39 3 v2 (L ++ [markQ]).length (flatQ (L ++ [markQ])) := by rw [flatQ_app, List.length_append]; exact hown
  have hb2 := app_below (HA.out _).2 (HA.out _).1 (Nat.le_refl _) hgrow
  obtain ⟨o2, c2, rfl, hc2, hg2⟩ := row_val hown2
  obtain ⟨g, rfl, hg3, hg4⟩ := hg2 (by simp)
  have HF : Hid (Lent w.heap.size w2.heap.size w2 (.slice (some ⟨g, 0, none⟩) L.length c2) L ∧ Below w.heap.size w w2) := ⟨⟨g, c2, rfl, hown2, hg4⟩, hb2⟩
  have hlen : (L ++ [markQ]).length = L.length + 1 := by simp
  rw [hlen] at hc2 ⊢
  clear hown hgrow hnil hown2 hb2 hg2 hg3 hg4 hlen hi hz0 hz1 hz2 HA H1 HV
  go_wp2
  go_ret
  exact ⟨_, rfl, HF.out⟩

set_option maxRecDepth 10000 in
set_option maxHeartbeats 4000000 in
theorem keptQ_any (lo hi : Nat) (L : List Bq) (x v : Value) (w : World) (hx : Lent lo hi w x L) (hv : BS w v L) (hl : L.length ≤ 1100000) :
    Calls Try.prog 20 #[x, v] w fun e w' => e = .returned (.bool true) ∧ Below w.heap.size w w' := by
  have hxb := hx.bs
  obtain ⟨oa, cap, rfl, hc, hg⟩ := hv
  have HG : Hid (0 < L.length → ∃ g o, oa = some ⟨g, o, none⟩ ∧ g < w.heap.size ∧ ∀ i (h : i < L.length), BqAt w g (o + i * 3) L[i]) := hg
  obtain ⟨gx, cx, rfl, ho, hgx⟩ := hx
  obtain ⟨ox', cx', ex, hcx, hgg⟩ := hxb
  injection ex with ex1 _ ex3
  subst ex1 ex3
  have HX : Hid (∀ i (h : i < L.length), BqAt w gx (i * 3) L[i]) := fun i h => by
    obtain ⟨g', o', e1, _, hat⟩ := hgg (by omega)
    injection e1 with e1
    injection e1 with e2 e3 _
    subst e2 e3
    have := hat i h
    rwa [Nat.zero_add] at this
  have hgl : gx < w.heap.size := (row_lt ho gx rfl).2
  have hlen : (L ++ [markQ]).length = L.length + 1 := by simp
  have hc9 : L.length + 1 ≤ cx := by
    obtain ⟨_, _, e9, hc9, _⟩ := row_val ho
    injection e9 with _ _ e9
    subst e9
    rw [hlen] at hc9
    exact hc9
  have hM : BqAt w gx (L.length * 3) markQ := by
    obtain ⟨f0, f1, f2⟩ := flatQ_at (L ++ [markQ]) L.length (by simp)
    have e : (L ++ [markQ])[L.length]'(by simp) = markQ := by simp
    rw [e] at f0 f1 f2
    refine ⟨?_, ?_, ?_⟩
    · rw [own_cell ho (L.length * 3) (by simp)]; exact f0
    · rw [own_cell ho (L.length * 3 + 1) (by simp; omega)]; exact f1
    · rw [own_cell ho (L.length * 3 + 2) (by simp; omega)]; exact f2
  have HM : Hid (BqAt w gx (L.length * 3) markQ) := hM
  clear hg hgg ho hM hlen
  go_enter Try.func20, Try.ntmps20
  go_wp2_with fail
  go_loopw [5] (fun i wr => ∃ k : Nat, i = .int .i64 k ∧ k ≤ L.length ∧ Hid (Below w.heap.size w wr)) (fun i _ => L.length - (intOf i).toNat)
  case atStart => exact ⟨0, rfl, Nat.zero_le _, Below.refl _ _⟩
  case round =>
    obtain ⟨k, rfl, hk, HQ⟩ := hrel
    by_cases hlt : k < L.length
    · have ik : (k : Int) < L.length := by omega
      obtain ⟨g, o, rfl, hgl2, hat⟩ := HG.out (by omega)
      obtain ⟨x0, x1, x2⟩ := (hat k hlt).below HQ.out hgl2
      obtain ⟨y0, y1, y2⟩ := (HX.out k hlt).below HQ.out hgl
      have HW : Hid (∀ m, Below w.heap.size w (wr.drewN m)) := fun m => below_drewN HQ.out
      have hne : ∀ W, (binOp .neq 39 (.agg #[.int .i64 L[k].a, .int .i64 L[k].b, .int .i64 L[k].f]) (.agg #[.int .i64 L[k].a, .int .i64 L[k].b, .int .i64 L[k].f])).run Try.prog W = .ok (.bool false) W := fun W => by rw [neq_bound]; simp
      clear hat HQ
      generalize L[k] = q at *
      go_wp2_with fail
      go_quiet (fail)
      go_wp2
      exact ⟨⟨k + 1, by go_num, by omega, HW.out _⟩, by simp [intOf]; omega⟩
    · obtain rfl : k = L.length := by omega
      obtain ⟨y0, y1, y2⟩ := HM.out.below HQ.out hgl
      simp only [markQ] at y0 y1 y2
      have he : ∀ W, (binOp .eql 39 (.agg #[.int .i64 77, .int .i64 0, .int .i64 0]) (.agg #[.int .i64 77, .int .i64 0, .int .i64 0])).run Try.prog W = .ok (.bool true) W := fun W => by rw [eql_bound]; simp
      have HF : Hid (Below w.heap.size w wr) := HQ.out
      clear HQ
      go_wp2
      go_ret
      exact ⟨rfl, HF.out⟩

/-- A row of so many numbers, whatever they are, that has grown out of a list's block. -/
def OvI (W : World) (r : Option Nat) (lo n : Nat) (v : Value) (wr : World) : Prop := ∃ X : List Int, X.length = n ∧ wr.ownsRow lo 3 1 v n (flatI X) ∧ W.grownBy wr r ∧ (v.ownBlock = r ∨ ∀ g, v.ownBlock = some g → W.heap.size ≤ g)

set_option maxRecDepth 10000 in
set_option maxHeartbeats 4000000 in
theorem spoil_any (lo : Nat) (xs : List Int) (v : Value) (w : World) (ho : OwI lo w v xs) (hlo : lo ≤ w.heap.size) (hl : xs.length ≤ 10000) :
    Calls Try.prog 19 #[v] w fun e w' => e = .returned (.tuple #[]) ∧ w.grownBy w' v.ownBlock := by
  obtain ⟨oa, cap, rfl, hc, hg⟩ := row_val ho
  obtain ⟨i0, hi, hz0, hz1, hz2⟩ := info_parts info_int
  have HI : Hid (Try.prog.info? 3 = some i0 ∧ i0.zero = some (.int .i64 0) ∧ i0.size = 1 ∧ i0.bytes = 8) := ⟨hi, hz0, hz1, hz2⟩
  have HG : Hid (0 < xs.length → ∃ g, oa = some ⟨g, 0, none⟩ ∧ lo ≤ g ∧ g < w.heap.size) := hg
  obtain ⟨ob, hob⟩ : ∃ ob, ob = (Value.slice oa xs.length cap).ownBlock := ⟨_, rfl⟩
  have H0 : Hid (OvI w ob lo xs.length (.slice oa xs.length cap) w) := ⟨xs, rfl, ho, World.grownBy.refl _ _, .inl hob.symm⟩
  have HOB : Hid (ob = (Value.slice oa xs.length cap).ownBlock) := hob
  rw [← hob]
  clear hob ho hg hi hz0 hz1 hz2
  generalize xs.length = n at *
  go_enter Try.func19, Try.ntmps19
  go_wp2_with fail
  go_loopw [2] (fun i wr => ∃ k : Nat, i = .int .i64 k ∧ k ≤ n ∧ Hid (OvI w ob lo n (.slice oa n cap) wr)) (fun i _ => n - (intOf i).toNat)
  case atStart => exact ⟨0, rfl, Nat.zero_le _, H0⟩
  case round =>
    obtain ⟨k, rfl, hk, HR⟩ := hrel
    by_cases hlt : k < n
    · have ik : (k : Int) < n := by omega
      obtain ⟨g, rfl, hg1, hg2⟩ := HG.out (by omega)
      have hob : ob = some g := HOB.out
      obtain ⟨X, hX, hown, hgr, _⟩ := HR.out
      have c0 : ∃ z, wr.cell? ⟨g, k, none⟩ = some z := ⟨_, (own_cell hown k (by omega)).trans (flatI_at X k (by omega))⟩
      obtain ⟨z0, c0⟩ := c0
      have f0 := own_frozen hown k
      have HRel : Hid (OvI w ob lo n (.slice (some ⟨g, 0, none⟩) n cap) (wr.setCell ⟨g, k, none⟩ (.int .i64 99))) := by
        refine ⟨X.set k 99, by simp [hX], ?_, ?_, .inl hob.symm⟩
        · rw [flatI_set]; exact own_set hown k _
        · rw [hob] at hgr ⊢
          exact grow_tr hgr (grow_set _ _ _ _) (.inl rfl)
      clear hown hgr hob HR hX
      go_wp2
      exact ⟨⟨k + 1, by go_num, by omega, HRel⟩, by simp [intOf]; omega⟩
    · have ik : ¬ (k : Int) < n := by omega
      have HQ : Hid (OvI w ob lo (n + 0) (.slice oa n cap) wr) := HR
      clear HR
      go_wp2_with fail
      go_loopw [0, 3] (fun v i wr => ∃ m : Nat, i = .int .i64 m ∧ m ≤ 4 ∧ Hid (OvI w ob lo (n + m) v wr)) (fun _ i _ => 4 - (intOf i).toNat)
      case atStart => exact ⟨0, rfl, Nat.zero_le _, HQ⟩
      case round =>
        obtain ⟨m, rfl, hm, HM⟩ := hrel
        by_cases hm9 : m < 4
        · have im : (m : Int) < 4 := by omega
          obtain ⟨X, hX, hown, hgr, hor⟩ := HM.out
          obtain ⟨hi, hz0, hz1, hz2⟩ := HI.out
          have hls : lo ≤ wr.heap.size := Nat.le_trans hlo hgr.size
          have hc3 : Hid (n + m + 1 ≤ maxLen) := by unfold Hid maxLen; omega
          have hc4 : Hid ((n + m + 1) * 8 ≤ 140737488355328) := by unfold Hid; omega
          have HA : Hid (∀ o, (wr.alloc o).ownsRow lo 3 1 u0 (n + m) (flatI X) ∧ lo ≤ (wr.alloc o).heap.size) := fun o => ⟨row_below hown ((Below.refl _ _).alloc (Nat.le_refl _) _), by simp; omega⟩
          have HB : Hid (w.grownBy wr ob ∧ (u0.ownBlock = ob ∨ ∀ g, u0.ownBlock = some g → w.heap.size ≤ g) ∧ X.length = n + m) := ⟨hgr, hor, hX⟩
          clear hown hgr hor hX hls HM
          go_wp2_with (at_builtin; refine wpList_append_lies _ rfl _ _ 26 rfl lo 3 i0 (.int .i64 0) 1 8 Try.underlying26 hi hz0 hz1 hz2 rfl (by decide) u0 (n + m) (flatI X) rfl (HA.out _).1 _ 1 1 [.int .i64 98] rfl rfl (cell_oneB _ _ _ _ rfl) (one1 _) (by decide) hc3.out hc4.out (HA.out _).2 _ rfl ?_)
          intro g4 cap4 w4 hown' hgrow hlies _
          have HRel : Hid (OvI w ob lo (n + (m + 1)) (.slice (some ⟨g4, 0, none⟩) (n + m + 1) cap4) w4) := by
            have hg1 : w.grownBy w4 ob := grow_tr (grow_tr HB.out.1 (World.grownBy_alloc wr _ none) (.inr fun g e => by cases e)) hgrow HB.out.2.1
            refine ⟨X ++ [98], by rw [List.length_append, HB.out.2.2]; rfl, by rw [flatI_app]; exact hown', hg1, ?_⟩
            rcases hlies with h | h
            · rcases HB.out.2.1 with k | k
              · exact .inl (by rw [← k, h]; rfl)
              · refine .inr fun g e => ?_
                refine k g ?_
                rw [h]
                exact e
            · refine .inr fun g e => ?_
              simp [Value.ownBlock] at e
              have := HB.out.1.size
              rw [← e, h]
              simp
              omega
          clear hown' hgrow hlies hi hz0 hz1 hz2
          go_wp2
          exact ⟨⟨m + 1, by go_num, by omega, HRel⟩, by simp [intOf]; omega⟩
        · obtain rfl : m = 4 := by omega
          obtain ⟨X, hX, hown, hgr, hor⟩ := HM.out
          obtain ⟨oz, cz, rfl, hcz, hgz⟩ := row_val hown
          obtain ⟨gz, rfl, hgz1, hgz2⟩ := hgz (by omega)
          have c0 : ∃ z, wr.cell? ⟨gz, 0, none⟩ = some z := ⟨_, (own_cell hown 0 (by omega)).trans (flatI_at X 0 (by omega))⟩
          obtain ⟨z0, c0⟩ := c0
          have f0 := own_frozen hown 0
          have HF : Hid (w.grownBy (wr.setCell ⟨gz, 0, none⟩ (.int .i64 97)) ob) := grow_tr hgr (grow_set _ _ _ _) hor
          have i0n : (0 : Int) < (n : Int) + 4 := by omega
          clear HM hX hown hgr hor hgz
          go_wp2
          go_end0
          exact ⟨rfl, HF.out⟩

end Go.Proofs.Ytjamkbhplejolaa
