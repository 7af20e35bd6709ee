/-
  Texts of this claim, one behind the other: what each is about stands ahead of it.
-/
import Derived.Test.YtbghjmkgicdnoaaGreatK14
import Derived.Test.YtbghjmkgicdnoaaGreatK18
import Derived.Test.YtbghjmkgicdnoaaGreatK1
/-
  The statements' own lists of strokes: lent, kept, written over.
-/
namespace Go.Proofs.YtbghjmkgicdnoaaGreat
open Go.RowKit

def markS : St := ⟨0, zr, ⟨0, 0, 0, 0⟩, ⟨0, 0, 0, 0⟩, ⟨#[]⟩, 77⟩
theorem lss_src {w : World} {g o : Nat} {M : List St} (h : ∀ i (h : i < M.length), StAt w g (o + i * 15) M[i]) : ∀ (j : Nat) (u : Value), (flatZ M)[j]? = some u → w.cell? ((⟨g, o, none⟩ : Addr).add j) = some u := by
  intro j u hj
  have hl : j < (flatZ M).length := (List.getElem?_eq_some_iff.1 hj).1
  rw [flatZ_len] at hl
  have hq : j / 15 < M.length := by omega
  have h1 := flatZ_at M (j / 15) hq (j % 15) (Nat.mod_lt _ (by decide))
  have h2 := stat_iff.1 (h (j / 15) hq) (j % 15) (Nat.mod_lt _ (by decide))
  rw [show j / 15 * 15 + j % 15 = j by omega, hj] at h1
  rw [← h1, Nat.add_assoc, show j / 15 * 15 + j % 15 = j by omega] at h2
  have e : (⟨g, o, none⟩ : Addr).add j = ⟨g, o + j, none⟩ := by unfold Addr.add; split <;> simp_all
  rw [e]
  exact h2
/-- A list that lies somewhere laid behind no list. -/
theorem app_firstS {P : Program} {w : World} {ops : Array Oper} {rest : List Oper} {o : Oper} {a : Act} {Q : Exit → Act → World → Prop} (hgd : o.guard = none) (s x : Operand)
    (ho : o.op = .call { callee := .builtin .append, args := #[s, x], argTypes := #[22, 22] })
    (i : TypeInfo) (ht : P.underlying 22 = some (.slice 48)) (hi : P.info? 48 = some i) (hz : i.zero = some (.agg #[.int .u8 0, .int .i64 0, .int .i64 0, .int .i64 0, .int .i64 0, .int .u8 0, .int .u8 0, .int .u8 0, .int .u8 0, .int .u8 0, .int .u8 0, .int .u8 0, .int .u8 0, .string ByteArray.empty, .int .i64 0]))
    (hsize : i.size = 15) (hby : i.bytes = 72) (hs : a.eval s = .slice none 0 0) (rs : List St) (oa : Option Addr) (cap : Nat) (hx : a.eval x = .slice oa rs.length cap) (hv : LsS w (.slice oa rs.length cap) rs) (hn : NoNil (.slice oa rs.length cap))
    (hl : rs.length ≤ 100000) (h : ∀ v' w', Hid (OwS w.heap.size w' v' rs ∧ Below w.heap.size w w') → wpList P ops Q rest (a.put o.dst v') w') : wpList P ops Q (o :: rest) a w := by
  have hown : w.ownsRow w.heap.size 48 15 (.slice none 0 0) 0 [] := World.ownsRow_nil _ _ _ _
  cases oa with
  | none =>
    have h0 : rs = [] := by
      obtain ⟨oa, cap', e, _, hg⟩ := hv
      cases rs with
      | nil => rfl
      | cons r t =>
        obtain ⟨g, o, e2, _⟩ := hg (by simp)
        injection e with e1 _ _
        rw [e2] at e1
        cases e1
    subst h0
    obtain rfl : cap = 0 := hn cap rfl
    refine app_none hgd s x _ ho w.heap.size 48 i 15 ht hi (.slice none 0 0) 0 [] hs hown hx ?_
    rintro _ _ rfl rfl
    exact h _ _ ⟨hown, Below.refl _ _⟩
  | some ad =>
    refine wpList_append_own _ hgd s x _ ho w.heap.size 48 i (.agg #[.int .u8 0, .int .i64 0, .int .i64 0, .int .i64 0, .int .i64 0, .int .u8 0, .int .u8 0, .int .u8 0, .int .u8 0, .int .u8 0, .int .u8 0, .int .u8 0, .int .u8 0, .string ByteArray.empty, .int .i64 0]) 15 72 ht hi hz hsize hby rfl (by decide) (.slice none 0 0) 0 [] hs hown ad rs.length cap (flatZ rs) hx (flatZ_len rs) ?_ (onesZ rs) (by unfold maxLen; omega) (by omega) (Nat.le_refl _) ?_
    · intro j u hj
      obtain ⟨oa, cap', e, _, hg⟩ := hv
      have hp : 0 < rs.length := by
        cases rs with
        | nil => simp [flatZ] at hj
        | cons r t => simp
      obtain ⟨g, o, e2, _, hat⟩ := hg hp
      injection e with e1 _ _
      rw [e2] at e1
      injection e1 with e1
      subst e1
      exact lss_src hat j u hj
    · intro v' w' h2 h3 _
      rw [Nat.zero_add, List.nil_append] at h2
      exact h v' w' ⟨h2, (Below.refl _ w).grown h3 (Nat.le_refl _) (fun g e => by cases e)⟩
/-- A list of one's own, a mark behind it; its block lies from lo up to hi. -/
def LenS (lo hi : Nat) (W : World) (v : Value) (rs : List St) : Prop := OwS lo W v (rs ++ [markS]) ∧ ∀ g, v.ownBlock = some g → g < hi
theorem LenS.below {lo hi : Nat} {W W' : World} {v : Value} {rs : List St} (h : LenS lo hi W v rs) (hb : Below W.heap.size W W') : LenS lo hi W' v rs := ⟨h.1.below hb, h.2⟩
theorem LenS.val {lo hi : Nat} {W : World} {v : Value} {rs : List St} (h : LenS lo hi W v rs) : ∃ g cap, v = .slice (some ⟨g, 0, none⟩) (rs.length + 1) cap ∧ rs.length + 1 ≤ cap ∧ g < W.heap.size ∧ lo ≤ g ∧ g < hi := by
  obtain ⟨oa, cap, e, hc, hg⟩ := row_val h.1
  obtain ⟨g, e1, e2, e3⟩ := hg (by simp)
  subst e1
  subst e
  exact ⟨g, cap, by simp, by simpa using hc, e3, e2, h.2 g rfl⟩
/-- The list without its mark. -/
theorem LenS.lss {lo hi : Nat} {W : World} {g n cap : Nat} {rs : List St} (h : LenS lo hi W (.slice (some ⟨g, 0, none⟩) n cap) rs) : LsS W (.slice (some ⟨g, 0, none⟩) rs.length cap) rs := by
  obtain ⟨oa, cap', e, hc, hg⟩ := h.1.lss
  obtain ⟨g', o, e1, hlt, hat⟩ := hg (by simp)
  injection e with e2 _ e3
  rw [e1] at e2
  injection e2 with e2
  injection e2 with e4 e5 _
  subst e4 e5 e3
  refine ⟨_, cap, rfl, by simp at hc; omega, fun hp => ⟨g, 0, rfl, hlt, fun i hi => ?_⟩⟩
  have q := hat i (by simp; omega)
  rwa [List.getElem_append_left hi] at q
theorem LenS.mark {lo hi : Nat} {W : World} {g n cap : Nat} {rs : List St} (h : LenS lo hi W (.slice (some ⟨g, 0, none⟩) n cap) rs) : StAt W g (rs.length * 15) markS := by
  obtain ⟨oa, cap', e, hc, hg⟩ := h.1.lss
  obtain ⟨g', o, e1, hlt, hat⟩ := hg (by simp)
  injection e with e2 _ e3
  rw [e1] at e2
  injection e2 with e2
  injection e2 with e4 e5 _
  subst e4 e5 e3
  have q := hat rs.length (by simp)
  have e : (rs ++ [markS])[rs.length]'(by simp) = markS := by simp
  rw [e, Nat.zero_add] at q
  exact q

set_option maxRecDepth 20000 in
set_option maxHeartbeats 4000000 in
theorem own_any (rs : List St) (v : Value) (w : World) (hv : LsS w v rs) (hn : NoNil v) (hl : rs.length ≤ 20000) :
    Calls Tryz.prog 6 #[v] w fun e w' => ∃ u, e = .returned u ∧ LenS w.heap.size w'.heap.size w' u rs ∧ Below w.heap.size w w' := by
  obtain ⟨oa, cap, rfl, hc, _⟩ := id hv
  obtain ⟨i0, hi, hz0, hz1, hz2⟩ := info_parts info_strokeZ
  have HV : Hid (LsS w (.slice oa rs.length cap) rs ∧ NoNil (.slice oa rs.length cap)) := ⟨hv, hn⟩
  clear hv hn
  go_enter Tryz.func6, Tryz.ntmps6
  go_wp2_with (at_builtin; refine app_firstS rfl _ _ rfl i0 Tryz.underlying22 hi hz0 hz1 hz2 rfl rs oa cap rfl HV.out.1 HV.out.2 (by omega) ?_)
  intro v1 w1 H1
  have hc3 : Hid (rs.length + 1 ≤ maxLen) := by unfold Hid maxLen; omega
  have hc4 : Hid ((rs.length + 1) * 72 ≤ 140737488355328) := by unfold Hid; omega
  have HA : Hid (∀ o, (w1.alloc o).ownsRow w.heap.size 48 15 v1 rs.length (flatZ rs) ∧ Below w.heap.size w (w1.alloc o)) := fun o => ⟨row_below H1.out.1 ((Below.refl _ _).alloc (Nat.le_refl _) _), H1.out.2.alloc H1.out.2.size _⟩
  go_wp2_with (at_builtin; refine wpList_append_own _ rfl _ _ 22 rfl w.heap.size 48 i0 (.agg #[.int .u8 0, .int .i64 0, .int .i64 0, .int .i64 0, .int .i64 0, .int .u8 0, .int .u8 0, .int .u8 0, .int .u8 0, .int .u8 0, .int .u8 0, .int .u8 0, .int .u8 0, .string ByteArray.empty, .int .i64 0]) 15 72 Tryz.underlying22 hi hz0 hz1 hz2 rfl (by decide) v1 rs.length (flatZ rs) rfl (HA.out _).1 _ 1 1 (sCel markS) rfl rfl (cell_strokeB _ markS _ _ rfl) (oneZ markS) hc3.out hc4.out (HA.out _).2.size ?_)
  intro v2 w2 hown hgrow hnil
  have HF : Hid (LenS w.heap.size w2.heap.size w2 v2 rs ∧ Below w.heap.size w w2) := by
    have h1 : OwS w.heap.size w2 v2 (rs ++ [markS]) := snocS rfl hown
    exact ⟨⟨h1, fun g hg => (row_lt h1 g hg).2⟩, app_below (HA.out _).2 (HA.out _).1 (Nat.le_refl _) hgrow⟩
  clear hown hgrow hnil hi hz0 hz1 hz2 HA H1 HV
  go_wp2
  go_ret
  exact ⟨_, rfl, HF.out⟩

set_option maxRecDepth 20000 in
set_option maxHeartbeats 4000000 in
theorem kept_any (lo hi : Nat) (rs : List St) (x v : Value) (w : World) (hx : LenS lo hi w x rs) (hv : LsS w v rs) (hl : rs.length ≤ 20000) :
    Calls Tryz.prog 16 #[x, v] w fun e w' => e = .returned (.bool true) ∧ Below w.heap.size w w' := by
  obtain ⟨g, cap, rfl, hc, hgl, _⟩ := hx.val
  have HS : Hid (Calls Tryz.prog 13 #[.slice (some ⟨g, 0, none⟩) rs.length cap, v] w fun e w' => e = .returned (.bool true) ∧ Below w.heap.size w w') := by
    have q := zsame_any rs rs _ v w hx.lss hv (by omega)
    rw [samZ_self] at q
    exact q
  obtain ⟨m0, m1, m2, m3, m4, m5, m6, m7, m8, m9, m10, m11, m12, m13, m14⟩ := hx.mark
  obtain ⟨oa, cap2, rfl, hc2, _⟩ := hv
  have he := fun W => eql_stroke markS markS W
  rw [eqS_self] at he
  simp only [markS] at m0 m1 m2 m3 m4 m5 m6 m7 m8 m9 m10 m11 m12 m13 m14 he
  clear hx
  go_enter Tryz.func16, Tryz.ntmps16
  go_wp2_with fail
  refine HS.out.mono ?_
  rintro e w1 ⟨rfl, hb1⟩
  have H1 : Hid (Below w.heap.size w w1) := hb1
  clear hb1
  go_wp2
  go_ret
  exact ⟨rfl, H1.out⟩

theorem grow_trS {w W W' : World} {r s : Option Nat} (h : w.grownBy W r) (k : W.grownBy W' s) (hs : s = r ∨ ∀ g, s = some g → w.heap.size ≤ g) : w.grownBy W' r := by
  refine ⟨k.os.trans h.os, k.tape.trans h.tape, k.output.trans h.output, Nat.le_trans h.size k.size, fun b hb hr => ?_⟩
  refine (k.block b (Nat.lt_of_lt_of_le hb h.size) ?_).trans (h.block b hb hr)
  intro c
  rcases hs with rfl | hs
  · exact hr c
  · have := hs b c.symm
    omega
theorem grow_setS (w : World) (g o : Nat) (v : Value) : w.grownBy (w.setCell ⟨g, o, none⟩ v) (some g) :=
  ⟨rfl, rfl, rfl, ((Below.refl 0 w).setCell (p := ⟨g, o, none⟩) (Nat.zero_le _) v).size, fun b _ hb => Below.heap_setCell _ _ _ b (fun e => hb (by rw [e]))⟩

set_option maxRecDepth 20000 in
set_option maxHeartbeats 8000000 in
theorem spoil_any (lo : Nat) (L : List St) (v : Value) (w : World) (ho : OwS lo w v L) (hl : L.length ≤ 20000) :
    Calls Tryz.prog 15 #[v] w fun e w' => e = .returned (.tuple #[]) ∧ w.grownBy w' v.ownBlock := by
  obtain ⟨oa, cap, rfl, hc, hg⟩ := row_val ho
  have HG : Hid (0 < L.length → ∃ g, oa = some ⟨g, 0, none⟩ ∧ lo ≤ g ∧ g < w.heap.size) := hg
  obtain ⟨ob, hob⟩ : ∃ ob, ob = (Value.slice oa L.length cap).ownBlock := ⟨_, rfl⟩
  have HOB : Hid (ob = (Value.slice oa L.length cap).ownBlock) := hob
  have H0 : Hid (∃ xs, w.ownsRow lo 48 15 (.slice oa L.length cap) L.length xs ∧ w.grownBy w ob) := ⟨_, ho, World.grownBy.refl _ _⟩
  rw [← hob]
  clear hob ho hg
  generalize L.length = n at *
  go_enter Tryz.func15, Tryz.ntmps15
  go_wp2_with fail
  go_loopw [2] (fun i wr => ∃ k : Nat, i = .int .i64 k ∧ k ≤ n ∧ Hid (∃ xs, wr.ownsRow lo 48 15 (.slice oa n cap) n xs ∧ w.grownBy wr ob)) (fun i _ => n - (intOf i).toNat)
  case atStart => exact ⟨0, rfl, Nat.zero_le _, H0⟩
  case round =>
    obtain ⟨k, rfl, hk, HR⟩ := hrel
    by_cases hlt : k < n
    · have ik : (k : Int) < n := by omega
      obtain ⟨g, rfl, hg1, hg2⟩ := HG.out (by omega)
      have hob : ob = some g := HOB.out
      obtain ⟨xs, hown, hgr⟩ := HR.out
      have hxl : xs.length = n * 15 := hown.1
      have cc : ∀ j, j < 15 → ∃ z, wr.cell? ⟨g, k * 15 + j, none⟩ = some z := fun j hj => ⟨xs[k * 15 + j]'(by omega), (own_cell hown (k * 15 + j) (by omega)).trans (List.getElem?_eq_getElem _)⟩
      obtain ⟨z0, c0⟩ := cc 0 (by decide)
      obtain ⟨z1, c1⟩ := cc 1 (by decide)
      obtain ⟨z2, c2⟩ := cc 2 (by decide)
      obtain ⟨z3, c3⟩ := cc 3 (by decide)
      obtain ⟨z4, c4⟩ := cc 4 (by decide)
      obtain ⟨z5, c5⟩ := cc 5 (by decide)
      obtain ⟨z6, c6⟩ := cc 6 (by decide)
      obtain ⟨z7, c7⟩ := cc 7 (by decide)
      obtain ⟨z8, c8⟩ := cc 8 (by decide)
      obtain ⟨z9, c9⟩ := cc 9 (by decide)
      obtain ⟨z10, c10⟩ := cc 10 (by decide)
      obtain ⟨z11, c11⟩ := cc 11 (by decide)
      obtain ⟨z12, c12⟩ := cc 12 (by decide)
      obtain ⟨z13, c13⟩ := cc 13 (by decide)
      obtain ⟨z14, c14⟩ := cc 14 (by decide)
      have ff := own_frozen hown
      have f0 := ff (k * 15)
      have f1 := ff (k * 15 + 1)
      have f2 := ff (k * 15 + 2)
      have f3 := ff (k * 15 + 3)
      have f4 := ff (k * 15 + 4)
      have f5 := ff (k * 15 + 5)
      have f6 := ff (k * 15 + 6)
      have f7 := ff (k * 15 + 7)
      have f8 := ff (k * 15 + 8)
      have f9 := ff (k * 15 + 9)
      have f10 := ff (k * 15 + 10)
      have f11 := ff (k * 15 + 11)
      have f12 := ff (k * 15 + 12)
      have f13 := ff (k * 15 + 13)
      have f14 := ff (k * 15 + 14)
      have HRel : Hid (∃ xs, (((((((((((((((wr.setCell ⟨g, k * 15, none⟩ (.int .u8 0)).setCell ⟨g, k * 15 + 1, none⟩ (.int .i64 0)).setCell ⟨g, k * 15 + 2, none⟩ (.int .i64 0)).setCell ⟨g, k * 15 + 3, none⟩ (.int .i64 0)).setCell ⟨g, k * 15 + 4, none⟩ (.int .i64 0)).setCell ⟨g, k * 15 + 5, none⟩ (.int .u8 0)).setCell ⟨g, k * 15 + 6, none⟩ (.int .u8 0)).setCell ⟨g, k * 15 + 7, none⟩ (.int .u8 0)).setCell ⟨g, k * 15 + 8, none⟩ (.int .u8 0)).setCell ⟨g, k * 15 + 9, none⟩ (.int .u8 0)).setCell ⟨g, k * 15 + 10, none⟩ (.int .u8 0)).setCell ⟨g, k * 15 + 11, none⟩ (.int .u8 0)).setCell ⟨g, k * 15 + 12, none⟩ (.int .u8 0)).setCell ⟨g, k * 15 + 13, none⟩ (.string ByteArray.empty)).setCell ⟨g, k * 15 + 14, none⟩ (.int .i64 76)).ownsRow lo 48 15 (.slice (some ⟨g, 0, none⟩) n cap) n xs ∧ w.grownBy (((((((((((((((wr.setCell ⟨g, k * 15, none⟩ (.int .u8 0)).setCell ⟨g, k * 15 + 1, none⟩ (.int .i64 0)).setCell ⟨g, k * 15 + 2, none⟩ (.int .i64 0)).setCell ⟨g, k * 15 + 3, none⟩ (.int .i64 0)).setCell ⟨g, k * 15 + 4, none⟩ (.int .i64 0)).setCell ⟨g, k * 15 + 5, none⟩ (.int .u8 0)).setCell ⟨g, k * 15 + 6, none⟩ (.int .u8 0)).setCell ⟨g, k * 15 + 7, none⟩ (.int .u8 0)).setCell ⟨g, k * 15 + 8, none⟩ (.int .u8 0)).setCell ⟨g, k * 15 + 9, none⟩ (.int .u8 0)).setCell ⟨g, k * 15 + 10, none⟩ (.int .u8 0)).setCell ⟨g, k * 15 + 11, none⟩ (.int .u8 0)).setCell ⟨g, k * 15 + 12, none⟩ (.int .u8 0)).setCell ⟨g, k * 15 + 13, none⟩ (.string ByteArray.empty)).setCell ⟨g, k * 15 + 14, none⟩ (.int .i64 76)) ob) := by
        refine ⟨_, (own_set (own_set (own_set (own_set (own_set (own_set (own_set (own_set (own_set (own_set (own_set (own_set (own_set (own_set (own_set hown (k * 15) (.int .u8 0)) (k * 15 + 1) (.int .i64 0)) (k * 15 + 2) (.int .i64 0)) (k * 15 + 3) (.int .i64 0)) (k * 15 + 4) (.int .i64 0)) (k * 15 + 5) (.int .u8 0)) (k * 15 + 6) (.int .u8 0)) (k * 15 + 7) (.int .u8 0)) (k * 15 + 8) (.int .u8 0)) (k * 15 + 9) (.int .u8 0)) (k * 15 + 10) (.int .u8 0)) (k * 15 + 11) (.int .u8 0)) (k * 15 + 12) (.int .u8 0)) (k * 15 + 13) (.string ByteArray.empty)) (k * 15 + 14) (.int .i64 76)), ?_⟩
        rw [hob] at hgr ⊢
        exact (grow_trS (grow_trS (grow_trS (grow_trS (grow_trS (grow_trS (grow_trS (grow_trS (grow_trS (grow_trS (grow_trS (grow_trS (grow_trS (grow_trS (grow_trS hgr (grow_setS _ _ _ _) (.inl rfl)) (grow_setS _ _ _ _) (.inl rfl)) (grow_setS _ _ _ _) (.inl rfl)) (grow_setS _ _ _ _) (.inl rfl)) (grow_setS _ _ _ _) (.inl rfl)) (grow_setS _ _ _ _) (.inl rfl)) (grow_setS _ _ _ _) (.inl rfl)) (grow_setS _ _ _ _) (.inl rfl)) (grow_setS _ _ _ _) (.inl rfl)) (grow_setS _ _ _ _) (.inl rfl)) (grow_setS _ _ _ _) (.inl rfl)) (grow_setS _ _ _ _) (.inl rfl)) (grow_setS _ _ _ _) (.inl rfl)) (grow_setS _ _ _ _) (.inl rfl)) (grow_setS _ _ _ _) (.inl rfl))
      rw [Nat.add_zero] at c0
      clear hown hgr hob HR cc ff hxl H0
      go_wp2
      exact ⟨⟨k + 1, by go_num, by omega, HRel⟩, by simp [intOf]; omega⟩
    · have ik : ¬ (k : Int) < n := by omega
      have HF : Hid (w.grownBy wr ob) := by obtain ⟨_, _, h⟩ := HR.out; exact h
      clear HR H0
      go_wp2
      go_end0
      exact ⟨rfl, HF.out⟩

end Go.Proofs.YtbghjmkgicdnoaaGreat

/-
  Contracts of the document's answer for layer 13: Join, Moved.
-/
namespace Go.Proofs.YtbghjmkgicdnoaaGreat
open Go.RowKit

def joiE (a b : List St) : Int := if chkS a = 0 then (if chkS b = 0 then (if 16384 < a.length + b.length then 4 else 0) else chkS b) else chkS a
def joiL (a b : List St) : List St := if joiE a b = 0 then a ++ b else []

/-- A list that lies somewhere laid behind a row of one's own. -/
theorem app_moreS {P : Program} {w : World} {ops : Array Oper} {rest : List Oper} {o : Oper} {a : Act} {Q : Exit → Act → World → Prop} (hgd : o.guard = none) (s x : Operand)
    (ho : o.op = .call { callee := .builtin .append, args := #[s, x], argTypes := #[22, 22] })
    (i : TypeInfo) (ht : P.underlying 22 = some (.slice 48)) (hi : P.info? 48 = some i) (hz : i.zero = some (.agg #[.int .u8 0, .int .i64 0, .int .i64 0, .int .i64 0, .int .i64 0, .int .u8 0, .int .u8 0, .int .u8 0, .int .u8 0, .int .u8 0, .int .u8 0, .int .u8 0, .int .u8 0, .string ByteArray.empty, .int .i64 0]))
    (hsize : i.size = 15) (hby : i.bytes = 72) (lo : Nat) (u : Value) (qs : List St) (n : Nat) (hn0 : n = qs.length) (hs : a.eval s = u) (hown : w.ownsRow lo 48 15 u n (flatZ qs)) (hlo : lo ≤ w.heap.size) (rs : List St) (oa : Option Addr) (cap : Nat) (m : Nat) (hm : m = rs.length) (hx : a.eval x = .slice oa m cap) (hv : LsS w (.slice oa m cap) rs) (hn : NoNil (.slice oa m cap))
    (hl : n + m ≤ 100000) (h : ∀ v' w', Hid (OwS lo w' v' (qs ++ rs) ∧ w.grownBy w' u.ownBlock) → wpList P ops Q rest (a.put o.dst v') w') : wpList P ops Q (o :: rest) a w := by
  subst hm
  cases oa with
  | none =>
    have h0 : rs = [] := by
      obtain ⟨oa, cap', e, _, hg⟩ := hv
      cases rs with
      | nil => rfl
      | cons r t =>
        obtain ⟨g, o, e2, _⟩ := hg (by simp)
        injection e with e1 _ _
        rw [e2] at e1
        cases e1
    subst h0
    obtain rfl : cap = 0 := hn cap rfl
    refine app_none hgd s x _ ho lo 48 i 15 ht hi u n (flatZ qs) hs hown hx ?_
    rintro _ _ rfl rfl
    refine h _ _ ⟨?_, World.grownBy.refl _ _⟩
    rw [List.append_nil]
    unfold OwS
    rw [← hn0]
    exact hown
  | some ad =>
    refine wpList_append_own _ hgd s x _ ho lo 48 i (.agg #[.int .u8 0, .int .i64 0, .int .i64 0, .int .i64 0, .int .i64 0, .int .u8 0, .int .u8 0, .int .u8 0, .int .u8 0, .int .u8 0, .int .u8 0, .int .u8 0, .int .u8 0, .string ByteArray.empty, .int .i64 0]) 15 72 ht hi hz hsize hby rfl (by decide) u n (flatZ qs) hs hown ad rs.length cap (flatZ rs) hx (flatZ_len rs) ?_ (onesZ rs) (by unfold maxLen; omega) (by omega) hlo ?_
    · intro j u' hj
      obtain ⟨oa, cap', e, _, hg⟩ := hv
      have hp : 0 < rs.length := by
        cases rs with
        | nil => simp [flatZ] at hj
        | cons r t => simp
      obtain ⟨g, o, e2, _, hat⟩ := hg hp
      injection e with e1 _ _
      rw [e2] at e1
      injection e1 with e1
      subst e1
      exact lss_src hat j u' hj
    · intro v' w' h2 h3 _
      refine h v' w' ⟨?_, h3⟩
      unfold OwS
      rw [List.length_append, ← hn0, flatZ_app]
      exact h2

def movS (p q : Int) (s : St) : St := if s.k = 5 then s else ⟨s.k, ⟨s.r.x + p, s.r.y + q, s.r.w, s.r.h⟩, s.c, s.b, s.t, s.n⟩
def movO (p q : Int) (l : List St) : Bool := l.all fun s => zMa (movS p q s).r
def movF (l : List St) (p q : Int) : Int := if chkS l = 0 then (if movO p q l = true then 0 else 9) else chkS l
def movG (l : List St) (p q : Int) : List St := if movF l p q = 0 then l.map (movS p q) else []
def clmp (p : Int) : Int := min (max p (-32769)) 32769
theorem mov_clmp {s : St} (h : zMa s.r = true) (p q : Int) : zMa (movS (clmp p) (clmp q) s).r = zMa (movS p q s).r ∧ (zMa (movS p q s).r = true → movS (clmp p) (clmp q) s = movS p q s) := by
  unfold movS
  by_cases h5 : s.k = 5
  · rw [if_pos h5, if_pos h5]
    exact ⟨rfl, fun _ => rfl⟩
  · rw [if_neg h5, if_neg h5]
    have hb := may_iff.1 h
    refine ⟨?_, fun k => ?_⟩
    · rw [Bool.eq_iff_iff]
      unfold zMa
      rw [may_iff, may_iff]
      simp only
      unfold clmp
      omega
    · have kb := may_iff.1 k
      have e1 : clmp p = p := by unfold clmp; simp only at kb; omega
      have e2 : clmp q = q := by unfold clmp; simp only at kb; omega
      rw [e1, e2]
theorem movO_clmp {l : List St} (h : ∀ s ∈ l, zMa s.r = true) (p q : Int) : movO (clmp p) (clmp q) l = movO p q l ∧ (movO p q l = true → l.map (movS (clmp p) (clmp q)) = l.map (movS p q)) := by
  unfold movO
  refine ⟨?_, fun k => ?_⟩
  · rw [Bool.eq_iff_iff, List.all_eq_true, List.all_eq_true]
    exact ⟨fun k s hs => by rw [← (mov_clmp (h s hs) p q).1]; exact k s hs, fun k s hs => by rw [(mov_clmp (h s hs) p q).1]; exact k s hs⟩
  · exact List.map_congr_left fun s hs => (mov_clmp (h s hs) p q).2 (List.all_eq_true.1 k s hs)

end Go.Proofs.YtbghjmkgicdnoaaGreat

/-
  Contracts of the document's answer for layer 13: Moved.
-/
namespace Go.Proofs.YtbghjmkgicdnoaaGreat
open Go.RowKit
attribute [local go_sem] ite_max ite_min

end Go.Proofs.YtbghjmkgicdnoaaGreat

/-
  The document's way of a form, in plain lists: edges, the spans between them, row by row.
-/
namespace Go.Proofs.YtbghjmkgicdnoaaGreat

def emD (r : Rc) : Bool := r.w == 0 || r.h == 0
theorem keep_emD {r : Rc} (h : mayB r.x r.y r.w r.h = true) : keepE r = !emD r := by
  simp [keepE, emptyB, emD, h]
theorem emD_pos {r : Rc} (h : mayB r.x r.y r.w r.h = true) : emD r = false ↔ 0 < r.w ∧ 0 < r.h := by
  have b := may_bd h
  unfold emD
  simp
  omega
/-- One rectangle's edges, along Y or along X of a row. -/
def edS (down : Bool) (y : Int) (r : Rc) (acc : List Int) : List Int := if emD r = true then acc else if down = true then insU (r.y + r.h) (insU r.y acc) else if r.y ≤ y ∧ y < r.y + r.h then insU (r.x + r.w) (insU r.x acc) else acc
def edF (down : Bool) (y : Int) : List Rc → List Int → List Int
  | [], acc => acc
  | r :: t, acc => edF down y t (edS down y r acc)
theorem insU_lenD (n : Int) : ∀ l : List Int, (insU n l).length ≤ l.length + 1
  | [] => by simp [insU]
  | m :: t => by
    rw [insU]
    split
    · simp
    · split
      · simp
      · have := insU_lenD n t
        simp
        omega
theorem edS_len (down : Bool) (y : Int) (r : Rc) (acc : List Int) : (edS down y r acc).length ≤ acc.length + 2 := by
  have h1 := insU_lenD r.y acc
  have h2 := insU_lenD (r.y + r.h) (insU r.y acc)
  have h3 := insU_lenD r.x acc
  have h4 := insU_lenD (r.x + r.w) (insU r.x acc)
  unfold edS
  split
  · omega
  · split
    · omega
    · split <;> omega
theorem ed_len (down : Bool) (y : Int) : ∀ (l : List Rc) (acc : List Int), (edF down y l acc).length ≤ acc.length + 2 * l.length
  | [], acc => by simp [edF]
  | r :: t, acc => by
    have h1 := edS_len down y r acc
    have h2 := ed_len down y t (edS down y r acc)
    rw [edF, List.length_cons]
    omega
theorem edS_inc (down : Bool) (y : Int) (r : Rc) {acc : List Int} (h : Inc acc) : Inc (edS down y r acc) := by
  unfold edS
  split
  · exact h
  · split
    · exact insU_inc _ (insU_inc _ h)
    · split
      · exact insU_inc _ (insU_inc _ h)
      · exact h
theorem ed_inc (down : Bool) (y : Int) : ∀ (l : List Rc) {acc : List Int}, Inc acc → Inc (edF down y l acc)
  | [], _, h => h
  | r :: t, _, h => ed_inc down y t (edS_inc down y r h)
def isEd (down : Bool) (y : Int) (r : Rc) (n : Int) : Prop := emD r = false ∧ (if down = true then n = r.y ∨ n = r.y + r.h else (r.y ≤ y ∧ y < r.y + r.h) ∧ (n = r.x ∨ n = r.x + r.w))
theorem edS_mem (down : Bool) (y : Int) (r : Rc) (acc : List Int) (n : Int) : n ∈ edS down y r acc ↔ n ∈ acc ∨ isEd down y r n := by
  unfold edS isEd
  by_cases h : emD r = true
  · rw [if_pos h]; simp [h]
  · rw [if_neg h]
    have h' : emD r = false := by simpa using h
    by_cases d : down = true
    · rw [if_pos d, if_pos d, insU_mem, insU_mem]
      constructor
      · rintro (e | e | e)
        · exact .inr ⟨h', .inr e⟩
        · exact .inr ⟨h', .inl e⟩
        · exact .inl e
      · rintro (e | ⟨_, e | e⟩)
        · exact .inr (.inr e)
        · exact .inr (.inl e)
        · exact .inl e
    · rw [if_neg d, if_neg d]
      by_cases c : r.y ≤ y ∧ y < r.y + r.h
      · rw [if_pos c, insU_mem, insU_mem]
        constructor
        · rintro (e | e | e)
          · exact .inr ⟨h', c, .inr e⟩
          · exact .inr ⟨h', c, .inl e⟩
          · exact .inl e
        · rintro (e | ⟨_, _, e | e⟩)
          · exact .inr (.inr e)
          · exact .inr (.inl e)
          · exact .inl e
      · rw [if_neg c]
        constructor
        · exact fun e => .inl e
        · rintro (e | ⟨_, e, _⟩)
          · exact e
          · exact absurd e c
theorem ed_mem (down : Bool) (y n : Int) : ∀ (l : List Rc) (acc : List Int), n ∈ edF down y l acc ↔ n ∈ acc ∨ ∃ r ∈ l, isEd down y r n
  | [], acc => by simp [edF]
  | r :: t, acc => by
    rw [edF, ed_mem down y n t, edS_mem]
    simp only [List.mem_cons, exists_eq_or_imp]
    exact or_assoc
/-- The edges of two lists. -/
def edTwo (down : Bool) (y : Int) (a b : List Rc) : List Int := edF down y b (edF down y a [])
theorem edTwo_inc (down : Bool) (y : Int) (a b : List Rc) : Inc (edTwo down y a b) := ed_inc _ _ _ (ed_inc _ _ _ trivial)
theorem edTwo_mem (down : Bool) (y : Int) (a b : List Rc) (n : Int) : n ∈ edTwo down y a b ↔ (∃ r ∈ a, isEd down y r n) ∨ ∃ r ∈ b, isEd down y r n := by
  unfold edTwo
  rw [ed_mem, ed_mem]
  simp
theorem edTwo_len (down : Bool) (y : Int) (a b : List Rc) : (edTwo down y a b).length ≤ 2 * (a.length + b.length) := by
  have h1 := ed_len down y a []
  have h2 := ed_len down y b (edF down y a [])
  unfold edTwo
  simp at h1
  omega
def hsB (r : Rc) (x y : Int) : Bool := decide (r.x ≤ x) && (decide (x < r.x + r.w) && (decide (r.y ≤ y) && decide (y < r.y + r.h)))
theorem hsB_iff (r : Rc) (x y : Int) : hsB r x y = true ↔ r.x ≤ x ∧ x < r.x + r.w ∧ r.y ≤ y ∧ y < r.y + r.h := by simp [hsB]
def hsD (l : List Rc) (x y : Int) : Bool := l.any fun r => hsB r x y
def Mays (l : List Rc) : Prop := ∀ r ∈ l, mayB r.x r.y r.w r.h = true
theorem hsD_iff {l : List Rc} (h : Mays l) (x y : Int) : hsD l x y = true ↔ cov l x y := by
  unfold hsD cov
  rw [List.any_eq_true]
  constructor
  · rintro ⟨r, hr, hx⟩
    have hx' := (hsB_iff r x y).1 hx
    refine ⟨r, hr, ?_, hx'.1, hx'.2.1, hx'.2.2.1, hx'.2.2.2⟩
    rw [keep_emD (h r hr), (emD_pos (h r hr)).2 (by omega)]
    rfl
  · rintro ⟨r, hr, _, h1, h2, h3, h4⟩
    exact ⟨r, hr, (hsB_iff r x y).2 ⟨h1, h2, h3, h4⟩⟩
def kpD (what : Int) (one other : Bool) : Bool := if what = 1 then one || other else if what = 2 then one && other else one && !other
def wK (what : Int) : Bool := decide (what = 2)
def wA (what : Int) (a b : List Rc) : List Rc := if what = 1 then a ++ b else a
def wB (what : Int) (b : List Rc) : List Rc := if what = 1 then [] else b
theorem kp_iff {a b : List Rc} (ha : Mays a) (hb : Mays b) (what x y : Int) : kpD what (hsD a x y) (hsD b x y) = true ↔ keepP (wK what) (cov (wA what a b) x y) (cov (wB what b) x y) := by
  unfold kpD wK wA wB keepP
  by_cases h1 : what = 1
  · subst h1
    simp only [if_true, Bool.or_eq_true, hsD_iff ha, hsD_iff hb, cov_app]
    simp [cov_nil]
  · rw [if_neg h1, if_neg h1, if_neg h1]
    by_cases h2 : what = 2
    · subst h2
      simp [hsD_iff ha, hsD_iff hb]
    · rw [if_neg h2]
      have hb' : hsD b x y = false ↔ ¬ cov b x y := by rw [← hsD_iff hb]; simp
      simp [hsD_iff ha, hb', h2]
/-- The spans of a row: between edges, side by side ones joined. -/
def spF (p : Int → Bool) : List Int → List Sp → List Sp
  | x :: x' :: t, acc => spF p (x' :: t) (if p x = true then runA acc x x' else acc)
  | _, acc => acc
def inP (p : Int → Bool) : List Int → Int → Prop
  | x :: x' :: t, z => (x ≤ z ∧ z < x' ∧ p x = true) ∨ inP p (x' :: t) z
  | _, _ => False
theorem sp_can (p : Int → Bool) (a0 : Int) : ∀ (xs : List Int) (acc : List Sp), Inc xs → Can a0 acc → (∀ x ∈ xs, a0 ≤ x ∧ lastB acc x) → Can a0 (spF p xs acc) ∧ ∀ z, inS (spF p xs acc) z ↔ inS acc z ∨ inP p xs z
  | [], acc, _, hc, _ => ⟨by simpa [spF] using hc, fun z => by simp [spF, inP]⟩
  | [x], acc, _, hc, _ => ⟨by simpa [spF] using hc, fun z => by simp [spF, inP]⟩
  | x :: x' :: t, acc, hi, hc, hx => by
    rw [spF]
    have hlt : x < x' := hi.1 x' (by simp)
    by_cases c : p x = true
    · rw [if_pos c]
      obtain ⟨r1, r2, r3⟩ := runA_can hc (hx x (by simp)).1 hlt (hx x (by simp)).2
      obtain ⟨q1, q2⟩ := sp_can p a0 (x' :: t) (runA acc x x') hi.2 r1 (fun q hq => ⟨(hx q (by simp only [List.mem_cons] at hq ⊢; exact .inr hq)).1, lastB_mono r2 (by have := hi.1 q hq; omega)⟩)
      refine ⟨q1, fun z => ?_⟩
      rw [q2, r3, inP]
      constructor
      · rintro ((h | h) | h)
        · exact .inl h
        · exact .inr (.inl ⟨h.1, h.2, c⟩)
        · exact .inr (.inr h)
      · rintro (h | h | h)
        · exact .inl (.inl h)
        · exact .inl (.inr ⟨h.1, h.2.1⟩)
        · exact .inr h
    · rw [if_neg c]
      obtain ⟨q1, q2⟩ := sp_can p a0 (x' :: t) acc hi.2 hc (fun q hq => hx q (by simp only [List.mem_cons] at hq ⊢; exact .inr hq))
      refine ⟨q1, fun z => ?_⟩
      rw [q2, inP]
      constructor
      · rintro (h | h)
        · exact .inl h
        · exact .inr (.inr h)
      · rintro (h | h | h)
        · exact .inl h
        · exact absurd h.2.2 c
        · exact .inr h
theorem inP_low (p : Int → Bool) : ∀ (t : List Int) (x z : Int), Inc (x :: t) → inP p (x :: t) z → x ≤ z ∧ ∃ b ∈ t, z < b
  | [], x, z, _, h => by simp [inP] at h
  | x' :: t, x, z, hi, h => by
    rw [inP] at h
    have hlt : x < x' := hi.1 x' (by simp)
    rcases h with h | h
    · exact ⟨h.1, x', by simp, h.2.1⟩
    · obtain ⟨h1, b, hb, h2⟩ := inP_low p t x' z hi.2 h
      exact ⟨by omega, b, by simp [hb], h2⟩
theorem inP_mid (p : Int → Bool) : ∀ (t : List Int) (x z : Int), Inc (x :: t) → x ≤ z → (∃ b ∈ t, z < b) → ∃ e ∈ x :: t, e ≤ z ∧ (∀ n ∈ x :: t, n ≤ z → n ≤ e) ∧ (inP p (x :: t) z ↔ p e = true)
  | [], x, z, _, _, h => by simp at h
  | x' :: t, x, z, hi, hx, hb => by
    have hlt : x < x' := hi.1 x' (by simp)
    by_cases c : z < x'
    · refine ⟨x, by simp, hx, ?_, ?_⟩
      · intro n hn hz
        rcases List.mem_cons.1 hn with rfl | hn
        · omega
        · rcases List.mem_cons.1 hn with rfl | hn
          · omega
          · have := hi.2.1 n hn; omega
      · rw [inP]
        constructor
        · rintro (h | h)
          · exact h.2.2
          · have := (inP_low p t x' z hi.2 h).1; omega
        · exact fun h => .inl ⟨hx, c, h⟩
    · have hb' : ∃ b ∈ t, z < b := by
        obtain ⟨b, hb, h⟩ := hb
        rcases List.mem_cons.1 hb with rfl | hb
        · omega
        · exact ⟨b, hb, h⟩
      obtain ⟨e, he, h1, h2, h3⟩ := inP_mid p t x' z hi.2 (by omega) hb'
      refine ⟨e, by simp only [List.mem_cons] at he ⊢; exact .inr he, h1, ?_, ?_⟩
      · intro n hn hz
        rcases List.mem_cons.1 hn with rfl | hn
        · have := h2 x' (by simp) (by omega); omega
        · exact h2 n hn hz
      · rw [inP, ← h3]
        constructor
        · rintro (h | h)
          · omega
          · exact h
        · exact fun h => .inr h
theorem hsD_step {l : List Rc} (hm : Mays l) {y e z : Int} (hz : e ≤ z) (h : ∀ r ∈ l, ∀ n, isEd false y r n → n ≤ z → n ≤ e) : hsD l z y = hsD l e y := by
  have key : ∀ r ∈ l, hsB r z y = hsB r e y := by
    intro r hr
    rw [Bool.eq_iff_iff, hsB_iff, hsB_iff]
    have q := h r hr
    unfold isEd at q
    have ep := emD_pos (hm r hr)
    constructor
    · rintro ⟨h1, h2, h3, h4⟩
      have := q r.x ⟨ep.2 (by omega), by simp; omega⟩ h1
      exact ⟨this, by omega, h3, h4⟩
    · rintro ⟨h1, h2, h3, h4⟩
      refine ⟨by omega, ?_, h3, h4⟩
      rcases Int.lt_or_le z (r.x + r.w) with c | c
      · exact c
      · have := q (r.x + r.w) ⟨ep.2 (by omega), by simp; omega⟩ c
        omega
  unfold hsD
  rw [Bool.eq_iff_iff, List.any_eq_true, List.any_eq_true]
  constructor
  · rintro ⟨r, hr, hx⟩; exact ⟨r, hr, by rw [← key r hr]; exact hx⟩
  · rintro ⟨r, hr, hx⟩; exact ⟨r, hr, by rw [key r hr]; exact hx⟩
theorem hsD_edge {l : List Rc} (hm : Mays l) {y z : Int} (h : hsD l z y = true) : ∃ r ∈ l, isEd false y r r.x ∧ isEd false y r (r.x + r.w) ∧ r.x ≤ z ∧ z < r.x + r.w := by
  unfold hsD at h
  obtain ⟨r, hr, hx⟩ := List.any_eq_true.1 h
  obtain ⟨h1, h2, h3, h4⟩ := (hsB_iff r z y).1 hx
  have ep := (emD_pos (hm r hr)).2 (by omega)
  refine ⟨r, hr, ?_, ?_, h1, h2⟩
  · unfold isEd; exact ⟨ep, by simp; omega⟩
  · unfold isEd; exact ⟨ep, by simp; omega⟩
theorem kpD_or {what : Int} {o t : Bool} (h : kpD what o t = true) : o = true ∨ t = true := by
  unfold kpD at h
  split at h
  · simpa using h
  · split at h
    · simp at h; exact .inl h.1
    · simp at h; exact .inl h.1
theorem row_doc {a b : List Rc} (ha : Mays a) (hb : Mays b) (what y : Int) : spF (fun x => kpD what (hsD a x y) (hsD b x y)) (edTwo false y a b) [] = rowW (wK what) (wA what a b) (wB what b) y := by
  have hi := edTwo_inc false y a b
  have hmem := edTwo_mem false y a b
  have hlo : ∀ x ∈ edTwo false y a b, (-16384 : Int) ≤ x ∧ lastB [] x := by
    intro x hx
    refine ⟨?_, trivial⟩
    rcases (hmem x).1 hx with ⟨r, hr, h⟩ | ⟨r, hr, h⟩
    · have b := may_bd (ha r hr); unfold isEd at h; simp at h; omega
    · have b := may_bd (hb r hr); unfold isEd at h; simp at h; omega
  obtain ⟨c1, c2⟩ := sp_can (fun x => kpD what (hsD a x y) (hsD b x y)) (-16384) _ [] hi trivial hlo
  refine can_unique c1 (rowW_can _ _ _ y).1 fun z => ?_
  rw [c2, (rowW_can _ _ _ y).2, ← kp_iff ha hb]
  have he : ∀ {z : Int}, kpD what (hsD a z y) (hsD b z y) = true → ∃ u v, u ∈ edTwo false y a b ∧ v ∈ edTwo false y a b ∧ u ≤ z ∧ z < v := by
    intro z h
    rcases kpD_or h with h | h
    · obtain ⟨r, hr, h1, h2, h3, h4⟩ := hsD_edge ha h
      exact ⟨_, _, (hmem _).2 (.inl ⟨r, hr, h1⟩), (hmem _).2 (.inl ⟨r, hr, h2⟩), h3, h4⟩
    · obtain ⟨r, hr, h1, h2, h3, h4⟩ := hsD_edge hb h
      exact ⟨_, _, (hmem _).2 (.inr ⟨r, hr, h1⟩), (hmem _).2 (.inr ⟨r, hr, h2⟩), h3, h4⟩
  have hst : ∀ {e z : Int}, e ≤ z → (∀ n ∈ edTwo false y a b, n ≤ z → n ≤ e) → kpD what (hsD a z y) (hsD b z y) = kpD what (hsD a e y) (hsD b e y) := by
    intro e z h1 h2
    rw [hsD_step ha h1 fun r hr n hn => h2 n ((hmem n).2 (.inl ⟨r, hr, hn⟩)), hsD_step hb h1 fun r hr n hn => h2 n ((hmem n).2 (.inr ⟨r, hr, hn⟩))]
  clear hlo c1 c2
  generalize edTwo false y a b = xs at *
  cases xs with
  | nil =>
    constructor
    · rintro (h | h)
      · exact absurd h (inS_nil z)
      · simp [inP] at h
    · intro h
      obtain ⟨u, _, hu, _⟩ := he h
      simp at hu
  | cons x t =>
    by_cases c : x ≤ z ∧ ∃ b ∈ t, z < b
    · obtain ⟨e, _, h1, h2, h3⟩ := inP_mid (fun x => kpD what (hsD a x y) (hsD b x y)) t x z hi c.1 c.2
      rw [h3, hst h1 h2]
      exact ⟨fun h => h.resolve_left (inS_nil z), .inr⟩
    · constructor
      · rintro (h | h)
        · exact absurd h (inS_nil z)
        · exact absurd (inP_low _ t x z hi h) c
      · intro h
        obtain ⟨u, v, hu, hv, h1, h2⟩ := he h
        refine absurd ?_ c
        have hx : x ≤ z := by
          rcases List.mem_cons.1 hu with rfl | hu
          · exact h1
          · have := hi.1 u hu; omega
        refine ⟨hx, ?_⟩
        rcases List.mem_cons.1 hv with rfl | hv
        · omega
        · exact ⟨v, hv, h2⟩
theorem edges_doc {a b : List Rc} (ha : Mays a) (hb : Mays b) (what : Int) (y : Int) : edTwo true y a b = edgesF (wA what a b ++ wB what b) := by
  refine inc_unique (edTwo_inc _ _ _ _) (edges_inc _).1 fun n => ?_
  rw [(edges_inc _).2, edTwo_mem]
  have key : ∀ {l : List Rc}, Mays l → ((∃ r ∈ l, isEd true y r n) ↔ isEdge l n) := by
    intro l hl
    unfold isEdge isEd
    simp only [if_true]
    constructor
    · rintro ⟨r, hr, h1, h2⟩
      exact ⟨r, hr, by rw [keep_emD (hl r hr), h1]; rfl, h2⟩
    · rintro ⟨r, hr, h1, h2⟩
      exact ⟨r, hr, by rw [keep_emD (hl r hr)] at h1; simpa using h1, h2⟩
  rw [key ha, key hb]
  unfold wA wB
  by_cases h : what = 1
  · rw [if_pos h, if_pos h, List.append_nil, isEdge_app]
  · rw [if_neg h, if_neg h, isEdge_app]
/-- The spans of the band that ends here. -/
def lastS : List Bd → Int → List Sp
  | [], _ => []
  | d :: _, t => if d.2.1 = t then d.2.2 else []
theorem flatB_cons (d : Bd) (ds : List Bd) : flatB (d :: ds) = flatB ds ++ rcts d := by
  simp [flatB]
theorem rcts_len (d : Bd) : (rcts d).length = d.2.2.length := by simp [rcts]
theorem bandS_lenD (sp : List Sp) (t b : Int) (acc : List Bd) : (flatB acc).length ≤ (flatB (bandS sp t b acc)).length := by
  cases acc with
  | nil => simp [flatB]
  | cons d ds =>
    rw [bandS]
    split
    · exact Nat.le_refl _
    · split
      · rw [flatB_cons, flatB_cons, List.length_append, List.length_append, rcts_len, rcts_len]; exact Nat.le_refl _
      · rw [flatB_cons (t, b, sp)]; simp
theorem bandsF_lenD (row : Int → List Sp) : ∀ (ys : List Int) (acc : List Bd), (flatB acc).length ≤ (flatB (bandsF row ys acc)).length
  | [], acc => by simp [bandsF]
  | [_], acc => by simp [bandsF]
  | t :: b :: rest, acc => by
    rw [bandsF]
    exact Nat.le_trans (bandS_lenD _ _ _ _) (bandsF_lenD row (b :: rest) _)
/-- What a step of the document's way makes of the bands. -/
theorem bandS_alike {sp : List Sp} {t b : Int} {acc : List Bd} (h : sp = lastS acc t) (hn : sp ≠ []) : ∃ d ds, acc = d :: ds ∧ d.2.1 = t ∧ d.2.2 = sp ∧ bandS sp t b acc = (d.1, b, sp) :: ds := by
  cases acc with
  | nil => exact absurd h hn
  | cons d ds =>
    rw [lastS] at h
    split at h
    · next c =>
      refine ⟨d, ds, rfl, c, h.symm, ?_⟩
      rw [bandS, if_neg hn, if_pos ⟨c, h.symm⟩, ← h]
    · exact absurd h hn
theorem bandS_other {sp : List Sp} {t b : Int} {acc : List Bd} (h : sp ≠ lastS acc t) (hn : sp ≠ []) : bandS sp t b acc = (t, b, sp) :: acc := by
  cases acc with
  | nil => rw [bandS, if_neg hn]
  | cons d ds =>
    rw [lastS] at h
    rw [bandS, if_neg hn, if_neg]
    rintro ⟨h1, h2⟩
    rw [if_pos h1] at h
    exact h h2.symm
theorem bandS_none (t b : Int) (acc : List Bd) : bandS [] t b acc = acc := by
  cases acc with
  | nil => simp [bandS]
  | cons d ds => simp [bandS]
theorem lastS_high {z t : Int} {acc : List Bd} (h : BanR z acc) (hz : z < t) : lastS acc t = [] := by
  cases acc with
  | nil => rfl
  | cons d ds =>
    have := h.1
    rw [lastS, if_neg (by omega)]

end Go.Proofs.YtbghjmkgicdnoaaGreat
