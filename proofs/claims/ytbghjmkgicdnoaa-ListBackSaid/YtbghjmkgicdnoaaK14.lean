/-
  Texts of this claim, one behind the other: what each is about stands ahead of it.
-/
import Derived.Test.YtbghjmkgicdnoaaK13
import Derived.Deep.CutBlock
/-
  Contracts of the document's answer for layer 13: Norm.
-/
namespace Go.Proofs.Ytbghjmkgicdnoaa
open Go.RowKit

theorem clp_ones : ∀ (l : List St) (n : Nat), clpE n l = 0 → ∀ s ∈ l, oneE s = 0
  | [], _, _, s, hs => by cases hs
  | x :: l, n, h, s, hs => by
    obtain ⟨h1, _, h3⟩ := clpE_cons h
    rcases List.mem_cons.1 hs with rfl | hs
    · exact h1
    · exact clp_ones l _ h3 s hs
theorem plc_len (s : St) (r : Rc) : (plc s r).length ≤ 4 := by
  unfold plc
  split
  · simp
  · split
    · refine Nat.le_trans (List.length_filter_le _ _) ?_
      simp [sidR]
    · simp
def hidP (P : List Rc) (q : St × Rc) : Bool := opq q.1 && P.all fun a => zIn a q.2
/-- Rectangles of one's own with the strokes, as calls want them. -/
def norE (l : List St) : List St := if chkS l = 0 then norL l else []
/-- What is answered: strokes of one's own and an error. -/
def AnsS (w : World) (L : List St) (E : Int) (e : Ending) (w' : World) : Prop := ∃ u, e = .returned (.tuple #[u, .int .i64 E]) ∧ Hid (OwS w.heap.size w' u L ∧ Below w.heap.size w w')

/-- A list of strokes and the rectangles in which they show, in memory. -/
structure ShL (w : World) (B : Nat) (w2 : World) (l : List St) (A : List (St × Rc)) (g o g1 : Nat) : Prop where
  b : Below w.heap.size w w2
  e : B = w2.heap.size
  s : ∀ k p, A[k]? = some p → g < w.heap.size ∧ StAt w g (o + k * 15) p.1
  r : ∀ k p, A[k]? = some p → g1 < B ∧ RcAt w2 g1 (k * 4) p.2
  n : A.length = l.length
  k : ∀ p ∈ A, oneE p.1 = 0
theorem ShL.at {w : World} {B : Nat} {w2 : World} {l : List St} {A : List (St × Rc)} {g o g1 : Nat} (h : ShL w B w2 l A g o g1) {k : Nat} {p : St × Rc} (hp : A[k]? = some p) {W : World} (hb : Below B w2 W) : StAt W g (o + k * 15) p.1 ∧ RcAt W g1 (k * 4) p.2 := by
  obtain ⟨h1, h2⟩ := h.s k p hp
  obtain ⟨h3, h4⟩ := h.r k p hp
  have hbw : Below w.heap.size w W := by
    rw [h.e] at hb
    exact h.b.trans (hb.mono h.b.size)
  exact ⟨h2.kept fun j => hbw.cell (p := ⟨g, j, none⟩) h1, h4.kept fun j => hb.cell (p := ⟨g1, j, none⟩) h3⟩
theorem shl_of {w w1 w2 : World} {l : List St} {g o g1 cap : Nat} (hs : ∀ i (h : i < l.length), StAt w g (o + i * 15) l[i]) (hg : g < w.heap.size) (h1 : Below w.heap.size w w1) (hb : Below w1.heap.size w1 w2) (hus : OwR w1.heap.size w2 (.slice (some ⟨g1, 0, none⟩) l.length cap) ((ann [] l).map Prod.snd)) (hc : clpE 0 l = 0) : ShL w w2.heap.size w2 l (ann [] l) g o g1 := by
  have hm : ∀ k p, (ann [] l)[k]? = some p → ∃ h : k < l.length, p.1 = l[k] := fun k p hp => by
    obtain ⟨hk, he⟩ := List.getElem?_eq_some_iff.1 hp
    have hk' : k < l.length := by rw [ann_len] at hk; exact hk
    refine ⟨hk', ?_⟩
    have := congrArg (fun L : List St => L[k]?) (ann_fst l [])
    simp only [List.getElem?_map, hp, List.getElem?_eq_getElem hk', Option.map_some, Option.some.injEq] at this
    exact this
  refine ⟨h1.trans (hb.mono h1.size), rfl, fun k p hp => ?_, fun k p hp => ?_, ann_len l [], fun p hp => ?_⟩
  · obtain ⟨hk, e⟩ := hm k p hp
    rw [e]
    exact ⟨hg, hs k hk⟩
  · obtain ⟨hk, he⟩ := List.getElem?_eq_some_iff.1 hp
    have hk' : k < l.length := by rw [ann_len] at hk; exact hk
    obtain ⟨oa', cap', e2, _, hg'⟩ := lsr_own hus
    obtain ⟨g', o', e3, hlt, hat⟩ := hg' (by rw [List.length_map, ann_len]; omega)
    injection e2 with e2 _ _
    rw [e3] at e2
    injection e2 with e2
    injection e2 with e4 e5 _
    subst e4 e5
    refine ⟨hlt, ?_⟩
    have := hat k (by rw [List.length_map]; exact hk)
    rw [Nat.zero_add, List.getElem_map, he] at this
    exact this
  · obtain ⟨k, hk, he⟩ := List.mem_iff_getElem.1 hp
    obtain ⟨hk', e⟩ := hm k p (by rw [List.getElem?_eq_getElem hk, he])
    rw [e]
    exact clp_ones l 0 hc _ (List.getElem_mem hk')

end Go.Proofs.Ytbghjmkgicdnoaa

/-
  The statements' own lists of strokes: lent, kept, written over.
-/
namespace Go.Proofs.Ytbghjmkgicdnoaa
open Go.RowKit

def markS : St := ⟨0, zr, ⟨0, 0, 0, 0⟩, ⟨0, 0, 0, 0⟩, ⟨#[]⟩, 77⟩
theorem lss_src {w : World} {g o : Nat} {M : List St} (h : ∀ i (h : i < M.length), StAt w g (o + i * 15) M[i]) : ∀ (j : Nat) (u : Value), (flatZ M)[j]? = some u → w.cell? ((⟨g, o, none⟩ : Addr).add j) = some u := by
  intro j u hj
  have hl : j < (flatZ M).length := (List.getElem?_eq_some_iff.1 hj).1
  rw [flatZ_len] at hl
  have hq : j / 15 < M.length := by omega
  have h1 := flatZ_at M (j / 15) hq (j % 15) (Nat.mod_lt _ (by decide))
  have h2 := stat_iff.1 (h (j / 15) hq) (j % 15) (Nat.mod_lt _ (by decide))
  rw [show j / 15 * 15 + j % 15 = j by omega, hj] at h1
  rw [← h1, Nat.add_assoc, show j / 15 * 15 + j % 15 = j by omega] at h2
  have e : (⟨g, o, none⟩ : Addr).add j = ⟨g, o + j, none⟩ := by unfold Addr.add; split <;> simp_all
  rw [e]
  exact h2
/-- A list that lies somewhere laid behind no list. -/
theorem app_firstS {P : Program} {w : World} {ops : Array Oper} {rest : List Oper} {o : Oper} {a : Act} {Q : Exit → Act → World → Prop} (hgd : o.guard = none) (s x : Operand)
    (ho : o.op = .call { callee := .builtin .append, args := #[s, x], argTypes := #[36, 36] })
    (i : TypeInfo) (ht : P.underlying 36 = some (.slice 31)) (hi : P.info? 31 = some i) (hz : i.zero = some (.agg #[.int .u8 0, .int .i64 0, .int .i64 0, .int .i64 0, .int .i64 0, .int .u8 0, .int .u8 0, .int .u8 0, .int .u8 0, .int .u8 0, .int .u8 0, .int .u8 0, .int .u8 0, .string ByteArray.empty, .int .i64 0]))
    (hsize : i.size = 15) (hby : i.bytes = 72) (hs : a.eval s = .slice none 0 0) (rs : List St) (oa : Option Addr) (cap : Nat) (hx : a.eval x = .slice oa rs.length cap) (hv : LsS w (.slice oa rs.length cap) rs) (hn : NoNil (.slice oa rs.length cap))
    (hl : rs.length ≤ 100000) (h : ∀ v' w', Hid (OwS w.heap.size w' v' rs ∧ Below w.heap.size w w') → wpList P ops Q rest (a.put o.dst v') w') : wpList P ops Q (o :: rest) a w := by
  have hown : w.ownsRow w.heap.size 31 15 (.slice none 0 0) 0 [] := World.ownsRow_nil _ _ _ _
  cases oa with
  | none =>
    have h0 : rs = [] := by
      obtain ⟨oa, cap', e, _, hg⟩ := hv
      cases rs with
      | nil => rfl
      | cons r t =>
        obtain ⟨g, o, e2, _⟩ := hg (by simp)
        injection e with e1 _ _
        rw [e2] at e1
        cases e1
    subst h0
    obtain rfl : cap = 0 := hn cap rfl
    refine app_none hgd s x _ ho w.heap.size 31 i 15 ht hi (.slice none 0 0) 0 [] hs hown hx ?_
    rintro _ _ rfl rfl
    exact h _ _ ⟨hown, Below.refl _ _⟩
  | some ad =>
    refine wpList_append_own _ hgd s x _ ho w.heap.size 31 i (.agg #[.int .u8 0, .int .i64 0, .int .i64 0, .int .i64 0, .int .i64 0, .int .u8 0, .int .u8 0, .int .u8 0, .int .u8 0, .int .u8 0, .int .u8 0, .int .u8 0, .int .u8 0, .string ByteArray.empty, .int .i64 0]) 15 72 ht hi hz hsize hby rfl (by decide) (.slice none 0 0) 0 [] hs hown ad rs.length cap (flatZ rs) hx (flatZ_len rs) ?_ (onesZ rs) (by unfold maxLen; omega) (by omega) (Nat.le_refl _) ?_
    · intro j u hj
      obtain ⟨oa, cap', e, _, hg⟩ := hv
      have hp : 0 < rs.length := by
        cases rs with
        | nil => simp [flatZ] at hj
        | cons r t => simp
      obtain ⟨g, o, e2, _, hat⟩ := hg hp
      injection e with e1 _ _
      rw [e2] at e1
      injection e1 with e1
      subst e1
      exact lss_src hat j u hj
    · intro v' w' h2 h3 _
      rw [Nat.zero_add, List.nil_append] at h2
      exact h v' w' ⟨h2, (Below.refl _ w).grown h3 (Nat.le_refl _) (fun g e => by cases e)⟩
/-- A list of one's own, a mark behind it; its block lies from lo up to hi. -/
def LenS (lo hi : Nat) (W : World) (v : Value) (rs : List St) : Prop := OwS lo W v (rs ++ [markS]) ∧ ∀ g, v.ownBlock = some g → g < hi
theorem LenS.below {lo hi : Nat} {W W' : World} {v : Value} {rs : List St} (h : LenS lo hi W v rs) (hb : Below W.heap.size W W') : LenS lo hi W' v rs := ⟨h.1.below hb, h.2⟩
theorem LenS.val {lo hi : Nat} {W : World} {v : Value} {rs : List St} (h : LenS lo hi W v rs) : ∃ g cap, v = .slice (some ⟨g, 0, none⟩) (rs.length + 1) cap ∧ rs.length + 1 ≤ cap ∧ g < W.heap.size ∧ lo ≤ g ∧ g < hi := by
  obtain ⟨oa, cap, e, hc, hg⟩ := row_val h.1
  obtain ⟨g, e1, e2, e3⟩ := hg (by simp)
  subst e1
  subst e
  exact ⟨g, cap, by simp, by simpa using hc, e3, e2, h.2 g rfl⟩
/-- The list without its mark. -/
theorem LenS.lss {lo hi : Nat} {W : World} {g n cap : Nat} {rs : List St} (h : LenS lo hi W (.slice (some ⟨g, 0, none⟩) n cap) rs) : LsS W (.slice (some ⟨g, 0, none⟩) rs.length cap) rs := by
  obtain ⟨oa, cap', e, hc, hg⟩ := h.1.lss
  obtain ⟨g', o, e1, hlt, hat⟩ := hg (by simp)
  injection e with e2 _ e3
  rw [e1] at e2
  injection e2 with e2
  injection e2 with e4 e5 _
  subst e4 e5 e3
  refine ⟨_, cap, rfl, by simp at hc; omega, fun hp => ⟨g, 0, rfl, hlt, fun i hi => ?_⟩⟩
  have q := hat i (by simp; omega)
  rwa [List.getElem_append_left hi] at q
theorem LenS.mark {lo hi : Nat} {W : World} {g n cap : Nat} {rs : List St} (h : LenS lo hi W (.slice (some ⟨g, 0, none⟩) n cap) rs) : StAt W g (rs.length * 15) markS := by
  obtain ⟨oa, cap', e, hc, hg⟩ := h.1.lss
  obtain ⟨g', o, e1, hlt, hat⟩ := hg (by simp)
  injection e with e2 _ e3
  rw [e1] at e2
  injection e2 with e2
  injection e2 with e4 e5 _
  subst e4 e5 e3
  have q := hat rs.length (by simp)
  have e : (rs ++ [markS])[rs.length]'(by simp) = markS := by simp
  rw [e, Nat.zero_add] at q
  exact q

set_option maxRecDepth 20000 in
set_option maxHeartbeats 4000000 in
theorem own_any (rs : List St) (v : Value) (w : World) (hv : LsS w v rs) (hn : NoNil v) (hl : rs.length ≤ 20000) :
    Calls Try.prog 21 #[v] w fun e w' => ∃ u, e = .returned u ∧ LenS w.heap.size w'.heap.size w' u rs ∧ Below w.heap.size w w' := by
  obtain ⟨oa, cap, rfl, hc, _⟩ := id hv
  obtain ⟨i0, hi, hz0, hz1, hz2⟩ := info_parts info_strokeZ
  have HV : Hid (LsS w (.slice oa rs.length cap) rs ∧ NoNil (.slice oa rs.length cap)) := ⟨hv, hn⟩
  clear hv hn
  go_enter Try.func21, Try.ntmps21
  go_wp2_with (at_builtin; refine app_firstS rfl _ _ rfl i0 Try.underlying36 hi hz0 hz1 hz2 rfl rs oa cap rfl HV.out.1 HV.out.2 (by omega) ?_)
  intro v1 w1 H1
  have hc3 : Hid (rs.length + 1 ≤ maxLen) := by unfold Hid maxLen; omega
  have hc4 : Hid ((rs.length + 1) * 72 ≤ 140737488355328) := by unfold Hid; omega
  have HA : Hid (∀ o, (w1.alloc o).ownsRow w.heap.size 31 15 v1 rs.length (flatZ rs) ∧ Below w.heap.size w (w1.alloc o)) := fun o => ⟨row_below H1.out.1 ((Below.refl _ _).alloc (Nat.le_refl _) _), H1.out.2.alloc H1.out.2.size _⟩
  go_wp2_with (at_builtin; refine wpList_append_own _ rfl _ _ 36 rfl w.heap.size 31 i0 (.agg #[.int .u8 0, .int .i64 0, .int .i64 0, .int .i64 0, .int .i64 0, .int .u8 0, .int .u8 0, .int .u8 0, .int .u8 0, .int .u8 0, .int .u8 0, .int .u8 0, .int .u8 0, .string ByteArray.empty, .int .i64 0]) 15 72 Try.underlying36 hi hz0 hz1 hz2 rfl (by decide) v1 rs.length (flatZ rs) rfl (HA.out _).1 _ 1 1 (sCel markS) rfl rfl (cell_strokeB _ markS _ _ rfl) (oneZ markS) hc3.out hc4.out (HA.out _).2.size ?_)
  intro v2 w2 hown hgrow hnil
  have HF : Hid (LenS w.heap.size w2.heap.size w2 v2 rs ∧ Below w.heap.size w w2) := by
    have h1 : OwS w.heap.size w2 v2 (rs ++ [markS]) := snocS rfl hown
    exact ⟨⟨h1, fun g hg => (row_lt h1 g hg).2⟩, app_below (HA.out _).2 (HA.out _).1 (Nat.le_refl _) hgrow⟩
  clear hown hgrow hnil hi hz0 hz1 hz2 HA H1 HV
  go_wp2
  go_ret
  exact ⟨_, rfl, HF.out⟩

set_option maxRecDepth 20000 in
set_option maxHeartbeats 4000000 in
theorem kept_any (lo hi : Nat) (rs : List St) (x v : Value) (w : World) (hx : LenS lo hi w x rs) (hv : LsS w v rs) (hl : rs.length ≤ 20000) :
    Calls Try.prog 27 #[x, v] w fun e w' => e = .returned (.bool true) ∧ Below w.heap.size w w' := by
  obtain ⟨g, cap, rfl, hc, hgl, _⟩ := hx.val
  have HS : Hid (Calls Try.prog 24 #[.slice (some ⟨g, 0, none⟩) rs.length cap, v] w fun e w' => e = .returned (.bool true) ∧ Below w.heap.size w w') := by
    have q := zsame_any rs rs _ v w hx.lss hv (by omega)
    rw [samZ_self] at q
    exact q
  obtain ⟨m0, m1, m2, m3, m4, m5, m6, m7, m8, m9, m10, m11, m12, m13, m14⟩ := hx.mark
  obtain ⟨oa, cap2, rfl, hc2, _⟩ := hv
  have he := fun W => eql_stroke markS markS W
  rw [eqS_self] at he
  simp only [markS] at m0 m1 m2 m3 m4 m5 m6 m7 m8 m9 m10 m11 m12 m13 m14 he
  clear hx
  go_enter Try.func27, Try.ntmps27
  go_wp2_with fail
  refine HS.out.mono ?_
  rintro e w1 ⟨rfl, hb1⟩
  have H1 : Hid (Below w.heap.size w w1) := hb1
  clear hb1
  go_wp2
  go_ret
  exact ⟨rfl, H1.out⟩

theorem grow_trS {w W W' : World} {r s : Option Nat} (h : w.grownBy W r) (k : W.grownBy W' s) (hs : s = r ∨ ∀ g, s = some g → w.heap.size ≤ g) : w.grownBy W' r := by
  refine ⟨k.os.trans h.os, k.tape.trans h.tape, k.output.trans h.output, Nat.le_trans h.size k.size, fun b hb hr => ?_⟩
  refine (k.block b (Nat.lt_of_lt_of_le hb h.size) ?_).trans (h.block b hb hr)
  intro c
  rcases hs with rfl | hs
  · exact hr c
  · have := hs b c.symm
    omega
theorem grow_setS (w : World) (g o : Nat) (v : Value) : w.grownBy (w.setCell ⟨g, o, none⟩ v) (some g) :=
  ⟨rfl, rfl, rfl, ((Below.refl 0 w).setCell (p := ⟨g, o, none⟩) (Nat.zero_le _) v).size, fun b _ hb => Below.heap_setCell _ _ _ b (fun e => hb (by rw [e]))⟩

set_option maxRecDepth 20000 in
set_option maxHeartbeats 8000000 in
theorem spoil_any (lo : Nat) (L : List St) (v : Value) (w : World) (ho : OwS lo w v L) (hl : L.length ≤ 20000) :
    Calls Try.prog 26 #[v] w fun e w' => e = .returned (.tuple #[]) ∧ w.grownBy w' v.ownBlock := by
  obtain ⟨oa, cap, rfl, hc, hg⟩ := row_val ho
  have HG : Hid (0 < L.length → ∃ g, oa = some ⟨g, 0, none⟩ ∧ lo ≤ g ∧ g < w.heap.size) := hg
  obtain ⟨ob, hob⟩ : ∃ ob, ob = (Value.slice oa L.length cap).ownBlock := ⟨_, rfl⟩
  have HOB : Hid (ob = (Value.slice oa L.length cap).ownBlock) := hob
  have H0 : Hid (∃ xs, w.ownsRow lo 31 15 (.slice oa L.length cap) L.length xs ∧ w.grownBy w ob) := ⟨_, ho, World.grownBy.refl _ _⟩
  rw [← hob]
  clear hob ho hg
  generalize L.length = n at *
  go_enter Try.func26, Try.ntmps26
  go_wp2_with fail
  go_loopw [2] (fun i wr => ∃ k : Nat, i = .int .i64 k ∧ k ≤ n ∧ Hid (∃ xs, wr.ownsRow lo 31 15 (.slice oa n cap) n xs ∧ w.grownBy wr ob)) (fun i _ => n - (intOf i).toNat)
  case atStart => exact ⟨0, rfl, Nat.zero_le _, H0⟩
  case round =>
    obtain ⟨k, rfl, hk, HR⟩ := hrel
    by_cases hlt : k < n
    · have ik : (k : Int) < n := by omega
      obtain ⟨g, rfl, hg1, hg2⟩ := HG.out (by omega)
      have hob : ob = some g := HOB.out
      obtain ⟨xs, hown, hgr⟩ := HR.out
      have hxl : xs.length = n * 15 := hown.1
      have cc : ∀ j, j < 15 → ∃ z, wr.cell? ⟨g, k * 15 + j, none⟩ = some z := fun j hj => ⟨xs[k * 15 + j]'(by omega), (own_cell hown (k * 15 + j) (by omega)).trans (List.getElem?_eq_getElem _)⟩
      obtain ⟨z0, c0⟩ := cc 0 (by decide)
      obtain ⟨z1, c1⟩ := cc 1 (by decide)
      obtain ⟨z2, c2⟩ := cc 2 (by decide)
      obtain ⟨z3, c3⟩ := cc 3 (by decide)
      obtain ⟨z4, c4⟩ := cc 4 (by decide)
      obtain ⟨z5, c5⟩ := cc 5 (by decide)
      obtain ⟨z6, c6⟩ := cc 6 (by decide)
      obtain ⟨z7, c7⟩ := cc 7 (by decide)
      obtain ⟨z8, c8⟩ := cc 8 (by decide)
      obtain ⟨z9, c9⟩ := cc 9 (by decide)
      obtain ⟨z10, c10⟩ := cc 10 (by decide)
      obtain ⟨z11, c11⟩ := cc 11 (by decide)
      obtain ⟨z12, c12⟩ := cc 12 (by decide)
      obtain ⟨z13, c13⟩ := cc 13 (by decide)
      obtain ⟨z14, c14⟩ := cc 14 (by decide)
      have ff := own_frozen hown
      have f0 := ff (k * 15)
      have f1 := ff (k * 15 + 1)
      have f2 := ff (k * 15 + 2)
      have f3 := ff (k * 15 + 3)
      have f4 := ff (k * 15 + 4)
      have f5 := ff (k * 15 + 5)
      have f6 := ff (k * 15 + 6)
      have f7 := ff (k * 15 + 7)
      have f8 := ff (k * 15 + 8)
      have f9 := ff (k * 15 + 9)
      have f10 := ff (k * 15 + 10)
      have f11 := ff (k * 15 + 11)
      have f12 := ff (k * 15 + 12)
      have f13 := ff (k * 15 + 13)
      have f14 := ff (k * 15 + 14)
      have HRel : Hid (∃ xs, (((((((((((((((wr.setCell ⟨g, k * 15, none⟩ (.int .u8 0)).setCell ⟨g, k * 15 + 1, none⟩ (.int .i64 0)).setCell ⟨g, k * 15 + 2, none⟩ (.int .i64 0)).setCell ⟨g, k * 15 + 3, none⟩ (.int .i64 0)).setCell ⟨g, k * 15 + 4, none⟩ (.int .i64 0)).setCell ⟨g, k * 15 + 5, none⟩ (.int .u8 0)).setCell ⟨g, k * 15 + 6, none⟩ (.int .u8 0)).setCell ⟨g, k * 15 + 7, none⟩ (.int .u8 0)).setCell ⟨g, k * 15 + 8, none⟩ (.int .u8 0)).setCell ⟨g, k * 15 + 9, none⟩ (.int .u8 0)).setCell ⟨g, k * 15 + 10, none⟩ (.int .u8 0)).setCell ⟨g, k * 15 + 11, none⟩ (.int .u8 0)).setCell ⟨g, k * 15 + 12, none⟩ (.int .u8 0)).setCell ⟨g, k * 15 + 13, none⟩ (.string ByteArray.empty)).setCell ⟨g, k * 15 + 14, none⟩ (.int .i64 76)).ownsRow lo 31 15 (.slice (some ⟨g, 0, none⟩) n cap) n xs ∧ w.grownBy (((((((((((((((wr.setCell ⟨g, k * 15, none⟩ (.int .u8 0)).setCell ⟨g, k * 15 + 1, none⟩ (.int .i64 0)).setCell ⟨g, k * 15 + 2, none⟩ (.int .i64 0)).setCell ⟨g, k * 15 + 3, none⟩ (.int .i64 0)).setCell ⟨g, k * 15 + 4, none⟩ (.int .i64 0)).setCell ⟨g, k * 15 + 5, none⟩ (.int .u8 0)).setCell ⟨g, k * 15 + 6, none⟩ (.int .u8 0)).setCell ⟨g, k * 15 + 7, none⟩ (.int .u8 0)).setCell ⟨g, k * 15 + 8, none⟩ (.int .u8 0)).setCell ⟨g, k * 15 + 9, none⟩ (.int .u8 0)).setCell ⟨g, k * 15 + 10, none⟩ (.int .u8 0)).setCell ⟨g, k * 15 + 11, none⟩ (.int .u8 0)).setCell ⟨g, k * 15 + 12, none⟩ (.int .u8 0)).setCell ⟨g, k * 15 + 13, none⟩ (.string ByteArray.empty)).setCell ⟨g, k * 15 + 14, none⟩ (.int .i64 76)) ob) := by
        refine ⟨_, (own_set (own_set (own_set (own_set (own_set (own_set (own_set (own_set (own_set (own_set (own_set (own_set (own_set (own_set (own_set hown (k * 15) (.int .u8 0)) (k * 15 + 1) (.int .i64 0)) (k * 15 + 2) (.int .i64 0)) (k * 15 + 3) (.int .i64 0)) (k * 15 + 4) (.int .i64 0)) (k * 15 + 5) (.int .u8 0)) (k * 15 + 6) (.int .u8 0)) (k * 15 + 7) (.int .u8 0)) (k * 15 + 8) (.int .u8 0)) (k * 15 + 9) (.int .u8 0)) (k * 15 + 10) (.int .u8 0)) (k * 15 + 11) (.int .u8 0)) (k * 15 + 12) (.int .u8 0)) (k * 15 + 13) (.string ByteArray.empty)) (k * 15 + 14) (.int .i64 76)), ?_⟩
        rw [hob] at hgr ⊢
        exact (grow_trS (grow_trS (grow_trS (grow_trS (grow_trS (grow_trS (grow_trS (grow_trS (grow_trS (grow_trS (grow_trS (grow_trS (grow_trS (grow_trS (grow_trS hgr (grow_setS _ _ _ _) (.inl rfl)) (grow_setS _ _ _ _) (.inl rfl)) (grow_setS _ _ _ _) (.inl rfl)) (grow_setS _ _ _ _) (.inl rfl)) (grow_setS _ _ _ _) (.inl rfl)) (grow_setS _ _ _ _) (.inl rfl)) (grow_setS _ _ _ _) (.inl rfl)) (grow_setS _ _ _ _) (.inl rfl)) (grow_setS _ _ _ _) (.inl rfl)) (grow_setS _ _ _ _) (.inl rfl)) (grow_setS _ _ _ _) (.inl rfl)) (grow_setS _ _ _ _) (.inl rfl)) (grow_setS _ _ _ _) (.inl rfl)) (grow_setS _ _ _ _) (.inl rfl)) (grow_setS _ _ _ _) (.inl rfl))
      rw [Nat.add_zero] at c0
      clear hown hgr hob HR cc ff hxl H0
      go_wp2
      exact ⟨⟨k + 1, by go_num, by omega, HRel⟩, by simp [intOf]; omega⟩
    · have ik : ¬ (k : Int) < n := by omega
      have HF : Hid (w.grownBy wr ob) := by obtain ⟨_, _, h⟩ := HR.out; exact h
      clear HR H0
      go_wp2
      go_end0
      exact ⟨rfl, HF.out⟩

end Go.Proofs.Ytbghjmkgicdnoaa

/-
  Contracts of the document's answer for layer 13: Join, Moved.
-/
namespace Go.Proofs.Ytbghjmkgicdnoaa
open Go.RowKit

def joiE (a b : List St) : Int := if chkS a = 0 then (if chkS b = 0 then (if 16384 < a.length + b.length then 4 else 0) else chkS b) else chkS a
def joiL (a b : List St) : List St := if joiE a b = 0 then a ++ b else []

/-- A list that lies somewhere laid behind a row of one's own. -/
theorem app_moreS {P : Program} {w : World} {ops : Array Oper} {rest : List Oper} {o : Oper} {a : Act} {Q : Exit → Act → World → Prop} (hgd : o.guard = none) (s x : Operand)
    (ho : o.op = .call { callee := .builtin .append, args := #[s, x], argTypes := #[36, 36] })
    (i : TypeInfo) (ht : P.underlying 36 = some (.slice 31)) (hi : P.info? 31 = some i) (hz : i.zero = some (.agg #[.int .u8 0, .int .i64 0, .int .i64 0, .int .i64 0, .int .i64 0, .int .u8 0, .int .u8 0, .int .u8 0, .int .u8 0, .int .u8 0, .int .u8 0, .int .u8 0, .int .u8 0, .string ByteArray.empty, .int .i64 0]))
    (hsize : i.size = 15) (hby : i.bytes = 72) (lo : Nat) (u : Value) (qs : List St) (n : Nat) (hn0 : n = qs.length) (hs : a.eval s = u) (hown : w.ownsRow lo 31 15 u n (flatZ qs)) (hlo : lo ≤ w.heap.size) (rs : List St) (oa : Option Addr) (cap : Nat) (m : Nat) (hm : m = rs.length) (hx : a.eval x = .slice oa m cap) (hv : LsS w (.slice oa m cap) rs) (hn : NoNil (.slice oa m cap))
    (hl : n + m ≤ 100000) (h : ∀ v' w', Hid (OwS lo w' v' (qs ++ rs) ∧ w.grownBy w' u.ownBlock) → wpList P ops Q rest (a.put o.dst v') w') : wpList P ops Q (o :: rest) a w := by
  subst hm
  cases oa with
  | none =>
    have h0 : rs = [] := by
      obtain ⟨oa, cap', e, _, hg⟩ := hv
      cases rs with
      | nil => rfl
      | cons r t =>
        obtain ⟨g, o, e2, _⟩ := hg (by simp)
        injection e with e1 _ _
        rw [e2] at e1
        cases e1
    subst h0
    obtain rfl : cap = 0 := hn cap rfl
    refine app_none hgd s x _ ho lo 31 i 15 ht hi u n (flatZ qs) hs hown hx ?_
    rintro _ _ rfl rfl
    refine h _ _ ⟨?_, World.grownBy.refl _ _⟩
    rw [List.append_nil]
    unfold OwS
    rw [← hn0]
    exact hown
  | some ad =>
    refine wpList_append_own _ hgd s x _ ho lo 31 i (.agg #[.int .u8 0, .int .i64 0, .int .i64 0, .int .i64 0, .int .i64 0, .int .u8 0, .int .u8 0, .int .u8 0, .int .u8 0, .int .u8 0, .int .u8 0, .int .u8 0, .int .u8 0, .string ByteArray.empty, .int .i64 0]) 15 72 ht hi hz hsize hby rfl (by decide) u n (flatZ qs) hs hown ad rs.length cap (flatZ rs) hx (flatZ_len rs) ?_ (onesZ rs) (by unfold maxLen; omega) (by omega) hlo ?_
    · intro j u' hj
      obtain ⟨oa, cap', e, _, hg⟩ := hv
      have hp : 0 < rs.length := by
        cases rs with
        | nil => simp [flatZ] at hj
        | cons r t => simp
      obtain ⟨g, o, e2, _, hat⟩ := hg hp
      injection e with e1 _ _
      rw [e2] at e1
      injection e1 with e1
      subst e1
      exact lss_src hat j u' hj
    · intro v' w' h2 h3 _
      refine h v' w' ⟨?_, h3⟩
      unfold OwS
      rw [List.length_append, ← hn0, flatZ_app]
      exact h2

set_option maxRecDepth 20000 in
set_option maxHeartbeats 8000000 in
theorem zjoin_any (a b : List St) (va vb : Value) (w : World) (ha : LsS w va a) (hb : LsS w vb b) (na : NoNil va) (nb : NoNil vb) (ta : Txs a) (tb : Txs b) (la : a.length ≤ 20000) (lb : b.length ≤ 20000) :
    Calls Try.prog 22 #[va, vb] w fun e w' => AnsS w (joiL a b) (joiE a b) e w' := by
  have HC : Hid (Calls Try.prog 46 #[va] w fun e w' => e = .returned (.int .i64 (chkS a)) ∧ Below w.heap.size w w') := zcheck_any a va w ha ta
  have HD : Hid (∀ W, Below w.heap.size w W → Calls Try.prog 46 #[vb] W fun e w' => e = .returned (.int .i64 (chkS b)) ∧ Below W.heap.size W w') := fun W h => zcheck_any b vb W (hb.below h) tb
  obtain ⟨oa, ca, rfl, hca, _⟩ := id ha
  obtain ⟨ob, cb, rfl, hcb, _⟩ := id hb
  have HV : Hid (LsS w (.slice oa a.length ca) a ∧ LsS w (.slice ob b.length cb) b ∧ NoNil (.slice oa a.length ca) ∧ NoNil (.slice ob b.length cb)) := ⟨ha, hb, na, nb⟩
  clear ha hb na nb ta tb
  obtain ⟨E, hE⟩ : ∃ E, E = joiE a b := ⟨_, rfl⟩
  obtain ⟨J, hJ⟩ : ∃ J, J = joiL a b := ⟨_, rfl⟩
  rw [← hE, ← hJ]
  unfold AnsS
  have hJ2 : J = if E = 0 then a ++ b else [] := by rw [hJ, hE]; rfl
  unfold joiE at hE
  clear hJ
  by_cases h1 : chkS a = 0
  · rw [if_pos h1] at hE
    rw [h1] at HC
    by_cases h2 : chkS b = 0
    · rw [if_pos h2] at hE
      rw [h2] at HD
      by_cases h3 : 16384 < a.length + b.length
      · rw [if_pos h3] at hE
        subst hE
        have HJ : Hid (J = []) := hJ2
        have h3' : (16384 : Int) < (a.length : Int) + (b.length : Int) := by omega
        clear hJ2 h1 h2 h3
        go_enter Try.func22, Try.ntmps22
        go_wp2_with fail
        refine HC.out.mono ?_
        rintro e w1 ⟨rfl, hb1⟩
        have H1 : Hid (Below w.heap.size w w1) := hb1
        clear hb1
        go_wp2_with fail
        refine (HD.out _ H1.out).mono ?_
        rintro e w2 ⟨rfl, hb2⟩
        have H2 : Hid (Below w.heap.size w w2) := H1.out.trans (hb2.mono H1.out.size)
        clear hb2
        go_wp2
        go_ret2
        refine ⟨_, rfl, ?_⟩
        rw [HJ.out]
        exact ⟨OwS.nil _ _, H2.out⟩
      · rw [if_neg h3] at hE
        subst hE
        have HJ : Hid (J = a ++ b) := hJ2
        have h3' : ¬ (16384 : Int) < (a.length : Int) + (b.length : Int) := by omega
        obtain ⟨i0, hi, hz0, hz1, hz2⟩ := info_parts info_strokeZ
        clear hJ2 h1 h2
        go_enter Try.func22, Try.ntmps22
        go_wp2_with fail
        refine HC.out.mono ?_
        rintro e w1 ⟨rfl, hb1⟩
        have H1 : Hid (Below w.heap.size w w1) := hb1
        clear hb1
        go_wp2_with fail
        refine (HD.out _ H1.out).mono ?_
        rintro e w2 ⟨rfl, hb2⟩
        have H2 : Hid (Below w.heap.size w w2) := H1.out.trans (hb2.mono H1.out.size)
        clear hb2
        go_wp2_with (at_builtin; refine app_firstS rfl _ _ rfl i0 Try.underlying36 hi hz0 hz1 hz2 rfl a oa ca rfl (HV.out.1.below H2.out) HV.out.2.2.1 (by omega) ?_)
        intro v3 w3 H3
        have H4 : Hid (w3.ownsRow w2.heap.size 31 15 v3 a.length (flatZ a) ∧ w2.heap.size ≤ w3.heap.size ∧ Below w.heap.size w w3) := ⟨H3.out.1, H3.out.2.size, H2.out.trans (H3.out.2.mono H2.out.size)⟩
        clear H3
        go_wp2_with (at_builtin; refine app_moreS rfl _ _ rfl i0 Try.underlying36 hi hz0 hz1 hz2 w2.heap.size v3 a a.length rfl rfl H4.out.1 H4.out.2.1 b ob cb b.length rfl rfl (HV.out.2.1.below H4.out.2.2) HV.out.2.2.2 (by omega) ?_)
        intro v5 w5 H5
        have HF : Hid (OwS w.heap.size w5 v5 J ∧ Below w.heap.size w w5) := by
          rw [HJ.out]
          exact ⟨H5.out.1.weaken H2.out.size, H4.out.2.2.grown H5.out.2 H4.out.2.2.size (fun g hg => Nat.le_trans H2.out.size (row_lt H4.out.1 g hg).1)⟩
        clear H5 H4 hi hz0 hz1 hz2
        go_wp2
        go_ret2
        exact ⟨_, rfl, HF⟩
    · rw [if_neg h2] at hE
      have hne : (E != 0) = true := by rw [hE]; simp [h2]
      have hne2 : (E == 0) = false := by rw [hE]; simp [h2]
      have HJ : Hid (J = []) := by unfold Hid; rw [hJ2, if_neg (by rw [hE]; exact h2)]
      rw [← hE] at HD
      clear hJ2 h1 h2 hE
      go_enter Try.func22, Try.ntmps22
      go_wp2_with fail
      refine HC.out.mono ?_
      rintro e w1 ⟨rfl, hb1⟩
      have H1 : Hid (Below w.heap.size w w1) := hb1
      clear hb1
      go_wp2_with fail
      refine (HD.out _ H1.out).mono ?_
      rintro e w2 ⟨rfl, hb2⟩
      have H2 : Hid (Below w.heap.size w w2) := H1.out.trans (hb2.mono H1.out.size)
      clear hb2
      go_wp2
      go_ret2
      refine ⟨_, rfl, ?_⟩
      rw [HJ.out]
      exact ⟨OwS.nil _ _, H2.out⟩
  · rw [if_neg h1] at hE
    have hne : (E != 0) = true := by rw [hE]; simp [h1]
    have hne2 : (E == 0) = false := by rw [hE]; simp [h1]
    have HJ : Hid (J = []) := by unfold Hid; rw [hJ2, if_neg (by rw [hE]; exact h1)]
    rw [← hE] at HC
    clear hJ2 h1 hE
    go_enter Try.func22, Try.ntmps22
    go_wp2_with fail
    refine HC.out.mono ?_
    rintro e w1 ⟨rfl, hb1⟩
    have H1 : Hid (Below w.heap.size w w1) := hb1
    clear hb1
    go_wp2
    go_ret2
    refine ⟨_, rfl, ?_⟩
    rw [HJ.out]
    exact ⟨OwS.nil _ _, H1.out⟩

def movS (p q : Int) (s : St) : St := if s.k = 5 then s else ⟨s.k, ⟨s.r.x + p, s.r.y + q, s.r.w, s.r.h⟩, s.c, s.b, s.t, s.n⟩
def movO (p q : Int) (l : List St) : Bool := l.all fun s => zMa (movS p q s).r
def movF (l : List St) (p q : Int) : Int := if chkS l = 0 then (if movO p q l = true then 0 else 9) else chkS l
def movG (l : List St) (p q : Int) : List St := if movF l p q = 0 then l.map (movS p q) else []
def clmp (p : Int) : Int := min (max p (-32769)) 32769
theorem mov_clmp {s : St} (h : zMa s.r = true) (p q : Int) : zMa (movS (clmp p) (clmp q) s).r = zMa (movS p q s).r ∧ (zMa (movS p q s).r = true → movS (clmp p) (clmp q) s = movS p q s) := by
  unfold movS
  by_cases h5 : s.k = 5
  · rw [if_pos h5, if_pos h5]
    exact ⟨rfl, fun _ => rfl⟩
  · rw [if_neg h5, if_neg h5]
    have hb := may_iff.1 h
    refine ⟨?_, fun k => ?_⟩
    · rw [Bool.eq_iff_iff]
      unfold zMa
      rw [may_iff, may_iff]
      simp only
      unfold clmp
      omega
    · have kb := may_iff.1 k
      have e1 : clmp p = p := by unfold clmp; simp only at kb; omega
      have e2 : clmp q = q := by unfold clmp; simp only at kb; omega
      rw [e1, e2]
theorem movO_clmp {l : List St} (h : ∀ s ∈ l, zMa s.r = true) (p q : Int) : movO (clmp p) (clmp q) l = movO p q l ∧ (movO p q l = true → l.map (movS (clmp p) (clmp q)) = l.map (movS p q)) := by
  unfold movO
  refine ⟨?_, fun k => ?_⟩
  · rw [Bool.eq_iff_iff, List.all_eq_true, List.all_eq_true]
    exact ⟨fun k s hs => by rw [← (mov_clmp (h s hs) p q).1]; exact k s hs, fun k s hs => by rw [(mov_clmp (h s hs) p q).1]; exact k s hs⟩
  · exact List.map_congr_left fun s hs => (mov_clmp (h s hs) p q).2 (List.all_eq_true.1 k s hs)

end Go.Proofs.Ytbghjmkgicdnoaa
