/-
  Package cells: Draw.
-/
import Derived.Test.YtapachlhdgehjaaGreatDoorK16
import Derived.Test.YtapachlhdgehjaaGreatDoorK23
import Derived.Test.YtapachlhdgehjaaGreatDoorK9
namespace Go.Proofs.YtapachlhdgehjaaGreatDoor
open Go.RowKit

theorem row_farC {w w' : World} {lo k n : Nat} {t : TypeId} {v : Value} {xs : List Value} (h : w.ownsRow lo t k v n xs) {g : Nat} (gr : w.grownBy w' (some g)) (hne : v.ownBlock ≠ some g) : w'.ownsRow lo t k v n xs := by
  refine ⟨h.1, ?_⟩
  rcases h.2 with ⟨h1, h2⟩ | ⟨g', cap', cur, h1, hb, hc, h2⟩
  · exact .inl ⟨h1, h2⟩
  · refine .inr ⟨g', cap', cur, h1, hb, ?_, h2⟩
    have hg : g' ≠ g := fun e => hne (by rw [h1, e]; rfl)
    exact (gr.block g' (Array.getElem?_eq_some_iff.1 hc).1 (fun e => hg (by injection e))).trans hc
theorem own_lsr {lo : Nat} {w : World} {v : Value} {l : List Rc} (h : OwR lo w v l) : LsR w v l := by
  obtain ⟨hl, ⟨rfl, h0⟩ | ⟨g, cap, cur, rfl, hb, hc, h1, h2, h3, h4⟩⟩ := id h
  · obtain rfl : l = [] := List.length_eq_zero_iff.1 h0
    exact ⟨none, 0, rfl, Nat.le_refl _, fun h => absurd h (Nat.lt_irrefl 0)⟩
  · refine ⟨_, cap, rfl, h1, fun _ => ⟨g, 0, rfl, (Array.getElem?_eq_some_iff.1 hc).1, fun i hi => ?_⟩⟩
    obtain ⟨f0, f1, f2, f3⟩ := flat_at l i hi
    rw [Nat.zero_add]
    exact ⟨(own_cell h (i * 4) (by omega)).trans f0, (own_cell h (i * 4 + 1) (by omega)).trans f1, (own_cell h (i * 4 + 2) (by omega)).trans f2, (own_cell h (i * 4 + 3) (by omega)).trans f3⟩
theorem mad_ok {s : St} (hs : s.c.ok ∧ s.b.ok) (px py : Int) (c : Ce) (hc : c.c.ok ∧ c.b.ok) : (madC wrP overC px py c s).c.ok ∧ (madC wrP overC px py c s).b.ok := by
  unfold madC
  split
  · split
    · exact hc
    · split
      · exact ⟨coZ_ok, hs.1⟩
      · exact ⟨over_ok hs.1 hc.1, over_ok hs.1 hc.2⟩
  · split
    · split
      · exact ⟨over_ok hs.1 hc.2, hc.2⟩
      · exact hc
    · split
      · split
        · exact hc
        · exact ⟨over_ok hs.1 (over_ok hs.2 hc.2), over_ok hs.2 hc.2⟩
      · exact hc
theorem drw_ok (px py : Int) : ∀ (A : List (St × Rc)) (c : Ce), (∀ p ∈ A, p.1.c.ok ∧ p.1.b.ok) → c.c.ok ∧ c.b.ok → (drwC wrP overC px py c A).c.ok ∧ (drwC wrP overC px py c A).b.ok
  | [], c, _, hc => hc
  | p :: A, c, hA, hc => by
    have e : drwC wrP overC px py c (p :: A) = drwC wrP overC px py (if (drw p.1 && zHa p.2 px py) = true then madC wrP overC px py c p.1 else c) A := rfl
    rw [e]
    refine drw_ok px py A _ (fun x hx => hA x (List.mem_cons_of_mem _ hx)) ?_
    split
    · exact mad_ok (hA p List.mem_cons_self) px py c hc
    · exact hc
theorem wf_drwS {a : Nat} {L : List Ce} (hL : WfC L) {A : List (St × Rc)} (hA : ∀ p ∈ A, p.1.c.ok ∧ p.1.b.ok) : WfC (drwS a L A) := by
  intro c hc
  obtain ⟨k, hk, rfl⟩ := List.mem_iff_getElem.1 hc
  simp only [drwS, List.getElem_mapIdx]
  exact drw_ok _ _ A _ hA (hL _ (List.getElem_mem _))
structure DrM (w : World) (a b : Int) (v : Value) (bd lo : Nat) (u : Value) (M : List Ce) (us qs : Value) (F1 : List St) (F2 : List Rc) (wr : World) : Prop where
  k0 : Bk wr w.heap.size #[.int .i64 a, .int .i64 b, v] 26
  k1 : Bk wr (w.heap.size + 1) #[.int .i64 0, .int .i64 0, .slice none 0 0] 26
  k2 : Bk wr bd #[.int .i64 a, .int .i64 b, u] 26
  c : OwC lo wr u M
  s : OwS w.heap.size wr us F1
  r : OwR w.heap.size wr qs F2
  d : Below w.heap.size w wr
theorem DrM.below {w : World} {a b : Int} {v : Value} {bd lo : Nat} {u : Value} {M : List Ce} {us qs : Value} {F1 : List St} {F2 : List Rc} {wr W : World} (h : DrM w a b v bd lo u M us qs F1 F2 wr) (hb : Below wr.heap.size wr W) : DrM w a b v bd lo u M us qs F1 F2 W :=
  ⟨h.k0.below hb, h.k1.below hb, h.k2.below hb, row_below h.c hb, row_below h.s hb, row_below h.r hb, h.d.trans (hb.mono h.d.size)⟩
theorem DrM.drawn {w : World} {a b : Int} {v : Value} {bd lo : Nat} {u : Value} {M M' : List Ce} {us qs : Value} {F1 : List St} {F2 : List Rc} {wr W : World} (h : DrM w a b v bd lo u M us qs F1 F2 wr) {g : Nat} (gr : wr.grownBy W (some g)) (hg : w.heap.size + 1 < g) (hd : bd ≠ g) (hs : us.ownBlock ≠ some g) (hq : qs.ownBlock ≠ some g) (hc : OwC lo W u M') : DrM w a b v bd lo u M' us qs F1 F2 W :=
  ⟨(gr.block _ h.k0.lt (fun e => by injection e with e; omega)).trans h.k0, (gr.block _ h.k1.lt (fun e => by injection e with e; omega)).trans h.k1, (gr.block _ h.k2.lt (fun e => by injection e with e; omega)).trans h.k2, hc, row_farC h.s gr hs, row_farC h.r gr hq, ⟨gr.os.trans h.d.os, gr.tape.trans h.d.tape, gr.output.trans h.d.output, Nat.le_trans h.d.size gr.size, fun b hb => (gr.block b (Nat.lt_of_lt_of_le hb h.d.size) (fun e => by injection e with e; omega)).trans (h.d.block b hb)⟩⟩

def DdJ (w6 w : World) (gq oq2 cq i0 a0 b0 : Nat) (A : List (St × Rc)) (q ar : Rc) (b : Nat → Bool) (u13 u39 u40 u41 u42 u43 u44 u45 u46 : Value) (x : World) : Prop :=
  (b 0 = true → u39 = .slice (some ⟨gq, oq2, none⟩) A.length cq) ∧
  (b 1 = true → u40 = .int .i64 (i0 : Nat)) ∧
  (b 2 = true → u41 = .pointer (some ⟨gq, oq2 + i0 * 4, none⟩)) ∧
  (b 3 = true → u42 = .agg #[.int .i64 q.x, .int .i64 q.y, .int .i64 q.w, .int .i64 q.h]) ∧
  (b 4 = true → u43 = .pointer (some ⟨w.heap.size, 0, none⟩)) ∧
  (b 5 = true → u44 = .agg #[.int .i64 (a0 : Nat), .int .i64 (b0 : Nat)]) ∧
  (b 6 = true → u45 = .agg #[.int .i64 0, .int .i64 0, .int .i64 (a0 : Nat), .int .i64 (b0 : Nat)]) ∧
  (b 7 = true → u46 = .agg #[.int .i64 ar.x, .int .i64 ar.y, .int .i64 ar.w, .int .i64 ar.h]) ∧
  (b 8 = true → ∃ qb, u13 = .pointer (some ⟨qb, 0, none⟩) ∧ w6.heap.size ≤ qb ∧ (b 9 = false → Bk x qb #[.int .i64 0, .int .i64 0, .int .i64 0, .int .i64 0] 52) ∧ (b 9 = true → Bk x qb #[.int .i64 ar.x, .int .i64 ar.y, .int .i64 ar.w, .int .i64 ar.h] 52)) ∧
  (b 9 = true → b 8 = true) ∧
  Below w6.heap.size w6 x

set_option maxRecDepth 20000 in
set_option maxHeartbeats 4000000 in
theorem dDraw_ok (FR : LFrm) (a0 b0 : Nat) (l : List Ce) (v : Value) (sl : List St) (vs : Value) (w : World) (hv : LsC w v l) (hn : NoNil v) (hs : szB a0 b0 = true) (hl : (l.length : Int) = a0 * b0) (ho : okCs l = true) (hvs : LsS w vs sl) (ht : Txs sl) (hxy : Xys sl) (hck : chkS sl = 0) (hwc : WfC l) (hws : ∀ s ∈ sl, s.c.ok ∧ s.b.ok) (T : Tabs w) (TB : ∀ W, Below w.heap.size w W → TbD W) :
    Calls Tryz.prog 8 #[.agg #[.int .i64 (a0 : Nat), .int .i64 (b0 : Nat), v], vs] w fun e w' => ∃ u, e = .returned (.tuple #[.agg #[.int .i64 (a0 : Nat), .int .i64 (b0 : Nat), u], .int .i64 0]) ∧ Hid (OwC w.heap.size w' u (drwS a0 l (flaL sl)) ∧ Below w.heap.size w w') := by
  obtain ⟨oa, cap, rfl, hcap, -⟩ := id hv
  have hE : scE a0 b0 l = 0 := by unfold scE; rw [if_pos ⟨hs, hl, ho⟩]
  have hl1 : l.length ≤ 1000000 := by have := (mulB hs).2; omega
  have HC : Hid (∀ W, Below w.heap.size w W → Calls Tryz.prog 26 #[.agg #[.int .i64 (a0 : Nat), .int .i64 (b0 : Nat), .slice oa l.length cap]] W fun e w' => e = .returned (.int .i64 0) ∧ Below W.heap.size W w') := fun W h => by rw [← hE]; exact checkC_any a0 b0 l _ W (hv.below h) (by omega) (T.below h)
  have HF : Hid (∀ W, Below w.heap.size w W → Calls Tryz.prog 27 #[vs] W fun e w' => ∃ u q, e = .returned (.tuple #[u, q, .int .i64 0]) ∧ Hid (OwS W.heap.size w' u ((flaL sl).map Prod.fst) ∧ OwR W.heap.size w' q ((flaL sl).map Prod.snd) ∧ Below W.heap.size W w')) := fun W h => by
    refine (lflat_any sl vs W (hvs.below h) ht hxy).mono ?_
    rintro e w' ⟨u, q, rfl, H⟩
    rw [hck]
    unfold fla1 fla2 at H
    rw [if_pos hck, if_pos hck] at H
    exact ⟨u, q, rfl, H.out.1, H.out.2.1, H.out.2.2.2⟩
  have HD : Hid (∀ W, Below w.heap.size w W → Calls Tryz.prog 28 #[.agg #[.int .i64 (a0 : Nat), .int .i64 (b0 : Nat), .slice oa l.length cap]] W fun e w' => ∃ u, e = .returned (.agg #[.int .i64 (a0 : Nat), .int .i64 (b0 : Nat), u]) ∧ Hid (OwC W.heap.size w' u l ∧ Below W.heap.size W w')) := fun W h => copied_any a0 b0 l _ W (hv.below h) hn hl1
  obtain ⟨A, hA⟩ : ∃ A, A = flaL sl := ⟨_, rfl⟩
  have HA : Hid (∀ p ∈ A, PrF p ∧ p.1.c.ok ∧ p.1.b.ok) := fun p hp => by
    rw [hA] at hp
    obtain ⟨h1, h2⟩ := fla_facts hck p hp
    exact ⟨h1, hws p.1 h2⟩
  rw [← hA] at HF ⊢
  have hAl : A.length ≤ 100000 := by
    have h1 : (flaL sl).length ≤ (ann [] sl).length := List.length_filter_le _ _
    rw [ann_len] at h1
    have h2 : sl.length ≤ 16384 := by
      unfold chkS at hck
      split at hck
      · cases hck
      · omega
    rw [hA]
    omega
  have HG : Hid (szB a0 b0 = true ∧ (l.length : Int) = a0 * b0 ∧ WfC l ∧ LFrm ∧ (∀ W, Below w.heap.size w W → TbD W)) := ⟨hs, hl, hwc, FR, TB⟩
  have H0 : Hid (Bk ((w.alloc (.cells #[.int .i64 (a0 : Nat), .int .i64 (b0 : Nat), .slice oa l.length cap] 26)).alloc (.cells #[.int .i64 0, .int .i64 0, .slice none 0 0] 26)) w.heap.size #[.int .i64 (a0 : Nat), .int .i64 (b0 : Nat), .slice oa l.length cap] 26 ∧ Bk ((w.alloc (.cells #[.int .i64 (a0 : Nat), .int .i64 (b0 : Nat), .slice oa l.length cap] 26)).alloc (.cells #[.int .i64 0, .int .i64 0, .slice none 0 0] 26)) (w.heap.size + 1) #[.int .i64 0, .int .i64 0, .slice none 0 0] 26 ∧ Below w.heap.size w ((w.alloc (.cells #[.int .i64 (a0 : Nat), .int .i64 (b0 : Nat), .slice oa l.length cap] 26)).alloc (.cells #[.int .i64 0, .int .i64 0, .slice none 0 0] 26))) := by
    have k1 := Bk.new w #[.int .i64 (a0 : Nat), .int .i64 (b0 : Nat), .slice oa l.length cap] 26
    have k2 := Bk.new (w.alloc (.cells #[.int .i64 (a0 : Nat), .int .i64 (b0 : Nat), .slice oa l.length cap] 26)) #[.int .i64 0, .int .i64 0, .slice none 0 0] 26
    rw [World.size_alloc] at k2
    exact ⟨k1.below ((Below.refl _ _).alloc (Nat.le_refl _) _), k2, ((Below.refl _ w).alloc (Nat.le_refl _) _).alloc (by simp) _⟩
  clear hv hn hvs ht hxy hck hwc hws T TB hA FR hE ho
  go_enter Tryz.func8, Tryz.ntmps8
  go_wp2_with fail
  generalize (w.alloc (.cells #[.int .i64 (a0 : Nat), .int .i64 (b0 : Nat), .slice oa l.length cap] 26)).alloc (.cells #[.int .i64 0, .int .i64 0, .slice none 0 0] 26) = w1 at *
  refine (HC.out _ H0.out.2.2).mono ?_
  rintro e w2 ⟨rfl, hb⟩
  have H2 : Hid (Bk w2 w.heap.size #[.int .i64 (a0 : Nat), .int .i64 (b0 : Nat), .slice oa l.length cap] 26 ∧ Bk w2 (w.heap.size + 1) #[.int .i64 0, .int .i64 0, .slice none 0 0] 26 ∧ Below w.heap.size w w2) := ⟨H0.out.1.below hb, H0.out.2.1.below hb, H0.out.2.2.trans (hb.mono H0.out.2.2.size)⟩
  clear hb H0 HC
  obtain ⟨m0, m1, m2⟩ := Bk.at3S H2.out.1
  go_wp2_with fail
  refine (HF.out _ H2.out.2.2).mono ?_
  rintro e w3 ⟨us, qs, rfl, H3⟩
  have H4 : Hid (Bk w3 w.heap.size #[.int .i64 (a0 : Nat), .int .i64 (b0 : Nat), .slice oa l.length cap] 26 ∧ Bk w3 (w.heap.size + 1) #[.int .i64 0, .int .i64 0, .slice none 0 0] 26 ∧ Below w.heap.size w w3 ∧ OwS w.heap.size w3 us (A.map Prod.fst) ∧ OwR w.heap.size w3 qs (A.map Prod.snd)) := ⟨H2.out.1.below H3.out.2.2, H2.out.2.1.below H3.out.2.2, H2.out.2.2.trans (H3.out.2.2.mono H2.out.2.2.size), row_weaken H3.out.1 H2.out.2.2.size, row_weaken H3.out.2.1 H2.out.2.2.size⟩
  clear H3 H2 HF m0 m1 m2
  obtain ⟨ou, cu, eu, hcu, -⟩ := row_val H4.out.2.2.2.1
  obtain ⟨oq, cq, eq, hcq, -⟩ := row_val H4.out.2.2.2.2
  subst eu eq
  obtain ⟨m0, m1, m2⟩ := Bk.at3S H4.out.1
  go_wp2_with fail
  refine (HD.out _ H4.out.2.2.1).mono ?_
  rintro e w4 ⟨u, rfl, H5⟩
  obtain ⟨od, cd, ed, hcd, -⟩ := row_val H5.out.1
  subst ed
  clear m0 m1 m2 HD
  have H6 : Hid (DrM w a0 b0 (.slice oa l.length cap) w4.heap.size w3.heap.size (.slice od l.length cd) (drwS a0 l (A.take 0)) (.slice ou (A.map Prod.fst).length cu) (.slice oq (A.map Prod.snd).length cq) (A.map Prod.fst) (A.map Prod.snd) (w4.alloc (.cells #[.int .i64 (a0 : Nat), .int .i64 (b0 : Nat), .slice od l.length cd] 26))) := by
    have hb : Below w3.heap.size w3 (w4.alloc (.cells #[.int .i64 (a0 : Nat), .int .i64 (b0 : Nat), .slice od l.length cd] 26)) := H5.out.2.alloc H5.out.2.size _
    obtain ⟨t1, t2, t3, t4, t5⟩ := H4.out
    rw [List.take_zero, drwS_nil]
    exact ⟨t1.below hb, t2.below hb, Bk.new _ _ _, row_below H5.out.1 ((Below.refl _ _).alloc (Nat.le_refl _) _), row_below t4 hb, row_below t5 hb, t3.trans (hb.mono t3.size)⟩
  have HX : Hid (w.heap.size + 1 < w3.heap.size ∧ (∀ g, (Value.slice ou (A.map Prod.fst).length cu).ownBlock = some g → g < w3.heap.size) ∧ (∀ g, (Value.slice oq (A.map Prod.snd).length cq).ownBlock = some g → g < w3.heap.size) ∧ (∀ g, (Value.slice od l.length cd).ownBlock = some g → w3.heap.size ≤ g ∧ g < w4.heap.size)) := ⟨H4.out.2.1.lt, fun g hg => (row_lt H4.out.2.2.2.1 g hg).2, fun g hg => (row_lt H4.out.2.2.2.2 g hg).2, fun g hg => row_lt H5.out.1 g hg⟩
  clear H4 H5
  obtain ⟨bd, hbd⟩ : ∃ bd, bd = w4.heap.size := ⟨_, rfl⟩
  rw [← hbd] at H6 HX
  have l1 : (A.map Prod.fst).length = A.length := List.length_map _
  have l2 : (A.map Prod.snd).length = A.length := List.length_map _
  rw [l1] at H6 HX hcu
  rw [l2] at H6 HX hcq
  go_wp2_with fail
  rw [← hbd]
  clear hbd
  generalize w4.alloc (.cells #[.int .i64 (a0 : Nat), .int .i64 (b0 : Nat), .slice od l.length cd] 26) = w5 at *
  obtain ⟨lo, hlo⟩ : ∃ lo, lo = w3.heap.size := ⟨_, rfl⟩
  rw [← hlo] at H6 HX
  clear hlo l1 l2 hcu hcq hs hl hl1
  go_loopw [34] (fun vi wr => ∃ i0 : Nat, i0 ≤ A.length ∧ vi = .int .i64 (i0 : Nat) ∧ Hid (DrM w a0 b0 (.slice oa l.length cap) bd lo (.slice od l.length cd) (drwS a0 l (A.take i0)) (.slice ou A.length cu) (.slice oq A.length cq) (A.map Prod.fst) (A.map Prod.snd) wr)) (fun vi _ => A.length - (intOf vi).toNat)
  case atStart => exact ⟨0, Nat.zero_le _, rfl, H6⟩
  case round =>
    obtain ⟨i0, hi, rfl, HR⟩ := hrel
    clear H6
    by_cases hlt : i0 < A.length
    · have hii : (i0 : Int) < (A.length : Int) := by omega
      obtain ⟨st, q, hp⟩ : ∃ st q, A[i0] = (st, q) := ⟨_, _, rfl⟩
      have HP : Hid (PrF (st, q) ∧ st.c.ok ∧ st.b.ok) := by
        have := HA.out A[i0] (List.getElem_mem _)
        rw [hp] at this
        exact this
      have HT : Hid (A.take (i0 + 1) = A.take i0 ++ [(st, q)]) := by
        unfold Hid
        rw [List.take_add_one, List.getElem?_eq_getElem hlt, hp]
        rfl
      obtain ⟨oa1, cap1, ev1, hz1, hg1⟩ := HR.out.s.lss
      injection ev1 with ev1 hz2 hz3
      clear hz1 hz2 hz3
      obtain ⟨gs, os, es, hgs, hat1⟩ := hg1 (by rw [List.length_map]; omega)
      rw [es] at ev1
      subst ev1
      have hst := hat1 i0 (by rw [List.length_map]; exact hlt)
      rw [List.getElem_map, hp] at hst
      replace hst : StAt wr gs (os + i0 * 15) st := hst
      obtain ⟨x0, x1, x2, x3, x4, x5, x6, x7, x8, x9, x10, x11, x12, x13, x14⟩ := id hst
      obtain ⟨oa2, cap2, ev2, hz1, hg2⟩ := own_lsr HR.out.r
      injection ev2 with ev2 hz2 hz3
      clear hz1 hz2 hz3
      obtain ⟨gq, oq2, eq2, hgq, hat2⟩ := hg2 (by rw [List.length_map]; omega)
      rw [eq2] at ev2
      subst ev2
      have hrc := hat2 i0 (by rw [List.length_map]; exact hlt)
      rw [List.getElem_map, hp] at hrc
      replace hrc : RcAt wr gq (oq2 + i0 * 4) q := hrc
      have H7 : Hid (DrM w a0 b0 (.slice oa l.length cap) bd lo (.slice od l.length cd) (drwS a0 l (A.take i0)) (.slice (some ⟨gs, os, none⟩) A.length cu) (.slice (some ⟨gq, oq2, none⟩) A.length cq) (A.map Prod.fst) (A.map Prod.snd) (wr.alloc (.cells (#[.int .u8 st.k, .int .i64 st.r.x, .int .i64 st.r.y, .int .i64 st.r.w, .int .i64 st.r.h, .int .u8 st.c.r, .int .u8 st.c.g, .int .u8 st.c.b, .int .u8 st.c.a, .int .u8 st.b.r, .int .u8 st.b.g, .int .u8 st.b.b, .int .u8 st.b.a, .string st.t, .int .i64 st.n]) 55)) ∧ Bk (wr.alloc (.cells (#[.int .u8 st.k, .int .i64 st.r.x, .int .i64 st.r.y, .int .i64 st.r.w, .int .i64 st.r.h, .int .u8 st.c.r, .int .u8 st.c.g, .int .u8 st.c.b, .int .u8 st.c.a, .int .u8 st.b.r, .int .u8 st.b.g, .int .u8 st.b.b, .int .u8 st.b.a, .string st.t, .int .i64 st.n]) 55)) wr.heap.size (#[.int .u8 st.k, .int .i64 st.r.x, .int .i64 st.r.y, .int .i64 st.r.w, .int .i64 st.r.h, .int .u8 st.c.r, .int .u8 st.c.g, .int .u8 st.c.b, .int .u8 st.c.a, .int .u8 st.b.r, .int .u8 st.b.g, .int .u8 st.b.b, .int .u8 st.b.a, .string st.t, .int .i64 st.n]) 55 ∧ RcAt (wr.alloc (.cells (#[.int .u8 st.k, .int .i64 st.r.x, .int .i64 st.r.y, .int .i64 st.r.w, .int .i64 st.r.h, .int .u8 st.c.r, .int .u8 st.c.g, .int .u8 st.c.b, .int .u8 st.c.a, .int .u8 st.b.r, .int .u8 st.b.g, .int .u8 st.b.b, .int .u8 st.b.a, .string st.t, .int .i64 st.n]) 55)) gq (oq2 + i0 * 4) q ∧ gq < (wr.alloc (.cells (#[.int .u8 st.k, .int .i64 st.r.x, .int .i64 st.r.y, .int .i64 st.r.w, .int .i64 st.r.h, .int .u8 st.c.r, .int .u8 st.c.g, .int .u8 st.c.b, .int .u8 st.c.a, .int .u8 st.b.r, .int .u8 st.b.g, .int .u8 st.b.b, .int .u8 st.b.a, .string st.t, .int .i64 st.n]) 55)).heap.size) := by
        have hb : Below wr.heap.size wr (wr.alloc (.cells (#[.int .u8 st.k, .int .i64 st.r.x, .int .i64 st.r.y, .int .i64 st.r.w, .int .i64 st.r.h, .int .u8 st.c.r, .int .u8 st.c.g, .int .u8 st.c.b, .int .u8 st.c.a, .int .u8 st.b.r, .int .u8 st.b.g, .int .u8 st.b.b, .int .u8 st.b.a, .string st.t, .int .i64 st.n]) 55)) := (Below.refl _ _).alloc (Nat.le_refl _) _
        exact ⟨HR.out.below hb, Bk.new _ _ _, ⟨(hb.cell (p := ⟨gq, _, none⟩) hgq).trans hrc.1, (hb.cell (p := ⟨gq, _, none⟩) hgq).trans hrc.2.1, (hb.cell (p := ⟨gq, _, none⟩) hgq).trans hrc.2.2.1, (hb.cell (p := ⟨gq, _, none⟩) hgq).trans hrc.2.2.2⟩, Nat.lt_of_lt_of_le hgq hb.size⟩
      clear hat1 hat2 hst hrc hg1 hg2 hp HR es eq2
      go_wp2_with fail
      obtain ⟨bt, hbt⟩ : ∃ bt, bt = wr.heap.size := ⟨_, rfl⟩
      rw [← hbt] at H7 ⊢
      have Hbt : Hid (bt = wr.heap.size) := hbt
      clear hbt x0 x1 x2 x3 x4 x5 x6 x7 x8 x9 x10 x11 x12 x13 x14
      generalize wr.alloc (.cells (#[.int .u8 st.k, .int .i64 st.r.x, .int .i64 st.r.y, .int .i64 st.r.w, .int .i64 st.r.h, .int .u8 st.c.r, .int .u8 st.c.g, .int .u8 st.c.b, .int .u8 st.c.a, .int .u8 st.b.r, .int .u8 st.b.g, .int .u8 st.b.b, .int .u8 st.b.a, .string st.t, .int .i64 st.n]) 55) = w6 at *
      obtain ⟨ar, har⟩ : ∃ ar, ar = areZ a0 b0 q := ⟨_, rfl⟩
      have HRq : Hid (∀ x, Below w6.heap.size w6 x → RcAt x gq (oq2 + i0 * 4) q ∧ x.cell? ⟨w.heap.size, 0, none⟩ = some (.int .i64 (a0 : Nat)) ∧ x.cell? ⟨w.heap.size, 1, none⟩ = some (.int .i64 (b0 : Nat)) ∧ x.cell? ⟨w.heap.size, 2, none⟩ = some (.slice oa l.length cap)) := fun x hb => by
        obtain ⟨t1, t2, t3, t4⟩ := H7.out
        exact ⟨⟨(hb.cell (p := ⟨gq, _, none⟩) t4).trans t3.1, (hb.cell (p := ⟨gq, _, none⟩) t4).trans t3.2.1, (hb.cell (p := ⟨gq, _, none⟩) t4).trans t3.2.2.1, (hb.cell (p := ⟨gq, _, none⟩) t4).trans t3.2.2.2⟩, Bk.at3S (t1.below hb).k0⟩
      have hqb : I64 q.x ∧ I64 q.y := by
        obtain ⟨f1, f2, f3, f4, f5, f6, f7, f8⟩ := may_bd (x := q.x) (y := q.y) (w := q.w) (h := q.h) (show zMa q = true from HP.out.1.q)
        constructor <;> (unfold I64; omega)
      have HMe : Hid (∀ W, Calls Tryz.prog 29 #[.agg #[.int .i64 q.x, .int .i64 q.y, .int .i64 q.w, .int .i64 q.h], .agg #[.int .i64 0, .int .i64 0, .int .i64 (a0 : Nat), .int .i64 (b0 : Nat)]] W fun e w' => e = .returned (.agg #[.int .i64 ar.x, .int .i64 ar.y, .int .i64 ar.w, .int .i64 ar.h]) ∧ Below W.heap.size W w') := fun W => by rw [har]; exact meet_any q.x q.y q.w q.h 0 0 a0 b0 W hqb.1 hqb.2 ⟨by decide, by decide⟩ ⟨by decide, by decide⟩
      have HAr : Hid (ar = areZ a0 b0 q) := har
      clear har hqb
      refine wp_region_inv (I := (fun b a x => ∃ u13 u39 u40 u41 u42 u43 u44 u45 u46, a = ⟨#[.agg #[.int .i64 (a0 : Nat), .int .i64 (b0 : Nat), .slice oa l.length cap], vs, .pointer (some ⟨w.heap.size, 0, none⟩), undef, .pointer (some ⟨w.heap.size + 1, 0, none⟩), .int .i64 0, .int .i64 0, .slice (some ⟨gs, os, none⟩) A.length cu, .slice (some ⟨gq, oq2, none⟩) A.length cq, .int .i64 0, .pointer (some ⟨bd, 0, none⟩), .int .i64 (i0 : Nat), .pointer (some ⟨bt, 0, none⟩), u13, .agg #[.int .i64 (a0 : Nat), .int .i64 (b0 : Nat), .slice oa l.length cap], .int .i64 0, .int .i64 0, .bool false, undef, undef, .tuple #[.slice (some ⟨gs, os, none⟩) A.length cu, .slice (some ⟨gq, oq2, none⟩) A.length cq, .int .i64 0], vs, .tuple #[.slice (some ⟨gs, os, none⟩) A.length cu, .slice (some ⟨gq, oq2, none⟩) A.length cq, .int .i64 0], .slice (some ⟨gs, os, none⟩) A.length cu, .slice (some ⟨gq, oq2, none⟩) A.length cq, .int .i64 0, .int .i64 0, .bool false, undef, undef, .agg #[.int .i64 (a0 : Nat), .int .i64 (b0 : Nat), .slice oa l.length cap], .agg #[.int .i64 (a0 : Nat), .int .i64 (b0 : Nat), .slice od l.length cd], .slice (some ⟨gs, os, none⟩) A.length cu, .int .i64 (A.length : Nat), .int .i64 (i0 : Nat), .bool true, .int .i64 (i0 : Nat), .pointer (some ⟨gs, os + i0 * 15, none⟩), .agg #[.int .u8 st.k, .int .i64 st.r.x, .int .i64 st.r.y, .int .i64 st.r.w, .int .i64 st.r.h, .int .u8 st.c.r, .int .u8 st.c.g, .int .u8 st.c.b, .int .u8 st.c.a, .int .u8 st.b.r, .int .u8 st.b.g, .int .u8 st.b.b, .int .u8 st.b.a, .string st.t, .int .i64 st.n], u39, u40, u41, u42, u43, u44, u45, u46, u47, u48, u49, u50, u51, u52, u53, u54, undef], []⟩ ∧ Hid (DdJ w6 w gq oq2 cq i0 a0 b0 A q ar b u13 u39 u40 u41 u42 u43 u44 u45 u46 x))) (by kernel_rfl) (by kernel_rfl) ?_ ?_ ?_
      · exact ⟨u13, u39, u40, u41, u42, u43, u44, u45, u46, rfl, ⟨(fun e => (by cases e)), (fun e => (by cases e)), (fun e => (by cases e)), (fun e => (by cases e)), (fun e => (by cases e)), (fun e => (by cases e)), (fun e => (by cases e)), (fun e => (by cases e)), (fun e => (by cases e)), (fun e => (by cases e)), (Below.refl _ w6).drew⟩⟩
      · intro b a x i o hI hbi ho hpre K' hK
        obtain ⟨u13, u39, u40, u41, u42, u43, u44, u45, u46, rfl, HJ⟩ := hI
        have hi : i < 10 := by have := (Array.getElem?_eq_some_iff.1 ho).1; simpa using this
        rcases (show i = 0 ∨ i = 1 ∨ i = 2 ∨ i = 3 ∨ i = 4 ∨ i = 5 ∨ i = 6 ∨ i = 7 ∨ i = 8 ∨ i = 9 by omega) with rfl | rfl | rfl | rfl | rfl | rfl | rfl | rfl | rfl | rfl
        · injection (show some _ = some o from ho) with ho
          subst ho
          have HN : Hid (DdJ w6 w gq oq2 cq i0 a0 b0 A q ar (fun j => if j = 0 then true else b j) u13 (.slice (some ⟨gq, oq2, none⟩) A.length cq) u40 u41 u42 u43 u44 u45 u46 x) := by
            obtain ⟨j0, j1, j2, j3, j4, j5, j6, j7, j8, j9, e0⟩ := HJ.out
            exact ⟨fun _ => rfl, j1, j2, j3, j4, j5, j6, j7, j8, j9, e0⟩
          clear HJ hpre
          go_simp
          exact hK _ _ ⟨u13, _, u40, u41, u42, u43, u44, u45, u46, rfl, HN⟩
        · injection (show some _ = some o from ho) with ho
          subst ho
          have HN : Hid (DdJ w6 w gq oq2 cq i0 a0 b0 A q ar (fun j => if j = 1 then true else b j) u13 u39 (.int .i64 (i0 : Nat)) u41 u42 u43 u44 u45 u46 x) := by
            obtain ⟨j0, j1, j2, j3, j4, j5, j6, j7, j8, j9, e0⟩ := HJ.out
            exact ⟨j0, fun _ => rfl, j2, j3, j4, j5, j6, j7, j8, j9, e0⟩
          clear HJ hpre
          go_simp
          exact hK _ _ ⟨u13, u39, _, u41, u42, u43, u44, u45, u46, rfl, HN⟩
        · injection (show some _ = some o from ho) with ho
          subst ho
          have p0 : b 0 = true := hpre 0 (by decide +kernel)
          obtain rfl : u39 = .slice (some ⟨gq, oq2, none⟩) A.length cq := by obtain ⟨j0, j1, j2, j3, j4, j5, j6, j7, j8, j9, e0⟩ := HJ.out; exact (j0 p0)
          have p1 : b 1 = true := hpre 1 (by decide +kernel)
          obtain rfl : u40 = .int .i64 (i0 : Nat) := by obtain ⟨j0, j1, j2, j3, j4, j5, j6, j7, j8, j9, e0⟩ := HJ.out; exact (j1 p1)
          have HN : Hid (DdJ w6 w gq oq2 cq i0 a0 b0 A q ar (fun j => if j = 2 then true else b j) u13 (.slice (some ⟨gq, oq2, none⟩) A.length cq) (.int .i64 (i0 : Nat)) (.pointer (some ⟨gq, oq2 + i0 * 4, none⟩)) u42 u43 u44 u45 u46 x) := by
            obtain ⟨j0, j1, j2, j3, j4, j5, j6, j7, j8, j9, e0⟩ := HJ.out
            exact ⟨j0, j1, fun _ => rfl, j3, j4, j5, j6, j7, j8, j9, e0⟩
          clear HJ hpre
          go_simp
          exact hK _ _ ⟨u13, _, _, _, u42, u43, u44, u45, u46, rfl, HN⟩
        · injection (show some _ = some o from ho) with ho
          subst ho
          have p2 : b 2 = true := hpre 2 (by decide +kernel)
          obtain rfl : u41 = .pointer (some ⟨gq, oq2 + i0 * 4, none⟩) := by obtain ⟨j0, j1, j2, j3, j4, j5, j6, j7, j8, j9, e0⟩ := HJ.out; exact (j2 p2)
          have hbx : Below w6.heap.size w6 x := by obtain ⟨j0, j1, j2, j3, j4, j5, j6, j7, j8, j9, e0⟩ := HJ.out; exact e0
          obtain ⟨r1, r2, r3, r4⟩ := (HRq.out x hbx).1
          have HN : Hid (DdJ w6 w gq oq2 cq i0 a0 b0 A q ar (fun j => if j = 3 then true else b j) u13 u39 u40 (.pointer (some ⟨gq, oq2 + i0 * 4, none⟩)) (.agg #[.int .i64 q.x, .int .i64 q.y, .int .i64 q.w, .int .i64 q.h]) u43 u44 u45 u46 x) := by
            obtain ⟨j0, j1, j2, j3, j4, j5, j6, j7, j8, j9, e0⟩ := HJ.out
            exact ⟨j0, j1, j2, fun _ => rfl, j4, j5, j6, j7, j8, j9, e0⟩
          clear HJ hpre
          go_simp
          exact hK _ _ ⟨u13, u39, u40, _, _, u43, u44, u45, u46, rfl, HN⟩
        · injection (show some _ = some o from ho) with ho
          subst ho
          have HN : Hid (DdJ w6 w gq oq2 cq i0 a0 b0 A q ar (fun j => if j = 4 then true else b j) u13 u39 u40 u41 u42 (.pointer (some ⟨w.heap.size, 0, none⟩)) u44 u45 u46 x) := by
            obtain ⟨j0, j1, j2, j3, j4, j5, j6, j7, j8, j9, e0⟩ := HJ.out
            exact ⟨j0, j1, j2, j3, fun _ => rfl, j5, j6, j7, j8, j9, e0⟩
          clear HJ hpre
          go_simp
          exact hK _ _ ⟨u13, u39, u40, u41, u42, _, u44, u45, u46, rfl, HN⟩
        · injection (show some _ = some o from ho) with ho
          subst ho
          have p4 : b 4 = true := hpre 4 (by decide +kernel)
          obtain rfl : u43 = .pointer (some ⟨w.heap.size, 0, none⟩) := by obtain ⟨j0, j1, j2, j3, j4, j5, j6, j7, j8, j9, e0⟩ := HJ.out; exact (j4 p4)
          have hbx : Below w6.heap.size w6 x := by obtain ⟨j0, j1, j2, j3, j4, j5, j6, j7, j8, j9, e0⟩ := HJ.out; exact e0
          obtain ⟨r1, r2, r3⟩ := (HRq.out x hbx).2
          have HN : Hid (DdJ w6 w gq oq2 cq i0 a0 b0 A q ar (fun j => if j = 5 then true else b j) u13 u39 u40 u41 u42 (.pointer (some ⟨w.heap.size, 0, none⟩)) (.agg #[.int .i64 (a0 : Nat), .int .i64 (b0 : Nat)]) u45 u46 x) := by
            obtain ⟨j0, j1, j2, j3, j4, j5, j6, j7, j8, j9, e0⟩ := HJ.out
            exact ⟨j0, j1, j2, j3, j4, fun _ => rfl, j6, j7, j8, j9, e0⟩
          clear HJ hpre
          go_simp
          exact hK _ _ ⟨u13, u39, u40, u41, u42, _, _, u45, u46, rfl, HN⟩
        · injection (show some _ = some o from ho) with ho
          subst ho
          have p5 : b 5 = true := hpre 5 (by decide +kernel)
          obtain rfl : u44 = .agg #[.int .i64 (a0 : Nat), .int .i64 (b0 : Nat)] := by obtain ⟨j0, j1, j2, j3, j4, j5, j6, j7, j8, j9, e0⟩ := HJ.out; exact (j5 p5)
          have HN : Hid (DdJ w6 w gq oq2 cq i0 a0 b0 A q ar (fun j => if j = 6 then true else b j) u13 u39 u40 u41 u42 u43 (.agg #[.int .i64 (a0 : Nat), .int .i64 (b0 : Nat)]) (.agg #[.int .i64 0, .int .i64 0, .int .i64 (a0 : Nat), .int .i64 (b0 : Nat)]) u46 x) := by
            obtain ⟨j0, j1, j2, j3, j4, j5, j6, j7, j8, j9, e0⟩ := HJ.out
            exact ⟨j0, j1, j2, j3, j4, j5, fun _ => rfl, j7, j8, j9, e0⟩
          clear HJ hpre
          go_simp
          exact hK _ _ ⟨u13, u39, u40, u41, u42, u43, _, _, u46, rfl, HN⟩
        · injection (show some _ = some o from ho) with ho
          subst ho
          have p3 : b 3 = true := hpre 3 (by decide +kernel)
          obtain rfl : u42 = .agg #[.int .i64 q.x, .int .i64 q.y, .int .i64 q.w, .int .i64 q.h] := by obtain ⟨j0, j1, j2, j3, j4, j5, j6, j7, j8, j9, e0⟩ := HJ.out; exact (j3 p3)
          have p6 : b 6 = true := hpre 6 (by decide +kernel)
          obtain rfl : u45 = .agg #[.int .i64 0, .int .i64 0, .int .i64 (a0 : Nat), .int .i64 (b0 : Nat)] := by obtain ⟨j0, j1, j2, j3, j4, j5, j6, j7, j8, j9, e0⟩ := HJ.out; exact (j6 p6)
          have HCC := HMe.out x
          have HN : Hid (∀ x', Below x.heap.size x x' → DdJ w6 w gq oq2 cq i0 a0 b0 A q ar (fun j => if j = 7 then true else b j) u13 u39 u40 u41 (.agg #[.int .i64 q.x, .int .i64 q.y, .int .i64 q.w, .int .i64 q.h]) u43 u44 (.agg #[.int .i64 0, .int .i64 0, .int .i64 (a0 : Nat), .int .i64 (b0 : Nat)]) (.agg #[.int .i64 ar.x, .int .i64 ar.y, .int .i64 ar.w, .int .i64 ar.h]) x') := fun x' hb => by
            obtain ⟨j0, j1, j2, j3, j4, j5, j6, j7, j8, j9, e0⟩ := HJ.out
            exact ⟨j0, j1, j2, j3, j4, j5, j6, fun _ => rfl, fun h => (j8 h).imp fun _ t => ⟨t.1, t.2.1, fun c => (t.2.2.1 c).below hb, fun c => (t.2.2.2 c).below hb⟩, j9, e0.trans (hb.mono e0.size)⟩
          clear HJ hpre
          go_simp
          refine HCC.mono ?_
          rintro e x' ⟨rfl, hb⟩
          exact hK _ _ ⟨u13, u39, u40, u41, _, u43, u44, _, _, rfl, HN.out x' hb⟩
        · injection (show some _ = some o from ho) with ho
          subst ho
          have HN : Hid (DdJ w6 w gq oq2 cq i0 a0 b0 A q ar (fun j => if j = 8 then true else b j) (.pointer (some ⟨x.heap.size, 0, none⟩)) u39 u40 u41 u42 u43 u44 u45 u46 (x.alloc (.cells #[.int .i64 0, .int .i64 0, .int .i64 0, .int .i64 0] 52))) := by
            obtain ⟨j0, j1, j2, j3, j4, j5, j6, j7, j8, j9, e0⟩ := HJ.out
            refine ⟨j0, j1, j2, j3, j4, j5, j6, j7, fun _ => ⟨x.heap.size, rfl, e0.size, fun _ => Bk.new _ _ _, fun c => ?_⟩, fun _ => rfl, e0.alloc e0.size _⟩
            have := j9 c; rw [hbi] at this; cases this
          clear HJ hpre
          go_simp
          exact hK _ _ ⟨_, u39, u40, u41, u42, u43, u44, u45, u46, rfl, HN⟩
        · injection (show some _ = some o from ho) with ho
          subst ho
          have p7 : b 7 = true := hpre 7 (by decide +kernel)
          obtain rfl : u46 = .agg #[.int .i64 ar.x, .int .i64 ar.y, .int .i64 ar.w, .int .i64 ar.h] := by obtain ⟨j0, j1, j2, j3, j4, j5, j6, j7, j8, j9, e0⟩ := HJ.out; exact (j7 p7)
          have p8 : b 8 = true := hpre 8 (by decide +kernel)
          obtain ⟨qb, rfl, hq1, z⟩ : ∃ qb, u13 = .pointer (some ⟨qb, 0, none⟩) ∧ w6.heap.size ≤ qb ∧ Bk x qb #[.int .i64 0, .int .i64 0, .int .i64 0, .int .i64 0] 52 := by
            obtain ⟨j0, j1, j2, j3, j4, j5, j6, j7, j8, j9, e0⟩ := HJ.out
            obtain ⟨qb, k1, k2, k3, _⟩ := j8 p8
            exact ⟨qb, k1, k2, k3 hbi⟩
          have z0 : x.cell? ⟨qb, 0, none⟩ = some (.int .i64 0) := by rw [z.cell]; rfl
          have z1 : x.cell? ⟨qb, 1, none⟩ = some (.int .i64 0) := by rw [z.cell]; rfl
          have z2 : x.cell? ⟨qb, 2, none⟩ = some (.int .i64 0) := by rw [z.cell]; rfl
          have z3 : x.cell? ⟨qb, 3, none⟩ = some (.int .i64 0) := by rw [z.cell]; rfl
          have f0 := z.frozen
          have lz := z.lt
          have HN : Hid (DdJ w6 w gq oq2 cq i0 a0 b0 A q ar (fun j => if j = 9 then true else b j) (.pointer (some ⟨qb, 0, none⟩)) u39 u40 u41 u42 u43 u44 u45 (.agg #[.int .i64 ar.x, .int .i64 ar.y, .int .i64 ar.w, .int .i64 ar.h]) ((((x.setCell ⟨qb, 0, none⟩ (.int .i64 ar.x)).setCell ⟨qb, 1, none⟩ (.int .i64 ar.y)).setCell ⟨qb, 2, none⟩ (.int .i64 ar.w)).setCell ⟨qb, 3, none⟩ (.int .i64 ar.h))) := by
            obtain ⟨j0, j1, j2, j3, j4, j5, j6, j7, j8, j9, e0⟩ := HJ.out
            exact ⟨j0, j1, j2, j3, j4, j5, j6, j7, fun _ => ⟨qb, rfl, hq1, (fun c => by cases c), fun _ => by simpa using ((((z.put 0 (.int .i64 ar.x)).put 1 (.int .i64 ar.y)).put 2 (.int .i64 ar.w)).put 3 (.int .i64 ar.h))⟩, fun _ => p8, ((((e0.setCell (p := ⟨qb, 0, none⟩) hq1 (.int .i64 ar.x)).setCell (p := ⟨qb, 1, none⟩) hq1 (.int .i64 ar.y)).setCell (p := ⟨qb, 2, none⟩) hq1 (.int .i64 ar.w)).setCell (p := ⟨qb, 3, none⟩) hq1 (.int .i64 ar.h))⟩
          clear HJ hpre z
          go_simp
          exact hK _ _ ⟨_, u39, u40, u41, u42, u43, u44, u45, _, rfl, HN⟩
      · intro b a x hI hall
        obtain ⟨u13, u39, u40, u41, u42, u43, u44, u45, u46, rfl, HJ⟩ := hI
        have hall' : ∀ i, i < 10 → b i = true := fun i hi => hall i (by simpa using hi)
        obtain ⟨qb, hu13, hq1, HZ⟩ : ∃ qb, u13 = .pointer (some ⟨qb, 0, none⟩) ∧ w6.heap.size ≤ qb ∧ Hid (Bk x qb #[.int .i64 ar.x, .int .i64 ar.y, .int .i64 ar.w, .int .i64 ar.h] 52 ∧ Below w6.heap.size w6 x) := by
          obtain ⟨j0, j1, j2, j3, j4, j5, j6, j7, j8, j9, e0⟩ := HJ.out
          obtain ⟨qb, e1, e2, _, e4⟩ := j8 (hall' 8 (by omega))
          exact ⟨qb, e1, e2, e4 (hall' 9 (by omega)), e0⟩
        subst hu13
        have H8 : Hid (DrM w a0 b0 (.slice oa l.length cap) bd lo (.slice od l.length cd) (drwS a0 l (A.take i0)) (.slice (some ⟨gs, os, none⟩) A.length cu) (.slice (some ⟨gq, oq2, none⟩) A.length cq) (A.map Prod.fst) (A.map Prod.snd) x ∧ Bk x bt (#[.int .u8 st.k, .int .i64 st.r.x, .int .i64 st.r.y, .int .i64 st.r.w, .int .i64 st.r.h, .int .u8 st.c.r, .int .u8 st.c.g, .int .u8 st.c.b, .int .u8 st.c.a, .int .u8 st.b.r, .int .u8 st.b.g, .int .u8 st.b.b, .int .u8 st.b.a, .string st.t, .int .i64 st.n]) 55 ∧ Bk x qb #[.int .i64 ar.x, .int .i64 ar.y, .int .i64 ar.w, .int .i64 ar.h] 52) := ⟨H7.out.1.below HZ.out.2, H7.out.2.1.below HZ.out.2, HZ.out.1⟩
        have Hq1 : Hid (bt < qb ∧ bd ≠ qb) := by
          have h1 := H7.out.2.1.lt
          have h2 := H7.out.1.k2.lt
          constructor <;> omega
        clear HJ hall hall' HZ H7 HRq HMe hq1
        obtain ⟨z0, z1, z2, z3⟩ := H8.out.2.2.at4
        have hai : I64 ar.x ∧ I64 ar.y := by
          rw [HAr.out]
          cases hz : zEm (areZ a0 b0 q)
          · obtain ⟨e1, e2, e3, e4, e5, e6⟩ := (em_iff _).1 hz
            constructor <;> (unfold I64; omega)
          · unfold areZ zMe meetR at hz ⊢
            split at hz
            · next c => rw [if_pos c]; exact ⟨⟨by decide, by decide⟩, ⟨by decide, by decide⟩⟩
            · next c =>
              rw [if_neg c]
              unfold btw
              split
              · exact ⟨⟨by decide, by decide⟩, ⟨by decide, by decide⟩⟩
              · obtain ⟨f1, f2, f3, f4, f5, f6, f7, f8⟩ := may_bd (x := q.x) (y := q.y) (w := q.w) (h := q.h) (show zMa q = true from HP.out.1.q)
                have := szB_iff.1 HG.out.1
                constructor <;> (unfold I64; dsimp only; omega)
        have HEm : Hid (∀ W, Calls Tryz.prog 30 #[.agg #[.int .i64 ar.x, .int .i64 ar.y, .int .i64 ar.w, .int .i64 ar.h]] W fun e w' => e = .returned (.bool (zEm ar)) ∧ Below W.heap.size W w') := fun W => empty_any ar.x ar.y ar.w ar.h W hai.1 hai.2
        clear hai
        go_wp2_with fail
        refine (HEm.out _).mono ?_
        rintro e w7 ⟨rfl, hb7⟩
        have H9 : Hid (DrM w a0 b0 (.slice oa l.length cap) bd lo (.slice od l.length cd) (drwS a0 l (A.take i0)) (.slice (some ⟨gs, os, none⟩) A.length cu) (.slice (some ⟨gq, oq2, none⟩) A.length cq) (A.map Prod.fst) (A.map Prod.snd) w7 ∧ Bk w7 bt (#[.int .u8 st.k, .int .i64 st.r.x, .int .i64 st.r.y, .int .i64 st.r.w, .int .i64 st.r.h, .int .u8 st.c.r, .int .u8 st.c.g, .int .u8 st.c.b, .int .u8 st.c.a, .int .u8 st.b.r, .int .u8 st.b.g, .int .u8 st.b.b, .int .u8 st.b.a, .string st.t, .int .i64 st.n]) 55 ∧ Bk w7 qb #[.int .i64 ar.x, .int .i64 ar.y, .int .i64 ar.w, .int .i64 ar.h] 52) := ⟨H8.out.1.below hb7, H8.out.2.1.below hb7, H8.out.2.2.below hb7⟩
        clear hb7 H8 z0 z1 z2 z3 HEm
        have hLl : Hid (l.length = a0 * b0) := by have := HG.out.2.1; rw [← Int.natCast_mul] at this; exact Int.ofNat.inj this
        have HSn : Hid (stpS a0 b0 (drwS a0 l (A.take i0)) (st, q) = drwS a0 l (A.take (i0 + 1))) := by
          unfold Hid
          rw [HT.out]
          exact drwS_snoc HG.out.1 hLl.out _ _ HP.out.1.d
        cases hz : zEm ar
        · have hin := are_in (a := a0) (b := b0) (q := q) (by rw [← HAr.out]; exact hz)
          rw [← HAr.out] at hin
          obtain ⟨i1, i2, i3, i4, i5, i6, i7, i8, i9, i10⟩ := hin
          have hzq : zEm q = false := by
            cases e : zEm q
            · rfl
            · exfalso
              have e2 : areZ a0 b0 q = zr := by
                unfold areZ zMe meetR
                rw [if_pos (by rw [show emptyB q.x q.y q.w q.h = true from e]; rfl)]
              rw [HAr.out, e2] at hz
              exact absurd hz (by decide)
          obtain ⟨n1, n2, n3, n4⟩ := HP.out.1.i hzq
          have n1 : st.r.x ≤ q.x := n1
          have n2 : q.x + q.w ≤ st.r.x + st.r.w := n2
          have n3 : st.r.y ≤ q.y := n3
          have n4 : q.y + q.h ≤ st.r.y + st.r.h := n4
          obtain ⟨x1, hx1⟩ : ∃ x1 : Nat, ar.x = x1 := ⟨ar.x.toNat, by omega⟩
          obtain ⟨y1, hy1⟩ : ∃ y1 : Nat, ar.y = y1 := ⟨ar.y.toNat, by omega⟩
          obtain ⟨m1, hm1⟩ : ∃ m1 : Nat, ar.w = m1 := ⟨ar.w.toNat, by omega⟩
          obtain ⟨h1, hh1⟩ : ∃ h1 : Nat, ar.h = h1 := ⟨ar.h.toNat, by omega⟩
          have hpos : 0 < l.length := by rw [hLl.out]; exact Nat.mul_pos (by omega) (by omega)
          obtain ⟨M, hM⟩ : ∃ M, M = drwS a0 l (A.take i0) := ⟨_, rfl⟩
          have hMl : M.length = l.length := by rw [hM, drwS_len]
          rw [← hM] at H9 HSn
          obtain ⟨g, cap', ev, hsc⟩ := OwC.scm H9.out.1.c (by rw [hMl]; exact hpos)
          rw [hMl] at ev hsc
          injection ev with ev1 ev2 ev3
          subst ev1 ev3
          obtain ⟨g1, g2⟩ := HX.out.2.2.2 g rfl
          have hlo := HX.out.1
          have hwM : WfC M := by
            rw [hM]
            exact wf_drwS HG.out.2.2.1 (fun p hp => (HA.out p (List.mem_of_mem_take hp)).2)
          have hHT : ∀ W, w7.grownBy W (some g) → TbD W := fun W gr => HG.out.2.2.2.2 W (by
            have d := H9.out.1.d
            exact ⟨gr.os.trans d.os, gr.tape.trans d.tape, gr.output.trans d.output, Nat.le_trans d.size gr.size, fun b hb => (gr.block b (Nat.lt_of_lt_of_le hb d.size) (fun e => by injection e with e; omega)).trans (d.block b hb)⟩)
          have hdr := draw_any HG.out.2.2.2.1 lo g l.length cd a0 b0 x1 y1 m1 h1 M st w7 hsc HG.out.1 HG.out.2.1 (by omega) (by omega) (by omega) HP.out.2 hwM HP.out.1.r (by omega) (by omega) (by omega) (by omega) HP.out.1.k (by have := HP.out.1.t; have : st.t.size ≤ 65536 := this; omega) hHT
          rw [← hx1, ← hy1, ← hm1, ← hh1] at hdr
          have HDr : Hid (Calls Tryz.prog 31 #[.agg #[.int .i64 (a0 : Nat), .int .i64 (b0 : Nat), .slice (some ⟨g, 0, none⟩) l.length cd], (Value.agg #[.int .u8 st.k, .int .i64 st.r.x, .int .i64 st.r.y, .int .i64 st.r.w, .int .i64 st.r.h, .int .u8 st.c.r, .int .u8 st.c.g, .int .u8 st.c.b, .int .u8 st.c.a, .int .u8 st.b.r, .int .u8 st.b.g, .int .u8 st.b.b, .int .u8 st.b.a, .string st.t, .int .i64 st.n]), .agg #[.int .i64 ar.x, .int .i64 ar.y, .int .i64 ar.w, .int .i64 ar.h]] w7 fun e w' => e = .returned (.tuple #[]) ∧ ScM lo w' g l.length cd (updQ M a0 x1 y1 m1 h1 (madK st a0)) ∧ w7.grownBy w' (some g)) := hdr
          have HU : Hid (updQ M a0 x1 y1 m1 h1 (madK st a0) = drwS a0 l (A.take (i0 + 1))) := by
            unfold Hid
            rw [← HSn.out]
            unfold stpS
            rw [if_neg (by rw [← HAr.out, hz]; simp), ← HAr.out, hx1, hy1, hm1, hh1]
            simp
          have HN2 : Hid (bd ≠ g ∧ w.heap.size + 1 < g ∧ (Value.slice (some ⟨gs, os, none⟩) A.length cu).ownBlock ≠ some g ∧ (Value.slice (some ⟨gq, oq2, none⟩) A.length cq).ownBlock ≠ some g) := by
            refine ⟨by omega, by omega, fun e => ?_, fun e => ?_⟩
            · have := HX.out.2.1 g e; omega
            · have := HX.out.2.2.1 g e; omega
          have hk2 := Bk.at3S H9.out.1.k2
          obtain ⟨k0, k1, k2⟩ := hk2
          obtain ⟨z0, z1, z2, z3⟩ := H9.out.2.2.at4
          have sc := H9.out.2.1.cell
          have y0 : w7.cell? ⟨bt, 0, none⟩ = some (.int .u8 st.k) := by rw [sc]; rfl
          have y1 : w7.cell? ⟨bt, 1, none⟩ = some (.int .i64 st.r.x) := by rw [sc]; rfl
          have y2 : w7.cell? ⟨bt, 2, none⟩ = some (.int .i64 st.r.y) := by rw [sc]; rfl
          have y3 : w7.cell? ⟨bt, 3, none⟩ = some (.int .i64 st.r.w) := by rw [sc]; rfl
          have y4 : w7.cell? ⟨bt, 4, none⟩ = some (.int .i64 st.r.h) := by rw [sc]; rfl
          have y5 : w7.cell? ⟨bt, 5, none⟩ = some (.int .u8 st.c.r) := by rw [sc]; rfl
          have y6 : w7.cell? ⟨bt, 6, none⟩ = some (.int .u8 st.c.g) := by rw [sc]; rfl
          have y7 : w7.cell? ⟨bt, 7, none⟩ = some (.int .u8 st.c.b) := by rw [sc]; rfl
          have y8 : w7.cell? ⟨bt, 8, none⟩ = some (.int .u8 st.c.a) := by rw [sc]; rfl
          have y9 : w7.cell? ⟨bt, 9, none⟩ = some (.int .u8 st.b.r) := by rw [sc]; rfl
          have y10 : w7.cell? ⟨bt, 10, none⟩ = some (.int .u8 st.b.g) := by rw [sc]; rfl
          have y11 : w7.cell? ⟨bt, 11, none⟩ = some (.int .u8 st.b.b) := by rw [sc]; rfl
          have y12 : w7.cell? ⟨bt, 12, none⟩ = some (.int .u8 st.b.a) := by rw [sc]; rfl
          have y13 : w7.cell? ⟨bt, 13, none⟩ = some (.string st.t) := by rw [sc]; rfl
          have y14 : w7.cell? ⟨bt, 14, none⟩ = some (.int .i64 st.n) := by rw [sc]; rfl
          have hz' : zEm ar = false := hz
          clear hdr hHT hwM hsc hM hMl hpos hx1 hy1 hm1 hh1 i1 i2 i3 i4 i5 i6 i7 i8 i9 i10 n1 n2 n3 n4 hzq sc g1 g2 hlo hz ev2
          go_wp2_with fail
          refine HDr.out.mono ?_
          rintro e w8 ⟨rfl, h5, h6⟩
          have HX2 : Hid (DrM w a0 b0 (.slice oa l.length cap) bd lo (.slice (some ⟨g, 0, none⟩) l.length cd) (drwS a0 l (A.take (i0 + 1))) (.slice (some ⟨gs, os, none⟩) A.length cu) (.slice (some ⟨gq, oq2, none⟩) A.length cq) (A.map Prod.fst) (A.map Prod.snd) w8) := by
            rw [HU.out] at h5
            exact H9.out.1.drawn h6 HN2.out.2.1 HN2.out.1 HN2.out.2.2.1 HN2.out.2.2.2 h5.own
          clear h5 h6 H9 HDr
          go_wp2
          go_roundw
          case rel => exact ⟨i0 + 1, by omega, by go_num, HX2⟩
          case measure => simp [intOf]; omega
        · have HX2 : Hid (DrM w a0 b0 (.slice oa l.length cap) bd lo (.slice od l.length cd) (drwS a0 l (A.take (i0 + 1))) (.slice (some ⟨gs, os, none⟩) A.length cu) (.slice (some ⟨gq, oq2, none⟩) A.length cq) (A.map Prod.fst) (A.map Prod.snd) w7) := by
            have : stpS a0 b0 (drwS a0 l (A.take i0)) (st, q) = drwS a0 l (A.take i0) := by
              unfold stpS
              rw [if_pos (by rw [← HAr.out]; exact hz)]
            rw [← HSn.out, this]
            exact H9.out.1
          clear H9
          go_wp2
          go_roundw
          case rel => exact ⟨i0 + 1, by omega, by go_num, HX2⟩
          case measure => simp [intOf]; omega
    · have hiA : i0 = A.length := by omega
      have HR2 : Hid (DrM w a0 b0 (.slice oa l.length cap) bd lo (.slice od l.length cd) (drwS a0 l A) (.slice ou A.length cu) (.slice oq A.length cq) (A.map Prod.fst) (A.map Prod.snd) wr) := by
        have := HR.out
        rw [hiA, List.take_length] at this
        exact this
      have hnl : ¬ (i0 : Int) < (A.length : Int) := by omega
      clear HR hiA
      obtain ⟨m0, m1, m2⟩ := Bk.at3S HR2.out.k2
      obtain ⟨z0, z1, z2⟩ := Bk.at3S HR2.out.k1
      have y0 := HR2.out.k1.frozen 0
      have y1 := HR2.out.k1.frozen 1
      have y2 := HR2.out.k1.frozen 2
      obtain ⟨W9, hW9⟩ : ∃ W9, W9 = ((wr.setCell ⟨w.heap.size + 1, 0, none⟩ (.int .i64 (a0 : Nat))).setCell ⟨w.heap.size + 1, 1, none⟩ (.int .i64 (b0 : Nat))).setCell ⟨w.heap.size + 1, 2, none⟩ (.slice od l.length cd) := ⟨_, rfl⟩
      have H9 : Hid (OwC w.heap.size W9 (.slice od l.length cd) (drwS a0 l A) ∧ Below w.heap.size w W9 ∧ Bk W9 (w.heap.size + 1) #[.int .i64 (a0 : Nat), .int .i64 (b0 : Nat), .slice od l.length cd] 26) := by
        have hl1 := HX.out.1
        have u2 := HR2.out.d
        rw [hW9]
        exact ⟨row_weaken (OwC.set (OwC.set (OwC.set HR2.out.c _ _ hl1) _ _ hl1) _ _ hl1) (by omega), ((u2.setCell (p := ⟨w.heap.size + 1, 0, none⟩) (by simp) _).setCell (p := ⟨w.heap.size + 1, 1, none⟩) (by simp) _).setCell (p := ⟨w.heap.size + 1, 2, none⟩) (by simp) _, HR2.out.k1.put3S⟩
      go_wp2
      rw [← hW9]
      clear hW9 HR2 m0 m1 m2 z0 z1 z2 y0 y1 y2
      obtain ⟨z0, z1, z2⟩ := Bk.at3S H9.out.2.2
      exact bodyPost_ret (v := .tuple #[.agg #[.int .i64 (a0 : Nat), .int .i64 (b0 : Nat), .slice od l.length cd], .int .i64 0]) (by simp [results, Tryz.results8, go_sem, z0, z1, z2]) rfl ⟨_, rfl, H9.out.1, H9.out.2.1⟩

end Go.Proofs.YtapachlhdgehjaaGreatDoor
