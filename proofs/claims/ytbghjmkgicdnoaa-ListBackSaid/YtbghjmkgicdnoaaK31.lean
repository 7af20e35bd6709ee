/-
  Texts of this claim, one behind the other: what each is about stands ahead of it.
-/
import Derived.Test.YtbghjmkgicdnoaaK30
import Derived.Test.YtbghjmkgicdnoaaK14
import Derived.Test.YtbghjmkgicdnoaaK17
import Derived.Test.YtbghjmkgicdnoaaK29
/-
  Contracts of package list: the places at which strokes show, as pieces.
-/
namespace Go.Proofs.Ytbghjmkgicdnoaa
open Go.RowKit

theorem info_rows : (Try.prog.info? 39).map (fun i => (i.zero, i.size, i.bytes)) = some (some (.slice none 0 0), 1, 24) := by kernel_rfl
set_option maxRecDepth 20000 in
theorem make_rows (n : Nat) (hn : n < 1000000) (w : World) : (Instr.makeSlice 65 (.int .i64 (n : Nat)) (.int .i64 (n : Nat))).run Try.prog w = .ok (.slice (some ⟨w.heap.size, 0, none⟩) n n) (w.alloc (.cells (List.replicate n (.slice none 0 0)).toArray 39)) := by
  obtain ⟨i0, hi, hz0, hz1, hz2⟩ := info_parts info_rows
  have h := run_make (P := Try.prog) w 65 39 i0 (.slice none 0 0) Try.underlying65 hi hz0 .i64 .i64 (n : Int) (n : Int) (by omega) (Int.le_refl _) (by rw [hz2]; omega) (by omega)
  simp only [Int.toNat_natCast, hz1, Nat.mul_one] at h
  rw [h]
  congr 3
  refine Array.ext (by simp [size_madeCells]) fun i h1 h2 => ?_
  simp [madeCells, Value.cells, Nat.mod_one]
theorem me_may (a b : Rc) : zMa (zMe a b) = true := by
  cases e : zEm (zMe a b)
  · unfold zEm at e
    unfold zMa
    exact may_of e
  · rw [me_em e]
    decide +kernel
theorem dwn_may {s : St} {r : Rc} (hr : zMa r = true) : ∀ x ∈ dwnL s r, zMa x = true := by
  intro x hx
  unfold dwnL at hx
  split at hx
  · have e : x = r := by simpa using hx
    rw [e]; exact hr
  · split at hx
    · unfold brdL at hx
      simp only [List.mem_cons, List.not_mem_nil, or_false] at hx
      rcases hx with rfl | rfl | rfl | rfl <;> exact me_may _ _
    · cases hx
theorem empty_enters : ∀ args w, (callFunc 50 args).run Try.prog w = .ok (.enter 50 args) w := enters_of Try.func50 (by kernel_rfl) rfl

theorem ann_sh : ∀ (l : List St) (c : List Rc) (k : Nat) (h : k < (ann c l).length), ∃ cs, ((ann c l)[k]).2 = shR cs ((ann c l)[k]).1
  | [], c, k, h => absurd h (Nat.not_lt_zero _)
  | s :: l, c, 0, _ => ⟨c, rfl⟩
  | s :: l, c, k + 1, h => ann_sh l (nxC c s) k (by simpa [ann] using h)
theorem cell_grown {W W' : World} {r : Option Nat} (h : W.grownBy W' r) {g : Nat} (hg : g < W.heap.size) (hr : r ≠ some g) (j : Nat) : W'.cell? ⟨g, j, none⟩ = W.cell? ⟨g, j, none⟩ := by
  have e := h.block g hg (fun c => hr c.symm)
  unfold World.cell?
  simp only [e]
theorem below_ob {W W' : World} (r : Option Nat) (h : Below W.heap.size W W') : W.grownBy W' r := ⟨h.os, h.tape, h.output, h.size, fun b hb _ => h.block b hb⟩

/-- A stroke's pieces, told: first all of them, then without those that are empty. -/
theorem piece_any (s : St) (r : Rc) (u : Value) (lo : Nat) (w : World) (hr : zMa r = true) (ho : OwR lo w u (dwnL s r)) :
    Calls Try.prog 62 #[u, .func (.func 50) #[] #[]] w fun e w' => ∃ u', e = .returned u' ∧ Hid (OwR lo w' u' ((dwnL s r).filter fun x => !zEm x) ∧ w.grownBy w' u.ownBlock ∧ u'.ownBlock = u.ownBlock) :=
  delete_fn 50 #[] zEm (dwnL s r) u lo w ho empty_enters (fun x hx W _ => by
    have hb := may_bd (dwn_may hr x hx)
    have h : Calls Try.prog 50 #[.agg #[.int .i64 x.x, .int .i64 x.y, .int .i64 x.w, .int .i64 x.h]] W fun e w' => e = .returned (.bool (zEm x)) ∧ Below W.heap.size W w' := empty_any x.x x.y x.w x.h W (i64_near ⟨hb.1, hb.2.1⟩) (i64_near ⟨hb.2.2.1, hb.2.2.2.1⟩)
    simpa using h) (by have := dwn_len s r; omega)

/-- What lies there while pieces are told. -/
structure PcW (lo : Nat) (w : World) (n ga : Nat) (A : List (St × Rc)) (k : Nat) (vs : List Value) (W : World) : Prop where
  o : W.ownsRow lo 39 1 (.slice (some ⟨ga, 0, none⟩) n n) n vs
  r : ∀ i, i < k → ∀ p, A[i]? = some p → ∃ u, vs[i]? = some u ∧ OwR lo W u (plc p.1 p.2) ∧ u.ownBlock ≠ some ga
  b : Below lo w W
theorem PcW.below {lo : Nat} {w : World} {n ga : Nat} {A : List (St × Rc)} {k : Nat} {vs : List Value} {W W' : World} (h : PcW lo w n ga A k vs W) (hl : lo ≤ W.heap.size) (hb : Below W.heap.size W W') : PcW lo w n ga A k vs W' := by
  refine ⟨row_below h.o hb, fun i hi p hp => ?_, h.b.trans (hb.mono hl)⟩
  obtain ⟨u, h1, h2, h3⟩ := h.r i hi p hp
  exact ⟨u, h1, h2.below hb, h3⟩
theorem PcW.next {lo : Nat} {w : World} {n ga : Nat} {A : List (St × Rc)} {k : Nat} {vs : List Value} {W : World} (h : PcW lo w n ga A k vs W) (hk : k < n) {u : Value} {p : St × Rc} (hp : A[k]? = some p) (ho : OwR lo W u (plc p.1 p.2)) (hu : u.ownBlock ≠ some ga) (hga : lo ≤ ga) : PcW lo w n ga A (k + 1) (vs.set k u) (W.setCell ⟨ga, k, none⟩ u) := by
  have hl : vs.length = n := by have := h.o.1; omega
  refine ⟨own_set h.o k u, fun i hi q hq => ?_, h.b.setCell (p := ⟨ga, k, none⟩) hga u⟩
  by_cases hik : i = k
  · subst hik
    rw [hp] at hq
    injection hq with hq
    subst hq
    refine ⟨u, List.getElem?_set_self (by omega), World.ownsRow.kept ho (ob_set W ga i u) (.inr hu), hu⟩
  · obtain ⟨v, h1, h2, h3⟩ := h.r i (by omega) q hq
    refine ⟨v, ?_, World.ownsRow.kept h2 (ob_set W ga k u) (.inr h3), h3⟩
    rw [List.getElem?_set_ne (by omega)]
    exact h1

def JP (w w2 W0 : World) (lo : Nat) (g o N cap ga k bx : Nat) (A : List (St × Rc)) (sx : St) (rx : Rc) (b : Nat → Bool) (u17 u18 u19 u20 u21 u22 u23 u24 u25 u26 : Value) (x : World) : Prop :=
  (b 0 = true → u17 = .slice (some ⟨ga, 0, none⟩) N N) ∧
  (b 1 = true → u18 = .int .i64 k) ∧
  (b 2 = true → u19 = .slice (some ⟨g, o, none⟩) N cap) ∧
  (b 3 = true → u20 = .int .i64 k) ∧
  (b 4 = true → u21 = .pointer (some ⟨g, o + k * 15, none⟩)) ∧
  (b 5 = true → u22 = (Value.agg #[.int .u8 sx.k, .int .i64 sx.r.x, .int .i64 sx.r.y, .int .i64 sx.r.w, .int .i64 sx.r.h, .int .u8 sx.c.r, .int .u8 sx.c.g, .int .u8 sx.c.b, .int .u8 sx.c.a, .int .u8 sx.b.r, .int .u8 sx.b.g, .int .u8 sx.b.b, .int .u8 sx.b.a, .string sx.t, .int .i64 sx.n])) ∧
  (b 6 = true → u23 = .agg #[.int .i64 rx.x, .int .i64 rx.y, .int .i64 rx.w, .int .i64 rx.h]) ∧
  (b 7 = true → b 8 = false → OwR lo x u24 (dwnL sx rx) ∧ ∀ q, u24.ownBlock = some q → W0.heap.size ≤ q) ∧
  (b 8 = true → b 7 = true ∧ (b 10 = false → OwR lo x u25 (plc sx rx) ∧ ∀ q, u25.ownBlock = some q → W0.heap.size ≤ q)) ∧
  (b 9 = true → u26 = .pointer (some ⟨ga, k, none⟩)) ∧
  (b 10 = true → b 8 = true) ∧
  (b 10 = false → Below W0.heap.size W0 x) ∧
  (b 10 = true → ∃ vs, PcW lo w N ga A (k + 1) vs x ∧ w2.grownBy x (some ga)) ∧
  (StAt x g (o + k * 15) sx ∧ Bk x bx #[.int .i64 rx.x, .int .i64 rx.y, .int .i64 rx.w, .int .i64 rx.h] 27 ∧ g < x.heap.size)

set_option maxRecDepth 20000 in
set_option maxHeartbeats 8000000 in
theorem lpieces_any (l : List St) (v : Value) (w : World) (hv : LsS w v l) (hl : l.length ≤ 16384) (hc0 : clpE 0 l = 0) (hca : ∀ s ∈ l, 0 ≤ s.c.a) :
    Calls Try.prog 38 #[v] w fun e w' => ∃ u, e = .returned u ∧ Hid (RowsR w' u ((ann [] l).map fun p => plc p.1 p.2) ∧ Below w.heap.size w w') := by
  have HSh : Hid (∀ W, Below w.heap.size w W → Calls Try.prog 55 #[v] W fun e w' => ∃ u, e = .returned u ∧ OwR W.heap.size w' u ((ann [] l).map Prod.snd) ∧ Below W.heap.size W w') := fun W h => shown_any l v W (hv.below h) hl hc0
  obtain ⟨oa, cap, rfl, hc, hg⟩ := hv
  have HG : Hid (0 < l.length → ∃ g o, oa = some ⟨g, o, none⟩ ∧ g < w.heap.size ∧ ∀ i (h : i < l.length), StAt w g (o + i * 15) l[i]) := hg
  obtain ⟨N, hN⟩ : ∃ N, N = l.length := ⟨_, rfl⟩
  have HN : Hid (N = l.length ∧ (ann [] l).length = l.length) := ⟨hN, ann_len l []⟩
  obtain ⟨ga, hga⟩ : ∃ ga, ga = w.heap.size := ⟨_, rfl⟩
  have hmk : (Instr.makeSlice 65 (.int .i64 (N : Nat)) (.int .i64 (N : Nat))).run Try.prog w = .ok (.slice (some ⟨ga, 0, none⟩) N N) (w.alloc (.cells (List.replicate N (.slice none 0 0)).toArray 39)) := by rw [hga]; exact make_rows N (by omega) w
  have H0 : Hid ((w.alloc (.cells (List.replicate N (.slice none 0 0)).toArray 39)).ownsRow w.heap.size 39 1 (.slice (some ⟨ga, 0, none⟩) N N) N (List.replicate N (.slice none 0 0)) ∧ Below w.heap.size w (w.alloc (.cells (List.replicate N (.slice none 0 0)).toArray 39)) ∧ w.heap.size ≤ ga) := by
    refine ⟨⟨by simp, .inr ⟨ga, N, _, rfl, by omega, by rw [hga]; exact Bk.new _ _ _, Nat.le_refl _, by unfold maxLen; omega, by simp, by simp⟩⟩, (Below.refl _ _).alloc (Nat.le_refl _) _, by omega⟩
  -- strokes with their rectangles
  have HA : Hid (∀ k (h : k < l.length), ∃ p, (ann [] l)[k]? = some p ∧ p.1 = l[k] ∧ zMa p.2 = true ∧ Kd p.1 ∧ zMa p.1.r = true ∧ (dwnL p.1 p.2).filter (fun x => !zEm x) = plc p.1 p.2) := fun k h => by
    have h' : k < (ann [] l).length := by rw [ann_len]; exact h
    have e1 : ((ann [] l)[k]).1 = l[k] := by
      have := congrArg (fun L : List St => L[k]?) (ann_fst l [])
      simp only [List.getElem?_map, List.getElem?_eq_getElem h', List.getElem?_eq_getElem h, Option.map_some, Option.some.injEq] at this
      exact this
    have hone := clp_ones l 0 hc0 _ (List.getElem_mem h)
    obtain ⟨cs, e2⟩ := ann_sh l [] k h'
    rw [e1] at e2
    refine ⟨(ann [] l)[k], List.getElem?_eq_getElem h', e1, ?_, ?_, ?_, ?_⟩
    · rw [e2]; exact shR_may _ _
    · rw [e1]; exact kd_one hone
    · rw [e1]; exact (oneE_zero hone).1
    · rw [e1, e2]
      exact dwn_plc (kd_one hone) (hca _ (List.getElem_mem h)) fun hz => shR_em hz
  rw [← hN] at hl hc HSh ⊢
  clear hg hga hc0 hca hN
  generalize (List.replicate N (Value.slice none 0 0)).toArray = arr at *
  obtain ⟨vs0, hvs0⟩ : ∃ vs0, vs0 = List.replicate N (Value.slice none 0 0) := ⟨_, rfl⟩
  rw [← hvs0] at H0
  clear hvs0
  obtain ⟨A, hA⟩ : ∃ A, A = ann [] l := ⟨_, rfl⟩
  have HAe : Hid (A = ann [] l) := hA
  rw [← hA] at HA HSh HN ⊢
  clear hA
  go_enter Try.func38, Try.ntmps38
  go_wp2_with fail
  generalize w.alloc (.cells arr 39) = w1 at *
  refine (HSh.out _ H0.out.2.1).mono ?_
  rintro e w2 ⟨us, rfl, hus, hb2⟩
  have H2 : Hid (OwR w1.heap.size w2 us (A.map Prod.snd) ∧ PcW w.heap.size w N ga A 0 vs0 w2) := ⟨hus, row_below H0.out.1 hb2, fun i hi => absurd hi (Nat.not_lt_zero _), H0.out.2.1.trans (hb2.mono H0.out.2.1.size)⟩
  have HGa : Hid (w.heap.size ≤ ga) := H0.out.2.2
  have HGl : Hid (ga < w1.heap.size) := (row_lt H0.out.1 ga rfl).2
  clear hus hb2 hmk H0 HSh
  obtain ⟨os, cp, es, hcp, hgs⟩ := row_val H2.out.1
  subst es
  have hAl : (A.map Prod.snd).length = N := by rw [List.length_map, HN.out.2, HN.out.1]
  rw [hAl] at hcp ⊢
  have HUS : Hid (0 < N → ∃ g, os = some ⟨g, 0, none⟩ ∧ g < w2.heap.size ∧ ∀ i p, A[i]? = some p → RcAt w2 g (i * 4) p.2) := fun h => by
    obtain ⟨g, e1, _, hlt⟩ := hgs (by omega)
    refine ⟨g, e1, hlt, fun i p hp => ?_⟩
    obtain ⟨oa', cap', e2, _, hg'⟩ := lsr_own H2.out.1
    obtain ⟨g', o', e3, _, hat⟩ := hg' (by omega)
    injection e2 with e2 _ _
    rw [e1] at e2
    rw [e3] at e2
    injection e2 with e2
    injection e2 with e4 e5 _
    subst e4 e5
    obtain ⟨hi, he⟩ := List.getElem?_eq_some_iff.1 hp
    have := hat i (by rw [List.length_map]; exact hi)
    rw [Nat.zero_add, List.getElem_map, he] at this
    exact this
  have HI0 : Hid (∃ vs, PcW w.heap.size w N ga A 0 vs w2 ∧ w2.grownBy w2 (some ga)) := ⟨vs0, H2.out.2, World.grownBy.refl _ _⟩
  have HUN : Hid (∀ g, os = some ⟨g, 0, none⟩ → ga ≠ g) := fun g h e => by
    have h1 := row_lt H2.out.1 g (by rw [h]; rfl)
    have h2 := HGl.out
    omega
  clear H2 hgs hAl
  go_wp2_with fail
  go_loopw [12] (fun i wr => ∃ k : Nat, i = .int .i64 k ∧ k ≤ N ∧ Hid (∃ vs, PcW w.heap.size w N ga A k vs wr ∧ w2.grownBy wr (some ga))) (fun i _ => N - (intOf i).toNat)
  case atStart => exact ⟨0, rfl, Nat.zero_le _, HI0⟩
  case round =>
    clear HI0
    obtain ⟨k, rfl, hk, HK⟩ := hrel
    by_cases hlt : k < N
    · have ik : (k : Int) < N := by omega
      have hll : k < l.length := by rw [← HN.out.1]; exact hlt
      obtain ⟨g, o, rfl, hg, hat⟩ := HG.out (by omega)
      obtain ⟨g1, rfl, hg1, hat1⟩ := HUS.out (by omega)
      obtain ⟨vs, hP, hGr⟩ := HK.out
      obtain ⟨p, hp1, hp2, hp3, hp4, hp5, hp6⟩ := HA.out k hll
      have hx : StAt wr g (o + k * 15) p.1 := by rw [hp2]; exact (hat k hll).kept fun j => hP.b.cell (p := ⟨g, j, none⟩) hg
      have hy : RcAt wr g1 (k * 4) p.2 := (hat1 k p hp1).kept fun j => cell_grown hGr hg1 (fun e => HUN.out g1 rfl (by injection e)) j
      have hgw : g < wr.heap.size := Nat.lt_of_lt_of_le hg hP.b.size
      have HD : Hid (∀ W, Calls Try.prog 63 #[(Value.agg #[.int .u8 p.1.k, .int .i64 p.1.r.x, .int .i64 p.1.r.y, .int .i64 p.1.r.w, .int .i64 p.1.r.h, .int .u8 p.1.c.r, .int .u8 p.1.c.g, .int .u8 p.1.c.b, .int .u8 p.1.c.a, .int .u8 p.1.b.r, .int .u8 p.1.b.g, .int .u8 p.1.b.b, .int .u8 p.1.b.a, .string p.1.t, .int .i64 p.1.n]), .agg #[.int .i64 p.2.x, .int .i64 p.2.y, .int .i64 p.2.w, .int .i64 p.2.h]] W fun e w' => AnsP W (dwnL p.1 p.2) e w') := fun W => drawn_any p.1 p.2 W hp4 hp5 hp3
      have HDl : Hid (∀ u lo W, OwR lo W u (dwnL p.1 p.2) → Calls Try.prog 62 #[u, .func (.func 50) #[] #[]] W fun e w' => ∃ u', e = .returned u' ∧ Hid (OwR lo w' u' (plc p.1 p.2) ∧ W.grownBy w' u.ownBlock ∧ u'.ownBlock = u.ownBlock)) := fun u lo W h => by rw [← hp6]; exact piece_any p.1 p.2 u lo W hp3 h
      have HP : Hid (PcW w.heap.size w N ga A k vs wr ∧ w2.grownBy wr (some ga) ∧ A[k]? = some p ∧ vs.length = N) := ⟨hP, hGr, hp1, by have := hP.o.1; omega⟩
      obtain ⟨bx, hbx⟩ : ∃ bx, bx = wr.heap.size := ⟨_, rfl⟩
      have HB0 : Hid (Bk (wr.alloc (.cells #[.int .i64 p.2.x, .int .i64 p.2.y, .int .i64 p.2.w, .int .i64 p.2.h] 27)) bx #[.int .i64 p.2.x, .int .i64 p.2.y, .int .i64 p.2.w, .int .i64 p.2.h] 27 ∧ Below wr.heap.size wr (wr.alloc (.cells #[.int .i64 p.2.x, .int .i64 p.2.y, .int .i64 p.2.w, .int .i64 p.2.h] 27))) := ⟨by rw [hbx]; exact Bk.new _ _ _, (Below.refl _ _).alloc (Nat.le_refl _) _⟩
      have HX : Hid (∀ W, Below wr.heap.size wr W → StAt W g (o + k * 15) p.1) := fun W h => hx.kept fun j => h.cell (p := ⟨g, j, none⟩) hgw
      clear hat hat1 HK hP hGr hp1 hp2 hp3 hp4 hp5 hp6 hx
      obtain ⟨y0, y1, y2, y3⟩ := hy
      obtain ⟨sx, hsx⟩ : ∃ sx, sx = p.1 := ⟨_, rfl⟩
      obtain ⟨rx, hrx⟩ : ∃ rx, rx = p.2 := ⟨_, rfl⟩
      have HPe : Hid (p.1 = sx ∧ p.2 = rx) := ⟨hsx.symm, hrx.symm⟩
      rw [← hsx] at HD HDl HX
      rw [← hrx] at HD HDl HB0 y0 y1 y2 y3
      clear hsx hrx
      have HBE : Hid (bx = wr.heap.size) := hbx
      go_upto_region 5 with fail
      rw [← hbx]
      clear hbx
      generalize wr.alloc (.cells #[.int .i64 rx.x, .int .i64 rx.y, .int .i64 rx.w, .int .i64 rx.h] 27) = W0 at *
      have hEXW : StAt W0 g (o + k * 15) sx := HX.out W0 HB0.out.2
      have hgW : g < W0.heap.size := Nat.lt_of_lt_of_le hgw HB0.out.2.size
      have hbW : bx < W0.heap.size := HB0.out.1.lt
      obtain ⟨lo, hlo⟩ : ∃ lo, lo = w.heap.size := ⟨_, rfl⟩
      have hle : lo ≤ W0.heap.size := by rw [hlo]; exact Nat.le_trans HP.out.1.b.size HB0.out.2.size
      have hgb : ga ≠ bx := fun e => by
        have h1 := (row_lt HP.out.1.o ga rfl).2
        have h2 := HBE.out
        omega
      have hgg : ga ≠ g := fun e => by
        have := HGa.out
        omega
      have HEX : Hid (StAt W0.drew g (o + k * 15) sx ∧ Bk W0.drew bx #[.int .i64 rx.x, .int .i64 rx.y, .int .i64 rx.w, .int .i64 rx.h] 27 ∧ g < W0.drew.heap.size) := ⟨hEXW, HB0.out.1, hgW⟩
      have HPW : Hid (PcW w.heap.size w N ga A k vs W0 ∧ w2.grownBy W0 (some ga)) := ⟨HP.out.1.below HP.out.1.b.size HB0.out.2, ob_trans HP.out.2.1 (below_ob _ HB0.out.2)⟩
      have HSt : Hid (∀ x u, Below W0.heap.size W0 x → OwR lo x u (plc sx rx) → (∀ q, u.ownBlock = some q → W0.heap.size ≤ q) → ∃ z, x.cell? ⟨ga, k, none⟩ = some z ∧ x.frozen? ⟨ga, k, none⟩ = false ∧ ∃ vs, PcW lo w N ga A (k + 1) vs (x.setCell ⟨ga, k, none⟩ u) ∧ w2.grownBy (x.setCell ⟨ga, k, none⟩ u) (some ga)) := fun x u hb ho hq => by
        have hP := HPW.out.1.below (Nat.le_trans HP.out.1.b.size HB0.out.2.size) hb
        have hga : ga < W0.heap.size := (row_lt HPW.out.1.o ga rfl).2
        refine ⟨vs[k]'(by rw [HP.out.2.2.2]; exact hlt), (own_cell hP.o k (by omega)).trans (List.getElem?_eq_getElem _), own_frozen hP.o k, vs.set k u, ?_, ob_trans (ob_trans HPW.out.2 (below_ob _ hb)) (ob_set x ga k u)⟩
        rw [hlo] at ho ⊢
        exact hP.next hlt HP.out.2.2.1 (by rw [HPe.out.1, HPe.out.2]; exact ho) (fun h => by have := hq ga h; omega) HGa.out
      clear HB0 HX HP HPW y0 y1 y2 y3 hEXW
      refine wp_region_inv (I := (fun b a x => ∃ u17 u18 u19 u20 u21 u22 u23 u24 u25 u26, a = ⟨#[.slice (some ⟨g, o, none⟩) N cap, undef, .slice none 0 0, .slice (some ⟨ga, 0, none⟩) N N, .int .i64 k, .pointer (some ⟨bx, 0, none⟩), .slice (some ⟨g, o, none⟩) N cap, .int .i64 N, .slice (some ⟨ga, 0, none⟩) N N, .slice (some ⟨g, o, none⟩) N cap, .slice (some ⟨g1, 0, none⟩) N cp, .int .i64 N, .int .i64 k, .bool true, .int .i64 k, .pointer (some ⟨g1, k * 4, none⟩), .agg #[.int .i64 rx.x, .int .i64 rx.y, .int .i64 rx.w, .int .i64 rx.h], u17, u18, u19, u20, u21, u22, u23, u24, u25, u26, u27, undef], []⟩ ∧ Hid (JP w w2 W0 lo g o N cap ga k bx A sx rx b u17 u18 u19 u20 u21 u22 u23 u24 u25 u26 x))) (by kernel_rfl) (by kernel_rfl) ?_ ?_ ?_
      · exact ⟨u17, u18, u19, u20, u21, u22, u23, u24, u25, u26, rfl, ⟨(fun e => by cases e), (fun e => by cases e), (fun e => by cases e), (fun e => by cases e), (fun e => by cases e), (fun e => by cases e), (fun e => by cases e), (fun e => by cases e), (fun e => by cases e), (fun e => by cases e), (fun e => by cases e), fun _ => (Below.refl _ W0).drew, (fun e => by cases e), HEX.out⟩⟩
      · intro b a x i o hI hbi ho hpre K' hK
        obtain ⟨u17, u18, u19, u20, u21, u22, u23, u24, u25, u26, rfl, HJ⟩ := hI
        have hi : i < 11 := by have := (Array.getElem?_eq_some_iff.1 ho).1; simpa using this
        rcases (show i = 0 ∨ i = 1 ∨ i = 2 ∨ i = 3 ∨ i = 4 ∨ i = 5 ∨ i = 6 ∨ i = 7 ∨ i = 8 ∨ i = 9 ∨ i = 10 by omega) with rfl | rfl | rfl | rfl | rfl | rfl | rfl | rfl | rfl | rfl | rfl
        · injection (show some _ = some o from ho) with ho
          subst ho
          have HN : Hid (JP w w2 W0 lo g o N cap ga k bx A sx rx (fun j => if j = 0 then true else b j) (.slice (some ⟨ga, 0, none⟩) N N) u18 u19 u20 u21 u22 u23 u24 u25 u26 x) := by
            obtain ⟨j0, j1, j2, j3, j4, j5, j6, j7, j8, j9, j10, e0, e1, e2⟩ := HJ.out
            exact ⟨fun _ => rfl, j1, j2, j3, j4, j5, j6, j7, j8, j9, j10, e0, e1, e2⟩
          clear HJ hpre
          go_simp
          exact hK _ _ ⟨_, u18, u19, u20, u21, u22, u23, u24, u25, u26, rfl, HN⟩
        · injection (show some _ = some o from ho) with ho
          subst ho
          have HN : Hid (JP w w2 W0 lo g o N cap ga k bx A sx rx (fun j => if j = 1 then true else b j) u17 (.int .i64 k) u19 u20 u21 u22 u23 u24 u25 u26 x) := by
            obtain ⟨j0, j1, j2, j3, j4, j5, j6, j7, j8, j9, j10, e0, e1, e2⟩ := HJ.out
            exact ⟨j0, fun _ => rfl, j2, j3, j4, j5, j6, j7, j8, j9, j10, e0, e1, e2⟩
          clear HJ hpre
          go_simp
          exact hK _ _ ⟨u17, _, u19, u20, u21, u22, u23, u24, u25, u26, rfl, HN⟩
        · injection (show some _ = some o from ho) with ho
          subst ho
          have HN : Hid (JP w w2 W0 lo g o N cap ga k bx A sx rx (fun j => if j = 2 then true else b j) u17 u18 (.slice (some ⟨g, o, none⟩) N cap) u20 u21 u22 u23 u24 u25 u26 x) := by
            obtain ⟨j0, j1, j2, j3, j4, j5, j6, j7, j8, j9, j10, e0, e1, e2⟩ := HJ.out
            exact ⟨j0, j1, fun _ => rfl, j3, j4, j5, j6, j7, j8, j9, j10, e0, e1, e2⟩
          clear HJ hpre
          go_simp
          exact hK _ _ ⟨u17, u18, _, u20, u21, u22, u23, u24, u25, u26, rfl, HN⟩
        · injection (show some _ = some o from ho) with ho
          subst ho
          have HN : Hid (JP w w2 W0 lo g o N cap ga k bx A sx rx (fun j => if j = 3 then true else b j) u17 u18 u19 (.int .i64 k) u21 u22 u23 u24 u25 u26 x) := by
            obtain ⟨j0, j1, j2, j3, j4, j5, j6, j7, j8, j9, j10, e0, e1, e2⟩ := HJ.out
            exact ⟨j0, j1, j2, fun _ => rfl, j4, j5, j6, j7, j8, j9, j10, e0, e1, e2⟩
          clear HJ hpre
          go_simp
          exact hK _ _ ⟨u17, u18, u19, _, u21, u22, u23, u24, u25, u26, rfl, HN⟩
        · injection (show some _ = some o from ho) with ho
          subst ho
          have p2 : b 2 = true := hpre 2 (by decide +kernel)
          obtain rfl : u19 = .slice (some ⟨g, o, none⟩) N cap := by obtain ⟨j0, j1, j2, j3, j4, j5, j6, j7, j8, j9, j10, e0, e1, e2⟩ := HJ.out; exact (j2 p2)
          have p3 : b 3 = true := hpre 3 (by decide +kernel)
          obtain rfl : u20 = .int .i64 k := by obtain ⟨j0, j1, j2, j3, j4, j5, j6, j7, j8, j9, j10, e0, e1, e2⟩ := HJ.out; exact (j3 p3)
          have HN : Hid (JP w w2 W0 lo g o N cap ga k bx A sx rx (fun j => if j = 4 then true else b j) u17 u18 (.slice (some ⟨g, o, none⟩) N cap) (.int .i64 k) (.pointer (some ⟨g, o + k * 15, none⟩)) u22 u23 u24 u25 u26 x) := by
            obtain ⟨j0, j1, j2, j3, j4, j5, j6, j7, j8, j9, j10, e0, e1, e2⟩ := HJ.out
            exact ⟨j0, j1, j2, j3, fun _ => rfl, j5, j6, j7, j8, j9, j10, e0, e1, e2⟩
          clear HJ hpre
          go_simp
          exact hK _ _ ⟨u17, u18, _, _, _, u22, u23, u24, u25, u26, rfl, HN⟩
        · injection (show some _ = some o from ho) with ho
          subst ho
          have p4 : b 4 = true := hpre 4 (by decide +kernel)
          obtain rfl : u21 = .pointer (some ⟨g, o + k * 15, none⟩) := by obtain ⟨j0, j1, j2, j3, j4, j5, j6, j7, j8, j9, j10, e0, e1, e2⟩ := HJ.out; exact (j4 p4)
          have hEX : StAt x g (o + k * 15) sx ∧ Bk x bx #[.int .i64 rx.x, .int .i64 rx.y, .int .i64 rx.w, .int .i64 rx.h] 27 ∧ g < x.heap.size := by obtain ⟨j0, j1, j2, j3, j4, j5, j6, j7, j8, j9, j10, e0, e1, e2⟩ := HJ.out; exact e2
          obtain ⟨⟨r0, r1, r2, r3, r4, r5, r6, r7, r8, r9, r10, r11, r12, r13, r14⟩, -⟩ := hEX
          have HN : Hid (JP w w2 W0 lo g o N cap ga k bx A sx rx (fun j => if j = 5 then true else b j) u17 u18 u19 u20 (.pointer (some ⟨g, o + k * 15, none⟩)) ((Value.agg #[.int .u8 sx.k, .int .i64 sx.r.x, .int .i64 sx.r.y, .int .i64 sx.r.w, .int .i64 sx.r.h, .int .u8 sx.c.r, .int .u8 sx.c.g, .int .u8 sx.c.b, .int .u8 sx.c.a, .int .u8 sx.b.r, .int .u8 sx.b.g, .int .u8 sx.b.b, .int .u8 sx.b.a, .string sx.t, .int .i64 sx.n])) u23 u24 u25 u26 x) := by
            obtain ⟨j0, j1, j2, j3, j4, j5, j6, j7, j8, j9, j10, e0, e1, e2⟩ := HJ.out
            exact ⟨j0, j1, j2, j3, j4, fun _ => rfl, j6, j7, j8, j9, j10, e0, e1, e2⟩
          clear HJ hpre
          go_simp
          exact hK _ _ ⟨u17, u18, u19, u20, _, _, u23, u24, u25, u26, rfl, HN⟩
        · injection (show some _ = some o from ho) with ho
          subst ho
          have hEX : StAt x g (o + k * 15) sx ∧ Bk x bx #[.int .i64 rx.x, .int .i64 rx.y, .int .i64 rx.w, .int .i64 rx.h] 27 ∧ g < x.heap.size := by obtain ⟨j0, j1, j2, j3, j4, j5, j6, j7, j8, j9, j10, e0, e1, e2⟩ := HJ.out; exact e2
          obtain ⟨r0, r1, r2, r3⟩ := hEX.2.1.at4
          have HN : Hid (JP w w2 W0 lo g o N cap ga k bx A sx rx (fun j => if j = 6 then true else b j) u17 u18 u19 u20 u21 u22 (.agg #[.int .i64 rx.x, .int .i64 rx.y, .int .i64 rx.w, .int .i64 rx.h]) u24 u25 u26 x) := by
            obtain ⟨j0, j1, j2, j3, j4, j5, j6, j7, j8, j9, j10, e0, e1, e2⟩ := HJ.out
            exact ⟨j0, j1, j2, j3, j4, j5, fun _ => rfl, j7, j8, j9, j10, e0, e1, e2⟩
          clear HJ hpre
          go_simp
          exact hK _ _ ⟨u17, u18, u19, u20, u21, u22, _, u24, u25, u26, rfl, HN⟩
        · injection (show some _ = some o from ho) with ho
          subst ho
          have p5 : b 5 = true := hpre 5 (by decide +kernel)
          obtain rfl : u22 = (Value.agg #[.int .u8 sx.k, .int .i64 sx.r.x, .int .i64 sx.r.y, .int .i64 sx.r.w, .int .i64 sx.r.h, .int .u8 sx.c.r, .int .u8 sx.c.g, .int .u8 sx.c.b, .int .u8 sx.c.a, .int .u8 sx.b.r, .int .u8 sx.b.g, .int .u8 sx.b.b, .int .u8 sx.b.a, .string sx.t, .int .i64 sx.n]) := by obtain ⟨j0, j1, j2, j3, j4, j5, j6, j7, j8, j9, j10, e0, e1, e2⟩ := HJ.out; exact (j5 p5)
          have p6 : b 6 = true := hpre 6 (by decide +kernel)
          obtain rfl : u23 = .agg #[.int .i64 rx.x, .int .i64 rx.y, .int .i64 rx.w, .int .i64 rx.h] := by obtain ⟨j0, j1, j2, j3, j4, j5, j6, j7, j8, j9, j10, e0, e1, e2⟩ := HJ.out; exact (j6 p6)
          have h10 : b 10 = false := by
            obtain ⟨j0, j1, j2, j3, j4, j5, j6, j7, j8, j9, j10, e0, e1, e2⟩ := HJ.out
            cases h : b 10
            · rfl
            · have := (j8 (j10 h)).1; rw [hbi] at this; cases this
          have HN : Hid (∀ u x', OwR x.heap.size x' u (dwnL sx rx) → Below x.heap.size x x' → JP w w2 W0 lo g o N cap ga k bx A sx rx (fun j => if j = 7 then true else b j) u17 u18 u19 u20 u21 ((Value.agg #[.int .u8 sx.k, .int .i64 sx.r.x, .int .i64 sx.r.y, .int .i64 sx.r.w, .int .i64 sx.r.h, .int .u8 sx.c.r, .int .u8 sx.c.g, .int .u8 sx.c.b, .int .u8 sx.c.a, .int .u8 sx.b.r, .int .u8 sx.b.g, .int .u8 sx.b.b, .int .u8 sx.b.a, .string sx.t, .int .i64 sx.n])) (.agg #[.int .i64 rx.x, .int .i64 rx.y, .int .i64 rx.w, .int .i64 rx.h]) (u) u25 u26 x') := fun u x' hu hb => by
            obtain ⟨j0, j1, j2, j3, j4, j5, j6, j7, j8, j9, j10, e0, e1, e2⟩ := HJ.out
            have b0 := e0 h10
            refine ⟨j0, j1, j2, j3, j4, j5, j6, fun _ _ => ⟨hu.weaken (Nat.le_trans hle (b0.size)), fun q hq => Nat.le_trans b0.size (row_lt hu q hq).1⟩, fun h => absurd (j8 h).1 (by rw [hbi]; decide), j9, j10, fun _ => b0.trans (hb.mono b0.size), fun h => absurd h (by show ¬ b 10 = true; rw [h10]; decide), ⟨e2.1.kept fun j => hb.cell (p := ⟨g, j, none⟩) e2.2.2, e2.2.1.below hb, Nat.lt_of_lt_of_le e2.2.2 hb.size⟩⟩
          clear HJ hpre
          go_simp
          refine (HD.out x).mono ?_
          rintro e x' ⟨u, rfl, hu, hb⟩
          exact hK _ _ ⟨u17, u18, u19, u20, u21, _, _, _, u25, u26, rfl, HN.out u x' hu hb⟩
        · injection (show some _ = some o from ho) with ho
          subst ho
          have p7 : b 7 = true := hpre 7 (by decide +kernel)
          have h10 : b 10 = false := by
            obtain ⟨j0, j1, j2, j3, j4, j5, j6, j7, j8, j9, j10, e0, e1, e2⟩ := HJ.out
            cases h : b 10
            · rfl
            · have := j10 h; rw [hbi] at this; cases this
          have H24 : OwR lo x u24 (dwnL sx rx) ∧ ∀ q, u24.ownBlock = some q → W0.heap.size ≤ q := by obtain ⟨j0, j1, j2, j3, j4, j5, j6, j7, j8, j9, j10, e0, e1, e2⟩ := HJ.out; exact j7 p7 hbi
          have HN : Hid (∀ u x', OwR lo x' u (plc sx rx) → x.grownBy x' u24.ownBlock → u.ownBlock = u24.ownBlock → JP w w2 W0 lo g o N cap ga k bx A sx rx (fun j => if j = 8 then true else b j) u17 u18 u19 u20 u21 u22 u23 u24 (u) u26 x') := fun u x' hu hgr hub => by
            obtain ⟨j0, j1, j2, j3, j4, j5, j6, j7, j8, j9, j10, e0, e1, e2⟩ := HJ.out
            have b0 := e0 h10
            have hne : ∀ c, c < W0.heap.size → u24.ownBlock ≠ some c := fun c hc h => by have := H24.2 c h; omega
            refine ⟨j0, j1, j2, j3, j4, j5, j6, (fun _ h => by cases h), fun _ => ⟨p7, fun _ => ⟨hu, fun q hq => H24.2 q (by rw [← hub]; exact hq)⟩⟩, j9, fun _ => rfl, fun _ => b0.grown hgr b0.size H24.2, fun h => absurd h (by show ¬ b 10 = true; rw [h10]; decide), ⟨e2.1.kept fun j => cell_grown hgr e2.2.2 (hne g hgW) j, Bk.grown e2.2.1 hgr (hne bx hbW), Nat.lt_of_lt_of_le e2.2.2 hgr.size⟩⟩
          clear HJ hpre
          go_simp
          refine (HDl.out u24 lo x H24.1).mono ?_
          rintro e x' ⟨u, rfl, hu⟩
          exact hK _ _ ⟨u17, u18, u19, u20, u21, u22, u23, u24, _, u26, rfl, HN.out u x' hu.out.1 hu.out.2.1 hu.out.2.2⟩
        · injection (show some _ = some o from ho) with ho
          subst ho
          have p0 : b 0 = true := hpre 0 (by decide +kernel)
          obtain rfl : u17 = .slice (some ⟨ga, 0, none⟩) N N := by obtain ⟨j0, j1, j2, j3, j4, j5, j6, j7, j8, j9, j10, e0, e1, e2⟩ := HJ.out; exact (j0 p0)
          have p1 : b 1 = true := hpre 1 (by decide +kernel)
          obtain rfl : u18 = .int .i64 k := by obtain ⟨j0, j1, j2, j3, j4, j5, j6, j7, j8, j9, j10, e0, e1, e2⟩ := HJ.out; exact (j1 p1)
          have HN : Hid (JP w w2 W0 lo g o N cap ga k bx A sx rx (fun j => if j = 9 then true else b j) (.slice (some ⟨ga, 0, none⟩) N N) (.int .i64 k) u19 u20 u21 u22 u23 u24 u25 (.pointer (some ⟨ga, k, none⟩)) x) := by
            obtain ⟨j0, j1, j2, j3, j4, j5, j6, j7, j8, j9, j10, e0, e1, e2⟩ := HJ.out
            exact ⟨j0, j1, j2, j3, j4, j5, j6, j7, j8, fun _ => rfl, j10, e0, e1, e2⟩
          clear HJ hpre
          go_simp
          exact hK _ _ ⟨_, _, u19, u20, u21, u22, u23, u24, u25, _, rfl, HN⟩
        · injection (show some _ = some o from ho) with ho
          subst ho
          have p9 : b 9 = true := hpre 9 (by decide +kernel)
          obtain rfl : u26 = .pointer (some ⟨ga, k, none⟩) := by obtain ⟨j0, j1, j2, j3, j4, j5, j6, j7, j8, j9, j10, e0, e1, e2⟩ := HJ.out; exact (j9 p9)
          have p8 : b 8 = true := hpre 8 (by decide +kernel)
          have H25 : (OwR lo x u25 (plc sx rx) ∧ ∀ q, u25.ownBlock = some q → W0.heap.size ≤ q) ∧ Below W0.heap.size W0 x := by obtain ⟨j0, j1, j2, j3, j4, j5, j6, j7, j8, j9, j10, e0, e1, e2⟩ := HJ.out; exact ⟨(j8 p8).2 hbi, e0 hbi⟩
          obtain ⟨ou, cu, e25, -⟩ := row_val H25.1.1
          subst e25
          obtain ⟨z, hz, hf, hF⟩ := HSt.out x _ H25.2 H25.1.1 H25.1.2
          have HN : Hid (JP w w2 W0 lo g o N cap ga k bx A sx rx (fun j => if j = 10 then true else b j) u17 u18 u19 u20 u21 u22 u23 u24 (.slice ou (plc sx rx).length cu) (.pointer (some ⟨ga, k, none⟩)) (x.setCell ⟨ga, k, none⟩ (.slice ou (plc sx rx).length cu))) := by
            obtain ⟨j0, j1, j2, j3, j4, j5, j6, j7, j8, j9, j10, e0, e1, e2⟩ := HJ.out
            refine ⟨j0, j1, j2, j3, j4, j5, j6, fun h1 h2 => absurd h2 (by show ¬ b 8 = false; rw [p8]; decide), fun _ => ⟨(j8 p8).1, (fun h => by cases h)⟩, j9, fun _ => p8, (fun h => by cases h), fun _ => hF, ⟨e2.1.kept fun j => cell_grown (ob_set x ga k _) e2.2.2 (fun h => hgg (by injection h)) j, e2.2.1.other _ _ hgb, Nat.lt_of_lt_of_le e2.2.2 (ob_set x ga k _).size⟩⟩
          clear HJ hpre hF H25
          go_simp
          exact hK _ _ ⟨u17, u18, u19, u20, u21, u22, u23, u24, _, _, rfl, HN⟩
      · intro b a x hI hall
        obtain ⟨u17, u18, u19, u20, u21, u22, u23, u24, u25, u26, rfl, HJ⟩ := hI
        have hall' : ∀ i, i < 11 → b i = true := fun i hi => hall i (by simpa using hi)
        have HF : Hid (∃ vs, PcW w.heap.size w N ga A (k + 1) vs x ∧ w2.grownBy x (some ga)) := by
          obtain ⟨j0, j1, j2, j3, j4, j5, j6, j7, j8, j9, j10, e0, e1, e2⟩ := HJ.out
          rw [hlo] at e1
          exact e1 (hall' 10 (by omega))
        clear HJ hall hall'
        go_wp2
        go_roundw
        case rel => exact ⟨k + 1, by go_num, by omega, HF⟩
        case measure => simp [intOf]; omega
    · obtain rfl : k = N := by omega
      have ik : ¬ (k : Int) < k := by omega
      have HF : Hid (RowsR wr (.slice (some ⟨ga, 0, none⟩) k k) (A.map fun p => plc p.1 p.2) ∧ Below w.heap.size w wr) := by
        obtain ⟨vs, hP, _⟩ := HK.out
        have hAl : (A.map fun p => plc p.1 p.2).length = k := by rw [List.length_map, HN.out.2, HN.out.1]
        refine ⟨⟨_, k, by rw [hAl], by omega, fun _ => ⟨ga, 0, rfl, (row_lt hP.o ga rfl).2, fun i hi => ?_⟩⟩, hP.b⟩
        rw [hAl] at hi
        have hiA : i < A.length := by rw [HN.out.2, ← HN.out.1]; exact hi
        obtain ⟨u, h1, h2, h3⟩ := hP.r i hi A[i] (List.getElem?_eq_getElem hiA)
        refine ⟨u, ?_, ?_, own_nil h2⟩
        · rw [Nat.zero_add, own_cell hP.o i (by omega)]; exact h1
        · rw [List.getElem_map]; exact lsr_own h2
      clear HK
      go_wp2
      go_ret
      exact ⟨_, rfl, HF⟩

end Go.Proofs.Ytbghjmkgicdnoaa

/-
  Contracts of package list: a list cut to a rectangle.
-/
namespace Go.Proofs.Ytbghjmkgicdnoaa
open Go.RowKit

/-- The strokes of a list that are not wholly outside of a rectangle, a Clip ahead and an Open behind them. -/
def cutL (A : List (St × Rc)) (q : Rc) : List St := cliS q :: ((A.filter (witP q)).map Prod.fst ++ [opeS])
theorem cutL_grp (A : List (St × Rc)) (q : Rc) : busy (cutL A q) = grpL A q := rfl

set_option maxRecDepth 10000 in
set_option maxHeartbeats 2000000 in
theorem cut1_any (x q : Rc) (bx : Nat) (W : World) (h : Bk W bx #[.int .i64 q.x, .int .i64 q.y, .int .i64 q.w, .int .i64 q.h] 27) (hx : I64 x.x) (hy : I64 x.y) (qx : I64 q.x) (qy : I64 q.y) :
    Calls Try.prog 70 #[.agg #[.int .i64 x.x, .int .i64 x.y, .int .i64 x.w, .int .i64 x.h], .pointer (some ⟨bx, 0, none⟩)] W fun e w' => e = .returned (.bool (zOv x q)) ∧ Below W.heap.size W w' := by
  have HO : Hid (∀ w, Calls Try.prog 71 #[.agg #[.int .i64 x.x, .int .i64 x.y, .int .i64 x.w, .int .i64 x.h], .agg #[.int .i64 q.x, .int .i64 q.y, .int .i64 q.w, .int .i64 q.h]] w fun e w' => e = .returned (.bool (zOv x q)) ∧ Below w.heap.size w w') := fun w => over_any _ _ _ _ _ _ _ _ w hx hy qx qy
  obtain ⟨c0, c1, c2, c3⟩ := h.at4
  have hlt := h.lt
  clear h hx hy qx qy
  generalize zOv x q = ov at *
  go_enter Try.func70, Try.ntmps70
  go_wp2_with fail
  refine (HO.out _).mono ?_
  rintro e w1 ⟨rfl, hb1⟩
  have HB : Hid (Below W.heap.size W w1) := by
    have h2 : Below W.heap.size W (W.alloc (.cells #[.int .i64 x.x, .int .i64 x.y, .int .i64 x.w, .int .i64 x.h] 27)) := (Below.refl _ W).alloc (Nat.le_refl _) _
    exact h2.trans (hb1.mono h2.size)
  clear hb1
  go_wp2
  go_ret
  exact ⟨rfl, HB.out⟩
theorem cut1_enters : ∀ args w, (callFunc 70 args).run Try.prog w = .ok (.enter 70 args) w := enters_of Try.func70 (by kernel_rfl) rfl
theorem cuts_any (L : List Rc) (v : Value) (q : Rc) (bx : Nat) (w : World) (hv : LsR w v L) (h : Bk w bx #[.int .i64 q.x, .int .i64 q.y, .int .i64 q.w, .int .i64 q.h] 27) (hL : ∀ x ∈ L, zMa x = true) (hq : zMa q = true) (hl : L.length < 1000000) :
    Calls Try.prog 53 #[v, .func (.func 70) #[] #[.pointer (some ⟨bx, 0, none⟩)]] w fun e w' => e = .returned (.bool (L.any fun a => zOv a q)) ∧ Below w.heap.size w w' :=
  contains_fn 70 #[.pointer (some ⟨bx, 0, none⟩)] (fun a => zOv a q) L v w hv cut1_enters (fun x hx W hW => by
    have hb := may_bd (hL x hx)
    have hc := may_bd hq
    have := cut1_any x q bx W (h.below hW) (i64_near ⟨hb.1, hb.2.1⟩) (i64_near ⟨hb.2.2.1, hb.2.2.2.1⟩) (i64_near ⟨hc.1, hc.2.1⟩) (i64_near ⟨hc.2.2.1, hc.2.2.2.1⟩)
    simpa using this) hl

end Go.Proofs.Ytbghjmkgicdnoaa
