/-
  Contracts of the document's answer for layer 13: Norm.
-/
import Derived.Test.YtbghjmkgicdnoaaGreatK16
import Derived.Test.YtbghjmkgicdnoaaGreatK17
import Derived.Deep.CutBlock
namespace Go.Proofs.YtbghjmkgicdnoaaGreat
open Go.RowKit

theorem clp_ones : ∀ (l : List St) (n : Nat), clpE n l = 0 → ∀ s ∈ l, oneE s = 0
  | [], _, _, s, hs => by cases hs
  | x :: l, n, h, s, hs => by
    obtain ⟨h1, _, h3⟩ := clpE_cons h
    rcases List.mem_cons.1 hs with rfl | hs
    · exact h1
    · exact clp_ones l _ h3 s hs
theorem plc_len (s : St) (r : Rc) : (plc s r).length ≤ 4 := by
  unfold plc
  split
  · simp
  · split
    · refine Nat.le_trans (List.length_filter_le _ _) ?_
      simp [sidR]
    · simp
def hidP (P : List Rc) (q : St × Rc) : Bool := opq q.1 && P.all fun a => zIn a q.2
/-- Rectangles of one's own with the strokes, as calls want them. -/
def norE (l : List St) : List St := if chkS l = 0 then norL l else []
/-- What is answered: strokes of one's own and an error. -/
def AnsS (w : World) (L : List St) (E : Int) (e : Ending) (w' : World) : Prop := ∃ u, e = .returned (.tuple #[u, .int .i64 E]) ∧ Hid (OwS w.heap.size w' u L ∧ Below w.heap.size w w')

/-- A list of strokes and the rectangles in which they show, in memory. -/
structure ShL (w : World) (B : Nat) (w2 : World) (l : List St) (A : List (St × Rc)) (g o g1 : Nat) : Prop where
  b : Below w.heap.size w w2
  e : B = w2.heap.size
  s : ∀ k p, A[k]? = some p → g < w.heap.size ∧ StAt w g (o + k * 15) p.1
  r : ∀ k p, A[k]? = some p → g1 < B ∧ RcAt w2 g1 (k * 4) p.2
  n : A.length = l.length
  k : ∀ p ∈ A, oneE p.1 = 0
theorem ShL.at {w : World} {B : Nat} {w2 : World} {l : List St} {A : List (St × Rc)} {g o g1 : Nat} (h : ShL w B w2 l A g o g1) {k : Nat} {p : St × Rc} (hp : A[k]? = some p) {W : World} (hb : Below B w2 W) : StAt W g (o + k * 15) p.1 ∧ RcAt W g1 (k * 4) p.2 := by
  obtain ⟨h1, h2⟩ := h.s k p hp
  obtain ⟨h3, h4⟩ := h.r k p hp
  have hbw : Below w.heap.size w W := by
    rw [h.e] at hb
    exact h.b.trans (hb.mono h.b.size)
  exact ⟨h2.kept fun j => hbw.cell (p := ⟨g, j, none⟩) h1, h4.kept fun j => hb.cell (p := ⟨g1, j, none⟩) h3⟩
theorem shl_of {w w1 w2 : World} {l : List St} {g o g1 cap : Nat} (hs : ∀ i (h : i < l.length), StAt w g (o + i * 15) l[i]) (hg : g < w.heap.size) (h1 : Below w.heap.size w w1) (hb : Below w1.heap.size w1 w2) (hus : OwR w1.heap.size w2 (.slice (some ⟨g1, 0, none⟩) l.length cap) ((ann [] l).map Prod.snd)) (hc : clpE 0 l = 0) : ShL w w2.heap.size w2 l (ann [] l) g o g1 := by
  have hm : ∀ k p, (ann [] l)[k]? = some p → ∃ h : k < l.length, p.1 = l[k] := fun k p hp => by
    obtain ⟨hk, he⟩ := List.getElem?_eq_some_iff.1 hp
    have hk' : k < l.length := by rw [ann_len] at hk; exact hk
    refine ⟨hk', ?_⟩
    have := congrArg (fun L : List St => L[k]?) (ann_fst l [])
    simp only [List.getElem?_map, hp, List.getElem?_eq_getElem hk', Option.map_some, Option.some.injEq] at this
    exact this
  refine ⟨h1.trans (hb.mono h1.size), rfl, fun k p hp => ?_, fun k p hp => ?_, ann_len l [], fun p hp => ?_⟩
  · obtain ⟨hk, e⟩ := hm k p hp
    rw [e]
    exact ⟨hg, hs k hk⟩
  · obtain ⟨hk, he⟩ := List.getElem?_eq_some_iff.1 hp
    have hk' : k < l.length := by rw [ann_len] at hk; exact hk
    obtain ⟨oa', cap', e2, _, hg'⟩ := lsr_own hus
    obtain ⟨g', o', e3, hlt, hat⟩ := hg' (by rw [List.length_map, ann_len]; omega)
    injection e2 with e2 _ _
    rw [e3] at e2
    injection e2 with e2
    injection e2 with e4 e5 _
    subst e4 e5
    refine ⟨hlt, ?_⟩
    have := hat k (by rw [List.length_map]; exact hk)
    rw [Nat.zero_add, List.getElem_map, he] at this
    exact this
  · obtain ⟨k, hk, he⟩ := List.mem_iff_getElem.1 hp
    obtain ⟨hk', e⟩ := hm k p (by rw [List.getElem?_eq_getElem hk, he])
    rw [e]
    exact clp_ones l 0 hc _ (List.getElem_mem hk')

set_option maxRecDepth 20000 in
set_option maxHeartbeats 8000000 in
theorem znorm_any (l : List St) (v : Value) (w : World) (hv : LsS w v l) (ht : Txs l) :
    Calls Tryz.prog 19 #[v] w fun e w' => AnsS w (norE l) (chkS l) e w' := by
  have HC : Hid (Calls Tryz.prog 12 #[v] w fun e w' => e = .returned (.int .i64 (chkS l)) ∧ Below w.heap.size w w') := zcheck_any l v w hv ht
  unfold AnsS
  by_cases h0 : chkS l = 0
  case neg =>
    have HE : Hid (norE l = []) := by unfold Hid norE; rw [if_neg h0]
    have hne : (chkS l != 0) = true := by simp [h0]
    clear h0 hv ht
    generalize chkS l = ce at *
    go_enter Tryz.func19, Tryz.ntmps19
    go_wp2_with fail
    refine HC.out.mono ?_
    rintro e w1 ⟨rfl, hb⟩
    have H1 : Hid (Below w.heap.size w w1) := hb
    clear hb
    go_wp2
    go_ret2
    refine ⟨_, rfl, ?_⟩
    rw [HE.out]
    exact ⟨OwS.nil _ _, H1.out⟩
  case pos =>
    obtain ⟨hl, hcl⟩ := chkS_zero h0
    have HE : Hid (norE l = busy ((kepN (ann [] l)).map Prod.fst)) := by unfold Hid norE; rw [if_pos h0]; rfl
    have HSh : Hid (∀ W, Below w.heap.size w W → Calls Tryz.prog 24 #[v] W fun e w' => ∃ u, e = .returned u ∧ OwR W.heap.size w' u ((ann [] l).map Prod.snd) ∧ Below W.heap.size W w') := fun W h => zshown_any l v W (hv.below h) hl hcl
    rw [h0] at HC ⊢
    clear h0
    obtain ⟨oa, cap, rfl, hc, hg⟩ := hv
    have HG : Hid (0 < l.length → ∃ g o, oa = some ⟨g, o, none⟩ ∧ g < w.heap.size ∧ ∀ i (h : i < l.length), StAt w g (o + i * 15) l[i]) := hg
    have HCl : Hid (clpE 0 l = 0) := hcl
    obtain ⟨j0, ki, kz0, kz1, kz2⟩ := info_parts info_strokeZ
    clear hg ht hcl
    go_enter Tryz.func19, Tryz.ntmps19
    go_wp2_with fail
    refine HC.out.mono ?_
    rintro e w1 ⟨rfl, hb1⟩
    have H1 : Hid (Below w.heap.size w w1) := hb1
    clear hb1
    go_wp2_with fail
    refine (HSh.out _ H1.out).mono ?_
    rintro e w2 ⟨us, rfl, hus, hb2⟩
    obtain ⟨os, cp, es, hcp, hgs⟩ := row_val hus
    subst es
    have hAl : ((ann [] l).map Prod.snd).length = l.length := by rw [List.length_map, ann_len]
    rw [hAl] at hcp hgs ⊢
    have H2 : Hid (0 < l.length → ∃ g o g1, oa = some ⟨g, o, none⟩ ∧ os = some ⟨g1, 0, none⟩ ∧ ShL w w2.heap.size w2 l (ann [] l) g o g1) := fun h => by
      obtain ⟨g, o, e1, e2, e3⟩ := HG.out h
      obtain ⟨g1, e4, _, _⟩ := hgs h
      refine ⟨g, o, g1, e1, e4, shl_of (cap := cp) e3 e2 H1.out hb2 ?_ HCl.out⟩
      rw [hAl, e4] at hus
      exact hus
    have HBw : Hid (Below w.heap.size w w2) := H1.out.trans (hb2.mono H1.out.size)
    obtain ⟨B, hB⟩ : ∃ B, B = w2.heap.size := ⟨_, rfl⟩
    have HB : Hid (B = w2.heap.size) := hB
    rw [← hB] at H2
    have HLen : Hid ((ann [] l).length = l.length) := ann_len l []
    have HDr : Hid (∀ (s : St) W, Calls Tryz.prog 25 #[(Value.agg #[.int .u8 s.k, .int .i64 s.r.x, .int .i64 s.r.y, .int .i64 s.r.w, .int .i64 s.r.h, .int .u8 s.c.r, .int .u8 s.c.g, .int .u8 s.c.b, .int .u8 s.c.a, .int .u8 s.b.r, .int .u8 s.b.g, .int .u8 s.b.b, .int .u8 s.b.a, .string s.t, .int .i64 s.n])] W fun e w' => e = .returned (.bool (drw s)) ∧ Below W.heap.size W w') := fun s W => zdraws_any s W
    have HI0 : Hid (∃ L, OwS B w2 (.slice none 0 0) (L.map Prod.fst) ∧ L ++ kepN ((ann [] l).drop 0) = kepN (ann [] l) ∧ L.length ≤ 0 ∧ Below B w2 w2) := ⟨[], OwS.nil _ _, rfl, Nat.le_refl _, by rw [hB]; exact Below.refl _ _⟩
    clear hus hb2 hgs hAl hB HG HCl HSh HC H1
    generalize ann [] l = A at *
    go_wp2_with fail
    go_loopw [6, 7] (fun u i wr => ∃ k : Nat, i = .int .i64 k ∧ k ≤ l.length ∧ Hid (∃ L, OwS B wr u (L.map Prod.fst) ∧ L ++ kepN (A.drop k) = kepN A ∧ L.length ≤ k ∧ Below B w2 wr)) (fun _ i _ => l.length - (intOf i).toNat)
    case atStart => exact ⟨0, rfl, Nat.zero_le _, HI0⟩
    case round =>
      clear HI0
      obtain ⟨k, rfl, hk, HK⟩ := hrel
      by_cases hlt : k < l.length
      · have ik : (k : Int) < l.length := by omega
        obtain ⟨g, o, g1, rfl, rfl, hSH⟩ := H2.out (by omega)
        have HSH : Hid (ShL w B w2 l A g o g1) := hSH
        have hkA : k < A.length := by rw [hSH.n]; exact hlt
        obtain ⟨p, hp⟩ : ∃ p, A[k]? = some p := ⟨A[k], List.getElem?_eq_getElem hkA⟩
        have HP : Hid (A[k]? = some p ∧ A.drop k = p :: A.drop (k + 1) ∧ p ∈ A) := by
          obtain ⟨h1, h2⟩ := List.getElem?_eq_some_iff.1 hp
          exact ⟨hp, by rw [List.drop_eq_getElem_cons h1, h2], by rw [← h2]; exact List.getElem_mem h1⟩
        have HPL : Hid (∀ W, Calls Tryz.prog 29 #[(Value.agg #[.int .u8 p.1.k, .int .i64 p.1.r.x, .int .i64 p.1.r.y, .int .i64 p.1.r.w, .int .i64 p.1.r.h, .int .u8 p.1.c.r, .int .u8 p.1.c.g, .int .u8 p.1.c.b, .int .u8 p.1.c.a, .int .u8 p.1.b.r, .int .u8 p.1.b.g, .int .u8 p.1.b.b, .int .u8 p.1.b.a, .string p.1.t, .int .i64 p.1.n]), .agg #[.int .i64 p.2.x, .int .i64 p.2.y, .int .i64 p.2.w, .int .i64 p.2.h]] W fun e w' => AnsP W (plc p.1 p.2) e w') := fun W => by
          have h1 := oneE_zero (hSH.k p HP.out.2.2)
          exact zplaces_any p.1 p.2 W h1.2.1 h1.1
        obtain ⟨L, hL1, hL2, hL3, hL4⟩ := HK.out
        have HK2 : Hid (OwS B wr u6 (L.map Prod.fst) ∧ L ++ kepN (A.drop k) = kepN A ∧ L.length ≤ k ∧ Below B w2 wr ∧ B ≤ wr.heap.size) := ⟨hL1, hL2, hL3, hL4, by rw [HB.out]; exact hL4.size⟩
        clear hSH hkA hp HK hL1 hL2 hL3 hL4 H2
        obtain ⟨x, hx⟩ : ∃ x, x = p.1 := ⟨_, rfl⟩
        obtain ⟨r, hr⟩ : ∃ r, r = p.2 := ⟨_, rfl⟩
        have HXR : Hid (x = p.1 ∧ r = p.2) := ⟨hx, hr⟩
        rw [← hx, ← hr] at HPL
        have HAT : Hid (∀ W, Below B w2 W → StAt W g (o + k * 15) x ∧ RcAt W g1 (k * 4) r) := fun W h => by rw [hx, hr]; exact HSH.out.at HP.out.1 h
        clear hx hr
        go_upto_region 9 with fail
        go_cut [8] (fun s8 wx => Hid (OwR wr.heap.size wx s8 (plc x r) ∧ Below wr.heap.size wr wx))
        case first =>
          refine R4.wp_region_lit 8 0 2 (fun _ _ => undef) (fun _ => .cells #[] 0) [] (by kernel_rfl) (by kernel_rfl) rfl (fun k hk => absurd hk (by omega)) rfl ?_
          apply Exists.intro
          refine ⟨fun bs ne => ?_, fun i h1 h2 => absurd h2 (by omega), ?_⟩
          · have q := fun tt : Gb wr bs => HAT.out tt.wd (HK2.out.2.2.2.1.trans (tt.below.mono HK2.out.2.2.2.2))
            have x0 := fun tt : Gb wr bs => (q tt).1.1
            have x1 := fun tt : Gb wr bs => (q tt).1.2.1
            have x2 := fun tt : Gb wr bs => (q tt).1.2.2.1
            have x3 := fun tt : Gb wr bs => (q tt).1.2.2.2.1
            have x4 := fun tt : Gb wr bs => (q tt).1.2.2.2.2.1
            have x5 := fun tt : Gb wr bs => (q tt).1.2.2.2.2.2.1
            have x6 := fun tt : Gb wr bs => (q tt).1.2.2.2.2.2.2.1
            have x7 := fun tt : Gb wr bs => (q tt).1.2.2.2.2.2.2.2.1
            have x8 := fun tt : Gb wr bs => (q tt).1.2.2.2.2.2.2.2.2.1
            have x9 := fun tt : Gb wr bs => (q tt).1.2.2.2.2.2.2.2.2.2.1
            have x10 := fun tt : Gb wr bs => (q tt).1.2.2.2.2.2.2.2.2.2.2.1
            have x11 := fun tt : Gb wr bs => (q tt).1.2.2.2.2.2.2.2.2.2.2.2.1
            have x12 := fun tt : Gb wr bs => (q tt).1.2.2.2.2.2.2.2.2.2.2.2.2.1
            have x13 := fun tt : Gb wr bs => (q tt).1.2.2.2.2.2.2.2.2.2.2.2.2.2.1
            have x14 := fun tt : Gb wr bs => (q tt).1.2.2.2.2.2.2.2.2.2.2.2.2.2.2
            have y0 := fun tt : Gb wr bs => (q tt).2.1
            have y1 := fun tt : Gb wr bs => (q tt).2.2.1
            have y2 := fun tt : Gb wr bs => (q tt).2.2.2.1
            have y3 := fun tt : Gb wr bs => (q tt).2.2.2.2
            clear q
            simp only [List.take_succ_cons, List.take_zero]
            repeat (go_big_quiet_step (fail))
            exact wpQuiet_nil rfl
          · intro bl wx hbl _ _
            have HX : Hid (Below wr.heap.size wr wx) := hbl
            simp only [R4.layL]
            clear hbl
            refine wpAny_one 8 (by kernel_rfl) rfl ?_
            intro K hK
            go_simp
            refine (HPL.out _).mono ?_
            rintro e w3 ⟨up, rfl, hup, hb3⟩
            have HRel : Hid (OwR wr.heap.size w3 up (plc x r) ∧ Below wr.heap.size wr w3) := ⟨hup.weaken HX.out.size, HX.out.trans (hb3.mono HX.out.size)⟩
            clear hup hb3 HX
            refine hK _ _ ?_
            clear hK K
            refine wpAny_one 9 (by kernel_rfl) rfl ?_
            intro K hK
            go_simp
            refine hK _ _ ?_
            clear hK K
            refine wpAny_done (by kernel_rfl) ?_ _
            go_wp2_with fail
            go_meet
            exact HRel
        case rest =>
          have H3 := hcut
          clear hcut HPL
          generalize wc = w3 at *
          obtain ⟨op, cpp, eP, hcP, hgP⟩ := row_val H3.out.1
          subst eP
          obtain ⟨P, hP⟩ : ∃ P, P = plc x r := ⟨_, rfl⟩
          obtain ⟨np, hnp⟩ : ∃ np, np = P.length := ⟨_, rfl⟩
          have hnp4 : np ≤ 4 := by rw [hnp, hP]; exact plc_len x r
          have HPn : Hid (P = plc x r ∧ np = P.length) := ⟨hP, hnp⟩
          have H4 : Hid (OwR wr.heap.size w3 (.slice op np cpp) P ∧ Below wr.heap.size wr w3 ∧ Below B w2 w3 ∧ B ≤ w3.heap.size ∧ OwS B w3 u6 (L.map Prod.fst)) := by
            obtain ⟨a1, a2⟩ := H3.out
            rw [hnp, hP]
            exact ⟨a1, a2, HK2.out.2.2.2.1.trans (a2.mono HK2.out.2.2.2.2), Nat.le_trans HK2.out.2.2.2.2 a2.size, HK2.out.1.below a2⟩
          rw [← hP, ← hnp] at hcP ⊢
          clear H3 hgP hP hnp
          obtain ⟨b0, hb0⟩ : ∃ b0, b0 = (drw x && ((np : Int) == 0)) := ⟨_, rfl⟩
          have HB0 : Hid (b0 = (drw x && ((np : Int) == 0))) := hb0
          clear hb0
          obtain ⟨hd, hhd⟩ : ∃ hd, hd = drw x := ⟨_, rfl⟩
          have HHD : Hid (hd = drw x) := hhd
          have HDx : Hid (∀ W, Calls Tryz.prog 25 #[(Value.agg #[.int .u8 x.k, .int .i64 x.r.x, .int .i64 x.r.y, .int .i64 x.r.w, .int .i64 x.r.h, .int .u8 x.c.r, .int .u8 x.c.g, .int .u8 x.c.b, .int .u8 x.c.a, .int .u8 x.b.r, .int .u8 x.b.g, .int .u8 x.b.b, .int .u8 x.b.a, .string x.t, .int .i64 x.n])] W fun e w' => e = .returned (.bool hd) ∧ Below W.heap.size W w') := fun W => by rw [hhd]; exact HDr.out x W
          rw [← hhd] at HB0
          clear hhd
          go_upto_region 10 with fail
          go_cut [9] (fun s9 wx => s9 = .bool b0 ∧ Hid (Below w3.heap.size w3 wx))
          case first =>
            obtain ⟨x0, x1, x2, x3, x4, x5, x6, x7, x8, x9, x10, x11, x12, x13, x14⟩ := (HAT.out _ H4.out.2.2.1).1
            cases hd with
            | false =>
              have hb : b0 = false := HB0.out
              subst hb
              go_wp2_with fail
              refine (HDx.out _).mono ?_
              rintro e w4 ⟨rfl, hb4⟩
              have H5 : Hid (Below w3.heap.size w3 w4) := hb4
              clear hb4
              go_wp2_with fail
              go_meet
              exact ⟨rfl, H5⟩
            | true =>
              have hb : b0 = ((np : Int) == 0) := HB0.out
              subst hb
              go_wp2_with fail
              refine (HDx.out _).mono ?_
              rintro e w4 ⟨rfl, hb4⟩
              have H5 : Hid (Below w3.heap.size w3 w4) := hb4
              clear hb4 x0 x1 x2 x3 x4 x5 x6 x7 x8 x9 x10 x11 x12 x13 x14
              go_wp2_with fail
              go_meet
              exact ⟨rfl, H5⟩
          case rest =>
            obtain ⟨rfl, H5⟩ := hcut
            generalize wc = w4 at *
            have H6 : Hid (LsR w4 (.slice op np cpp) P ∧ Below B w2 w4 ∧ B ≤ w4.heap.size ∧ OwS B w4 u6 (L.map Prod.fst)) := by
              obtain ⟨a1, _, a3, a4, a5⟩ := H4.out
              refine ⟨?_, a3.trans (H5.out.mono a4), Nat.le_trans a4 H5.out.size, a5.below H5.out⟩
              have h := lsr_own a1
              exact h.below H5.out
            clear H4 H5
            obtain ⟨hv, hhv⟩ : ∃ hv, hv = hidB p (A.drop (k + 1)) := ⟨_, rfl⟩
            have HV0 : Hid (hv = hidB p (A.drop (k + 1))) := hhv
            have HV : Hid (hv = (hd && (P.isEmpty || (A.drop (k + 1)).any (hidP P)))) := by
              unfold Hid
              rw [hhv, HHD.out, HPn.out.1, HXR.out.1, HXR.out.2]
              rfl
            clear hhv
            have HS0 : Hid (b0 = (hd && (P.isEmpty || ((A.take (k + 1)).drop (k + 1)).any (hidP P)))) := by
              unfold Hid
              rw [HB0.out, List.drop_of_length_le (by rw [List.length_take]; omega), List.any_nil, Bool.or_false]
              congr 1
              rw [HPn.out.2]
              cases P with
              | nil => rfl
              | cons a P => simp; omega
            have HQ : Hid (∀ m, m < l.length → ∃ q, A[m]? = some q ∧ ∀ W, Below B w2 W → StAt W g (o + m * 15) q.1 ∧ RcAt W g1 (m * 4) q.2) := fun m hm => by
              have hmA : m < A.length := by rw [HSH.out.n]; exact hm
              exact ⟨A[m], List.getElem?_eq_getElem hmA, fun W h => HSH.out.at (List.getElem?_eq_getElem hmA) h⟩
            have HIn : Hid (∀ (ry : Rc) W, LsR W (.slice op np cpp) P → Calls Tryz.prog 36 #[.slice op np cpp, .agg #[.int .i64 ry.x, .int .i64 ry.y, .int .i64 ry.w, .int .i64 ry.h]] W fun e w' => e = .returned (.bool (P.all fun a => zIn a ry)) ∧ Below W.heap.size W w') := fun ry W h => zin_any P ry _ W h (by have := HPn.out.2; omega)
            go_wp2_with fail
            go_loopw [9, 10] (fun h j wi => ∃ (hb : Bool) (m : Nat), h = .bool hb ∧ j = .int .i64 m ∧ k + 1 ≤ m ∧ m ≤ l.length ∧ Hid (hb = (hd && (P.isEmpty || ((A.take m).drop (k + 1)).any (hidP P))) ∧ Below w4.heap.size w4 wi)) (fun _ j _ => l.length - (intOf j).toNat)
            case atStart => exact ⟨b0, k + 1, rfl, by go_num, Nat.le_refl _, by omega, HS0.out, Below.refl _ _⟩
            case round =>
              obtain ⟨hb, m, rfl, rfl, hkm, hm, HM⟩ := hrel
              have HEnd : Hid (OwS B w4 u6 (L.map Prod.fst) ∧ True ∧ Below B w2 w4 ∧ B ≤ w4.heap.size) := ⟨H6.out.2.2.2, trivial, H6.out.2.1, H6.out.2.2.1⟩
              have HEndN : Hid (hv = true → L ++ kepN (A.drop (k + 1)) = kepN A) := fun h => by
                have q := HK2.out.2.1
                rw [HP.out.2.1, kepN, ← HV0.out, h] at q
                exact q
              have HEndA : Hid (hv = false → (L ++ [p]) ++ kepN (A.drop (k + 1)) = kepN A) := fun h => by
                have q := HK2.out.2.1
                rw [HP.out.2.1, kepN, ← HV0.out, h] at q
                rw [List.append_assoc]
                exact q
              by_cases hml : m < l.length
              · have im : (m : Int) < l.length := by omega
                have HBi : Hid (Below B w2 wr ∧ Below w4.heap.size w4 wr) := ⟨H6.out.2.1.trans (HM.out.2.mono H6.out.2.2.1), HM.out.2⟩
                obtain ⟨x0, x1, x2, x3, x4, x5, x6, x7, x8, x9, x10, x11, x12, x13, x14⟩ := (HAT.out _ HBi.out.1).1
                cases hd with
                | false =>
                  have HVf : Hid (hv = false) := by unfold Hid; rw [HV.out]; rfl
                  obtain rfl : hb = false := HM.out.1
                  go_wp2_with fail
                  refine (HDx.out _).mono ?_
                  rintro e w5 ⟨rfl, hb5⟩
                  have HW : Hid (Below w4.heap.size w4 w5) := HBi.out.2.trans (hb5.mono HBi.out.2.size)
                  have HVt : Hid (hv = false) := HVf
                  clear hb5 HBi HM x0 x1 x2 x3 x4 x5 x6 x7 x8 x9 x10 x11 x12 x13 x14
                  obtain ⟨n6, hn6⟩ : ∃ n6, n6 = L.length := ⟨_, rfl⟩
                  have HN6 : Hid (n6 = L.length) := hn6
                  have hn6k : n6 ≤ k := by rw [hn6]; exact HK2.out.2.2.1
                  have HA : Hid (∀ o, (w5.alloc o).ownsRow B 48 15 u6 n6 (flatZ (L.map Prod.fst)) ∧ B ≤ (w5.alloc o).heap.size) := fun o => by
                    have h := HEnd.out.1.below HW.out
                    unfold OwS at h
                    rw [List.length_map, ← HN6.out] at h
                    exact ⟨row_below h ((Below.refl _ _).alloc (Nat.le_refl _) _), by have := HW.out.size; have := HEnd.out.2.2.2; simp; omega⟩
                  have HW2 : Hid (Below B w2 w5 ∧ B ≤ w5.heap.size) := ⟨HEnd.out.2.2.1.trans (HW.out.mono HEnd.out.2.2.2), Nat.le_trans HEnd.out.2.2.2 HW.out.size⟩
                  obtain ⟨x0, x1, x2, x3, x4, x5, x6, x7, x8, x9, x10, x11, x12, x13, x14⟩ := (HAT.out _ HW2.out.1).1
                  have hc3 : Hid (n6 + 1 ≤ maxLen) := by unfold Hid maxLen; omega
                  have hc4 : Hid ((n6 + 1) * 72 ≤ 140737488355328) := by unfold Hid; omega
                  have HVA := HEndA.out (by first | exact HVt.out | rfl)
                  have HVA2 : Hid ((L ++ [p]) ++ kepN (A.drop (k + 1)) = kepN A) := HVA
                  clear HVA hn6
                  go_wp2_with (at_builtin; refine wpList_append_lies _ rfl _ _ 22 rfl B 48 j0 (.agg #[.int .u8 0, .int .i64 0, .int .i64 0, .int .i64 0, .int .i64 0, .int .u8 0, .int .u8 0, .int .u8 0, .int .u8 0, .int .u8 0, .int .u8 0, .int .u8 0, .int .u8 0, .string ByteArray.empty, .int .i64 0]) 15 72 Tryz.underlying22 ki kz0 kz1 kz2 rfl (by decide) u6 n6 (flatZ (L.map Prod.fst)) rfl (HA.out _).1 _ 1 1 (sCel x) rfl rfl (cell_strokeB _ _ _ _ rfl) (oneZ x) (by decide) hc3.out hc4.out (HA.out _).2 _ rfl ?_)
                  intro g4 cap4 w6 hown' hgrow hlies hg4
                  have HRel : Hid (∃ L, OwS B w6 (.slice (some ⟨g4, 0, none⟩) (n6 + 1) cap4) (L.map Prod.fst) ∧ L ++ kepN (A.drop (k + 1)) = kepN A ∧ L.length ≤ k + 1 ∧ Below B w2 w6) := by
                    have b3 : Below B w2 (w5.alloc (.cells (#[.int .u8 x.k, .int .i64 x.r.x, .int .i64 x.r.y, .int .i64 x.r.w, .int .i64 x.r.h, .int .u8 x.c.r, .int .u8 x.c.g, .int .u8 x.c.b, .int .u8 x.c.a, .int .u8 x.b.r, .int .u8 x.b.g, .int .u8 x.b.b, .int .u8 x.b.a, .string x.t, .int .i64 x.n]) 48)) := HW2.out.1.alloc HW2.out.2 _
                    have b4 : Below B w2 w6 := b3.grown hgrow (HA.out _).2 (fun g hg => (row_lt (HA.out (.cells (#[.int .u8 x.k, .int .i64 x.r.x, .int .i64 x.r.y, .int .i64 x.r.w, .int .i64 x.r.h, .int .u8 x.c.r, .int .u8 x.c.g, .int .u8 x.c.b, .int .u8 x.c.a, .int .u8 x.b.r, .int .u8 x.b.g, .int .u8 x.b.b, .int .u8 x.b.a, .string x.t, .int .i64 x.n]) 48)).1 g hg).1)
                    refine ⟨L ++ [p], ?_, HVA2.out, by rw [List.length_append, List.length_singleton, ← HN6.out]; omega, b4⟩
                    rw [List.map_append, List.map_singleton, ← HXR.out.1]
                    exact snocS (by rw [List.length_map]; exact HN6.out) hown'
                  clear hown' hgrow hlies hg4 HA HEnd HEndN HEndA H6 HK2 HAT HQ HIn HDx x0 x1 x2 x3 x4 x5 x6 x7 x8 x9 x10 x11 x12 x13 x14
                  go_wp2
                  go_roundw
                  case rel => exact ⟨k + 1, by go_num, by omega, HRel⟩
                  case measure => simp [intOf]; omega
                | true =>
                  cases hb with
                  | true =>
                    have HVt : Hid (hv = true) := by
                      unfold Hid
                      rw [HV.out, Bool.true_and]
                      have h := HM.out.1
                      rw [Bool.true_and] at h
                      cases hP : P.isEmpty with
                      | true => rfl
                      | false =>
                        rw [hP, Bool.false_or] at h
                        rw [Bool.false_or, List.any_eq_true]
                        obtain ⟨q, hq, hq2⟩ := List.any_eq_true.1 h.symm
                        refine ⟨q, ?_, hq2⟩
                        rw [List.drop_take] at hq
                        exact List.mem_of_mem_take hq
                    go_wp2_with fail
                    refine (HDx.out _).mono ?_
                    rintro e w5 ⟨rfl, hb5⟩
                    have HW : Hid (Below w4.heap.size w4 w5) := HBi.out.2.trans (hb5.mono HBi.out.2.size)
                    clear hb5 HBi HM x0 x1 x2 x3 x4 x5 x6 x7 x8 x9 x10 x11 x12 x13 x14
                    have HRel : Hid (∃ L, OwS B w5 u6 (L.map Prod.fst) ∧ L ++ kepN (A.drop (k + 1)) = kepN A ∧ L.length ≤ k + 1 ∧ Below B w2 w5) := ⟨L, HEnd.out.1.below HW.out, HEndN.out (by first | exact HVt.out | rfl), by have := HK2.out.2.2.1; omega, HEnd.out.2.2.1.trans (HW.out.mono HEnd.out.2.2.2)⟩
                    clear HEnd HEndN HEndA H6 HK2 HAT HQ HIn HDx
                    go_wp2
                    go_roundw
                    case rel => exact ⟨k + 1, by go_num, by omega, HRel⟩
                    case measure => simp [intOf]; omega
                  | false =>
                    obtain ⟨q, hq, hqat⟩ := HQ.out m hml
                    have HQm : Hid (((A.take (m + 1)).drop (k + 1)).any (hidP P) = hidP P q ∧ P.isEmpty = false) := by
                      have h := HM.out.1
                      rw [Bool.true_and] at h
                      have h := Bool.or_eq_false_iff.1 h.symm
                      obtain ⟨hmA, he⟩ := List.getElem?_eq_some_iff.1 hq
                      refine ⟨?_, h.1⟩
                      rw [← List.take_append_getElem hmA, he, List.drop_append_of_le_length (by rw [List.length_take]; omega), List.any_append, h.2]
                      simp
                    have HNew : Hid (∀ c, hidP P q = c → c = (true && (P.isEmpty || ((A.take (m + 1)).drop (k + 1)).any (hidP P)))) := fun c h => by
                      rw [HQm.out.1, HQm.out.2, h]
                      rfl
                    have HHp : Hid (hidP P q = ((q.1.k == 1 && q.1.c.a == 255) && P.all fun a => zIn a q.2)) := rfl
                    have HIq : Hid (∀ W, LsR W (.slice op np cpp) P → Calls Tryz.prog 36 #[.slice op np cpp, .agg #[.int .i64 q.2.x, .int .i64 q.2.y, .int .i64 q.2.w, .int .i64 q.2.h]] W fun e w' => e = .returned (.bool (P.all fun a => zIn a q.2)) ∧ Below W.heap.size W w') := HIn.out q.2
                    generalize P.all (fun a => zIn a q.2) = al at *
                    go_wp2_with fail
                    refine (HDx.out _).mono ?_
                    rintro e w5 ⟨rfl, hb5⟩
                    have HW : Hid (Below w4.heap.size w4 w5 ∧ Below B w2 w5) := ⟨HBi.out.2.trans (hb5.mono HBi.out.2.size), by
                      have b1 := HBi.out.2.trans (hb5.mono HBi.out.2.size)
                      exact H6.out.2.1.trans (b1.mono H6.out.2.2.1)⟩
                    clear hb5 HBi HM x0 x1 x2 x3 x4 x5 x6 x7 x8 x9 x10 x11 x12 x13 x14 hq HQm
                    have hy := hqat _ HW.out.2
                    obtain ⟨⟨y0, y1, y2, y3, y4, y5, y6, y7, y8, -⟩, ⟨z0, z1, z2, z3⟩⟩ := hy
                    have HLP : Hid (LsR w5 (.slice op np cpp) P) := H6.out.1.below HW.out.1
                    by_cases hk1 : q.1.k = 1
                    · by_cases hk2 : q.1.c.a = 255
                      · have HN := HNew.out al (by rw [HHp.out, hk1, hk2]; rfl)
                        have HN2 : Hid (al = (true && (P.isEmpty || ((A.take (m + 1)).drop (k + 1)).any (hidP P)))) := HN
                        clear HN HNew HHp
                        go_wp2_with fail
                        refine (HIq.out _ HLP.out).mono ?_
                        rintro e w6 ⟨rfl, hb6⟩
                        have HR : Hid (al = (true && (P.isEmpty || ((A.take (m + 1)).drop (k + 1)).any (hidP P))) ∧ Below w4.heap.size w4 w6) := ⟨HN2.out, HW.out.1.trans (hb6.mono HW.out.1.size)⟩
                        clear hb6 HW HLP HN2 y0 y1 y2 y3 y4 y5 y6 y7 y8 z0 z1 z2 z3 HIq hqat
                        go_wp2
                        go_roundw
                        case rel => exact ⟨al, m + 1, rfl, by go_num, by omega, by omega, HR⟩
                        case measure => simp [intOf]; omega
                      · have hk2' : (q.1.c.a == 255) = false := beq_eq_false_iff_ne.2 hk2
                        have HN := HNew.out false (by rw [HHp.out, hk2', Bool.and_false]; rfl)
                        have HR : Hid (false = (true && (P.isEmpty || ((A.take (m + 1)).drop (k + 1)).any (hidP P))) ∧ Below w4.heap.size w4 w5) := ⟨HN, HW.out.1⟩
                        clear HN HNew HHp HW HLP HIq hqat hk2
                        go_wp2
                        go_roundw
                        case rel => exact ⟨false, m + 1, rfl, by go_num, by omega, by omega, HR⟩
                        case measure => simp [intOf]; omega
                    · have hk1' : (q.1.k == 1) = false := beq_eq_false_iff_ne.2 hk1
                      have HN := HNew.out false (by rw [HHp.out, hk1']; rfl)
                      have HR : Hid (false = (true && (P.isEmpty || ((A.take (m + 1)).drop (k + 1)).any (hidP P))) ∧ Below w4.heap.size w4 w5) := ⟨HN, HW.out.1⟩
                      clear HN HNew HHp HW HLP HIq hqat hk1
                      go_wp2
                      go_roundw
                      case rel => exact ⟨false, m + 1, rfl, by go_num, by omega, by omega, HR⟩
                      case measure => simp [intOf]; omega
              · obtain rfl : m = l.length := by omega
                have HVe : Hid (hv = hb) := by
                  unfold Hid
                  rw [HV.out, HM.out.1, List.take_of_length_le (by rw [HLen.out]; exact Nat.le_refl _)]
                have HW : Hid (Below w4.heap.size w4 wr) := HM.out.2
                cases hb with
                | true =>
                  have HVt : Hid (hv = true) := HVe
                  clear HM
                  have HRel : Hid (∃ L, OwS B wr u6 (L.map Prod.fst) ∧ L ++ kepN (A.drop (k + 1)) = kepN A ∧ L.length ≤ k + 1 ∧ Below B w2 wr) := ⟨L, HEnd.out.1.below HW.out, HEndN.out (by first | exact HVt.out | rfl), by have := HK2.out.2.2.1; omega, HEnd.out.2.2.1.trans (HW.out.mono HEnd.out.2.2.2)⟩
                  clear HEnd HEndN HEndA H6 HK2 HAT HQ HIn HDx
                  go_wp2
                  go_roundw
                  case rel => exact ⟨k + 1, by go_num, by omega, HRel⟩
                  case measure => simp [intOf]; omega
                | false =>
                  have HVt : Hid (hv = false) := HVe
                  clear HM
                  obtain ⟨n6, hn6⟩ : ∃ n6, n6 = L.length := ⟨_, rfl⟩
                  have HN6 : Hid (n6 = L.length) := hn6
                  have hn6k : n6 ≤ k := by rw [hn6]; exact HK2.out.2.2.1
                  have HA : Hid (∀ o, (wr.alloc o).ownsRow B 48 15 u6 n6 (flatZ (L.map Prod.fst)) ∧ B ≤ (wr.alloc o).heap.size) := fun o => by
                    have h := HEnd.out.1.below HW.out
                    unfold OwS at h
                    rw [List.length_map, ← HN6.out] at h
                    exact ⟨row_below h ((Below.refl _ _).alloc (Nat.le_refl _) _), by have := HW.out.size; have := HEnd.out.2.2.2; simp; omega⟩
                  have HW2 : Hid (Below B w2 wr ∧ B ≤ wr.heap.size) := ⟨HEnd.out.2.2.1.trans (HW.out.mono HEnd.out.2.2.2), Nat.le_trans HEnd.out.2.2.2 HW.out.size⟩
                  obtain ⟨x0, x1, x2, x3, x4, x5, x6, x7, x8, x9, x10, x11, x12, x13, x14⟩ := (HAT.out _ HW2.out.1).1
                  have hc3 : Hid (n6 + 1 ≤ maxLen) := by unfold Hid maxLen; omega
                  have hc4 : Hid ((n6 + 1) * 72 ≤ 140737488355328) := by unfold Hid; omega
                  have HVA := HEndA.out (by first | exact HVt.out | rfl)
                  have HVA2 : Hid ((L ++ [p]) ++ kepN (A.drop (k + 1)) = kepN A) := HVA
                  clear HVA hn6
                  go_wp2_with (at_builtin; refine wpList_append_lies _ rfl _ _ 22 rfl B 48 j0 (.agg #[.int .u8 0, .int .i64 0, .int .i64 0, .int .i64 0, .int .i64 0, .int .u8 0, .int .u8 0, .int .u8 0, .int .u8 0, .int .u8 0, .int .u8 0, .int .u8 0, .int .u8 0, .string ByteArray.empty, .int .i64 0]) 15 72 Tryz.underlying22 ki kz0 kz1 kz2 rfl (by decide) u6 n6 (flatZ (L.map Prod.fst)) rfl (HA.out _).1 _ 1 1 (sCel x) rfl rfl (cell_strokeB _ _ _ _ rfl) (oneZ x) (by decide) hc3.out hc4.out (HA.out _).2 _ rfl ?_)
                  intro g4 cap4 w6 hown' hgrow hlies hg4
                  have HRel : Hid (∃ L, OwS B w6 (.slice (some ⟨g4, 0, none⟩) (n6 + 1) cap4) (L.map Prod.fst) ∧ L ++ kepN (A.drop (k + 1)) = kepN A ∧ L.length ≤ k + 1 ∧ Below B w2 w6) := by
                    have b3 : Below B w2 (wr.alloc (.cells (#[.int .u8 x.k, .int .i64 x.r.x, .int .i64 x.r.y, .int .i64 x.r.w, .int .i64 x.r.h, .int .u8 x.c.r, .int .u8 x.c.g, .int .u8 x.c.b, .int .u8 x.c.a, .int .u8 x.b.r, .int .u8 x.b.g, .int .u8 x.b.b, .int .u8 x.b.a, .string x.t, .int .i64 x.n]) 48)) := HW2.out.1.alloc HW2.out.2 _
                    have b4 : Below B w2 w6 := b3.grown hgrow (HA.out _).2 (fun g hg => (row_lt (HA.out (.cells (#[.int .u8 x.k, .int .i64 x.r.x, .int .i64 x.r.y, .int .i64 x.r.w, .int .i64 x.r.h, .int .u8 x.c.r, .int .u8 x.c.g, .int .u8 x.c.b, .int .u8 x.c.a, .int .u8 x.b.r, .int .u8 x.b.g, .int .u8 x.b.b, .int .u8 x.b.a, .string x.t, .int .i64 x.n]) 48)).1 g hg).1)
                    refine ⟨L ++ [p], ?_, HVA2.out, by rw [List.length_append, List.length_singleton, ← HN6.out]; omega, b4⟩
                    rw [List.map_append, List.map_singleton, ← HXR.out.1]
                    exact snocS (by rw [List.length_map]; exact HN6.out) hown'
                  clear hown' hgrow hlies hg4 HA HEnd HEndN HEndA H6 HK2 HAT HQ HIn HDx x0 x1 x2 x3 x4 x5 x6 x7 x8 x9 x10 x11 x12 x13 x14
                  go_wp2
                  go_roundw
                  case rel => exact ⟨k + 1, by go_num, by omega, HRel⟩
                  case measure => simp [intOf]; omega
      · obtain rfl : k = l.length := by omega
        obtain ⟨L, hL1, hL2, hL3, hL4⟩ := HK.out
        have HF : Hid (OwS B wr u6 ((kepN A).map Prod.fst) ∧ Below B w2 wr ∧ L.length ≤ l.length) := by
          rw [← HLen.out, List.drop_length] at hL2
          have e : L = kepN A := by rw [← hL2]; exact (List.append_nil _).symm
          rw [← e]
          exact ⟨hL1, hL4, hL3⟩
        have HKl : Hid (((kepN A).map Prod.fst).length ≤ 20000) := by
          unfold Hid
          have := dro_len (dro_kepN A)
          rw [HLen.out] at this
          rw [List.length_map]
          omega
        clear HK hL1 hL2 hL3 hL4
        go_wp2_with fail
        refine (zbusy_any ((kepN A).map Prod.fst) _ wr HF.out.1.lss HKl.out).mono ?_
        rintro e w9 ⟨u, rfl, hu, hb9⟩
        have HFin : Hid (OwS w.heap.size w9 u (norE l) ∧ Below w.heap.size w w9) := by
          have b1 := HF.out.2.1
          rw [HB.out] at b1
          have b2 : Below w.heap.size w wr := HBw.out.trans (b1.mono HBw.out.size)
          rw [HE.out]
          exact ⟨hu.weaken b2.size, b2.trans (hb9.mono b2.size)⟩
        clear hu hb9 HF
        go_wp2
        go_ret2
        exact ⟨_, rfl, HFin⟩

end Go.Proofs.YtbghjmkgicdnoaaGreat
