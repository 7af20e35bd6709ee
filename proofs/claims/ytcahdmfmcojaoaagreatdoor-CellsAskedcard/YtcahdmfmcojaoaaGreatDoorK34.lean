/-
  Texts of this claim, one behind the other: what each is about stands ahead of it.
-/
import Derived.Test.YtcahdmfmcojaoaaGreatDoorK33
import Derived.Test.YtcahdmfmcojaoaaGreatDoorK23
import Derived.Test.YtcahdmfmcojaoaaGreatDoorK11
import Derived.Deep.CutBlock
/-
  Contracts of package list: the rectangles in which strokes show, told.
-/
namespace Go.Proofs.YtcahdmfmcojaoaaGreatDoor
open Go.RowKit

theorem ob_trans {w W W' : World} {r : Option Nat} (h : w.grownBy W r) (k : W.grownBy W' r) : w.grownBy W' r :=
  ⟨k.os.trans h.os, k.tape.trans h.tape, k.output.trans h.output, Nat.le_trans h.size k.size, fun b hb hr => (k.block b (Nat.lt_of_lt_of_le hb h.size) hr).trans (h.block b hb hr)⟩
theorem ob_set (w : World) (g o : Nat) (v : Value) : w.grownBy (w.setCell ⟨g, o, none⟩ v) (some g) :=
  ⟨rfl, rfl, rfl, ((Below.refl 0 w).setCell (p := ⟨g, o, none⟩) (Nat.zero_le _) v).size, fun b _ hb => Below.heap_setCell _ _ _ b (fun e => hb (by rw [e]))⟩
theorem ob_set4 (w : World) (g o : Nat) (a b c d : Value) : w.grownBy ((((w.setCell ⟨g, o, none⟩ a).setCell ⟨g, o + 1, none⟩ b).setCell ⟨g, o + 2, none⟩ c).setCell ⟨g, o + 3, none⟩ d) (some g) :=
  ob_trans (ob_trans (ob_trans (ob_set _ _ _ _) (ob_set _ _ _ _)) (ob_set _ _ _ _)) (ob_set _ _ _ _)

set_option maxRecDepth 20000 in
set_option maxHeartbeats 8000000 in
theorem shown_any (l : List St) (v : Value) (w : World) (hv : LsS w v l) (hl : l.length ≤ 16384) (hc0 : clpE 0 l = 0) :
    Calls Tryz.prog 67 #[v] w fun e w' => ∃ u, e = .returned u ∧ OwR w.heap.size w' u ((ann [] l).map Prod.snd) ∧ Below w.heap.size w w' := by
  obtain ⟨oa, cap, rfl, hc, hg⟩ := hv
  have HG : Hid (0 < l.length → ∃ g o, oa = some ⟨g, o, none⟩ ∧ g < w.heap.size ∧ ∀ i (h : i < l.length), StAt w g (o + i * 15) l[i]) := hg
  obtain ⟨i0, hi, hz0, hz1, hz2⟩ := info_parts info_rcN
  have HI : Hid (Tryz.prog.info? 56 = some i0 ∧ i0.zero = some (.agg #[.int .i64 0, .int .i64 0, .int .i64 0, .int .i64 0]) ∧ i0.size = 4 ∧ i0.bytes = 32) := ⟨hi, hz0, hz1, hz2⟩
  have HME : Hid (∀ (a b : Rc) W, I64 a.x → I64 a.y → I64 b.x → I64 b.y → Calls Tryz.prog 38 #[.agg #[.int .i64 a.x, .int .i64 a.y, .int .i64 a.w, .int .i64 a.h], .agg #[.int .i64 b.x, .int .i64 b.y, .int .i64 b.w, .int .i64 b.h]] W fun e w' => e = .returned (.agg #[.int .i64 (zMe a b).x, .int .i64 (zMe a b).y, .int .i64 (zMe a b).w, .int .i64 (zMe a b).h]) ∧ Below W.heap.size W w') := fun a b W h1 h2 h3 h4 => meet_any _ _ _ _ _ _ _ _ W h1 h2 h3 h4
  obtain ⟨gu, hgu⟩ : ∃ gu, gu = w.heap.size := ⟨_, rfl⟩
  have hmk : (Instr.makeSlice 45 (.int .i64 (l.length : Nat)) (.int .i64 (l.length : Nat))).run Tryz.prog w = .ok (.slice (some ⟨gu, 0, none⟩) l.length l.length) (w.alloc (.cells (flat (List.replicate l.length zr)).toArray 56)) := by rw [hgu]; exact make_rcs l.length (by omega) w
  obtain ⟨N, hN⟩ : ∃ N, N = l.length := ⟨_, rfl⟩
  have HN : Hid (N = l.length) := hN
  have HR0 : Hid (OwR w.heap.size (w.alloc (.cells (flat (List.replicate N zr)).toArray 56)) (.slice (some ⟨gu, 0, none⟩) N N) (rowS l 0) ∧ Below w.heap.size w (w.alloc (.cells (flat (List.replicate N zr)).toArray 56))) := by
    refine ⟨?_, (Below.refl _ _).alloc (Nat.le_refl _) _⟩
    have e : rowS l 0 = List.replicate N zr := by unfold rowS; rw [hN]; simp
    rw [e, hgu]
    exact own_new (by simp) (Nat.le_refl _) (by omega)
  rw [← hN] at hmk hl hc ⊢
  clear hg hi hz0 hz1 hz2 hN hgu
  generalize (flat (List.replicate N zr)).toArray = arr at *
  go_enter Tryz.func67, Tryz.ntmps67
  go_wp2_with fail
  generalize w.alloc (.cells arr 56) = w1 at *
  refine (every_any w1).mono ?_
  rintro e w2 ⟨rfl, hb2⟩
  have H0 : Hid (ShP w l 0 [] (.slice (some ⟨gu, 0, none⟩) N N) (.slice (some ⟨w2.heap.size, 0, none⟩) 1 1) (w2.alloc (.cells #[.int .i64 (-16384), .int .i64 (-16384), .int .i64 32768, .int .i64 32768] 56))) := by
    have b1 : Below w.heap.size w w2 := HR0.out.2.trans (hb2.mono HR0.out.2.size)
    have o2 := HR0.out.1.below hb2
    refine ⟨o2.below ((Below.refl _ _).alloc (Nat.le_refl _) _), own_one (r := evR) (Bk.new _ _ _) b1.size, ?_, b1.alloc b1.size _, rfl, hc0, fun c hc => by cases hc⟩
    intro g h1 h2
    have h3 := (row_lt o2 g h1).2
    have h4 : w2.heap.size = g := by injection h2
    omega
  clear hb2 HR0 hmk hc0
  go_wp2_with fail
  go_loopw [4, 14] (fun q i wr => ∃ (k : Nat) (cs : List Rc), i = .int .i64 k ∧ k ≤ N ∧ Hid (ShP w l k cs (.slice (some ⟨gu, 0, none⟩) N N) q wr)) (fun _ i _ => N - (intOf i).toNat)
  case atStart => exact ⟨0, [], rfl, Nat.zero_le _, H0⟩
  case round =>
    clear H0
    obtain ⟨k, cs, rfl, hk, HK⟩ := hrel
    by_cases hlt : k < N
    · have ik : (k : Int) < N := by omega
      have hll : k < l.length := by rw [← HN.out]; exact hlt
      obtain ⟨g, o, rfl, hg, hat⟩ := HG.out (by omega)
      have hx := (hat k hll).kept (w' := wr) fun j => HK.out.b.cell (p := ⟨g, j, none⟩) hg
      obtain ⟨h1, h2, h3, h4, h5⟩ := sh_next hll HK.out.d HK.out.e
      have h45 := (oneE_zero h5).2.1
      have hma := (oneE_zero h5).1
      have HNx : Hid ((rowS l k).set k (shR cs l[k]) = rowS l (k + 1) ∧ (l[k].k = 5 → rowS l k = rowS l (k + 1)) ∧ (ann [] l).drop (k + 1) = ann (nxC cs l[k]) (l.drop (k + 1)) ∧ clpE (nxC cs l[k]).length (l.drop (k + 1)) = 0 ∧ (l[k].k = 5 → cs ≠ []) ∧ zMa (shR cs l[k]) = true ∧ shR cs l[k] = zMe l[k].r (topP cs)) :=
        ⟨rowS_next hll HK.out.d HK.out.e, fun h => rowS_same hll HK.out.d HK.out.e (shR_open h5 h), h2, h3, h4, shR_may _ _, shR_top⟩
      obtain ⟨oc, cc, ec, hcc, hgc⟩ := row_val HK.out.c
      have hul : (rowS l k).length = N := by rw [rowS_len l k (by omega), HN.out]
      have hcl : (evR :: cs.reverse).length = cs.length + 1 := by simp
      obtain ⟨hgu1, hgu2⟩ := row_lt HK.out.o gu rfl
      obtain ⟨gc, rfl, hgc1, hgc2⟩ := hgc (by omega)
      subst ec
      obtain ⟨n, hn⟩ : ∃ n, n = cs.length := ⟨_, rfl⟩
      have hcsl : n + 1 ≤ 16385 := by
        have h := clp_le _ _ HK.out.e
        rw [List.length_drop] at h
        have := HN.out
        omega
      rw [hcl, ← hn] at hcc HK ⊢
      have HNn : Hid (n = cs.length) := hn
      have HTop : Hid (∀ W, Below wr.heap.size wr W → RcAt W gc (n * 4) (topP cs)) := fun W h => (own_top hn HK.out.c).kept fun j => h.cell (p := ⟨gc, j, none⟩) hgc2
      have HTi : Hid (I64 (topP cs).x ∧ I64 (topP cs).y) := top_i64 HK.out.m
      have HMi : Hid (I64 l[k].r.x ∧ I64 l[k].r.y) := by
        have := may_bd hma
        exact ⟨i64_near ⟨this.1, this.2.1⟩, i64_near ⟨this.2.2.1, this.2.2.2.1⟩⟩
      have HNX : Hid ((l[k].k = 4 → nxC cs l[k] = shR cs l[k] :: cs) ∧ (l[k].k = 5 → nxC cs l[k] = cs.tail) ∧ (l[k].k < 4 → nxC cs l[k] = cs)) := by
        unfold Hid nxC
        exact ⟨fun h => by rw [if_pos h], fun h => by rw [if_neg (by omega), if_pos h], fun h => by rw [if_neg (by omega), if_neg (by omega)]⟩
      clear hat h1 h2 h3 h4 h5 hma hul hcl hn
      generalize l[k] = x at *
      obtain ⟨x0, x1, x2, x3, x4, x5, x6, x7, x8, x9, x10, x11, x12, x13, x14⟩ := hx
      have HWb : Hid (Below wr.heap.size wr (wr.alloc (.cells (#[.int .u8 x.k, .int .i64 x.r.x, .int .i64 x.r.y, .int .i64 x.r.w, .int .i64 x.r.h, .int .u8 x.c.r, .int .u8 x.c.g, .int .u8 x.c.b, .int .u8 x.c.a, .int .u8 x.b.r, .int .u8 x.b.g, .int .u8 x.b.b, .int .u8 x.b.a, .string x.t, .int .i64 x.n]) 59)) ∧ Bk (wr.alloc (.cells (#[.int .u8 x.k, .int .i64 x.r.x, .int .i64 x.r.y, .int .i64 x.r.w, .int .i64 x.r.h, .int .u8 x.c.r, .int .u8 x.c.g, .int .u8 x.c.b, .int .u8 x.c.a, .int .u8 x.b.r, .int .u8 x.b.g, .int .u8 x.b.b, .int .u8 x.b.a, .string x.t, .int .i64 x.n]) 59)) wr.heap.size (#[.int .u8 x.k, .int .i64 x.r.x, .int .i64 x.r.y, .int .i64 x.r.w, .int .i64 x.r.h, .int .u8 x.c.r, .int .u8 x.c.g, .int .u8 x.c.b, .int .u8 x.c.a, .int .u8 x.b.r, .int .u8 x.b.g, .int .u8 x.b.b, .int .u8 x.b.a, .string x.t, .int .i64 x.n]) 59) := ⟨(Below.refl _ _).alloc (Nat.le_refl _) _, Bk.new _ _ _⟩
      by_cases h5 : x.k = 5
      · cases cs with
        | nil => exact absurd rfl (HNx.out.2.2.2.2.1 h5)
        | cons c t =>
          obtain ⟨tl, htl⟩ : ∃ tl, tl = t.length := ⟨_, rfl⟩
          obtain rfl : n = tl + 1 := by rw [HNn.out, htl]; rfl
          have HRel : Hid (∀ tt : Value, ShP w l (k + 1) t (.slice (some ⟨gu, 0, none⟩) N N) (.slice (some ⟨gc, 0, none⟩) (tl + 1) cc) (wr.alloc (.cells #[tt, .int .i64 x.r.x, .int .i64 x.r.y, .int .i64 x.r.w, .int .i64 x.r.h, .int .u8 x.c.r, .int .u8 x.c.g, .int .u8 x.c.b, .int .u8 x.c.a, .int .u8 x.b.r, .int .u8 x.b.g, .int .u8 x.b.b, .int .u8 x.b.a, .string x.t, .int .i64 x.n] 59))) := fun tt => by
            obtain ⟨a1, a2, a3, a4, a5, a6, a7⟩ := HK.out.below ((Below.refl _ wr).alloc (Nat.le_refl _) (.cells #[tt, .int .i64 x.r.x, .int .i64 x.r.y, .int .i64 x.r.w, .int .i64 x.r.h, .int .u8 x.c.r, .int .u8 x.c.g, .int .u8 x.c.b, .int .u8 x.c.a, .int .u8 x.b.r, .int .u8 x.b.g, .int .u8 x.b.b, .int .u8 x.b.a, .string x.t, .int .i64 x.n] 59))
            obtain ⟨n1, n2, n3, n4, n5, n6, n7⟩ := HNx.out
            have e := HNX.out.2.1 h5
            rw [e] at n3 n4
            refine ⟨by rw [← n2 h5]; exact a1, ?_, a3, a4, n3, n4, fun c hc => a7 c (by simp [show c ∈ t from hc])⟩
            unfold OwR at a2 ⊢
            rw [show (evR :: (c :: t).reverse) = (evR :: t.reverse) ++ [c] by simp, flat_app, List.length_append] at a2
            rw [show (evR :: t.reverse).length = tl + 1 by simp [htl]] at a2 ⊢
            exact own_cut a2 (by rw [flat_len]; simp [htl])
          clear HK HNx HNX HTop HTi HMi HWb htl HNn
          go_wp2
          go_roundw
          case rel => exact ⟨k + 1, t, by go_num, by omega, HRel.out _⟩
          case measure => simp [intOf]; omega
      · have h5' : (x.k == 5) = false := beq_eq_false_iff_ne.2 h5
        obtain ⟨bx, hbx⟩ : ∃ bx, bx = wr.heap.size := ⟨_, rfl⟩
        have HBX : Hid (bx = wr.heap.size) := hbx
        rw [← hbx] at HWb
        have HWb2 : Hid (Below wr.heap.size wr (wr.alloc (.cells (#[.int .u8 x.k, .int .i64 x.r.x, .int .i64 x.r.y, .int .i64 x.r.w, .int .i64 x.r.h, .int .u8 x.c.r, .int .u8 x.c.g, .int .u8 x.c.b, .int .u8 x.c.a, .int .u8 x.b.r, .int .u8 x.b.g, .int .u8 x.b.b, .int .u8 x.b.a, .string x.t, .int .i64 x.n]) 59)) ∧ Bk (wr.alloc (.cells (#[.int .u8 x.k, .int .i64 x.r.x, .int .i64 x.r.y, .int .i64 x.r.w, .int .i64 x.r.h, .int .u8 x.c.r, .int .u8 x.c.g, .int .u8 x.c.b, .int .u8 x.c.a, .int .u8 x.b.r, .int .u8 x.b.g, .int .u8 x.b.b, .int .u8 x.b.a, .string x.t, .int .i64 x.n]) 59)) bx (#[.int .u8 x.k, .int .i64 x.r.x, .int .i64 x.r.y, .int .i64 x.r.w, .int .i64 x.r.h, .int .u8 x.c.r, .int .u8 x.c.g, .int .u8 x.c.b, .int .u8 x.c.a, .int .u8 x.b.r, .int .u8 x.b.g, .int .u8 x.b.b, .int .u8 x.b.a, .string x.t, .int .i64 x.n]) 59) := by rw [← hbx]; exact HWb
        clear HWb
        go_upto_region 8 with fail
        rw [← hbx]
        clear hbx
        generalize wr.alloc (.cells (#[.int .u8 x.k, .int .i64 x.r.x, .int .i64 x.r.y, .int .i64 x.r.w, .int .i64 x.r.h, .int .u8 x.c.r, .int .u8 x.c.g, .int .u8 x.c.b, .int .u8 x.c.a, .int .u8 x.b.r, .int .u8 x.b.g, .int .u8 x.b.b, .int .u8 x.b.a, .string x.t, .int .i64 x.n]) 59) = W0 at *
        clear x0 x1 x2 x3 x4 x5 x6 x7 x8 x9 x10 x11 x12 x13 x14
        have HKW : Hid (ShP w l k cs (.slice (some ⟨gu, 0, none⟩) N N) (.slice (some ⟨gc, 0, none⟩) (n + 1) cc) W0) := HK.out.below HWb2.out.1
        have HTop2 : Hid (∀ W, Below W0.heap.size W0 W → RcAt W gc (n * 4) (topP cs) ∧ Bk W bx (#[.int .u8 x.k, .int .i64 x.r.x, .int .i64 x.r.y, .int .i64 x.r.w, .int .i64 x.r.h, .int .u8 x.c.r, .int .u8 x.c.g, .int .u8 x.c.b, .int .u8 x.c.a, .int .u8 x.b.r, .int .u8 x.b.g, .int .u8 x.b.b, .int .u8 x.b.a, .string x.t, .int .i64 x.n]) 59) := fun W h => ⟨HTop.out W (HWb2.out.1.trans (h.mono HWb2.out.1.size)), HWb2.out.2.below h⟩
        have HME2 : Hid (∀ W, Calls Tryz.prog 38 #[.agg #[.int .i64 x.r.x, .int .i64 x.r.y, .int .i64 x.r.w, .int .i64 x.r.h], .agg #[.int .i64 (topP cs).x, .int .i64 (topP cs).y, .int .i64 (topP cs).w, .int .i64 (topP cs).h]] W fun e w' => e = .returned (.agg #[.int .i64 (shR cs x).x, .int .i64 (shR cs x).y, .int .i64 (shR cs x).w, .int .i64 (shR cs x).h]) ∧ Below W.heap.size W w') := fun W => by
          rw [HNx.out.2.2.2.2.2.2]
          exact HME.out x.r (topP cs) W HMi.out.1 HMi.out.2 HTi.out.1 HTi.out.2
        have hbxg : Hid (bx ≠ gu ∧ gu < W0.heap.size ∧ w.heap.size ≤ gu ∧ bx ≠ gc ∧ w.heap.size ≤ bx) := by
          have e1 := HBX.out
          have e2 := HWb2.out.1.size
          have e3 := HK.out.b.size
          exact ⟨by omega, by omega, hgu1, by omega, by omega⟩
        clear HTop HME HMi HTi HK
        generalize shR cs x = q at *
        generalize topP cs = tp at *
        refine wp_region_lit 12 0 1 (fun _ => .cells #[] 0) [] (by kernel_rfl) (by kernel_rfl) rfl (fun k hk => absurd hk (by omega)) rfl (fun i h1 h2 => absurd h2 (by omega)) ?_
        apply Exists.intro
        refine ⟨fun bs ne => ?_, ?_⟩
        · have e0 := fun tt : Gb W0 bs => (HTop2.out _ tt.below).1.1
          have e1 := fun tt : Gb W0 bs => (HTop2.out _ tt.below).1.2.1
          have e2 := fun tt : Gb W0 bs => (HTop2.out _ tt.below).1.2.2.1
          have e3 := fun tt : Gb W0 bs => (HTop2.out _ tt.below).1.2.2.2
          have d1 := fun tt : Gb W0 bs => (HTop2.out _ tt.below).2.cell 1
          have d2 := fun tt : Gb W0 bs => (HTop2.out _ tt.below).2.cell 2
          have d3 := fun tt : Gb W0 bs => (HTop2.out _ tt.below).2.cell 3
          have d4 := fun tt : Gb W0 bs => (HTop2.out _ tt.below).2.cell 4
          simp only [List.getElem?_toArray, List.getElem?_cons_zero, List.getElem?_cons_succ] at d1 d2 d3 d4
          simp only [List.take_succ_cons, List.take_zero]
          repeat (go_big_quiet_step (first
            | (go_at_call 38; exact gb_call (HME2.out _))))
          exact wpQuiet_nil rfl
        · intro bl wx hbl _ _
          have S1 := HKW.out.below hbl
          have hrl : (rowS l k).length = N := by rw [rowS_len l k (by rw [← HN.out]; omega), HN.out]
          have hrow : wx.ownsRow w.heap.size 56 4 (.slice (some ⟨gu, 0, none⟩) N N) N (flat (rowS l k)) := by
            have h := S1.o
            unfold OwR at h
            rw [hrl] at h
            exact h
          have cc4 : ∀ j, j < 4 → ∃ z, wx.cell? ⟨gu, k * 4 + j, none⟩ = some z := fun j hj => ⟨(flat (rowS l k))[k * 4 + j]'(by rw [flat_len, hrl]; omega), (own_cell hrow (k * 4 + j) (by omega)).trans (List.getElem?_eq_getElem _)⟩
          obtain ⟨z0, y0⟩ := cc4 0 (by decide)
          obtain ⟨z1, y1⟩ := cc4 1 (by decide)
          obtain ⟨z2, y2⟩ := cc4 2 (by decide)
          obtain ⟨z3, y3⟩ := cc4 3 (by decide)
          rw [Nat.add_zero] at y0
          have f0 := own_frozen hrow (k * 4)
          have f1 := own_frozen hrow (k * 4 + 1)
          have f2 := own_frozen hrow (k * 4 + 2)
          have f3 := own_frozen hrow (k * 4 + 3)
          have H5 : Hid (ShP w l k cs (.slice (some ⟨gu, 0, none⟩) N N) (.slice (some ⟨gc, 0, none⟩) (n + 1) cc) wx → True) := fun _ => trivial
          have HW5 : Hid (OwR w.heap.size ((((wx.setCell ⟨gu, k * 4, none⟩ (.int .i64 q.x)).setCell ⟨gu, k * 4 + 1, none⟩ (.int .i64 q.y)).setCell ⟨gu, k * 4 + 2, none⟩ (.int .i64 q.w)).setCell ⟨gu, k * 4 + 3, none⟩ (.int .i64 q.h)) (.slice (some ⟨gu, 0, none⟩) N N) (rowS l (k + 1)) ∧ OwR w.heap.size ((((wx.setCell ⟨gu, k * 4, none⟩ (.int .i64 q.x)).setCell ⟨gu, k * 4 + 1, none⟩ (.int .i64 q.y)).setCell ⟨gu, k * 4 + 2, none⟩ (.int .i64 q.w)).setCell ⟨gu, k * 4 + 3, none⟩ (.int .i64 q.h)) (.slice (some ⟨gc, 0, none⟩) (n + 1) cc) (evR :: cs.reverse) ∧ Below w.heap.size w ((((wx.setCell ⟨gu, k * 4, none⟩ (.int .i64 q.x)).setCell ⟨gu, k * 4 + 1, none⟩ (.int .i64 q.y)).setCell ⟨gu, k * 4 + 2, none⟩ (.int .i64 q.w)).setCell ⟨gu, k * 4 + 3, none⟩ (.int .i64 q.h)) ∧ Bk ((((wx.setCell ⟨gu, k * 4, none⟩ (.int .i64 q.x)).setCell ⟨gu, k * 4 + 1, none⟩ (.int .i64 q.y)).setCell ⟨gu, k * 4 + 2, none⟩ (.int .i64 q.w)).setCell ⟨gu, k * 4 + 3, none⟩ (.int .i64 q.h)) bx (#[.int .u8 x.k, .int .i64 x.r.x, .int .i64 x.r.y, .int .i64 x.r.w, .int .i64 x.r.h, .int .u8 x.c.r, .int .u8 x.c.g, .int .u8 x.c.b, .int .u8 x.c.a, .int .u8 x.b.r, .int .u8 x.b.g, .int .u8 x.b.b, .int .u8 x.b.a, .string x.t, .int .i64 x.n]) 59) := by
            refine ⟨?_, ?_, ?_, ?_⟩
            · have h := own_set (own_set (own_set (own_set hrow (k * 4) (.int .i64 q.x)) (k * 4 + 1) (.int .i64 q.y)) (k * 4 + 2) (.int .i64 q.w)) (k * 4 + 3) (.int .i64 q.h)
              rw [flat_put (rowS l k) k (by rw [hrl]; exact hlt) q, HNx.out.1] at h
              unfold OwR
              rw [rowS_len l (k + 1) (by rw [← HN.out]; omega), ← HN.out]
              exact h
            · refine World.ownsRow.kept S1.c (ob_set4 wx gu (k * 4) (.int .i64 q.x) (.int .i64 q.y) (.int .i64 q.w) (.int .i64 q.h)) (.inr fun h => ?_)
              exact S1.a gu rfl h
            · exact (((S1.b.setCell (p := ⟨gu, k * 4, none⟩) hbxg.out.2.2.1 _).setCell (p := ⟨gu, k * 4 + 1, none⟩) hbxg.out.2.2.1 _).setCell (p := ⟨gu, k * 4 + 2, none⟩) hbxg.out.2.2.1 _).setCell (p := ⟨gu, k * 4 + 3, none⟩) hbxg.out.2.2.1 _
            · have hne : gu ≠ bx := fun h => hbxg.out.1 h.symm
              exact ((((HTop2.out _ hbl).2.other _ _ hne).other _ _ hne).other _ _ hne).other _ _ hne
          have HA5 : Hid (Apt (.slice (some ⟨gu, 0, none⟩) N N) (.slice (some ⟨gc, 0, none⟩) (n + 1) cc) ∧ ∀ c ∈ cs, zMa c = true) := ⟨S1.a, S1.m⟩
          simp only [layL]
          clear S1 hbl hrl hrow cc4 H5 HKW HTop2 HME2 HWb2
          refine wpAny_one 12 (by kernel_rfl) rfl ?_
          intro K hK
          go_simp
          refine hK _ _ ?_
          clear hK K
          refine wpAny_done (by kernel_rfl) ?_ _
          generalize ((((wx.setCell ⟨gu, k * 4, none⟩ (.int .i64 q.x)).setCell ⟨gu, k * 4 + 1, none⟩ (.int .i64 q.y)).setCell ⟨gu, k * 4 + 2, none⟩ (.int .i64 q.w)).setCell ⟨gu, k * 4 + 3, none⟩ (.int .i64 q.h)) = w5 at *
          clear y0 y1 y2 y3 f0 f1 f2 f3
          have c0 := HW5.out.2.2.2.cell 0
          simp only [List.getElem?_toArray, List.getElem?_cons_zero] at c0
          by_cases h4 : x.k = 4
          · have hrl : (rowS l (k + 1)).length = N := by rw [rowS_len l (k + 1) (by rw [← HN.out]; omega), HN.out]
            have HQ : Hid (RcAt w5 gu (k * 4) q) := by
              have h := HW5.out.1
              unfold OwR at h
              rw [hrl] at h
              have hk' : k < (rowS l (k + 1)).length := by rw [hrl]; exact hlt
              obtain ⟨f0, f1, f2, f3⟩ := flat_at (rowS l (k + 1)) k hk'
              have e : (rowS l (k + 1))[k] = q := by
                have e1 : (rowS l (k + 1))[k]? = some q := by
                  rw [← HNx.out.1, List.getElem?_set_self (by rw [rowS_len l k (by rw [← HN.out]; omega), ← HN.out]; exact hlt)]
                rw [List.getElem?_eq_getElem hk'] at e1
                exact Option.some.inj e1
              rw [e] at f0 f1 f2 f3
              exact ⟨(own_cell h _ (by omega)).trans f0, (own_cell h _ (by omega)).trans f1, (own_cell h _ (by omega)).trans f2, (own_cell h _ (by omega)).trans f3⟩
            obtain ⟨r0, r1, r2, r3⟩ := HQ.out
            have HA2 : Hid (∀ o, (w5.alloc o).ownsRow w.heap.size 56 4 (.slice (some ⟨gc, 0, none⟩) (n + 1) cc) (n + 1) (flat (evR :: cs.reverse)) ∧ w.heap.size ≤ (w5.alloc o).heap.size) := fun o => by
              have h := HW5.out.2.1
              unfold OwR at h
              rw [show (evR :: cs.reverse).length = n + 1 by simp [HNn.out]] at h
              exact ⟨row_below h ((Below.refl _ _).alloc (Nat.le_refl _) _), by have := HW5.out.2.2.1.size; simp; omega⟩
            have hc5 : Hid (n + 1 + 1 ≤ maxLen) := by unfold Hid maxLen; omega
            have hc6 : Hid ((n + 1 + 1) * 32 ≤ 140737488355328) := by unfold Hid; omega
            obtain ⟨hi, hz0, hz1, hz2⟩ := HI.out
            clear hrl
            go_wp2_with (at_builtin; refine wpList_append_lies _ rfl _ _ 45 rfl w.heap.size 56 i0 (.agg #[.int .i64 0, .int .i64 0, .int .i64 0, .int .i64 0]) 4 32 Tryz.underlying45 hi hz0 hz1 hz2 rfl (by decide) (.slice (some ⟨gc, 0, none⟩) (n + 1) cc) (n + 1) (flat (evR :: cs.reverse)) rfl (HA2.out _).1 _ 1 1 [.int .i64 q.x, .int .i64 q.y, .int .i64 q.w, .int .i64 q.h] rfl rfl (cell_fourB _ _ _ _ _ _ _ rfl) (one4 q) (by decide) hc5.out hc6.out (HA2.out _).2 _ rfl ?_)
            intro g6 cap6 w6 hown' hgrow hlies hg6
            have HRel : Hid (ShP w l (k + 1) (q :: cs) (.slice (some ⟨gu, 0, none⟩) N N) (.slice (some ⟨g6, 0, none⟩) (n + 1 + 1) cap6) w6) := by
              obtain ⟨n1, n2, n3, n4, n5, n6, n7⟩ := HNx.out
              obtain ⟨a1, a2, a3, a4⟩ := HW5.out
              obtain ⟨e1, e2, e3⟩ := own_grow (by simp [HNn.out]) a1 HA5.out.1.turn hown' hgrow hlies
              have e := HNX.out.1 h4
              rw [e] at n3 n4
              have b1 : Below w5.heap.size w5 (w5.alloc (.cells #[.int .i64 q.x, .int .i64 q.y, .int .i64 q.w, .int .i64 q.h] 56)) := (Below.refl _ _).alloc (Nat.le_refl _) _
              have a5 := app_below (a3.trans (b1.mono a3.size)) (HA2.out _).1 (Nat.le_refl _) hgrow
              refine ⟨e2, ?_, e3.turn, a5, n3, n4, fun c hc => ?_⟩
              · rw [show evR :: (q :: cs).reverse = (evR :: cs.reverse) ++ [q] by simp]
                exact e1
              · rcases List.mem_cons.1 hc with rfl | hc
                · exact n6
                · exact HA5.out.2 c hc
            clear hown' hgrow hlies hg6 HA2 HW5 HQ r0 r1 r2 r3 hi hz0 hz1 hz2 c0 HNx HNX
            go_wp2
            go_roundw
            case rel => exact ⟨k + 1, q :: cs, by go_num, by omega, HRel⟩
            case measure => simp [intOf]; omega
          · have h4' : (x.k == 4) = false := beq_eq_false_iff_ne.2 h4
            have HRel : Hid (ShP w l (k + 1) cs (.slice (some ⟨gu, 0, none⟩) N N) (.slice (some ⟨gc, 0, none⟩) (n + 1) cc) w5) := by
              obtain ⟨n1, n2, n3, n4, n5, n6, n7⟩ := HNx.out
              obtain ⟨a1, a2, a3, a4⟩ := HW5.out
              have e := HNX.out.2.2 (by rcases h45 with h | h | h | h | h <;> omega)
              rw [e] at n3 n4
              exact ⟨a1, a2, HA5.out.1, a3, n3, n4, HA5.out.2⟩
            clear HW5 HNx HNX
            go_wp2
            go_roundw
            case rel => exact ⟨k + 1, cs, by go_num, by omega, HRel⟩
            case measure => simp [intOf]; omega
    · obtain rfl : k = N := by omega
      have ik : ¬ (k : Int) < k := by omega
      have HF : Hid (OwR w.heap.size wr (.slice (some ⟨gu, 0, none⟩) k k) ((ann [] l).map Prod.snd) ∧ Below w.heap.size w wr) := by
        have h := HK.out.o
        have e : rowS l k = (ann [] l).map Prod.snd := by
          unfold rowS
          rw [List.take_of_length_le (by rw [List.length_map, ann_len, HN.out]; exact Nat.le_refl _), HN.out, Nat.sub_self]
          simp
        rw [e] at h
        exact ⟨h, HK.out.b⟩
      clear HK
      go_wp2
      go_ret
      exact ⟨_, rfl, HF.out⟩

end Go.Proofs.YtcahdmfmcojaoaaGreatDoor

/-
  Contracts of the document's answer for layer 13: the places of a Frame.
-/
namespace Go.Proofs.YtcahdmfmcojaoaaGreatDoor
open Go.RowKit

end Go.Proofs.YtcahdmfmcojaoaaGreatDoor

/-
  Contracts of the document's answer for layer 13: do places lie in a rectangle, has it one of them?
-/
namespace Go.Proofs.YtcahdmfmcojaoaaGreatDoor
open Go.RowKit

end Go.Proofs.YtcahdmfmcojaoaaGreatDoor

/-
  Contracts of the document's answer for layer 13: a list without idle pairs.
-/
namespace Go.Proofs.YtcahdmfmcojaoaaGreatDoor
open Go.RowKit

end Go.Proofs.YtcahdmfmcojaoaaGreatDoor

/-
  Contracts of the document's answer for layer 13: Norm.
-/
namespace Go.Proofs.YtcahdmfmcojaoaaGreatDoor
open Go.RowKit

theorem clp_ones : ∀ (l : List St) (n : Nat), clpE n l = 0 → ∀ s ∈ l, oneE s = 0
  | [], _, _, s, hs => by cases hs
  | x :: l, n, h, s, hs => by
    obtain ⟨h1, _, h3⟩ := clpE_cons h
    rcases List.mem_cons.1 hs with rfl | hs
    · exact h1
    · exact clp_ones l _ h3 s hs
end Go.Proofs.YtcahdmfmcojaoaaGreatDoor
