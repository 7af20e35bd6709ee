/-
  The program's rounds.
-/
import Derived.Test.YthnhcphkpffkfaaGreatLD
import Derived.Test.YthnhcphkpffkfaaGreatRgI
import Derived.Deep.Cut
namespace Go.Proofs.YthnhcphkpffkfaaGreat
open Go.RowKit

theorem make_intsL (n : Nat) (hn : n < 1000000) (W : World) : (Instr.makeSlice 22 (.int .i64 (n : Nat)) (.int .i64 (n : Nat))).run Tryz.prog W = .ok (.slice (some ⟨W.heap.size, 0, none⟩) n n) (W.alloc (.cells (flatI (List.replicate n 0)).toArray 3)) := by
  obtain ⟨arr, rfl, h⟩ := make_ints n hn W
  exact h
/-- What holds while the outcome's box is being made. -/
def J1 (w : World) (n : Nat) (b : Nat → Bool) (u5 u10 u11 u12 u13 u14 u15 : Value) (x : World) : Prop :=
  (b 0 = true → u10 = .int .i64 n) ∧
  (b 1 = true → ∃ ga, u11 = .slice (some ⟨ga, 0, none⟩) n n ∧ Nb x ga (List.replicate n 0) ∧ w.heap.size ≤ ga) ∧
  (b 2 = true → ∃ gx, u12 = .slice (some ⟨gx, 0, none⟩) 1 1 ∧ Bk x gx #[.int .i64 (-1)] 3) ∧
  (b 3 = true → u13 = .int .i64 n) ∧
  (b 4 = true → ∃ gb, u14 = .slice (some ⟨gb, 0, none⟩) n n ∧ Nb x gb (List.replicate n (-1)) ∧ w.heap.size ≤ gb) ∧
  (b 5 = true → b 1 = true ∧ b 4 = true ∧ u15 = .agg #[u11, u14, .int .i64 (-1)]) ∧
  (b 6 = true → ∃ rb, u5 = .pointer (some ⟨rb, 0, none⟩) ∧ w.heap.size ≤ rb ∧ (b 7 = false → Bk x rb #[.slice none 0 0, .slice none 0 0, .int .i64 0] 118) ∧ (b 7 = true → Bk x rb #[u11, u14, .int .i64 (-1)] 118)) ∧
  (b 7 = true → b 5 = true ∧ b 6 = true) ∧
  (b 1 = true → b 4 = true → u11.ownBlock ≠ u14.ownBlock) ∧ Below w.heap.size w x
theorem J1.grow {w : World} {n : Nat} {b : Nat → Bool} {u5 u10 u11 u12 u13 u14 u15 : Value} {x x' : World} (h : J1 w n b u5 u10 u11 u12 u13 u14 u15 x) (hb : Below x.heap.size x x') : J1 w n b u5 u10 u11 u12 u13 u14 u15 x' := by
  obtain ⟨j0, j1, j2, j3, j4, j5, j6, j7, j8, j9⟩ := h
  refine ⟨j0, fun h => ?_, fun h => ?_, j3, fun h => ?_, j5, fun h => ?_, j7, j8, j9.trans (hb.mono j9.size)⟩
  · obtain ⟨g, e, k, l⟩ := j1 h; exact ⟨g, e, k.below hb, l⟩
  · obtain ⟨g, e, k⟩ := j2 h; exact ⟨g, e, k.below hb⟩
  · obtain ⟨g, e, k, l⟩ := j4 h; exact ⟨g, e, k.below hb, l⟩
  · obtain ⟨g, e, l, k1, k2⟩ := j6 h; exact ⟨g, e, l, fun c => (k1 c).below hb, fun c => (k2 c).below hb⟩
theorem J1.start (w : World) (n : Nat) (x : World) (h : Below w.heap.size w x) : J1 w n (fun _ => false) undef undef undef undef undef undef undef x := by
  refine ⟨?_, ?_, ?_, ?_, ?_, ?_, ?_, ?_, ?_, h⟩ <;> intro e <;> cases e
/-- The outcome in memory. -/
def RB (w : World) (n ga gb rb : Nat) (wr : World) (s : Rs) (pl : Option Nat) : Prop := RW w n ga gb wr s ∧ Bk wr rb #[.slice (some ⟨ga, 0, none⟩) n n, .slice (some ⟨gb, 0, none⟩) n n, .int .i64 (lasI pl)] 118
theorem RB.below {w : World} {n ga gb rb : Nat} {wr wr' : World} {s : Rs} {pl : Option Nat} (h : RB w n ga gb rb wr s pl) (hb : Below wr.heap.size wr wr') : RB w n ga gb rb wr' s pl := ⟨h.1.below hb, h.2.below hb⟩
theorem RB.put {w : World} {n ga gb rb : Nat} {wr : World} {s : Rs} {pl : Option Nat} (h : RB w n ga gb rb wr s pl) (hp : ga ≠ gb ∧ w.heap.size ≤ ga ∧ w.heap.size ≤ gb ∧ w.heap.size ≤ rb) (B i : Nat) (z : Int) :
    RB w n ga gb rb (((wr.setCell ⟨ga, B, none⟩ (.int .i64 z)).setCell ⟨gb, B, none⟩ (.int .i64 i)).setCell ⟨rb, 2, none⟩ (.int .i64 B)) ⟨setN s.x B z, setN s.m B (some i), some B⟩ (some B) := by
  have hra : rb ≠ ga := by rintro rfl; exact absurd (Bk.typ h.2 h.1.1) (by decide)
  have hrb : rb ≠ gb := by rintro rfl; exact absurd (Bk.typ h.2 h.1.2.1) (by decide)
  obtain ⟨p1, p2, p3⟩ := h.1.put hp.1 hp.2.1 hp.2.2.1 B i z
  refine ⟨⟨p1.other _ _ hra, p2.other _ _ hrb, p3.setCell (p := ⟨rb, 2, none⟩) hp.2.2.2 _⟩, ?_⟩
  exact ((h.2.other ⟨ga, B, none⟩ _ (fun e => hra e.symm)).other ⟨gb, B, none⟩ _ (fun e => hrb e.symm)).put 2 _
theorem RB.stop {w : World} {n ga gb rb : Nat} {wr : World} {s : Rs} {pl : Option Nat} (h : RB w n ga gb rb wr s pl) (hp : ga ≠ gb ∧ w.heap.size ≤ ga ∧ w.heap.size ≤ gb ∧ w.heap.size ≤ rb) : RB w n ga gb rb (wr.setCell ⟨rb, 2, none⟩ (.int .i64 (-1))) s none := by
  have hra : rb ≠ ga := by rintro rfl; exact absurd (Bk.typ h.2 h.1.1) (by decide)
  have hrb : rb ≠ gb := by rintro rfl; exact absurd (Bk.typ h.2 h.1.2.1) (by decide)
  exact ⟨⟨h.1.1.other _ _ hra, h.1.2.1.other _ _ hrb, h.1.2.2.setCell (p := ⟨rb, 2, none⟩) hp.2.2.2 _⟩, h.2.put 2 _⟩

set_option maxRecDepth 10000 in
set_option maxHeartbeats 4000000 in
theorem run_any (n : Nat) (L : List Bq) (v : Value) (w : World) (hv : BS w v L) (hn : n ≤ 4096) (hL : L.length ≤ 4096) (hk : ∀ q ∈ L, okQ n q = true) :
    Calls Tryz.prog 97 #[.int .i64 n, v] w fun e w' => ∃ ga gb, e = .returned (.agg #[.slice (some ⟨ga, 0, none⟩) n n, .slice (some ⟨gb, 0, none⟩) n n, .int .i64 (lasI (rds (nat L) n rs0).l)]) ∧ Hid (RW w n ga gb w' (rds (nat L) n rs0) ∧ ga ≠ gb ∧ w.heap.size ≤ ga ∧ w.heap.size ≤ gb) := by
  obtain ⟨oa, cap, rfl, hc, hg⟩ := hv
  have HG : Hid (0 < L.length → ∃ g o, oa = some ⟨g, o, none⟩ ∧ g < w.heap.size ∧ ∀ i (h : i < L.length), BqAt w g (o + i * 3) L[i]) := hg
  have HK : Hid (∀ i (h : i < L.length), ∃ (A B : Nat) (f : Int), A < n ∧ B < n ∧ -1048576 ≤ f ∧ f ≤ 1048576 ∧ L[i] = ⟨(A : Int), (B : Int), f⟩ ∧ (nat L)[i]? = some ⟨A, B, f⟩) := fun i h => bound_at hk h
  have HFa : Hid (Far (nat L)) := nat_far hk
  have HNl : Hid ((nat L).length = L.length) := nat_len L
  clear hk hg
  obtain ⟨S, HS⟩ : ∃ S, Hid (S = rds (nat L) n rs0) := ⟨rds (nat L) n rs0, by unfold Hid; rfl⟩
  rw [← HS.out]
  have HRp : Hid (∀ W b, Bk W b #[.int .i64 (-1)] 3 → Calls Tryz.prog 101 #[.slice (some ⟨b, 0, none⟩) 1 1, .int .i64 n] W fun e w' => ∃ g, e = .returned (.slice (some ⟨g, 0, none⟩) n n) ∧ Hid (Nb w' g (List.replicate n (-1)) ∧ Below W.heap.size W w' ∧ W.heap.size ≤ g)) := fun W b h => repeat_any n hn b W h
  have H1 : Hid (Below w.heap.size w (w.alloc (.cells #[.slice none 0 0, .slice none 0 0, .int .i64 0] 118)) ∧ Bk (w.alloc (.cells #[.slice none 0 0, .slice none 0 0, .int .i64 0] 118)) w.heap.size #[.slice none 0 0, .slice none 0 0, .int .i64 0] 118 ∧ (w.alloc (.cells #[.slice none 0 0, .slice none 0 0, .int .i64 0] 118)).heap.size = w.heap.size + 1) := ⟨(Below.refl _ _).alloc (Nat.le_refl _) _, Bk.new _ _ _, World.size_alloc _ _⟩
  go_enter Tryz.func97, Tryz.ntmps97
  go_upto_region 1 with fail
  go_step3
  go_upto_region 1 with fail
  generalize w.alloc (.cells #[.slice none 0 0, .slice none 0 0, .int .i64 0] 118) = w1 at *
  refine wp_region_inv (I := fun b a x => ∃ u5 u10 u11 u12 u13 u14 u15, a = ⟨#[.int .i64 n, .slice oa L.length cap, undef, undef, .pointer (some ⟨w.heap.size, 0, none⟩), u5, undef, undef, undef, undef, u10, u11, u12, u13, u14, u15, undef, undef, undef, undef, undef, undef, undef, undef, undef, undef, undef, undef, undef, undef, undef, undef, undef, undef, undef, undef, undef, undef, undef, undef, undef, undef, undef, undef, undef, undef, undef, undef, undef, undef, undef, undef, undef, undef, undef, undef, undef, undef, undef, undef, undef, undef, undef, undef, undef, undef, undef, undef], []⟩ ∧ Hid (J1 w1 n b u5 u10 u11 u12 u13 u14 u15 x)) (by kernel_rfl) (by kernel_rfl) ?_ ?_ ?_
  · exact ⟨undef, undef, undef, undef, undef, undef, undef, rfl, J1.start w1 n _ (Below.refl _ _).drew⟩
  · intro b a x i o hI hbi ho hpre K' hK
    obtain ⟨u5, u10, u11, u12, u13, u14, u15, rfl, HJ⟩ := hI
    have hi : i < 8 := by have := (Array.getElem?_eq_some_iff.1 ho).1; simpa using this
    rcases (show i = 0 ∨ i = 1 ∨ i = 2 ∨ i = 3 ∨ i = 4 ∨ i = 5 ∨ i = 6 ∨ i = 7 by omega) with rfl | rfl | rfl | rfl | rfl | rfl | rfl | rfl
    · injection (show some _ = some o from ho) with ho
      subst ho
      obtain ⟨j0, j1, j2, j3, j4, j5, j6, j7, j8, j9⟩ := HJ.out
      have HN : Hid (J1 w1 n (fun j => if j = 0 then true else b j) u5 (.int .i64 n) u11 u12 u13 u14 u15 x) := ⟨fun _ => rfl, j1, j2, j3, j4, j5, j6, j7, j8, j9⟩
      clear j0 j1 j2 j3 j4 j5 j6 j7 j8 j9 hpre
      go_simp
      exact hK _ _ ⟨u5, _, u11, u12, u13, u14, u15, rfl, HN⟩
    · injection (show some _ = some o from ho) with ho
      subst ho
      have p0 : b 0 = true := hpre 0 (by decide +kernel)
      obtain rfl : u10 = _ := HJ.out.1 p0
      have hmk := make_intsL n (by omega) x
      have HN : Hid (J1 w1 n (fun j => if j = 1 then true else b j) u5 (.int .i64 n) (.slice (some ⟨x.heap.size, 0, none⟩) n n) u12 u13 u14 u15 (x.alloc (.cells (flatI (List.replicate n 0)).toArray 3))) := by
        obtain ⟨j0, j1, j2, j3, j4, j5, j6, j7, j8, j9⟩ := HJ.out.grow ((Below.refl _ x).alloc (Nat.le_refl _) (.cells (flatI (List.replicate n 0)).toArray 3))
        obtain ⟨_, _, _, _, i4, _, _, _, _, i9⟩ := HJ.out
        refine ⟨j0, fun _ => ⟨x.heap.size, rfl, Bk.new _ _ _, i9.size⟩, j2, j3, j4, fun h => ?_, fun h => ?_, j7, fun _ h => ?_, j9⟩
        · have := (j5 h).1; rw [hbi] at this; cases this
        · obtain ⟨g, e, l, k1, k2⟩ := j6 h
          exact ⟨g, e, l, k1, fun c => by have := (j5 (j7 c).1).1; rw [hbi] at this; cases this⟩
        · obtain ⟨g, e, k, _⟩ := i4 h
          rw [e]
          intro c
          have := k.lt
          simp [Value.ownBlock] at c
          omega
      clear HJ hpre
      go_simp
      exact hK _ _ ⟨u5, _, _, u12, u13, u14, u15, rfl, HN⟩
    · injection (show some _ = some o from ho) with ho
      subst ho
      have HN : Hid (J1 w1 n (fun j => if j = 2 then true else b j) u5 u10 u11 (.slice (some ⟨x.heap.size, 0, none⟩) 1 1) u13 u14 u15 (x.alloc (.cells #[.int .i64 (-1)] 3))) := by
        obtain ⟨j0, j1, j2, j3, j4, j5, j6, j7, j8, j9⟩ := HJ.out.grow ((Below.refl _ x).alloc (Nat.le_refl _) (.cells #[.int .i64 (-1)] 3))
        exact ⟨j0, j1, fun _ => ⟨x.heap.size, rfl, Bk.new _ _ _⟩, j3, j4, j5, j6, j7, j8, j9⟩
      clear HJ hpre
      go_simp
      exact hK _ _ ⟨u5, u10, u11, _, u13, u14, u15, rfl, HN⟩
    · injection (show some _ = some o from ho) with ho
      subst ho
      obtain ⟨j0, j1, j2, j3, j4, j5, j6, j7, j8, j9⟩ := HJ.out
      have HN : Hid (J1 w1 n (fun j => if j = 3 then true else b j) u5 u10 u11 u12 (.int .i64 n) u14 u15 x) := ⟨j0, j1, j2, fun _ => rfl, j4, j5, j6, j7, j8, j9⟩
      clear j0 j1 j2 j3 j4 j5 j6 j7 j8 j9 hpre
      go_simp
      exact hK _ _ ⟨u5, u10, u11, u12, _, u14, u15, rfl, HN⟩
    · injection (show some _ = some o from ho) with ho
      subst ho
      have p2 : b 2 = true := hpre 2 (by decide +kernel)
      have p3 : b 3 = true := hpre 3 (by decide +kernel)
      obtain rfl : u13 = _ := HJ.out.2.2.2.1 p3
      obtain ⟨gx, rfl, hgx⟩ := HJ.out.2.2.1 p2
      have HC := HRp.out x gx hgx
      have HN : Hid (∀ x' gb, Nb x' gb (List.replicate n (-1)) → Below x.heap.size x x' → x.heap.size ≤ gb → J1 w1 n (fun j => if j = 4 then true else b j) u5 u10 u11 (.slice (some ⟨gx, 0, none⟩) 1 1) (.int .i64 n) (.slice (some ⟨gb, 0, none⟩) n n) u15 x') := by
        intro x' gb h1 h2 h3
        obtain ⟨j0, j1, j2, j3, j4, j5, j6, j7, j8, j9⟩ := HJ.out.grow h2
        obtain ⟨_, i1, _, _, _, _, _, _, _, i9⟩ := HJ.out
        refine ⟨j0, j1, j2, j3, fun _ => ⟨gb, rfl, h1, Nat.le_trans i9.size h3⟩, fun h => ?_, fun h => ?_, j7, fun h _ => ?_, j9⟩
        · have := (j5 h).2.1; rw [hbi] at this; cases this
        · obtain ⟨g, e, l, k1, k2⟩ := j6 h
          exact ⟨g, e, l, k1, fun c => by have := (j5 (j7 c).1).2.1; rw [hbi] at this; cases this⟩
        · obtain ⟨g, e, k, _⟩ := i1 h
          rw [e]
          intro c
          have := k.lt
          simp [Value.ownBlock] at c
          omega
      clear HJ hpre hgx
      go_simp
      refine HC.mono ?_
      rintro e x' ⟨gb, rfl, H5⟩
      exact hK _ _ ⟨u5, u10, u11, _, _, _, u15, rfl, HN.out x' gb H5.out.1 H5.out.2.1 H5.out.2.2⟩
    · injection (show some _ = some o from ho) with ho
      subst ho
      have p1 : b 1 = true := hpre 1 (by decide +kernel)
      have p4 : b 4 = true := hpre 4 (by decide +kernel)
      obtain ⟨j0, j1, j2, j3, j4, j5, j6, j7, j8, j9⟩ := HJ.out
      have HN : Hid (J1 w1 n (fun j => if j = 5 then true else b j) u5 u10 u11 u12 u13 u14 (.agg #[u11, u14, .int .i64 (-1)]) x) := ⟨j0, j1, j2, j3, j4, fun _ => ⟨p1, p4, rfl⟩, j6, fun h => ⟨rfl, (j7 h).2⟩, j8, j9⟩
      obtain ⟨ga, rfl, _⟩ := j1 p1
      obtain ⟨gb, rfl, _⟩ := j4 p4
      clear j0 j1 j2 j3 j4 j5 j6 j7 j8 j9 hpre
      go_simp
      exact hK _ _ ⟨u5, u10, _, u12, u13, _, _, rfl, HN⟩
    · injection (show some _ = some o from ho) with ho
      subst ho
      have HN : Hid (J1 w1 n (fun j => if j = 6 then true else b j) (.pointer (some ⟨x.heap.size, 0, none⟩)) u10 u11 u12 u13 u14 u15 (x.alloc (.cells #[.slice none 0 0, .slice none 0 0, .int .i64 0] 118))) := by
        obtain ⟨j0, j1, j2, j3, j4, j5, j6, j7, j8, j9⟩ := HJ.out.grow ((Below.refl _ x).alloc (Nat.le_refl _) (.cells #[.slice none 0 0, .slice none 0 0, .int .i64 0] 118))
        refine ⟨j0, j1, j2, j3, j4, j5, fun _ => ⟨x.heap.size, rfl, HJ.out.2.2.2.2.2.2.2.2.2.size, fun _ => Bk.new _ _ _, fun c => ?_⟩, fun h => ⟨(j7 h).1, rfl⟩, j8, j9⟩
        have := (j7 c).2; rw [hbi] at this; cases this
      clear HJ hpre
      go_simp
      exact hK _ _ ⟨_, u10, u11, u12, u13, u14, u15, rfl, HN⟩
    · injection (show some _ = some o from ho) with ho
      subst ho
      have p5 : b 5 = true := hpre 5 (by decide +kernel)
      have p6 : b 6 = true := hpre 6 (by decide +kernel)
      obtain ⟨j0, j1, j2, j3, j4, j5, j6, j7, j8, j9⟩ := HJ.out
      obtain ⟨p1, p4, rfl⟩ := j5 p5
      obtain ⟨ga, rfl, na, la⟩ := j1 p1
      obtain ⟨gb, rfl, nb, lb⟩ := j4 p4
      obtain ⟨rb, rfl, lr, hz, _⟩ := j6 p6
      have hz := hz hbi
      have hra : rb ≠ ga := by rintro rfl; exact absurd (Bk.typ hz na) (by decide)
      have hrb : rb ≠ gb := by rintro rfl; exact absurd (Bk.typ hz nb) (by decide)
      obtain ⟨z0, z1, z2⟩ := hz.at3
      have f0 := hz.frozen 0
      have f1 := hz.frozen 1
      have f2 := hz.frozen 2
      have HN : Hid (J1 w1 n (fun j => if j = 7 then true else b j) (.pointer (some ⟨rb, 0, none⟩)) u10 (.slice (some ⟨ga, 0, none⟩) n n) u12 u13 (.slice (some ⟨gb, 0, none⟩) n n) (.agg #[.slice (some ⟨ga, 0, none⟩) n n, .slice (some ⟨gb, 0, none⟩) n n, .int .i64 (-1)]) (((x.setCell ⟨rb, 0, none⟩ (.slice (some ⟨ga, 0, none⟩) n n)).setCell ⟨rb, 1, none⟩ (.slice (some ⟨gb, 0, none⟩) n n)).setCell ⟨rb, 2, none⟩ (.int .i64 (-1)))) := by
        refine ⟨j0, fun _ => ⟨ga, rfl, ((na.other _ _ hra).other _ _ hra).other _ _ hra, la⟩, fun h => ?_, j3, fun _ => ⟨gb, rfl, ((nb.other _ _ hrb).other _ _ hrb).other _ _ hrb, lb⟩, fun _ => ⟨p1, p4, rfl⟩, fun _ => ⟨rb, rfl, lr, fun c => ?_, fun _ => ?_⟩, fun _ => ⟨p5, p6⟩, j8, ((j9.setCell (p := ⟨rb, 0, none⟩) lr _).setCell (p := ⟨rb, 1, none⟩) lr _).setCell (p := ⟨rb, 2, none⟩) lr _⟩
        · obtain ⟨g, e, k⟩ := j2 h
          have hrg : rb ≠ g := by rintro rfl; exact absurd (Bk.typ hz k) (by decide)
          exact ⟨g, e, ((k.other _ _ hrg).other _ _ hrg).other _ _ hrg⟩
        · cases c
        · exact ((hz.put 0 _).put 1 _).put 2 _
      clear j0 j1 j2 j3 j4 j5 j6 j7 j8 j9 hpre hz na nb
      go_simp
      exact hK _ _ ⟨_, u10, _, u12, u13, _, _, rfl, HN⟩
  · intro b a x hI hall
    obtain ⟨u5, u10, u11, u12, u13, u14, u15, rfl, HJ⟩ := hI
    have hall' : ∀ i, i < 8 → b i = true := fun i hi => hall i (by simpa using hi)
    obtain ⟨j0, j1, j2, j3, j4, j5, j6, j7, j8, j9⟩ := HJ.out
    obtain ⟨ga, rfl, na, la⟩ := j1 (hall' 1 (by omega))
    obtain ⟨gb, rfl, nb, lb⟩ := j4 (hall' 4 (by omega))
    obtain ⟨rb, rfl, lr, _, hz⟩ := j6 (hall' 6 (by omega))
    have hz := hz (hall' 7 (by omega))
    have hab : ga ≠ gb := fun e => j8 (hall' 1 (by omega)) (hall' 4 (by omega)) (by rw [e])
    have Hap : Hid (ga ≠ gb ∧ w1.heap.size ≤ ga ∧ w1.heap.size ≤ gb ∧ w1.heap.size ≤ rb) := ⟨hab, la, lb, lr⟩
    have HO : Hid (Oi (nat L) n 0 rs0 0 ∧ RB w1 n ga gb rb x rs0 none) := by
      refine ⟨oi_start n, ⟨?_, ?_, j9⟩, hz⟩
      · show Nb x ga (rowN n (fun _ => 0))
        rw [rowN_const]; exact na
      · rw [madI_none, rowN_const]; exact nb
    obtain ⟨zb, Hzb⟩ : ∃ zb, Hid (zb = w.heap.size) := ⟨w.heap.size, by unfold Hid; rfl⟩
    rw [← Hzb.out]
    have HZ : Hid (∀ (wr : World) {s : Rs} {pl : Option Nat}, RB w1 n ga gb rb wr s pl → wr.cell? ⟨zb, 0, none⟩ = some (.slice none 0 0) ∧ wr.cell? ⟨zb, 1, none⟩ = some (.slice none 0 0) ∧ wr.cell? ⟨zb, 2, none⟩ = some (.int .i64 0) ∧ (∀ o, wr.frozen? ⟨zb, o, none⟩ = false) ∧ zb < wr.heap.size ∧ ¬ zb = rb ∧ ¬ rb = zb ∧ ¬ zb = wr.heap.size) := by
      intro wr s pl h
      have hlt : w.heap.size < w1.heap.size := by rw [H1.out.2.2]; omega
      have hB : Bk wr w.heap.size #[.slice none 0 0, .slice none 0 0, .int .i64 0] 118 := H1.out.2.1.under h.1.2.2 hlt
      obtain ⟨q0, q1, q2⟩ := hB.at3
      rw [Hzb.out]
      have := hB.lt
      exact ⟨q0, q1, q2, hB.frozen, hB.lt, by omega, by omega, by omega⟩
    have HFin : Hid (∀ (X : World) (a b : Value) {c : Value}, RB w1 n ga gb rb X S S.l → Hid (RW w n ga gb (((X.setCell ⟨zb, 0, none⟩ a).setCell ⟨zb, 1, none⟩ b).setCell ⟨zb, 2, none⟩ c) S ∧ ga ≠ gb ∧ w.heap.size ≤ ga ∧ w.heap.size ≤ gb)) := by
      intro X a b c h
      rw [Hzb.out]
      have hs := H1.out.2.2
      have h1 : w.heap.size ≠ ga := by omega
      have h2 : w.heap.size ≠ gb := by omega
      have hbb : Below w.heap.size w X := H1.out.1.trans (h.1.2.2.mono (by omega))
      exact ⟨⟨((h.1.1.other _ _ h1).other _ _ h1).other _ _ h1, ((h.1.2.1.other _ _ h2).other _ _ h2).other _ _ h2, ((hbb.setCell (p := ⟨w.heap.size, 0, none⟩) (Nat.le_refl _) _).setCell (p := ⟨w.heap.size, 1, none⟩) (Nat.le_refl _) _).setCell (p := ⟨w.heap.size, 2, none⟩) (Nat.le_refl _) _⟩, hab, by omega, by omega⟩
    clear j0 j1 j2 j3 j4 j5 j6 j7 j8 j9 hz na nb HJ hall hall' hab la lb lr HRp
    go_wp2_with fail
    go_step3
    go_wp2_with fail
    go_loopw [6, 17] (fun qv i wr => ∃ (k : Nat) (s : Rs) (q : Nat), i = .int .i64 k ∧ qv = .int .i64 q ∧ k ≤ n ∧ Hid (Oi (nat L) n k s q ∧ RB w1 n ga gb rb wr s s.l)) (fun _ i _ => n - (intOf i).toNat)
    case atStart => exact ⟨0, rs0, 0, rfl, rfl, Nat.zero_le _, HO⟩
    case round =>
      obtain ⟨k, s, q, rfl, rfl, hk, HR⟩ := hrel
      clear HO
      by_cases hkn : k < n
      · have ikn : (k : Int) < n := by omega
        have HE : Hid (Qi (nat L) n k s ⟨s.x, s.m, none⟩ 0 q s.l ∧ RB w1 n ga gb rb wr ⟨s.x, s.m, none⟩ s.l) := ⟨qi_start HR.out.1 hkn, HR.out.2⟩
        clear HR
        go_wp2_with fail
        go_loopw [6, 21] (fun qv i wr => ∃ (j : Nat) (c : Rs) (q : Nat) (pl : Option Nat), i = .int .i64 j ∧ qv = .int .i64 q ∧ j ≤ L.length ∧ Hid (Qi (nat L) n k s c j q pl ∧ RB w1 n ga gb rb wr c pl)) (fun _ i _ => L.length - (intOf i).toNat)
        case atStart => exact ⟨0, ⟨s.x, s.m, none⟩, q, s.l, rfl, rfl, Nat.zero_le _, HE⟩
        case round =>
          obtain ⟨j, c, q, pl, rfl, rfl, hj, HR⟩ := hrel
          clear HE
          by_cases hjl : j < L.length
          · have ij : (j : Int) < L.length := by omega
            obtain ⟨g, o, rfl, hgl, hat⟩ := HG.out (by omega)
            obtain ⟨A, B, f, hA, hB, hf1, hf2, hq, hnq⟩ := HK.out j hjl
            have hx := ((hat j hjl).below H1.out.1 hgl).below HR.out.2.1.2.2 (by rw [H1.out.2.2]; omega)
            rw [hq] at hx
            obtain ⟨x0, x1, x2⟩ := hx
            simp only at x0 x1 x2
            obtain ⟨y0, _⟩ := HR.out.2.1.at hA
            obtain ⟨y1, z1⟩ := HR.out.2.1.at hB
            obtain ⟨r0, r1, r2⟩ := HR.out.2.2.at3
            have iA : (A : Int) < n := by omega
            have iB : (B : Int) < n := by omega
            have lga := HR.out.2.1.1.lt
            have lgb := HR.out.2.1.2.1.lt
            have lrb := HR.out.2.2.lt
            have hgr : g < wr.heap.size := by have := HR.out.2.1.2.2.size; rw [H1.out.2.2] at this; omega
            have hab : ¬ ga = gb := Hap.out.1
            have hba : ¬ gb = ga := fun e => Hap.out.1 e.symm
            have hra : ¬ rb = ga := by rintro rfl; exact absurd (Bk.typ HR.out.2.2 HR.out.2.1.1) (by decide)
            have hrb : ¬ rb = gb := by rintro rfl; exact absurd (Bk.typ HR.out.2.2 HR.out.2.1.2.1) (by decide)
            have har : ¬ ga = rb := fun e => hra e.symm
            have hbr : ¬ gb = rb := fun e => hrb e.symm
            have na1 : ¬ ga = wr.heap.size := by omega
            have na2 : ¬ wr.heap.size = ga := by omega
            have nb1 : ¬ gb = wr.heap.size := by omega
            have nb2 : ¬ wr.heap.size = gb := by omega
            have nr1 : ¬ rb = wr.heap.size := by omega
            have nr2 : ¬ wr.heap.size = rb := by omega
            have fa := HR.out.2.1.1.frozen B
            have fb := HR.out.2.1.2.1.frozen B
            have fr := HR.out.2.2.frozen 2
            have b1 := HR.out.1.nz A
            have b2 := HR.out.1.bd A
            have hql : q < L.length := by have := HR.out.1.qs; rw [HNl.out] at this; omega
            have HW : Hid (∀ o m, RB w1 n ga gb rb ((wr.alloc o).drewN m) c pl) := fun o m => HR.out.2.below (below_drewK ((Below.refl _ _).alloc (Nat.le_refl _) o))
            have hnl : j < (nat L).length := by rw [HNl.out]; exact hjl
            have hnq' : (nat L)[j] = ⟨A, B, f⟩ := by
              rw [List.getElem?_eq_getElem hnl] at hnq
              injection hnq
            by_cases hch : c.x B < c.x A + f
            · have HN : Hid (Qi (nat L) n k s ⟨setN c.x B (c.x A + f), setN c.m B (some j), some B⟩ (j + 1) 0 (some B)) := by
                have q := qi_change HR.out.1 hnl HFa.out (by rw [hnq']; exact hch)
                rw [hnq'] at q
                exact q
              clear HR hat hq hnq hnq' hnl
              generalize c.x A = xa at *
              generalize c.x B = xb at *
              have HP : Hid (∀ o m, RB w1 n ga gb rb (((((wr.alloc o).drewN m).setCell ⟨ga, B, none⟩ (.int .i64 (xa + f))).setCell ⟨gb, B, none⟩ (.int .i64 j)).setCell ⟨rb, 2, none⟩ (.int .i64 B)) ⟨setN c.x B (xa + f), setN c.m B (some j), some B⟩ (some B)) := fun o m => (HW.out o m).put Hap.out B j (xa + f)
              go_wp2_with fail
              go_quiet (fail)
              go_wp2_with fail
              go_region
              all_goals
                go_wp2
                exact ⟨⟨j + 1, ⟨setN c.x B (xa + f), setN c.m B (some j), some B⟩, 0, some B, by go_num, rfl, by omega, HN.out, HP.out _ _⟩, by simp [intOf]; omega⟩
            · by_cases hst : q + 1 = L.length
              · have hS := qi_stop HR.out.1 hnl (by rw [hnq']; exact hch) (by rw [HNl.out]; exact hst)
                have HF : Hid (∀ o m, RB w1 n ga gb rb (((wr.alloc o).drewN m).setCell ⟨rb, 2, none⟩ (.int .i64 (-1))) S S.l) := fun o m => by
                  rw [HS.out, hS.1, hS.2]
                  exact (HW.out o m).stop Hap.out
                have HSl : Hid (lasI S.l = -1) := by unfold Hid; rw [HS.out, hS.1, hS.2]; rfl
                have iq : (q : Int) + 1 = L.length := by omega
                obtain ⟨p0, p1, p2, p3, p4, p5, p6, p7⟩ := HZ.out wr HR.out.2
                clear HR hat hq hnq hnq' hnl hS
                generalize c.x A = xa at *
                generalize c.x B = xb at *
                go_wp2_with fail
                go_quiet (fail)
                go_wp2
                simp only [Exit.noGoto]
                exact bodyPost_ret (v := .agg #[.slice (some ⟨ga, 0, none⟩) n n, .slice (some ⟨gb, 0, none⟩) n n, .int .i64 (-1)]) (by simp [results, Tryz.results97, go_sem, p0, p1, p2, p4]) rfl ⟨ga, gb, by rw [HSl.out], HFin.out _ _ _ (HF.out _ _)⟩
              · have HN : Hid (Qi (nat L) n k s c (j + 1) (q + 1) pl) := qi_same HR.out.1 hnl (by rw [hnq']; exact hch) (by rw [HNl.out]; exact hst)
                have iq : ¬ (q : Int) + 1 = L.length := by omega
                clear HR hat hq hnq hnq' hnl
                generalize c.x A = xa at *
                generalize c.x B = xb at *
                go_wp2_with fail
                go_quiet (fail)
                go_wp2
                exact ⟨⟨j + 1, c, q + 1, pl, by go_num, by go_num, by omega, HN.out, HW.out _ _⟩, by simp [intOf]; omega⟩
          · obtain rfl : j = L.length := by omega
            have HQ : Hid (Oi (nat L) n (k + 1) c q ∧ RB w1 n ga gb rb wr c c.l) := by
              have h := HR.out
              rw [← HNl.out] at h
              obtain ⟨h1, h2⟩ := qi_end h.1 (by rw [HNl.out]; exact hL)
              exact ⟨h1, by rw [← h2]; exact h.2⟩
            clear HR
            go_wp2
            exact ⟨⟨k + 1, c, q, by go_num, rfl, by omega, HQ⟩, by simp [intOf]; omega⟩
      · obtain rfl : k = n := by omega
        have hS := oi_end HR.out.1
        have HF : Hid (RB w1 k ga gb rb wr S S.l) := by unfold Hid; rw [HS.out, hS]; exact HR.out.2
        have HSl : Hid (lasI S.l = lasI s.l) := by unfold Hid; rw [HS.out, hS]
        obtain ⟨p0, p1, p2, p3, p4, p5, p6, p7⟩ := HZ.out wr HR.out.2
        obtain ⟨r0, r1, r2⟩ := HR.out.2.2.at3
        have lrb := HR.out.2.2.lt
        clear HR hS
        go_wp2
        simp only [Exit.noGoto]
        exact bodyPost_ret (v := .agg #[.slice (some ⟨ga, 0, none⟩) k k, .slice (some ⟨gb, 0, none⟩) k k, .int .i64 (lasI s.l)]) (by simp [results, Tryz.results97, go_sem, p0, p1, p2]) rfl ⟨ga, gb, by rw [HSl.out], HFin.out _ _ _ HF.out⟩

end Go.Proofs.YthnhcphkpffkfaaGreat
