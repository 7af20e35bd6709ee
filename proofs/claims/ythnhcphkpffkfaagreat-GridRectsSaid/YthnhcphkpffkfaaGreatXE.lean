/-
  One round: fill.
-/
import Derived.Test.YthnhcphkpffkfaaGreatXD2
import Derived.Test.YthnhcphkpffkfaaGreatRgI
import Derived.Deep.Cut
import Derived.Deep.DeepCutAuto
namespace Go.Proofs.YthnhcphkpffkfaaGreat
open Go.RowKit

/-- The sharing as it stands: those in L, so much left. -/
def Shr (w0 : World) (T : List Tk) (tv : Value) (pb sb : Nat) (L : List Ce) (lf : Int) (w : World) : Prop := ∃ ov, Sh w0 T tv pb sb ov (L.map (·.o)) lf w ∧ OwI w0.heap.size w ov (natI (opn 0 L)) ∧ ov.ownBlock ≠ some sb
/-- What holds of the numbers. -/
structure Stat (w0 : World) (T : List Tk) (tv : Value) (L : List Ce) (lf : Int) : Prop where
  hT : TS w0 tv T
  tk : L.map (·.t) = T
  inv : ShI lf L
  hl : lf ≤ 32768
  hn : T.length ≤ 1024
theorem Stat.len {w0 : World} {T : List Tk} {tv : Value} {L : List Ce} {lf : Int} (h : Stat w0 T tv L lf) : L.length = T.length := by rw [← h.tk]; simp
theorem Stat.ok {w0 : World} {T : List Tk} {tv : Value} {L : List Ce} {lf : Int} (h : Stat w0 T tv L lf) : ∀ t ∈ T, okT t := fun t ht => by
  rw [← h.tk] at ht
  obtain ⟨c, hc, rfl⟩ := List.mem_map.1 ht
  exact (h.inv.2 c hc).1
theorem Stat.drop {w0 : World} {T : List Tk} {tv : Value} {L : List Ce} {lf : Int} (h : Stat w0 T tv L lf) : T.drop 0 = L.map (·.t) := by rw [h.tk]; rfl
theorem Stat.ops {w0 : World} {T : List Tk} {tv : Value} {L : List Ce} {lf : Int} (h : Stat w0 T tv L lf) : (∀ i ∈ opn 0 L, i < T.length) ∧ (opn 0 L).length ≤ 1024 := by
  refine ⟨fun i hi => ?_, ?_⟩
  · have := opn_lt L 0 i hi
    rw [h.len] at this
    omega
  · rw [opn_len]
    have h1 := h.len
    have h2 := h.hn
    have : ∀ l : List Ce, cntP l ≤ l.length := by
      intro l
      induction l with
      | nil => exact Nat.le_refl _
      | cons c l ih => rw [cntP, List.length_cons]; split <;> omega
    have := this L
    omega
theorem Stat.grow {w0 : World} {T : List Tk} {tv : Value} {L : List Ce} {lf : Int} (h : Stat w0 T tv L lf) : grS T (opn 0 L) = gsum L ∧ 0 ≤ gsum L ∧ gsum L ≤ 16777216 := by
  have e := grS_opn T L 0 h.drop
  have hb := grS_bd T h.ok (opn 0 L)
  have := h.ops.2
  rw [e] at hb
  refine ⟨e, by omega, by omega⟩
theorem Stat.has {w0 : World} {T : List Tk} {tv : Value} {L : List Ce} {lf : Int} (h : Stat w0 T tv L lf) : ∀ i ∈ opn 0 L, (L.map (·.o)).getD i 0 = (tkA T i).mn ∧ okT (tkA T i) := fun i hi => by
  obtain ⟨k, hk, e, hp⟩ := opn_mem L 0 i hi
  have e2 : i = k := by omega
  subst e2
  have hc := h.inv.2 L[i] (List.getElem_mem hk)
  have e3 : tkA T i = L[i].t := by
    rw [tk_at (by rw [← h.len]; exact hk)]
    simp only [← h.tk, List.getElem_map]
  rw [e3, getD_at (by simpa using hk), List.getElem_map, (hc.2.1 hp).2]
  exact ⟨rfl, hc.1⟩
theorem les_nn : ∀ (left g : Int) (L : List Ce), 0 ≤ lesS left g L
  | _, _, [] => Int.le_refl _
  | left, g, c :: l => by
    have := les_nn left g l
    rw [lesS]
    split
    · next hf =>
      unfold fulB at hf
      simp only [Bool.and_eq_true, decide_eq_true_eq] at hf
      omega
    · omega
theorem Stat.fil {w0 : World} {T : List Tk} {tv : Value} {L : List Ce} {lf : Int} (h : Stat w0 T tv L lf) (ha : L.any (fulB lf (gsum L)) = true) : Stat w0 T tv (L.map (fil lf (gsum L))) (lf - lesS lf (gsum L) L) := by
  have h0 : 0 < gsum L := by
    have := cnt_lt lf (gsum L) L ha
    have h1 : gsum L ≠ 0 := fun e => by have := cnt_none h.inv.gro e; omega
    have := gsum_nn h.inv.gro
    omega
  refine ⟨h.hT, by rw [fil_tk]; exact h.tk, h.inv.fil h0, ?_, h.hn⟩
  have := h.hl
  have := les_nn lf (gsum L) L
  omega
/-- How it stands behind the round's look. -/
def Fin1 (w0 : World) (T : List Tk) (tv : Value) (pb sb : Nat) (ov : Value) (L : List Ce) (lf : Int) (u : Value) (w : World) : Prop :=
  u.ownBlock = ov.ownBlock ∧ OwI w0.heap.size w u (natI ((opn 0 L).filter fun i => !fuT lf (gsum L) (tkA T i))) ∧ Stj w0 T tv pb sb ov (L.map (·.o)) lf lf (gsum L) (opn 0 L) (opn 0 L).length w
theorem fin_shr {w0 : World} {T : List Tk} {tv : Value} {pb sb : Nat} {ov : Value} {L : List Ce} {lf : Int} {u : Value} {w : World} (h : Fin1 w0 T tv pb sb ov L lf u w) (hs : Stat w0 T tv L lf) (hap : ov.ownBlock ≠ some sb) : Shr w0 T tv pb sb (L.map (fil lf (gsum L))) (lf - lesS lf (gsum L) L) (w.setCell ⟨pb, 2, none⟩ u) := by
  obtain ⟨h1, h2, h3⟩ := h
  unfold Stj at h3
  rw [List.take_length] at h3
  have e := fld_adv (hFi lf (gsum L)) T L 0 [] lf rfl hs.drop
  rw [adv_fil lf (gsum L) L lf hs.inv.filk] at e
  have e' : fld (fF T lf (gsum L)) (opn 0 L) (L.map (·.o), lf) = ((L.map (fil lf (gsum L))).map (·.o), lf - lesS lf (gsum L) L) := e
  rw [e'] at h3
  refine ⟨u, h3.opens u, ?_, by rw [h1]; exact hap⟩
  rw [opn_fil lf (gsum L) T L 0 hs.drop fun c hc => (hs.inv.2 c hc).1] at h2
  have hne := own_typ h2 h3.pbk (by decide)
  exact h2.ex2 ((Ex2.refl pb pb w).seta 2 u) hne hne

def blkV : Value → Option Nat
  | .pointer (some a) => some a.block
  | .slice (some a) _ _ => some a.block
  | _ => none
def JF1 (W1 : World) (pb : Nat) (lf gs : Int) (oa : Option Addr) (n cap : Nat) (b : Nat → Bool) (u3 u4 u5 u6 u7 u8 u9 u10 u11 u12 u13 u14 u15 u16 : Value) (x : World) : Prop :=
  (b 0 = true → u6 = .pointer (some ⟨pb, 0, none⟩)) ∧
  (b 1 = true → u7 = .pointer (some ⟨pb, 0, none⟩)) ∧
  (b 2 = true → u8 = .pointer (some ⟨pb, 3, none⟩)) ∧
  (b 3 = true → u9 = .int .i64 lf) ∧
  (b 4 = true → u10 = .pointer (some ⟨pb, 0, none⟩)) ∧
  (b 5 = true → u11 = .int .i64 gs) ∧
  (b 6 = true → u12 = .pointer (some ⟨pb, 0, none⟩)) ∧
  (b 7 = true → u13 = .pointer (some ⟨pb, 0, none⟩)) ∧
  (b 8 = true → u14 = .pointer (some ⟨pb, 2, none⟩)) ∧
  (b 9 = true → u15 = .slice oa n cap) ∧
  (b 10 = true → u16 = .int .i64 n) ∧
  (b 11 = true → ∃ g, u3 = .pointer (some ⟨g, 0, none⟩) ∧ W1.heap.size ≤ g ∧ (b 13 = false → Bk x g #[.int .i64 0] 3) ∧ (b 13 = true → Bk x g #[.int .i64 lf] 3)) ∧
  (b 12 = true → ∃ g, u4 = .pointer (some ⟨g, 0, none⟩) ∧ W1.heap.size ≤ g ∧ (b 14 = false → Bk x g #[.int .i64 0] 3) ∧ (b 14 = true → Bk x g #[.int .i64 gs] 3)) ∧
  (b 13 = true → b 11 = true) ∧
  (b 14 = true → b 12 = true) ∧
  (b 15 = true → u5 = .int .i64 n) ∧
  (b 11 = true → b 12 = true → blkV u3 ≠ blkV u4) ∧
  Below W1.heap.size W1 x

def JF2 (w0 : World) (T : List Tk) (tv : Value) (pb sb : Nat) (oa : Option Addr) (cap bs bl bg : Nat) (L : List Ce) (lf : Int) (b : Nat → Bool) (u17 u18 u19 u20 u21 u22 u23 u24 u25 : Value) (x : World) : Prop :=
  (b 0 = true → u17 = .pointer (some ⟨pb, 0, none⟩)) ∧
  (b 1 = true → u18 = .pointer (some ⟨pb, 0, none⟩)) ∧
  (b 2 = true → u19 = .pointer (some ⟨pb, 0, none⟩)) ∧
  (b 3 = true → u20 = .pointer (some ⟨pb, 2, none⟩)) ∧
  (b 4 = true → u21 = .slice oa (opn 0 L).length cap) ∧
  (b 5 = true → u22 = .func (.func 94) #[] #[.pointer (some ⟨bs, 0, none⟩), .pointer (some ⟨bl, 0, none⟩), .pointer (some ⟨bg, 0, none⟩)]) ∧
  (b 7 = true → u24 = .pointer (some ⟨pb, 0, none⟩)) ∧
  (b 8 = true → u25 = .pointer (some ⟨pb, 2, none⟩)) ∧
  (b 9 = true → b 6 = true) ∧
  (b 6 = false → Sh w0 T tv pb sb (.slice oa (opn 0 L).length cap) (L.map (·.o)) lf x ∧ OwI w0.heap.size x (.slice oa (opn 0 L).length cap) (natI (opn 0 L))) ∧
  (b 6 = true → b 4 = true ∧ ∃ on cn, u23 = .slice on (opn 0 (L.map (fil lf (gsum L)))).length cn ∧ (b 9 = false → Fin1 w0 T tv pb sb (.slice oa (opn 0 L).length cap) L lf u23 x) ∧ (b 9 = true → Shr w0 T tv pb sb (L.map (fil lf (gsum L))) (lf - lesS lf (gsum L) L) x ∧ x.cell? ⟨pb, 2, none⟩ = some u23)) ∧
  Fi pb sb bs bl bg lf (gsum L) x

/-- What comes of the look. -/
def DelK (w0 : World) (T : List Tk) (tv : Value) (pb sb : Nat) (oa : Option Addr) (cap bs bl bg : Nat) (L : List Ce) (lf : Int) (u : Value) (x : World) : Prop :=
  Fin1 w0 T tv pb sb (.slice oa (opn 0 L).length cap) L lf u x ∧ ∃ on cn, u = .slice on (opn 0 (L.map (fil lf (gsum L)))).length cn ∧ Fi pb sb bs bl bg lf (gsum L) x
theorem del_fs {w0 : World} {T : List Tk} {tv : Value} {pb sb : Nat} {ov : Value} {L : List Ce} {lf : Int} {bs bl bg : Nat} (hs : Stat w0 T tv L lf) (ha : ov.ownBlock ≠ some sb ∧ ov.ownBlock ≠ some bl ∧ ov.ownBlock ≠ some bg) : FsC w0 T tv pb sb ov (L.map (·.o)) lf bs bl bg lf (gsum L) (opn 0 L) := by
  refine ⟨hs.hT, hs.ok, hs.ops.1, opn_nodup L 0, hs.ops.2, ⟨hs.inv.1, hs.hl⟩, hs.grow.2, fun i hi => ?_, ⟨hs.inv.1, hs.hl⟩, ha⟩
  obtain ⟨e, h1, h2, _⟩ := hs.has i hi
  rw [e]
  exact ⟨h1, h2⟩

set_option maxRecDepth 10000 in
set_option maxHeartbeats 4000000 in
theorem fill_any (w0 : World) (T : List Tk) (tv : Value) (pb sb : Nat) (L : List Ce) (lf : Int) (w : World) (h : Shr w0 T tv pb sb L lf w) (hs : Stat w0 T tv L lf) :
    Calls Tryz.prog 81 #[.pointer (some ⟨pb, 0, none⟩)] w fun e w' => e = .returned (.bool (L.any (fulB lf (gsum L)))) ∧ Hid (Shr w0 T tv pb sb (L.map (fil lf (gsum L))) (lf - lesS lf (gsum L) L) w') := by
  obtain ⟨ov, h1, h2, h3⟩ := h
  have HS : Hid (Stat w0 T tv L lf) := hs
  have HA : Hid (ov.ownBlock ≠ some sb) := h3
  have HG : Hid (∀ W, Below w.heap.size w W → Calls Tryz.prog 92 #[.pointer (some ⟨pb, 0, none⟩)] W fun e w' => e = .returned (.int .i64 (gsum L)) ∧ Below W.heap.size W w') := fun W hW => by
    have hb := h1.below hW
    have := grow_any w0 T tv pb sb ov _ lf (opn 0 L) W hb hs.hT hs.hn hs.ok (h2.below hW).is hs.ops.1 hs.ops.2
    rw [hs.grow.1] at this
    exact this.mono fun e w' ⟨he, hw⟩ => ⟨he, by rw [hw]; exact Below.refl _ _⟩
  obtain ⟨oa, cap, e, hc, _⟩ := h2.is
  rw [natI_len] at e hc
  subst e
  have H0 : Hid (Sh w0 T tv pb sb (.slice oa (opn 0 L).length cap) (L.map (·.o)) lf w ∧ OwI w0.heap.size w (.slice oa (opn 0 L).length cap) (natI (opn 0 L))) := ⟨h1, h2⟩
  have HR : Hid (L.any (fulB lf (gsum L)) = decide ((opn 0 (L.map (fil lf (gsum L)))).length < (opn 0 L).length)) := any_opn lf (gsum L) L 0
  have lpb := h1.pbk.lt
  obtain ⟨c0, c1, c2, c3⟩ := h1.reads
  have hol : (opn 0 L).length ≤ 1024 := hs.ops.2
  clear h1 h2 h3 hs c0 c1
  obtain ⟨gs, Hgs⟩ : ∃ gs, Hid (gs = gsum L) := ⟨_, rfl⟩
  rw [← Hgs.out] at HG
  obtain ⟨W1, HW1⟩ : ∃ W1, Hid (W1 = w.alloc (.cells #[.pointer (some ⟨pb, 0, none⟩)] 112)) := ⟨_, rfl⟩
  have HB1 : Hid (Below w.heap.size w W1 ∧ W1.heap.size = w.heap.size + 1 ∧ Bk W1 w.heap.size #[.pointer (some ⟨pb, 0, none⟩)] 112) := by
    unfold Hid
    rw [HW1.out]
    exact ⟨(Below.refl _ _).alloc (Nat.le_refl _) _, by simp, Bk.new _ _ _⟩
  obtain ⟨bs, Hbs⟩ : ∃ bs, Hid (bs = w.heap.size) := ⟨_, rfl⟩
  go_enter Tryz.func81, Tryz.ntmps81
  go_upto_region 1 with fail
  rw [← HW1.out, ← Hbs.out]
  have lbs : bs < W1.heap.size := by rw [HB1.out.2.1, Hbs.out]; omega
  have lpb1 : pb < W1.heap.size := by rw [HB1.out.2.1]; omega
  have b0 : W1.cell? ⟨bs, 0, none⟩ = some (.pointer (some ⟨pb, 0, none⟩)) := by rw [Hbs.out, HB1.out.2.2.cell]; rfl
  have d2 : W1.cell? ⟨pb, 2, none⟩ = some (.slice oa (opn 0 L).length cap) := (HB1.out.1.cell (p := ⟨pb, 2, none⟩) lpb).trans c2
  have d3 : W1.cell? ⟨pb, 3, none⟩ = some (.int .i64 lf) := (HB1.out.1.cell (p := ⟨pb, 3, none⟩) lpb).trans c3
  have HG1 : Hid (∀ W, Below W1.heap.size W1 W → Calls Tryz.prog 92 #[.pointer (some ⟨pb, 0, none⟩)] W fun e w' => e = .returned (.int .i64 gs) ∧ Below W.heap.size W w') := fun W hW => HG.out W (HB1.out.1.trans (hW.mono (by rw [HB1.out.2.1]; omega)))
  clear c2 c3 HG
  go_cut [3, 4, 5] (fun s3 s4 s5 wx => ∃ bl bg, s3 = .pointer (some ⟨bl, 0, none⟩) ∧ s4 = .pointer (some ⟨bg, 0, none⟩) ∧ s5 = .int .i64 (opn 0 L).length ∧ Hid (Below W1.heap.size W1 wx ∧ Bk wx bl #[.int .i64 lf] 3 ∧ Bk wx bg #[.int .i64 gs] 3 ∧ W1.heap.size ≤ bl ∧ W1.heap.size ≤ bg ∧ bl ≠ bg))
  case first =>
    clear lpb HW1 HB1 HA H0 HR HS Hgs Hbs
    generalize (opn 0 L).length = n at *
    refine wp_region_inv (I := (fun b a x => ∃ u3 u4 u5 u6 u7 u8 u9 u10 u11 u12 u13 u14 u15 u16, a = ⟨#[.pointer (some ⟨pb, 0, none⟩), .pointer (some ⟨bs, 0, none⟩), .bool false, u3, u4, u5, u6, u7, u8, u9, u10, u11, u12, u13, u14, u15, u16, undef, undef, undef, undef, undef, undef, undef, undef, undef, undef, undef, undef, undef, undef, undef, undef], []⟩ ∧ Hid (JF1 W1 pb lf gs oa n cap b u3 u4 u5 u6 u7 u8 u9 u10 u11 u12 u13 u14 u15 u16 x))) (by kernel_rfl) (by kernel_rfl) ?_ ?_ ?_
    · exact ⟨undef, undef, undef, undef, undef, undef, undef, undef, undef, undef, undef, undef, undef, undef, rfl, ⟨(fun e => by cases e), (fun e => by cases e), (fun e => by cases e), (fun e => by cases e), (fun e => by cases e), (fun e => by cases e), (fun e => by cases e), (fun e => by cases e), (fun e => by cases e), (fun e => by cases e), (fun e => by cases e), (fun e => by cases e), (fun e => by cases e), (fun e => by cases e), (fun e => by cases e), (fun e => by cases e), (fun e => by cases e), (Below.refl _ _).drew⟩⟩
    · intro b a x i o hI hbi ho hpre K' hK
      obtain ⟨u3, u4, u5, u6, u7, u8, u9, u10, u11, u12, u13, u14, u15, u16, rfl, HJ⟩ := hI
      have hi : i < 16 := by have := (Array.getElem?_eq_some_iff.1 ho).1; simpa using this
      rcases (show i = 0 ∨ i = 1 ∨ i = 2 ∨ i = 3 ∨ i = 4 ∨ i = 5 ∨ i = 6 ∨ i = 7 ∨ i = 8 ∨ i = 9 ∨ i = 10 ∨ i = 11 ∨ i = 12 ∨ i = 13 ∨ i = 14 ∨ i = 15 by omega) with rfl | rfl | rfl | rfl | rfl | rfl | rfl | rfl | rfl | rfl | rfl | rfl | rfl | rfl | rfl | rfl
      · injection (show some _ = some o from ho) with ho
        subst ho
        have hbx : Below W1.heap.size W1 x := by obtain ⟨j0, j1, j2, j3, j4, j5, j6, j7, j8, j9, j10, j11, j12, j13, j14, j15, e0, e1⟩ := HJ.out; exact e1
        have r0 := (hbx.cell (p := ⟨bs, 0, none⟩) lbs).trans b0
        have HN : Hid (JF1 W1 pb lf gs oa n cap (fun j => if j = 0 then true else b j) u3 u4 u5 (.pointer (some ⟨pb, 0, none⟩)) u7 u8 u9 u10 u11 u12 u13 u14 u15 u16 x) := by
          obtain ⟨j0, j1, j2, j3, j4, j5, j6, j7, j8, j9, j10, j11, j12, j13, j14, j15, e0, e1⟩ := HJ.out
          exact ⟨fun _ => rfl, j1, j2, j3, j4, j5, j6, j7, j8, j9, j10, j11, j12, j13, j14, j15, e0, e1⟩
        clear HJ hpre
        go_simp
        exact hK _ _ ⟨u3, u4, u5, _, u7, u8, u9, u10, u11, u12, u13, u14, u15, u16, rfl, HN⟩
      · injection (show some _ = some o from ho) with ho
        subst ho
        have p0 : b 0 = true := hpre 0 (by decide +kernel)
        obtain rfl : u6 = .pointer (some ⟨pb, 0, none⟩) := by obtain ⟨j0, j1, j2, j3, j4, j5, j6, j7, j8, j9, j10, j11, j12, j13, j14, j15, e0, e1⟩ := HJ.out; exact (j0 p0)
        have HN : Hid (JF1 W1 pb lf gs oa n cap (fun j => if j = 1 then true else b j) u3 u4 u5 (.pointer (some ⟨pb, 0, none⟩)) (.pointer (some ⟨pb, 0, none⟩)) u8 u9 u10 u11 u12 u13 u14 u15 u16 x) := by
          obtain ⟨j0, j1, j2, j3, j4, j5, j6, j7, j8, j9, j10, j11, j12, j13, j14, j15, e0, e1⟩ := HJ.out
          exact ⟨j0, fun _ => rfl, j2, j3, j4, j5, j6, j7, j8, j9, j10, j11, j12, j13, j14, j15, e0, e1⟩
        clear HJ hpre
        go_simp
        exact hK _ _ ⟨u3, u4, u5, _, _, u8, u9, u10, u11, u12, u13, u14, u15, u16, rfl, HN⟩
      · injection (show some _ = some o from ho) with ho
        subst ho
        have p1 : b 1 = true := hpre 1 (by decide +kernel)
        obtain rfl : u7 = .pointer (some ⟨pb, 0, none⟩) := by obtain ⟨j0, j1, j2, j3, j4, j5, j6, j7, j8, j9, j10, j11, j12, j13, j14, j15, e0, e1⟩ := HJ.out; exact (j1 p1)
        have HN : Hid (JF1 W1 pb lf gs oa n cap (fun j => if j = 2 then true else b j) u3 u4 u5 u6 (.pointer (some ⟨pb, 0, none⟩)) (.pointer (some ⟨pb, 3, none⟩)) u9 u10 u11 u12 u13 u14 u15 u16 x) := by
          obtain ⟨j0, j1, j2, j3, j4, j5, j6, j7, j8, j9, j10, j11, j12, j13, j14, j15, e0, e1⟩ := HJ.out
          exact ⟨j0, j1, fun _ => rfl, j3, j4, j5, j6, j7, j8, j9, j10, j11, j12, j13, j14, j15, e0, e1⟩
        clear HJ hpre
        go_simp
        exact hK _ _ ⟨u3, u4, u5, u6, _, _, u9, u10, u11, u12, u13, u14, u15, u16, rfl, HN⟩
      · injection (show some _ = some o from ho) with ho
        subst ho
        have p2 : b 2 = true := hpre 2 (by decide +kernel)
        obtain rfl : u8 = .pointer (some ⟨pb, 3, none⟩) := by obtain ⟨j0, j1, j2, j3, j4, j5, j6, j7, j8, j9, j10, j11, j12, j13, j14, j15, e0, e1⟩ := HJ.out; exact (j2 p2)
        have hbx : Below W1.heap.size W1 x := by obtain ⟨j0, j1, j2, j3, j4, j5, j6, j7, j8, j9, j10, j11, j12, j13, j14, j15, e0, e1⟩ := HJ.out; exact e1
        have r3 := (hbx.cell (p := ⟨pb, 3, none⟩) lpb1).trans d3
        have HN : Hid (JF1 W1 pb lf gs oa n cap (fun j => if j = 3 then true else b j) u3 u4 u5 u6 u7 (.pointer (some ⟨pb, 3, none⟩)) (.int .i64 lf) u10 u11 u12 u13 u14 u15 u16 x) := by
          obtain ⟨j0, j1, j2, j3, j4, j5, j6, j7, j8, j9, j10, j11, j12, j13, j14, j15, e0, e1⟩ := HJ.out
          exact ⟨j0, j1, j2, fun _ => rfl, j4, j5, j6, j7, j8, j9, j10, j11, j12, j13, j14, j15, e0, e1⟩
        clear HJ hpre
        go_simp
        exact hK _ _ ⟨u3, u4, u5, u6, u7, _, _, u10, u11, u12, u13, u14, u15, u16, rfl, HN⟩
      · injection (show some _ = some o from ho) with ho
        subst ho
        have hbx : Below W1.heap.size W1 x := by obtain ⟨j0, j1, j2, j3, j4, j5, j6, j7, j8, j9, j10, j11, j12, j13, j14, j15, e0, e1⟩ := HJ.out; exact e1
        have r0 := (hbx.cell (p := ⟨bs, 0, none⟩) lbs).trans b0
        have HN : Hid (JF1 W1 pb lf gs oa n cap (fun j => if j = 4 then true else b j) u3 u4 u5 u6 u7 u8 u9 (.pointer (some ⟨pb, 0, none⟩)) u11 u12 u13 u14 u15 u16 x) := by
          obtain ⟨j0, j1, j2, j3, j4, j5, j6, j7, j8, j9, j10, j11, j12, j13, j14, j15, e0, e1⟩ := HJ.out
          exact ⟨j0, j1, j2, j3, fun _ => rfl, j5, j6, j7, j8, j9, j10, j11, j12, j13, j14, j15, e0, e1⟩
        clear HJ hpre
        go_simp
        exact hK _ _ ⟨u3, u4, u5, u6, u7, u8, u9, _, u11, u12, u13, u14, u15, u16, rfl, HN⟩
      · injection (show some _ = some o from ho) with ho
        subst ho
        have p4 : b 4 = true := hpre 4 (by decide +kernel)
        obtain rfl : u10 = .pointer (some ⟨pb, 0, none⟩) := by obtain ⟨j0, j1, j2, j3, j4, j5, j6, j7, j8, j9, j10, j11, j12, j13, j14, j15, e0, e1⟩ := HJ.out; exact (j4 p4)
        have hbx : Below W1.heap.size W1 x := by obtain ⟨j0, j1, j2, j3, j4, j5, j6, j7, j8, j9, j10, j11, j12, j13, j14, j15, e0, e1⟩ := HJ.out; exact e1
        have HC := HG1.out x hbx
        have HN : Hid (∀ x', Below x.heap.size x x' → JF1 W1 pb lf gs oa n cap (fun j => if j = 5 then true else b j) u3 u4 u5 u6 u7 u8 u9 (.pointer (some ⟨pb, 0, none⟩)) (.int .i64 gs) u12 u13 u14 u15 u16 x') := fun x' hb => by
          obtain ⟨j0, j1, j2, j3, j4, j5, j6, j7, j8, j9, j10, j11, j12, j13, j14, j15, e0, e1⟩ := HJ.out
          exact ⟨j0, j1, j2, j3, j4, fun _ => rfl, j6, j7, j8, j9, j10, fun h => (j11 h).imp fun _ k => ⟨k.1, k.2.1, fun c => (k.2.2.1 c).below hb, fun c => (k.2.2.2 c).below hb⟩, fun h => (j12 h).imp fun _ k => ⟨k.1, k.2.1, fun c => (k.2.2.1 c).below hb, fun c => (k.2.2.2 c).below hb⟩, j13, j14, j15, e0, e1.trans (hb.mono e1.size)⟩
        clear HJ hpre
        go_simp
        refine HC.mono ?_
        rintro e x' ⟨rfl, hb⟩
        exact hK _ _ ⟨u3, u4, u5, u6, u7, u8, u9, _, _, u12, u13, u14, u15, u16, rfl, HN.out x' hb⟩
      · injection (show some _ = some o from ho) with ho
        subst ho
        have hbx : Below W1.heap.size W1 x := by obtain ⟨j0, j1, j2, j3, j4, j5, j6, j7, j8, j9, j10, j11, j12, j13, j14, j15, e0, e1⟩ := HJ.out; exact e1
        have r0 := (hbx.cell (p := ⟨bs, 0, none⟩) lbs).trans b0
        have HN : Hid (JF1 W1 pb lf gs oa n cap (fun j => if j = 6 then true else b j) u3 u4 u5 u6 u7 u8 u9 u10 u11 (.pointer (some ⟨pb, 0, none⟩)) u13 u14 u15 u16 x) := by
          obtain ⟨j0, j1, j2, j3, j4, j5, j6, j7, j8, j9, j10, j11, j12, j13, j14, j15, e0, e1⟩ := HJ.out
          exact ⟨j0, j1, j2, j3, j4, j5, fun _ => rfl, j7, j8, j9, j10, j11, j12, j13, j14, j15, e0, e1⟩
        clear HJ hpre
        go_simp
        exact hK _ _ ⟨u3, u4, u5, u6, u7, u8, u9, u10, u11, _, u13, u14, u15, u16, rfl, HN⟩
      · injection (show some _ = some o from ho) with ho
        subst ho
        have p6 : b 6 = true := hpre 6 (by decide +kernel)
        obtain rfl : u12 = .pointer (some ⟨pb, 0, none⟩) := by obtain ⟨j0, j1, j2, j3, j4, j5, j6, j7, j8, j9, j10, j11, j12, j13, j14, j15, e0, e1⟩ := HJ.out; exact (j6 p6)
        have HN : Hid (JF1 W1 pb lf gs oa n cap (fun j => if j = 7 then true else b j) u3 u4 u5 u6 u7 u8 u9 u10 u11 (.pointer (some ⟨pb, 0, none⟩)) (.pointer (some ⟨pb, 0, none⟩)) u14 u15 u16 x) := by
          obtain ⟨j0, j1, j2, j3, j4, j5, j6, j7, j8, j9, j10, j11, j12, j13, j14, j15, e0, e1⟩ := HJ.out
          exact ⟨j0, j1, j2, j3, j4, j5, j6, fun _ => rfl, j8, j9, j10, j11, j12, j13, j14, j15, e0, e1⟩
        clear HJ hpre
        go_simp
        exact hK _ _ ⟨u3, u4, u5, u6, u7, u8, u9, u10, u11, _, _, u14, u15, u16, rfl, HN⟩
      · injection (show some _ = some o from ho) with ho
        subst ho
        have p7 : b 7 = true := hpre 7 (by decide +kernel)
        obtain rfl : u13 = .pointer (some ⟨pb, 0, none⟩) := by obtain ⟨j0, j1, j2, j3, j4, j5, j6, j7, j8, j9, j10, j11, j12, j13, j14, j15, e0, e1⟩ := HJ.out; exact (j7 p7)
        have HN : Hid (JF1 W1 pb lf gs oa n cap (fun j => if j = 8 then true else b j) u3 u4 u5 u6 u7 u8 u9 u10 u11 u12 (.pointer (some ⟨pb, 0, none⟩)) (.pointer (some ⟨pb, 2, none⟩)) u15 u16 x) := by
          obtain ⟨j0, j1, j2, j3, j4, j5, j6, j7, j8, j9, j10, j11, j12, j13, j14, j15, e0, e1⟩ := HJ.out
          exact ⟨j0, j1, j2, j3, j4, j5, j6, j7, fun _ => rfl, j9, j10, j11, j12, j13, j14, j15, e0, e1⟩
        clear HJ hpre
        go_simp
        exact hK _ _ ⟨u3, u4, u5, u6, u7, u8, u9, u10, u11, u12, _, _, u15, u16, rfl, HN⟩
      · injection (show some _ = some o from ho) with ho
        subst ho
        have p8 : b 8 = true := hpre 8 (by decide +kernel)
        obtain rfl : u14 = .pointer (some ⟨pb, 2, none⟩) := by obtain ⟨j0, j1, j2, j3, j4, j5, j6, j7, j8, j9, j10, j11, j12, j13, j14, j15, e0, e1⟩ := HJ.out; exact (j8 p8)
        have hbx : Below W1.heap.size W1 x := by obtain ⟨j0, j1, j2, j3, j4, j5, j6, j7, j8, j9, j10, j11, j12, j13, j14, j15, e0, e1⟩ := HJ.out; exact e1
        have r2 := (hbx.cell (p := ⟨pb, 2, none⟩) lpb1).trans d2
        have HN : Hid (JF1 W1 pb lf gs oa n cap (fun j => if j = 9 then true else b j) u3 u4 u5 u6 u7 u8 u9 u10 u11 u12 u13 (.pointer (some ⟨pb, 2, none⟩)) (.slice oa n cap) u16 x) := by
          obtain ⟨j0, j1, j2, j3, j4, j5, j6, j7, j8, j9, j10, j11, j12, j13, j14, j15, e0, e1⟩ := HJ.out
          exact ⟨j0, j1, j2, j3, j4, j5, j6, j7, j8, fun _ => rfl, j10, j11, j12, j13, j14, j15, e0, e1⟩
        clear HJ hpre
        go_simp
        exact hK _ _ ⟨u3, u4, u5, u6, u7, u8, u9, u10, u11, u12, u13, _, _, u16, rfl, HN⟩
      · injection (show some _ = some o from ho) with ho
        subst ho
        have p9 : b 9 = true := hpre 9 (by decide +kernel)
        obtain rfl : u15 = .slice oa n cap := by obtain ⟨j0, j1, j2, j3, j4, j5, j6, j7, j8, j9, j10, j11, j12, j13, j14, j15, e0, e1⟩ := HJ.out; exact (j9 p9)
        have HN : Hid (JF1 W1 pb lf gs oa n cap (fun j => if j = 10 then true else b j) u3 u4 u5 u6 u7 u8 u9 u10 u11 u12 u13 u14 (.slice oa n cap) (.int .i64 n) x) := by
          obtain ⟨j0, j1, j2, j3, j4, j5, j6, j7, j8, j9, j10, j11, j12, j13, j14, j15, e0, e1⟩ := HJ.out
          exact ⟨j0, j1, j2, j3, j4, j5, j6, j7, j8, j9, fun _ => rfl, j11, j12, j13, j14, j15, e0, e1⟩
        clear HJ hpre
        go_simp
        exact hK _ _ ⟨u3, u4, u5, u6, u7, u8, u9, u10, u11, u12, u13, u14, _, _, rfl, HN⟩
      · injection (show some _ = some o from ho) with ho
        subst ho
        have HN : Hid (JF1 W1 pb lf gs oa n cap (fun j => if j = 11 then true else b j) (.pointer (some ⟨x.heap.size, 0, none⟩)) u4 u5 u6 u7 u8 u9 u10 u11 u12 u13 u14 u15 u16 (x.alloc (.cells #[.int .i64 0] 3))) := by
          obtain ⟨j0, j1, j2, j3, j4, j5, j6, j7, j8, j9, j10, j11, j12, j13, j14, j15, e0, e1⟩ := HJ.out
          refine ⟨j0, j1, j2, j3, j4, j5, j6, j7, j8, j9, j10, fun _ => ⟨x.heap.size, rfl, e1.size, fun _ => Bk.new _ _ _, fun c => ?_⟩, fun h => (j12 h).imp fun _ k => ⟨k.1, k.2.1, fun c => (k.2.2.1 c).below ((Below.refl _ x).alloc (Nat.le_refl _) (.cells #[.int .i64 0] 3)), fun c => (k.2.2.2 c).below ((Below.refl _ x).alloc (Nat.le_refl _) (.cells #[.int .i64 0] 3))⟩, fun _ => rfl, j14, j15, fun h1 h2 => ?_, e1.alloc e1.size _⟩
          · have := j13 c; rw [hbi] at this; cases this
          · obtain ⟨g, rfl, _, k1, k2⟩ := j12 h2
            have hg : g < x.heap.size := by
              cases hb : b 14
              · exact (k1 hb).lt
              · exact (k2 hb).lt
            intro c
            simp [blkV] at c
            omega
        clear HJ hpre
        go_simp
        exact hK _ _ ⟨_, u4, u5, u6, u7, u8, u9, u10, u11, u12, u13, u14, u15, u16, rfl, HN⟩
      · injection (show some _ = some o from ho) with ho
        subst ho
        have HN : Hid (JF1 W1 pb lf gs oa n cap (fun j => if j = 12 then true else b j) u3 (.pointer (some ⟨x.heap.size, 0, none⟩)) u5 u6 u7 u8 u9 u10 u11 u12 u13 u14 u15 u16 (x.alloc (.cells #[.int .i64 0] 3))) := by
          obtain ⟨j0, j1, j2, j3, j4, j5, j6, j7, j8, j9, j10, j11, j12, j13, j14, j15, e0, e1⟩ := HJ.out
          refine ⟨j0, j1, j2, j3, j4, j5, j6, j7, j8, j9, j10, fun h => (j11 h).imp fun _ k => ⟨k.1, k.2.1, fun c => (k.2.2.1 c).below ((Below.refl _ x).alloc (Nat.le_refl _) (.cells #[.int .i64 0] 3)), fun c => (k.2.2.2 c).below ((Below.refl _ x).alloc (Nat.le_refl _) (.cells #[.int .i64 0] 3))⟩, fun _ => ⟨x.heap.size, rfl, e1.size, fun _ => Bk.new _ _ _, fun c => ?_⟩, j13, fun _ => rfl, j15, fun h1 h2 => ?_, e1.alloc e1.size _⟩
          · have := j14 c; rw [hbi] at this; cases this
          · obtain ⟨g, rfl, _, k1, k2⟩ := j11 h1
            have hg : g < x.heap.size := by
              cases hb : b 13
              · exact (k1 hb).lt
              · exact (k2 hb).lt
            intro c
            simp [blkV] at c
            omega
        clear HJ hpre
        go_simp
        exact hK _ _ ⟨u3, _, u5, u6, u7, u8, u9, u10, u11, u12, u13, u14, u15, u16, rfl, HN⟩
      · injection (show some _ = some o from ho) with ho
        subst ho
        have p3 : b 3 = true := hpre 3 (by decide +kernel)
        obtain rfl : u9 = .int .i64 lf := by obtain ⟨j0, j1, j2, j3, j4, j5, j6, j7, j8, j9, j10, j11, j12, j13, j14, j15, e0, e1⟩ := HJ.out; exact (j3 p3)
        have p11 : b 11 = true := hpre 11 (by decide +kernel)
        obtain ⟨g, rfl, hg1, z⟩ : ∃ g, u3 = .pointer (some ⟨g, 0, none⟩) ∧ W1.heap.size ≤ g ∧ Bk x g #[.int .i64 0] 3 := by
          obtain ⟨j0, j1, j2, j3, j4, j5, j6, j7, j8, j9, j10, j11, j12, j13, j14, j15, e0, e1⟩ := HJ.out
          obtain ⟨g, k1, k2, k3, _⟩ := j11 p11
          exact ⟨g, k1, k2, k3 hbi⟩
        have z0 : x.cell? ⟨g, 0, none⟩ = some (.int .i64 0) := by rw [z.cell]; rfl
        have f0 := z.frozen 0
        have HN : Hid (JF1 W1 pb lf gs oa n cap (fun j => if j = 13 then true else b j) (.pointer (some ⟨g, 0, none⟩)) u4 u5 u6 u7 u8 (.int .i64 lf) u10 u11 u12 u13 u14 u15 u16 (x.setCell ⟨g, 0, none⟩ (.int .i64 lf))) := by
          obtain ⟨j0, j1, j2, j3, j4, j5, j6, j7, j8, j9, j10, j11, j12, j13, j14, j15, e0, e1⟩ := HJ.out
          refine ⟨j0, j1, j2, j3, j4, j5, j6, j7, j8, j9, j10, fun _ => ⟨g, rfl, hg1, (fun c => by cases c), fun _ => z.put 0 _⟩, fun h => ?_, fun _ => p11, j14, j15, e0, e1.setCell (p := ⟨g, 0, none⟩) hg1 _⟩
          obtain ⟨g2, k1, k2, k3, k4⟩ := j12 h
          have hne : g ≠ g2 := fun e => e0 p11 h (by rw [k1, e])
          exact ⟨g2, k1, k2, fun c => (k3 c).other _ _ hne, fun c => (k4 c).other _ _ hne⟩
        clear HJ hpre z
        go_simp
        exact hK _ _ ⟨_, u4, u5, u6, u7, u8, _, u10, u11, u12, u13, u14, u15, u16, rfl, HN⟩
      · injection (show some _ = some o from ho) with ho
        subst ho
        have p5 : b 5 = true := hpre 5 (by decide +kernel)
        obtain rfl : u11 = .int .i64 gs := by obtain ⟨j0, j1, j2, j3, j4, j5, j6, j7, j8, j9, j10, j11, j12, j13, j14, j15, e0, e1⟩ := HJ.out; exact j5 p5
        have p12 : b 12 = true := hpre 12 (by decide +kernel)
        obtain ⟨g, rfl, hg1, z⟩ : ∃ g, u4 = .pointer (some ⟨g, 0, none⟩) ∧ W1.heap.size ≤ g ∧ Bk x g #[.int .i64 0] 3 := by
          obtain ⟨j0, j1, j2, j3, j4, j5, j6, j7, j8, j9, j10, j11, j12, j13, j14, j15, e0, e1⟩ := HJ.out
          obtain ⟨g, k1, k2, k3, _⟩ := j12 p12
          exact ⟨g, k1, k2, k3 hbi⟩
        have z0 : x.cell? ⟨g, 0, none⟩ = some (.int .i64 0) := by rw [z.cell]; rfl
        have f0 := z.frozen 0
        have HN : Hid (JF1 W1 pb lf gs oa n cap (fun j => if j = 14 then true else b j) u3 (.pointer (some ⟨g, 0, none⟩)) u5 u6 u7 u8 u9 u10 (.int .i64 gs) u12 u13 u14 u15 u16 (x.setCell ⟨g, 0, none⟩ (.int .i64 gs))) := by
          obtain ⟨j0, j1, j2, j3, j4, j5, j6, j7, j8, j9, j10, j11, j12, j13, j14, j15, e0, e1⟩ := HJ.out
          refine ⟨j0, j1, j2, j3, j4, j5, j6, j7, j8, j9, j10, fun h => ?_, fun _ => ⟨g, rfl, hg1, (fun c => by cases c), fun _ => z.put 0 _⟩, j13, fun _ => p12, j15, e0, e1.setCell (p := ⟨g, 0, none⟩) hg1 _⟩
          obtain ⟨g2, k1, k2, k3, k4⟩ := j11 h
          have hne : g ≠ g2 := fun e => e0 h p12 (by rw [k1, e])
          exact ⟨g2, k1, k2, fun c => (k3 c).other _ _ hne, fun c => (k4 c).other _ _ hne⟩
        clear HJ hpre z
        go_simp
        exact hK _ _ ⟨u3, _, u5, u6, u7, u8, u9, u10, _, u12, u13, u14, u15, u16, rfl, HN⟩
      · injection (show some _ = some o from ho) with ho
        subst ho
        have p10 : b 10 = true := hpre 10 (by decide +kernel)
        obtain rfl : u16 = .int .i64 n := by obtain ⟨j0, j1, j2, j3, j4, j5, j6, j7, j8, j9, j10, j11, j12, j13, j14, j15, e0, e1⟩ := HJ.out; exact (j10 p10)
        have HN : Hid (JF1 W1 pb lf gs oa n cap (fun j => if j = 15 then true else b j) u3 u4 (.int .i64 n) u6 u7 u8 u9 u10 u11 u12 u13 u14 u15 (.int .i64 n) x) := by
          obtain ⟨j0, j1, j2, j3, j4, j5, j6, j7, j8, j9, j10, j11, j12, j13, j14, j15, e0, e1⟩ := HJ.out
          exact ⟨j0, j1, j2, j3, j4, j5, j6, j7, j8, j9, j10, j11, j12, j13, j14, fun _ => rfl, e0, e1⟩
        clear HJ hpre
        go_simp
        exact hK _ _ ⟨u3, u4, _, u6, u7, u8, u9, u10, u11, u12, u13, u14, u15, _, rfl, HN⟩
    · intro b a x hI hall
      obtain ⟨u3, u4, u5, u6, u7, u8, u9, u10, u11, u12, u13, u14, u15, u16, rfl, HJ⟩ := hI
      have hall' : ∀ i, i < 16 → b i = true := fun i hi => hall i (by simpa using hi)
      obtain ⟨j0, j1, j2, j3, j4, j5, j6, j7, j8, j9, j10, j11, j12, j13, j14, j15, e0, e1⟩ := HJ.out
      obtain ⟨g3, rfl, k1, _, k2⟩ := j11 (hall' 11 (by omega))
      obtain ⟨g4, rfl, k3, _, k4⟩ := j12 (hall' 12 (by omega))
      have k5 := e0 (hall' 11 (by omega)) (hall' 12 (by omega))
      obtain rfl := j15 (hall' 15 (by omega))
      have HF : Hid (Below W1.heap.size W1 x ∧ Bk x g3 #[.int .i64 lf] 3 ∧ Bk x g4 #[.int .i64 gs] 3 ∧ W1.heap.size ≤ g3 ∧ W1.heap.size ≤ g4 ∧ g3 ≠ g4) := ⟨e1, k2 (hall' 13 (by omega)), k4 (hall' 14 (by omega)), k1, k3, fun e => k5 (by rw [e])⟩
      clear HJ hall hall' j0 j1 j2 j3 j4 j5 j6 j7 j8 j9 j10 j11 j12 j13 j14 j15 e0 e1 k1 k2 k3 k4 k5
      go_wp2_with fail
      go_meet
      exact ⟨g3, g4, rfl, rfl, rfl, HF⟩
  obtain ⟨bl, bg, rfl, rfl, rfl, HX1⟩ := hcut
  obtain rfl : gs = gsum L := Hgs.out
  have HX : Hid ((Sh w0 T tv pb sb (.slice oa (opn 0 L).length cap) (L.map (·.o)) lf wc.drew ∧ OwI w0.heap.size wc.drew (.slice oa (opn 0 L).length cap) (natI (opn 0 L))) ∧ Fi pb sb bs bl bg lf (gsum L) wc.drew) := by
    obtain ⟨k1, k2, k3, k4, k5, k6⟩ := HX1.out
    have hb : Below w.heap.size w wc.drew := (HB1.out.1.trans (k1.mono (by rw [HB1.out.2.1]; omega))).drew
    have hp := H0.out.1.lop
    refine ⟨⟨H0.out.1.below hb, H0.out.2.below hb⟩, ⟨?_, k2, k3, ?_, ?_, ?_⟩⟩
    · have : Bk W1 bs #[.pointer (some ⟨pb, 0, none⟩)] 112 := by rw [Hbs.out]; exact HB1.out.2.2
      exact this.below k1.drew
    · intro e
      have := H0.out.1.siz.lt
      have := HB1.out.2.1
      omega
    · intro e
      have := H0.out.1.siz.lt
      have := HB1.out.2.1
      omega
    · have := Hbs.out
      have := HB1.out.2.1
      refine ⟨?_, ?_, ?_⟩ <;> omega
  have HD : Hid (∀ x, ((Sh w0 T tv pb sb (.slice oa (opn 0 L).length cap) (L.map (·.o)) lf x ∧ OwI w0.heap.size x (.slice oa (opn 0 L).length cap) (natI (opn 0 L))) ∧ Fi pb sb bs bl bg lf (gsum L) x) → Calls Tryz.prog 93 #[.slice oa (opn 0 L).length cap, .func (.func 94) #[] #[.pointer (some ⟨bs, 0, none⟩), .pointer (some ⟨bl, 0, none⟩), .pointer (some ⟨bg, 0, none⟩)]] x fun e x' => ∃ u, e = .returned u ∧ Hid (DelK w0 T tv pb sb oa cap bs bl bg L lf u x')) := fun x hx => by
    have hap : (Value.slice oa (opn 0 L).length cap).ownBlock ≠ some bl ∧ (Value.slice oa (opn 0 L).length cap).ownBlock ≠ some bg := by
      have hlt : ∀ g, (Value.slice oa (opn 0 L).length cap).ownBlock = some g → g < W1.heap.size := fun g hg => by
        have := (row_lt H0.out.2 g hg).2
        rw [HB1.out.2.1]
        omega
      obtain ⟨_, _, _, k4, k5, _⟩ := HX1.out
      exact ⟨fun e => by have := hlt _ e; omega, fun e => by have := hlt _ e; omega⟩
    refine (delete_any (del_fs HS.out ⟨HA.out, hap⟩) x hx.1.1 hx.2 hx.1.2).mono ?_
    rintro e x' ⟨u, rfl, HU⟩
    obtain ⟨h1, h2, h3, h4⟩ := HU.out
    refine ⟨u, rfl, ⟨h1, h2, h3⟩, ?_⟩
    obtain ⟨on, cn, e, _, _⟩ := h2.is
    rw [natI_len, opn_fil lf (gsum L) T L 0 HS.out.drop fun c hc => (HS.out.inv.2 c hc).1] at e
    exact ⟨on, cn, e, h4⟩
  clear HX1 HG1 HB1 HW1 H0 b0 d2 d3 lbs lpb1 lpb Hgs Hbs
  go_upto_region 2 with fail
  go_cut [2] (fun _ wx => ∃ on cn, Hid (Shr w0 T tv pb sb (L.map (fil lf (gsum L))) (lf - lesS lf (gsum L) L) wx ∧ wx.cell? ⟨pb, 2, none⟩ = some (.slice on (opn 0 (L.map (fil lf (gsum L)))).length cn) ∧ wx.cell? ⟨bs, 0, none⟩ = some (.pointer (some ⟨pb, 0, none⟩))))
  case first =>
    refine wp_region_inv (I := (fun b a x => ∃ u17 u18 u19 u20 u21 u22 u23 u24 u25, a = ⟨#[.pointer (some ⟨pb, 0, none⟩), .pointer (some ⟨bs, 0, none⟩), .bool false, .pointer (some ⟨bl, 0, none⟩), .pointer (some ⟨bg, 0, none⟩), .int .i64 (opn 0 L).length, u6, u7, u8, u9, u10, u11, u12, u13, u14, u15, u16, u17, u18, u19, u20, u21, u22, u23, u24, u25, u26, u27, u28, u29, u30, u31, u32], []⟩ ∧ Hid (JF2 w0 T tv pb sb oa cap bs bl bg L lf b u17 u18 u19 u20 u21 u22 u23 u24 u25 x))) (by kernel_rfl) (by kernel_rfl) ?_ ?_ ?_
    · exact ⟨u17, u18, u19, u20, u21, u22, u23, u24, u25, rfl, ⟨(fun e => by cases e), (fun e => by cases e), (fun e => by cases e), (fun e => by cases e), (fun e => by cases e), (fun e => by cases e), (fun e => by cases e), (fun e => by cases e), (fun e => by cases e), (fun _ => HX.out.1), (fun e => by cases e), HX.out.2⟩⟩
    · intro b a x i o hI hbi ho hpre K' hK
      obtain ⟨u17, u18, u19, u20, u21, u22, u23, u24, u25, rfl, HJ⟩ := hI
      have hi : i < 10 := by have := (Array.getElem?_eq_some_iff.1 ho).1; simpa using this
      rcases (show i = 0 ∨ i = 1 ∨ i = 2 ∨ i = 3 ∨ i = 4 ∨ i = 5 ∨ i = 6 ∨ i = 7 ∨ i = 8 ∨ i = 9 by omega) with rfl | rfl | rfl | rfl | rfl | rfl | rfl | rfl | rfl | rfl
      · injection (show some _ = some o from ho) with ho
        subst ho
        have r0 : x.cell? ⟨bs, 0, none⟩ = some (.pointer (some ⟨pb, 0, none⟩)) := by obtain ⟨j0, j1, j2, j3, j4, j5, j7, j8, j9, e0, e1, e2⟩ := HJ.out; rw [e2.sp.cell]; rfl
        have HN : Hid (JF2 w0 T tv pb sb oa cap bs bl bg L lf (fun j => if j = 0 then true else b j) (.pointer (some ⟨pb, 0, none⟩)) u18 u19 u20 u21 u22 u23 u24 u25 x) := by
          obtain ⟨j0, j1, j2, j3, j4, j5, j7, j8, j9, e0, e1, e2⟩ := HJ.out
          exact ⟨fun _ => rfl, j1, j2, j3, j4, j5, j7, j8, j9, e0, e1, e2⟩
        clear HJ hpre
        go_simp
        exact hK _ _ ⟨_, u18, u19, u20, u21, u22, u23, u24, u25, rfl, HN⟩
      · injection (show some _ = some o from ho) with ho
        subst ho
        have r0 : x.cell? ⟨bs, 0, none⟩ = some (.pointer (some ⟨pb, 0, none⟩)) := by obtain ⟨j0, j1, j2, j3, j4, j5, j7, j8, j9, e0, e1, e2⟩ := HJ.out; rw [e2.sp.cell]; rfl
        have HN : Hid (JF2 w0 T tv pb sb oa cap bs bl bg L lf (fun j => if j = 1 then true else b j) u17 (.pointer (some ⟨pb, 0, none⟩)) u19 u20 u21 u22 u23 u24 u25 x) := by
          obtain ⟨j0, j1, j2, j3, j4, j5, j7, j8, j9, e0, e1, e2⟩ := HJ.out
          exact ⟨j0, fun _ => rfl, j2, j3, j4, j5, j7, j8, j9, e0, e1, e2⟩
        clear HJ hpre
        go_simp
        exact hK _ _ ⟨u17, _, u19, u20, u21, u22, u23, u24, u25, rfl, HN⟩
      · injection (show some _ = some o from ho) with ho
        subst ho
        have p1 : b 1 = true := hpre 1 (by decide +kernel)
        obtain rfl : u18 = .pointer (some ⟨pb, 0, none⟩) := by obtain ⟨j0, j1, j2, j3, j4, j5, j7, j8, j9, e0, e1, e2⟩ := HJ.out; exact (j1 p1)
        have HN : Hid (JF2 w0 T tv pb sb oa cap bs bl bg L lf (fun j => if j = 2 then true else b j) u17 (.pointer (some ⟨pb, 0, none⟩)) (.pointer (some ⟨pb, 0, none⟩)) u20 u21 u22 u23 u24 u25 x) := by
          obtain ⟨j0, j1, j2, j3, j4, j5, j7, j8, j9, e0, e1, e2⟩ := HJ.out
          exact ⟨j0, j1, fun _ => rfl, j3, j4, j5, j7, j8, j9, e0, e1, e2⟩
        clear HJ hpre
        go_simp
        exact hK _ _ ⟨u17, _, _, u20, u21, u22, u23, u24, u25, rfl, HN⟩
      · injection (show some _ = some o from ho) with ho
        subst ho
        have p2 : b 2 = true := hpre 2 (by decide +kernel)
        obtain rfl : u19 = .pointer (some ⟨pb, 0, none⟩) := by obtain ⟨j0, j1, j2, j3, j4, j5, j7, j8, j9, e0, e1, e2⟩ := HJ.out; exact (j2 p2)
        have HN : Hid (JF2 w0 T tv pb sb oa cap bs bl bg L lf (fun j => if j = 3 then true else b j) u17 u18 (.pointer (some ⟨pb, 0, none⟩)) (.pointer (some ⟨pb, 2, none⟩)) u21 u22 u23 u24 u25 x) := by
          obtain ⟨j0, j1, j2, j3, j4, j5, j7, j8, j9, e0, e1, e2⟩ := HJ.out
          exact ⟨j0, j1, j2, fun _ => rfl, j4, j5, j7, j8, j9, e0, e1, e2⟩
        clear HJ hpre
        go_simp
        exact hK _ _ ⟨u17, u18, _, _, u21, u22, u23, u24, u25, rfl, HN⟩
      · injection (show some _ = some o from ho) with ho
        subst ho
        have p3 : b 3 = true := hpre 3 (by decide +kernel)
        obtain rfl : u20 = .pointer (some ⟨pb, 2, none⟩) := by obtain ⟨j0, j1, j2, j3, j4, j5, j7, j8, j9, e0, e1, e2⟩ := HJ.out; exact (j3 p3)
        have hb6 : b 6 = false := by obtain ⟨j0, j1, j2, j3, j4, j5, j7, j8, j9, e0, e1, e2⟩ := HJ.out; cases h : b 6 with | false => rfl | true => (have q := (e1 h).1; rw [hbi] at q; cases q)
        have r2 : x.cell? ⟨pb, 2, none⟩ = some (.slice oa (opn 0 L).length cap) := by obtain ⟨j0, j1, j2, j3, j4, j5, j7, j8, j9, e0, e1, e2⟩ := HJ.out; exact (e0 hb6).1.reads.2.2.1
        have HN : Hid (JF2 w0 T tv pb sb oa cap bs bl bg L lf (fun j => if j = 4 then true else b j) u17 u18 u19 (.pointer (some ⟨pb, 2, none⟩)) (.slice oa (opn 0 L).length cap) u22 u23 u24 u25 x) := by
          obtain ⟨j0, j1, j2, j3, j4, j5, j7, j8, j9, e0, e1, e2⟩ := HJ.out
          exact ⟨j0, j1, j2, j3, fun _ => rfl, j5, j7, j8, j9, e0, fun h => ⟨rfl, (e1 h).2⟩, e2⟩
        clear HJ hpre
        go_simp
        exact hK _ _ ⟨u17, u18, u19, _, _, u22, u23, u24, u25, rfl, HN⟩
      · injection (show some _ = some o from ho) with ho
        subst ho
        have HN : Hid (JF2 w0 T tv pb sb oa cap bs bl bg L lf (fun j => if j = 5 then true else b j) u17 u18 u19 u20 u21 (.func (.func 94) #[] #[.pointer (some ⟨bs, 0, none⟩), .pointer (some ⟨bl, 0, none⟩), .pointer (some ⟨bg, 0, none⟩)]) u23 u24 u25 x) := by
          obtain ⟨j0, j1, j2, j3, j4, j5, j7, j8, j9, e0, e1, e2⟩ := HJ.out
          exact ⟨j0, j1, j2, j3, j4, fun _ => rfl, j7, j8, j9, e0, e1, e2⟩
        clear HJ hpre
        go_simp
        exact hK _ _ ⟨u17, u18, u19, u20, u21, _, u23, u24, u25, rfl, HN⟩
      · injection (show some _ = some o from ho) with ho
        subst ho
        have p4 : b 4 = true := hpre 4 (by decide +kernel)
        obtain rfl : u21 = .slice oa (opn 0 L).length cap := by obtain ⟨j0, j1, j2, j3, j4, j5, j7, j8, j9, e0, e1, e2⟩ := HJ.out; exact (j4 p4)
        have p5 : b 5 = true := hpre 5 (by decide +kernel)
        obtain rfl : u22 = .func (.func 94) #[] #[.pointer (some ⟨bs, 0, none⟩), .pointer (some ⟨bl, 0, none⟩), .pointer (some ⟨bg, 0, none⟩)] := by obtain ⟨j0, j1, j2, j3, j4, j5, j7, j8, j9, e0, e1, e2⟩ := HJ.out; exact (j5 p5)
        have HC := HD.out x (by obtain ⟨j0, j1, j2, j3, j4, j5, j7, j8, j9, e0, e1, e2⟩ := HJ.out; exact ⟨e0 hbi, e2⟩)
        have HN : Hid (∀ (u : Value) (x' : World), DelK w0 T tv pb sb oa cap bs bl bg L lf u x' → JF2 w0 T tv pb sb oa cap bs bl bg L lf (fun j => if j = 6 then true else b j) u17 u18 u19 u20 (.slice oa (opn 0 L).length cap) (.func (.func 94) #[] #[.pointer (some ⟨bs, 0, none⟩), .pointer (some ⟨bl, 0, none⟩), .pointer (some ⟨bg, 0, none⟩)]) (u) u24 u25 x') := fun u x' hd => by
          obtain ⟨j0, j1, j2, j3, j4, j5, j7, j8, j9, e0, e1, e2⟩ := HJ.out
          obtain ⟨k1, on, cn, k2, k3⟩ := hd
          exact ⟨j0, j1, j2, j3, j4, j5, j7, j8, fun _ => rfl, (fun h => by cases h), fun _ => ⟨p4, on, cn, k2, (fun _ => k1), fun h => by have := j9 h; rw [hbi] at this; cases this⟩, k3⟩
        clear HJ hpre
        go_simp
        refine HC.mono ?_
        rintro e x' ⟨u, rfl, hd⟩
        exact hK _ _ ⟨u17, u18, u19, u20, _, _, _, u24, u25, rfl, HN.out u x' hd.out⟩
      · injection (show some _ = some o from ho) with ho
        subst ho
        have p0 : b 0 = true := hpre 0 (by decide +kernel)
        obtain rfl : u17 = .pointer (some ⟨pb, 0, none⟩) := by obtain ⟨j0, j1, j2, j3, j4, j5, j7, j8, j9, e0, e1, e2⟩ := HJ.out; exact (j0 p0)
        have HN : Hid (JF2 w0 T tv pb sb oa cap bs bl bg L lf (fun j => if j = 7 then true else b j) (.pointer (some ⟨pb, 0, none⟩)) u18 u19 u20 u21 u22 u23 (.pointer (some ⟨pb, 0, none⟩)) u25 x) := by
          obtain ⟨j0, j1, j2, j3, j4, j5, j7, j8, j9, e0, e1, e2⟩ := HJ.out
          exact ⟨j0, j1, j2, j3, j4, j5, fun _ => rfl, j8, j9, e0, e1, e2⟩
        clear HJ hpre
        go_simp
        exact hK _ _ ⟨_, u18, u19, u20, u21, u22, u23, _, u25, rfl, HN⟩
      · injection (show some _ = some o from ho) with ho
        subst ho
        have p7 : b 7 = true := hpre 7 (by decide +kernel)
        obtain rfl : u24 = .pointer (some ⟨pb, 0, none⟩) := by obtain ⟨j0, j1, j2, j3, j4, j5, j7, j8, j9, e0, e1, e2⟩ := HJ.out; exact (j7 p7)
        have HN : Hid (JF2 w0 T tv pb sb oa cap bs bl bg L lf (fun j => if j = 8 then true else b j) u17 u18 u19 u20 u21 u22 u23 (.pointer (some ⟨pb, 0, none⟩)) (.pointer (some ⟨pb, 2, none⟩)) x) := by
          obtain ⟨j0, j1, j2, j3, j4, j5, j7, j8, j9, e0, e1, e2⟩ := HJ.out
          exact ⟨j0, j1, j2, j3, j4, j5, j7, fun _ => rfl, j9, e0, e1, e2⟩
        clear HJ hpre
        go_simp
        exact hK _ _ ⟨u17, u18, u19, u20, u21, u22, u23, _, _, rfl, HN⟩
      · injection (show some _ = some o from ho) with ho
        subst ho
        have p8 : b 8 = true := hpre 8 (by decide +kernel)
        obtain rfl : u25 = .pointer (some ⟨pb, 2, none⟩) := by obtain ⟨j0, j1, j2, j3, j4, j5, j7, j8, j9, e0, e1, e2⟩ := HJ.out; exact (j8 p8)
        have p6 : b 6 = true := hpre 6 (by decide +kernel)
        obtain ⟨on, cn, rfl, hB⟩ : ∃ on cn, u23 = .slice on (opn 0 (L.map (fil lf (gsum L)))).length cn ∧ Fin1 w0 T tv pb sb (.slice oa (opn 0 L).length cap) L lf u23 x := by
          obtain ⟨j0, j1, j2, j3, j4, j5, j7, j8, j9, e0, e1, e2⟩ := HJ.out
          obtain ⟨_, on, cn, k2, k3, _⟩ := e1 p6
          exact ⟨on, cn, k2, k3 hbi⟩
        have z := hB.2.2.pbk
        have z0 : x.cell? ⟨pb, 2, none⟩ = some (.slice oa (opn 0 L).length cap) := by rw [z.cell]; rfl
        have f0 := z.frozen 2
        have HN : Hid (JF2 w0 T tv pb sb oa cap bs bl bg L lf (fun j => if j = 9 then true else b j) u17 u18 u19 u20 u21 u22 (.slice on (opn 0 (L.map (fil lf (gsum L)))).length cn) u24 (.pointer (some ⟨pb, 2, none⟩)) (x.setCell ⟨pb, 2, none⟩ (.slice on (opn 0 (L.map (fil lf (gsum L)))).length cn))) := by
          obtain ⟨j0, j1, j2, j3, j4, j5, j7, j8, j9, e0, e1, e2⟩ := HJ.out
          obtain ⟨k4, _, _, _, _, _⟩ := e1 p6
          exact ⟨j0, j1, j2, j3, j4, j5, j7, j8, fun _ => p6, (fun h => by rw [show (fun j => if j = 9 then true else b j) 6 = b 6 from rfl, p6] at h; cases h), fun _ => ⟨k4, on, cn, rfl, (fun h => by cases h), fun _ => ⟨fin_shr hB HS.out HA.out, by rw [(z.put 2 _).cell]; rfl⟩⟩, e2.elsewhere pb 2 _ e2.np.1 e2.np.2.1 e2.np.2.2⟩
        clear HJ hpre z hB
        go_simp
        exact hK _ _ ⟨u17, u18, u19, u20, u21, u22, _, u24, _, rfl, HN⟩
    · intro b a x hI hall
      obtain ⟨u17, u18, u19, u20, u21, u22, u23, u24, u25, rfl, HJ⟩ := hI
      have hall' : ∀ i, i < 10 → b i = true := fun i hi => hall i (by simpa using hi)
      obtain ⟨j0, j1, j2, j3, j4, j5, j7, j8, j9, e0, e1, e2⟩ := HJ.out
      obtain ⟨_, on, cn, rfl, _, k2⟩ := e1 (hall' 6 (by omega))
      obtain ⟨k3, k4⟩ := k2 (hall' 9 (by omega))
      have HF : Hid (Shr w0 T tv pb sb (L.map (fil lf (gsum L))) (lf - lesS lf (gsum L) L) x ∧ x.cell? ⟨pb, 2, none⟩ = some (.slice on (opn 0 (L.map (fil lf (gsum L)))).length cn) ∧ x.cell? ⟨bs, 0, none⟩ = some (.pointer (some ⟨pb, 0, none⟩))) := ⟨k3, k4, by rw [e2.sp.cell]; rfl⟩
      clear HJ hall hall' j0 j1 j2 j3 j4 j5 j7 j8 j9 e0 e1 e2 k2 k3 k4
      go_wp2_with fail
      go_meet
      exact ⟨on, cn, HF⟩
  obtain ⟨on, cn, HY⟩ := hcut
  obtain ⟨_, y1, y2⟩ := HY.out
  have HZ : Hid (Shr w0 T tv pb sb (L.map (fil lf (gsum L))) (lf - lesS lf (gsum L) L) wc) := HY.out.1
  have Hdec : Hid (L.any (fulB lf (gsum L)) = decide ((opn 0 (L.map (fil lf (gsum L)))).length < (opn 0 L).length)) := HR.out
  clear HY HR HD HX HS HA
  go_wp2
  go_ret
  exact ⟨by rw [Hdec.out]; rfl, HZ⟩

end Go.Proofs.YthnhcphkpffkfaaGreat
