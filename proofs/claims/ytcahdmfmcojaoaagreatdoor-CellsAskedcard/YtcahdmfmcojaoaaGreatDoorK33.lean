/-
  Texts of this claim, one behind the other: what each is about stands ahead of it.
-/
import Derived.Test.YtcahdmfmcojaoaaGreatDoorK32
import Derived.Test.YtcahdmfmcojaoaaGreatDoorK31
import Derived.Test.YtcahdmfmcojaoaaGreatDoorK23
/-
  Contracts of package list: Check.
-/
namespace Go.Proofs.YtcahdmfmcojaoaaGreatDoor
open Go.RowKit

def Xys (l : List St) : Prop := ∀ s ∈ l, I64 s.r.x ∧ I64 s.r.y

set_option maxRecDepth 20000 in
set_option maxHeartbeats 4000000 in
theorem lcheck_any (l : List St) (v : Value) (w : World) (hv : LsS w v l) (ht : Txs l) (hi : Xys l) :
    Calls Tryz.prog 41 #[v] w fun e w' => e = .returned (.int .i64 (chkS l)) ∧ Below w.heap.size w w' := by
  obtain ⟨oa, cap, rfl, hc, hg⟩ := hv
  have HG : Hid (0 < l.length → ∃ g o, oa = some ⟨g, o, none⟩ ∧ g < w.heap.size ∧ ∀ i (h : i < l.length), StAt w g (o + i * 15) l[i]) := hg
  have HT : Hid (Txs l ∧ Xys l) := ⟨ht, hi⟩
  clear hg ht hi
  unfold chkS
  by_cases hm : 16384 < l.length
  · rw [if_pos hm]
    go_enter Tryz.func41, Tryz.ntmps41
    go_wp2
    go_ret
    exact ⟨rfl, Below.refl _ _⟩
  rw [if_neg hm]
  obtain ⟨R, hR⟩ : ∃ R : Int, clpE 0 l = R := ⟨_, rfl⟩
  rw [hR]
  go_enter Tryz.func41, Tryz.ntmps41
  go_wp2_with fail
  go_loopw [3, 12] (fun n i wr => ∃ m k : Nat, n = .int .i64 m ∧ m ≤ k ∧ i = .int .i64 k ∧ k ≤ l.length ∧ Hid (clpE m (l.drop k) = R ∧ Below w.heap.size w wr)) (fun _ i _ => l.length - (intOf i).toNat)
  case atStart => exact ⟨0, 0, rfl, Nat.le_refl _, rfl, Nat.zero_le _, hR, Below.refl _ _⟩
  case round =>
    clear hR
    obtain ⟨m, k, rfl, hmk, rfl, hk, HK⟩ := hrel
    by_cases hlt : k < l.length
    · obtain ⟨g, o, rfl, hg, hat⟩ := HG.out (by omega)
      have hx := (hat k hlt).kept (w' := wr) fun j => HK.out.2.cell (p := ⟨g, j, none⟩) hg
      have hst := clp_step (show clpE m (l[k] :: l.drop (k + 1)) = R by rw [← List.drop_eq_getElem_cons hlt]; exact HK.out.1)
      have HR : Hid (∀ w, Calls Tryz.prog 75 #[(Value.agg #[.int .u8 l[k].k, .int .i64 l[k].r.x, .int .i64 l[k].r.y, .int .i64 l[k].r.w, .int .i64 l[k].r.h, .int .u8 l[k].c.r, .int .u8 l[k].c.g, .int .u8 l[k].c.b, .int .u8 l[k].c.a, .int .u8 l[k].b.r, .int .u8 l[k].b.g, .int .u8 l[k].b.b, .int .u8 l[k].b.a, .string l[k].t, .int .i64 l[k].n])] w fun e w' => e = .returned (.int .i64 (oneE l[k])) ∧ Below w.heap.size w w') := fun w => mayBe_any _ w (HT.out.1 _ (List.getElem_mem hlt)) (HT.out.2 _ (List.getElem_mem hlt)).1 (HT.out.2 _ (List.getElem_mem hlt)).2
      have HX : Hid (∀ W, Below (wr.alloc (.cells (#[.int .u8 l[k].k, .int .i64 l[k].r.x, .int .i64 l[k].r.y, .int .i64 l[k].r.w, .int .i64 l[k].r.h, .int .u8 l[k].c.r, .int .u8 l[k].c.g, .int .u8 l[k].c.b, .int .u8 l[k].c.a, .int .u8 l[k].b.r, .int .u8 l[k].b.g, .int .u8 l[k].b.b, .int .u8 l[k].b.a, .string l[k].t, .int .i64 l[k].n]) 59)).heap.size (wr.alloc (.cells (#[.int .u8 l[k].k, .int .i64 l[k].r.x, .int .i64 l[k].r.y, .int .i64 l[k].r.w, .int .i64 l[k].r.h, .int .u8 l[k].c.r, .int .u8 l[k].c.g, .int .u8 l[k].c.b, .int .u8 l[k].c.a, .int .u8 l[k].b.r, .int .u8 l[k].b.g, .int .u8 l[k].b.b, .int .u8 l[k].b.a, .string l[k].t, .int .i64 l[k].n]) 59)) W → W.cell? ⟨wr.heap.size, 0, none⟩ = some (.int .u8 l[k].k) ∧ Below w.heap.size w W) := fun W h => by
        refine ⟨?_, ?_⟩
        · have := ((Bk.new wr (#[.int .u8 l[k].k, .int .i64 l[k].r.x, .int .i64 l[k].r.y, .int .i64 l[k].r.w, .int .i64 l[k].r.h, .int .u8 l[k].c.r, .int .u8 l[k].c.g, .int .u8 l[k].c.b, .int .u8 l[k].c.a, .int .u8 l[k].b.r, .int .u8 l[k].b.g, .int .u8 l[k].b.b, .int .u8 l[k].b.a, .string l[k].t, .int .i64 l[k].n]) 59).below h).cell 0
          simpa using this
        · have h2 : Below w.heap.size w (wr.alloc (.cells (#[.int .u8 l[k].k, .int .i64 l[k].r.x, .int .i64 l[k].r.y, .int .i64 l[k].r.w, .int .i64 l[k].r.h, .int .u8 l[k].c.r, .int .u8 l[k].c.g, .int .u8 l[k].c.b, .int .u8 l[k].c.a, .int .u8 l[k].b.r, .int .u8 l[k].b.g, .int .u8 l[k].b.b, .int .u8 l[k].b.a, .string l[k].t, .int .i64 l[k].n]) 59)) := HK.out.2.alloc HK.out.2.size _
          exact h2.trans (h.mono h2.size)
      have hcs := oneE_cases l[k]
      have h45 : oneE l[k] = 0 → l[k].k = 1 ∨ l[k].k = 2 ∨ l[k].k = 3 ∨ l[k].k = 4 ∨ l[k].k = 5 := fun h => (oneE_zero h).2.1
      have HS : Hid ((oneE l[k] ≠ 0 → R = oneE l[k]) ∧ (oneE l[k] = 0 → l[k].k = 5 → m = 0 → R = 130) ∧ (oneE l[k] = 0 → ¬ (l[k].k = 5 ∧ m = 0) → clpE (opn m l[k]) (l.drop (k + 1)) = R)) := hst
      have HO : Hid ((l[k].k = 4 → opn m l[k] = m + 1) ∧ (l[k].k = 5 → opn m l[k] = m - 1) ∧ (l[k].k < 4 → opn m l[k] = m)) := by
        unfold Hid opn
        exact ⟨fun h => by rw [if_pos h], fun h => by rw [if_neg (by omega), if_pos h], fun h => by rw [if_neg (by omega), if_neg (by omega)]⟩
      clear hat hst HT
      generalize oneE l[k] = c at *
      generalize l[k] = x at *
      obtain ⟨x0, x1, x2, x3, x4, x5, x6, x7, x8, x9, x10, x11, x12, x13, x14⟩ := hx
      rcases hcs with rfl | rfl | rfl
      · have hk5 := h45 rfl
        clear h45
        go_wp2_with fail
        refine (HR.out _).mono ?_
        rintro e w1 ⟨rfl, hb⟩
        obtain ⟨y0, hB⟩ := HX.out _ hb
        have H1 : Hid (Below w.heap.size w w1) := hB
        clear hb hB x0 x1 x2 x3 x4 x5 x6 x7 x8 x9 x10 x11 x12 x13 x14 HX HR
        have HS2 : Hid (x.k < 4 → clpE m (l.drop (k + 1)) = R) := fun h => by
          have q := HS.out.2.2 (by simp) (fun e => by omega)
          rwa [HO.out.2.2 h] at q
        have HS4 : Hid (x.k = 4 → clpE (m + 1) (l.drop (k + 1)) = R) := fun h => by
          have q := HS.out.2.2 (by simp) (fun e => by omega)
          rwa [HO.out.1 h] at q
        have HS5 : Hid (x.k = 5 → m = 0 → R = 130) := fun h h2 => HS.out.2.1 (by simp) h h2
        have HS6 : Hid (x.k = 5 → m ≠ 0 → clpE (m - 1) (l.drop (k + 1)) = R) := fun h h2 => by
          have q := HS.out.2.2 (by simp) (fun e => h2 e.2)
          rwa [HO.out.2.1 h] at q
        clear HS HO
        rcases hk5 with k1 | k1 | k1 | k1 | k1
        iterate 3
          · have HF := HS2.out (by omega)
            have HF' : Hid (clpE m (l.drop (k + 1)) = R ∧ Below w.heap.size w w1) := ⟨HF, H1.out⟩
            clear HF HS2 HS4 HS5 HS6
            go_wp2
            go_roundw
            case rel => exact ⟨m, k + 1, rfl, by omega, by go_num, by omega, HF'⟩
            case measure => simp [intOf]; omega
        · have HF := HS4.out k1
          have HF' : Hid (clpE (m + 1) (l.drop (k + 1)) = R ∧ Below w.heap.size w w1) := ⟨HF, H1.out⟩
          clear HF HS2 HS4 HS5 HS6
          go_wp2
          go_roundw
          case rel => exact ⟨m + 1, k + 1, by go_num, by omega, by go_num, by omega, HF'⟩
          case measure => simp [intOf]; omega
        · by_cases hm0 : m = 0
          · have e := HS5.out k1 hm0
            subst hm0
            subst e
            clear HS2 HS4 HS5 HS6
            go_wp2
            go_ret
            exact ⟨rfl, H1.out⟩
          · have HF := HS6.out k1 hm0
            obtain ⟨m', rfl⟩ : ∃ m', m = m' + 1 := ⟨m - 1, by omega⟩
            have HF' : Hid (clpE m' (l.drop (k + 1)) = R ∧ Below w.heap.size w w1) := ⟨HF, H1.out⟩
            clear HF HS2 HS4 HS5 HS6 hm0
            go_wp2
            go_roundw
            case rel => exact ⟨m', k + 1, by go_num, by omega, by go_num, by omega, HF'⟩
            case measure => simp [intOf]; omega
      iterate 2
        · have e := HS.out.1 (by decide)
          subst e
          clear h45 HS HO
          go_wp2_with fail
          refine (HR.out _).mono ?_
          rintro e w1 ⟨rfl, hb⟩
          obtain ⟨y0, hB⟩ := HX.out _ hb
          have H1 : Hid (Below w.heap.size w w1) := hB
          clear hb hB
          go_wp2
          go_ret
          exact ⟨rfl, H1.out⟩
    · obtain rfl : k = l.length := by omega
      have hR := HK.out.1
      rw [List.drop_length] at hR
      have H1 : Hid (Below w.heap.size w wr) := HK.out.2
      unfold clpE at hR
      by_cases hm0 : 0 < m
      · rw [if_pos hm0] at hR
        subst hR
        clear HK HT
        go_wp2
        go_ret
        exact ⟨rfl, H1.out⟩
      · rw [if_neg hm0] at hR
        subst hR
        obtain rfl : m = 0 := by omega
        clear HK HT
        go_wp2
        go_ret
        exact ⟨rfl, H1.out⟩

end Go.Proofs.YtcahdmfmcojaoaaGreatDoor

/-
  Contracts of package list: the rectangles in which strokes show.
-/
namespace Go.Proofs.YtcahdmfmcojaoaaGreatDoor
open Go.RowKit

theorem flat_rep (n : Nat) : flat (List.replicate n zr) = List.replicate (n * 4) (.int .i64 0) := by
  induction n with
  | zero => rfl
  | succ n ih =>
    rw [List.replicate_succ, show (n + 1) * 4 = n * 4 + 1 + 1 + 1 + 1 by omega, List.replicate_succ, List.replicate_succ, List.replicate_succ, List.replicate_succ]
    show cel zr ++ flat (List.replicate n zr) = _
    rw [ih]
    rfl
set_option maxRecDepth 20000 in
theorem info_rcN : (Tryz.prog.info? 56).map (fun i => (i.zero, i.size, i.bytes)) = some (some (.agg #[.int .i64 0, .int .i64 0, .int .i64 0, .int .i64 0]), 4, 32) := by kernel_rfl
set_option maxRecDepth 10000 in
theorem make_rcs (n : Nat) (hn : n < 1000000) (w : World) : (Instr.makeSlice 45 (.int .i64 (n : Nat)) (.int .i64 (n : Nat))).run Tryz.prog w = .ok (.slice (some ⟨w.heap.size, 0, none⟩) n n) (w.alloc (.cells (flat (List.replicate n zr)).toArray 56)) := by
  obtain ⟨i0, hi, hz0, hz1, hz2⟩ := info_parts info_rcN
  have h := run_make (P := Tryz.prog) w 45 56 i0 (.agg #[.int .i64 0, .int .i64 0, .int .i64 0, .int .i64 0]) Tryz.underlying45 hi hz0 .i64 .i64 (n : Int) (n : Int) (by omega) (Int.le_refl _) (by rw [hz2]; omega) (by omega)
  simp only [Int.toNat_natCast, hz1] at h
  rw [h, flat_rep]
  congr 3
  refine Array.ext (by simp [size_madeCells]) fun i h1 h2 => ?_
  have h3 : i % 4 < 4 := Nat.mod_lt _ (by omega)
  simp [madeCells, Value.cells]
  generalize i % 4 = j at h3
  match j, h3 with
  | 0, _ => rfl
  | 1, _ => rfl
  | 2, _ => rfl
  | 3, _ => rfl
theorem own_new {lo : Nat} {w : World} {n : Nat} {L : List Rc} (hl : L.length = n) (hlo : lo ≤ w.heap.size) (hn : n < 1000000) : OwR lo (w.alloc (.cells (flat L).toArray 56)) (.slice (some ⟨w.heap.size, 0, none⟩) n n) L := by
  refine ⟨flat_len L, .inr ⟨w.heap.size, n, (flat L).toArray, by rw [hl], hlo, Bk.new _ _ _, by omega, by unfold maxLen; omega, by simp [flat_len, hl], ?_⟩⟩
  rw [hl]
  simp only []
  exact List.take_of_length_le (by rw [flat_len, hl]; exact Nat.le_refl _)
theorem flat_put : ∀ (L : List Rc) (k : Nat) (_ : k < L.length) (r : Rc), ((((flat L).set (k * 4) (.int .i64 r.x)).set (k * 4 + 1) (.int .i64 r.y)).set (k * 4 + 2) (.int .i64 r.w)).set (k * 4 + 3) (.int .i64 r.h) = flat (L.set k r)
  | [], k, h, _ => absurd h (Nat.not_lt_zero _)
  | s :: L, 0, _, r => by
    show ((((cel s ++ flat L).set 0 _).set 1 _).set 2 _).set 3 _ = _
    rfl
  | s :: L, k + 1, h, r => by
    have h' : k < L.length := by simpa using h
    have ih := flat_put L k h' r
    have e : ∀ (X : List Value) (j : Nat) (v : Value), (cel s ++ X).set ((k + 1) * 4 + j) v = cel s ++ X.set (k * 4 + j) v := fun X j v => by
      have hc : (cel s).length = 4 := rfl
      rw [List.set_append_right _ _ (by rw [hc]; omega), hc]
      congr 2
      omega
    have e0 := fun X v => e X 0 v
    simp only [Nat.add_zero] at e0
    show ((((cel s ++ flat L).set ((k + 1) * 4) _).set ((k + 1) * 4 + 1) _).set ((k + 1) * 4 + 2) _).set ((k + 1) * 4 + 3) _ = _
    rw [e0, e, e, e, ih]
    rfl

set_option maxHeartbeats 1000000 in
theorem every_any (w : World) : Calls Tryz.prog 103 #[] w fun e w' => e = .returned (.agg #[.int .i64 (-16384), .int .i64 (-16384), .int .i64 32768, .int .i64 32768]) ∧ Below w.heap.size w w' := by
  have HL : Hid (∀ c, Below w.heap.size w (w.alloc c)) := fun c => (Below.refl _ w).alloc (Nat.le_refl _) _
  have B := fun c => Bk.new w #[.int .i64 (-16384), .int .i64 (-16384), .int .i64 32768, c] 56
  go_enter Tryz.func103, Tryz.ntmps103
  go_wp2
  exact bodyPost_ret (v := .agg #[.int .i64 (-16384), .int .i64 (-16384), .int .i64 32768, .int .i64 32768]) (by simp [results, Tryz.results103, go_sem]) rfl ⟨rfl, HL.out _⟩

def rowS (l : List St) (k : Nat) : List Rc := ((ann [] l).map Prod.snd).take k ++ List.replicate (l.length - k) zr
theorem rowS_len (l : List St) (k : Nat) (h : k ≤ l.length) : (rowS l k).length = l.length := by
  unfold rowS
  rw [List.length_append, List.length_take, List.length_map, ann_len, List.length_replicate]
  omega
theorem rowS_next {l : List St} {k : Nat} {cs : List Rc} (h : k < l.length) (hd : (ann [] l).drop k = ann cs (l.drop k)) (he : clpE cs.length (l.drop k) = 0) : (rowS l k).set k (shR cs l[k]) = rowS l (k + 1) := by
  obtain ⟨h1, _⟩ := sh_next h hd he
  unfold rowS
  rw [h1]
  have e : (((ann [] l).map Prod.snd).take k).length = k := by rw [List.length_take, List.length_map, ann_len]; omega
  rw [List.set_append_right _ _ (by omega), e, Nat.sub_self, show l.length - k = (l.length - (k + 1)) + 1 by omega, List.replicate_succ, List.set_cons_zero, List.append_assoc]
  rfl
theorem rowS_same {l : List St} {k : Nat} {cs : List Rc} (h : k < l.length) (hd : (ann [] l).drop k = ann cs (l.drop k)) (he : clpE cs.length (l.drop k) = 0) (hz : shR cs l[k] = zr) : rowS l k = rowS l (k + 1) := by
  rw [← rowS_next h hd he, hz]
  unfold rowS
  have e : (((ann [] l).map Prod.snd).take k).length = k := by rw [List.length_take, List.length_map, ann_len]; omega
  rw [List.set_append_right _ _ (by omega), e, Nat.sub_self, show l.length - k = (l.length - (k + 1)) + 1 by omega, List.replicate_succ, List.set_cons_zero]
theorem shR_open {cs : List Rc} {s : St} (h1 : oneE s = 0) (h5 : s.k = 5) : shR cs s = zr := by
  obtain ⟨_, _, hf⟩ := oneE_zero h1
  have hz : zZr s.r = true := by
    unfold wroF at hf
    simp [h5] at hf
    exact hf.2.2
  have e : s.r = zr := rc_of_eqB (q := zr) hz
  rw [shR_top, e, me_nil (.inl em_zr)]
structure ShP (w : World) (l : List St) (k : Nat) (cs : List Rc) (u v : Value) (W : World) : Prop where
  o : OwR w.heap.size W u (rowS l k)
  c : OwR w.heap.size W v (evR :: cs.reverse)
  a : Apt u v
  b : Below w.heap.size w W
  d : (ann [] l).drop k = ann cs (l.drop k)
  e : clpE cs.length (l.drop k) = 0
  m : ∀ c ∈ cs, zMa c = true
theorem ShP.below {w : World} {l : List St} {k : Nat} {cs : List Rc} {u v : Value} {W W' : World} (h : ShP w l k cs u v W) (hb : Below W.heap.size W W') : ShP w l k cs u v W' := ⟨h.o.below hb, h.c.below hb, h.a, h.b.trans (hb.mono h.b.size), h.d, h.e, h.m⟩
theorem own_top {lo : Nat} {w : World} {gc n cc : Nat} {cs : List Rc} (hn : n = cs.length) (h : OwR lo w (.slice (some ⟨gc, 0, none⟩) (n + 1) cc) (evR :: cs.reverse)) : RcAt w gc (n * 4) (topP cs) := by
  have hl : (evR :: cs.reverse).length = n + 1 := by simp [hn]
  unfold OwR at h
  rw [hl] at h
  have hk : n < (evR :: cs.reverse).length := by omega
  have e : (evR :: cs.reverse)[n] = topP cs := by
    subst hn
    cases cs with
    | nil => rfl
    | cons c t => simp [topP]
  obtain ⟨f0, f1, f2, f3⟩ := flat_at (evR :: cs.reverse) n hk
  rw [e] at f0 f1 f2 f3
  exact ⟨(own_cell h _ (by omega)).trans f0, (own_cell h _ (by omega)).trans f1, (own_cell h _ (by omega)).trans f2, (own_cell h _ (by omega)).trans f3⟩
theorem i64_near {x : Int} (h : -16384 ≤ x ∧ x ≤ 16384) : I64 x := by unfold I64; omega
theorem top_i64 {cs : List Rc} (h : ∀ c ∈ cs, zMa c = true) : I64 (topP cs).x ∧ I64 (topP cs).y := by
  cases cs with
  | nil => exact ⟨i64_near (show -16384 ≤ (-16384 : Int) ∧ (-16384 : Int) ≤ 16384 by omega), i64_near (show -16384 ≤ (-16384 : Int) ∧ (-16384 : Int) ≤ 16384 by omega)⟩
  | cons c t =>
    have := may_bd (h c (by simp))
    exact ⟨i64_near ⟨this.1, this.2.1⟩, i64_near ⟨this.2.2.1, this.2.2.2.1⟩⟩

end Go.Proofs.YtcahdmfmcojaoaaGreatDoor

/-
  Contracts of the document's answer for layer 13: the places at which a stroke shows.
-/
namespace Go.Proofs.YtcahdmfmcojaoaaGreatDoor
open Go.RowKit

theorem own_one {lo : Nat} {W : World} {b : Nat} {r : Rc} (h : Bk W b #[.int .i64 r.x, .int .i64 r.y, .int .i64 r.w, .int .i64 r.h] 56) (hb : lo ≤ b) : OwR lo W (.slice (some ⟨b, 0, none⟩) 1 1) [r] :=
  ⟨rfl, .inr ⟨b, 1, _, rfl, hb, h, Nat.le_refl _, by unfold maxLen; omega, by simp, rfl⟩⟩
end Go.Proofs.YtcahdmfmcojaoaaGreatDoor
