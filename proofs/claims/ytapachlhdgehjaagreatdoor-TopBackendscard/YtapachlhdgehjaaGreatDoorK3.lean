/-
  Texts of this claim, one behind the other: what each is about stands ahead of it.
-/
import Derived.Test.YtapachlhdgehjaaGreatDoorK2
/-
  Contracts of the document's answer for layer 13: Check, Draws.
-/
namespace Go.Proofs.YtapachlhdgehjaaGreatDoor
open Go.RowKit

def Txs (l : List St) : Prop := ∀ s ∈ l, s.t.size ≤ 9223372036854775807

theorem clp_step {m : Nat} {s : St} {t : List St} {R : Int} (h : clpE m (s :: t) = R) : (oneE s ≠ 0 → R = oneE s) ∧ (oneE s = 0 → s.k = 5 → m = 0 → R = 130) ∧ (oneE s = 0 → ¬ (s.k = 5 ∧ m = 0) → clpE (opn m s) t = R) := by
  unfold clpE at h
  refine ⟨fun h1 => ?_, fun h1 h2 h3 => ?_, fun h1 h2 => ?_⟩
  · rw [if_pos h1] at h; exact h.symm
  · rw [if_neg (by simp [h1]), if_pos ⟨h2, h3⟩] at h; exact h.symm
  · rw [if_neg (by simp [h1]), if_neg h2] at h; exact h

set_option maxRecDepth 20000 in
set_option maxHeartbeats 4000000 in
theorem zcheck_any (l : List St) (v : Value) (w : World) (hv : LsS w v l) (ht : Txs l) :
    Calls Tryz.prog 19 #[v] w fun e w' => e = .returned (.int .i64 (chkS l)) ∧ Below w.heap.size w w' := by
  obtain ⟨oa, cap, rfl, hc, hg⟩ := hv
  have HG : Hid (0 < l.length → ∃ g o, oa = some ⟨g, o, none⟩ ∧ g < w.heap.size ∧ ∀ i (h : i < l.length), StAt w g (o + i * 15) l[i]) := hg
  have HT : Hid (Txs l) := ht
  clear hg ht
  unfold chkS
  by_cases hm : 16384 < l.length
  · rw [if_pos hm]
    go_enter Tryz.func19, Tryz.ntmps19
    go_wp2
    go_ret
    exact ⟨rfl, Below.refl _ _⟩
  rw [if_neg hm]
  obtain ⟨R, hR⟩ : ∃ R : Int, clpE 0 l = R := ⟨_, rfl⟩
  rw [hR]
  go_enter Tryz.func19, Tryz.ntmps19
  go_wp2_with fail
  go_loopw [3, 4] (fun n i wr => ∃ m k : Nat, n = .int .i64 m ∧ m ≤ k ∧ i = .int .i64 k ∧ k ≤ l.length ∧ Hid (clpE m (l.drop k) = R ∧ Below w.heap.size w wr)) (fun _ i _ => l.length - (intOf i).toNat)
  case atStart => exact ⟨0, 0, rfl, Nat.le_refl _, rfl, Nat.zero_le _, hR, Below.refl _ _⟩
  case round =>
    clear hR
    obtain ⟨m, k, rfl, hmk, rfl, hk, HK⟩ := hrel
    by_cases hlt : k < l.length
    · obtain ⟨g, o, rfl, hg, hat⟩ := HG.out (by omega)
      have hx := (hat k hlt).kept (w' := wr) fun j => HK.out.2.cell (p := ⟨g, j, none⟩) hg
      have hst := clp_step (show clpE m (l[k] :: l.drop (k + 1)) = R by rw [← List.drop_eq_getElem_cons hlt]; exact HK.out.1)
      have HR : Hid (∀ w, Calls Tryz.prog 42 #[(Value.agg #[.int .u8 l[k].k, .int .i64 l[k].r.x, .int .i64 l[k].r.y, .int .i64 l[k].r.w, .int .i64 l[k].r.h, .int .u8 l[k].c.r, .int .u8 l[k].c.g, .int .u8 l[k].c.b, .int .u8 l[k].c.a, .int .u8 l[k].b.r, .int .u8 l[k].b.g, .int .u8 l[k].b.b, .int .u8 l[k].b.a, .string l[k].t, .int .i64 l[k].n])] w fun e w' => e = .returned (.int .i64 (oneE l[k])) ∧ Below w.heap.size w w') := fun w => zone_any _ w (HT.out _ (List.getElem_mem hlt))
      have HX : Hid (∀ W, Below wr.heap.size wr W → W.cell? ⟨g, o + k * 15, none⟩ = some (.int .u8 l[k].k) ∧ Below w.heap.size w W) := fun W h => ⟨(h.cell (p := ⟨g, o + k * 15, none⟩) (Nat.lt_of_lt_of_le hg HK.out.2.size)).trans hx.1, HK.out.2.trans (h.mono HK.out.2.size)⟩
      have hcs := oneE_cases l[k]
      have h45 : oneE l[k] = 0 → l[k].k = 1 ∨ l[k].k = 2 ∨ l[k].k = 3 ∨ l[k].k = 4 ∨ l[k].k = 5 := fun h => (oneE_zero h).2.1
      have HS : Hid ((oneE l[k] ≠ 0 → R = oneE l[k]) ∧ (oneE l[k] = 0 → l[k].k = 5 → m = 0 → R = 130) ∧ (oneE l[k] = 0 → ¬ (l[k].k = 5 ∧ m = 0) → clpE (opn m l[k]) (l.drop (k + 1)) = R)) := hst
      have HO : Hid ((l[k].k = 4 → opn m l[k] = m + 1) ∧ (l[k].k = 5 → opn m l[k] = m - 1) ∧ (l[k].k < 4 → opn m l[k] = m)) := by
        unfold Hid opn
        exact ⟨fun h => by rw [if_pos h], fun h => by rw [if_neg (by omega), if_pos h], fun h => by rw [if_neg (by omega), if_neg (by omega)]⟩
      clear hat hst HT
      generalize oneE l[k] = c at *
      generalize l[k] = x at *
      obtain ⟨x0, x1, x2, x3, x4, x5, x6, x7, x8, x9, x10, x11, x12, x13, x14⟩ := hx
      rcases hcs with rfl | rfl | rfl
      · have hk5 := h45 rfl
        clear h45
        go_wp2_with fail
        refine (HR.out _).mono ?_
        rintro e w1 ⟨rfl, hb⟩
        obtain ⟨y0, hB⟩ := HX.out _ hb
        have H1 : Hid (Below w.heap.size w w1) := hB
        clear hb hB x0 x1 x2 x3 x4 x5 x6 x7 x8 x9 x10 x11 x12 x13 x14 HX HR
        have HS2 : Hid (x.k < 4 → clpE m (l.drop (k + 1)) = R) := fun h => by
          have q := HS.out.2.2 (by simp) (fun e => by omega)
          rwa [HO.out.2.2 h] at q
        have HS4 : Hid (x.k = 4 → clpE (m + 1) (l.drop (k + 1)) = R) := fun h => by
          have q := HS.out.2.2 (by simp) (fun e => by omega)
          rwa [HO.out.1 h] at q
        have HS5 : Hid (x.k = 5 → m = 0 → R = 130) := fun h h2 => HS.out.2.1 (by simp) h h2
        have HS6 : Hid (x.k = 5 → m ≠ 0 → clpE (m - 1) (l.drop (k + 1)) = R) := fun h h2 => by
          have q := HS.out.2.2 (by simp) (fun e => h2 e.2)
          rwa [HO.out.2.1 h] at q
        clear HS HO
        rcases hk5 with k1 | k1 | k1 | k1 | k1
        iterate 3
          · have HF := HS2.out (by omega)
            have HF' : Hid (clpE m (l.drop (k + 1)) = R ∧ Below w.heap.size w w1) := ⟨HF, H1.out⟩
            clear HF HS2 HS4 HS5 HS6
            go_wp2
            go_roundw
            case rel => exact ⟨m, k + 1, rfl, by omega, by go_num, by omega, HF'⟩
            case measure => simp [intOf]; omega
        · have HF := HS4.out k1
          have HF' : Hid (clpE (m + 1) (l.drop (k + 1)) = R ∧ Below w.heap.size w w1) := ⟨HF, H1.out⟩
          clear HF HS2 HS4 HS5 HS6
          go_wp2
          go_roundw
          case rel => exact ⟨m + 1, k + 1, by go_num, by omega, by go_num, by omega, HF'⟩
          case measure => simp [intOf]; omega
        · by_cases hm0 : m = 0
          · have e := HS5.out k1 hm0
            subst hm0
            subst e
            clear HS2 HS4 HS5 HS6
            go_wp2
            go_ret
            exact ⟨rfl, H1.out⟩
          · have HF := HS6.out k1 hm0
            obtain ⟨m', rfl⟩ : ∃ m', m = m' + 1 := ⟨m - 1, by omega⟩
            have HF' : Hid (clpE m' (l.drop (k + 1)) = R ∧ Below w.heap.size w w1) := ⟨HF, H1.out⟩
            clear HF HS2 HS4 HS5 HS6 hm0
            go_wp2
            go_roundw
            case rel => exact ⟨m', k + 1, by go_num, by omega, by go_num, by omega, HF'⟩
            case measure => simp [intOf]; omega
      iterate 2
        · have e := HS.out.1 (by decide)
          subst e
          clear h45 HS HO
          go_wp2_with fail
          refine (HR.out _).mono ?_
          rintro e w1 ⟨rfl, hb⟩
          obtain ⟨y0, hB⟩ := HX.out _ hb
          have H1 : Hid (Below w.heap.size w w1) := hB
          clear hb hB
          go_wp2
          go_ret
          exact ⟨rfl, H1.out⟩
    · obtain rfl : k = l.length := by omega
      have hR := HK.out.1
      rw [List.drop_length] at hR
      have H1 : Hid (Below w.heap.size w wr) := HK.out.2
      unfold clpE at hR
      by_cases hm0 : 0 < m
      · rw [if_pos hm0] at hR
        subst hR
        clear HK HT
        go_wp2
        go_ret
        exact ⟨rfl, H1.out⟩
      · rw [if_neg hm0] at hR
        subst hR
        obtain rfl : m = 0 := by omega
        clear HK HT
        go_wp2
        go_ret
        exact ⟨rfl, H1.out⟩

end Go.Proofs.YtapachlhdgehjaaGreatDoor

/-
  Strokes as they come in.
-/
namespace Go.Proofs.YtapachlhdgehjaaGreatDoor
open Go.RowKit

def WfS (s : St) : Prop := (0 ≤ s.k ∧ s.k ≤ 255) ∧ (I64 s.r.x ∧ I64 s.r.y ∧ I64 s.r.w ∧ I64 s.r.h) ∧ s.c.ok ∧ s.b.ok ∧ s.t.size ≤ 9223372036854775807 ∧ I64 s.n
def Wfs (l : List St) : Prop := ∀ s ∈ l, WfS s
theorem Wfs.txs {l : List St} (h : Wfs l) : Txs l := fun s hs => (h s hs).2.2.2.2.1

end Go.Proofs.YtapachlhdgehjaaGreatDoor

/-
  A list of strokes, a point that came in: written out.
-/
namespace Go.Proofs.YtapachlhdgehjaaGreatDoor
open Go.ChangeShapes Go.WideShapes Go.ChangeAt Go.RowKit Go.Joins

theorem cells_c : Tryz.prog.cellsOf 38 = 4 := by kernel_rfl
theorem cells_u8 : Tryz.prog.cellsOf 5 = 1 := by kernel_rfl
theorem cells_t : Tryz.prog.cellsOf 9 = 1 := by kernel_rfl
theorem cells_st : Tryz.prog.cellsOf 55 = 15 := by kernel_rfl

theorem trod_struct6 {H : Type} {enc : TypeId × Value → H} {P : Program} {w : World} {base : Nat} {spare : Nat → Bool} {held : Bool} {t : TypeId} {f0 f1 f2 f3 f4 f5 : Field} {fuel : Nat} {cs : List Value} {x : DataW H × List MemPlace} (ht : P.underlying t = some (.struct #[f0, f1, f2, f3, f4, f5])) (h : DataW.trod enc P w base spare held fuel t cs = some x) :
    ∃ y0 y1 y2 y3 y4 y5 n, cs.length = P.cellsOf t ∧ DataW.trod enc P w base spare held n f0.type ((cs.drop f0.offset).take (P.cellsOf f0.type)) = some y0 ∧
      DataW.trod enc P w base spare held n f1.type ((cs.drop f1.offset).take (P.cellsOf f1.type)) = some y1 ∧ DataW.trod enc P w base spare held n f2.type ((cs.drop f2.offset).take (P.cellsOf f2.type)) = some y2 ∧
      DataW.trod enc P w base spare held n f3.type ((cs.drop f3.offset).take (P.cellsOf f3.type)) = some y3 ∧ DataW.trod enc P w base spare held n f4.type ((cs.drop f4.offset).take (P.cellsOf f4.type)) = some y4 ∧ DataW.trod enc P w base spare held n f5.type ((cs.drop f5.offset).take (P.cellsOf f5.type)) = some y5 := by
  obtain ⟨xs, n, _, rfl, hl, hlen, hf⟩ := DataW.trod_struct ht h
  match xs, hlen with
  | [y0, y1, y2, y3, y4, y5], _ => exact ⟨y0, y1, y2, y3, y4, y5, n, hl, by simpa using hf 0 f0 rfl, by simpa using hf 1 f1 rfl, by simpa using hf 2 f2 rfl, by simpa using hf 3 f3 rfl, by simpa using hf 4 f4 rfl, by simpa using hf 5 f5 rfl⟩

theorem colZ_cells {H : Type} {enc : TypeId × Value → H} {W : World} {b : Nat} {sp : Nat → Bool} {held : Bool} {fuel : Nat} {c0 c1 c2 c3 : Value} {x : DataW H × List MemPlace} (h : DataW.trod enc Tryz.prog W b sp held fuel 38 [c0, c1, c2, c3] = some x) :
    ∃ c : Co, c0 = .int .u8 c.r ∧ c1 = .int .u8 c.g ∧ c2 = .int .u8 c.b ∧ c3 = .int .u8 c.a ∧ c.ok := by
  obtain ⟨y0, y1, y2, y3, n, _, _, h0, h1, h2, h3⟩ := trod_struct4 Tryz.underlying38 h
  simp [cells_u8] at h0 h1 h2 h3
  obtain ⟨a0, e0, _, w0⟩ := DataW.trod_int Tryz.underlying5 h0
  obtain ⟨a1, e1, _, w1⟩ := DataW.trod_int Tryz.underlying5 h1
  obtain ⟨a2, e2, _, w2⟩ := DataW.trod_int Tryz.underlying5 h2
  obtain ⟨a3, e3, _, w3⟩ := DataW.trod_int Tryz.underlying5 h3
  simp at e0 e1 e2 e3
  have b0 := bounds_u8 w0
  have b1 := bounds_u8 w1
  have b2 := bounds_u8 w2
  have b3 := bounds_u8 w3
  refine ⟨⟨a0, a1, a2, a3⟩, e0, e1, e2, e3, ?_⟩
  unfold Co.ok By
  dsimp only
  omega

set_option maxRecDepth 100000 in
theorem rectZ_cells {H : Type} {enc : TypeId × Value → H} {W : World} {b : Nat} {sp : Nat → Bool} {held : Bool} {fuel : Nat} {cs : List Value} {x : DataW H × List MemPlace} (h : DataW.trod enc Tryz.prog W b sp held fuel 52 cs = some x) :
    ∃ r : Rc, cs = [.int .i64 r.x, .int .i64 r.y, .int .i64 r.w, .int .i64 r.h] ∧ I64 r.x ∧ I64 r.y ∧ I64 r.w ∧ I64 r.h := by
  obtain ⟨y0, y1, n, _, hl, h0, h1⟩ := trod_struct2 Tryz.underlying52 h
  rw [cells_r] at hl
  match cs, hl with
  | [c0, c1, c2, c3], _ =>
    simp [cells_p, cells_s] at h0 h1
    obtain ⟨y00, y01, n0, _, _, h00, h01⟩ := trod_struct2 Tryz.underlying50 h0
    obtain ⟨y10, y11, n1, _, _, h10, h11⟩ := trod_struct2 Tryz.underlying23 h1
    simp [cells_i] at h00 h01 h10 h11
    obtain ⟨a0, e0, _, w0⟩ := DataW.trod_int Tryz.underlying3 h00
    obtain ⟨a1, e1, _, w1⟩ := DataW.trod_int Tryz.underlying3 h01
    obtain ⟨a2, e2, _, w2⟩ := DataW.trod_int Tryz.underlying3 h10
    obtain ⟨a3, e3, _, w3⟩ := DataW.trod_int Tryz.underlying3 h11
    simp at e0 e1 e2 e3
    subst e0 e1 e2 e3
    exact ⟨⟨a0, a1, a2, a3⟩, rfl, i64_of w0, i64_of w1, i64_of w2, i64_of w3⟩

set_option maxRecDepth 100000 in
theorem stroke_cells {H : Type} {enc : TypeId × Value → H} {W : World} {b : Nat} {sp : Nat → Bool} {held : Bool} {fuel : Nat} {cs : List Value} {x : DataW H × List MemPlace} (h : DataW.trod enc Tryz.prog W b sp held fuel 55 cs = some x) :
    ∃ s : St, cs = sCel s ∧ WfS s := by
  obtain ⟨y0, y1, y2, y3, y4, y5, n, hl, h0, h1, h2, h3, h4, h5⟩ := trod_struct6 Tryz.underlying55 h
  rw [cells_st] at hl
  match cs, hl with
  | [c0, c1, c2, c3, c4, c5, c6, c7, c8, c9, c10, c11, c12, c13, c14], _ =>
    simp [cells_u8, cells_r, cells_c, cells_t, cells_i] at h0 h1 h2 h3 h4 h5
    obtain ⟨a0, e0, _, w0⟩ := DataW.trod_int Tryz.underlying5 h0
    obtain ⟨r, er, i1, i2, i3, i4⟩ := rectZ_cells h1
    obtain ⟨c, d0, d1, d2, d3, okc⟩ := colZ_cells h2
    obtain ⟨k, f0, f1, f2, f3, okk⟩ := colZ_cells h3
    obtain ⟨t, et, _, wt⟩ := DataW.trod_string Tryz.underlying9 h4
    obtain ⟨m, em, _, wm⟩ := DataW.trod_int Tryz.underlying3 h5
    simp at e0 er et em
    obtain ⟨r1, r2, r3, r4⟩ := er
    have hb := bounds_u8 w0
    refine ⟨⟨a0, r, c, k, t, m⟩, ?_, ⟨by dsimp only; omega, by dsimp only; omega⟩, ⟨i1, i2, i3, i4⟩, okc, okk, wt, i64_of wm⟩
    rw [e0, r1, r2, r3, r4, d0, d1, d2, d3, f0, f1, f2, f3, et, em]
    rfl

theorem strokes_of {W : World} {g o : Nat} : ∀ (n : Nat), (∀ i, i < n → ∃ s : St, StAt W g (o + i * 15) s ∧ WfS s) → ∃ l : List St, l.length = n ∧ (∀ i (h : i < l.length), StAt W g (o + i * 15) l[i]) ∧ Wfs l
  | 0, _ => ⟨[], rfl, fun i h => absurd h (Nat.not_lt_zero i), fun r hr => by simp at hr⟩
  | n + 1, h => by
    obtain ⟨rs, hl, ha, hw⟩ := strokes_of n fun i hi => h i (by omega)
    obtain ⟨r, hr, hz⟩ := h n (by omega)
    refine ⟨rs ++ [r], by simp [hl], fun i hi => ?_, fun x hx => ?_⟩
    · by_cases e : i < rs.length
      · rw [List.getElem_append_left e]; exact ha i e
      · have : i = n := by simp at hi; omega
        subst this
        subst hl
        rw [List.getElem_concat_length rfl]
        exact hr
    · rcases List.mem_append.1 hx with hx | hx
      · exact hw x hx
      · simp at hx; subst hx; exact hz

set_option maxRecDepth 100000 in
theorem open_strokes {H : Type} {enc : TypeId × Value → H} {W : World} {base b : Nat} {sp : Nat → Bool} {held : Bool} {v : Value} {d : DataW H} {p : List MemPlace}
    (hv : Value.okWide Tryz.prog W .any base 27 v) (h : DataW.Trod enc Tryz.prog W b sp held 27 v d p) : ∃ l : List St, LsS W v l ∧ Wfs l ∧ NoNil v := by
  obtain ⟨oa, len, cap, rfl⟩ := okWide_slice Tryz.underlying27 hv
  obtain ⟨fuel, hf⟩ := h
  rcases DataW.trod_slice Tryz.underlying27 hf with ⟨he, _⟩ | ⟨a, len', cap', el, rest, n, _, he, _, _, hlc, hcm, hel, hat, _, _⟩
  · simp [Value.cells] at he
    obtain ⟨rfl, rfl, rfl⟩ := he
    exact ⟨[], ⟨none, 0, rfl, Nat.le_refl _, fun h => by simp at h⟩, fun r hr => by simp at hr, fun c hc => by injection hc with _ _ h; exact h.symm⟩
  · simp [Value.cells] at he
    obtain ⟨rfl, rfl, rfl⟩ := he
    have hnn : NoNil (.slice (some a) len cap) := fun c hc => by injection hc with h1 _ _; cases h1
    rw [cells_st] at hat
    obtain ⟨g, o, s⟩ := a
    have key : ∀ i, i < len → ∃ r : St, (∀ j, j < 15 → W.cell? ((Addr.mk g o s).add (i * 15) |>.add j) = (sCel r)[j]?) ∧ WfS r := by
      intro i hi
      have h1 := hat i hi
      obtain ⟨bb, hb⟩ : ∃ bb, el[i]? = some bb := ⟨el[i]'(by omega), List.getElem?_eq_getElem (by omega)⟩
      rw [hb] at h1
      obtain ⟨ce, hce, hte⟩ := Option.bind_eq_some_iff.1 h1
      obtain ⟨r, hr, hw⟩ := stroke_cells hte
      obtain ⟨_, _, hcc⟩ := World.cells?_some hce
      exact ⟨r, fun j hj => by rw [hcc j hj, hr], hw⟩
    by_cases h0 : len = 0
    · subst h0
      exact ⟨[], ⟨_, cap, rfl, Nat.zero_le _, fun h => by simp at h⟩, fun r hr => by simp at hr, hnn⟩
    obtain rfl : s = none := by
      obtain ⟨r, hr, _⟩ := key 0 (by omega)
      have h00 := hr 0 (by omega)
      have : (Addr.add (Addr.add ⟨g, o, s⟩ (0 * 15)) 0) = ⟨g, o, s⟩ := by simp [Addr.add]
      rw [this] at h00
      exact Go.Proofs.cell_spot h00
    obtain ⟨rs, hl, ha, hw⟩ := strokes_of (W := W) (g := g) (o := o) len fun i hi => by
      obtain ⟨r, hr, hz⟩ := key i hi
      have e := fun j hj => hr j hj
      simp only [Addr.add_lit] at e
      exact ⟨r, stat_iff.2 e, hz⟩
    subst hl
    have hg : g < W.heap.size := by
      have h1 := (ha 0 (by omega)).1
      rcases Nat.lt_or_ge g W.heap.size with h' | h'
      · exact h'
      · simp [World.cell?, Array.getElem?_eq_none h'] at h1
    exact ⟨rs, ⟨_, cap, rfl, hlc, fun _ => ⟨g, o, rfl, hg, ha⟩⟩, hw, hnn⟩

end Go.Proofs.YtapachlhdgehjaaGreatDoor

/-
  Drawing lists place by place: what shows at a place is the same without what nobody sees; cut to a region it shows there alone.
-/
namespace Go.Proofs.YtapachlhdgehjaaGreatDoor

theorem has_iff (r : Rc) (px py : Int) : zHa r px py = true ↔ (-16384 ≤ r.x ∧ r.x + r.w ≤ 16384 ∧ -16384 ≤ r.y ∧ r.y + r.h ≤ 16384) ∧ r.x ≤ px ∧ px < r.x + r.w ∧ r.y ≤ py ∧ py < r.y + r.h := by
  have h := keepE_iff r
  unfold keepE at h
  unfold zHa hasB
  rw [Bool.and_eq_true, h]
  simp only [Bool.and_eq_true, decide_eq_true_eq]
  constructor
  · rintro ⟨⟨_, _, _, _, _, _⟩, _, _, _, _⟩
    omega
  · rintro ⟨⟨_, _, _, _⟩, _, _, _, _⟩
    omega
theorem has_keep {r : Rc} {px py : Int} (h : zHa r px py = true) : zEm r = false := by
  unfold zHa hasB at h
  unfold zEm
  cases e : emptyB r.x r.y r.w r.h
  · rfl
  · rw [e] at h; simp at h
theorem has_em {r : Rc} (h : zEm r = true) (px py : Int) : zHa r px py = false := by
  cases e : zHa r px py
  · rfl
  · rw [has_keep e] at h; cases h
theorem has_zr (px py : Int) : zHa zr px py = false := has_em rfl px py
theorem em_iff (r : Rc) : zEm r = false ↔ -16384 ≤ r.x ∧ 0 < r.w ∧ r.x + r.w ≤ 16384 ∧ -16384 ≤ r.y ∧ 0 < r.h ∧ r.y + r.h ≤ 16384 := by
  rw [← keepE_iff]
  unfold zEm keepE
  simp
theorem has_meet (a b : Rc) (px py : Int) : zHa (zMe a b) px py = (zHa a px py && zHa b px py) := by
  cases ea : zEm a
  · cases eb : zEm b
    · have ha := (em_iff a).1 ea
      have hb := (em_iff b).1 eb
      have e : zMe a b = btw (max a.x b.x) (max a.y b.y) (min (a.x + a.w) (b.x + b.w)) (min (a.y + a.h) (b.y + b.h)) := by
        unfold zEm at ea eb
        unfold zMe meetR
        rw [ea, eb]
        rfl
      rw [e]
      by_cases h : min (a.x + a.w) (b.x + b.w) ≤ max a.x b.x ∨ min (a.y + a.h) (b.y + b.h) ≤ max a.y b.y
      · rw [btw_no h, has_zr]
        symm
        rw [Bool.eq_false_iff]
        intro k
        rw [Bool.and_eq_true, has_iff, has_iff] at k
        omega
      · rw [btw_yes (by omega) (by omega), Bool.eq_iff_iff, Bool.and_eq_true, has_iff, has_iff, has_iff]
        simp only
        omega
    · rw [has_em eb, Bool.and_false]
      have e : zMe a b = zr := by
        unfold zEm at ea eb
        unfold zMe meetR
        rw [ea, eb]
        rfl
      rw [e, has_zr]
  · rw [has_em ea, Bool.false_and]
    have e : zMe a b = zr := by
      unfold zEm at ea
      unfold zMe meetR
      rw [ea]
      rfl
    rw [e, has_zr]
theorem rc_of_eqB {r q : Rc} (h : eqB r q.x q.y q.w q.h = true) : r = q := by
  cases r; cases q
  simp [eqB] at h
  simp [h]
def edgB (r : Rc) (px py : Int) : Bool := (px == r.x) || ((py == r.y) || ((px == r.x + r.w - 1) || (py == r.y + r.h - 1)))
theorem end_und : ∀ (l : List St) (cs ds : List Rc), clpE cs.length l = 0 → endC (cs ++ ds) l = ds
  | [], cs, ds, h => by
    unfold clpE at h
    split at h
    · cases h
    · next h1 =>
      have : cs = [] := List.length_eq_zero_iff.1 (by omega)
      rw [this]
      rfl
  | s :: l, cs, ds, h => by
    obtain ⟨h1, h2, h3⟩ := clpE_cons h
    have e : ∃ cs', nxC (cs ++ ds) s = cs' ++ ds ∧ cs'.length = opn cs.length s := by
      unfold nxC opn
      by_cases k4 : s.k = 4
      · rw [if_pos k4, if_pos k4]
        exact ⟨shR (cs ++ ds) s :: cs, rfl, rfl⟩
      · rw [if_neg k4, if_neg k4]
        by_cases k5 : s.k = 5
        · rw [if_pos k5, if_pos k5]
          cases cs with
          | nil => exact absurd ⟨k5, rfl⟩ h2
          | cons c cs => exact ⟨cs, rfl, rfl⟩
        · rw [if_neg k5, if_neg k5]
          exact ⟨cs, rfl, rfl⟩
    obtain ⟨cs', e1, e2⟩ := e
    show endC (nxC (cs ++ ds) s) l = ds
    rw [e1]
    exact end_und l cs' ds (by rw [e2]; exact h3)
end Go.Proofs.YtapachlhdgehjaaGreatDoor
