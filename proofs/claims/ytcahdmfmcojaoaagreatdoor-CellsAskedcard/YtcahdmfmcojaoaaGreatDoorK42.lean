/-
  Texts of this claim, one behind the other: what each is about stands ahead of it.
-/
import Derived.Test.YtcahdmfmcojaoaaGreatDoorK23
import Derived.Test.YtcahdmfmcojaoaaGreatDoorK7
import Derived.Test.YtcahdmfmcojaoaaGreatDoorK38
import Derived.Test.YtcahdmfmcojaoaaGreatDoorK3
import Derived.Test.YtcahdmfmcojaoaaGreatDoorK41
import Derived.Test.YtcahdmfmcojaoaaGreatDoorRows
import Derived.Test.YtcahdmfmcojaoaaGreatDoorK17
import Derived.PinnedBridge
import Derived.Lib.LaidU8T
import Derived.Lib.LaidTab
import Derived.MakeChecks
import Derived.LaidHandle
import Derived.LaidLaws
import Derived.ChangeMade
import Derived.RowKitTokens
import Derived.Lay
import Derived.Deep.DeepLaidRun
import Derived.Laws.BitsAllLaws
/-
  The statements' own comparing of lists, of screens (stage 16).
-/
namespace Go.Proofs.YtcahdmfmcojaoaaGreatDoor
open Go.RowKit

theorem neq_cellS (x : Ce) (w : World) : (binOp .neq 34 (Value.agg #[.int .i32 x.r, .int .u8 x.c.r, .int .u8 x.c.g, .int .u8 x.c.b, .int .u8 x.c.a, .int .u8 x.b.r, .int .u8 x.b.g, .int .u8 x.b.b, .int .u8 x.b.a, .bool x.wd, .bool x.tl]) (Value.agg #[.int .i32 x.r, .int .u8 x.c.r, .int .u8 x.c.g, .int .u8 x.c.b, .int .u8 x.c.a, .int .u8 x.b.r, .int .u8 x.b.g, .int .u8 x.b.b, .int .u8 x.b.a, .bool x.wd, .bool x.tl])).run Tryz.prog w = .ok (.bool false) w := by
  simp [go_sem]

end Go.Proofs.YtcahdmfmcojaoaaGreatDoor

/-
  The document's comparing of screens (stage 15).
-/
namespace Go.Proofs.YtcahdmfmcojaoaaGreatDoor
open Go.RowKit

set_option maxRecDepth 20000 in
set_option maxHeartbeats 4000000 in
theorem scr15_any (p q : Int) (L : List Ce) (va vb : Value) (w : World) (ha : LsC w va L) (hb : LsC w vb L) (hl : L.length < 1000000) :
    Calls Tryz.prog 13 #[.agg #[.int .i64 p, .int .i64 q, va], .agg #[.int .i64 p, .int .i64 q, vb]] w fun e w' => e = .returned (.bool true) ∧ Below w.heap.size w w' := by
  obtain ⟨oa, ca, rfl, hca, hga⟩ := ha
  obtain ⟨ob, cb, rfl, hcb, hgb⟩ := hb
  obtain ⟨m, hm⟩ : ∃ m, m = L.length := ⟨_, rfl⟩
  have HA : Hid (0 < L.length → ∃ g o, oa = some ⟨g, o, none⟩ ∧ g < w.heap.size ∧ ∀ i (h : i < L.length), CeAt w g (o + i * 11) L[i]) := hga
  have HB : Hid (0 < L.length → ∃ g o, ob = some ⟨g, o, none⟩ ∧ g < w.heap.size ∧ ∀ i (h : i < L.length), CeAt w g (o + i * 11) L[i]) := hgb
  have HM : Hid (L.length = m) := hm.symm
  rw [← hm]
  rw [← hm] at hl
  obtain ⟨W2, hW2⟩ : ∃ W2, W2 = (w.alloc (.cells #[.int .i64 p, .int .i64 q, .slice oa m ca] 26)).alloc (.cells #[.int .i64 p, .int .i64 q, .slice ob m cb] 26) := ⟨_, rfl⟩
  have H2 : Hid (Bk W2 w.heap.size #[.int .i64 p, .int .i64 q, .slice oa m ca] 26 ∧ Bk W2 (w.heap.size + 1) #[.int .i64 p, .int .i64 q, .slice ob m cb] 26 ∧ Below w.heap.size w W2) := by
    have k1 := Bk.new w #[.int .i64 p, .int .i64 q, .slice oa m ca] 26
    have k2 := Bk.new (w.alloc (.cells #[.int .i64 p, .int .i64 q, .slice oa m ca] 26)) #[.int .i64 p, .int .i64 q, .slice ob m cb] 26
    simp only [World.size_alloc] at k2
    rw [hW2]
    exact ⟨k1.below ((Below.refl _ _).alloc (Nat.le_refl _) _), k2, ((Below.refl _ w).alloc (Nat.le_refl _) _).alloc (by simp) _⟩
  clear hga hgb hm hca hcb
  go_enter Tryz.func13, Tryz.ntmps13
  go_wp2_with fail
  rw [← hW2]
  clear hW2
  go_loopw [5] (fun i wr => ∃ k : Nat, k ≤ m ∧ i = .int .i64 k ∧ Hid (Below W2.heap.size W2 wr)) (fun i _ => m - (intOf i).toNat)
  case atStart => exact ⟨0, Nat.zero_le _, rfl, Below.refl _ _⟩
  case round =>
    obtain ⟨k, hk, rfl, HK⟩ := hrel
    have c0 := (H2.out.1.below HK.out).cell 2
    have c1 := (H2.out.2.1.below HK.out).cell 2
    simp only [List.getElem?_toArray, List.getElem?_cons_zero, List.getElem?_cons_succ] at c0 c1
    have HW : Hid (Below w.heap.size w wr) := H2.out.2.2.trans (HK.out.mono H2.out.2.2.size)
    by_cases hlt : k < m
    · have ik : (k : Int) < m := by omega
      have hla : k < L.length := by rw [HM.out]; exact hlt
      obtain ⟨g, o, rfl, hg, hat⟩ := HA.out (by omega)
      obtain ⟨g', o', rfl, hg', hat'⟩ := HB.out (by omega)
      have hx := (hat k hla).kept (w' := wr) fun j => HW.out.cell (p := ⟨g, j, none⟩) hg
      have hy := (hat' k hla).kept (w' := wr) fun j => HW.out.cell (p := ⟨g', j, none⟩) hg'
      clear hat hat'
      generalize L[k] = x at *
      obtain ⟨x0, x1, x2, x3, x4, x5, x6, x7, x8, x9, x10⟩ := hx
      obtain ⟨y0, y1, y2, y3, y4, y5, y6, y7, y8, y9, y10⟩ := hy
      have hq := neq_cellS x
      have HF : Hid (Below W2.heap.size W2 wr) := HK.out
      clear HK hla HW
      go_wp2_with fail
      go_quiet (fail)
      go_wp2
      go_roundw
      case rel => exact ⟨k + 1, by omega, by go_num, below_drewN HF.out⟩
      case measure => simp [intOf]; omega
    · obtain rfl : k = m := by omega
      go_wp2
      go_ret
      exact ⟨rfl, HW.out⟩

end Go.Proofs.YtcahdmfmcojaoaaGreatDoor

/-
  The calls of awake: contracts at its screens and texts.
-/
namespace Go.Proofs.YtcahdmfmcojaoaaGreatDoor
open Go.RowKit

structure AwW (w : World) (wB sB gs : Nat) (W : World) : Prop where
  wb : Bk W wB #[.int .u8 255, .int .u8 255, .int .u8 255, .int .u8 255] 30
  sb : Bk W sB #[.int .i64 4, .int .i64 2, .slice (some ⟨gs, 0, none⟩) 8 8] 26
  s : Bk W gs (flatC S8).toArray 34
  lo : Below w.heap.size w W
theorem AwW.below {w : World} {wB sB gs : Nat} {W W' : World} (h : AwW w wB sB gs W) (hb : Below W.heap.size W W') : AwW w wB sB gs W' := ⟨h.wb.below hb, h.sb.below hb, h.s.below hb, h.lo.trans (hb.mono h.lo.size)⟩
theorem flatC_bk {W : World} {g : Nat} {L : List Ce} (h : Bk W g (flatC L).toArray 34) : LsC W (.slice (some ⟨g, 0, none⟩) L.length L.length) L := by
  refine ⟨_, L.length, rfl, Nat.le_refl _, fun _ => ⟨g, 0, rfl, h.lt, fun i hi => ?_⟩⟩
  rw [ceat_iff]
  intro j hj
  rw [Nat.zero_add, h.cell, List.getElem?_toArray, flatC_at L i hi j hj]
structure Env15 (w : World) : Prop where
  t : ∀ W, Below w.heap.size w W → TbD W
  d : TabC w
  p : PwC w.heap.size w
theorem Env15.below {w W : World} (h : Env15 w) (hb : Below w.heap.size w W) : Env15 W := ⟨fun W' h' => h.t W' (hb.trans (h'.mono hb.size)), h.d.below hb, (h.p.on hb).mono hb.size⟩

theorem aw_bk15 {W : World} {b : Nat} {s : St} {t : TypeId} (h : Bk W b (#[.int .u8 s.k, .int .i64 s.r.x, .int .i64 s.r.y, .int .i64 s.r.w, .int .i64 s.r.h, .int .u8 s.c.r, .int .u8 s.c.g, .int .u8 s.c.b, .int .u8 s.c.a, .int .u8 s.b.r, .int .u8 s.b.g, .int .u8 s.b.b, .int .u8 s.b.a, .string s.t, .int .i64 s.n]) t) : StAt W b 0 s := by
  rw [stat_iff]
  intro j hj
  rw [Nat.zero_add, h.cell]
  show (sCel s).toArray[j]? = _
  rw [List.getElem?_toArray]
theorem aw_xys {l : List St} (h : Wfs l) : Xys l := fun s hs => ⟨(h s hs).2.1.1, (h s hs).2.1.2.1⟩
theorem st_wf : Wfs [st1] ∧ Wfs [st2] := by
  constructor <;> intro s hs <;> rw [List.mem_singleton] at hs <;> subst hs <;> exact ⟨⟨by decide, by decide⟩, ⟨⟨by decide, by decide⟩, ⟨by decide, by decide⟩, ⟨by decide, by decide⟩, ⟨by decide, by decide⟩⟩, ⟨⟨by decide, by decide⟩, ⟨by decide, by decide⟩, ⟨by decide, by decide⟩, ⟨by decide, by decide⟩⟩, ⟨⟨by decide, by decide⟩, ⟨by decide, by decide⟩, ⟨by decide, by decide⟩, ⟨by decide, by decide⟩⟩, by decide, ⟨by decide, by decide⟩⟩
theorem s8_wf : WfC S8 := by
  intro c hc
  have : c = bl0 := by simpa [S8] using hc
  subst this
  exact ⟨⟨⟨by decide, by decide⟩, ⟨by decide, by decide⟩, ⟨by decide, by decide⟩, ⟨by decide, by decide⟩⟩, ⟨⟨by decide, by decide⟩, ⟨by decide, by decide⟩, ⟨by decide, by decide⟩, ⟨by decide, by decide⟩⟩⟩

theorem awBlank (W : World) : Calls Tryz.prog 11 #[.agg #[.int .i64 4, .int .i64 2], .agg #[.int .u8 0, .int .u8 0, .int .u8 0, .int .u8 0]] W fun e w' => ∃ g, e = .returned (.tuple #[.agg #[.int .i64 4, .int .i64 2, .slice (some ⟨g, 0, none⟩) 8 8], .int .i64 0]) ∧ W.heap.size ≤ g ∧ Bk w' g (flatC S8).toArray 34 ∧ Below W.heap.size W w' :=
  blank_ok 4 2 coZ 8 W (by decide) (by decide)
theorem awDraw (st : St) (hst : Wfs [st]) (hk : chkS [st] = 0) (w : World) (wB sB gs gx : Nat) (W : World) (hE : Env15 w) (h : AwW w wB sB gs W) (hx : Bk W gx (#[.int .u8 st.k, .int .i64 st.r.x, .int .i64 st.r.y, .int .i64 st.r.w, .int .i64 st.r.h, .int .u8 st.c.r, .int .u8 st.c.g, .int .u8 st.c.b, .int .u8 st.c.a, .int .u8 st.b.r, .int .u8 st.b.g, .int .u8 st.b.b, .int .u8 st.b.a, .string st.t, .int .i64 st.n]) 59) :
    Calls Tryz.prog 14 #[.agg #[.int .i64 4, .int .i64 2, .slice (some ⟨gs, 0, none⟩) 8 8], .slice (some ⟨gx, 0, none⟩) 1 1] W fun e w' => ∃ ga ca, e = .returned (.tuple #[.agg #[.int .i64 4, .int .i64 2, .slice (some ⟨ga, 0, none⟩) 8 ca], .int .i64 0]) ∧ Hid (LsC w' (.slice (some ⟨ga, 0, none⟩) 8 ca) (drwS 4 S8 (flaL [st])) ∧ Below W.heap.size W w') := by
  have hl : LsS W (.slice (some ⟨gx, 0, none⟩) 1 1) [st] := by
    refine ⟨_, 1, rfl, Nat.le_refl _, fun _ => ⟨gx, 0, rfl, hx.lt, fun i hi => ?_⟩⟩
    obtain rfl : i = 0 := by simpa using hi
    exact aw_bk15 hx
  refine (dDraw_ok frame_any 4 2 S8 (.slice (some ⟨gs, 0, none⟩) 8 8) [st] _ W (flatC_bk h.s) (fun c e => by cases e) (by decide) rfl (by decide +kernel) hl hst.txs (aw_xys hst) hk s8_wf (fun s hs => ⟨(hst s hs).2.2.1, (hst s hs).2.2.2.1⟩) (hE.t W h.lo).1 (fun W' h' => hE.t W' (h.lo.trans (h'.mono h.lo.size)))).mono ?_
  rintro e w' ⟨u, rfl, hu⟩
  have hlen : (drwS 4 S8 (flaL [st])).length = 8 := by rw [drwS_len]; rfl
  obtain ⟨ga, ca, rfl, hsm⟩ := hu.out.1.scm (by rw [hlen]; decide)
  rw [hlen] at hsm ⊢
  exact ⟨ga, ca, rfl, hsm.own.lsc, hu.out.2⟩

end Go.Proofs.YtcahdmfmcojaoaaGreatDoor

/-
  A screen that came in, written out; what the listed variables give: the tables of runes, the runes of frames, the library's numbers and its decoder's tables.
-/
namespace Go.Proofs.YtcahdmfmcojaoaaGreatDoor
open Go.ChangeShapes Go.WideShapes Go.ChangeAt Go.RowKit Go.Joins Go.Lib

theorem own_w : ownKnob Tryz.prog.godebug = none := by kernel_rfl
theorem laid_w : laidOutB Tryz.prog = true := by kernel_rfl
theorem cells_ce : Tryz.prog.cellsOf 34 = 11 := by kernel_rfl
theorem cells_scr : Tryz.prog.cellsOf 26 = 3 := by kernel_rfl
theorem cells_lc : Tryz.prog.cellsOf 24 = 1 := by kernel_rfl
theorem cells_i32 : Tryz.prog.cellsOf 21 = 1 := by kernel_rfl
theorem cells_bo : Tryz.prog.cellsOf 4 = 1 := by kernel_rfl
theorem trod_struct5c {H : Type} {enc : TypeId × Value → H} {P : Program} {w : World} {base : Nat} {spare : Nat → Bool} {held : Bool} {t : TypeId} {f0 f1 f2 f3 f4 : Field} {fuel : Nat} {cs : List Value} {x : DataW H × List MemPlace} (ht : P.underlying t = some (.struct #[f0, f1, f2, f3, f4])) (h : DataW.trod enc P w base spare held fuel t cs = some x) :
    ∃ y0 y1 y2 y3 y4 n, cs.length = P.cellsOf t ∧ DataW.trod enc P w base spare held n f0.type ((cs.drop f0.offset).take (P.cellsOf f0.type)) = some y0 ∧
      DataW.trod enc P w base spare held n f1.type ((cs.drop f1.offset).take (P.cellsOf f1.type)) = some y1 ∧ DataW.trod enc P w base spare held n f2.type ((cs.drop f2.offset).take (P.cellsOf f2.type)) = some y2 ∧
      DataW.trod enc P w base spare held n f3.type ((cs.drop f3.offset).take (P.cellsOf f3.type)) = some y3 ∧ DataW.trod enc P w base spare held n f4.type ((cs.drop f4.offset).take (P.cellsOf f4.type)) = some y4 := by
  obtain ⟨xs, n, _, rfl, hl, hlen, hf⟩ := DataW.trod_struct ht h
  match xs, hlen with
  | [y0, y1, y2, y3, y4], _ => exact ⟨y0, y1, y2, y3, y4, n, hl, by simpa using hf 0 f0 rfl, by simpa using hf 1 f1 rfl, by simpa using hf 2 f2 rfl, by simpa using hf 3 f3 rfl, by simpa using hf 4 f4 rfl⟩
set_option maxRecDepth 100000 in
theorem ce_cells {H : Type} {enc : TypeId × Value → H} {W : World} {b : Nat} {sp : Nat → Bool} {held : Bool} {fuel : Nat} {cs : List Value} {x : DataW H × List MemPlace} (h : DataW.trod enc Tryz.prog W b sp held fuel 34 cs = some x) :
    ∃ c : Ce, cs = cCel c ∧ c.c.ok ∧ c.b.ok := by
  obtain ⟨y0, y1, y2, y3, y4, n, hl, h0, h1, h2, h3, h4⟩ := trod_struct5c Tryz.underlying34 h
  rw [cells_ce] at hl
  match cs, hl with
  | [c0, c1, c2, c3, c4, c5, c6, c7, c8, c9, c10], _ =>
    simp [cells_i32, cells_c, cells_bo] at h0 h1 h2 h3 h4
    obtain ⟨a0, e0, _, w0⟩ := DataW.trod_int Tryz.underlying21 h0
    obtain ⟨c, d0, d1, d2, d3, okc⟩ := colZ_cells h1
    obtain ⟨k, f0, f1, f2, f3, okk⟩ := colZ_cells h2
    obtain ⟨p, ep, _⟩ := DataW.trod_bool Tryz.underlying4 h3
    obtain ⟨q, eq, _⟩ := DataW.trod_bool Tryz.underlying4 h4
    simp at e0 ep eq
    refine ⟨⟨a0, c, k, p, q⟩, ?_, okc, okk⟩
    rw [e0, d0, d1, d2, d3, f0, f1, f2, f3, ep, eq]
    rfl
theorem ces_of {W : World} {g o : Nat} : ∀ (n : Nat), (∀ i, i < n → ∃ s : Ce, CeAt W g (o + i * 11) s ∧ s.c.ok ∧ s.b.ok) → ∃ l : List Ce, l.length = n ∧ (∀ i (h : i < l.length), CeAt W g (o + i * 11) l[i]) ∧ WfC l
  | 0, _ => ⟨[], rfl, fun i h => absurd h (Nat.not_lt_zero i), fun r hr => by simp at hr⟩
  | n + 1, h => by
    obtain ⟨rs, hl, ha, hw⟩ := ces_of n fun i hi => h i (by omega)
    obtain ⟨r, hr, hz⟩ := h n (by omega)
    refine ⟨rs ++ [r], by simp [hl], fun i hi => ?_, fun x hx => ?_⟩
    · by_cases e : i < rs.length
      · rw [List.getElem_append_left e]; exact ha i e
      · have : i = n := by simp at hi; omega
        subst this
        subst hl
        rw [List.getElem_concat_length rfl]
        exact hr
    · rcases List.mem_append.1 hx with hx | hx
      · exact hw x hx
      · simp at hx; subst hx; exact hz
set_option maxRecDepth 100000 in
theorem open_ces {H : Type} {enc : TypeId × Value → H} {W : World} {b : Nat} {sp : Nat → Bool} {held : Bool} {fuel : Nat} {v : Value} {x : DataW H × List MemPlace}
    (hf : DataW.trod enc Tryz.prog W b sp held fuel 24 [v] = some x) : ∃ l : List Ce, LsC W v l ∧ WfC l ∧ NoNil v := by
  rcases DataW.trod_slice Tryz.underlying24 hf with ⟨he, _⟩ | ⟨a, len, cap, el, rest, n, _, he, _, _, hlc, hcm, hel, hat, _, _⟩
  · simp at he
    subst he
    exact ⟨[], ⟨none, 0, rfl, Nat.le_refl _, fun h => by simp at h⟩, fun r hr => by simp at hr, fun c hc => by injection hc with _ _ h; exact h.symm⟩
  · simp at he
    subst he
    have hnn : NoNil (.slice (some a) len cap) := fun c hc => by injection hc with h1 _ _; cases h1
    rw [cells_ce] at hat
    obtain ⟨g, o, s⟩ := a
    have key : ∀ i, i < len → ∃ r : Ce, (∀ j, j < 11 → W.cell? ((Addr.mk g o s).add (i * 11) |>.add j) = (cCel r)[j]?) ∧ r.c.ok ∧ r.b.ok := by
      intro i hi
      have h1 := hat i hi
      obtain ⟨bb, hb⟩ : ∃ bb, el[i]? = some bb := ⟨el[i]'(by omega), List.getElem?_eq_getElem (by omega)⟩
      rw [hb] at h1
      obtain ⟨ce, hce, hte⟩ := Option.bind_eq_some_iff.1 h1
      obtain ⟨r, hr, hw⟩ := ce_cells hte
      obtain ⟨_, _, hcc⟩ := World.cells?_some hce
      exact ⟨r, fun j hj => by rw [hcc j hj, hr], hw⟩
    by_cases h0 : len = 0
    · subst h0
      exact ⟨[], ⟨_, cap, rfl, Nat.zero_le _, fun h => by simp at h⟩, fun r hr => by simp at hr, hnn⟩
    obtain rfl : s = none := by
      obtain ⟨r, hr, _⟩ := key 0 (by omega)
      have h00 := hr 0 (by omega)
      have : (Addr.add (Addr.add ⟨g, o, s⟩ (0 * 11)) 0) = ⟨g, o, s⟩ := by simp [Addr.add]
      rw [this] at h00
      exact Go.Proofs.cell_spot h00
    obtain ⟨rs, hl, ha, hw⟩ := ces_of (W := W) (g := g) (o := o) len fun i hi => by
      obtain ⟨r, hr, hz⟩ := key i hi
      have e := fun j hj => hr j hj
      simp only [Addr.add_lit] at e
      exact ⟨r, ceat_iff.2 e, hz⟩
    subst hl
    have hg : g < W.heap.size := by
      have h1 := (ha 0 (by omega)).1
      rcases Nat.lt_or_ge g W.heap.size with h' | h'
      · exact h'
      · simp [World.cell?, Array.getElem?_eq_none h'] at h1
    exact ⟨rs, ⟨_, cap, rfl, hlc, fun _ => ⟨g, o, rfl, hg, ha⟩⟩, hw, hnn⟩
set_option maxRecDepth 100000 in
theorem open_screen {H : Type} {enc : TypeId × Value → H} {W : World} {base b : Nat} {sp : Nat → Bool} {held : Bool} {v : Value} {d : DataW H} {p : List MemPlace}
    (hv : Value.okWide Tryz.prog W .any base 26 v) (h : DataW.Trod enc Tryz.prog W b sp held 26 v d p) : ∃ (x y : Int) (L : List Ce) (u : Value), v = .agg #[.int .i64 x, .int .i64 y, u] ∧ LsC W u L ∧ WfC L ∧ NoNil u := by
  obtain ⟨cs, rfl, hsz⟩ := okWide_struct Tryz.underlying26 hv
  obtain ⟨c0, c1, c2, rfl⟩ := array3 (hsz.trans cells_scr)
  obtain ⟨fuel, hf⟩ := h
  obtain ⟨y0, y1, n, _, hl, h0, h1⟩ := trod_struct2 Tryz.underlying26 hf
  simp [Value.cells, cells_s, cells_lc] at h0 h1
  obtain ⟨y00, y01, n0, _, _, h00, h01⟩ := trod_struct2 Tryz.underlying23 h0
  simp [cells_i] at h00 h01
  obtain ⟨a0, e0, _, w0⟩ := DataW.trod_int Tryz.underlying3 h00
  obtain ⟨a1, e1, _, w1⟩ := DataW.trod_int Tryz.underlying3 h01
  simp at e0 e1
  subst e0 e1
  obtain ⟨l, k1, k2, k3⟩ := open_ces h1
  exact ⟨a0, a1, l, c2, rfl, k1, k2, k3⟩

def spanData (xs : List (Int × Int)) : DataW Unit := .slice (xs.map fun x => .agg ([x.1, x.2].map fun z => .lit (.int .i32 z))) []
theorem marks_eq : Rows.laid_casement_runes_marks (H := Unit) = spanData marksL := by kernel_rfl
theorem wides_eq : Rows.laid_casement_runes_wides (H := Unit) = spanData widesL := by kernel_rfl
theorem c_span : Tryz.prog.cellsOf 244 = 2 := by kernel_rfl
theorem c_i32 : Tryz.prog.cellsOf 21 = 1 := by kernel_rfl

theorem spans_of_reads {name : String} {g : Nat} (hn : Tryz.prog.globalNamed name = some g) (hy : (Tryz.prog.globals[g]?).map (·.type) = some 242) {xs : List (Int × Int)} (h0 : xs ≠ []) {w : World} (h : VarReads Tryz.prog w name (spanData xs)) : Spans w g xs := by
  obtain ⟨g', t, cs, fuel, p, hg, hty, hvar, hd⟩ := h
  obtain rfl := Option.some.inj (hn.symm.trans hg)
  obtain rfl := Option.some.inj (hy.symm.trans hty)
  rcases DataW.trod_slice Tryz.underlying242 hd with ⟨_, hx⟩ | ⟨a, len, cap, el, rs, m, rfl, hcs, hx, _, hlc, _, hel, helem, _, _⟩
  · cases hx
  · have eE : el.map (·.1) = xs.map fun x => (.agg ([x.1, x.2].map fun z => .lit (.int .i32 z)) : DataW Unit) := by
      have := congrArg Prod.fst hx
      simp only [spanData, DataW.slice.injEq] at this
      exact this.1.symm
    have hlen : len = xs.length := by
      have := congrArg List.length eE
      simp at this
      omega
    subst hlen
    have hrange : ∀ i (hi : i < xs.length), ∀ j, j < 2 → w.cell? ((a.add (i * 2)).add j) = ([.int .i32 xs[i].1, .int .i32 xs[i].2] : List Value)[j]? := by
      intro i hi j hj
      have h1 := helem i hi
      rw [c_span] at h1
      obtain ⟨b, hb⟩ : ∃ b, el[i]? = some b := ⟨el[i]'(by omega), List.getElem?_eq_getElem (by omega)⟩
      rw [hb] at h1
      obtain ⟨ce, hce, hte⟩ := Option.bind_eq_some_iff.1 h1
      have hb1 : b.1 = .agg ([xs[i].1, xs[i].2].map fun z => .lit (.int .i32 z)) := by
        have := congrArg (·[i]?) eE
        simpa [hb, hi] using this
      have hcs2 := ints_of_struct (p := b.2) Tryz.underlying244 (fun q f hq => by
        match q, hq with
        | 0, hq => simp at hq; subst hq; exact ⟨Tryz.underlying21, rfl, c_i32⟩
        | 1, hq => simp at hq; subst hq; exact ⟨Tryz.underlying21, rfl, c_i32⟩
        | q + 2, hq => simp at hq) (by rw [c_span]; rfl) (by rw [← hb1]; exact hte)
      obtain ⟨_, _, hcc⟩ := World.cells?_some hce
      rw [hcc j hj, hcs2]
      rfl
    obtain ⟨R, o, sR⟩ := a
    have hpos : 0 < xs.length := by
      cases xs with
      | nil => exact absurd rfl h0
      | cons _ _ => simp
    obtain rfl : sR = none := by
      have h00 := hrange 0 hpos 0 (by omega)
      have : (Addr.add (Addr.add ⟨R, o, sR⟩ (0 * 2)) 0) = ⟨R, o, sR⟩ := by simp [Addr.add]
      rw [this] at h00
      exact cell_spot h00
    refine ⟨R, o, cap, ?_, hlc, fun i hi => ?_⟩
    · rw [World.var?_cell hg hvar 0, ← Array.getElem?_toList, hcs]
      rfl
    · have k0 := hrange i hi 0 (by omega)
      have k1 := hrange i hi 1 (by omega)
      rw [Addr.add_lit, Addr.add_lit] at k0 k1
      exact ⟨by simpa using k0, by simpa using k1⟩

set_option maxRecDepth 100000 in
theorem c_box4 : Tryz.prog.cellsOf 202 = 4 := by kernel_rfl
set_option maxRecDepth 100000 in
theorem box_of {W : World} (h : VarReads Tryz.prog W "casement/cells.box" (Rows.laid_casement_cells_box (H := Unit))) : ∀ i j : Nat, i < 4 → j < 4 → W.cell? ⟨0, i * 4 + j, none⟩ = some (.int .i32 (([0, 9474, 9474, 9474, 9472, 9484, 9488, 9474, 9472, 9492, 9496, 9474, 9472, 9472, 9472, 9633] : List Int).getD (i * 4 + j) 0)) := by
  obtain ⟨g', t, cs, fuel, p, hg, hty, hvar, hd⟩ := h
  obtain rfl := Option.some.inj ((show Tryz.prog.globalNamed "casement/cells.box" = some 0 by kernel_rfl).symm.trans hg)
  obtain rfl := Option.some.inj ((show (Tryz.prog.globals[0]?).map (·.type) = some 203 by kernel_rfl).symm.trans hty)
  obtain ⟨xs, m, rfl, hx, hl, hn, hf⟩ := DataW.trod_array Tryz.underlying203 hd
  match xs, hn with
  | [x0, x1, x2, x3], _ =>
    obtain ⟨x0, p0⟩ := x0
    obtain ⟨x1, p1⟩ := x1
    obtain ⟨x2, p2⟩ := x2
    obtain ⟨x3, p3⟩ := x3
    have hx1 := congrArg Prod.fst hx
    simp only [Rows.laid_casement_cells_box, List.map_cons, List.map_nil, DataW.agg.injEq, List.cons.injEq, and_true] at hx1
    obtain ⟨rfl, rfl, rfl, rfl⟩ := hx1
    have f0 := hf 0 (by omega)
    have f1 := hf 1 (by omega)
    have f2 := hf 2 (by omega)
    have f3 := hf 3 (by omega)
    rw [c_box4] at f0 f1 f2 f3
    have k0 := cells_of_tab (zs := [0, 9474, 9474, 9474]) Tryz.underlying202 Tryz.underlying21 c_i32 c_box4 f0
    have k1 := cells_of_tab (zs := [9472, 9484, 9488, 9474]) Tryz.underlying202 Tryz.underlying21 c_i32 c_box4 f1
    have k2 := cells_of_tab (zs := [9472, 9492, 9496, 9474]) Tryz.underlying202 Tryz.underlying21 c_i32 c_box4 f2
    have k3 := cells_of_tab (zs := [9472, 9472, 9472, 9633]) Tryz.underlying202 Tryz.underlying21 c_i32 c_box4 f3
    intro i j hi hj
    rw [World.var?_cell hg hvar (i * 4 + j), ← Array.getElem?_toList]
    have e : cs.toList[i * 4 + j]? = ((cs.toList.drop (i * 4)).take 4)[j]? := by simp [hj, List.getElem?_drop]
    rw [e]
    rcases (show i = 0 ∨ i = 1 ∨ i = 2 ∨ i = 3 by omega) with rfl | rfl | rfl | rfl
    · rw [k0]
      rcases (show j = 0 ∨ j = 1 ∨ j = 2 ∨ j = 3 by omega) with rfl | rfl | rfl | rfl <;> rfl
    · rw [k1]
      rcases (show j = 0 ∨ j = 1 ∨ j = 2 ∨ j = 3 by omega) with rfl | rfl | rfl | rfl <;> rfl
    · rw [k2]
      rcases (show j = 0 ∨ j = 1 ∨ j = 2 ∨ j = 3 by omega) with rfl | rfl | rfl | rfl <;> rfl
    · rw [k3]
      rcases (show j = 0 ∨ j = 1 ∨ j = 2 ∨ j = 3 by omega) with rfl | rfl | rfl | rfl <;> rfl

theorem pow_eq : Rows.laid_internal_strconv_uint64pow10 (H := Unit) = Lib.tabData .u64 Lib.pow10Tab := by kernel_rfl
theorem pw_ofC {W : World} {l : List (String × DataW Unit)} (hm : ("internal/strconv.uint64pow10", Rows.laid_internal_strconv_uint64pow10) ∈ l) (hL : laidMet Tryz.prog l W) : PwC W.heap.size W := by
  have r2 : Lib.VarReads Tryz.prog W "internal/strconv.uint64pow10" (Lib.tabData .u64 Lib.pow10Tab) := pow_eq ▸ Lib.laidMet.reads hL hm
  obtain ⟨g', t, cs, fuel, p, hg, hty, hvar, hd⟩ := r2
  obtain rfl := Option.some.inj ((show Tryz.prog.globalNamed "internal/strconv.uint64pow10" = some 6 by kernel_rfl).symm.trans hg)
  obtain rfl := Option.some.inj ((show (Tryz.prog.globals[6]?).map (·.type) = some 268 by kernel_rfl).symm.trans hty)
  refine Lib.tabBelow_of_tabIs ?_
  unfold Lib.TabIs
  rw [hvar, ← Lib.cells_of_tab Tryz.underlying268 Tryz.underlying161 (by kernel_rfl) (by kernel_rfl) hd]
theorem accept_eq : Rows.laid_unicode_utf8_acceptRanges (H := Unit) = acceptData := by kernel_rfl
theorem xU : U8Extra Tryz.prog Tryz.lays197_ren := ⟨by kernel_rfl, by kernel_rfl, by kernel_rfl, by kernel_rfl, by kernel_rfl, by kernel_rfl, by kernel_rfl⟩
theorem tU : U8Types Tryz.prog Tryz.lays197_ren := { Tryz.lays197 with }
abbrev laidC : List (String × DataW Unit) := [("math/bits.deBruijn32tab", Rows.laid_math_bits_deBruijn32tab), ("math/bits.deBruijn64tab", Rows.laid_math_bits_deBruijn64tab), ("internal/strconv.uint64pow10", Rows.laid_internal_strconv_uint64pow10), ("unicode/utf8.acceptRanges", Rows.laid_unicode_utf8_acceptRanges), ("casement/runes.marks", Rows.laid_casement_runes_marks), ("casement/runes.wides", Rows.laid_casement_runes_wides), ("casement/cells.box", Rows.laid_casement_cells_box), ("unicode/utf8.first", Rows.laid_unicode_utf8_first)]
set_option maxRecDepth 100000 in
theorem env15_of {W : World} {l : List (String × DataW Unit)} (hl : l = laidC) (hd : laidMet Tryz.prog l W) (hsh : W.ShapedOpen Tryz.prog) : Env15 W := by
  subst hl
  have r1 : VarReads Tryz.prog W "unicode/utf8.acceptRanges" acceptData := accept_eq ▸ Lib.laidMet.reads hd (.tail _ (.tail _ (.tail _ (.head _))))
  have r7 : VarReads Tryz.prog W "unicode/utf8.first" firstData := Pinned.utf8First_eq ▸ Lib.laidMet.reads hd (.tail _ (.tail _ (.tail _ (.tail _ (.tail _ (.tail _ (.tail _ (.head _))))))))
  have r3 : VarReads Tryz.prog W "casement/runes.marks" (spanData marksL) := marks_eq ▸ Lib.laidMet.reads hd (.tail _ (.tail _ (.tail _ (.tail _ (.head _)))))
  have r4 : VarReads Tryz.prog W "casement/runes.wides" (spanData widesL) := wides_eq ▸ Lib.laidMet.reads hd (.tail _ (.tail _ (.tail _ (.tail _ (.tail _ (.head _))))))
  have r5 : VarReads Tryz.prog W "casement/cells.box" (Rows.laid_casement_cells_box (H := Unit)) := Lib.laidMet.reads hd (.tail _ (.tail _ (.tail _ (.tail _ (.tail _ (.tail _ (.head _)))))))
  have T : Tabs W := ⟨spans_of_reads (by kernel_rfl) (by kernel_rfl) (by decide) r3, spans_of_reads (by kernel_rfl) (by kernel_rfl) (by decide) r4⟩
  have hbx := box_of r5
  obtain ⟨m, hm⟩ := Tryz.laysM145.s1_3 W hsh
  have lt : ∀ {g o : Nat} {v : Value}, W.cell? ⟨g, o, none⟩ = some v → g < W.heap.size := fun {g o v} hc => by
    rcases Nat.lt_or_ge g W.heap.size with h1 | h1
    · exact h1
    · simp [World.cell?, Array.getElem?_eq_none h1] at hc
  refine ⟨fun W' hb => ⟨T.below hb, ⟨m, ?_⟩, fun i j hi hj => ?_⟩, utf8Tabs_of_readsT tU xU r7 r1, pw_ofC (.tail _ (.tail _ (.head _))) hd⟩
  · exact (hb.cell (p := ⟨_, 0, none⟩) (lt hm)).trans hm
  · rw [hb.cell (p := ⟨0, i * 4 + j, none⟩) (lt (hbx i j hi hj))]; exact hbx i j hi hj

end Go.Proofs.YtcahdmfmcojaoaaGreatDoor

/-
  Contracts of the document's answer for layer 3: controls, marks, wide ones, how wide a rune is.
-/
namespace Go.Proofs.YtcahdmfmcojaoaaGreatDoor
open Go.RowKit

def inAny (xs : List (Int × Int)) (r : Int) : Bool := xs.any fun x => decide (x.1 ≤ r) && decide (r ≤ x.2)
def Asc : Int → List (Int × Int) → Prop
  | _, [] => True
  | m, x :: t => m < x.1 ∧ x.1 ≤ x.2 ∧ Asc x.2 t
theorem asc_none (r : Int) : ∀ (xs : List (Int × Int)) (m : Int), Asc m xs → r ≤ m → inAny xs r = false
  | [], _, _, _ => rfl
  | x :: t, m, h, hr => by
    obtain ⟨h1, h2, h3⟩ := h
    have := asc_none r t x.2 h3 (by omega)
    unfold inAny at *
    rw [List.any_cons, this, decide_eq_false (show ¬ x.1 ≤ r by omega)]; rfl
theorem look_any (r : Int) : ∀ (xs : List (Int × Int)) (m : Int), Asc m xs → look xs r = inAny xs r
  | [], _, _ => rfl
  | x :: t, m, h => by
    obtain ⟨h1, h2, h3⟩ := h
    have ih := look_any r t x.2 h3
    unfold look
    split
    · next hr =>
      have hn := asc_none r t x.2 h3 hr
      unfold inAny at *
      rw [List.any_cons, hn, decide_eq_true hr]; simp
    · next hr =>
      unfold inAny at *
      rw [List.any_cons, ih, decide_eq_false hr]; simp
theorem asc_marks : Asc 0 marksL := by simp [Asc, marksL]
theorem asc_wides : Asc 0 widesL := by simp [Asc, widesL]

set_option maxHeartbeats 400000 in
theorem rcontrol_any (r : Int) (w : World) :
    Calls Tryz.prog 134 #[.int .i32 r] w fun e w' => e = .returned (.bool (ctl r)) ∧ w' = w := by
  by_cases c1 : 0 ≤ r
  · by_cases c2 : r < 32
    · go_enter Tryz.func134, Tryz.ntmps134
      go_wp2
      go_ret
      exact ⟨ret_boolR (by simp [ctl]; omega), rfl⟩
    · by_cases c3 : 127 ≤ r
      · go_enter Tryz.func134, Tryz.ntmps134
        go_wp2
        go_ret
        exact ⟨ret_boolR (by simp [ctl]; omega), rfl⟩
      · go_enter Tryz.func134, Tryz.ntmps134
        go_wp2
        go_ret
        exact ⟨ret_boolR (by simp [ctl]; omega), rfl⟩
  · go_enter Tryz.func134, Tryz.ntmps134
    go_wp2
    go_ret
    exact ⟨ret_boolR (by simp [ctl]; omega), rfl⟩

set_option maxHeartbeats 1000000 in
theorem among_any (r : Int) (xs : List (Int × Int)) (g c : Nat) (w : World) (hlen : xs.length ≤ 1000)
    (h : ∀ (i : Nat) (hi : i < xs.length), w.cell? ⟨g, 2 * i, none⟩ = some (.int .i32 xs[i].1) ∧ w.cell? ⟨g, 2 * i + 1, none⟩ = some (.int .i32 xs[i].2)) :
    Calls Tryz.prog 160 #[.int .i32 r, .slice (some ⟨g, 0, none⟩) (2 * xs.length) c] w fun e w' => e = .returned (.bool (inAny xs r)) ∧ w' = w := by
  have H1 : Hid (∀ (i : Nat) (hi : i < xs.length), w.cell? ⟨g, 2 * i, none⟩ = some (.int .i32 xs[i].1) ∧ w.cell? ⟨g, 2 * i + 1, none⟩ = some (.int .i32 xs[i].2)) := h
  clear h
  go_enter Tryz.func160, Tryz.ntmps160
  go_wp2
  go_loopw [5] (fun i wr => ∃ k : Nat, k ≤ xs.length ∧ i = .int .i64 (2 * (k : Int)) ∧ inAny xs r = inAny (xs.drop k) r ∧ wr = w) (fun i _ => 2 * xs.length - (intOf i).toNat)
  case atStart => exact ⟨0, Nat.zero_le _, rfl, by simp, rfl⟩
  case round =>
    obtain ⟨k, hk, rfl, hall, rfl⟩ := hrel
    by_cases hlt : k < xs.length
    · obtain ⟨f0, f1⟩ := H1.out k hlt
      have hd : inAny (xs.drop k) r = ((decide (xs[k].1 ≤ r) && decide (r ≤ xs[k].2)) || inAny (xs.drop (k + 1)) r) := by
        rw [List.drop_eq_getElem_cons hlt]; rfl
      have HE : Hid (inAny xs r = inAny (xs.drop k) r ∧ inAny (xs.drop k) r = ((decide (xs[k].1 ≤ r) && decide (r ≤ xs[k].2)) || inAny (xs.drop (k + 1)) r)) := ⟨hall, hd⟩
      clear hall hd
      generalize xs[k] = x at *
      by_cases c1 : x.1 ≤ r
      · by_cases c2 : r ≤ x.2
        · go_wp2
          go_ret
          obtain ⟨e1, e2⟩ := HE.out
          exact ⟨by rw [e1, e2, decide_eq_true c1, decide_eq_true c2]; rfl, rfl⟩
        · go_wp2
          go_roundw
          case rel =>
            obtain ⟨e1, e2⟩ := HE.out
            exact ⟨k + 1, by omega, by go_num, by rw [e1, e2, decide_eq_false (show ¬ r ≤ x.2 by omega)]; simp, by first | rfl | trivial⟩
          case measure => simp [intOf]; omega
      · go_wp2
        go_roundw
        case rel =>
          obtain ⟨e1, e2⟩ := HE.out
          exact ⟨k + 1, by omega, by go_num, by rw [e1, e2, decide_eq_false (show ¬ x.1 ≤ r by omega)]; simp, by first | rfl | trivial⟩
        case measure => simp [intOf]; omega
    · go_wp2
      go_ret
      refine ⟨?_, rfl⟩
      rw [hall, List.drop_eq_nil_of_le (by omega)]
      rfl

set_option maxRecDepth 10000 in
set_option maxHeartbeats 1000000 in
theorem rmark_any (r : Int) (w : World) :
    Calls Tryz.prog 135 #[.int .i32 r] w fun e w' => e = .returned (.bool (mrk r)) ∧ Below w.heap.size w w' := by
  go_enter Tryz.func135, Tryz.ntmps135
  go_wp2_with fail
  refine (among_any r marksL w.heap.size 24 _ (by decide) ?_).mono ?_
  · intro i hi
    match i, hi with
    | 0, _ => exact ⟨(Blk.new w _ _).cell 0, (Blk.new w _ _).cell 1⟩
    | 1, _ => exact ⟨(Blk.new w _ _).cell 2, (Blk.new w _ _).cell 3⟩
    | 2, _ => exact ⟨(Blk.new w _ _).cell 4, (Blk.new w _ _).cell 5⟩
    | 3, _ => exact ⟨(Blk.new w _ _).cell 6, (Blk.new w _ _).cell 7⟩
    | 4, _ => exact ⟨(Blk.new w _ _).cell 8, (Blk.new w _ _).cell 9⟩
    | 5, _ => exact ⟨(Blk.new w _ _).cell 10, (Blk.new w _ _).cell 11⟩
    | 6, _ => exact ⟨(Blk.new w _ _).cell 12, (Blk.new w _ _).cell 13⟩
    | 7, _ => exact ⟨(Blk.new w _ _).cell 14, (Blk.new w _ _).cell 15⟩
    | 8, _ => exact ⟨(Blk.new w _ _).cell 16, (Blk.new w _ _).cell 17⟩
    | 9, _ => exact ⟨(Blk.new w _ _).cell 18, (Blk.new w _ _).cell 19⟩
    | 10, _ => exact ⟨(Blk.new w _ _).cell 20, (Blk.new w _ _).cell 21⟩
    | 11, _ => exact ⟨(Blk.new w _ _).cell 22, (Blk.new w _ _).cell 23⟩
    | i + 12, hi => exact absurd hi (by simp [marksL])
  rintro e w1 ⟨rfl, rfl⟩
  go_wp2
  go_ret
  exact ⟨by rw [mrk, look_any r marksL 0 asc_marks]; rfl, (Below.refl _ w).alloc (Nat.le_refl _) _⟩

set_option maxRecDepth 10000 in
set_option maxHeartbeats 1000000 in
theorem rwide_any (r : Int) (w : World) :
    Calls Tryz.prog 136 #[.int .i32 r] w fun e w' => e = .returned (.bool (wide r)) ∧ Below w.heap.size w w' := by
  go_enter Tryz.func136, Tryz.ntmps136
  go_wp2_with fail
  refine (among_any r widesL w.heap.size 28 _ (by decide) ?_).mono ?_
  · intro i hi
    match i, hi with
    | 0, _ => exact ⟨(Blk.new w _ _).cell 0, (Blk.new w _ _).cell 1⟩
    | 1, _ => exact ⟨(Blk.new w _ _).cell 2, (Blk.new w _ _).cell 3⟩
    | 2, _ => exact ⟨(Blk.new w _ _).cell 4, (Blk.new w _ _).cell 5⟩
    | 3, _ => exact ⟨(Blk.new w _ _).cell 6, (Blk.new w _ _).cell 7⟩
    | 4, _ => exact ⟨(Blk.new w _ _).cell 8, (Blk.new w _ _).cell 9⟩
    | 5, _ => exact ⟨(Blk.new w _ _).cell 10, (Blk.new w _ _).cell 11⟩
    | 6, _ => exact ⟨(Blk.new w _ _).cell 12, (Blk.new w _ _).cell 13⟩
    | 7, _ => exact ⟨(Blk.new w _ _).cell 14, (Blk.new w _ _).cell 15⟩
    | 8, _ => exact ⟨(Blk.new w _ _).cell 16, (Blk.new w _ _).cell 17⟩
    | 9, _ => exact ⟨(Blk.new w _ _).cell 18, (Blk.new w _ _).cell 19⟩
    | 10, _ => exact ⟨(Blk.new w _ _).cell 20, (Blk.new w _ _).cell 21⟩
    | 11, _ => exact ⟨(Blk.new w _ _).cell 22, (Blk.new w _ _).cell 23⟩
    | 12, _ => exact ⟨(Blk.new w _ _).cell 24, (Blk.new w _ _).cell 25⟩
    | 13, _ => exact ⟨(Blk.new w _ _).cell 26, (Blk.new w _ _).cell 27⟩
    | i + 14, hi => exact absurd hi (by simp [widesL])
  rintro e w1 ⟨rfl, rfl⟩
  go_wp2
  go_ret
  exact ⟨by rw [wide, look_any r widesL 0 asc_wides]; rfl, (Below.refl _ w).alloc (Nat.le_refl _) _⟩

theorem width_odd (r : Int) (h : r < 0 ∨ 1114111 < r ∨ (55296 ≤ r ∧ r ≤ 57343)) : width r = 1 := by
  have h1 : ctl r = false := by simp [ctl]; omega
  have h2 : mrk r = false := by rw [mrk, look_any r marksL 0 asc_marks]; simp [inAny, marksL]; omega
  have h3 : wide r = false := by rw [wide, look_any r widesL 0 asc_wides]; simp [inAny, widesL]; omega
  simp [width, h1, h2, h3]

set_option maxRecDepth 10000 in
set_option maxHeartbeats 1000000 in
theorem rwidth_any (r : Int) (w : World) :
    Calls Tryz.prog 98 #[.int .i32 r] w fun e w' => e = .returned (.int .i64 (width r)) ∧ Below w.heap.size w w' := by
  rcases (show r < 0 ∨ 1114111 < r ∨ (55296 ≤ r ∧ r ≤ 57343) ∨ (0 ≤ r ∧ r ≤ 1114111 ∧ (r < 55296 ∨ 57343 < r)) by omega) with h | h | ⟨h, h'⟩ | ⟨h, h', h''⟩
  · have HW : Hid (width r = 1) := width_odd r (.inl h)
    go_enter Tryz.func98, Tryz.ntmps98
    go_wp2
    go_ret
    exact ⟨by rw [HW.out]; rfl, Below.refl _ _⟩
  · have HW : Hid (width r = 1) := width_odd r (.inr (.inl h))
    go_enter Tryz.func98, Tryz.ntmps98
    go_wp2
    go_ret
    exact ⟨by rw [HW.out]; rfl, Below.refl _ _⟩
  · have HW : Hid (width r = 1) := width_odd r (.inr (.inr ⟨h, h'⟩))
    go_enter Tryz.func98, Tryz.ntmps98
    go_wp2
    go_ret
    exact ⟨by rw [HW.out]; rfl, Below.refl _ _⟩
  · rcases h'' with h2 | h2
    all_goals
      go_enter Tryz.func98, Tryz.ntmps98
      go_wp2_with fail
      refine (rcontrol_any _ _).mono ?_
      rintro e w1 ⟨rfl, rfl⟩
      cases k1 : ctl r
      · go_wp2_with fail
        refine (rmark_any _ _).mono ?_
        rintro e w2 ⟨rfl, hb⟩
        cases k2 : mrk r
        · go_wp2_with fail
          refine (rwide_any _ _).mono ?_
          rintro e w3 ⟨rfl, hb'⟩
          have HB : Hid (Below w1.heap.size w1 w3) := hb.trans (hb'.mono hb.size)
          clear hb hb'
          cases k3 : wide r
          · go_wp2
            go_ret
            exact ⟨by simp [width, k1, k2, k3], HB.out⟩
          · go_wp2
            go_ret
            exact ⟨by simp [width, k1, k2, k3], HB.out⟩
        · go_wp2
          go_ret
          exact ⟨by simp [width, k2], hb⟩
      · go_wp2
        go_ret
        exact ⟨by simp [width, k1], Below.refl _ _⟩

end Go.Proofs.YtcahdmfmcojaoaaGreatDoor
