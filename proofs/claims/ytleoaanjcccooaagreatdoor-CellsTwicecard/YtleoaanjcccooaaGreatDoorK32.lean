/-
  Texts of this claim, one behind the other: what each is about stands ahead of it.
-/
import Derived.Test.YtleoaanjcccooaaGreatDoorK20
import Derived.Test.YtleoaanjcccooaaGreatDoorK8
import Derived.Test.YtleoaanjcccooaaGreatDoorK28
import Derived.Test.YtleoaanjcccooaaGreatDoorK3
import Derived.Test.YtleoaanjcccooaaGreatDoorK31
import Derived.Test.YtleoaanjcccooaaGreatDoorRows
import Derived.Test.YtleoaanjcccooaaGreatDoorK4
import Derived.Test.YtleoaanjcccooaaGreatDoorK14
import Derived.PinnedBridge
import Derived.Lib.LaidU8T
import Derived.Lib.LaidTab
import Derived.MakeChecks
import Derived.LaidHandle
import Derived.LaidLaws
import Derived.ChangeMade
import Derived.RowKitTokens
import Derived.Lay
import Derived.Deep.DeepLaidRun
import Derived.Test.YtleoaanjcccooaaGreatDoorK1
import Derived.Test.YtleoaanjcccooaaGreatDoorK26
import Derived.Test.YtleoaanjcccooaaGreatDoorK27
import Derived.Test.YtleoaanjcccooaaGreatDoorK21
import Derived.Test.YtleoaanjcccooaaGreatDoorK22
/-
  The statements' own comparing of lists, of screens (stage 16).
-/
namespace Go.Proofs.YtleoaanjcccooaaGreatDoor
open Go.RowKit

theorem neq_cellS (x : Ce) (w : World) : (binOp .neq 47 (Value.agg #[.int .i32 x.r, .int .u8 x.c.r, .int .u8 x.c.g, .int .u8 x.c.b, .int .u8 x.c.a, .int .u8 x.b.r, .int .u8 x.b.g, .int .u8 x.b.b, .int .u8 x.b.a, .bool x.wd, .bool x.tl]) (Value.agg #[.int .i32 x.r, .int .u8 x.c.r, .int .u8 x.c.g, .int .u8 x.c.b, .int .u8 x.c.a, .int .u8 x.b.r, .int .u8 x.b.g, .int .u8 x.b.b, .int .u8 x.b.a, .bool x.wd, .bool x.tl])).run Tryz.prog w = .ok (.bool false) w := by
  simp [go_sem]

end Go.Proofs.YtleoaanjcccooaaGreatDoor

/-
  The document's comparing of screens (stage 15).
-/
namespace Go.Proofs.YtleoaanjcccooaaGreatDoor
open Go.RowKit

set_option maxRecDepth 20000 in
set_option maxHeartbeats 4000000 in
theorem scr15_any (p q : Int) (L : List Ce) (va vb : Value) (w : World) (ha : LsC w va L) (hb : LsC w vb L) (hl : L.length < 1000000) :
    Calls Tryz.prog 9 #[.agg #[.int .i64 p, .int .i64 q, va], .agg #[.int .i64 p, .int .i64 q, vb]] w fun e w' => e = .returned (.bool true) ∧ Below w.heap.size w w' := by
  obtain ⟨oa, ca, rfl, hca, hga⟩ := ha
  obtain ⟨ob, cb, rfl, hcb, hgb⟩ := hb
  obtain ⟨m, hm⟩ : ∃ m, m = L.length := ⟨_, rfl⟩
  have HA : Hid (0 < L.length → ∃ g o, oa = some ⟨g, o, none⟩ ∧ g < w.heap.size ∧ ∀ i (h : i < L.length), CeAt w g (o + i * 11) L[i]) := hga
  have HB : Hid (0 < L.length → ∃ g o, ob = some ⟨g, o, none⟩ ∧ g < w.heap.size ∧ ∀ i (h : i < L.length), CeAt w g (o + i * 11) L[i]) := hgb
  have HM : Hid (L.length = m) := hm.symm
  rw [← hm]
  rw [← hm] at hl
  obtain ⟨W2, hW2⟩ : ∃ W2, W2 = (w.alloc (.cells #[.int .i64 p, .int .i64 q, .slice oa m ca] 26)).alloc (.cells #[.int .i64 p, .int .i64 q, .slice ob m cb] 26) := ⟨_, rfl⟩
  have H2 : Hid (Bk W2 w.heap.size #[.int .i64 p, .int .i64 q, .slice oa m ca] 26 ∧ Bk W2 (w.heap.size + 1) #[.int .i64 p, .int .i64 q, .slice ob m cb] 26 ∧ Below w.heap.size w W2) := by
    have k1 := Bk.new w #[.int .i64 p, .int .i64 q, .slice oa m ca] 26
    have k2 := Bk.new (w.alloc (.cells #[.int .i64 p, .int .i64 q, .slice oa m ca] 26)) #[.int .i64 p, .int .i64 q, .slice ob m cb] 26
    simp only [World.size_alloc] at k2
    rw [hW2]
    exact ⟨k1.below ((Below.refl _ _).alloc (Nat.le_refl _) _), k2, ((Below.refl _ w).alloc (Nat.le_refl _) _).alloc (by simp) _⟩
  clear hga hgb hm hca hcb
  go_enter Tryz.func9, Tryz.ntmps9
  go_wp2_with fail
  rw [← hW2]
  clear hW2
  go_loopw [5] (fun i wr => ∃ k : Nat, k ≤ m ∧ i = .int .i64 k ∧ Hid (Below W2.heap.size W2 wr)) (fun i _ => m - (intOf i).toNat)
  case atStart => exact ⟨0, Nat.zero_le _, rfl, Below.refl _ _⟩
  case round =>
    obtain ⟨k, hk, rfl, HK⟩ := hrel
    have c0 := (H2.out.1.below HK.out).cell 2
    have c1 := (H2.out.2.1.below HK.out).cell 2
    simp only [List.getElem?_toArray, List.getElem?_cons_zero, List.getElem?_cons_succ] at c0 c1
    have HW : Hid (Below w.heap.size w wr) := H2.out.2.2.trans (HK.out.mono H2.out.2.2.size)
    by_cases hlt : k < m
    · have ik : (k : Int) < m := by omega
      have hla : k < L.length := by rw [HM.out]; exact hlt
      obtain ⟨g, o, rfl, hg, hat⟩ := HA.out (by omega)
      obtain ⟨g', o', rfl, hg', hat'⟩ := HB.out (by omega)
      have hx := (hat k hla).kept (w' := wr) fun j => HW.out.cell (p := ⟨g, j, none⟩) hg
      have hy := (hat' k hla).kept (w' := wr) fun j => HW.out.cell (p := ⟨g', j, none⟩) hg'
      clear hat hat'
      generalize L[k] = x at *
      obtain ⟨x0, x1, x2, x3, x4, x5, x6, x7, x8, x9, x10⟩ := hx
      obtain ⟨y0, y1, y2, y3, y4, y5, y6, y7, y8, y9, y10⟩ := hy
      have hq := neq_cellS x
      have HF : Hid (Below W2.heap.size W2 wr) := HK.out
      clear HK hla HW
      go_wp2_with fail
      go_quiet (fail)
      go_wp2
      go_roundw
      case rel => exact ⟨k + 1, by omega, by go_num, below_drewN HF.out⟩
      case measure => simp [intOf]; omega
    · obtain rfl : k = m := by omega
      go_wp2
      go_ret
      exact ⟨rfl, HW.out⟩

end Go.Proofs.YtleoaanjcccooaaGreatDoor

/-
  The calls of awake: contracts at its screens and texts.
-/
namespace Go.Proofs.YtleoaanjcccooaaGreatDoor
open Go.RowKit

/-- The screen, blank, and a white colour, in memory. -/
structure AwW (w : World) (wB sB gs : Nat) (W : World) : Prop where
  wb : Bk W wB #[.int .u8 255, .int .u8 255, .int .u8 255, .int .u8 255] 45
  sb : Bk W sB #[.int .i64 4, .int .i64 2, .slice (some ⟨gs, 0, none⟩) 8 8] 26
  s : Bk W gs (flatC S8).toArray 47
  lo : Below w.heap.size w W
theorem AwW.below {w : World} {wB sB gs : Nat} {W W' : World} (h : AwW w wB sB gs W) (hb : Below W.heap.size W W') : AwW w wB sB gs W' := ⟨h.wb.below hb, h.sb.below hb, h.s.below hb, h.lo.trans (hb.mono h.lo.size)⟩
theorem flatC_bk {W : World} {g : Nat} {L : List Ce} (h : Bk W g (flatC L).toArray 47) : LsC W (.slice (some ⟨g, 0, none⟩) L.length L.length) L := by
  refine ⟨_, L.length, rfl, Nat.le_refl _, fun _ => ⟨g, 0, rfl, h.lt, fun i hi => ?_⟩⟩
  rw [ceat_iff]
  intro j hj
  rw [Nat.zero_add, h.cell, List.getElem?_toArray, flatC_at L i hi j hj]
/-- What the statements ask of the listed variables. -/
structure Env15 (w : World) : Prop where
  t : ∀ W, Below w.heap.size w W → TbD W
  d : TabC w
  p : PwC w.heap.size w
theorem Env15.below {w W : World} (h : Env15 w) (hb : Below w.heap.size w W) : Env15 W := ⟨fun W' h' => h.t W' (hb.trans (h'.mono hb.size)), h.d.below hb, (h.p.on hb).mono hb.size⟩

theorem aw_bk15 {W : World} {b : Nat} {s : St} {t : TypeId} (h : Bk W b (#[.int .u8 s.k, .int .i64 s.r.x, .int .i64 s.r.y, .int .i64 s.r.w, .int .i64 s.r.h, .int .u8 s.c.r, .int .u8 s.c.g, .int .u8 s.c.b, .int .u8 s.c.a, .int .u8 s.b.r, .int .u8 s.b.g, .int .u8 s.b.b, .int .u8 s.b.a, .string s.t, .int .i64 s.n]) t) : StAt W b 0 s := by
  rw [stat_iff]
  intro j hj
  rw [Nat.zero_add, h.cell]
  show (sCel s).toArray[j]? = _
  rw [List.getElem?_toArray]
theorem aw_xys {l : List St} (h : Wfs l) : Xys l := fun s hs => ⟨(h s hs).2.1.1, (h s hs).2.1.2.1⟩
theorem st_wf : Wfs [st1] ∧ Wfs [st2] := by
  constructor <;> intro s hs <;> rw [List.mem_singleton] at hs <;> subst hs <;> exact ⟨⟨by decide, by decide⟩, ⟨⟨by decide, by decide⟩, ⟨by decide, by decide⟩, ⟨by decide, by decide⟩, ⟨by decide, by decide⟩⟩, ⟨⟨by decide, by decide⟩, ⟨by decide, by decide⟩, ⟨by decide, by decide⟩, ⟨by decide, by decide⟩⟩, ⟨⟨by decide, by decide⟩, ⟨by decide, by decide⟩, ⟨by decide, by decide⟩, ⟨by decide, by decide⟩⟩, by decide, ⟨by decide, by decide⟩⟩
theorem s8_wf : WfC S8 := by
  intro c hc
  have : c = bl0 := by simpa [S8] using hc
  subst this
  exact ⟨⟨⟨by decide, by decide⟩, ⟨by decide, by decide⟩, ⟨by decide, by decide⟩, ⟨by decide, by decide⟩⟩, ⟨⟨by decide, by decide⟩, ⟨by decide, by decide⟩, ⟨by decide, by decide⟩, ⟨by decide, by decide⟩⟩⟩

theorem awBlank (W : World) : Calls Tryz.prog 15 #[.agg #[.int .i64 4, .int .i64 2], .agg #[.int .u8 0, .int .u8 0, .int .u8 0, .int .u8 0]] W fun e w' => ∃ g, e = .returned (.tuple #[.agg #[.int .i64 4, .int .i64 2, .slice (some ⟨g, 0, none⟩) 8 8], .int .i64 0]) ∧ W.heap.size ≤ g ∧ Bk w' g (flatC S8).toArray 47 ∧ Below W.heap.size W w' :=
  blank_ok 4 2 coZ 8 W (by decide) (by decide)
theorem awDraw (st : St) (hst : Wfs [st]) (hk : chkS [st] = 0) (w : World) (wB sB gs gx : Nat) (W : World) (hE : Env15 w) (h : AwW w wB sB gs W) (hx : Bk W gx (#[.int .u8 st.k, .int .i64 st.r.x, .int .i64 st.r.y, .int .i64 st.r.w, .int .i64 st.r.h, .int .u8 st.c.r, .int .u8 st.c.g, .int .u8 st.c.b, .int .u8 st.c.a, .int .u8 st.b.r, .int .u8 st.b.g, .int .u8 st.b.b, .int .u8 st.b.a, .string st.t, .int .i64 st.n]) 58) :
    Calls Tryz.prog 7 #[.agg #[.int .i64 4, .int .i64 2, .slice (some ⟨gs, 0, none⟩) 8 8], .slice (some ⟨gx, 0, none⟩) 1 1] W fun e w' => ∃ ga ca, e = .returned (.tuple #[.agg #[.int .i64 4, .int .i64 2, .slice (some ⟨ga, 0, none⟩) 8 ca], .int .i64 0]) ∧ Hid (LsC w' (.slice (some ⟨ga, 0, none⟩) 8 ca) (drwS 4 S8 (flaL [st])) ∧ Below W.heap.size W w') := by
  have hl : LsS W (.slice (some ⟨gx, 0, none⟩) 1 1) [st] := by
    refine ⟨_, 1, rfl, Nat.le_refl _, fun _ => ⟨gx, 0, rfl, hx.lt, fun i hi => ?_⟩⟩
    obtain rfl : i = 0 := by simpa using hi
    exact aw_bk15 hx
  refine (dDraw_ok frame_any 4 2 S8 (.slice (some ⟨gs, 0, none⟩) 8 8) [st] _ W (flatC_bk h.s) (fun c e => by cases e) (by decide) rfl (by decide +kernel) hl hst.txs (aw_xys hst) hk s8_wf (fun s hs => ⟨(hst s hs).2.2.1, (hst s hs).2.2.2.1⟩) (hE.t W h.lo).1 (fun W' h' => hE.t W' (h.lo.trans (h'.mono h.lo.size)))).mono ?_
  rintro e w' ⟨u, rfl, hu⟩
  have hlen : (drwS 4 S8 (flaL [st])).length = 8 := by rw [drwS_len]; rfl
  obtain ⟨ga, ca, rfl, hsm⟩ := hu.out.1.scm (by rw [hlen]; decide)
  rw [hlen] at hsm ⊢
  exact ⟨ga, ca, rfl, hsm.own.lsc, hu.out.2⟩

end Go.Proofs.YtleoaanjcccooaaGreatDoor

/-
  A screen that came in, written out; what the listed variables give: the tables of runes, the runes of frames, the library's numbers and its decoder's tables.
-/
namespace Go.Proofs.YtleoaanjcccooaaGreatDoor
open Go.ChangeShapes Go.WideShapes Go.ChangeAt Go.RowKit Go.Joins Go.Lib

theorem own_w : ownKnob Tryz.prog.godebug = none := by kernel_rfl
theorem laid_w : laidOutB Tryz.prog = true := by kernel_rfl
theorem cells_ce : Tryz.prog.cellsOf 47 = 11 := by kernel_rfl
theorem cells_scr : Tryz.prog.cellsOf 26 = 3 := by kernel_rfl
theorem cells_lc : Tryz.prog.cellsOf 24 = 1 := by kernel_rfl
theorem cells_i32 : Tryz.prog.cellsOf 21 = 1 := by kernel_rfl
theorem cells_bo : Tryz.prog.cellsOf 4 = 1 := by kernel_rfl
theorem trod_struct5c {H : Type} {enc : TypeId × Value → H} {P : Program} {w : World} {base : Nat} {spare : Nat → Bool} {held : Bool} {t : TypeId} {f0 f1 f2 f3 f4 : Field} {fuel : Nat} {cs : List Value} {x : DataW H × List MemPlace} (ht : P.underlying t = some (.struct #[f0, f1, f2, f3, f4])) (h : DataW.trod enc P w base spare held fuel t cs = some x) :
    ∃ y0 y1 y2 y3 y4 n, cs.length = P.cellsOf t ∧ DataW.trod enc P w base spare held n f0.type ((cs.drop f0.offset).take (P.cellsOf f0.type)) = some y0 ∧
      DataW.trod enc P w base spare held n f1.type ((cs.drop f1.offset).take (P.cellsOf f1.type)) = some y1 ∧ DataW.trod enc P w base spare held n f2.type ((cs.drop f2.offset).take (P.cellsOf f2.type)) = some y2 ∧
      DataW.trod enc P w base spare held n f3.type ((cs.drop f3.offset).take (P.cellsOf f3.type)) = some y3 ∧ DataW.trod enc P w base spare held n f4.type ((cs.drop f4.offset).take (P.cellsOf f4.type)) = some y4 := by
  obtain ⟨xs, n, _, rfl, hl, hlen, hf⟩ := DataW.trod_struct ht h
  match xs, hlen with
  | [y0, y1, y2, y3, y4], _ => exact ⟨y0, y1, y2, y3, y4, n, hl, by simpa using hf 0 f0 rfl, by simpa using hf 1 f1 rfl, by simpa using hf 2 f2 rfl, by simpa using hf 3 f3 rfl, by simpa using hf 4 f4 rfl⟩
set_option maxRecDepth 100000 in
theorem ce_cells {H : Type} {enc : TypeId × Value → H} {W : World} {b : Nat} {sp : Nat → Bool} {held : Bool} {fuel : Nat} {cs : List Value} {x : DataW H × List MemPlace} (h : DataW.trod enc Tryz.prog W b sp held fuel 47 cs = some x) :
    ∃ c : Ce, cs = cCel c ∧ c.c.ok ∧ c.b.ok := by
  obtain ⟨y0, y1, y2, y3, y4, n, hl, h0, h1, h2, h3, h4⟩ := trod_struct5c Tryz.underlying47 h
  rw [cells_ce] at hl
  match cs, hl with
  | [c0, c1, c2, c3, c4, c5, c6, c7, c8, c9, c10], _ =>
    simp [cells_i32, cells_c, cells_bo] at h0 h1 h2 h3 h4
    obtain ⟨a0, e0, _, w0⟩ := DataW.trod_int Tryz.underlying21 h0
    obtain ⟨c, d0, d1, d2, d3, okc⟩ := colZ_cells h1
    obtain ⟨k, f0, f1, f2, f3, okk⟩ := colZ_cells h2
    obtain ⟨p, ep, _⟩ := DataW.trod_bool Tryz.underlying4 h3
    obtain ⟨q, eq, _⟩ := DataW.trod_bool Tryz.underlying4 h4
    simp at e0 ep eq
    refine ⟨⟨a0, c, k, p, q⟩, ?_, okc, okk⟩
    rw [e0, d0, d1, d2, d3, f0, f1, f2, f3, ep, eq]
    rfl
theorem ces_of {W : World} {g o : Nat} : ∀ (n : Nat), (∀ i, i < n → ∃ s : Ce, CeAt W g (o + i * 11) s ∧ s.c.ok ∧ s.b.ok) → ∃ l : List Ce, l.length = n ∧ (∀ i (h : i < l.length), CeAt W g (o + i * 11) l[i]) ∧ WfC l
  | 0, _ => ⟨[], rfl, fun i h => absurd h (Nat.not_lt_zero i), fun r hr => by simp at hr⟩
  | n + 1, h => by
    obtain ⟨rs, hl, ha, hw⟩ := ces_of n fun i hi => h i (by omega)
    obtain ⟨r, hr, hz⟩ := h n (by omega)
    refine ⟨rs ++ [r], by simp [hl], fun i hi => ?_, fun x hx => ?_⟩
    · by_cases e : i < rs.length
      · rw [List.getElem_append_left e]; exact ha i e
      · have : i = n := by simp at hi; omega
        subst this
        subst hl
        rw [List.getElem_concat_length rfl]
        exact hr
    · rcases List.mem_append.1 hx with hx | hx
      · exact hw x hx
      · simp at hx; subst hx; exact hz
set_option maxRecDepth 100000 in
theorem open_ces {H : Type} {enc : TypeId × Value → H} {W : World} {b : Nat} {sp : Nat → Bool} {held : Bool} {fuel : Nat} {v : Value} {x : DataW H × List MemPlace}
    (hf : DataW.trod enc Tryz.prog W b sp held fuel 24 [v] = some x) : ∃ l : List Ce, LsC W v l ∧ WfC l ∧ NoNil v := by
  rcases DataW.trod_slice Tryz.underlying24 hf with ⟨he, _⟩ | ⟨a, len, cap, el, rest, n, _, he, _, _, hlc, hcm, hel, hat, _, _⟩
  · simp at he
    subst he
    exact ⟨[], ⟨none, 0, rfl, Nat.le_refl _, fun h => by simp at h⟩, fun r hr => by simp at hr, fun c hc => by injection hc with _ _ h; exact h.symm⟩
  · simp at he
    subst he
    have hnn : NoNil (.slice (some a) len cap) := fun c hc => by injection hc with h1 _ _; cases h1
    rw [cells_ce] at hat
    obtain ⟨g, o, s⟩ := a
    have key : ∀ i, i < len → ∃ r : Ce, (∀ j, j < 11 → W.cell? ((Addr.mk g o s).add (i * 11) |>.add j) = (cCel r)[j]?) ∧ r.c.ok ∧ r.b.ok := by
      intro i hi
      have h1 := hat i hi
      obtain ⟨bb, hb⟩ : ∃ bb, el[i]? = some bb := ⟨el[i]'(by omega), List.getElem?_eq_getElem (by omega)⟩
      rw [hb] at h1
      obtain ⟨ce, hce, hte⟩ := Option.bind_eq_some_iff.1 h1
      obtain ⟨r, hr, hw⟩ := ce_cells hte
      obtain ⟨_, _, hcc⟩ := World.cells?_some hce
      exact ⟨r, fun j hj => by rw [hcc j hj, hr], hw⟩
    by_cases h0 : len = 0
    · subst h0
      exact ⟨[], ⟨_, cap, rfl, Nat.zero_le _, fun h => by simp at h⟩, fun r hr => by simp at hr, hnn⟩
    obtain rfl : s = none := by
      obtain ⟨r, hr, _⟩ := key 0 (by omega)
      have h00 := hr 0 (by omega)
      have : (Addr.add (Addr.add ⟨g, o, s⟩ (0 * 11)) 0) = ⟨g, o, s⟩ := by simp [Addr.add]
      rw [this] at h00
      exact Go.Proofs.cell_spot h00
    obtain ⟨rs, hl, ha, hw⟩ := ces_of (W := W) (g := g) (o := o) len fun i hi => by
      obtain ⟨r, hr, hz⟩ := key i hi
      have e := fun j hj => hr j hj
      simp only [Addr.add_lit] at e
      exact ⟨r, ceat_iff.2 e, hz⟩
    subst hl
    have hg : g < W.heap.size := by
      have h1 := (ha 0 (by omega)).1
      rcases Nat.lt_or_ge g W.heap.size with h' | h'
      · exact h'
      · simp [World.cell?, Array.getElem?_eq_none h'] at h1
    exact ⟨rs, ⟨_, cap, rfl, hlc, fun _ => ⟨g, o, rfl, hg, ha⟩⟩, hw, hnn⟩
set_option maxRecDepth 100000 in
theorem open_screen {H : Type} {enc : TypeId × Value → H} {W : World} {base b : Nat} {sp : Nat → Bool} {held : Bool} {v : Value} {d : DataW H} {p : List MemPlace}
    (hv : Value.okWide Tryz.prog W .any base 26 v) (h : DataW.Trod enc Tryz.prog W b sp held 26 v d p) : ∃ (x y : Int) (L : List Ce) (u : Value), v = .agg #[.int .i64 x, .int .i64 y, u] ∧ LsC W u L ∧ WfC L ∧ NoNil u := by
  obtain ⟨cs, rfl, hsz⟩ := okWide_struct Tryz.underlying26 hv
  obtain ⟨c0, c1, c2, rfl⟩ := array3 (hsz.trans cells_scr)
  obtain ⟨fuel, hf⟩ := h
  obtain ⟨y0, y1, n, _, hl, h0, h1⟩ := trod_struct2 Tryz.underlying26 hf
  simp [Value.cells, cells_s, cells_lc] at h0 h1
  obtain ⟨y00, y01, n0, _, _, h00, h01⟩ := trod_struct2 Tryz.underlying23 h0
  simp [cells_i] at h00 h01
  obtain ⟨a0, e0, _, w0⟩ := DataW.trod_int Tryz.underlying3 h00
  obtain ⟨a1, e1, _, w1⟩ := DataW.trod_int Tryz.underlying3 h01
  simp at e0 e1
  subst e0 e1
  obtain ⟨l, k1, k2, k3⟩ := open_ces h1
  exact ⟨a0, a1, l, c2, rfl, k1, k2, k3⟩

def spanData (xs : List (Int × Int)) : DataW Unit := .slice (xs.map fun x => .agg ([x.1, x.2].map fun z => .lit (.int .i32 z))) []
theorem marks_eq : Rows.laid_casement_runes_marks (H := Unit) = spanData marksL := by kernel_rfl
theorem wides_eq : Rows.laid_casement_runes_wides (H := Unit) = spanData widesL := by kernel_rfl
theorem c_span : Tryz.prog.cellsOf 245 = 2 := by kernel_rfl
theorem c_i32 : Tryz.prog.cellsOf 21 = 1 := by kernel_rfl

theorem spans_of_reads {name : String} {g : Nat} (hn : Tryz.prog.globalNamed name = some g) (hy : (Tryz.prog.globals[g]?).map (·.type) = some 243) {xs : List (Int × Int)} (h0 : xs ≠ []) {w : World} (h : VarReads Tryz.prog w name (spanData xs)) : Spans w g xs := by
  obtain ⟨g', t, cs, fuel, p, hg, hty, hvar, hd⟩ := h
  obtain rfl := Option.some.inj (hn.symm.trans hg)
  obtain rfl := Option.some.inj (hy.symm.trans hty)
  rcases DataW.trod_slice Tryz.underlying243 hd with ⟨_, hx⟩ | ⟨a, len, cap, el, rs, m, rfl, hcs, hx, _, hlc, _, hel, helem, _, _⟩
  · cases hx
  · have eE : el.map (·.1) = xs.map fun x => (.agg ([x.1, x.2].map fun z => .lit (.int .i32 z)) : DataW Unit) := by
      have := congrArg Prod.fst hx
      simp only [spanData, DataW.slice.injEq] at this
      exact this.1.symm
    have hlen : len = xs.length := by
      have := congrArg List.length eE
      simp at this
      omega
    subst hlen
    have hrange : ∀ i (hi : i < xs.length), ∀ j, j < 2 → w.cell? ((a.add (i * 2)).add j) = ([.int .i32 xs[i].1, .int .i32 xs[i].2] : List Value)[j]? := by
      intro i hi j hj
      have h1 := helem i hi
      rw [c_span] at h1
      obtain ⟨b, hb⟩ : ∃ b, el[i]? = some b := ⟨el[i]'(by omega), List.getElem?_eq_getElem (by omega)⟩
      rw [hb] at h1
      obtain ⟨ce, hce, hte⟩ := Option.bind_eq_some_iff.1 h1
      have hb1 : b.1 = .agg ([xs[i].1, xs[i].2].map fun z => .lit (.int .i32 z)) := by
        have := congrArg (·[i]?) eE
        simpa [hb, hi] using this
      have hcs2 := ints_of_struct (p := b.2) Tryz.underlying245 (fun q f hq => by
        match q, hq with
        | 0, hq => simp at hq; subst hq; exact ⟨Tryz.underlying21, rfl, c_i32⟩
        | 1, hq => simp at hq; subst hq; exact ⟨Tryz.underlying21, rfl, c_i32⟩
        | q + 2, hq => simp at hq) (by rw [c_span]; rfl) (by rw [← hb1]; exact hte)
      obtain ⟨_, _, hcc⟩ := World.cells?_some hce
      rw [hcc j hj, hcs2]
      rfl
    obtain ⟨R, o, sR⟩ := a
    have hpos : 0 < xs.length := by
      cases xs with
      | nil => exact absurd rfl h0
      | cons _ _ => simp
    obtain rfl : sR = none := by
      have h00 := hrange 0 hpos 0 (by omega)
      have : (Addr.add (Addr.add ⟨R, o, sR⟩ (0 * 2)) 0) = ⟨R, o, sR⟩ := by simp [Addr.add]
      rw [this] at h00
      exact cell_spot h00
    refine ⟨R, o, cap, ?_, hlc, fun i hi => ?_⟩
    · rw [World.var?_cell hg hvar 0, ← Array.getElem?_toList, hcs]
      rfl
    · have k0 := hrange i hi 0 (by omega)
      have k1 := hrange i hi 1 (by omega)
      rw [Addr.add_lit, Addr.add_lit] at k0 k1
      exact ⟨by simpa using k0, by simpa using k1⟩

set_option maxRecDepth 100000 in
theorem c_box4 : Tryz.prog.cellsOf 205 = 4 := by kernel_rfl
set_option maxRecDepth 100000 in
theorem box_of {W : World} (h : VarReads Tryz.prog W "casement/cells.box" (Rows.laid_casement_cells_box (H := Unit))) : ∀ i j : Nat, i < 4 → j < 4 → W.cell? ⟨0, i * 4 + j, none⟩ = some (.int .i32 (([0, 9474, 9474, 9474, 9472, 9484, 9488, 9474, 9472, 9492, 9496, 9474, 9472, 9472, 9472, 9633] : List Int).getD (i * 4 + j) 0)) := by
  obtain ⟨g', t, cs, fuel, p, hg, hty, hvar, hd⟩ := h
  obtain rfl := Option.some.inj ((show Tryz.prog.globalNamed "casement/cells.box" = some 0 by kernel_rfl).symm.trans hg)
  obtain rfl := Option.some.inj ((show (Tryz.prog.globals[0]?).map (·.type) = some 206 by kernel_rfl).symm.trans hty)
  obtain ⟨xs, m, rfl, hx, hl, hn, hf⟩ := DataW.trod_array Tryz.underlying206 hd
  match xs, hn with
  | [x0, x1, x2, x3], _ =>
    obtain ⟨x0, p0⟩ := x0
    obtain ⟨x1, p1⟩ := x1
    obtain ⟨x2, p2⟩ := x2
    obtain ⟨x3, p3⟩ := x3
    have hx1 := congrArg Prod.fst hx
    simp only [Rows.laid_casement_cells_box, List.map_cons, List.map_nil, DataW.agg.injEq, List.cons.injEq, and_true] at hx1
    obtain ⟨rfl, rfl, rfl, rfl⟩ := hx1
    have f0 := hf 0 (by omega)
    have f1 := hf 1 (by omega)
    have f2 := hf 2 (by omega)
    have f3 := hf 3 (by omega)
    rw [c_box4] at f0 f1 f2 f3
    have k0 := cells_of_tab (zs := [0, 9474, 9474, 9474]) Tryz.underlying205 Tryz.underlying21 c_i32 c_box4 f0
    have k1 := cells_of_tab (zs := [9472, 9484, 9488, 9474]) Tryz.underlying205 Tryz.underlying21 c_i32 c_box4 f1
    have k2 := cells_of_tab (zs := [9472, 9492, 9496, 9474]) Tryz.underlying205 Tryz.underlying21 c_i32 c_box4 f2
    have k3 := cells_of_tab (zs := [9472, 9472, 9472, 9633]) Tryz.underlying205 Tryz.underlying21 c_i32 c_box4 f3
    intro i j hi hj
    rw [World.var?_cell hg hvar (i * 4 + j), ← Array.getElem?_toList]
    have e : cs.toList[i * 4 + j]? = ((cs.toList.drop (i * 4)).take 4)[j]? := by simp [hj, List.getElem?_drop]
    rw [e]
    rcases (show i = 0 ∨ i = 1 ∨ i = 2 ∨ i = 3 by omega) with rfl | rfl | rfl | rfl
    · rw [k0]
      rcases (show j = 0 ∨ j = 1 ∨ j = 2 ∨ j = 3 by omega) with rfl | rfl | rfl | rfl <;> rfl
    · rw [k1]
      rcases (show j = 0 ∨ j = 1 ∨ j = 2 ∨ j = 3 by omega) with rfl | rfl | rfl | rfl <;> rfl
    · rw [k2]
      rcases (show j = 0 ∨ j = 1 ∨ j = 2 ∨ j = 3 by omega) with rfl | rfl | rfl | rfl <;> rfl
    · rw [k3]
      rcases (show j = 0 ∨ j = 1 ∨ j = 2 ∨ j = 3 by omega) with rfl | rfl | rfl | rfl <;> rfl

theorem pow_eq : Rows.laid_internal_strconv_uint64pow10 (H := Unit) = Lib.tabData .u64 Lib.pow10Tab := by kernel_rfl
theorem pw_ofC {W : World} {l : List (String × DataW Unit)} (hm : ("internal/strconv.uint64pow10", Rows.laid_internal_strconv_uint64pow10) ∈ l) (hL : laidMet Tryz.prog l W) : PwC W.heap.size W := by
  have r2 : Lib.VarReads Tryz.prog W "internal/strconv.uint64pow10" (Lib.tabData .u64 Lib.pow10Tab) := pow_eq ▸ Lib.laidMet.reads hL hm
  obtain ⟨g', t, cs, fuel, p, hg, hty, hvar, hd⟩ := r2
  obtain rfl := Option.some.inj ((show Tryz.prog.globalNamed "internal/strconv.uint64pow10" = some 6 by kernel_rfl).symm.trans hg)
  obtain rfl := Option.some.inj ((show (Tryz.prog.globals[6]?).map (·.type) = some 269 by kernel_rfl).symm.trans hty)
  refine Lib.tabBelow_of_tabIs ?_
  unfold Lib.TabIs
  rw [hvar, ← Lib.cells_of_tab Tryz.underlying269 Tryz.underlying181 (by kernel_rfl) (by kernel_rfl) hd]
theorem accept_eq : Rows.laid_unicode_utf8_acceptRanges (H := Unit) = acceptData := by kernel_rfl
theorem xU : U8Extra Tryz.prog Tryz.lays197_ren := ⟨by kernel_rfl, by kernel_rfl, by kernel_rfl, by kernel_rfl, by kernel_rfl, by kernel_rfl, by kernel_rfl⟩
theorem tU : U8Types Tryz.prog Tryz.lays197_ren := { Tryz.lays197 with }
abbrev laidC : List (String × DataW Unit) := [("math/bits.deBruijn32tab", Rows.laid_math_bits_deBruijn32tab), ("math/bits.deBruijn64tab", Rows.laid_math_bits_deBruijn64tab), ("internal/strconv.uint64pow10", Rows.laid_internal_strconv_uint64pow10), ("unicode/utf8.acceptRanges", Rows.laid_unicode_utf8_acceptRanges), ("casement/runes.marks", Rows.laid_casement_runes_marks), ("casement/runes.wides", Rows.laid_casement_runes_wides), ("casement/cells.box", Rows.laid_casement_cells_box), ("unicode/utf8.first", Rows.laid_unicode_utf8_first)]
set_option maxRecDepth 100000 in
theorem env15_of {W : World} {l : List (String × DataW Unit)} (hl : l = laidC) (hd : laidMet Tryz.prog l W) (hsh : W.ShapedOpen Tryz.prog) : Env15 W := by
  subst hl
  have r1 : VarReads Tryz.prog W "unicode/utf8.acceptRanges" acceptData := accept_eq ▸ Lib.laidMet.reads hd (.tail _ (.tail _ (.tail _ (.head _))))
  have r7 : VarReads Tryz.prog W "unicode/utf8.first" firstData := Pinned.utf8First_eq ▸ Lib.laidMet.reads hd (.tail _ (.tail _ (.tail _ (.tail _ (.tail _ (.tail _ (.tail _ (.head _))))))))
  have r3 : VarReads Tryz.prog W "casement/runes.marks" (spanData marksL) := marks_eq ▸ Lib.laidMet.reads hd (.tail _ (.tail _ (.tail _ (.tail _ (.head _)))))
  have r4 : VarReads Tryz.prog W "casement/runes.wides" (spanData widesL) := wides_eq ▸ Lib.laidMet.reads hd (.tail _ (.tail _ (.tail _ (.tail _ (.tail _ (.head _))))))
  have r5 : VarReads Tryz.prog W "casement/cells.box" (Rows.laid_casement_cells_box (H := Unit)) := Lib.laidMet.reads hd (.tail _ (.tail _ (.tail _ (.tail _ (.tail _ (.tail _ (.head _)))))))
  have T : Tabs W := ⟨spans_of_reads (by kernel_rfl) (by kernel_rfl) (by decide) r3, spans_of_reads (by kernel_rfl) (by kernel_rfl) (by decide) r4⟩
  have hbx := box_of r5
  obtain ⟨m, hm⟩ := Tryz.laysM145.s1_3 W hsh
  have lt : ∀ {g o : Nat} {v : Value}, W.cell? ⟨g, o, none⟩ = some v → g < W.heap.size := fun {g o v} hc => by
    rcases Nat.lt_or_ge g W.heap.size with h1 | h1
    · exact h1
    · simp [World.cell?, Array.getElem?_eq_none h1] at hc
  refine ⟨fun W' hb => ⟨T.below hb, ⟨m, ?_⟩, fun i j hi hj => ?_⟩, utf8Tabs_of_readsT tU xU r7 r1, pw_ofC (.tail _ (.tail _ (.head _))) hd⟩
  · exact (hb.cell (p := ⟨_, 0, none⟩) (lt hm)).trans hm
  · rw [hb.cell (p := ⟨0, i * 4 + j, none⟩) (lt (hbx i j hi hj))]; exact hbx i j hi hj

end Go.Proofs.YtleoaanjcccooaaGreatDoor

/-
  Lists of strokes laid behind no list; a mark behind a list of one's own.
-/
namespace Go.Proofs.YtleoaanjcccooaaGreatDoor
open Go.RowKit

def markS : St := ⟨0, zr, ⟨0, 0, 0, 0⟩, ⟨0, 0, 0, 0⟩, ⟨#[]⟩, 77⟩
theorem lss_src {w : World} {g o : Nat} {M : List St} (h : ∀ i (h : i < M.length), StAt w g (o + i * 15) M[i]) : ∀ (j : Nat) (u : Value), (flatZ M)[j]? = some u → w.cell? ((⟨g, o, none⟩ : Addr).add j) = some u := by
  intro j u hj
  have hl : j < (flatZ M).length := (List.getElem?_eq_some_iff.1 hj).1
  rw [flatZ_len] at hl
  have hq : j / 15 < M.length := by omega
  have h1 := flatZ_at M (j / 15) hq (j % 15) (Nat.mod_lt _ (by decide))
  have h2 := stat_iff.1 (h (j / 15) hq) (j % 15) (Nat.mod_lt _ (by decide))
  rw [show j / 15 * 15 + j % 15 = j by omega, hj] at h1
  rw [← h1, Nat.add_assoc, show j / 15 * 15 + j % 15 = j by omega] at h2
  have e : (⟨g, o, none⟩ : Addr).add j = ⟨g, o + j, none⟩ := by unfold Addr.add; split <;> simp_all
  rw [e]
  exact h2
/-- A list that lies somewhere laid behind no list. -/
theorem app_firstS {P : Program} {w : World} {ops : Array Oper} {rest : List Oper} {o : Oper} {a : Act} {Q : Exit → Act → World → Prop} (hgd : o.guard = none) (s x : Operand)
    (ho : o.op = .call { callee := .builtin .append, args := #[s, x], argTypes := #[27, 27] })
    (i : TypeInfo) (ht : P.underlying 27 = some (.slice 58)) (hi : P.info? 58 = some i) (hz : i.zero = some (.agg #[.int .u8 0, .int .i64 0, .int .i64 0, .int .i64 0, .int .i64 0, .int .u8 0, .int .u8 0, .int .u8 0, .int .u8 0, .int .u8 0, .int .u8 0, .int .u8 0, .int .u8 0, .string ByteArray.empty, .int .i64 0]))
    (hsize : i.size = 15) (hby : i.bytes = 72) (hs : a.eval s = .slice none 0 0) (rs : List St) (oa : Option Addr) (cap : Nat) (hx : a.eval x = .slice oa rs.length cap) (hv : LsS w (.slice oa rs.length cap) rs) (hn : NoNil (.slice oa rs.length cap))
    (hl : rs.length ≤ 100000) (h : ∀ v' w', Hid (OwS w.heap.size w' v' rs ∧ Below w.heap.size w w') → wpList P ops Q rest (a.put o.dst v') w') : wpList P ops Q (o :: rest) a w := by
  have hown : w.ownsRow w.heap.size 58 15 (.slice none 0 0) 0 [] := World.ownsRow_nil _ _ _ _
  cases oa with
  | none =>
    have h0 : rs = [] := by
      obtain ⟨oa, cap', e, _, hg⟩ := hv
      cases rs with
      | nil => rfl
      | cons r t =>
        obtain ⟨g, o, e2, _⟩ := hg (by simp)
        injection e with e1 _ _
        rw [e2] at e1
        cases e1
    subst h0
    obtain rfl : cap = 0 := hn cap rfl
    refine app_none hgd s x _ ho w.heap.size 58 i 15 ht hi (.slice none 0 0) 0 [] hs hown hx ?_
    rintro _ _ rfl rfl
    exact h _ _ ⟨hown, Below.refl _ _⟩
  | some ad =>
    refine wpList_append_own _ hgd s x _ ho w.heap.size 58 i (.agg #[.int .u8 0, .int .i64 0, .int .i64 0, .int .i64 0, .int .i64 0, .int .u8 0, .int .u8 0, .int .u8 0, .int .u8 0, .int .u8 0, .int .u8 0, .int .u8 0, .int .u8 0, .string ByteArray.empty, .int .i64 0]) 15 72 ht hi hz hsize hby rfl (by decide) (.slice none 0 0) 0 [] hs hown ad rs.length cap (flatZ rs) hx (flatZ_len rs) ?_ (onesZ rs) (by unfold maxLen; omega) (by omega) (Nat.le_refl _) ?_
    · intro j u hj
      obtain ⟨oa, cap', e, _, hg⟩ := hv
      have hp : 0 < rs.length := by
        cases rs with
        | nil => simp [flatZ] at hj
        | cons r t => simp
      obtain ⟨g, o, e2, _, hat⟩ := hg hp
      injection e with e1 _ _
      rw [e2] at e1
      injection e1 with e1
      subst e1
      exact lss_src hat j u hj
    · intro v' w' h2 h3 _
      rw [Nat.zero_add, List.nil_append] at h2
      exact h v' w' ⟨h2, (Below.refl _ w).grown h3 (Nat.le_refl _) (fun g e => by cases e)⟩
/-- A list of one's own, a mark behind it; its block lies from lo up to hi. -/
def LenS (lo hi : Nat) (W : World) (v : Value) (rs : List St) : Prop := OwS lo W v (rs ++ [markS]) ∧ ∀ g, v.ownBlock = some g → g < hi
theorem LenS.below {lo hi : Nat} {W W' : World} {v : Value} {rs : List St} (h : LenS lo hi W v rs) (hb : Below W.heap.size W W') : LenS lo hi W' v rs := ⟨row_below h.1 hb, h.2⟩
theorem LenS.val {lo hi : Nat} {W : World} {v : Value} {rs : List St} (h : LenS lo hi W v rs) : ∃ g cap, v = .slice (some ⟨g, 0, none⟩) (rs.length + 1) cap ∧ rs.length + 1 ≤ cap ∧ g < W.heap.size ∧ lo ≤ g ∧ g < hi := by
  obtain ⟨oa, cap, e, hc, hg⟩ := row_val h.1
  obtain ⟨g, e1, e2, e3⟩ := hg (by simp)
  subst e1
  subst e
  exact ⟨g, cap, by simp, by simpa using hc, e3, e2, h.2 g rfl⟩
/-- The list without its mark. -/
theorem LenS.lss {lo hi : Nat} {W : World} {g n cap : Nat} {rs : List St} (h : LenS lo hi W (.slice (some ⟨g, 0, none⟩) n cap) rs) : LsS W (.slice (some ⟨g, 0, none⟩) rs.length cap) rs := by
  obtain ⟨oa, cap', e, hc, hg⟩ := h.1.lss
  obtain ⟨g', o, e1, hlt, hat⟩ := hg (by simp)
  injection e with e2 _ e3
  rw [e1] at e2
  injection e2 with e2
  injection e2 with e4 e5 _
  subst e4 e5 e3
  refine ⟨_, cap, rfl, by simp at hc; omega, fun hp => ⟨g, 0, rfl, hlt, fun i hi => ?_⟩⟩
  have q := hat i (by simp; omega)
  rwa [List.getElem_append_left hi] at q
theorem LenS.mark {lo hi : Nat} {W : World} {g n cap : Nat} {rs : List St} (h : LenS lo hi W (.slice (some ⟨g, 0, none⟩) n cap) rs) : StAt W g (rs.length * 15) markS := by
  obtain ⟨oa, cap', e, hc, hg⟩ := h.1.lss
  obtain ⟨g', o, e1, hlt, hat⟩ := hg (by simp)
  injection e with e2 _ e3
  rw [e1] at e2
  injection e2 with e2
  injection e2 with e4 e5 _
  subst e4 e5 e3
  have q := hat rs.length (by simp)
  have e : (rs ++ [markS])[rs.length]'(by simp) = markS := by simp
  rw [e, Nat.zero_add] at q
  exact q

end Go.Proofs.YtleoaanjcccooaaGreatDoor

/-
  The statements' own lists of strokes: lent, kept, written over.
-/
namespace Go.Proofs.YtleoaanjcccooaaGreatDoor
open Go.RowKit

theorem grow_trS {w W W' : World} {r s : Option Nat} (h : w.grownBy W r) (k : W.grownBy W' s) (hs : s = r ∨ ∀ g, s = some g → w.heap.size ≤ g) : w.grownBy W' r := by
  refine ⟨k.os.trans h.os, k.tape.trans h.tape, k.output.trans h.output, Nat.le_trans h.size k.size, fun b hb hr => ?_⟩
  refine (k.block b (Nat.lt_of_lt_of_le hb h.size) ?_).trans (h.block b hb hr)
  intro c
  rcases hs with rfl | hs
  · exact hr c
  · have := hs b c.symm
    omega
theorem grow_setS (w : World) (g o : Nat) (v : Value) : w.grownBy (w.setCell ⟨g, o, none⟩ v) (some g) :=
  ⟨rfl, rfl, rfl, ((Below.refl 0 w).setCell (p := ⟨g, o, none⟩) (Nat.zero_le _) v).size, fun b _ hb => Below.heap_setCell _ _ _ b (fun e => hb (by rw [e]))⟩

end Go.Proofs.YtleoaanjcccooaaGreatDoor

/-
  Contracts of the document's answer for layer 13: Join, Moved.
-/
namespace Go.Proofs.YtleoaanjcccooaaGreatDoor
open Go.RowKit

def joiE (a b : List St) : Int := if chkS a = 0 then (if chkS b = 0 then (if 16384 < a.length + b.length then 4 else 0) else chkS b) else chkS a
def joiL (a b : List St) : List St := if joiE a b = 0 then a ++ b else []

/-- A list that lies somewhere laid behind a row of one's own. -/
theorem app_moreS {P : Program} {w : World} {ops : Array Oper} {rest : List Oper} {o : Oper} {a : Act} {Q : Exit → Act → World → Prop} (hgd : o.guard = none) (s x : Operand)
    (ho : o.op = .call { callee := .builtin .append, args := #[s, x], argTypes := #[27, 27] })
    (i : TypeInfo) (ht : P.underlying 27 = some (.slice 58)) (hi : P.info? 58 = some i) (hz : i.zero = some (.agg #[.int .u8 0, .int .i64 0, .int .i64 0, .int .i64 0, .int .i64 0, .int .u8 0, .int .u8 0, .int .u8 0, .int .u8 0, .int .u8 0, .int .u8 0, .int .u8 0, .int .u8 0, .string ByteArray.empty, .int .i64 0]))
    (hsize : i.size = 15) (hby : i.bytes = 72) (lo : Nat) (u : Value) (qs : List St) (n : Nat) (hn0 : n = qs.length) (hs : a.eval s = u) (hown : w.ownsRow lo 58 15 u n (flatZ qs)) (hlo : lo ≤ w.heap.size) (rs : List St) (oa : Option Addr) (cap : Nat) (m : Nat) (hm : m = rs.length) (hx : a.eval x = .slice oa m cap) (hv : LsS w (.slice oa m cap) rs) (hn : NoNil (.slice oa m cap))
    (hl : n + m ≤ 100000) (h : ∀ v' w', Hid (OwS lo w' v' (qs ++ rs) ∧ w.grownBy w' u.ownBlock) → wpList P ops Q rest (a.put o.dst v') w') : wpList P ops Q (o :: rest) a w := by
  subst hm
  cases oa with
  | none =>
    have h0 : rs = [] := by
      obtain ⟨oa, cap', e, _, hg⟩ := hv
      cases rs with
      | nil => rfl
      | cons r t =>
        obtain ⟨g, o, e2, _⟩ := hg (by simp)
        injection e with e1 _ _
        rw [e2] at e1
        cases e1
    subst h0
    obtain rfl : cap = 0 := hn cap rfl
    refine app_none hgd s x _ ho lo 58 i 15 ht hi u n (flatZ qs) hs hown hx ?_
    rintro _ _ rfl rfl
    refine h _ _ ⟨?_, World.grownBy.refl _ _⟩
    rw [List.append_nil]
    unfold OwS
    rw [← hn0]
    exact hown
  | some ad =>
    refine wpList_append_own _ hgd s x _ ho lo 58 i (.agg #[.int .u8 0, .int .i64 0, .int .i64 0, .int .i64 0, .int .i64 0, .int .u8 0, .int .u8 0, .int .u8 0, .int .u8 0, .int .u8 0, .int .u8 0, .int .u8 0, .int .u8 0, .string ByteArray.empty, .int .i64 0]) 15 72 ht hi hz hsize hby rfl (by decide) u n (flatZ qs) hs hown ad rs.length cap (flatZ rs) hx (flatZ_len rs) ?_ (onesZ rs) (by unfold maxLen; omega) (by omega) hlo ?_
    · intro j u' hj
      obtain ⟨oa, cap', e, _, hg⟩ := hv
      have hp : 0 < rs.length := by
        cases rs with
        | nil => simp [flatZ] at hj
        | cons r t => simp
      obtain ⟨g, o, e2, _, hat⟩ := hg hp
      injection e with e1 _ _
      rw [e2] at e1
      injection e1 with e1
      subst e1
      exact lss_src hat j u' hj
    · intro v' w' h2 h3 _
      refine h v' w' ⟨?_, h3⟩
      unfold OwS
      rw [List.length_append, ← hn0, flatZ_app]
      exact h2

def movS (p q : Int) (s : St) : St := if s.k = 5 then s else ⟨s.k, ⟨s.r.x + p, s.r.y + q, s.r.w, s.r.h⟩, s.c, s.b, s.t, s.n⟩
def movO (p q : Int) (l : List St) : Bool := l.all fun s => zMa (movS p q s).r
def movF (l : List St) (p q : Int) : Int := if chkS l = 0 then (if movO p q l = true then 0 else 9) else chkS l
def movG (l : List St) (p q : Int) : List St := if movF l p q = 0 then l.map (movS p q) else []
def clmp (p : Int) : Int := min (max p (-32769)) 32769
theorem mov_clmp {s : St} (h : zMa s.r = true) (p q : Int) : zMa (movS (clmp p) (clmp q) s).r = zMa (movS p q s).r ∧ (zMa (movS p q s).r = true → movS (clmp p) (clmp q) s = movS p q s) := by
  unfold movS
  by_cases h5 : s.k = 5
  · rw [if_pos h5, if_pos h5]
    exact ⟨rfl, fun _ => rfl⟩
  · rw [if_neg h5, if_neg h5]
    have hb := may_iff.1 h
    refine ⟨?_, fun k => ?_⟩
    · rw [Bool.eq_iff_iff]
      unfold zMa
      rw [may_iff, may_iff]
      simp only
      unfold clmp
      omega
    · have kb := may_iff.1 k
      have e1 : clmp p = p := by unfold clmp; simp only at kb; omega
      have e2 : clmp q = q := by unfold clmp; simp only at kb; omega
      rw [e1, e2]
theorem movO_clmp {l : List St} (h : ∀ s ∈ l, zMa s.r = true) (p q : Int) : movO (clmp p) (clmp q) l = movO p q l ∧ (movO p q l = true → l.map (movS (clmp p) (clmp q)) = l.map (movS p q)) := by
  unfold movO
  refine ⟨?_, fun k => ?_⟩
  · rw [Bool.eq_iff_iff, List.all_eq_true, List.all_eq_true]
    exact ⟨fun k s hs => by rw [← (mov_clmp (h s hs) p q).1]; exact k s hs, fun k s hs => by rw [(mov_clmp (h s hs) p q).1]; exact k s hs⟩
  · exact List.map_congr_left fun s hs => (mov_clmp (h s hs) p q).2 (List.all_eq_true.1 k s hs)

end Go.Proofs.YtleoaanjcccooaaGreatDoor

/-
  In plain words: what is drawn may be a screen's cells; one list drawn behind another one.
-/
namespace Go.Proofs.YtleoaanjcccooaaGreatDoor
open Go.RowKit Go.Shelf

/-- May it be a cell's rune and halves? -/
def okG (r : Int) (wd tl : Bool) : Bool := vldR r && (if width r = 1 then !wd && !tl else if width r = 2 then wd != tl else false)
theorem okG_ce (c : Ce) : okCe c = okG c.r c.wd c.tl := rfl
theorem decN_vld (n b0 b1 b2 b3 : Nat) (h0 : b0 < 256) : (Lib.decodeN n b0 b1 b2 b3).1 < 55296 ∨ (57343 < (Lib.decodeN n b0 b1 b2 b3).1 ∧ (Lib.decodeN n b0 b1 b2 b3).1 ≤ 1114111) := by
  unfold Lib.decodeN
  repeat' split
  all_goals (simp only; omega)
theorem rn_vld (s : ByteArray) (p : Nat) : vldR (rn s p) = true := by
  have h : rn s p < 55296 ∨ (57343 < rn s p ∧ rn s p ≤ 1114111) := by
    show (Utf8.decode s p).1 < 55296 ∨ (57343 < (Utf8.decode s p).1 ∧ (Utf8.decode s p).1 ≤ 1114111)
    rw [Lib.decode_at]
    exact decN_vld _ _ _ _ _ (UInt8.toNat_lt _)
  unfold vldR
  rw [decide_eq_true_eq]
  omega
theorem glR_ok {r : Int} (hr : vldR r = true) : ∀ g ∈ glR r, okG g.r g.wd g.tl = true := by
  intro g hg
  unfold glR at hg
  split at hg
  · next h =>
    have : g = ⟨r, true, false⟩ ∨ g = ⟨r, false, true⟩ := by simpa using hg
    rcases this with rfl | rfl <;> simp [okG, hr, h]
  · split at hg
    · next h =>
      have : g = ⟨r, false, false⟩ := by simpa using hg
      subst this
      simp [okG, hr, h]
    · cases hg
theorem lnF_ok (s : ByteArray) : ∀ f q, ∀ g ∈ lnF s f q, okG g.r g.wd g.tl = true
  | 0, _, g, hg => by cases hg
  | f + 1, q, g, hg => by
    unfold lnF at hg
    split at hg
    · rcases List.mem_append.1 hg with h | h
      · exact glR_ok (rn_vld s q) g h
      · exact lnF_ok s f _ g h
    · cases hg
theorem glyA_ok (t : ByteArray) (x y : Int) (g : Gl) (h : glyA (wrP t) x y = some g) : okG g.r g.wd g.tl = true := by
  unfold glyA at h
  split at h
  · have hm := List.mem_of_getElem? h
    cases e : (wrP t)[y.toNat]? with
    | none => rw [e] at hm; cases hm
    | some row =>
      rw [e] at hm
      have hr := List.mem_of_getElem? e
      obtain ⟨l, _, rfl⟩ := List.mem_map.1 hr
      exact lnF_ok _ _ _ g hm
  · cases h
theorem frmG_ok (r : Rc) (px py : Int) (h : frmR r px py ≠ 0) : okG (frmR r px py) false false = true := by
  unfold frmR at h ⊢
  repeat' split
  all_goals first | decide +kernel | (simp_all)
theorem mad_okC (px py : Int) (c : Ce) (s : St) (h : okCe c = true) : okCe (madC wrP overC px py c s) = true := by
  unfold madC
  split
  · split
    · exact h
    · split
      · show okG 32 false false = true
        decide +kernel
      · exact h
  · split
    · split
      · next hf => exact frmG_ok _ _ _ hf.1
      · exact h
    · split
      · split
        · exact h
        · next g hg => exact glyA_ok _ _ _ g hg
      · exact h
theorem drw_okC (px py : Int) : ∀ (A : List (St × Rc)) (c : Ce), okCe c = true → okCe (drwC wrP overC px py c A) = true
  | [], c, h => h
  | p :: A, c, h => by
    have e : drwC wrP overC px py c (p :: A) = drwC wrP overC px py (if (drw p.1 && zHa p.2 px py) = true then madC wrP overC px py c p.1 else c) A := rfl
    rw [e]
    refine drw_okC px py A _ ?_
    split
    · exact mad_okC px py c p.1 h
    · exact h
/-- A screen that was drawn on may be. -/
theorem drwS_okC {a : Nat} {L : List Ce} (hL : okCs L = true) (A : List (St × Rc)) : okCs (drwS a L A) = true := by
  unfold okCs at hL ⊢
  rw [List.all_eq_true] at hL ⊢
  intro c hc
  obtain ⟨k, hk, rfl⟩ := List.mem_iff_getElem.1 hc
  simp only [drwS, List.getElem_mapIdx]
  exact drw_okC _ _ A _ (hL _ (List.getElem_mem _))
theorem chk_clp {l : List St} (h : chkS l = 0) : clpE 0 l = 0 := (chkS_zero h).2
theorem drwS_join (a : Nat) (L : List Ce) {l m : List St} (h : chkS l = 0) : drwS a L (flaL (l ++ m)) = drwS a (drwS a L (flaL l)) (flaL m) := by
  apply List.ext_getElem (by rw [drwS_len, drwS_len, drwS_len])
  intro k h1 h2
  simp only [drwS, List.getElem_mapIdx, flaL]
  rw [drw_fla, drw_fla, drw_fla, drw_join _ _ (chk_clp h)]
theorem clp_behind : ∀ (l : List St) (n : Nat) (m : List St), clpE n l = 0 → clpE n (l ++ m) = clpE 0 m
  | [], n, m, h => by
    have hn : n = 0 := by
      unfold clpE at h
      split at h
      · cases h
      · omega
    subst hn
    rfl
  | s :: l, n, m, h => by
    obtain ⟨h1, h2, h3⟩ := clpE_cons h
    have e := clp_behind l _ m h3
    rw [← e]
    show clpE n (s :: (l ++ m)) = _
    conv => lhs; unfold clpE
    simp [h1, h2]
theorem chk_join {l m : List St} (hl : chkS l = 0) (hm : chkS m = 0) (h : l.length + m.length ≤ 16384) : chkS (l ++ m) = 0 := by
  unfold chkS
  rw [List.length_append, if_neg (by omega), clp_behind l 0 m (chk_clp hl)]
  exact chk_clp hm

end Go.Proofs.YtleoaanjcccooaaGreatDoor

/-
  What is known of awake's two texts.
-/
namespace Go.Proofs.YtleoaanjcccooaaGreatDoor
open Go.RowKit

def y8 : ByteArray := ⟨#[27, 91, 49, 59, 52, 72, 97, 98]⟩
def cA (n : Int) (c : Co) : Ce := ⟨n, c, coZ, false, false⟩
def sX0 : Stt := ⟨0, 0, coZ, coZ, S8⟩
def sX1 : Stt := ⟨1, 0, coZ, coZ, S8⟩
def sX2 : Stt := ⟨1, 0, wht, coZ, S8⟩
def sX3 : Stt := ⟨2, 0, wht, coZ, S8.set 1 (cA 97 wht)⟩
def sX4 : Stt := ⟨3, 0, wht, coZ, (S8.set 1 (cA 97 wht)).set 2 (cA 98 wht)⟩
def sX5 : Stt := ⟨1, 1, wht, coZ, (S8.set 1 (cA 97 wht)).set 2 (cA 98 wht)⟩
def sX6 : Stt := ⟨2, 1, wht, coZ, ((S8.set 1 (cA 97 wht)).set 2 (cA 98 wht)).set 5 (cA 99 wht)⟩
def iX (p : Nat) (s : Stt) : Prop := (p = 0 ∧ s = sX0) ∨ (p = 6 ∧ s = sX1) ∨ (p = 29 ∧ s = sX2) ∨ (p = 30 ∧ s = sX3) ∨ (p = 31 ∧ s = sX4) ∨ (p = 37 ∧ s = sX5) ∨ (p = 38 ∧ s = sX6)
theorem x8_size : x8.size = 38 := rfl
theorem wht_ok : wht.ok := ⟨⟨by decide, by decide⟩, ⟨by decide, by decide⟩, ⟨by decide, by decide⟩, ⟨by decide, by decide⟩⟩
theorem x8_known : Kno 4 2 x8 ⟨0, 0, coZ, coZ, S8⟩ iX false A8 0 := by
  refine ⟨.inl ⟨rfl, rfl⟩, ?_, ?_⟩
  · rintro p s h hp
    left
    rcases h with ⟨rfl, rfl⟩ | ⟨rfl, rfl⟩ | ⟨rfl, rfl⟩ | ⟨rfl, rfl⟩ | ⟨rfl, rfl⟩ | ⟨rfl, rfl⟩ | ⟨rfl, rfl⟩
    · exact ⟨6, sX1, by decide, by decide, .inl ⟨by decide +kernel, 1, 2, by decide +kernel, by decide, by decide, by decide, by decide, rfl⟩, .inr (.inl ⟨rfl, rfl⟩)⟩
    · exact ⟨23, sX2, by decide, by decide, .inr (.inl ⟨by decide +kernel, wht, wht_ok, by decide +kernel, rfl⟩), .inr (.inr (.inl ⟨rfl, rfl⟩))⟩
    · exact ⟨1, sX3, by decide, by decide, .inr (.inr ⟨by decide +kernel, by decide +kernel, by decide +kernel, 97, by decide +kernel, by decide, by decide, by decide +kernel, by decide, by decide, rfl⟩), .inr (.inr (.inr (.inl ⟨rfl, rfl⟩)))⟩
    · exact ⟨1, sX4, by decide, by decide, .inr (.inr ⟨by decide +kernel, by decide +kernel, by decide +kernel, 98, by decide +kernel, by decide, by decide, by decide +kernel, by decide, by decide, rfl⟩), .inr (.inr (.inr (.inr (.inl ⟨rfl, rfl⟩))))⟩
    · exact ⟨6, sX5, by decide, by decide, .inl ⟨by decide +kernel, 2, 2, by decide +kernel, by decide, by decide, by decide, by decide, rfl⟩, .inr (.inr (.inr (.inr (.inr (.inl ⟨rfl, rfl⟩)))))⟩
    · exact ⟨1, sX6, by decide, by decide, .inr (.inr ⟨by decide +kernel, by decide +kernel, by decide +kernel, 99, by decide +kernel, by decide, by decide, by decide +kernel, by decide, by decide, rfl⟩), .inr (.inr (.inr (.inr (.inr (.inr ⟨rfl, rfl⟩)))))⟩
    · rw [x8_size] at hp; omega
  · rintro s h
    rw [x8_size] at h
    rcases h with ⟨h, _⟩ | ⟨h, _⟩ | ⟨h, _⟩ | ⟨h, _⟩ | ⟨h, _⟩ | ⟨h, _⟩ | ⟨_, rfl⟩
    · cases h
    · cases h
    · cases h
    · cases h
    · cases h
    · cases h
    · exact ⟨rfl, rfl⟩

def sY1 : Stt := ⟨3, 0, coZ, coZ, S8⟩
def sY2 : Stt := ⟨4, 0, coZ, coZ, S8.set 3 (cA 97 coZ)⟩
def iY (p : Nat) (s : Stt) : Prop := (p = 0 ∧ s = sX0) ∨ (p = 6 ∧ s = sY1) ∨ (p = 7 ∧ s = sY2)
theorem y8_size : y8.size = 8 := rfl
theorem y8_known : Kno 4 2 y8 ⟨0, 0, coZ, coZ, S8⟩ iY true [] 7 := by
  refine ⟨.inl ⟨rfl, rfl⟩, ?_, ?_⟩
  · rintro p s h hp
    rcases h with ⟨rfl, rfl⟩ | ⟨rfl, rfl⟩ | ⟨rfl, rfl⟩
    · exact .inl ⟨6, sY1, by decide, by decide, .inl ⟨by decide +kernel, 1, 4, by decide +kernel, by decide, by decide, by decide, by decide, rfl⟩, .inr (.inl ⟨rfl, rfl⟩)⟩
    · exact .inl ⟨1, sY2, by decide, by decide, .inr (.inr ⟨by decide +kernel, by decide +kernel, by decide +kernel, 97, by decide +kernel, by decide, by decide, by decide +kernel, by decide, by decide, rfl⟩), .inr (.inr ⟨rfl, rfl⟩)⟩
    · exact .inr ⟨rfl, rfl, by decide +kernel, by decide +kernel, by decide +kernel, 98, 1, by decide +kernel, by decide, by decide, by decide +kernel, by decide, by decide, by decide⟩
  · rintro s h
    rw [y8_size] at h
    rcases h with ⟨h, _⟩ | ⟨h, _⟩ | ⟨h, _⟩ <;> cases h

end Go.Proofs.YtleoaanjcccooaaGreatDoor

/-
  The calls of awake over what it has drawn.
-/
namespace Go.Proofs.YtleoaanjcccooaaGreatDoor
open Go.RowKit

/-- The screen drawn on, in its box. -/
structure AwS (w : World) (wB sB gs qb ga ca : Nat) (W : World) : Prop where
  a : AwW w wB sB gs W
  q : Bk W qb #[.int .i64 4, .int .i64 2, .slice (some ⟨ga, 0, none⟩) 8 ca] 26
  l : LsC W (.slice (some ⟨ga, 0, none⟩) 8 ca) A8
theorem AwS.below {w : World} {wB sB gs qb ga ca : Nat} {W W' : World} (h : AwS w wB sB gs qb ga ca W) (hb : Below W.heap.size W W') : AwS w wB sB gs qb ga ca W' := ⟨h.a.below hb, h.q.below hb, h.l.below hb⟩
def AwU (W : World) (gu ou cu : Nat) : Prop := ∃ v1 v2, LsU W (.slice (some ⟨gu, ou, none⟩) 2 cu) [(ru1, v1), (ru2, v2)]
theorem AwU.below {W W' : World} {gu ou cu : Nat} (h : AwU W gu ou cu) (hb : Below W.heap.size W W') : AwU W' gu ou cu := by
  obtain ⟨v1, v2, h⟩ := h
  exact ⟨v1, v2, h.below hb⟩
theorem awText (w : World) (wB sB gs qb ga ca : Nat) (W : World) (hE : Env15 w) (h : AwS w wB sB gs qb ga ca W) :
    Calls Tryz.prog 17 #[.agg #[.int .i64 4, .int .i64 2, .slice (some ⟨ga, 0, none⟩) 8 ca]] W fun e w' => e = .returned (.tuple #[.string ⟨#[32, 97, 98, 32, 10, 32, 99, 32, 32, 10]⟩, .int .i64 0]) ∧ Below W.heap.size W w' := by
  have := text_ok 4 2 A8 ga 0 ca 8 W h.l rfl a8_ok (by decide) (by decide) (hE.t W h.a.lo).1
  rw [t8_eq] at this
  exact this
theorem awRuns (w : World) (wB sB gs qb ga ca : Nat) (W : World) (hE : Env15 w) (h : AwS w wB sB gs qb ga ca W) :
    Calls Tryz.prog 18 #[.agg #[.int .i64 4, .int .i64 2, .slice (some ⟨gs, 0, none⟩) 8 8], .agg #[.int .i64 4, .int .i64 2, .slice (some ⟨ga, 0, none⟩) 8 ca]] W fun e w' => ∃ gu ou cu, e = .returned (.tuple #[.slice (some ⟨gu, ou, none⟩) 2 cu, .int .i64 0]) ∧ Hid (AwU w' gu ou cu ∧ Below W.heap.size W w') := by
  refine (runs_ok 4 2 S8 A8 gs 0 8 ga 0 ca 8 W (flatC_bk h.a.s) h.l rfl rfl s8_ok a8_ok (by decide) (hE.t W h.a.lo).1).mono ?_
  rintro e w' ⟨u, R, rfl, hu⟩
  obtain ⟨hU, hR⟩ := hu.out
  rw [rn_eq] at hR
  obtain ⟨⟨r1, v1⟩, ⟨r2, v2⟩, rfl, rfl, rfl⟩ : ∃ p1 p2 : Ru × Value, R = [p1, p2] ∧ p1.1 = ru1 ∧ p2.1 = ru2 := by
    rcases R with _ | ⟨p1, _ | ⟨p2, _ | ⟨p3, t⟩⟩⟩
    · simp at hR
    · simp at hR
    · simp at hR
      exact ⟨p1, p2, rfl, hR.1, hR.2⟩
    · simp at hR
  have hL := hU.lsu
  obtain ⟨k0, oa, cu, rfl, hg⟩ := id hL
  obtain ⟨gu, ou, rfl, _, _⟩ := hg (by simp)
  exact ⟨gu, ou, cu, rfl, ⟨v1, v2, hL⟩, hU.b⟩
theorem ru_ok : ∀ r ∈ [ru1, ru2], okRu r ∧ ∀ c ∈ r.cs, TeC c := by
  intro r hr
  have : r = ru1 ∨ r = ru2 := by simpa using hr
  rcases this with rfl | rfl
  · refine ⟨⟨by decide +kernel, by decide, by decide +kernel, by decide⟩, fun c hc => ?_⟩
    have : c = ⟨97, wht, coZ, false, false⟩ ∨ c = ⟨98, wht, coZ, false, false⟩ := by simpa [ru1] using hc
    rcases this with rfl | rfl <;> exact ⟨wht_ok, ⟨⟨by decide, by decide⟩, ⟨by decide, by decide⟩, ⟨by decide, by decide⟩, ⟨by decide, by decide⟩⟩, by decide, by decide⟩
  · refine ⟨⟨by decide +kernel, by decide, by decide +kernel, by decide⟩, fun c hc => ?_⟩
    have : c = ⟨99, wht, coZ, false, false⟩ := by simpa [ru2] using hc
    subst this
    exact ⟨wht_ok, ⟨⟨by decide, by decide⟩, ⟨by decide, by decide⟩, ⟨by decide, by decide⟩, ⟨by decide, by decide⟩⟩, by decide, by decide⟩
theorem awEsc (w : World) (gu ou cu : Nat) (W : World) (hE : Env15 w) (hb : Below w.heap.size w W) (h : AwU W gu ou cu) :
    Calls Tryz.prog 19 #[.slice (some ⟨gu, ou, none⟩) 2 cu] W fun e w' => e = .returned (.tuple #[.string x8, .int .i64 0]) ∧ Below W.heap.size W w' := by
  obtain ⟨v1, v2, h⟩ := h
  have := esc_ok [(ru1, v1), (ru2, v2)] _ W h (fun p hp => by
    have : p = (ru1, v1) ∨ p = (ru2, v2) := by simpa using hp
    rcases this with rfl | rfl
    · exact ru_ok ru1 (by simp)
    · exact ru_ok ru2 (by simp)) (by simp) (by simp) x8_len (hE.t W hb).1 (hE.below hb).p
  have e : (⟨(escS (List.map Prod.fst [(ru1, v1), (ru2, v2)]) (coZ, coZ) [(ru1, v1), (ru2, v2)].length).1.toArray⟩ : ByteArray) = x8 := x8_eq
  rw [e] at this
  exact this
theorem awRead (w : World) (wB sB gs : Nat) (W : World) (hE : Env15 w) (h : AwW w wB sB gs W) :
    Calls Tryz.prog 20 #[.agg #[.int .i64 4, .int .i64 2, .slice (some ⟨gs, 0, none⟩) 8 8], .string x8] W fun e w' => ∃ g cap, e = .returned (.tuple #[.agg #[.int .i64 4, .int .i64 2, .slice (some ⟨g, 0, none⟩) 8 cap], .int .i64 0, .int .i64 0]) ∧ Hid (LsC w' (.slice (some ⟨g, 0, none⟩) 8 cap) A8 ∧ Below W.heap.size W w') := by
  refine (read_known 4 2 S8 _ x8 iX false A8 0 W (flatC_bk h.s) (fun c e => by cases e) s8_ok (by decide) (by decide) x8_known (hE.t W h.lo).1 (hE.below h.lo).d).mono ?_
  rintro e w' (⟨_, g, n, cap, rfl, hm, hb⟩ | ⟨hf, _⟩)
  · obtain rfl : n = 8 := hm.1.symm
    exact ⟨g, cap, rfl, hm.own.lsc, hb⟩
  · cases hf
theorem awRead2 (w : World) (wB sB gs : Nat) (W : World) (hE : Env15 w) (h : AwW w wB sB gs W) :
    Calls Tryz.prog 20 #[.agg #[.int .i64 4, .int .i64 2, .slice (some ⟨gs, 0, none⟩) 8 8], .string ⟨#[27, 91, 49, 59, 52, 72, 97, 98]⟩] W fun e w' => e = .returned (.tuple #[.agg #[.int .i64 0, .int .i64 0, .slice none 0 0], .int .i64 7, .int .i64 150]) ∧ Below W.heap.size W w' := by
  refine (read_known 4 2 S8 _ y8 iY true [] 7 W (flatC_bk h.s) (fun c e => by cases e) s8_ok (by decide) (by decide) y8_known (hE.t W h.lo).1 (hE.below h.lo).d).mono ?_
  rintro e w' (⟨hf, _⟩ | ⟨_, rfl, hb⟩)
  · cases hf
  · exact ⟨rfl, hb⟩
theorem awCheck (w : World) (W : World) (hE : Env15 w) (hb : Below w.heap.size w W) :
    Calls Tryz.prog 21 #[.agg #[.int .i64 1, .int .i64 0, .slice none 0 0]] W fun e w' => e = .returned (.int .i64 0) ∧ Below W.heap.size W w' := by
  have hv : LsC W (.slice none 0 0) [] := ⟨none, 0, rfl, Nat.le_refl _, fun h => absurd h (by decide)⟩
  have := checkC_any 1 0 [] _ W hv (by decide) (hE.t W hb).1
  rw [show scE 1 0 [] = 0 by decide +kernel] at this
  exact this

end Go.Proofs.YtleoaanjcccooaaGreatDoor
