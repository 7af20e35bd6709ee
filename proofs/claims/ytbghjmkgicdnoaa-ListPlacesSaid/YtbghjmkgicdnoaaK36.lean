/-
  Contracts of package list: visible.
-/
import Derived.Test.YtbghjmkgicdnoaaK35
namespace Go.Proofs.Ytbghjmkgicdnoaa
open Go.RowKit Go.Shelf
attribute [local go_sem] Oper.semAt_some

theorem snS_same {A : List (St × Rc)} {k m : Nat} (h : m < A.length - k) : (snS A k).set m false = snS A k := by
  have h1 : (snS A k)[m]? = some false := by
    unfold snS fls
    rw [List.getElem?_append_left (by simpa using h), List.getElem?_replicate]
    simp [h]
  obtain ⟨h2, h3⟩ := List.getElem?_eq_some_iff.1 h1
  rw [← h3]
  exact List.set_getElem_self h2

set_option maxRecDepth 20000 in
set_option maxHeartbeats 8000000 in
theorem lvis_any : LVis := by
  intro l v va w hv hva hl hc0
  obtain ⟨oa, cap, rfl, hc, hg⟩ := id hv
  obtain ⟨ob, cb, rfl, hcb, hgb⟩ := id hva
  have hAl : ((ann [] l).map fun p => plc p.1 p.2).length = l.length := by rw [List.length_map, ann_len]
  have HR : Hid (∀ k q, (ann [] l)[k]? = some q → ∃ h1 h2 u, ob = some ⟨h1, h2, none⟩ ∧ h1 < w.heap.size ∧ w.cell? ⟨h1, h2 + k, none⟩ = some u ∧ LsR w u (plc q.1 q.2)) := fun k q hq => by
    obtain ⟨hk, he⟩ := List.getElem?_eq_some_iff.1 hq
    have hk' : k < ((ann [] l).map fun p => plc p.1 p.2).length := by rw [List.length_map]; exact hk
    obtain ⟨h1, h2, e1, e2, e3⟩ := hgb (by omega)
    obtain ⟨u, f1, f2, -⟩ := e3 k hk'
    rw [List.getElem_map, he] at f2
    exact ⟨h1, h2, u, e1, e2, f1, f2⟩
  clear hgb
  rw [hAl] at hcb ⊢
  have hmk := make_bls l.length (by omega)
  have HV : Hid (LsS w (.slice oa l.length cap) l ∧ (0 < l.length → ∃ g o, oa = some ⟨g, o, none⟩ ∧ g < w.heap.size ∧ ∀ i (h : i < l.length), StAt w g (o + i * 15) l[i])) := ⟨hv, hg⟩
  clear hg
  refine (callsIn_wide (n := 3)).1 ?_
  refine callsIn_of_wp_marks Try.func39 rfl trivial ?_ rfl
  simp only [Try.ntmps39, List.size_toArray, List.length_cons, List.length_nil, Nat.reduceAdd, Nat.reduceSub, Array.replicate_succ, Array.replicate_zero, List.push_toArray, List.append_toArray, List.nil_append, List.cons_append]
  gi_wp2_with fail
  refine ⟨trivial, (callsIn_wide.2 (backS_any _ _ _ _)).mono ?_⟩
  rintro e w3 ⟨rfl, rfl⟩
  gi_wp2_with fail
  clear hmk
  obtain ⟨W, hW⟩ : ∃ W, W = ((((w.alloc (.cells #[.slice ob l.length cb] 65)).alloc (.cells (blA (fls l.length)) 4)).alloc (.cells #[.slice (some ⟨w.heap.size + 1, 0, none⟩) l.length l.length] 67)).alloc (.cells #[.slice none 0 0] 39)).alloc (.cells #[.slice oa l.length cap] 36) := ⟨_, rfl⟩
  have sW : W.heap.size = w.heap.size + 5 := by rw [hW]; simp
  have H3 : Hid (VisM w (.slice ob l.length cb) l.length (snS (ann [] l) 0) (snF (ann [] l) 0) W ∧ Blk W (w.heap.size + 1 + 1 + 1 + 1) #[.slice oa l.length cap] 36) := by
    have k1 := Blk.new w #[.slice ob l.length cb] 65
    have k2 := Blk.new (w.alloc (.cells #[.slice ob l.length cb] 65)) (blA (fls l.length)) 4
    have k3 := Blk.new ((w.alloc (.cells #[.slice ob l.length cb] 65)).alloc (.cells (blA (fls l.length)) 4)) #[.slice (some ⟨w.heap.size + 1, 0, none⟩) l.length l.length] 67
    have k4 := Blk.new (((w.alloc (.cells #[.slice ob l.length cb] 65)).alloc (.cells (blA (fls l.length)) 4)).alloc (.cells #[.slice (some ⟨w.heap.size + 1, 0, none⟩) l.length l.length] 67)) #[.slice none 0 0] 39
    have k5 := Blk.new ((((w.alloc (.cells #[.slice ob l.length cb] 65)).alloc (.cells (blA (fls l.length)) 4)).alloc (.cells #[.slice (some ⟨w.heap.size + 1, 0, none⟩) l.length l.length] 67)).alloc (.cells #[.slice none 0 0] 39)) #[.slice oa l.length cap] 36
    simp only [World.size_alloc] at k2 k3 k4 k5
    rw [snS_zero, snF_zero, ann_len, hW]
    exact ⟨⟨(((k1.alloc _).alloc _).alloc _).alloc _, ((k2.alloc _).alloc _).alloc _, (k3.alloc _).alloc _, ⟨_, k4.alloc _, OwR.nil _ _⟩, (((((Below.refl _ w).alloc (Nat.le_refl _) _).alloc (by simp) _).alloc (by simp; omega) _).alloc (by simp; omega) _).alloc (by simp; omega) _⟩, k5⟩
  rw [← hW]
  clear hW
  obtain ⟨g, o, hgo⟩ : ∃ g o, g < W.heap.size ∧ g ≠ w.heap.size + 1 ∧ g ≠ w.heap.size + 1 + 1 + 1 ∧ (g < w.heap.size + 5) ∧ (0 < l.length → oa = some ⟨g, o, none⟩ ∧ g < w.heap.size ∧ ∀ i (h : i < l.length), StAt W g (o + i * 15) l[i]) := by
    by_cases h : 0 < l.length
    · obtain ⟨g, o, e1, e2, e3⟩ := HV.out.2 h
      exact ⟨g, o, by omega, by omega, by omega, by omega, fun _ => ⟨e1, e2, fun i hi => (e3 i hi).kept fun j => H3.out.1.mw.cell (p := ⟨g, j, none⟩) e2⟩⟩
    · exact ⟨w.heap.size + 1 + 1 + 1 + 1, 0, by omega, by omega, by omega, by omega, fun h' => absurd h' h⟩
  refine range_d (n := 3) (w := W) rfl (by omega) (gf := 82) (lb := #[.pointer (some ⟨w.heap.size + 1 + 1 + 1 + 1, 0, none⟩)]) rfl trivial (enters_of Try.func82 (by kernel_rfl) rfl) (ob := w.heap.size + 1 + 1 + 1 + 1) (by omega) (by omega)
    (back_seqS 2 (w.heap.size + 1 + 1 + 1 + 1) g o cap oa l W H3.out.2 (fun h => ⟨(hgo.2.2.2.2 h).1, hgo.1, (hgo.2.2.2.2 h).2.2⟩) (by omega)) (fun h k => h.trans k) (fun W' l' o' o'' hl' _ _ _ => KpB.put (by omega) (by omega)) (fun _ => rfl)
    (fun pre V => VisM w (.slice ob l.length cb) l.length (snS (ann [] l) pre.length) (snF (ann [] l) pre.length) V)
    (fun _ _ _ => False)
    ?hI ?hIx ?hS ?hSx H3.out.1
    (fun x a' V => ∃ b8, a' = { tmps := #[.slice oa l.length cap, .slice ob l.length cb, undef, .pointer (some ⟨w.heap.size, 0, none⟩), .slice none 0 0, .pointer (some ⟨w.heap.size + 1 + 1, 0, none⟩), .pointer (some ⟨w.heap.size + 1 + 1 + 1, 0, none⟩), .int .i64 (x.1 : Nat), .pointer (some ⟨b8, 0, none⟩), undef, undef, undef, .slice oa l.length cap, .int .i64 (l.length : Nat), .slice (some ⟨w.heap.size + 1, 0, none⟩) l.length l.length, .slice oa l.length cap, .func (.func 82) #[] #[.pointer (some ⟨w.heap.size + 1 + 1 + 1 + 1, 0, none⟩)], .int .i64 (x.1 : Nat), (Value.agg #[.int .u8 x.2.k, .int .i64 x.2.r.x, .int .i64 x.2.r.y, .int .i64 x.2.r.w, .int .i64 x.2.r.h, .int .u8 x.2.c.r, .int .u8 x.2.c.g, .int .u8 x.2.c.b, .int .u8 x.2.c.a, .int .u8 x.2.b.r, .int .u8 x.2.b.g, .int .u8 x.2.b.b, .int .u8 x.2.b.a, .string x.2.t, .int .i64 x.2.n]), undef, undef, undef, undef, undef, undef, undef, undef, undef, undef, undef, undef, undef, undef, undef, undef, undef, undef, undef, undef, undef, undef, undef, undef, undef, undef, undef, undef, undef, undef, undef, undef, undef, undef, undef, undef, undef, undef, undef, undef], defers := [] } ∧ Blk V b8 (#[.int .u8 x.2.k, .int .i64 x.2.r.x, .int .i64 x.2.r.y, .int .i64 x.2.r.w, .int .i64 x.2.r.h, .int .u8 x.2.c.r, .int .u8 x.2.c.g, .int .u8 x.2.c.b, .int .u8 x.2.c.a, .int .u8 x.2.b.r, .int .u8 x.2.b.g, .int .u8 x.2.b.b, .int .u8 x.2.b.a, .string x.2.t, .int .i64 x.2.n]) 31 ∧ w.heap.size + 5 ≤ b8)
    ?hAx ?assign ?body ?done ?stop
  case hI => rw [sW]; exact vis_own w _ _ (fun pre : List (Nat × St) => snS (ann [] l) pre.length) (fun pre => snF (ann [] l) pre.length)
  case hIx => exact fun _ => ownFrom_pure _ _
  case hS => exact vis_stores w _ _ (fun pre : List (Nat × St) => snS (ann [] l) pre.length) (fun pre => snF (ann [] l) pre.length)
  case hSx => exact fun _ _ _ _ _ h => h
  case hAx =>
    rintro x a' s X Y row ⟨b8, e1, e2, e3⟩ hg' hr
    exact ⟨b8, e1, kept_own _ b8 (fun _ : Unit => (#[.int .u8 x.2.k, .int .i64 x.2.r.x, .int .i64 x.2.r.y, .int .i64 x.2.r.w, .int .i64 x.2.r.h, .int .u8 x.2.c.r, .int .u8 x.2.c.g, .int .u8 x.2.c.b, .int .u8 x.2.c.a, .int .u8 x.2.b.r, .int .u8 x.2.b.g, .int .u8 x.2.b.b, .int .u8 x.2.b.a, .string x.2.t, .int .i64 x.2.n])) _ () X Y row e2 hg' hr, e3⟩
  case assign =>
    intro lp pre x V K hi hz hK
    simp only [prS]
    gi_wp2
    have ha : Below V.heap.size V (V.alloc (.cells (#[.int .u8 x.2.k, .int .i64 x.2.r.x, .int .i64 x.2.r.y, .int .i64 x.2.r.w, .int .i64 x.2.r.h, .int .u8 x.2.c.r, .int .u8 x.2.c.g, .int .u8 x.2.c.b, .int .u8 x.2.c.a, .int .u8 x.2.b.r, .int .u8 x.2.b.g, .int .u8 x.2.b.b, .int .u8 x.2.b.a, .string x.2.t, .int .i64 x.2.n]) 31)) := (Below.refl _ V).alloc (Nat.le_refl _) _
    exact hK _ _ ((KeepsOthers.alloc _ _).from _) ⟨ha.block _ (by omega), ha.block _ (by omega)⟩ (hi.below ha) ⟨V.heap.size, rfl, Blk.new _ _ _, by omega⟩
  case body =>
    rintro lp pre x a' V HP ⟨b8, rfl, hb8, hL8⟩ hlen hz
    obtain ⟨hk, hx1, hxl, hx2⟩ := bwS_step hlen
    have hxA : x.1 < (ann [] l).length := by rw [ann_len]; exact hxl
    obtain ⟨p, hp⟩ : ∃ p, (ann [] l)[x.1]? = some p := ⟨_, List.getElem?_eq_getElem hxA⟩
    have hp1 : p.1 = x.2 := by
      have := congrArg (fun L : List St => L[x.1]?) (ann_fst l [])
      simp only [List.getElem?_map, hp, List.getElem?_eq_getElem hxl, Option.map_some, Option.some.injEq] at this
      rw [this, hx2]
    obtain ⟨h1, h2, u, rfl, hlt, hcell, hlr⟩ := HR.out x.1 p hp
    obtain ⟨oR, cR, rfl, hcR, -⟩ := id hlr
    have HSn : Hid (snS (ann [] l) (pre ++ [x]).length = (snS (ann [] l) pre.length).set x.1 (vqB p (snF (ann [] l) pre.length)) ∧ snF (ann [] l) (pre ++ [x]).length = vfL p (snF (ann [] l) pre.length)) := by
      rw [List.length_append, List.length_singleton]
      exact sn_next (by rw [ann_len]; exact hk) (by rw [ann_len]; exact hx1) hp
    obtain ⟨q, hq⟩ : ∃ q, q = bndF (plc p.1 p.2) := ⟨_, rfl⟩
    have hne : ∀ a ∈ plc p.1 p.2, zEm a = false := plc_ne p.1 p.2
    have hqm : zMa q = true := by
      rw [hq]
      by_cases h : plc p.1 p.2 = []
      · rw [h]; decide
      · exact ne_may (bnd_cov h hne).1
    have HBd : Hid (∀ W', Below w.heap.size w W' → Calls Try.prog 65 #[.slice oR (plc p.1 p.2).length cR] W' fun e w' => e = .returned (.tuple #[.agg #[.int .i64 q.x, .int .i64 q.y, .int .i64 q.w, .int .i64 q.h], .int .i64 0]) ∧ Below W'.heap.size W' w') := fun W' h => by
      have h0 : lisE (plc p.1 p.2) = 0 := by
        unfold lisE
        have := plc_len p.1 p.2
        rw [if_neg (by omega), if_pos]
        rw [List.all_eq_true]
        exact fun a ha => ne_may (hne a ha)
      have h2 := boundL_any (plc p.1 p.2) _ W' (hlr.below h) (fun a ha => near_i64 (near_may (ne_may (hne a ha))))
      unfold bouR at h2
      rw [if_pos h0, h0, ← hq] at h2
      exact h2
    have HVq : Hid (vqB p (snF (ann [] l) pre.length) = !(decide ((plc p.1 p.2).length = 0) || (snF (ann [] l) pre.length).any fun f => covB f q)) := by
      unfold Hid vqB
      rw [hq]
      cases plc p.1 p.2 <;> simp
    have HVf : Hid (vfL p (snF (ann [] l) pre.length) = if (vqB p (snF (ann [] l) pre.length) && opq x.2) = true then ((snF (ann [] l) pre.length).filter fun f => !covB q f) ++ [q] else snF (ann [] l) pre.length) := by
      unfold Hid vfL
      rw [hq, hp1]
    have c0 := HP.ma.at1
    have ix : (x.1 : Int) < (l.length : Int) := by omega
    have cx : V.cell? ⟨h1, h2 + x.1, none⟩ = some (.slice oR (plc p.1 p.2).length cR) := (HP.mw.cell (p := ⟨h1, h2 + x.1, none⟩) hlt).trans hcell
    have HM : Hid (VisM w (.slice (some ⟨h1, h2, none⟩) l.length cb) l.length (snS (ann [] l) pre.length) (snF (ann [] l) pre.length) V ∧ Blk V b8 (#[.int .u8 x.2.k, .int .i64 x.2.r.x, .int .i64 x.2.r.y, .int .i64 x.2.r.w, .int .i64 x.2.r.h, .int .u8 x.2.c.r, .int .u8 x.2.c.g, .int .u8 x.2.c.b, .int .u8 x.2.c.a, .int .u8 x.2.b.r, .int .u8 x.2.b.g, .int .u8 x.2.b.b, .int .u8 x.2.b.a, .string x.2.t, .int .i64 x.2.n]) 31) := ⟨HP, hb8⟩
    have HFm : Hid (∀ f ∈ snF (ann [] l) pre.length, zMa f = true) := fun f hf => ne_may (snF_may f hf)
    have HSl : Hid ((snS (ann [] l) pre.length).length = l.length ∧ (snF (ann [] l) pre.length).length ≤ l.length) := ⟨by rw [snS_len, ann_len], by
      unfold snF
      refine Nat.le_trans (visF_len _) ?_
      rw [List.length_drop, ann_len]
      omega⟩
    have HSf : Hid ((snS (ann [] l) pre.length).set x.1 false = snS (ann [] l) pre.length) := snS_same (by rw [ann_len]; omega)
    clear hAl
    clear HP hx1 hx2 hlen hp hp1 hlr hcell hne hq hxA HR HV hb8 H3
    generalize vqB p (snF (ann [] l) pre.length) = vq at *
    generalize vfL p (snF (ann [] l) pre.length) = vf at *
    generalize snS (ann [] l) pre.length = sn at *
    generalize snF (ann [] l) pre.length = F at *
    generalize (plc p.1 p.2).length = pl at *
    obtain ⟨xi, xs⟩ := x
    simp only at *
    gi_wp2_with fail
    refine ⟨trivial, (CallsIn.inRound lp (callsIn_wide.2 (HBd.out _ HM.out.1.mw))).mono ?_⟩
    rintro e V1 ⟨rfl, hb1⟩
    have H1 : Hid (VisM w (.slice (some ⟨h1, h2, none⟩) l.length cb) l.length sn F V1 ∧ Blk V1 b8 (#[.int .u8 xs.k, .int .i64 xs.r.x, .int .i64 xs.r.y, .int .i64 xs.r.w, .int .i64 xs.r.h, .int .u8 xs.c.r, .int .u8 xs.c.g, .int .u8 xs.c.b, .int .u8 xs.c.a, .int .u8 xs.b.r, .int .u8 xs.b.g, .int .u8 xs.b.b, .int .u8 xs.b.a, .string xs.t, .int .i64 xs.n]) 31 ∧ Below V.heap.size V V1) := ⟨HM.out.1.below hb1, HM.out.2.below hb1, hb1⟩
    have s1 : w.heap.size + 5 < V1.heap.size := by have := hb1.size; omega
    have hltV : h1 < V1.heap.size := by omega
    obtain ⟨V2, hV2⟩ : ∃ V2, V2 = V1.alloc (.cells #[.int .i64 q.x, .int .i64 q.y, .int .i64 q.w, .int .i64 q.h] 27) := ⟨_, rfl⟩
    obtain ⟨b9, hb9⟩ : ∃ b9, b9 = V1.heap.size := ⟨_, rfl⟩
    have hb12 : Below V1.heap.size V1 V2 := by rw [hV2]; exact (Below.refl _ _).alloc (Nat.le_refl _) _
    have H2 : Hid (VisM w (.slice (some ⟨h1, h2, none⟩) l.length cb) l.length sn F V2 ∧ Blk V2 b8 (#[.int .u8 xs.k, .int .i64 xs.r.x, .int .i64 xs.r.y, .int .i64 xs.r.w, .int .i64 xs.r.h, .int .u8 xs.c.r, .int .u8 xs.c.g, .int .u8 xs.c.b, .int .u8 xs.c.a, .int .u8 xs.b.r, .int .u8 xs.b.g, .int .u8 xs.b.b, .int .u8 xs.b.a, .string xs.t, .int .i64 xs.n]) 31 ∧ Below V.heap.size V V2 ∧ Blk V2 b9 #[.int .i64 q.x, .int .i64 q.y, .int .i64 q.w, .int .i64 q.h] 27) := by
      obtain ⟨a1, a2, a3⟩ := H1.out
      refine ⟨a1.below hb12, a2.below hb12, a3.trans (hb12.mono a3.size), ?_⟩
      rw [hb9, hV2]
      exact Blk.new _ _ _
    have s2 : V1.heap.size + 1 = V2.heap.size := by rw [hV2]; simp
    have d0 : (V1.alloc (.cells #[.int .i64 q.x, .int .i64 q.y, .int .i64 q.w, .int .i64 q.h] 27)).cell? ⟨w.heap.size, 0, none⟩ = some (.slice (some ⟨h1, h2, none⟩) l.length cb) := by rw [← hV2]; exact H2.out.1.ma.at1
    have dx : (V1.alloc (.cells #[.int .i64 q.x, .int .i64 q.y, .int .i64 q.w, .int .i64 q.h] 27)).cell? ⟨h1, h2 + xi, none⟩ = some (.slice oR pl cR) := by rw [← hV2]; exact (H2.out.2.2.1.cell (p := ⟨h1, h2 + xi, none⟩) (by show h1 < _; omega)).trans cx
    obtain ⟨fv, hf1, hf2, hf3⟩ : ∃ fv, Blk V2 (w.heap.size + 1 + 1 + 1) #[fv] 39 ∧ OwR (w.heap.size + 5) V2 fv F ∧ fv.ownBlock ≠ some b9 := by
      obtain ⟨fv, a1, a2⟩ := H1.out.1.mf
      refine ⟨fv, a1.below hb12, row_below a2 hb12, fun e => ?_⟩
      have := (row_lt a2 _ e).2
      omega
    have df : (V1.alloc (.cells #[.int .i64 q.x, .int .i64 q.y, .int .i64 q.w, .int .i64 q.h] 27)).cell? ⟨w.heap.size + 1 + 1 + 1, 0, none⟩ = some fv := by rw [← hV2]; exact hf1.at1
    have HF2 : Hid (Blk V2 (w.heap.size + 1 + 1 + 1) #[fv] 39 ∧ OwR (w.heap.size + 5) V2 fv F ∧ fv.ownBlock ≠ some b9) := ⟨hf1, hf2, hf3⟩
    have HVW : Hid (∀ Y, Below V2.heap.size V2 Y → KeepsFrom W.heap.size V Y ∧ KpB (w.heap.size + 1 + 1 + 1 + 1) g V Y) := fun Y h => by
      have h5 : Below V.heap.size V Y := H2.out.2.2.1.trans (h.mono H2.out.2.2.1.size)
      exact ⟨KeepsFrom.of_grownBy (row := none) ⟨h5.os, h5.tape, h5.output, h5.size, fun b hb _ => h5.block b hb⟩ (fun j hj => by cases hj), h5.block _ (by omega), h5.block _ (by omega)⟩
    clear hb1 c0 cx HBd HM hf1 hf2 hf3 hb12 H1
    clear hva hv
    by_cases hpl : pl = 0
    · subst hpl
      have hvq : vq = false := by rw [HVq.out]; rfl
      have HRe : Hid (VisM w (.slice (some ⟨h1, h2, none⟩) l.length cb) l.length (snS (ann [] l) (pre ++ [(xi, xs)]).length) (snF (ann [] l) (pre ++ [(xi, xs)]).length) V2) := by
        rw [HSn.out.1, HSn.out.2, HVf.out, hvq, HSf.out]
        exact H2.out.1
      gi_wp2_with fail
      refine ⟨trivial, ?_⟩
      gi_wp2
      rw [← hV2]
      exact ⟨(HVW.out _ (Below.refl _ _)).1, (HVW.out _ (Below.refl _ _)).2, HRe.out⟩
    · have hg1 : ((pl : Int) == 0) = false := by
        rw [beq_eq_false_iff_ne]
        omega
      gi_wp2_with fail
      rw [← hV2, ← hb9]
      have s9 : w.heap.size + 5 < b9 := by omega
      have s9' : b9 < V2.heap.size := by omega
      clear hb9
      refine ⟨trivial, (CallsIn.inRound lp (callsIn_wide.2 (viss_any F fv q b9 V2 (lsr_own HF2.out.2.1) H2.out.2.2.2 HFm.out hqm (by have := HSl.out.2; omega)))).mono ?_⟩
      rintro e V3 ⟨rfl, hb3⟩
      have H3 : Hid (VisM w (.slice (some ⟨h1, h2, none⟩) l.length cb) l.length sn F V3 ∧ Blk V3 b8 (#[.int .u8 xs.k, .int .i64 xs.r.x, .int .i64 xs.r.y, .int .i64 xs.r.w, .int .i64 xs.r.h, .int .u8 xs.c.r, .int .u8 xs.c.g, .int .u8 xs.c.b, .int .u8 xs.c.a, .int .u8 xs.b.r, .int .u8 xs.b.g, .int .u8 xs.b.b, .int .u8 xs.b.a, .string xs.t, .int .i64 xs.n]) 31 ∧ Blk V3 b9 #[.int .i64 q.x, .int .i64 q.y, .int .i64 q.w, .int .i64 q.h] 27 ∧ KeepsFrom W.heap.size V V3 ∧ KpB (w.heap.size + 1 + 1 + 1 + 1) g V V3) := by
        obtain ⟨a1, a2, a3, a4⟩ := H2.out
        exact ⟨a1.below hb3, a2.below hb3, a4.below hb3, (HVW.out _ hb3).1, (HVW.out _ hb3).2⟩
      have s3 : V2.heap.size ≤ V3.heap.size := hb3.size
      have HF3 : Hid (Blk V3 (w.heap.size + 1 + 1 + 1) #[fv] 39 ∧ OwR (w.heap.size + 5) V3 fv F ∧ fv.ownBlock ≠ some b9) := ⟨HF2.out.1.below hb3, row_below HF2.out.2.1 hb3, HF2.out.2.2⟩
      have hdp : decide (pl = 0) = false := decide_eq_false hpl
      rw [hdp, Bool.false_or] at HVq
      clear hb3 H2 HF2 HVW d0 dx df hV2
      generalize F.any (fun f => covB f q) = an at *
      cases an with
      | true =>
        have hvq : vq = false := by rw [HVq.out]; rfl
        have HRe : Hid (VisM w (.slice (some ⟨h1, h2, none⟩) l.length cb) l.length (snS (ann [] l) (pre ++ [(xi, xs)]).length) (snF (ann [] l) (pre ++ [(xi, xs)]).length) V3) := by
          rw [HSn.out.1, HSn.out.2, HVf.out, hvq, HSf.out]
          exact H3.out.1
        gi_wp2
        exact ⟨H3.out.2.2.2.1, H3.out.2.2.2.2, HRe.out⟩
      | false =>
        have hvq : vq = true := by rw [HVq.out]; rfl
        have c5 := H3.out.1.mb.at1
        have fz := H3.out.1.ms.frozen xi
        obtain ⟨bz, hbz⟩ : ∃ bz, sn[xi]? = some bz := ⟨_, List.getElem?_eq_getElem (by rw [HSl.out.1]; exact hxl)⟩
        have cz : V3.cell? ⟨w.heap.size + 1, xi, none⟩ = some (.bool bz) := by
          have h := H3.out.1.ms.cell xi
          rw [h]
          unfold blA
          rw [List.getElem?_toArray, List.getElem?_map, hbz]
          rfl
        clear hbz
        obtain ⟨V4, hV4⟩ : ∃ V4, V4 = V3.setCell ⟨w.heap.size + 1, xi, none⟩ (.bool true) := ⟨_, rfl⟩
        have H4 : Hid (VisM w (.slice (some ⟨h1, h2, none⟩) l.length cb) l.length (sn.set xi true) F V4 ∧ Blk V4 b8 (#[.int .u8 xs.k, .int .i64 xs.r.x, .int .i64 xs.r.y, .int .i64 xs.r.w, .int .i64 xs.r.h, .int .u8 xs.c.r, .int .u8 xs.c.g, .int .u8 xs.c.b, .int .u8 xs.c.a, .int .u8 xs.b.r, .int .u8 xs.b.g, .int .u8 xs.b.b, .int .u8 xs.b.a, .string xs.t, .int .i64 xs.n]) 31 ∧ Blk V4 b9 #[.int .i64 q.x, .int .i64 q.y, .int .i64 q.w, .int .i64 q.h] 27 ∧ KeepsFrom W.heap.size V V4 ∧ KpB (w.heap.size + 1 + 1 + 1 + 1) g V V4) := by
          obtain ⟨a1, a2, a3, a4, a5⟩ := H3.out
          obtain ⟨fv', f1, f2⟩ := a1.mf
          have hgr : V3.grownBy V4 (some (w.heap.size + 1)) := by rw [hV4]; exact ob_set _ _ _ _
          refine ⟨⟨?_, ?_, ?_, ⟨fv', ?_, f2.far hgr fun g' hg' e => ?_⟩, ?_⟩, ?_, ?_, a4.trans (KeepsFrom.of_grownBy hgr fun j hj => by injection hj with hj; omega), a5.trans ⟨hgr.block _ (by omega) (fun e => by injection e with e; omega), hgr.block _ (by omega) (fun e => by injection e with e; omega)⟩⟩
          · rw [hV4]; exact a1.ma.other _ _ (by simp)
          · rw [hV4]
            have h := a1.ms.put xi (.bool true)
            rw [show (blA sn).setIfInBounds xi (.bool true) = blA (sn.set xi true) from by unfold blA; simp [List.map_set]] at h
            exact h
          · rw [hV4]; exact a1.mb.other _ _ (by simp)
          · rw [hV4]; exact f1.other _ _ (by simp)
          · have := (row_lt f2 g' hg').1
            injection e with e
            omega
          · rw [hV4]; exact a1.mw.setCell (p := ⟨w.heap.size + 1, xi, none⟩) (by simp) _
          · rw [hV4]; exact a2.other _ _ (by simp; omega)
          · rw [hV4]; exact a3.other _ _ (by simp; omega)
        have k0 : (V3.setCell ⟨w.heap.size + 1, xi, none⟩ (.bool true)).cell? ⟨b8, 0, none⟩ = some (.int .u8 xs.k) := by rw [← hV4]; exact H4.out.2.1.cell 0
        have k8 : (V3.setCell ⟨w.heap.size + 1, xi, none⟩ (.bool true)).cell? ⟨b8, 8, none⟩ = some (.int .u8 xs.c.a) := by rw [← hV4]; exact H4.out.2.1.cell 8
        have s4 : V3.heap.size = V4.heap.size := by rw [hV4]; simp
        have HF4 : Hid (Blk V4 (w.heap.size + 1 + 1 + 1) #[fv] 39 ∧ OwR (w.heap.size + 5) V4 fv F ∧ fv.ownBlock ≠ some b9) := by
          have hgr : V3.grownBy V4 (some (w.heap.size + 1)) := by rw [hV4]; exact ob_set _ _ _ _
          refine ⟨by rw [hV4]; exact HF3.out.1.other _ _ (by simp), HF3.out.2.1.far hgr (fun g' hg' e => ?_), HF3.out.2.2⟩
          have := (row_lt HF3.out.2.1 g' hg').1
          injection e with e
          omega
        have kf : (V3.setCell ⟨w.heap.size + 1, xi, none⟩ (.bool true)).cell? ⟨w.heap.size + 1 + 1 + 1, 0, none⟩ = some fv := by rw [← hV4]; exact HF4.out.1.at1
        clear H3 HSf HVq HF3
        by_cases ho : opq xs = true
        · have hko : (xs.k == 1) = true ∧ (xs.c.a == 255) = true := by unfold opq at ho; simpa using ho
          obtain ⟨hk1, hka⟩ := hko
          gi_wp2_with fail
          rw [← hV4]
          refine ⟨trivial, (CallsIn.inRound lp (callsIn_wide.2 (visd_any F fv q b9 (w.heap.size + 5) V4 HF4.out.2.1 H4.out.2.2.1 HF4.out.2.2 HFm.out hqm (by have := HSl.out.2; omega)))).mono ?_⟩
          rintro e V5 ⟨u5, rfl, H5d⟩
          obtain ⟨FF, hFF⟩ : ∃ FF, FF = F.filter fun f => !covB q f := ⟨_, rfl⟩
          have HFl : Hid (FF.length ≤ 16384) := by
            unfold Hid
            rw [hFF]
            exact Nat.le_trans (List.length_filter_le _ _) (by have := HSl.out.2; omega)
          rw [← hFF] at H5d HVf
          clear hFF
          have hlo : ∀ g', fv.ownBlock = some g' → w.heap.size + 5 ≤ g' := fun g' hg' => (row_lt HF4.out.2.1 g' hg').1
          have hcl : ∀ (j : Nat) (o' : Obj), fv.ownBlock = some j → V4.heap[j]? = some o' → o'.isCells = true := fun j o' hj hh => by
            obtain ⟨cur, h⟩ := row_cells HF4.out.2.1 hj
            rw [h] at hh
            cases hh
            rfl
          have H5 : Hid (Blk V5 w.heap.size #[.slice (some ⟨h1, h2, none⟩) l.length cb] 65 ∧ Blk V5 (w.heap.size + 1) (blA (sn.set xi true)) 4 ∧ Blk V5 (w.heap.size + 1 + 1) #[.slice (some ⟨w.heap.size + 1, 0, none⟩) l.length l.length] 67 ∧ Blk V5 (w.heap.size + 1 + 1 + 1) #[fv] 39 ∧ Blk V5 b9 #[.int .i64 q.x, .int .i64 q.y, .int .i64 q.w, .int .i64 q.h] 27 ∧ Below w.heap.size w V5 ∧ KeepsFrom W.heap.size V V5 ∧ KpB (w.heap.size + 1 + 1 + 1 + 1) g V V5) := by
            obtain ⟨a1, a2, a3, a4, a5⟩ := H4.out
            obtain ⟨b1, b2, b3⟩ := H5d.out
            have hn : ∀ k, k < w.heap.size + 5 → fv.ownBlock ≠ some k := fun k hk e => by have := hlo k e; omega
            exact ⟨Bk.grown a1.ma b2 (hn _ (by omega)), Bk.grown a1.ms b2 (hn _ (by omega)), Bk.grown a1.mb b2 (hn _ (by omega)), Bk.grown HF4.out.1 b2 (hn _ (by omega)), Bk.grown a3 b2 HF4.out.2.2, a1.mw.grown b2 a1.mw.size (fun g' hg' => by have := hlo g' hg'; omega), a4.trans ((KeepsOthers.of_grownBy b2 hcl).from _), a5.trans ⟨b2.block _ (by omega) (fun e => hn _ (by omega) e.symm), b2.block _ (by omega) (fun e => hn _ (by omega) e.symm)⟩⟩
          have s5 : V4.heap.size ≤ V5.heap.size := H5d.out.2.1.size
          have HU : Hid (OwR (w.heap.size + 5) V5 u5 FF ∧ u5.ownBlock ≠ some b9) := ⟨H5d.out.1, by rw [H5d.out.2.2]; exact HF4.out.2.2⟩
          obtain ⟨o5, c5', e5, hc5, -⟩ := row_val HU.out.1
          subst e5
          have k5 := H5.out.2.2.2.1.at1
          have z5 := H5.out.2.2.2.1.frozen 0
          clear H5d H4 HF4 hlo hcl hV4 k0 k8 kf
          obtain ⟨V6, hV6⟩ : ∃ V6, V6 = V5.setCell ⟨w.heap.size + 1 + 1 + 1, 0, none⟩ (.slice o5 FF.length c5') := ⟨_, rfl⟩
          have H6 : Hid (Blk V6 w.heap.size #[.slice (some ⟨h1, h2, none⟩) l.length cb] 65 ∧ Blk V6 (w.heap.size + 1) (blA (sn.set xi true)) 4 ∧ Blk V6 (w.heap.size + 1 + 1) #[.slice (some ⟨w.heap.size + 1, 0, none⟩) l.length l.length] 67 ∧ Blk V6 (w.heap.size + 1 + 1 + 1) #[(.slice o5 FF.length c5')] 39 ∧ Blk V6 b9 #[.int .i64 q.x, .int .i64 q.y, .int .i64 q.w, .int .i64 q.h] 27 ∧ Below w.heap.size w V6 ∧ KeepsFrom W.heap.size V V6 ∧ KpB (w.heap.size + 1 + 1 + 1 + 1) g V V6 ∧ OwR (w.heap.size + 5) V6 (.slice o5 FF.length c5') FF) := by
            obtain ⟨a1, a2, a3, a4, a5, a6, a7, a8⟩ := H5.out
            have hgr : V5.grownBy V6 (some (w.heap.size + 1 + 1 + 1)) := by rw [hV6]; exact ob_set _ _ _ _
            refine ⟨?_, ?_, ?_, ?_, ?_, ?_, a7.trans (KeepsFrom.of_grownBy hgr fun j hj => by injection hj with hj; omega), a8.trans ⟨hgr.block _ (by omega) (fun e => by injection e with e; omega), hgr.block _ (by omega) (fun e => by injection e with e; omega)⟩, HU.out.1.far hgr (fun g' hg' e => by have := (row_lt HU.out.1 g' hg').1; injection e with e; omega)⟩
            · rw [hV6]; exact a1.other _ _ (fun e => by have e' : w.heap.size + 1 + 1 + 1 = w.heap.size := e; omega)
            · rw [hV6]; exact a2.other _ _ (fun e => by have e' : w.heap.size + 1 + 1 + 1 = w.heap.size + 1 := e; omega)
            · rw [hV6]; exact a3.other _ _ (fun e => by have e' : w.heap.size + 1 + 1 + 1 = w.heap.size + 1 + 1 := e; omega)
            · rw [hV6]; exact a4.put1 _
            · rw [hV6]; exact a5.other _ _ (fun e => by have e' : w.heap.size + 1 + 1 + 1 = b9 := e; omega)
            · rw [hV6]; exact a6.setCell (p := ⟨w.heap.size + 1 + 1 + 1, 0, none⟩) (by show w.heap.size ≤ w.heap.size + 1 + 1 + 1; omega) _
          have k6 : (V5.setCell ⟨w.heap.size + 1 + 1 + 1, 0, none⟩ (.slice o5 FF.length c5')).cell? ⟨w.heap.size + 1 + 1 + 1, 0, none⟩ = some (.slice o5 FF.length c5') := by rw [← hV6]; exact H6.out.2.2.2.1.at1
          have m9 : Bk V6 b9 #[.int .i64 q.x, .int .i64 q.y, .int .i64 q.w, .int .i64 q.h] 27 := H6.out.2.2.2.2.1
          obtain ⟨y0, y1, y2, y3⟩ := m9.at4
          rw [hV6] at y0 y1 y2 y3
          obtain ⟨i0, hi, hz0, hz1, hz2⟩ := info_parts info_rect
          have HA : Hid (∀ o', ((V5.setCell ⟨w.heap.size + 1 + 1 + 1, 0, none⟩ (.slice o5 FF.length c5')).alloc o').ownsRow (w.heap.size + 5) 27 4 (.slice o5 FF.length c5') FF.length (flat FF) ∧ w.heap.size + 5 ≤ ((V5.setCell ⟨w.heap.size + 1 + 1 + 1, 0, none⟩ (.slice o5 FF.length c5')).alloc o').heap.size) := fun o' => by
            rw [← hV6]
            refine ⟨row_below H6.out.2.2.2.2.2.2.2.2 ((Below.refl _ _).alloc (Nat.le_refl _) _), ?_⟩
            have := m9.lt
            simp
            omega
          have hb1' : Hid (FF.length + 1 ≤ maxLen) := by have := HFl.out; unfold Hid maxLen; omega
          have hb2' : Hid ((FF.length + 1) * 32 ≤ 140737488355328) := by have := HFl.out; unfold Hid; omega
          gi_wp2_with (gi_at_builtin; refine wpListIn_append_own _ rfl _ _ 39 rfl (w.heap.size + 5) 27 i0 (.agg #[.int .i64 0, .int .i64 0, .int .i64 0, .int .i64 0]) 4 32 Try.underlying39 hi hz0 hz1 hz2 rfl (by decide) (.slice o5 FF.length c5') FF.length (flat FF) rfl (HA.out _).1 _ 1 1 [.int .i64 q.x, .int .i64 q.y, .int .i64 q.w, .int .i64 q.h] rfl rfl (cell_fourB _ _ _ _ _ _ _ (by simp)) (one4 q) hb1'.out hb2'.out (HA.out _).2 ?_)
          intro v8 V8 hown8 hgr8 hiff8
          have hlo8 : ∀ g', (Value.slice o5 FF.length c5').ownBlock = some g' → w.heap.size + 5 ≤ g' := fun g' hg' => (row_lt HU.out.1 g' hg').1
          have hn8 : ∀ k, k < w.heap.size + 5 → (Value.slice o5 FF.length c5').ownBlock ≠ some k := fun k hk e => by have := hlo8 k e; omega
          have H8 : Hid (Blk V8 w.heap.size #[.slice (some ⟨h1, h2, none⟩) l.length cb] 65 ∧ Blk V8 (w.heap.size + 1) (blA (sn.set xi true)) 4 ∧ Blk V8 (w.heap.size + 1 + 1) #[.slice (some ⟨w.heap.size + 1, 0, none⟩) l.length l.length] 67 ∧ Blk V8 (w.heap.size + 1 + 1 + 1) #[.slice o5 FF.length c5'] 39 ∧ Below w.heap.size w V8 ∧ KeepsFrom W.heap.size V V8 ∧ KpB (w.heap.size + 1 + 1 + 1 + 1) g V V8 ∧ OwR (w.heap.size + 5) V8 v8 (FF ++ [q]) ∧ w.heap.size + 5 ≤ V8.heap.size) := by
            rw [← hV6] at hgr8
            obtain ⟨a1, a2, a3, a4, a5, a6, a7, a8, a9⟩ := H6.out
            have hal : Below V6.heap.size V6 (V6.alloc (.cells #[.int .i64 q.x, .int .i64 q.y, .int .i64 q.w, .int .i64 q.h] 27)) := (Below.refl _ _).alloc (Nat.le_refl _) _
            have r9 := row_below a9 hal
            have m6 := m9.lt
            have hsz := hgr8.size
            have hcl8 : ∀ (j : Nat) (o' : Obj), (Value.slice o5 FF.length c5').ownBlock = some j → (V6.alloc (.cells #[.int .i64 q.x, .int .i64 q.y, .int .i64 q.w, .int .i64 q.h] 27)).heap[j]? = some o' → o'.isCells = true := fun j o' hj hh => by
              obtain ⟨cur, h⟩ := row_cells r9 hj
              rw [h] at hh
              cases hh
              rfl
            refine ⟨Bk.grown (a1.below hal) hgr8 (hn8 _ (by omega)), Bk.grown (a2.below hal) hgr8 (hn8 _ (by omega)), Bk.grown (a3.below hal) hgr8 (hn8 _ (by omega)), Bk.grown (a4.below hal) hgr8 (hn8 _ (by omega)), ?_, (a7.trans ((KeepsOthers.alloc _ _).from _)).trans ((KeepsOthers.of_grownBy hgr8 hcl8).from _), ?_, snocR rfl hown8, ?_⟩
            · have b6 := a6.trans (hal.mono a6.size)
              exact b6.grown hgr8 b6.size (fun g' hg' => by have := hlo8 g' hg'; omega)
            · exact (a8.trans ⟨hal.block _ (by omega), hal.block _ (by omega)⟩).trans ⟨hgr8.block _ (by simp; omega) (fun e => hn8 _ (by omega) e.symm), hgr8.block _ (by simp; omega) (fun e => hn8 _ (by omega) e.symm)⟩
            · simp at hsz
              omega
          clear hown8 hgr8 hiff8 HA H6 m9 y0 y1 y2 y3 k6 hV6
          obtain ⟨o8, c8, e8, hc8, -⟩ := row_val H8.out.2.2.2.2.2.2.2.1
          subst e8
          have k8 := H8.out.2.2.2.1.at1
          have z8 := H8.out.2.2.2.1.frozen 0
          obtain ⟨n8, hn8'⟩ : ∃ n8, n8 = (FF ++ [q]).length := ⟨_, rfl⟩
          rw [← hn8'] at H8 hc8 ⊢
          have HRe : Hid (snS (ann [] l) (pre ++ [(xi, xs)]).length = sn.set xi true ∧ snF (ann [] l) (pre ++ [(xi, xs)]).length = FF ++ [q]) := by
            rw [HSn.out.1, HSn.out.2, HVf.out, hvq, if_pos (by rw [ho]; rfl)]
            exact ⟨rfl, rfl⟩
          clear hn8' HSn HVf
          gi_wp2
          obtain ⟨a1, a2, a3, a4, a6, a7, a8, a9, a10⟩ := H8.out
          have hgr : V8.grownBy (V8.setCell ⟨w.heap.size + 1 + 1 + 1, 0, none⟩ (.slice o8 n8 c8)) (some (w.heap.size + 1 + 1 + 1)) := ob_set _ _ _ _
          refine ⟨a7.trans (KeepsFrom.of_grownBy hgr fun j hj => by injection hj with hj; omega), a8.trans ⟨hgr.block _ (by omega) (fun e => by injection e with e; omega), hgr.block _ (by omega) (fun e => by injection e with e; omega)⟩, ?_⟩
          show VisM _ _ _ (snS (ann [] l) (pre ++ [(xi, xs)]).length) (snF (ann [] l) (pre ++ [(xi, xs)]).length) _
          rw [HRe.out.1, HRe.out.2]
          exact ⟨a1.other _ _ (fun e => by have e' : w.heap.size + 1 + 1 + 1 = w.heap.size := e; omega), a2.other _ _ (fun e => by have e' : w.heap.size + 1 + 1 + 1 = w.heap.size + 1 := e; omega), a3.other _ _ (fun e => by have e' : w.heap.size + 1 + 1 + 1 = w.heap.size + 1 + 1 := e; omega), ⟨_, a4.put1 _, a9.far hgr (fun g' hg' e => by have := (row_lt a9 g' hg').1; injection e with e; omega)⟩, a6.setCell (p := ⟨w.heap.size + 1 + 1 + 1, 0, none⟩) (by show w.heap.size ≤ w.heap.size + 1 + 1 + 1; omega) _⟩
        · have HRe : Hid (VisM w (.slice (some ⟨h1, h2, none⟩) l.length cb) l.length (snS (ann [] l) (pre ++ [(xi, xs)]).length) (snF (ann [] l) (pre ++ [(xi, xs)]).length) V4) := by
            rw [HSn.out.1, HSn.out.2, HVf.out, hvq, if_neg (by simpa using ho)]
            exact H4.out.1
          by_cases hk1 : (xs.k == 1) = true
          · have hka : (xs.c.a == 255) = false := by
              unfold opq at ho
              rw [hk1] at ho
              simpa using ho
            gi_wp2
            rw [← hV4]
            exact ⟨H4.out.2.2.2.1, H4.out.2.2.2.2, HRe.out⟩
          · have hk1' : (xs.k == 1) = false := by simpa using hk1
            gi_wp2
            rw [← hV4]
            exact ⟨H4.out.2.2.2.1, H4.out.2.2.2.2, HRe.out⟩
  case done =>
    rintro D ys V hD rfl hM hK
    rw [bwS_len] at hM
    have HN : Hid (l.length = (ann [] l).length) := (ann_len l []).symm
    have c2 := hM.mb.at1
    have E0 : Hid (snS (ann [] l) l.length = visB (ann [] l)) := by
      unfold Hid
      have := snS_all (ann [] l)
      rw [ann_len] at this
      exact this
    have e0x : snS (ann [] l) l.length = visB (ann [] l) := by
      have := snS_all (ann [] l)
      rw [ann_len] at this
      exact this
    have HM : Hid (VisM w (.slice ob l.length cb) l.length (visB (ann [] l)) (snF (ann [] l) l.length) V) := by rw [← E0.out]; exact hM
    clear e0x
    clear hM
    gi_wp2
    refine leaveD hK (v := .slice (some ⟨w.heap.size + 1, 0, none⟩) l.length l.length) (by simp [results, Try.results39, go_sem]) ⟨_, rfl, ⟨w.heap.size + 1, l.length, ?_, ?_, ?_, ?_⟩, below_left HM.out.mw (by omega) _⟩
    · rw [visB_len, ← HN.out]
    · rw [visB_len, ← HN.out]
      exact Nat.le_refl _
    · have := HM.out.ms.lt
      simpa [World.putObj] using this
    · intro i b hb
      have h : Bk (V.putObj D (.deferred none)) (w.heap.size + 1) (blA (visB (ann [] l))) 4 := HM.out.ms.left hK _
      rw [h.cell]
      unfold blA
      rw [List.getElem?_toArray, List.getElem?_map, hb]
      rfl
  case stop =>
    rintro D cd pre V hD hp h hK
    exact h.elim

end Go.Proofs.Ytbghjmkgicdnoaa
