/-
  Contracts of the document's answer for layer 13: the rectangles in which strokes show.
-/
import Derived.Test.YtbghjmkgicdnoaaGreatK12
import Derived.Test.YtbghjmkgicdnoaaGreatK11
import Derived.Deep.DeepCutAuto
namespace Go.Proofs.YtbghjmkgicdnoaaGreat
open Go.RowKit

/-- Rectangles that a call made. -/
def OwR (lo : Nat) (w : World) (v : Value) (rs : List Rc) : Prop := w.ownsRow lo 44 4 v rs.length (flat rs)
theorem OwR.nil (lo : Nat) (w : World) : OwR lo w (.slice none 0 0) [] := World.ownsRow_nil _ _ _ _
theorem OwR.below {lo : Nat} {w w' : World} {v : Value} {rs : List Rc} (h : OwR lo w v rs) (hb : Below w.heap.size w w') : OwR lo w' v rs := row_below h hb
theorem OwS.below {lo : Nat} {w w' : World} {v : Value} {l : List St} (h : OwS lo w v l) (hb : Below w.heap.size w w') : OwS lo w' v l := row_below h hb
theorem OwR.weaken {lo lo' : Nat} {w : World} {v : Value} {rs : List Rc} (h : OwR lo w v rs) (hb : lo' ≤ lo) : OwR lo' w v rs := row_weaken h hb
theorem OwS.weaken {lo lo' : Nat} {w : World} {v : Value} {l : List St} (h : OwS lo w v l) (hb : lo' ≤ lo) : OwS lo' w v l := row_weaken h hb
/-- Two values that lie in other blocks. -/
def Apt (u v : Value) : Prop := ∀ g, u.ownBlock = some g → v.ownBlock ≠ some g
theorem Apt.ne {u v : Value} (h : Apt u v) : v.ownBlock = none ∨ v.ownBlock ≠ u.ownBlock := by
  cases e : v.ownBlock with
  | none => exact .inl rfl
  | some g => exact .inr fun c => h g c.symm e
theorem Apt.turn {u v : Value} (h : Apt u v) : Apt v u := fun g hv hu => h g hu hv
/-- One of two grows: they stay apart. -/
theorem Apt.grow {u v : Value} {lo H g n cap : Nat} {W : World} {e : TypeId} {size m : Nat} {xs : List Value} (h : Apt u v) (hv : W.ownsRow lo e size v m xs) (hH : W.heap.size ≤ H) (hl : u.ownBlock = some g ∨ g = H) : Apt (.slice (some ⟨g, 0, none⟩) n cap) v := by
  intro q hq hvq
  have e1 : q = g := by
    have : (Value.slice (some ⟨g, 0, none⟩) n cap).ownBlock = some g := rfl
    rw [this] at hq
    injection hq with hq
    exact hq.symm
  subst e1
  rcases hl with hl | hl
  · exact h q hl hvq
  · have := (row_lt hv q hvq).2
    omega
/-- The last thing of a row left away. -/
theorem own_cut {w : World} {base : Nat} {e : TypeId} {size n g cap : Nat} {xs ys : List Value} (h : w.ownsRow base e size (.slice (some ⟨g, 0, none⟩) (n + 1) cap) (n + 1) (xs ++ ys)) (hx : xs.length = n * size) : w.ownsRow base e size (.slice (some ⟨g, 0, none⟩) n cap) n xs := by
  obtain ⟨hl, ⟨h, _⟩ | ⟨g', cap', cur, h, hb, hc, h1, h2, h3, h4⟩⟩ := h
  · cases h
  · injection h with e1 _ e3
    injection e1 with e1
    injection e1 with e1 _ _
    subst e1 e3
    refine ⟨hx, .inr ⟨g, cap, cur, rfl, hb, hc, by omega, h2, h3, ?_⟩⟩
    have h5 : (cur.toList.take ((n + 1) * size)).take (n * size) = (xs ++ ys).take (n * size) := by rw [h4]
    rw [List.take_take, Nat.min_eq_left (Nat.mul_le_mul_right size (by omega)), List.take_left' hx] at h5
    exact h5

/-- What lies there while the rectangles are gathered. -/
structure ShW (w : World) (l : List St) (k : Nat) (cs : List Rc) (u v : Value) (W : World) : Prop where
  o : OwR w.heap.size W u (((ann [] l).map Prod.snd).take k)
  c : OwR w.heap.size W v cs.reverse
  a : Apt u v
  b : Below w.heap.size w W
  d : (ann [] l).drop k = ann cs (l.drop k)
  e : clpE cs.length (l.drop k) = 0
theorem ShW.below {w : World} {l : List St} {k : Nat} {cs : List Rc} {u v : Value} {W W' : World} (h : ShW w l k cs u v W) (hb : Below W.heap.size W W') : ShW w l k cs u v W' := ⟨h.o.below hb, h.c.below hb, h.a, h.b.trans (hb.mono h.b.size), h.d, h.e⟩
theorem sh_next {l : List St} {k : Nat} {cs : List Rc} (hk : k < l.length) (hd : (ann [] l).drop k = ann cs (l.drop k)) (he : clpE cs.length (l.drop k) = 0) :
    ((ann [] l).map Prod.snd).take (k + 1) = ((ann [] l).map Prod.snd).take k ++ [shR cs l[k]] ∧ (ann [] l).drop (k + 1) = ann (nxC cs l[k]) (l.drop (k + 1)) ∧ clpE (nxC cs l[k]).length (l.drop (k + 1)) = 0 ∧ (l[k].k = 5 → cs ≠ []) ∧ oneE l[k] = 0 := by
  rw [List.drop_eq_getElem_cons hk] at hd he
  have hk' : k < (ann [] l).length := by rw [ann_len]; exact hk
  have hk2 : k < ((ann [] l).map Prod.snd).length := by rw [List.length_map]; exact hk'
  rw [List.drop_eq_getElem_cons hk'] at hd
  have hd : (ann [] l)[k] :: (ann [] l).drop (k + 1) = (l[k], shR cs l[k]) :: ann (nxC cs l[k]) (l.drop (k + 1)) := hd
  injection hd with hd1 hd2
  obtain ⟨e1, e2, e3⟩ := clpE_cons he
  refine ⟨?_, hd2, by rw [nxC_len]; exact e3, fun h5 hn => e2 ⟨h5, by rw [hn]; rfl⟩, e1⟩
  rw [← List.take_append_getElem hk2, List.getElem_map, hd1]
theorem clp_le : ∀ (l : List St) (n : Nat), clpE n l = 0 → n ≤ l.length
  | [], n, h => by
    unfold clpE at h
    split at h
    · cases h
    · omega
  | s :: l, n, h => by
    obtain ⟨_, _, h3⟩ := clpE_cons h
    have := clp_le l _ h3
    have e : n ≤ opn n s + 1 := by
      unfold opn
      by_cases h4 : s.k = 4
      · rw [if_pos h4]; omega
      · rw [if_neg h4]
        split <;> omega
    rw [List.length_cons]
    omega
theorem own_last {lo : Nat} {w : World} {gc cc : Nat} {c : Rc} {t : List Rc} (h : OwR lo w (.slice (some ⟨gc, 0, none⟩) (c :: t).length cc) (c :: t).reverse) : RcAt w gc (t.length * 4) c := by
  unfold OwR at h
  rw [List.length_reverse] at h
  have hk : t.length < (c :: t).reverse.length := by simp
  have e : (c :: t).reverse[t.length] = c := by simp
  obtain ⟨f0, f1, f2, f3⟩ := flat_at (c :: t).reverse t.length hk
  rw [e] at f0 f1 f2 f3
  have hl : (c :: t).length * 4 = t.length * 4 + 4 := by simp; omega
  exact ⟨(own_cell h _ (by omega)).trans f0, (own_cell h _ (by omega)).trans f1, (own_cell h _ (by omega)).trans f2, (own_cell h _ (by omega)).trans f3⟩
theorem Bk.put4 {W : World} {b : Nat} {a0 a1 a2 a3 : Value} {t : TypeId} (h : Bk W b #[a0, a1, a2, a3] t) (x y z u : Value) : Bk ((((W.setCell ⟨b, 0, none⟩ x).setCell ⟨b, 1, none⟩ y).setCell ⟨b, 2, none⟩ z).setCell ⟨b, 3, none⟩ u) b #[x, y, z, u] t := (((h.put 0 x).put 1 y).put 2 z).put 3 u
theorem below_put4 {B : Nat} {w W : World} (h : Below B w W) {b : Nat} (hb : B ≤ b) (x y z u : Value) : Below B w ((((W.setCell ⟨b, 0, none⟩ x).setCell ⟨b, 1, none⟩ y).setCell ⟨b, 2, none⟩ z).setCell ⟨b, 3, none⟩ u) :=
  (((h.setCell (p := ⟨b, 0, none⟩) hb x).setCell (p := ⟨b, 1, none⟩) hb y).setCell (p := ⟨b, 2, none⟩) hb z).setCell (p := ⟨b, 3, none⟩) hb u
theorem Bk.at4 {W : World} {b : Nat} {a0 a1 a2 a3 : Value} {t : TypeId} (h : Bk W b #[a0, a1, a2, a3] t) : W.cell? ⟨b, 0, none⟩ = some a0 ∧ W.cell? ⟨b, 1, none⟩ = some a1 ∧ W.cell? ⟨b, 2, none⟩ = some a2 ∧ W.cell? ⟨b, 3, none⟩ = some a3 := ⟨by rw [h.cell]; rfl, by rw [h.cell]; rfl, by rw [h.cell]; rfl, by rw [h.cell]; rfl⟩
/-- A rectangle laid behind one of two rows. -/
theorem own_grow {lo : Nat} {W W4 : World} {o : Obj} {u v : Value} {rs cs : List Rc} {r : Rc} {k g4 cap4 : Nat} (hk : k = rs.length) (hv : OwR lo W v cs) (ha : Apt u v)
    (hown : W4.ownsRow lo 44 4 (.slice (some ⟨g4, 0, none⟩) (k + 1) cap4) (k + 1) (flat rs ++ [.int .i64 r.x, .int .i64 r.y, .int .i64 r.w, .int .i64 r.h])) (hgrow : (W.alloc o).grownBy W4 u.ownBlock) (hlies : u.ownBlock = some g4 ∨ g4 = W.heap.size + 1) :
    OwR lo W4 (.slice (some ⟨g4, 0, none⟩) (k + 1) cap4) (rs ++ [r]) ∧ OwR lo W4 v cs ∧ Apt (.slice (some ⟨g4, 0, none⟩) (k + 1) cap4) v := by
  have a1 : OwR lo (W.alloc o) v cs := hv.below ((Below.refl _ _).alloc (Nat.le_refl _) _)
  refine ⟨?_, World.ownsRow.kept a1 hgrow ha.ne, Apt.grow ha a1 (by simp) hlies⟩
  unfold OwR
  rw [List.length_append, List.length_singleton, ← hk, flat_app, flat_one]
  exact hown
theorem rc_four (r : Rc) : [Value.int .i64 r.x, .int .i64 r.y, .int .i64 r.w, .int .i64 r.h] = flat [r] := (flat_one r).symm

set_option maxRecDepth 20000 in
set_option maxHeartbeats 8000000 in
theorem zshown_any (l : List St) (v : Value) (w : World) (hv : LsS w v l) (hl : l.length ≤ 16384) (hc0 : clpE 0 l = 0) :
    Calls Tryz.prog 24 #[v] w fun e w' => ∃ u, e = .returned u ∧ OwR w.heap.size w' u ((ann [] l).map Prod.snd) ∧ Below w.heap.size w w' := by
  obtain ⟨oa, cap, rfl, hc, hg⟩ := hv
  have HG : Hid (0 < l.length → ∃ g o, oa = some ⟨g, o, none⟩ ∧ g < w.heap.size ∧ ∀ i (h : i < l.length), StAt w g (o + i * 15) l[i]) := hg
  obtain ⟨i0, hi, hz0, hz1, hz2⟩ := info_parts info_rect
  have HI : Hid (Tryz.prog.info? 44 = some i0 ∧ i0.zero = some (.agg #[.int .i64 0, .int .i64 0, .int .i64 0, .int .i64 0]) ∧ i0.size = 4 ∧ i0.bytes = 32) := ⟨hi, hz0, hz1, hz2⟩
  clear hg hi hz0 hz1 hz2
  have H0 : Hid (ShW w l 0 [] (.slice none 0 0) (.slice none 0 0) w) := ⟨OwR.nil _ _, OwR.nil _ _, (fun g h => by cases h), Below.refl _ _, rfl, hc0⟩
  have HME : Hid (∀ (a b : Rc) W, Calls Tryz.prog 42 #[.agg #[.int .i64 a.x, .int .i64 a.y, .int .i64 a.w, .int .i64 a.h], .agg #[.int .i64 b.x, .int .i64 b.y, .int .i64 b.w, .int .i64 b.h]] W fun e w' => e = .returned (.agg #[.int .i64 (zMe a b).x, .int .i64 (zMe a b).y, .int .i64 (zMe a b).w, .int .i64 (zMe a b).h]) ∧ Below W.heap.size W w') := fun a b W => rmeet_any _ _ _ _ _ _ _ _ W
  have HEM : Hid (∀ (a : Rc) W, Calls Tryz.prog 43 #[.agg #[.int .i64 a.x, .int .i64 a.y, .int .i64 a.w, .int .i64 a.h]] W fun e w' => e = .returned (.bool (zEm a)) ∧ Below W.heap.size W w') := fun a W => rempty_any _ _ _ _ W
  clear hc0
  go_enter Tryz.func24, Tryz.ntmps24
  go_wp2_with fail
  go_loopw [3, 4, 5] (fun u q i wr => ∃ (k : Nat) (cs : List Rc), i = .int .i64 k ∧ k ≤ l.length ∧ Hid (ShW w l k cs u q wr)) (fun _ _ i _ => l.length - (intOf i).toNat)
  case atStart => exact ⟨0, [], rfl, Nat.zero_le _, H0⟩
  case round =>
    clear H0
    obtain ⟨k, cs, rfl, hk, HK⟩ := hrel
    by_cases hlt : k < l.length
    · have ik : (k : Int) < l.length := by omega
      obtain ⟨g, o, rfl, hg, hat⟩ := HG.out (by omega)
      have hx := (hat k hlt).kept (w' := wr) fun j => HK.out.b.cell (p := ⟨g, j, none⟩) hg
      have HN : Hid (((ann [] l).map Prod.snd).take (k + 1) = ((ann [] l).map Prod.snd).take k ++ [shR cs l[k]] ∧ (ann [] l).drop (k + 1) = ann (nxC cs l[k]) (l.drop (k + 1)) ∧ clpE (nxC cs l[k]).length (l.drop (k + 1)) = 0 ∧ (l[k].k = 5 → cs ≠ [])) := by
        obtain ⟨h1, h2, h3, h4, _⟩ := sh_next hlt HK.out.d HK.out.e
        exact ⟨h1, h2, h3, h4⟩
      have h45 := (oneE_zero (sh_next hlt HK.out.d HK.out.e).2.2.2.2).2.1
      have hlo : (((ann [] l).map Prod.snd).take k).length = k := by rw [List.length_take, List.length_map, ann_len]; omega
      obtain ⟨oc, cc, ec, hcc, hgc⟩ := row_val HK.out.c
      obtain ⟨x0, x1, x2, x3, x4, -⟩ := id hx
      have HX : Hid (∀ W, Below wr.heap.size wr W → W.cell? ⟨g, o + k * 15, none⟩ = some (.int .u8 l[k].k)) := fun W h => (h.cell (p := ⟨g, o + k * 15, none⟩) (Nat.lt_of_lt_of_le hg HK.out.b.size)).trans hx.1
      have HX2 : Hid (∀ W, Below w.heap.size w W → W.cell? ⟨g, o + k * 15, none⟩ = some (.int .u8 l[k].k)) := fun W h => (h.cell (p := ⟨g, o + k * 15, none⟩) hg).trans (hat k hlt).1
      have hcl : cs.reverse.length = cs.length := List.length_reverse
      have hcsl : Hid (cs.length ≤ 16384) := by
        have h := clp_le _ _ HK.out.e
        rw [List.length_drop] at h
        unfold Hid
        omega
      have HC : Hid (0 < cs.length → ∃ gc, oc = some ⟨gc, 0, none⟩ ∧ gc < wr.heap.size) := fun h => by
        obtain ⟨gc, e, _, h2⟩ := hgc (by omega)
        exact ⟨gc, e, h2⟩
      subst ec
      obtain ⟨n, hn⟩ : ∃ n, n = cs.length := ⟨_, rfl⟩
      rw [hcl, ← hn] at hcc ⊢
      rw [← hn] at hcsl HC
      have HK2 : Hid (ShW w l k cs u3 (.slice oc n cc) wr) := by rw [hn, ← hcl]; exact HK
      have HN0 : Hid (n = cs.length) := hn
      clear hat hx HK hgc hcl hn
      generalize hxe : l[k] = x at *
      clear hxe
      have B0 := Bk.new wr #[.int .i64 x.r.x, .int .i64 x.r.y, .int .i64 x.r.w, .int .i64 x.r.h] 44
      have L0 : Below wr.heap.size wr (wr.alloc (.cells #[.int .i64 x.r.x, .int .i64 x.r.y, .int .i64 x.r.w, .int .i64 x.r.h] 44)) := (Below.refl _ _).alloc (Nat.le_refl _) _
      go_upto_if 20 with fail
      obtain ⟨bx, hbx⟩ : ∃ bx, bx = wr.heap.size := ⟨_, rfl⟩
      have HBX : Hid (bx = wr.heap.size) := hbx
      rw [← hbx]
      rw [← hbx] at B0
      generalize wr.alloc (.cells #[.int .i64 x.r.x, .int .i64 x.r.y, .int .i64 x.r.w, .int .i64 x.r.h] 44) = W0 at *
      have H0 : Hid (Bk W0 bx #[.int .i64 x.r.x, .int .i64 x.r.y, .int .i64 x.r.w, .int .i64 x.r.h] 44 ∧ Below wr.heap.size wr W0) := ⟨B0, L0⟩
      clear B0 L0 x0 x1 x2 x3 x4 hbx
      go_cut [] (fun wx => Hid (Bk wx bx #[.int .i64 (topR cs x.r).x, .int .i64 (topR cs x.r).y, .int .i64 (topR cs x.r).w, .int .i64 (topR cs x.r).h] 44 ∧ Below wr.heap.size wr wx))
      case first =>
        cases cs with
        | nil =>
          obtain rfl : n = 0 := HN0.out
          go_wp2_with fail
          go_meet
          exact H0
        | cons c t =>
          obtain ⟨tl, htl⟩ : ∃ tl, tl = t.length := ⟨_, rfl⟩
          obtain rfl : n = tl + 1 := by rw [HN0.out, htl]; rfl
          obtain ⟨gc, rfl, hgl⟩ := HC.out (by omega)
          have hc4 : Hid (RcAt W0 gc (tl * 4) c) := by
            rw [htl]
            have h := HK2.out.c
            rw [htl] at h
            exact (own_last h).kept fun j => H0.out.2.cell (p := ⟨gc, j, none⟩) hgl
          have htb : tl + 1 ≤ 16384 := hcsl.out
          clear htl
          go_upto_region 7 with fail
          refine wp_region_lit 8 0 1 (fun _ => .cells #[] 0) [] (by kernel_rfl) (by kernel_rfl) rfl (fun k hk => absurd hk (by omega)) rfl (fun i h1 h2 => absurd h2 (by omega)) ?_
          apply Exists.intro
          refine ⟨fun bs ne => ?_, ?_⟩
          · have q := fun tt : Gb W0 bs => (H0.out.1.below tt.below).at4
            have d0 := fun tt : Gb W0 bs => (q tt).1
            have d1 := fun tt : Gb W0 bs => (q tt).2.1
            have d2 := fun tt : Gb W0 bs => (q tt).2.2.1
            have d3 := fun tt : Gb W0 bs => (q tt).2.2.2
            have q2 := fun tt : Gb W0 bs => hc4.out.kept (w' := tt.wd) fun j => tt.below.cell (p := ⟨gc, j, none⟩) (Nat.lt_of_lt_of_le hgl H0.out.2.size)
            have e0 := fun tt : Gb W0 bs => (q2 tt).1
            have e1 := fun tt : Gb W0 bs => (q2 tt).2.1
            have e2 := fun tt : Gb W0 bs => (q2 tt).2.2.1
            have e3 := fun tt : Gb W0 bs => (q2 tt).2.2.2
            clear q q2
            simp only [List.take_succ_cons, List.take_zero]
            repeat (go_big_quiet_step (first
              | (go_at_call 42; exact gb_call (HME.out x.r c _))))
            exact wpQuiet_nil rfl
          · intro bl wx hbl _ _
            have hB := H0.out.1.below hbl
            obtain ⟨c0, c1, c2, c3⟩ := hB.at4
            have f0 := hB.frozen
            have hlt3 := hB.lt
            have HRel : Hid (Bk ((((wx.setCell ⟨bx, 0, none⟩ (.int .i64 (zMe x.r c).x)).setCell ⟨bx, 1, none⟩ (.int .i64 (zMe x.r c).y)).setCell ⟨bx, 2, none⟩ (.int .i64 (zMe x.r c).w)).setCell ⟨bx, 3, none⟩ (.int .i64 (zMe x.r c).h)) bx #[.int .i64 (zMe x.r c).x, .int .i64 (zMe x.r c).y, .int .i64 (zMe x.r c).w, .int .i64 (zMe x.r c).h] 44 ∧ Below wr.heap.size wr ((((wx.setCell ⟨bx, 0, none⟩ (.int .i64 (zMe x.r c).x)).setCell ⟨bx, 1, none⟩ (.int .i64 (zMe x.r c).y)).setCell ⟨bx, 2, none⟩ (.int .i64 (zMe x.r c).w)).setCell ⟨bx, 3, none⟩ (.int .i64 (zMe x.r c).h))) :=
              ⟨hB.put4 _ _ _ _, below_put4 (H0.out.2.trans (hbl.mono H0.out.2.size)) (Nat.le_of_eq HBX.out.symm) _ _ _ _⟩
            simp only [layL]
            clear hB hbl
            refine wpAny_one 8 (by kernel_rfl) rfl ?_
            intro K hK
            go_simp
            refine hK _ _ ?_
            clear hK K
            refine wpAny_done (by kernel_rfl) ?_ _
            go_wp2_with fail
            go_meet
            exact HRel
      case rest =>
        have H1 := hcut
        clear hcut H0
        obtain ⟨c0, c1, c2, c3⟩ := H1.out.1.at4
        go_wp2_with fail
        refine (HEM.out (topR cs x.r) _).mono ?_
        rintro e w2 ⟨rfl, hb2⟩
        have H2 : Hid (Bk w2 bx #[.int .i64 (topR cs x.r).x, .int .i64 (topR cs x.r).y, .int .i64 (topR cs x.r).w, .int .i64 (topR cs x.r).h] 44 ∧ Below wr.heap.size wr w2) := ⟨H1.out.1.below hb2, H1.out.2.trans (hb2.mono H1.out.2.size)⟩
        clear H1 hb2 c0 c1 c2 c3
        have hemp : ∀ b, zEm (topR cs x.r) = b → shR cs x = if b = true then zr else topR cs x.r := fun b h => by unfold shR; rw [h]
        have HSH : Hid (∀ b, zEm (topR cs x.r) = b → shR cs x = if b = true then zr else topR cs x.r) := hemp
        clear hemp
        generalize hze : zEm (topR cs x.r) = em at *
        go_upto_if 30 with fail
        go_cut [] (fun wx => Hid (Bk wx bx #[.int .i64 (shR cs x).x, .int .i64 (shR cs x).y, .int .i64 (shR cs x).w, .int .i64 (shR cs x).h] 44 ∧ Below wr.heap.size wr wx))
        case first =>
          obtain ⟨c0, c1, c2, c3⟩ := H2.out.1.at4
          have f0 := H2.out.1.frozen
          have hl2 := H2.out.1.lt
          cases em with
          | false =>
            have e := HSH.out false rfl
            go_wp2_with fail
            go_meet
            rw [e]
            exact H2
          | true =>
            have e := HSH.out true rfl
            have HRel : Hid (Bk ((((w2.setCell ⟨bx, 0, none⟩ (.int .i64 0)).setCell ⟨bx, 1, none⟩ (.int .i64 0)).setCell ⟨bx, 2, none⟩ (.int .i64 0)).setCell ⟨bx, 3, none⟩ (.int .i64 0)) bx #[.int .i64 0, .int .i64 0, .int .i64 0, .int .i64 0] 44 ∧ Below wr.heap.size wr ((((w2.setCell ⟨bx, 0, none⟩ (.int .i64 0)).setCell ⟨bx, 1, none⟩ (.int .i64 0)).setCell ⟨bx, 2, none⟩ (.int .i64 0)).setCell ⟨bx, 3, none⟩ (.int .i64 0))) :=
              ⟨H2.out.1.put4 _ _ _ _, below_put4 H2.out.2 (Nat.le_of_eq HBX.out.symm) _ _ _ _⟩
            have HE : Hid (shR cs x = zr) := e
            clear e
            go_wp2_with fail
            go_meet
            rw [HE.out]
            exact HRel
        case rest =>
          have H3 := hcut
          clear hcut H2 HSH hze
          obtain ⟨hi, hz0, hz1, hz2⟩ := HI.out
          have S3 : Hid (ShW w l k cs u3 (.slice oc n cc) wc) := HK2.out.below H3.out.2
          have HU3 : Hid (u3.ownBlock ≠ some bx) := fun h => by
            have := (row_lt HK2.out.o bx h).2
            have := HBX.out
            omega
          have HUC : Hid (∀ gc, oc = some ⟨gc, 0, none⟩ → gc ≠ bx) := fun gc h e => by
            have := (row_lt HK2.out.c bx (by rw [h, e]; rfl)).2
            have := HBX.out
            omega
          obtain ⟨T, hT⟩ : ∃ T, T = (ann [] l).map Prod.snd := ⟨_, rfl⟩
          have HTT : Hid (T = (ann [] l).map Prod.snd) := hT
          rw [← hT] at HN hlo
          clear hT
          have HA : Hid (∀ o, (wc.alloc o).ownsRow w.heap.size 44 4 u3 k (flat (T.take k)) ∧ w.heap.size ≤ (wc.alloc o).heap.size) := fun o => by
            have h := S3.out.o
            rw [← HTT.out] at h
            unfold OwR at h
            rw [hlo] at h
            exact ⟨row_below h ((Below.refl _ _).alloc (Nat.le_refl _) _), by have := S3.out.b.size; simp; omega⟩
          have HB : Hid (Bk wc bx #[.int .i64 (shR cs x).x, .int .i64 (shR cs x).y, .int .i64 (shR cs x).w, .int .i64 (shR cs x).h] 44) := H3.out.1
          have HLo : Hid (k = (T.take k).length) := hlo.symm
          have HNX : Hid ((x.k = 4 → nxC cs x = shR cs x :: cs) ∧ (x.k = 5 → nxC cs x = cs.tail) ∧ (x.k < 4 → nxC cs x = cs)) := by
            unfold Hid nxC
            exact ⟨fun h => by rw [if_pos h], fun h => by rw [if_neg (by omega), if_pos h], fun h => by rw [if_neg (by omega), if_neg (by omega)]⟩
          clear hlo H3 HK2 HX
          generalize shR cs x = q at *
          obtain ⟨c0, c1, c2, c3⟩ := HB.out.at4
          have hc3 : Hid (k + 1 ≤ maxLen) := by unfold Hid maxLen; omega
          have hc4 : Hid ((k + 1) * 32 ≤ 140737488355328) := by unfold Hid; omega
          go_wp2_with (at_builtin; refine wpList_append_lies _ rfl _ _ 25 rfl w.heap.size 44 i0 (.agg #[.int .i64 0, .int .i64 0, .int .i64 0, .int .i64 0]) 4 32 Tryz.underlying25 hi hz0 hz1 hz2 rfl (by decide) u3 k (flat (T.take k)) rfl (HA.out _).1 _ 1 1 [.int .i64 q.x, .int .i64 q.y, .int .i64 q.w, .int .i64 q.h] rfl rfl (cell_fourB _ _ _ _ _ _ _ rfl) (one4 q) (by decide) hc3.out hc4.out (HA.out _).2 _ rfl ?_)
          intro g4 cap4 w4 hown' hgrow hlies hg4
          have H4 : Hid (OwR w.heap.size w4 (.slice (some ⟨g4, 0, none⟩) (k + 1) cap4) (T.take (k + 1)) ∧ OwR w.heap.size w4 (.slice oc n cc) cs.reverse ∧ Apt (.slice (some ⟨g4, 0, none⟩) (k + 1) cap4) (.slice oc n cc) ∧ Below w.heap.size w w4 ∧ Bk w4 bx #[.int .i64 q.x, .int .i64 q.y, .int .i64 q.w, .int .i64 q.h] 44) := by
            obtain ⟨a1, a2, a3⟩ := own_grow HLo.out S3.out.c S3.out.a hown' hgrow hlies
            rw [← HN.out.1] at a1
            have b1 : Below wc.heap.size wc (wc.alloc (.cells #[.int .i64 q.x, .int .i64 q.y, .int .i64 q.w, .int .i64 q.h] 44)) := (Below.refl _ _).alloc (Nat.le_refl _) _
            exact ⟨a1, a2, a3, app_below (S3.out.b.trans (b1.mono S3.out.b.size)) (HA.out _).1 (Nat.le_refl _) hgrow, Bk.grown (HB.out.below b1) hgrow HU3.out⟩
          clear hown' hgrow hlies HA S3 HB c0 c1 c2 c3 hg4
          have y0 := HX2.out _ H4.out.2.2.2.1
          rcases h45 with k1 | k1 | k1 | k1 | k1
          iterate 3
            · have HRel : Hid (ShW w l (k + 1) cs (.slice (some ⟨g4, 0, none⟩) (k + 1) cap4) (.slice oc n cc) w4) := by
                obtain ⟨a1, a2, a3, a4, _⟩ := H4.out
                have e := HNX.out.2.2 (by omega)
                obtain ⟨_, n2, n3, _⟩ := HN.out
                rw [e] at n2 n3
                rw [HTT.out] at a1
                exact ⟨a1, a2, a3, a4, n2, n3⟩
              clear H4 HN HNX HTT
              go_wp2
              go_roundw
              case rel => exact ⟨k + 1, cs, by go_num, by omega, HRel⟩
              case measure => simp [intOf]; omega
          · obtain ⟨d0, d1, d2, d3⟩ := H4.out.2.2.2.2.at4
            have HA2 : Hid (∀ o, (w4.alloc o).ownsRow w.heap.size 44 4 (.slice oc n cc) n (flat cs.reverse) ∧ w.heap.size ≤ (w4.alloc o).heap.size) := fun o => by
              have h := H4.out.2.1
              unfold OwR at h
              rw [List.length_reverse, ← HN0.out] at h
              exact ⟨row_below h ((Below.refl _ _).alloc (Nat.le_refl _) _), by have := H4.out.2.2.2.1.size; simp; omega⟩
            have hc5 : Hid (n + 1 ≤ maxLen) := by have := hcsl.out; unfold Hid maxLen; omega
            have hc6 : Hid ((n + 1) * 32 ≤ 140737488355328) := by have := hcsl.out; unfold Hid; omega
            go_wp2_with (at_builtin; refine wpList_append_lies _ rfl _ _ 25 rfl w.heap.size 44 i0 (.agg #[.int .i64 0, .int .i64 0, .int .i64 0, .int .i64 0]) 4 32 Tryz.underlying25 hi hz0 hz1 hz2 rfl (by decide) (.slice oc n cc) n (flat cs.reverse) rfl (HA2.out _).1 _ 1 1 [.int .i64 q.x, .int .i64 q.y, .int .i64 q.w, .int .i64 q.h] rfl rfl (cell_fourB _ _ _ _ _ _ _ rfl) (one4 q) (by decide) hc5.out hc6.out (HA2.out _).2 _ rfl ?_)
            intro g6 cap6 w6 hown' hgrow hlies hg6
            have HRel : Hid (ShW w l (k + 1) (q :: cs) (.slice (some ⟨g4, 0, none⟩) (k + 1) cap4) (.slice (some ⟨g6, 0, none⟩) (n + 1) cap6) w6 ∧ w6.cell? ⟨g, o + k * 15, none⟩ = some (.int .u8 x.k)) := by
              obtain ⟨a1, a2, a3, a4, _⟩ := H4.out
              obtain ⟨e1, e2, e3⟩ := own_grow (by rw [List.length_reverse]; exact HN0.out) a1 a3.turn hown' hgrow hlies
              have e := HNX.out.1 k1
              obtain ⟨_, n2, n3, _⟩ := HN.out
              rw [e] at n2 n3
              rw [HTT.out] at e2
              rw [← List.reverse_cons] at e1
              have b1 : Below w4.heap.size w4 (w4.alloc (.cells #[.int .i64 q.x, .int .i64 q.y, .int .i64 q.w, .int .i64 q.h] 44)) := (Below.refl _ _).alloc (Nat.le_refl _) _
              have a5 := app_below (a4.trans (b1.mono a4.size)) (HA2.out _).1 (Nat.le_refl _) hgrow
              exact ⟨⟨e2, e1, e3.turn, a5, n2, n3⟩, HX2.out _ a5⟩
            have y1 := HRel.out.2
            have HRel2 : Hid (ShW w l (k + 1) (q :: cs) (.slice (some ⟨g4, 0, none⟩) (k + 1) cap4) (.slice (some ⟨g6, 0, none⟩) (n + 1) cap6) w6) := HRel.out.1
            clear H4 HN HNX HTT hown' hgrow hlies hg6 HA2 HRel d0 d1 d2 d3 y0
            go_wp2
            go_roundw
            case rel => exact ⟨k + 1, q :: cs, by go_num, by omega, HRel2⟩
            case measure => simp [intOf]; omega
          · have hne := HN.out.2.2.2 k1
            cases cs with
            | nil => exact absurd rfl hne
            | cons c t =>
              obtain ⟨tl, htl⟩ : ∃ tl, tl = t.length := ⟨_, rfl⟩
              obtain rfl : n = tl + 1 := by rw [HN0.out, htl]; rfl
              obtain ⟨gc, rfl, hgl⟩ := HC.out (by omega)
              have htb : tl + 1 ≤ 16384 := hcsl.out
              have HRel : Hid (ShW w l (k + 1) t (.slice (some ⟨g4, 0, none⟩) (k + 1) cap4) (.slice (some ⟨gc, 0, none⟩) tl cc) w4) := by
                obtain ⟨a1, a2, a3, a4, _⟩ := H4.out
                have e := HNX.out.2.1 k1
                obtain ⟨_, n2, n3, _⟩ := HN.out
                rw [e] at n2 n3
                rw [HTT.out] at a1
                refine ⟨a1, ?_, a3, a4, n2, n3⟩
                unfold OwR at a2 ⊢
                rw [List.length_reverse, ← htl]
                rw [List.reverse_cons, flat_app, List.length_append, List.length_reverse, ← htl] at a2
                exact own_cut a2 (by rw [flat_len, List.length_reverse, htl])
              clear H4 HN HNX HTT hne htl
              go_wp2
              go_roundw
              case rel => exact ⟨k + 1, t, by go_num, by omega, HRel⟩
              case measure => simp [intOf]; omega
    · obtain rfl : k = l.length := by omega
      have HF : Hid (OwR w.heap.size wr u3 ((ann [] l).map Prod.snd) ∧ Below w.heap.size w wr) := by
        have h := HK.out.o
        rw [List.take_of_length_le (by rw [List.length_map, ann_len]; exact Nat.le_refl _)] at h
        exact ⟨h, HK.out.b⟩
      clear HK
      go_wp2
      go_ret
      exact ⟨_, rfl, HF.out⟩

end Go.Proofs.YtbghjmkgicdnoaaGreat
