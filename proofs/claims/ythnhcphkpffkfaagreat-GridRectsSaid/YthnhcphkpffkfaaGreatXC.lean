/-
  What is shared on its way, in memory: the sum of the wishes; the function that fills one.
-/
import Derived.Test.YthnhcphkpffkfaaGreatXB
namespace Go.Proofs.YthnhcphkpffkfaaGreat
open Go.RowKit

theorem mul_bd {a b A B : Int} (h1 : 0 ≤ a) (h2 : a ≤ A) (h3 : 0 ≤ b) (h4 : b ≤ B) : 0 ≤ a * b ∧ a * b ≤ A * B :=
  ⟨Int.mul_nonneg h1 h3, Int.mul_le_mul h2 h4 h3 (Int.le_trans h1 h2)⟩
theorem tk_at {T : List Tk} {i : Nat} (h : i < T.length) : tkA T i = T[i] := by unfold tkA; simp [List.getD, h]
theorem getD_at {xs : List Int} {i : Nat} (h : i < xs.length) : xs.getD i 0 = xs[i] := by simp [List.getD, h]
theorem set_self {xs : List Int} {i : Nat} (h : i < xs.length) : xs.set i (xs.getD i 0 + 0) = xs := by
  rw [getD_at h, Int.add_zero, List.set_getElem_self]
/-- Blocks other than two lie as they lay. -/
structure Ex2 (a b : Nat) (w w' : World) : Prop where
  size : w.heap.size ≤ w'.heap.size
  block : ∀ c, c < w.heap.size → c ≠ a → c ≠ b → w'.heap[c]? = w.heap[c]?
theorem Ex2.refl (a b : Nat) (w : World) : Ex2 a b w w := ⟨Nat.le_refl _, fun _ _ _ _ => rfl⟩
theorem Ex2.trans {a b : Nat} {w w1 w2 : World} (h : Ex2 a b w w1) (k : Ex2 a b w1 w2) : Ex2 a b w w2 :=
  ⟨Nat.le_trans h.size k.size, fun c hc h1 h2 => (k.block c (Nat.lt_of_lt_of_le hc h.size) h1 h2).trans (h.block c hc h1 h2)⟩
theorem Ex2.of {a b : Nat} {w w' : World} (h : Below w.heap.size w w') : Ex2 a b w w' := ⟨h.size, fun c hc _ _ => h.block c hc⟩
theorem Ex2.seta {a b : Nat} {w w1 : World} (h : Ex2 a b w w1) (o : Nat) (v : Value) : Ex2 a b w (w1.setCell ⟨a, o, none⟩ v) := by
  refine h.trans ⟨((Below.refl 0 w1).setCell (p := ⟨a, o, none⟩) (Nat.zero_le _) v).size, fun c _ h1 _ => Below.heap_setCell _ _ _ c h1⟩
theorem Ex2.setb {a b : Nat} {w w1 : World} (h : Ex2 a b w w1) (o : Nat) (v : Value) : Ex2 a b w (w1.setCell ⟨b, o, none⟩ v) := by
  refine h.trans ⟨((Below.refl 0 w1).setCell (p := ⟨b, o, none⟩) (Nat.zero_le _) v).size, fun c _ _ h2 => Below.heap_setCell _ _ _ c h2⟩
/-- A row of one's own in another block. -/
theorem OwI.ex2 {a b lo : Nat} {w w' : World} {v : Value} {xs : List Int} (h : OwI lo w v xs) (k : Ex2 a b w w') (ha : v.ownBlock ≠ some a) (hb : v.ownBlock ≠ some b) : OwI lo w' v xs := by
  obtain ⟨hl, h⟩ := h
  refine ⟨hl, ?_⟩
  rcases h with h | ⟨g, cap, cur, rfl, h0, h1, h2⟩
  · exact .inl h
  · refine .inr ⟨g, cap, cur, rfl, h0, ?_, h2⟩
    refine (k.block g (Array.getElem?_eq_some_iff.1 h1).1 (fun e => ha ?_) (fun e => hb ?_)).trans h1
    · rw [e]; rfl
    · rw [e]; rfl
theorem own_typ {lo b : Nat} {w : World} {v : Value} {xs : List Int} {cs : Array Value} {t : TypeId} (h : OwI lo w v xs) (k : Bk w b cs t) (ht : t ≠ 3) : v.ownBlock ≠ some b := by
  obtain ⟨hl, ⟨rfl, _⟩ | ⟨g, cap, cur, rfl, _, h1, _⟩⟩ := h
  · intro e; cases e
  · intro e
    simp [Value.ownBlock] at e
    subst e
    exact ht (Bk.typ k h1)
/-- The sharing in memory: the tracks, what each has, who takes part, what is left. -/
structure Sh (w0 : World) (T : List Tk) (tv : Value) (pb sb : Nat) (ov : Value) (sz : List Int) (lf : Int) (w : World) : Prop where
  bel : Below w0.heap.size w0 w
  pbk : Bk w pb #[tv, .slice (some ⟨sb, 0, none⟩) T.length T.length, ov, .int .i64 lf] 105
  siz : Nb w sb sz
  len : sz.length = T.length
  lop : w0.heap.size ≤ pb
  los : w0.heap.size ≤ sb
theorem Sh.below {w0 : World} {T : List Tk} {tv : Value} {pb sb : Nat} {ov : Value} {sz : List Int} {lf : Int} {w w' : World} (h : Sh w0 T tv pb sb ov sz lf w) (hb : Below w.heap.size w w') : Sh w0 T tv pb sb ov sz lf w' :=
  ⟨h.bel.trans (hb.mono h.bel.size), h.pbk.below hb, h.siz.below hb, h.len, h.lop, h.los⟩
theorem Sh.ne {w0 : World} {T : List Tk} {tv : Value} {pb sb : Nat} {ov : Value} {sz : List Int} {lf : Int} {w : World} (h : Sh w0 T tv pb sb ov sz lf w) : pb ≠ sb := by
  rintro rfl
  exact absurd (Bk.typ h.pbk h.siz) (by decide)
/-- Something of what is left goes to one. -/
theorem Sh.put {w0 : World} {T : List Tk} {tv : Value} {pb sb : Nat} {ov : Value} {sz : List Int} {lf : Int} {w : World} (h : Sh w0 T tv pb sb ov sz lf w) (i : Nat) (x y : Int) : Sh w0 T tv pb sb ov (sz.set i x) y ((w.setCell ⟨sb, i, none⟩ (.int .i64 x)).setCell ⟨pb, 3, none⟩ (.int .i64 y)) := by
  refine ⟨(h.bel.setCell (p := ⟨sb, i, none⟩) h.los _).setCell (p := ⟨pb, 3, none⟩) h.lop _, ?_, ?_, by simp [h.len], h.lop, h.los⟩
  · exact (h.pbk.other ⟨sb, i, none⟩ _ (fun e => h.ne e.symm)).put 3 _
  · exact (h.siz.put i x).other _ _ h.ne
/-- Another slice of those that take part. -/
theorem Sh.opens {w0 : World} {T : List Tk} {tv : Value} {pb sb : Nat} {ov : Value} {sz : List Int} {lf : Int} {w : World} (h : Sh w0 T tv pb sb ov sz lf w) (u : Value) : Sh w0 T tv pb sb u sz lf (w.setCell ⟨pb, 2, none⟩ u) := by
  refine ⟨h.bel.setCell (p := ⟨pb, 2, none⟩) h.lop _, ?_, h.siz.other _ _ h.ne, h.len, h.lop, h.los⟩
  exact h.pbk.put 2 _
theorem Sh.reads {w0 : World} {T : List Tk} {tv : Value} {pb sb : Nat} {ov : Value} {sz : List Int} {lf : Int} {w : World} (h : Sh w0 T tv pb sb ov sz lf w) : w.cell? ⟨pb, 0, none⟩ = some tv ∧ w.cell? ⟨pb, 1, none⟩ = some (.slice (some ⟨sb, 0, none⟩) T.length T.length) ∧ w.cell? ⟨pb, 2, none⟩ = some ov ∧ w.cell? ⟨pb, 3, none⟩ = some (.int .i64 lf) :=
  ⟨by rw [h.pbk.cell]; rfl, by rw [h.pbk.cell]; rfl, by rw [h.pbk.cell]; rfl, by rw [h.pbk.cell]; rfl⟩
def natI (l : List Nat) : List Int := l.map fun i : Nat => (i : Int)
theorem natI_len (l : List Nat) : (natI l).length = l.length := by simp [natI]
theorem natI_at (l : List Nat) (k : Nat) (h : k < l.length) : (natI l)[k]'(by rw [natI_len]; exact h) = (l[k] : Int) := by simp [natI]

set_option maxRecDepth 10000 in
set_option maxHeartbeats 4000000 in
theorem grow_any (w0 : World) (T : List Tk) (tv : Value) (pb sb : Nat) (ov : Value) (sz : List Int) (lf : Int) (op : List Nat) (w : World) (h : Sh w0 T tv pb sb ov sz lf w) (hT : TS w0 tv T) (hl : T.length ≤ 1024) (hk : ∀ t ∈ T, okT t) (ho : IS w ov (natI op)) (hop : ∀ i ∈ op, i < T.length) (hol : op.length ≤ 1024) :
    Calls Tryz.prog 92 #[.pointer (some ⟨pb, 0, none⟩)] w fun e w' => e = .returned (.int .i64 (grS T op)) ∧ w' = w := by
  obtain ⟨oa, cap, rfl, hc, hg⟩ := hT
  obtain ⟨ob, oc, rfl, hoc, hog⟩ := ho
  obtain ⟨c0, c1, c2, c3⟩ := h.reads
  have HG : Hid (0 < T.length → ∃ g o, oa = some ⟨g, o, none⟩ ∧ g < w0.heap.size ∧ ∀ i (h : i < T.length), TkAt w g (o + i * 3) T[i]) := fun hp => by
    obtain ⟨g, o, e, g1, g2⟩ := hg hp
    exact ⟨g, o, e, g1, fun i hi => (g2 i hi).below h.bel g1⟩
  have HO : Hid (0 < (natI op).length → ∃ g o, ob = some ⟨g, o, none⟩ ∧ g < w.heap.size ∧ ∀ i (h : i < (natI op).length), w.cell? ⟨g, o + i, none⟩ = some (.int .i64 (natI op)[i])) := hog
  have HK : Hid (∀ l, 0 ≤ grS T l ∧ grS T l ≤ l.length * 16384) := grS_bd T hk
  have HP : Hid (∀ i ∈ op, i < T.length) := hop
  have HKt : Hid (∀ t ∈ T, okT t) := hk
  clear hg hog hk hop h
  rw [natI_len] at hoc c2
  obtain ⟨R, HR⟩ : ∃ R : Int, Hid (R = grS T op) := ⟨_, rfl⟩
  rw [← HR.out]
  go_enter Tryz.func92, Tryz.ntmps92
  go_wp2_with fail
  go_loopw [3, 5, 11] (fun s _ i wr => ∃ (k : Nat) (x : Int), k ≤ op.length ∧ i = .int .i64 k ∧ s = .int .i64 x ∧ wr = w ∧ Hid (x = grS T (op.take k))) (fun _ _ i _ => op.length - (intOf i).toNat)
  case atStart => exact ⟨0, 0, Nat.zero_le _, rfl, rfl, rfl, rfl⟩
  case round =>
    obtain ⟨k, x, hk, rfl, rfl, rfl, HI⟩ := hrel
    by_cases hlt : k < op.length
    · have ik : (k : Int) < op.length := by omega
      obtain ⟨og, oo, rfl, _, hoat⟩ := HO.out (by rw [natI_len]; omega)
      have hi := HP.out op[k] (List.getElem_mem hlt)
      obtain ⟨g, o, rfl, hg, hat⟩ := HG.out (by omega)
      have y0 := hoat k (by rw [natI_len]; exact hlt)
      rw [natI_at op k hlt] at y0
      have hbd := HK.out (op.take k)
      have hkt := HKt.out T[op[k]] (List.getElem_mem hi)
      have hbx : 0 ≤ x ∧ x ≤ 16777216 := by
        rw [HI.out]
        have : (op.take k).length ≤ 1024 := by simp; omega
        omega
      have HN : Hid (x + T[op[k]].gr = grS T (op.take (k + 1))) := by unfold Hid; rw [← List.take_append_getElem hlt, grS_snoc, HI.out, tk_at hi]
      obtain ⟨x0, x1, x2⟩ := hat op[k] hi
      obtain ⟨_, _, _, o4, o5⟩ := hkt
      have ii : (op[k] : Int) < T.length := by omega
      clear hat HI hbd hoat
      generalize T[op[k]] = q at *
      generalize op[k] = i at *
      have hw : IntKind.i64.wrap (x + q.gr) = x + q.gr := by rw [IntKind.wrap_i64]; omega
      go_wp2
      exact ⟨⟨k + 1, x + q.gr, by omega, by go_num, rfl, trivial, HN⟩, by simp [intOf]; omega⟩
    · obtain rfl : k = op.length := by omega
      have HF : Hid (x = R) := by unfold Hid; rw [HI.out, HR.out, List.take_length]
      clear HI
      go_wp2
      go_ret
      exact ⟨by rw [HF.out]; rfl, rfl⟩

/-- What the function that fills knows besides. -/
structure Fi (pb sb bs bl bg : Nat) (left g : Int) (w : World) : Prop where
  sp : Bk w bs #[.pointer (some ⟨pb, 0, none⟩)] 112
  lp : Bk w bl #[.int .i64 left] 3
  gp : Bk w bg #[.int .i64 g] 3
  nl : bl ≠ sb
  ng : bg ≠ sb
  np : pb ≠ bs ∧ pb ≠ bl ∧ pb ≠ bg
theorem Fi.below {pb sb bs bl bg : Nat} {left g : Int} {w w' : World} (h : Fi pb sb bs bl bg left g w) (hb : Below w.heap.size w w') : Fi pb sb bs bl bg left g w' :=
  ⟨h.sp.below hb, h.lp.below hb, h.gp.below hb, h.nl, h.ng, h.np⟩
theorem Fi.ex2 {pb sb bs bl bg : Nat} {left g : Int} {w w' : World} (h : Fi pb sb bs bl bg left g w) (hn : bs ≠ sb) (k : Ex2 sb pb w w') : Fi pb sb bs bl bg left g w' :=
  ⟨(k.block bs h.sp.lt hn (fun e => h.np.1 e.symm)).trans h.sp, (k.block bl h.lp.lt h.nl (fun e => h.np.2.1 e.symm)).trans h.lp, (k.block bg h.gp.lt h.ng (fun e => h.np.2.2 e.symm)).trans h.gp, h.nl, h.ng, h.np⟩

set_option maxRecDepth 10000 in
set_option maxHeartbeats 4000000 in
theorem fill1_any (w0 : World) (T : List Tk) (tv : Value) (pb sb : Nat) (ov : Value) (sz : List Int) (lf : Int) (bs bl bg : Nat) (left g : Int) (i : Nat) (w : World) (h : Sh w0 T tv pb sb ov sz lf w) (hf : Fi pb sb bs bl bg left g w) (hT : TS w0 tv T) (hi : i < T.length) (hk : okT T[i]) (hl : 0 ≤ left ∧ left ≤ 32768) (hg : 0 ≤ g ∧ g ≤ 16777216) (hs : 0 ≤ sz.getD i 0 ∧ sz.getD i 0 ≤ 16384) (hlf : -16777216 ≤ lf ∧ lf ≤ 32768) :
    Calls Tryz.prog 94 #[.int .i64 i, .pointer (some ⟨bs, 0, none⟩), .pointer (some ⟨bl, 0, none⟩), .pointer (some ⟨bg, 0, none⟩)] w fun e w' => e = .returned (.bool (fuT left g T[i])) ∧ Hid (Sh w0 T tv pb sb ov (sz.set i (sz.getD i 0 + hFi left g T[i] 0)) (lf - hFi left g T[i] 0) w' ∧ Ex2 sb pb w w') := by
  obtain ⟨oa, cap, rfl, hc, hgg⟩ := hT
  obtain ⟨tg, to, rfl, htg, hat⟩ := hgg (by omega)
  obtain ⟨x0, x1, x2⟩ := (hat i hi).below h.bel htg
  obtain ⟨c0, c1, c2, c3⟩ := h.reads
  have hil : i < sz.length := by rw [h.len]; exact hi
  have y0 : w.cell? ⟨sb, i, none⟩ = some (.int .i64 (sz.getD i 0)) := by rw [getD_at hil]; exact h.siz.at i hil
  have s0 : w.cell? ⟨bs, 0, none⟩ = some (.pointer (some ⟨pb, 0, none⟩)) := by rw [hf.sp.cell]; rfl
  have l0 : w.cell? ⟨bl, 0, none⟩ = some (.int .i64 left) := by rw [hf.lp.cell]; rfl
  have g0 : w.cell? ⟨bg, 0, none⟩ = some (.int .i64 g) := by rw [hf.gp.cell]; rfl
  have HL : Hid (∀ W, Calls Tryz.prog 95 #[.agg #[.int .i64 T[i].mn, .int .i64 T[i].mx, .int .i64 T[i].gr]] W fun e w' => e = .returned (.tuple #[.int .i64 (if T[i].mx = 0 then 0 else T[i].mx - T[i].mn), .bool (!(T[i].mx == 0))]) ∧ Below W.heap.size W w') := fun W => lacks_any _ hk W
  have HS : Hid (Sh w0 T (.slice (some ⟨tg, to, none⟩) T.length cap) pb sb ov sz lf w) := h
  have HF : Hid (Fi pb sb bs bl bg left g w) := hf
  have HZ : Hid (sz.set i (sz.getD i 0 + 0) = sz) := set_self hil
  obtain ⟨k1, k2, k3, k4, k5⟩ := hk
  have ii : (i : Int) < T.length := by omega
  have ltg : tg < w.heap.size := Nat.lt_of_lt_of_le htg h.bel.size
  have lsb := h.siz.lt
  have lpb := h.pbk.lt
  have lbs := hf.sp.lt
  have lbl := hf.lp.lt
  have lbg := hf.gp.lt
  have npt : ¬ pb = tg := fun e => by have := h.lop; omega
  have nst : ¬ sb = tg := fun e => by have := h.los; omega
  have nps : ¬ pb = sb := h.ne
  have nsp : ¬ sb = pb := fun e => h.ne e.symm
  clear hat hgg h hf
  generalize hq : T[i] = q at *
  obtain ⟨R, HR⟩ : ∃ R, Hid (R = fuT left g q) := ⟨_, rfl⟩
  rw [← HR.out]
  generalize hzz : sz.getD i 0 = z at *
  have Hzz : Hid (sz.getD i 0 = z) := hzz
  clear hzz
  have hb1 := mul_bd hl.1 hl.2 k4 k5
  have hw1 : IntKind.i64.wrap (left * q.gr) = left * q.gr := by rw [IntKind.wrap_i64]; omega
  cases hm : (q.mx == 0)
  · have hm' : Hid (q.mx ≠ 0) := by unfold Hid; simpa using hm
    have HL2 : Hid (∀ W, Calls Tryz.prog 95 #[.agg #[.int .i64 q.mn, .int .i64 q.mx, .int .i64 q.gr]] W fun e w' => e = .returned (.tuple #[.int .i64 (q.mx - q.mn), .bool true]) ∧ Below W.heap.size W w') := by
      have := HL.out
      rw [if_neg hm'.out, hm] at this
      exact this
    obtain ⟨d, Hd⟩ : ∃ d, Hid (d = q.mx - q.mn) := ⟨_, rfl⟩
    rw [← Hd.out] at HL2
    have hd : 0 ≤ d ∧ d ≤ 16384 := by have := Hd.out; have := hm'.out; omega
    have hb2 := mul_bd hg.1 hg.2 hd.1 hd.2
    have hw2 : IntKind.i64.wrap (g * d) = g * d := by rw [IntKind.wrap_i64]; omega
    have hw3 : IntKind.i64.wrap (z + d) = z + d := by rw [IntKind.wrap_i64]; omega
    have hw4 : IntKind.i64.wrap (lf - d) = lf - d := by rw [IntKind.wrap_i64]; omega
    clear HL k3
    by_cases hfu : left * q.gr < g * d
    · have hR : Hid (R = false ∧ hFi left g q 0 = 0) := by
        have e : fuT left g q = false := by
          unfold fuT
          rw [hm, ← Hd.out]
          simp
          omega
        refine ⟨by rw [HR.out, e], ?_⟩
        unfold hFi
        rw [e]
        rfl
      clear HR
      go_enter Tryz.func94, Tryz.ntmps94
      go_wp2_with fail
      refine (HL2.out _).mono ?_
      rintro e w1 ⟨rfl, hb⟩
      have HX : Hid (Below w.heap.size w w1) := ((Below.refl _ w).alloc (Nat.le_refl _) _).trans (hb.mono (by simp))
      have t0 : w1.cell? ⟨w.heap.size, 2, none⟩ = some (.int .i64 q.gr) := (hb.cell (p := ⟨w.heap.size, 2, none⟩) (by simp)).trans (by rw [(Bk.new w #[.int .i64 q.mn, .int .i64 q.mx, .int .i64 q.gr] 96).cell]; rfl)
      have l1 : w1.cell? ⟨bl, 0, none⟩ = some (.int .i64 left) := (HX.out.cell (p := ⟨bl, 0, none⟩) lbl).trans l0
      have g1 : w1.cell? ⟨bg, 0, none⟩ = some (.int .i64 g) := (HX.out.cell (p := ⟨bg, 0, none⟩) lbg).trans g0
      clear hb x0 x1 x2 c0 c1 c2 c3 y0 s0 l0 g0
      go_wp2
      go_ret
      exact ⟨by rw [hR.out.1]; rfl, by rw [hR.out.2, HZ.out, Int.sub_zero]; exact ⟨HS.out.below HX.out, Ex2.of HX.out⟩⟩
    · have hR : Hid (R = true ∧ hFi left g q 0 = d) := by
        have e : fuT left g q = true := by
          unfold fuT
          rw [hm, ← Hd.out]
          simp
          omega
        refine ⟨by rw [HR.out, e], ?_⟩
        unfold hFi
        rw [e, Hd.out]
        rfl
      clear HR
      go_enter Tryz.func94, Tryz.ntmps94
      go_wp2_with fail
      refine (HL2.out _).mono ?_
      rintro e w1 ⟨rfl, hb⟩
      have HX : Hid (Below w.heap.size w w1) := ((Below.refl _ w).alloc (Nat.le_refl _) _).trans (hb.mono (by simp))
      have t0 : w1.cell? ⟨w.heap.size, 2, none⟩ = some (.int .i64 q.gr) := (hb.cell (p := ⟨w.heap.size, 2, none⟩) (by simp)).trans (by rw [(Bk.new w #[.int .i64 q.mn, .int .i64 q.mx, .int .i64 q.gr] 96).cell]; rfl)
      have l1 : w1.cell? ⟨bl, 0, none⟩ = some (.int .i64 left) := (HX.out.cell (p := ⟨bl, 0, none⟩) lbl).trans l0
      have g1 : w1.cell? ⟨bg, 0, none⟩ = some (.int .i64 g) := (HX.out.cell (p := ⟨bg, 0, none⟩) lbg).trans g0
      have s1 : w1.cell? ⟨bs, 0, none⟩ = some (.pointer (some ⟨pb, 0, none⟩)) := (HX.out.cell (p := ⟨bs, 0, none⟩) lbs).trans s0
      have y1 : w1.cell? ⟨sb, i, none⟩ = some (.int .i64 z) := (HX.out.cell (p := ⟨sb, i, none⟩) lsb).trans y0
      have d1 : w1.cell? ⟨pb, 1, none⟩ = some (.slice (some ⟨sb, 0, none⟩) T.length T.length) := (HX.out.cell (p := ⟨pb, 1, none⟩) lpb).trans c1
      have d3 : w1.cell? ⟨pb, 3, none⟩ = some (.int .i64 lf) := (HX.out.cell (p := ⟨pb, 3, none⟩) lpb).trans c3
      have HS1 : Hid (Sh w0 T (.slice (some ⟨tg, to, none⟩) T.length cap) pb sb ov sz lf w1) := HS.out.below HX.out
      have f0 := HS1.out.siz.frozen i
      have f1 := HS1.out.pbk.frozen 3
      have nbs : ¬ bs = sb := fun e => by
        have a := HF.out.sp
        rw [e] at a
        exact absurd (Bk.typ a HS.out.siz) (by decide)
      have nsb : ¬ sb = bs := fun e => nbs e.symm
      have HN : Hid (Sh w0 T (.slice (some ⟨tg, to, none⟩) T.length cap) pb sb ov (sz.set i (z + d)) (lf - d) ((w1.setCell ⟨sb, i, none⟩ (.int .i64 (z + d))).setCell ⟨pb, 3, none⟩ (.int .i64 (lf - d)))) := HS1.out.put i _ _
      have HE : Hid (Ex2 sb pb w ((w1.setCell ⟨sb, i, none⟩ (.int .i64 (z + d))).setCell ⟨pb, 3, none⟩ (.int .i64 (lf - d)))) := ((Ex2.of HX.out).seta i _).setb 3 _
      clear hb x0 x1 x2 c0 c1 c2 c3 y0 s0 l0 g0
      go_wp2
      go_ret
      exact ⟨by rw [hR.out.1]; rfl, by rw [hR.out.2]; exact ⟨HN.out, HE.out⟩⟩
  · have hR : Hid (R = false ∧ hFi left g q 0 = 0) := by
      have e : fuT left g q = false := by
        unfold fuT
        rw [hm]
        rfl
      refine ⟨by rw [HR.out, e], ?_⟩
      unfold hFi
      rw [e]
      rfl
    have HL2 : Hid (∀ W, Calls Tryz.prog 95 #[.agg #[.int .i64 q.mn, .int .i64 q.mx, .int .i64 q.gr]] W fun e w' => e = .returned (.tuple #[.int .i64 0, .bool false]) ∧ Below W.heap.size W w') := by
      have := HL.out
      have e : q.mx = 0 := by simpa using hm
      rw [if_pos e, hm] at this
      exact this
    clear HL k3 HR hm
    go_enter Tryz.func94, Tryz.ntmps94
    go_wp2_with fail
    refine (HL2.out _).mono ?_
    rintro e w1 ⟨rfl, hb⟩
    have HX : Hid (Below w.heap.size w w1) := ((Below.refl _ w).alloc (Nat.le_refl _) _).trans (hb.mono (by simp))
    clear hb x0 x1 x2 c0 c1 c2 c3 y0 s0 l0 g0
    go_wp2
    go_ret
    exact ⟨by rw [hR.out.1]; rfl, by rw [hR.out.2, HZ.out, Int.sub_zero]; exact ⟨HS.out.below HX.out, Ex2.of HX.out⟩⟩

end Go.Proofs.YthnhcphkpffkfaaGreat
