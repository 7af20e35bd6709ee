/-
  The document's sharing, loop by loop, in plain lists; rows of its own; lacks, full.
-/
import Derived.Test.YthnhcphkpffkfaaGreatXJ
namespace Go.Proofs.YthnhcphkpffkfaaGreat
open Go.RowKit

theorem gsum_snoc : ∀ (l : List Ce) (c : Ce), gsum (l ++ [c]) = gsum l + if c.p = true then c.t.gr else 0
  | [], c => by simp [gsum]
  | d :: l, c => by rw [List.cons_append, gsum, gsum_snoc l c, gsum]; omega
theorem les_snoc (left g : Int) : ∀ (l : List Ce) (c : Ce), lesS left g (l ++ [c]) = lesS left g l + if fulB left g c = true then lak c.t else 0
  | [], c => by simp [lesS]
  | d :: l, c => by rw [List.cons_append, lesS, les_snoc left g l c, lesS]; omega
theorem flr_snoc (left g : Int) : ∀ (l : List Ce) (c : Ce), flrS left g (l ++ [c]) = flrS left g l + if c.p = true then (left * c.t.gr) / g else 0
  | [], c => by simp [flrS]
  | d :: l, c => by rw [List.cons_append, flrS, flr_snoc left g l c, flrS]; omega
/-- One each to the first. -/
def onE : Int → List Ce → List Ce
  | _, [] => []
  | ov, c :: l => if c.p = true ∧ 0 < ov then ⟨c.t, c.p, c.o + 1⟩ :: onE (ov - 1) l else c :: onE ov l
def ovR : Int → List Ce → Int
  | ov, [] => ov
  | ov, c :: l => if c.p = true ∧ 0 < ov then ovR (ov - 1) l else ovR ov l
theorem onE_snoc : ∀ (l : List Ce) (ov : Int) (c : Ce), onE ov (l ++ [c]) = onE ov l ++ [if c.p = true ∧ 0 < ovR ov l then ⟨c.t, c.p, c.o + 1⟩ else c] ∧ ovR ov (l ++ [c]) = ovR ov l - if c.p = true ∧ 0 < ovR ov l then 1 else 0
  | [], ov, c => by
    by_cases h1 : c.p = true <;> by_cases h2 : 0 < ov <;> simp [onE, ovR, h1, h2]
  | d :: l, ov, c => by
    simp only [List.cons_append, onE, ovR]
    split
    · have := onE_snoc l (ov - 1) c
      rw [this.1, this.2]
      exact ⟨rfl, rfl⟩
    · have := onE_snoc l ov c
      rw [this.1, this.2]
      exact ⟨rfl, rfl⟩
theorem onE_none : ∀ (L : List Ce) (ov : Int), ov ≤ 0 → onE ov L = L
  | [], _, _ => rfl
  | c :: l, ov, h => by rw [onE, if_neg (by omega), onE_none l ov h]
theorem sprd_none (left g : Int) : ∀ (L : List Ce) (ov : Int), ov ≤ 0 → (sprd left g ov L).map (·.o) = (L.map (ad1 left g)).map (·.o)
  | [], _, _ => rfl
  | c :: l, ov, h => by
    rw [sprd, List.map_cons, List.map_cons]
    unfold ad1
    split
    · rw [List.map_cons, sprd_none left g l (ov - 1) (by omega), if_neg (by omega)]
      simp [ad1]
    · rw [List.map_cons, sprd_none left g l ov h]
      simp [ad1]
theorem onE_sprd (left g : Int) : ∀ (L : List Ce) (ov : Int), (onE ov (L.map (ad1 left g))).map (·.o) = (sprd left g ov L).map (·.o)
  | [], _ => rfl
  | c :: l, ov => by
    by_cases h : 0 < ov
    · rw [List.map_cons, onE, sprd]
      have ep : (ad1 left g c).p = c.p := by unfold ad1; split <;> rfl
      rw [ep]
      by_cases hp : c.p = true
      · rw [if_pos ⟨hp, h⟩, if_pos hp, List.map_cons, List.map_cons, onE_sprd left g l, if_pos h]
        have e : (ad1 left g c).o = c.o + (left * c.t.gr) / g := by unfold ad1; rw [if_pos hp]
        simp only [e]
      · rw [if_neg (fun k => hp k.1), if_neg hp, List.map_cons, List.map_cons, onE_sprd left g l]
        have e : ad1 left g c = c := by unfold ad1; rw [if_neg hp]
        rw [e]
    · rw [onE_none _ _ (by omega), sprd_none left g _ _ (by omega)]
theorem onE_len : ∀ (L : List Ce) (ov : Int), (onE ov L).length = L.length
  | [], _ => rfl
  | c :: l, ov => by rw [onE]; split <;> rw [List.length_cons, List.length_cons, onE_len l]
theorem ovR_bd : ∀ (L : List Ce) (ov : Int), ov - L.length ≤ ovR ov L ∧ ovR ov L ≤ ov
  | [], ov => by rw [ovR]; simp
  | c :: l, ov => by
    rw [ovR, List.length_cons]
    split
    · have := ovR_bd l (ov - 1); omega
    · have := ovR_bd l ov; omega
/-- Flags, cell by cell. -/
def flatP (ps : List Bool) : List Value := ps.map fun b => .bool b
theorem flatP_len (ps : List Bool) : (flatP ps).length = ps.length := by simp [flatP]
theorem flatP_at (ps : List Bool) (k : Nat) (h : k < ps.length) : (flatP ps)[k]? = some (.bool ps[k]) := by simp [flatP, h]
def OwP (lo : Nat) (w : World) (v : Value) (ps : List Bool) : Prop := w.ownsRow lo 4 1 v ps.length (flatP ps)
theorem OwP.nil (lo : Nat) (w : World) : OwP lo w (.slice none 0 0) [] := World.ownsRow_nil _ _ _ _
theorem OwP.below {lo : Nat} {w w' : World} {v : Value} {ps : List Bool} (h : OwP lo w v ps) (hb : Below w.heap.size w w') : OwP lo w' v ps := row_below h hb
theorem info_bool : (Tryz.prog.info? 4).map (fun i => (i.zero, i.size, i.bytes)) = some (some (.bool false), 1, 1) := by kernel_rfl
theorem oneP (b : Bool) : ∀ u ∈ [Value.bool b], u.oneCell' = true := by
  intro u hu
  simp at hu
  subst hu
  rfl
/-- The document's two rows. -/
structure Dr (w0 : World) (ov pv : Value) (L : List Ce) (w : World) : Prop where
  bel : Below w0.heap.size w0 w
  oo : OwI w0.heap.size w ov (L.map (·.o))
  pp : OwP w0.heap.size w pv (L.map (·.p))
theorem Dr.below {w0 : World} {ov pv : Value} {L : List Ce} {w w' : World} (h : Dr w0 ov pv L w) (hb : Below w.heap.size w w') : Dr w0 ov pv L w' :=
  ⟨h.bel.trans (hb.mono h.bel.size), h.oo.below hb, h.pp.below hb⟩
theorem blk_ne {w : World} {base g h : Nat} {e1 e2 : TypeId} {n m c d : Nat} {xs ys : List Value} (h1 : w.ownsRow base e1 1 (.slice (some ⟨g, 0, none⟩) n c) n xs) (h2 : w.ownsRow base e2 1 (.slice (some ⟨h, 0, none⟩) m d) m ys) (he : e1 ≠ e2) : g ≠ h := by
  rintro rfl
  obtain ⟨_, ⟨q, _⟩ | ⟨g1, _, cur1, q1, _, c1, _⟩⟩ := h1
  · cases q
  obtain ⟨_, ⟨q, _⟩ | ⟨g2, _, cur2, q2, _, c2, _⟩⟩ := h2
  · cases q
  injection q1 with q1 _ _
  injection q1 with q1
  injection q1 with q1 _ _
  injection q2 with q2 _ _
  injection q2 with q2
  injection q2 with q2 _ _
  subst q1 q2
  rw [c1] at c2
  injection c2 with c2
  injection c2 with _ c2
  exact he c2
theorem Dr.at {w0 : World} {oa pa : Option Addr} {n co cp : Nat} {L : List Ce} {w : World} (h : Dr w0 (.slice oa n co) (.slice pa n cp) L w) (hn : L.length = n) {k : Nat} (hk : k < L.length) :
    ∃ go gp, oa = some ⟨go, 0, none⟩ ∧ pa = some ⟨gp, 0, none⟩ ∧ w.cell? ⟨go, k, none⟩ = some (.int .i64 L[k].o) ∧ w.cell? ⟨gp, k, none⟩ = some (.bool L[k].p) ∧ w.frozen? ⟨go, k, none⟩ = false ∧ w.frozen? ⟨gp, k, none⟩ = false ∧ go ≠ gp ∧ w0.heap.size ≤ go ∧ w0.heap.size ≤ gp ∧ go < w.heap.size ∧ gp < w.heap.size := by
  subst hn
  have h1 : w.ownsRow w0.heap.size 3 1 (.slice oa L.length co) L.length (flatI (L.map (·.o))) := by have := h.oo; unfold OwI at this; rwa [List.length_map] at this
  have h2 : w.ownsRow w0.heap.size 4 1 (.slice pa L.length cp) L.length (flatP (L.map (·.p))) := by have := h.pp; unfold OwP at this; rwa [List.length_map] at this
  obtain ⟨_, _, e1, _, k1⟩ := row_val h1
  obtain ⟨g1, e2, l1, l2⟩ := k1 (by omega)
  injection e1 with e1 _ _
  subst e2
  subst e1
  obtain ⟨_, _, e1, _, k2⟩ := row_val h2
  obtain ⟨g2, e2, l3, l4⟩ := k2 (by omega)
  injection e1 with e1 _ _
  subst e2
  subst e1
  refine ⟨g1, g2, rfl, rfl, ?_, ?_, own_frozen h1 k, own_frozen h2 k, blk_ne h1 h2 (by decide), l1, l3, l2, l4⟩
  · rw [own_cell h1 k (by omega), flatI_at _ _ (by simpa using hk), List.getElem_map]
  · rw [own_cell h2 k (by omega), flatP_at _ _ (by simpa using hk), List.getElem_map]
theorem own_o {w0 : World} {g co n : Nat} {L : List Ce} {w : World} (h : OwI w0.heap.size w (.slice (some ⟨g, 0, none⟩) n co) (L.map (·.o))) (hn : L.length = n) (k : Nat) (c : Ce) : OwI w0.heap.size (w.setCell ⟨g, k, none⟩ (.int .i64 c.o)) (.slice (some ⟨g, 0, none⟩) n co) ((L.set k c).map (·.o)) := by
  subst hn
  unfold OwI at h ⊢
  rw [List.length_map] at h ⊢
  rw [List.length_set, List.map_set, flatI_set]
  exact own_set h k _
theorem own_p {w0 : World} {g co n : Nat} {L : List Ce} {w : World} (h : OwP w0.heap.size w (.slice (some ⟨g, 0, none⟩) n co) (L.map (·.p))) (hn : L.length = n) (k : Nat) (c : Ce) : OwP w0.heap.size (w.setCell ⟨g, k, none⟩ (.bool c.p)) (.slice (some ⟨g, 0, none⟩) n co) ((L.set k c).map (·.p)) := by
  subst hn
  unfold OwP at h ⊢
  rw [List.length_map] at h ⊢
  rw [List.length_set, List.map_set]
  have e : flatP ((L.map (·.p)).set k c.p) = (flatP (L.map (·.p))).set k (.bool c.p) := by unfold flatP; rw [List.map_set]
  rw [e]
  exact own_set h k _
theorem own_other {w : World} {base g b n cap : Nat} {e : TypeId} {xs : List Value} (h : w.ownsRow base e 1 (.slice (some ⟨g, 0, none⟩) n cap) n xs) (o : Nat) (v : Value) (hne : b ≠ g) : (w.setCell ⟨b, o, none⟩ v).ownsRow base e 1 (.slice (some ⟨g, 0, none⟩) n cap) n xs := by
  obtain ⟨hl, ⟨h, q⟩ | ⟨g1, cap1, cur, h, hb, hc, h1⟩⟩ := h
  · cases h
  · refine ⟨hl, .inr ⟨g1, cap1, cur, h, hb, ?_, h1⟩⟩
    injection h with q1 _ _
    injection q1 with q1
    injection q1 with q1 _ _
    subst q1
    exact (Below.heap_setCell _ _ _ g (fun e => hne e.symm)).trans hc
/-- What one has, and whether it takes part, anew. -/
theorem Dr.put {w0 : World} {go gp n co cp : Nat} {L : List Ce} {w : World} (h : Dr w0 (.slice (some ⟨go, 0, none⟩) n co) (.slice (some ⟨gp, 0, none⟩) n cp) L w) (hn : L.length = n) (hne : go ≠ gp) (l1 : w0.heap.size ≤ go) (l2 : w0.heap.size ≤ gp) (k : Nat) (c : Ce) :
    Dr w0 (.slice (some ⟨go, 0, none⟩) n co) (.slice (some ⟨gp, 0, none⟩) n cp) (L.set k c) ((w.setCell ⟨go, k, none⟩ (.int .i64 c.o)).setCell ⟨gp, k, none⟩ (.bool c.p)) := by
  refine ⟨(h.bel.setCell (p := ⟨go, k, none⟩) l1 _).setCell (p := ⟨gp, k, none⟩) l2 _, ?_, ?_⟩
  · have := own_o h.oo hn k c
    unfold OwI at this ⊢
    rw [List.length_map, List.length_set, hn] at this ⊢
    exact own_other this k _ (fun e => hne e.symm)
  · refine own_p ?_ hn k c
    have := h.pp
    unfold OwP at this ⊢
    rw [List.length_map, hn] at this ⊢
    exact own_other this k _ hne
theorem Dr.putO {w0 : World} {go gp n co cp : Nat} {L : List Ce} {w : World} (h : Dr w0 (.slice (some ⟨go, 0, none⟩) n co) (.slice (some ⟨gp, 0, none⟩) n cp) L w) (hn : L.length = n) (hne : go ≠ gp) (l1 : w0.heap.size ≤ go) (k : Nat) (hk : k < L.length) (c : Ce) (hp : c.p = L[k].p) :
    Dr w0 (.slice (some ⟨go, 0, none⟩) n co) (.slice (some ⟨gp, 0, none⟩) n cp) (L.set k c) (w.setCell ⟨go, k, none⟩ (.int .i64 c.o)) := by
  refine ⟨h.bel.setCell (p := ⟨go, k, none⟩) l1 _, own_o h.oo hn k c, ?_⟩
  have e : (L.set k c).map (·.p) = L.map (·.p) := by
    rw [List.map_set, hp]
    have : L[k].p = (L.map (·.p))[k]'(by simpa using hk) := by rw [List.getElem_map]
    rw [this, List.set_getElem_self]
  rw [e]
  have := h.pp
  unfold OwP at this ⊢
  rw [List.length_map, hn] at this ⊢
  exact own_other this k _ hne
/-- A row that is gone through: the first ones done, the rest as it was. -/
theorem set_mid {f : Ce → Ce} {L : List Ce} {k : Nat} (h : k < L.length) : ((L.take k).map f ++ L.drop k).set k (f L[k]) = (L.take (k + 1)).map f ++ L.drop (k + 1) := by
  have hl : ((L.take k).map f).length = k := by simp; omega
  rw [List.set_append_right _ _ (by omega), hl, Nat.sub_self, List.drop_eq_getElem_cons h, List.set_cons_zero, ← List.take_append_getElem h, List.map_append, List.append_assoc]
  rfl
theorem mid_len {f : Ce → Ce} {L : List Ce} {k : Nat} (h : k ≤ L.length) : ((L.take k).map f ++ L.drop k).length = L.length := by simp; omega
theorem mid_at {f : Ce → Ce} {L : List Ce} {k : Nat} (h : k < L.length) : ((L.take k).map f ++ L.drop k)[k]'(by rw [mid_len (by omega)]; exact h) = L[k] := by
  have hl : ((L.take k).map f).length = k := by simp; omega
  rw [List.getElem_append_right (by omega)]
  simp only [hl, Nat.sub_self, List.getElem_drop, Nat.add_zero]
theorem any_snoc (left g : Int) (l : List Ce) (c : Ce) : (l ++ [c]).any (fulB left g) = (l.any (fulB left g) || fulB left g c) := by simp [List.any_append]
def fuR (left g : Int) (t : Tk) : Bool := decide (0 ≤ lak t) && decide (g * lak t ≤ left * t.gr)

set_option maxHeartbeats 1000000 in
theorem rlacks_any (t : Tk) (h : okT t) (w : World) : Calls Tryz.prog 87 #[.agg #[.int .i64 t.mn, .int .i64 t.mx, .int .i64 t.gr]] w fun e w' => e = .returned (.int .i64 (lak t)) ∧ Below w.heap.size w w' := by
  have HL : Hid (Below w.heap.size w (w.alloc (.cells #[.int .i64 t.mn, .int .i64 t.mx, .int .i64 t.gr] 96))) := (Below.refl _ _).alloc (Nat.le_refl _) _
  obtain ⟨h1, h2, h3, _, _⟩ := h
  unfold lak
  obtain ⟨a, b, c⟩ := t
  simp only at h1 h2 h3 HL ⊢
  cases h4 : (b == 0)
  · have hb : b ≠ 0 := by simpa using h4
    have hs : IntKind.i64.wrap (b - a) = b - a := by rw [IntKind.wrap_i64]; omega
    rw [if_neg hb]
    clear hb h3
    go_enter Tryz.func87, Tryz.ntmps87
    go_wp2
    go_ret
    exact ⟨rfl, HL.out⟩
  · have hb : b = 0 := by simpa using h4
    rw [if_pos hb]
    clear h3 hb
    go_enter Tryz.func87, Tryz.ntmps87
    go_wp2
    go_ret
    exact ⟨rfl, HL.out⟩

set_option maxRecDepth 10000 in
set_option maxHeartbeats 4000000 in
theorem rfull_any (t : Tk) (left g : Int) (h : okT t) (hl : 0 ≤ left ∧ left ≤ 32768) (hg : 0 ≤ g ∧ g ≤ 16777216) (w : World) : Calls Tryz.prog 86 #[.agg #[.int .i64 t.mn, .int .i64 t.mx, .int .i64 t.gr], .int .i64 left, .int .i64 g] w fun e w' => e = .returned (.bool (fuR left g t)) ∧ Below w.heap.size w w' := by
  have HC : Hid (∀ W, Calls Tryz.prog 87 #[.agg #[.int .i64 t.mn, .int .i64 t.mx, .int .i64 t.gr]] W fun e w' => e = .returned (.int .i64 (lak t)) ∧ Below W.heap.size W w') := fun W => rlacks_any t h W
  have hlb : -1 ≤ lak t ∧ lak t ≤ 16384 := by
    obtain ⟨h1, h2, h3, _, _⟩ := h
    unfold lak
    split <;> omega
  obtain ⟨_, _, _, k4, k5⟩ := h
  have hb1 := mul_bd hl.1 hl.2 k4 k5
  have hw1 : IntKind.i64.wrap (left * t.gr) = left * t.gr := by rw [IntKind.wrap_i64]; omega
  obtain ⟨R, HR⟩ : ∃ R, Hid (R = fuR left g t) := ⟨_, rfl⟩
  rw [← HR.out]
  obtain ⟨W1, HW1⟩ : ∃ W1, Hid (W1 = w.alloc (.cells #[.int .i64 t.mn, .int .i64 t.mx, .int .i64 t.gr] 96)) := ⟨_, rfl⟩
  have HB1 : Hid (Below w.heap.size w W1 ∧ Bk W1 w.heap.size #[.int .i64 t.mn, .int .i64 t.mx, .int .i64 t.gr] 96) := by
    unfold Hid
    rw [HW1.out]
    exact ⟨(Below.refl _ _).alloc (Nat.le_refl _) _, Bk.new _ _ _⟩
  obtain ⟨b, Hb⟩ : ∃ b, Hid (b = w.heap.size) := ⟨_, rfl⟩
  have HBk : Hid (Bk W1 b #[.int .i64 t.mn, .int .i64 t.mx, .int .i64 t.gr] 96) := by rw [Hb.out]; exact HB1.out.2
  generalize hlk : lak t = lk at *
  have Hlk : Hid (lak t = lk) := hlk
  clear hlk
  by_cases c : 0 ≤ lk
  · have hb2 := mul_bd hg.1 hg.2 c hlb.2
    have hw2 : IntKind.i64.wrap (g * lk) = g * lk := by rw [IntKind.wrap_i64]; omega
    have hR : Hid (R = decide (g * lk ≤ left * t.gr)) := by
      unfold Hid
      rw [HR.out]
      unfold fuR
      rw [Hlk.out, decide_eq_true c]
      rfl
    clear HR Hlk
    go_enter Tryz.func86, Tryz.ntmps86
    go_upto_region 1 with fail
    rw [← HW1.out, ← Hb.out]
    refine R4.wp_region_lit 15 0 0 (fun _ _ => undef) (fun _ => .cells #[] 0) [] (by kernel_rfl) (by kernel_rfl) rfl (fun k hk => absurd hk (by omega)) rfl ?_
    apply Exists.intro
    refine ⟨fun bs ne => ?_, fun i h1 h2 => absurd h2 (by omega), ?_⟩
    · have q0 := fun x : Gb W1 bs => ((HBk.out.below x.below).at3).1
      have q1 := fun x : Gb W1 bs => ((HBk.out.below x.below).at3).2.1
      have q2 := fun x : Gb W1 bs => ((HBk.out.below x.below).at3).2.2
      have d1 : decide (0 ≤ lk) = true := decide_eq_true c
      simp only [List.take_succ_cons, List.take_zero]
      repeat (go_big_quiet_step (first
        | (go_at_call 87; exact gb_call (HC.out _))))
      exact wpQuiet_nil rfl
    · intro bl wx hbl _ _
      simp only [R4.layL]
      have HF : Hid (Below w.heap.size w wx) := HB1.out.1.trans (hbl.mono HB1.out.1.size)
      clear hbl
      refine wpAny_done (by kernel_rfl) ?_ _
      go_wp2
      go_ret
      exact ⟨by rw [hR.out]; rfl, HF.out⟩
  · have hR : Hid (R = false) := by
      unfold Hid
      rw [HR.out]
      unfold fuR
      rw [Hlk.out, decide_eq_false c]
      rfl
    clear HR Hlk
    go_enter Tryz.func86, Tryz.ntmps86
    go_upto_region 1 with fail
    rw [← HW1.out, ← Hb.out]
    refine R4.wp_region_lit 15 0 0 (fun _ _ => undef) (fun _ => .cells #[] 0) [] (by kernel_rfl) (by kernel_rfl) rfl (fun k hk => absurd hk (by omega)) rfl ?_
    apply Exists.intro
    refine ⟨fun bs ne => ?_, fun i h1 h2 => absurd h2 (by omega), ?_⟩
    · have q0 := fun x : Gb W1 bs => ((HBk.out.below x.below).at3).1
      have q1 := fun x : Gb W1 bs => ((HBk.out.below x.below).at3).2.1
      have q2 := fun x : Gb W1 bs => ((HBk.out.below x.below).at3).2.2
      have d1 : decide (0 ≤ lk) = false := decide_eq_false c
      simp only [List.take_succ_cons, List.take_zero]
      repeat (go_big_quiet_step (first
        | (go_at_call 87; exact gb_call (HC.out _))))
      exact wpQuiet_nil rfl
    · intro bl wx hbl _ _
      simp only [R4.layL]
      have HF : Hid (Below w.heap.size w wx) := HB1.out.1.trans (hbl.mono HB1.out.1.size)
      clear hbl
      refine wpAny_done (by kernel_rfl) ?_ _
      go_wp2
      go_ret
      exact ⟨by rw [hR.out]; rfl, HF.out⟩

end Go.Proofs.YthnhcphkpffkfaaGreat
