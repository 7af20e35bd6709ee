/-
  Tracks that share a room as package flex goes about it: those that take part by their numbers.
-/
import Derived.Test.YthnhcphkpffkfaaGreatXP3
namespace Go.Proofs.YthnhcphkpffkfaaGreat

def tkA (T : List Tk) (i : Nat) : Tk := T.getD i ⟨0, 0, 0⟩
def opn : Nat → List Ce → List Nat
  | _, [] => []
  | b, c :: l => if c.p = true then b :: opn (b + 1) l else opn (b + 1) l
/-- Each of some numbers gets something of what is left. -/
def fld (f : Nat → Int → Int) : List Nat → List Int × Int → List Int × Int
  | [], s => s
  | i :: r, s => fld f r (s.1.set i (s.1.getD i 0 + f i s.2), s.2 - f i s.2)
def adv (h : Tk → Int → Int) : Int → List Ce → List Int × Int
  | lf, [] => ([], lf)
  | lf, c :: l => if c.p = true then ((c.o + h c.t lf) :: (adv h (lf - h c.t lf) l).1, (adv h (lf - h c.t lf) l).2) else (c.o :: (adv h lf l).1, (adv h lf l).2)
theorem tk_drop {T : List Tk} {b : Nat} {t : Tk} {r : List Tk} (h : T.drop b = t :: r) : tkA T b = t ∧ T.drop (b + 1) = r ∧ b < T.length := by
  have hl : b < T.length := by
    have := congrArg List.length h
    simp at this
    omega
  rw [List.drop_eq_getElem_cons hl] at h
  injection h with h1 h2
  exact ⟨by unfold tkA; simp [List.getD, List.getElem?_eq_getElem hl, h1], h2, hl⟩
theorem fld_adv (h : Tk → Int → Int) (T : List Tk) : ∀ (L : List Ce) (b : Nat) (pre : List Int) (lf : Int), pre.length = b → T.drop b = L.map (·.t) → fld (fun i => h (tkA T i)) (opn b L) (pre ++ L.map (·.o), lf) = (pre ++ (adv h lf L).1, (adv h lf L).2)
  | [], b, pre, lf, hb, hT => by simp [opn, fld, adv]
  | c :: l, b, pre, lf, hb, hT => by
    rw [List.map_cons] at hT
    obtain ⟨h1, h2, _⟩ := tk_drop hT
    rw [opn, adv]
    split
    · rw [fld]
      have e : (pre ++ (c :: l).map (·.o)).getD b 0 = c.o := by
        rw [List.map_cons, List.getD, ← hb, List.getElem?_append_right (Nat.le_refl _), Nat.sub_self]; rfl
      simp only [h1, e]
      have e2 : (pre ++ (c :: l).map (·.o)).set b (c.o + h c.t lf) = (pre ++ [c.o + h c.t lf]) ++ l.map (·.o) := by
        rw [List.map_cons, ← hb, List.set_append_right _ _ (Nat.le_refl _), Nat.sub_self, List.set_cons_zero, List.append_assoc]; rfl
      rw [e2, fld_adv h T l (b + 1) (pre ++ [c.o + h c.t lf]) (lf - h c.t lf) (by simp [hb]) h2]
      simp
    · have e2 : pre ++ (c :: l).map (·.o) = (pre ++ [c.o]) ++ l.map (·.o) := by simp
      rw [e2, fld_adv h T l (b + 1) (pre ++ [c.o]) lf (by simp [hb]) h2]
      simp
theorem fld_len (f : Nat → Int → Int) : ∀ (l : List Nat) (s : List Int × Int), (fld f l s).1.length = s.1.length
  | [], _ => rfl
  | i :: r, s => by rw [fld, fld_len f r]; simp
theorem fld_snoc (f : Nat → Int → Int) : ∀ (l : List Nat) (i : Nat) (s : List Int × Int), fld f (l ++ [i]) s = ((fld f l s).1.set i ((fld f l s).1.getD i 0 + f i (fld f l s).2), (fld f l s).2 - f i (fld f l s).2)
  | [], _, _ => rfl
  | j :: r, i, s => by rw [List.cons_append, fld, fld_snoc f r, fld]
theorem fld_at (f : Nat → Int → Int) : ∀ (l : List Nat) (i : Nat) (s : List Int × Int), i ∉ l → (fld f l s).1.getD i 0 = s.1.getD i 0
  | [], _, _, _ => rfl
  | j :: r, i, s, h => by
    have h1 : i ≠ j := fun e => h (by simp [e])
    rw [fld, fld_at f r i _ fun e => h (by simp [e])]
    simp only [List.getD]
    rw [List.getElem?_set_ne (fun e => h1 e.symm)]
theorem fld_lf (f : Nat → Int → Int) (D : Int) : ∀ (l : List Nat) (s : List Int × Int), (∀ i ∈ l, ∀ x, 0 ≤ f i x ∧ f i x ≤ D) → s.2 - l.length * D ≤ (fld f l s).2 ∧ (fld f l s).2 ≤ s.2
  | [], s, _ => by rw [fld]; simp
  | j :: r, s, h => by
    obtain ⟨h1, h2⟩ := fld_lf f D r (s.1.set j (s.1.getD j 0 + f j s.2), s.2 - f j s.2) fun i hi => h i (by simp [hi])
    have h3 := h j (by simp) s.2
    rw [fld]
    have e : (((j :: r).length : Nat) : Int) * D = r.length * D + D := by rw [List.length_cons, Int.natCast_add, Int.add_mul, Int.natCast_one, Int.one_mul]
    rw [e]
    simp only at h1 h2
    omega
theorem fld_one : ∀ (l : List Nat) (s : List Int × Int), 0 ≤ s.2 → 0 ≤ (fld (fun _ x => min x 1) l s).2 ∧ (fld (fun _ x => min x 1) l s).2 ≤ s.2
  | [], s, h => by rw [fld]; omega
  | j :: r, s, h => by
    have := fld_one r (s.1.set j (s.1.getD j 0 + min s.2 1), s.2 - min s.2 1) (by simp only; omega)
    rw [fld]
    simp only at this
    omega
theorem opn_lt : ∀ (L : List Ce) (b : Nat), ∀ i ∈ opn b L, b ≤ i ∧ i < b + L.length
  | [], _, i, h => by simp [opn] at h
  | c :: l, b, i, h => by
    rw [opn] at h
    rw [List.length_cons]
    split at h
    · rcases List.mem_cons.1 h with rfl | h
      · omega
      · have := opn_lt l (b + 1) i h; omega
    · have := opn_lt l (b + 1) i h; omega
theorem opn_nodup : ∀ (L : List Ce) (b : Nat), (opn b L).Nodup
  | [], _ => by simp [opn]
  | c :: l, b => by
    rw [opn]
    split
    · rw [List.nodup_cons]
      exact ⟨fun h => by have := opn_lt l (b + 1) b h; omega, opn_nodup l (b + 1)⟩
    · exact opn_nodup l (b + 1)
theorem opn_len : ∀ (L : List Ce) (b : Nat), (opn b L).length = cntP L
  | [], _ => rfl
  | c :: l, b => by
    rw [opn, cntP, ← opn_len l (b + 1)]
    split <;> simp <;> omega
theorem opn_mem : ∀ (L : List Ce) (b i : Nat), i ∈ opn b L → ∃ k, ∃ h : k < L.length, i = b + k ∧ L[k].p = true
  | [], _, i, h => by simp [opn] at h
  | c :: l, b, i, h => by
    rw [opn] at h
    split at h
    · next hp =>
      rcases List.mem_cons.1 h with rfl | h
      · exact ⟨0, by simp, by omega, hp⟩
      · obtain ⟨k, hk, e, hq⟩ := opn_mem l (b + 1) i h
        exact ⟨k + 1, by simpa using hk, by omega, by simpa using hq⟩
    · obtain ⟨k, hk, e, hq⟩ := opn_mem l (b + 1) i h
      exact ⟨k + 1, by simpa using hk, by omega, by simpa using hq⟩
/-- Does a track get its top? -/
def fuT (left g : Int) (t : Tk) : Bool := !(t.mx == 0) && decide (g * (t.mx - t.mn) ≤ left * t.gr)
theorem ful_eq {left g : Int} {c : Ce} (h : okT c.t) : fulB left g c = (c.p && fuT left g c.t) := by
  obtain ⟨h1, h2, h3, h4, h5⟩ := h
  unfold fulB fuT lak
  by_cases hm : c.t.mx = 0
  · simp [hm]
  · have h0 : decide (0 ≤ c.t.mx - c.t.mn) = true := decide_eq_true (by omega)
    have h6 : (c.t.mx == 0) = false := by simpa using hm
    rw [if_neg hm, h0, h6]
    rfl
def hFi (left g : Int) (t : Tk) (_ : Int) : Int := if fuT left g t = true then t.mx - t.mn else 0
def FilK (L : List Ce) : Prop := ∀ c ∈ L, okT c.t ∧ (c.p = true → c.o = c.t.mn)
theorem FilK.tail {c : Ce} {l : List Ce} (h : FilK (c :: l)) : FilK l := fun d hd => h d (by simp [hd])
theorem adv_fil (left g : Int) : ∀ (L : List Ce) (lf : Int), FilK L → adv (hFi left g) lf L = ((L.map (fil left g)).map (·.o), lf - lesS left g L)
  | [], lf, _ => by simp [adv, lesS]
  | c :: l, lf, h => by
    have hc := h c (by simp)
    have hf := ful_eq (left := left) (g := g) hc.1
    rw [adv, lesS, List.map_cons, List.map_cons]
    split
    · next hp =>
      rw [adv_fil left g l _ h.tail]
      rw [hp, Bool.true_and] at hf
      unfold hFi
      cases hu : fuT left g c.t with
      | true =>
        rw [hu] at hf
        have e : (fil left g c).o = c.t.mx := by unfold fil; rw [if_pos hf]
        have hm : c.t.mx ≠ 0 := by unfold fuT at hu; simp at hu; exact hu.1
        have el : lak c.t = c.t.mx - c.t.mn := by unfold lak; rw [if_neg hm]
        rw [e, if_pos hf, if_pos rfl, hc.2 hp, el]
        refine Prod.ext ?_ ?_
        · show _ :: _ = _ :: _
          congr 1
          omega
        · show _ - _ - _ = _ - (_ + _)
          omega
      | false =>
        rw [hu] at hf
        have e : fil left g c = c := by unfold fil; rw [hf]; rfl
        rw [e, hf]
        simp
    · next hp =>
      have hf2 : fulB left g c = false := by rw [hf]; simp [hp]
      have e : fil left g c = c := by unfold fil; rw [hf2]; rfl
      rw [adv_fil left g l _ h.tail, e, hf2]
      simp
theorem opn_fil (left g : Int) (T : List Tk) : ∀ (L : List Ce) (b : Nat), T.drop b = L.map (·.t) → (∀ c ∈ L, okT c.t) → (opn b L).filter (fun i => !fuT left g (tkA T i)) = opn b (L.map (fil left g))
  | [], _, _, _ => rfl
  | c :: l, b, hT, hk => by
    rw [List.map_cons] at hT
    obtain ⟨h1, h2, _⟩ := tk_drop hT
    have ih := opn_fil left g T l (b + 1) h2 fun d hd => hk d (by simp [hd])
    have hf := ful_eq (left := left) (g := g) (hk c (by simp))
    rw [List.map_cons, opn, opn]
    split
    · next hp =>
      rw [hp, Bool.true_and] at hf
      rw [List.filter_cons, h1, ih]
      cases hu : fuT left g c.t with
      | true =>
        rw [hu] at hf
        have e : (fil left g c).p = false := by unfold fil; rw [if_pos hf]
        rw [e]; rfl
      | false =>
        rw [hu] at hf
        have e : (fil left g c).p = true := by unfold fil; rw [hf]; exact hp
        rw [e]; rfl
    · next hp =>
      have hf2 : fulB left g c = false := by rw [hf]; simp [hp]
      have e : fil left g c = c := by unfold fil; rw [hf2]; rfl
      rw [e, if_neg hp, ih]
theorem any_opn (left g : Int) (L : List Ce) (b : Nat) : L.any (fulB left g) = decide ((opn b (L.map (fil left g))).length < (opn b L).length) := by
  rw [opn_len, opn_len]
  cases ha : L.any (fulB left g) with
  | true => exact (decide_eq_true (cnt_lt left g L ha)).symm
  | false =>
    have : L.map (fil left g) = L := by
      rw [List.any_eq_false] at ha
      have : L.map (fil left g) = L.map id := List.map_congr_left fun c hc => by unfold fil; rw [if_neg (ha c hc)]; rfl
      rw [this, List.map_id]
    rw [this]
    exact (decide_eq_false (Nat.lt_irrefl _)).symm
def grS (T : List Tk) : List Nat → Int
  | [] => 0
  | i :: r => (tkA T i).gr + grS T r
theorem grS_snoc (T : List Tk) : ∀ (l : List Nat) (i : Nat), grS T (l ++ [i]) = grS T l + (tkA T i).gr
  | [], i => by simp [grS]
  | j :: r, i => by rw [List.cons_append, grS, grS_snoc T r, grS]; omega
theorem grS_opn (T : List Tk) : ∀ (L : List Ce) (b : Nat), T.drop b = L.map (·.t) → grS T (opn b L) = gsum L
  | [], _, _ => rfl
  | c :: l, b, hT => by
    rw [List.map_cons] at hT
    obtain ⟨h1, h2, _⟩ := tk_drop hT
    have ih := grS_opn T l (b + 1) h2
    rw [opn, gsum]
    split
    · rw [grS, h1, ih]
    · rw [ih]; omega
theorem grS_bd (T : List Tk) (hT : ∀ t ∈ T, okT t) : ∀ (l : List Nat), 0 ≤ grS T l ∧ grS T l ≤ l.length * 16384
  | [] => by simp [grS]
  | i :: r => by
    have ih := grS_bd T hT r
    have : 0 ≤ (tkA T i).gr ∧ (tkA T i).gr ≤ 16384 := by
      unfold tkA
      by_cases h : i < T.length
      · have := hT T[i] (List.getElem_mem h)
        simp [List.getD, List.getElem?_eq_getElem h]
        exact ⟨this.2.2.2.1, this.2.2.2.2⟩
      · rw [List.getD, List.getElem?_eq_none (Nat.le_of_not_lt h)]
        exact ⟨Int.le_refl _, by show (0 : Int) ≤ 16384; omega⟩
    rw [grS, List.length_cons, Int.natCast_add]
    omega
def hF1 (left g : Int) (t : Tk) (_ : Int) : Int := (left * t.gr) / g
def hF2 (_ : Tk) (x : Int) : Int := min x 1
def ad1 (left g : Int) (c : Ce) : Ce := if c.p = true then ⟨c.t, c.p, c.o + (left * c.t.gr) / g⟩ else c
theorem adv_one (left g : Int) : ∀ (L : List Ce) (lf : Int), adv (hF1 left g) lf L = ((L.map (ad1 left g)).map (·.o), lf - flrS left g L)
  | [], lf => by simp [adv, flrS]
  | c :: l, lf => by
    rw [adv, flrS, List.map_cons, List.map_cons]
    split
    · next hp =>
      rw [adv_one left g l]
      have e : (ad1 left g c).o = c.o + (left * c.t.gr) / g := by unfold ad1; rw [if_pos hp]
      rw [e]
      unfold hF1
      refine Prod.ext rfl ?_
      show _ - _ - _ = _ - (_ + _)
      omega
    · next hp =>
      rw [adv_one left g l]
      have e : ad1 left g c = c := by unfold ad1; rw [if_neg hp]
      rw [e]
      simp
theorem adv_two (left g : Int) : ∀ (L : List Ce) (ov : Int), (adv hF2 (max ov 0) (L.map (ad1 left g))).1 = (sprd left g ov L).map (·.o)
  | [], _ => rfl
  | c :: l, ov => by
    rw [List.map_cons, adv, sprd]
    have ep : (ad1 left g c).p = c.p := by unfold ad1; split <;> rfl
    rw [ep]
    split
    · next hp =>
      have e : (ad1 left g c).o = c.o + (left * c.t.gr) / g := by unfold ad1; rw [if_pos hp]
      have e1 : max ov 0 - hF2 (ad1 left g c).t (max ov 0) = max (ov - 1) 0 := by unfold hF2; omega
      have e2 : hF2 (ad1 left g c).t (max ov 0) = if 0 < ov then 1 else 0 := by unfold hF2; split <;> omega
      rw [e1, e2, e, List.map_cons, adv_two left g l]
    · next hp =>
      have e : ad1 left g c = c := by unfold ad1; rw [if_neg hp]
      simp only [e, List.map_cons, adv_two left g l]
theorem ad1_opn (left g : Int) : ∀ (L : List Ce) (b : Nat), opn b (L.map (ad1 left g)) = opn b L
  | [], _ => rfl
  | c :: l, b => by
    have ep : (ad1 left g c).p = c.p := by unfold ad1; split <;> rfl
    rw [List.map_cons, opn, opn, ep, ad1_opn left g l]
theorem ad1_tk (left g : Int) (L : List Ce) : (L.map (ad1 left g)).map (·.t) = L.map (·.t) := by
  rw [List.map_map]
  refine List.map_congr_left fun c _ => ?_
  show (ad1 left g c).t = c.t
  unfold ad1
  split <;> rfl
/-- Settled: what is left shared among those that take part still. -/
def setl (left : Int) (L : List Ce) : List Int := (adv hF2 (left - flrS left (gsum L) L) (L.map (ad1 left (gsum L)))).1
theorem adv_none (h : Tk → Int → Int) : ∀ (L : List Ce) (lf : Int), cntP L = 0 → adv h lf L = (L.map (·.o), lf)
  | [], _, _ => rfl
  | c :: l, lf, hc => by
    rw [cntP] at hc
    rw [adv]
    split at hc
    · omega
    · next hp => rw [if_neg hp, adv_none h l lf (by omega)]; rfl
theorem ad1_cnt (left g : Int) (L : List Ce) : cntP (L.map (ad1 left g)) = cntP L := by rw [← opn_len _ 0, ad1_opn, opn_len]
theorem cnt_none {L : List Ce} (h : Gro L) (h0 : gsum L = 0) : cntP L = 0 := by
  induction L with
  | nil => rfl
  | cons c l ih =>
    have hg := gsum_nn (l := l) fun d hd => h d (by simp [hd])
    have hc := h c (by simp)
    rw [gsum] at h0
    rw [cntP]
    split at h0
    · next hp => have := hc.2 hp; omega
    · next hp => rw [if_neg hp, ih (fun d hd => h d (by simp [hd])) (by omega)]
theorem ad1_none {left g : Int} {L : List Ce} (h : cntP L = 0) : L.map (ad1 left g) = L := by
  induction L with
  | nil => rfl
  | cons c l ih =>
    rw [cntP] at h
    split at h
    · omega
    · next hp =>
      rw [List.map_cons, ih (by omega)]
      congr 1
      unfold ad1
      rw [if_neg hp]
theorem setl_none {left : Int} {L : List Ce} (hg : Gro L) (h0 : gsum L = 0) : setl left L = L.map (·.o) := by
  have hc := cnt_none hg h0
  unfold setl
  rw [ad1_none hc, adv_none _ _ _ hc]
theorem setl_some {left : Int} {L : List Ce} (h0 : 0 < gsum L) : setl left L = (sprd left (gsum L) (left - flrS left (gsum L) L) L).map (·.o) := by
  have h := over_in (left := left) h0
  have e : left - flrS left (gsum L) L = max (left - flrS left (gsum L) L) 0 := by omega
  unfold setl
  rw [e, adv_two, ← e]
/-- What comes of it in the end. -/
def endR (left : Int) (L : List Ce) : List Int := (shr (cntP L + 1) left L).map (·.o)
theorem end_more {left : Int} {L : List Ce} (hg : Gro L) (ha : L.any (fulB left (gsum L)) = true) : endR left L = endR (left - lesS left (gsum L) L) (L.map (fil left (gsum L))) := by
  have hl := cnt_lt left (gsum L) L ha
  have h0 : gsum L ≠ 0 := fun e => by have := cnt_none hg e; omega
  unfold endR
  rw [shr, if_neg h0, if_pos ha]
  exact congrArg _ (shr_fuel (by omega) (by omega))
theorem end_last {left : Int} {L : List Ce} (hg : Gro L) (ha : L.any (fulB left (gsum L)) = false) : endR left L = setl left L := by
  unfold endR
  rw [shr]
  split
  · next h0 => rw [setl_none hg h0]
  · next h0 =>
    have := gsum_nn hg
    rw [if_neg (by rw [ha]; decide), setl_some (by omega)]
theorem les_zero {g : Int} (hg : 0 < g) : ∀ {L : List Ce}, lesS 0 g L = 0
  | [] => rfl
  | c :: l => by
    rw [lesS, les_zero hg]
    split
    · next hf =>
      unfold fulB at hf
      simp only [Bool.and_eq_true, decide_eq_true_eq] at hf
      obtain ⟨_, h1, h2⟩ := hf
      rw [Int.zero_mul] at h2
      have : ¬ 0 < lak c.t := fun h => by have := Int.mul_pos hg h; omega
      omega
    · rfl
theorem flr_zero (g : Int) : ∀ (L : List Ce), flrS 0 g L = 0
  | [] => rfl
  | c :: l => by rw [flrS, flr_zero g l]; split <;> simp
theorem spr_zero (g : Int) : ∀ (L : List Ce) (ov : Int), ov ≤ 0 → (sprd 0 g ov L).map (·.o) = L.map (·.o)
  | [], _, _ => rfl
  | c :: l, ov, h => by
    rw [sprd]
    split
    · have : ¬ 0 < ov := by omega
      simp [spr_zero g l (ov - 1) (by omega), this]
    · simp [spr_zero g l ov h]
theorem shr_zero : ∀ (k : Nat) (L : List Ce), ShI 0 L → (shr k 0 L).map (·.o) = L.map (·.o)
  | 0, _, _ => rfl
  | k + 1, L, h => by
    rw [shr]
    split
    · rfl
    · next h0 =>
      have hp : 0 < gsum L := by have := gsum_nn h.gro; omega
      split
      · have hl := les_zero hp (L := L)
        have h2 := h.fil hp
        rw [hl] at h2 ⊢
        rw [show (0 : Int) - 0 = 0 from rfl] at h2 ⊢
        rw [shr_zero k _ h2, List.map_map]
        refine List.map_congr_left fun c hc => ?_
        show (fil 0 (gsum L) c).o = c.o
        unfold fil
        split
        · next hf =>
          unfold fulB at hf
          simp only [Bool.and_eq_true, decide_eq_true_eq] at hf
          obtain ⟨h1, h2, h3⟩ := hf
          rw [Int.zero_mul] at h3
          have : ¬ 0 < lak c.t := fun h => by have := Int.mul_pos hp h; omega
          have h4 := (lak_of h2).2
          have h5 := ((h.2 c hc).2.1 h1).2
          show c.t.mx = c.o
          omega
        · rfl
      · rw [flr_zero]
        exact spr_zero _ _ _ (by omega)
theorem sha_end {T : List Tk} (hk : ∀ t ∈ T, okT t) (room : Int) : shaR T room = endR (max (room - mnS T) 0) (ini T) := by
  unfold shaR shaC endR
  split
  · next h =>
    rw [show max (room - mnS T) 0 = 0 by omega, shr_zero _ _ (ini_inv hk (Int.le_refl 0))]
  · next h =>
    rw [show max (room - mnS T) 0 = room - mnS T by omega]
    have := ini_cnt T
    exact congrArg _ (shr_fuel (by omega) (by omega))
theorem ini_filk {T : List Tk} (hk : ∀ t ∈ T, okT t) : FilK (ini T) := by
  intro c hc
  unfold ini at hc
  obtain ⟨t, ht, rfl⟩ := List.mem_map.1 hc
  exact ⟨hk t ht, fun _ => rfl⟩
theorem ShI.filk {left : Int} {L : List Ce} (h : ShI left L) : FilK L := fun c hc => ⟨(h.2 c hc).1, fun hp => ((h.2 c hc).2.1 hp).2⟩
theorem ini_len (T : List Tk) : (ini T).length = T.length := by unfold ini; simp
theorem ini_o (T : List Tk) : (ini T).map (·.o) = T.map (·.mn) := by unfold ini; rw [List.map_map]; rfl
theorem opn_snoc : ∀ (L : List Ce) (b : Nat) (c : Ce), opn b (L ++ [c]) = opn b L ++ if c.p = true then [b + L.length] else []
  | [], b, c => by simp [opn]
  | d :: l, b, c => by
    rw [List.cons_append, opn, opn, opn_snoc l (b + 1) c, List.length_cons]
    have e : b + 1 + l.length = b + (l.length + 1) := by omega
    rw [e]
    split <;> simp
/-- The growers among the first ones. -/
theorem opn_take {T : List Tk} {k : Nat} (h : k < T.length) : opn 0 (ini (T.take (k + 1))) = opn 0 (ini (T.take k)) ++ if 0 < T[k].gr then [k] else [] := by
  have e : ini (T.take (k + 1)) = ini (T.take k) ++ [⟨T[k], decide (0 < T[k].gr), T[k].mn⟩] := by
    unfold ini
    rw [← List.take_append_getElem h, List.map_append]
    rfl
  rw [e, opn_snoc, ini_len, List.length_take]
  have : min k T.length = k := by omega
  rw [this]
  simp
theorem mnS_bd : ∀ {T : List Tk}, (∀ t ∈ T, okT t) → 0 ≤ mnS T ∧ mnS T ≤ T.length * 16384
  | [], _ => by simp [mnS]
  | t :: l, h => by
    have ih := mnS_bd (T := l) fun d hd => h d (by simp [hd])
    have := h t (by simp)
    obtain ⟨h1, h2, _⟩ := this
    rw [mnS, List.length_cons, Int.natCast_add]
    omega
theorem mnS_snoc : ∀ (l : List Tk) (t : Tk), mnS (l ++ [t]) = mnS l + t.mn
  | [], t => by simp [mnS]
  | d :: l, t => by rw [List.cons_append, mnS, mnS_snoc l t, mnS]; omega

end Go.Proofs.YthnhcphkpffkfaaGreat
