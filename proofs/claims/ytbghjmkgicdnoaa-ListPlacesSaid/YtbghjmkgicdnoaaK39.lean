/-
  Texts of this claim, one behind the other: what each is about stands ahead of it.
-/
import Derived.Test.YtbghjmkgicdnoaaK17
import Derived.Test.YtbghjmkgicdnoaaK9
import Derived.Test.YtbghjmkgicdnoaaK18
import Derived.Test.YtbghjmkgicdnoaaK19
import Derived.Deep.CutRange
import Derived.Deep.DeepCutAuto
import Derived.Test.YtbghjmkgicdnoaaK26
import Derived.Test.YtbghjmkgicdnoaaK27
import Derived.Deep.CutBlock
/-
  Areas of forms are numbers of places: they add up.
-/
namespace Go.Proofs.Ytbghjmkgicdnoaa

theorem sumN_app {α : Type} (f : α → Nat) : ∀ l m : List α, sumN f (l ++ m) = sumN f l + sumN f m
  | [], m => by rw [List.nil_append, sumN, Nat.zero_add]
  | x :: l, m => by rw [List.cons_append, sumN, sumN, sumN_app f l m]; omega
theorem sumN_range (p q : Nat) (h : p ≤ q) : ∀ n, sumN (fun i => if p ≤ i ∧ i < q then 1 else 0) (List.range n) = min q n - min p n
  | 0 => by simp [sumN]
  | n + 1 => by
    rw [List.range_succ, sumN_app, sumN_range p q h n, sumN, sumN]
    split <;> omega
theorem sumN_mul {α : Type} (c : Nat) (f : α → Nat) : ∀ l : List α, sumN (fun x => c * f x) l = c * sumN f l
  | [] => rfl
  | x :: l => by rw [sumN, sumN, sumN_mul c f l, Nat.mul_add]
def numI (i : Nat) : Int := (i : Int) - 16384
/-- The numbers of a side. -/
def SideOk (S : List Nat) : Prop := ∀ lo hi : Int, -16384 ≤ lo → lo ≤ hi → hi ≤ 16384 → sumN (fun i => if lo ≤ numI i ∧ numI i < hi then 1 else 0) S = (hi - lo).toNat
theorem side_gen (n : Nat) (hn : n = 32768) : SideOk (List.range n) := fun lo hi h1 h2 h3 => by
  have h := sumN_range (lo + 16384).toNat (hi + 16384).toNat (by omega) n
  have e : (fun i => if lo ≤ numI i ∧ numI i < hi then 1 else 0) = fun i => if (lo + 16384).toNat ≤ i ∧ i < (hi + 16384).toNat then 1 else 0 := by
    funext i
    have hp : (lo ≤ numI i ∧ numI i < hi) ↔ ((lo + 16384).toNat ≤ i ∧ i < (hi + 16384).toNat) := by
      unfold numI
      omega
    by_cases c : (lo + 16384).toNat ≤ i ∧ i < (hi + 16384).toNat
    · rw [if_pos (hp.2 c), if_pos c]
    · rw [if_neg (fun q => c (hp.1 q)), if_neg c]
  rw [e, h]
  omega
theorem side_is : ∃ S, SideOk S := ⟨_, side_gen _ rfl⟩
/-- All places. -/
def allP (S : List Nat) (f : Int → Int → Nat) : Nat := sumN (fun i => sumN (fun j => f (numI j) (numI i)) S) S
theorem allP_add (S : List Nat) (f g : Int → Int → Nat) : allP S (fun x y => f x y + g x y) = allP S f + allP S g := by
  unfold allP
  rw [← sumN_add]
  congr 1
  funext i
  rw [← sumN_add]
theorem allP_zero (S : List Nat) : allP S (fun _ _ => 0) = 0 := by
  have e : (fun i : Nat => sumN (fun _ : Nat => 0) S) = fun _ => 0 := by funext i; exact sumN_zero S
  show sumN (fun i : Nat => sumN (fun _ : Nat => 0) S) S = 0
  rw [e]
  exact sumN_zero S
def inR (r : Rc) (x y : Int) : Nat := if r.y ≤ y ∧ y < r.y + r.h then (if r.x ≤ x ∧ x < r.x + r.w then 1 else 0) else 0
theorem one_area {S : List Nat} (hS : SideOk S) {r : Rc} (h : keepE r = true) : ((allP S (inR r) : Nat) : Int) = areaI r.x r.y r.w r.h := by
  have hk := (keepE_iff r).1 h
  have e : allP S (inR r) = r.h.toNat * r.w.toNat := by
    unfold allP
    have e1 : (fun i => sumN (fun j => inR r (numI j) (numI i)) S) = fun i => r.w.toNat * (if r.y ≤ numI i ∧ numI i < r.y + r.h then 1 else 0) := by
      funext i
      unfold inR
      by_cases c : r.y ≤ numI i ∧ numI i < r.y + r.h
      · simp only [if_pos c, Nat.mul_one]
        rw [hS r.x (r.x + r.w) (by omega) (by omega) (by omega)]
        congr 1
        omega
      · simp only [if_neg c, Nat.mul_zero]
        exact sumN_zero _
    rw [e1, sumN_mul, hS r.y (r.y + r.h) (by omega) (by omega) (by omega), Nat.mul_comm]
    congr 2
    omega
  rw [e]
  unfold areaI
  have hb : emptyB r.x r.y r.w r.h = false := by unfold keepE at h; simpa using h
  rw [hb, if_neg (by decide)]
  have p1 : ((r.h.toNat : Nat) : Int) = r.h := by omega
  have p2 : ((r.w.toNat : Nat) : Int) = r.w := by omega
  rw [Int.natCast_mul, p1, p2, Int.mul_comm]
theorem all_area {S : List Nat} (hS : SideOk S) : ∀ {F : List Rc}, (∀ r ∈ F, keepE r = true) → ((allP S (fun x y => sumN (fun r => inR r x y) F) : Nat) : Int) = arS F
  | [], _ => by
    show ((allP S (fun _ _ => 0) : Nat) : Int) = 0
    rw [allP_zero]
    rfl
  | r :: F, h => by
    have e : allP S (fun x y => sumN (fun r => inR r x y) (r :: F)) = allP S (inR r) + allP S (fun x y => sumN (fun r => inR r x y) F) := by
      rw [← allP_add]
      rfl
    rw [e, Int.natCast_add, one_area hS (h r (List.mem_cons_self ..)), all_area hS (fun q hq => h q (List.mem_cons_of_mem _ hq)), arS]
theorem flat_sum (f : Rc → Nat) (l : List Bd) : sumN f (flatB l) = sumN (fun d => sumN f (rcts d)) l := by
  unfold flatB
  induction l with
  | nil => rfl
  | cons d l ih =>
    rw [List.reverse_cons, List.map_append, List.flatten_append, sumN_app, ih, sumN]
    simp only [List.map_cons, List.map_nil, List.flatten_cons, List.flatten_nil, List.append_nil]
    omega
def cntS (x : Int) (l : List Sp) : Nat := sumN (fun s : Sp => if s.1 ≤ x ∧ x < s.2 then 1 else 0) l
theorem cntS_none (x : Int) : ∀ {l : List Sp}, ¬ inS l x → cntS x l = 0
  | [], _ => rfl
  | s :: l, h => by
    have h1 : ¬ (s.1 ≤ x ∧ x < s.2) := fun c => h ((inS_cons _ _ _).2 (.inl c))
    have h2 : ¬ inS l x := fun c => h ((inS_cons _ _ _).2 (.inr c))
    have ih := cntS_none x h2
    unfold cntS at ih ⊢
    rw [sumN, if_neg h1, ih]
theorem cntS_one (x : Int) : ∀ {a : Int} {l : List Sp}, Can a l → inS l x → cntS x l = 1
  | _, [], _, h => absurd h (inS_nil x)
  | a, s :: l, hc, h => by
    by_cases c : s.1 ≤ x ∧ x < s.2
    · have h2 : ¬ inS l x := fun q => by have := Can.low hc.2.2 q; omega
      have ih := cntS_none x h2
      unfold cntS at ih ⊢
      rw [sumN, if_pos c, ih]
    · have h2 : inS l x := by
        rcases (inS_cons _ _ _).1 h with h | h
        · exact absurd h c
        · exact h
      have ih := cntS_one x hc.2.2 h2
      unfold cntS at ih ⊢
      rw [sumN, if_neg c, ih]
theorem rcts_sum (d : Bd) (x y : Int) : sumN (fun r => inR r x y) (rcts d) = if d.1 ≤ y ∧ y < d.2.1 then cntS x d.2.2 else 0 := by
  unfold rcts cntS
  generalize d.2.2 = l
  induction l with
  | nil => simp [sumN]
  | cons s l ih =>
    rw [List.map_cons, sumN, ih, sumN]
    unfold inR
    dsimp only
    rw [show d.1 + (d.2.1 - d.1) = d.2.1 by omega, show s.1 + (s.2 - s.1) = s.2 by omega]
    split <;> rfl
theorem ban_sum (x y : Int) : ∀ {z : Int} {l : List Bd}, BanR z l → sumN (fun d => sumN (fun r => inR r x y) (rcts d)) l = cntS x (fAt l y)
  | _, [], _ => rfl
  | z, d :: l, h => by
    obtain ⟨h1, h2, h3, h4, h5⟩ := h
    rw [sumN, rcts_sum d x y, ban_sum x y h5, fAt]
    by_cases c : d.1 ≤ y ∧ y < d.2.1
    · rw [if_pos c, if_pos c, fAt_high h5 y c.1]
      rfl
    · rw [if_neg c, if_neg c, Nat.zero_add]
open Classical in
/-- The area of a form: its places, counted. -/
theorem form_area {S : List Nat} (hS : SideOk S) (k : Bool) (a b : List Rc) : arS (formF k a b) = ((allP S (fun x y => if keepP k (cov a x y) (cov b x y) then 1 else 0) : Nat) : Int) := by
  rw [← all_area hS (form_keep k a b)]
  congr 2
  funext x y
  obtain ⟨⟨z, h1⟩, h2⟩ := bandsR_ban k a b
  unfold formF
  rw [flat_sum, ban_sum x y h1, h2]
  obtain ⟨c1, c2⟩ := rowW_can k a b y
  by_cases c : keepP k (cov a x y) (cov b x y)
  · rw [if_pos c, cntS_one x c1 ((c2 x).2 c)]
  · rw [if_neg c, cntS_none x (fun q => c ((c2 x).1 q))]
/-- Areas add up. -/
theorem area_two_ways (a b : List Rc) : arS (formF false (a ++ b) []) + arS (formF true a b) = arS (formF false a []) + arS (formF false b []) := by
  classical
  obtain ⟨S, hS⟩ := side_is
  rw [form_area hS, form_area hS, form_area hS, form_area hS, ← Int.natCast_add, ← Int.natCast_add, ← allP_add, ← allP_add]
  congr 2
  funext x y
  have n1 : ∀ A : Prop, keepP false A (cov [] x y) ↔ A := fun A => by unfold keepP; simp [cov_nil]
  have n2 : ∀ A B : Prop, keepP true A B ↔ A ∧ B := fun A B => by unfold keepP; simp
  simp only [n1, n2, cov_app]
  by_cases p : cov a x y <;> by_cases q : cov b x y <;> simp [p, q]

end Go.Proofs.Ytbghjmkgicdnoaa

/-
  ListPlaces in plain words: forms cover each place at most once; what Norm, Within and Bound tell, place by place.
-/
namespace Go.Proofs.Ytbghjmkgicdnoaa
open Go.RowKit

theorem has_inR {r : Rc} (h : keepE r = true) (px py : Int) : (if zHa r px py = true then 1 else 0) = inR r px py := by
  have k := (keepE_iff r).1 h
  unfold inR
  by_cases c : zHa r px py = true
  · have := (has_iff r px py).1 c
    rw [if_pos c, if_pos (by omega), if_pos (by omega)]
  · rw [if_neg c]
    rw [has_iff] at c
    split
    · split
      · exact absurd (by omega) c
      · rfl
    · rfl
theorem cnt_form (a : List Rc) (px py : Int) : cntR px py (formF false a []) ≤ 1 := by
  unfold cntR
  rw [sumN_filter]
  have hk := form_keep false a []
  refine Nat.le_trans (sumN_le (g := fun r => inR r px py) fun r hr => Nat.le_of_eq (has_inR (hk r hr) px py)) ?_
  obtain ⟨⟨z, h1⟩, h2⟩ := bandsR_ban false a []
  unfold formF
  rw [flat_sum, ban_sum px py h1, h2]
  obtain ⟨c1, _⟩ := rowW_can false a [] py
  by_cases c : inS (rowW false a [] py) px
  · rw [cntS_one px c1 c]; exact Nat.le_refl _
  · rw [cntS_none px c]; exact Nat.zero_le _
theorem cov_has (l : List Rc) (px py : Int) : cov l px py ↔ l.any (fun q => zHa q px py) = true := by
  rw [List.any_eq_true]
  constructor
  · rintro ⟨r, hr, hk, h1, h2, h3, h4⟩
    have k := (keepE_iff r).1 hk
    exact ⟨r, hr, (has_iff r px py).2 ⟨by omega, h1, h2, h3, h4⟩⟩
  · rintro ⟨r, hr, h⟩
    have e := has_keep h
    unfold zEm at e
    have k := (has_iff r px py).1 h
    exact ⟨r, hr, by unfold keepE; rw [e]; rfl, k.2⟩
theorem form_has (a : List Rc) (px py : Int) : (formF false a []).any (fun q => zHa q px py) = a.any (fun q => zHa q px py) := by
  rw [Bool.eq_iff_iff, ← cov_has, ← cov_has, form_cov]
  unfold keepP
  simp [cov_nil]
theorem keep_em {r : Rc} (h : keepE r = true) : zEm r = false := by
  unfold keepE at h
  unfold zEm
  simpa using h
theorem em_keep {r : Rc} (h : zEm r = false) : keepE r = true := by
  unfold zEm at h
  unfold keepE
  rw [h]
  rfl
theorem lis_small {l : List Rc} (h : l.length ≤ 1024) (hk : ∀ r ∈ l, zMa r = true) : lisE l = 0 := by
  unfold lisE
  rw [if_neg (by omega), if_pos]
  rw [List.all_eq_true]
  exact hk
theorem keep_ma {r : Rc} (h : keepE r = true) : zMa r = true := may_of (by have := keep_em h; exact this)
theorem i64_ma {r : Rc} (h : zMa r = true) : I64 r.x ∧ I64 r.y ∧ I64 r.w ∧ I64 r.h := by
  have := may_iff.1 h
  refine ⟨⟨?_, ?_⟩, ⟨?_, ?_⟩, ⟨?_, ?_⟩, ⟨?_, ?_⟩⟩ <;> omega
theorem i64s_ma {l : List Rc} (h : ∀ r ∈ l, zMa r = true) : I64s l := fun r hr => by have := i64_ma (h r hr); first | exact this | exact ⟨this.1, this.2.1⟩
theorem plc_keep (s : St) (r : Rc) : ∀ q ∈ plc s r, keepE q = true := by
  intro q hq
  unfold plc at hq
  split at hq
  · cases hq
  · next h =>
    split at hq
    · have := (List.mem_filter.1 hq).2
      exact em_keep (by simpa using this)
    · rw [List.mem_singleton] at hq
      subst hq
      refine em_keep ?_
      cases e : zEm q
      · rfl
      · exfalso; apply h; unfold noP; rw [e]; rfl
theorem plc_num (s : St) (r : Rc) : (plc s r).length ≤ 4 := by
  unfold plc
  split
  · exact Nat.zero_le _
  · split
    · refine Nat.le_trans (List.length_filter_le _ _) ?_
      rw [List.length_map]
      exact Nat.le_refl 4
    · exact (by decide : 1 ≤ 4)
theorem plA_keep (A : List (St × Rc)) : ∀ q ∈ plA A, keepE q = true := by
  intro q hq
  unfold plA at hq
  obtain ⟨p, _, hp⟩ := List.mem_flatMap.1 hq
  exact plc_keep _ _ q hp
theorem plA_num : ∀ (A : List (St × Rc)), (plA A).length ≤ 4 * A.length
  | [] => Nat.zero_le _
  | p :: A => by
    have h1 := plA_num A
    have h2 := plc_num p.1 p.2
    unfold plA at h1 ⊢
    rw [List.flatMap_cons, List.length_append, List.length_cons]
    omega
theorem wfs_apos {l : List St} (h : Wfs l) : APos l := fun s hs => (h s hs).2.2.1.2.2.2.1
theorem Wfs.sub {l m : List St} (h : Wfs l) (k : m.Sublist l) : Wfs m := fun s hs => h s (k.subset hs)
theorem wit_wfs {l : List St} (h : Wfs l) {F : List Rc} (hF : ∀ q ∈ F, zMa q = true) : Wfs (witA l F) := by
  intro s hs
  unfold witA at hs
  obtain ⟨q, hq, hs⟩ := List.mem_flatMap.1 hs
  unfold grpL at hs
  have := (idl_sub (bz_idl St.k _ [])).subset hs
  simp only [List.reverse_nil, List.nil_append, List.mem_cons, List.mem_append, List.not_mem_nil, or_false] at this
  rcases this with rfl | h2 | rfl
  · exact ⟨⟨(by decide : (0 : Int) ≤ 4), (by decide : (4 : Int) ≤ 255)⟩, i64_ma (hF q hq), by simp [cliS, Co.ok, By], by simp [cliS, Co.ok, By], Nat.zero_le _, by simp [cliS, I64]⟩
  · have h3 := ((dro_sub (dro_wit q (ann [] l))).map Prod.fst).subset h2
    rw [ann_fst] at h3
    exact h s h3
  · exact ⟨⟨(by decide : (0 : Int) ≤ 5), (by decide : (5 : Int) ≤ 255)⟩, by simp [opeS, zr, I64], by simp [opeS, Co.ok, By], by simp [opeS, Co.ok, By], Nat.zero_le _, by simp [opeS, I64]⟩

/-- All that the statement asks, place by place. -/
structure PlF (l : List St) (r : List Rc) : Prop where
  nor : norE l = norL l
  norC : chkS (norL l) = 0
  norN : norE (norL l) = norL l
  norM : (norL l).length ≤ l.length
  norW : Wfs (norL l)
  witE0 : witE l r = 0
  witC : chkS (witG l r) = 0
  witW : Wfs (witG l r)
  witN : (witG l r).length ≤ 2688
  bou : bouE l = 0 ∨ bouE l = 4
  bouN : (bouL l).length ≤ 1024
  bouI : I64s (bouL l)
  bouZ : lisE (bouL l) = 0
  bouH : bouE l = 0 → ∀ px py, hasC (bouL l) px py = !(atL px py l).isEmpty
  atN : ∀ px py, atL px py (norL l) = atL px py l
  atW : ∀ px py, atL px py (witG l r) = if r.any (fun q => zHa q px py) = true then atL px py l else []
theorem places_facts {l : List St} {r : List Rc} (hl : l.length ≤ 40) (hr : r.length ≤ 8) (hc : chkS l = 0) (hb : ∀ q ∈ r, zMa q = true) (hw : Wfs l) : PlF l r := by
  obtain ⟨z1, z2⟩ := chkS_zero hc
  have ha := wfs_apos hw
  have nc := norL_chk hc
  have f1 : (formF false r []).length ≤ 64 := by
    have := form_count false r []
    simp only [List.length_nil, Nat.add_zero] at this
    exact Nat.le_trans this (Nat.le_trans (Nat.mul_le_mul hr hr) (by decide))
  have lr : lisE r = 0 := lis_small (by omega) hb
  have w1 : witR r = formF false r [] := by unfold witR ansL; rw [if_pos ⟨lr, by omega⟩]
  have w2 : witF r = 0 := by unfold witF ansE; rw [if_pos lr, if_neg (by omega)]
  have fk := form_keep false r []
  have fe : ∀ q ∈ formF false r [], zEm q = false := fun q hq => keep_em (fk q hq)
  have w3 : (witA l (formF false r [])).length ≤ 2688 := by
    have h1 := wit_len l (formF false r [])
    have h2 : (formF false r []).length * (l.length + 2) ≤ 64 * 42 := Nat.mul_le_mul f1 (by omega)
    omega
  have w4 : witE l r = 0 := by unfold witE; rw [if_pos hc, if_pos w2, w1, if_neg (by omega)]
  have w5 : witG l r = witA l (formF false r []) := by unfold witG; rw [if_pos w4, w1]
  have wc := wit_clp z2 fe
  have p1 : (plA (ann [] l)).length ≤ 160 := by have := plA_num (ann [] l); rw [ann_len] at this; omega
  have pk := plA_keep (ann [] l)
  have lp : lisE (plA (ann [] l)) = 0 := lis_small (by omega) fun q hq => keep_ma (pk q hq)
  have bL : bouL l = ansL 0 (formF false (plA (ann [] l)) []) := by unfold bouL; rw [if_pos hc, lp]
  have bE : bouE l = ansE 0 (formF false (plA (ann [] l)) []) := by unfold bouE; rw [if_pos hc, lp]
  have bk : ∀ q ∈ bouL l, keepE q = true := by
    intro q hq
    rw [bL] at hq
    unfold ansL at hq
    split at hq
    · exact form_keep _ _ _ q hq
    · cases hq
  have bn : (bouL l).length ≤ 1024 := by rw [bL]; exact ansL_len _ _
  refine ⟨by unfold norE; rw [if_pos hc], nc, by unfold norE; rw [if_pos nc]; exact norL_norL l, norL_len l, hw.sub (norL_sub l), w4, ?_, ?_, by rw [w5]; exact w3, ?_, bn, i64s_ma fun q hq => keep_ma (bk q hq), lis_small bn fun q hq => keep_ma (bk q hq), ?_, fun px py => at_norL px py z2 ha, ?_⟩
  · rw [w5]; unfold chkS; rw [if_neg (by omega)]; exact wc
  · rw [w5]; exact wit_wfs hw fun q hq => keep_ma (fk q hq)
  · rw [bE]; unfold ansE; rw [if_pos rfl]; split
    · exact .inr rfl
    · exact .inl rfl
  · intro e px py
    have hf : bouL l = formF false (plA (ann [] l)) [] := by
      rw [bE] at e
      rw [bL]
      unfold ansE at e
      rw [if_pos rfl] at e
      unfold ansL
      split at e
      · cases e
      · next h => rw [if_pos ⟨rfl, by omega⟩]
    have q := at_any px py z2 ha
    show (bouL l).any (fun r => zHa r px py) = _
    rw [hf, form_has]
    cases e1 : (plA (ann [] l)).any (fun r => zHa r px py)
    · rw [q.2 e1]; rfl
    · cases e2 : atL px py l
      · rw [q.1 e2] at e1; cases e1
      · rfl
  · intro px py
    rw [w5, at_wit px py z2 ha fe (cnt_form r px py), form_has]

end Go.Proofs.Ytbghjmkgicdnoaa

/-
  The walk of ListPlaces.
-/
namespace Go.Proofs.Ytbghjmkgicdnoaa
open Go.RowKit

/-- What is asked of the statements' own at. -/
def LAt : Prop := ∀ (l : List St) (v : Value) (px py : Int) (w : World), LsS w v l → Wfs l → (∀ s ∈ l, zMa s.r = true) → l.length ≤ 20000 →
    Calls Try.prog 29 #[v, .agg #[.int .i64 px, .int .i64 py]] w fun e w' => ∃ u, e = .returned u ∧ Hid (OwS w.heap.size w' u (atL px py l) ∧ Below w.heap.size w w')
/-- Is a rectangle among them that may not be? -/
def bdR (r : List Rc) : Bool := r.any fun q => !zMa q
set_option maxRecDepth 20000 in
set_option maxHeartbeats 4000000 in
theorem bad_any (r : List Rc) (v : Value) (w : World) (hv : LsR w v r) (hir : I64s r) (hl : r.length ≤ 1000) : Calls Try.prog 28 #[v] w fun e w' => e = .returned (.bool (bdR r)) ∧ Below w.heap.size w w' := by
  obtain ⟨oa, cap, rfl, hc, hg⟩ := hv
  have HG : Hid (0 < r.length → ∃ g o, oa = some ⟨g, o, none⟩ ∧ g < w.heap.size ∧ ∀ i (h : i < r.length), RcAt w g (o + i * 4) r[i]) := hg
  have HI : Hid (I64s r) := hir
  clear hg hir
  go_enter Try.func28, Try.ntmps28
  go_wp2_with fail
  go_loopw [3] (fun i wr => ∃ k : Nat, i = .int .i64 k ∧ k ≤ r.length ∧ Hid (bdR (r.take k) = false ∧ Below w.heap.size w wr)) (fun i _ => r.length - (intOf i).toNat)
  case atStart => exact ⟨0, rfl, Nat.zero_le _, rfl, Below.refl _ _⟩
  case round =>
    obtain ⟨k, rfl, hk, HR⟩ := hrel
    by_cases hlt : k < r.length
    · have ik : (k : Int) < r.length := by omega
      obtain ⟨g, o, rfl, hg, hat⟩ := HG.out (by omega)
      have hx := (hat k hlt).kept (w' := wr) fun j => HR.out.2.cell (p := ⟨g, j, none⟩) hg
      obtain ⟨i1, i2⟩ := HI.out _ (List.getElem_mem hlt)
      have HN : Hid (bdR (r.take (k + 1)) = (!zMa r[k]) ∧ ((!zMa r[k]) = true → bdR r = true)) := by
        refine ⟨?_, fun h => List.any_eq_true.2 ⟨_, List.getElem_mem hlt, h⟩⟩
        have h0 := HR.out.1
        unfold bdR at h0 ⊢
        rw [(List.take_append_getElem hlt).symm, List.any_append, h0]
        simp
      have HC : Hid (∀ W, Calls Try.prog 49 #[.agg #[.int .i64 r[k].x, .int .i64 r[k].y, .int .i64 r[k].w, .int .i64 r[k].h]] W fun e w' => e = .returned (.int .i64 (if zMa r[k] = true then 0 else 5)) ∧ Below W.heap.size W w') := fun W => by
        have q := check_any r[k].x r[k].y r[k].w r[k].h W i1 i2
        exact q
      clear hat i1 i2
      generalize hq : r[k] = q at *
      clear hq
      obtain ⟨x0, x1, x2, x3⟩ := hx
      cases hz : zMa q
      · rw [hz] at HC HN
        go_wp2_with fail
        refine (HC.out _).mono ?_
        rintro e w1 ⟨rfl, hb⟩
        have HF : Hid (bdR r = true ∧ Below w.heap.size w w1) := ⟨HN.out.2 rfl, HR.out.2.trans (hb.mono HR.out.2.size)⟩
        clear hb HR HN HC
        go_wp2
        go_ret
        exact ⟨by rw [HF.out.1]; rfl, HF.out.2⟩
      · rw [hz] at HC HN
        go_wp2_with fail
        refine (HC.out _).mono ?_
        rintro e w1 ⟨rfl, hb⟩
        have HF : Hid (bdR (r.take (k + 1)) = false ∧ Below w.heap.size w w1) := ⟨HN.out.1, HR.out.2.trans (hb.mono HR.out.2.size)⟩
        clear hb HR HN HC
        go_wp2
        go_roundw
        case rel => exact ⟨k + 1, by go_num, by omega, HF.out.1, HF.out.2⟩
        case measure => simp [intOf]; omega
    · obtain rfl : k = r.length := by omega
      have HF : Hid (bdR r = false ∧ Below w.heap.size w wr) := by
        have h := HR.out
        rw [List.take_length] at h
        exact h
      clear HR
      go_wp2
      go_ret
      exact ⟨by rw [HF.out.1]; rfl, HF.out.2⟩

/-- What lies there. -/
structure PlS (w : World) (v vr vn vw vb : Value) (l : List St) (r : List Rc) (W : World) : Prop where
  fl : LsS W v l
  fr : LsR W vr r
  fn : OwS 0 W vn (norL l)
  fi : OwS 0 W vw (witG l r)
  fb : OwR 0 W vb (bouL l)
  fw : Below w.heap.size w W
theorem PlS.below {w : World} {v vr vn vw vb : Value} {l : List St} {r : List Rc} {W W' : World} (h : PlS w v vr vn vw vb l r W) (hb : Below W.heap.size W W') : PlS w v vr vn vw vb l r W' :=
  ⟨h.fl.below hb, h.fr.below hb, h.fn.below hb, h.fi.below hb, h.fb.below hb, h.fw.trans (hb.mono h.fw.size)⟩
/-- And a place, and what shows there. -/
structure PpS (w : World) (v vr vn vw vb vh : Value) (bp : Nat) (l T : List St) (r : List Rc) (x y : Int) (W : World) : Prop where
  fs : PlS w v vr vn vw vb l r W
  fp : Bk W bp #[.int .i64 x, .int .i64 y] 23
  fh : OwS 0 W vh T
theorem PpS.below {w : World} {v vr vn vw vb vh : Value} {bp : Nat} {l T : List St} {r : List Rc} {x y : Int} {W W' : World} (h : PpS w v vr vn vw vb vh bp l T r x y W) (hb : Below W.heap.size W W') : PpS w v vr vn vw vb vh bp l T r x y W' :=
  ⟨h.fs.below hb, h.fp.below hb, h.fh.below hb⟩
theorem atO_len (px py : Int) (i : Bool) (s : St) (o : List St) : (atO px py i s o).length ≤ o.length + 1 := by
  unfold atO
  split
  · split
    · rw [List.length_append, List.length_singleton]; split <;> simp
    · split <;> simp
  · split
    · split <;> simp
    · split <;> simp
theorem atS_len (px py : Int) : ∀ (l : List St) (cs : List Bool) (i : Bool) (o : List St), (atS px py cs i o l).length ≤ o.length + l.length
  | [], _, _, o => by rw [atS]; exact Nat.le_refl _
  | s :: l, cs, i, o => by
    rw [atS, List.length_cons]
    split
    · have := atS_len px py l (i :: cs) (i && zHa s.r px py) o; omega
    · split
      · split
        · simp
        · have := atS_len px py l cs.tail (cs.headD true) o; omega
      · have := atS_len px py l cs i (atO px py i s o); have := atO_len px py i s o; omega
theorem chk_ma {l : List St} (h : chkS l = 0) : ∀ s ∈ l, zMa s.r = true := fun s hs => (oneE_zero (clp_ones l 0 (chkS_zero h).2 s hs)).1

set_option maxRecDepth 20000 in
set_option maxHeartbeats 16000000 in
theorem places_walk (CA : LAt) (CC : LCheck) (CF : LFlat) (CN : LNorm) (CW : LWithin) (CB : LBound) (l : List St) (r : List Rc) (v vr : Value) (w : World) (hv : LsS w v l) (hw : Wfs l) (hr : LsR w vr r) (hnr : NoNil vr) (hir : I64s r) :
    Calls Try.prog 5 #[v, vr] w fun e w' => e = .returned (.bool true) ∧ Below w.heap.size w w' := by
  have HCA : Hid LAt := CA
  have HC : Hid (LCheck ∧ LNorm ∧ LWithin ∧ LBound) := ⟨CC, CN, CW, CB⟩
  have HAl : Hid (∀ W, Calls Try.prog 20 #[] W fun e w' => e = .returned (.bool true) ∧ Below W.heap.size W w') := fun W => alive13_any CF CN W
  have HW : Hid ((Wfs l ∧ LsS w v l) ∧ LsR w vr r ∧ NoNil vr ∧ I64s r) := ⟨⟨hw, hv⟩, hr, hnr, hir⟩
  obtain ⟨oa, cap, rfl, hc, _⟩ := hv
  obtain ⟨ob, cbm, rfl, hcm, _⟩ := hr
  obtain ⟨n, hnn⟩ : ∃ n, n = l.length := ⟨_, rfl⟩
  obtain ⟨nr, hnm⟩ : ∃ nr, nr = r.length := ⟨_, rfl⟩
  have HN : Hid (n = l.length ∧ nr = r.length) := ⟨hnn, hnm⟩
  rw [← hnn] at hc
  rw [← hnm] at hcm
  rw [← hnn, ← hnm] at HW ⊢
  clear CA CC CF CN CW CB hw hnn hnm hnr hir
  go_enter Try.func5, Try.ntmps5
  go_wp2_with fail
  refine (HAl.out w).mono ?_
  rintro e w1 ⟨rfl, hb⟩
  have H1 : Hid (Below w.heap.size w w1) := hb
  clear hb HAl
  by_cases h1 : 40 < n
  · have j1 : (40 : Int) < n := by omega
    go_wp2
    go_ret
    exact ⟨rfl, H1.out⟩
  by_cases h2 : 8 < nr
  · have j1 : ¬ (40 : Int) < n := by omega
    have j2 : (8 : Int) < nr := by omega
    go_wp2
    go_ret
    exact ⟨rfl, H1.out⟩
  have j1 : ¬ (40 : Int) < n := by omega
  have j2 : ¬ (8 : Int) < nr := by omega
  have HL : Hid (l.length ≤ 40 ∧ r.length ≤ 8) := by have := HN.out; exact ⟨by omega, by omega⟩
  go_wp2_with fail
  refine (HC.out.1 l _ w1 (HW.out.1.2.below H1.out) HW.out.1.1).mono ?_
  rintro e w2 ⟨rfl, hb⟩
  have H2 : Hid (Below w.heap.size w w2) := H1.out.trans (hb.mono H1.out.size)
  clear hb H1
  by_cases hl0 : chkS l = 0
  case neg =>
    have b1 : (chkS l != 0) = true := bne_iff_ne.2 hl0
    generalize chkS l = E1 at *
    clear hl0
    go_wp2
    go_ret
    exact ⟨rfl, H2.out⟩
  rw [hl0]
  have HL0 : Hid (chkS l = 0) := hl0
  clear hl0
  go_wp2_with fail
  refine (bad_any r _ w2 (HW.out.2.1.below H2.out) HW.out.2.2.2 (by have := HL.out.2; omega)).mono ?_
  rintro e w3 ⟨rfl, hb⟩
  have H3 : Hid (Below w.heap.size w w3) := H2.out.trans (hb.mono H2.out.size)
  clear hb H2
  cases hbd : bdR r
  case true =>
    clear hbd
    go_wp2
    go_ret
    exact ⟨rfl, H3.out⟩
  have PF : Hid (PlF l r) := by
    refine places_facts HL.out.1 HL.out.2 HL0.out (fun q hq => ?_) HW.out.1.1
    unfold bdR at hbd
    rw [List.any_eq_false] at hbd
    have := hbd q hq
    cases e : zMa q
    · rw [e] at this; exact absurd rfl this
    · rfl
  clear hbd
  go_wp2_with fail
  refine (HC.out.2.1 l _ w3 (HW.out.1.2.below H3.out) HW.out.1.1).mono ?_
  rintro e w4 ⟨vn, rfl, ha⟩
  rw [HL0.out]
  have H4 : Hid (Below w.heap.size w w4 ∧ OwS 0 w4 vn (norL l)) := by
    obtain ⟨q1, q2⟩ := ha.out
    rw [PF.out.nor] at q1
    exact ⟨H3.out.trans (q2.mono H3.out.size), q1.weaken (Nat.zero_le _)⟩
  clear ha H3
  go_wp2_with fail
  refine (HC.out.2.2.1 l r _ _ w4 (HW.out.1.2.below H4.out.1) (HW.out.2.1.below H4.out.1) HW.out.1.1 HW.out.2.2.2 HW.out.2.2.1).mono ?_
  rintro e w5 ⟨vw, rfl, ha⟩
  rw [PF.out.witE0]
  have H5 : Hid (Below w.heap.size w w5 ∧ OwS 0 w5 vn (norL l) ∧ OwS 0 w5 vw (witG l r)) := by
    obtain ⟨q1, q2⟩ := ha.out
    exact ⟨H4.out.1.trans (q2.mono H4.out.1.size), H4.out.2.below q2, q1.weaken (Nat.zero_le _)⟩
  clear ha H4
  go_wp2_with fail
  refine (HC.out.2.2.2 l _ w5 (HW.out.1.2.below H5.out.1) HW.out.1.1).mono ?_
  rintro e w6 ⟨vb, rfl, ha, hb⟩
  have H6 : Hid (PlS w (.slice oa n cap) (.slice ob nr cbm) vn vw vb l r w6) := by
    have b0 := H5.out.1.trans (hb.mono H5.out.1.size)
    have ha : OwR w5.heap.size w6 vb (bouL l) := ha
    exact ⟨HW.out.1.2.below b0, HW.out.2.1.below b0, H5.out.2.1.below hb, H5.out.2.2.below hb, ha.weaken (Nat.zero_le _), b0⟩
  clear ha hb H5
  have HGv : Hid (bouE l = 0 ∨ bouE l = 4) := PF.out.bou
  have HBo : Hid (bouE l = 0 → ∀ px py, hasC (bouL l) px py = !(atL px py l).isEmpty) := PF.out.bouH
  generalize bouE l = G at *
  go_upto_region 7 with fail
  go_cut [80] (fun s80 wx => s80 = .bool false ∧ Hid (PlS w (.slice oa n cap) (.slice ob nr cbm) vn vw vb l r wx))
  case first =>
    rcases HGv.out with rfl | rfl
    all_goals
      go_wp2_with fail
      refine (HC.out.1 (norL l) _ w6 H6.out.fn.lss PF.out.norW).mono ?_
      rintro e w7 ⟨rfl, hb⟩
      rw [PF.out.norC]
      have H7 : Hid (PlS w (.slice oa n cap) (.slice ob nr cbm) vn vw vb l r w7) := H6.out.below hb
      clear hb H6
      go_wp2_with fail
      refine (HC.out.1 (witG l r) _ w7 H7.out.fi.lss PF.out.witW).mono ?_
      rintro e w8 ⟨rfl, hb⟩
      rw [PF.out.witC]
      have H8 : Hid (PlS w (.slice oa n cap) (.slice ob nr cbm) vn vw vb l r w8) := H7.out.below hb
      clear hb H7
      go_wp2_with fail
      go_meet
      exact ⟨rfl, H8⟩
  case rest =>
  obtain ⟨rfl, H7⟩ := hcut
  clear H6
  generalize wc = w7 at *
  go_wp2_with fail
  go_loopw [12] (fun yv wr => ∃ y : Int, yv = .int .i64 y ∧ -3 ≤ y ∧ y ≤ 21 ∧ Hid (PlS w (.slice oa n cap) (.slice ob nr cbm) vn vw vb l r wr)) (fun yv _ => (21 - intOf yv).toNat)
  case atStart => exact ⟨-3, rfl, by omega, by omega, H7⟩
  case round =>
    obtain ⟨y, rfl, hy1, hy2, HR⟩ := hrel
    clear H7
    by_cases hlt : y < 21
    · go_wp2_with fail
      go_loopw [13] (fun xv wr => ∃ x : Int, xv = .int .i64 x ∧ -3 ≤ x ∧ x ≤ 21 ∧ Hid (PlS w (.slice oa n cap) (.slice ob nr cbm) vn vw vb l r wr)) (fun xv _ => (21 - intOf xv).toNat)
      case atStart => exact ⟨-3, rfl, by omega, by omega, HR⟩
      case round =>
        obtain ⟨x, rfl, hx1, hx2, HS⟩ := hrel
        clear HR
        by_cases hxl : x < 21
        · obtain ⟨bp, hbp⟩ : ∃ bp, bp = wr.heap.size := ⟨_, rfl⟩
          have S1 : Hid (PlS w (.slice oa n cap) (.slice ob nr cbm) vn vw vb l r (wr.alloc (.cells #[.int .i64 x, .int .i64 y] 23)) ∧ Bk (wr.alloc (.cells #[.int .i64 x, .int .i64 y] 23)) bp #[.int .i64 x, .int .i64 y] 23) := ⟨HS.out.below ((Below.refl _ _).alloc (Nat.le_refl _) _), by rw [hbp]; exact Bk.new _ _ _⟩
          clear HS
          go_upto_region 16 with fail
          rw [← hbp]
          clear hbp
          generalize wr.alloc (.cells #[.int .i64 x, .int .i64 y] 23) = W1 at *
          obtain ⟨d0, d1⟩ := S1.out.2.at2
          go_wp2_with fail
          refine (HCA.out l _ x y W1 S1.out.1.fl HW.out.1.1 (chk_ma HL0.out) (by have := HL.out.1; omega)).mono ?_
          rintro e W2 ⟨vh, rfl, ha⟩
          obtain ⟨T, hT⟩ : ∃ T, T = atL x y l := ⟨_, rfl⟩
          have HT : Hid (T = atL x y l) := hT
          have S2 : Hid (PpS w (.slice oa n cap) (.slice ob nr cbm) vn vw vb vh bp l T r x y W2) := by
            obtain ⟨q1, q2⟩ := ha.out
            rw [← hT] at q1
            exact ⟨S1.out.1.below q2, S1.out.2.below q2, q1.weaken (Nat.zero_le _)⟩
          clear ha S1 d0 d1 hT
          have HTl : Hid (T.length ≤ 40) := by have h5 := atS_len x y l [] true []; have h6 := HL.out.1; rw [List.length_nil] at h5; unfold Hid; rw [HT.out]; unfold atL; omega
          go_wp2_with fail
          go_loopw [16, 17] (fun bv iv wr => ∃ j : Nat, iv = .int .i64 j ∧ j ≤ nr ∧ bv = .bool ((r.take j).any fun q => zHa q x y) ∧ Hid (PpS w (.slice oa n cap) (.slice ob nr cbm) vn vw vb vh bp l T r x y wr)) (fun _ iv _ => nr - (intOf iv).toNat)
          case atStart => exact ⟨0, rfl, Nat.zero_le _, rfl, S2⟩
          case round =>
            obtain ⟨j, rfl, hj, rfl, HQ⟩ := hrel
            clear S2
            by_cases hjl : j < nr
            · have ij : (j : Int) < nr := by omega
              have hla : j < r.length := by rw [← HN.out.2]; exact hjl
              have HNx : Hid ((r.take (j + 1)).any (fun q => zHa q x y) = ((r.take j).any (fun q => zHa q x y) || zHa r[j] x y)) := by
                unfold Hid
                rw [(List.take_append_getElem hla).symm, List.any_append]
                simp
              obtain ⟨i1, i2⟩ := HW.out.2.2.2 _ (List.getElem_mem hla)
              obtain ⟨ob', cb', eo, _, hg⟩ := HQ.out.fs.fr
              injection eo with eo1 _ _
              subst eo1
              obtain ⟨g, o, rfl, hgl, hat⟩ := hg (by omega)
              have hrc := hat j hla
              have HH : Hid (∀ W, Calls Try.prog 30 #[.agg #[.int .i64 r[j].x, .int .i64 r[j].y, .int .i64 r[j].w, .int .i64 r[j].h], .agg #[.int .i64 x, .int .i64 y]] W fun e w' => e = .returned (.bool (zHa r[j] x y)) ∧ Below W.heap.size W w') := fun W => has_any _ _ _ _ _ _ W i1 i2
              clear hg hat i1 i2
              generalize hqe : r[j] = q at *
              clear hqe
              have HX : Hid (∀ t : Gw wr, RcAt t.wd g (o + j * 4) q) := fun t => hrc.kept fun p => t.below.cell (p := ⟨g, p, none⟩) hgl
              have HY : Hid (∀ t : Gw wr, Bk t.wd bp #[.int .i64 x, .int .i64 y] 23) := fun t => HQ.out.fp.below t.below
              have ne := gw_ne (Below.refl 0 wr)
              clear hrc
              generalize (r.take j).any (fun q => zHa q x y) = A at *
              generalize zHa q x y = Z at *
              cases A
              all_goals
                go_upto_region 21 with fail
                obtain ⟨e0, e1, e2, e3⟩ := forall_and4 HX.out
                have y0 := fun t => (HY.out t).at2.1
                have y1 := fun t => (HY.out t).at2.2
                refine wp_region_gw (by kernel_rfl) (by kernel_rfl) ?_
                repeat (go_big_quiet_step (first
                  | (go_at_call 30; exact gw_call (HH.out _))))
                refine wpQuiet_nil ?_
                rintro _ ⟨tt, rfl⟩
                have H8 : Hid (PpS w (.slice oa n cap) (.slice (some ⟨g, o, none⟩) nr cbm) vn vw vb vh bp l T r x y tt.wd) := HQ.out.below tt.below
                clear e0 e1 e2 e3 y0 y1 HX HY HQ
                generalize tt.wd = w8 at *
                go_wp2
                go_roundw
                case rel => exact ⟨j + 1, by go_num, by omega, by rw [HNx.out]; rfl, H8⟩
                case measure => simp [intOf]; omega
            · obtain rfl : nr = j := by omega
              have HA : Hid ((r.take nr).any (fun q => zHa q x y) = r.any (fun q => zHa q x y)) := by unfold Hid; rw [HN.out.2, List.take_length]
              have HAw : Hid (atL x y (norL l) = T ∧ atL x y (witG l r) = if r.any (fun q => zHa q x y) = true then T else []) := by
                rw [HT.out]
                exact ⟨PF.out.atN x y, PF.out.atW x y⟩
              rw [HA.out]
              generalize r.any (fun q => zHa q x y) = A at *
              clear HA hjl
              go_upto_region 22 with fail
              go_cut [137] from 85 to 156 (fun s137 wx => s137 = .bool false ∧ Hid (PpS w (.slice oa n cap) (.slice ob nr cbm) vn vw vb vh bp l T r x y wx))
              case first =>
                obtain ⟨d0, d1⟩ := HQ.out.fp.at2
                go_wp2_with fail
                refine (HCA.out (norL l) _ x y wr HQ.out.fs.fn.lss PF.out.norW (chk_ma PF.out.norC) (by have := PF.out.norM; have := HL.out.1; omega)).mono ?_
                rintro e w8 ⟨va, rfl, ha⟩
                have H8 : Hid (PpS w (.slice oa n cap) (.slice ob nr cbm) vn vw vb vh bp l T r x y w8 ∧ OwS 0 w8 va T) := by
                  obtain ⟨q1, q2⟩ := ha.out
                  rw [HAw.out.1] at q1
                  exact ⟨HQ.out.below q2, q1.weaken (Nat.zero_le _)⟩
                clear ha HQ d0 d1
                go_wp2_with fail
                refine (alikS_any T T _ _ w8 H8.out.2.lss H8.out.1.fh.lss (by have := HTl.out; omega)).mono ?_
                rintro e w9 ⟨rfl, hb⟩
                rw [samZ_self]
                have H9 : Hid (PpS w (.slice oa n cap) (.slice ob nr cbm) vn vw vb vh bp l T r x y w9) := H8.out.1.below hb
                clear hb H8
                obtain ⟨d0, d1⟩ := H9.out.fp.at2
                cases A
                · go_wp2_with fail
                  refine (HCA.out (witG l r) _ x y w9 H9.out.fs.fi.lss PF.out.witW (chk_ma PF.out.witC) (by have := PF.out.witN; omega)).mono ?_
                  rintro e w10 ⟨va2, rfl, ha⟩
                  have H10 : Hid (PpS w (.slice oa n cap) (.slice ob nr cbm) vn vw vb vh bp l T r x y w10 ∧ OwS 0 w10 va2 []) := by
                    obtain ⟨q1, q2⟩ := ha.out
                    rw [HAw.out.2] at q1
                    exact ⟨H9.out.below q2, q1.weaken (Nat.zero_le _)⟩
                  clear ha H9 d0 d1
                  obtain ⟨o2, c2, rfl, -, -⟩ := row_val H10.out.2
                  have H11 : Hid (PpS w (.slice oa n cap) (.slice ob nr cbm) vn vw vb vh bp l T r x y w10) := H10.out.1
                  simp only [List.length_nil]
                  clear H10
                  go_wp2_with fail
                  go_meet
                  exact ⟨rfl, H11⟩
                · go_wp2_with fail
                  refine (HCA.out (witG l r) _ x y w9 H9.out.fs.fi.lss PF.out.witW (chk_ma PF.out.witC) (by have := PF.out.witN; omega)).mono ?_
                  rintro e w10 ⟨va2, rfl, ha⟩
                  have H10 : Hid (PpS w (.slice oa n cap) (.slice ob nr cbm) vn vw vb vh bp l T r x y w10 ∧ OwS 0 w10 va2 T) := by
                    obtain ⟨q1, q2⟩ := ha.out
                    rw [HAw.out.2] at q1
                    exact ⟨H9.out.below q2, q1.weaken (Nat.zero_le _)⟩
                  clear ha H9 d0 d1
                  go_wp2_with fail
                  refine (alikS_any T T _ _ w10 H10.out.2.lss H10.out.1.fh.lss (by have := HTl.out; omega)).mono ?_
                  rintro e w11 ⟨rfl, hb⟩
                  rw [samZ_self]
                  have H11 : Hid (PpS w (.slice oa n cap) (.slice ob nr cbm) vn vw vb vh bp l T r x y w11) := H10.out.1.below hb
                  clear hb H10
                  go_wp2_with fail
                  go_meet
                  exact ⟨rfl, H11⟩
              case rest =>
              obtain ⟨rfl, H8⟩ := hcut
              clear HQ
              generalize wc = w8 at *
              obtain ⟨d0, d1⟩ := H8.out.fp.at2
              go_wp2_with fail
              refine (hasL_any (bouL l) _ x y w8 (lsr_own H8.out.fs.fb) PF.out.bouI).mono ?_
              rintro e w9 ⟨rfl, hb⟩
              have H9 : Hid (PpS w (.slice oa n cap) (.slice ob nr cbm) vn vw vb vh bp l T r x y w9) := H8.out.below hb
              clear hb H8 d0 d1
              have HBv : Hid (G = 0 → hasC (bouL l) x y = !T.isEmpty) := fun e => by rw [HT.out]; exact HBo.out e x y
              rw [PF.out.bouZ, show (decide ((0 : Int) = 0) && hasC (bouL l) x y) = hasC (bouL l) x y by simp]
              generalize hasC (bouL l) x y = hz at *
              obtain ⟨oh, ch, eh, hch, -⟩ := row_val H9.out.fh
              obtain ⟨tl, htl⟩ : ∃ tl, tl = T.length := ⟨_, rfl⟩
              rw [← htl] at eh hch
              have HTn : Hid (tl = T.length) := htl
              have htb : tl ≤ 40 := by have := HTl.out; omega
              subst eh
              have H10 : Hid (PlS w (.slice oa n cap) (.slice ob nr cbm) vn vw vb l r w9) := H9.out.fs
              clear H9 htl
              go_upto_region 25 with fail
              go_cut [156] from 85 to 156 (fun s156 wx => s156 = .bool false ∧ wx = w9)
              case first =>
                rcases HGv.out with rfl | rfl
                · by_cases h0 : tl = 0
                  · have hzz : hz = false := by
                      rw [HBv.out rfl, List.length_eq_zero_iff.1 (HTn.out.symm.trans h0)]
                      rfl
                    subst h0 hzz
                    go_wp2_with fail
                    go_meet
                    exact ⟨rfl, rfl⟩
                  · have hzz : hz = true := by
                      rw [HBv.out rfl]
                      have := HTn.out
                      cases hT2 : T with
                      | nil => rw [hT2] at this; exact absurd this h0
                      | cons a b => rfl
                    have i0 : (0 : Int) < tl := by omega
                    have i1 : 0 < tl := by omega
                    subst hzz
                    clear h0
                    go_wp2_with fail
                    go_meet
                    exact ⟨rfl, rfl⟩
                · go_wp2_with fail
                  go_meet
                  exact ⟨rfl, rfl⟩
              case rest =>
              obtain ⟨rfl, ew⟩ := hcut
              have ew2 := ew.symm
              subst ew2
              clear ew
              go_wp2
              go_roundw
              case rel => exact ⟨x + 1, by go_num, by omega, by omega, H10⟩
              case measure => simp [intOf]; omega
        · go_wp2
          go_roundw
          case rel => exact ⟨y + 1, by go_num, by omega, by omega, HS⟩
          case measure => simp [intOf]; omega
    · obtain ⟨on, cn, en, hcn, -⟩ := row_val HR.out.fn
      obtain ⟨kn, hkn⟩ : ∃ kn, kn = (norL l).length := ⟨_, rfl⟩
      have hkl : (kn : Int) ≤ n := by have := PF.out.norM; have := HN.out.1; omega
      rw [← hkn] at en hcn
      subst en
      clear hkn
      go_wp2_with fail
      refine (HC.out.2.1 (norL l) _ wr HR.out.fn.lss PF.out.norW).mono ?_
      rintro e w8 ⟨vm, rfl, ha⟩
      rw [PF.out.norC]
      have H8 : Hid (Below w.heap.size w w8 ∧ OwS 0 w8 (.slice on kn cn) (norL l) ∧ OwS 0 w8 vm (norL l)) := by
        obtain ⟨q1, q2⟩ := ha.out
        rw [PF.out.norN] at q1
        exact ⟨HR.out.fw.trans (q2.mono HR.out.fw.size), HR.out.fn.below q2, q1.weaken (Nat.zero_le _)⟩
      clear ha HR
      go_wp2_with fail
      refine (alikS_any (norL l) (norL l) _ _ w8 H8.out.2.2.lss H8.out.2.1.lss (by have := PF.out.norM; have := HL.out.1; omega)).mono ?_
      rintro e w9 ⟨rfl, hb⟩
      rw [samZ_self]
      have HZ : Hid (Below w.heap.size w w9) := H8.out.1.trans (hb.mono H8.out.1.size)
      clear hb H8
      go_wp2
      go_ret
      exact ⟨rfl, HZ.out⟩

end Go.Proofs.Ytbghjmkgicdnoaa
