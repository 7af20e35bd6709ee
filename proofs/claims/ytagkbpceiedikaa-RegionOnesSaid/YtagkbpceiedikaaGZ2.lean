/-
  Areas of forms are numbers of places: they add up.
-/
import Derived.Test.YtagkbpceiedikaaGZ
import Derived.Test.YtagkbpceiedikaaGN
namespace Go.Proofs.Ytagkbpceiedikaa

theorem sumN_app {α : Type} (f : α → Nat) : ∀ l m : List α, sumN f (l ++ m) = sumN f l + sumN f m
  | [], m => by rw [List.nil_append, sumN, Nat.zero_add]
  | x :: l, m => by rw [List.cons_append, sumN, sumN, sumN_app f l m]; omega
theorem sumN_range (p q : Nat) (h : p ≤ q) : ∀ n, sumN (fun i => if p ≤ i ∧ i < q then 1 else 0) (List.range n) = min q n - min p n
  | 0 => by simp [sumN]
  | n + 1 => by
    rw [List.range_succ, sumN_app, sumN_range p q h n, sumN, sumN]
    split <;> omega
theorem sumN_mul {α : Type} (c : Nat) (f : α → Nat) : ∀ l : List α, sumN (fun x => c * f x) l = c * sumN f l
  | [] => rfl
  | x :: l => by rw [sumN, sumN, sumN_mul c f l, Nat.mul_add]
def numI (i : Nat) : Int := (i : Int) - 16384
/-- The numbers of a side. -/
def SideOk (S : List Nat) : Prop := ∀ lo hi : Int, -16384 ≤ lo → lo ≤ hi → hi ≤ 16384 → sumN (fun i => if lo ≤ numI i ∧ numI i < hi then 1 else 0) S = (hi - lo).toNat
theorem side_gen (n : Nat) (hn : n = 32768) : SideOk (List.range n) := fun lo hi h1 h2 h3 => by
  have h := sumN_range (lo + 16384).toNat (hi + 16384).toNat (by omega) n
  have e : (fun i => if lo ≤ numI i ∧ numI i < hi then 1 else 0) = fun i => if (lo + 16384).toNat ≤ i ∧ i < (hi + 16384).toNat then 1 else 0 := by
    funext i
    have hp : (lo ≤ numI i ∧ numI i < hi) ↔ ((lo + 16384).toNat ≤ i ∧ i < (hi + 16384).toNat) := by
      unfold numI
      omega
    by_cases c : (lo + 16384).toNat ≤ i ∧ i < (hi + 16384).toNat
    · rw [if_pos (hp.2 c), if_pos c]
    · rw [if_neg (fun q => c (hp.1 q)), if_neg c]
  rw [e, h]
  omega
theorem side_is : ∃ S, SideOk S := ⟨_, side_gen _ rfl⟩
/-- All places. -/
def allP (S : List Nat) (f : Int → Int → Nat) : Nat := sumN (fun i => sumN (fun j => f (numI j) (numI i)) S) S
theorem allP_add (S : List Nat) (f g : Int → Int → Nat) : allP S (fun x y => f x y + g x y) = allP S f + allP S g := by
  unfold allP
  rw [← sumN_add]
  congr 1
  funext i
  rw [← sumN_add]
theorem allP_zero (S : List Nat) : allP S (fun _ _ => 0) = 0 := by
  have e : (fun i : Nat => sumN (fun _ : Nat => 0) S) = fun _ => 0 := by funext i; exact sumN_zero S
  show sumN (fun i : Nat => sumN (fun _ : Nat => 0) S) S = 0
  rw [e]
  exact sumN_zero S
def inR (r : Rc) (x y : Int) : Nat := if r.y ≤ y ∧ y < r.y + r.h then (if r.x ≤ x ∧ x < r.x + r.w then 1 else 0) else 0
theorem one_area {S : List Nat} (hS : SideOk S) {r : Rc} (h : keepE r = true) : ((allP S (inR r) : Nat) : Int) = areaI r.x r.y r.w r.h := by
  have hk := (keepE_iff r).1 h
  have e : allP S (inR r) = r.h.toNat * r.w.toNat := by
    unfold allP
    have e1 : (fun i => sumN (fun j => inR r (numI j) (numI i)) S) = fun i => r.w.toNat * (if r.y ≤ numI i ∧ numI i < r.y + r.h then 1 else 0) := by
      funext i
      unfold inR
      by_cases c : r.y ≤ numI i ∧ numI i < r.y + r.h
      · simp only [if_pos c, Nat.mul_one]
        rw [hS r.x (r.x + r.w) (by omega) (by omega) (by omega)]
        congr 1
        omega
      · simp only [if_neg c, Nat.mul_zero]
        exact sumN_zero _
    rw [e1, sumN_mul, hS r.y (r.y + r.h) (by omega) (by omega) (by omega), Nat.mul_comm]
    congr 2
    omega
  rw [e]
  unfold areaI
  have hb : emptyB r.x r.y r.w r.h = false := by unfold keepE at h; simpa using h
  rw [hb, if_neg (by decide)]
  have p1 : ((r.h.toNat : Nat) : Int) = r.h := by omega
  have p2 : ((r.w.toNat : Nat) : Int) = r.w := by omega
  rw [Int.natCast_mul, p1, p2, Int.mul_comm]
theorem all_area {S : List Nat} (hS : SideOk S) : ∀ {F : List Rc}, (∀ r ∈ F, keepE r = true) → ((allP S (fun x y => sumN (fun r => inR r x y) F) : Nat) : Int) = arS F
  | [], _ => by
    show ((allP S (fun _ _ => 0) : Nat) : Int) = 0
    rw [allP_zero]
    rfl
  | r :: F, h => by
    have e : allP S (fun x y => sumN (fun r => inR r x y) (r :: F)) = allP S (inR r) + allP S (fun x y => sumN (fun r => inR r x y) F) := by
      rw [← allP_add]
      rfl
    rw [e, Int.natCast_add, one_area hS (h r (List.mem_cons_self ..)), all_area hS (fun q hq => h q (List.mem_cons_of_mem _ hq)), arS]
theorem flat_sum (f : Rc → Nat) (l : List Bd) : sumN f (flatB l) = sumN (fun d => sumN f (rcts d)) l := by
  unfold flatB
  induction l with
  | nil => rfl
  | cons d l ih =>
    rw [List.reverse_cons, List.map_append, List.flatten_append, sumN_app, ih, sumN]
    simp only [List.map_cons, List.map_nil, List.flatten_cons, List.flatten_nil, List.append_nil]
    omega
def cntS (x : Int) (l : List Sp) : Nat := sumN (fun s : Sp => if s.1 ≤ x ∧ x < s.2 then 1 else 0) l
theorem cntS_none (x : Int) : ∀ {l : List Sp}, ¬ inS l x → cntS x l = 0
  | [], _ => rfl
  | s :: l, h => by
    have h1 : ¬ (s.1 ≤ x ∧ x < s.2) := fun c => h ((inS_cons _ _ _).2 (.inl c))
    have h2 : ¬ inS l x := fun c => h ((inS_cons _ _ _).2 (.inr c))
    have ih := cntS_none x h2
    unfold cntS at ih ⊢
    rw [sumN, if_neg h1, ih]
theorem cntS_one (x : Int) : ∀ {a : Int} {l : List Sp}, Can a l → inS l x → cntS x l = 1
  | _, [], _, h => absurd h (inS_nil x)
  | a, s :: l, hc, h => by
    by_cases c : s.1 ≤ x ∧ x < s.2
    · have h2 : ¬ inS l x := fun q => by have := Can.low hc.2.2 q; omega
      have ih := cntS_none x h2
      unfold cntS at ih ⊢
      rw [sumN, if_pos c, ih]
    · have h2 : inS l x := by
        rcases (inS_cons _ _ _).1 h with h | h
        · exact absurd h c
        · exact h
      have ih := cntS_one x hc.2.2 h2
      unfold cntS at ih ⊢
      rw [sumN, if_neg c, ih]
theorem rcts_sum (d : Bd) (x y : Int) : sumN (fun r => inR r x y) (rcts d) = if d.1 ≤ y ∧ y < d.2.1 then cntS x d.2.2 else 0 := by
  unfold rcts cntS
  generalize d.2.2 = l
  induction l with
  | nil => simp [sumN]
  | cons s l ih =>
    rw [List.map_cons, sumN, ih, sumN]
    unfold inR
    dsimp only
    rw [show d.1 + (d.2.1 - d.1) = d.2.1 by omega, show s.1 + (s.2 - s.1) = s.2 by omega]
    split <;> rfl
theorem ban_sum (x y : Int) : ∀ {z : Int} {l : List Bd}, BanR z l → sumN (fun d => sumN (fun r => inR r x y) (rcts d)) l = cntS x (fAt l y)
  | _, [], _ => rfl
  | z, d :: l, h => by
    obtain ⟨h1, h2, h3, h4, h5⟩ := h
    rw [sumN, rcts_sum d x y, ban_sum x y h5, fAt]
    by_cases c : d.1 ≤ y ∧ y < d.2.1
    · rw [if_pos c, if_pos c, fAt_high h5 y c.1]
      rfl
    · rw [if_neg c, if_neg c, Nat.zero_add]
open Classical in
/-- The area of a form: its places, counted. -/
theorem form_area {S : List Nat} (hS : SideOk S) (k : Bool) (a b : List Rc) : arS (formF k a b) = ((allP S (fun x y => if keepP k (cov a x y) (cov b x y) then 1 else 0) : Nat) : Int) := by
  rw [← all_area hS (form_keep k a b)]
  congr 2
  funext x y
  obtain ⟨⟨z, h1⟩, h2⟩ := bandsR_ban k a b
  unfold formF
  rw [flat_sum, ban_sum x y h1, h2]
  obtain ⟨c1, c2⟩ := rowW_can k a b y
  by_cases c : keepP k (cov a x y) (cov b x y)
  · rw [if_pos c, cntS_one x c1 ((c2 x).2 c)]
  · rw [if_neg c, cntS_none x (fun q => c ((c2 x).1 q))]
/-- Areas add up. -/
theorem area_two_ways (a b : List Rc) : arS (formF false (a ++ b) []) + arS (formF true a b) = arS (formF false a []) + arS (formF false b []) := by
  classical
  obtain ⟨S, hS⟩ := side_is
  rw [form_area hS, form_area hS, form_area hS, form_area hS, ← Int.natCast_add, ← Int.natCast_add, ← allP_add, ← allP_add]
  congr 2
  funext x y
  have n1 : ∀ A : Prop, keepP false A (cov [] x y) ↔ A := fun A => by unfold keepP; simp [cov_nil]
  have n2 : ∀ A B : Prop, keepP true A B ↔ A ∧ B := fun A B => by unfold keepP; simp
  simp only [n1, n2, cov_app]
  by_cases p : cov a x y <;> by_cases q : cov b x y <;> simp [p, q]

end Go.Proofs.Ytagkbpceiedikaa
