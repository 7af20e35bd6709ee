/-
  Contracts of package region: whether spans are the same; bands in memory.
-/
import Derived.Test.YtagkbpceiedikaaGH
namespace Go.Proofs.Ytagkbpceiedikaa
open Go.RowKit Go.Sort Go.Shelf

def encS (s : Sp) : List Value := [.int .i64 s.1, .int .i64 s.2]
theorem neq_span (x y : Sp) (w : World) : (binOp .neq 79 (.agg (encS x).toArray) (.agg (encS y).toArray)).run Try.prog w = .ok (.bool (!decide (x = y))) w := by
  have h : ∀ p q : Int, (p == q) = decide (p = q) := fun p q => by rw [Bool.eq_iff_iff]; simp
  obtain ⟨a, b⟩ := x
  obtain ⟨c, d⟩ := y
  by_cases h1 : a = c <;> by_cases h2 : b = d <;> simp [go_sem, encS, h, h1, h2]
theorem allEq_dec {α : Type} [DecidableEq α] : ∀ xs ys : List α, Lib.allEq (fun x y => decide (x = y)) xs ys = decide (xs = ys)
  | [], [] => rfl
  | [], _ :: _ => by simp [Lib.allEq]
  | _ :: _, [] => by simp [Lib.allEq]
  | x :: xs, y :: ys => by
    rw [Lib.allEq, allEq_dec xs ys]
    by_cases h1 : x = y <;> by_cases h2 : xs = ys <;> simp [h1, h2]
theorem eqsp_any (S C : List Sp) (v u : Value) (w : World) (hv : SpL w v S) (hu : SpL w u C) (hS : 0 < S.length) (hC : 0 < C.length) (hS2 : S.length ≤ 1000000) (hC2 : C.length ≤ 1000000) :
    Calls Try.prog 80 #[v, u] w fun e w' => e = .returned (.bool (decide (S = C))) ∧ Below w.heap.size w w' := by
  obtain ⟨oa, ca, rfl, hca, hga⟩ := hv.cells
  obtain ⟨ob, cb, rfl, hcb, hgb⟩ := hu.cells
  obtain ⟨g, rfl, _, hg⟩ := hga hS
  obtain ⟨g', rfl, _, hg'⟩ := hgb hC
  have key : ∀ (l : List Sp) (b : Nat), (∀ i (h : i < l.length), w.cell? ⟨b, i * 2, none⟩ = some (.int .i64 l[i].1) ∧ w.cell? ⟨b, i * 2 + 1, none⟩ = some (.int .i64 l[i].2)) → ∀ j, j < l.length → ∀ i v, (encS l[j]!)[i]? = some v → w.cell? ⟨b, 0 + j * 2 + i, none⟩ = some v := by
    intro l b h j hj i v hi
    have e : l[j]! = l[j] := by simp [hj]
    rw [e] at hi
    obtain ⟨h1, h2⟩ := h j hj
    rw [Nat.zero_add]
    match i, hi with
    | 0, hi => simp [encS] at hi; rw [← hi]; exact h1
    | 1, hi => simp [encS] at hi; rw [← hi]; exact h2
  have h := AnyQ.slices_Equal Try.eqSp 2 Try.isAgg79 Try.sizeOf79 encS (fun _ => rfl) (fun x y => decide (x = y)) ⟨neq_span, GuardAt.agg _ (by kernel_rfl)⟩ g 0 S.length ca g' 0 C.length cb S C w (Nat.le_refl _) (Nat.le_refl _) (by omega) (by omega) (key S g hg) (key C g' hg')
  change Calls Try.prog 80 _ _ _ at h
  rw [List.take_length, List.take_length, allEq_dec] at h
  exact h.mono fun e w' ⟨he, q, hw⟩ => ⟨he, by rw [hw]; exact below_drewN (Below.refl _ w)⟩

theorem runs_len (y : Int) : ∀ (l : List Rc) (acc : List Sp), (runsF y l acc).length ≤ acc.length + l.length
  | [], acc => by simp [runsF]
  | r :: t, acc => by
    rw [runsF]
    split
    · have := runs_len y t acc; simp; omega
    · have h := runs_len y t (runA acc r.x (r.x + r.w))
      have h2 : ∀ (acc : List Sp) (a b : Int), (runA acc a b).length ≤ acc.length + 1 := by
        intro acc a b
        rcases List.eq_nil_or_concat acc with rfl | ⟨i, s, e⟩
        · simp [runA]
        · rw [List.concat_eq_append] at e
          subst e
          rw [runA_snoc]
          split <;> simp
      have := h2 acc r.x (r.x + r.w)
      simp
      omega

/-- A band in memory: its numbers, the slice of its spans. -/
abbrev Bv := Int × Int × Value
def flatV : List Bv → List Value
  | [] => []
  | b :: t => .int .i64 b.1 :: .int .i64 b.2.1 :: b.2.2 :: flatV t
theorem flatV_app (l m : List Bv) : flatV (l ++ m) = flatV l ++ flatV m := by
  induction l with
  | nil => rfl
  | cons s l ih => simp [flatV, ih]
theorem flatV_len (l : List Bv) : (flatV l).length = l.length * 3 := by
  induction l with
  | nil => rfl
  | cons s l ih => simp [flatV, ih]; omega
theorem flatV_at (l : List Bv) (k : Nat) (h : k < l.length) : (flatV l)[k * 3]? = some (.int .i64 l[k].1) ∧ (flatV l)[k * 3 + 1]? = some (.int .i64 l[k].2.1) ∧ (flatV l)[k * 3 + 2]? = some l[k].2.2 := by
  induction l generalizing k with
  | nil => simp at h
  | cons s l ih =>
    cases k with
    | zero => simp [flatV]
    | succ k =>
      have h' : k < l.length := by simpa using h
      obtain ⟨i0, i1, i2⟩ := ih k h'
      have e : ∀ j, (flatV (s :: l))[(k + 1) * 3 + j]? = (flatV l)[k * 3 + j]? := fun j => by
        rw [show (k + 1) * 3 + j = (k * 3 + j) + 1 + 1 + 1 by omega]
        simp [flatV]
      have e0 := e 0
      rw [Nat.add_zero, Nat.add_zero] at e0
      exact ⟨e0.trans i0, (e 1).trans i1, (e 2).trans i2⟩
theorem flatV_set (l : List Bv) (e : Bv) (z : Int) : (flatV (l ++ [e])).set (l.length * 3 + 1) (.int .i64 z) = flatV (l ++ [(e.1, z, e.2.2)]) := by
  induction l with
  | nil => rfl
  | cons q t ih =>
    have h : (q :: t).length * 3 + 1 = (t.length * 3 + 1) + 1 + 1 + 1 := by simp; omega
    rw [h]
    simpa [flatV] using ih
/-- Bands in memory are these bands. -/
def Mt (w : World) : List Bv → List Bd → Prop
  | [], [] => True
  | b :: bt, d :: dt => (b.1 = d.1 ∧ b.2.1 = d.2.1 ∧ SpL w b.2.2 d.2.2) ∧ Mt w bt dt
  | _, _ => False
theorem Mt.len {w : World} : ∀ {bv : List Bv} {l : List Bd}, Mt w bv l → bv.length = l.length
  | [], [], _ => rfl
  | _ :: _, _ :: _, h => by rw [List.length_cons, List.length_cons, Mt.len h.2]
theorem Mt.map {w w' : World} (f : ∀ v l, SpL w v l → SpL w' v l) : ∀ {bv : List Bv} {l : List Bd}, Mt w bv l → Mt w' bv l
  | [], [], _ => trivial
  | _ :: _, _ :: _, h => ⟨⟨h.1.1, h.1.2.1, f _ _ h.1.2.2⟩, Mt.map f h.2⟩
theorem Mt.below {w w' : World} {bv : List Bv} {l : List Bd} (h : Mt w bv l) (hb : Below w.heap.size w w') : Mt w' bv l := h.map fun _ _ k => k.below hb
theorem info_band : (Try.prog.info? 77).map (fun i => (i.zero, i.size, i.bytes)) = some (some (.agg #[.int .i64 0, .int .i64 0, .slice none 0 0]), 3, 40) := by kernel_rfl
theorem cell_threeB (w : World) (x y z : Value) (t : TypeId) (b : Nat) (h : b = w.heap.size) : ∀ (j : Nat) (u : Value), [x, y, z][j]? = some u → (w.alloc (.cells #[x, y, z] t)).cell? ((⟨b, 0, none⟩ : Addr).add j) = some u := by
  intro j u hj
  subst h
  match j, hj with
  | 0, hj => simp at hj; subst hj; simp [Addr.add]
  | 1, hj => simp at hj; subst hj; simp [Addr.add]
  | 2, hj => simp at hj; subst hj; simp [Addr.add]
theorem one3 (a b : Int) (o : Option Addr) (n c : Nat) : ∀ u ∈ [Value.int .i64 a, .int .i64 b, .slice o n c], u.oneCell' = true := by
  intro u hu
  simp at hu
  rcases hu with rfl | rfl | rfl <;> rfl
/-- The function that leaves something of two rows. -/
def fnW (k : Bool) : Nat := if k then 52 else 44
theorem want_any (k : Bool) (S C : List Sp) (v u : Value) (w : World) (hv : SpL w v S) (hu : SpL w u C) (hS : S.length ≤ 400000) (hC : C.length ≤ 400000) :
    Calls Try.prog (fnW k) #[v, u] w fun e w' => ∃ z, e = .returned z ∧ SpL w' z (wantF k S C) ∧ Below w.heap.size w w' := by
  cases k with
  | false => exact pieces_any S C v u w hv hu (by omega) (by omega)
  | true => exact shared_any S C v u w hv hu hS hC
theorem want_len (k : Bool) (S C : List Sp) : (wantF k S C).length ≤ 2 * S.length + C.length := by
  have h1 := pieces_len S C
  have h2 := pieces_len S (piecesF S C)
  unfold wantF
  cases k <;> simp <;> omega

end Go.Proofs.Ytagkbpceiedikaa
