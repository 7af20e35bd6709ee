/-
  Bounds as Solve takes them; memory of things of several cells.
-/
import Derived.Test.YthnhcphkpffkfaaGreatYR
import Derived.Test.YthnhcphkpffkfaaGreatLF2
namespace Go.Proofs.YthnhcphkpffkfaaGreat

def bqE (n : Nat) : List Bq := (List.range n).map fun (i : Nat) => ⟨(i : Int), (i : Int) + 1, 0⟩
def bqC (gap : Int) (c : Cl) (m : Int) : Bq := ⟨c.x, (c.x : Int) + c.k, m - ((c.k : Int) - 1) * gap⟩
def bqG (n : Nat) (gap : Int) (C : List Cl) (ms : List Int) : List Bq := bqE n ++ List.zipWith (bqC gap) C ms
theorem bqE_snoc (n : Nat) : bqE (n + 1) = bqE n ++ [⟨n, (n : Int) + 1, 0⟩] := by unfold bqE; rw [List.range_succ, List.map_append]; rfl
theorem bqE_len (n : Nat) : (bqE n).length = n := by simp [bqE]
theorem bqG_nat (n : Nat) (gap : Int) (C : List Cl) (ms : List Int) : nat (bqG n gap C ms) = bnG n gap C ms := by
  unfold nat bqG bnG
  rw [List.map_append]
  congr 1
  · unfold bqE bnE
    rw [List.map_map]
    refine List.map_congr_left fun i _ => ?_
    show natQ ⟨i, (i : Int) + 1, 0⟩ = _
    unfold natQ
    simp only [Int.toNat_natCast, Bn.mk.injEq, true_and, and_true]
    omega
  · unfold bnT
    rw [List.map_zipWith]
    congr 1
theorem bqG_len {n : Nat} {gap : Int} {C : List Cl} {ms : List Int} (h : Gri n gap C ms) : (bqG n gap C ms).length = n + ms.length := by
  unfold bqG
  rw [List.length_append, bqE_len, List.length_zipWith, h.len, Nat.min_self]
theorem bqG_ok {n : Nat} {gap : Int} {C : List Cl} {ms : List Int} (h : Gri n gap C ms) (hn : n ≤ 64) (hg : gap ≤ 16384) : ∀ q ∈ bqG n gap C ms, okQ ((n : Int) + 1) q = true := by
  intro q hq
  rw [okQ_iff]
  rcases List.mem_append.1 hq with hq | hq
  · unfold bqE at hq
    obtain ⟨i, hi, rfl⟩ := List.mem_map.1 hq
    have := List.mem_range.1 hi
    refine ⟨?_, ?_, ?_, ?_, ?_, ?_⟩ <;> simp only <;> omega
  · obtain ⟨i, hi, e⟩ := List.mem_iff_getElem.1 hq
    rw [List.getElem_zipWith] at e
    have hi' : i < C.length ∧ i < ms.length := by rw [List.length_zipWith] at hi; omega
    have h1 := h.cel C[i] (List.getElem_mem hi'.1)
    have h2 := h.ms ms[i] (List.getElem_mem hi'.2)
    have h3 := far_le h.gap h1.2
    have h4 : ((C[i].k : Int) - 1) * gap ≤ 63 * 16384 := Int.mul_le_mul (by omega) hg h.gap (by omega)
    subst e
    unfold bqC
    simp only
    omega
/-- What Solve answers. -/
theorem sol_grid {n : Nat} {gap : Int} {C : List Cl} {ms : List Int} (h : Gri n gap C ms) (hn : n ≤ 64) (hg : gap ≤ 16384) (hm : ms.length ≤ 1024) : solL ((n : Int) + 1) (bqG n gap C ms) = rowN (n + 1) (edG n gap C ms) ∧ solE ((n : Int) + 1) (bqG n gap C ms) = 0 := by
  have hc : chkQ ((n : Int) + 1) (bqG n gap C ms) = 0 := by
    unfold chkQ
    rw [if_neg (by omega), if_neg (by rw [bqG_len h]; omega), if_pos (List.all_eq_true.2 (bqG_ok h hn hg))]
  have hN : ((n : Int) + 1).toNat = n + 1 := by omega
  unfold solL solE
  rw [if_pos hc, if_pos hc]
  unfold slL slE
  rw [hN, bqG_nat, if_pos h.ends, if_pos h.ends]
  exact ⟨rfl, rfl⟩
theorem edG_bd {n : Nat} {gap : Int} {C : List Cl} {ms : List Int} (h : Gri n gap C ms) {v : Nat} (hn : v ≤ 64) : 0 ≤ edG n gap C ms v ∧ edG n gap C ms v ≤ 1048576 := by
  have h1 := h.nn v
  have h2 := h.le v
  omega

end Go.Proofs.YthnhcphkpffkfaaGreat

namespace Go.Proofs.YthnhcphkpffkfaaGreat
open Go.RowKit

/-- Each thing has k cells. -/
def Enc {α : Type} (k : Nat) (f : α → List Int) : Prop := ∀ a, (f a).length = k
def flatK {α : Type} (f : α → List Int) (l : List α) : List Value := flatI (l.flatMap f)
theorem flatK_app {α : Type} (f : α → List Int) (l m : List α) : flatK f (l ++ m) = flatK f l ++ flatK f m := by unfold flatK; rw [List.flatMap_append, flatI_app]
theorem flatK_one {α : Type} (f : α → List Int) (a : α) : flatK f [a] = flatI (f a) := by unfold flatK; simp
theorem flatK_len {α : Type} {k : Nat} {f : α → List Int} (h : Enc k f) : ∀ l : List α, (flatK f l).length = l.length * k
  | [] => by simp [flatK, flatI]
  | a :: l => by
    have ih := flatK_len h l
    rw [show a :: l = [a] ++ l from rfl, flatK_app, List.length_append, ih, flatK_one, flatI_len, h a, List.length_append, List.length_singleton, Nat.add_mul, Nat.one_mul]
theorem flatK_at {α : Type} {k : Nat} {f : α → List Int} (h : Enc k f) : ∀ (l : List α) (i : Nat) (hi : i < l.length) (j : Nat), j < k → (flatK f l)[i * k + j]? = some (.int .i64 ((f l[i]).getD j 0))
  | [], i, hi, _, _ => by simp at hi
  | a :: l, 0, _, j, hj => by
    have e : flatK f (a :: l) = flatI (f a) ++ flatK f l := by rw [← flatK_one, ← flatK_app]; rfl
    rw [e, Nat.zero_mul, Nat.zero_add, List.getElem?_append_left (by rw [flatI_len, h a]; exact hj)]
    rw [flatI_at _ _ (by rw [h a]; exact hj)]
    simp only [List.getElem_cons_zero, List.getD_eq_getElem?_getD, List.getElem?_eq_getElem (show j < (f a).length by rw [h a]; exact hj), Option.getD_some]
  | a :: l, i + 1, hi, j, hj => by
    have ih := flatK_at h l i (by simpa using hi) j hj
    have e : flatK f (a :: l) = flatI (f a) ++ flatK f l := by rw [← flatK_one, ← flatK_app]; rfl
    rw [e, List.getElem?_append_right (by rw [flatI_len, h a, Nat.add_mul]; omega), flatI_len, h a]
    rw [show (i + 1) * k + j - k = i * k + j by rw [Nat.add_mul]; omega, ih]
    simp
theorem flatK_ones {α : Type} (f : α → List Int) (l : List α) : ∀ u ∈ flatK f l, u.oneCell' = true := oneI _
/-- A slice that holds things. -/
def KS {α : Type} (k : Nat) (f : α → List Int) (w : World) (v : Value) (l : List α) : Prop := ∃ oa cap, v = .slice oa l.length cap ∧ l.length ≤ cap ∧ (0 < l.length → ∃ g o, oa = some ⟨g, o, none⟩ ∧ g < w.heap.size ∧ ∀ i (h : i < l.length) j, j < k → w.cell? ⟨g, o + i * k + j, none⟩ = some (.int .i64 ((f l[i]).getD j 0)))
theorem KS.below {α : Type} {k : Nat} {f : α → List Int} {w w' : World} {v : Value} {l : List α} (h : KS k f w v l) (hb : Below w.heap.size w w') : KS k f w' v l := by
  obtain ⟨oa, cap, e, hc, hg⟩ := h
  refine ⟨oa, cap, e, hc, fun hp => ?_⟩
  obtain ⟨g, o, e1, g1, g2⟩ := hg hp
  exact ⟨g, o, e1, Nat.lt_of_lt_of_le g1 hb.size, fun i hi j hj => (hb.cell (p := ⟨g, o + i * k + j, none⟩) g1).trans (g2 i hi j hj)⟩
/-- Things that a call made. -/
def OwK {α : Type} (t : TypeId) (k : Nat) (f : α → List Int) (lo : Nat) (w : World) (v : Value) (l : List α) : Prop := w.ownsRow lo t k v l.length (flatK f l)
theorem OwK.below {α : Type} {t : TypeId} {k : Nat} {f : α → List Int} {lo : Nat} {w w' : World} {v : Value} {l : List α} (h : OwK t k f lo w v l) (hb : Below w.heap.size w w') : OwK t k f lo w' v l := row_below h hb
theorem OwK.weaken {α : Type} {t : TypeId} {k : Nat} {f : α → List Int} {lo lo' : Nat} {w : World} {v : Value} {l : List α} (h : OwK t k f lo w v l) (hb : lo' ≤ lo) : OwK t k f lo' w v l := row_weaken h hb
theorem OwK.nil {α : Type} (t : TypeId) (k : Nat) (f : α → List Int) (lo : Nat) (w : World) : OwK t k f lo w (.slice none 0 0) ([] : List α) := World.ownsRow_nil _ _ _ _
theorem OwK.ks {α : Type} {t : TypeId} {k : Nat} {f : α → List Int} {lo : Nat} {w : World} {v : Value} {l : List α} (h : OwK t k f lo w v l) (he : Enc k f) : KS k f w v l := by
  obtain ⟨oa, cap, e, hc, hg⟩ := row_val h
  refine ⟨oa, cap, e, hc, fun hp => ?_⟩
  obtain ⟨g, e1, _, g2⟩ := hg hp
  subst e1
  subst e
  refine ⟨g, 0, rfl, g2, fun i hi j hj => ?_⟩
  have h1 : i * k + j < l.length * k := by
    have : (i + 1) * k ≤ l.length * k := Nat.mul_le_mul_right k (by omega)
    rw [Nat.add_mul] at this
    omega
  rw [Nat.zero_add, own_cell h _ h1]
  exact flatK_at he l i hi j hj
/-- Cells of one's own, one more. -/
theorem OwK.snoc {α : Type} {t : TypeId} {k : Nat} {f : α → List Int} {lo : Nat} {w : World} {v : Value} {l : List α} {a : α} {n : Nat} (hn : n = l.length + 1) (h : w.ownsRow lo t k v n (flatK f l ++ flatI (f a))) : OwK t k f lo w v (l ++ [a]) := by
  unfold OwK
  rw [flatK_app, flatK_one, List.length_append, List.length_singleton, ← hn]
  exact h
theorem cell_bk2 {w : World} {b : Nat} {x y : Value} {t : TypeId} (h : w.heap[b]? = some (.cells #[x, y] t)) : ∀ (j : Nat) (u : Value), [x, y][j]? = some u → w.cell? ((⟨b, 0, none⟩ : Addr).add j) = some u := by
  intro j u hj
  rw [addr_plus, Nat.zero_add, Bk.cell h]
  simpa using hj
theorem cell_two (w : World) (x y : Value) (t : TypeId) (b : Nat) (h : b = w.heap.size) : ∀ (j : Nat) (u : Value), [x, y][j]? = some u → (w.alloc (.cells #[x, y] t)).cell? ((⟨b, 0, none⟩ : Addr).add j) = some u := by
  subst h
  exact cell_bk2 (Bk.new w #[x, y] t)
theorem one2 (a b : Int) : ∀ u ∈ [Value.int .i64 a, .int .i64 b], u.oneCell' = true := by
  intro u hu
  simp at hu
  rcases hu with rfl | rfl <;> rfl
/-- The things of a grid. -/
def fP (c : Cl) : List Int := [(c.x : Int), (c.y : Int)]
def fZ (z : Sz) : List Int := [z.w, z.h]
def fQ (q : Bq) : List Int := [q.a, q.b, q.f]
def fT (t : Tk) : List Int := [t.mn, t.mx, t.gr]
def fR (r : Rc) : List Int := [r.x, r.y, r.w, r.h]
theorem encP : Enc 2 fP := fun _ => rfl
theorem encZ : Enc 2 fZ := fun _ => rfl
theorem encQ : Enc 3 fQ := fun _ => rfl
theorem encT : Enc 3 fT := fun _ => rfl
theorem encR : Enc 4 fR := fun _ => rfl
theorem KS.bs {w : World} {v : Value} {L : List Bq} (h : KS 3 fQ w v L) : BS w v L := by
  obtain ⟨oa, cap, e, hc, hg⟩ := h
  refine ⟨oa, cap, e, hc, fun hp => ?_⟩
  obtain ⟨g, o, e1, g1, g2⟩ := hg hp
  exact ⟨g, o, e1, g1, fun i hi => ⟨g2 i hi 0 (by omega), g2 i hi 1 (by omega), g2 i hi 2 (by omega)⟩⟩
theorem KS.ts {w : World} {v : Value} {L : List Tk} (h : KS 3 fT w v L) : TS w v L := by
  obtain ⟨oa, cap, e, hc, hg⟩ := h
  refine ⟨oa, cap, e, hc, fun hp => ?_⟩
  obtain ⟨g, o, e1, g1, g2⟩ := hg hp
  exact ⟨g, o, e1, g1, fun i hi => ⟨g2 i hi 0 (by omega), g2 i hi 1 (by omega), g2 i hi 2 (by omega)⟩⟩
theorem info_point : (Tryz.prog.info? 25).map (fun i => (i.zero, i.size, i.bytes)) = some (some (.agg #[.int .i64 0, .int .i64 0]), 2, 16) := by kernel_rfl
theorem info_size : (Tryz.prog.info? 27).map (fun i => (i.zero, i.size, i.bytes)) = some (some (.agg #[.int .i64 0, .int .i64 0]), 2, 16) := by kernel_rfl
theorem info_trackY : (Tryz.prog.info? 96).map (fun i => (i.zero, i.size, i.bytes)) = some (some (.agg #[.int .i64 0, .int .i64 0, .int .i64 0]), 3, 24) := by kernel_rfl
theorem info_boundY : (Tryz.prog.info? 100).map (fun i => (i.zero, i.size, i.bytes)) = some (some (.agg #[.int .i64 0, .int .i64 0, .int .i64 0]), 3, 24) := by kernel_rfl

end Go.Proofs.YthnhcphkpffkfaaGreat
