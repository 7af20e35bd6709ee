/-
  Texts of this claim, one behind the other: what each is about stands ahead of it.
-/
import Derived.Test.YtapachlhdgehjaaGreatDoorK20
import Derived.Test.YtapachlhdgehjaaGreatDoorK21
import Derived.Test.YtapachlhdgehjaaGreatDoorK0
import Derived.Laws.AppendOwnNone
import Derived.Test.YtapachlhdgehjaaGreatDoorK2
import Derived.Test.YtapachlhdgehjaaGreatDoorK3
import Derived.Deep.DeepCutAuto
import Derived.BigQuiet
import Derived.Test.YtapachlhdgehjaaGreatDoorK18
import Derived.Test.YtapachlhdgehjaaGreatDoorK16
/-
  Contracts: slices.Concat of two lists of rectangles; package region's Join.
-/
namespace Go.Proofs.YtapachlhdgehjaaGreatDoor
open Go.RowKit

end Go.Proofs.YtapachlhdgehjaaGreatDoor

/-
  Contracts of package geom: whether one lies in another, over another.
-/
namespace Go.Proofs.YtapachlhdgehjaaGreatDoor
open Go.RowKit

end Go.Proofs.YtapachlhdgehjaaGreatDoor

/-
  Contracts: two corners make a rectangle, by the program and by the document's answer.
-/
namespace Go.Proofs.YtapachlhdgehjaaGreatDoor
open Go.RowKit

end Go.Proofs.YtapachlhdgehjaaGreatDoor

/-
  Contracts of the document's answer: what two have together; the least one that has both; whether one lies in another, over another.
-/
namespace Go.Proofs.YtapachlhdgehjaaGreatDoor
open Go.RowKit
attribute [local go_sem] ite_max ite_min

end Go.Proofs.YtapachlhdgehjaaGreatDoor

/-
  Contracts of the document's answer for layer 13: the rectangles in which strokes show.
-/
namespace Go.Proofs.YtapachlhdgehjaaGreatDoor
open Go.RowKit

def OwR (lo : Nat) (w : World) (v : Value) (rs : List Rc) : Prop := w.ownsRow lo 52 4 v rs.length (flat rs)
theorem OwR.nil (lo : Nat) (w : World) : OwR lo w (.slice none 0 0) [] := World.ownsRow_nil _ _ _ _
theorem OwR.below {lo : Nat} {w w' : World} {v : Value} {rs : List Rc} (h : OwR lo w v rs) (hb : Below w.heap.size w w') : OwR lo w' v rs := row_below h hb
theorem OwS.below {lo : Nat} {w w' : World} {v : Value} {l : List St} (h : OwS lo w v l) (hb : Below w.heap.size w w') : OwS lo w' v l := row_below h hb
theorem OwR.weaken {lo lo' : Nat} {w : World} {v : Value} {rs : List Rc} (h : OwR lo w v rs) (hb : lo' ≤ lo) : OwR lo' w v rs := row_weaken h hb
theorem OwS.weaken {lo lo' : Nat} {w : World} {v : Value} {l : List St} (h : OwS lo w v l) (hb : lo' ≤ lo) : OwS lo' w v l := row_weaken h hb
def Apt (u v : Value) : Prop := ∀ g, u.ownBlock = some g → v.ownBlock ≠ some g
theorem Apt.ne {u v : Value} (h : Apt u v) : v.ownBlock = none ∨ v.ownBlock ≠ u.ownBlock := by
  cases e : v.ownBlock with
  | none => exact .inl rfl
  | some g => exact .inr fun c => h g c.symm e
theorem Apt.turn {u v : Value} (h : Apt u v) : Apt v u := fun g hv hu => h g hu hv
theorem Apt.grow {u v : Value} {lo H g n cap : Nat} {W : World} {e : TypeId} {size m : Nat} {xs : List Value} (h : Apt u v) (hv : W.ownsRow lo e size v m xs) (hH : W.heap.size ≤ H) (hl : u.ownBlock = some g ∨ g = H) : Apt (.slice (some ⟨g, 0, none⟩) n cap) v := by
  intro q hq hvq
  have e1 : q = g := by
    have : (Value.slice (some ⟨g, 0, none⟩) n cap).ownBlock = some g := rfl
    rw [this] at hq
    injection hq with hq
    exact hq.symm
  subst e1
  rcases hl with hl | hl
  · exact h q hl hvq
  · have := (row_lt hv q hvq).2
    omega
theorem own_cut {w : World} {base : Nat} {e : TypeId} {size n g cap : Nat} {xs ys : List Value} (h : w.ownsRow base e size (.slice (some ⟨g, 0, none⟩) (n + 1) cap) (n + 1) (xs ++ ys)) (hx : xs.length = n * size) : w.ownsRow base e size (.slice (some ⟨g, 0, none⟩) n cap) n xs := by
  obtain ⟨hl, ⟨h, _⟩ | ⟨g', cap', cur, h, hb, hc, h1, h2, h3, h4⟩⟩ := h
  · cases h
  · injection h with e1 _ e3
    injection e1 with e1
    injection e1 with e1 _ _
    subst e1 e3
    refine ⟨hx, .inr ⟨g, cap, cur, rfl, hb, hc, by omega, h2, h3, ?_⟩⟩
    have h5 : (cur.toList.take ((n + 1) * size)).take (n * size) = (xs ++ ys).take (n * size) := by rw [h4]
    rw [List.take_take, Nat.min_eq_left (Nat.mul_le_mul_right size (by omega)), List.take_left' hx] at h5
    exact h5

theorem sh_next {l : List St} {k : Nat} {cs : List Rc} (hk : k < l.length) (hd : (ann [] l).drop k = ann cs (l.drop k)) (he : clpE cs.length (l.drop k) = 0) :
    ((ann [] l).map Prod.snd).take (k + 1) = ((ann [] l).map Prod.snd).take k ++ [shR cs l[k]] ∧ (ann [] l).drop (k + 1) = ann (nxC cs l[k]) (l.drop (k + 1)) ∧ clpE (nxC cs l[k]).length (l.drop (k + 1)) = 0 ∧ (l[k].k = 5 → cs ≠ []) ∧ oneE l[k] = 0 := by
  rw [List.drop_eq_getElem_cons hk] at hd he
  have hk' : k < (ann [] l).length := by rw [ann_len]; exact hk
  have hk2 : k < ((ann [] l).map Prod.snd).length := by rw [List.length_map]; exact hk'
  rw [List.drop_eq_getElem_cons hk'] at hd
  have hd : (ann [] l)[k] :: (ann [] l).drop (k + 1) = (l[k], shR cs l[k]) :: ann (nxC cs l[k]) (l.drop (k + 1)) := hd
  injection hd with hd1 hd2
  obtain ⟨e1, e2, e3⟩ := clpE_cons he
  refine ⟨?_, hd2, by rw [nxC_len]; exact e3, fun h5 hn => e2 ⟨h5, by rw [hn]; rfl⟩, e1⟩
  rw [← List.take_append_getElem hk2, List.getElem_map, hd1]
theorem clp_le : ∀ (l : List St) (n : Nat), clpE n l = 0 → n ≤ l.length
  | [], n, h => by
    unfold clpE at h
    split at h
    · cases h
    · omega
  | s :: l, n, h => by
    obtain ⟨_, _, h3⟩ := clpE_cons h
    have := clp_le l _ h3
    have e : n ≤ opn n s + 1 := by
      unfold opn
      by_cases h4 : s.k = 4
      · rw [if_pos h4]; omega
      · rw [if_neg h4]
        split <;> omega
    rw [List.length_cons]
    omega
theorem Bk.put4 {W : World} {b : Nat} {a0 a1 a2 a3 : Value} {t : TypeId} (h : Bk W b #[a0, a1, a2, a3] t) (x y z u : Value) : Bk ((((W.setCell ⟨b, 0, none⟩ x).setCell ⟨b, 1, none⟩ y).setCell ⟨b, 2, none⟩ z).setCell ⟨b, 3, none⟩ u) b #[x, y, z, u] t := (((h.put 0 x).put 1 y).put 2 z).put 3 u
theorem Bk.at4 {W : World} {b : Nat} {a0 a1 a2 a3 : Value} {t : TypeId} (h : Bk W b #[a0, a1, a2, a3] t) : W.cell? ⟨b, 0, none⟩ = some a0 ∧ W.cell? ⟨b, 1, none⟩ = some a1 ∧ W.cell? ⟨b, 2, none⟩ = some a2 ∧ W.cell? ⟨b, 3, none⟩ = some a3 := ⟨by rw [h.cell]; rfl, by rw [h.cell]; rfl, by rw [h.cell]; rfl, by rw [h.cell]; rfl⟩
theorem own_grow {lo : Nat} {W W4 : World} {o : Obj} {u v : Value} {rs cs : List Rc} {r : Rc} {k g4 cap4 : Nat} (hk : k = rs.length) (hv : OwR lo W v cs) (ha : Apt u v)
    (hown : W4.ownsRow lo 52 4 (.slice (some ⟨g4, 0, none⟩) (k + 1) cap4) (k + 1) (flat rs ++ [.int .i64 r.x, .int .i64 r.y, .int .i64 r.w, .int .i64 r.h])) (hgrow : (W.alloc o).grownBy W4 u.ownBlock) (hlies : u.ownBlock = some g4 ∨ g4 = W.heap.size + 1) :
    OwR lo W4 (.slice (some ⟨g4, 0, none⟩) (k + 1) cap4) (rs ++ [r]) ∧ OwR lo W4 v cs ∧ Apt (.slice (some ⟨g4, 0, none⟩) (k + 1) cap4) v := by
  have a1 : OwR lo (W.alloc o) v cs := hv.below ((Below.refl _ _).alloc (Nat.le_refl _) _)
  refine ⟨?_, World.ownsRow.kept a1 hgrow ha.ne, Apt.grow ha a1 (by simp) hlies⟩
  unfold OwR
  rw [List.length_append, List.length_singleton, ← hk, flat_app, flat_one]
  exact hown
end Go.Proofs.YtapachlhdgehjaaGreatDoor

/-
  Contracts of the document's answer for layer 13: lists compared.
-/
namespace Go.Proofs.YtapachlhdgehjaaGreatDoor
open Go.RowKit

def samZ : List St → List St → Bool
  | [], [] => true
  | x :: a, y :: b => eqS x y && samZ a b
  | _, _ => false
theorem samZ_iff : ∀ a b : List St, samZ a b = true ↔ a = b
  | [], [] => by simp [samZ]
  | [], _ :: _ => by simp [samZ]
  | _ :: _, [] => by simp [samZ]
  | x :: a, y :: b => by rw [samZ, Bool.and_eq_true, eqS_iff, samZ_iff a b]; simp
theorem samZ_self (a : List St) : samZ a a = true := (samZ_iff a a).2 rfl
theorem samZ_no {a b : List St} (h : a ≠ b) : samZ a b = false := by
  cases e : samZ a b
  · rfl
  · exact absurd ((samZ_iff a b).1 e) h

theorem cell_strokeB (w : World) (s : St) (t : TypeId) (b : Nat) (h : b = w.heap.size) : ∀ (j : Nat) (u : Value), (sCel s)[j]? = some u → (w.alloc (.cells (#[.int .u8 s.k, .int .i64 s.r.x, .int .i64 s.r.y, .int .i64 s.r.w, .int .i64 s.r.h, .int .u8 s.c.r, .int .u8 s.c.g, .int .u8 s.c.b, .int .u8 s.c.a, .int .u8 s.b.r, .int .u8 s.b.g, .int .u8 s.b.b, .int .u8 s.b.a, .string s.t, .int .i64 s.n]) t)).cell? ((⟨b, 0, none⟩ : Addr).add j) = some u := by
  intro j u hj
  subst h
  have e : (⟨w.heap.size, 0, none⟩ : Addr).add j = ⟨w.heap.size, j, none⟩ := by
    simp [Addr.add]
    intro h
    exact h.symm
  rw [e, (Bk.new w (#[.int .u8 s.k, .int .i64 s.r.x, .int .i64 s.r.y, .int .i64 s.r.w, .int .i64 s.r.h, .int .u8 s.c.r, .int .u8 s.c.g, .int .u8 s.c.b, .int .u8 s.c.a, .int .u8 s.b.r, .int .u8 s.b.g, .int .u8 s.b.b, .int .u8 s.b.a, .string s.t, .int .i64 s.n]) t).cell j, ← hj]
  show (sCel s).toArray[j]? = _
  simp

end Go.Proofs.YtapachlhdgehjaaGreatDoor

/-
  Contracts of the document's answer for layer 13: lists compared; flat lists.
-/
namespace Go.Proofs.YtapachlhdgehjaaGreatDoor
open Go.RowKit

theorem grow_row {lo : Nat} {W W4 : World} {o : Obj} {u v : Value} {e : TypeId} {size m g4 n cap4 : Nat} {xs : List Value} (hv : W.ownsRow lo e size v m xs) (ha : Apt u v) (hgrow : (W.alloc o).grownBy W4 u.ownBlock) (hlies : u.ownBlock = some g4 ∨ g4 = W.heap.size + 1) : W4.ownsRow lo e size v m xs ∧ Apt (.slice (some ⟨g4, 0, none⟩) n cap4) v := by
  have a1 : (W.alloc o).ownsRow lo e size v m xs := row_below hv ((Below.refl _ _).alloc (Nat.le_refl _) _)
  exact ⟨World.ownsRow.kept a1 hgrow ha.ne, Apt.grow ha a1 (by simp) hlies⟩
theorem snocS {lo : Nat} {W : World} {v : Value} {L : List St} {x : St} {k : Nat} (hk : k = L.length) (h : W.ownsRow lo 55 15 v (k + 1) (flatZ L ++ sCel x)) : OwS lo W v (L ++ [x]) := by
  unfold OwS
  rw [List.length_append, List.length_singleton, ← hk, flatZ_app, flatZ_one]
  exact h
theorem snocR {lo : Nat} {W : World} {v : Value} {L : List Rc} {r : Rc} {k : Nat} (hk : k = L.length) (h : W.ownsRow lo 52 4 v (k + 1) (flat L ++ [.int .i64 r.x, .int .i64 r.y, .int .i64 r.w, .int .i64 r.h])) : OwR lo W v (L ++ [r]) := by
  unfold OwR
  rw [List.length_append, List.length_singleton, ← hk, flat_app, flat_one]
  exact h

def fla1 (l : List St) : List St := if chkS l = 0 then (flaL l).map Prod.fst else []
def fla2 (l : List St) : List Rc := if chkS l = 0 then (flaL l).map Prod.snd else []
def AnsF (w : World) (l : List St) (e : Ending) (w' : World) : Prop := ∃ u q, e = .returned (.tuple #[u, q, .int .i64 (chkS l)]) ∧ Hid (OwS w.heap.size w' u (fla1 l) ∧ OwR w.heap.size w' q (fla2 l) ∧ Apt u q ∧ Below w.heap.size w w')

structure FlW (B : Nat) (w2 : World) (A : List (St × Rc)) (k : Nat) (u q : Value) (W : World) : Prop where
  s : OwS B W u (((A.take k).filter fun p => drw p.1).map Prod.fst)
  r : OwR B W q (((A.take k).filter fun p => drw p.1).map Prod.snd)
  a : Apt u q
  b : Below B w2 W
theorem FlW.below {B : Nat} {w2 : World} {A : List (St × Rc)} {k : Nat} {u q : Value} {W W' : World} (h : FlW B w2 A k u q W) (hB : B ≤ W.heap.size) (hb : Below W.heap.size W W') : FlW B w2 A k u q W' := ⟨h.s.below hb, h.r.below hb, h.a, h.b.trans (hb.mono hB)⟩

end Go.Proofs.YtapachlhdgehjaaGreatDoor

/-
  Contracts of package list: the rectangles in which strokes show.
-/
namespace Go.Proofs.YtapachlhdgehjaaGreatDoor
open Go.RowKit

theorem flat_rep (n : Nat) : flat (List.replicate n zr) = List.replicate (n * 4) (.int .i64 0) := by
  induction n with
  | zero => rfl
  | succ n ih =>
    rw [List.replicate_succ, show (n + 1) * 4 = n * 4 + 1 + 1 + 1 + 1 by omega, List.replicate_succ, List.replicate_succ, List.replicate_succ, List.replicate_succ]
    show cel zr ++ flat (List.replicate n zr) = _
    rw [ih]
    rfl
set_option maxRecDepth 20000 in
theorem info_rcN : (Tryz.prog.info? 52).map (fun i => (i.zero, i.size, i.bytes)) = some (some (.agg #[.int .i64 0, .int .i64 0, .int .i64 0, .int .i64 0]), 4, 32) := by kernel_rfl
set_option maxRecDepth 10000 in
theorem make_rcs (n : Nat) (hn : n < 1000000) (w : World) : (Instr.makeSlice 67 (.int .i64 (n : Nat)) (.int .i64 (n : Nat))).run Tryz.prog w = .ok (.slice (some ⟨w.heap.size, 0, none⟩) n n) (w.alloc (.cells (flat (List.replicate n zr)).toArray 52)) := by
  obtain ⟨i0, hi, hz0, hz1, hz2⟩ := info_parts info_rcN
  have h := run_make (P := Tryz.prog) w 67 52 i0 (.agg #[.int .i64 0, .int .i64 0, .int .i64 0, .int .i64 0]) Tryz.underlying67 hi hz0 .i64 .i64 (n : Int) (n : Int) (by omega) (Int.le_refl _) (by rw [hz2]; omega) (by omega)
  simp only [Int.toNat_natCast, hz1] at h
  rw [h, flat_rep]
  congr 3
  refine Array.ext (by simp [size_madeCells]) fun i h1 h2 => ?_
  have h3 : i % 4 < 4 := Nat.mod_lt _ (by omega)
  simp [madeCells, Value.cells]
  generalize i % 4 = j at h3
  match j, h3 with
  | 0, _ => rfl
  | 1, _ => rfl
  | 2, _ => rfl
  | 3, _ => rfl
theorem own_new {lo : Nat} {w : World} {n : Nat} {L : List Rc} (hl : L.length = n) (hlo : lo ≤ w.heap.size) (hn : n < 1000000) : OwR lo (w.alloc (.cells (flat L).toArray 52)) (.slice (some ⟨w.heap.size, 0, none⟩) n n) L := by
  refine ⟨flat_len L, .inr ⟨w.heap.size, n, (flat L).toArray, by rw [hl], hlo, Bk.new _ _ _, by omega, by unfold maxLen; omega, by simp [flat_len, hl], ?_⟩⟩
  rw [hl]
  simp only []
  exact List.take_of_length_le (by rw [flat_len, hl]; exact Nat.le_refl _)
theorem flat_put : ∀ (L : List Rc) (k : Nat) (_ : k < L.length) (r : Rc), ((((flat L).set (k * 4) (.int .i64 r.x)).set (k * 4 + 1) (.int .i64 r.y)).set (k * 4 + 2) (.int .i64 r.w)).set (k * 4 + 3) (.int .i64 r.h) = flat (L.set k r)
  | [], k, h, _ => absurd h (Nat.not_lt_zero _)
  | s :: L, 0, _, r => by
    show ((((cel s ++ flat L).set 0 _).set 1 _).set 2 _).set 3 _ = _
    rfl
  | s :: L, k + 1, h, r => by
    have h' : k < L.length := by simpa using h
    have ih := flat_put L k h' r
    have e : ∀ (X : List Value) (j : Nat) (v : Value), (cel s ++ X).set ((k + 1) * 4 + j) v = cel s ++ X.set (k * 4 + j) v := fun X j v => by
      have hc : (cel s).length = 4 := rfl
      rw [List.set_append_right _ _ (by rw [hc]; omega), hc]
      congr 2
      omega
    have e0 := fun X v => e X 0 v
    simp only [Nat.add_zero] at e0
    show ((((cel s ++ flat L).set ((k + 1) * 4) _).set ((k + 1) * 4 + 1) _).set ((k + 1) * 4 + 2) _).set ((k + 1) * 4 + 3) _ = _
    rw [e0, e, e, e, ih]
    rfl

set_option maxHeartbeats 1000000 in
theorem every_any (w : World) : Calls Tryz.prog 89 #[] w fun e w' => e = .returned (.agg #[.int .i64 (-16384), .int .i64 (-16384), .int .i64 32768, .int .i64 32768]) ∧ Below w.heap.size w w' := by
  have HL : Hid (∀ c, Below w.heap.size w (w.alloc c)) := fun c => (Below.refl _ w).alloc (Nat.le_refl _) _
  have B := fun c => Bk.new w #[.int .i64 (-16384), .int .i64 (-16384), .int .i64 32768, c] 52
  go_enter Tryz.func89, Tryz.ntmps89
  go_wp2
  exact bodyPost_ret (v := .agg #[.int .i64 (-16384), .int .i64 (-16384), .int .i64 32768, .int .i64 32768]) (by simp [results, Tryz.results89, go_sem]) rfl ⟨rfl, HL.out _⟩

def rowS (l : List St) (k : Nat) : List Rc := ((ann [] l).map Prod.snd).take k ++ List.replicate (l.length - k) zr
theorem rowS_len (l : List St) (k : Nat) (h : k ≤ l.length) : (rowS l k).length = l.length := by
  unfold rowS
  rw [List.length_append, List.length_take, List.length_map, ann_len, List.length_replicate]
  omega
theorem rowS_next {l : List St} {k : Nat} {cs : List Rc} (h : k < l.length) (hd : (ann [] l).drop k = ann cs (l.drop k)) (he : clpE cs.length (l.drop k) = 0) : (rowS l k).set k (shR cs l[k]) = rowS l (k + 1) := by
  obtain ⟨h1, _⟩ := sh_next h hd he
  unfold rowS
  rw [h1]
  have e : (((ann [] l).map Prod.snd).take k).length = k := by rw [List.length_take, List.length_map, ann_len]; omega
  rw [List.set_append_right _ _ (by omega), e, Nat.sub_self, show l.length - k = (l.length - (k + 1)) + 1 by omega, List.replicate_succ, List.set_cons_zero, List.append_assoc]
  rfl
theorem rowS_same {l : List St} {k : Nat} {cs : List Rc} (h : k < l.length) (hd : (ann [] l).drop k = ann cs (l.drop k)) (he : clpE cs.length (l.drop k) = 0) (hz : shR cs l[k] = zr) : rowS l k = rowS l (k + 1) := by
  rw [← rowS_next h hd he, hz]
  unfold rowS
  have e : (((ann [] l).map Prod.snd).take k).length = k := by rw [List.length_take, List.length_map, ann_len]; omega
  rw [List.set_append_right _ _ (by omega), e, Nat.sub_self, show l.length - k = (l.length - (k + 1)) + 1 by omega, List.replicate_succ, List.set_cons_zero]
theorem shR_open {cs : List Rc} {s : St} (h1 : oneE s = 0) (h5 : s.k = 5) : shR cs s = zr := by
  obtain ⟨_, _, hf⟩ := oneE_zero h1
  have hz : zZr s.r = true := by
    unfold wroF at hf
    simp [h5] at hf
    exact hf.2.2
  have e : s.r = zr := rc_of_eqB (q := zr) hz
  rw [shR_top, e, me_nil (.inl em_zr)]
structure ShP (w : World) (l : List St) (k : Nat) (cs : List Rc) (u v : Value) (W : World) : Prop where
  o : OwR w.heap.size W u (rowS l k)
  c : OwR w.heap.size W v (evR :: cs.reverse)
  a : Apt u v
  b : Below w.heap.size w W
  d : (ann [] l).drop k = ann cs (l.drop k)
  e : clpE cs.length (l.drop k) = 0
  m : ∀ c ∈ cs, zMa c = true
theorem ShP.below {w : World} {l : List St} {k : Nat} {cs : List Rc} {u v : Value} {W W' : World} (h : ShP w l k cs u v W) (hb : Below W.heap.size W W') : ShP w l k cs u v W' := ⟨h.o.below hb, h.c.below hb, h.a, h.b.trans (hb.mono h.b.size), h.d, h.e, h.m⟩
theorem own_top {lo : Nat} {w : World} {gc n cc : Nat} {cs : List Rc} (hn : n = cs.length) (h : OwR lo w (.slice (some ⟨gc, 0, none⟩) (n + 1) cc) (evR :: cs.reverse)) : RcAt w gc (n * 4) (topP cs) := by
  have hl : (evR :: cs.reverse).length = n + 1 := by simp [hn]
  unfold OwR at h
  rw [hl] at h
  have hk : n < (evR :: cs.reverse).length := by omega
  have e : (evR :: cs.reverse)[n] = topP cs := by
    subst hn
    cases cs with
    | nil => rfl
    | cons c t => simp [topP]
  obtain ⟨f0, f1, f2, f3⟩ := flat_at (evR :: cs.reverse) n hk
  rw [e] at f0 f1 f2 f3
  exact ⟨(own_cell h _ (by omega)).trans f0, (own_cell h _ (by omega)).trans f1, (own_cell h _ (by omega)).trans f2, (own_cell h _ (by omega)).trans f3⟩
theorem i64_near {x : Int} (h : -16384 ≤ x ∧ x ≤ 16384) : I64 x := by unfold I64; omega
theorem top_i64 {cs : List Rc} (h : ∀ c ∈ cs, zMa c = true) : I64 (topP cs).x ∧ I64 (topP cs).y := by
  cases cs with
  | nil => exact ⟨i64_near (show -16384 ≤ (-16384 : Int) ∧ (-16384 : Int) ≤ 16384 by omega), i64_near (show -16384 ≤ (-16384 : Int) ∧ (-16384 : Int) ≤ 16384 by omega)⟩
  | cons c t =>
    have := may_bd (h c (by simp))
    exact ⟨i64_near ⟨this.1, this.2.1⟩, i64_near ⟨this.2.2.1, this.2.2.2.1⟩⟩

end Go.Proofs.YtapachlhdgehjaaGreatDoor

/-
  Contracts of the document's answer for layer 13: the places at which a stroke shows.
-/
namespace Go.Proofs.YtapachlhdgehjaaGreatDoor
open Go.RowKit

theorem own_one {lo : Nat} {W : World} {b : Nat} {r : Rc} (h : Bk W b #[.int .i64 r.x, .int .i64 r.y, .int .i64 r.w, .int .i64 r.h] 52) (hb : lo ≤ b) : OwR lo W (.slice (some ⟨b, 0, none⟩) 1 1) [r] :=
  ⟨rfl, .inr ⟨b, 1, _, rfl, hb, h, Nat.le_refl _, by unfold maxLen; omega, by simp, rfl⟩⟩
end Go.Proofs.YtapachlhdgehjaaGreatDoor

/-
  Contracts of package list: the rectangles in which strokes show, told.
-/
namespace Go.Proofs.YtapachlhdgehjaaGreatDoor
open Go.RowKit

theorem ob_trans {w W W' : World} {r : Option Nat} (h : w.grownBy W r) (k : W.grownBy W' r) : w.grownBy W' r :=
  ⟨k.os.trans h.os, k.tape.trans h.tape, k.output.trans h.output, Nat.le_trans h.size k.size, fun b hb hr => (k.block b (Nat.lt_of_lt_of_le hb h.size) hr).trans (h.block b hb hr)⟩
theorem ob_set (w : World) (g o : Nat) (v : Value) : w.grownBy (w.setCell ⟨g, o, none⟩ v) (some g) :=
  ⟨rfl, rfl, rfl, ((Below.refl 0 w).setCell (p := ⟨g, o, none⟩) (Nat.zero_le _) v).size, fun b _ hb => Below.heap_setCell _ _ _ b (fun e => hb (by rw [e]))⟩
theorem ob_set4 (w : World) (g o : Nat) (a b c d : Value) : w.grownBy ((((w.setCell ⟨g, o, none⟩ a).setCell ⟨g, o + 1, none⟩ b).setCell ⟨g, o + 2, none⟩ c).setCell ⟨g, o + 3, none⟩ d) (some g) :=
  ob_trans (ob_trans (ob_trans (ob_set _ _ _ _) (ob_set _ _ _ _)) (ob_set _ _ _ _)) (ob_set _ _ _ _)

set_option maxRecDepth 20000 in
set_option maxHeartbeats 8000000 in
theorem shown_any (l : List St) (v : Value) (w : World) (hv : LsS w v l) (hl : l.length ≤ 16384) (hc0 : clpE 0 l = 0) :
    Calls Tryz.prog 55 #[v] w fun e w' => ∃ u, e = .returned u ∧ OwR w.heap.size w' u ((ann [] l).map Prod.snd) ∧ Below w.heap.size w w' := by
  obtain ⟨oa, cap, rfl, hc, hg⟩ := hv
  have HG : Hid (0 < l.length → ∃ g o, oa = some ⟨g, o, none⟩ ∧ g < w.heap.size ∧ ∀ i (h : i < l.length), StAt w g (o + i * 15) l[i]) := hg
  obtain ⟨i0, hi, hz0, hz1, hz2⟩ := info_parts info_rcN
  have HI : Hid (Tryz.prog.info? 52 = some i0 ∧ i0.zero = some (.agg #[.int .i64 0, .int .i64 0, .int .i64 0, .int .i64 0]) ∧ i0.size = 4 ∧ i0.bytes = 32) := ⟨hi, hz0, hz1, hz2⟩
  have HME : Hid (∀ (a b : Rc) W, I64 a.x → I64 a.y → I64 b.x → I64 b.y → Calls Tryz.prog 29 #[.agg #[.int .i64 a.x, .int .i64 a.y, .int .i64 a.w, .int .i64 a.h], .agg #[.int .i64 b.x, .int .i64 b.y, .int .i64 b.w, .int .i64 b.h]] W fun e w' => e = .returned (.agg #[.int .i64 (zMe a b).x, .int .i64 (zMe a b).y, .int .i64 (zMe a b).w, .int .i64 (zMe a b).h]) ∧ Below W.heap.size W w') := fun a b W h1 h2 h3 h4 => meet_any _ _ _ _ _ _ _ _ W h1 h2 h3 h4
  obtain ⟨gu, hgu⟩ : ∃ gu, gu = w.heap.size := ⟨_, rfl⟩
  have hmk : (Instr.makeSlice 67 (.int .i64 (l.length : Nat)) (.int .i64 (l.length : Nat))).run Tryz.prog w = .ok (.slice (some ⟨gu, 0, none⟩) l.length l.length) (w.alloc (.cells (flat (List.replicate l.length zr)).toArray 52)) := by rw [hgu]; exact make_rcs l.length (by omega) w
  obtain ⟨N, hN⟩ : ∃ N, N = l.length := ⟨_, rfl⟩
  have HN : Hid (N = l.length) := hN
  have HR0 : Hid (OwR w.heap.size (w.alloc (.cells (flat (List.replicate N zr)).toArray 52)) (.slice (some ⟨gu, 0, none⟩) N N) (rowS l 0) ∧ Below w.heap.size w (w.alloc (.cells (flat (List.replicate N zr)).toArray 52))) := by
    refine ⟨?_, (Below.refl _ _).alloc (Nat.le_refl _) _⟩
    have e : rowS l 0 = List.replicate N zr := by unfold rowS; rw [hN]; simp
    rw [e, hgu]
    exact own_new (by simp) (Nat.le_refl _) (by omega)
  rw [← hN] at hmk hl hc ⊢
  clear hg hi hz0 hz1 hz2 hN hgu
  generalize (flat (List.replicate N zr)).toArray = arr at *
  go_enter Tryz.func55, Tryz.ntmps55
  go_wp2_with fail
  generalize w.alloc (.cells arr 52) = w1 at *
  refine (every_any w1).mono ?_
  rintro e w2 ⟨rfl, hb2⟩
  have H0 : Hid (ShP w l 0 [] (.slice (some ⟨gu, 0, none⟩) N N) (.slice (some ⟨w2.heap.size, 0, none⟩) 1 1) (w2.alloc (.cells #[.int .i64 (-16384), .int .i64 (-16384), .int .i64 32768, .int .i64 32768] 52))) := by
    have b1 : Below w.heap.size w w2 := HR0.out.2.trans (hb2.mono HR0.out.2.size)
    have o2 := HR0.out.1.below hb2
    refine ⟨o2.below ((Below.refl _ _).alloc (Nat.le_refl _) _), own_one (r := evR) (Bk.new _ _ _) b1.size, ?_, b1.alloc b1.size _, rfl, hc0, fun c hc => by cases hc⟩
    intro g h1 h2
    have h3 := (row_lt o2 g h1).2
    have h4 : w2.heap.size = g := by injection h2
    omega
  clear hb2 HR0 hmk hc0
  go_wp2_with fail
  go_loopw [4, 14] (fun q i wr => ∃ (k : Nat) (cs : List Rc), i = .int .i64 k ∧ k ≤ N ∧ Hid (ShP w l k cs (.slice (some ⟨gu, 0, none⟩) N N) q wr)) (fun _ i _ => N - (intOf i).toNat)
  case atStart => exact ⟨0, [], rfl, Nat.zero_le _, H0⟩
  case round =>
    clear H0
    obtain ⟨k, cs, rfl, hk, HK⟩ := hrel
    by_cases hlt : k < N
    · have ik : (k : Int) < N := by omega
      have hll : k < l.length := by rw [← HN.out]; exact hlt
      obtain ⟨g, o, rfl, hg, hat⟩ := HG.out (by omega)
      have hx := (hat k hll).kept (w' := wr) fun j => HK.out.b.cell (p := ⟨g, j, none⟩) hg
      obtain ⟨h1, h2, h3, h4, h5⟩ := sh_next hll HK.out.d HK.out.e
      have h45 := (oneE_zero h5).2.1
      have hma := (oneE_zero h5).1
      have HNx : Hid ((rowS l k).set k (shR cs l[k]) = rowS l (k + 1) ∧ (l[k].k = 5 → rowS l k = rowS l (k + 1)) ∧ (ann [] l).drop (k + 1) = ann (nxC cs l[k]) (l.drop (k + 1)) ∧ clpE (nxC cs l[k]).length (l.drop (k + 1)) = 0 ∧ (l[k].k = 5 → cs ≠ []) ∧ zMa (shR cs l[k]) = true ∧ shR cs l[k] = zMe l[k].r (topP cs)) :=
        ⟨rowS_next hll HK.out.d HK.out.e, fun h => rowS_same hll HK.out.d HK.out.e (shR_open h5 h), h2, h3, h4, shR_may _ _, shR_top⟩
      obtain ⟨oc, cc, ec, hcc, hgc⟩ := row_val HK.out.c
      have hul : (rowS l k).length = N := by rw [rowS_len l k (by omega), HN.out]
      have hcl : (evR :: cs.reverse).length = cs.length + 1 := by simp
      obtain ⟨hgu1, hgu2⟩ := row_lt HK.out.o gu rfl
      obtain ⟨gc, rfl, hgc1, hgc2⟩ := hgc (by omega)
      subst ec
      obtain ⟨n, hn⟩ : ∃ n, n = cs.length := ⟨_, rfl⟩
      have hcsl : n + 1 ≤ 16385 := by
        have h := clp_le _ _ HK.out.e
        rw [List.length_drop] at h
        have := HN.out
        omega
      rw [hcl, ← hn] at hcc HK ⊢
      have HNn : Hid (n = cs.length) := hn
      have HTop : Hid (∀ W, Below wr.heap.size wr W → RcAt W gc (n * 4) (topP cs)) := fun W h => (own_top hn HK.out.c).kept fun j => h.cell (p := ⟨gc, j, none⟩) hgc2
      have HTi : Hid (I64 (topP cs).x ∧ I64 (topP cs).y) := top_i64 HK.out.m
      have HMi : Hid (I64 l[k].r.x ∧ I64 l[k].r.y) := by
        have := may_bd hma
        exact ⟨i64_near ⟨this.1, this.2.1⟩, i64_near ⟨this.2.2.1, this.2.2.2.1⟩⟩
      have HNX : Hid ((l[k].k = 4 → nxC cs l[k] = shR cs l[k] :: cs) ∧ (l[k].k = 5 → nxC cs l[k] = cs.tail) ∧ (l[k].k < 4 → nxC cs l[k] = cs)) := by
        unfold Hid nxC
        exact ⟨fun h => by rw [if_pos h], fun h => by rw [if_neg (by omega), if_pos h], fun h => by rw [if_neg (by omega), if_neg (by omega)]⟩
      clear hat h1 h2 h3 h4 h5 hma hul hcl hn
      generalize l[k] = x at *
      obtain ⟨x0, x1, x2, x3, x4, x5, x6, x7, x8, x9, x10, x11, x12, x13, x14⟩ := hx
      have HWb : Hid (Below wr.heap.size wr (wr.alloc (.cells (#[.int .u8 x.k, .int .i64 x.r.x, .int .i64 x.r.y, .int .i64 x.r.w, .int .i64 x.r.h, .int .u8 x.c.r, .int .u8 x.c.g, .int .u8 x.c.b, .int .u8 x.c.a, .int .u8 x.b.r, .int .u8 x.b.g, .int .u8 x.b.b, .int .u8 x.b.a, .string x.t, .int .i64 x.n]) 55)) ∧ Bk (wr.alloc (.cells (#[.int .u8 x.k, .int .i64 x.r.x, .int .i64 x.r.y, .int .i64 x.r.w, .int .i64 x.r.h, .int .u8 x.c.r, .int .u8 x.c.g, .int .u8 x.c.b, .int .u8 x.c.a, .int .u8 x.b.r, .int .u8 x.b.g, .int .u8 x.b.b, .int .u8 x.b.a, .string x.t, .int .i64 x.n]) 55)) wr.heap.size (#[.int .u8 x.k, .int .i64 x.r.x, .int .i64 x.r.y, .int .i64 x.r.w, .int .i64 x.r.h, .int .u8 x.c.r, .int .u8 x.c.g, .int .u8 x.c.b, .int .u8 x.c.a, .int .u8 x.b.r, .int .u8 x.b.g, .int .u8 x.b.b, .int .u8 x.b.a, .string x.t, .int .i64 x.n]) 55) := ⟨(Below.refl _ _).alloc (Nat.le_refl _) _, Bk.new _ _ _⟩
      by_cases h5 : x.k = 5
      · cases cs with
        | nil => exact absurd rfl (HNx.out.2.2.2.2.1 h5)
        | cons c t =>
          obtain ⟨tl, htl⟩ : ∃ tl, tl = t.length := ⟨_, rfl⟩
          obtain rfl : n = tl + 1 := by rw [HNn.out, htl]; rfl
          have HRel : Hid (∀ tt : Value, ShP w l (k + 1) t (.slice (some ⟨gu, 0, none⟩) N N) (.slice (some ⟨gc, 0, none⟩) (tl + 1) cc) (wr.alloc (.cells #[tt, .int .i64 x.r.x, .int .i64 x.r.y, .int .i64 x.r.w, .int .i64 x.r.h, .int .u8 x.c.r, .int .u8 x.c.g, .int .u8 x.c.b, .int .u8 x.c.a, .int .u8 x.b.r, .int .u8 x.b.g, .int .u8 x.b.b, .int .u8 x.b.a, .string x.t, .int .i64 x.n] 55))) := fun tt => by
            obtain ⟨a1, a2, a3, a4, a5, a6, a7⟩ := HK.out.below ((Below.refl _ wr).alloc (Nat.le_refl _) (.cells #[tt, .int .i64 x.r.x, .int .i64 x.r.y, .int .i64 x.r.w, .int .i64 x.r.h, .int .u8 x.c.r, .int .u8 x.c.g, .int .u8 x.c.b, .int .u8 x.c.a, .int .u8 x.b.r, .int .u8 x.b.g, .int .u8 x.b.b, .int .u8 x.b.a, .string x.t, .int .i64 x.n] 55))
            obtain ⟨n1, n2, n3, n4, n5, n6, n7⟩ := HNx.out
            have e := HNX.out.2.1 h5
            rw [e] at n3 n4
            refine ⟨by rw [← n2 h5]; exact a1, ?_, a3, a4, n3, n4, fun c hc => a7 c (by simp [show c ∈ t from hc])⟩
            unfold OwR at a2 ⊢
            rw [show (evR :: (c :: t).reverse) = (evR :: t.reverse) ++ [c] by simp, flat_app, List.length_append] at a2
            rw [show (evR :: t.reverse).length = tl + 1 by simp [htl]] at a2 ⊢
            exact own_cut a2 (by rw [flat_len]; simp [htl])
          clear HK HNx HNX HTop HTi HMi HWb htl HNn
          go_wp2
          go_roundw
          case rel => exact ⟨k + 1, t, by go_num, by omega, HRel.out _⟩
          case measure => simp [intOf]; omega
      · have h5' : (x.k == 5) = false := beq_eq_false_iff_ne.2 h5
        obtain ⟨bx, hbx⟩ : ∃ bx, bx = wr.heap.size := ⟨_, rfl⟩
        have HBX : Hid (bx = wr.heap.size) := hbx
        rw [← hbx] at HWb
        have HWb2 : Hid (Below wr.heap.size wr (wr.alloc (.cells (#[.int .u8 x.k, .int .i64 x.r.x, .int .i64 x.r.y, .int .i64 x.r.w, .int .i64 x.r.h, .int .u8 x.c.r, .int .u8 x.c.g, .int .u8 x.c.b, .int .u8 x.c.a, .int .u8 x.b.r, .int .u8 x.b.g, .int .u8 x.b.b, .int .u8 x.b.a, .string x.t, .int .i64 x.n]) 55)) ∧ Bk (wr.alloc (.cells (#[.int .u8 x.k, .int .i64 x.r.x, .int .i64 x.r.y, .int .i64 x.r.w, .int .i64 x.r.h, .int .u8 x.c.r, .int .u8 x.c.g, .int .u8 x.c.b, .int .u8 x.c.a, .int .u8 x.b.r, .int .u8 x.b.g, .int .u8 x.b.b, .int .u8 x.b.a, .string x.t, .int .i64 x.n]) 55)) bx (#[.int .u8 x.k, .int .i64 x.r.x, .int .i64 x.r.y, .int .i64 x.r.w, .int .i64 x.r.h, .int .u8 x.c.r, .int .u8 x.c.g, .int .u8 x.c.b, .int .u8 x.c.a, .int .u8 x.b.r, .int .u8 x.b.g, .int .u8 x.b.b, .int .u8 x.b.a, .string x.t, .int .i64 x.n]) 55) := by rw [← hbx]; exact HWb
        clear HWb
        go_upto_region 8 with fail
        rw [← hbx]
        clear hbx
        generalize wr.alloc (.cells (#[.int .u8 x.k, .int .i64 x.r.x, .int .i64 x.r.y, .int .i64 x.r.w, .int .i64 x.r.h, .int .u8 x.c.r, .int .u8 x.c.g, .int .u8 x.c.b, .int .u8 x.c.a, .int .u8 x.b.r, .int .u8 x.b.g, .int .u8 x.b.b, .int .u8 x.b.a, .string x.t, .int .i64 x.n]) 55) = W0 at *
        clear x0 x1 x2 x3 x4 x5 x6 x7 x8 x9 x10 x11 x12 x13 x14
        have HKW : Hid (ShP w l k cs (.slice (some ⟨gu, 0, none⟩) N N) (.slice (some ⟨gc, 0, none⟩) (n + 1) cc) W0) := HK.out.below HWb2.out.1
        have HTop2 : Hid (∀ W, Below W0.heap.size W0 W → RcAt W gc (n * 4) (topP cs) ∧ Bk W bx (#[.int .u8 x.k, .int .i64 x.r.x, .int .i64 x.r.y, .int .i64 x.r.w, .int .i64 x.r.h, .int .u8 x.c.r, .int .u8 x.c.g, .int .u8 x.c.b, .int .u8 x.c.a, .int .u8 x.b.r, .int .u8 x.b.g, .int .u8 x.b.b, .int .u8 x.b.a, .string x.t, .int .i64 x.n]) 55) := fun W h => ⟨HTop.out W (HWb2.out.1.trans (h.mono HWb2.out.1.size)), HWb2.out.2.below h⟩
        have HME2 : Hid (∀ W, Calls Tryz.prog 29 #[.agg #[.int .i64 x.r.x, .int .i64 x.r.y, .int .i64 x.r.w, .int .i64 x.r.h], .agg #[.int .i64 (topP cs).x, .int .i64 (topP cs).y, .int .i64 (topP cs).w, .int .i64 (topP cs).h]] W fun e w' => e = .returned (.agg #[.int .i64 (shR cs x).x, .int .i64 (shR cs x).y, .int .i64 (shR cs x).w, .int .i64 (shR cs x).h]) ∧ Below W.heap.size W w') := fun W => by
          rw [HNx.out.2.2.2.2.2.2]
          exact HME.out x.r (topP cs) W HMi.out.1 HMi.out.2 HTi.out.1 HTi.out.2
        have hbxg : Hid (bx ≠ gu ∧ gu < W0.heap.size ∧ w.heap.size ≤ gu ∧ bx ≠ gc ∧ w.heap.size ≤ bx) := by
          have e1 := HBX.out
          have e2 := HWb2.out.1.size
          have e3 := HK.out.b.size
          exact ⟨by omega, by omega, hgu1, by omega, by omega⟩
        clear HTop HME HMi HTi HK
        generalize shR cs x = q at *
        generalize topP cs = tp at *
        refine wp_region_lit 12 0 1 (fun _ => .cells #[] 0) [] (by kernel_rfl) (by kernel_rfl) rfl (fun k hk => absurd hk (by omega)) rfl (fun i h1 h2 => absurd h2 (by omega)) ?_
        apply Exists.intro
        refine ⟨fun bs ne => ?_, ?_⟩
        · have e0 := fun tt : Gb W0 bs => (HTop2.out _ tt.below).1.1
          have e1 := fun tt : Gb W0 bs => (HTop2.out _ tt.below).1.2.1
          have e2 := fun tt : Gb W0 bs => (HTop2.out _ tt.below).1.2.2.1
          have e3 := fun tt : Gb W0 bs => (HTop2.out _ tt.below).1.2.2.2
          have d1 := fun tt : Gb W0 bs => (HTop2.out _ tt.below).2.cell 1
          have d2 := fun tt : Gb W0 bs => (HTop2.out _ tt.below).2.cell 2
          have d3 := fun tt : Gb W0 bs => (HTop2.out _ tt.below).2.cell 3
          have d4 := fun tt : Gb W0 bs => (HTop2.out _ tt.below).2.cell 4
          simp only [List.getElem?_toArray, List.getElem?_cons_zero, List.getElem?_cons_succ] at d1 d2 d3 d4
          simp only [List.take_succ_cons, List.take_zero]
          repeat (go_big_quiet_step (first
            | (go_at_call 29; exact gb_call (HME2.out _))))
          exact wpQuiet_nil rfl
        · intro bl wx hbl _ _
          have S1 := HKW.out.below hbl
          have hrl : (rowS l k).length = N := by rw [rowS_len l k (by rw [← HN.out]; omega), HN.out]
          have hrow : wx.ownsRow w.heap.size 52 4 (.slice (some ⟨gu, 0, none⟩) N N) N (flat (rowS l k)) := by
            have h := S1.o
            unfold OwR at h
            rw [hrl] at h
            exact h
          have cc4 : ∀ j, j < 4 → ∃ z, wx.cell? ⟨gu, k * 4 + j, none⟩ = some z := fun j hj => ⟨(flat (rowS l k))[k * 4 + j]'(by rw [flat_len, hrl]; omega), (own_cell hrow (k * 4 + j) (by omega)).trans (List.getElem?_eq_getElem _)⟩
          obtain ⟨z0, y0⟩ := cc4 0 (by decide)
          obtain ⟨z1, y1⟩ := cc4 1 (by decide)
          obtain ⟨z2, y2⟩ := cc4 2 (by decide)
          obtain ⟨z3, y3⟩ := cc4 3 (by decide)
          rw [Nat.add_zero] at y0
          have f0 := own_frozen hrow (k * 4)
          have f1 := own_frozen hrow (k * 4 + 1)
          have f2 := own_frozen hrow (k * 4 + 2)
          have f3 := own_frozen hrow (k * 4 + 3)
          have H5 : Hid (ShP w l k cs (.slice (some ⟨gu, 0, none⟩) N N) (.slice (some ⟨gc, 0, none⟩) (n + 1) cc) wx → True) := fun _ => trivial
          have HW5 : Hid (OwR w.heap.size ((((wx.setCell ⟨gu, k * 4, none⟩ (.int .i64 q.x)).setCell ⟨gu, k * 4 + 1, none⟩ (.int .i64 q.y)).setCell ⟨gu, k * 4 + 2, none⟩ (.int .i64 q.w)).setCell ⟨gu, k * 4 + 3, none⟩ (.int .i64 q.h)) (.slice (some ⟨gu, 0, none⟩) N N) (rowS l (k + 1)) ∧ OwR w.heap.size ((((wx.setCell ⟨gu, k * 4, none⟩ (.int .i64 q.x)).setCell ⟨gu, k * 4 + 1, none⟩ (.int .i64 q.y)).setCell ⟨gu, k * 4 + 2, none⟩ (.int .i64 q.w)).setCell ⟨gu, k * 4 + 3, none⟩ (.int .i64 q.h)) (.slice (some ⟨gc, 0, none⟩) (n + 1) cc) (evR :: cs.reverse) ∧ Below w.heap.size w ((((wx.setCell ⟨gu, k * 4, none⟩ (.int .i64 q.x)).setCell ⟨gu, k * 4 + 1, none⟩ (.int .i64 q.y)).setCell ⟨gu, k * 4 + 2, none⟩ (.int .i64 q.w)).setCell ⟨gu, k * 4 + 3, none⟩ (.int .i64 q.h)) ∧ Bk ((((wx.setCell ⟨gu, k * 4, none⟩ (.int .i64 q.x)).setCell ⟨gu, k * 4 + 1, none⟩ (.int .i64 q.y)).setCell ⟨gu, k * 4 + 2, none⟩ (.int .i64 q.w)).setCell ⟨gu, k * 4 + 3, none⟩ (.int .i64 q.h)) bx (#[.int .u8 x.k, .int .i64 x.r.x, .int .i64 x.r.y, .int .i64 x.r.w, .int .i64 x.r.h, .int .u8 x.c.r, .int .u8 x.c.g, .int .u8 x.c.b, .int .u8 x.c.a, .int .u8 x.b.r, .int .u8 x.b.g, .int .u8 x.b.b, .int .u8 x.b.a, .string x.t, .int .i64 x.n]) 55) := by
            refine ⟨?_, ?_, ?_, ?_⟩
            · have h := own_set (own_set (own_set (own_set hrow (k * 4) (.int .i64 q.x)) (k * 4 + 1) (.int .i64 q.y)) (k * 4 + 2) (.int .i64 q.w)) (k * 4 + 3) (.int .i64 q.h)
              rw [flat_put (rowS l k) k (by rw [hrl]; exact hlt) q, HNx.out.1] at h
              unfold OwR
              rw [rowS_len l (k + 1) (by rw [← HN.out]; omega), ← HN.out]
              exact h
            · refine World.ownsRow.kept S1.c (ob_set4 wx gu (k * 4) (.int .i64 q.x) (.int .i64 q.y) (.int .i64 q.w) (.int .i64 q.h)) (.inr fun h => ?_)
              exact S1.a gu rfl h
            · exact (((S1.b.setCell (p := ⟨gu, k * 4, none⟩) hbxg.out.2.2.1 _).setCell (p := ⟨gu, k * 4 + 1, none⟩) hbxg.out.2.2.1 _).setCell (p := ⟨gu, k * 4 + 2, none⟩) hbxg.out.2.2.1 _).setCell (p := ⟨gu, k * 4 + 3, none⟩) hbxg.out.2.2.1 _
            · have hne : gu ≠ bx := fun h => hbxg.out.1 h.symm
              exact ((((HTop2.out _ hbl).2.other _ _ hne).other _ _ hne).other _ _ hne).other _ _ hne
          have HA5 : Hid (Apt (.slice (some ⟨gu, 0, none⟩) N N) (.slice (some ⟨gc, 0, none⟩) (n + 1) cc) ∧ ∀ c ∈ cs, zMa c = true) := ⟨S1.a, S1.m⟩
          simp only [layL]
          clear S1 hbl hrl hrow cc4 H5 HKW HTop2 HME2 HWb2
          refine wpAny_one 12 (by kernel_rfl) rfl ?_
          intro K hK
          go_simp
          refine hK _ _ ?_
          clear hK K
          refine wpAny_done (by kernel_rfl) ?_ _
          generalize ((((wx.setCell ⟨gu, k * 4, none⟩ (.int .i64 q.x)).setCell ⟨gu, k * 4 + 1, none⟩ (.int .i64 q.y)).setCell ⟨gu, k * 4 + 2, none⟩ (.int .i64 q.w)).setCell ⟨gu, k * 4 + 3, none⟩ (.int .i64 q.h)) = w5 at *
          clear y0 y1 y2 y3 f0 f1 f2 f3
          have c0 := HW5.out.2.2.2.cell 0
          simp only [List.getElem?_toArray, List.getElem?_cons_zero] at c0
          by_cases h4 : x.k = 4
          · have hrl : (rowS l (k + 1)).length = N := by rw [rowS_len l (k + 1) (by rw [← HN.out]; omega), HN.out]
            have HQ : Hid (RcAt w5 gu (k * 4) q) := by
              have h := HW5.out.1
              unfold OwR at h
              rw [hrl] at h
              have hk' : k < (rowS l (k + 1)).length := by rw [hrl]; exact hlt
              obtain ⟨f0, f1, f2, f3⟩ := flat_at (rowS l (k + 1)) k hk'
              have e : (rowS l (k + 1))[k] = q := by
                have e1 : (rowS l (k + 1))[k]? = some q := by
                  rw [← HNx.out.1, List.getElem?_set_self (by rw [rowS_len l k (by rw [← HN.out]; omega), ← HN.out]; exact hlt)]
                rw [List.getElem?_eq_getElem hk'] at e1
                exact Option.some.inj e1
              rw [e] at f0 f1 f2 f3
              exact ⟨(own_cell h _ (by omega)).trans f0, (own_cell h _ (by omega)).trans f1, (own_cell h _ (by omega)).trans f2, (own_cell h _ (by omega)).trans f3⟩
            obtain ⟨r0, r1, r2, r3⟩ := HQ.out
            have HA2 : Hid (∀ o, (w5.alloc o).ownsRow w.heap.size 52 4 (.slice (some ⟨gc, 0, none⟩) (n + 1) cc) (n + 1) (flat (evR :: cs.reverse)) ∧ w.heap.size ≤ (w5.alloc o).heap.size) := fun o => by
              have h := HW5.out.2.1
              unfold OwR at h
              rw [show (evR :: cs.reverse).length = n + 1 by simp [HNn.out]] at h
              exact ⟨row_below h ((Below.refl _ _).alloc (Nat.le_refl _) _), by have := HW5.out.2.2.1.size; simp; omega⟩
            have hc5 : Hid (n + 1 + 1 ≤ maxLen) := by unfold Hid maxLen; omega
            have hc6 : Hid ((n + 1 + 1) * 32 ≤ 140737488355328) := by unfold Hid; omega
            obtain ⟨hi, hz0, hz1, hz2⟩ := HI.out
            clear hrl
            go_wp2_with (at_builtin; refine wpList_append_lies _ rfl _ _ 67 rfl w.heap.size 52 i0 (.agg #[.int .i64 0, .int .i64 0, .int .i64 0, .int .i64 0]) 4 32 Tryz.underlying67 hi hz0 hz1 hz2 rfl (by decide) (.slice (some ⟨gc, 0, none⟩) (n + 1) cc) (n + 1) (flat (evR :: cs.reverse)) rfl (HA2.out _).1 _ 1 1 [.int .i64 q.x, .int .i64 q.y, .int .i64 q.w, .int .i64 q.h] rfl rfl (cell_fourB _ _ _ _ _ _ _ rfl) (one4 q) (by decide) hc5.out hc6.out (HA2.out _).2 _ rfl ?_)
            intro g6 cap6 w6 hown' hgrow hlies hg6
            have HRel : Hid (ShP w l (k + 1) (q :: cs) (.slice (some ⟨gu, 0, none⟩) N N) (.slice (some ⟨g6, 0, none⟩) (n + 1 + 1) cap6) w6) := by
              obtain ⟨n1, n2, n3, n4, n5, n6, n7⟩ := HNx.out
              obtain ⟨a1, a2, a3, a4⟩ := HW5.out
              obtain ⟨e1, e2, e3⟩ := own_grow (by simp [HNn.out]) a1 HA5.out.1.turn hown' hgrow hlies
              have e := HNX.out.1 h4
              rw [e] at n3 n4
              have b1 : Below w5.heap.size w5 (w5.alloc (.cells #[.int .i64 q.x, .int .i64 q.y, .int .i64 q.w, .int .i64 q.h] 52)) := (Below.refl _ _).alloc (Nat.le_refl _) _
              have a5 := app_below (a3.trans (b1.mono a3.size)) (HA2.out _).1 (Nat.le_refl _) hgrow
              refine ⟨e2, ?_, e3.turn, a5, n3, n4, fun c hc => ?_⟩
              · rw [show evR :: (q :: cs).reverse = (evR :: cs.reverse) ++ [q] by simp]
                exact e1
              · rcases List.mem_cons.1 hc with rfl | hc
                · exact n6
                · exact HA5.out.2 c hc
            clear hown' hgrow hlies hg6 HA2 HW5 HQ r0 r1 r2 r3 hi hz0 hz1 hz2 c0 HNx HNX
            go_wp2
            go_roundw
            case rel => exact ⟨k + 1, q :: cs, by go_num, by omega, HRel⟩
            case measure => simp [intOf]; omega
          · have h4' : (x.k == 4) = false := beq_eq_false_iff_ne.2 h4
            have HRel : Hid (ShP w l (k + 1) cs (.slice (some ⟨gu, 0, none⟩) N N) (.slice (some ⟨gc, 0, none⟩) (n + 1) cc) w5) := by
              obtain ⟨n1, n2, n3, n4, n5, n6, n7⟩ := HNx.out
              obtain ⟨a1, a2, a3, a4⟩ := HW5.out
              have e := HNX.out.2.2 (by rcases h45 with h | h | h | h | h <;> omega)
              rw [e] at n3 n4
              exact ⟨a1, a2, HA5.out.1, a3, n3, n4, HA5.out.2⟩
            clear HW5 HNx HNX
            go_wp2
            go_roundw
            case rel => exact ⟨k + 1, cs, by go_num, by omega, HRel⟩
            case measure => simp [intOf]; omega
    · obtain rfl : k = N := by omega
      have ik : ¬ (k : Int) < k := by omega
      have HF : Hid (OwR w.heap.size wr (.slice (some ⟨gu, 0, none⟩) k k) ((ann [] l).map Prod.snd) ∧ Below w.heap.size w wr) := by
        have h := HK.out.o
        have e : rowS l k = (ann [] l).map Prod.snd := by
          unfold rowS
          rw [List.take_of_length_le (by rw [List.length_map, ann_len, HN.out]; exact Nat.le_refl _), HN.out, Nat.sub_self]
          simp
        rw [e] at h
        exact ⟨h, HK.out.b⟩
      clear HK
      go_wp2
      go_ret
      exact ⟨_, rfl, HF.out⟩

end Go.Proofs.YtapachlhdgehjaaGreatDoor
