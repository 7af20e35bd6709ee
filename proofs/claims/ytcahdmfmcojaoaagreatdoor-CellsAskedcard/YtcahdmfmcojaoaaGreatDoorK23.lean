/-
  Texts of this claim, one behind the other: what each is about stands ahead of it.
-/
import Derived.Test.YtcahdmfmcojaoaaGreatDoorK21
import Derived.Test.YtcahdmfmcojaoaaGreatDoorK22
import Derived.Test.YtcahdmfmcojaoaaGreatDoorK0
import Derived.Laws.AppendOwnNone
import Derived.Test.YtcahdmfmcojaoaaGreatDoorK3
import Derived.Deep.DeepCutAuto
import Derived.BigQuiet
import Derived.Test.YtcahdmfmcojaoaaGreatDoorK8
import Derived.Test.YtcahdmfmcojaoaaGreatDoorK18
/-
  Contracts: slices.Concat of two lists of rectangles; package region's Join.
-/
namespace Go.Proofs.YtcahdmfmcojaoaaGreatDoor
open Go.RowKit Go.Sort Go.Shelf

end Go.Proofs.YtcahdmfmcojaoaaGreatDoor

/-
  Contracts of package geom: whether one lies in another, over another.
-/
namespace Go.Proofs.YtcahdmfmcojaoaaGreatDoor
open Go.RowKit

end Go.Proofs.YtcahdmfmcojaoaaGreatDoor

/-
  Contracts: two corners make a rectangle, by the program and by the document's answer.
-/
namespace Go.Proofs.YtcahdmfmcojaoaaGreatDoor
open Go.RowKit

end Go.Proofs.YtcahdmfmcojaoaaGreatDoor

/-
  Contracts of the document's answer: what two have together; the least one that has both; whether one lies in another, over another.
-/
namespace Go.Proofs.YtcahdmfmcojaoaaGreatDoor
open Go.RowKit
attribute [local go_sem] ite_max ite_min

end Go.Proofs.YtcahdmfmcojaoaaGreatDoor

/-
  Contracts of the document's answer for layer 13: the rectangles in which strokes show.
-/
namespace Go.Proofs.YtcahdmfmcojaoaaGreatDoor
open Go.RowKit

def OwR (lo : Nat) (w : World) (v : Value) (rs : List Rc) : Prop := w.ownsRow lo 56 4 v rs.length (flat rs)
theorem OwR.nil (lo : Nat) (w : World) : OwR lo w (.slice none 0 0) [] := World.ownsRow_nil _ _ _ _
theorem OwR.below {lo : Nat} {w w' : World} {v : Value} {rs : List Rc} (h : OwR lo w v rs) (hb : Below w.heap.size w w') : OwR lo w' v rs := row_below h hb
theorem OwS.below {lo : Nat} {w w' : World} {v : Value} {l : List St} (h : OwS lo w v l) (hb : Below w.heap.size w w') : OwS lo w' v l := row_below h hb
theorem OwR.weaken {lo lo' : Nat} {w : World} {v : Value} {rs : List Rc} (h : OwR lo w v rs) (hb : lo' ≤ lo) : OwR lo' w v rs := row_weaken h hb
theorem OwS.weaken {lo lo' : Nat} {w : World} {v : Value} {l : List St} (h : OwS lo w v l) (hb : lo' ≤ lo) : OwS lo' w v l := row_weaken h hb
def Apt (u v : Value) : Prop := ∀ g, u.ownBlock = some g → v.ownBlock ≠ some g
theorem Apt.ne {u v : Value} (h : Apt u v) : v.ownBlock = none ∨ v.ownBlock ≠ u.ownBlock := by
  cases e : v.ownBlock with
  | none => exact .inl rfl
  | some g => exact .inr fun c => h g c.symm e
theorem Apt.turn {u v : Value} (h : Apt u v) : Apt v u := fun g hv hu => h g hu hv
theorem Apt.grow {u v : Value} {lo H g n cap : Nat} {W : World} {e : TypeId} {size m : Nat} {xs : List Value} (h : Apt u v) (hv : W.ownsRow lo e size v m xs) (hH : W.heap.size ≤ H) (hl : u.ownBlock = some g ∨ g = H) : Apt (.slice (some ⟨g, 0, none⟩) n cap) v := by
  intro q hq hvq
  have e1 : q = g := by
    have : (Value.slice (some ⟨g, 0, none⟩) n cap).ownBlock = some g := rfl
    rw [this] at hq
    injection hq with hq
    exact hq.symm
  subst e1
  rcases hl with hl | hl
  · exact h q hl hvq
  · have := (row_lt hv q hvq).2
    omega
theorem own_cut {w : World} {base : Nat} {e : TypeId} {size n g cap : Nat} {xs ys : List Value} (h : w.ownsRow base e size (.slice (some ⟨g, 0, none⟩) (n + 1) cap) (n + 1) (xs ++ ys)) (hx : xs.length = n * size) : w.ownsRow base e size (.slice (some ⟨g, 0, none⟩) n cap) n xs := by
  obtain ⟨hl, ⟨h, _⟩ | ⟨g', cap', cur, h, hb, hc, h1, h2, h3, h4⟩⟩ := h
  · cases h
  · injection h with e1 _ e3
    injection e1 with e1
    injection e1 with e1 _ _
    subst e1 e3
    refine ⟨hx, .inr ⟨g, cap, cur, rfl, hb, hc, by omega, h2, h3, ?_⟩⟩
    have h5 : (cur.toList.take ((n + 1) * size)).take (n * size) = (xs ++ ys).take (n * size) := by rw [h4]
    rw [List.take_take, Nat.min_eq_left (Nat.mul_le_mul_right size (by omega)), List.take_left' hx] at h5
    exact h5

theorem sh_next {l : List St} {k : Nat} {cs : List Rc} (hk : k < l.length) (hd : (ann [] l).drop k = ann cs (l.drop k)) (he : clpE cs.length (l.drop k) = 0) :
    ((ann [] l).map Prod.snd).take (k + 1) = ((ann [] l).map Prod.snd).take k ++ [shR cs l[k]] ∧ (ann [] l).drop (k + 1) = ann (nxC cs l[k]) (l.drop (k + 1)) ∧ clpE (nxC cs l[k]).length (l.drop (k + 1)) = 0 ∧ (l[k].k = 5 → cs ≠ []) ∧ oneE l[k] = 0 := by
  rw [List.drop_eq_getElem_cons hk] at hd he
  have hk' : k < (ann [] l).length := by rw [ann_len]; exact hk
  have hk2 : k < ((ann [] l).map Prod.snd).length := by rw [List.length_map]; exact hk'
  rw [List.drop_eq_getElem_cons hk'] at hd
  have hd : (ann [] l)[k] :: (ann [] l).drop (k + 1) = (l[k], shR cs l[k]) :: ann (nxC cs l[k]) (l.drop (k + 1)) := hd
  injection hd with hd1 hd2
  obtain ⟨e1, e2, e3⟩ := clpE_cons he
  refine ⟨?_, hd2, by rw [nxC_len]; exact e3, fun h5 hn => e2 ⟨h5, by rw [hn]; rfl⟩, e1⟩
  rw [← List.take_append_getElem hk2, List.getElem_map, hd1]
theorem clp_le : ∀ (l : List St) (n : Nat), clpE n l = 0 → n ≤ l.length
  | [], n, h => by
    unfold clpE at h
    split at h
    · cases h
    · omega
  | s :: l, n, h => by
    obtain ⟨_, _, h3⟩ := clpE_cons h
    have := clp_le l _ h3
    have e : n ≤ opn n s + 1 := by
      unfold opn
      by_cases h4 : s.k = 4
      · rw [if_pos h4]; omega
      · rw [if_neg h4]
        split <;> omega
    rw [List.length_cons]
    omega
theorem Bk.put4 {W : World} {b : Nat} {a0 a1 a2 a3 : Value} {t : TypeId} (h : Bk W b #[a0, a1, a2, a3] t) (x y z u : Value) : Bk ((((W.setCell ⟨b, 0, none⟩ x).setCell ⟨b, 1, none⟩ y).setCell ⟨b, 2, none⟩ z).setCell ⟨b, 3, none⟩ u) b #[x, y, z, u] t := (((h.put 0 x).put 1 y).put 2 z).put 3 u
theorem Bk.at4 {W : World} {b : Nat} {a0 a1 a2 a3 : Value} {t : TypeId} (h : Bk W b #[a0, a1, a2, a3] t) : W.cell? ⟨b, 0, none⟩ = some a0 ∧ W.cell? ⟨b, 1, none⟩ = some a1 ∧ W.cell? ⟨b, 2, none⟩ = some a2 ∧ W.cell? ⟨b, 3, none⟩ = some a3 := ⟨by rw [h.cell]; rfl, by rw [h.cell]; rfl, by rw [h.cell]; rfl, by rw [h.cell]; rfl⟩
theorem own_grow {lo : Nat} {W W4 : World} {o : Obj} {u v : Value} {rs cs : List Rc} {r : Rc} {k g4 cap4 : Nat} (hk : k = rs.length) (hv : OwR lo W v cs) (ha : Apt u v)
    (hown : W4.ownsRow lo 56 4 (.slice (some ⟨g4, 0, none⟩) (k + 1) cap4) (k + 1) (flat rs ++ [.int .i64 r.x, .int .i64 r.y, .int .i64 r.w, .int .i64 r.h])) (hgrow : (W.alloc o).grownBy W4 u.ownBlock) (hlies : u.ownBlock = some g4 ∨ g4 = W.heap.size + 1) :
    OwR lo W4 (.slice (some ⟨g4, 0, none⟩) (k + 1) cap4) (rs ++ [r]) ∧ OwR lo W4 v cs ∧ Apt (.slice (some ⟨g4, 0, none⟩) (k + 1) cap4) v := by
  have a1 : OwR lo (W.alloc o) v cs := hv.below ((Below.refl _ _).alloc (Nat.le_refl _) _)
  refine ⟨?_, World.ownsRow.kept a1 hgrow ha.ne, Apt.grow ha a1 (by simp) hlies⟩
  unfold OwR
  rw [List.length_append, List.length_singleton, ← hk, flat_app, flat_one]
  exact hown
end Go.Proofs.YtcahdmfmcojaoaaGreatDoor

/-
  Contracts of the document's answer for layer 13: lists compared.
-/
namespace Go.Proofs.YtcahdmfmcojaoaaGreatDoor
open Go.RowKit

theorem cell_strokeB (w : World) (s : St) (t : TypeId) (b : Nat) (h : b = w.heap.size) : ∀ (j : Nat) (u : Value), (sCel s)[j]? = some u → (w.alloc (.cells (#[.int .u8 s.k, .int .i64 s.r.x, .int .i64 s.r.y, .int .i64 s.r.w, .int .i64 s.r.h, .int .u8 s.c.r, .int .u8 s.c.g, .int .u8 s.c.b, .int .u8 s.c.a, .int .u8 s.b.r, .int .u8 s.b.g, .int .u8 s.b.b, .int .u8 s.b.a, .string s.t, .int .i64 s.n]) t)).cell? ((⟨b, 0, none⟩ : Addr).add j) = some u := by
  intro j u hj
  subst h
  have e : (⟨w.heap.size, 0, none⟩ : Addr).add j = ⟨w.heap.size, j, none⟩ := by
    simp [Addr.add]
    intro h
    exact h.symm
  rw [e, (Bk.new w (#[.int .u8 s.k, .int .i64 s.r.x, .int .i64 s.r.y, .int .i64 s.r.w, .int .i64 s.r.h, .int .u8 s.c.r, .int .u8 s.c.g, .int .u8 s.c.b, .int .u8 s.c.a, .int .u8 s.b.r, .int .u8 s.b.g, .int .u8 s.b.b, .int .u8 s.b.a, .string s.t, .int .i64 s.n]) t).cell j, ← hj]
  show (sCel s).toArray[j]? = _
  simp

end Go.Proofs.YtcahdmfmcojaoaaGreatDoor

/-
  Contracts of the document's answer for layer 13: lists compared; flat lists.
-/
namespace Go.Proofs.YtcahdmfmcojaoaaGreatDoor
open Go.RowKit

theorem grow_row {lo : Nat} {W W4 : World} {o : Obj} {u v : Value} {e : TypeId} {size m g4 n cap4 : Nat} {xs : List Value} (hv : W.ownsRow lo e size v m xs) (ha : Apt u v) (hgrow : (W.alloc o).grownBy W4 u.ownBlock) (hlies : u.ownBlock = some g4 ∨ g4 = W.heap.size + 1) : W4.ownsRow lo e size v m xs ∧ Apt (.slice (some ⟨g4, 0, none⟩) n cap4) v := by
  have a1 : (W.alloc o).ownsRow lo e size v m xs := row_below hv ((Below.refl _ _).alloc (Nat.le_refl _) _)
  exact ⟨World.ownsRow.kept a1 hgrow ha.ne, Apt.grow ha a1 (by simp) hlies⟩
theorem snocS {lo : Nat} {W : World} {v : Value} {L : List St} {x : St} {k : Nat} (hk : k = L.length) (h : W.ownsRow lo 59 15 v (k + 1) (flatZ L ++ sCel x)) : OwS lo W v (L ++ [x]) := by
  unfold OwS
  rw [List.length_append, List.length_singleton, ← hk, flatZ_app, flatZ_one]
  exact h
theorem snocR {lo : Nat} {W : World} {v : Value} {L : List Rc} {r : Rc} {k : Nat} (hk : k = L.length) (h : W.ownsRow lo 56 4 v (k + 1) (flat L ++ [.int .i64 r.x, .int .i64 r.y, .int .i64 r.w, .int .i64 r.h])) : OwR lo W v (L ++ [r]) := by
  unfold OwR
  rw [List.length_append, List.length_singleton, ← hk, flat_app, flat_one]
  exact h

def fla1 (l : List St) : List St := if chkS l = 0 then (flaL l).map Prod.fst else []
def fla2 (l : List St) : List Rc := if chkS l = 0 then (flaL l).map Prod.snd else []
def AnsF (w : World) (l : List St) (e : Ending) (w' : World) : Prop := ∃ u q, e = .returned (.tuple #[u, q, .int .i64 (chkS l)]) ∧ Hid (OwS w.heap.size w' u (fla1 l) ∧ OwR w.heap.size w' q (fla2 l) ∧ Apt u q ∧ Below w.heap.size w w')

structure FlW (B : Nat) (w2 : World) (A : List (St × Rc)) (k : Nat) (u q : Value) (W : World) : Prop where
  s : OwS B W u (((A.take k).filter fun p => drw p.1).map Prod.fst)
  r : OwR B W q (((A.take k).filter fun p => drw p.1).map Prod.snd)
  a : Apt u q
  b : Below B w2 W
theorem FlW.below {B : Nat} {w2 : World} {A : List (St × Rc)} {k : Nat} {u q : Value} {W W' : World} (h : FlW B w2 A k u q W) (hB : B ≤ W.heap.size) (hb : Below W.heap.size W W') : FlW B w2 A k u q W' := ⟨h.s.below hb, h.r.below hb, h.a, h.b.trans (hb.mono hB)⟩

end Go.Proofs.YtcahdmfmcojaoaaGreatDoor

/-
  Package cells: appendUnlike: the pieces in which two rows are unlike.
-/
namespace Go.Proofs.YtcahdmfmcojaoaaGreatDoor
open Go.RowKit

structure Ru where
  x : Int
  y : Int
  cs : List Ce
def flatU : List (Ru × Value) → List Value
  | [] => []
  | p :: t => [.int .i64 p.1.x, .int .i64 p.1.y, p.2] ++ flatU t
theorem flatU_app (l m : List (Ru × Value)) : flatU (l ++ m) = flatU l ++ flatU m := by
  induction l with
  | nil => rfl
  | cons p t ih => show _ ++ flatU (t ++ m) = (_ ++ flatU t) ++ flatU m; rw [ih, List.append_assoc]
theorem info_run : (Tryz.prog.info? 67).map (fun i => (i.zero, i.size, i.bytes)) = some (some (.agg #[.int .i64 0, .int .i64 0, .slice none 0 0]), 3, 40) := by kernel_rfl
theorem own_typ2 {lo lo' : Nat} {w : World} {v v' : Value} {e e' : TypeId} {k k' n n' : Nat} {xs xs' : List Value} (h : w.ownsRow lo e k v n xs) (h' : w.ownsRow lo' e' k' v' n' xs') (ht : e ≠ e') : v.ownBlock = none ∨ v.ownBlock ≠ v'.ownBlock := by
  rcases h.2 with ⟨rfl, _⟩ | ⟨g, cap, cur, rfl, hb, hc, _⟩
  · exact .inl rfl
  · right
    intro he
    rcases h'.2 with ⟨rfl, _⟩ | ⟨g', cap', cur', rfl, hb', hc', _⟩
    · cases he
    · injection he with he
      subst he
      rw [hc] at hc'
      injection hc' with hc'
      injection hc' with _ e2 _
      exact ht e2

def toU (d : Nat → Bool) : Nat → Nat → Nat
  | 0, i => i
  | f + 1, i => if d i = true then toU d f (i + 1) else i
def unlF (d : Nat → Bool) (n : Nat) : Nat → Nat → List (Nat × Nat)
  | 0, _ => []
  | f + 1, i => if i < n then (if i < toU d (n - i) i then [(i, toU d (n - i) i)] else []) ++ unlF d n f (toU d (n - i) i + 1) else []
theorem toU_at (d : Nat → Bool) (n : Nat) : ∀ (f k m : Nat), f = n - k → k ≤ m → m ≤ n → (∀ i, k ≤ i → i < m → d i = true) → (m < n → d m = false) → toU d f k = m
  | 0, k, m, hf, h1, h2, _, _ => by
    unfold toU
    omega
  | f + 1, k, m, hf, h1, h2, h3, h4 => by
    unfold toU
    by_cases e : k = m
    · subst e
      rw [h4 (by omega), if_neg (by simp)]
    · rw [h3 k (Nat.le_refl _) (by omega), if_pos rfl]
      exact toU_at d n f (k + 1) m (by omega) (by omega) h2 (fun i hi => h3 i (by omega)) h4
def unD (la lb : List Ce) (k : Nat) : Bool := !eqC (la.getD k ceZ) (lb.getD k ceZ)
def unR (lb : List Ce) (y : Int) (p : Nat × Nat) : Ru := ⟨p.1, y, (lb.drop p.1).take (p.2 - p.1)⟩
def unL (la lb : List Ce) (y : Int) : List Ru := (unlF (unD la lb) la.length (la.length + 1) 0).map (unR lb y)

theorem lsC_sub {w : World} {g o n cap k m N : Nat} {l : List Ce} (h : LsC w (.slice (some ⟨g, o, none⟩) n cap) l) (hn : n = l.length) (hk : k ≤ m) (hm : m ≤ n) (hN : N = m - k) : LsC w (.slice (some ⟨g, o + k * 11, none⟩) N (cap - k)) ((l.drop k).take (m - k)) := by
  obtain ⟨oa, c, e, hc, hg⟩ := h
  injection e with e1 e2 e3
  subst e3
  have hl : ((l.drop k).take (m - k)).length = m - k := by simp; omega
  refine ⟨some ⟨g, o + k * 11, none⟩, cap - k, by rw [hl, hN], by rw [hl]; omega, fun hp => ?_⟩
  rw [hl] at hp
  obtain ⟨g', o', e4, hlt, hat⟩ := hg (by omega)
  rw [← e1] at e4
  injection e4 with e4
  injection e4 with e5 e6
  subst e5 e6
  refine ⟨g, o + k * 11, rfl, hlt, fun i hi => ?_⟩
  rw [hl] at hi
  have := hat (k + i) (by omega)
  rw [show o + (k + i) * 11 = o + k * 11 + i * 11 by omega] at this
  simpa using this

theorem cell_three (W : World) (a b c : Value) (t : TypeId) : ∀ (j : Nat) (u : Value), [a, b, c][j]? = some u → (W.alloc (.cells #[a, b, c] t)).cell? ((⟨W.heap.size, 0, none⟩ : Addr).add j) = some u := by
  intro j u hj
  have k := Bk.new W #[a, b, c] t
  match j, hj with
  | 0, hj => simp at hj; subst hj; exact (k.cell 0)
  | 1, hj => simp at hj; subst hj; exact (k.cell 1)
  | 2, hj => simp at hj; subst hj; exact (k.cell 2)
theorem one_three (k y : Int) (a : Option Addr) (n c : Nat) : ∀ u ∈ [Value.int .i64 k, Value.int .i64 y, Value.slice a n c], u.oneCell' = true := by
  intro u hu
  simp only [List.mem_cons, List.not_mem_nil, or_false] at hu
  rcases hu with rfl | rfl | rfl <;> rfl
structure UnM (w0 : World) (R : List (Ru × Value)) (u : Value) (w : World) : Prop where
  o : w.ownsRow w0.heap.size 67 3 u R.length (flatU R)
  c : ∀ p ∈ R, OwC w0.heap.size w p.2 p.1.cs
  b : Below w0.heap.size w0 w
theorem UnM.below {w0 : World} {R : List (Ru × Value)} {u : Value} {w W : World} (h : UnM w0 R u w) (hb : Below w.heap.size w W) : UnM w0 R u W :=
  ⟨row_below h.o hb, fun p hp => row_below (h.c p hp) hb, h.b.trans (hb.mono h.b.size)⟩
theorem UnM.snoc {w0 : World} {R : List (Ru × Value)} {u : Value} {w W W4 : World} (h : UnM w0 R u w) (hb : Below w.heap.size w W) (q : Ru) (x u' : Value) (hx : OwC w0.heap.size W x q.cs) {n : Nat} (hn : n = R.length) (h4 : W4.ownsRow w0.heap.size 67 3 u' (n + 1) (flatU R ++ [.int .i64 q.x, .int .i64 q.y, x])) (hg : W.grownBy W4 u.ownBlock) : UnM w0 (R ++ [(q, x)]) u' W4 := by
  have hW := h.below hb
  refine ⟨?_, fun p hp => ?_, hW.b.grown hg hW.b.size (fun g hg => (row_lt hW.o g hg).1)⟩
  · rw [List.length_append, List.length_singleton, ← hn, flatU_app]
    exact h4
  · rcases List.mem_append.1 hp with hp | hp
    · exact World.ownsRow.kept (hW.c p hp) hg (own_typ2 (hW.c p hp) hW.o (by decide))
    · rw [List.mem_singleton] at hp
      subst hp
      exact World.ownsRow.kept hx hg (own_typ2 hx hW.o (by decide))

set_option maxRecDepth 20000 in
set_option maxHeartbeats 8000000 in
theorem unl_any (w0 : World) (R0 : List (Ru × Value)) (u0 : Value) (la lb : List Ce) (va vb : Value) (y : Int) (w : World) (hu : UnM w0 R0 u0 w) (ha : LsC w0 va la) (hb : LsC w0 vb lb) (hl : la.length = lb.length) (h3 : la.length ≤ 20000) (hR : R0.length ≤ 600000) :
    Calls Tryz.prog 55 #[u0, va, vb, .int .i64 y] w fun e w' => ∃ u' R', e = .returned u' ∧ Hid (UnM w0 R' u' w' ∧ R'.map Prod.fst = R0.map Prod.fst ++ unL la lb y ∧ R'.length ≤ R0.length + la.length) := by
  obtain ⟨i0, hi, hz0, hz1, hz2⟩ := info_parts info_run
  obtain ⟨oa, ca, rfl, hca, hga⟩ := id ha
  obtain ⟨ob, cb, rfl, hcb, hgb⟩ := id hb
  have HB : Hid (LsC w0 (.slice ob lb.length cb) lb) := hb
  obtain ⟨n, hn⟩ : ∃ n, n = la.length := ⟨_, rfl⟩
  have HGa : Hid (0 < n → ∃ g o, oa = some ⟨g, o, none⟩ ∧ g < w0.heap.size ∧ ∀ i (_ : i < n), CeAt w0 g (o + i * 11) (la.getD i ceZ)) := fun h => by
    obtain ⟨g, o, e, hg, hat⟩ := hga (by omega)
    exact ⟨g, o, e, hg, fun i hi => by have hi2 : i < la.length := by omega
                                       have := hat i hi2
                                       simpa [List.getD, hi2] using this⟩
  have HGb : Hid (0 < n → ∃ g o, ob = some ⟨g, o, none⟩ ∧ g < w0.heap.size ∧ ∀ i (_ : i < n), CeAt w0 g (o + i * 11) (lb.getD i ceZ)) := fun h => by
    obtain ⟨g, o, e, hg, hat⟩ := hgb (by omega)
    exact ⟨g, o, e, hg, fun i hi => by have hi2 : i < lb.length := by omega
                                       have := hat i hi2
                                       simpa [List.getD, hi2] using this⟩
  have HT : Hid (R0.map Prod.fst ++ unL la lb y = R0.map Prod.fst ++ (unlF (unD la lb) n (n + 1) 0).map (unR lb y)) := by unfold Hid unL; rw [hn]
  have hnb : n = lb.length := by omega
  obtain ⟨T, hT⟩ : ∃ T, T = R0.map Prod.fst ++ unL la lb y := ⟨_, rfl⟩
  rw [← hT] at HT ⊢
  rw [← hnb] at HB hcb
  rw [← hn] at hca
  simp only [← hn, ← hnb] at h3 ⊢
  have HLb : Hid (n = lb.length) := hnb
  have H0 : Hid (UnM w0 R0 u0 w) := hu
  obtain ⟨r0, hr0⟩ : ∃ r0, r0 = R0.length := ⟨_, rfl⟩
  rw [← hr0] at hR ⊢
  have HR0 : Hid (r0 = R0.length) := hr0
  clear ha hb hga hgb hn hnb hl hT hu hr0
  go_enter Tryz.func55, Tryz.ntmps55
  go_wp2_with fail
  go_loopw [0, 9] (fun ua i wr => ∃ (u : Value) (R : List (Ru × Value)) (k f : Nat), u = ua ∧ k ≤ n + 1 ∧ i = .int .i64 k ∧ Hid (UnM w0 R u wr ∧ T = R.map Prod.fst ++ (unlF (unD la lb) n (f + 1) k).map (unR lb y) ∧ n ≤ f + k ∧ R.length ≤ r0 + k ∧ R.length ≤ r0 + n)) (fun _ i _ => n + 1 - (intOf i).toNat)
  case atStart => exact ⟨_, R0, 0, n, rfl, by omega, rfl, H0.out, HT.out, by omega, by have := HR0.out; omega, by have := HR0.out; omega⟩
  case round =>
    obtain ⟨u, R, k, f, rfl, hk, rfl, HK⟩ := hrel
    clear H0
    rename World => wo
    by_cases hlt : k < n
    · have ik : (k : Int) < n := by omega
      obtain ⟨g, o, rfl, hgl, hat⟩ := HGa.out (by omega)
      obtain ⟨g', o', rfl, hgl', hat'⟩ := HGb.out (by omega)
      have HAt : Hid (∀ i, i < n → ∀ W, Below w0.heap.size w0 W → CeAt W g (o + i * 11) (la.getD i ceZ) ∧ CeAt W g' (o' + i * 11) (lb.getD i ceZ)) := fun i hi W hW => ⟨(hat i hi).kept fun j => hW.cell (p := ⟨g, j, none⟩) hgl, (hat' i hi).kept fun j => hW.cell (p := ⟨g', j, none⟩) hgl'⟩
      clear hat hat'
      go_wp2_with fail
      go_loopw [10] (fun i wr => ∃ m : Nat, k ≤ m ∧ m ≤ n ∧ i = .int .i64 m ∧ Hid (Below wo.heap.size wo wr ∧ ∀ i, k ≤ i → i < m → unD la lb i = true)) (fun i _ => n - (intOf i).toNat)
      case atStart => exact ⟨k, Nat.le_refl _, by omega, rfl, Below.refl _ _, fun i h1 h2 => by omega⟩
      case round =>
        obtain ⟨m, hkm, hmn, rfl, HM⟩ := hrel
        by_cases hlm : m < n
        · have im : (m : Int) < n := by omega
          have ne : Nonempty (Gw wr) := ⟨⟨wr, Below.refl _ _⟩⟩
          obtain ⟨hx, hy⟩ := HAt.out m hlm wr (HK.out.1.b.trans (HM.out.1.mono HK.out.1.b.size))
          have hud : unD la lb m = !eqC (la.getD m ceZ) (lb.getD m ceZ) := rfl
          generalize la.getD m ceZ = x at *
          generalize lb.getD m ceZ = z at *
          have hq := neq_cell x z
          obtain ⟨x0, x1, x2, x3, x4, x5, x6, x7, x8, x9, x10⟩ := hx
          obtain ⟨y0, y1, y2, y3, y4, y5, y6, y7, y8, y9, y10⟩ := hy
          generalize eqC x z = q at *
          cases q
          · have HUd : Hid (unD la lb m = true) := hud
            clear hud
            simp only [Bool.not_false] at hq
            go_wp2_with fail
            go_quiet (fail)
            clear hq x0 x1 x2 x3 x4 x5 x6 x7 x8 x9 x10 y0 y1 y2 y3 y4 y5 y6 y7 y8 y9 y10
            go_wp2
            go_roundw
            case rel => exact ⟨m + 1, by omega, by omega, by go_num, below_drewN HM.out.1, fun i h1 h2 => by
              by_cases e : i = m
              · subst e; exact HUd.out
              · exact HM.out.2 i h1 (by omega)⟩
            case measure => simp [intOf]; omega
          · have HUd : Hid (unD la lb m = false) := hud
            clear hud
            simp only [Bool.not_true] at hq
            go_wp2_with fail
            go_quiet (fail)
            clear hq x0 x1 x2 x3 x4 x5 x6 x7 x8 x9 x10 y0 y1 y2 y3 y4 y5 y6 y7 y8 y9 y10
            have HM2 : Hid (Below wo.heap.size wo (wr.drewN nq) ∧ toU (unD la lb) (n - k) k = m) := ⟨below_drewN HM.out.1, toU_at _ n _ k m rfl hkm hmn HM.out.2 (fun _ => HUd.out)⟩
            generalize wr.drewN nq = wz at *
            clear HM HUd im
            by_cases hkm2 : k < m
            · have HS : Hid (UnM w0 R u wz ∧ n = lb.length) := ⟨HK.out.1.below HM2.out.1, HLb.out⟩
              have lo1 : (k : Int) ≤ m := by omega
              have lo2 : (m : Int) ≤ cb := by omega
              have lo3 : ¬ cb = k := by omega
              have lo4 : ¬ k = cb := by omega
              obtain ⟨N, hN⟩ : ∃ N, N = m - k := ⟨_, rfl⟩
              have HSub : Hid (LsC wz (.slice (some ⟨g', o' + k * 11, none⟩) (m - k) (cb - k)) ((lb.drop k).take (m - k)) ∧ ((lb.drop k).take (m - k)).length = m - k) := ⟨lsC_sub (HB.out.below (HS.out.1.b)) HS.out.2 (by omega) hmn rfl, by have := HS.out.2; simp; omega⟩
              have HClo : Hid (Calls Tryz.prog 68 #[.slice (some ⟨g', o' + k * 11, none⟩) (m - k) (cb - k)] wz fun e w' => ∃ u, e = .returned u ∧ OwC wz.heap.size w' u ((lb.drop k).take (m - k)) ∧ Below wz.heap.size wz w') := cloneC_any _ _ wz HSub.out.1 (fun c e => by cases e) (by have := HSub.out.2; omega)
              go_wp2_with fail
              refine HClo.out.mono ?_
              rintro e w3 ⟨x, rfl, hx, hb3⟩
              obtain ⟨gx, cx, rfl, hxm⟩ := hx.scm (by rw [HSub.out.2]; omega)
              have H3 : Hid (UnM w0 R u w3 ∧ OwC w0.heap.size w3 (.slice (some ⟨gx, 0, none⟩) ((lb.drop k).take (m - k)).length cx) ((lb.drop k).take (m - k)) ∧ Below wz.heap.size wz w3) := ⟨HS.out.1.below hb3, row_weaken hx HS.out.1.b.size, hb3⟩
              clear hx hxm hb3 HClo HSub
              have HA : Hid (∀ o, (w3.alloc o).ownsRow w0.heap.size 67 3 u R.length (flatU R) ∧ w0.heap.size ≤ (w3.alloc o).heap.size) := fun o => ⟨row_below H3.out.1.o ((Below.refl _ _).alloc (Nat.le_refl _) _), by have := H3.out.1.b.size; simp; omega⟩
              have hc3 : Hid (R.length + 1 ≤ maxLen) := by have := HK.out.2.2.2.2; unfold Hid maxLen; omega
              have hc4 : Hid ((R.length + 1) * 40 ≤ 140737488355328) := by have := HK.out.2.2.2.2; unfold Hid; omega
              generalize hL : ((lb.drop k).take (m - k)).length = L at *
              go_wp2_with (at_builtin; refine wpList_append_lies _ rfl _ _ 60 rfl w0.heap.size 67 i0 (.agg #[.int .i64 0, .int .i64 0, .slice none 0 0]) 3 40 Tryz.underlying60 hi hz0 hz1 hz2 rfl (by decide) u R.length (flatU R) rfl (HA.out _).1 _ 1 1 [.int .i64 k, .int .i64 y, .slice (some ⟨gx, 0, none⟩) L cx] rfl rfl (cell_three _ _ _ _ _) (one_three _ _ _ _ _) (by decide) hc3.out hc4.out (HA.out _).2 _ rfl ?_)
              intro g4 cap4 w4 hown' hgrow hlies hg4
              have HRel : Hid (UnM w0 (R ++ [(⟨k, y, (lb.drop k).take (m - k)⟩, .slice (some ⟨gx, 0, none⟩) L cx)]) (.slice (some ⟨g4, 0, none⟩) (R.length + 1) cap4) w4) :=
                H3.out.1.snoc ((Below.refl _ _).alloc (Nat.le_refl _) _) ⟨k, y, (lb.drop k).take (m - k)⟩ _ _ (row_below H3.out.2.1 ((Below.refl _ _).alloc (Nat.le_refl _) _)) rfl hown' hgrow
              have HRel2 : Hid (∃ f', T = (R ++ [((⟨k, y, (lb.drop k).take (m - k)⟩ : Ru), Value.slice (some ⟨gx, 0, none⟩) L cx)]).map Prod.fst ++ (unlF (unD la lb) n (f' + 1) (m + 1)).map (unR lb y) ∧ n ≤ f' + (m + 1) ∧ (R ++ [((⟨k, y, (lb.drop k).take (m - k)⟩ : Ru), Value.slice (some ⟨gx, 0, none⟩) L cx)]).length ≤ r0 + (m + 1) ∧ (R ++ [((⟨k, y, (lb.drop k).take (m - k)⟩ : Ru), Value.slice (some ⟨gx, 0, none⟩) L cx)]).length ≤ r0 + n) := by
                obtain ⟨a1, a2, a3, a4, a5⟩ := HK.out
                obtain ⟨f', rfl⟩ : ∃ f', f = f' + 1 := ⟨f - 1, by omega⟩
                refine ⟨f', ?_, by omega, by simp; omega, by simp; omega⟩
                rw [a2, unlF, if_pos hlt, HM2.out.2, if_pos hkm2]
                simp [unR]
              clear hown' hgrow hlies hg4 HA H3 HK HM2 HS
              go_wp2
              go_roundw
              case rel =>
                obtain ⟨f', b1, b2, b3, b4⟩ := HRel2.out
                exact ⟨_, _, m + 1, f', rfl, by omega, by go_num, HRel.out, b1, b2, b3, b4⟩
              case measure => simp [intOf]; omega
            · obtain hkm3 : m = k := by omega
              have HRel : Hid (UnM w0 R u wz) := HK.out.1.below HM2.out.1
              have HRel2 : Hid (∃ f', T = R.map Prod.fst ++ (unlF (unD la lb) n (f' + 1) (k + 1)).map (unR lb y) ∧ n ≤ f' + (k + 1) ∧ R.length ≤ r0 + (k + 1) ∧ R.length ≤ r0 + n) := by
                obtain ⟨a1, a2, a3, a4, a5⟩ := HK.out
                obtain ⟨f', rfl⟩ : ∃ f', f = f' + 1 := ⟨f - 1, by omega⟩
                refine ⟨f', ?_, by omega, by omega, by omega⟩
                rw [a2, unlF, if_pos hlt, HM2.out.2, if_neg hkm2, hkm3]
                simp
              have lo5 : decide ((k : Int) < (m : Int)) = false := by simp; omega
              clear HK HM2
              go_wp2
              go_roundw
              case rel =>
                obtain ⟨f', b1, b2, b3, b4⟩ := HRel2.out
                exact ⟨_, _, k + 1, f', rfl, by omega, by go_num, HRel.out, b1, b2, b3, b4⟩
              case measure => simp [intOf]; omega
        · obtain rfl : m = n := by omega
          go_wp2_with fail
          go_quiet (fail)
          have HM2 : Hid (Below wo.heap.size wo (wr.drewN nq) ∧ toU (unD la lb) (m - k) k = m) := ⟨below_drewN HM.out.1, toU_at _ m _ k m rfl hkm hmn HM.out.2 (fun h => absurd h (Nat.lt_irrefl _))⟩
          generalize wr.drewN nq = wz at *
          clear HM
          by_cases hkm2 : k < m
          · have HS : Hid (UnM w0 R u wz ∧ m = lb.length) := ⟨HK.out.1.below HM2.out.1, HLb.out⟩
            have lo1 : (k : Int) ≤ m := by omega
            have lo2 : (m : Int) ≤ cb := by omega
            have lo3 : ¬ cb = k := by omega
            have lo4 : ¬ k = cb := by omega
            obtain ⟨N, hN⟩ : ∃ N, N = m - k := ⟨_, rfl⟩
            have HSub : Hid (LsC wz (.slice (some ⟨g', o' + k * 11, none⟩) (m - k) (cb - k)) ((lb.drop k).take (m - k)) ∧ ((lb.drop k).take (m - k)).length = m - k) := ⟨lsC_sub (HB.out.below (HS.out.1.b)) HS.out.2 (by omega) hmn rfl, by have := HS.out.2; simp; omega⟩
            have HClo : Hid (Calls Tryz.prog 68 #[.slice (some ⟨g', o' + k * 11, none⟩) (m - k) (cb - k)] wz fun e w' => ∃ u, e = .returned u ∧ OwC wz.heap.size w' u ((lb.drop k).take (m - k)) ∧ Below wz.heap.size wz w') := cloneC_any _ _ wz HSub.out.1 (fun c e => by cases e) (by have := HSub.out.2; omega)
            go_wp2_with fail
            refine HClo.out.mono ?_
            rintro e w3 ⟨x, rfl, hx, hb3⟩
            obtain ⟨gx, cx, rfl, hxm⟩ := hx.scm (by rw [HSub.out.2]; omega)
            have H3 : Hid (UnM w0 R u w3 ∧ OwC w0.heap.size w3 (.slice (some ⟨gx, 0, none⟩) ((lb.drop k).take (m - k)).length cx) ((lb.drop k).take (m - k)) ∧ Below wz.heap.size wz w3) := ⟨HS.out.1.below hb3, row_weaken hx HS.out.1.b.size, hb3⟩
            clear hx hxm hb3 HClo HSub
            have HA : Hid (∀ o, (w3.alloc o).ownsRow w0.heap.size 67 3 u R.length (flatU R) ∧ w0.heap.size ≤ (w3.alloc o).heap.size) := fun o => ⟨row_below H3.out.1.o ((Below.refl _ _).alloc (Nat.le_refl _) _), by have := H3.out.1.b.size; simp; omega⟩
            have hc3 : Hid (R.length + 1 ≤ maxLen) := by have := HK.out.2.2.2.2; unfold Hid maxLen; omega
            have hc4 : Hid ((R.length + 1) * 40 ≤ 140737488355328) := by have := HK.out.2.2.2.2; unfold Hid; omega
            generalize hL : ((lb.drop k).take (m - k)).length = L at *
            go_wp2_with (at_builtin; refine wpList_append_lies _ rfl _ _ 60 rfl w0.heap.size 67 i0 (.agg #[.int .i64 0, .int .i64 0, .slice none 0 0]) 3 40 Tryz.underlying60 hi hz0 hz1 hz2 rfl (by decide) u R.length (flatU R) rfl (HA.out _).1 _ 1 1 [.int .i64 k, .int .i64 y, .slice (some ⟨gx, 0, none⟩) L cx] rfl rfl (cell_three _ _ _ _ _) (one_three _ _ _ _ _) (by decide) hc3.out hc4.out (HA.out _).2 _ rfl ?_)
            intro g4 cap4 w4 hown' hgrow hlies hg4
            have HRel : Hid (UnM w0 (R ++ [(⟨k, y, (lb.drop k).take (m - k)⟩, .slice (some ⟨gx, 0, none⟩) L cx)]) (.slice (some ⟨g4, 0, none⟩) (R.length + 1) cap4) w4) :=
              H3.out.1.snoc ((Below.refl _ _).alloc (Nat.le_refl _) _) ⟨k, y, (lb.drop k).take (m - k)⟩ _ _ (row_below H3.out.2.1 ((Below.refl _ _).alloc (Nat.le_refl _) _)) rfl hown' hgrow
            have HRel2 : Hid (∃ f', T = (R ++ [((⟨k, y, (lb.drop k).take (m - k)⟩ : Ru), Value.slice (some ⟨gx, 0, none⟩) L cx)]).map Prod.fst ++ (unlF (unD la lb) m (f' + 1) (m + 1)).map (unR lb y) ∧ m ≤ f' + (m + 1) ∧ (R ++ [((⟨k, y, (lb.drop k).take (m - k)⟩ : Ru), Value.slice (some ⟨gx, 0, none⟩) L cx)]).length ≤ r0 + (m + 1) ∧ (R ++ [((⟨k, y, (lb.drop k).take (m - k)⟩ : Ru), Value.slice (some ⟨gx, 0, none⟩) L cx)]).length ≤ r0 + m) := by
              obtain ⟨a1, a2, a3, a4, a5⟩ := HK.out
              obtain ⟨f', rfl⟩ : ∃ f', f = f' + 1 := ⟨f - 1, by omega⟩
              refine ⟨f', ?_, by omega, by simp; omega, by simp; omega⟩
              rw [a2, unlF, if_pos hlt, HM2.out.2, if_pos hkm2]
              simp [unR]
            clear hown' hgrow hlies hg4 HA H3 HK HM2 HS
            go_wp2
            go_roundw
            case rel =>
              obtain ⟨f', b1, b2, b3, b4⟩ := HRel2.out
              exact ⟨_, _, m + 1, f', rfl, by omega, by go_num, HRel.out, b1, b2, b3, b4⟩
            case measure => simp [intOf]; omega
          · obtain hkm3 : m = k := by omega
            have HRel : Hid (UnM w0 R u wz) := HK.out.1.below HM2.out.1
            have HRel2 : Hid (∃ f', T = R.map Prod.fst ++ (unlF (unD la lb) m (f' + 1) (k + 1)).map (unR lb y) ∧ m ≤ f' + (k + 1) ∧ R.length ≤ r0 + (k + 1) ∧ R.length ≤ r0 + m) := by
              obtain ⟨a1, a2, a3, a4, a5⟩ := HK.out
              obtain ⟨f', rfl⟩ : ∃ f', f = f' + 1 := ⟨f - 1, by omega⟩
              refine ⟨f', ?_, by omega, by omega, by omega⟩
              rw [a2, unlF, if_pos hlt, HM2.out.2, if_neg hkm2, hkm3]
              simp
            have lo5 : decide ((k : Int) < (m : Int)) = false := by simp; omega
            clear HK HM2
            go_wp2
            go_roundw
            case rel =>
              obtain ⟨f', b1, b2, b3, b4⟩ := HRel2.out
              exact ⟨_, _, k + 1, f', rfl, by omega, by go_num, HRel.out, b1, b2, b3, b4⟩
            case measure => simp [intOf]; omega
    · have HF : Hid (UnM w0 R u wo ∧ R.map Prod.fst = T ∧ R.length ≤ r0 + n) := by
        obtain ⟨a1, a2, a3, a4, a5⟩ := HK.out
        refine ⟨a1, ?_, a5⟩
        rw [a2, unlF, if_neg hlt]
        simp
      clear HK
      go_wp2
      go_ret
      exact ⟨u, R, rfl, HF⟩

end Go.Proofs.YtcahdmfmcojaoaaGreatDoor
