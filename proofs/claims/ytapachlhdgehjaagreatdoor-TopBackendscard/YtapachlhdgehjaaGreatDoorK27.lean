/-
  Texts of this claim, one behind the other: what each is about stands ahead of it.
-/
import Derived.Test.YtapachlhdgehjaaGreatDoorK26
import Derived.Test.YtapachlhdgehjaaGreatDoorK16
import Derived.Test.YtapachlhdgehjaaGreatDoorK12
import Derived.Test.YtapachlhdgehjaaGreatDoorK13
/-
  The sides of a frame in plain words: each place of the border lies in just one of them.
-/
namespace Go.Proofs.YtapachlhdgehjaaGreatDoor
open Go.RowKit

def inQ (q : Rc) (px py : Int) : Prop := q.x ≤ px ∧ px < q.x + q.w ∧ q.y ≤ py ∧ py < q.y + q.h
theorem emp_no {x y n m : Int} (h : mayB x y n m = true) (h1 : 0 < n) (h2 : 0 < m) : emptyB x y n m = false := by
  unfold emptyB
  rw [h]
  have e1 : (n == 0) = false := by simpa using (by omega : ¬ n = 0)
  have e2 : (m == 0) = false := by simpa using (by omega : ¬ m = 0)
  rw [e1, e2]
  rfl
theorem ins_one {x y n m : Int} (h : mayB x y n m = true) (h1 : 0 < n) (h2 : 0 < m) : insR x y n m 1 = if n ≤ 2 ∨ m ≤ 2 then zr else ⟨x + 1, y + 1, n - 2, m - 2⟩ := by
  have he := emp_no h h1 h2
  unfold insR
  rw [h, he, if_pos (by decide)]
  split
  · next hc =>
    rw [btw_no (by omega)]
    rfl
  · next hc =>
    rw [btw_yes (by omega) (by omega)]
    have hm : mayB (x + 1) (y + 1) (x + n - 1 - (x + 1)) (y + m - 1 - (y + 1)) = true := by
      rw [may_iff] at h ⊢
      omega
    unfold szR
    rw [if_pos hm]
    congr 1 <;> omega
theorem bord_form {r : Rc} (h : zMa r = true) (h1 : 0 < r.w) (h2 : 0 < r.h) : bordL r = if r.w ≤ 2 ∨ r.h ≤ 2 then [r] else [⟨r.x, r.y, r.w, 1⟩, ⟨r.x, r.y + 1, 1, r.h - 2⟩, ⟨r.x + r.w - 1, r.y + 1, 1, r.h - 2⟩, ⟨r.x, r.y + r.h - 1, r.w, 1⟩] := by
  obtain ⟨x, y, n, m⟩ := r
  have h : mayB x y n m = true := h
  replace h1 : 0 < n := h1
  replace h2 : 0 < m := h2
  show lesL x y n m (insR x y n m 1).x (insR x y n m 1).y (insR x y n m 1).w (insR x y n m 1).h = if n ≤ 2 ∨ m ≤ 2 then [⟨x, y, n, m⟩] else [⟨x, y, n, 1⟩, ⟨x, y + 1, 1, m - 2⟩, ⟨x + n - 1, y + 1, 1, m - 2⟩, ⟨x, y + m - 1, n, 1⟩]
  rw [ins_one h h1 h2]
  have he := emp_no h h1 h2
  split
  · next hc =>
    show lesL x y n m 0 0 0 0 = _
    unfold lesL
    rw [h, he, if_pos (by decide)]
    have hz : meetR x y n m 0 0 0 0 = zr := by
      unfold meetR
      rw [he, if_pos (by decide)]
    rw [hz, if_pos (by decide)]
  · next hc =>
    show lesL x y n m (x + 1) (y + 1) (n - 2) (m - 2) = _
    have hm : mayB (x + 1) (y + 1) (n - 2) (m - 2) = true := by
      rw [may_iff] at h ⊢
      omega
    have hf := emp_no hm (by omega) (by omega)
    have hz : meetR x y n m (x + 1) (y + 1) (n - 2) (m - 2) = ⟨x + 1, y + 1, n - 2, m - 2⟩ := by
      unfold meetR
      rw [he, hf, if_neg (by decide), btw_yes (by omega) (by omega)]
      congr 1 <;> omega
    unfold lesL
    rw [h, hm, he, if_pos (by decide), hz]
    have hq : eqB ⟨x + 1, y + 1, n - 2, m - 2⟩ 0 0 0 0 = false := by
      unfold eqB
      have e1 : (n - 2 == 0) = false := by simpa using (by omega : ¬ n - 2 = 0)
      simp only [e1, Bool.false_and, Bool.and_false]
    rw [hq, if_neg (by decide)]
    unfold pcR
    simp only
    rw [btw_yes (by omega) (by omega), btw_yes (by omega) (by omega), btw_yes (by omega) (by omega), btw_yes (by omega) (by omega)]
    have hk : ∀ a b c d : Int, 0 < c → keepB ⟨a, b, c, d⟩ = true := by
      intro a b c d hc
      unfold keepB eqB
      have e1 : (c == 0) = false := by simpa using (by omega : ¬ c = 0)
      simp only [e1, Bool.false_and, Bool.and_false, Bool.not_false]
    rw [List.filter_cons, if_pos (hk _ _ _ _ (by omega)), List.filter_cons, if_pos (hk _ _ _ _ (by omega)), List.filter_cons, if_pos (hk _ _ _ _ (by omega)), List.filter_cons, if_pos (hk _ _ _ _ (by omega)), List.filter_nil]
    congr 1
    · congr 1 <;> omega
    · congr 1
      · congr 1 <;> omega
      · congr 1
        · congr 1 <;> omega
        · congr 1
          congr 1 <;> omega
theorem bord_sub {r q : Rc} (h : zMa r = true) (h1 : 0 < r.w) (h2 : 0 < r.h) (hq : q ∈ bordL r) : zMa q = true ∧ 0 < q.w ∧ 0 < q.h ∧ r.x ≤ q.x ∧ q.x + q.w ≤ r.x + r.w ∧ r.y ≤ q.y ∧ q.y + q.h ≤ r.y + r.h := by
  rw [bord_form h h1 h2] at hq
  unfold zMa at h ⊢
  rw [may_iff] at h ⊢
  split at hq
  · have hq := List.mem_singleton.1 hq
    subst hq
    exact ⟨h, h1, h2, by omega, by omega, by omega, by omega⟩
  · simp only [List.mem_cons, List.not_mem_nil, or_false] at hq
    rcases hq with rfl | rfl | rfl | rfl <;> simp only <;> omega
theorem bord_edge {r : Rc} (h : zMa r = true) {px py : Int} (hp : inQ r px py) : (∃ q ∈ bordL r, inQ q px py) ↔ edgB r px py = true := by
  obtain ⟨p1, p2, p3, p4⟩ := id hp
  rw [bord_form h (by omega) (by omega)]
  have he : edgB r px py = true ↔ (px = r.x ∨ py = r.y ∨ px = r.x + r.w - 1 ∨ py = r.y + r.h - 1) := by
    unfold edgB
    simp
  rw [he]
  split
  · simp only [List.mem_singleton, exists_eq_left]
    exact ⟨fun _ => by omega, fun _ => hp⟩
  · simp only [List.mem_cons, List.not_mem_nil, or_false, exists_eq_or_imp, exists_eq_left, inQ]
    omega
theorem bord_once {r : Rc} (h : zMa r = true) (h1 : 0 < r.w) (h2 : 0 < r.h) : (bordL r).Pairwise fun q q' => ∀ px py, inQ q px py → ¬ inQ q' px py := by
  rw [bord_form h h1 h2]
  split
  · exact List.pairwise_singleton _ _
  · simp only [List.pairwise_cons, List.mem_cons, List.not_mem_nil, or_false, inQ]
    refine ⟨?_, ?_, ?_, ?_, .nil⟩
    · rintro q (rfl | rfl | rfl) px py <;> simp only <;> omega
    · rintro q (rfl | rfl) px py <;> simp only <;> omega
    · rintro q rfl px py <;> simp only <;> omega
    · intro q hq
      exact hq.elim

end Go.Proofs.YtapachlhdgehjaaGreatDoor

/-
  A frame drawn side by side is a frame drawn place by place.
-/
namespace Go.Proofs.YtapachlhdgehjaaGreatDoor
open Go.RowKit

theorem meet_inQ {q : Rc} {x y m hh px py : Int} (hq : zMa q = true) (h1 : 0 < q.w) (h2 : 0 < q.h) (ha : mayB x y m hh = true) : inQ (meetR q.x q.y q.w q.h x y m hh) px py ↔ inQ q px py ∧ inQ ⟨x, y, m, hh⟩ px py := by
  have he := emp_no (show mayB q.x q.y q.w q.h = true from hq) h1 h2
  have hb := may_iff.1 ha
  have hz : ¬ inQ zr px py := by
    unfold inQ zr
    simp only
    omega
  unfold meetR
  rw [he]
  cases hf : emptyB x y m hh
  · rw [if_neg (by decide)]
    unfold btw
    split
    · unfold inQ zr
      simp only
      omega
    · unfold inQ
      simp only
      omega
  · rw [if_pos (by decide)]
    have hc : ¬ (0 < m ∧ 0 < hh) := fun hc => by
      rw [emp_no ha hc.1 hc.2] at hf
      exact absurd hf (by decide)
    refine ⟨fun h => absurd h hz, fun h => ?_⟩
    unfold inQ at h
    simp only at h
    exfalso
    omega
theorem meet_fit {q : Rc} {x y m hh : Nat} : 0 ≤ (meetR q.x q.y q.w q.h x y m hh).x ∧ 0 ≤ (meetR q.x q.y q.w q.h x y m hh).y ∧ 0 ≤ (meetR q.x q.y q.w q.h x y m hh).w ∧ 0 ≤ (meetR q.x q.y q.w q.h x y m hh).h ∧
    (meetR q.x q.y q.w q.h x y m hh).x + (meetR q.x q.y q.w q.h x y m hh).w ≤ x + m ∧ (meetR q.x q.y q.w q.h x y m hh).y + (meetR q.x q.y q.w q.h x y m hh).h ≤ y + hh ∧
    ((meetR q.x q.y q.w q.h x y m hh).w = 0 → (meetR q.x q.y q.w q.h x y m hh).h = 0) := by
  generalize ht : meetR q.x q.y q.w q.h x y m hh = t
  unfold meetR at ht
  split at ht
  · subst ht
    unfold zr
    exact ⟨by simp, by simp, by simp, by simp, by simp; omega, by simp; omega, fun _ => rfl⟩
  · unfold btw at ht
    split at ht
    · subst ht
      unfold zr
      exact ⟨by simp, by simp, by simp, by simp, by simp; omega, by simp; omega, fun _ => rfl⟩
    · subst ht
      refine ⟨?_, ?_, ?_, ?_, ?_, ?_, fun h => ?_⟩ <;> (try simp only at h) <;> simp only <;> omega
def sideU (s : St) (a x y m hh : Nat) (L : List Ce) (q : Rc) : List Ce := updQ L a (meetR q.x q.y q.w q.h x y m hh).x.toNat (meetR q.x q.y q.w q.h x y m hh).y.toNat (meetR q.x q.y q.w q.h x y m hh).w.toNat (meetR q.x q.y q.w q.h x y m hh).h.toNat (frmF s a)
theorem sideU_len (s : St) (a x y m hh : Nat) (L : List Ce) (q : Rc) : (sideU s a x y m hh L q).length = L.length := updQ_len _ _ _ _ _ _ _
theorem sidesU_len (s : St) (a x y m hh : Nat) (l : List Rc) (L : List Ce) : (l.foldl (sideU s a x y m hh) L).length = L.length := by
  induction l generalizing L with
  | nil => rfl
  | cons q l ih => rw [List.foldl_cons, ih, sideU_len]
theorem sideU_at (s : St) {a x y m hh : Nat} {L : List Ce} {q : Rc} (hq : zMa q = true) (h1 : 0 < q.w) (h2 : 0 < q.h) (ha : mayB x y m hh = true) (k : Nat) (hk : k < (sideU s a x y m hh L q).length) (hk' : k < L.length) :
    ((inQ q (k % a : Nat) (k / a : Nat) ∧ inQ ⟨x, y, m, hh⟩ (k % a : Nat) (k / a : Nat)) → (sideU s a x y m hh L q)[k] = frmF s a k L[k]) ∧
    (¬ (inQ q (k % a : Nat) (k / a : Nat) ∧ inQ ⟨x, y, m, hh⟩ (k % a : Nat) (k / a : Nat)) → (sideU s a x y m hh L q)[k] = L[k]) := by
  have hm := meet_inQ (px := (k % a : Nat)) (py := (k / a : Nat)) hq h1 h2 ha
  have hf := meet_fit (q := q) (x := x) (y := y) (m := m) (hh := hh)
  simp only [sideU, updQ, List.getElem_mapIdx]
  rw [← hm]
  clear hm
  unfold inQ
  constructor
  · intro h
    rw [if_pos (by omega)]
  · intro h
    rw [if_neg (by omega)]
theorem sidesU_at (s : St) {a x y m hh : Nat} (ha : mayB x y m hh = true) (l : List Rc) (L : List Ce) (hl : ∀ q ∈ l, zMa q = true ∧ 0 < q.w ∧ 0 < q.h) (ho : l.Pairwise fun q q' => ∀ px py, inQ q px py → ¬ inQ q' px py) (k : Nat) (hk : k < (l.foldl (sideU s a x y m hh) L).length) (hk' : k < L.length) :
    (((∃ q ∈ l, inQ q (k % a : Nat) (k / a : Nat)) ∧ inQ ⟨x, y, m, hh⟩ (k % a : Nat) (k / a : Nat)) → (l.foldl (sideU s a x y m hh) L)[k] = frmF s a k L[k]) ∧
    (¬ ((∃ q ∈ l, inQ q (k % a : Nat) (k / a : Nat)) ∧ inQ ⟨x, y, m, hh⟩ (k % a : Nat) (k / a : Nat)) → (l.foldl (sideU s a x y m hh) L)[k] = L[k]) := by
  induction l generalizing L with
  | nil =>
    refine ⟨fun h => ?_, fun _ => rfl⟩
    obtain ⟨⟨q, hq, _⟩, _⟩ := h
    cases hq
  | cons q l ih =>
    obtain ⟨z1, z2, z3⟩ := hl q (.head _)
    have hks : k < (sideU s a x y m hh L q).length := by rw [sideU_len]; exact hk'
    obtain ⟨a1, a2⟩ := sideU_at s z1 z2 z3 ha k hks hk'
    rw [List.pairwise_cons] at ho
    obtain ⟨b1, b2⟩ := ih (sideU s a x y m hh L q) (fun q' hq' => hl q' (.tail _ hq')) ho.2 (by rw [sidesU_len]; exact hks) hks
    simp only [List.foldl_cons]
    constructor
    · rintro ⟨⟨q', hq', hi⟩, hA⟩
      rcases List.mem_cons.1 hq' with rfl | hq'
      · rw [b2 (fun h => by
          obtain ⟨⟨q'', h1, h2⟩, _⟩ := h
          exact ho.1 q'' h1 _ _ hi h2), a1 ⟨hi, hA⟩]
      · rw [b1 ⟨⟨q', hq', hi⟩, hA⟩, a2 (fun h => ho.1 q' hq' _ _ h.1 hi)]
    · intro hn
      rw [b2 (fun h => by
        obtain ⟨⟨q', h1, h2⟩, h3⟩ := h
        exact hn ⟨⟨q', .tail _ h1, h2⟩, h3⟩), a2 (fun h => hn ⟨⟨q, .head _, h.1⟩, h.2⟩)]
theorem bord_all {s : St} {a x y m hh : Nat} (L : List Ce) (ha : mayB x y m hh = true) (hr : zMa s.r = true) (h1 : 0 < s.r.w) (h2 : 0 < s.r.h) (i1 : s.r.x ≤ x) (i2 : s.r.y ≤ y) (i3 : (x : Int) + m ≤ s.r.x + s.r.w) (i4 : (y : Int) + hh ≤ s.r.y + s.r.h) :
    (bordL s.r).foldl (sideU s a x y m hh) L = updQ L a x y m hh (frmF s a) := by
  apply List.ext_getElem
  · rw [sidesU_len, updQ_len]
  · intro k hk hk2
    have hk' : k < L.length := by rw [sidesU_len] at hk; exact hk
    obtain ⟨a1, a2⟩ := sidesU_at s ha (bordL s.r) L (fun q hq => ⟨(bord_sub hr h1 h2 hq).1, (bord_sub hr h1 h2 hq).2.1, (bord_sub hr h1 h2 hq).2.2.1⟩) (bord_once hr h1 h2) k hk hk'
    simp only [updQ, List.getElem_mapIdx]
    by_cases hA : inQ ⟨x, y, m, hh⟩ (k % a : Nat) (k / a : Nat)
    · have hA' := hA
      unfold inQ at hA'
      simp only at hA'
      rw [if_pos (by omega)]
      have hR : inQ s.r (k % a : Nat) (k / a : Nat) := by
        unfold inQ
        omega
      have he := bord_edge hr hR
      by_cases hE : edgB s.r (k % a : Nat) (k / a : Nat) = true
      · exact a1 ⟨he.2 hE, hA⟩
      · rw [a2 (fun h => hE (he.1 h.1))]
        have hz : frmR s.r (k % a : Nat) (k / a : Nat) = 0 := by
          unfold frmR
          rw [if_pos (by simpa using hE)]
        unfold frmF
        rw [if_neg (fun h => h.1 hz)]
    · rw [a2 (fun h => hA h.2)]
      have hA' := hA
      unfold inQ at hA'
      simp only at hA'
      rw [if_neg (by omega)]

end Go.Proofs.YtapachlhdgehjaaGreatDoor

/-
  Package cells: the rows of an area that has none.
-/
namespace Go.Proofs.YtapachlhdgehjaaGreatDoor
open Go.RowKit Go.Shelf
attribute [local go_sem] Oper.semAt_some

set_option maxRecDepth 20000 in
set_option maxHeartbeats 4000000 in
theorem rows_none (n ab sb g a0 x0 y m cap : Nat) (w : World) (ka : Blk w ab #[.int .i64 (x0 : Nat), .int .i64 (y : Nat), .int .i64 (m : Nat), .int .i64 0] 52) (hy : y ≤ 16384) :
    SeqD Fence.wide n Tryz.prog 125 #[.pointer (some ⟨ab, 0, none⟩), .pointer (some ⟨sb, 0, none⟩)] (prR g a0 x0 m cap) (KpB ab sb) (· = rwY y 0) (· <+: rwY y 0) (fun pre q => pre ++ [q] <+: rwY y 0) ab w := by
  intro lp J Jx W hW hsz hJ hJx hS hSx hY h0
  refine callsIn_of_wp Tryz.func125 rfl trivial ?_ rfl
  simp only [Tryz.ntmps125, List.size_toArray, List.length_cons, List.length_nil, Nat.reduceAdd, Nat.reduceSub, Array.replicate_succ, Array.replicate_zero, List.push_toArray, List.append_toArray, List.nil_append, List.cons_append]
  replace ka := ka.below hW
  have HH : Hid (J [] W) := h0
  have ⟨c1, c3⟩ : W.cell? ⟨ab, 1, none⟩ = some (.int .i64 (y : Nat)) ∧ W.cell? ⟨ab, 3, none⟩ = some (.int .i64 0) := ⟨by rw [ka.cell]; rfl, by rw [ka.cell]; rfl⟩
  clear hsz hJ hJx hS hSx hY hW ka h0
  gi_wp2_with fail
  gi_loopw [4] (fun vi wr => vi = .int .i64 (y : Nat) ∧ wr = W) (fun _ _ => 0)
  case atStart => exact ⟨rfl, rfl⟩
  case round =>
    obtain ⟨rfl, rfl⟩ := hrel
    gi_wp2
    go_end0
    exact ⟨⟨_, rfl⟩, .inl ⟨_, rfl, HH.out⟩⟩

end Go.Proofs.YtapachlhdgehjaaGreatDoor

/-
  Leaving a function in which several ranges over functions stood: marks behind one another.
-/
namespace Go.Proofs.YtapachlhdgehjaaGreatDoor
open Go.RowKit Go.Shelf

def Mks (W : World) (Ds : List Nat) : Prop := Ds.Nodup ∧ ∀ D ∈ Ds, W.heap[D]? = some (.deferred (some []))
def mkD (Ds : List Nat) : List Deferred := Ds.map fun D => { target := .collected D, args := #[] }
def unM (W : World) : List Nat → World
  | [] => W
  | D :: Ds => unM (W.putObj D (.deferred none)) Ds
theorem Mks.tail {W : World} {D : Nat} {Ds : List Nat} (h : Mks W (D :: Ds)) : Mks (W.putObj D (.deferred none)) Ds := by
  obtain ⟨h1, h2⟩ := h
  rw [List.nodup_cons] at h1
  refine ⟨h1.2, fun D' hD => ?_⟩
  have hne : D' ≠ D := fun e => h1.1 (e ▸ hD)
  rw [← h2 D' (.tail _ hD)]
  exact World.putObj_heap_other hne
theorem leaveL {fn : Func} {tmps : Array Value} {R : Ending → World → Prop} {v : Value} (Ds : List Nat) : ∀ {W : World}, Mks W Ds →
    (results fn tmps).run Tryz.prog (unM W Ds) = .ok v (unM W Ds) → R (.returned v) (unM W Ds) →
    bodyPostM Fence.wide 3 Tryz.prog fn R .normal { tmps := tmps, defers := mkD Ds } W := by
  induction Ds with
  | nil => exact fun _ h hR => ⟨_, h, hR⟩
  | cons D Ds ih =>
    intro W hM h hR
    refine ⟨by simp, .inl ⟨_, _, rfl, run_takeDeferred (hM.2 D (.head _)), ?_⟩⟩
    exact ih hM.tail h hR
theorem unM_other (Ds : List Nat) : ∀ {W : World} {b : Nat}, b ∉ Ds → (unM W Ds).heap[b]? = W.heap[b]? := by
  induction Ds with
  | nil => exact fun _ => rfl
  | cons D Ds ih =>
    intro W b hb
    rw [List.mem_cons, not_or] at hb
    exact (ih hb.2).trans (World.putObj_heap_other hb.1)
theorem Mks.grown {W V : World} {Ds : List Nat} {r : Option Nat} (h : Mks W Ds) (g : W.grownBy V r) (hr : ∀ D ∈ Ds, r ≠ some D) : Mks V Ds := by
  refine ⟨h.1, fun D hD => ?_⟩
  have h1 := h.2 D hD
  exact (g.block D (Array.getElem?_eq_some_iff.1 h1).1 (fun e => hr D hD e.symm)).trans h1
theorem Mks.cons {W : World} {Ds : List Nat} {D : Nat} (h : Mks W Ds) (hD : W.heap[D]? = some (.deferred (some []))) (hn : D ∉ Ds) : Mks W (D :: Ds) :=
  ⟨List.nodup_cons.2 ⟨hn, h.1⟩, fun D' h' => by
    rcases List.mem_cons.1 h' with rfl | h'
    · exact hD
    · exact h.2 D' h'⟩
theorem unM_grown (Ds : List Nat) {w W : World} {r : Option Nat} (h : w.grownBy W r) (hD : ∀ D ∈ Ds, w.heap.size ≤ D) : w.grownBy (unM W Ds) r := by
  have e : ∀ (Ds : List Nat) (W : World), (unM W Ds).os = W.os ∧ (unM W Ds).tape = W.tape ∧ (unM W Ds).output = W.output ∧ (unM W Ds).heap.size = W.heap.size := by
    intro Ds
    induction Ds with
    | nil => exact fun _ => ⟨rfl, rfl, rfl, rfl⟩
    | cons D Ds ih =>
      intro W
      obtain ⟨h1, h2, h3, h4⟩ := ih (W.putObj D (.deferred none))
      exact ⟨h1, h2, h3, h4.trans (by simp [World.putObj])⟩
  obtain ⟨h1, h2, h3, h4⟩ := e Ds W
  refine ⟨h1.trans h.os, h2.trans h.tape, h3.trans h.output, by rw [h4]; exact h.size, fun b hb hr => ?_⟩
  rw [unM_other Ds (fun hm => by have := hD b hm; omega)]
  exact h.block b hb hr

end Go.Proofs.YtapachlhdgehjaaGreatDoor
