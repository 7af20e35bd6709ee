/-
  Contracts of package runes: where pieces end that fit, the next one, the last one.
-/
import Derived.Test.YtbnbfgkcndomaabGreatDoorRC
namespace Go.Proofs.YtbnbfgkcndomaabGreatDoor
open Go.RowKit Go.Shelf
attribute [local go_sem] Oper.semAt_some

/-- Where the pieces end that fit. -/
def fitL : List Pc → Int → Nat → Nat
  | [], _, e => e
  | x :: t, room, e => if room - width x.r < 0 then e else fitL t (room - width x.r) x.to
def lastTo : List Pc → Nat → Nat
  | [], e => e
  | x :: t, _ => lastTo t x.to
theorem lastTo_snoc : ∀ (l : List Pc) (x : Pc) (e : Nat), lastTo (l ++ [x]) e = x.to
  | [], _, _ => rfl
  | _ :: t, x, _ => lastTo_snoc t x _

/-- The end of the first piece that ends behind a place. -/
def nextL : List Pc → Int → Option Nat
  | [], _ => none
  | x :: t, p => if p < x.to then some x.to else nextL t p
theorem nextL_app (l r : List Pc) (p : Int) (h : ∀ x ∈ l, (x.to : Int) ≤ p) : nextL (l ++ r) p = nextL r p := by
  induction l with
  | nil => rfl
  | cons a t ih =>
    have ha := h a (by simp)
    rw [List.cons_append, nextL, if_neg (by omega)]
    exact ih (fun x hx => h x (by simp [hx]))

/-- The last beginning ahead of a place. -/
def backL : List Pc → Int → Nat → Nat
  | [], _, b => b
  | x :: t, p, b => if p ≤ x.fr then b else backL t p x.fr
def lastFr : List Pc → Nat → Nat
  | [], e => e
  | x :: t, _ => lastFr t x.fr
theorem lastFr_snoc : ∀ (l : List Pc) (x : Pc) (e : Nat), lastFr (l ++ [x]) e = x.fr
  | [], _, _ => rfl
  | _ :: t, x, _ => lastFr_snoc t x _

/-- What Next, Back answer. -/
def nextN (s : ByteArray) (p : Int) : Int := if p < 0 then 0 else ((nextL (pcs s) p).getD 0 : Nat)
def nextB (s : ByteArray) (p : Int) : Bool := if p < 0 then false else (nextL (pcs s) p).isSome

theorem results_cells {fn : Func} {t u : Tmp} (h : fn.results = #[.cell t 3, .cell u 4]) (tmps : Array Value) (w : World) (b c : Nat) (x : Int) (y : Bool)
    (ht : tmps.getD t undef = .pointer (some ⟨b, 0, none⟩)) (hu : tmps.getD u undef = .pointer (some ⟨c, 0, none⟩)) (hx : w.cell? ⟨b, 0, none⟩ = some (.int .i64 x)) (hy : w.cell? ⟨c, 0, none⟩ = some (.bool y)) :
    (results fn tmps).run Tryz.prog w = .ok (.tuple #[.int .i64 x, .bool y]) w := by
  have h1 : (loadVar 3 ⟨b, 0, none⟩).run Tryz.prog w = .ok (.int .i64 x) w := by simp [go_sem, hx]
  have h2 : (loadVar 4 ⟨c, 0, none⟩).run Tryz.prog w = .ok (.bool y) w := by simp [go_sem, hy]
  simp [results, h, -Array.getD_eq_getD_getElem?, ht, hu, asAddr, Sem.run_bind, h1, h2, Result.andThen]

theorem leave0 {fn : Func} {tmps : Array Value} {R : Ending → World → Prop} {W : World} {v : Value} (h : (results fn tmps).run Tryz.prog W = .ok v W) (hR : R (.returned v) W) :
    bodyPostM Fence.wide 3 Tryz.prog fn R .ret { tmps := tmps, defers := [] } W := ⟨_, h, hR⟩
theorem leaveD {fn : Func} {tmps : Array Value} {R : Ending → World → Prop} {D : Nat} {W : World} {v : Value} (hK : W.heap[D]? = some (.deferred (some [])))
    (h : (results fn tmps).run Tryz.prog (W.putObj D (.deferred none)) = .ok v (W.putObj D (.deferred none))) (hR : R (.returned v) (W.putObj D (.deferred none))) :
    bodyPostM Fence.wide 3 Tryz.prog fn R .ret { tmps := tmps, defers := [{ target := .collected D, args := #[] }] } W := by
  refine ⟨by simp, .inl ⟨_, _, rfl, run_takeDeferred hK, ?_⟩⟩
  exact ⟨_, h, hR⟩
theorem Blk.left {V : World} {b D : Nat} {vs : Array Value} {t : TypeId} (h : Blk V b vs t) (hK : V.heap[D]? = some (.deferred (some []))) (o : Obj) : Blk (V.putObj D o) b vs t :=
  (World.putObj_heap_other (fun e => by subst e; rw [show V.heap[b]? = _ from h] at hK; cases hK)).trans h

end Go.Proofs.YtbnbfgkcndomaabGreatDoor
