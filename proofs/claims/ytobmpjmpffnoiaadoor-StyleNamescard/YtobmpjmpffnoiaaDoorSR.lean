/-
  Helpers for functions that range over an iterator.
-/
import Derived.Test.YtobmpjmpffnoiaaDoorRG
import Derived.Shelf.Abstract
import Derived.Shelf.RegionOpen
import Derived.OwnWalkIn
import Derived.TacticsInMore
import Derived.LoopNIn
import Derived.LoopIn
import Derived.Test.YtobmpjmpffnoiaaDoorW1
namespace Go.Proofs.YtobmpjmpffnoiaaDoor
open Go.RowKit

theorem kept_own {β : Type} (L b : Nat) (vs : β → Array Value) (t : TypeId) : OwnFrom L (fun s W => Blk W b (vs s) t) := fun s X Y row hs hg hr => by
  have h : X.heap[b]? = some (.cells (vs s) t) := hs
  refine (hg.block b (Array.getElem?_eq_some_iff.1 h).1 (fun e => ?_)).trans h
  obtain ⟨_, o, ho, hc⟩ := hr b e.symm
  rw [h] at ho
  cases ho
  cases hc
theorem below_left {B D : Nat} {w V : World} (h : Below B w V) (hB : B ≤ D) (o : Obj) : Below B w (V.putObj D o) :=
  h.trans ⟨rfl, rfl, rfl, by simp [World.putObj], fun k hk => World.putObj_heap_other (by omega)⟩
theorem leaveD {fn : Func} {tmps : Array Value} {R : Ending → World → Prop} {D : Nat} {W : World} {v : Value} (hK : W.heap[D]? = some (.deferred (some [])))
    (h : (results fn tmps).run Tryd.prog (W.putObj D (.deferred none)) = .ok v (W.putObj D (.deferred none))) (hR : R (.returned v) (W.putObj D (.deferred none))) :
    bodyPostM Fence.wide 3 Tryd.prog fn R .ret { tmps := tmps, defers := [{ target := .collected D, args := #[] }] } W := by
  refine ⟨by simp, .inl ⟨_, _, rfl, run_takeDeferred hK, ?_⟩⟩
  exact ⟨_, h, hR⟩
theorem Blk.left {V : World} {b D : Nat} {vs : Array Value} {t : TypeId} (h : Blk V b vs t) (hK : V.heap[D]? = some (.deferred (some []))) (o : Obj) : Blk (V.putObj D o) b vs t :=
  (World.putObj_heap_other (fun e => by subst e; rw [show V.heap[b]? = _ from h] at hK; cases hK)).trans h

end Go.Proofs.YtobmpjmpffnoiaaDoor
