/-
  Texts of this claim, one behind the other: what each is about stands ahead of it.
-/
import Derived.Test.YtbghjmkgicdnoaaK34
import Derived.Shelf.Abstract
import Derived.Shelf.RegionOpen
import Derived.OwnWalkIn
import Derived.TacticsInMore
import Derived.LoopNIn
import Derived.LoopIn
import Derived.Test.YtbghjmkgicdnoaaK1
import Derived.Test.YtbghjmkgicdnoaaK11
import Derived.Test.YtbghjmkgicdnoaaK12
/-
  A range over an iterator that keeps a variable of its own in a block that lay there ahead of the loop: the caller's law, and what the iterator owes.
-/
namespace Go.Proofs.Ytbghjmkgicdnoaa
open Go.RowKit

variable {F : Fence} {n : Nat} {P : Program}

/-- What an iterator owes whose own variable lies in block ob, which lay there ahead of the loop. -/
def SeqD {α : Type} (F : Fence) (n : Nat) (P : Program) (g : Nat) (lb : Array Value) (encs : α → Array Value) (Kp : World → World → Prop) (S Sp : List α → Prop) (ok : List α → α → Prop) (ob : Nat) (w : World) : Prop :=
  ∀ (l : Nat) (J Jx : List α → World → Prop) (W : World), Below w.heap.size w W → W.heap.size = w.heap.size + 2 → AbidesFrom W.heap.size J → AbidesFrom W.heap.size Jx → Stores ob J → Stores ob Jx →
    (∀ pre x W1, J pre W1 → ok pre x → YieldAt F (n - 1) P l (encs x) W1 fun e W' =>
      (e = .returned (.bool true) ∧ J (pre ++ [x]) W' ∧ Kp W1 W') ∨ (e = .returned (.bool false) ∧ Jx (pre ++ [x]) W')) →
    J [] W →
    CallsIn F n P g (#[.func (.yield l) #[] #[]] ++ lb) W fun e W' => (∃ v, e = .returned v) ∧ ((∃ xs, S xs ∧ J xs W') ∨ (∃ pre, Sp pre ∧ Jx pre W'))

set_option maxHeartbeats 1000000 in
theorem range_d {α : Type} {g : Operand} {ps : Array Tmp} {assign body : Code} {Q : Exit → Act → World → Prop} {a : Act} {w : World}
    (hro : F.round = none) (h1 : 1 ≤ n) {gf : Nat} {lb : Array Value} (hg : a.eval g = .func (.func gf) #[] lb) (hFg : F.fn gf) (eg : ∀ args w, (callFunc gf args).run P w = .ok (.enter gf args) w)
    {encs : α → Array Value} {Kp : World → World → Prop} {S Sp : List α → Prop} {ok : List α → α → Prop} {ob : Nat} (hob1 : ob ≠ w.heap.size) (hob2 : ob ≠ w.heap.size + 1) (hseq : SeqD F (n - 1) P gf lb encs Kp S Sp ok ob w)
    (hKt : ∀ {A B C : World}, Kp A B → Kp B C → Kp A C) (hKb : ∀ (W : World) (l : Nat) (o o' : Obj), w.heap.size ≤ l → W.heap[l]? = some o → o.isCells = false → o.isWalk = false → Kp W (W.putObj l o'))
    (hps : ∀ x, (encs x).size = ps.size)
    (I : List α → World → Prop) (Ix : Code → List α → World → Prop) (hI : OwnFrom w.heap.size I) (hIx : ∀ c, OwnFrom w.heap.size (Ix c)) (hS : Stores ob I) (hSx : ∀ c, Stores ob (Ix c))
    (h0 : I [] w) (Ax : α → Act → World → Prop) (hAx : ∀ x a', OwnFrom w.heap.size (fun (_ : Unit) W => Ax x a' W))
    (hassign : ∀ (l : Nat) (pre : List α) (x : α) (W : World) (K : Act → World → Prop), I pre W → w.heap.size + 1 < W.heap.size → (∀ a' W', KeepsFrom w.heap.size W W' → Kp W W' → I pre W' → Ax x a' W' → K a' W') →
      assign.wpIn (F.inRound l) (n - 1 - 1) P (Exit.then K (fun _ _ _ => False)) { tmps := (ps.zip (encs x)).foldl (fun t (p, v) => t.setIfInBounds p v) a.tmps, defers := [] } W)
    (hbody : ∀ (l : Nat) (pre : List α) (x : α) (a' : Act) (W : World), I pre W → Ax x a' W → ok pre x → w.heap.size + 1 < W.heap.size → body.wpIn (F.inRound l) (n - 1 - 1) P (ownPostG w.heap.size Kp I Ix (pre ++ [x]) W) a' W)
    (hdone : ∀ (D : Nat) (xs : List α) (W : World), w.heap.size ≤ D → S xs → I xs W → W.heap[D]? = some (.deferred (some [])) → Q .normal { a with defers := { target := .collected D, args := #[] } :: a.defers } W)
    (hstop : ∀ (D : Nat) (c : Code) (pre : List α) (W : World), w.heap.size ≤ D → Sp pre → Ix c pre W → W.heap[D]? = some (.deferred (some [])) → c.wpIn F n P Q { a with defers := { target := .collected D, args := #[] } :: a.defers } W) :
    (Code.rangeFunc g ps assign body).wpIn F n P Q a w := by
  refine wpIn_rangeFunc fun fn hfn => ?_
  rw [hro]
  obtain ⟨R, hR⟩ : ∃ R : LoopState → Option Code → Loop, R = fun st pe => { state := st, pending := pe, fn, tmps := a.tmps, params := ps, assign, body, defers := w.heap.size } := ⟨_, rfl⟩
  obtain ⟨V, hV⟩ : ∃ V, (w.alloc (.deferred (some []))).alloc (.loop (R .ready none)) = V := ⟨_, rfl⟩
  have sV : V.heap.size = w.heap.size + 2 := by rw [← hV]; simp
  have rV : V.heap[w.heap.size + 1]? = some (.loop (R .ready none)) := by
    have := World.alloc_heap_new (w.alloc (.deferred (some []))) (.loop (R .ready none))
    rwa [World.size_alloc, hV] at this
  have dV : V.heap[w.heap.size]? = some (.deferred (some [])) := by
    rw [← hV]; exact (Below.heap_alloc _ _ _ (by simp)).trans (World.alloc_heap_new w _)
  have iV : I [] V := by rw [← hV]; exact hI.alloc _ (hI.alloc _ h0)
  have bV : Below w.heap.size w V := by
    rw [← hV]; exact ((Below.refl _ w).alloc (Nat.le_refl _) _).alloc (by simp) _
  refine ⟨w.heap.size + 1, [{ target := .collected w.heap.size, args := #[] }], V, { target := .fn (.func gf) lb, args := #[.func (.yield (w.heap.size + 1)) #[] #[]] }, V, gf,
    #[.func (.yield (w.heap.size + 1)) #[] #[]] ++ lb, V, ?_, ?_, ?_, ?_, fun _ => h1, ?_⟩
  · rw [← hV, hR]; exact run_enterLoop_outer _ _ _ _ _
  · simp only [resolve, hg]
    simp [go_sem]
  · intro f' hf'; simp [Target.leads] at hf'; subst hf'; exact hFg
  · simp [invoke, go_sem, eg]
  have up : ∀ {A : World} {row : Option Nat}, (∀ r, row = some r → V.heap.size ≤ r ∧ ∃ o : Obj, A.heap[r]? = some o ∧ o.isWalk = true) → (∀ r, row = some r → w.heap.size ≤ r ∧ ∃ o : Obj, A.heap[r]? = some o ∧ o.isCells = false) :=
    fun hr r e => by
      obtain ⟨hB, o, ho, hw⟩ := hr r e
      exact ⟨by omega, o, ho, Obj.not_cells_of_walk hw⟩
  have setJ : ∀ {K : World → Prop} {st : LoopState} {pe : Option Code}, (∀ W o v, K W → K (W.setCell ⟨ob, o, none⟩ v)) → ∀ (W : World) (o : Nat) (v : Value),
      (K W ∧ W.heap[w.heap.size + 1]? = some (.loop (R st pe)) ∧ W.heap[w.heap.size]? = some (.deferred (some []))) →
      (K (W.setCell ⟨ob, o, none⟩ v) ∧ (W.setCell ⟨ob, o, none⟩ v).heap[w.heap.size + 1]? = some (.loop (R st pe)) ∧ (W.setCell ⟨ob, o, none⟩ v).heap[w.heap.size]? = some (.deferred (some []))) :=
    fun hK W o v ⟨k, l, d⟩ => ⟨hK W o v k, same_set l hob2, same_set d hob1⟩
  refine (hseq (w.heap.size + 1)
    (fun pre W => I pre W ∧ W.heap[w.heap.size + 1]? = some (.loop (R .ready none)) ∧ W.heap[w.heap.size]? = some (.deferred (some [])))
    (fun pre W => ∃ c, Ix c pre W ∧ W.heap[w.heap.size + 1]? = some (.loop (R .done (some c))) ∧ W.heap[w.heap.size]? = some (.deferred (some [])))
    V bV sV ?abJ ?abX ?stJ ?stX ?yields ⟨iV, rV, dV⟩).mono ?behind
  case abJ =>
    intro s A B row hs gr hr
    exact ⟨hI s A B row hs.1 gr (up hr), (grownBy_keeps gr (fun r e => (hr r e).2) hs.2.1 rfl).trans hs.2.1, (grownBy_keeps gr (fun r e => (hr r e).2) hs.2.2 rfl).trans hs.2.2⟩
  case abX =>
    intro s A B row hs gr hr
    obtain ⟨c, hc, hl, hk⟩ := hs
    exact ⟨c, hIx c s A B row hc gr (up hr), (grownBy_keeps gr (fun r e => (hr r e).2) hl rfl).trans hl, (grownBy_keeps gr (fun r e => (hr r e).2) hk rfl).trans hk⟩
  case stJ =>
    intro s W o v hs
    exact setJ (fun W o v => hS s W o v) W o v hs
  case stX =>
    intro s W o v hs
    obtain ⟨c, hs⟩ := hs
    exact ⟨c, setJ (fun W o v => hSx c s W o v) W o v hs⟩
  case yields =>
    rintro pre x W ⟨hi, hl, hk⟩ hlen
    have hsz : w.heap.size + 1 < W.heap.size := (Array.getElem?_eq_some_iff.1 hl).1
    have hy := run_yield (P := P) (args := encs x) hl (by rw [hR]; exact hps x)
    rw [hR] at hy
    refine ⟨fn, _, assign, body, hy, roundIn_of_wpIn hfn (hassign _ pre x W _ hi hsz ?_)⟩
    clear hy
    intro a' U hkf hkp hi' hax
    replace hl := hkf.same _ _ (by omega) hl rfl
    replace hk := hkf.same _ _ (Nat.le_refl _) hk rfl
    have hlt : w.heap.size + 1 < U.heap.size := (Array.getElem?_eq_some_iff.1 hl).1
    have szU : w.heap.size + 1 < U.heap.size := Nat.lt_of_lt_of_le hsz hkf.size
    refine ⟨_, run_beginRound hl (by rw [hR]), ?_⟩
    obtain ⟨X, hX⟩ : ∃ X, U.putObj (w.heap.size + 1) (.loop { R .ready none with state := .busy }) = X := ⟨_, rfl⟩
    have lX : X.heap[w.heap.size + 1]? = some (.loop { R .ready none with state := .busy }) := by rw [← hX]; exact World.putObj_heap_same hlt
    have kX : X.heap[w.heap.size]? = some (.deferred (some [])) := by rw [← hX]; exact (World.putObj_heap_other (by omega)).trans hk
    have pX : Kp U X := by rw [← hX]; exact hKb _ _ _ _ (by omega) hl rfl rfl
    have iX : I pre X := by rw [← hX]; exact hI.putObj _ hi' (by omega) hl rfl
    have aX : Ax x a' X := by rw [← hX]; exact (hAx x a').putObj (s := ()) _ hax (by omega) hl rfl
    have szX : w.heap.size + 1 < X.heap.size := by rw [← hX]; simpa [World.putObj] using szU
    rw [hX]
    refine wpIn_mono (hbody _ pre x a' X iX aX hlen szX) ?_
    have fin : ∀ (jump : Option Code) (Y : World), KeepsFrom w.heap.size X Y →
        (Instr.endRound (w.heap.size + 1) jump).run P Y = .ok (.bool jump.isNone) (Y.putObj (w.heap.size + 1) (.loop (R (if jump.isNone then .ready else .done) jump))) ∧
        Y.heap[w.heap.size + 1]? = some (.loop { R .ready none with state := .busy }) ∧
        (Y.putObj (w.heap.size + 1) (.loop (R (if jump.isNone then .ready else .done) jump))).heap[w.heap.size + 1]? = some (.loop (R (if jump.isNone then .ready else .done) jump)) ∧
        (Y.putObj (w.heap.size + 1) (.loop (R (if jump.isNone then .ready else .done) jump))).heap[w.heap.size]? = some (.deferred (some [])) := fun jump Y hkY => by
      have lY := hkY.same _ _ (by omega) lX rfl
      have := run_endRound (P := P) jump lY
      rw [hR] at this ⊢
      exact ⟨this, by rw [hR] at lY; exact lY, World.putObj_heap_same (Array.getElem?_eq_some_iff.1 lY).1, (World.putObj_heap_other (by omega)).trans (hkY.same _ _ (Nat.le_refl _) kX rfl)⟩
    rintro e a3 Y hp
    cases e with
    | normal =>
      obtain ⟨hkY, hpY, hiY⟩ := hp
      obtain ⟨hr, hl3, hl4, hk4⟩ := fin none Y hkY
      exact ⟨_, _, hr, .inl ⟨rfl, ⟨hI.putObj _ hiY (by omega) hl3 rfl, hl4, hk4⟩, hKt hkp (hKt (hKt pX hpY) (hKb _ _ _ _ (by omega) hl3 rfl rfl))⟩⟩
    | ret =>
      obtain ⟨hkY, hiY⟩ := hp
      obtain ⟨hr, hl3, hl4, hk4⟩ := fin (some .ret) Y hkY
      exact ⟨_, _, hr, .inr ⟨rfl, .ret, (hIx _).putObj _ hiY (by omega) hl3 rfl, hl4, hk4⟩⟩
    | exit id =>
      obtain ⟨hkY, hiY⟩ := hp
      obtain ⟨hr, hl3, hl4, hk4⟩ := fin (some (.exit id)) Y hkY
      exact ⟨_, _, hr, .inr ⟨rfl, .exit id, (hIx _).putObj _ hiY (by omega) hl3 rfl, hl4, hk4⟩⟩
    | goto t =>
      obtain ⟨hkY, hiY⟩ := hp
      obtain ⟨hr, hl3, hl4, hk4⟩ := fin (some (.goto t)) Y hkY
      exact ⟨_, _, hr, .inr ⟨rfl, .goto t, (hIx _).putObj _ hiY (by omega) hl3 rfl, hl4, hk4⟩⟩
    | panic ch => exact hp.elim
    | outgrown => exact hp.elim
  case behind =>
    rintro e Y ⟨⟨v, rfl⟩, (⟨xs, hxs, hi, hl, hk⟩ | ⟨pre, hpre, c, hi, hl, hk⟩)⟩
    · exact ⟨none, _, by have := run_endLoop (P := P) hl (by rw [hR]; simp); rw [hR] at this; exact this, hdone _ xs _ (Nat.le_refl _) hxs (hI.putObj _ hi (by omega) hl rfl) ((World.putObj_heap_other (by omega)).trans hk)⟩
    · exact ⟨some c, _, by have := run_endLoop (P := P) hl (by rw [hR]; simp); rw [hR] at this; exact this, hstop _ c pre _ (Nat.le_refl _) hpre ((hIx c).putObj _ hi (by omega) hl rfl) ((World.putObj_heap_other (by omega)).trans hk)⟩


end Go.Proofs.Ytbghjmkgicdnoaa

/-
  Helpers for functions that range over an iterator.
-/
namespace Go.Proofs.Ytbghjmkgicdnoaa
open Go.RowKit

theorem kept_own {β : Type} (L b : Nat) (vs : β → Array Value) (t : TypeId) : OwnFrom L (fun s W => Blk W b (vs s) t) := fun s X Y row hs hg hr => by
  have h : X.heap[b]? = some (.cells (vs s) t) := hs
  refine (hg.block b (Array.getElem?_eq_some_iff.1 h).1 (fun e => ?_)).trans h
  obtain ⟨_, o, ho, hc⟩ := hr b e.symm
  rw [h] at ho
  cases ho
  cases hc
theorem below_left {B D : Nat} {w V : World} (h : Below B w V) (hB : B ≤ D) (o : Obj) : Below B w (V.putObj D o) :=
  h.trans ⟨rfl, rfl, rfl, by simp [World.putObj], fun k hk => World.putObj_heap_other (by omega)⟩
theorem leaveD {fn : Func} {tmps : Array Value} {R : Ending → World → Prop} {D : Nat} {W : World} {v : Value} (hK : W.heap[D]? = some (.deferred (some [])))
    (h : (results fn tmps).run Try.prog (W.putObj D (.deferred none)) = .ok v (W.putObj D (.deferred none))) (hR : R (.returned v) (W.putObj D (.deferred none))) :
    bodyPostM Fence.wide 3 Try.prog fn R .ret { tmps := tmps, defers := [{ target := .collected D, args := #[] }] } W := by
  refine ⟨by simp, .inl ⟨_, _, rfl, run_takeDeferred hK, ?_⟩⟩
  exact ⟨_, h, hR⟩
theorem Blk.left {V : World} {b D : Nat} {vs : Array Value} {t : TypeId} (h : Blk V b vs t) (hK : V.heap[D]? = some (.deferred (some []))) (o : Obj) : Blk (V.putObj D o) b vs t :=
  (World.putObj_heap_other (fun e => by subst e; rw [show V.heap[b]? = _ from h] at hK; cases hK)).trans h

end Go.Proofs.Ytbghjmkgicdnoaa

/-
  slices.Backward over strokes: what it hands on.
-/
namespace Go.Proofs.Ytbghjmkgicdnoaa
open Go.RowKit Go.Shelf
attribute [local go_sem] Oper.semAt_some

def bwS (l : List St) : Nat → List (Nat × St)
  | 0 => []
  | k + 1 => (k, l.getD k opeS) :: bwS l k

set_option maxHeartbeats 400000 in
theorem backS_any (oa : Option Addr) (n c : Nat) (w : World) :
    Calls Try.prog 64 #[.slice oa n c] w fun e w' => e = .returned (.func (.func 82) #[] #[.pointer (some ⟨w.heap.size, 0, none⟩)]) ∧ w' = w.alloc (.cells #[.slice oa n c] 36) := by
  go_enter Try.func64, Try.ntmps64
  go_wp2
  go_ret
  exact ⟨rfl, rfl⟩

def prS (x : Nat × St) : Array Value := #[.int .i64 (x.1 : Nat), (Value.agg #[.int .u8 x.2.k, .int .i64 x.2.r.x, .int .i64 x.2.r.y, .int .i64 x.2.r.w, .int .i64 x.2.r.h, .int .u8 x.2.c.r, .int .u8 x.2.c.g, .int .u8 x.2.c.b, .int .u8 x.2.c.a, .int .u8 x.2.b.r, .int .u8 x.2.b.g, .int .u8 x.2.b.b, .int .u8 x.2.b.a, .string x.2.t, .int .i64 x.2.n])]
/-- What the iterator asks of a round: its own block and the list's stay. -/
def KpB (sb g : Nat) (A B : World) : Prop := B.heap[sb]? = A.heap[sb]? ∧ B.heap[g]? = A.heap[g]?
theorem KpB.trans {sb g : Nat} {A B C : World} (h : KpB sb g A B) (k : KpB sb g B C) : KpB sb g A C := ⟨k.1.trans h.1, k.2.trans h.2⟩
theorem KpB.refl (sb g : Nat) (A : World) : KpB sb g A A := ⟨rfl, rfl⟩
theorem KpB.put {sb g l : Nat} {W : World} {o : Obj} (h1 : sb ≠ l) (h2 : g ≠ l) : KpB sb g W (W.putObj l o) := ⟨World.putObj_heap_other h1, World.putObj_heap_other h2⟩

set_option maxRecDepth 20000 in
set_option maxHeartbeats 2000000 in
theorem back_seqS (n sb g o c : Nat) (oa : Option Addr) (l : List St) (w : World) (ks : Blk w sb #[.slice oa l.length c] 36) (ho : 0 < l.length → oa = some ⟨g, o, none⟩ ∧ g < w.heap.size ∧ ∀ i (h : i < l.length), StAt w g (o + i * 15) l[i]) (hl : l.length < 1000000) :
    SeqD Fence.wide n Try.prog 82 #[.pointer (some ⟨sb, 0, none⟩)] prS (KpB sb g) (· = bwS l l.length) (· <+: bwS l l.length) (fun pre x => pre ++ [x] <+: bwS l l.length) sb w := by
  intro lp J Jx W hW hsz hJ hJx hS hSx hY h0
  refine callsIn_of_wp Try.func82 rfl trivial ?_ rfl
  simp only [Try.ntmps82, List.size_toArray, List.length_cons, List.length_nil, Nat.reduceAdd, Nat.reduceSub, Array.replicate_succ, Array.replicate_zero, List.push_toArray, List.append_toArray, List.nil_append, List.cons_append]
  replace ks := ks.below hW
  have c1 := ks.at1
  have HH : Hid (Blk W sb #[.slice oa l.length c] 36 ∧ (0 < l.length → oa = some ⟨g, o, none⟩ ∧ ∀ W', W'.heap[g]? = W.heap[g]? → ∀ i (h : i < l.length), StAt W' g (o + i * 15) l[i]) ∧ J [] W) := ⟨ks, fun h => ⟨(ho h).1, fun W' hW' i hi => ((ho h).2.2 i hi).kept fun j => by
    have e := hW'.trans (hW.block g (ho h).2.1)
    unfold World.cell?
    rw [show W'.heap[(⟨g, j, none⟩ : Addr).block]? = w.heap[(⟨g, j, none⟩ : Addr).block]? from e]⟩, h0⟩
  have HY : Hid (∀ pre x W1, J pre W1 → pre ++ [x] <+: bwS l l.length → YieldAt Fence.wide (n - 1) Try.prog lp (prS x) W1 fun e W' =>
      (e = .returned (.bool true) ∧ J (pre ++ [x]) W' ∧ KpB sb g W1 W') ∨ (e = .returned (.bool false) ∧ Jx (pre ++ [x]) W')) := hY
  clear hsz hJ hJx hS hSx hY hW ks ho h0
  gi_wp2_with fail
  gi_loopw [3] (fun vi wr => ∃ (k : Nat) (pre : List (Nat × St)), k ≤ l.length ∧ vi = .int .i64 ((k : Int) - 1) ∧ Hid (Blk wr sb #[.slice oa l.length c] 36 ∧ wr.heap[g]? = W.heap[g]? ∧ J pre wr ∧ bwS l l.length = pre ++ bwS l k)) (fun vi _ => (intOf vi + 1).toNat)
  case atStart => exact ⟨l.length, [], Nat.le_refl _, rfl, ⟨HH.out.1, rfl, HH.out.2.2, rfl⟩⟩
  case round =>
    obtain ⟨k, pre, hk, rfl, HR⟩ := hrel
    clear c1
    have d1 := HR.out.1.at1
    by_cases hk0 : k = 0
    · subst hk0
      gi_wp2
      go_end0
      exact ⟨⟨_, rfl⟩, .inl ⟨pre, by rw [HR.out.2.2.2]; simp [bwS], HR.out.2.2.1⟩⟩
    · obtain ⟨p, ep⟩ : ∃ p, p = k - 1 := ⟨_, rfl⟩
      have z1 : (k : Int) - 1 = (p : Int) := by omega
      have pl : p < l.length := by omega
      have pl' : (p : Int) < (l.length : Int) := by omega
      obtain ⟨hoa, hvs⟩ := HH.out.2.1 (by omega)
      have d2 := hvs wr HR.out.2.1 p pl
      have HW : Hid (bwS l l.length = (pre ++ [(p, l[p])]) ++ bwS l p ∧ k = p + 1) := by
        have e : k = p + 1 := by omega
        refine ⟨?_, e⟩
        rw [HR.out.2.2.2, e, bwS]
        simp [List.getD, List.getElem?_eq_getElem pl]
      obtain ⟨fn, tmps, assign, body, hy, hRd⟩ := HY.out pre (p, l[p]) wr HR.out.2.2.1 (by rw [HW.out.1]; exact List.prefix_append _ _)
      simp only [prS] at hy
      subst hoa
      clear hvs ep hk0
      generalize l[p] = xp at *
      obtain ⟨x0, x1, x2, x3, x4, x5, x6, x7, x8, x9, x10, x11, x12, x13, x14⟩ := d2
      gi_wp2_with fail
      refine ⟨fun h => (by cases h), hRd.mono ?_⟩
      rintro e W2 (⟨rfl, hJ2, hkp⟩ | ⟨rfl, hJx2⟩)
      · have HK : Hid (Blk W2 sb #[.slice (some ⟨g, o, none⟩) l.length c] 36 ∧ W2.heap[g]? = W.heap[g]? ∧ J (pre ++ [(p, xp)]) W2 ∧ bwS l l.length = (pre ++ [(p, xp)]) ++ bwS l p) :=
          ⟨hkp.1.trans HR.out.1, hkp.2.trans HR.out.2.1, hJ2, HW.out.1⟩
        clear hJ2 hkp d1 hy hRd x0 x1 x2 x3 x4 x5 x6 x7 x8 x9 x10 x11 x12 x13 x14
        gi_wp2_with fail
        exact ⟨⟨p, pre ++ [(p, xp)], by omega, rfl, HK⟩, by simp [intOf]; omega⟩
      · gi_wp2
        exact bodyPost_ret (v := .tuple #[]) (by simp [results, Try.results82, go_sem]) rfl ⟨⟨_, rfl⟩, .inr ⟨pre ++ [(p, xp)], by rw [HW.out.1]; exact List.prefix_append _ _, hJx2⟩⟩

end Go.Proofs.Ytbghjmkgicdnoaa

/-
  What visible keeps in memory while it goes through a list from its end, and the plain facts of a round.
-/
namespace Go.Proofs.Ytbghjmkgicdnoaa
open Go.RowKit

def fls (n : Nat) : List Bool := List.replicate n false
def blA (l : List Bool) : Array Value := (l.map Value.bool).toArray
theorem info_bool : (Try.prog.info? 4).map (fun i => (i.zero, i.size, i.bytes)) = some (some (.bool false), 1, 1) := by kernel_rfl
set_option maxRecDepth 10000 in
theorem make_bls (n : Nat) (hn : n < 1000000) (w : World) : (Instr.makeSlice 67 (.int .i64 (n : Nat)) (.int .i64 (n : Nat))).run Try.prog w = .ok (.slice (some ⟨w.heap.size, 0, none⟩) n n) (w.alloc (.cells (blA (fls n)) 4)) := by
  obtain ⟨i0, hi, hz0, hz1, hz2⟩ := info_parts info_bool
  have h := run_make (P := Try.prog) w 67 4 i0 (.bool false) Try.underlying67 hi hz0 .i64 .i64 (n : Int) (n : Int) (by omega) (Int.le_refl _) (by rw [hz2]; omega) (by omega)
  simp only [Int.toNat_natCast, hz1] at h
  rw [h]
  congr 3
  refine Array.ext (by simp [size_madeCells, blA, fls]) fun i h1 h2 => ?_
  simp [madeCells, Value.cells, blA, fls, Nat.mod_one]

/-- What Backward hands on, by its place. -/
theorem bwS_len (l : List St) : ∀ n, (bwS l n).length = n
  | 0 => rfl
  | n + 1 => by rw [bwS, List.length_cons, bwS_len l n]
theorem bwS_at (l : List St) : ∀ (n j : Nat), j < n → (bwS l n)[j]? = some (n - 1 - j, l.getD (n - 1 - j) opeS)
  | 0, j, h => absurd h (Nat.not_lt_zero _)
  | n + 1, 0, _ => by rw [bwS]; rfl
  | n + 1, j + 1, h => by
    rw [bwS, List.getElem?_cons_succ, bwS_at l n j (by omega)]
    rw [show n - 1 - j = n + 1 - 1 - (j + 1) by omega]
theorem bwS_step {l : List St} {pre : List (Nat × St)} {x : Nat × St} (h : pre ++ [x] <+: bwS l l.length) : pre.length < l.length ∧ x.1 = l.length - 1 - pre.length ∧ ∃ h : x.1 < l.length, x.2 = l[x.1] := by
  have h1 := h.length_le
  rw [bwS_len, List.length_append, List.length_singleton] at h1
  have h2 : (bwS l l.length)[pre.length]? = some x := by
    obtain ⟨r, hr⟩ := h
    rw [← hr, List.append_assoc, List.getElem?_append_right (Nat.le_refl _), Nat.sub_self]
    rfl
  rw [bwS_at l _ _ (by omega)] at h2
  injection h2 with h2
  have e1 : x.1 = l.length - 1 - pre.length := by rw [← h2]
  have e2 : x.2 = l.getD (l.length - 1 - pre.length) opeS := by rw [← h2]
  have h3 : x.1 < l.length := by omega
  refine ⟨by omega, e1, h3, ?_⟩
  rw [e2, ← e1, List.getD, List.getElem?_eq_getElem h3, Option.getD_some]

/-- What was seen so far, of A, when k strokes at its end are done. -/
def snS (A : List (St × Rc)) (k : Nat) : List Bool := fls (A.length - k) ++ visB (A.drop (A.length - k))
def snF (A : List (St × Rc)) (k : Nat) : List Rc := visF (A.drop (A.length - k))
theorem snS_len (A : List (St × Rc)) (k : Nat) : (snS A k).length = A.length := by
  unfold snS fls
  rw [List.length_append, List.length_replicate, visB_len, List.length_drop]
  omega
theorem snS_zero (A : List (St × Rc)) : snS A 0 = fls A.length := by
  unfold snS
  rw [Nat.sub_zero, List.drop_length]
  exact List.append_nil _
theorem snS_all (A : List (St × Rc)) : snS A A.length = visB A := by
  unfold snS
  rw [Nat.sub_self, List.drop_zero]
  rfl
theorem snF_zero (A : List (St × Rc)) : snF A 0 = [] := by
  unfold snF
  rw [Nat.sub_zero, List.drop_length]
  rfl
theorem sn_next {A : List (St × Rc)} {k m : Nat} {p : St × Rc} (hk : k < A.length) (hm : m = A.length - 1 - k) (hp : A[m]? = some p) :
    snS A (k + 1) = (snS A k).set m (vqB p (snF A k)) ∧ snF A (k + 1) = vfL p (snF A k) := by
  obtain ⟨h1, h2⟩ := List.getElem?_eq_some_iff.1 hp
  have e1 : A.length - (k + 1) = m := by omega
  have e2 : A.length - k = m + 1 := by omega
  have e3 : A.drop m = p :: A.drop (m + 1) := by rw [List.drop_eq_getElem_cons h1, h2]
  unfold snS snF
  rw [e1, e2, e3]
  refine ⟨?_, rfl⟩
  have e4 : fls (m + 1) = fls m ++ [false] := by unfold fls; rw [List.replicate_succ']
  rw [e4, List.append_assoc, List.set_append_right _ _ (by simp [fls])]
  simp [fls, visB]
theorem snF_may {A : List (St × Rc)} {k : Nat} : ∀ f ∈ snF A k, zEm f = false := fun f hf => by
  obtain ⟨q, _, _, _, h⟩ := (vis_inv _).1 f hf
  exact h
theorem ne_may {r : Rc} (h : zEm r = false) : zMa r = true := by
  unfold zEm at h
  unfold emptyB at h
  rw [Bool.or_eq_false_iff] at h
  unfold zMa
  simpa using h.1

theorem row_cells {lo : Nat} {W : World} {v : Value} {rs : List Rc} (h : OwR lo W v rs) {g : Nat} (hg : v.ownBlock = some g) : ∃ cur, W.heap[g]? = some (.cells cur 27) := by
  obtain ⟨_, ⟨hh, _⟩ | ⟨g', cap', cur, hh, _, hc, _⟩⟩ := h
  · rw [hh] at hg
    cases hg
  · rw [hh] at hg
    injection hg with hg
    subst hg
    exact ⟨cur, hc⟩

/-- visible's memory: all's box, what was seen, its box, the fills' box and their row. -/
structure VisM (w : World) (va : Value) (N : Nat) (sn : List Bool) (F : List Rc) (V : World) : Prop where
  ma : Blk V w.heap.size #[va] 65
  ms : Blk V (w.heap.size + 1) (blA sn) 4
  mb : Blk V (w.heap.size + 1 + 1) #[.slice (some ⟨w.heap.size + 1, 0, none⟩) N N] 67
  mf : ∃ fv, Blk V (w.heap.size + 1 + 1 + 1) #[fv] 39 ∧ OwR (w.heap.size + 5) V fv F
  mw : Below w.heap.size w V

theorem vis_own {α : Type} (w : World) (va : Value) (N : Nat) (sn : α → List Bool) (F : α → List Rc) : OwnFrom (w.heap.size + 5) (fun s V => VisM w va N (sn s) (F s) V) := fun s X Y row hs hg hr => by
  obtain ⟨fv, f1, f2⟩ := hs.mf
  refine ⟨kept_own _ _ (fun _ : α => #[va]) _ s X Y row hs.ma hg hr, kept_own _ _ (fun s => blA (sn s)) _ s X Y row hs.ms hg hr, kept_own _ _ (fun _ : α => #[.slice (some ⟨w.heap.size + 1, 0, none⟩) N N]) _ s X Y row hs.mb hg hr, ⟨fv, kept_own _ _ (fun _ : α => #[fv]) _ s X Y row f1 hg hr, f2.far hg fun g hg' e => ?_⟩, ownFrom_below (β := α) (Nat.le_refl _) (by omega) s X Y row hs.mw hg hr⟩
  obtain ⟨_, o, ho, hc⟩ := hr g e
  obtain ⟨cur, h⟩ := row_cells f2 hg'
  rw [h] at ho
  cases ho
  cases hc
theorem vis_stores {α : Type} (w : World) (va : Value) (N : Nat) (sn : α → List Bool) (F : α → List Rc) : Stores (w.heap.size + 4) (fun s V => VisM w va N (sn s) (F s) V) := fun s V o v hs => by
  obtain ⟨fv, f1, f2⟩ := hs.mf
  refine ⟨hs.ma.other _ _ (by simp), hs.ms.other _ _ (by simp), hs.mb.other _ _ (by simp), ⟨fv, f1.other _ _ (by simp), f2.far (ob_set _ _ _ _) fun g hg' e => ?_⟩, hs.mw.setCell (p := ⟨w.heap.size + 4, o, none⟩) (by simp) _⟩
  have := (row_lt f2 g hg').1
  injection e with e
  omega
theorem VisM.below {w : World} {va : Value} {N : Nat} {sn : List Bool} {F : List Rc} {V V' : World} (h : VisM w va N sn F V) (hb : Below V.heap.size V V') : VisM w va N sn F V' := by
  obtain ⟨fv, f1, f2⟩ := h.mf
  exact ⟨h.ma.below hb, h.ms.below hb, h.mb.below hb, ⟨fv, f1.below hb, row_below f2 hb⟩, h.mw.trans (hb.mono h.mw.size)⟩

end Go.Proofs.Ytbghjmkgicdnoaa
