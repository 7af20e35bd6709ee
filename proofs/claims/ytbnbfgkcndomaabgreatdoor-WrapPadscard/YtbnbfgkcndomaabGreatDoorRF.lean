/-
  A range over an iterator that keeps a variable of its own in cells (one block, the first that it lays): the caller's law, and what the iterator owes.
-/
import Derived.RangeFuncNested
import Derived.RangeFuncBound
import Derived.RangeFuncCalls
import Derived.RangeFuncLeaves
import Derived.RangeFuncBox
import Derived.Laws.Rows
import Derived.Lib.OthersKept
namespace Go.Proofs.YtbnbfgkcndomaabGreatDoor
open Go.RowKit

variable {F : Fence} {n : Nat} {P : Program}

/-- What is said of a world abides stores into block b. -/
def Stores {β : Type} (b : Nat) (J : β → World → Prop) : Prop := ∀ s W o v, J s W → J s (W.setCell ⟨b, o, none⟩ v)

/-- What an iterator owes whose own variable lies in the first block that it lays. -/
def SeqC {α : Type} (F : Fence) (n : Nat) (P : Program) (g : Nat) (lb : Array Value) (encs : α → Array Value) (Kp : World → World → Prop) (S Sp : List α → Prop) (ok : List α → α → Prop) (w : World) : Prop :=
  ∀ (l : Nat) (J Jx : List α → World → Prop) (W : World), Below w.heap.size w W → W.heap.size = w.heap.size + 2 → AbidesFrom W.heap.size J → AbidesFrom W.heap.size Jx → Stores W.heap.size J → Stores W.heap.size Jx →
    (∀ pre x W1, J pre W1 → ok pre x → W.heap.size + 1 < W1.heap.size → YieldAt F (n - 1) P l (encs x) W1 fun e W' =>
      (e = .returned (.bool true) ∧ J (pre ++ [x]) W' ∧ Kp W1 W') ∨ (e = .returned (.bool false) ∧ Jx (pre ++ [x]) W')) →
    J [] W →
    CallsIn F n P g (#[.func (.yield l) #[] #[]] ++ lb) W fun e W' => (∃ v, e = .returned v) ∧ ((∃ xs, S xs ∧ J xs W') ∨ (∃ pre, Sp pre ∧ Jx pre W'))

/-- A block that is no cells stands over a store. -/
theorem same_set {W : World} {p : Addr} {v : Value} {k : Nat} {o : Obj} (h : W.heap[k]? = some o) (hk : p.block ≠ k) : (W.setCell p v).heap[k]? = some o := by
  exact (Below.heap_setCell _ _ _ k (fun e => hk e.symm)).trans h

set_option maxHeartbeats 1000000 in
theorem range_c {α : Type} {g : Operand} {ps : Array Tmp} {assign body : Code} {Q : Exit → Act → World → Prop} {a : Act} {w : World}
    (hro : F.round = none) (h1 : 1 ≤ n) {gf : Nat} {lb : Array Value} (hg : a.eval g = .func (.func gf) #[] lb) (hFg : F.fn gf) (eg : ∀ args w, (callFunc gf args).run P w = .ok (.enter gf args) w)
    {encs : α → Array Value} {Kp : World → World → Prop} {S Sp : List α → Prop} {ok : List α → α → Prop} (hseq : SeqC F (n - 1) P gf lb encs Kp S Sp ok w)
    (hKt : ∀ {A B C : World}, Kp A B → Kp B C → Kp A C) (hKb : ∀ (W : World) (l : Nat) (o o' : Obj), w.heap.size ≤ l → W.heap[l]? = some o → o.isCells = false → o.isWalk = false → Kp W (W.putObj l o'))
    (hps : ∀ x, (encs x).size = ps.size)
    (I : List α → World → Prop) (Ix : Code → List α → World → Prop) (hI : OwnFrom w.heap.size I) (hIx : ∀ c, OwnFrom w.heap.size (Ix c)) (hS : Stores (w.heap.size + 2) I) (hSx : ∀ c, Stores (w.heap.size + 2) (Ix c))
    (h0 : I [] w) (Ax : α → Act → World → Prop) (hAx : ∀ x a', OwnFrom w.heap.size (fun (_ : Unit) W => Ax x a' W))
    (hassign : ∀ (l : Nat) (pre : List α) (x : α) (W : World) (K : Act → World → Prop), I pre W → w.heap.size + 3 < W.heap.size → (∀ a' W', KeepsFrom w.heap.size W W' → Kp W W' → I pre W' → Ax x a' W' → K a' W') →
      assign.wpIn (F.inRound l) (n - 1 - 1) P (Exit.then K (fun _ _ _ => False)) { tmps := (ps.zip (encs x)).foldl (fun t (p, v) => t.setIfInBounds p v) a.tmps, defers := [] } W)
    (hbody : ∀ (l : Nat) (pre : List α) (x : α) (a' : Act) (W : World), I pre W → Ax x a' W → ok pre x → w.heap.size + 3 < W.heap.size → body.wpIn (F.inRound l) (n - 1 - 1) P (ownPostG w.heap.size Kp I Ix (pre ++ [x]) W) a' W)
    (hdone : ∀ (D : Nat) (xs : List α) (W : World), w.heap.size ≤ D → S xs → I xs W → W.heap[D]? = some (.deferred (some [])) → Q .normal { a with defers := { target := .collected D, args := #[] } :: a.defers } W)
    (hstop : ∀ (D : Nat) (c : Code) (pre : List α) (W : World), w.heap.size ≤ D → Sp pre → Ix c pre W → W.heap[D]? = some (.deferred (some [])) → c.wpIn F n P Q { a with defers := { target := .collected D, args := #[] } :: a.defers } W) :
    (Code.rangeFunc g ps assign body).wpIn F n P Q a w := by
  refine wpIn_rangeFunc fun fn hfn => ?_
  rw [hro]
  obtain ⟨R, hR⟩ : ∃ R : LoopState → Option Code → Loop, R = fun st pe => { state := st, pending := pe, fn, tmps := a.tmps, params := ps, assign, body, defers := w.heap.size } := ⟨_, rfl⟩
  obtain ⟨V, hV⟩ : ∃ V, (w.alloc (.deferred (some []))).alloc (.loop (R .ready none)) = V := ⟨_, rfl⟩
  have sV : V.heap.size = w.heap.size + 2 := by rw [← hV]; simp
  have rV : V.heap[w.heap.size + 1]? = some (.loop (R .ready none)) := by
    have := World.alloc_heap_new (w.alloc (.deferred (some []))) (.loop (R .ready none))
    rwa [World.size_alloc, hV] at this
  have dV : V.heap[w.heap.size]? = some (.deferred (some [])) := by
    rw [← hV]; exact (Below.heap_alloc _ _ _ (by simp)).trans (World.alloc_heap_new w _)
  have iV : I [] V := by rw [← hV]; exact hI.alloc _ (hI.alloc _ h0)
  have bV : Below w.heap.size w V := by
    rw [← hV]; exact ((Below.refl _ w).alloc (Nat.le_refl _) _).alloc (by simp) _
  refine ⟨w.heap.size + 1, [{ target := .collected w.heap.size, args := #[] }], V, { target := .fn (.func gf) lb, args := #[.func (.yield (w.heap.size + 1)) #[] #[]] }, V, gf,
    #[.func (.yield (w.heap.size + 1)) #[] #[]] ++ lb, V, ?_, ?_, ?_, ?_, fun _ => h1, ?_⟩
  · rw [← hV, hR]; exact run_enterLoop_outer _ _ _ _ _
  · simp only [resolve, hg]
    simp [go_sem]
  · intro f' hf'; simp [Target.leads] at hf'; subst hf'; exact hFg
  · simp [invoke, go_sem, eg]
  have up : ∀ {A : World} {row : Option Nat}, (∀ r, row = some r → V.heap.size ≤ r ∧ ∃ o : Obj, A.heap[r]? = some o ∧ o.isWalk = true) → (∀ r, row = some r → w.heap.size ≤ r ∧ ∃ o : Obj, A.heap[r]? = some o ∧ o.isCells = false) :=
    fun hr r e => by
      obtain ⟨hB, o, ho, hw⟩ := hr r e
      exact ⟨by omega, o, ho, Obj.not_cells_of_walk hw⟩
  have setJ : ∀ {K : World → Prop} {st : LoopState} {pe : Option Code}, (∀ W o v, K W → K (W.setCell ⟨w.heap.size + 2, o, none⟩ v)) → ∀ (W : World) (o : Nat) (v : Value),
      (K W ∧ W.heap[w.heap.size + 1]? = some (.loop (R st pe)) ∧ W.heap[w.heap.size]? = some (.deferred (some []))) →
      (K (W.setCell ⟨w.heap.size + 2, o, none⟩ v) ∧ (W.setCell ⟨w.heap.size + 2, o, none⟩ v).heap[w.heap.size + 1]? = some (.loop (R st pe)) ∧ (W.setCell ⟨w.heap.size + 2, o, none⟩ v).heap[w.heap.size]? = some (.deferred (some []))) :=
    fun hK W o v ⟨k, l, d⟩ => ⟨hK W o v k, same_set l (by simp), same_set d (by simp)⟩
  refine (hseq (w.heap.size + 1)
    (fun pre W => I pre W ∧ W.heap[w.heap.size + 1]? = some (.loop (R .ready none)) ∧ W.heap[w.heap.size]? = some (.deferred (some [])))
    (fun pre W => ∃ c, Ix c pre W ∧ W.heap[w.heap.size + 1]? = some (.loop (R .done (some c))) ∧ W.heap[w.heap.size]? = some (.deferred (some [])))
    V bV sV ?abJ ?abX ?stJ ?stX ?yields ⟨iV, rV, dV⟩).mono ?behind
  case abJ =>
    intro s A B row hs gr hr
    exact ⟨hI s A B row hs.1 gr (up hr), (grownBy_keeps gr (fun r e => (hr r e).2) hs.2.1 rfl).trans hs.2.1, (grownBy_keeps gr (fun r e => (hr r e).2) hs.2.2 rfl).trans hs.2.2⟩
  case abX =>
    intro s A B row hs gr hr
    obtain ⟨c, hc, hl, hk⟩ := hs
    exact ⟨c, hIx c s A B row hc gr (up hr), (grownBy_keeps gr (fun r e => (hr r e).2) hl rfl).trans hl, (grownBy_keeps gr (fun r e => (hr r e).2) hk rfl).trans hk⟩
  case stJ =>
    intro s W o v hs
    rw [sV]
    exact setJ (fun W o v => hS s W o v) W o v hs
  case stX =>
    intro s W o v hs
    obtain ⟨c, hs⟩ := hs
    rw [sV]
    exact ⟨c, setJ (fun W o v => hSx c s W o v) W o v hs⟩
  case yields =>
    rintro pre x W ⟨hi, hl, hk⟩ hlen hsz
    rw [sV] at hsz
    have hy := run_yield (P := P) (args := encs x) hl (by rw [hR]; exact hps x)
    rw [hR] at hy
    refine ⟨fn, _, assign, body, hy, roundIn_of_wpIn hfn (hassign _ pre x W _ hi hsz ?_)⟩
    clear hy
    intro a' U hkf hkp hi' hax
    replace hl := hkf.same _ _ (by omega) hl rfl
    replace hk := hkf.same _ _ (Nat.le_refl _) hk rfl
    have hlt : w.heap.size + 1 < U.heap.size := (Array.getElem?_eq_some_iff.1 hl).1
    have szU : w.heap.size + 3 < U.heap.size := Nat.lt_of_lt_of_le hsz hkf.size
    refine ⟨_, run_beginRound hl (by rw [hR]), ?_⟩
    obtain ⟨X, hX⟩ : ∃ X, U.putObj (w.heap.size + 1) (.loop { R .ready none with state := .busy }) = X := ⟨_, rfl⟩
    have lX : X.heap[w.heap.size + 1]? = some (.loop { R .ready none with state := .busy }) := by rw [← hX]; exact World.putObj_heap_same hlt
    have kX : X.heap[w.heap.size]? = some (.deferred (some [])) := by rw [← hX]; exact (World.putObj_heap_other (by omega)).trans hk
    have pX : Kp U X := by rw [← hX]; exact hKb _ _ _ _ (by omega) hl rfl rfl
    have iX : I pre X := by rw [← hX]; exact hI.putObj _ hi' (by omega) hl rfl
    have aX : Ax x a' X := by rw [← hX]; exact (hAx x a').putObj (s := ()) _ hax (by omega) hl rfl
    have szX : w.heap.size + 3 < X.heap.size := by rw [← hX]; simpa [World.putObj] using szU
    rw [hX]
    refine wpIn_mono (hbody _ pre x a' X iX aX hlen szX) ?_
    have fin : ∀ (jump : Option Code) (Y : World), KeepsFrom w.heap.size X Y →
        (Instr.endRound (w.heap.size + 1) jump).run P Y = .ok (.bool jump.isNone) (Y.putObj (w.heap.size + 1) (.loop (R (if jump.isNone then .ready else .done) jump))) ∧
        Y.heap[w.heap.size + 1]? = some (.loop { R .ready none with state := .busy }) ∧
        (Y.putObj (w.heap.size + 1) (.loop (R (if jump.isNone then .ready else .done) jump))).heap[w.heap.size + 1]? = some (.loop (R (if jump.isNone then .ready else .done) jump)) ∧
        (Y.putObj (w.heap.size + 1) (.loop (R (if jump.isNone then .ready else .done) jump))).heap[w.heap.size]? = some (.deferred (some [])) := fun jump Y hkY => by
      have lY := hkY.same _ _ (by omega) lX rfl
      have := run_endRound (P := P) jump lY
      rw [hR] at this ⊢
      exact ⟨this, by rw [hR] at lY; exact lY, World.putObj_heap_same (Array.getElem?_eq_some_iff.1 lY).1, (World.putObj_heap_other (by omega)).trans (hkY.same _ _ (Nat.le_refl _) kX rfl)⟩
    rintro e a3 Y hp
    cases e with
    | normal =>
      obtain ⟨hkY, hpY, hiY⟩ := hp
      obtain ⟨hr, hl3, hl4, hk4⟩ := fin none Y hkY
      exact ⟨_, _, hr, .inl ⟨rfl, ⟨hI.putObj _ hiY (by omega) hl3 rfl, hl4, hk4⟩, hKt hkp (hKt (hKt pX hpY) (hKb _ _ _ _ (by omega) hl3 rfl rfl))⟩⟩
    | ret =>
      obtain ⟨hkY, hiY⟩ := hp
      obtain ⟨hr, hl3, hl4, hk4⟩ := fin (some .ret) Y hkY
      exact ⟨_, _, hr, .inr ⟨rfl, .ret, (hIx _).putObj _ hiY (by omega) hl3 rfl, hl4, hk4⟩⟩
    | exit id =>
      obtain ⟨hkY, hiY⟩ := hp
      obtain ⟨hr, hl3, hl4, hk4⟩ := fin (some (.exit id)) Y hkY
      exact ⟨_, _, hr, .inr ⟨rfl, .exit id, (hIx _).putObj _ hiY (by omega) hl3 rfl, hl4, hk4⟩⟩
    | goto t =>
      obtain ⟨hkY, hiY⟩ := hp
      obtain ⟨hr, hl3, hl4, hk4⟩ := fin (some (.goto t)) Y hkY
      exact ⟨_, _, hr, .inr ⟨rfl, .goto t, (hIx _).putObj _ hiY (by omega) hl3 rfl, hl4, hk4⟩⟩
    | panic ch => exact hp.elim
    | outgrown => exact hp.elim
  case behind =>
    rintro e Y ⟨⟨v, rfl⟩, (⟨xs, hxs, hi, hl, hk⟩ | ⟨pre, hpre, c, hi, hl, hk⟩)⟩
    · exact ⟨none, _, by have := run_endLoop (P := P) hl (by rw [hR]; simp); rw [hR] at this; exact this, hdone _ xs _ (Nat.le_refl _) hxs (hI.putObj _ hi (by omega) hl rfl) ((World.putObj_heap_other (by omega)).trans hk)⟩
    · exact ⟨some c, _, by have := run_endLoop (P := P) hl (by rw [hR]; simp); rw [hR] at this; exact this, hstop _ c pre _ (Nat.le_refl _) hpre ((hIx c).putObj _ hi (by omega) hl rfl) ((World.putObj_heap_other (by omega)).trans hk)⟩

/-- All blocks but some of the caller's own lie as they lay. -/
def Kept (ow : Nat → Prop) (W W' : World) : Prop := W.heap.size ≤ W'.heap.size ∧ ∀ k o, ¬ ow k → (o.isCells = true ∨ o.isWalk = true) → W.heap[k]? = some o → W'.heap[k]? = some o
theorem Kept.refl (ow : Nat → Prop) (W : World) : Kept ow W W := ⟨Nat.le_refl _, fun _ _ _ _ h => h⟩
theorem Kept.trans {ow : Nat → Prop} {A B C : World} (h : Kept ow A B) (k : Kept ow B C) : Kept ow A C := ⟨Nat.le_trans h.1 k.1, fun i o hi ho e => k.2 i o hi ho (h.2 i o hi ho e)⟩
theorem Kept.put {ow : Nat → Prop} (W : World) (l : Nat) (o o' : Obj) (hl : W.heap[l]? = some o) (hc : o.isCells = false) (hw : o.isWalk = false) : Kept ow W (W.putObj l o') := by
  refine ⟨by simp [World.putObj], fun k x _ hx e => ?_⟩
  by_cases hk : l = k
  · subst hk
    rw [hl] at e
    cases e
    rw [hc, hw] at hx
    simp at hx
  · exact (World.putObj_heap_other (Ne.symm hk)).trans e
theorem Kept.below {ow : Nat → Prop} {W W' : World} (h : Below W.heap.size W W') : Kept ow W W' := ⟨h.size, fun k _ _ _ e => (h.block k (Array.getElem?_eq_some_iff.1 e).1).trans e⟩
theorem Kept.set {ow : Nat → Prop} {W A : World} (h : Kept ow W A) (b o : Nat) (v : Value) (hb : ow b) : Kept ow W (A.setCell ⟨b, o, none⟩ v) :=
  h.trans ⟨(KeepsWalks.setCell A _ v).size, fun k x hk _ e => same_set e (fun he => hk (by simp at he; rw [← he]; exact hb))⟩

theorem AbidesFrom.below {β : Type} {B : Nat} {J : β → World → Prop} (h : AbidesFrom B J) {s : β} {W W' : World} (hs : J s W) (hb : Below W.heap.size W W') : J s W' :=
  h s W W' none hs ⟨hb.os, hb.tape, hb.output, hb.size, fun k hk _ => hb.block k hk⟩ (fun r e => by cases e)
theorem OwnFrom.below {β : Type} {B : Nat} {J : β → World → Prop} (h : OwnFrom B J) {s : β} {W W' : World} (hs : J s W) (hb : Below W.heap.size W W') : J s W' :=
  h s W W' none hs ⟨hb.os, hb.tape, hb.output, hb.size, fun k hk _ => hb.block k hk⟩ (fun r e => by cases e)

/-- A block of cells, written out: what is read there, and that it may be written. -/
def Blk (W : World) (b : Nat) (vs : Array Value) (t : TypeId) : Prop := W.heap[b]? = some (.cells vs t)
theorem Blk.lt {W : World} {b : Nat} {vs : Array Value} {t : TypeId} (h : Blk W b vs t) : b < W.heap.size := (Array.getElem?_eq_some_iff.1 h).1
theorem Blk.cell {W : World} {b : Nat} {vs : Array Value} {t : TypeId} (h : Blk W b vs t) (o : Nat) : W.cell? ⟨b, o, none⟩ = vs[o]? := by
  simp [World.cell?, show W.heap[b]? = _ from h]
theorem Blk.frozen {W : World} {b : Nat} {vs : Array Value} {t : TypeId} (h : Blk W b vs t) (o : Nat) : W.frozen? ⟨b, o, none⟩ = false := by
  simp [World.frozen?, show W.heap[b]? = _ from h]
theorem Blk.below {W W' : World} {b : Nat} {vs : Array Value} {t : TypeId} (h : Blk W b vs t) (hb : Below W.heap.size W W') : Blk W' b vs t := (hb.block b h.lt).trans h
theorem Blk.kept {ow : Nat → Prop} {W W' : World} {b : Nat} {vs : Array Value} {t : TypeId} (h : Blk W b vs t) (k : Kept ow W W') (hb : ¬ ow b) : Blk W' b vs t := k.2 b _ hb (.inl rfl) h
theorem Blk.alloc {W : World} {b : Nat} {vs : Array Value} {t : TypeId} (h : Blk W b vs t) (o : Obj) : Blk (W.alloc o) b vs t := h.below ((Below.refl _ _).alloc (Nat.le_refl _) o)
theorem Blk.new (W : World) (vs : Array Value) (t : TypeId) : Blk (W.alloc (.cells vs t)) W.heap.size vs t := World.alloc_heap_new W _
theorem Blk.other {W : World} {b : Nat} {vs : Array Value} {t : TypeId} (h : Blk W b vs t) (p : Addr) (v : Value) (hp : p.block ≠ b) : Blk (W.setCell p v) b vs t := same_set h hp

theorem Blk.put {W : World} {b : Nat} {vs : Array Value} {t : TypeId} (h : Blk W b vs t) (o : Nat) (v : Value) : Blk (W.setCell ⟨b, o, none⟩ v) b (vs.setIfInBounds o v) t := heap_setCell_same W b o vs t v h
theorem Blk.put4 {W : World} {b : Nat} {a0 a1 a2 a3 : Value} {t : TypeId} (h : Blk W b #[a0, a1, a2, a3] t) (v0 v1 v2 v3 : Value) :
    Blk ((((W.setCell ⟨b, 0, none⟩ v0).setCell ⟨b, 1, none⟩ v1).setCell ⟨b, 2, none⟩ v2).setCell ⟨b, 3, none⟩ v3) b #[v0, v1, v2, v3] t := by
  simpa using (((h.put 0 v0).put 1 v1).put 2 v2).put 3 v3
theorem Blk.put41 {W : World} {b : Nat} {a0 a1 a2 a3 : Value} {t : TypeId} (h : Blk W b #[a0, a1, a2, a3] t) (v : Value) : Blk (W.setCell ⟨b, 1, none⟩ v) b #[a0, v, a2, a3] t := by
  simpa using h.put 1 v
theorem Blk.at4 {W : World} {b : Nat} {a0 a1 a2 a3 : Value} {t : TypeId} (h : Blk W b #[a0, a1, a2, a3] t) : W.cell? ⟨b, 0, none⟩ = some a0 ∧ W.cell? ⟨b, 1, none⟩ = some a1 ∧ W.cell? ⟨b, 2, none⟩ = some a2 ∧ W.cell? ⟨b, 3, none⟩ = some a3 :=
  ⟨h.cell 0, h.cell 1, h.cell 2, h.cell 3⟩
theorem Blk.at1 {W : World} {b : Nat} {a0 : Value} {t : TypeId} (h : Blk W b #[a0] t) : W.cell? ⟨b, 0, none⟩ = some a0 := h.cell 0
theorem Blk.put1 {W : World} {b : Nat} {a0 : Value} {t : TypeId} (h : Blk W b #[a0] t) (v : Value) : Blk (W.setCell ⟨b, 0, none⟩ v) b #[v] t := by
  simpa using h.put 0 v

/-- All cells of one world stand in another. -/
def Same (w0 w1 : World) : Prop := w0.heap.size ≤ w1.heap.size ∧ ∀ (k : Nat) (o : Obj), o.isCells = true → w0.heap[k]? = some o → w1.heap[k]? = some o
theorem Same.refl (w : World) : Same w w := ⟨Nat.le_refl _, fun _ _ _ h => h⟩
theorem Same.trans {A B C : World} (h : Same A B) (k : Same B C) : Same A C := ⟨Nat.le_trans h.1 k.1, fun i o ho e => k.2 i o ho (h.2 i o ho e)⟩
theorem Same.of {w0 w1 : World} (h : Below w0.heap.size w0 w1) : Same w0 w1 := ⟨h.size, fun k _ _ e => (h.block k (Array.getElem?_eq_some_iff.1 e).1).trans e⟩
theorem Same.below {w0 A B : World} (h : Same w0 A) (hb : Below A.heap.size A B) : Same w0 B := h.trans (Same.of hb)
theorem Same.kept {ow : Nat → Prop} {w0 A B : World} (h : Same w0 A) (k : Kept ow A B) (ho : ∀ k, ow k → w0.heap.size ≤ k) : Same w0 B :=
  ⟨Nat.le_trans h.1 k.1, fun i o hc e => k.2 i o (fun hi => by have := ho i hi; have := (Array.getElem?_eq_some_iff.1 e).1; omega) (.inl hc) (h.2 i o hc e)⟩
theorem Same.set {w0 A : World} (h : Same w0 A) (b o : Nat) (v : Value) (hb : w0.heap.size ≤ b) : Same w0 (A.setCell ⟨b, o, none⟩ v) :=
  ⟨Nat.le_trans h.1 (KeepsWalks.setCell A _ v).size, fun k x hx e => same_set (h.2 k x hx e) (by have := (Array.getElem?_eq_some_iff.1 e).1; simp; omega)⟩
theorem Same.iterAt {w0 A : World} (h : Same w0 A) (k : Nat) (s : ByteArray) (p : Nat) (hk : w0.heap.size ≤ k) : Same w0 (A.iterAt k s p) :=
  ⟨by rw [Lib.iterAt_size]; exact h.1, fun i o ho e => (Lib.iterAt_other A k i s p (by have := (Array.getElem?_eq_some_iff.1 e).1; omega)).trans (h.2 i o ho e)⟩
theorem Same.cell {w0 w1 : World} (h : Same w0 w1) {p : Addr} {v : Value} (e : w0.cell? p = some v) : w1.cell? p = some v := by
  unfold World.cell? at e ⊢
  split at e
  · next c t f hc => rw [h.2 _ _ rfl hc]; exact e
  · cases e
theorem Blk.iterAt {W : World} {b : Nat} {vs : Array Value} {t : TypeId} (h : Blk W b vs t) (k : Nat) (s : ByteArray) (p : Nat) (hk : b ≠ k) : Blk (W.iterAt k s p) b vs t := (Lib.iterAt_other W k b s p hk).trans h
theorem Blk.same {w0 w1 : World} {b : Nat} {vs : Array Value} {t : TypeId} (h : Blk w0 b vs t) (k : Same w0 w1) : Blk w1 b vs t := k.2 b _ rfl h

end Go.Proofs.YtbnbfgkcndomaabGreatDoor
