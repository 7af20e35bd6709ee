/-
  Contracts of package runes: a text's pieces, its cells.
-/
import Derived.Test.YtbnbfgkcndomaabGreatDoorRI
namespace Go.Proofs.YtbnbfgkcndomaabGreatDoor
open Go.RowKit Go.Shelf
attribute [local go_sem] Oper.semAt_some

set_option maxHeartbeats 400000 in
theorem pieces_any (s : ByteArray) (w : World) :
    Calls Tryz.prog 155 #[.string s] w fun e w' => e = .returned (.func (.func 162) #[] #[.pointer (some ⟨w.heap.size, 0, none⟩)]) ∧ w' = w.alloc (.cells #[.string s] 9) := by
  go_enter Tryz.func155, Tryz.ntmps155
  go_wp2
  go_ret
  exact ⟨rfl, rfl⟩

def sumC (l : List Pc) : Int := (l.map fun x => width x.r).foldr (· + ·) 0
theorem sumC_snoc (l : List Pc) (x : Pc) : sumC (l ++ [x]) = sumC l + width x.r := by
  unfold sumC
  induction l with
  | nil => simp
  | cons a t ih => simp only [List.cons_append, List.map_cons, List.foldr_cons]; rw [ih]; omega

theorem grow_len (s : ByteArray) : ∀ f a r q, (grow s f a r q).length ≤ f
  | 0, _, _, _ => by simp [grow]
  | f + 1, a, r, q => by
    by_cases hq : q < s.size
    · cases h : (mrk (rn s q) && !ctl r)
      · rw [grow_out hq h]; have := grow_len s f q (rn s q) (q + sz s q); simp; omega
      · rw [grow_in hq h]; have := grow_len s f a r (q + sz s q); omega
    · rw [grow_end hq]; simp
theorem pcs_len (s : ByteArray) : (pcs s).length ≤ s.size := by
  unfold pcs
  split
  · simp
  · exact grow_len _ _ _ _ _
theorem sumC_range (l : List Pc) : 0 ≤ sumC l ∧ sumC l ≤ 2 * l.length := by
  induction l with
  | nil => simp [sumC]
  | cons a t ih =>
    have := width_range a.r
    have e : sumC (a :: t) = width a.r + sumC t := rfl
    rw [e]
    simp only [List.length_cons]
    omega
/-- All runes of pieces are runes. -/
theorem grow_rune (s : ByteArray) : ∀ f a r q, r ≤ 1114111 → ∀ x ∈ grow s f a r q, x.r ≤ 1114111
  | 0, _, _, _, _ => by simp [grow]
  | f + 1, a, r, q, hr => by
    intro x hx
    by_cases hq : q < s.size
    · cases h : (mrk (rn s q) && !ctl r)
      · rw [grow_out hq h] at hx
        rcases List.mem_cons.1 hx with rfl | hx
        · exact hr
        · exact grow_rune s f q (rn s q) (q + sz s q) (Lib.rune_le s q) x hx
      · rw [grow_in hq h] at hx
        exact grow_rune s f a r (q + sz s q) hr x hx
    · rw [grow_end hq, List.mem_singleton] at hx
      subst hx
      exact hr
theorem pcs_rune (s : ByteArray) (x : Pc) (hx : x ∈ pcs s) : x.r ≤ 1114111 := by
  unfold pcs at hx
  split at hx
  · cases hx
  · exact grow_rune s _ _ _ _ (Lib.rune_le s 0) x hx
theorem rune_in {s : ByteArray} {pre : List Pc} {x : Pc} (h : pre ++ [x] <+: pcs s) : x.r ≤ 1114111 := pcs_rune s x (h.subset (by simp))

/-- No text here is longer. -/
abbrev Short (s : ByteArray) : Prop := s.size ≤ 1099511627776

/-- What the loop's variable is in a round: a box of its own. -/
def BoxP (B : Nat) (tm : Pc → Nat → Act) (x : Pc) (a' : Act) (W : World) : Prop :=
  ∃ b, B < b ∧ Blk W b #[.int .i64 x.fr, .int .i64 x.to, .int .i32 x.r, .int .i64 (width x.r)] 464 ∧ a' = tm x b

theorem kept_own {β : Type} (L b : Nat) (vs : β → Array Value) (t : TypeId) : OwnFrom L (fun s W => Blk W b (vs s) t) := fun s X Y row hs hg hr => by
  have h : X.heap[b]? = some (.cells (vs s) t) := hs
  refine (hg.block b (Array.getElem?_eq_some_iff.1 h).1 (fun e => ?_)).trans h
  obtain ⟨_, o, ho, hc⟩ := hr b e.symm
  rw [h] at ho
  cases ho
  cases hc
theorem boxP_own (L B : Nat) (tm : Pc → Nat → Act) (x : Pc) (a' : Act) : OwnFrom L (fun (_ : Unit) W => BoxP B tm x a' W) := fun s X Y row hs hg hr => by
  obtain ⟨b, hb, h, e⟩ := hs
  exact ⟨b, hb, kept_own (β := Unit) L b (fun _ => _) _ () X Y row h hg hr, e⟩

/-- A range over a text's pieces: the law at this program's iterator. -/
theorem range_p {g : Operand} {ps : Array Tmp} {assign body : Code} {Q : Exit → Act → World → Prop} {a : Act} {w : World} (w0 : World) (T : Tabs w0) (sb : Nat) (s : ByteArray) (h0w : Same w0 w) (hs : Blk w sb #[.string s] 9)
    (ow : Nat → Prop) (ho : ∀ k, ow k → w0.heap.size ≤ k ∧ k ≠ sb ∧ k ≠ w.heap.size + 2 ∧ k ≠ w.heap.size + 3) (hg : a.eval g = .func (.func 162) #[] #[.pointer (some ⟨sb, 0, none⟩)]) (hps : ps.size = 1)
    (I : List Pc → World → Prop) (Ix : Code → List Pc → World → Prop) (hI : OwnFrom w.heap.size I) (hIx : ∀ c, OwnFrom w.heap.size (Ix c)) (hS : Stores (w.heap.size + 2) I) (hSx : ∀ c, Stores (w.heap.size + 2) (Ix c))
    (h0 : I [] w) (Ax : Pc → Act → World → Prop) (hAx : ∀ x a', OwnFrom w.heap.size (fun (_ : Unit) W => Ax x a' W))
    (hassign : ∀ (l : Nat) (pre : List Pc) (x : Pc) (W : World) (K : Act → World → Prop), I pre W → w.heap.size + 3 < W.heap.size → (∀ a' W', KeepsFrom w.heap.size W W' → Kept ow W W' → I pre W' → Ax x a' W' → K a' W') →
      assign.wpIn (Fence.wide.inRound l) 1 Tryz.prog (Exit.then K (fun _ _ _ => False)) { tmps := (ps.zip (pcE x)).foldl (fun t (p, v) => t.setIfInBounds p v) a.tmps, defers := [] } W)
    (hbody : ∀ (l : Nat) (pre : List Pc) (x : Pc) (a' : Act) (W : World), I pre W → Ax x a' W → pre ++ [x] <+: pcs s → w.heap.size + 3 < W.heap.size → body.wpIn (Fence.wide.inRound l) 1 Tryz.prog (ownPostG w.heap.size (Kept ow) I Ix (pre ++ [x]) W) a' W)
    (hdone : ∀ (D : Nat) (W : World), w.heap.size ≤ D → I (pcs s) W → W.heap[D]? = some (.deferred (some [])) → Q .normal { a with defers := { target := .collected D, args := #[] } :: a.defers } W)
    (hstop : ∀ (D : Nat) (c : Code) (pre : List Pc) (W : World), w.heap.size ≤ D → pre <+: pcs s → Ix c pre W → W.heap[D]? = some (.deferred (some [])) → c.wpIn Fence.wide 3 Tryz.prog Q { a with defers := { target := .collected D, args := #[] } :: a.defers } W) :
    (Code.rangeFunc g ps assign body).wpIn Fence.wide 3 Tryz.prog Q a w :=
  range_c (n := 3) (w := w) rfl (by omega) hg trivial (enters_of Tryz.func162 (by kernel_rfl) rfl)
    (pieces_seq 2 sb ow s w0 w T h0w hs ho) (fun h k => h.trans k) (fun W l o o' _ hl hc hw => Kept.put W l o o' hl hc hw) (fun _ => by rw [hps]; rfl) I Ix hI hIx hS hSx h0 Ax hAx hassign hbody
    (fun D xs W hD hx hi hK => by subst hx; exact hdone D W hD hi hK) hstop

theorem results_two {fn : Func} {t u : Tmp} (h : fn.results = #[.tmp t, .tmp u]) (tmps : Array Value) (P : Program) (w : World) :
    (results fn tmps).run P w = .ok (.tuple #[tmps.getD t undef, tmps.getD u undef]) w := by
  simp [results, h]
/-- A function that ranged over an iterator returns: two results, one. -/
theorem leave2 {fn : Func} {t u : Tmp} (h : fn.results = #[.tmp t, .tmp u]) {tmps : Array Value} {R : Ending → World → Prop} {D : Nat} {W : World} (hK : W.heap[D]? = some (.deferred (some [])))
    (hR : R (.returned (.tuple #[tmps.getD t undef, tmps.getD u undef])) (W.putObj D (.deferred none))) : bodyPostM Fence.wide 3 Tryz.prog fn R .ret { tmps := tmps, defers := [{ target := .collected D, args := #[] }] } W := by
  refine ⟨by simp, .inl ⟨_, _, rfl, run_takeDeferred hK, ?_⟩⟩
  exact ⟨_, results_two h _ _ _, hR⟩
theorem leave1 {fn : Func} {t : Tmp} (h : fn.results = #[.tmp t]) {tmps : Array Value} {R : Ending → World → Prop} {D : Nat} {W : World} (hK : W.heap[D]? = some (.deferred (some [])))
    (hR : R (.returned (tmps.getD t undef)) (W.putObj D (.deferred none))) : bodyPostM Fence.wide 3 Tryz.prog fn R .ret { tmps := tmps, defers := [{ target := .collected D, args := #[] }] } W := by
  refine ⟨by simp, .inl ⟨_, _, rfl, run_takeDeferred hK, ?_⟩⟩
  exact ⟨_, results_tmp h _ _ _, hR⟩
theorem below_left {B D : Nat} {w V : World} (h : Below B w V) (hB : B ≤ D) (o : Obj) : Below B w (V.putObj D o) :=
  h.trans ⟨rfl, rfl, rfl, by simp [World.putObj], fun k hk => World.putObj_heap_other (by omega)⟩

/-- New boxes, one behind the other. -/
theorem boxes1 (w : World) (v0 : Value) (t0 : TypeId) (W : World) (hW : W = w.alloc (.cells #[v0] t0)) : W.heap.size = w.heap.size + 1 ∧ Below w.heap.size w W ∧ Blk W w.heap.size #[v0] t0 := by
  subst hW
  exact ⟨by simp, (Below.refl _ w).alloc (Nat.le_refl _) _, Blk.new w _ _⟩
theorem boxes2 (w : World) (v0 v1 : Value) (t0 t1 : TypeId) (W : World) (hW : W = (w.alloc (.cells #[v0] t0)).alloc (.cells #[v1] t1)) :
    W.heap.size = w.heap.size + 2 ∧ Below w.heap.size w W ∧ Blk W w.heap.size #[v0] t0 ∧ Blk W (w.heap.size + 1) #[v1] t1 := by
  obtain ⟨s1, b1, k0⟩ := boxes1 w v0 t0 _ rfl
  obtain ⟨s2, b2, k1⟩ := boxes1 _ v1 t1 W hW
  rw [s1] at s2 k1
  exact ⟨by omega, b1.trans (b2.mono b1.size), k0.below b2, k1⟩
theorem boxes3 (w : World) (v0 v1 v2 : Value) (t0 t1 t2 : TypeId) (W : World) (hW : W = ((w.alloc (.cells #[v0] t0)).alloc (.cells #[v1] t1)).alloc (.cells #[v2] t2)) :
    W.heap.size = w.heap.size + 3 ∧ Below w.heap.size w W ∧ Blk W w.heap.size #[v0] t0 ∧ Blk W (w.heap.size + 1) #[v1] t1 ∧ Blk W (w.heap.size + 2) #[v2] t2 := by
  obtain ⟨s1, b1, k0, k1⟩ := boxes2 w v0 v1 t0 t1 _ rfl
  obtain ⟨s2, b2, k2⟩ := boxes1 _ v2 t2 W hW
  rw [s1] at s2 k2
  exact ⟨by omega, b1.trans (b2.mono b1.size), k0.below b2, k1.below b2, k2⟩
theorem boxes4 (w : World) (v0 v1 v2 v3 : Value) (t0 t1 t2 t3 : TypeId) (W : World) (hW : W = (((w.alloc (.cells #[v0] t0)).alloc (.cells #[v1] t1)).alloc (.cells #[v2] t2)).alloc (.cells #[v3] t3)) :
    W.heap.size = w.heap.size + 4 ∧ Below w.heap.size w W ∧ Blk W w.heap.size #[v0] t0 ∧ Blk W (w.heap.size + 1) #[v1] t1 ∧ Blk W (w.heap.size + 2) #[v2] t2 ∧ Blk W (w.heap.size + 3) #[v3] t3 := by
  obtain ⟨s1, b1, k0, k1, k2⟩ := boxes3 w v0 v1 v2 t0 t1 t2 _ rfl
  obtain ⟨s2, b2, k3⟩ := boxes1 _ v3 t3 W hW
  rw [s1] at s2 k3
  exact ⟨by omega, b1.trans (b2.mono b1.size), k0.below b2, k1.below b2, k2.below b2, k3⟩

theorem boxes6 (w : World) (v0 v1 v2 v3 v4 v5 : Value) (t0 t1 t2 t3 t4 t5 : TypeId) (W : World)
    (hW : W = (((((w.alloc (.cells #[v0] t0)).alloc (.cells #[v1] t1)).alloc (.cells #[v2] t2)).alloc (.cells #[v3] t3)).alloc (.cells #[v4] t4)).alloc (.cells #[v5] t5)) :
    W.heap.size = w.heap.size + 6 ∧ Below w.heap.size w W ∧ Blk W w.heap.size #[v0] t0 ∧ Blk W (w.heap.size + 1) #[v1] t1 ∧ Blk W (w.heap.size + 2) #[v2] t2 ∧ Blk W (w.heap.size + 3) #[v3] t3 ∧ Blk W (w.heap.size + 4) #[v4] t4 ∧ Blk W (w.heap.size + 5) #[v5] t5 := by
  obtain ⟨s1, b1, k0, k1, k2, k3⟩ := boxes4 w v0 v1 v2 v3 t0 t1 t2 t3 _ rfl
  obtain ⟨s2, b2, k4, k5⟩ := boxes2 _ v4 v5 t4 t5 W hW
  rw [s1] at s2 k4 k5
  exact ⟨by omega, b1.trans (b2.mono b1.size), k0.below b2, k1.below b2, k2.below b2, k3.below b2, k4, k5⟩

end Go.Proofs.YtbnbfgkcndomaabGreatDoor
