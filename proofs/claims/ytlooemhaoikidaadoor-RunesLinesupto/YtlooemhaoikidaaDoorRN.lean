/-
  Contracts of package runes: where pieces end that fit, the next one, the last one.
-/
import Derived.Test.YtlooemhaoikidaaDoorRC
namespace Go.Proofs.YtlooemhaoikidaaDoor
open Go.RowKit Go.Shelf
attribute [local go_sem] Oper.semAt_some

/-- Where the pieces end that fit. -/
def fitL : List Pc → Int → Nat → Nat
  | [], _, e => e
  | x :: t, room, e => if room - width x.r < 0 then e else fitL t (room - width x.r) x.to
def lastTo : List Pc → Nat → Nat
  | [], e => e
  | x :: t, _ => lastTo t x.to
theorem lastTo_snoc : ∀ (l : List Pc) (x : Pc) (e : Nat), lastTo (l ++ [x]) e = x.to
  | [], _, _ => rfl
  | _ :: t, x, _ => lastTo_snoc t x _

/-- The end of the first piece that ends behind a place. -/
def nextL : List Pc → Int → Option Nat
  | [], _ => none
  | x :: t, p => if p < x.to then some x.to else nextL t p
theorem nextL_app (l r : List Pc) (p : Int) (h : ∀ x ∈ l, (x.to : Int) ≤ p) : nextL (l ++ r) p = nextL r p := by
  induction l with
  | nil => rfl
  | cons a t ih =>
    have ha := h a (by simp)
    rw [List.cons_append, nextL, if_neg (by omega)]
    exact ih (fun x hx => h x (by simp [hx]))

/-- The last beginning ahead of a place. -/
def backL : List Pc → Int → Nat → Nat
  | [], _, b => b
  | x :: t, p, b => if p ≤ x.fr then b else backL t p x.fr
def lastFr : List Pc → Nat → Nat
  | [], e => e
  | x :: t, _ => lastFr t x.fr
theorem lastFr_snoc : ∀ (l : List Pc) (x : Pc) (e : Nat), lastFr (l ++ [x]) e = x.fr
  | [], _, _ => rfl
  | _ :: t, x, _ => lastFr_snoc t x _

set_option maxHeartbeats 1000000 in
theorem fitting_any (s : ByteArray) (room : Int) (w : World) (T : Tabs w) (h0 : 0 ≤ room) (h1 : room ≤ 9223372036854775807) :
    Calls Tryd.prog 44 #[.string s, .int .i64 room] w fun e w' => e = .returned (.int .i64 (fitL (pcs s) room 0)) ∧ Below w.heap.size w w' := by
  refine (callsIn_wide (n := 3)).1 ?_
  refine callsIn_of_wp_marks Tryd.func44 rfl trivial ?_ rfl
  simp only [Tryd.ntmps44, List.size_toArray, List.length_cons, List.length_nil, Nat.reduceAdd, Nat.reduceSub, Array.replicate_succ, Array.replicate_zero, List.push_toArray, List.append_toArray, List.nil_append, List.cons_append]
  gi_wp2_with fail
  refine ⟨trivial, (callsIn_wide.2 (pieces_any s _)).mono ?_⟩
  rintro e w1 ⟨rfl, rfl⟩
  gi_wp2_with fail
  obtain ⟨W, hW⟩ : ∃ W, W = ((w.alloc (.cells #[.int .i64 room] 3)).alloc (.cells #[.int .i64 0] 3)).alloc (.cells #[.string s] 9) := ⟨_, rfl⟩
  obtain ⟨sW, bW, k0, k1, k2⟩ := boxes3 w (.int .i64 room) (.int .i64 0) (.string s) 3 3 9 W hW
  rw [← hW]
  clear hW
  refine range_p w T (w.heap.size + 2) s (Same.of bW) k2 (fun k => w.heap.size ≤ k ∧ k < w.heap.size + 2) (fun k hk => ⟨hk.1, by omega, by omega, by omega⟩) rfl rfl
    (fun pre V => (Blk V w.heap.size #[.int .i64 (room - sumC pre)] 3 ∧ Blk V (w.heap.size + 1) #[.int .i64 (lastTo pre 0 : Nat)] 3 ∧ Below w.heap.size w V) ∧ (0 ≤ room - sumC pre ∧ ∀ rest, fitL (pre ++ rest) room 0 = fitL rest (room - sumC pre) (lastTo pre 0)))
    (fun c pre V => (Blk V (w.heap.size + 1) #[.int .i64 (fitL pre room 0 : Nat)] 3 ∧ Below w.heap.size w V) ∧ (c = .exit 0 ∧ ∀ rest, fitL (pre ++ rest) room 0 = fitL pre room 0))
    ?hI ?hIx ?hS ?hSx ⟨⟨by simpa [sumC] using k0, k1, bW⟩, by simpa [sumC] using h0, fun rest => by simp [sumC, lastTo]⟩
    (BoxP (w.heap.size + 2) (fun x b => { tmps := #[.string s, .int .i64 room, undef, .pointer (some ⟨w.heap.size, 0, none⟩), .int .i64 0, .pointer (some ⟨w.heap.size + 1, 0, none⟩), .pointer (some ⟨b, 0, none⟩), .string s, .func (.func 54) #[] #[.pointer (some ⟨w.heap.size + 1 + 1, 0, none⟩)], pcV x.fr x.to x.r (width x.r), undef, undef, undef, undef, undef, undef, undef, undef, undef], defers := [] })) (boxP_own _ _ _) ?assign ?body ?done ?stop
  case hI => exact OwnFrom.and (OwnFrom.and (kept_own _ _ _ _) (OwnFrom.and (kept_own _ _ _ _) (ownFrom_below (Nat.le_refl _) (by omega)))) (ownFrom_pure _ _)
  case hIx => exact fun c => OwnFrom.and (OwnFrom.and (kept_own _ _ _ _) (ownFrom_below (Nat.le_refl _) (by omega))) (ownFrom_pure _ _)
  case hS =>
    rintro pre V o v ⟨⟨a0, a1, a2⟩, q⟩
    exact ⟨⟨a0.other _ _ (by simp; omega), a1.other _ _ (by simp; omega), a2.setCell (p := ⟨W.heap.size + 2, o, none⟩) (by simp; omega) _⟩, q⟩
  case hSx =>
    rintro c pre V o v ⟨⟨a1, a2⟩, q⟩
    exact ⟨⟨a1.other _ _ (by simp; omega), a2.setCell (p := ⟨W.heap.size + 2, o, none⟩) (by simp; omega) _⟩, q⟩
  case assign =>
    rintro l pre x V K ⟨⟨a0, a1, a2⟩, q⟩ hz hK
    simp only [pcE]
    gi_wp2
    exact hK _ _ ((KeepsOthers.alloc _ _).from _) (Kept.below ((Below.refl _ V).alloc (Nat.le_refl _) _)) ⟨⟨a0.alloc _, a1.alloc _, a2.alloc a2.size _⟩, q⟩ ⟨V.heap.size, by omega, Blk.new V _ _, rfl⟩
  case body =>
    rintro l pre x a' V ⟨⟨a0, a1, a2⟩, q0, q1⟩ ⟨b, hb, bx, rfl⟩ hlen hz
    have c0 := a0.at1
    have c1 := a1.at1
    obtain ⟨e0, e1, e2, e3⟩ := bx.at4
    have f0 := a0.frozen 0
    have f1 := a1.frozen 0
    obtain ⟨s0, s1⟩ := sumC_range pre
    obtain ⟨w0, w1⟩ := width_range x.r
    have HA : Hid ((Blk V w.heap.size #[.int .i64 (room - sumC pre)] 3 ∧ Blk V (w.heap.size + 1) #[.int .i64 (lastTo pre 0 : Nat)] 3 ∧ Below w.heap.size w V) ∧ (∀ rest, fitL (pre ++ rest) room 0 = fitL rest (room - sumC pre) (lastTo pre 0))) := ⟨⟨a0, a1, a2⟩, q1⟩
    have hne : w.heap.size + 1 ≠ w.heap.size := by omega
    have hbx : b ≠ w.heap.size := by omega
    clear a0 a1 a2 bx hlen q1
    by_cases hlt : room - sumC pre - width x.r < 0
    · gi_wp2
      obtain ⟨⟨a0, a1, a2⟩, q1⟩ := HA.out
      have q2 : ∀ rest, fitL (pre ++ [x] ++ rest) room 0 = lastTo pre 0 := fun rest => by rw [List.append_assoc, q1]; simp [fitL, hlt]
      have q3 : fitL (pre ++ [x]) room 0 = lastTo pre 0 := by have := q2 []; rwa [List.append_nil] at this
      refine ⟨(KeepsOthers.setCell _ _ _).from _, ⟨?_, a2.setCell (p := ⟨w.heap.size, 0, none⟩) (by simp) _⟩, rfl, fun rest => by rw [q2, q3]⟩
      rw [q3]
      exact a1.other _ _ (by simp)
    · gi_wp2
      obtain ⟨⟨a0, a1, a2⟩, q1⟩ := HA.out
      refine ⟨((KeepsOthers.setCell _ _ _).trans (KeepsOthers.setCell _ _ _)).from _, ((Kept.refl _ V).set _ _ _ (by omega)).set _ _ _ (by omega), ⟨?_, ?_, (a2.setCell (p := ⟨w.heap.size, 0, none⟩) (by simp) _).setCell (p := ⟨w.heap.size + 1, 0, none⟩) (by simp) _⟩, ?_, fun rest => ?_⟩
      · rw [sumC_snoc, ← Int.sub_sub]
        exact (a0.put1 _).other _ _ (by simp)
      · rw [lastTo_snoc]
        exact (a1.other ⟨w.heap.size, 0, none⟩ (.int .i64 (room - sumC pre - width x.r)) (by simp)).put1 _
      · rw [sumC_snoc]; omega
      · rw [List.append_assoc, q1, sumC_snoc, lastTo_snoc, ← Int.sub_sub]; simp only [List.cons_append, List.nil_append, fitL, if_neg (show ¬ room - sumC pre - width x.r < 0 by omega)]
  case done =>
    rintro D V hD ⟨⟨a0, a1, a2⟩, q0, q1⟩ hK
    have c1 := a1.at1
    have HA : Hid (Below w.heap.size w V) := a2
    have e := q1 []
    rw [List.append_nil] at e
    have e' : fitL (pcs s) room 0 = lastTo (pcs s) 0 := e
    have HE : Hid (fitL (pcs s) room 0 = lastTo (pcs s) 0) := e'
    clear a0 a1 a2 e e' q1
    gi_wp2
    exact leave1 rfl hK ⟨by rw [HE.out]; rfl, below_left HA.out (by omega) _⟩
  case stop =>
    rintro D c pre V hD ⟨rest, hp⟩ ⟨⟨a1, a2⟩, rfl, q1⟩ hK
    have c1 := a1.at1
    have HA : Hid (Below w.heap.size w V) := a2
    have HE : Hid (fitL (pcs s) room 0 = fitL pre room 0) := by rw [← hp]; exact q1 rest
    clear a1 a2 q1 hp
    gi_wp2
    exact leave1 rfl hK ⟨by rw [HE.out]; rfl, below_left HA.out (by omega) _⟩

/-- What Next, Back answer. -/
def nextN (s : ByteArray) (p : Int) : Int := if p < 0 then 0 else ((nextL (pcs s) p).getD 0 : Nat)
def nextB (s : ByteArray) (p : Int) : Bool := if p < 0 then false else (nextL (pcs s) p).isSome

theorem results_cells {fn : Func} {t u : Tmp} (h : fn.results = #[.cell t 3, .cell u 4]) (tmps : Array Value) (w : World) (b c : Nat) (x : Int) (y : Bool)
    (ht : tmps.getD t undef = .pointer (some ⟨b, 0, none⟩)) (hu : tmps.getD u undef = .pointer (some ⟨c, 0, none⟩)) (hx : w.cell? ⟨b, 0, none⟩ = some (.int .i64 x)) (hy : w.cell? ⟨c, 0, none⟩ = some (.bool y)) :
    (results fn tmps).run Tryd.prog w = .ok (.tuple #[.int .i64 x, .bool y]) w := by
  have h1 : (loadVar 3 ⟨b, 0, none⟩).run Tryd.prog w = .ok (.int .i64 x) w := by simp [go_sem, hx]
  have h2 : (loadVar 4 ⟨c, 0, none⟩).run Tryd.prog w = .ok (.bool y) w := by simp [go_sem, hy]
  simp [results, h, -Array.getD_eq_getD_getElem?, ht, hu, asAddr, Sem.run_bind, h1, h2, Result.andThen]

theorem leave0 {fn : Func} {tmps : Array Value} {R : Ending → World → Prop} {W : World} {v : Value} (h : (results fn tmps).run Tryd.prog W = .ok v W) (hR : R (.returned v) W) :
    bodyPostM Fence.wide 3 Tryd.prog fn R .ret { tmps := tmps, defers := [] } W := ⟨_, h, hR⟩
theorem leaveD {fn : Func} {tmps : Array Value} {R : Ending → World → Prop} {D : Nat} {W : World} {v : Value} (hK : W.heap[D]? = some (.deferred (some [])))
    (h : (results fn tmps).run Tryd.prog (W.putObj D (.deferred none)) = .ok v (W.putObj D (.deferred none))) (hR : R (.returned v) (W.putObj D (.deferred none))) :
    bodyPostM Fence.wide 3 Tryd.prog fn R .ret { tmps := tmps, defers := [{ target := .collected D, args := #[] }] } W := by
  refine ⟨by simp, .inl ⟨_, _, rfl, run_takeDeferred hK, ?_⟩⟩
  exact ⟨_, h, hR⟩
theorem Blk.left {V : World} {b D : Nat} {vs : Array Value} {t : TypeId} (h : Blk V b vs t) (hK : V.heap[D]? = some (.deferred (some []))) (o : Obj) : Blk (V.putObj D o) b vs t :=
  (World.putObj_heap_other (fun e => by subst e; rw [show V.heap[b]? = _ from h] at hK; cases hK)).trans h

set_option maxHeartbeats 1000000 in
theorem next_any (s : ByteArray) (p : Int) (w : World) (T : Tabs w) :
    Calls Tryd.prog 23 #[.string s, .int .i64 p] w fun e w' => e = .returned (.tuple #[.int .i64 (nextN s p), .bool (nextB s p)]) ∧ Below w.heap.size w w' := by
  refine (callsIn_wide (n := 3)).1 ?_
  refine callsIn_of_wp_marks Tryd.func23 rfl trivial ?_ rfl
  simp only [Tryd.ntmps23, List.size_toArray, List.length_cons, List.length_nil, Nat.reduceAdd, Nat.reduceSub, Array.replicate_succ, Array.replicate_zero, List.push_toArray, List.append_toArray, List.nil_append, List.cons_append]
  by_cases hp : p < 0
  · gi_wp2_with fail
    obtain ⟨W, hW⟩ : ∃ W, W = ((w.alloc (.cells #[.int .i64 p] 3)).alloc (.cells #[.int .i64 0] 3)).alloc (.cells #[.bool false] 4) := ⟨_, rfl⟩
    obtain ⟨sW, bW, k0, k1, k2⟩ := boxes3 w (.int .i64 p) (.int .i64 0) (.bool false) 3 3 4 W hW
    rw [← hW]
    exact leave0 (results_cells rfl _ _ _ _ _ _ rfl rfl k1.at1 k2.at1) ⟨by simp [nextN, nextB, hp], bW⟩
  · gi_wp2_with fail
    refine ⟨trivial, (callsIn_wide.2 (pieces_any s _)).mono ?_⟩
    rintro e w1 ⟨rfl, rfl⟩
    gi_wp2_with fail
    obtain ⟨W, hW⟩ : ∃ W, W = (((w.alloc (.cells #[.int .i64 p] 3)).alloc (.cells #[.int .i64 0] 3)).alloc (.cells #[.bool false] 4)).alloc (.cells #[.string s] 9) := ⟨_, rfl⟩
    obtain ⟨sW, bW, k0, k1, k2, k3⟩ := boxes4 w (.int .i64 p) (.int .i64 0) (.bool false) (.string s) 3 3 4 9 W hW
    rw [← hW]
    clear hW
    refine range_p w T (w.heap.size + 3) s (Same.of bW) k3 (fun k => w.heap.size ≤ k ∧ k < w.heap.size + 3) (fun k hk => ⟨hk.1, by omega, by omega, by omega⟩) rfl rfl
      (fun pre V => (Blk V w.heap.size #[.int .i64 p] 3 ∧ Blk V (w.heap.size + 1) #[.int .i64 0] 3 ∧ Blk V (w.heap.size + 2) #[.bool false] 4 ∧ Below w.heap.size w V) ∧ (∀ x ∈ pre, (x.to : Int) ≤ p))
      (fun c pre V => ∃ e : Nat, (Blk V (w.heap.size + 1) #[.int .i64 e] 3 ∧ Blk V (w.heap.size + 2) #[.bool true] 4 ∧ Below w.heap.size w V) ∧ (c = .ret ∧ ∀ rest, nextL (pre ++ rest) p = some e))
      ?hI ?hIx ?hS ?hSx ⟨⟨k0, k1, k2, bW⟩, by simp⟩
      (BoxP (w.heap.size + 3) (fun x b => { tmps := #[.string s, .int .i64 p, undef, .pointer (some ⟨w.heap.size, 0, none⟩), .pointer (some ⟨w.heap.size + 1, 0, none⟩), .pointer (some ⟨w.heap.size + 1 + 1, 0, none⟩), .pointer (some ⟨b, 0, none⟩), .int .i64 p, .bool false, .string s, .func (.func 54) #[] #[.pointer (some ⟨w.heap.size + 1 + 1 + 1, 0, none⟩)], pcV x.fr x.to x.r (width x.r), undef, undef, undef, undef, undef, undef], defers := [] })) (boxP_own _ _ _) ?assign ?body ?done ?stop
    case hI => exact OwnFrom.and (OwnFrom.and (kept_own _ _ _ _) (OwnFrom.and (kept_own _ _ _ _) (OwnFrom.and (kept_own _ _ _ _) (ownFrom_below (Nat.le_refl _) (by omega))))) (ownFrom_pure _ _)
    case hIx =>
      rintro c pre X Y row ⟨e, h, q⟩ hg hr
      have o := OwnFrom.and (kept_own (β := Unit) W.heap.size (w.heap.size + 1) (fun _ => #[.int .i64 e]) 3) (OwnFrom.and (kept_own W.heap.size (w.heap.size + 2) (fun _ => #[.bool true]) 4) (ownFrom_below (w₀ := w) (Nat.le_refl _) (by omega)))
      exact ⟨e, o () X Y row h hg hr, q⟩
    case hS =>
      rintro pre V o v ⟨⟨a0, a1, a2, a3⟩, q⟩
      exact ⟨⟨a0.other _ _ (by simp; omega), a1.other _ _ (by simp; omega), a2.other _ _ (by simp; omega), a3.setCell (p := ⟨W.heap.size + 2, o, none⟩) (by simp; omega) _⟩, q⟩
    case hSx =>
      rintro c pre V o v ⟨e, ⟨a1, a2, a3⟩, q⟩
      exact ⟨e, ⟨a1.other _ _ (by simp; omega), a2.other _ _ (by simp; omega), a3.setCell (p := ⟨W.heap.size + 2, o, none⟩) (by simp; omega) _⟩, q⟩
    case assign =>
      rintro l pre x V K ⟨⟨a0, a1, a2, a3⟩, q⟩ hz hK
      simp only [pcE]
      gi_wp2
      exact hK _ _ ((KeepsOthers.alloc _ _).from _) (Kept.below ((Below.refl _ V).alloc (Nat.le_refl _) _)) ⟨⟨a0.alloc _, a1.alloc _, a2.alloc _, a3.alloc a3.size _⟩, q⟩ ⟨V.heap.size, by omega, Blk.new V _ _, rfl⟩
    case body =>
      rintro l pre x a' V ⟨⟨a0, a1, a2, a3⟩, q⟩ ⟨b, hb, bx, rfl⟩ hlen hz
      have c0 := a0.at1
      have c1 := a1.at1
      have c2 := a2.at1
      obtain ⟨e0, e1, e2, e3⟩ := bx.at4
      have f1 := a1.frozen 0
      have f2 := a2.frozen 0
      have HA : Hid ((Blk V w.heap.size #[.int .i64 p] 3 ∧ Blk V (w.heap.size + 1) #[.int .i64 0] 3 ∧ Blk V (w.heap.size + 2) #[.bool false] 4 ∧ Below w.heap.size w V) ∧ (∀ x ∈ pre, (x.to : Int) ≤ p)) := ⟨⟨a0, a1, a2, a3⟩, q⟩
      clear a0 a1 a2 a3 bx hlen q
      by_cases hlt : p < x.to
      · gi_wp2
        obtain ⟨⟨a0, a1, a2, a3⟩, q⟩ := HA.out
        exact ⟨((KeepsOthers.setCell _ _ _).trans (KeepsOthers.setCell _ _ _)).from _, x.to, ⟨(a1.put1 _).other _ _ (by simp), (a2.other ⟨w.heap.size + 1, 0, none⟩ _ (by simp)).put1 _, (a3.setCell (p := ⟨w.heap.size + 1, 0, none⟩) (by simp) _).setCell (p := ⟨w.heap.size + 2, 0, none⟩) (by simp) _⟩,
          rfl, fun rest => by rw [List.append_assoc, nextL_app _ _ _ q]; simp [nextL, hlt]⟩
      · gi_wp2
        obtain ⟨⟨a0, a1, a2, a3⟩, q⟩ := HA.out
        refine ⟨KeepsFrom.refl _ _, Kept.refl _ _, ⟨a0, a1, a2, a3⟩, fun y hy => ?_⟩
        rw [List.mem_append, List.mem_singleton] at hy
        rcases hy with hy | rfl
        · have := q y hy; omega
        · omega
    case done =>
      rintro D V hD ⟨⟨a0, a1, a2, a3⟩, q⟩ hK
      have c1 := a1.at1
      have c2 := a2.at1
      have f1 := a1.frozen 0
      have f2 := a2.frozen 0
      have HA : Hid ((Blk V (w.heap.size + 1) #[.int .i64 0] 3 ∧ Blk V (w.heap.size + 2) #[.bool false] 4 ∧ Below w.heap.size w V) ∧ nextL (pcs s) p = none) := ⟨⟨a1, a2, a3⟩, by have := nextL_app (pcs s) [] p q; rw [List.append_nil] at this; exact this⟩
      clear a0 a1 a2 a3 q
      gi_wp2
      obtain ⟨⟨a1, a2, a3⟩, q⟩ := HA.out
      have hK1 : ((V.setCell ⟨w.heap.size + 1, 0, none⟩ (.int .i64 0)).setCell ⟨w.heap.size + 2, 0, none⟩ (.bool false)).heap[D]? = some (.deferred (some [])) := same_set (same_set hK (by simp; omega)) (by simp; omega)
      refine leaveD hK1 (results_cells rfl _ _ _ _ _ _ rfl rfl ((((a1.put1 _).other _ _ (by simp)).left hK1 _).at1) ((((a2.other ⟨w.heap.size + 1, 0, none⟩ _ (by simp)).put1 _).left hK1 _).at1)) ⟨?_, below_left ((a3.setCell (p := ⟨w.heap.size + 1, 0, none⟩) (by simp) _).setCell (p := ⟨w.heap.size + 2, 0, none⟩) (by simp) _) (by omega) _⟩
      rw [nextN, nextB, if_neg (by omega), if_neg (by omega), q]; rfl
    case stop =>
      rintro D c pre V hD ⟨rest, hpre⟩ ⟨e, ⟨a1, a2, a3⟩, rfl, q⟩ hK
      have HA : Hid ((Blk V (w.heap.size + 1) #[.int .i64 e] 3 ∧ Blk V (w.heap.size + 2) #[.bool true] 4 ∧ Below w.heap.size w V) ∧ nextL (pcs s) p = some e) := ⟨⟨a1, a2, a3⟩, by rw [← hpre]; exact q rest⟩
      clear a1 a2 a3 q hpre
      gi_wp2
      obtain ⟨⟨a1, a2, a3⟩, q⟩ := HA.out
      refine leaveD hK (results_cells rfl _ _ _ _ _ _ rfl rfl ((a1.left hK _).at1) ((a2.left hK _).at1)) ⟨?_, below_left a3 (by omega) _⟩
      rw [nextN, nextB, if_neg (by omega), if_neg (by omega), q]; rfl

end Go.Proofs.YtlooemhaoikidaaDoor
