/-
  Texts of this claim, one behind the other: what each is about stands ahead of it.
-/
import Derived.Test.YtapachlhdgehjaaGreatDoorK12
import Derived.Test.YtapachlhdgehjaaGreatDoorK11
import Derived.Test.YtapachlhdgehjaaGreatDoorK6
import Derived.Shelf.Strings.Cut
import Derived.Test.YtapachlhdgehjaaGreatDoorProg
/-
  Package cells: drawFill.
-/
namespace Go.Proofs.YtapachlhdgehjaaGreatDoor
open Go.RowKit Go.Shelf
attribute [local go_sem] Oper.semAt_some

theorem ScM.same {lo : Nat} {w w' : World} {g n cap : Nat} {L : List Ce} (h : ScM lo w g n cap L) (e : w'.heap[g]? = w.heap[g]?) : ScM lo w' g n cap L := by
  refine ⟨h.1, h.2.1, ?_⟩
  rcases h.2.2 with ⟨h1, h2⟩ | ⟨g', cap', cur, h1, hb, hc, h2⟩
  · exact .inl ⟨h1, h2⟩
  · refine .inr ⟨g', cap', cur, h1, hb, ?_, h2⟩
    have : g' = g := by
      injection h1 with h1 _ _
      injection h1 with h1
      injection h1 with h1 _ _
      exact h1.symm
    subst this
    rw [e]
    exact hc
def filC (c : Co) : Nat → Ce → Ce := if c.a = 255 then fun _ _ => ⟨32, coZ, c, false, false⟩ else tinC c
structure FiM (w : World) (lo g n cap bt : Nat) (s : St) (L : List Ce) (V : World) : Prop where
  m : ScM lo V g n cap L
  d : w.grownBy V (some g)
  k : Blk V bt (#[.int .u8 s.k, .int .i64 s.r.x, .int .i64 s.r.y, .int .i64 s.r.w, .int .i64 s.r.h, .int .u8 s.c.r, .int .u8 s.c.g, .int .u8 s.c.b, .int .u8 s.c.a, .int .u8 s.b.r, .int .u8 s.b.g, .int .u8 s.b.b, .int .u8 s.b.a, .string s.t, .int .i64 s.n]) 55
theorem FiM.own {w : World} {lo g n cap bt D : Nat} {s : St} {β : Type} (L : β → List Ce) (hD : w.heap.size ≤ D) (hb : bt < D) (hg : g < D) : OwnFrom D (fun x V => FiM w lo g n cap bt s (L x) V) := by
  intro x X Y row h gr hr
  have hne : ∀ b, b < D → row ≠ some b := fun b hb e => by
    obtain ⟨h1, _⟩ := hr b e
    omega
  have hs : ∀ b, b < D → b < X.heap.size → Y.heap[b]? = X.heap[b]? := fun b hb hl => gr.block b hl (fun e => hne b hb e.symm)
  refine ⟨h.m.same (hs g hg h.m.lt.2), ?_, (hs bt hb h.k.lt).trans h.k⟩
  have d := h.d
  exact ⟨gr.os.trans d.os, gr.tape.trans d.tape, gr.output.trans d.output, Nat.le_trans d.size gr.size, fun b hb hr' => (hs b (by omega) (Nat.lt_of_lt_of_le hb d.size)).trans (d.block b hb hr')⟩
theorem FiM.set {w : World} {lo g n cap bt ob : Nat} {s : St} {L : List Ce} {V : World} (h : FiM w lo g n cap bt s L V) (h1 : ob ≠ g) (h2 : ob ≠ bt) (h3 : w.heap.size ≤ ob) (o : Nat) (v : Value) : FiM w lo g n cap bt s L (V.setCell ⟨ob, o, none⟩ v) := by
  have e : ∀ b, b ≠ ob → (V.setCell ⟨ob, o, none⟩ v).heap[b]? = V.heap[b]? := fun b hb => Below.heap_setCell _ _ _ b hb
  have d := h.d
  have hsz : V.heap.size ≤ (V.setCell ⟨ob, o, none⟩ v).heap.size := ((Below.refl 0 V).setCell (p := ⟨ob, o, none⟩) (Nat.zero_le _) v).size
  exact ⟨h.m.same (e g (Ne.symm h1)), ⟨d.os, d.tape, d.output, Nat.le_trans d.size hsz, fun b hb hr => (e b (by omega)).trans (d.block b hb hr)⟩, (e bt (Ne.symm h2)).trans h.k⟩

theorem leave0F {fn : Func} {tmps : Array Value} {R : Ending → World → Prop} {W : World} {v : Value} (h : (results fn tmps).run Tryz.prog W = .ok v W) (hR : R (.returned v) W) :
    bodyPostM Fence.wide 3 Tryz.prog fn R .ret { tmps := tmps, defers := [] } W := ⟨_, h, hR⟩
theorem leaveN {fn : Func} {tmps : Array Value} {R : Ending → World → Prop} {D : Nat} {W : World} {v : Value} (hK : W.heap[D]? = some (.deferred (some [])))
    (h : (results fn tmps).run Tryz.prog (W.putObj D (.deferred none)) = .ok v (W.putObj D (.deferred none))) (hR : R (.returned v) (W.putObj D (.deferred none))) :
    bodyPostM Fence.wide 3 Tryz.prog fn R .normal { tmps := tmps, defers := [{ target := .collected D, args := #[] }] } W := by
  refine ⟨by simp, .inl ⟨_, _, rfl, run_takeDeferred hK, ?_⟩⟩
  exact ⟨_, h, hR⟩
theorem rwY_step {y hh q : Nat} {pre : List Nat} (h : pre ++ [q] <+: rwY y hh) : q = y + pre.length ∧ pre.length < hh := by
  have hl := h.length_le
  rw [List.length_append, List.length_singleton, show (rwY y hh).length = hh by simp [rwY]] at hl
  have e : (rwY y hh)[pre.length]? = some q := by
    obtain ⟨t, ht⟩ := h
    rw [← ht, List.append_assoc, List.getElem?_append_right (Nat.le_refl _), Nat.sub_self]
    rfl
  have e2 : (rwY y hh)[pre.length]? = some (y + pre.length) := by
    unfold rwY
    rw [List.getElem?_map, List.getElem?_range (by omega)]
    rfl
  rw [e] at e2
  injection e2 with e2
  exact ⟨e2, by omega⟩
theorem row_fit {a b n x m q : Nat} (hN : (n : Int) = a * b) (hx : x + m ≤ a) (hq : q < b) : q * a + x + m ≤ n := by
  rw [← Int.natCast_mul] at hN
  have h2 : n = a * b := Int.ofNat.inj hN
  have h1 : (q + 1) * a ≤ b * a := Nat.mul_le_mul_right a hq
  rw [Nat.add_mul, Nat.one_mul] at h1
  rw [h2, Nat.mul_comm a b]
  omega
theorem wfc_updQ {L : List Ce} (h : WfC L) (a x y m j : Nat) {f : Nat → Ce → Ce} (hf : ∀ k c, c.c.ok ∧ c.b.ok → (f k c).c.ok ∧ (f k c).b.ok) : WfC (updQ L a x y m j f) := by
  intro c hc
  obtain ⟨k, hk, rfl⟩ := List.mem_iff_getElem.1 hc
  simp only [updQ, List.getElem_mapIdx]
  split
  · exact hf _ _ (h _ (List.getElem_mem _))
  · exact h _ (List.getElem_mem _)
theorem coZ_ok : coZ.ok := ⟨⟨by decide, by decide⟩, ⟨by decide, by decide⟩, ⟨by decide, by decide⟩, ⟨by decide, by decide⟩⟩
theorem filC_ok {c : Co} (hc : c.ok) (k : Nat) (d : Ce) (hd : d.c.ok ∧ d.b.ok) : (filC c k d).c.ok ∧ (filC c k d).b.ok := by
  unfold filC
  split
  · exact ⟨coZ_ok, hc⟩
  · exact ⟨over_ok hc hd.1, over_ok hc hd.2⟩

set_option maxRecDepth 20000 in
set_option maxHeartbeats 4000000 in
theorem fillD_any (lo g n cap a b x y m hh : Nat) (L : List Ce) (s : St) (w : World) (h : ScM lo w g n cap L) (hs : szB a b = true) (hN : (n : Int) = a * b) (hm : 0 < m) (hx : x + m ≤ a) (hy : y + hh ≤ b) (hc : s.c.ok) (hL : WfC L) :
    Calls Tryz.prog 61 #[.agg #[.int .i64 (a : Nat), .int .i64 (b : Nat), .slice (some ⟨g, 0, none⟩) n cap], (Value.agg #[.int .u8 s.k, .int .i64 s.r.x, .int .i64 s.r.y, .int .i64 s.r.w, .int .i64 s.r.h, .int .u8 s.c.r, .int .u8 s.c.g, .int .u8 s.c.b, .int .u8 s.c.a, .int .u8 s.b.r, .int .u8 s.b.g, .int .u8 s.b.b, .int .u8 s.b.a, .string s.t, .int .i64 s.n]), .agg #[.int .i64 (x : Nat), .int .i64 (y : Nat), .int .i64 (m : Nat), .int .i64 (hh : Nat)]] w fun e w' => e = .returned (.tuple #[]) ∧ ScM lo w' g n cap (if s.c.a = 0 then L else updQ L a x y m hh (filC s.c)) ∧ w.grownBy w' (some g) := by
  refine (callsIn_wide (n := 3)).1 ?_
  refine callsIn_of_wp_marks Tryz.func61 rfl trivial ?_ rfl
  simp only [Tryz.ntmps61, List.size_toArray, List.length_cons, List.length_nil, Nat.reduceAdd, Nat.reduceSub, Array.replicate_succ, Array.replicate_zero, List.push_toArray, List.append_toArray, List.nil_append, List.cons_append]
  have HB0 : Hid (Below w.heap.size w (((w.alloc (.cells #[.int .i64 (a : Nat), .int .i64 (b : Nat), .slice (some ⟨g, 0, none⟩) n cap] 26)).alloc (.cells (#[.int .u8 s.k, .int .i64 s.r.x, .int .i64 s.r.y, .int .i64 s.r.w, .int .i64 s.r.h, .int .u8 s.c.r, .int .u8 s.c.g, .int .u8 s.c.b, .int .u8 s.c.a, .int .u8 s.b.r, .int .u8 s.b.g, .int .u8 s.b.b, .int .u8 s.b.a, .string s.t, .int .i64 s.n]) 55)).alloc (.cells #[.int .i64 (x : Nat), .int .i64 (y : Nat), .int .i64 (m : Nat), .int .i64 (hh : Nat)] 52))) := (((Below.refl _ w).alloc (Nat.le_refl _) _).alloc (by simp) _).alloc (by simp; omega) _
  by_cases h0 : s.c.a = 0
  · rw [if_pos h0]
    have HF : Hid (∀ W, Below w.heap.size w W → ScM lo W g n cap L ∧ w.grownBy W (some g)) := fun W hb => ⟨h.below hb, hb.os, hb.tape, hb.output, hb.size, fun b hb' _ => hb.block b hb'⟩
    have HB : Hid (∀ c d e, Below w.heap.size w (((w.alloc c).alloc d).alloc e)) := fun c d e => (((Below.refl _ w).alloc (Nat.le_refl _) _).alloc (by simp) _).alloc (by simp; omega) _
    clear h
    gi_wp2
    exact leave0F (v := .tuple #[]) (by simp [results, Tryz.results61, go_sem]) ⟨rfl, HF.out _ (HB.out _ _ _)⟩
  · rw [if_neg h0]
    have h00 : (s.c.a == 0) = false := by simpa using h0
    have H0 : Hid (s.c.a ≠ 0) := h0
    clear h0
    gi_wp2_with fail
    refine ⟨trivial, (callsIn_wide.2 (rows_any _ _ _ _ _ _ _ _ _ _ rfl _)).mono ?_⟩
    rintro e w3 ⟨rfl, rfl⟩
    gi_wp2_with fail
    obtain ⟨W, hW⟩ : ∃ W, W = ((((w.alloc (.cells #[.int .i64 (a : Nat), .int .i64 (b : Nat), .slice (some ⟨g, 0, none⟩) n cap] 26)).alloc (.cells (#[.int .u8 s.k, .int .i64 s.r.x, .int .i64 s.r.y, .int .i64 s.r.w, .int .i64 s.r.h, .int .u8 s.c.r, .int .u8 s.c.g, .int .u8 s.c.b, .int .u8 s.c.a, .int .u8 s.b.r, .int .u8 s.b.g, .int .u8 s.b.b, .int .u8 s.b.a, .string s.t, .int .i64 s.n]) 55)).alloc (.cells #[.int .i64 (x : Nat), .int .i64 (y : Nat), .int .i64 (m : Nat), .int .i64 (hh : Nat)] 52)).alloc (.cells #[.int .i64 (a : Nat), .int .i64 (b : Nat), .slice (some ⟨g, 0, none⟩) n cap] 26)).alloc (.cells #[.int .i64 (x : Nat), .int .i64 (y : Nat), .int .i64 (m : Nat), .int .i64 (hh : Nat)] 52) := ⟨_, rfl⟩
    have sW : W.heap.size = w.heap.size + 5 := by rw [hW]; simp
    have H3 : Hid (FiM w lo g n cap (w.heap.size + 1) s (updQ L a x y m 0 (filC s.c)) W ∧ Blk W (w.heap.size + 1 + 1 + 1 + 1) #[.int .i64 (x : Nat), .int .i64 (y : Nat), .int .i64 (m : Nat), .int .i64 (hh : Nat)] 52 ∧ Blk W (w.heap.size + 1 + 1 + 1) #[.int .i64 (a : Nat), .int .i64 (b : Nat), .slice (some ⟨g, 0, none⟩) n cap] 26) := by
      have k2 := Blk.new (w.alloc (.cells #[.int .i64 (a : Nat), .int .i64 (b : Nat), .slice (some ⟨g, 0, none⟩) n cap] 26)) (#[.int .u8 s.k, .int .i64 s.r.x, .int .i64 s.r.y, .int .i64 s.r.w, .int .i64 s.r.h, .int .u8 s.c.r, .int .u8 s.c.g, .int .u8 s.c.b, .int .u8 s.c.a, .int .u8 s.b.r, .int .u8 s.b.g, .int .u8 s.b.b, .int .u8 s.b.a, .string s.t, .int .i64 s.n]) 55
      have k4 := Blk.new (((w.alloc (.cells #[.int .i64 (a : Nat), .int .i64 (b : Nat), .slice (some ⟨g, 0, none⟩) n cap] 26)).alloc (.cells (#[.int .u8 s.k, .int .i64 s.r.x, .int .i64 s.r.y, .int .i64 s.r.w, .int .i64 s.r.h, .int .u8 s.c.r, .int .u8 s.c.g, .int .u8 s.c.b, .int .u8 s.c.a, .int .u8 s.b.r, .int .u8 s.b.g, .int .u8 s.b.b, .int .u8 s.b.a, .string s.t, .int .i64 s.n]) 55)).alloc (.cells #[.int .i64 (x : Nat), .int .i64 (y : Nat), .int .i64 (m : Nat), .int .i64 (hh : Nat)] 52)) #[.int .i64 (a : Nat), .int .i64 (b : Nat), .slice (some ⟨g, 0, none⟩) n cap] 26
      have k5 := Blk.new ((((w.alloc (.cells #[.int .i64 (a : Nat), .int .i64 (b : Nat), .slice (some ⟨g, 0, none⟩) n cap] 26)).alloc (.cells (#[.int .u8 s.k, .int .i64 s.r.x, .int .i64 s.r.y, .int .i64 s.r.w, .int .i64 s.r.h, .int .u8 s.c.r, .int .u8 s.c.g, .int .u8 s.c.b, .int .u8 s.c.a, .int .u8 s.b.r, .int .u8 s.b.g, .int .u8 s.b.b, .int .u8 s.b.a, .string s.t, .int .i64 s.n]) 55)).alloc (.cells #[.int .i64 (x : Nat), .int .i64 (y : Nat), .int .i64 (m : Nat), .int .i64 (hh : Nat)] 52)).alloc (.cells #[.int .i64 (a : Nat), .int .i64 (b : Nat), .slice (some ⟨g, 0, none⟩) n cap] 26)) #[.int .i64 (x : Nat), .int .i64 (y : Nat), .int .i64 (m : Nat), .int .i64 (hh : Nat)] 52
      simp only [World.size_alloc] at k2 k4 k5
      have hb : Below w.heap.size w (((((w.alloc (.cells #[.int .i64 (a : Nat), .int .i64 (b : Nat), .slice (some ⟨g, 0, none⟩) n cap] 26)).alloc (.cells (#[.int .u8 s.k, .int .i64 s.r.x, .int .i64 s.r.y, .int .i64 s.r.w, .int .i64 s.r.h, .int .u8 s.c.r, .int .u8 s.c.g, .int .u8 s.c.b, .int .u8 s.c.a, .int .u8 s.b.r, .int .u8 s.b.g, .int .u8 s.b.b, .int .u8 s.b.a, .string s.t, .int .i64 s.n]) 55)).alloc (.cells #[.int .i64 (x : Nat), .int .i64 (y : Nat), .int .i64 (m : Nat), .int .i64 (hh : Nat)] 52)).alloc (.cells #[.int .i64 (a : Nat), .int .i64 (b : Nat), .slice (some ⟨g, 0, none⟩) n cap] 26)).alloc (.cells #[.int .i64 (x : Nat), .int .i64 (y : Nat), .int .i64 (m : Nat), .int .i64 (hh : Nat)] 52)) := (HB0.out.alloc HB0.out.size _).alloc (by simp; omega) _
      rw [updQ_zero, hW]
      exact ⟨⟨h.below hb, ⟨hb.os, hb.tape, hb.output, hb.size, fun b hb' _ => hb.block b hb'⟩, ((k2.alloc _).alloc _).alloc _⟩, k5, k4.alloc _⟩
    have hg := h.lt
    have hcap := h.cap
    have hLn := h.1
    rw [← hW]
    clear hW HB0
    refine range_d (n := 3) (w := W) rfl (by omega) (gf := 125) (lb := #[.pointer (some ⟨w.heap.size + 1 + 1 + 1 + 1, 0, none⟩), .pointer (some ⟨w.heap.size + 1 + 1 + 1, 0, none⟩)]) rfl trivial (enters_of Tryz.func125 (by kernel_rfl) rfl) (ob := w.heap.size + 1 + 1 + 1 + 1) (by omega) (by omega)
      (rows_seq 2 (w.heap.size + 1 + 1 + 1 + 1) (w.heap.size + 1 + 1 + 1) g a b x y m hh n cap W H3.out.2.1 H3.out.2.2 hs hN hcap hm hx hy) (fun h k => h.trans k) (fun W' l' o' o'' hl' _ _ _ => KpB.put (by omega) (by omega)) (fun _ => rfl)
      (fun pre V => FiM w lo g n cap (w.heap.size + 1) s (updQ L a x y m pre.length (filC s.c)) V) (fun _ _ _ => False)
      ?hI (fun _ _ _ _ _ h _ _ => h) ?hS (fun _ _ _ _ _ h => h) H3.out.1
      (fun q a' _ => a' = { tmps := #[.agg #[.int .i64 (a : Nat), .int .i64 (b : Nat), .slice (some ⟨g, 0, none⟩) n cap], (Value.agg #[.int .u8 s.k, .int .i64 s.r.x, .int .i64 s.r.y, .int .i64 s.r.w, .int .i64 s.r.h, .int .u8 s.c.r, .int .u8 s.c.g, .int .u8 s.c.b, .int .u8 s.c.a, .int .u8 s.b.r, .int .u8 s.b.g, .int .u8 s.b.b, .int .u8 s.b.a, .string s.t, .int .i64 s.n]), .agg #[.int .i64 (x : Nat), .int .i64 (y : Nat), .int .i64 (m : Nat), .int .i64 (hh : Nat)], .pointer (some ⟨w.heap.size, 0, none⟩), .pointer (some ⟨w.heap.size + 1, 0, none⟩), .pointer (some ⟨w.heap.size + 1 + 1, 0, none⟩), undef, .slice (some ⟨g, (q * a + x) * 11, none⟩) m (cap - (q * a + x)), .pointer (some ⟨w.heap.size + 1, 5, none⟩), .pointer (some ⟨w.heap.size + 1, 8, none⟩), .int .u8 s.c.a, .bool false, .agg #[.int .i64 (a : Nat), .int .i64 (b : Nat), .slice (some ⟨g, 0, none⟩) n cap], .agg #[.int .i64 (x : Nat), .int .i64 (y : Nat), .int .i64 (m : Nat), .int .i64 (hh : Nat)], .func (.func 125) #[] #[.pointer (some ⟨w.heap.size + 1 + 1 + 1 + 1, 0, none⟩), .pointer (some ⟨w.heap.size + 1 + 1 + 1, 0, none⟩)], .int .i64 (q : Nat), .slice (some ⟨g, (q * a + x) * 11, none⟩) m (cap - (q * a + x)), undef, undef, undef, undef, undef, undef, undef, undef, undef, undef, undef, undef], defers := [] }) (fun q a' => ?hAx) ?assign ?body ?done (fun _ _ _ _ _ _ h _ => h.elim)
    case hI => rw [sW]; exact FiM.own (fun pre : List Nat => updQ L a x y m pre.length (filC s.c)) (by omega) (by omega) (by omega)
    case hS => exact fun pre V o v hV => hV.set (by omega) (by omega) (by omega) o v
    case hAx => exact ownFrom_pure _ _
    case assign =>
      intro lp pre q V K hi hz hK
      simp only [prR]
      gi_wp2
      exact hK _ _ ((KeepsOthers.refl _).from _) (KpB.refl _ _ _) hi rfl
    case body =>
      rintro lp pre q a' V HP rfl hlen hz
      obtain ⟨hq, hpl⟩ := rwY_step hlen
      have hfit := row_fit hN hx (show q < b by omega)
      obtain ⟨M, hM⟩ : ∃ M, M = updQ L a x y m pre.length (filC s.c) := ⟨_, rfl⟩
      have hwM : WfC M := by rw [hM]; exact wfc_updQ hL a x y m _ (filC_ok hc)
      rw [← hM] at HP
      have HE : Hid (updR M (q * a + x) m (filC s.c) = updQ L a x y m (pre ++ [q]).length (filC s.c)) := by
        have := updQ_next L (y := y) (j := pre.length) hx (filC s.c)
        rw [← hq, ← hM] at this
        rw [List.length_append, List.length_singleton]
        exact this
      have hn1 : n ≤ 1000000 := by have := (mulB hs).2; omega
      obtain ⟨o, ho⟩ : ∃ o, o = q * a + x := ⟨_, rfl⟩
      rw [← ho] at hfit HE
      have HWi : Hid (∀ c', Calls Tryz.prog 92 #[.slice (some ⟨g, o * 11, none⟩) m c', (Value.agg #[.int .u8 s.c.r, .int .u8 s.c.g, .int .u8 s.c.b, .int .u8 s.c.a])] V fun e w' => e = .returned (.tuple #[]) ∧ ScM lo w' g n cap (updR M o m fun _ _ => (⟨32, coZ, s.c, false, false⟩ : Ce)) ∧ V.grownBy w' (some g)) := fun c' => wipe_any lo g n cap o m c' (o * 11) M s.c V HP.m hfit rfl hn1
      have HTi : Hid (∀ c', Calls Tryz.prog 93 #[.slice (some ⟨g, o * 11, none⟩) m c', (Value.agg #[.int .u8 s.c.r, .int .u8 s.c.g, .int .u8 s.c.b, .int .u8 s.c.a])] V fun e w' => e = .returned (.tuple #[]) ∧ ScM lo w' g n cap (updR M o m (tinC s.c)) ∧ V.grownBy w' (some g)) := fun c' => tint_any lo g n cap o m c' (o * 11) M s.c V HP.m hfit rfl hn1 hc hwM
      have cc := HP.k.cell
      have a5 := cc 5
      have a6 := cc 6
      have a7 := cc 7
      have a8 := cc 8
      simp only [List.getElem?_toArray, List.getElem?_cons_zero, List.getElem?_cons_succ] at a5 a6 a7 a8
      have HF : Hid (∀ V2 f, f = filC s.c → ScM lo V2 g n cap (updR M o m f) → V.grownBy V2 (some g) → KeepsFrom W.heap.size V V2 ∧ KpB (w.heap.size + 1 + 1 + 1 + 1) (w.heap.size + 1 + 1 + 1) V V2 ∧ FiM w lo g n cap (w.heap.size + 1) s (updQ L a x y m (pre ++ [q]).length (filC s.c)) V2) := fun V2 f hf h1 h2 => by
        rw [hf, HE.out] at h1
        have hkl := HP.k.lt
        exact ⟨KeepsFrom.of_grownBy h2 fun j hj => by injection hj with hj; omega, ⟨h2.block _ (by omega) (fun e => by injection e with e; omega), h2.block _ (by omega) (fun e => by injection e with e; omega)⟩, ⟨h1, ob_transC HP.d h2, (h2.block _ hkl (fun e => by injection e with e; omega)).trans HP.k⟩⟩
      rw [← ho]
      have HLt : Hid (w.heap.size + 1 < V.heap.size) := HP.k.lt
      clear hM HP ho hq hlen cc hwM
      cases h255 : s.c.a == 255
      · have hfc : tinC s.c = filC s.c := by unfold filC; rw [if_neg (by simpa using h255)]
        have HFc : Hid (tinC s.c = filC s.c) := hfc
        clear hfc
        gi_wp2_with fail
        refine ⟨trivial, (CallsIn.inRound lp (callsIn_wide.2 (HTi.out _))).mono ?_⟩
        rintro e V2 ⟨rfl, h1, h2⟩
        have HX := HF.out V2 _ HFc.out h1 h2
        have HX2 : Hid (KeepsFrom W.heap.size V V2 ∧ KpB (w.heap.size + 1 + 1 + 1 + 1) (w.heap.size + 1 + 1 + 1) V V2 ∧ FiM w lo g n cap (w.heap.size + 1) s (updQ L a x y m (pre ++ [q]).length (filC s.c)) V2) := HX
        clear HX h1 h2
        gi_wp2
        exact HX2.out
      · have hfc : (fun _ _ => (⟨32, coZ, s.c, false, false⟩ : Ce)) = filC s.c := by unfold filC; rw [if_pos (by simpa using h255)]
        have HFc : Hid ((fun _ _ => (⟨32, coZ, s.c, false, false⟩ : Ce)) = filC s.c) := hfc
        clear hfc
        gi_wp2_with fail
        refine ⟨trivial, (CallsIn.inRound lp (callsIn_wide.2 (HWi.out _))).mono ?_⟩
        rintro e V2 ⟨rfl, h1, h2⟩
        have HX := HF.out V2 _ HFc.out h1 h2
        have HX2 : Hid (KeepsFrom W.heap.size V V2 ∧ KpB (w.heap.size + 1 + 1 + 1 + 1) (w.heap.size + 1 + 1 + 1) V V2 ∧ FiM w lo g n cap (w.heap.size + 1) s (updQ L a x y m (pre ++ [q]).length (filC s.c)) V2) := HX
        clear HX h1 h2
        gi_wp2
        exact HX2.out
    case done =>
      rintro D xs V hD rfl HV hK
      rw [show (rwY y hh).length = hh by simp [rwY]] at HV
      have HF : Hid (FiM w lo g n cap (w.heap.size + 1) s (updQ L a x y m hh (filC s.c)) V) := HV
      clear HV
      gi_wp2
      have d := HF.out.d
      have hne : ∀ b, b ≠ D → (V.putObj D (.deferred none)).heap[b]? = V.heap[b]? := fun b hb => World.putObj_heap_other hb
      refine leaveN hK (by simp [results, Tryz.results61, go_sem]) ⟨rfl, HF.out.m.same (hne g (by omega)), ⟨d.os, d.tape, d.output, Nat.le_trans d.size (by simp [World.putObj]), fun b hb hr => (hne b (by omega)).trans (d.block b hb hr)⟩⟩

end Go.Proofs.YtapachlhdgehjaaGreatDoor

/-
  A line in plain words: what lies of it, place by place; what writing it makes of a piece of a row.
-/
namespace Go.Proofs.YtapachlhdgehjaaGreatDoor
open Go.RowKit

def glR (r : Int) : List Gl := if width r = 2 then [⟨r, true, false⟩, ⟨r, false, true⟩] else if width r = 1 then [⟨r, false, false⟩] else []
def lnF (s : ByteArray) : Nat → Nat → List Gl
  | 0, _ => []
  | f + 1, q => if q < s.size then glR (rn s q) ++ lnF s f (q + sz s q) else []
def lnG (s : ByteArray) : List Gl := lnF s (s.size + 1) 0
def wrtG (c : Ce) (l : Gl) (s : St) : Ce := ⟨l.r, overC s.c (overC s.b c.b), overC s.b c.b, l.wd, l.tl⟩
def wlF (G : List Gl) (s : St) (o : Nat) (p : Int) (k : Nat) (c : Ce) : Ce :=
  match (if p ≤ (k : Int) - o then G[((k : Int) - o - p).toNat]? else none) with
  | none => c
  | some l => wrtG c l s
theorem wl_none {G : List Gl} {s : St} {o k : Nat} {p : Int} {c : Ce} (h : (k : Int) - o < p ∨ p + G.length ≤ (k : Int) - o) : wlF G s o p k c = c := by
  unfold wlF
  rcases h with h | h
  · rw [if_neg (by omega)]
  · split
    · rfl
    · next l e =>
      split at e
      · rw [List.getElem?_eq_none (by omega)] at e
        cases e
      · cases e
theorem wl_snoc {G : List Gl} {l : Gl} {s : St} {o k : Nat} {p : Int} {c : Ce} (h : (k : Int) - o ≠ p + G.length) : wlF (G ++ [l]) s o p k c = wlF G s o p k c := by
  unfold wlF
  by_cases hp : p ≤ (k : Int) - o
  · rw [if_pos hp, if_pos hp]
    by_cases hk : ((k : Int) - o - p).toNat < G.length
    · rw [List.getElem?_append_left hk]
    · rw [List.getElem?_eq_none (by simp; omega), List.getElem?_eq_none (by omega)]
  · rw [if_neg hp, if_neg hp]
theorem wl_last {G : List Gl} {l : Gl} {s : St} {o k : Nat} {p : Int} {c : Ce} (h : (k : Int) - o = p + G.length) : wlF (G ++ [l]) s o p k c = wrtG c l s := by
  unfold wlF
  rw [if_pos (by omega), show ((k : Int) - o - p).toNat = G.length by omega, List.getElem?_append_right (Nat.le_refl _), Nat.sub_self]
  rfl
theorem upd_own (L : List Ce) (o m : Nat) (f : Nat → Ce → Ce) (k : Nat) (h : k < L.length) (hf : f k L[k] = L[k]) : (updR L o m f)[k]'(by rw [updR_len]; exact h) = L[k] := by
  rw [updR_at]
  split
  · exact hf
  · rfl
theorem wl_in {L : List Ce} {G : List Gl} {l : Gl} {s : St} {o m j : Nat} {p : Int} (hj : (j : Int) = p + G.length) (h : j < m) (hL : o + m ≤ L.length) :
    (updR L o m (wlF G s o p)).set (o + j) (wrtG (L[o + j]'(by omega)) l s) = updR L o m (wlF (G ++ [l]) s o p) := by
  apply List.ext_getElem (by rw [List.length_set, updR_len, updR_len])
  intro k h1 h2
  rw [List.getElem_set, updR_at L o m (wlF (G ++ [l]) s o p) k h2]
  by_cases e : o + j = k
  · subst e
    rw [if_pos rfl, if_pos (by omega), wl_last (by omega)]
  · rw [if_neg e, updR_at]
    by_cases c : o ≤ k ∧ k < o + m
    · rw [if_pos c, if_pos c, wl_snoc (by omega)]
    · rw [if_neg c, if_neg c]
theorem wl_out {L : List Ce} {G : List Gl} {l : Gl} {s : St} {o m : Nat} {p : Int} (h : p + G.length < 0 ∨ (m : Int) ≤ p + G.length) : updR L o m (wlF (G ++ [l]) s o p) = updR L o m (wlF G s o p) := by
  apply List.ext_getElem (by rw [updR_len, updR_len])
  intro k h1 h2
  rw [updR_at, updR_at]
  by_cases c : o ≤ k ∧ k < o + m
  · rw [if_pos c, if_pos c, wl_snoc (by omega)]
  · rw [if_neg c, if_neg c]
theorem wl_rest {L : List Ce} {s : St} {o m : Nat} {p : Int} : ∀ (M G : List Gl), (m : Int) ≤ p + G.length → updR L o m (wlF (G ++ M) s o p) = updR L o m (wlF G s o p)
  | [], G, _ => by rw [List.append_nil]
  | l :: M, G, h => by
    rw [List.append_cons, wl_rest M (G ++ [l]) (by simp; omega), wl_out (.inr h)]
theorem wl_zero (L : List Ce) (s : St) (o m : Nat) (p : Int) : updR L o m (wlF [] s o p) = L := by
  apply List.ext_getElem (updR_len _ _ _ _)
  intro k h1 h2
  rw [updR_at]
  split
  · exact wl_none (by simp; omega)
  · rfl

def iPos (w : World) (k : Nat) : Nat := match w.heap[k]? with
  | some (.stringIter _ p) => p
  | _ => 0
theorem iPos_of {w : World} {k p : Nat} {s : ByteArray} (h : w.heap[k]? = some (.stringIter s p)) : iPos w k = p := by unfold iPos; rw [h]
theorem glR_len (r : Int) : (glR r).length = (width r).toNat := by
  have := width_range r
  unfold glR
  by_cases h2 : width r = 2
  · rw [if_pos h2, h2]; rfl
  · by_cases h1 : width r = 1
    · rw [if_neg h2, if_pos h1, h1]; rfl
    · rw [if_neg h2, if_neg h1, show width r = 0 by omega]; rfl
def shpN (r : Int) (j : Nat) : Ce := if j = 0 then shp1 r else shp2 r
theorem shp_gl {r : Int} {j : Nat} (h : j < (glR r).length) (c : Ce) (s : St) : wrtC c (shpN r j) s = wrtG c ((glR r)[j]) s := by
  rw [glR_len] at h
  have := width_range r
  unfold wrtC wrtG shpN
  rcases (show j = 0 ∨ j = 1 by omega) with rfl | rfl
  · rw [if_pos rfl]
    unfold shp1
    by_cases h2 : width r = 2
    · simp [h2, glR]
    · have h1 : width r = 1 := by omega
      simp [h1, glR]
  · have h2 : width r = 2 := by omega
    simp [shp2, h2, glR]
theorem lnF_step {s : ByteArray} {f q : Nat} (h : q < s.size) : lnF s (f + 1) q = glR (rn s q) ++ lnF s f (q + sz s q) := by rw [lnF, if_pos h]
theorem lnF_end {s : ByteArray} {f q : Nat} (h : ¬ q < s.size) : lnF s (f + 1) q = [] := by rw [lnF, if_neg h]

end Go.Proofs.YtapachlhdgehjaaGreatDoor

/-
  DERIVED: THE SHELF's CONTRACTS AT THIS DUMP, IN PLAIN WORDS (tools/lay-plain.mjs out of 'YtapachlhdgehjaaGreatDoorAS.lean', which tools/lay-shelf.mjs wrote): THE SAME DECLARATIONS UNDER THE SAME NAMES: 'import', 'namespace', 'open', 'def', 'theorem' AND NOTHING ELSE: no command of the shelf's: FOR A HAND-IN. Each laying: the table of numbers ('.._ren') and one theorem, a field a fact of the dump's own or the kernel's comparison; each contract: ONE APPLICATION.
-/
namespace Go.Proofs
open Go.Shelf
def Tryz.lays145_ren : Go.Shelf.Ren := ⟨fun | 145 => 97 | 220 => 130 | 219 => 162 | 217 => 171 | 225 => 172 | 224 => 173 | 267 => 174 | 266 => 185 | 314 => 186 | n => n, fun | 9 => 9 | 4 => 4 | 59 => 154 | 3 => 3 | 5 => 5 | 46 => 127 | 146 => 179 | 51 => 178 | n => n, fun | 1 => 6 | n => n⟩
theorem Tryz.lays145 : Go.Proofs.Lays.n145 Tryz.prog Tryz.lays145_ren := {
  mixed := by kernel_rfl
  f145 := Tryz.func97.trans (congrArg some (by kernel_rfl))
  f217 := Tryz.func171.trans (congrArg some (by kernel_rfl))
  f219 := Tryz.func162.trans (congrArg some (by kernel_rfl))
  f220 := Tryz.func130.trans (congrArg some (by kernel_rfl))
  f224 := Tryz.func173.trans (congrArg some (by kernel_rfl))
  f225 := Tryz.func172.trans (congrArg some (by kernel_rfl))
  f266 := Tryz.func185.trans (congrArg some (by kernel_rfl))
  f267 := Tryz.func174.trans (congrArg some (by kernel_rfl))
  f314 := Tryz.func186.trans (congrArg some (by kernel_rfl))
  t3 := Tryz.underlying3
  a3 := Tryz.isAgg3
  z3 := Tryz.sizeOf3
  v3 := Tryz.zeroValue3
  t4 := Tryz.underlying4
  a4 := Tryz.isAgg4
  z4 := Tryz.sizeOf4
  v4 := Tryz.zeroValue4
  t5 := Tryz.underlying5
  a5 := Tryz.isAgg5
  z5 := Tryz.sizeOf5
  v5 := Tryz.zeroValue5
  t9 := Tryz.underlying9
  a9 := Tryz.isAgg9
  z9 := Tryz.sizeOf9
  v9 := Tryz.zeroValue9
  t46 := Tryz.underlying127
  a46 := Tryz.isAgg127
  z46 := Tryz.sizeOf127
  v46 := Tryz.zeroValue127
  t51 := Tryz.underlying178
  a51 := Tryz.isAgg178
  z51 := Tryz.sizeOf178
  v51 := Tryz.zeroValue178
  t59 := Tryz.underlying154
  a59 := Tryz.isAgg154
  z59 := Tryz.sizeOf154
  v59 := Tryz.zeroValue154
  t146 := Tryz.underlying179
  a146 := Tryz.isAgg179
  z146 := Tryz.sizeOf179
  v146 := Tryz.zeroValue179
  g1 := by kernel_rfl }
end Go.Proofs

/-
  A text in plain words: its lines, what lies of it place by place.
-/
namespace Go.Proofs.YtapachlhdgehjaaGreatDoor
open Go.RowKit Go.Shelf

def lnsB : Nat → List UInt8 → List (List UInt8)
  | 0, _ => []
  | f + 1, t => (Lib.cut t [10]).1 :: (if (Lib.cut t [10]).2.2 = true then lnsB f (Lib.cut t [10]).2.1 else [])
def wrP (t : ByteArray) : List (List Gl) := (lnsB (t.size + 1) t.data.toList).map fun l => lnG ⟨l.toArray⟩
def wtF (Ls : List (List Gl)) (s : St) (a k : Nat) (c : Ce) : Ce :=
  match glyA Ls ((k % a : Nat) - s.r.x) ((k / a : Nat) - s.r.y) with
  | none => c
  | some l => wrtG c l s
theorem updR_congr {L : List Ce} {o m : Nat} {f f' : Nat → Ce → Ce} (h : ∀ k c, o ≤ k → k < o + m → f k c = f' k c) : updR L o m f = updR L o m f' := by
  apply List.ext_getElem (by rw [updR_len, updR_len])
  intro k h1 h2
  rw [updR_at, updR_at]
  by_cases c : o ≤ k ∧ k < o + m
  · rw [if_pos c, if_pos c]
    exact h _ _ c.1 c.2
  · rw [if_neg c, if_neg c]
theorem updQ_congr {L : List Ce} {a x y m j : Nat} {f f' : Nat → Ce → Ce} (h : ∀ k c, x ≤ k % a → k % a < x + m → y ≤ k / a → k / a < y + j → f k c = f' k c) : updQ L a x y m j f = updQ L a x y m j f' := by
  apply List.ext_getElem (by rw [updQ_len, updQ_len])
  intro k h1 h2
  simp only [updQ, List.getElem_mapIdx]
  split
  · next c => exact h _ _ c.1 c.2.1 c.2.2.1 c.2.2.2
  · rfl
theorem wt_row {Ls : List (List Gl)} {s : St} {a x m q : Nat} (hx : x + m ≤ a) (hrx : s.r.x ≤ x) (hry : s.r.y ≤ q) {G : List Gl} (hG : Ls[((q : Int) - s.r.y).toNat]? = some G) (k : Nat) (c : Ce) (h1 : q * a + x ≤ k) (h2 : k < q * a + x + m) : wlF G s (q * a + x) (s.r.x - x) k c = wtF Ls s a k c := by
  obtain ⟨e1, e2, e3⟩ := (row_iff hx).1 ⟨h1, h2⟩
  have hd := Nat.div_add_mod k a
  rw [e3, Nat.mul_comm] at hd
  unfold wlF wtF glyA
  rw [e3, hG, if_pos (c := 0 ≤ ((k % a : Nat) : Int) - s.r.x ∧ 0 ≤ (q : Int) - s.r.y) ⟨by omega, by omega⟩, if_pos (by omega)]
  rw [show ((k : Int) - ((q * a + x : Nat) : Int) - (s.r.x - (x : Int))).toNat = (((k % a : Nat) : Int) - s.r.x).toNat by omega]
  rfl
theorem wt_next (L : List Ce) {Ls : List (List Gl)} {s : St} {a x y m j : Nat} (hx : x + m ≤ a) (hrx : s.r.x ≤ x) (hry : s.r.y ≤ (y + j : Nat)) {G : List Gl} (hG : Ls[(((y + j : Nat) : Int) - s.r.y).toNat]? = some G) : updR (updQ L a x y m j (wtF Ls s a)) ((y + j) * a + x) m (wlF G s ((y + j) * a + x) (s.r.x - x)) = updQ L a x y m (j + 1) (wtF Ls s a) := by
  rw [updR_congr (f' := wtF Ls s a) (fun k c h1 h2 => wt_row hx hrx hry hG k c h1 h2), updQ_next L hx]
theorem wt_end (L : List Ce) {Ls : List (List Gl)} {s : St} {a x y m j h : Nat} (hj : j ≤ h) (he : (Ls.length : Int) ≤ (y + j : Nat) - s.r.y) : updQ L a x y m j (wtF Ls s a) = updQ L a x y m h (wtF Ls s a) := by
  apply List.ext_getElem (by rw [updQ_len, updQ_len])
  intro k h1 h2
  simp only [updQ, List.getElem_mapIdx]
  by_cases c : x ≤ k % a ∧ k % a < x + m ∧ y ≤ k / a ∧ k / a < y + j
  · rw [if_pos c, if_pos (by omega)]
  · rw [if_neg c]
    split
    · next d =>
      unfold wtF glyA
      split
      · rfl
      · next l e =>
        split at e
        · rw [List.getElem?_eq_none (l := Ls) (by omega)] at e
          cases e
        · cases e
    · rfl
theorem lnsB_drop : ∀ (f : Nat) (t : List UInt8) (i : Nat), (lnsB (f + 1) t)[i]? = if i = 0 then some (Lib.cut t [10]).1 else if (Lib.cut t [10]).2.2 = true then (lnsB f (Lib.cut t [10]).2.1)[i - 1]? else none
  | f, t, 0 => rfl
  | f, t, i + 1 => by
    rw [if_neg (by omega)]
    show (if (Lib.cut t [10]).2.2 = true then lnsB f (Lib.cut t [10]).2.1 else [])[i]? = _
    split <;> rfl

end Go.Proofs.YtapachlhdgehjaaGreatDoor
