/-
  The contract of runes.Word.
-/
import Derived.Test.YtlooemhaoikidaaDoorRN
import Derived.Test.YtlooemhaoikidaaDoorRK
namespace Go.Proofs.YtlooemhaoikidaaDoor
open Go.RowKit Go.Shelf
attribute [local go_sem] Oper.semAt_some

/-- The end of the word that goes on from a place; whether there is one. -/
def wordL : List Pc → Int → Nat → Int → Nat × Bool
  | [], _, e, _ => (e, decide (0 < e))
  | x :: t, p, e, k => if (x.to : Int) ≤ p then wordL t p e k else if e = 0 then wordL t p x.to (kindI x.r) else if kindI x.r = k then wordL t p x.to k else (e, true)
def wordA (s : ByteArray) (p : Int) : Nat × Bool := if p < 0 then (0, false) else wordL (pcs s) p 0 0


theorem _root_.Go.KeepsFrom.ahead {B : Nat} {W A C : World} (h : KeepsFrom B A C) (hb : Below W.heap.size W A) : KeepsFrom B W C :=
  ⟨Nat.le_trans hb.size h.size, fun k o hk e ho => h.same k o hk ((hb.block k (Array.getElem?_eq_some_iff.1 e).1).trans e) ho⟩

set_option maxHeartbeats 1000000 in
theorem word_any (s : ByteArray) (p : Int) (w : World) (T : Tabs w) (U : TabsU w) :
    Calls Tryd.prog 27 #[.string s, .int .i64 p] w fun e w' => e = .returned (.tuple #[.int .i64 (wordA s p).1, .bool (wordA s p).2]) ∧ Below w.heap.size w w' := by
  refine (callsIn_wide (n := 3)).1 ?_
  refine callsIn_of_wp_marks Tryd.func27 rfl trivial ?_ rfl
  simp only [Tryd.ntmps27, List.size_toArray, List.length_cons, List.length_nil, Nat.reduceAdd, Nat.reduceSub, Array.replicate_succ, Array.replicate_zero, List.push_toArray, List.append_toArray, List.nil_append, List.cons_append]
  by_cases hp : p < 0
  · gi_wp2
    obtain ⟨W, hW⟩ : ∃ W, W = ((w.alloc (.cells #[.int .i64 p] 3)).alloc (.cells #[.int .i64 0] 3)).alloc (.cells #[.bool false] 4) := ⟨_, rfl⟩
    obtain ⟨sW, bW, k0, k1, k2⟩ := boxes3 w (.int .i64 p) (.int .i64 0) (.bool false) 3 3 4 W hW
    rw [← hW]
    exact leave0 (results_cells rfl _ _ _ _ _ _ rfl rfl k1.at1 k2.at1) ⟨by simp [wordA, hp], bW⟩
  gi_wp2_with fail
  refine ⟨trivial, (callsIn_wide.2 (pieces_any s _)).mono ?_⟩
  rintro e w1 ⟨rfl, rfl⟩
  gi_wp2_with fail
  obtain ⟨W, hW⟩ : ∃ W, W = (((((w.alloc (.cells #[.int .i64 p] 3)).alloc (.cells #[.int .i64 0] 3)).alloc (.cells #[.bool false] 4)).alloc (.cells #[.int .i64 0] 3)).alloc (.cells #[.int .i64 0] 3)).alloc (.cells #[.string s] 9) := ⟨_, rfl⟩
  obtain ⟨sW, bW, k0, k1, k2, k3, k4, k5⟩ := boxes6 w (.int .i64 p) (.int .i64 0) (.bool false) (.int .i64 0) (.int .i64 0) (.string s) 3 3 4 3 3 9 W hW
  rw [← hW]
  clear hW
  refine range_p w T (w.heap.size + 5) s (Same.of bW) k5 (fun k => w.heap.size ≤ k ∧ k < w.heap.size + 5) (fun k hk => ⟨hk.1, by omega, by omega, by omega⟩) rfl rfl
    (fun pre V => ∃ (e : Nat) (k : Int), (Blk V w.heap.size #[.int .i64 p] 3 ∧ Blk V (w.heap.size + 1) #[.int .i64 0] 3 ∧ Blk V (w.heap.size + 2) #[.bool false] 4 ∧ Blk V (w.heap.size + 3) #[.int .i64 e] 3 ∧ Blk V (w.heap.size + 4) #[.int .i64 k] 3 ∧ Below w.heap.size w V) ∧ (∀ rest, wordL (pre ++ rest) p 0 0 = wordL rest p e k))
    (fun c pre V => ∃ e : Nat, (Blk V (w.heap.size + 1) #[.int .i64 e] 3 ∧ Blk V (w.heap.size + 2) #[.bool true] 4 ∧ Below w.heap.size w V) ∧ (c = .ret ∧ ∀ rest, wordL (pre ++ rest) p 0 0 = (e, true)))
    ?hI ?hIx ?hS ?hSx ⟨0, 0, ⟨k0, k1, k2, k3, k4, bW⟩, fun rest => by simp⟩
    (BoxP (w.heap.size + 5) (fun x b => { tmps := #[.string s, .int .i64 p, undef, .pointer (some ⟨w.heap.size, 0, none⟩), .pointer (some ⟨w.heap.size + 1, 0, none⟩), .pointer (some ⟨w.heap.size + 1 + 1, 0, none⟩), .pointer (some ⟨w.heap.size + 1 + 1 + 1, 0, none⟩), .pointer (some ⟨w.heap.size + 1 + 1 + 1 + 1, 0, none⟩), .pointer (some ⟨b, 0, none⟩), .int .i64 p, .bool false, .string s, .func (.func 54) #[] #[.pointer (some ⟨w.heap.size + 1 + 1 + 1 + 1 + 1, 0, none⟩)], pcV x.fr x.to x.r (width x.r),
      undef, undef, undef, undef, undef, undef, undef, undef, undef, undef, undef, undef, undef, undef, undef, undef, undef, undef, undef, undef, undef, undef, undef], defers := [] })) (boxP_own _ _ _) ?assign ?body ?done ?stop
  case hI =>
    rintro pre X Y row ⟨e, k, h, q⟩ hg hr
    have o := OwnFrom.and (kept_own (β := Unit) W.heap.size w.heap.size (fun _ => #[.int .i64 p]) 3) (OwnFrom.and (kept_own W.heap.size (w.heap.size + 1) (fun _ => #[.int .i64 0]) 3) (OwnFrom.and (kept_own W.heap.size (w.heap.size + 2) (fun _ => #[.bool false]) 4) (OwnFrom.and (kept_own W.heap.size (w.heap.size + 3) (fun _ => #[.int .i64 e]) 3) (OwnFrom.and (kept_own W.heap.size (w.heap.size + 4) (fun _ => #[.int .i64 k]) 3) (ownFrom_below (w₀ := w) (Nat.le_refl _) (by omega))))))
    exact ⟨e, k, o () X Y row h hg hr, q⟩
  case hIx =>
    rintro c pre X Y row ⟨e, h, q⟩ hg hr
    have o := OwnFrom.and (kept_own (β := Unit) W.heap.size (w.heap.size + 1) (fun _ => #[.int .i64 e]) 3) (OwnFrom.and (kept_own W.heap.size (w.heap.size + 2) (fun _ => #[.bool true]) 4) (ownFrom_below (w₀ := w) (Nat.le_refl _) (by omega)))
    exact ⟨e, o () X Y row h hg hr, q⟩
  case hS =>
    rintro pre V o v ⟨e, k, ⟨a0, a1, a2, a3, a4, a5⟩, q⟩
    exact ⟨e, k, ⟨a0.other _ _ (by simp; omega), a1.other _ _ (by simp; omega), a2.other _ _ (by simp; omega), a3.other _ _ (by simp; omega), a4.other _ _ (by simp; omega), a5.setCell (p := ⟨W.heap.size + 2, o, none⟩) (by simp; omega) _⟩, q⟩
  case hSx =>
    rintro c pre V o v ⟨e, ⟨a1, a2, a3⟩, q⟩
    exact ⟨e, ⟨a1.other _ _ (by simp; omega), a2.other _ _ (by simp; omega), a3.setCell (p := ⟨W.heap.size + 2, o, none⟩) (by simp; omega) _⟩, q⟩
  case assign =>
    rintro l pre x V K ⟨e, k, ⟨a0, a1, a2, a3, a4, a5⟩, q⟩ hz hK
    simp only [pcE]
    gi_wp2
    exact hK _ _ ((KeepsOthers.alloc _ _).from _) (Kept.below ((Below.refl _ V).alloc (Nat.le_refl _) _)) ⟨e, k, ⟨a0.alloc _, a1.alloc _, a2.alloc _, a3.alloc _, a4.alloc _, a5.alloc a5.size _⟩, q⟩ ⟨V.heap.size, by omega, Blk.new V _ _, rfl⟩
  case body =>
    rintro l pre x a' V ⟨e, k, ⟨a0, a1, a2, a3, a4, a5⟩, q⟩ ⟨b, hb, bx, rfl⟩ hok hz
    have hr := rune_in hok
    have c0 := a0.at1
    have c1 := a1.at1
    have c2 := a2.at1
    have c3 := a3.at1
    have c4 := a4.at1
    obtain ⟨e0, e1, e2, e3⟩ := bx.at4
    have f1 := a1.frozen 0
    have f2 := a2.frozen 0
    have f3 := a3.frozen 0
    have f4 := a4.frozen 0
    have HA : Hid ((Blk V w.heap.size #[.int .i64 p] 3 ∧ Blk V (w.heap.size + 1) #[.int .i64 0] 3 ∧ Blk V (w.heap.size + 2) #[.bool false] 4 ∧ Blk V (w.heap.size + 3) #[.int .i64 e] 3 ∧ Blk V (w.heap.size + 4) #[.int .i64 k] 3 ∧ Below w.heap.size w V) ∧ (∀ rest, wordL (pre ++ rest) p 0 0 = wordL rest p e k) ∧ Blk V b #[.int .i64 x.fr, .int .i64 x.to, .int .i32 x.r, .int .i64 (width x.r)] 47) := ⟨⟨a0, a1, a2, a3, a4, a5⟩, q, bx⟩
    have HF : Hid (∀ w', Below V.drew.heap.size V.drew w' → w'.cell? ⟨b, 1, none⟩ = some (.int .i64 x.to) ∧ w'.cell? ⟨w.heap.size + 3, 0, none⟩ = some (.int .i64 e) ∧ w'.cell? ⟨w.heap.size + 4, 0, none⟩ = some (.int .i64 k) ∧ w'.frozen? ⟨w.heap.size + 3, 0, none⟩ = false ∧ w'.frozen? ⟨w.heap.size + 4, 0, none⟩ = false ∧ w'.frozen? ⟨w.heap.size + 1, 0, none⟩ = false ∧ w'.frozen? ⟨w.heap.size + 2, 0, none⟩ = false ∧ w'.cell? ⟨w.heap.size + 1, 0, none⟩ = some (.int .i64 0) ∧ w'.cell? ⟨w.heap.size + 2, 0, none⟩ = some (.bool false)) := by
      intro w' hb
      have hb' : Below V.heap.size V w' := ⟨hb.os, hb.tape, hb.output, hb.size, hb.block⟩
      exact ⟨(bx.below hb').at4.2.1, (a3.below hb').at1, (a4.below hb').at1, (a3.below hb').frozen 0, (a4.below hb').frozen 0, (a1.below hb').frozen 0, (a2.below hb').frozen 0, (a1.below hb').at1, (a2.below hb').at1⟩
    have HU : Hid (TabsU V.drew) := (U.below a5 : TabsU V)
    clear a0 a1 a2 a3 a4 a5 bx hok q
    by_cases h1 : (x.to : Int) ≤ p
    · gi_wp2
      obtain ⟨⟨a0, a1, a2, a3, a4, a5⟩, q, bx⟩ := HA.out
      exact ⟨KeepsFrom.refl _ _, Kept.refl _ _, e, k, ⟨a0, a1, a2, a3, a4, a5⟩, fun rest => by rw [List.append_assoc, q]; simp [wordL, h1]⟩
    by_cases h2 : e = 0
    · have h2' : ((e : Int) == 0) = true := by simp [h2]
      have fin : ∀ w', Below V.drew.heap.size V.drew w' → ∀ X, (X = (w'.setCell ⟨w.heap.size + 3, 0, none⟩ (.int .i64 x.to)).setCell ⟨w.heap.size + 4, 0, none⟩ (.int .i64 (kindI x.r)) ∨ X = (w'.setCell ⟨w.heap.size + 4, 0, none⟩ (.int .i64 (kindI x.r))).setCell ⟨w.heap.size + 3, 0, none⟩ (.int .i64 x.to)) →
          KeepsFrom W.heap.size V X ∧ Kept (fun k => w.heap.size ≤ k ∧ k < w.heap.size + 5) V X ∧ ∃ (e : Nat) (k : Int), (Blk X w.heap.size #[.int .i64 p] 3 ∧ Blk X (w.heap.size + 1) #[.int .i64 0] 3 ∧ Blk X (w.heap.size + 2) #[.bool false] 4 ∧ Blk X (w.heap.size + 3) #[.int .i64 e] 3 ∧ Blk X (w.heap.size + 4) #[.int .i64 k] 3 ∧ Below w.heap.size w X) ∧ (∀ rest, wordL (pre ++ [x] ++ rest) p 0 0 = wordL rest p e k) := by
        intro w' hb X hX
        obtain ⟨⟨a0, a1, a2, a3, a4, a5⟩, q, bx⟩ := HA.out
        have hb' : Below V.heap.size V w' := ⟨hb.os, hb.tape, hb.output, hb.size, hb.block⟩
        replace a0 := a0.below hb'
        replace a1 := a1.below hb'
        replace a2 := a2.below hb'
        replace a3 := a3.below hb'
        replace a4 := a4.below hb'
        have b5 := a5.trans (hb'.mono a5.size)
        have hq : ∀ rest, wordL (pre ++ [x] ++ rest) p 0 0 = wordL rest p x.to (kindI x.r) := fun rest => by rw [List.append_assoc, q]; simp [wordL, h1, h2]
        rcases hX with rfl | rfl
        · refine ⟨(((KeepsOthers.setCell _ _ _).trans (KeepsOthers.setCell _ _ _)).from _).ahead hb', (((Kept.below hb').set _ _ _ (by omega)).set _ _ _ (by omega)), x.to, kindI x.r, ⟨?_, ?_, ?_, ?_, ?_, ?_⟩, hq⟩
          · exact (a0.other _ _ (by simp)).other _ _ (by simp)
          · exact (a1.other _ _ (by simp)).other _ _ (by simp)
          · exact (a2.other _ _ (by simp)).other _ _ (by simp)
          · exact (a3.put1 _).other _ _ (by simp)
          · exact (a4.other ⟨w.heap.size + 3, 0, none⟩ _ (by simp)).put1 _
          · exact (b5.setCell (p := ⟨w.heap.size + 3, 0, none⟩) (by simp) _).setCell (p := ⟨w.heap.size + 4, 0, none⟩) (by simp) _
        · refine ⟨(((KeepsOthers.setCell _ _ _).trans (KeepsOthers.setCell _ _ _)).from _).ahead hb', (((Kept.below hb').set _ _ _ (by omega)).set _ _ _ (by omega)), x.to, kindI x.r, ⟨?_, ?_, ?_, ?_, ?_, ?_⟩, hq⟩
          · exact (a0.other _ _ (by simp)).other _ _ (by simp)
          · exact (a1.other _ _ (by simp)).other _ _ (by simp)
          · exact (a2.other _ _ (by simp)).other _ _ (by simp)
          · exact (a3.other ⟨w.heap.size + 4, 0, none⟩ _ (by simp)).put1 _
          · exact (a4.put1 _).other _ _ (by simp)
          · exact (b5.setCell (p := ⟨w.heap.size + 4, 0, none⟩) (by simp) _).setCell (p := ⟨w.heap.size + 3, 0, none⟩) (by simp) _
      have HN : Hid (∀ w', Below V.drew.heap.size V.drew w' → ∀ X, (X = (w'.setCell ⟨w.heap.size + 3, 0, none⟩ (.int .i64 x.to)).setCell ⟨w.heap.size + 4, 0, none⟩ (.int .i64 (kindI x.r)) ∨ X = (w'.setCell ⟨w.heap.size + 4, 0, none⟩ (.int .i64 (kindI x.r))).setCell ⟨w.heap.size + 3, 0, none⟩ (.int .i64 x.to)) →
          KeepsFrom W.heap.size V X ∧ Kept (fun k => w.heap.size ≤ k ∧ k < w.heap.size + 5) V X ∧ ∃ (e : Nat) (k : Int), (Blk X w.heap.size #[.int .i64 p] 3 ∧ Blk X (w.heap.size + 1) #[.int .i64 0] 3 ∧ Blk X (w.heap.size + 2) #[.bool false] 4 ∧ Blk X (w.heap.size + 3) #[.int .i64 e] 3 ∧ Blk X (w.heap.size + 4) #[.int .i64 k] 3 ∧ Below w.heap.size w X) ∧ (∀ rest, wordL (pre ++ [x] ++ rest) p 0 0 = wordL rest p e k)) := fin
      clear h2 fin
      gi_wp2_with fail
      have hmo : Tryd.prog.follows Departure.mixedOrders = true := by kernel_rfl
      gi_region_with_o (refine ⟨trivial, ?_⟩; gi_at_call 49; refine (CallsIn.inRound l (callsIn_wide.2 (kind_any _ _ _ _ _ (by omega) (by omega) HU.out))).mono ?_; rintro e w' ⟨rfl, hb⟩; obtain ⟨g1, g2, g3, g4, g5, g6, g7, g8, g9⟩ := HF.out w' hb)
      all_goals first
        | exact HN.out _ (by assumption) _ (.inl rfl)
        | exact HN.out _ (by assumption) _ (.inr rfl)
    · have h2' : ((e : Int) == 0) = false := by simp [h2]
      have H2 : Hid (¬ e = 0) := h2
      clear h2
      have hmo : Tryd.prog.follows Departure.mixedOrders = true := by kernel_rfl
      cases h3 : (kindI x.r == k)
      · have HN : Hid (∀ w', Below V.drew.heap.size V.drew w' → KeepsFrom W.heap.size V ((w'.setCell ⟨w.heap.size + 1, 0, none⟩ (.int .i64 e)).setCell ⟨w.heap.size + 2, 0, none⟩ (.bool true)) ∧
            ∃ e' : Nat, (Blk ((w'.setCell ⟨w.heap.size + 1, 0, none⟩ (.int .i64 e)).setCell ⟨w.heap.size + 2, 0, none⟩ (.bool true)) (w.heap.size + 1) #[.int .i64 e'] 3 ∧ Blk ((w'.setCell ⟨w.heap.size + 1, 0, none⟩ (.int .i64 e)).setCell ⟨w.heap.size + 2, 0, none⟩ (.bool true)) (w.heap.size + 2) #[.bool true] 4 ∧ Below w.heap.size w ((w'.setCell ⟨w.heap.size + 1, 0, none⟩ (.int .i64 e)).setCell ⟨w.heap.size + 2, 0, none⟩ (.bool true))) ∧ (∀ rest, wordL (pre ++ [x] ++ rest) p 0 0 = (e', true))) := by
          intro w' hb
          obtain ⟨⟨a0, a1, a2, a3, a4, a5⟩, q, bx⟩ := HA.out
          have hb' : Below V.heap.size V w' := ⟨hb.os, hb.tape, hb.output, hb.size, hb.block⟩
          have h2 := H2.out
          have h3' : ¬ kindI x.r = k := by simpa using h3
          exact ⟨(((KeepsOthers.setCell _ _ _).trans (KeepsOthers.setCell _ _ _)).from _).ahead hb', e, ⟨((a1.below hb').put1 _).other _ _ (by simp), ((a2.below hb').other ⟨w.heap.size + 1, 0, none⟩ _ (by simp)).put1 _, ((a5.trans (hb'.mono a5.size)).setCell (p := ⟨w.heap.size + 1, 0, none⟩) (by simp) _).setCell (p := ⟨w.heap.size + 2, 0, none⟩) (by simp) _⟩,
            fun rest => by rw [List.append_assoc, q]; simp only [List.cons_append, List.nil_append, wordL, if_neg h1, if_neg h2, if_neg h3']⟩
        gi_wp2_with fail
        gi_region_with_o (refine ⟨trivial, ?_⟩; gi_at_call 49; refine (CallsIn.inRound l (callsIn_wide.2 (kind_any _ _ _ _ _ (by omega) (by omega) HU.out))).mono ?_; rintro e w' ⟨rfl, hb⟩; obtain ⟨g1, g2, g3, g4, g5, g6, g7, g8, g9⟩ := HF.out w' hb)
        all_goals gi_wp2
        all_goals
          obtain ⟨i1, e', i2, i3⟩ := HN.out _ (by assumption)
          exact ⟨i1, e', i2, rfl, i3⟩
      · have HN : Hid (∀ w', Below V.drew.heap.size V.drew w' → KeepsFrom W.heap.size V (w'.setCell ⟨w.heap.size + 3, 0, none⟩ (.int .i64 x.to)) ∧ Kept (fun k => w.heap.size ≤ k ∧ k < w.heap.size + 5) V (w'.setCell ⟨w.heap.size + 3, 0, none⟩ (.int .i64 x.to)) ∧
            ∃ (e' : Nat) (k' : Int), (Blk (w'.setCell ⟨w.heap.size + 3, 0, none⟩ (.int .i64 x.to)) w.heap.size #[.int .i64 p] 3 ∧ Blk (w'.setCell ⟨w.heap.size + 3, 0, none⟩ (.int .i64 x.to)) (w.heap.size + 1) #[.int .i64 0] 3 ∧ Blk (w'.setCell ⟨w.heap.size + 3, 0, none⟩ (.int .i64 x.to)) (w.heap.size + 2) #[.bool false] 4 ∧ Blk (w'.setCell ⟨w.heap.size + 3, 0, none⟩ (.int .i64 x.to)) (w.heap.size + 3) #[.int .i64 e'] 3 ∧ Blk (w'.setCell ⟨w.heap.size + 3, 0, none⟩ (.int .i64 x.to)) (w.heap.size + 4) #[.int .i64 k'] 3 ∧ Below w.heap.size w (w'.setCell ⟨w.heap.size + 3, 0, none⟩ (.int .i64 x.to))) ∧ (∀ rest, wordL (pre ++ [x] ++ rest) p 0 0 = wordL rest p e' k')) := by
          intro w' hb
          obtain ⟨⟨a0, a1, a2, a3, a4, a5⟩, q, bx⟩ := HA.out
          have hb' : Below V.heap.size V w' := ⟨hb.os, hb.tape, hb.output, hb.size, hb.block⟩
          have h2 := H2.out
          have h3' : kindI x.r = k := by simpa using h3
          exact ⟨((KeepsOthers.setCell _ _ _).from _).ahead hb', (Kept.below hb').set _ _ _ (by omega), x.to, k, ⟨(a0.below hb').other _ _ (by simp), (a1.below hb').other _ _ (by simp), (a2.below hb').other _ _ (by simp), (a3.below hb').put1 _, (a4.below hb').other _ _ (by simp), (a5.trans (hb'.mono a5.size)).setCell (p := ⟨w.heap.size + 3, 0, none⟩) (by simp) _⟩,
            fun rest => by rw [List.append_assoc, q]; simp only [List.cons_append, List.nil_append, wordL, if_neg h1, if_neg h2, if_pos h3']⟩
        gi_wp2_with fail
        gi_region_with_o (refine ⟨trivial, ?_⟩; gi_at_call 49; refine (CallsIn.inRound l (callsIn_wide.2 (kind_any _ _ _ _ _ (by omega) (by omega) HU.out))).mono ?_; rintro e w' ⟨rfl, hb⟩; obtain ⟨g1, g2, g3, g4, g5, g6, g7, g8, g9⟩ := HF.out w' hb)
        all_goals gi_wp2
        all_goals exact HN.out _ (by assumption)
  case done =>
    rintro D V hD ⟨e, k, ⟨a0, a1, a2, a3, a4, a5⟩, q⟩ hK
    have c3 := a3.at1
    have f1 := a1.frozen 0
    have f2 := a2.frozen 0
    have c1 := a1.at1
    have c2 := a2.at1
    have HA : Hid ((Blk V (w.heap.size + 1) #[.int .i64 0] 3 ∧ Blk V (w.heap.size + 2) #[.bool false] 4 ∧ Below w.heap.size w V) ∧ wordL (pcs s) p 0 0 = (e, decide (0 < e))) := ⟨⟨a1, a2, a5⟩, by have := q []; rwa [List.append_nil] at this⟩
    clear a0 a1 a2 a3 a4 a5 q
    gi_wp2
    gi_region
    gi_wp2
    obtain ⟨⟨a1, a2, a5⟩, q⟩ := HA.out
    have hK1 : (((V.setCell ⟨w.heap.size + 1, 0, none⟩ (.int .i64 e)).setCell ⟨w.heap.size + 1 + 1, 0, none⟩ (.bool (decide (0 < e)))).drew).heap[D]? = some (.deferred (some [])) := same_set (same_set hK (by simp; omega)) (by simp; omega)
    have b1 : Blk (((V.setCell ⟨w.heap.size + 1, 0, none⟩ (.int .i64 e)).setCell ⟨w.heap.size + 1 + 1, 0, none⟩ (.bool (decide (0 < e)))).drew) (w.heap.size + 1) #[.int .i64 e] 3 := (a1.put1 _).other _ _ (by simp)
    have b2 : Blk (((V.setCell ⟨w.heap.size + 1, 0, none⟩ (.int .i64 e)).setCell ⟨w.heap.size + 1 + 1, 0, none⟩ (.bool (decide (0 < e)))).drew) (w.heap.size + 2) #[.bool (decide (0 < e))] 4 := (a2.other ⟨w.heap.size + 1, 0, none⟩ _ (by simp)).put1 _
    refine leaveD hK1 (results_cells rfl _ _ _ _ _ _ rfl rfl ((b1.left hK1 _).at1) ((b2.left hK1 _).at1)) ⟨?_, below_left ((a5.setCell (p := ⟨w.heap.size + 1, 0, none⟩) (by simp) _).setCell (p := ⟨w.heap.size + 1 + 1, 0, none⟩) (by simp; omega) _).drew (by omega) _⟩
    rw [wordA, if_neg (by omega), q]
  case stop =>
    rintro D c pre V hD ⟨rest, hpre⟩ ⟨e, ⟨a1, a2, a3⟩, rfl, q⟩ hK
    have HA : Hid ((Blk V (w.heap.size + 1) #[.int .i64 e] 3 ∧ Blk V (w.heap.size + 2) #[.bool true] 4 ∧ Below w.heap.size w V) ∧ wordL (pcs s) p 0 0 = (e, true)) := ⟨⟨a1, a2, a3⟩, by rw [← hpre]; exact q rest⟩
    clear a1 a2 a3 q hpre
    gi_wp2
    obtain ⟨⟨a1, a2, a3⟩, q⟩ := HA.out
    refine leaveD hK (results_cells rfl _ _ _ _ _ _ rfl rfl ((a1.left hK _).at1) ((a2.left hK _).at1)) ⟨?_, below_left a3 (by omega) _⟩
    rw [wordA, if_neg (by omega), q]

end Go.Proofs.YtlooemhaoikidaaDoor
