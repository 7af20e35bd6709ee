/-
  Texts of this claim, one behind the other: what each is about stands ahead of it.
-/
import Derived.Test.YtapachlhdgehjaaGreatDoorK8
/-
  A region that draws its order, by what holds between its operations: each operation is walked once, from whatever has been done before.
-/
namespace Go.Proofs.YtapachlhdgehjaaGreatDoor
open Go.RowKit

def acyB (ops : Array Oper) : Bool := ((List.range ops.size).all fun i => (preds ops i).all fun p => decide (p < i)) && Region.noSelect ops
section
variable {P : Program} {ops : Array Oper} {Q : Exit → Act → World → Prop}

theorem op_step {i : Nat} {o : Oper} {a : Act} {w : World} {K : Act → World → Prop} (ho : ops[i]? = some o) (h : if Region.wanted o (yielded ops a.tmps) = true then Oper.wp P o a w K Q else K (a.put o.dst undef) w) : wpOp P ops Q i K a w := by
  unfold wpOp
  rw [ho]
  show if Region.wanted o (yielded ops a.tmps) = true then _ else _
  by_cases hw : Region.wanted o (yielded ops a.tmps) = true
  · rw [if_pos hw] at h ⊢; exact .inl h
  · rw [if_neg hw] at h ⊢; exact h
theorem wpAny_inv (I : (Nat → Bool) → Act → World → Prop) (acy : acyB ops = true)
    (step : ∀ b a w i o, I b a w → b i = false → ops[i]? = some o → (∀ p ∈ preds ops i, b p = true) → ∀ K' : Act → World → Prop, (∀ a' w', I (fun j => if j = i then true else b j) a' w' → K' a' w') → if Region.wanted o (yielded ops a.tmps) = true then Oper.wp P o a w K' Q else K' (a.put o.dst undef) w)
    (fin : ∀ b a w, I b a w → (∀ i, i < ops.size → b i = true) → Q .normal a w) :
    ∀ (fuel : Nat) (l : Array Bool) (a : Act) (w : World), l.size = ops.size → I (fun j => l.getD j false) a w → left ops.size l ≤ fuel → wpAny P .any ops Q fuel l a w := by
  have hac : ∀ i, i < ops.size → ∀ p ∈ preds ops i, p < i := by
    unfold acyB at acy
    simp only [Bool.and_eq_true, List.all_eq_true, List.mem_range, decide_eq_true_eq] at acy
    exact acy.1
  have hready : ∀ (l : Array Bool) (i : Nat), i ∈ Region.ready .any ops l → l.size = ops.size → i < ops.size ∧ l.getD i false = false ∧ ∃ o, ops[i]? = some o ∧ ∀ p ∈ preds ops i, l.getD p false = true := by
    intro l i hi hs
    obtain ⟨h1, o, ho, h2⟩ := mem_ready.1 hi
    have hlt : i < ops.size := (Array.getElem?_eq_some_iff.1 ho).1
    refine ⟨hlt, ?_, o, ho, fun p hp => ?_⟩
    · have : i < l.size := by rw [hs]; exact hlt
      simp [Array.getD_eq_getD_getElem?, this] at h1 ⊢
      exact h1
    · unfold preds at hp
      rw [ho] at hp
      simp only [List.mem_map, List.mem_filter] at hp
      obtain ⟨e, ⟨he, hb⟩, rfl⟩ := hp
      exact h2 e (by simpa using he) hb
  have hempty : ∀ (l : Array Bool), l.size = ops.size → Region.ready .any ops l = [] → ∀ i, i < ops.size → l.getD i false = true := by
    intro l hs he i
    induction i using Nat.strongRecOn with
    | ind i ih =>
      intro hi
      cases hv : l.getD i false with
      | true => rfl
      | false =>
        exfalso
        refine absurd (mem_ready (md := .any).2 ⟨?_, ?_⟩ : i ∈ Region.ready .any ops l) (by rw [he]; simp)
        · have : i < l.size := by rw [hs]; exact hi
          simp [Array.getD_eq_getD_getElem?, this] at hv ⊢
          exact hv
        · refine ⟨ops[i]'hi, by simp, fun e hem hb => ?_⟩
          have hp : e.on ∈ preds ops i := by
            unfold preds
            rw [show ops[i]? = some (ops[i]'hi) by simp]
            simp only [List.mem_map, List.mem_filter]
            exact ⟨e, ⟨by simpa using hem, hb⟩, rfl⟩
          have hlt := hac i hi _ hp
          exact ih e.on hlt (by omega)
  intro fuel
  induction fuel with
  | zero =>
    intro l a w hs hI hl
    have hall := left_zero (n := ops.size) (l := l) (by omega)
    refine ⟨?_, fin _ a w hI hall⟩
    cases hr : Region.ready .any ops l with
    | nil => rfl
    | cons i rs =>
      have hm : i ∈ Region.ready .any ops l := by rw [hr]; simp
      obtain ⟨h1, h2, _⟩ := hready l i hm hs
      rw [hall i h1] at h2
      cases h2
  | succ fuel ih =>
    intro l a w hs hI hl
    refine ⟨fun he => fin _ a w hI (hempty l hs he), fun i hi => ?_⟩
    obtain ⟨h1, h2, o, ho, h3⟩ := hready l i hi hs
    refine op_step ho (step _ a w i o hI h2 ho h3 _ fun a' w' hI' => ?_)
    have hil : i < l.size := by rw [hs]; exact h1
    refine ih _ a' w' (by simp [hs]) ?_ ?_
    · have e : (fun j => (l.setIfInBounds i true).getD j false) = fun j => if j = i then true else l.getD j false := by
        funext j
        rw [getD_set l i j hil]
        by_cases c : i = j
        · rw [if_pos c, if_pos c.symm]
        · rw [if_neg c, if_neg (fun e => c e.symm)]
      rw [e]
      exact hI'
    · have := left_set ops.size l i h1 hil h2
      omega
theorem wp_region_inv {id : Nat} {a0 : Act} {W : World} {l : List Oper} (I : (Nat → Bool) → Act → World → Prop) (hm : P.follows .mixedOrders = true) (acy : acyB l.toArray = true) (h0 : I (fun _ => false) a0 W.drew)
    (step : ∀ b a w i o, I b a w → b i = false → l.toArray[i]? = some o → (∀ p ∈ preds l.toArray i, b p = true) → ∀ K' : Act → World → Prop, (∀ a' w', I (fun j => if j = i then true else b j) a' w' → K' a' w') → if Region.wanted o (yielded l.toArray a.tmps) = true then Oper.wp P o a w K' Q else K' (a.put o.dst undef) w)
    (fin : ∀ b a w, I b a w → (∀ i, i < l.toArray.size → b i = true) → Q .normal a w) :
    (Code.region id l.toArray true).wp P Q a0 W := by
  refine wp_region_any hm ?_
  refine wpAny_inv I acy step fin _ _ a0 _ (by simp) ?_ ?_
  · have e : (fun j => (Array.replicate l.toArray.size false).getD j false) = fun _ => false := by
      funext k
      simp [Array.getD_eq_getD_getElem?, Array.getElem?_replicate]
      split <;> rfl
    rw [e]
    exact h0
  · unfold left
    exact Nat.le_trans (List.length_filter_le _ _) (by simp)
end

end Go.Proofs.YtapachlhdgehjaaGreatDoor

/-
  Package cells: Blank.
-/
namespace Go.Proofs.YtapachlhdgehjaaGreatDoor
open Go.RowKit

theorem Bk.tyk {w : World} {g : Nat} {cs ds : Array Value} {t t' : TypeId} (h : Bk w g cs t) (k : Bk w g ds t') : t = t' := by
  have := h.symm.trans k
  injection this with this
  injection this with _ h2 _

def JBk (w : World) (sa b2 : Int) (c : Co) (n : Nat) (b : Nat → Bool) (u5 u10 u11 u12 u13 u14 u15 u16 u17 u18 u19 u20 : Value) (x : World) : Prop :=
  (b 0 = true → u10 = .agg #[.int .i64 sa, .int .i64 b2]) ∧
  (b 1 = true → u11 = (Value.agg #[.int .u8 c.r, .int .u8 c.g, .int .u8 c.b, .int .u8 c.a])) ∧
  (b 2 = true → u12 = (Value.agg #[.int .i32 (⟨32, coZ, c, false, false⟩ : Ce).r, .int .u8 (⟨32, coZ, c, false, false⟩ : Ce).c.r, .int .u8 (⟨32, coZ, c, false, false⟩ : Ce).c.g, .int .u8 (⟨32, coZ, c, false, false⟩ : Ce).c.b, .int .u8 (⟨32, coZ, c, false, false⟩ : Ce).c.a, .int .u8 (⟨32, coZ, c, false, false⟩ : Ce).b.r, .int .u8 (⟨32, coZ, c, false, false⟩ : Ce).b.g, .int .u8 (⟨32, coZ, c, false, false⟩ : Ce).b.b, .int .u8 (⟨32, coZ, c, false, false⟩ : Ce).b.a, .bool (⟨32, coZ, c, false, false⟩ : Ce).wd, .bool (⟨32, coZ, c, false, false⟩ : Ce).tl])) ∧
  (b 3 = true → ∃ g, u13 = .slice (some ⟨g, 0, none⟩) 1 1 ∧ w.heap.size ≤ g ∧ Bk x g (#[.int .i32 (⟨32, coZ, c, false, false⟩ : Ce).r, .int .u8 (⟨32, coZ, c, false, false⟩ : Ce).c.r, .int .u8 (⟨32, coZ, c, false, false⟩ : Ce).c.g, .int .u8 (⟨32, coZ, c, false, false⟩ : Ce).c.b, .int .u8 (⟨32, coZ, c, false, false⟩ : Ce).c.a, .int .u8 (⟨32, coZ, c, false, false⟩ : Ce).b.r, .int .u8 (⟨32, coZ, c, false, false⟩ : Ce).b.g, .int .u8 (⟨32, coZ, c, false, false⟩ : Ce).b.b, .int .u8 (⟨32, coZ, c, false, false⟩ : Ce).b.a, .bool (⟨32, coZ, c, false, false⟩ : Ce).wd, .bool (⟨32, coZ, c, false, false⟩ : Ce).tl]) 65) ∧
  (b 4 = true → u14 = .pointer (some ⟨w.heap.size, 0, none⟩)) ∧
  (b 5 = true → u15 = .int .i64 sa) ∧
  (b 6 = true → u16 = .pointer (some ⟨w.heap.size, 1, none⟩)) ∧
  (b 7 = true → u17 = .int .i64 b2) ∧
  (b 8 = true → u18 = .int .i64 (n : Nat)) ∧
  (b 9 = true → ∃ g, u19 = .slice (some ⟨g, 0, none⟩) n n ∧ w.heap.size ≤ g ∧ Bk x g (flatC (List.replicate n (⟨32, coZ, c, false, false⟩ : Ce))).toArray 65) ∧
  (b 10 = true → b 9 = true ∧ u20 = .agg #[.int .i64 sa, .int .i64 b2, u19]) ∧
  (b 12 = true → u5 = .int .i64 0) ∧
  Bk x w.heap.size #[.int .i64 sa, .int .i64 b2] 23 ∧
  Bk x (w.heap.size + 1) #[.int .u8 c.r, .int .u8 c.g, .int .u8 c.b, .int .u8 c.a] 38 ∧
  (b 11 = false → Bk x (w.heap.size + 1 + 1) #[.int .i64 0, .int .i64 0, .slice none 0 0] 26) ∧
  (b 11 = true → b 9 = true ∧ Bk x (w.heap.size + 1 + 1) #[.int .i64 sa, .int .i64 b2, u19] 26) ∧
  Below w.heap.size w x

theorem JBk.bel {w : World} {sa b2 : Int} {c : Co} {n : Nat} {b : Nat → Bool} {u5 u10 u11 u12 u13 u14 u15 u16 u17 u18 u19 u20 : Value} {x : World} (h : JBk w sa b2 c n b u5 u10 u11 u12 u13 u14 u15 u16 u17 u18 u19 u20 x) : Below w.heap.size w x := by
  obtain ⟨j0, j1, j2, j3, j4, j5, j6, j7, j8, j9, j10, j12, e0, e1, e2, e3, e4⟩ := h
  exact e4
theorem JBk.grow {w : World} {sa b2 : Int} {c : Co} {n : Nat} {b : Nat → Bool} {u5 u10 u11 u12 u13 u14 u15 u16 u17 u18 u19 u20 : Value} {x x' : World} (h : JBk w sa b2 c n b u5 u10 u11 u12 u13 u14 u15 u16 u17 u18 u19 u20 x) (hb : Below x.heap.size x x') : JBk w sa b2 c n b u5 u10 u11 u12 u13 u14 u15 u16 u17 u18 u19 u20 x' := by
  obtain ⟨j0, j1, j2, j3, j4, j5, j6, j7, j8, j9, j10, j12, e0, e1, e2, e3, e4⟩ := h
  exact ⟨j0, j1, j2, (fun h => (j3 h).imp fun _ k => ⟨k.1, k.2.1, k.2.2.below hb⟩), j4, j5, j6, j7, j8, (fun h => (j9 h).imp fun _ k => ⟨k.1, k.2.1, k.2.2.below hb⟩), j10, j12, e0.below hb, e1.below hb, (fun h => (e2 h).below hb), (fun h => ⟨(e3 h).1, (e3 h).2.below hb⟩), e4.trans (hb.mono e4.size)⟩

def blkC (c : Co) (n : Nat) : List Ce := List.replicate n ⟨32, coZ, c, false, false⟩
set_option maxRecDepth 20000 in
set_option maxHeartbeats 8000000 in
theorem blank_ok (sa b2 : Int) (c : Co) (n : Nat) (w : World) (hs : szB sa b2 = true) (hn : (n : Int) = sa * b2) :
    Calls Tryz.prog 17 #[.agg #[.int .i64 sa, .int .i64 b2], (Value.agg #[.int .u8 c.r, .int .u8 c.g, .int .u8 c.b, .int .u8 c.a])] w fun e w' => ∃ g, e = .returned (.tuple #[.agg #[.int .i64 sa, .int .i64 b2, .slice (some ⟨g, 0, none⟩) n n], .int .i64 0]) ∧ w.heap.size ≤ g ∧ Bk w' g (flatC (blkC c n)).toArray 65 ∧ Below w.heap.size w w' := by
  have hb := szB_iff.1 hs
  have hnb : n ≤ 262144 := by omega
  have hw : IntKind.i64.wrap (sa * b2) = n := by rw [IntKind.wrap_i64]; omega
  have HBl : Hid (∀ W, Calls Tryz.prog 41 #[(Value.agg #[.int .u8 c.r, .int .u8 c.g, .int .u8 c.b, .int .u8 c.a])] W fun e w' => e = .returned (Value.agg #[.int .i32 (⟨32, coZ, c, false, false⟩ : Ce).r, .int .u8 (⟨32, coZ, c, false, false⟩ : Ce).c.r, .int .u8 (⟨32, coZ, c, false, false⟩ : Ce).c.g, .int .u8 (⟨32, coZ, c, false, false⟩ : Ce).c.b, .int .u8 (⟨32, coZ, c, false, false⟩ : Ce).c.a, .int .u8 (⟨32, coZ, c, false, false⟩ : Ce).b.r, .int .u8 (⟨32, coZ, c, false, false⟩ : Ce).b.g, .int .u8 (⟨32, coZ, c, false, false⟩ : Ce).b.b, .int .u8 (⟨32, coZ, c, false, false⟩ : Ce).b.a, .bool (⟨32, coZ, c, false, false⟩ : Ce).wd, .bool (⟨32, coZ, c, false, false⟩ : Ce).tl]) ∧ Below W.heap.size W w') := fun W => blank_any c W
  have HRp : Hid (∀ g W, Bk W g (#[.int .i32 (⟨32, coZ, c, false, false⟩ : Ce).r, .int .u8 (⟨32, coZ, c, false, false⟩ : Ce).c.r, .int .u8 (⟨32, coZ, c, false, false⟩ : Ce).c.g, .int .u8 (⟨32, coZ, c, false, false⟩ : Ce).c.b, .int .u8 (⟨32, coZ, c, false, false⟩ : Ce).c.a, .int .u8 (⟨32, coZ, c, false, false⟩ : Ce).b.r, .int .u8 (⟨32, coZ, c, false, false⟩ : Ce).b.g, .int .u8 (⟨32, coZ, c, false, false⟩ : Ce).b.b, .int .u8 (⟨32, coZ, c, false, false⟩ : Ce).b.a, .bool (⟨32, coZ, c, false, false⟩ : Ce).wd, .bool (⟨32, coZ, c, false, false⟩ : Ce).tl]) 65 → Calls Tryz.prog 40 #[.slice (some ⟨g, 0, none⟩) 1 1, .int .i64 (n : Nat)] W fun e w' => ∃ g2, e = .returned (.slice (some ⟨g2, 0, none⟩) n n) ∧ Hid (Bk w' g2 (flatC (List.replicate n (⟨32, coZ, c, false, false⟩ : Ce))).toArray 65 ∧ Below W.heap.size W w' ∧ W.heap.size ≤ g2)) := fun g W h => repeatC_any n hnb g _ W h
  have HSz : Hid (∀ W, Calls Tryz.prog 39 #[.agg #[.int .i64 sa, .int .i64 b2]] W fun e w' => e = .returned (.bool true) ∧ Below W.heap.size W w') := fun W => by
    have q := size_any sa b2 W
    rw [hs] at q
    exact q
  have H0 : Hid (∀ W, W = ((w.alloc (.cells #[.int .i64 sa, .int .i64 b2] 23)).alloc (.cells #[.int .u8 c.r, .int .u8 c.g, .int .u8 c.b, .int .u8 c.a] 38)).alloc (.cells #[.int .i64 0, .int .i64 0, .slice none 0 0] 26) → Bk W w.heap.size #[.int .i64 sa, .int .i64 b2] 23 ∧ Bk W (w.heap.size + 1) #[.int .u8 c.r, .int .u8 c.g, .int .u8 c.b, .int .u8 c.a] 38 ∧ Bk W (w.heap.size + 1 + 1) #[.int .i64 0, .int .i64 0, .slice none 0 0] 26 ∧ Below w.heap.size w W) := fun W hW => by
    have k1 := Bk.new w #[.int .i64 sa, .int .i64 b2] 23
    have k2 := Bk.new (w.alloc (.cells #[.int .i64 sa, .int .i64 b2] 23)) #[.int .u8 c.r, .int .u8 c.g, .int .u8 c.b, .int .u8 c.a] 38
    have k3 := Bk.new ((w.alloc (.cells #[.int .i64 sa, .int .i64 b2] 23)).alloc (.cells #[.int .u8 c.r, .int .u8 c.g, .int .u8 c.b, .int .u8 c.a] 38)) #[.int .i64 0, .int .i64 0, .slice none 0 0] 26
    simp only [World.size_alloc] at k2 k3
    subst hW
    exact ⟨Bk.alk (Bk.alk k1 _) _, Bk.alk k2 _, k3, (((Below.refl _ w).alloc (Nat.le_refl _) _).alloc (by simp) _).alloc (by simp; omega) _⟩
  clear hb hs hn
  go_enter Tryz.func17, Tryz.ntmps17
  go_wp2_with fail
  obtain ⟨W0, hW0⟩ : ∃ W0, W0 = ((w.alloc (.cells #[.int .i64 sa, .int .i64 b2] 23)).alloc (.cells #[.int .u8 c.r, .int .u8 c.g, .int .u8 c.b, .int .u8 c.a] 38)).alloc (.cells #[.int .i64 0, .int .i64 0, .slice none 0 0] 26) := ⟨_, rfl⟩
  have H1 := show Hid _ from H0.out W0 hW0
  rw [← hW0]
  clear hW0 H0
  refine (HSz.out _).mono ?_
  rintro e w1 ⟨rfl, hb1⟩
  have H2 : Hid (Bk w1 w.heap.size #[.int .i64 sa, .int .i64 b2] 23 ∧ Bk w1 (w.heap.size + 1) #[.int .u8 c.r, .int .u8 c.g, .int .u8 c.b, .int .u8 c.a] 38 ∧ Bk w1 (w.heap.size + 1 + 1) #[.int .i64 0, .int .i64 0, .slice none 0 0] 26 ∧ Below w.heap.size w w1) := ⟨H1.out.1.below hb1, H1.out.2.1.below hb1, H1.out.2.2.1.below hb1, H1.out.2.2.2.trans (hb1.mono H1.out.2.2.2.size)⟩
  clear hb1 H1 HSz
  go_wp2_with fail
  refine wp_region_inv (I := (fun b a x => ∃ u5 u10 u11 u12 u13 u14 u15 u16 u17 u18 u19 u20, a = ⟨#[.agg #[.int .i64 sa, .int .i64 b2], (Value.agg #[.int .u8 c.r, .int .u8 c.g, .int .u8 c.b, .int .u8 c.a]), .pointer (some ⟨w.heap.size, 0, none⟩), .pointer (some ⟨w.heap.size + 1, 0, none⟩), .pointer (some ⟨w.heap.size + 1 + 1, 0, none⟩), u5, .agg #[.int .i64 sa, .int .i64 b2], .bool true, .bool false, undef, u10, u11, u12, u13, u14, u15, u16, u17, u18, u19, u20], []⟩ ∧ Hid (JBk w sa b2 c n b u5 u10 u11 u12 u13 u14 u15 u16 u17 u18 u19 u20 x))) (by kernel_rfl) (by kernel_rfl) ?_ ?_ ?_
  · exact ⟨_, _, _, _, _, _, _, _, _, _, _, _, rfl, ⟨(fun e => by cases e), (fun e => by cases e), (fun e => by cases e), (fun e => by cases e), (fun e => by cases e), (fun e => by cases e), (fun e => by cases e), (fun e => by cases e), (fun e => by cases e), (fun e => by cases e), (fun e => by cases e), (fun e => by cases e), H2.out.1.below (Below.refl _ _).drew, H2.out.2.1.below (Below.refl _ _).drew, (fun _ => H2.out.2.2.1.below (Below.refl _ _).drew), (fun e => by cases e), H2.out.2.2.2.drew⟩⟩
  · intro b a x i o hI hbi ho hpre K' hK
    obtain ⟨u5, u10, u11, u12, u13, u14, u15, u16, u17, u18, u19, u20, rfl, HJ⟩ := hI
    have hi : i < 13 := by have := (Array.getElem?_eq_some_iff.1 ho).1; simpa using this
    rcases (show i = 0 ∨ i = 1 ∨ i = 2 ∨ i = 3 ∨ i = 4 ∨ i = 5 ∨ i = 6 ∨ i = 7 ∨ i = 8 ∨ i = 9 ∨ i = 10 ∨ i = 11 ∨ i = 12 by omega) with rfl | rfl | rfl | rfl | rfl | rfl | rfl | rfl | rfl | rfl | rfl | rfl | rfl
    · injection (show some _ = some o from ho) with ho
      subst ho
      have c0 : x.cell? ⟨w.heap.size, 0, none⟩ = some (.int .i64 sa) := by obtain ⟨j0, j1, j2, j3, j4, j5, j6, j7, j8, j9, j10, j12, e0, e1, e2, e3, e4⟩ := HJ.out; exact (Bk.at2 e0).1
      have c1 : x.cell? ⟨w.heap.size, 1, none⟩ = some (.int .i64 b2) := by obtain ⟨j0, j1, j2, j3, j4, j5, j6, j7, j8, j9, j10, j12, e0, e1, e2, e3, e4⟩ := HJ.out; exact (Bk.at2 e0).2
      have HN : Hid (JBk w sa b2 c n (fun j => if j = 0 then true else b j) u5 (.agg #[.int .i64 sa, .int .i64 b2]) u11 u12 u13 u14 u15 u16 u17 u18 u19 u20 x) := by
        obtain ⟨j0, j1, j2, j3, j4, j5, j6, j7, j8, j9, j10, j12, e0, e1, e2, e3, e4⟩ := HJ.out
        exact ⟨fun _ => rfl, j1, j2, j3, j4, j5, j6, j7, j8, j9, j10, j12, e0, e1, e2, e3, e4⟩
      clear HJ hpre
      go_simp
      exact hK _ _ ⟨u5, _, u11, u12, u13, u14, u15, u16, u17, u18, u19, u20, rfl, HN⟩
    · injection (show some _ = some o from ho) with ho
      subst ho
      have d0 : x.cell? ⟨w.heap.size + 1, 0, none⟩ = some (.int .u8 c.r) := by obtain ⟨j0, j1, j2, j3, j4, j5, j6, j7, j8, j9, j10, j12, e0, e1, e2, e3, e4⟩ := HJ.out; exact Bk.cell e1 0
      have d1 : x.cell? ⟨w.heap.size + 1, 1, none⟩ = some (.int .u8 c.g) := by obtain ⟨j0, j1, j2, j3, j4, j5, j6, j7, j8, j9, j10, j12, e0, e1, e2, e3, e4⟩ := HJ.out; exact Bk.cell e1 1
      have d2 : x.cell? ⟨w.heap.size + 1, 2, none⟩ = some (.int .u8 c.b) := by obtain ⟨j0, j1, j2, j3, j4, j5, j6, j7, j8, j9, j10, j12, e0, e1, e2, e3, e4⟩ := HJ.out; exact Bk.cell e1 2
      have d3 : x.cell? ⟨w.heap.size + 1, 3, none⟩ = some (.int .u8 c.a) := by obtain ⟨j0, j1, j2, j3, j4, j5, j6, j7, j8, j9, j10, j12, e0, e1, e2, e3, e4⟩ := HJ.out; exact Bk.cell e1 3
      have HN : Hid (JBk w sa b2 c n (fun j => if j = 1 then true else b j) u5 u10 ((Value.agg #[.int .u8 c.r, .int .u8 c.g, .int .u8 c.b, .int .u8 c.a])) u12 u13 u14 u15 u16 u17 u18 u19 u20 x) := by
        obtain ⟨j0, j1, j2, j3, j4, j5, j6, j7, j8, j9, j10, j12, e0, e1, e2, e3, e4⟩ := HJ.out
        exact ⟨j0, fun _ => rfl, j2, j3, j4, j5, j6, j7, j8, j9, j10, j12, e0, e1, e2, e3, e4⟩
      clear HJ hpre
      go_simp
      exact hK _ _ ⟨u5, u10, _, u12, u13, u14, u15, u16, u17, u18, u19, u20, rfl, HN⟩
    · injection (show some _ = some o from ho) with ho
      subst ho
      have p1 : b 1 = true := hpre 1 (by decide +kernel)
      obtain rfl : u11 = (Value.agg #[.int .u8 c.r, .int .u8 c.g, .int .u8 c.b, .int .u8 c.a]) := by obtain ⟨j0, j1, j2, j3, j4, j5, j6, j7, j8, j9, j10, j12, e0, e1, e2, e3, e4⟩ := HJ.out; exact (j1 p1)
      have HC := HBl.out x
      have HN : Hid (∀ x', Below x.heap.size x x' → JBk w sa b2 c n (fun j => if j = 2 then true else b j) u5 u10 ((Value.agg #[.int .u8 c.r, .int .u8 c.g, .int .u8 c.b, .int .u8 c.a])) ((Value.agg #[.int .i32 (⟨32, coZ, c, false, false⟩ : Ce).r, .int .u8 (⟨32, coZ, c, false, false⟩ : Ce).c.r, .int .u8 (⟨32, coZ, c, false, false⟩ : Ce).c.g, .int .u8 (⟨32, coZ, c, false, false⟩ : Ce).c.b, .int .u8 (⟨32, coZ, c, false, false⟩ : Ce).c.a, .int .u8 (⟨32, coZ, c, false, false⟩ : Ce).b.r, .int .u8 (⟨32, coZ, c, false, false⟩ : Ce).b.g, .int .u8 (⟨32, coZ, c, false, false⟩ : Ce).b.b, .int .u8 (⟨32, coZ, c, false, false⟩ : Ce).b.a, .bool (⟨32, coZ, c, false, false⟩ : Ce).wd, .bool (⟨32, coZ, c, false, false⟩ : Ce).tl])) u13 u14 u15 u16 u17 u18 u19 u20 x') := fun x' hb => by
        obtain ⟨j0, j1, j2, j3, j4, j5, j6, j7, j8, j9, j10, j12, e0, e1, e2, e3, e4⟩ := HJ.out.grow hb
        exact ⟨j0, j1, fun _ => rfl, j3, j4, j5, j6, j7, j8, j9, j10, j12, e0, e1, e2, e3, e4⟩
      clear HJ hpre
      go_simp
      refine HC.mono ?_
      rintro e x' ⟨rfl, hb⟩
      exact hK _ _ ⟨u5, u10, _, _, u13, u14, u15, u16, u17, u18, u19, u20, rfl, HN.out x' hb⟩
    · injection (show some _ = some o from ho) with ho
      subst ho
      have p2 : b 2 = true := hpre 2 (by decide +kernel)
      obtain rfl : u12 = (Value.agg #[.int .i32 (⟨32, coZ, c, false, false⟩ : Ce).r, .int .u8 (⟨32, coZ, c, false, false⟩ : Ce).c.r, .int .u8 (⟨32, coZ, c, false, false⟩ : Ce).c.g, .int .u8 (⟨32, coZ, c, false, false⟩ : Ce).c.b, .int .u8 (⟨32, coZ, c, false, false⟩ : Ce).c.a, .int .u8 (⟨32, coZ, c, false, false⟩ : Ce).b.r, .int .u8 (⟨32, coZ, c, false, false⟩ : Ce).b.g, .int .u8 (⟨32, coZ, c, false, false⟩ : Ce).b.b, .int .u8 (⟨32, coZ, c, false, false⟩ : Ce).b.a, .bool (⟨32, coZ, c, false, false⟩ : Ce).wd, .bool (⟨32, coZ, c, false, false⟩ : Ce).tl]) := by obtain ⟨j0, j1, j2, j3, j4, j5, j6, j7, j8, j9, j10, j12, e0, e1, e2, e3, e4⟩ := HJ.out; exact j2 p2
      have HN : Hid (JBk w sa b2 c n (fun j => if j = 3 then true else b j) u5 u10 u11 ((Value.agg #[.int .i32 (⟨32, coZ, c, false, false⟩ : Ce).r, .int .u8 (⟨32, coZ, c, false, false⟩ : Ce).c.r, .int .u8 (⟨32, coZ, c, false, false⟩ : Ce).c.g, .int .u8 (⟨32, coZ, c, false, false⟩ : Ce).c.b, .int .u8 (⟨32, coZ, c, false, false⟩ : Ce).c.a, .int .u8 (⟨32, coZ, c, false, false⟩ : Ce).b.r, .int .u8 (⟨32, coZ, c, false, false⟩ : Ce).b.g, .int .u8 (⟨32, coZ, c, false, false⟩ : Ce).b.b, .int .u8 (⟨32, coZ, c, false, false⟩ : Ce).b.a, .bool (⟨32, coZ, c, false, false⟩ : Ce).wd, .bool (⟨32, coZ, c, false, false⟩ : Ce).tl])) (.slice (some ⟨x.heap.size, 0, none⟩) 1 1) u14 u15 u16 u17 u18 u19 u20 (x.alloc (.cells (#[.int .i32 (⟨32, coZ, c, false, false⟩ : Ce).r, .int .u8 (⟨32, coZ, c, false, false⟩ : Ce).c.r, .int .u8 (⟨32, coZ, c, false, false⟩ : Ce).c.g, .int .u8 (⟨32, coZ, c, false, false⟩ : Ce).c.b, .int .u8 (⟨32, coZ, c, false, false⟩ : Ce).c.a, .int .u8 (⟨32, coZ, c, false, false⟩ : Ce).b.r, .int .u8 (⟨32, coZ, c, false, false⟩ : Ce).b.g, .int .u8 (⟨32, coZ, c, false, false⟩ : Ce).b.b, .int .u8 (⟨32, coZ, c, false, false⟩ : Ce).b.a, .bool (⟨32, coZ, c, false, false⟩ : Ce).wd, .bool (⟨32, coZ, c, false, false⟩ : Ce).tl]) 65))) := by
        obtain ⟨j0, j1, j2, j3, j4, j5, j6, j7, j8, j9, j10, j12, e0, e1, e2, e3, e4⟩ := HJ.out.grow ((Below.refl _ x).alloc (Nat.le_refl _) (.cells (#[.int .i32 (⟨32, coZ, c, false, false⟩ : Ce).r, .int .u8 (⟨32, coZ, c, false, false⟩ : Ce).c.r, .int .u8 (⟨32, coZ, c, false, false⟩ : Ce).c.g, .int .u8 (⟨32, coZ, c, false, false⟩ : Ce).c.b, .int .u8 (⟨32, coZ, c, false, false⟩ : Ce).c.a, .int .u8 (⟨32, coZ, c, false, false⟩ : Ce).b.r, .int .u8 (⟨32, coZ, c, false, false⟩ : Ce).b.g, .int .u8 (⟨32, coZ, c, false, false⟩ : Ce).b.b, .int .u8 (⟨32, coZ, c, false, false⟩ : Ce).b.a, .bool (⟨32, coZ, c, false, false⟩ : Ce).wd, .bool (⟨32, coZ, c, false, false⟩ : Ce).tl]) 65))
        exact ⟨j0, j1, j2, fun _ => ⟨x.heap.size, rfl, HJ.out.bel.size, Bk.new _ _ _⟩, j4, j5, j6, j7, j8, j9, j10, j12, e0, e1, e2, e3, e4⟩
      clear HJ hpre
      go_simp
      exact hK _ _ ⟨u5, u10, u11, _, _, u14, u15, u16, u17, u18, u19, u20, rfl, HN⟩
    · injection (show some _ = some o from ho) with ho
      subst ho
      have HN : Hid (JBk w sa b2 c n (fun j => if j = 4 then true else b j) u5 u10 u11 u12 u13 (.pointer (some ⟨w.heap.size, 0, none⟩)) u15 u16 u17 u18 u19 u20 x) := by
        obtain ⟨j0, j1, j2, j3, j4, j5, j6, j7, j8, j9, j10, j12, e0, e1, e2, e3, e4⟩ := HJ.out
        exact ⟨j0, j1, j2, j3, fun _ => rfl, j5, j6, j7, j8, j9, j10, j12, e0, e1, e2, e3, e4⟩
      clear HJ hpre
      go_simp
      exact hK _ _ ⟨u5, u10, u11, u12, u13, _, u15, u16, u17, u18, u19, u20, rfl, HN⟩
    · injection (show some _ = some o from ho) with ho
      subst ho
      have p4 : b 4 = true := hpre 4 (by decide +kernel)
      obtain rfl : u14 = .pointer (some ⟨w.heap.size, 0, none⟩) := by obtain ⟨j0, j1, j2, j3, j4, j5, j6, j7, j8, j9, j10, j12, e0, e1, e2, e3, e4⟩ := HJ.out; exact (j4 p4)
      have c0 : x.cell? ⟨w.heap.size, 0, none⟩ = some (.int .i64 sa) := by obtain ⟨j0, j1, j2, j3, j4, j5, j6, j7, j8, j9, j10, j12, e0, e1, e2, e3, e4⟩ := HJ.out; exact (Bk.at2 e0).1
      have HN : Hid (JBk w sa b2 c n (fun j => if j = 5 then true else b j) u5 u10 u11 u12 u13 (.pointer (some ⟨w.heap.size, 0, none⟩)) (.int .i64 sa) u16 u17 u18 u19 u20 x) := by
        obtain ⟨j0, j1, j2, j3, j4, j5, j6, j7, j8, j9, j10, j12, e0, e1, e2, e3, e4⟩ := HJ.out
        exact ⟨j0, j1, j2, j3, j4, fun _ => rfl, j6, j7, j8, j9, j10, j12, e0, e1, e2, e3, e4⟩
      clear HJ hpre
      go_simp
      exact hK _ _ ⟨u5, u10, u11, u12, u13, _, _, u16, u17, u18, u19, u20, rfl, HN⟩
    · injection (show some _ = some o from ho) with ho
      subst ho
      have HN : Hid (JBk w sa b2 c n (fun j => if j = 6 then true else b j) u5 u10 u11 u12 u13 u14 u15 (.pointer (some ⟨w.heap.size, 1, none⟩)) u17 u18 u19 u20 x) := by
        obtain ⟨j0, j1, j2, j3, j4, j5, j6, j7, j8, j9, j10, j12, e0, e1, e2, e3, e4⟩ := HJ.out
        exact ⟨j0, j1, j2, j3, j4, j5, fun _ => rfl, j7, j8, j9, j10, j12, e0, e1, e2, e3, e4⟩
      clear HJ hpre
      go_simp
      exact hK _ _ ⟨u5, u10, u11, u12, u13, u14, u15, _, u17, u18, u19, u20, rfl, HN⟩
    · injection (show some _ = some o from ho) with ho
      subst ho
      have p6 : b 6 = true := hpre 6 (by decide +kernel)
      obtain rfl : u16 = .pointer (some ⟨w.heap.size, 1, none⟩) := by obtain ⟨j0, j1, j2, j3, j4, j5, j6, j7, j8, j9, j10, j12, e0, e1, e2, e3, e4⟩ := HJ.out; exact (j6 p6)
      have c1 : x.cell? ⟨w.heap.size, 1, none⟩ = some (.int .i64 b2) := by obtain ⟨j0, j1, j2, j3, j4, j5, j6, j7, j8, j9, j10, j12, e0, e1, e2, e3, e4⟩ := HJ.out; exact (Bk.at2 e0).2
      have HN : Hid (JBk w sa b2 c n (fun j => if j = 7 then true else b j) u5 u10 u11 u12 u13 u14 u15 (.pointer (some ⟨w.heap.size, 1, none⟩)) (.int .i64 b2) u18 u19 u20 x) := by
        obtain ⟨j0, j1, j2, j3, j4, j5, j6, j7, j8, j9, j10, j12, e0, e1, e2, e3, e4⟩ := HJ.out
        exact ⟨j0, j1, j2, j3, j4, j5, j6, fun _ => rfl, j8, j9, j10, j12, e0, e1, e2, e3, e4⟩
      clear HJ hpre
      go_simp
      exact hK _ _ ⟨u5, u10, u11, u12, u13, u14, u15, _, _, u18, u19, u20, rfl, HN⟩
    · injection (show some _ = some o from ho) with ho
      subst ho
      have p5 : b 5 = true := hpre 5 (by decide +kernel)
      obtain rfl : u15 = .int .i64 sa := by obtain ⟨j0, j1, j2, j3, j4, j5, j6, j7, j8, j9, j10, j12, e0, e1, e2, e3, e4⟩ := HJ.out; exact (j5 p5)
      have p7 : b 7 = true := hpre 7 (by decide +kernel)
      obtain rfl : u17 = .int .i64 b2 := by obtain ⟨j0, j1, j2, j3, j4, j5, j6, j7, j8, j9, j10, j12, e0, e1, e2, e3, e4⟩ := HJ.out; exact (j7 p7)
      have HN : Hid (JBk w sa b2 c n (fun j => if j = 8 then true else b j) u5 u10 u11 u12 u13 u14 (.int .i64 sa) u16 (.int .i64 b2) (.int .i64 (n : Nat)) u19 u20 x) := by
        obtain ⟨j0, j1, j2, j3, j4, j5, j6, j7, j8, j9, j10, j12, e0, e1, e2, e3, e4⟩ := HJ.out
        exact ⟨j0, j1, j2, j3, j4, j5, j6, j7, fun _ => rfl, j9, j10, j12, e0, e1, e2, e3, e4⟩
      clear HJ hpre
      go_simp
      exact hK _ _ ⟨u5, u10, u11, u12, u13, u14, _, u16, _, _, u19, u20, rfl, HN⟩
    · injection (show some _ = some o from ho) with ho
      subst ho
      have p8 : b 8 = true := hpre 8 (by decide +kernel)
      obtain rfl : u18 = .int .i64 (n : Nat) := by obtain ⟨j0, j1, j2, j3, j4, j5, j6, j7, j8, j9, j10, j12, e0, e1, e2, e3, e4⟩ := HJ.out; exact (j8 p8)
      have p3 : b 3 = true := hpre 3 (by decide +kernel)
      obtain ⟨g, rfl, hgl, hg⟩ : ∃ g, u13 = .slice (some ⟨g, 0, none⟩) 1 1 ∧ w.heap.size ≤ g ∧ Bk x g (#[.int .i32 (⟨32, coZ, c, false, false⟩ : Ce).r, .int .u8 (⟨32, coZ, c, false, false⟩ : Ce).c.r, .int .u8 (⟨32, coZ, c, false, false⟩ : Ce).c.g, .int .u8 (⟨32, coZ, c, false, false⟩ : Ce).c.b, .int .u8 (⟨32, coZ, c, false, false⟩ : Ce).c.a, .int .u8 (⟨32, coZ, c, false, false⟩ : Ce).b.r, .int .u8 (⟨32, coZ, c, false, false⟩ : Ce).b.g, .int .u8 (⟨32, coZ, c, false, false⟩ : Ce).b.b, .int .u8 (⟨32, coZ, c, false, false⟩ : Ce).b.a, .bool (⟨32, coZ, c, false, false⟩ : Ce).wd, .bool (⟨32, coZ, c, false, false⟩ : Ce).tl]) 65 := by obtain ⟨j0, j1, j2, j3, j4, j5, j6, j7, j8, j9, j10, j12, e0, e1, e2, e3, e4⟩ := HJ.out; exact j3 p3
      have HC := HRp.out g x hg
      have HN : Hid (∀ x' g2, Below x.heap.size x x' → x.heap.size ≤ g2 → Bk x' g2 (flatC (List.replicate n (⟨32, coZ, c, false, false⟩ : Ce))).toArray 65 → JBk w sa b2 c n (fun j => if j = 9 then true else b j) u5 u10 u11 u12 (.slice (some ⟨g, 0, none⟩) 1 1) u14 u15 u16 u17 (.int .i64 (n : Nat)) (.slice (some ⟨g2, 0, none⟩) n n) u20 x') := fun x' g2 hb h2 h3 => by
        obtain ⟨j0, j1, j2, j3, j4, j5, j6, j7, j8, j9, j10, j12, e0, e1, e2, e3, e4⟩ := HJ.out.grow hb
        exact ⟨j0, j1, j2, j3, j4, j5, j6, j7, j8, fun _ => ⟨g2, rfl, Nat.le_trans HJ.out.bel.size h2, h3⟩, (fun h => by have := (j10 h).1; rw [hbi] at this; cases this), j12, e0, e1, e2, (fun h => by have := (e3 h).1; rw [hbi] at this; cases this), e4⟩
      clear HJ hpre hg
      go_simp
      refine HC.mono ?_
      rintro e x' ⟨g2, rfl, hh⟩
      exact hK _ _ ⟨u5, u10, u11, u12, _, u14, u15, u16, u17, _, _, u20, rfl, HN.out x' g2 hh.out.2.1 hh.out.2.2 hh.out.1⟩
    · injection (show some _ = some o from ho) with ho
      subst ho
      have p0 : b 0 = true := hpre 0 (by decide +kernel)
      obtain rfl : u10 = .agg #[.int .i64 sa, .int .i64 b2] := by obtain ⟨j0, j1, j2, j3, j4, j5, j6, j7, j8, j9, j10, j12, e0, e1, e2, e3, e4⟩ := HJ.out; exact (j0 p0)
      have p9 : b 9 = true := hpre 9 (by decide +kernel)
      obtain ⟨g, rfl⟩ : ∃ g, u19 = .slice (some ⟨g, 0, none⟩) n n := by obtain ⟨j0, j1, j2, j3, j4, j5, j6, j7, j8, j9, j10, j12, e0, e1, e2, e3, e4⟩ := HJ.out; obtain ⟨g, e, _⟩ := j9 p9; exact ⟨g, e⟩
      have HN : Hid (JBk w sa b2 c n (fun j => if j = 10 then true else b j) u5 (.agg #[.int .i64 sa, .int .i64 b2]) u11 u12 u13 u14 u15 u16 u17 u18 (.slice (some ⟨g, 0, none⟩) n n) (.agg #[.int .i64 sa, .int .i64 b2, .slice (some ⟨g, 0, none⟩) n n]) x) := by
        obtain ⟨j0, j1, j2, j3, j4, j5, j6, j7, j8, j9, j10, j12, e0, e1, e2, e3, e4⟩ := HJ.out
        exact ⟨j0, j1, j2, j3, j4, j5, j6, j7, j8, j9, fun _ => ⟨p9, rfl⟩, j12, e0, e1, e2, e3, e4⟩
      clear HJ hpre
      go_simp
      exact hK _ _ ⟨u5, _, u11, u12, u13, u14, u15, u16, u17, u18, _, _, rfl, HN⟩
    · injection (show some _ = some o from ho) with ho
      subst ho
      have p10 : b 10 = true := hpre 10 (by decide +kernel)
      obtain ⟨p9, rfl⟩ : b 9 = true ∧ u20 = _ := by obtain ⟨j0, j1, j2, j3, j4, j5, j6, j7, j8, j9, j10, j12, e0, e1, e2, e3, e4⟩ := HJ.out; exact j10 p10
      obtain ⟨g, rfl⟩ : ∃ g, u19 = .slice (some ⟨g, 0, none⟩) n n := by obtain ⟨j0, j1, j2, j3, j4, j5, j6, j7, j8, j9, j10, j12, e0, e1, e2, e3, e4⟩ := HJ.out; obtain ⟨g, e, _⟩ := j9 p9; exact ⟨g, e⟩
      have hz : Bk x (w.heap.size + 1 + 1) #[.int .i64 0, .int .i64 0, .slice none 0 0] 26 := by obtain ⟨j0, j1, j2, j3, j4, j5, j6, j7, j8, j9, j10, j12, e0, e1, e2, e3, e4⟩ := HJ.out; exact e2 hbi
      have z0 := hz.cell 0
      have z1 := hz.cell 1
      have z2 := hz.cell 2
      simp only [List.getElem?_toArray, List.getElem?_cons_zero, List.getElem?_cons_succ] at z0 z1 z2
      have f0 := hz.frozen 0
      have f1 := hz.frozen 1
      have f2 := hz.frozen 2
      have HN : Hid (JBk w sa b2 c n (fun j => if j = 11 then true else b j) u5 u10 u11 u12 u13 u14 u15 u16 u17 u18 (.slice (some ⟨g, 0, none⟩) n n) (.agg #[.int .i64 sa, .int .i64 b2, .slice (some ⟨g, 0, none⟩) n n]) (((x.setCell ⟨w.heap.size + 1 + 1, 0, none⟩ (.int .i64 sa)).setCell ⟨w.heap.size + 1 + 1, 1, none⟩ (.int .i64 b2)).setCell ⟨w.heap.size + 1 + 1, 2, none⟩ (.slice (some ⟨g, 0, none⟩) n n))) := by
        obtain ⟨j0, j1, j2, j3, j4, j5, j6, j7, j8, j9, j10, j12, e0, e1, e2, e3, e4⟩ := HJ.out
        have hne : ∀ {h : Nat} {cs : Array Value} {t : TypeId}, Bk x h cs t → t ≠ 26 → w.heap.size + 1 + 1 ≠ h := fun k ht e => by subst e; exact ht (Bk.tyk k hz)
        have oth : ∀ {h : Nat} {cs : Array Value} {t : TypeId}, Bk x h cs t → t ≠ 26 → Bk (((x.setCell ⟨w.heap.size + 1 + 1, 0, none⟩ (.int .i64 sa)).setCell ⟨w.heap.size + 1 + 1, 1, none⟩ (.int .i64 b2)).setCell ⟨w.heap.size + 1 + 1, 2, none⟩ (.slice (some ⟨g, 0, none⟩) n n)) h cs t := fun k ht => ((k.other _ _ (hne k ht)).other _ _ (hne k ht)).other _ _ (hne k ht)
        exact ⟨j0, j1, j2, (fun h => (j3 h).imp fun _ k => ⟨k.1, k.2.1, oth k.2.2 (by decide)⟩), j4, j5, j6, j7, j8, (fun h => (j9 h).imp fun _ k => ⟨k.1, k.2.1, oth k.2.2 (by decide)⟩), j10, j12, oth e0 (by decide), oth e1 (by decide), (fun c => by cases c), (fun _ => ⟨p9, ((hz.put 0 _).put 1 _).put 2 _⟩), ((e4.setCell (p := ⟨w.heap.size + 1 + 1, 0, none⟩) (by show w.heap.size ≤ w.heap.size + 1 + 1; omega) _).setCell (p := ⟨w.heap.size + 1 + 1, 1, none⟩) (by show w.heap.size ≤ w.heap.size + 1 + 1; omega) _).setCell (p := ⟨w.heap.size + 1 + 1, 2, none⟩) (by show w.heap.size ≤ w.heap.size + 1 + 1; omega) _⟩
      clear HJ hpre hz
      go_simp
      exact hK _ _ ⟨u5, u10, u11, u12, u13, u14, u15, u16, u17, u18, _, _, rfl, HN⟩
    · injection (show some _ = some o from ho) with ho
      subst ho
      have HN : Hid (JBk w sa b2 c n (fun j => if j = 12 then true else b j) (.int .i64 0) u10 u11 u12 u13 u14 u15 u16 u17 u18 u19 u20 x) := by
        obtain ⟨j0, j1, j2, j3, j4, j5, j6, j7, j8, j9, j10, j12, e0, e1, e2, e3, e4⟩ := HJ.out
        exact ⟨j0, j1, j2, j3, j4, j5, j6, j7, j8, j9, j10, fun _ => rfl, e0, e1, e2, e3, e4⟩
      clear HJ hpre
      go_simp
      exact hK _ _ ⟨_, u10, u11, u12, u13, u14, u15, u16, u17, u18, u19, u20, rfl, HN⟩
  · intro b a' x hI hall
    obtain ⟨u5, u10, u11, u12, u13, u14, u15, u16, u17, u18, u19, u20, rfl, HJ⟩ := hI
    have hall' : ∀ i, i < 13 → b i = true := fun i hi => hall i (by simpa using hi)
    obtain ⟨j0, j1, j2, j3, j4, j5, j6, j7, j8, j9, j10, j12, e0, e1, e2, e3, e4⟩ := HJ.out
    obtain ⟨g, rfl, k1, k2⟩ := j9 (hall' 9 (by omega))
    obtain rfl := j12 (hall' 12 (by omega))
    have HF : Hid (Bk x (w.heap.size + 1 + 1) #[.int .i64 sa, .int .i64 b2, .slice (some ⟨g, 0, none⟩) n n] 26 ∧ w.heap.size ≤ g ∧ Bk x g (flatC (blkC c n)).toArray 65 ∧ Below w.heap.size w x) := ⟨(e3 (hall' 11 (by omega))).2, k1, k2, e4⟩
    clear HJ hall hall' j0 j1 j2 j3 j4 j5 j6 j7 j8 j9 j10 j12 e0 e1 e2 e3 e4 k1 k2 H2
    go_wp2_with fail
    have hld : (loadVar 26 ⟨w.heap.size + 1 + 1, 0, none⟩).run Tryz.prog x = .ok (.agg #[.int .i64 sa, .int .i64 b2, .slice (some ⟨g, 0, none⟩) n n]) x := run_loadVar_row x (w.heap.size + 1 + 1) 26 26 #[.int .i64 sa, .int .i64 b2, .slice (some ⟨g, 0, none⟩) n n] (0, 0) _ HF.out.1 Tryz.underlying26 rfl (by kernel_rfl)
    refine bodyPost_ret (v := .tuple #[.agg #[.int .i64 sa, .int .i64 b2, .slice (some ⟨g, 0, none⟩) n n], .int .i64 0]) ?_ rfl ⟨g, rfl, HF.out.2⟩
    simp [results, Tryz.results17, asAddr, hld]

end Go.Proofs.YtapachlhdgehjaaGreatDoor
