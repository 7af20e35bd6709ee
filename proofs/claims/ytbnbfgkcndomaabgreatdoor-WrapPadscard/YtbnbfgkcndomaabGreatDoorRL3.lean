/-
  The contract of runes.folded: the walk.
-/
import Derived.Test.YtbnbfgkcndomaabGreatDoorRL2
namespace Go.Proofs.YtbnbfgkcndomaabGreatDoor
open Go.RowKit Go.Shelf
attribute [local go_sem] Oper.semAt_some

/-- What folded holds between two pieces. -/
def HoldF (w W : World) (room : Int) (L : List Ln) (n : Ln) (v : Value) (V : World) : Prop :=
  Blk V w.heap.size #[.int .i64 room] 3 ∧ Blk V (w.heap.size + 1) #[v] 453 ∧ Blk V (w.heap.size + 2) (lnC n) 456 ∧ V.ownsRow (W.heap.size + 4) 456 5 v L.length (flatL L) ∧ Below w.heap.size w V
theorem holdF_own {β : Type} {w W : World} {room : Int} {L : List Ln} {n : Ln} {v : Value} {B : Nat} (hB : w.heap.size ≤ B) : OwnFrom B (fun (_ : β) V => HoldF w W room L n v V) :=
  OwnFrom.and (kept_own _ _ _ _) (OwnFrom.and (kept_own _ _ _ _) (OwnFrom.and (kept_own _ _ _ _) (OwnFrom.and row_own (ownFrom_below (Nat.le_refl _) hB))))
theorem HoldF.below {w W : World} {room : Int} {L : List Ln} {n : Ln} {v : Value} {V V' : World} (h : HoldF w W room L n v V) (hb : Below V.heap.size V V') : HoldF w W room L n v V' := by
  obtain ⟨a0, a1, a2, a3, a4⟩ := h
  exact ⟨a0.below hb, a1.below hb, a2.below hb, row_below a3 hb, a4.trans (hb.mono a4.size)⟩
theorem HoldF.set {w W : World} {room : Int} {L : List Ln} {n : Ln} {v : Value} {V : World} (h : HoldF w W room L n v V) (b o : Nat) (u : Value) (h1 : w.heap.size + 2 < b) (h2 : b < W.heap.size + 4) : HoldF w W room L n v (V.setCell ⟨b, o, none⟩ u) := by
  obtain ⟨a0, a1, a2, a3, a4⟩ := h
  exact ⟨a0.other _ _ (by simp; omega), a1.other _ _ (by simp; omega), a2.other _ _ (by simp; omega), row_set a3 _ _ h2, a4.setCell (p := ⟨b, o, none⟩) (by simp; omega) _⟩

/-- The line that lies in a block. -/
def lnAt (w : World) (b : Nat) : Ln := match w.heap[b]? with
  | some (.cells cs _ _) => ⟨(intOf (cs.getD 0 undef)).toNat, (intOf (cs.getD 1 undef)).toNat, intOf (cs.getD 2 undef), (intOf (cs.getD 3 undef)).toNat, intOf (cs.getD 4 undef)⟩
  | _ => zeroL
theorem lnAt_of {w : World} {b : Nat} {l : Ln} {t : TypeId} (h : Blk w b (lnC l) t) : lnAt w b = l := by
  unfold lnAt
  rw [show w.heap[b]? = _ from h]
  simp [lnC, intOf]

/-- A line stored. -/
abbrev set5 (X : World) (b : Nat) (l : Ln) : World := ((((X.setCell ⟨b, 0, none⟩ (.int .i64 l.fr)).setCell ⟨b, 1, none⟩ (.int .i64 l.to)).setCell ⟨b, 2, none⟩ (.int .i64 l.c)).setCell ⟨b, 3, none⟩ (.int .i64 l.k)).setCell ⟨b, 4, none⟩ (.int .i64 l.kc)
theorem Blk.set5 {X : World} {b : Nat} {a0 a1 a2 a3 a4 : Value} {t : TypeId} (h : Blk X b #[a0, a1, a2, a3, a4] t) (l : Ln) : Blk (set5 X b l) b (lnC l) t := by
  simpa using ((((h.put 0 (.int .i64 l.fr)).put 1 (.int .i64 l.to)).put 2 (.int .i64 l.c)).put 3 (.int .i64 l.k)).put 4 (.int .i64 l.kc)
theorem Blk.oth5 {X : World} {b c : Nat} {vs : Array Value} {t : TypeId} (h : Blk X c vs t) (l : Ln) (hb : b ≠ c) : Blk (Go.Proofs.YtbnbfgkcndomaabGreatDoor.set5 X b l) c vs t :=
  ((((h.other _ _ (by simpa using hb)).other _ _ (by simpa using hb)).other _ _ (by simpa using hb)).other _ _ (by simpa using hb)).other _ _ (by simpa using hb)
theorem row_set' {base : Nat} {e : TypeId} {size : Nat} {v : Value} {n : Nat} {xs : List Value} {X : World} (h : X.ownsRow base e size v n xs) (p : Addr) (u : Value) (hp : ∀ g, v.ownBlock = some g → p.block ≠ g) : (X.setCell p u).ownsRow base e size v n xs := by
  obtain ⟨hl, h⟩ := h
  refine ⟨hl, ?_⟩
  rcases h with h | ⟨g, cap, cur, rfl, hb, hc, h1, h2, h3, h4⟩
  · exact .inl h
  · exact .inr ⟨g, cap, cur, rfl, hb, same_set hc (hp g rfl), h1, h2, h3, h4⟩
theorem row5 {base : Nat} {e : TypeId} {size : Nat} {v : Value} {n : Nat} {xs : List Value} {X : World} (h : X.ownsRow base e size v n xs) (b : Nat) (l : Ln) (hp : ∀ g, v.ownBlock = some g → b ≠ g) : (set5 X b l).ownsRow base e size v n xs :=
  row_set' (row_set' (row_set' (row_set' (row_set' h _ _ hp) _ _ hp) _ _ hp) _ _ hp) _ _ hp
theorem Kept.set5 {ow : Nat → Prop} {W X : World} (h : Kept ow W X) (b : Nat) (l : Ln) (hb : ow b) : Kept ow W (Go.Proofs.YtbnbfgkcndomaabGreatDoor.set5 X b l) := ((((h.set _ _ _ hb).set _ _ _ hb).set _ _ _ hb).set _ _ _ hb).set _ _ _ hb
theorem KeepsFrom.set {B : Nat} {W X : World} (h : KeepsFrom B W X) (p : Addr) (v : Value) : KeepsFrom B W (X.setCell p v) :=
  ⟨Nat.le_trans h.size (KeepsOthers.setCell X p v).size, fun k o hk e ho => (KeepsOthers.setCell X p v).same k o (h.same k o hk e ho) ho⟩
theorem keeps5 {B : Nat} {W X : World} (h : KeepsFrom B W X) (b : Nat) (l : Ln) : KeepsFrom B W (set5 X b l) := KeepsFrom.set (KeepsFrom.set (KeepsFrom.set (KeepsFrom.set (KeepsFrom.set h _ _) _ _) _ _) _ _) _ _
theorem keepsB {B : Nat} {W X Y : World} (h : KeepsFrom B W X) (hb : Below X.heap.size X Y) : KeepsFrom B W Y :=
  ⟨Nat.le_trans h.size hb.size, fun k o hk e ho => by have := h.same k o hk e ho; exact (hb.block k (Array.getElem?_eq_some_iff.1 this).1).trans this⟩
theorem below5 {B : Nat} {W X : World} (h : Below B W X) (b : Nat) (l : Ln) (hb : B ≤ b) : Below B W (set5 X b l) :=
  ((((h.setCell (p := ⟨b, 0, none⟩) hb _).setCell (p := ⟨b, 1, none⟩) hb _).setCell (p := ⟨b, 2, none⟩) hb _).setCell (p := ⟨b, 3, none⟩) hb _).setCell (p := ⟨b, 4, none⟩) hb _
theorem size5 (X : World) (b : Nat) (l : Ln) : X.heap.size ≤ (set5 X b l).heap.size := (below5 (Below.refl 0 X) b l (Nat.zero_le _)).size
theorem row_lt {base : Nat} {e : TypeId} {size : Nat} {v : Value} {n : Nat} {xs : List Value} {X : World} (h : X.ownsRow base e size v n xs) (g : Nat) (hg : v.ownBlock = some g) : base ≤ g ∧ g < X.heap.size := by
  obtain ⟨hl, h⟩ := h
  rcases h with ⟨rfl, _⟩ | ⟨g', cap, cur, rfl, hb, hc, _⟩
  · cases hg
  · simp [Value.ownBlock] at hg
    subst hg
    exact ⟨hb, (Array.getElem?_eq_some_iff.1 hc).1⟩
/-- A line stored elsewhere, the line that it holds stored. -/
theorem HoldF.other5 {w W : World} {room : Int} {L : List Ln} {n : Ln} {v : Value} {V : World} (h : HoldF w W room L n v V) (b : Nat) (l : Ln) (h1 : w.heap.size + 2 < b) (hp : ∀ g, v.ownBlock = some g → b ≠ g) : HoldF w W room L n v (set5 V b l) := by
  obtain ⟨a0, a1, a2, a3, a4⟩ := h
  exact ⟨a0.oth5 l (by omega), a1.oth5 l (by omega), a2.oth5 l (by omega), row5 a3 b l hp, below5 a4 b l (by omega)⟩
theorem HoldF.put5 {w W : World} {room : Int} {L : List Ln} {n : Ln} {v : Value} {V : World} (h : HoldF w W room L n v V) (l : Ln) (hW : w.heap.size + 2 < W.heap.size + 4) : HoldF w W room L l v (set5 V (w.heap.size + 2) l) := by
  obtain ⟨a0, a1, a2, a3, a4⟩ := h
  exact ⟨a0.oth5 l (by omega), a1.oth5 l (by omega), a2.set5 l, row5 a3 _ l (fun g hg => by have := (row_lt a3 g hg).1; omega), below5 a4 _ l (by omega)⟩
theorem cell_five (w : World) (x y n m u : Value) (t : TypeId) (b : Nat) (h : b = w.heap.size) : ∀ (j : Nat) (z : Value), [x, y, n, m, u][j]? = some z → (w.alloc (.cells #[x, y, n, m, u] t)).cell? ((⟨b, 0, none⟩ : Addr).add j) = some z := by
  intro j z hj
  subst h
  match j, hj with
  | 0, hj => simp at hj; subst hj; simp [Addr.add]
  | 1, hj => simp at hj; subst hj; simp [Addr.add]
  | 2, hj => simp at hj; subst hj; simp [Addr.add]
  | 3, hj => simp at hj; subst hj; simp [Addr.add]
  | 4, hj => simp at hj; subst hj; simp [Addr.add]

theorem boxesF (w : World) (room : Int) (s : ByteArray) (W : World)
    (hW : W = (((w.alloc (.cells #[.int .i64 room] 3)).alloc (.cells #[.slice none 0 0] 453)).alloc (.cells #[.int .i64 0, .int .i64 0, .int .i64 0, .int .i64 0, .int .i64 0] 456)).alloc (.cells #[.string s] 9)) :
    W.heap.size = w.heap.size + 4 ∧ HoldF w W room [] zeroL (.slice none 0 0) W ∧ Blk W (w.heap.size + 3) #[.string s] 9 := by
  have b1 := bel4 w (.cells #[.int .i64 room] 3) (.cells #[.slice none 0 0] 453) (.cells #[.int .i64 0, .int .i64 0, .int .i64 0, .int .i64 0, .int .i64 0] 456) (.cells #[.string s] 9)
  rw [← hW] at b1
  refine ⟨by rw [hW]; simp, ⟨?_, ?_, ?_, World.ownsRow_nil _ _ _ _, b1⟩, by rw [hW]; exact blk3 w _ _ _ _ _⟩
  · rw [hW]; exact (((Blk.new w _ _).alloc _).alloc _).alloc _
  · rw [hW]
    have := ((Blk.new (w.alloc (.cells #[.int .i64 room] 3)) #[.slice none 0 0] 453).alloc (.cells #[.int .i64 0, .int .i64 0, .int .i64 0, .int .i64 0, .int .i64 0] 456)).alloc (.cells #[.string s] 9)
    rwa [World.size_alloc] at this
  · rw [hW]; exact (blk2 w _ _ _ _).alloc _

theorem row_weaken {base base' : Nat} {e : TypeId} {size : Nat} {v : Value} {n : Nat} {xs : List Value} {X : World} (h : X.ownsRow base e size v n xs) (hb : base' ≤ base) : X.ownsRow base' e size v n xs := by
  obtain ⟨hl, h⟩ := h
  refine ⟨hl, ?_⟩
  rcases h with h | ⟨g, cap, cur, rfl, h0, h1⟩
  · exact .inl h
  · exact .inr ⟨g, cap, cur, rfl, Nat.le_trans hb h0, h1⟩

set_option maxRecDepth 10000 in
set_option maxHeartbeats 1000000 in
theorem folded_any (s : ByteArray) (room : Int) (w : World) (T : Tabs w) (hsh : Short s) :
    Calls Tryz.prog 151 #[.string s, .int .i64 room] w fun e w' => ∃ v, e = .returned v ∧ w'.ownsRow w.heap.size 456 5 v (linesOf s room).length (flatL (linesOf s room)) ∧ Below w.heap.size w w' := by
  refine (callsIn_wide (n := 3)).1 ?_
  refine callsIn_of_wp_marks Tryz.func151 rfl trivial ?_ rfl
  simp only [Tryz.ntmps151, List.size_toArray, List.length_cons, List.length_nil, Nat.reduceAdd, Nat.reduceSub, Array.replicate_succ, Array.replicate_zero, List.push_toArray, List.append_toArray, List.nil_append, List.cons_append]
  gi_wp2_with fail
  refine ⟨trivial, (callsIn_wide.2 (pieces_any s _)).mono ?_⟩
  rintro e w1 ⟨rfl, rfl⟩
  gi_wp2_with fail
  obtain ⟨W, hW⟩ : ∃ W, W = (((w.alloc (.cells #[.int .i64 room] 3)).alloc (.cells #[.slice none 0 0] 453)).alloc (.cells #[.int .i64 0, .int .i64 0, .int .i64 0, .int .i64 0, .int .i64 0] 456)).alloc (.cells #[.string s] 9) := ⟨_, rfl⟩
  obtain ⟨sW, h0, k3⟩ := boxesF w room s W hW
  rw [← hW]
  clear hW
  refine range_p w T (w.heap.size + 3) s (Same.of h0.2.2.2.2) k3 (fun k => (w.heap.size ≤ k ∧ k < w.heap.size + 3) ∨ W.heap.size + 4 ≤ k) (fun k hk => ⟨by omega, by omega, by omega, by omega⟩) rfl rfl
    (fun pre V => ∃ (L : List Ln) (n : Ln) (v : Value), HoldF w W room L n v V ∧ (OkL n pre.length ∧ L.length ≤ 2 * pre.length ∧ ∀ rest, foldL room (pre ++ rest) [] zeroL = foldL room rest L n))
    (fun _ _ _ => False)
    ?hI (fun _ _ _ _ _ h _ _ => h) ?hS (fun _ _ _ _ _ h => h) ⟨[], zeroL, _, h0, ⟨by simp [zeroL], by simp [zeroL], by simp [zeroL]⟩, by simp, fun rest => by simp⟩
    (BoxP (w.heap.size + 3) (fun x b => { tmps := #[.string s, .int .i64 room, undef, .pointer (some ⟨w.heap.size, 0, none⟩), .slice none 0 0, .pointer (some ⟨w.heap.size + 1, 0, none⟩), .pointer (some ⟨w.heap.size + 1 + 1, 0, none⟩), .pointer (some ⟨b, 0, none⟩), undef, .string s, .func (.func 162) #[] #[.pointer (some ⟨w.heap.size + 1 + 1 + 1, 0, none⟩)], pcV x.fr x.to x.r (width x.r), undef, undef, undef, undef, undef, undef, undef, undef, undef, undef, undef, undef, undef, undef, undef, undef, undef, undef, undef, undef, undef, undef], defers := [] })) (boxP_own _ _ _) ?assign ?body ?done ?stop
  case hI =>
    rintro pre X Y row ⟨L, n, v, h, q⟩ hg hr
    exact ⟨L, n, v, holdF_own (β := Unit) (by omega) () X Y row h hg hr, q⟩
  case hS =>
    rintro pre V o u ⟨L, n, v, h, q⟩
    exact ⟨L, n, v, h.set _ _ _ (by omega) (by omega), q⟩
  case assign =>
    rintro l pre x V K ⟨L, n, v, h, q⟩ hz hK
    simp only [pcE]
    gi_wp2
    exact hK _ _ ((KeepsOthers.alloc _ _).from _) (Kept.below ((Below.refl _ V).alloc (Nat.le_refl _) _)) ⟨L, n, v, h.below ((Below.refl _ V).alloc (Nat.le_refl _) _), q⟩ ⟨V.heap.size, by omega, Blk.new V _ _, rfl⟩
  case body =>
    rintro l pre x a' V ⟨L0, n0, v0, h, q1, q2, q3⟩ ⟨b, hb, bx, rfl⟩ hok hz
    have hl : pre.length + 1 ≤ 1099511627776 := by have h1 := hok.length_le; have h2 := pcs_len s; rw [List.length_append, List.length_singleton] at h1; unfold Short at hsh; omega
    have HQ : Hid (∀ rest, foldL room (pre ++ rest) [] zeroL = foldL room rest L0 n0) := q3
    have HsW : Hid (W.heap.size = w.heap.size + 4) := sW
    clear q3 hok T sW h0
    gi_wp2
    gi_loopw [] (fun wr => ∃ (L : List Ln) (n : Ln) (v : Value) (f : Nat), (HoldF w W room L n v wr ∧ Blk wr b #[.int .i64 x.fr, .int .i64 x.to, .int .i32 x.r, .int .i64 (width x.r)] 464 ∧ Kept (fun k => (w.heap.size ≤ k ∧ k < w.heap.size + 3) ∨ W.heap.size + 4 ≤ k) V wr ∧ KeepsFrom W.heap.size V wr) ∧
        (OkL n pre.length ∧ mea n x room < f ∧ L.length + f ≤ 2 * pre.length + 3 ∧ squeeze 3 room x L0 n0 = squeeze f room x L n))
      (fun wr => mea (lnAt wr (w.heap.size + 2)) x room)
    case atStart =>
      refine ⟨L0, n0, v0, 3, ⟨h, bx, Kept.refl _ _, KeepsFrom.refl _ _⟩, q1, ?_, by omega, rfl⟩
      unfold mea
      split
      · omega
      · split <;> omega
    case round =>
      obtain ⟨L, n, v, f, HR, o1, o2, o3, o4⟩ := hrel
      have HH : Hid ((HoldF w W room L n v wr ∧ Blk wr b #[.int .i64 x.fr, .int .i64 x.to, .int .i32 x.r, .int .i64 (width x.r)] 464 ∧ Kept (fun k => (w.heap.size ≤ k ∧ k < w.heap.size + 3) ∨ W.heap.size + 4 ≤ k) V wr ∧ KeepsFrom W.heap.size V wr) ∧ (mea n x room < f ∧ L.length + f ≤ 2 * pre.length + 3 ∧ squeeze 3 room x L0 n0 = squeeze f room x L n)) := ⟨HR, o2, o3, o4⟩
      obtain ⟨⟨a0, a1, a2, a3, a4⟩, bx', kp, kf⟩ := HR
      have c0 := a0.at1
      obtain ⟨d0, d1, d2, d3, d4⟩ := a2.at5
      obtain ⟨e0, e1, e2, e3⟩ := bx'.at4
      clear a0 a1 a2 a3 a4 bx' kp kf o2 o3 o4
      gi_wp2_with fail
      refine ⟨trivial, (CallsIn.inRound l (callsIn_wide.2 (fits_any n x room wr pre.length o1 (by omega)))).mono ?_⟩
      rintro e w1 ⟨rfl, hb1⟩
      have H1 : Hid (HoldF w W room L n v w1 ∧ Blk w1 b #[.int .i64 x.fr, .int .i64 x.to, .int .i32 x.r, .int .i64 (width x.r)] 464 ∧ Kept (fun k => (w.heap.size ≤ k ∧ k < w.heap.size + 3) ∨ W.heap.size + 4 ≤ k) V w1 ∧ KeepsFrom W.heap.size V w1) := by
        obtain ⟨⟨hh, bx', kp, kf⟩, _⟩ := HH.out
        exact ⟨hh.below hb1, bx'.below hb1, kp.trans (Kept.below hb1), ⟨Nat.le_trans kf.size hb1.size, fun k o hk e ho => by have := kf.same k o hk e ho; exact (hb1.block k (Array.getElem?_eq_some_iff.1 this).1).trans this⟩⟩
      clear c0 d0 d1 d2 d3 d4 e0 e1 e2 e3 hb1
      cases hf : fitB n x room
      · have H1' := H1.out
        obtain ⟨⟨a0, a1, a2, a3, a4⟩, bx', kp, kf⟩ := H1'
        have hlt2 : w.heap.size + 2 < w1.heap.size := a2.lt
        have hltb : b < w1.heap.size := bx'.lt
        have d := fun ob => (a2.alloc ob).at5
        have e := fun ob => (bx'.alloc ob).at4
        have d0 := fun ob => (d ob).1
        have d1 := fun ob => (d ob).2.1
        have d2 := fun ob => (d ob).2.2.1
        have d3 := fun ob => (d ob).2.2.2.1
        have d4 := fun ob => (d ob).2.2.2.2
        have e0 := fun ob => (e ob).1
        have e1 := fun ob => (e ob).2.1
        have e2 := fun ob => (e ob).2.2.1
        have e3 := fun ob => (e ob).2.2.2
        clear d e a0 a1 a2 a3 a4 bx' kp kf
        gi_wp2_with fail
        refine ⟨trivial, (CallsIn.inRound l (callsIn_wide.2 (parted_any n x _ pre.length o1 (by omega)))).mono ?_⟩
        rintro e w2 ⟨rfl, hb2⟩
        clear d0 d1 d2 d3 d4 e0 e1 e2 e3
        have H2 : Hid (HoldF w W room L n v w2 ∧ Blk w2 b #[.int .i64 x.fr, .int .i64 x.to, .int .i32 x.r, .int .i64 (width x.r)] 464 ∧ Kept (fun k => (w.heap.size ≤ k ∧ k < w.heap.size + 3) ∨ W.heap.size + 4 ≤ k) V w2 ∧ KeepsFrom W.heap.size V w2 ∧ Blk w2 w1.heap.size #[.int .i64 0, .int .i64 0, .int .i64 0, .int .i64 0, .int .i64 0] 456 ∧ W.heap.size + 4 ≤ w1.heap.size) := by
          obtain ⟨hh, bx', kp, kf⟩ := H1.out
          have hb3 : Below w1.heap.size w1 w2 := ((Below.refl _ w1).alloc (Nat.le_refl _) _).trans (hb2.mono (by simp))
          exact ⟨hh.below hb3, bx'.below hb3, kp.trans (Kept.below hb3), ⟨Nat.le_trans kf.size hb3.size, fun k o hk e ho => by have := kf.same k o hk e ho; exact (hb3.block k (Array.getElem?_eq_some_iff.1 this).1).trans this⟩, (Blk.new w1 _ _).below hb2, by have := kp.1; omega⟩
        obtain ⟨st, hst⟩ : ∃ st, st = stays n x := ⟨_, rfl⟩
        obtain ⟨go, hgo⟩ : ∃ go, go = goes n x := ⟨_, rfl⟩
        rw [← hst, ← hgo]
        have HS : Hid (st = stays n x ∧ go = goes n x) := ⟨hst, hgo⟩
        clear hst hgo hb2
        obtain ⟨i0, hi, hz0, hz1, hz2⟩ := info_parts info_line
        have H2' := H2.out
        obtain ⟨⟨a0, a1, a2, a3, a4⟩, bx', kp, kf, wb, hwb⟩ := H2'
        have c1 := a1.at1
        obtain ⟨d0, d1, d2, d3, d4⟩ := a2.at5
        obtain ⟨g0, g1, g2, g3, g4⟩ := wb.at5
        have fr1 := a1.frozen 0
        have fr2 := a2.frozen
        have fr3 := wb.frozen
        obtain ⟨nb, hnb⟩ : ∃ nb, nb = w.heap.size + 1 + 1 := ⟨_, rfl⟩
        obtain ⟨ab, hab⟩ : ∃ ab, ab = w.heap.size + 1 := ⟨_, rfl⟩
        obtain ⟨zb, hzb⟩ : ∃ zb, zb = w1.heap.size := ⟨_, rfl⟩
        rw [show w.heap.size + 2 = nb by omega] at d0 d1 d2 d3 d4 fr2
        rw [← hab] at c1 fr1
        rw [← hzb] at g0 g1 g2 g3 g4 fr3
        rw [← hnb, ← hab, ← hzb]
        have n1 : nb ≠ zb := by omega
        have n2 : zb ≠ nb := by omega
        have n3 : ab ≠ zb := by omega
        have n4 : zb ≠ ab := by omega
        have n5 : ab ≠ nb := by omega
        have n6 : nb ≠ ab := by omega
        have HN : Hid (nb = w.heap.size + 1 + 1 ∧ ab = w.heap.size + 1 ∧ zb = w1.heap.size) := ⟨hnb, hab, hzb⟩
        clear hnb hab hzb hlt2 hltb hwb
        clear a0 a1 a2 a3 a4 bx' kp kf wb
        gi_wp2_with (gi_at_builtin; refine wpListIn_append_own _ rfl _ _ 453 rfl (W.heap.size + 4) 456 i0 (.agg #[.int .i64 0, .int .i64 0, .int .i64 0, .int .i64 0, .int .i64 0]) 5 40 Tryz.underlying453 hi hz0 hz1 hz2 rfl (by decide) v L.length (flatL L) rfl ?own _ 1 1 (lnC st).toList rfl rfl ?c1 ?c2 ?c3 ?c4 ?c5 ?_)
        case own =>
          obtain ⟨hnb, hab, hzb⟩ := HN.out
          obtain ⟨hh, bx', kp, kf, wb, hwb⟩ := H2.out
          have sW := HsW.out
          have a3 := H1.out.1.2.2.2.1
          have z1 := hh.other5 zb st (by omega) (fun g hg => by have := (row_lt a3 g hg).2; omega)
          have z2 := z1.put5 go (by omega)
          rw [show w.heap.size + 2 = nb by omega] at z2
          exact row_below z2.2.2.2.1 ((Below.refl _ _).alloc (Nat.le_refl _) _)
        case c2 => exact ⟨rfl, rfl, rfl, rfl, rfl⟩
        case c3 => have := HH.out.2.2.1; unfold maxLen; omega
        case c4 => have := HH.out.2.2.1; omega
        case c5 =>
          have := H2.out.2.2.1.1
          have := size5 w2 zb st
          have := size5 (set5 w2 zb st) nb go
          rw [World.size_alloc]
          show W.heap.size + 4 ≤ (set5 (set5 w2 zb st) nb go).heap.size + 1
          omega
        intro v' w3 hown' hgrow hnil
        have R : (∀ u, HoldF w W room (L ++ [st]) go v' (w3.setCell ⟨ab, 0, none⟩ v') ∧ Blk (w3.setCell ⟨ab, 0, none⟩ u) b #[.int .i64 x.fr, .int .i64 x.to, .int .i32 x.r, .int .i64 (width x.r)] 464 ∧ Kept (fun k => (w.heap.size ≤ k ∧ k < w.heap.size + 3) ∨ W.heap.size + 4 ≤ k) V (w3.setCell ⟨ab, 0, none⟩ u) ∧ KeepsFrom W.heap.size V (w3.setCell ⟨ab, 0, none⟩ u)) ∧ Blk w3 ab #[v] 453 := by
          obtain ⟨hnb, hab, hzb⟩ := HN.out
          obtain ⟨hh, bx', kp, kf, wb, hwb⟩ := H2.out
          have sW := HsW.out
          have a3 := H1.out.1.2.2.2.1
          have bl := H1.out.2.1.lt
          have ob : ∀ g, v.ownBlock = some g → zb ≠ g := fun g hg => by have := (row_lt a3 g hg).2; omega
          obtain ⟨Z, hZ⟩ : ∃ Z, Z = (set5 (set5 w2 zb st) nb go).alloc (.cells (lnC st) 456) := ⟨_, rfl⟩
          have hgrow' : Z.grownBy w3 v.ownBlock := by rw [hZ]; exact hgrow
          have zb' : Below (set5 (set5 w2 zb st) nb go).heap.size (set5 (set5 w2 zb st) nb go) Z := by rw [hZ]; exact (Below.refl _ _).alloc (Nat.le_refl _) _
          have z1 := hh.other5 zb st (by omega) ob
          have z2 := z1.put5 go (by omega)
          rw [show w.heap.size + 2 = nb by omega] at z2
          have zh := z2.below zb'
          have zx : Blk Z b #[.int .i64 x.fr, .int .i64 x.to, .int .i32 x.r, .int .i64 (width x.r)] 464 := ((bx'.oth5 st (by omega)).oth5 go (by omega)).below zb'
          have zk := ((kp.set5 zb st (.inr (by omega))).set5 nb go (.inl (by omega))).trans (Kept.below zb')
          have zf := keepsB (keeps5 (keeps5 kf zb st) nb go) zb'
          obtain ⟨a0, a1, a2, ar, a4⟩ := zh
          have gr := row_grown ar hgrow'
          have b0 : Blk w3 w.heap.size #[.int .i64 room] 3 := gr _ _ (.inl (by omega)) a0
          have b1 : Blk w3 (w.heap.size + 1) #[v] 453 := gr _ _ (.inl (by omega)) a1
          have b2 : Blk w3 (w.heap.size + 2) (lnC go) 456 := gr _ _ (.inl (by omega)) a2
          have bb : Blk w3 b #[.int .i64 x.fr, .int .i64 x.to, .int .i32 x.r, .int .i64 (width x.r)] 464 := by
            refine (hgrow'.block b zx.lt (fun e => ?_)).trans zx
            obtain ⟨_, hr⟩ := ar
            rcases hr with ⟨hv, _⟩ | ⟨g, cap, cur, hv, _, hc, _⟩
            · rw [hv] at e; cases e
            · rw [hv] at e
              simp [Value.ownBlock] at e
              subst e
              rw [show Z.heap[b]? = _ from zx] at hc
              cases hc
          have b4 : Below w.heap.size w w3 := a4.grown hgrow' a4.size (fun g hg => by have := (row_lt ar g hg).1; omega)
          have bk : Kept (fun k => (w.heap.size ≤ k ∧ k < w.heap.size + 3) ∨ W.heap.size + 4 ≤ k) V w3 := zk.trans ⟨hgrow'.size, fun k o hk _ e => gr k o (.inl (by omega)) e⟩
          have bf : KeepsFrom W.heap.size V w3 := ⟨Nat.le_trans zf.size hgrow'.size, fun k o hk e ho => gr k o (.inr ho) (zf.same k o hk e ho)⟩
          rw [hab]
          refine ⟨fun u => ⟨⟨b0.other _ _ (by simp), b1.put1 _, b2.other _ _ (by simp), ?_, b4.setCell (p := ⟨w.heap.size + 1, 0, none⟩) (by simp) _⟩, bb.other _ _ (by simp; omega), bk.set _ _ _ (.inl (by omega)), KeepsFrom.set bf _ _⟩, b1⟩
          rw [List.length_append, flatL_snoc]
          exact row_set hown' _ _ (by simp; omega)
        obtain ⟨g', cap', rfl⟩ := ownsRow_succ hown'
        have HR3 : Hid ((∀ u, HoldF w W room (L ++ [st]) go (.slice (some ⟨g', 0, none⟩) (L.length + 1) cap') (w3.setCell ⟨ab, 0, none⟩ (.slice (some ⟨g', 0, none⟩) (L.length + 1) cap')) ∧ Blk (w3.setCell ⟨ab, 0, none⟩ u) b #[.int .i64 x.fr, .int .i64 x.to, .int .i32 x.r, .int .i64 (width x.r)] 464 ∧ Kept (fun k => (w.heap.size ≤ k ∧ k < w.heap.size + 3) ∨ W.heap.size + 4 ≤ k) V (w3.setCell ⟨ab, 0, none⟩ u) ∧ KeepsFrom W.heap.size V (w3.setCell ⟨ab, 0, none⟩ u)) ∧ Blk w3 ab #[v] 453) := R
        have x1 := R.2.at1
        have x2 := R.2.frozen 0
        clear R hown' hgrow hnil c1 fr1 d0 d1 d2 d3 d4 g0 g1 g2 g3 g4 fr2 fr3
        gi_wp2
        obtain ⟨hnb, hab, hzb⟩ := HN.out
        obtain ⟨hst, hgo⟩ := HS.out
        obtain ⟨⟨hh, _⟩, o2, o3, o4⟩ := HH.out
        obtain ⟨r1, r2, r3, r4⟩ := HR3.out.1 (.slice (some ⟨g', 0, none⟩) (L.length + 1) cap')
        have m1 := lnAt_of hh.2.2.1
        have m2 := lnAt_of r1.2.2.1
        have mg := mea_goes n x room hf
        rw [← hgo] at mg
        obtain ⟨f', rfl⟩ : ∃ f', f = f' + 1 := ⟨f - 1, by omega⟩
        have sq : squeeze (f' + 1) room x L n = squeeze f' room x (L ++ [st]) go := by rw [squeeze, hf, hst, hgo]; rfl
        refine ⟨?_, by rw [m1, m2]; exact mg⟩
        have rel : ∃ (L' : List Ln) (n' : Ln) (v' : Value) (f : Nat), (HoldF w W room L' n' v' (w3.setCell ⟨ab, 0, none⟩ (.slice (some ⟨g', 0, none⟩) (L.length + 1) cap')) ∧ Blk (w3.setCell ⟨ab, 0, none⟩ (.slice (some ⟨g', 0, none⟩) (L.length + 1) cap')) b #[.int .i64 x.fr, .int .i64 x.to, .int .i32 x.r, .int .i64 (width x.r)] 464 ∧ Kept (fun k => (w.heap.size ≤ k ∧ k < w.heap.size + 3) ∨ W.heap.size + 4 ≤ k) V (w3.setCell ⟨ab, 0, none⟩ (.slice (some ⟨g', 0, none⟩) (L.length + 1) cap')) ∧ KeepsFrom W.heap.size V (w3.setCell ⟨ab, 0, none⟩ (.slice (some ⟨g', 0, none⟩) (L.length + 1) cap'))) ∧
            (OkL n' pre.length ∧ mea n' x room < f ∧ L'.length + f ≤ 2 * pre.length + 3 ∧ squeeze 3 room x L0 n0 = squeeze f room x L' n') :=
          ⟨L ++ [st], go, _, f', ⟨r1, r2, r3, r4⟩, by rw [hgo]; exact o1.goes x, by omega, by rw [List.length_append, List.length_singleton]; omega, o4.trans sq⟩
        subst hnb hab
        (repeat apply Exists.intro)
        exact ⟨rel, rfl⟩
      · have H1' := H1.out
        obtain ⟨⟨a0, a1, a2, a3, a4⟩, bx', kp, kf⟩ := H1'
        obtain ⟨d0, d1, d2, d3, d4⟩ := a2.at5
        obtain ⟨e0, e1, e2, e3⟩ := bx'.at4
        clear a0 a1 a2 a3 a4 bx' kp kf
        gi_wp2_with fail
        refine ⟨trivial, (CallsIn.inRound l (callsIn_wide.2 (with_any n x _ pre.length o1 (by omega)))).mono ?_⟩
        rintro e w2 ⟨rfl, hb2⟩
        clear d0 d1 d2 d3 d4 e0 e1 e2 e3
        have H2 : Hid (HoldF w W room L n v w2 ∧ Kept (fun k => (w.heap.size ≤ k ∧ k < w.heap.size + 3) ∨ W.heap.size + 4 ≤ k) V w2 ∧ KeepsFrom W.heap.size V w2) := by
          obtain ⟨hh, bx', kp, kf⟩ := H1.out
          exact ⟨hh.below hb2, kp.trans (Kept.below hb2), keepsB kf hb2⟩
        obtain ⟨wl, hwl⟩ : ∃ wl, wl = withL n x := ⟨_, rfl⟩
        rw [← hwl]
        have HWl : Hid (wl = withL n x) := hwl
        clear hwl hb2
        have b2 := H2.out.1.2.2.1
        obtain ⟨d0, d1, d2, d3, d4⟩ := b2.at5
        have fr2 := b2.frozen
        clear b2
        gi_wp2
        obtain ⟨hh, kp, kf⟩ := H2.out
        obtain ⟨_, o2, o3, o4⟩ := HH.out
        have sW := HsW.out
        have hwl := HWl.out
        have sq : squeeze f room x L n = (L, n) := by
          obtain ⟨f', rfl⟩ : ∃ f', f = f' + 1 := ⟨f - 1, by omega⟩
          rw [squeeze, hf]; rfl
        refine ⟨keeps5 kf (w.heap.size + 2) wl, kp.set5 (w.heap.size + 2) wl (.inl (by omega)), L, wl, v, hh.put5 wl (by omega), ?_, ?_, fun rest => ?_⟩
        · rw [hwl, List.length_append, List.length_singleton]; exact o1.with x
        · rw [List.length_append, List.length_singleton]; omega
        · rw [List.append_assoc, HQ.out]
          simp only [List.cons_append, List.nil_append, foldL]
          rw [o4, sq, hwl]
  case done =>
    rintro D V hD ⟨L, n, v, h, q1, q2, q3⟩ hK
    have hl : (pcs s).length ≤ 1099511627776 := Nat.le_trans (pcs_len s) hsh
    have e : foldL room (pcs s) [] zeroL = (L, n) := by have := q3 []; rw [List.append_nil] at this; exact this
    have HE : Hid (linesOf s room = L ++ [n]) := by unfold Hid linesOf; rw [e]
    have HV : Hid (HoldF w W room L n v V ∧ W.heap.size = w.heap.size + 4) := ⟨h, sW⟩
    obtain ⟨i0, hi, hz0, hz1, hz2⟩ := info_parts info_line
    have c1 := h.2.1.at1
    obtain ⟨d0, d1, d2, d3, d4⟩ := h.2.2.1.at5
    clear h e q3 q1 T h0 k3 sW
    gi_wp2_with (gi_at_builtin; refine wpListIn_append_own _ rfl _ _ 453 rfl w.heap.size 456 i0 (.agg #[.int .i64 0, .int .i64 0, .int .i64 0, .int .i64 0, .int .i64 0]) 5 40 Tryz.underlying453 hi hz0 hz1 hz2 rfl (by decide) v L.length (flatL L) rfl ?own2 _ 1 1 (lnC n).toList rfl rfl ?c12 ?c22 ?c32 ?c42 ?c52 ?_)
    case own2 => exact row_weaken (row_below HV.out.1.2.2.2.1 ((Below.refl _ _).alloc (Nat.le_refl _) _)) (by have := HV.out.2; omega)
    case c22 => exact ⟨rfl, rfl, rfl, rfl, rfl⟩
    case c32 => unfold maxLen; omega
    case c42 => omega
    case c52 => have := HV.out.1.2.2.2.2.size; rw [World.size_alloc]; omega
    intro v' w3 hown' hgrow hnil
    have ar : (V.alloc (.cells (lnC n) 456)).ownsRow w.heap.size 456 5 v L.length (flatL L) := row_weaken (row_below HV.out.1.2.2.2.1 ((Below.refl _ _).alloc (Nat.le_refl _) _)) (by have := HV.out.2; omega)
    have gr := row_grown ar hgrow
    have hK1 : (V.alloc (.cells (lnC n) 456)).heap[D]? = some (.deferred (some [])) := (((Below.refl _ V).alloc (Nat.le_refl _) _).block D (Array.getElem?_eq_some_iff.1 hK).1).trans hK
    have hK3 : w3.heap[D]? = some (.deferred (some [])) := gr D _ (.inr rfl) hK1
    have a4 := HV.out.1.2.2.2.2
    have b4 : Below w.heap.size w w3 := (a4.alloc a4.size _).grown hgrow (by have := a4.size; rw [World.size_alloc]; omega) (fun g hg => (row_lt ar g hg).1)
    have HR : Hid (w3.ownsRow w.heap.size 456 5 v' (L.length + 1) (flatL L ++ (lnC n).toList) ∧ Below w.heap.size w w3 ∧ w3.heap[D]? = some (.deferred (some []))) := ⟨hown', b4, hK3⟩
    clear gr ar hK1 hK3 a4 b4 hown' hgrow hnil hK c1 d0 d1 d2 d3 d4
    gi_wp2
    obtain ⟨r1, r2, r3⟩ := HR.out
    have hWw := HV.out.2
    refine leave1 rfl r3 ⟨v', rfl, ?_, below_left r2 (by omega) _⟩
    rw [HE.out, List.length_append, flatL_snoc]
    exact OwnFrom.putObj (β := Unit) (B := 0) (s := ()) row_own _ r1 (Nat.zero_le _) r3 rfl
  case stop =>
    rintro D c pre V _ _ h _
    exact h.elim

end Go.Proofs.YtbnbfgkcndomaabGreatDoor
