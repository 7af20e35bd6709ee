/-
  Package cells: drawFrame.
-/
import Derived.Test.YtapachlhdgehjaaGreatDoorK27
import Derived.Test.YtapachlhdgehjaaGreatDoorK26
import Derived.Test.YtapachlhdgehjaaGreatDoorK11
namespace Go.Proofs.YtapachlhdgehjaaGreatDoor
open Go.RowKit Go.Shelf
attribute [local go_sem] Oper.semAt_some

theorem arr67 (t : Array Value) (h : t.size = 67) : ∃ u : Nat → Value, t = #[u 0, u 1, u 2, u 3, u 4, u 5, u 6, u 7, u 8, u 9, u 10, u 11, u 12, u 13, u 14, u 15, u 16, u 17, u 18, u 19, u 20, u 21, u 22, u 23, u 24, u 25, u 26, u 27, u 28, u 29, u 30, u 31, u 32, u 33, u 34, u 35, u 36, u 37, u 38, u 39, u 40, u 41, u 42, u 43, u 44, u 45, u 46, u 47, u 48, u 49, u 50, u 51, u 52, u 53, u 54, u 55, u 56, u 57, u 58, u 59, u 60, u 61, u 62, u 63, u 64, u 65, u 66] ∧ ∀ k x, t[k]? = some x → u k = x := by
  refine ⟨fun k => t.getD k undef, ?_, fun k x hx => ?_⟩
  · have e : t = ((List.range 67).map fun k => t.getD k undef).toArray := by
      apply Array.ext
      · simp [h]
      · intro i h1 h2
        simp [Array.getD, h1]
    exact e
  · simp [Array.getD_eq_getD_getElem?, hx]

structure FrX (w : World) (lo g n cap a b x y m hh : Nat) (s : St) (L : List Ce) (v : Value) (Ds : List Nat) (i : Nat) (V : World) : Prop where
  f : FiM w lo g n cap (w.heap.size + 1) s (((bordL s.r).take i).foldl (sideU s a x y m hh) L) V
  sc : Blk V w.heap.size #[.int .i64 (a : Nat), .int .i64 (b : Nat), .slice (some ⟨g, 0, none⟩) n cap] 26
  ar : Blk V (w.heap.size + 1 + 1) #[.int .i64 (x : Nat), .int .i64 (y : Nat), .int .i64 (m : Nat), .int .i64 (hh : Nat)] 52
  rw : V.ownsRow (w.heap.size + 3) 52 4 v (bordL s.r).length (flat (bordL s.r))
  ms : Mks V Ds
  lo : ∀ D ∈ Ds, w.heap.size + 3 ≤ D
  le : i ≤ (bordL s.r).length
structure FrT (w : World) (g n cap a b x y m hh : Nat) (s : St) (v : Value) (t : Array Value) (i : Nat) : Prop where
  z : t.size = 67
  t0 : t[0]? = some (.agg #[.int .i64 (a : Nat), .int .i64 (b : Nat), .slice (some ⟨g, 0, none⟩) n cap])
  t1 : t[1]? = some (Value.agg #[.int .u8 s.k, .int .i64 s.r.x, .int .i64 s.r.y, .int .i64 s.r.w, .int .i64 s.r.h, .int .u8 s.c.r, .int .u8 s.c.g, .int .u8 s.c.b, .int .u8 s.c.a, .int .u8 s.b.r, .int .u8 s.b.g, .int .u8 s.b.b, .int .u8 s.b.a, .string s.t, .int .i64 s.n])
  t2 : t[2]? = some (.agg #[.int .i64 (x : Nat), .int .i64 (y : Nat), .int .i64 (m : Nat), .int .i64 (hh : Nat)])
  t3 : t[3]? = some (.pointer (some ⟨w.heap.size, 0, none⟩))
  t4 : t[4]? = some (.pointer (some ⟨w.heap.size + 1, 0, none⟩))
  t5 : t[5]? = some (.pointer (some ⟨w.heap.size + 1 + 1, 0, none⟩))
  t18 : t[18]? = some v
  t19 : t[19]? = some (.int .i64 ((bordL s.r).length : Nat))
  t20 : t[20]? = some (.int .i64 (i : Nat))

theorem sub_next {n i : Nat} (h : i < n) : n - (i + 1) < n - i := by omega
theorem bord_none {r : Rc} (h : r.h ≤ 0) : bordL r = [] := by
  unfold bordL lesL
  rw [if_neg]
  intro hc
  simp only [Bool.and_eq_true] at hc
  have h1 := may_iff.1 hc.1
  have h2 := hc.2.2
  unfold emptyB at h2
  rw [hc.1, show (r.h == 0) = true by simpa using (by omega : r.h = 0)] at h2
  simp at h2
theorem ins_small1 (x y n m : Int) : I64 (insR x y n m 1).x ∧ I64 (insR x y n m 1).y := by
  have z : I64 zr.x ∧ I64 zr.y := ⟨⟨by decide, by decide⟩, ⟨by decide, by decide⟩⟩
  unfold insR
  split
  · unfold szR
    split
    · next h => have := may_bd h; exact ⟨⟨by omega, by omega⟩, ⟨by omega, by omega⟩⟩
    · exact z
  · exact z
theorem FrX.step {w : World} {lo g n cap a b x y m hh : Nat} {s : St} {L : List Ce} {v : Value} {Ds : List Nat} {i : Nat} {V W : World} {D : Nat} {q : Rc} (h : FrX w lo g n cap a b x y m hh s L v Ds i V) (hi : i < (bordL s.r).length) (hq : q = (bordL s.r)[i]) (hgl : g < w.heap.size)
    (k : V.grownBy W (some g)) (hm : ScM lo W g n cap (sideU s a x y m hh (((bordL s.r).take i).foldl (sideU s a x y m hh) L) q)) (hD : V.heap.size ≤ D) (hd : W.heap[D]? = some (.deferred (some []))) : FrX w lo g n cap a b x y m hh s L v (D :: Ds) (i + 1) W := by
  have ob : ∀ b0 (cs : Array Value) (t : TypeId), Blk V b0 cs t → b0 ≠ g → Blk W b0 cs t := fun b0 cs t hb hne => (k.block b0 hb.lt (fun e => by injection e with e; omega)).trans hb
  have l0 := h.f.k.lt
  have l1 := h.sc.lt
  have l2 := h.ar.lt
  refine ⟨⟨?_, ob_transC h.f.d k, ob _ _ _ h.f.k (by omega)⟩, ob _ _ _ h.sc (by omega), ob _ _ _ h.ar (by omega), ?_, ?_, ?_, hi⟩
  · rw [List.take_succ_eq_append_getElem hi, List.foldl_append, ← hq]
    exact hm
  · obtain ⟨hl, h0 | ⟨gv, cv, cur, e, p1, p2, p3⟩⟩ := h.rw
    · exact ⟨hl, .inl h0⟩
    · exact ⟨hl, .inr ⟨gv, cv, cur, e, p1, (k.block gv (Array.getElem?_eq_some_iff.1 p2).1 (fun e => by injection e with e; omega)).trans p2, p3⟩⟩
  · refine Mks.cons (h.ms.grown k fun D' hD' e => ?_) hd fun hm2 => ?_
    · injection e with e
      have := h.lo D' hD'
      omega
    · have h3 := h.ms.2 D hm2
      have := (Array.getElem?_eq_some_iff.1 h3).1
      omega
  · intro D' hD'
    rcases List.mem_cons.1 hD' with rfl | hD'
    · omega
    · exact h.lo D' hD'

theorem frm_ok {s : St} (hc : s.c.ok) (a k : Nat) (d : Ce) (hd : d.c.ok ∧ d.b.ok) : (frmF s a k d).c.ok ∧ (frmF s a k d).b.ok := by
  unfold frmF
  split
  · exact ⟨over_ok hc hd.2, hd.2⟩
  · exact hd
theorem sides_wf {s : St} (hc : s.c.ok) (a x y m hh : Nat) : ∀ (l : List Rc) (L : List Ce), WfC L → WfC (l.foldl (sideU s a x y m hh) L)
  | [], _, h => h
  | _ :: l, _, h => sides_wf hc a x y m hh l _ (wfc_updQ h _ _ _ _ _ (frm_ok hc a))
structure FrI (V : World) (lo g n cap bt sb : Nat) (s : St) (X Y M H : Nat) (L : List Ce) (W : World) : Prop where
  f : FiM V lo g n cap bt s L W
  k : Blk W sb #[.int .i64 (X : Nat), .int .i64 (Y : Nat), .int .i64 (M : Nat), .int .i64 (H : Nat)] 52
theorem FrI.own {V : World} {lo g n cap bt sb D : Nat} {s : St} {X Y M H : Nat} {β : Type} (L : β → List Ce) (hD : V.heap.size ≤ D) (hb : bt < D) (hg : g < D) (hs : sb < D) : OwnFrom D (fun x W => FrI V lo g n cap bt sb s X Y M H (L x) W) := by
  intro x A B row h gr hr
  refine ⟨FiM.own L hD hb hg x A B row h.f gr hr, ?_⟩
  exact (gr.block sb h.k.lt (fun e => by obtain ⟨h1, _⟩ := hr sb e.symm; omega)).trans h.k
theorem FrI.set {V : World} {lo g n cap bt sb ob : Nat} {s : St} {X Y M H : Nat} {L : List Ce} {W : World} (h : FrI V lo g n cap bt sb s X Y M H L W) (h1 : ob ≠ g) (h2 : ob ≠ bt) (h3 : V.heap.size ≤ ob) (h4 : ob ≠ sb) (o : Nat) (v : Value) : FrI V lo g n cap bt sb s X Y M H L (W.setCell ⟨ob, o, none⟩ v) :=
  ⟨h.f.set h1 h2 h3 o v, (Below.heap_setCell _ _ _ sb (Ne.symm h4)).trans h.k⟩

def FrJ (g B M cc k bt : Nat) (rv : Int) (sc zb ov : Co) (P Q : World → Prop) (b : Nat → Bool) (u47 u48 u49 u50 u51 u52 u53 u54 u55 u56 u57 u58 u59 u60 u61 u62 u63 u64 : Value) (x : World) : Prop :=
  (b 0 = true → u47 = .slice (some ⟨g, B, none⟩) M cc) ∧
  (b 1 = true → u48 = .int .i64 (k : Nat)) ∧
  (b 2 = true → u49 = .int .i32 rv) ∧
  (b 3 = true → u50 = .pointer (some ⟨bt, 5, none⟩)) ∧
  (b 4 = true → b 3 = true ∧ u51 = (Value.agg #[.int .u8 sc.r, .int .u8 sc.g, .int .u8 sc.b, .int .u8 sc.a])) ∧
  (b 5 = true → u52 = .slice (some ⟨g, B, none⟩) M cc) ∧
  (b 6 = true → u53 = .int .i64 (k : Nat)) ∧
  (b 7 = true → b 5 = true ∧ b 6 = true ∧ u54 = .pointer (some ⟨g, B + k * 11, none⟩)) ∧
  (b 8 = true → b 7 = true ∧ u55 = .pointer (some ⟨g, B + k * 11 + 5, none⟩)) ∧
  (b 9 = true → b 8 = true ∧ u56 = (Value.agg #[.int .u8 zb.r, .int .u8 zb.g, .int .u8 zb.b, .int .u8 zb.a])) ∧
  (b 10 = true → b 4 = true ∧ b 9 = true ∧ u57 = (Value.agg #[.int .u8 ov.r, .int .u8 ov.g, .int .u8 ov.b, .int .u8 ov.a])) ∧
  (b 11 = true → u58 = .slice (some ⟨g, B, none⟩) M cc) ∧
  (b 12 = true → u59 = .int .i64 (k : Nat)) ∧
  (b 13 = true → b 11 = true ∧ b 12 = true ∧ u60 = .pointer (some ⟨g, B + k * 11, none⟩)) ∧
  (b 14 = true → b 13 = true ∧ u61 = .pointer (some ⟨g, B + k * 11 + 5, none⟩)) ∧
  (b 15 = true → b 14 = true ∧ u62 = (Value.agg #[.int .u8 zb.r, .int .u8 zb.g, .int .u8 zb.b, .int .u8 zb.a])) ∧
  (b 16 = true → b 2 = true ∧ b 10 = true ∧ b 15 = true ∧ u63 = .agg #[.int .i32 rv, .int .u8 ov.r, .int .u8 ov.g, .int .u8 ov.b, .int .u8 ov.a, .int .u8 zb.r, .int .u8 zb.g, .int .u8 zb.b, .int .u8 zb.a, .bool false, .bool false]) ∧
  (b 17 = true → b 0 = true ∧ b 1 = true ∧ u64 = .pointer (some ⟨g, B + k * 11, none⟩)) ∧
  (b 18 = false → P x) ∧
  (b 18 = true → Q x) ∧
  (b 18 = true → b 0 = true ∧ b 1 = true ∧ b 2 = true ∧ b 3 = true ∧ b 4 = true ∧ b 5 = true ∧ b 6 = true ∧ b 7 = true ∧ b 8 = true ∧ b 9 = true ∧ b 10 = true ∧ b 11 = true ∧ b 12 = true ∧ b 13 = true ∧ b 14 = true ∧ b 15 = true ∧ b 16 = true ∧ b 17 = true)

set_option maxRecDepth 20000 in
set_option maxHeartbeats 16000000 in
theorem frame_any : LFrm := by
  intro lo g n cap a b x y m hh L s w h hs hN hm hx hy hc hL hr hrx hry hrw hrh HBox
  refine (callsIn_wide (n := 3)).1 ?_
  refine callsIn_of_wp_marks Tryz.func62 rfl trivial ?_ rfl
  simp only [Tryz.ntmps62, List.size_toArray, List.length_cons, List.length_nil, Nat.reduceAdd, Nat.reduceSub, Array.replicate_succ, Array.replicate_zero, List.push_toArray, List.append_toArray, List.nil_append, List.cons_append]
  by_cases h0 : s.c.a = 0
  · have hid : updQ L a x y m hh (frmF s a) = L := by
      have e := updQ_congr (L := L) (a := a) (x := x) (y := y) (m := m) (j := hh) (f := frmF s a) (f' := fun _ c => c) (fun k c _ _ _ _ => by unfold frmF; rw [if_neg (fun hq => by rw [h0] at hq; exact absurd hq.2 (by decide))])
      rw [e]
      apply List.ext_getElem (updQ_len _ _ _ _ _ _ _)
      intro k h1 h2
      simp [updQ]
    rw [hid]
    have HF : Hid (∀ W, Below w.heap.size w W → ScM lo W g n cap L ∧ w.grownBy W (some g)) := fun W hb => ⟨h.below hb, hb.os, hb.tape, hb.output, hb.size, fun b hb' _ => hb.block b hb'⟩
    have HB : Hid (∀ c d e, Below w.heap.size w (((w.alloc c).alloc d).alloc e)) := fun c d e => (((Below.refl _ w).alloc (Nat.le_refl _) _).alloc (by simp) _).alloc (by simp; omega) _
    clear h hid HBox
    gi_wp2
    exact leave0F (v := .tuple #[]) (by simp [results, Tryz.results62, go_sem]) ⟨rfl, HF.out _ (HB.out _ _ _)⟩
  · have h00 : (s.c.a == 0) = false := by simpa using h0
    have H0 : Hid (0 < s.c.a) := by have := hc.2.2.2; unfold By at this; unfold Hid; omega
    clear h0
    have hbd := may_bd hr
    have hmb := szB_iff.1 hs
    have hma : mayB x y m hh = true := may_iff.2 (by omega)
    have HBi : Hid (∀ q ∈ bordL s.r, I64 q.x ∧ I64 q.y) := fun q hq => by
      by_cases h2 : 0 < s.r.h
      · have := may_bd (show mayB q.x q.y q.w q.h = true from (bord_sub hr (by omega) h2 hq).1)
        exact ⟨⟨by omega, by omega⟩, ⟨by omega, by omega⟩⟩
      · rw [bord_none (by omega)] at hq
        cases hq
    have HBn : Hid ((bordL s.r).length ≤ 4) := by
      by_cases h2 : 0 < s.r.h
      · rw [bord_form hr (by omega) h2]
        split
        · exact (by decide : 1 ≤ 4)
        · exact Nat.le_refl _
      · rw [bord_none (by omega)]
        exact Nat.zero_le _
    have HBa : Hid ((bordL s.r).foldl (sideU s a x y m hh) L = updQ L a x y m hh (frmF s a)) := by
      by_cases h2 : 0 < s.r.h
      · exact bord_all L hma hr (by omega) h2 hrx hry hrw hrh
      · have h3 : hh = 0 := by omega
        rw [bord_none (by omega), h3, updQ_zero]
        rfl
    obtain ⟨W3, hW3⟩ : ∃ W3, W3 = ((w.alloc (.cells #[.int .i64 (a : Nat), .int .i64 (b : Nat), .slice (some ⟨g, 0, none⟩) n cap] 26)).alloc (.cells (#[.int .u8 s.k, .int .i64 s.r.x, .int .i64 s.r.y, .int .i64 s.r.w, .int .i64 s.r.h, .int .u8 s.c.r, .int .u8 s.c.g, .int .u8 s.c.b, .int .u8 s.c.a, .int .u8 s.b.r, .int .u8 s.b.g, .int .u8 s.b.b, .int .u8 s.b.a, .string s.t, .int .i64 s.n]) 55)).alloc (.cells #[.int .i64 (x : Nat), .int .i64 (y : Nat), .int .i64 (m : Nat), .int .i64 (hh : Nat)] 52) := ⟨_, rfl⟩
    have H3 : Hid (FiM w lo g n cap (w.heap.size + 1) s L W3 ∧ Blk W3 w.heap.size #[.int .i64 (a : Nat), .int .i64 (b : Nat), .slice (some ⟨g, 0, none⟩) n cap] 26 ∧ Blk W3 (w.heap.size + 1 + 1) #[.int .i64 (x : Nat), .int .i64 (y : Nat), .int .i64 (m : Nat), .int .i64 (hh : Nat)] 52 ∧ W3.heap.size = w.heap.size + 3) := by
      have k1 := Blk.new w #[.int .i64 (a : Nat), .int .i64 (b : Nat), .slice (some ⟨g, 0, none⟩) n cap] 26
      have k2 := Blk.new (w.alloc (.cells #[.int .i64 (a : Nat), .int .i64 (b : Nat), .slice (some ⟨g, 0, none⟩) n cap] 26)) (#[.int .u8 s.k, .int .i64 s.r.x, .int .i64 s.r.y, .int .i64 s.r.w, .int .i64 s.r.h, .int .u8 s.c.r, .int .u8 s.c.g, .int .u8 s.c.b, .int .u8 s.c.a, .int .u8 s.b.r, .int .u8 s.b.g, .int .u8 s.b.b, .int .u8 s.b.a, .string s.t, .int .i64 s.n]) 55
      have k3 := Blk.new ((w.alloc (.cells #[.int .i64 (a : Nat), .int .i64 (b : Nat), .slice (some ⟨g, 0, none⟩) n cap] 26)).alloc (.cells (#[.int .u8 s.k, .int .i64 s.r.x, .int .i64 s.r.y, .int .i64 s.r.w, .int .i64 s.r.h, .int .u8 s.c.r, .int .u8 s.c.g, .int .u8 s.c.b, .int .u8 s.c.a, .int .u8 s.b.r, .int .u8 s.b.g, .int .u8 s.b.b, .int .u8 s.b.a, .string s.t, .int .i64 s.n]) 55)) #[.int .i64 (x : Nat), .int .i64 (y : Nat), .int .i64 (m : Nat), .int .i64 (hh : Nat)] 52
      simp only [World.size_alloc] at k2 k3
      have hb : Below w.heap.size w W3 := by rw [hW3]; exact (((Below.refl _ w).alloc (Nat.le_refl _) _).alloc (by simp) _).alloc (by simp; omega) _
      rw [hW3] at hb ⊢
      exact ⟨⟨h.below hb, ⟨hb.os, hb.tape, hb.output, hb.size, fun b hb' _ => hb.block b hb'⟩, k2.alloc _⟩, (k1.alloc _).alloc _, k3, by simp⟩
    have HBo : Hid (∀ W, Calls Tryz.prog 94 #[.agg #[.int .i64 s.r.x, .int .i64 s.r.y, .int .i64 s.r.w, .int .i64 s.r.h]] W fun e w' => ∃ v, e = .returned v ∧ w'.ownsRow W.heap.size 52 4 v (bordL s.r).length (flat (bordL s.r)) ∧ Below W.heap.size W w') := fun W => by
      have hi := ins_small1 s.r.x s.r.y s.r.w s.r.h
      exact border_any s.r W ⟨by omega, by omega⟩ ⟨by omega, by omega⟩ hi.1 hi.2
    have cc := H3.out.1.k.cell
    have a1 := cc 1
    have a2 := cc 2
    have a3 := cc 3
    have a4 := cc 4
    have a8 := cc 8
    simp only [List.getElem?_toArray, List.getElem?_cons_zero, List.getElem?_cons_succ] at a1 a2 a3 a4 a8
    rw [hW3] at a1 a2 a3 a4 a8
    clear cc
    gi_wp2_with fail
    rw [← hW3]
    clear hW3 a1 a2 a3 a4 a8
    refine ⟨trivial, (callsIn_wide.2 (HBo.out _)).mono ?_⟩
    rintro e w4 ⟨v, rfl, hv, hb4⟩
    have H4 : Hid (FrX w lo g n cap a b x y m hh s L v [] 0 w4) := by
      have h3 := H3.out
      rw [h3.2.2.2] at hv
      have hkl := h3.1.k.lt
      have hgl := h3.1.m.lt
      exact ⟨⟨h3.1.m.same (hb4.block g hgl.2), ⟨hb4.os.trans h3.1.d.os, hb4.tape.trans h3.1.d.tape, hb4.output.trans h3.1.d.output, Nat.le_trans h3.1.d.size hb4.size, fun b hb hr => (hb4.block b (Nat.lt_of_lt_of_le hb h3.1.d.size)).trans (h3.1.d.block b hb hr)⟩, h3.1.k.below hb4⟩, h3.2.1.below hb4, h3.2.2.1.below hb4, hv, ⟨List.nodup_nil, (fun D hD => by cases hD)⟩, (fun D hD => by cases hD), Nat.zero_le _⟩
    obtain ⟨ov, cv, rfl, hcv, hgv⟩ := row_val hv
    clear hv hb4 H3 HBo
    gi_wp2_with fail
    refine wpIn_loop (fun ac V => ∃ (i : Nat) (Ds : List Nat) (t : Array Value), ac = { tmps := t, defers := mkD Ds } ∧ FrT w g n cap a b x y m hh s (.slice ov (bordL s.r).length cv) t i ∧ Hid (FrX w lo g n cap a b x y m hh s L (.slice ov (bordL s.r).length cv) Ds i V)) (fun ac _ => (bordL s.r).length - (intOf (ac.tmps.getD 20 undef)).toNat) ?_ ?_
    · exact ⟨0, [], _, rfl, ⟨rfl, rfl, rfl, rfl, rfl, rfl, rfl, rfl, rfl, rfl⟩, H4⟩
    · clear H4
      rintro ac V ⟨i, Ds, t, rfl, ht, HX⟩
      obtain ⟨u, hu, hk⟩ := arr67 t ht.z
      have e0 := hk 0 _ ht.t0
      have e1 := hk 1 _ ht.t1
      have e2 := hk 2 _ ht.t2
      have e3 := hk 3 _ ht.t3
      have e4 := hk 4 _ ht.t4
      have e5 := hk 5 _ ht.t5
      have e18 := hk 18 _ ht.t18
      have e19 := hk 19 _ ht.t19
      have e20 := hk 20 _ ht.t20
      clear ht hk
      subst hu
      rw [e0, e1, e2, e3, e4, e5, e18, e19, e20]
      clear e0 e1 e2 e3 e4 e5 e18 e19 e20
      have HL : Hid (ScM lo w g n cap L ∧ WfC L ∧ mayB x y m hh = true ∧ zMa s.r = true ∧ 0 < s.r.w ∧ (0 < s.r.h ∨ hh = 0) ∧ s.r.x ≤ x ∧ s.r.y ≤ y ∧ (x : Int) + m ≤ s.r.x + s.r.w ∧ (y : Int) + hh ≤ s.r.y + s.r.h) := ⟨h, hL, may_iff.2 (by omega), hr, by omega, by omega, hrx, hry, hrw, hrh⟩
      by_cases hlt : i < (bordL s.r).length
      · have ik : (i : Int) < (bordL s.r).length := by omega
        obtain ⟨gv, rfl, hgv1, hgv2⟩ := hgv (by omega)
        obtain ⟨q, hq⟩ : ∃ q, q = (bordL s.r)[i] := ⟨_, rfl⟩
        have hqi : I64 q.x ∧ I64 q.y := HBi.out q (by rw [hq]; exact List.getElem_mem hlt)
        obtain ⟨f0, f1, f2, f3⟩ := flat_at (bordL s.r) i hlt
        rw [← hq] at f0 f1 f2 f3
        have HQ : Hid (q = (bordL s.r)[i]) := hq
        clear hq
        have hrwx := HX.out.rw
        have q0 : V.cell? ⟨gv, i * 4, none⟩ = some (.int .i64 q.x) := (own_cell hrwx _ (by omega)).trans f0
        have q1 : V.cell? ⟨gv, i * 4 + 1, none⟩ = some (.int .i64 q.y) := (own_cell hrwx _ (by omega)).trans f1
        have q2 : V.cell? ⟨gv, i * 4 + 2, none⟩ = some (.int .i64 q.w) := (own_cell hrwx _ (by omega)).trans f2
        have q3 : V.cell? ⟨gv, i * 4 + 3, none⟩ = some (.int .i64 q.h) := (own_cell hrwx _ (by omega)).trans f3
        clear f0 f1 f2 f3 hrwx
        obtain ⟨sb, hsb⟩ : ∃ sb, sb = V.heap.size := ⟨_, rfl⟩
        have HS1 : Hid (Blk (V.alloc (.cells #[.int .i64 q.x, .int .i64 q.y, .int .i64 q.w, .int .i64 q.h] 52)) sb #[.int .i64 q.x, .int .i64 q.y, .int .i64 q.w, .int .i64 q.h] 52) := by rw [hsb]; exact Blk.new _ _ _
        obtain ⟨r0, r1, r2, r3⟩ := (HX.out.ar.alloc (.cells #[.int .i64 q.x, .int .i64 q.y, .int .i64 q.w, .int .i64 q.h] 52)).at4
        gi_wp2_with fail
        rw [← hsb]
        have HSb : Hid (sb = V.heap.size) := hsb
        clear hsb
        refine ⟨trivial, (callsIn_wide.2 (meet_any q.x q.y q.w q.h x y m hh _ hqi.1 hqi.2 ⟨by omega, by omega⟩ ⟨by omega, by omega⟩)).mono ?_⟩
        rintro e V2 ⟨rfl, hb2⟩
        have hfit := meet_fit (q := q) (x := x) (y := y) (m := m) (hh := hh)
        obtain ⟨R, hR⟩ : ∃ R, R = meetR q.x q.y q.w q.h x y m hh := ⟨_, rfl⟩
        have HU : Hid (∀ M, sideU s a x y m hh M q = updQ M a R.x.toNat R.y.toNat R.w.toNat R.h.toNat (frmF s a)) := fun M => by rw [hR]; rfl
        rw [← hR] at hfit ⊢
        have HR0 : Hid (R = meetR q.x q.y q.w q.h x y m hh) := hR
        clear hR
        obtain ⟨X, Y, M, H⟩ := R
        simp only at hfit HU ⊢
        obtain ⟨X, rfl⟩ : ∃ k : Nat, X = k := ⟨X.toNat, by omega⟩
        obtain ⟨Y, rfl⟩ : ∃ k : Nat, Y = k := ⟨Y.toNat, by omega⟩
        obtain ⟨M, rfl⟩ : ∃ k : Nat, M = k := ⟨M.toNat, by omega⟩
        obtain ⟨H, rfl⟩ : ∃ k : Nat, H = k := ⟨H.toNat, by omega⟩
        simp only [Int.toNat_natCast] at HU
        have HS2 : Hid (Blk V2 sb #[.int .i64 q.x, .int .i64 q.y, .int .i64 q.w, .int .i64 q.h] 52 ∧ Below V.heap.size V V2) := ⟨HS1.out.below hb2, ((Below.refl _ V).alloc (Nat.le_refl _) _).trans (hb2.mono (by simp))⟩
        clear HS1 hb2 r0 r1 r2 r3 q0 q1 q2 q3
        obtain ⟨r0, r1, r2, r3⟩ := HS2.out.1.at4
        have g0 := HS2.out.1.frozen 0
        have g1 := HS2.out.1.frozen 1
        have g2 := HS2.out.1.frozen 2
        have g3 := HS2.out.1.frozen 3
        have HS3 : Hid (∀ W, W = (((V2.setCell ⟨sb, 0, none⟩ (.int .i64 (X : Nat))).setCell ⟨sb, 1, none⟩ (.int .i64 (Y : Nat))).setCell ⟨sb, 2, none⟩ (.int .i64 (M : Nat))).setCell ⟨sb, 3, none⟩ (.int .i64 (H : Nat)) → Blk W sb #[.int .i64 (X : Nat), .int .i64 (Y : Nat), .int .i64 (M : Nat), .int .i64 (H : Nat)] 52 ∧ Below V.heap.size V W) := fun W hW => by
          have bl : ∀ (A : World) (o : Nat) (vv : Value), Below V.heap.size V A → Below V.heap.size V (A.setCell ⟨sb, o, none⟩ vv) := fun A o vv hA => hA.setCell (p := ⟨sb, o, none⟩) (by show V.heap.size ≤ sb; have := HSb.out; omega) vv
          rw [hW]
          exact ⟨HS2.out.1.put4 _ _ _ _, bl _ _ _ (bl _ _ _ (bl _ _ _ (bl _ _ _ HS2.out.2)))⟩
        have s0 := (HX.out.sc.below HS2.out.2).cell 0
        have s1 := (HX.out.sc.below HS2.out.2).cell 1
        have s2 := (HX.out.sc.below HS2.out.2).cell 2
        simp only [List.getElem?_toArray, List.getElem?_cons_zero, List.getElem?_cons_succ] at s0 s1 s2
        have hws : ¬ w.heap.size = sb := by have := HX.out.sc.lt; have := HSb.out; omega
        have hws2 : ¬ sb = w.heap.size := by omega
        clear HS2
        gi_wp2_with fail
        obtain ⟨V3, hV3⟩ : ∃ V3, V3 = (((V2.setCell ⟨sb, 0, none⟩ (.int .i64 (X : Nat))).setCell ⟨sb, 1, none⟩ (.int .i64 (Y : Nat))).setCell ⟨sb, 2, none⟩ (.int .i64 (M : Nat))).setCell ⟨sb, 3, none⟩ (.int .i64 (H : Nat)) := ⟨_, rfl⟩
        have HV3 := show Hid _ from HS3.out V3 hV3
        rw [← hV3]
        clear hV3 HS3 r0 r1 r2 r3 g0 g1 g2 g3 s0 s1 s2 hws hws2
        refine ⟨trivial, (callsIn_wide.2 (rows_any _ _ _ _ _ _ _ _ _ _ rfl _)).mono ?_⟩
        rintro e V4' ⟨rfl, rfl⟩
        gi_wp2_with fail
        obtain ⟨V4, hV4⟩ : ∃ V4, V4 = (V3.alloc (.cells #[.int .i64 (a : Nat), .int .i64 (b : Nat), .slice (some ⟨g, 0, none⟩) n cap] 26)).alloc (.cells #[.int .i64 (X : Nat), .int .i64 (Y : Nat), .int .i64 (M : Nat), .int .i64 (H : Nat)] 52) := ⟨_, rfl⟩
        have HV4 : Hid (Blk V4 V3.heap.size #[.int .i64 (a : Nat), .int .i64 (b : Nat), .slice (some ⟨g, 0, none⟩) n cap] 26 ∧ Blk V4 (V3.heap.size + 1) #[.int .i64 (X : Nat), .int .i64 (Y : Nat), .int .i64 (M : Nat), .int .i64 (H : Nat)] 52 ∧ Blk V4 sb #[.int .i64 (X : Nat), .int .i64 (Y : Nat), .int .i64 (M : Nat), .int .i64 (H : Nat)] 52 ∧ Below V.heap.size V V4 ∧ V4.heap.size = V3.heap.size + 2 ∧ sb < V3.heap.size ∧ V.heap.size ≤ V3.heap.size) := by
          have k1 := Blk.new V3 #[.int .i64 (a : Nat), .int .i64 (b : Nat), .slice (some ⟨g, 0, none⟩) n cap] 26
          have k2 := Blk.new (V3.alloc (.cells #[.int .i64 (a : Nat), .int .i64 (b : Nat), .slice (some ⟨g, 0, none⟩) n cap] 26)) #[.int .i64 (X : Nat), .int .i64 (Y : Nat), .int .i64 (M : Nat), .int .i64 (H : Nat)] 52
          simp only [World.size_alloc] at k2
          have hz3 := HV3.out.2.size
          rw [hV4]
          exact ⟨k1.alloc _, k2, (HV3.out.1.alloc _).alloc _, (HV3.out.2.alloc hz3 _).alloc (by simp; omega) _, by simp, HV3.out.1.lt, hz3⟩
        have hz4 := HV4.out.2.2.2.2.1
        have hz5 := HV4.out.2.2.2.2.2
        have hgl := h.lt
        have hcap := h.cap
        have hvl := HX.out.f.k.lt
        have hsbv : V.heap.size ≤ sb := by have := HSb.out; omega
        rw [← hV4]
        clear hV4 HV3
        have HSq : Hid (SeqD Fence.wide 2 Tryz.prog 125 #[.pointer (some ⟨V3.heap.size + 1, 0, none⟩), .pointer (some ⟨V3.heap.size, 0, none⟩)] (prR g a X M cap) (KpB (V3.heap.size + 1) V3.heap.size) (· = rwY Y H) (· <+: rwY Y H) (fun pre r => pre ++ [r] <+: rwY Y H) (V3.heap.size + 1) V4) := by
          by_cases hM : M = 0
          · have hH : H = 0 := by have := hfit.2.2.2.2.2.2; omega
            subst hM hH
            exact rows_none 2 (V3.heap.size + 1) V3.heap.size g a X Y 0 cap V4 HV4.out.2.1 (by omega)
          · exact rows_seq 2 (V3.heap.size + 1) V3.heap.size g a b X Y M H n cap V4 HV4.out.2.1 HV4.out.1 hs hN hcap (by omega) (by omega) (by omega)
        obtain ⟨Lc, hLc⟩ : ∃ Lc, Lc = ((bordL s.r).take i).foldl (sideU s a x y m hh) L := ⟨_, rfl⟩
        have HLc : Hid (Lc = ((bordL s.r).take i).foldl (sideU s a x y m hh) L ∧ WfC Lc) := ⟨hLc, by rw [hLc]; exact sides_wf hc a x y m hh _ L hL⟩
        have HI0 : Hid (FrI V lo g n cap (w.heap.size + 1) sb s X Y M H Lc V4) := by
          have hb := HV4.out.2.2.2.1
          rw [hLc]
          exact ⟨⟨HX.out.f.m.below hb, ⟨hb.os, hb.tape, hb.output, hb.size, fun b hb' _ => hb.block b hb'⟩, HX.out.f.k.below hb⟩, HV4.out.2.2.1⟩
        clear hLc
        refine range_d (n := 3) (w := V4) rfl (by omega) (gf := 125) (lb := #[.pointer (some ⟨V3.heap.size + 1, 0, none⟩), .pointer (some ⟨V3.heap.size, 0, none⟩)]) rfl trivial (enters_of Tryz.func125 (by kernel_rfl) rfl) (ob := V3.heap.size + 1) (by omega) (by omega)
          HSq.out (fun h k => h.trans k) (fun W' l' o' o'' hl' _ _ _ => KpB.put (by omega) (by omega)) (fun _ => rfl)
          (fun pre W => FrI V lo g n cap (w.heap.size + 1) sb s X Y M H (updQ Lc a X Y M pre.length (frmF s a)) W) (fun _ _ _ => False)
          ?hI (fun _ _ _ _ _ h _ _ => h) ?hS (fun _ _ _ _ _ h => h) ?h0I
          (fun r a' _ => a' = { tmps := #[.agg #[.int .i64 (a : Nat), .int .i64 (b : Nat), .slice (some ⟨g, 0, none⟩) n cap], (Value.agg #[.int .u8 s.k, .int .i64 s.r.x, .int .i64 s.r.y, .int .i64 s.r.w, .int .i64 s.r.h, .int .u8 s.c.r, .int .u8 s.c.g, .int .u8 s.c.b, .int .u8 s.c.a, .int .u8 s.b.r, .int .u8 s.b.g, .int .u8 s.b.b, .int .u8 s.b.a, .string s.t, .int .i64 s.n]), .agg #[.int .i64 (x : Nat), .int .i64 (y : Nat), .int .i64 (m : Nat), .int .i64 (hh : Nat)], .pointer (some ⟨w.heap.size, 0, none⟩), .pointer (some ⟨w.heap.size + 1, 0, none⟩), .pointer (some ⟨w.heap.size + 1 + 1, 0, none⟩), u 6, .pointer (some ⟨sb, 0, none⟩), .int .i64 (r : Nat), .slice (some ⟨g, (r * a + X) * 11, none⟩) M (cap - (r * a + X)), u 10, u 11, u 12, u 13, u 14, u 15, u 16, u 17, .slice (some ⟨gv, 0, none⟩) (bordL s.r).length cv, .int .i64 ((bordL s.r).length : Nat), .int .i64 (i : Nat), .bool true, .pointer (some ⟨gv, i * 4, none⟩), .agg #[.int .i64 q.x, .int .i64 q.y, .int .i64 q.w, .int .i64 q.h], .agg #[.int .i64 q.x, .int .i64 q.y, .int .i64 q.w, .int .i64 q.h], .agg #[.int .i64 (x : Nat), .int .i64 (y : Nat), .int .i64 (m : Nat), .int .i64 (hh : Nat)], .agg #[.int .i64 (X : Nat), .int .i64 (Y : Nat), .int .i64 (M : Nat), .int .i64 (H : Nat)], .agg #[.int .i64 (a : Nat), .int .i64 (b : Nat), .slice (some ⟨g, 0, none⟩) n cap], .agg #[.int .i64 (X : Nat), .int .i64 (Y : Nat), .int .i64 (M : Nat), .int .i64 (H : Nat)], .func (.func 125) #[] #[.pointer (some ⟨V3.heap.size + 1, 0, none⟩), .pointer (some ⟨V3.heap.size, 0, none⟩)], .int .i64 (r : Nat), .slice (some ⟨g, (r * a + X) * 11, none⟩) M (cap - (r * a + X)), u 32, u 33, u 34, u 35, u 36, u 37, u 38, u 39, u 40, u 41, u 42, u 43, u 44, u 45, u 46, u 47, u 48, u 49, u 50, u 51, u 52, u 53, u 54, u 55, u 56, u 57, u 58, u 59, u 60, u 61, u 62, u 63, u 64, u 65, u 66], defers := [] }) (fun r a' => ?hAx) ?assign ?body ?done (fun _ _ _ _ _ _ h _ => h.elim)
        case hI => exact FrI.own (fun pre : List Nat => updQ Lc a X Y M pre.length (frmF s a)) (by omega) (by omega) (by omega) (by omega)
        case hS => exact fun pre W o vv hW => hW.set (by omega) (by omega) (by omega) (by omega) o vv
        case h0I =>
          rw [List.length_nil, updQ_zero]
          exact HI0.out
        case hAx => exact ownFrom_pure _ _
        case assign =>
          intro lp pre r W K hi hz hK
          simp only [prR]
          gi_wp2
          exact hK _ _ ((KeepsOthers.refl _).from _) (KpB.refl _ _ _) hi rfl
        case body =>
          rintro lp pre r a' W HP rfl hlen hz
          obtain ⟨hr1, hr2⟩ := rwY_step hlen
          have hM : 0 < M := by have := hfit.2.2.2.2.2.2; omega
          have hrb : r < b := by omega
          have hrow := row_fit hN (show X + M ≤ a by omega) hrb
          obtain ⟨f, hf⟩ : ∃ f, f = frmF s a := ⟨_, rfl⟩
          obtain ⟨Mc, hMc⟩ : ∃ Mc, Mc = updQ Lc a X Y M pre.length (frmF s a) := ⟨_, rfl⟩
          have hwM : WfC Mc := by rw [hMc]; exact wfc_updQ HLc.out.2 a X Y M _ (frm_ok hc a)
          have hMl : Mc.length = n := by rw [hMc, updQ_len, HLc.out.1, sidesU_len]; exact h.1
          obtain ⟨o, ho⟩ : ∃ o, o = r * a + X := ⟨_, rfl⟩
          have HE : Hid (updR Mc o M f = updQ Lc a X Y M (pre ++ [r]).length (frmF s a)) := by
            have := updQ_next Lc (y := Y) (j := pre.length) (show X + M ≤ a by omega) (frmF s a)
            rw [← hr1, ← hMc] at this
            rw [List.length_append, List.length_singleton, ho, hf]
            exact this
          rw [← hMc] at HP
          have HW0 : Hid (FrI V lo g n cap (w.heap.size + 1) sb s X Y M H Mc W) := HP
          have HBx : Hid (∀ A, V.grownBy A (some g) → BoxM A) := fun A hA => HBox A (ob_transC HX.out.f.d hA)
          have Hpl : Hid (∀ k, k < M → (o + k) % a = X + k ∧ (o + k) / a = r) := fun k hk => by
            have ha : 0 < a := by omega
            have e : o + k = a * r + (X + k) := by rw [ho, Nat.mul_comm r a]; omega
            rw [e, Nat.mul_add_mod, Nat.mod_eq_of_lt (by omega), Nat.mul_add_div ha, Nat.div_eq_of_lt (by omega)]
            exact ⟨rfl, rfl⟩
          have Hed : Hid (∀ k, k < M → edgB s.r ((X + k : Nat) : Int) (r : Nat) = true ∧ s.r.x ≤ ((X + k : Nat) : Int) ∧ ((X + k : Nat) : Int) < s.r.x + s.r.w ∧ s.r.y ≤ (r : Nat) ∧ ((r : Nat) : Int) < s.r.y + s.r.h) := fun k hk => by
            obtain ⟨_, _, h3, h4, h5, h6, h7, h8, h9, h10⟩ := HL.out
            have hqm : q ∈ bordL s.r := by rw [HQ.out]; exact List.getElem_mem hlt
            have h6 : 0 < s.r.h := by
              rcases Int.lt_or_le 0 s.r.h with h6 | h6
              · exact h6
              · rw [bord_none h6] at hqm
                cases hqm
            obtain ⟨q1, q2, q3, _⟩ := bord_sub h4 h5 h6 hqm
            have hin : inQ (meetR q.x q.y q.w q.h x y m hh) ((X + k : Nat) : Int) (r : Nat) := by
              rw [← HR0.out]
              unfold inQ
              simp only
              omega
            obtain ⟨i1, i2⟩ := (meet_inQ q1 q2 q3 h3).1 hin
            unfold inQ at i2
            simp only at i2
            have i3 : inQ s.r ((X + k : Nat) : Int) (r : Nat) := by
              unfold inQ
              omega
            exact ⟨(bord_edge h4 i3).1 ⟨q, hqm, i1⟩, by omega, by omega, by omega, by omega⟩
          have HG : Hid (o + M ≤ n ∧ Mc.length = n ∧ WfC Mc ∧ f = frmF s a ∧ s.c.ok ∧ 0 < s.c.a) := ⟨by omega, hMl, hwM, hf, hc, H0.out⟩
          obtain ⟨B, hB⟩ : ∃ B, B = o * 11 := ⟨_, rfl⟩
          have HB : Hid (B = o * 11) := hB
          have hpo : (r * a + X) * 11 = B := by rw [hB, ho]
          rw [hpo]
          generalize cap - (r * a + X) = cc
          have hcc : M ≤ cap := by omega
          have HR2 : Hid (∀ k W', k < M → BoxM W' → Calls Tryz.prog 95 #[.agg #[.int .i64 s.r.x, .int .i64 s.r.y, .int .i64 s.r.w, .int .i64 s.r.h], .agg #[.int .i64 ((X : Int) + (k : Int)), .int .i64 (r : Nat)]] W' fun e w' => e = .returned (.int .i32 (frmR s.r ((X + k : Nat) : Int) (r : Nat))) ∧ Below W'.heap.size W' w') := fun k W' hk hb => by
            obtain ⟨k1, k2, k3, k4, k5⟩ := Hed.out k hk
            have := boxRune_any s.r ((X + k : Nat) : Int) (r : Nat) W' hb ⟨by omega, by omega⟩ ⟨by omega, by omega⟩ ⟨by omega, by omega⟩ ⟨by omega, by omega⟩ ⟨by omega, by omega⟩ ⟨by omega, by omega⟩
            rw [box_frm k1 k2 k3 k4 k5] at this
            exact this
          generalize (Value.agg #[.int .i64 (a : Nat), .int .i64 (b : Nat), .slice (some ⟨g, 0, none⟩) n cap]) = S0
          generalize (Value.agg #[.int .i64 (x : Nat), .int .i64 (y : Nat), .int .i64 (m : Nat), .int .i64 (hh : Nat)]) = S1
          generalize ((Value.agg #[.int .u8 s.k, .int .i64 s.r.x, .int .i64 s.r.y, .int .i64 s.r.w, .int .i64 s.r.h, .int .u8 s.c.r, .int .u8 s.c.g, .int .u8 s.c.b, .int .u8 s.c.a, .int .u8 s.b.r, .int .u8 s.b.g, .int .u8 s.b.b, .int .u8 s.b.a, .string s.t, .int .i64 s.n]) : Value) = S2
          generalize (Value.slice (some ⟨gv, 0, none⟩) (bordL s.r).length cv) = S3
          generalize (Value.int .i64 ((bordL s.r).length : Nat)) = S4
          generalize (Value.int .i64 (i : Nat)) = S5
          generalize (Value.pointer (some ⟨gv, i * 4, none⟩)) = S6
          generalize (Value.agg #[.int .i64 q.x, .int .i64 q.y, .int .i64 q.w, .int .i64 q.h]) = S7
          generalize (Value.agg #[.int .i64 (X : Nat), .int .i64 (Y : Nat), .int .i64 (M : Nat), .int .i64 (H : Nat)]) = S8
          generalize (Value.func (.func 125) #[] #[.pointer (some ⟨V3.heap.size + 1, 0, none⟩), .pointer (some ⟨V3.heap.size, 0, none⟩)]) = S9
          obtain ⟨S10, hS10⟩ : ∃ S10, S10 = Value.pointer (some ⟨w.heap.size, 0, none⟩) := ⟨_, rfl⟩
          rw [← hS10]
          obtain ⟨S11, hS11⟩ : ∃ S11, S11 = Value.pointer (some ⟨w.heap.size + 1 + 1, 0, none⟩) := ⟨_, rfl⟩
          rw [← hS11]
          clear hS10 hS11
          obtain ⟨bt, hbt⟩ : ∃ bt, bt = w.heap.size + 1 := ⟨_, rfl⟩
          rw [← hbt] at HW0 ⊢
          have Hbt : Hid (bt = w.heap.size + 1) := hbt
          clear hbt hf hMc HP hwM hMl ho hpo hB hr1
          gi_wp2_with fail
          gi_loopw [34] (fun vi wr => ∃ k : Nat, k ≤ M ∧ vi = .int .i64 (k : Nat) ∧ Hid (FrI V lo g n cap bt sb s X Y M H (updR Mc o k f) wr ∧ W.grownBy wr (some g))) (fun vi _ => M - (intOf vi).toNat)
          case atStart => exact ⟨0, Nat.zero_le _, rfl, by rw [updR_zero]; exact HW0.out, ⟨rfl, rfl, rfl, Nat.le_refl _, fun _ _ _ => rfl⟩⟩
          case round =>
            obtain ⟨k, hk, rfl, HR⟩ := hrel
            by_cases hlt : k < M
            · have hlk : o + k < Mc.length := by have h1 := HG.out.1; have h2 := HG.out.2.1; omega
              have hkl : o + k < (updR Mc o k f).length := by rw [updR_len]; exact hlk
              obtain ⟨z, hz⟩ : ∃ z, z = Mc[o + k] := ⟨_, rfl⟩
              have hz2 : (updR Mc o k f)[o + k] = z := by rw [updR_own Mc o k f hlk, hz]
              obtain ⟨rv, hrv⟩ : ∃ rv, rv = frmR s.r ((X + k : Nat) : Int) (r : Nat) := ⟨_, rfl⟩
              obtain ⟨sc, hsc⟩ : ∃ sc, sc = s.c := ⟨_, rfl⟩
              obtain ⟨zb, hzb⟩ : ∃ zb, zb = z.b := ⟨_, rfl⟩
              obtain ⟨ov, hov⟩ : ∃ ov, ov = overC sc zb := ⟨_, rfl⟩
              have hZ : (updR Mc o k f).set (o + k) ⟨rv, ov, zb, false, false⟩ = updR Mc o (k + 1) f := by
                have h1 := updR_next Mc o k f hlk
                rw [← hz] at h1
                rw [← h1]
                congr 1
                obtain ⟨p1, p2⟩ := Hpl.out k hlt
                have hne : rv ≠ 0 := by
                  rw [hrv]
                  intro h0
                  have h2 := (Hed.out k hlt).1
                  rw [(frm_zero _ _ _).1 h0] at h2
                  cases h2
                rw [HG.out.2.2.2.1]
                unfold frmF
                rw [p1, p2, ← hrv, if_pos ⟨hne, HG.out.2.2.2.2.2⟩, hov, hsc, hzb]
              obtain ⟨P, hP⟩ : ∃ P : World → Prop, P = fun x => FrI V lo g n cap bt sb s X Y M H (updR Mc o k f) x ∧ W.grownBy x (some g) := ⟨_, rfl⟩
              obtain ⟨Q, hQ⟩ : ∃ Q : World → Prop, Q = fun x => FrI V lo g n cap bt sb s X Y M H (updR Mc o (k + 1) f) x ∧ W.grownBy x (some g) := ⟨_, rfl⟩
              have HPb : Hid (∀ x x', P x → Below x.heap.size x x' → P x') := fun x x' hx hb => by
                rw [hP] at hx ⊢
                have gr : x.grownBy x' (some g) := ⟨hb.os, hb.tape, hb.output, hb.size, fun b hb' _ => hb.block b hb'⟩
                exact ⟨⟨⟨hx.1.f.m.below hb, ob_transC hx.1.f.d gr, hx.1.f.k.below hb⟩, hx.1.k.below hb⟩, ob_transC hx.2 gr⟩
              have HPc : Hid (∀ x, P x → x.cell? ⟨bt, 5, none⟩ = some (.int .u8 sc.r) ∧ x.cell? ⟨bt, 6, none⟩ = some (.int .u8 sc.g) ∧ x.cell? ⟨bt, 7, none⟩ = some (.int .u8 sc.b) ∧ x.cell? ⟨bt, 8, none⟩ = some (.int .u8 sc.a) ∧ x.cell? ⟨g, B + k * 11 + 5, none⟩ = some (.int .u8 zb.r) ∧ x.cell? ⟨g, B + k * 11 + 6, none⟩ = some (.int .u8 zb.g) ∧ x.cell? ⟨g, B + k * 11 + 7, none⟩ = some (.int .u8 zb.b) ∧ x.cell? ⟨g, B + k * 11 + 8, none⟩ = some (.int .u8 zb.a)) := fun x hx => by
                rw [hP] at hx
                have hat := (hx.1.f.m.look (o + k) hkl (B + k * 11) (by have := HB.out; omega)).bak
                rw [hz2, ← hzb] at hat
                have cc := hx.1.f.k.cell
                rw [hsc]
                exact ⟨cc 5, cc 6, cc 7, cc 8, hat⟩
              have HPd : Hid (∀ x, P x → x.cell? ⟨g, B + k * 11, none⟩ = some (.int .i32 z.r) ∧ x.cell? ⟨g, B + k * 11 + 1, none⟩ = some (.int .u8 z.c.r) ∧ x.cell? ⟨g, B + k * 11 + 2, none⟩ = some (.int .u8 z.c.g) ∧ x.cell? ⟨g, B + k * 11 + 3, none⟩ = some (.int .u8 z.c.b) ∧ x.cell? ⟨g, B + k * 11 + 4, none⟩ = some (.int .u8 z.c.a) ∧ x.cell? ⟨g, B + k * 11 + 5, none⟩ = some (.int .u8 z.b.r) ∧ x.cell? ⟨g, B + k * 11 + 6, none⟩ = some (.int .u8 z.b.g) ∧ x.cell? ⟨g, B + k * 11 + 7, none⟩ = some (.int .u8 z.b.b) ∧ x.cell? ⟨g, B + k * 11 + 8, none⟩ = some (.int .u8 z.b.a) ∧ x.cell? ⟨g, B + k * 11 + 9, none⟩ = some (.bool z.wd) ∧ x.cell? ⟨g, B + k * 11 + 10, none⟩ = some (.bool z.tl) ∧ x.frozen? ⟨g, B + k * 11, none⟩ = false ∧ x.frozen? ⟨g, B + k * 11 + 1, none⟩ = false ∧ x.frozen? ⟨g, B + k * 11 + 2, none⟩ = false ∧ x.frozen? ⟨g, B + k * 11 + 3, none⟩ = false ∧ x.frozen? ⟨g, B + k * 11 + 4, none⟩ = false ∧ x.frozen? ⟨g, B + k * 11 + 5, none⟩ = false ∧ x.frozen? ⟨g, B + k * 11 + 6, none⟩ = false ∧ x.frozen? ⟨g, B + k * 11 + 7, none⟩ = false ∧ x.frozen? ⟨g, B + k * 11 + 8, none⟩ = false ∧ x.frozen? ⟨g, B + k * 11 + 9, none⟩ = false ∧ x.frozen? ⟨g, B + k * 11 + 10, none⟩ = false) := fun x hx => by
                rw [hP] at hx
                have hat := hx.1.f.m.look (o + k) hkl (B + k * 11) (by have := HB.out; omega)
                rw [hz2] at hat
                obtain ⟨y0, y1, y2, y3, y4, y5, y6, y7, y8, y9, y10⟩ := hat
                have ff := hx.1.f.m.frozen
                exact ⟨y0, y1, y2, y3, y4, y5, y6, y7, y8, y9, y10, ff _, ff _, ff _, ff _, ff _, ff _, ff _, ff _, ff _, ff _, ff _⟩
              have HPs : Hid (∀ x, P x → Q ((((((((((((x).setCell ⟨g, B + k * 11, none⟩ (.int .i32 rv)).setCell ⟨g, B + k * 11 + 1, none⟩ (.int .u8 ov.r)).setCell ⟨g, B + k * 11 + 2, none⟩ (.int .u8 ov.g)).setCell ⟨g, B + k * 11 + 3, none⟩ (.int .u8 ov.b)).setCell ⟨g, B + k * 11 + 4, none⟩ (.int .u8 ov.a)).setCell ⟨g, B + k * 11 + 5, none⟩ (.int .u8 zb.r)).setCell ⟨g, B + k * 11 + 6, none⟩ (.int .u8 zb.g)).setCell ⟨g, B + k * 11 + 7, none⟩ (.int .u8 zb.b)).setCell ⟨g, B + k * 11 + 8, none⟩ (.int .u8 zb.a)).setCell ⟨g, B + k * 11 + 9, none⟩ (.bool false)).setCell ⟨g, B + k * 11 + 10, none⟩ (.bool false))) := fun x hx => by
                rw [hP] at hx
                rw [hQ]
                have h1 := hx.1.f.m.put (o + k) hkl (B + k * 11) (by have := HB.out; omega) ⟨rv, ov, zb, false, false⟩
                rw [hZ] at h1
                have gr := ob_putC x g (B + k * 11) ⟨rv, ov, zb, false, false⟩
                have hb0 := Hbt.out
                exact ⟨⟨⟨h1, ob_transC hx.1.f.d gr, (gr.block bt hx.1.f.k.lt (fun e => by injection e with e; omega)).trans hx.1.f.k⟩, (gr.block sb hx.1.k.lt (fun e => by injection e with e; omega)).trans hx.1.k⟩, ob_transC hx.2 gr⟩
              have HQ0 : Hid (∀ x, Q x → FrI V lo g n cap bt sb s X Y M H (updR Mc o (k + 1) f) x ∧ W.grownBy x (some g)) := fun x hx => by
                rw [hQ] at hx
                exact hx
              have HPx : Hid (∀ x, P x → BoxM x) := fun x hx => by
                rw [hP] at hx
                exact HBx.out x hx.1.f.d
              have HP0 : Hid (P wr) := by rw [hP]; exact HR.out
              have HOv : Hid (∀ W, Calls Tryz.prog 96 #[(Value.agg #[.int .u8 sc.r, .int .u8 sc.g, .int .u8 sc.b, .int .u8 sc.a]), (Value.agg #[.int .u8 zb.r, .int .u8 zb.g, .int .u8 zb.b, .int .u8 zb.a])] W fun e w' => e = .returned (Value.agg #[.int .u8 ov.r, .int .u8 ov.g, .int .u8 ov.b, .int .u8 ov.a]) ∧ Below W.heap.size W w') := fun W => by
                have hwz := HG.out.2.2.1 z (by rw [hz]; exact List.getElem_mem _)
                rw [hov, hsc, hzb]
                exact overK_any s.c z.b W HG.out.2.2.2.2.1 hwz.2
              have HBR : Hid (∀ W', BoxM W' → Calls Tryz.prog 95 #[.agg #[.int .i64 s.r.x, .int .i64 s.r.y, .int .i64 s.r.w, .int .i64 s.r.h], .agg #[.int .i64 ((X : Int) + (k : Int)), .int .i64 (r : Nat)]] W' fun e w' => e = .returned (.int .i32 rv) ∧ Below W'.heap.size W' w') := fun W' hb => by
                rw [hrv]
                exact HR2.out k W' hlt hb
              have cc1 := HR.out.1.f.k.cell
              have c1 := cc1 1
              have c2 := cc1 2
              have c3 := cc1 3
              have c4 := cc1 4
              simp only [List.getElem?_toArray, List.getElem?_cons_zero, List.getElem?_cons_succ] at c1 c2 c3 c4
              have b0 : wr.cell? ⟨sb, 0, none⟩ = some (.int .i64 (X : Nat)) := by rw [HR.out.1.k.cell]; rfl
              have ik : (k : Int) < M := by omega
              have hxk : IntKind.i64.wrap ((X : Int) + (k : Int)) = (X : Int) + (k : Int) := by rw [IntKind.wrap_i64]; omega
              clear hP hQ hZ hov hzb hsc hrv hz hz2 hkl hlk cc1 HR
              gi_wp2_with fail
              refine ⟨trivial, (CallsIn.inRound lp (callsIn_wide.2 (HBR.out _ (HPx.out _ HP0.out)))).mono ?_⟩
              rintro e w2 ⟨rfl, hb⟩
              have HP2 : Hid (P w2) := HPb.out _ _ HP0.out hb
              have HPdr : Hid (P w2 → P w2.drew) := fun h => HPb.out _ _ h ⟨rfl, rfl, rfl, Nat.le_refl _, fun _ _ => rfl⟩
              clear hb HP0 HBR HPx c1 c2 c3 c4 b0
              have hmo : Tryz.prog.follows Departure.mixedOrders = true := rfl
              gi_wp2_with fail
              generalize (Value.agg #[.int .i64 s.r.x, .int .i64 s.r.y, .int .i64 s.r.w, .int .i64 s.r.h]) = S12
              generalize (Value.agg #[.int .i64 ((X : Int) + (k : Int)), .int .i64 (r : Nat)]) = S13
              refine wpIn_region_inv (fun b a x => ∃ u47 u48 u49 u50 u51 u52 u53 u54 u55 u56 u57 u58 u59 u60 u61 u62 u63 u64, a = ⟨#[S0, S2, S1, S10, .pointer (some ⟨bt, 0, none⟩), S11, u 6, .pointer (some ⟨sb, 0, none⟩), .int .i64 (r : Nat), .slice (some ⟨g, B, none⟩) M cc, .int .i64 (k : Nat), .int .i32 rv, u 12, u 13, u 14, u 15, u 16, u 17, S3, S4, S5, .bool true, S6, S7, S7, S1, S8, S0, S8, S9, .int .i64 (r : Nat), .slice (some ⟨g, B, none⟩) M cc, .slice (some ⟨g, B, none⟩) M cc, .int .i64 (M : Nat), .int .i64 (k : Nat), .bool true, .int .i64 (k : Nat), .pointer (some ⟨bt, 1, none⟩), S12, .pointer (some ⟨sb, 0, none⟩), .pointer (some ⟨sb, 0, none⟩), .int .i64 (X : Nat), .int .i64 (k : Nat), .int .i64 ((X : Int) + (k : Int)), .int .i64 (r : Nat), S13, .int .i32 rv, u47, u48, u49, u50, u51, u52, u53, u54, u55, u56, u57, u58, u59, u60, u61, u62, u63, u64, u65, u 66], []⟩ ∧ Hid (FrJ g B M cc k bt rv sc zb ov P Q b u47 u48 u49 u50 u51 u52 u53 u54 u55 u56 u57 u58 u59 u60 u61 u62 u63 u64 x)) hmo (by kernel_rfl) ?_ ?_ ?_
              · exact ⟨_, _, _, _, _, _, _, _, _, _, _, _, _, _, _, _, _, _, rfl, ⟨(fun h => (by cases h)), (fun h => (by cases h)), (fun h => (by cases h)), (fun h => (by cases h)), (fun h => (by cases h)), (fun h => (by cases h)), (fun h => (by cases h)), (fun h => (by cases h)), (fun h => (by cases h)), (fun h => (by cases h)), (fun h => (by cases h)), (fun h => (by cases h)), (fun h => (by cases h)), (fun h => (by cases h)), (fun h => (by cases h)), (fun h => (by cases h)), (fun h => (by cases h)), (fun h => (by cases h)), fun _ => HPdr.out HP2.out, (fun h => by cases h), (fun h => by cases h)⟩⟩
              · intro b a x i o hI hbi ho hpre K' hK
                obtain ⟨u47, u48, u49, u50, u51, u52, u53, u54, u55, u56, u57, u58, u59, u60, u61, u62, u63, u64, rfl, HJ⟩ := hI
                have hi : i < 19 := by have := (Array.getElem?_eq_some_iff.1 ho).1; simpa using this
                rcases (show i = 0 ∨ i = 1 ∨ i = 2 ∨ i = 3 ∨ i = 4 ∨ i = 5 ∨ i = 6 ∨ i = 7 ∨ i = 8 ∨ i = 9 ∨ i = 10 ∨ i = 11 ∨ i = 12 ∨ i = 13 ∨ i = 14 ∨ i = 15 ∨ i = 16 ∨ i = 17 ∨ i = 18 by omega) with rfl | rfl | rfl | rfl | rfl | rfl | rfl | rfl | rfl | rfl | rfl | rfl | rfl | rfl | rfl | rfl | rfl | rfl | rfl
                · injection (show some _ = some o from ho) with ho
                  subst ho
                  have n18 : b 18 = false := by cases h : b 18 with | false => rfl | true => (obtain ⟨j0, j1, j2, j3, j4, j5, j6, j7, j8, j9, j10, j11, j12, j13, j14, j15, j16, j17, e0, e1, e2⟩ := HJ.out; exact absurd (hbi.symm.trans (e2 h).1) (by decide))
                  have HN : Hid (FrJ g B M cc k bt rv sc zb ov P Q (fun j => if j = 0 then true else b j) (.slice (some ⟨g, B, none⟩) M cc) u48 u49 u50 u51 u52 u53 u54 u55 u56 u57 u58 u59 u60 u61 u62 u63 u64 x) := by
                    obtain ⟨j0, j1, j2, j3, j4, j5, j6, j7, j8, j9, j10, j11, j12, j13, j14, j15, j16, j17, e0, e1, e2⟩ := HJ.out
                    exact ⟨fun _ => rfl, j1, j2, j3, j4, j5, j6, j7, j8, j9, j10, j11, j12, j13, j14, j15, j16, (fun h => absurd (hbi.symm.trans (j17 h).1) (by decide)), e0, e1, (fun h => absurd (n18.symm.trans h) (by decide))⟩
                  clear HJ hpre
                  go_simp
                  exact hK _ _ ⟨_, u48, u49, u50, u51, u52, u53, u54, u55, u56, u57, u58, u59, u60, u61, u62, u63, u64, rfl, HN⟩
                · injection (show some _ = some o from ho) with ho
                  subst ho
                  have n18 : b 18 = false := by cases h : b 18 with | false => rfl | true => (obtain ⟨j0, j1, j2, j3, j4, j5, j6, j7, j8, j9, j10, j11, j12, j13, j14, j15, j16, j17, e0, e1, e2⟩ := HJ.out; exact absurd (hbi.symm.trans (e2 h).2.1) (by decide))
                  have HN : Hid (FrJ g B M cc k bt rv sc zb ov P Q (fun j => if j = 1 then true else b j) u47 (.int .i64 (k : Nat)) u49 u50 u51 u52 u53 u54 u55 u56 u57 u58 u59 u60 u61 u62 u63 u64 x) := by
                    obtain ⟨j0, j1, j2, j3, j4, j5, j6, j7, j8, j9, j10, j11, j12, j13, j14, j15, j16, j17, e0, e1, e2⟩ := HJ.out
                    exact ⟨j0, fun _ => rfl, j2, j3, j4, j5, j6, j7, j8, j9, j10, j11, j12, j13, j14, j15, j16, (fun h => absurd (hbi.symm.trans (j17 h).2.1) (by decide)), e0, e1, (fun h => absurd (n18.symm.trans h) (by decide))⟩
                  clear HJ hpre
                  go_simp
                  exact hK _ _ ⟨u47, _, u49, u50, u51, u52, u53, u54, u55, u56, u57, u58, u59, u60, u61, u62, u63, u64, rfl, HN⟩
                · injection (show some _ = some o from ho) with ho
                  subst ho
                  have n18 : b 18 = false := by cases h : b 18 with | false => rfl | true => (obtain ⟨j0, j1, j2, j3, j4, j5, j6, j7, j8, j9, j10, j11, j12, j13, j14, j15, j16, j17, e0, e1, e2⟩ := HJ.out; exact absurd (hbi.symm.trans (e2 h).2.2.1) (by decide))
                  have HN : Hid (FrJ g B M cc k bt rv sc zb ov P Q (fun j => if j = 2 then true else b j) u47 u48 (.int .i32 rv) u50 u51 u52 u53 u54 u55 u56 u57 u58 u59 u60 u61 u62 u63 u64 x) := by
                    obtain ⟨j0, j1, j2, j3, j4, j5, j6, j7, j8, j9, j10, j11, j12, j13, j14, j15, j16, j17, e0, e1, e2⟩ := HJ.out
                    exact ⟨j0, j1, fun _ => rfl, j3, j4, j5, j6, j7, j8, j9, j10, j11, j12, j13, j14, j15, (fun h => absurd (hbi.symm.trans (j16 h).1) (by decide)), j17, e0, e1, (fun h => absurd (n18.symm.trans h) (by decide))⟩
                  clear HJ hpre
                  go_simp
                  exact hK _ _ ⟨u47, u48, _, u50, u51, u52, u53, u54, u55, u56, u57, u58, u59, u60, u61, u62, u63, u64, rfl, HN⟩
                · injection (show some _ = some o from ho) with ho
                  subst ho
                  have n18 : b 18 = false := by cases h : b 18 with | false => rfl | true => (obtain ⟨j0, j1, j2, j3, j4, j5, j6, j7, j8, j9, j10, j11, j12, j13, j14, j15, j16, j17, e0, e1, e2⟩ := HJ.out; exact absurd (hbi.symm.trans (e2 h).2.2.2.1) (by decide))
                  have HN : Hid (FrJ g B M cc k bt rv sc zb ov P Q (fun j => if j = 3 then true else b j) u47 u48 u49 (.pointer (some ⟨bt, 5, none⟩)) u51 u52 u53 u54 u55 u56 u57 u58 u59 u60 u61 u62 u63 u64 x) := by
                    obtain ⟨j0, j1, j2, j3, j4, j5, j6, j7, j8, j9, j10, j11, j12, j13, j14, j15, j16, j17, e0, e1, e2⟩ := HJ.out
                    exact ⟨j0, j1, j2, fun _ => rfl, (fun h => absurd (hbi.symm.trans (j4 h).1) (by decide)), j5, j6, j7, j8, j9, j10, j11, j12, j13, j14, j15, j16, j17, e0, e1, (fun h => absurd (n18.symm.trans h) (by decide))⟩
                  clear HJ hpre
                  go_simp
                  exact hK _ _ ⟨u47, u48, u49, _, u51, u52, u53, u54, u55, u56, u57, u58, u59, u60, u61, u62, u63, u64, rfl, HN⟩
                · injection (show some _ = some o from ho) with ho
                  subst ho
                  have p3 : b 3 = true := hpre 3 (by decide +kernel)
                  obtain rfl : u50 = .pointer (some ⟨bt, 5, none⟩) := by obtain ⟨j0, j1, j2, j3, j4, j5, j6, j7, j8, j9, j10, j11, j12, j13, j14, j15, j16, j17, e0, e1, e2⟩ := HJ.out; exact (j3 p3)
                  have n18 : b 18 = false := by cases h : b 18 with | false => rfl | true => (obtain ⟨j0, j1, j2, j3, j4, j5, j6, j7, j8, j9, j10, j11, j12, j13, j14, j15, j16, j17, e0, e1, e2⟩ := HJ.out; exact absurd (hbi.symm.trans (e2 h).2.2.2.2.1) (by decide))
                  have ⟨l5, l6, l7, l8, g5, g6, g7, g8⟩ := HPc.out x (by obtain ⟨j0, j1, j2, j3, j4, j5, j6, j7, j8, j9, j10, j11, j12, j13, j14, j15, j16, j17, e0, e1, e2⟩ := HJ.out; exact e0 n18)
                  have HN : Hid (FrJ g B M cc k bt rv sc zb ov P Q (fun j => if j = 4 then true else b j) u47 u48 u49 (.pointer (some ⟨bt, 5, none⟩)) ((Value.agg #[.int .u8 sc.r, .int .u8 sc.g, .int .u8 sc.b, .int .u8 sc.a])) u52 u53 u54 u55 u56 u57 u58 u59 u60 u61 u62 u63 u64 x) := by
                    obtain ⟨j0, j1, j2, j3, j4, j5, j6, j7, j8, j9, j10, j11, j12, j13, j14, j15, j16, j17, e0, e1, e2⟩ := HJ.out
                    exact ⟨j0, j1, j2, j3, fun _ => ⟨p3, rfl⟩, j5, j6, j7, j8, j9, (fun h => absurd (hbi.symm.trans (j10 h).1) (by decide)), j11, j12, j13, j14, j15, j16, j17, e0, e1, (fun h => absurd (n18.symm.trans h) (by decide))⟩
                  clear HJ hpre
                  go_simp
                  exact hK _ _ ⟨u47, u48, u49, _, _, u52, u53, u54, u55, u56, u57, u58, u59, u60, u61, u62, u63, u64, rfl, HN⟩
                · injection (show some _ = some o from ho) with ho
                  subst ho
                  have n18 : b 18 = false := by cases h : b 18 with | false => rfl | true => (obtain ⟨j0, j1, j2, j3, j4, j5, j6, j7, j8, j9, j10, j11, j12, j13, j14, j15, j16, j17, e0, e1, e2⟩ := HJ.out; exact absurd (hbi.symm.trans (e2 h).2.2.2.2.2.1) (by decide))
                  have HN : Hid (FrJ g B M cc k bt rv sc zb ov P Q (fun j => if j = 5 then true else b j) u47 u48 u49 u50 u51 (.slice (some ⟨g, B, none⟩) M cc) u53 u54 u55 u56 u57 u58 u59 u60 u61 u62 u63 u64 x) := by
                    obtain ⟨j0, j1, j2, j3, j4, j5, j6, j7, j8, j9, j10, j11, j12, j13, j14, j15, j16, j17, e0, e1, e2⟩ := HJ.out
                    exact ⟨j0, j1, j2, j3, j4, fun _ => rfl, j6, (fun h => absurd (hbi.symm.trans (j7 h).1) (by decide)), j8, j9, j10, j11, j12, j13, j14, j15, j16, j17, e0, e1, (fun h => absurd (n18.symm.trans h) (by decide))⟩
                  clear HJ hpre
                  go_simp
                  exact hK _ _ ⟨u47, u48, u49, u50, u51, _, u53, u54, u55, u56, u57, u58, u59, u60, u61, u62, u63, u64, rfl, HN⟩
                · injection (show some _ = some o from ho) with ho
                  subst ho
                  have n18 : b 18 = false := by cases h : b 18 with | false => rfl | true => (obtain ⟨j0, j1, j2, j3, j4, j5, j6, j7, j8, j9, j10, j11, j12, j13, j14, j15, j16, j17, e0, e1, e2⟩ := HJ.out; exact absurd (hbi.symm.trans (e2 h).2.2.2.2.2.2.1) (by decide))
                  have HN : Hid (FrJ g B M cc k bt rv sc zb ov P Q (fun j => if j = 6 then true else b j) u47 u48 u49 u50 u51 u52 (.int .i64 (k : Nat)) u54 u55 u56 u57 u58 u59 u60 u61 u62 u63 u64 x) := by
                    obtain ⟨j0, j1, j2, j3, j4, j5, j6, j7, j8, j9, j10, j11, j12, j13, j14, j15, j16, j17, e0, e1, e2⟩ := HJ.out
                    exact ⟨j0, j1, j2, j3, j4, j5, fun _ => rfl, (fun h => absurd (hbi.symm.trans (j7 h).2.1) (by decide)), j8, j9, j10, j11, j12, j13, j14, j15, j16, j17, e0, e1, (fun h => absurd (n18.symm.trans h) (by decide))⟩
                  clear HJ hpre
                  go_simp
                  exact hK _ _ ⟨u47, u48, u49, u50, u51, u52, _, u54, u55, u56, u57, u58, u59, u60, u61, u62, u63, u64, rfl, HN⟩
                · injection (show some _ = some o from ho) with ho
                  subst ho
                  have p5 : b 5 = true := hpre 5 (by decide +kernel)
                  obtain rfl : u52 = .slice (some ⟨g, B, none⟩) M cc := by obtain ⟨j0, j1, j2, j3, j4, j5, j6, j7, j8, j9, j10, j11, j12, j13, j14, j15, j16, j17, e0, e1, e2⟩ := HJ.out; exact (j5 p5)
                  have p6 : b 6 = true := hpre 6 (by decide +kernel)
                  obtain rfl : u53 = .int .i64 (k : Nat) := by obtain ⟨j0, j1, j2, j3, j4, j5, j6, j7, j8, j9, j10, j11, j12, j13, j14, j15, j16, j17, e0, e1, e2⟩ := HJ.out; exact (j6 p6)
                  have n18 : b 18 = false := by cases h : b 18 with | false => rfl | true => (obtain ⟨j0, j1, j2, j3, j4, j5, j6, j7, j8, j9, j10, j11, j12, j13, j14, j15, j16, j17, e0, e1, e2⟩ := HJ.out; exact absurd (hbi.symm.trans (e2 h).2.2.2.2.2.2.2.1) (by decide))
                  have HN : Hid (FrJ g B M cc k bt rv sc zb ov P Q (fun j => if j = 7 then true else b j) u47 u48 u49 u50 u51 (.slice (some ⟨g, B, none⟩) M cc) (.int .i64 (k : Nat)) (.pointer (some ⟨g, B + k * 11, none⟩)) u55 u56 u57 u58 u59 u60 u61 u62 u63 u64 x) := by
                    obtain ⟨j0, j1, j2, j3, j4, j5, j6, j7, j8, j9, j10, j11, j12, j13, j14, j15, j16, j17, e0, e1, e2⟩ := HJ.out
                    exact ⟨j0, j1, j2, j3, j4, j5, j6, fun _ => ⟨p5, p6, rfl⟩, (fun h => absurd (hbi.symm.trans (j8 h).1) (by decide)), j9, j10, j11, j12, j13, j14, j15, j16, j17, e0, e1, (fun h => absurd (n18.symm.trans h) (by decide))⟩
                  clear HJ hpre
                  go_simp
                  exact hK _ _ ⟨u47, u48, u49, u50, u51, _, _, _, u55, u56, u57, u58, u59, u60, u61, u62, u63, u64, rfl, HN⟩
                · injection (show some _ = some o from ho) with ho
                  subst ho
                  have p7 : b 7 = true := hpre 7 (by decide +kernel)
                  obtain rfl : u54 = .pointer (some ⟨g, B + k * 11, none⟩) := by obtain ⟨j0, j1, j2, j3, j4, j5, j6, j7, j8, j9, j10, j11, j12, j13, j14, j15, j16, j17, e0, e1, e2⟩ := HJ.out; exact (j7 p7).2.2
                  have n18 : b 18 = false := by cases h : b 18 with | false => rfl | true => (obtain ⟨j0, j1, j2, j3, j4, j5, j6, j7, j8, j9, j10, j11, j12, j13, j14, j15, j16, j17, e0, e1, e2⟩ := HJ.out; exact absurd (hbi.symm.trans (e2 h).2.2.2.2.2.2.2.2.1) (by decide))
                  have HN : Hid (FrJ g B M cc k bt rv sc zb ov P Q (fun j => if j = 8 then true else b j) u47 u48 u49 u50 u51 u52 u53 (.pointer (some ⟨g, B + k * 11, none⟩)) (.pointer (some ⟨g, B + k * 11 + 5, none⟩)) u56 u57 u58 u59 u60 u61 u62 u63 u64 x) := by
                    obtain ⟨j0, j1, j2, j3, j4, j5, j6, j7, j8, j9, j10, j11, j12, j13, j14, j15, j16, j17, e0, e1, e2⟩ := HJ.out
                    exact ⟨j0, j1, j2, j3, j4, j5, j6, j7, fun _ => ⟨p7, rfl⟩, (fun h => absurd (hbi.symm.trans (j9 h).1) (by decide)), j10, j11, j12, j13, j14, j15, j16, j17, e0, e1, (fun h => absurd (n18.symm.trans h) (by decide))⟩
                  clear HJ hpre
                  go_simp
                  exact hK _ _ ⟨u47, u48, u49, u50, u51, u52, u53, _, _, u56, u57, u58, u59, u60, u61, u62, u63, u64, rfl, HN⟩
                · injection (show some _ = some o from ho) with ho
                  subst ho
                  have p8 : b 8 = true := hpre 8 (by decide +kernel)
                  obtain rfl : u55 = .pointer (some ⟨g, B + k * 11 + 5, none⟩) := by obtain ⟨j0, j1, j2, j3, j4, j5, j6, j7, j8, j9, j10, j11, j12, j13, j14, j15, j16, j17, e0, e1, e2⟩ := HJ.out; exact (j8 p8).2
                  have n18 : b 18 = false := by cases h : b 18 with | false => rfl | true => (obtain ⟨j0, j1, j2, j3, j4, j5, j6, j7, j8, j9, j10, j11, j12, j13, j14, j15, j16, j17, e0, e1, e2⟩ := HJ.out; exact absurd (hbi.symm.trans (e2 h).2.2.2.2.2.2.2.2.2.1) (by decide))
                  have ⟨l5, l6, l7, l8, g5, g6, g7, g8⟩ := HPc.out x (by obtain ⟨j0, j1, j2, j3, j4, j5, j6, j7, j8, j9, j10, j11, j12, j13, j14, j15, j16, j17, e0, e1, e2⟩ := HJ.out; exact e0 n18)
                  have HN : Hid (FrJ g B M cc k bt rv sc zb ov P Q (fun j => if j = 9 then true else b j) u47 u48 u49 u50 u51 u52 u53 u54 (.pointer (some ⟨g, B + k * 11 + 5, none⟩)) ((Value.agg #[.int .u8 zb.r, .int .u8 zb.g, .int .u8 zb.b, .int .u8 zb.a])) u57 u58 u59 u60 u61 u62 u63 u64 x) := by
                    obtain ⟨j0, j1, j2, j3, j4, j5, j6, j7, j8, j9, j10, j11, j12, j13, j14, j15, j16, j17, e0, e1, e2⟩ := HJ.out
                    exact ⟨j0, j1, j2, j3, j4, j5, j6, j7, j8, fun _ => ⟨p8, rfl⟩, (fun h => absurd (hbi.symm.trans (j10 h).2.1) (by decide)), j11, j12, j13, j14, j15, j16, j17, e0, e1, (fun h => absurd (n18.symm.trans h) (by decide))⟩
                  clear HJ hpre
                  go_simp
                  exact hK _ _ ⟨u47, u48, u49, u50, u51, u52, u53, u54, _, _, u57, u58, u59, u60, u61, u62, u63, u64, rfl, HN⟩
                · injection (show some _ = some o from ho) with ho
                  subst ho
                  have p4 : b 4 = true := hpre 4 (by decide +kernel)
                  obtain rfl : u51 = (Value.agg #[.int .u8 sc.r, .int .u8 sc.g, .int .u8 sc.b, .int .u8 sc.a]) := by obtain ⟨j0, j1, j2, j3, j4, j5, j6, j7, j8, j9, j10, j11, j12, j13, j14, j15, j16, j17, e0, e1, e2⟩ := HJ.out; exact (j4 p4).2
                  have p9 : b 9 = true := hpre 9 (by decide +kernel)
                  obtain rfl : u56 = (Value.agg #[.int .u8 zb.r, .int .u8 zb.g, .int .u8 zb.b, .int .u8 zb.a]) := by obtain ⟨j0, j1, j2, j3, j4, j5, j6, j7, j8, j9, j10, j11, j12, j13, j14, j15, j16, j17, e0, e1, e2⟩ := HJ.out; exact (j9 p9).2
                  have n18 : b 18 = false := by cases h : b 18 with | false => rfl | true => (obtain ⟨j0, j1, j2, j3, j4, j5, j6, j7, j8, j9, j10, j11, j12, j13, j14, j15, j16, j17, e0, e1, e2⟩ := HJ.out; exact absurd (hbi.symm.trans (e2 h).2.2.2.2.2.2.2.2.2.2.1) (by decide))
                  have HN : Hid (∀ x', Below x.heap.size x x' → FrJ g B M cc k bt rv sc zb ov P Q (fun j => if j = 10 then true else b j) u47 u48 u49 u50 ((Value.agg #[.int .u8 sc.r, .int .u8 sc.g, .int .u8 sc.b, .int .u8 sc.a])) u52 u53 u54 u55 ((Value.agg #[.int .u8 zb.r, .int .u8 zb.g, .int .u8 zb.b, .int .u8 zb.a])) ((Value.agg #[.int .u8 ov.r, .int .u8 ov.g, .int .u8 ov.b, .int .u8 ov.a])) u58 u59 u60 u61 u62 u63 u64 x') := fun x' hb => by
                    obtain ⟨j0, j1, j2, j3, j4, j5, j6, j7, j8, j9, j10, j11, j12, j13, j14, j15, j16, j17, e0, e1, e2⟩ := HJ.out
                    exact ⟨j0, j1, j2, j3, j4, j5, j6, j7, j8, j9, (fun _ => ⟨p4, p9, rfl⟩), j11, j12, j13, j14, j15, (fun h => absurd (hbi.symm.trans (j16 h).2.1) (by decide)), j17, (fun _ => HPb.out _ _ (e0 n18) hb), (fun h => absurd (n18.symm.trans h) (by decide)), (fun h => absurd (n18.symm.trans h) (by decide))⟩
                  clear HJ hpre
                  go_simp
                  refine ⟨by first | trivial | (intro h; cases h), (CallsIn.inRound lp (callsIn_wide.2 (HOv.out _))).mono ?_⟩
                  rintro e x' ⟨rfl, hb⟩
                  exact hK _ _ ⟨u47, u48, u49, u50, _, u52, u53, u54, u55, _, _, u58, u59, u60, u61, u62, u63, u64, rfl, HN.out x' hb⟩
                · injection (show some _ = some o from ho) with ho
                  subst ho
                  have n18 : b 18 = false := by cases h : b 18 with | false => rfl | true => (obtain ⟨j0, j1, j2, j3, j4, j5, j6, j7, j8, j9, j10, j11, j12, j13, j14, j15, j16, j17, e0, e1, e2⟩ := HJ.out; exact absurd (hbi.symm.trans (e2 h).2.2.2.2.2.2.2.2.2.2.2.1) (by decide))
                  have HN : Hid (FrJ g B M cc k bt rv sc zb ov P Q (fun j => if j = 11 then true else b j) u47 u48 u49 u50 u51 u52 u53 u54 u55 u56 u57 (.slice (some ⟨g, B, none⟩) M cc) u59 u60 u61 u62 u63 u64 x) := by
                    obtain ⟨j0, j1, j2, j3, j4, j5, j6, j7, j8, j9, j10, j11, j12, j13, j14, j15, j16, j17, e0, e1, e2⟩ := HJ.out
                    exact ⟨j0, j1, j2, j3, j4, j5, j6, j7, j8, j9, j10, fun _ => rfl, j12, (fun h => absurd (hbi.symm.trans (j13 h).1) (by decide)), j14, j15, j16, j17, e0, e1, (fun h => absurd (n18.symm.trans h) (by decide))⟩
                  clear HJ hpre
                  go_simp
                  exact hK _ _ ⟨u47, u48, u49, u50, u51, u52, u53, u54, u55, u56, u57, _, u59, u60, u61, u62, u63, u64, rfl, HN⟩
                · injection (show some _ = some o from ho) with ho
                  subst ho
                  have n18 : b 18 = false := by cases h : b 18 with | false => rfl | true => (obtain ⟨j0, j1, j2, j3, j4, j5, j6, j7, j8, j9, j10, j11, j12, j13, j14, j15, j16, j17, e0, e1, e2⟩ := HJ.out; exact absurd (hbi.symm.trans (e2 h).2.2.2.2.2.2.2.2.2.2.2.2.1) (by decide))
                  have HN : Hid (FrJ g B M cc k bt rv sc zb ov P Q (fun j => if j = 12 then true else b j) u47 u48 u49 u50 u51 u52 u53 u54 u55 u56 u57 u58 (.int .i64 (k : Nat)) u60 u61 u62 u63 u64 x) := by
                    obtain ⟨j0, j1, j2, j3, j4, j5, j6, j7, j8, j9, j10, j11, j12, j13, j14, j15, j16, j17, e0, e1, e2⟩ := HJ.out
                    exact ⟨j0, j1, j2, j3, j4, j5, j6, j7, j8, j9, j10, j11, fun _ => rfl, (fun h => absurd (hbi.symm.trans (j13 h).2.1) (by decide)), j14, j15, j16, j17, e0, e1, (fun h => absurd (n18.symm.trans h) (by decide))⟩
                  clear HJ hpre
                  go_simp
                  exact hK _ _ ⟨u47, u48, u49, u50, u51, u52, u53, u54, u55, u56, u57, u58, _, u60, u61, u62, u63, u64, rfl, HN⟩
                · injection (show some _ = some o from ho) with ho
                  subst ho
                  have p11 : b 11 = true := hpre 11 (by decide +kernel)
                  obtain rfl : u58 = .slice (some ⟨g, B, none⟩) M cc := by obtain ⟨j0, j1, j2, j3, j4, j5, j6, j7, j8, j9, j10, j11, j12, j13, j14, j15, j16, j17, e0, e1, e2⟩ := HJ.out; exact (j11 p11)
                  have p12 : b 12 = true := hpre 12 (by decide +kernel)
                  obtain rfl : u59 = .int .i64 (k : Nat) := by obtain ⟨j0, j1, j2, j3, j4, j5, j6, j7, j8, j9, j10, j11, j12, j13, j14, j15, j16, j17, e0, e1, e2⟩ := HJ.out; exact (j12 p12)
                  have n18 : b 18 = false := by cases h : b 18 with | false => rfl | true => (obtain ⟨j0, j1, j2, j3, j4, j5, j6, j7, j8, j9, j10, j11, j12, j13, j14, j15, j16, j17, e0, e1, e2⟩ := HJ.out; exact absurd (hbi.symm.trans (e2 h).2.2.2.2.2.2.2.2.2.2.2.2.2.1) (by decide))
                  have HN : Hid (FrJ g B M cc k bt rv sc zb ov P Q (fun j => if j = 13 then true else b j) u47 u48 u49 u50 u51 u52 u53 u54 u55 u56 u57 (.slice (some ⟨g, B, none⟩) M cc) (.int .i64 (k : Nat)) (.pointer (some ⟨g, B + k * 11, none⟩)) u61 u62 u63 u64 x) := by
                    obtain ⟨j0, j1, j2, j3, j4, j5, j6, j7, j8, j9, j10, j11, j12, j13, j14, j15, j16, j17, e0, e1, e2⟩ := HJ.out
                    exact ⟨j0, j1, j2, j3, j4, j5, j6, j7, j8, j9, j10, j11, j12, fun _ => ⟨p11, p12, rfl⟩, (fun h => absurd (hbi.symm.trans (j14 h).1) (by decide)), j15, j16, j17, e0, e1, (fun h => absurd (n18.symm.trans h) (by decide))⟩
                  clear HJ hpre
                  go_simp
                  exact hK _ _ ⟨u47, u48, u49, u50, u51, u52, u53, u54, u55, u56, u57, _, _, _, u61, u62, u63, u64, rfl, HN⟩
                · injection (show some _ = some o from ho) with ho
                  subst ho
                  have p13 : b 13 = true := hpre 13 (by decide +kernel)
                  obtain rfl : u60 = .pointer (some ⟨g, B + k * 11, none⟩) := by obtain ⟨j0, j1, j2, j3, j4, j5, j6, j7, j8, j9, j10, j11, j12, j13, j14, j15, j16, j17, e0, e1, e2⟩ := HJ.out; exact (j13 p13).2.2
                  have n18 : b 18 = false := by cases h : b 18 with | false => rfl | true => (obtain ⟨j0, j1, j2, j3, j4, j5, j6, j7, j8, j9, j10, j11, j12, j13, j14, j15, j16, j17, e0, e1, e2⟩ := HJ.out; exact absurd (hbi.symm.trans (e2 h).2.2.2.2.2.2.2.2.2.2.2.2.2.2.1) (by decide))
                  have HN : Hid (FrJ g B M cc k bt rv sc zb ov P Q (fun j => if j = 14 then true else b j) u47 u48 u49 u50 u51 u52 u53 u54 u55 u56 u57 u58 u59 (.pointer (some ⟨g, B + k * 11, none⟩)) (.pointer (some ⟨g, B + k * 11 + 5, none⟩)) u62 u63 u64 x) := by
                    obtain ⟨j0, j1, j2, j3, j4, j5, j6, j7, j8, j9, j10, j11, j12, j13, j14, j15, j16, j17, e0, e1, e2⟩ := HJ.out
                    exact ⟨j0, j1, j2, j3, j4, j5, j6, j7, j8, j9, j10, j11, j12, j13, fun _ => ⟨p13, rfl⟩, (fun h => absurd (hbi.symm.trans (j15 h).1) (by decide)), j16, j17, e0, e1, (fun h => absurd (n18.symm.trans h) (by decide))⟩
                  clear HJ hpre
                  go_simp
                  exact hK _ _ ⟨u47, u48, u49, u50, u51, u52, u53, u54, u55, u56, u57, u58, u59, _, _, u62, u63, u64, rfl, HN⟩
                · injection (show some _ = some o from ho) with ho
                  subst ho
                  have p14 : b 14 = true := hpre 14 (by decide +kernel)
                  obtain rfl : u61 = .pointer (some ⟨g, B + k * 11 + 5, none⟩) := by obtain ⟨j0, j1, j2, j3, j4, j5, j6, j7, j8, j9, j10, j11, j12, j13, j14, j15, j16, j17, e0, e1, e2⟩ := HJ.out; exact (j14 p14).2
                  have n18 : b 18 = false := by cases h : b 18 with | false => rfl | true => (obtain ⟨j0, j1, j2, j3, j4, j5, j6, j7, j8, j9, j10, j11, j12, j13, j14, j15, j16, j17, e0, e1, e2⟩ := HJ.out; exact absurd (hbi.symm.trans (e2 h).2.2.2.2.2.2.2.2.2.2.2.2.2.2.2.1) (by decide))
                  have ⟨l5, l6, l7, l8, g5, g6, g7, g8⟩ := HPc.out x (by obtain ⟨j0, j1, j2, j3, j4, j5, j6, j7, j8, j9, j10, j11, j12, j13, j14, j15, j16, j17, e0, e1, e2⟩ := HJ.out; exact e0 n18)
                  have HN : Hid (FrJ g B M cc k bt rv sc zb ov P Q (fun j => if j = 15 then true else b j) u47 u48 u49 u50 u51 u52 u53 u54 u55 u56 u57 u58 u59 u60 (.pointer (some ⟨g, B + k * 11 + 5, none⟩)) ((Value.agg #[.int .u8 zb.r, .int .u8 zb.g, .int .u8 zb.b, .int .u8 zb.a])) u63 u64 x) := by
                    obtain ⟨j0, j1, j2, j3, j4, j5, j6, j7, j8, j9, j10, j11, j12, j13, j14, j15, j16, j17, e0, e1, e2⟩ := HJ.out
                    exact ⟨j0, j1, j2, j3, j4, j5, j6, j7, j8, j9, j10, j11, j12, j13, j14, fun _ => ⟨p14, rfl⟩, (fun h => absurd (hbi.symm.trans (j16 h).2.2.1) (by decide)), j17, e0, e1, (fun h => absurd (n18.symm.trans h) (by decide))⟩
                  clear HJ hpre
                  go_simp
                  exact hK _ _ ⟨u47, u48, u49, u50, u51, u52, u53, u54, u55, u56, u57, u58, u59, u60, _, _, u63, u64, rfl, HN⟩
                · injection (show some _ = some o from ho) with ho
                  subst ho
                  have p2 : b 2 = true := hpre 2 (by decide +kernel)
                  obtain rfl : u49 = .int .i32 rv := by obtain ⟨j0, j1, j2, j3, j4, j5, j6, j7, j8, j9, j10, j11, j12, j13, j14, j15, j16, j17, e0, e1, e2⟩ := HJ.out; exact (j2 p2)
                  have p10 : b 10 = true := hpre 10 (by decide +kernel)
                  obtain rfl : u57 = (Value.agg #[.int .u8 ov.r, .int .u8 ov.g, .int .u8 ov.b, .int .u8 ov.a]) := by obtain ⟨j0, j1, j2, j3, j4, j5, j6, j7, j8, j9, j10, j11, j12, j13, j14, j15, j16, j17, e0, e1, e2⟩ := HJ.out; exact (j10 p10).2.2
                  have p15 : b 15 = true := hpre 15 (by decide +kernel)
                  obtain rfl : u62 = (Value.agg #[.int .u8 zb.r, .int .u8 zb.g, .int .u8 zb.b, .int .u8 zb.a]) := by obtain ⟨j0, j1, j2, j3, j4, j5, j6, j7, j8, j9, j10, j11, j12, j13, j14, j15, j16, j17, e0, e1, e2⟩ := HJ.out; exact (j15 p15).2
                  have n18 : b 18 = false := by cases h : b 18 with | false => rfl | true => (obtain ⟨j0, j1, j2, j3, j4, j5, j6, j7, j8, j9, j10, j11, j12, j13, j14, j15, j16, j17, e0, e1, e2⟩ := HJ.out; exact absurd (hbi.symm.trans (e2 h).2.2.2.2.2.2.2.2.2.2.2.2.2.2.2.2.1) (by decide))
                  have HN : Hid (FrJ g B M cc k bt rv sc zb ov P Q (fun j => if j = 16 then true else b j) u47 u48 (.int .i32 rv) u50 u51 u52 u53 u54 u55 u56 ((Value.agg #[.int .u8 ov.r, .int .u8 ov.g, .int .u8 ov.b, .int .u8 ov.a])) u58 u59 u60 u61 ((Value.agg #[.int .u8 zb.r, .int .u8 zb.g, .int .u8 zb.b, .int .u8 zb.a])) (.agg #[.int .i32 rv, .int .u8 ov.r, .int .u8 ov.g, .int .u8 ov.b, .int .u8 ov.a, .int .u8 zb.r, .int .u8 zb.g, .int .u8 zb.b, .int .u8 zb.a, .bool false, .bool false]) u64 x) := by
                    obtain ⟨j0, j1, j2, j3, j4, j5, j6, j7, j8, j9, j10, j11, j12, j13, j14, j15, j16, j17, e0, e1, e2⟩ := HJ.out
                    exact ⟨j0, j1, j2, j3, j4, j5, j6, j7, j8, j9, j10, j11, j12, j13, j14, j15, fun _ => ⟨p2, p10, p15, rfl⟩, j17, e0, e1, (fun h => absurd (n18.symm.trans h) (by decide))⟩
                  clear HJ hpre
                  go_simp
                  exact hK _ _ ⟨u47, u48, _, u50, u51, u52, u53, u54, u55, u56, _, u58, u59, u60, u61, _, _, u64, rfl, HN⟩
                · injection (show some _ = some o from ho) with ho
                  subst ho
                  have p0 : b 0 = true := hpre 0 (by decide +kernel)
                  obtain rfl : u47 = .slice (some ⟨g, B, none⟩) M cc := by obtain ⟨j0, j1, j2, j3, j4, j5, j6, j7, j8, j9, j10, j11, j12, j13, j14, j15, j16, j17, e0, e1, e2⟩ := HJ.out; exact (j0 p0)
                  have p1 : b 1 = true := hpre 1 (by decide +kernel)
                  obtain rfl : u48 = .int .i64 (k : Nat) := by obtain ⟨j0, j1, j2, j3, j4, j5, j6, j7, j8, j9, j10, j11, j12, j13, j14, j15, j16, j17, e0, e1, e2⟩ := HJ.out; exact (j1 p1)
                  have n18 : b 18 = false := by cases h : b 18 with | false => rfl | true => (obtain ⟨j0, j1, j2, j3, j4, j5, j6, j7, j8, j9, j10, j11, j12, j13, j14, j15, j16, j17, e0, e1, e2⟩ := HJ.out; exact absurd (hbi.symm.trans (e2 h).2.2.2.2.2.2.2.2.2.2.2.2.2.2.2.2.2) (by decide))
                  have HN : Hid (FrJ g B M cc k bt rv sc zb ov P Q (fun j => if j = 17 then true else b j) (.slice (some ⟨g, B, none⟩) M cc) (.int .i64 (k : Nat)) u49 u50 u51 u52 u53 u54 u55 u56 u57 u58 u59 u60 u61 u62 u63 (.pointer (some ⟨g, B + k * 11, none⟩)) x) := by
                    obtain ⟨j0, j1, j2, j3, j4, j5, j6, j7, j8, j9, j10, j11, j12, j13, j14, j15, j16, j17, e0, e1, e2⟩ := HJ.out
                    exact ⟨j0, j1, j2, j3, j4, j5, j6, j7, j8, j9, j10, j11, j12, j13, j14, j15, j16, fun _ => ⟨p0, p1, rfl⟩, e0, e1, (fun h => absurd (n18.symm.trans h) (by decide))⟩
                  clear HJ hpre
                  go_simp
                  exact hK _ _ ⟨_, _, u49, u50, u51, u52, u53, u54, u55, u56, u57, u58, u59, u60, u61, u62, u63, _, rfl, HN⟩
                · injection (show some _ = some o from ho) with ho
                  subst ho
                  have p16 : b 16 = true := hpre 16 (by decide +kernel)
                  obtain rfl : u63 = .agg #[.int .i32 rv, .int .u8 ov.r, .int .u8 ov.g, .int .u8 ov.b, .int .u8 ov.a, .int .u8 zb.r, .int .u8 zb.g, .int .u8 zb.b, .int .u8 zb.a, .bool false, .bool false] := by obtain ⟨j0, j1, j2, j3, j4, j5, j6, j7, j8, j9, j10, j11, j12, j13, j14, j15, j16, j17, e0, e1, e2⟩ := HJ.out; exact (j16 p16).2.2.2
                  have p17 : b 17 = true := hpre 17 (by decide +kernel)
                  obtain rfl : u64 = .pointer (some ⟨g, B + k * 11, none⟩) := by obtain ⟨j0, j1, j2, j3, j4, j5, j6, j7, j8, j9, j10, j11, j12, j13, j14, j15, j16, j17, e0, e1, e2⟩ := HJ.out; exact (j17 p17).2.2
                  have n18 : b 18 = false := hbi
                  have hall : b 0 = true ∧ b 1 = true ∧ b 2 = true ∧ b 3 = true ∧ b 4 = true ∧ b 5 = true ∧ b 6 = true ∧ b 7 = true ∧ b 8 = true ∧ b 9 = true ∧ b 10 = true ∧ b 11 = true ∧ b 12 = true ∧ b 13 = true ∧ b 14 = true ∧ b 15 = true ∧ b 16 = true ∧ b 17 = true := by
                    obtain ⟨j0, j1, j2, j3, j4, j5, j6, j7, j8, j9, j10, j11, j12, j13, j14, j15, j16, j17, e0, e1, e2⟩ := HJ.out
                    have q16 : b 16 = true := p16
                    have q17 : b 17 = true := p17
                    have q2 : b 2 = true := (j16 q16).1
                    have q10 : b 10 = true := (j16 q16).2.1
                    have q15 : b 15 = true := (j16 q16).2.2.1
                    have q0 : b 0 = true := (j17 q17).1
                    have q1 : b 1 = true := (j17 q17).2.1
                    have q4 : b 4 = true := (j10 q10).1
                    have q9 : b 9 = true := (j10 q10).2.1
                    have q14 : b 14 = true := (j15 q15).1
                    have q3 : b 3 = true := (j4 q4).1
                    have q8 : b 8 = true := (j9 q9).1
                    have q13 : b 13 = true := (j14 q14).1
                    have q7 : b 7 = true := (j8 q8).1
                    have q11 : b 11 = true := (j13 q13).1
                    have q12 : b 12 = true := (j13 q13).2.1
                    have q5 : b 5 = true := (j7 q7).1
                    have q6 : b 6 = true := (j7 q7).2.1
                    exact ⟨q0, q1, q2, q3, q4, q5, q6, q7, q8, q9, q10, q11, q12, q13, q14, q15, q16, q17⟩
                  have hPx : P x := by obtain ⟨j0, j1, j2, j3, j4, j5, j6, j7, j8, j9, j10, j11, j12, j13, j14, j15, j16, j17, e0, e1, e2⟩ := HJ.out; exact e0 n18
                  have ⟨y0, y1, y2, y3, y4, y5, y6, y7, y8, y9, y10, z0, z1, z2, z3, z4, z5, z6, z7, z8, z9, z10⟩ := HPd.out x hPx
                  have HN : Hid (∀ x', Q x' → FrJ g B M cc k bt rv sc zb ov P Q (fun j => if j = 18 then true else b j) u47 u48 u49 u50 u51 u52 u53 u54 u55 u56 u57 u58 u59 u60 u61 u62 (.agg #[.int .i32 rv, .int .u8 ov.r, .int .u8 ov.g, .int .u8 ov.b, .int .u8 ov.a, .int .u8 zb.r, .int .u8 zb.g, .int .u8 zb.b, .int .u8 zb.a, .bool false, .bool false]) (.pointer (some ⟨g, B + k * 11, none⟩)) x') := fun x' hF => by
                    obtain ⟨j0, j1, j2, j3, j4, j5, j6, j7, j8, j9, j10, j11, j12, j13, j14, j15, j16, j17, e0, e1, e2⟩ := HJ.out
                    exact ⟨j0, j1, j2, j3, j4, j5, j6, j7, j8, j9, j10, j11, j12, j13, j14, j15, j16, j17, (fun h => by cases h), (fun _ => hF), (fun _ => hall)⟩
                  have HPx : Hid (P x) := hPx
                  clear HJ hpre hPx
                  go_simp
                  exact hK _ _ ⟨u47, u48, u49, u50, u51, u52, u53, u54, u55, u56, u57, u58, u59, u60, u61, u62, _, _, rfl, HN.out _ (HPs.out _ HPx.out)⟩
              · rintro b a' x' ⟨u47, u48, u49, u50, u51, u52, u53, u54, u55, u56, u57, u58, u59, u60, u61, u62, u63, u64, rfl, HJ⟩ hall
                have HQx : Hid (Q x') := by
                  obtain ⟨j0, j1, j2, j3, j4, j5, j6, j7, j8, j9, j10, j11, j12, j13, j14, j15, j16, j17, e0, e1, e2⟩ := HJ.out
                  exact e1 (hall 18 (by decide))
                clear HJ hall
                have hk2 : k + 1 ≤ M := by omega
                have HK2 : Hid (FrI V lo g n cap bt sb s X Y M H (updR Mc o (k + 1) f) x' ∧ W.grownBy x' (some g)) := HQ0.out _ HQx.out
                clear HQ0 HQx HPs HPb HPd HPc HOv HP2 HPdr
                gi_wp2_with fail
                exact ⟨⟨k + 1, hk2, by rw [Int.natCast_add]; rfl, HK2⟩, by simp [intOf]; exact sub_next hlt⟩
            · obtain rfl : M = k := by omega
              have HF : Hid (∀ V2, FrI V lo g n cap bt sb s X Y M H (updR Mc o M f) V2 ∧ W.grownBy V2 (some g) → KeepsFrom V4.heap.size W V2 ∧ KpB (V3.heap.size + 1) V3.heap.size W V2 ∧ FrI V lo g n cap bt sb s X Y M H (updQ Lc a X Y M (pre ++ [r]).length (frmF s a)) V2) := fun V2 h2 => by
                rw [← HE.out]
                exact ⟨KeepsFrom.of_grownBy h2.2 fun j hj => by injection hj with hj; omega, ⟨h2.2.block _ (by omega) (fun e => by injection e with e; omega), h2.2.block _ (by omega) (fun e => by injection e with e; omega)⟩, h2.1⟩
              gi_wp2_with fail
              exact HF.out _ HR.out
        case done =>
          rintro D xs W hD rfl HV hK
          rw [show (rwY Y H).length = H by simp [rwY]] at HV
          have HF : Hid (FrX w lo g n cap a b x y m hh s L (.slice (some ⟨gv, 0, none⟩) (bordL s.r).length cv) (D :: Ds) (i + 1) W) := by
            have hm' := HV.f.m
            rw [← HU.out, HLc.out.1] at hm'
            exact FrX.step HX.out hlt HQ.out hgl.2 HV.f.d hm' (by omega) hK
          clear HV HI0 HSq HV4 HLc HX HU
          gi_wp2_with fail
          have hbn := HBn.out
          have hw1 : wrap64 ((i : Int) + 1) = ((i + 1 : Nat) : Int) := by
            unfold wrap64
            omega
          rw [hw1]
          exact ⟨⟨i + 1, D :: Ds, _, rfl, ⟨rfl, rfl, rfl, rfl, rfl, rfl, rfl, rfl, rfl, rfl⟩, HF⟩, by simp [intOf]; exact sub_next hlt⟩
      · obtain rfl : i = (bordL s.r).length := by have := HX.out.le; omega
        have hxo := HX.out
        have hgl := h.lt
        have hgn : g ∉ Ds := fun hm => by have := hxo.lo g hm; omega
        have HF : Hid (ScM lo (unM V Ds) g n cap (updQ L a x y m hh (frmF s a)) ∧ w.grownBy (unM V Ds) (some g)) := by
          have h1 := hxo.f.m
          rw [List.take_length, HBa.out] at h1
          exact ⟨h1.same (unM_other Ds hgn), unM_grown Ds hxo.f.d (fun D hD => by have := hxo.lo D hD; omega)⟩
        have HM := show Hid (Mks V Ds) from hxo.ms
        clear hxo HX
        gi_wp2
        exact leaveL (v := .tuple #[]) Ds HM.out (by simp [results, Tryz.results62, go_sem]) ⟨rfl, HF.out⟩

end Go.Proofs.YtapachlhdgehjaaGreatDoor
