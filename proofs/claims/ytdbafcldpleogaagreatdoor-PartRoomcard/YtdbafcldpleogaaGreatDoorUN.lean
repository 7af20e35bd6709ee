/-
  What a part paints: the method Strokes.
-/
import Derived.Test.YtdbafcldpleogaaGreatDoorUM
import Derived.Test.YtdbafcldpleogaaGreatDoorReg3
import Derived.Test.YtdbafcldpleogaaGreatDoorRL3
import Derived.Deep.AppendLies
import Derived.Deep.RegionWith
import Derived.Deep.DeepCutAuto
namespace Go.Proofs.YtdbafcldpleogaaGreatDoor
open Go.RowKit

/-- A stroke. -/
structure Sk where
  kind : Int
  x : Int
  y : Int
  n : Int
  m : Int
  c0 : Int
  c1 : Int
  c2 : Int
  c3 : Int
  b0 : Int
  b1 : Int
  b2 : Int
  b3 : Int
  tx : ByteArray
  nd : Int
def Sk.vals (s : Sk) : List Value := [.int .u8 s.kind, .int .i64 s.x, .int .i64 s.y, .int .i64 s.n, .int .i64 s.m, .int .u8 s.c0, .int .u8 s.c1, .int .u8 s.c2, .int .u8 s.c3, .int .u8 s.b0, .int .u8 s.b1, .int .u8 s.b2, .int .u8 s.b3, .string s.tx, .int .i64 s.nd]
def flatS (l : List Sk) : List Value := (l.map Sk.vals).flatten
theorem flatS_app (a b : List Sk) : flatS (a ++ b) = flatS a ++ flatS b := by simp [flatS]
theorem flatS_one (a : Sk) : flatS [a] = a.vals := by simp [flatS]

def filK (r : Rc) (k : Lk) : Sk := ⟨1, r.x, r.y, r.w, r.h, k.r2, k.g2, k.b2, k.a2, 0, 0, 0, 0, ⟨#[]⟩, 0⟩
def fraK (r : Rc) (k : Lk) : Sk := ⟨2, r.x, r.y, r.w, r.h, coR k, coG k, coB k, coA k, 0, 0, 0, 0, ⟨#[]⟩, 0⟩
def wriK (tx : ByteArray) (r : Rc) (k : Lk) : Sk := ⟨3, (lefR r k).x, (lefR r k).y, (lefR r k).w, (lefR r k).h, coR k, coG k, coB k, coA k, bkR k, bkG k, bkB k, bkA k, tx, 0⟩
def filS (r : Rc) (k : Lk) : List Sk := if hb k 2 then [filK r k] else []
def fraS (r : Rc) (k : Lk) : List Sk := if frmB k then [fraK r k] else []
def wriB (tx : ByteArray) (r : Rc) (k : Lk) : Bool := !(tx.size == 0) && !emptyB (lefR r k).x (lefR r k).y (lefR r k).w (lefR r k).h
def wriS (tx : ByteArray) (r : Rc) (k : Lk) : List Sk := if wriB tx r k then [wriK tx r k] else []
/-- What is painted. -/
def paiL (tx : ByteArray) (r : Rc) (k : Lk) : List Sk := if emptyB r.x r.y r.w r.h then [] else filS r k ++ fraS r k ++ wriS tx r k

theorem s_add_at (g j : Nat) : (⟨g, 0, none⟩ : Addr).add j = ⟨g, j, none⟩ := by
  simp [Addr.add]
  intro h
  exact h.symm
theorem cellL (w : World) (l : List Value) (t : TypeId) : ∀ (j : Nat) (u : Value), l[j]? = some u → (w.alloc (.cells l.toArray t)).cell? ((⟨w.heap.size, 0, none⟩ : Addr).add j) = some u := by
  intro j u hj
  rw [s_add_at, (Blk.new w l.toArray t).cell j]
  simpa using hj
theorem cellB1 {w : World} {g : Nat} (l : List Value) {t : TypeId} (h : Blk w g l.toArray t) : ∀ (j : Nat) (u : Value), l[j]? = some u → w.cell? ((⟨g, 0, none⟩ : Addr).add j) = some u := by
  intro j u hj
  rw [s_add_at, h.cell j]
  simpa using hj
theorem oneS (s : Sk) : ∀ u ∈ s.vals, u.oneCell' = true := by
  intro u hu
  simp only [Sk.vals, List.mem_cons, List.not_mem_nil, or_false] at hu
  rcases hu with rfl | rfl | rfl | rfl | rfl | rfl | rfl | rfl | rfl | rfl | rfl | rfl | rfl | rfl | rfl <;> rfl
theorem s_row_below {w w1 : World} {base : Nat} {e : TypeId} {size : Nat} {v : Value} {n : Nat} {xs : List Value} (h : w.ownsRow base e size v n xs) (hb : Below w.heap.size w w1) : w1.ownsRow base e size v n xs := by
  refine ⟨h.1, ?_⟩
  rcases h.2 with h' | ⟨g, cap, cur, h1, h2, hg, rest⟩
  · exact .inl h'
  · exact .inr ⟨g, cap, cur, h1, h2, by rw [hb.block g (Array.getElem?_eq_some_iff.1 hg).1]; exact hg, rest⟩
theorem info_stroke : (Tryz.prog.info? 79).map (fun i => (i.zero, i.size, i.bytes)) = some (some (.agg #[.int .u8 0, .int .i64 0, .int .i64 0, .int .i64 0, .int .i64 0, .int .u8 0, .int .u8 0, .int .u8 0, .int .u8 0, .int .u8 0, .int .u8 0, .int .u8 0, .int .u8 0, .string ByteArray.empty, .int .i64 0]), 15, 72) := by kernel_rfl
theorem info_three {P : Program} {t : TypeId} {z : Value} {s b : Nat} (h : (P.info? t).map (fun i => (i.zero, i.size, i.bytes)) = some (some z, s, b)) : ∃ i, P.info? t = some i ∧ i.zero = some z ∧ i.size = s ∧ i.bytes = b := by
  cases hi : P.info? t with
  | none => rw [hi] at h; simp at h
  | some i => rw [hi] at h; simp at h; exact ⟨i, rfl, h.1, h.2.1, h.2.2⟩

theorem s_txt_list (t : ByteArray) : t.toList = t.data.toList := by first | exact ByteArray.toList_eq t | exact Lib.toList_data t | simp
theorem s_txt_ne {t : ByteArray} (h : t.size ≠ 0) : ¬ (t = ByteArray.empty) ∧ t.toList.isEmpty = false := by
  refine ⟨by rintro rfl; exact h rfl, ?_⟩
  rw [s_txt_list]
  cases hd : t.data.toList with
  | nil => exact absurd (congrArg List.length hd) (by rw [Array.length_toList]; exact h)
  | cons _ _ => rfl
theorem s_txt_nil {t : ByteArray} (h : t.size = 0) : t = ByteArray.empty := by
  obtain ⟨d⟩ := t
  have : d = #[] := Array.eq_empty_of_size_eq_zero h
  rw [this]; rfl
theorem lef_i64 (r : Rc) (k : Lk) (hx : I64 r.x) (hy : I64 r.y) : I64 (lefR r k).x ∧ I64 (lefR r k).y := by
  have h1 : I64 (lef1 r k).x ∧ I64 (lef1 r k).y := by
    unfold lef1; split
    · have := ins_small r.x r.y r.w r.h 1
      exact ⟨⟨by omega, by omega⟩, ⟨by omega, by omega⟩⟩
    · exact ⟨hx, hy⟩
  unfold lefR; split
  · have := ins_small (lef1 r k).x (lef1 r k).y (lef1 r k).w (lef1 r k).h k.pad
    exact ⟨⟨by omega, by omega⟩, ⟨by omega, by omega⟩⟩
  · exact h1

/-- What lies there while strokes are gathered. -/
structure StW (w : World) (tx : ByteArray) (r : Rc) (k : Lk) (W : World) : Prop where
  t : Blk W w.heap.size #[.string tx] 153
  r : Blk W (w.heap.size + 1) #[.int .i64 r.x, .int .i64 r.y, .int .i64 r.w, .int .i64 r.h] 63
  k : Blk W (w.heap.size + 1 + 1) (#[.int .u8 (k.has : Nat), .int .u8 k.r, .int .u8 k.g, .int .u8 k.b, .int .u8 k.a, .int .u8 k.r2, .int .u8 k.g2, .int .u8 k.b2, .int .u8 k.a2, .bool k.bd, .int .i64 k.pad]) 67
  b : Below w.heap.size w W
theorem StW.below {w : World} {tx : ByteArray} {r : Rc} {k : Lk} {W W' : World} (h : StW w tx r k W) (hb : Below W.heap.size W W') : StW w tx r k W' := ⟨h.t.below hb, h.r.below hb, h.k.below hb, h.b.trans (hb.mono h.b.size)⟩
theorem StW.alloc {w : World} {tx : ByteArray} {r : Rc} {k : Lk} {W : World} (h : StW w tx r k W) (o : Obj) : StW w tx r k (W.alloc o) := h.below ((Below.refl _ _).alloc (Nat.le_refl _) o)
theorem StW.size {w : World} {tx : ByteArray} {r : Rc} {k : Lk} {W : World} (h : StW w tx r k W) : w.heap.size + 3 ≤ W.heap.size := h.k.lt
theorem StW.grown {w : World} {tx : ByteArray} {r : Rc} {k : Lk} {W W' : World} {v : Value} {n : Nat} {xs : List Value} {e : TypeId} {s : Nat} (h : StW w tx r k W) (ho : W.ownsRow (w.heap.size + 3) e s v n xs) (hg : W.grownBy W' v.ownBlock) : StW w tx r k W' := by
  have hne : ∀ j, j < w.heap.size + 3 → some j ≠ v.ownBlock := fun j hj he => by
    have := (ho.lt j he.symm).1
    omega
  refine ⟨(hg.block _ h.t.lt (hne _ (by omega))).trans h.t, (hg.block _ h.r.lt (hne _ (by omega))).trans h.r, (hg.block _ h.k.lt (hne _ (by omega))).trans h.k, ?_⟩
  exact h.b.grown hg h.b.size (fun b hb => by have := (ho.lt b hb).1; omega)

theorem paint_start (w : World) (tx : ByteArray) (r : Rc) (k : Lk) : StW w tx r k (((w.alloc (.cells #[.string tx] 153)).alloc (.cells #[.int .i64 r.x, .int .i64 r.y, .int .i64 r.w, .int .i64 r.h] 63)).alloc (.cells (#[.int .u8 (k.has : Nat), .int .u8 k.r, .int .u8 k.g, .int .u8 k.b, .int .u8 k.a, .int .u8 k.r2, .int .u8 k.g2, .int .u8 k.b2, .int .u8 k.a2, .bool k.bd, .int .i64 k.pad]) 67)) := by
  have B := Blk.new (w.alloc (.cells #[.string tx] 153)) #[.int .i64 r.x, .int .i64 r.y, .int .i64 r.w, .int .i64 r.h] 63
  have C := Blk.new ((w.alloc (.cells #[.string tx] 153)).alloc (.cells #[.int .i64 r.x, .int .i64 r.y, .int .i64 r.w, .int .i64 r.h] 63)) (#[.int .u8 (k.has : Nat), .int .u8 k.r, .int .u8 k.g, .int .u8 k.b, .int .u8 k.a, .int .u8 k.r2, .int .u8 k.g2, .int .u8 k.b2, .int .u8 k.a2, .bool k.bd, .int .i64 k.pad]) 67
  simp only [World.size_alloc] at B C
  exact ⟨((Blk.new _ _ _).alloc _).alloc _, B.alloc _, C, (((Below.refl _ w).alloc (Nat.le_refl _) _).alloc (by simp) _).alloc (by simp; omega) _⟩

set_option maxRecDepth 10000 in
set_option maxHeartbeats 4000000 in
theorem painting_any (tx : ByteArray) (r : Rc) (k : Lk) (w : World) (hx : I64 r.x) (hy : I64 r.y) :
    Calls Tryz.prog 155 #[.agg #[.string tx], .agg #[.int .i64 r.x, .int .i64 r.y, .int .i64 r.w, .int .i64 r.h], (Value.agg #[.int .u8 (k.has : Nat), .int .u8 k.r, .int .u8 k.g, .int .u8 k.b, .int .u8 k.a, .int .u8 k.r2, .int .u8 k.g2, .int .u8 k.b2, .int .u8 k.a2, .bool k.bd, .int .i64 k.pad])] w fun e w' => ∃ v, e = .returned v ∧ w'.ownsRow (w.heap.size + 3) 79 15 v (paiL tx r k).length (flatS (paiL tx r k)) ∧ Below w.heap.size w w' := by
  have HS := paint_start w tx r k
  have hE := empty_any r.x r.y r.w r.h (((w.alloc (.cells #[.string tx] 153)).alloc (.cells #[.int .i64 r.x, .int .i64 r.y, .int .i64 r.w, .int .i64 r.h] 63)).alloc (.cells (#[.int .u8 (k.has : Nat), .int .u8 k.r, .int .u8 k.g, .int .u8 k.b, .int .u8 k.a, .int .u8 k.r2, .int .u8 k.g2, .int .u8 k.b2, .int .u8 k.a2, .bool k.bd, .int .i64 k.pad]) 67)) hx hy
  have HF : Hid (∀ W, Calls Tryz.prog 156 #[(Value.agg #[.int .u8 (k.has : Nat), .int .u8 k.r, .int .u8 k.g, .int .u8 k.b, .int .u8 k.a, .int .u8 k.r2, .int .u8 k.g2, .int .u8 k.b2, .int .u8 k.a2, .bool k.bd, .int .i64 k.pad])] W fun e w' => e = .returned (.bool (frmB k)) ∧ w' = W.alloc (.cells (#[.int .u8 (k.has : Nat), .int .u8 k.r, .int .u8 k.g, .int .u8 k.b, .int .u8 k.a, .int .u8 k.r2, .int .u8 k.g2, .int .u8 k.b2, .int .u8 k.a2, .bool k.bd, .int .i64 k.pad]) 67)) := fun W => framed_any k W
  have HC : Hid (∀ W, Calls Tryz.prog 157 #[(Value.agg #[.int .u8 (k.has : Nat), .int .u8 k.r, .int .u8 k.g, .int .u8 k.b, .int .u8 k.a, .int .u8 k.r2, .int .u8 k.g2, .int .u8 k.b2, .int .u8 k.a2, .bool k.bd, .int .i64 k.pad])] W fun e w' => e = .returned (.agg #[.int .u8 (coR k), .int .u8 (coG k), .int .u8 (coB k), .int .u8 (coA k)]) ∧ Below W.heap.size W w') := fun W => colourOf_any k W
  have HB : Hid (∀ W, Calls Tryz.prog 159 #[(Value.agg #[.int .u8 (k.has : Nat), .int .u8 k.r, .int .u8 k.g, .int .u8 k.b, .int .u8 k.a, .int .u8 k.r2, .int .u8 k.g2, .int .u8 k.b2, .int .u8 k.a2, .bool k.bd, .int .i64 k.pad])] W fun e w' => e = .returned (.agg #[.int .u8 (bkR k), .int .u8 (bkG k), .int .u8 (bkB k), .int .u8 (bkA k)]) ∧ Below W.heap.size W w') := fun W => backOf_any k W
  have HL : Hid (∀ W, Calls Tryz.prog 158 #[.agg #[.int .i64 r.x, .int .i64 r.y, .int .i64 r.w, .int .i64 r.h], (Value.agg #[.int .u8 (k.has : Nat), .int .u8 k.r, .int .u8 k.g, .int .u8 k.b, .int .u8 k.a, .int .u8 k.r2, .int .u8 k.g2, .int .u8 k.b2, .int .u8 k.a2, .bool k.bd, .int .i64 k.pad])] W fun e w' => e = .returned (.agg #[.int .i64 (lefR r k).x, .int .i64 (lefR r k).y, .int .i64 (lefR r k).w, .int .i64 (lefR r k).h]) ∧ Below W.heap.size W w') := fun W => leftOf_any r k W hx hy
  have HE : Hid (∀ W, Calls Tryz.prog 70 #[.agg #[.int .i64 (lefR r k).x, .int .i64 (lefR r k).y, .int .i64 (lefR r k).w, .int .i64 (lefR r k).h]] W fun e w' => e = .returned (.bool (emptyB (lefR r k).x (lefR r k).y (lefR r k).w (lefR r k).h)) ∧ Below W.heap.size W w') := fun W => empty_any _ _ _ _ W (lef_i64 r k hx hy).1 (lef_i64 r k hx hy).2
  have HS0 : Hid (StW w tx r k (((w.alloc (.cells #[.string tx] 153)).alloc (.cells #[.int .i64 r.x, .int .i64 r.y, .int .i64 r.w, .int .i64 r.h] 63)).alloc (.cells (#[.int .u8 (k.has : Nat), .int .u8 k.r, .int .u8 k.g, .int .u8 k.b, .int .u8 k.a, .int .u8 k.r2, .int .u8 k.g2, .int .u8 k.b2, .int .u8 k.a2, .bool k.bd, .int .i64 k.pad]) 67))) := HS
  obtain ⟨i0, hi, hz0, hz1, hz2⟩ := info_three info_stroke
  have HI : Hid (Tryz.prog.info? 79 = some i0 ∧ i0.zero = some (.agg #[.int .u8 0, .int .i64 0, .int .i64 0, .int .i64 0, .int .i64 0, .int .u8 0, .int .u8 0, .int .u8 0, .int .u8 0, .int .u8 0, .int .u8 0, .int .u8 0, .int .u8 0, .string ByteArray.empty, .int .i64 0]) ∧ i0.size = 15 ∧ i0.bytes = 72) := ⟨hi, hz0, hz1, hz2⟩
  clear HS hx hy hi hz0 hz1 hz2
  cases hem : emptyB r.x r.y r.w r.h
  · have hp : paiL tx r k = filS r k ++ fraS r k ++ wriS tx r k := by simp [paiL, hem]
    rw [hp]
    rw [hem] at hE
    clear hp hem
    go_enter Tryz.func155, Tryz.ntmps155
    go_wp2_with fail
    refine hE.mono ?_
    rintro e w1 ⟨rfl, hbe⟩
    have S1 : Hid (StW w tx r k w1) := HS0.out.below hbe
    clear hbe hE HS0
    have k0 := S1.out.k.look.1
    go_upto_if 14 with fail
    go_cut [7] (fun s7 wx => wx.ownsRow (w.heap.size + 3) 79 15 s7 (filS r k).length (flatS (filS r k)) ∧ Hid (StW w tx r k wx))
    case first =>
      cases h2 : hb k 2
      · have hf : Hid (filS r k = []) := by unfold Hid; simp [filS, h2]
        have h' : (bits .and .u8 ((k.has : Nat) : Int) 2 != 0) = false := h2
        clear h2
        go_wp2_with fail
        go_meet
        rw [hf.out]
        exact ⟨World.ownsRow_nil _ _ _ _, S1⟩
      · have hf : Hid (filS r k = [filK r k]) := by unfold Hid; simp [filS, h2]
        have h' : (bits .and .u8 ((k.has : Nat) : Int) 2 != 0) = true := h2
        clear h2
        obtain ⟨hi, hz0, hz1, hz2⟩ := HI.out
        have hc5 : Hid (∀ o1, w.heap.size + 3 ≤ (w1.alloc o1).heap.size) := by intro o1; have := S1.out.size; simp; omega
        obtain ⟨a0, a1, a2, a3⟩ := S1.out.r.at4
        obtain ⟨_, _, _, _, _, k5, k6, k7, k8, _, _⟩ := S1.out.k.look
        go_wp2_with (at_builtin; refine wpList_append_own _ rfl _ _ 72 rfl (w.heap.size + 3) 79 i0 (.agg #[.int .u8 0, .int .i64 0, .int .i64 0, .int .i64 0, .int .i64 0, .int .u8 0, .int .u8 0, .int .u8 0, .int .u8 0, .int .u8 0, .int .u8 0, .int .u8 0, .int .u8 0, .string ByteArray.empty, .int .i64 0]) 15 72 Tryz.underlying72 hi hz0 hz1 hz2 rfl (by decide) (.slice none 0 0) 0 [] rfl (World.ownsRow_nil _ _ _ _) _ 1 1 (filK r k).vals rfl rfl (cellL _ _ _) (oneS _) (by decide) (by decide) (hc5.out _) ?_)
        intro v' w4 hown' hgrow _
        have S4 : Hid (StW w tx r k w4) := (S1.out.alloc _).grown (World.ownsRow_nil _ _ 79 15) hgrow
        have O4 : Hid (w4.ownsRow (w.heap.size + 3) 79 15 v' 1 (filK r k).vals) := by unfold Hid; simpa using hown'
        clear hown' hgrow hi hz0 hz1 hz2 a0 a1 a2 a3 k5 k6 k7 k8
        go_wp2_with fail
        go_meet
        rw [hf.out, flatS_one]
        exact ⟨O4.out, S4⟩
    case rest =>
      obtain ⟨o1, S2⟩ := hcut
      have O2 : Hid (wc.ownsRow (w.heap.size + 3) 79 15 u7 (filS r k).length (flatS (filS r k))) := o1
      clear o1 S1 k0
      have lf : Hid ((filS r k).length ≤ 1) := by unfold Hid filS; split <;> simp
      obtain ⟨k0, k1, k2, k3, k4, k5, k6, k7, k8, k9, k10⟩ := S2.out.k.look
      go_wp2_with fail
      refine (HF.out _).mono ?_
      rintro e w2 ⟨rfl, rfl⟩
      clear k0 k1 k2 k3 k4 k5 k6 k7 k8 k9 k10
      have S3 : Hid (StW w tx r k (wc.alloc (.cells (#[.int .u8 (k.has : Nat), .int .u8 k.r, .int .u8 k.g, .int .u8 k.b, .int .u8 k.a, .int .u8 k.r2, .int .u8 k.g2, .int .u8 k.b2, .int .u8 k.a2, .bool k.bd, .int .i64 k.pad]) 67))) := S2.out.alloc _
      have O3 : Hid ((wc.alloc (.cells (#[.int .u8 (k.has : Nat), .int .u8 k.r, .int .u8 k.g, .int .u8 k.b, .int .u8 k.a, .int .u8 k.r2, .int .u8 k.g2, .int .u8 k.b2, .int .u8 k.a2, .bool k.bd, .int .i64 k.pad]) 67)).ownsRow (w.heap.size + 3) 79 15 u7 (filS r k).length (flatS (filS r k))) := O2.out.alloc _
      clear S2 O2
      go_upto_if 23 with fail
      generalize wc.alloc (.cells (#[.int .u8 (k.has : Nat), .int .u8 k.r, .int .u8 k.g, .int .u8 k.b, .int .u8 k.a, .int .u8 k.r2, .int .u8 k.g2, .int .u8 k.b2, .int .u8 k.a2, .bool k.bd, .int .i64 k.pad]) 67) = W3 at *
      go_cut [7] (fun s7 wx => wx.ownsRow (w.heap.size + 3) 79 15 s7 (filS r k ++ fraS r k).length (flatS (filS r k ++ fraS r k)) ∧ Hid (StW w tx r k wx))
      case first =>
        cases h2 : frmB k
        · have hf : Hid (fraS r k = []) := by unfold Hid; simp [fraS, h2]
          clear h2
          go_wp2_with fail
          go_meet
          rw [hf.out, List.append_nil]
          exact ⟨O3.out, S3⟩
        · have hf : Hid (fraS r k = [fraK r k]) := by unfold Hid; simp [fraS, h2]
          clear h2
          go_upto_region 7 with fail
          refine R3.wp_region_lit 5 1 2 (fun _ b => .slice (some ⟨b, 0, none⟩) 1 1) (fun _ => .cells (fraK r k).vals.toArray 79) [29] (by kernel_rfl) (by kernel_rfl) rfl ?_ rfl ?_
          · intro k hk
            have hc : k = 0 := by omega
            subst hc; rfl
          apply Exists.intro
          refine ⟨fun bs ne => ?_, ?_, ?_⟩
          · have a0 := fun t : Gb W3 bs => (S3.out.below t.below).r.at4.1
            have a1 := fun t : Gb W3 bs => (S3.out.below t.below).r.at4.2.1
            have a2 := fun t : Gb W3 bs => (S3.out.below t.below).r.at4.2.2.1
            have a3 := fun t : Gb W3 bs => (S3.out.below t.below).r.at4.2.2.2
            have q := fun t : Gb W3 bs => (S3.out.below t.below).k.look
            have k0 := fun t : Gb W3 bs => (q t).1
            have k1 := fun t : Gb W3 bs => (q t).2.1
            have k2 := fun t : Gb W3 bs => (q t).2.2.1
            have k3 := fun t : Gb W3 bs => (q t).2.2.2.1
            have k4 := fun t : Gb W3 bs => (q t).2.2.2.2.1
            have k5 := fun t : Gb W3 bs => (q t).2.2.2.2.2.1
            have k6 := fun t : Gb W3 bs => (q t).2.2.2.2.2.2.1
            have k7 := fun t : Gb W3 bs => (q t).2.2.2.2.2.2.2.1
            have k8 := fun t : Gb W3 bs => (q t).2.2.2.2.2.2.2.2.1
            have k9 := fun t : Gb W3 bs => (q t).2.2.2.2.2.2.2.2.2.1
            have k10 := fun t : Gb W3 bs => (q t).2.2.2.2.2.2.2.2.2.2
            clear q
            simp only [List.take_succ_cons, List.take_zero]
            repeat (go_big_quiet_step (first | (go_at_call 157; exact gb_call (HC.out _))))
            exact wpQuiet_nil rfl
          · intro i h1 h2
            have hc : i = 5 := by omega
            subst hc
            exact ⟨_, rfl, rfl, fun _ => by kernel_rfl⟩
          intro bl wr hbl hlo _
          obtain ⟨q1, q2⟩ := hlo 5 (by omega) (by omega)
          simp only [R3.layL]
          generalize bl 5 = g0 at *
          clear hlo
          have S4 : Hid (StW w tx r k wr) := S3.out.below hbl
          have O4 := s_row_below O3.out hbl
          obtain ⟨hi, hz0, hz1, hz2⟩ := HI.out
          refine wpAny_one 6 (by kernel_rfl) rfl ?_
          intro K hK
          refine step_append_lies wr (by rfl) _ _ 72 (by rfl) (w.heap.size + 3) 79 i0 (.agg #[.int .u8 0, .int .i64 0, .int .i64 0, .int .i64 0, .int .i64 0, .int .u8 0, .int .u8 0, .int .u8 0, .int .u8 0, .int .u8 0, .int .u8 0, .int .u8 0, .int .u8 0, .string ByteArray.empty, .int .i64 0]) 15 72 Tryz.underlying72 hi hz0 hz1 hz2 rfl (by decide) u7 (filS r k).length (flatS (filS r k)) (by rfl) O4 ⟨g0, 0, none⟩ 1 1 (fraK r k).vals (by rfl) rfl (cellB1 _ q2) (oneS _) (by decide) (by have := lf.out; unfold maxLen; omega) (by have := lf.out; omega) S4.out.size wr.heap.size rfl ?_
          intro h0 cap0 X1 hown hgrow _ _
          have S5 : Hid (StW w tx r k X1) := S4.out.grown O4 hgrow
          have O5 : Hid (X1.ownsRow (w.heap.size + 3) 79 15 (.slice (some ⟨h0, 0, none⟩) ((filS r k).length + 1) cap0) ((filS r k).length + 1) (flatS (filS r k) ++ (fraK r k).vals)) := hown
          clear hown hgrow O4 S4 q1 q2 hbl hi hz0 hz1 hz2
          refine hK _ _ ?_
          clear hK K
          refine wpAny_one 7 (by kernel_rfl) rfl ?_
          intro K hK
          go_simp
          refine hK _ _ ?_
          clear hK K
          refine wpAny_done (by kernel_rfl) ?_ _
          go_wp2_with fail
          go_meet
          rw [hf.out, flatS_app, flatS_one, List.length_append, List.length_singleton]
          exact ⟨O5.out, S5⟩
      case rest =>
        obtain ⟨o1, S4⟩ := hcut
        have O4 : Hid (wc.ownsRow (w.heap.size + 3) 79 15 u7 (filS r k ++ fraS r k).length (flatS (filS r k ++ fraS r k))) := o1
        clear o1 S3 O3
        have lf2 : Hid ((filS r k ++ fraS r k).length ≤ 2) := by
          unfold Hid fraS
          rw [List.length_append]
          have := lf.out
          split <;> simp <;> omega
        obtain ⟨F, hF⟩ : ∃ F, filS r k ++ fraS r k = F := ⟨_, rfl⟩
        rw [hF] at O4 lf2
        have HQ : Hid (filS r k ++ fraS r k = F) := hF
        clear hF
        obtain ⟨a0, a1, a2, a3⟩ := S4.out.r.at4
        obtain ⟨k0, k1, k2, k3, k4, k5, k6, k7, k8, k9, k10⟩ := S4.out.k.look
        go_wp2_with fail
        refine (HL.out _).mono ?_
        rintro e w5 ⟨rfl, hb5⟩
        clear a0 a1 a2 a3 k0 k1 k2 k3 k4 k5 k6 k7 k8 k9 k10
        have S5 : Hid (StW w tx r k w5) := S4.out.below hb5
        have O5 : Hid (w5.ownsRow (w.heap.size + 3) 79 15 u7 F.length (flatS F)) := s_row_below O4.out hb5
        clear hb5 S4 O4
        have t0 := S5.out.t.at1
        have s5 : w.heap.size < w5.heap.size := S5.out.t.lt
        by_cases hz : tx.size = 0
        · have hw : Hid (wriS tx r k = []) := by unfold Hid; simp [wriS, wriB, hz]
          obtain rfl := s_txt_nil hz
          clear hz
          go_wp2
          go_ret
          rw [HQ.out, hw.out, List.append_nil]
          exact ⟨_, rfl, O5.out.alloc _, (S5.out.alloc _).b⟩
        · obtain ⟨n1, n2⟩ := s_txt_ne hz
          cases hem : emptyB (lefR r k).x (lefR r k).y (lefR r k).w (lefR r k).h
          · have hw : Hid (wriS tx r k = [wriK tx r k]) := by unfold Hid; simp [wriS, wriB, hz, hem]
            rw [hem] at HE
            clear hem hz
            go_wp2_with fail
            refine (HE.out _).mono ?_
            rintro e w6 ⟨rfl, hb6⟩
            have S6 : Hid (StW w tx r k w6) := (S5.out.alloc _).below hb6
            have O6 : Hid (w6.ownsRow (w.heap.size + 3) 79 15 u7 F.length (flatS F)) := s_row_below (O5.out.alloc _) hb6
            have G6 : Hid (Blk w6 w5.heap.size #[.int .i64 (lefR r k).x, .int .i64 (lefR r k).y, .int .i64 (lefR r k).w, .int .i64 (lefR r k).h] 63) := (Blk.new _ _ _).below hb6
            clear hb6 S5 O5 n1 n2 t0 s5
            go_upto_region 10 with fail
            generalize w5.heap.size = g8 at *
            refine R3.wp_region_lit 9 1 2 (fun _ b => .slice (some ⟨b, 0, none⟩) 1 1) (fun _ => .cells (wriK tx r k).vals.toArray 79) [51] (by kernel_rfl) (by kernel_rfl) rfl ?_ rfl ?_
            · intro k hk
              have hc : k = 0 := by omega
              subst hc; rfl
            apply Exists.intro
            refine ⟨fun bs ne => ?_, ?_, ?_⟩
            · have a0 := fun t : Gb w6 bs => (G6.out.below t.below).at4.1
              have a1 := fun t : Gb w6 bs => (G6.out.below t.below).at4.2.1
              have a2 := fun t : Gb w6 bs => (G6.out.below t.below).at4.2.2.1
              have a3 := fun t : Gb w6 bs => (G6.out.below t.below).at4.2.2.2
              have t0 := fun t : Gb w6 bs => (S6.out.below t.below).t.at1
              have q := fun t : Gb w6 bs => (S6.out.below t.below).k.look
              have k0 := fun t : Gb w6 bs => (q t).1
              have k1 := fun t : Gb w6 bs => (q t).2.1
              have k2 := fun t : Gb w6 bs => (q t).2.2.1
              have k3 := fun t : Gb w6 bs => (q t).2.2.2.1
              have k4 := fun t : Gb w6 bs => (q t).2.2.2.2.1
              have k5 := fun t : Gb w6 bs => (q t).2.2.2.2.2.1
              have k6 := fun t : Gb w6 bs => (q t).2.2.2.2.2.2.1
              have k7 := fun t : Gb w6 bs => (q t).2.2.2.2.2.2.2.1
              have k8 := fun t : Gb w6 bs => (q t).2.2.2.2.2.2.2.2.1
              have k9 := fun t : Gb w6 bs => (q t).2.2.2.2.2.2.2.2.2.1
              have k10 := fun t : Gb w6 bs => (q t).2.2.2.2.2.2.2.2.2.2
              clear q
              simp only [List.take_succ_cons, List.take_zero]
              repeat (go_big_quiet_step (first | (go_at_call 157; exact gb_call (HC.out _)) | (go_at_call 159; exact gb_call (HB.out _))))
              exact wpQuiet_nil rfl
            · intro i h1 h2
              have hc : i = 9 := by omega
              subst hc
              exact ⟨_, rfl, rfl, fun _ => by kernel_rfl⟩
            intro bl wr hbl hlo _
            obtain ⟨q1, q2⟩ := hlo 9 (by omega) (by omega)
            simp only [R3.layL]
            generalize bl 9 = g0 at *
            clear hlo
            have S7 : Hid (StW w tx r k wr) := S6.out.below hbl
            have O7 := s_row_below O6.out hbl
            obtain ⟨hi, hz0, hz1, hz2⟩ := HI.out
            refine wpAny_one 10 (by kernel_rfl) rfl ?_
            intro K hK
            refine step_append_lies wr (by rfl) _ _ 72 (by rfl) (w.heap.size + 3) 79 i0 (.agg #[.int .u8 0, .int .i64 0, .int .i64 0, .int .i64 0, .int .i64 0, .int .u8 0, .int .u8 0, .int .u8 0, .int .u8 0, .int .u8 0, .int .u8 0, .int .u8 0, .int .u8 0, .string ByteArray.empty, .int .i64 0]) 15 72 Tryz.underlying72 hi hz0 hz1 hz2 rfl (by decide) u7 F.length (flatS F) (by rfl) O7 ⟨g0, 0, none⟩ 1 1 (wriK tx r k).vals (by rfl) rfl (cellB1 _ q2) (oneS _) (by decide) (by have := lf2.out; unfold maxLen; omega) (by have := lf2.out; omega) S7.out.size wr.heap.size rfl ?_
            intro h0 cap0 X1 hown hgrow _ _
            have S8 : Hid (StW w tx r k X1) := S7.out.grown O7 hgrow
            have O8 : Hid (X1.ownsRow (w.heap.size + 3) 79 15 (.slice (some ⟨h0, 0, none⟩) (F.length + 1) cap0) (F.length + 1) (flatS F ++ (wriK tx r k).vals)) := hown
            clear hown hgrow O7 S7 q1 q2 hbl hi hz0 hz1 hz2
            refine hK _ _ ?_
            clear hK K
            refine wpAny_one 11 (by kernel_rfl) rfl ?_
            intro K hK
            go_simp
            refine hK _ _ ?_
            clear hK K
            refine wpAny_done (by kernel_rfl) ?_ _
            go_wp2
            go_ret
            rw [HQ.out, hw.out, flatS_app, flatS_one, List.length_append, List.length_singleton]
            exact ⟨_, rfl, O8.out, S8.out.b⟩
          · have hw : Hid (wriS tx r k = []) := by unfold Hid; simp [wriS, wriB, hem]
            rw [hem] at HE
            clear hem hz
            go_wp2_with fail
            refine (HE.out _).mono ?_
            rintro e w6 ⟨rfl, hb6⟩
            go_wp2
            go_ret
            rw [HQ.out, hw.out, List.append_nil]
            exact ⟨_, rfl, s_row_below (O5.out.alloc _) hb6, ((S5.out.alloc _).below hb6).b⟩
  · have hp : paiL tx r k = [] := by simp [paiL, hem]
    rw [hp]
    rw [hem] at hE
    clear hp hem
    go_enter Tryz.func155, Tryz.ntmps155
    go_wp2_with fail
    refine hE.mono ?_
    rintro e w1 ⟨rfl, hbe⟩
    go_wp2
    go_ret
    exact ⟨_, rfl, ⟨rfl, .inl ⟨rfl, rfl⟩⟩, (HS0.out.below hbe).b⟩

end Go.Proofs.YtdbafcldpleogaaGreatDoor
