/-
  GridWidths: the cells, widths and heights of any things; what is handed in stays, what is answered is new memory. (y1gen.py writes it.)
-/
import Derived.Test.YthnhcphkpffkfaaYY3
import Derived.Test.YthnhcphkpffkfaaYN
import Derived.Test.YthnhcphkpffkfaaYJ
namespace Go.Proofs.Ythnhcphkpffkfaa
open Go.RowKit

/-- Numbers with bounds of their block. -/
def RwI (lo hi : Nat) (W : World) (v : Value) (xs : List Int) : Prop := OwI lo W v xs ∧ ∀ g, v.ownBlock = some g → g < hi
theorem RwI.below {lo hi : Nat} {W W' : World} {v : Value} {xs : List Int} (h : RwI lo hi W v xs) (hb : Below W.heap.size W W') : RwI lo hi W' v xs := ⟨h.1.below hb, h.2⟩
theorem rwi_of {w w' : World} {v : Value} {xs : List Int} (h : OwI w.heap.size w' v xs) : RwI w.heap.size w'.heap.size w' v xs := ⟨h, fun g hg => (row_lt h g hg).2⟩
theorem RwI.kept {lo hi lo2 hi2 : Nat} {W W' : World} {u v : Value} {xs ys : List Int} (h : RwI lo hi W u xs) (k : RwI lo2 hi2 W v ys) (hd : hi ≤ lo2 ∨ hi2 ≤ lo) (hg : W.grownBy W' v.ownBlock) : RwI lo hi W' u xs := by
  refine ⟨World.ownsRow.kept h.1 hg ?_, h.2⟩
  cases e : u.ownBlock with
  | none => exact .inl rfl
  | some g =>
    refine .inr fun c => ?_
    have h1 := h.2 g e
    have h2 := (row_lt h.1 g e).1
    have h3 := k.2 g c.symm
    have h4 := (row_lt k.1 g c.symm).1
    omega
theorem grow_belowI {B : Nat} {w W W' : World} {lo hi : Nat} {v : Value} {ys : List Int} (hb : Below B w W) (k : RwI lo hi W v ys) (hB : B ≤ lo) (hs : B ≤ W.heap.size) (hg : W.grownBy W' v.ownBlock) : Below B w W' :=
  hb.grown hg hs fun g h => Nat.le_trans hB (row_lt k.1 g h).1
/-- A list of one's own, with bounds of its block. -/
def MrK (lo hi : Nat) (W : World) (g cap : Nat) (l : List Int) : Prop := Mrk 3 1 fI 777 lo W g cap l ∧ g < hi
theorem MrK.below {lo hi : Nat} {W W' : World} {g cap : Nat} {l : List Int} (h : MrK lo hi W g cap l) (hb : Below W.heap.size W W') : MrK lo hi W' g cap l := ⟨h.1.below hb, h.2⟩
theorem MrK.kept {lo hi lo2 hi2 : Nat} {W W' : World} {g cap : Nat} {l ys : List Int} {v : Value} (h : MrK lo hi W g cap l) (k : RwI lo2 hi2 W v ys) (hd : hi ≤ lo2) (hg : W.grownBy W' v.ownBlock) : MrK lo hi W' g cap l := by
  refine ⟨World.ownsRow.kept h.1 hg (.inr fun c => ?_), h.2⟩
  have := (row_lt k.1 g c.symm).1
  have := h.2
  omega
theorem Mrk.is1 {lo : Nat} {W : World} {g cap : Nat} {l : List Int} (h : Mrk 3 1 fI 777 lo W g cap l) : IS W (.slice (some ⟨g, 0, none⟩) l.length cap) l := (h.ks encI).is
/-- A row written over: so many numbers still, all else as it was. -/
def Ovr (W : World) (lo n : Nat) (v : Value) (wr : World) : Prop := W.grownBy wr v.ownBlock ∧ ∃ X : List Int, X.length = n ∧ wr.ownsRow lo 3 1 v n (flatI X)
theorem Ovr.put {W : World} {lo n g cap : Nat} {wr : World} (h : Ovr W lo n (.slice (some ⟨g, 0, none⟩) n cap) wr) (k : Nat) (z : Int) : Ovr W lo n (.slice (some ⟨g, 0, none⟩) n cap) (wr.setCell ⟨g, k, none⟩ (.int .i64 z)) := by
  obtain ⟨h1, X, h2, h3⟩ := h
  refine ⟨grow_tr h1 (grow_set _ _ _ _) (.inl rfl), X.set k z, by simp [h2], ?_⟩
  rw [flatI_set]
  exact own_set h3 k _
theorem Ovr.at {W : World} {lo n g cap : Nat} {wr : World} (h : Ovr W lo n (.slice (some ⟨g, 0, none⟩) n cap) wr) (k : Nat) (hk : k < n) : (∃ z, wr.cell? ⟨g, k, none⟩ = some z) ∧ wr.frozen? ⟨g, k, none⟩ = false := by
  obtain ⟨_, X, h2, h3⟩ := h
  exact ⟨⟨_, (own_cell h3 k (by omega)).trans (flatI_at X k (by omega))⟩, own_frozen h3 k⟩
theorem mch_no {n : Nat} (h : mchB n = false) : n ≤ 3000 := by
  unfold mchB at h
  simp at h
  omega
theorem wiL_le (s m : List Int) (col gap : Int) : (wiL s m col gap).length ≤ 1024 := by
  unfold wiL
  split
  · next h =>
    obtain ⟨_, _, _, hc, _⟩ := wiE_zero h
    rw [wsG_len]
    have := clN_bd hc
    omega
  · simp
theorem heL_le (s m : List Int) (col : Int) : (heL s m col).length ≤ 1024 := by
  unfold heL
  split
  · next h => exact (hgt_len h).1
  · simp
theorem ceL_le (s : List Int) (col : Int) : (ceL s col).length ≤ s.length := by
  unfold ceL
  split
  · rw [cel_len]; exact Nat.le_refl _
  · simp

set_option maxRecDepth 10000 in
set_option maxHeartbeats 8000000 in
theorem gwidths_walk (s m : List Int) (col gap : Int) (sv mv : Value) (w : World) (hs : IS w sv s) (hm : IS w mv m) (ns : NoNil sv) (nm : NoNil mv) :
    Calls Try.prog 4 #[sv, mv, .int .i64 col, .int .i64 gap] w fun e w' => e = .returned (.bool true) ∧ Below w.heap.size w w' := by
  have HV0 : Hid (IS w sv s ∧ IS w mv m) := ⟨hs, hm⟩
  have HNN : Hid (NoNil sv ∧ NoNil mv) := ⟨ns, nm⟩
  have HAl : Hid (∀ W, Calls Try.prog 7 #[] W fun e w' => e = .returned (.bool true) ∧ Below W.heap.size W w') := alive_grid
  have HMu : Hid (∀ n W, Calls Try.prog 13 #[.int .i64 n] W fun e w' => e = .returned (.bool (mchB n)) ∧ w' = W) := fun n W => much_any n W
  obtain ⟨so, sc, rfl, _, _⟩ := hs
  obtain ⟨mo, mc, rfl, _, _⟩ := hm
  clear ns nm
  generalize hm1 : mchB (s.length : Int) = m1 at *
  have HM1 : Hid (∀ W, Calls Try.prog 13 #[.int .i64 s.length] W fun e w' => e = .returned (.bool m1) ∧ w' = W) := fun W => by rw [← hm1]; exact HMu.out _ W
  generalize hm2 : mchB (m.length : Int) = m2 at *
  have HM2 : Hid (∀ W, Calls Try.prog 13 #[.int .i64 m.length] W fun e w' => e = .returned (.bool m2) ∧ w' = W) := fun W => by rw [← hm2]; exact HMu.out _ W
  clear HMu
  cases m1
  case true =>
    clear hm1 hm2
    go_enter Try.func4, Try.ntmps4
    go_wp2_with fail
    refine (HAl.out _).mono ?_
    rintro e w1 ⟨rfl, hb⟩
    have HB : Hid (Below w.heap.size w w1) := hb
    clear hb
    go_wp2_with fail
    refine (HM1.out _).mono ?_
    rintro e w2 ⟨rfl, rfl⟩
    go_wp2
    go_ret
    exact ⟨rfl, HB.out⟩
  case false =>
  cases m2
  case true =>
    clear hm1 hm2
    go_enter Try.func4, Try.ntmps4
    go_wp2_with fail
    refine (HAl.out _).mono ?_
    rintro e w1 ⟨rfl, hb⟩
    have HB : Hid (Below w.heap.size w w1) := hb
    clear hb
    go_wp2_with fail
    refine (HM1.out _).mono ?_
    rintro e w2 ⟨rfl, rfl⟩
    go_wp2_with fail
    refine (HM2.out _).mono ?_
    rintro e w3 ⟨rfl, rfl⟩
    go_wp2
    go_ret
    exact ⟨rfl, HB.out⟩
  case false =>
    have hl1 := mch_no hm1
    have hl2 := mch_no hm2
    have HX : Hid (∀ W, Below w.heap.size w W → Calls Try.prog 14 #[.slice so s.length sc] W fun e w' => ∃ g cap, e = .returned (.slice (some ⟨g, 0, none⟩) s.length cap) ∧ Hid (Mrk 3 1 fI 777 W.heap.size w' g cap s ∧ Below W.heap.size W w')) := fun W h => ints_any s _ W (HV0.out.1.below h) HNN.out.1 (by omega)
    have HY : Hid (∀ W, Below w.heap.size w W → Calls Try.prog 14 #[.slice mo m.length mc] W fun e w' => ∃ g cap, e = .returned (.slice (some ⟨g, 0, none⟩) m.length cap) ∧ Hid (Mrk 3 1 fI 777 W.heap.size w' g cap m ∧ Below W.heap.size W w')) := fun W h => ints_any m _ W (HV0.out.2.below h) HNN.out.2 (by omega)
    obtain ⟨CL, WL, HL, e1, e2, e3, HE⟩ : ∃ CL WL HL e1 e2 e3, Hid (ceL s col = CL ∧ wiL s m col gap = WL ∧ heL s m col = HL ∧ ceE s col = e1 ∧ wiE s m col gap = e2 ∧ heE s m col = e3) := ⟨_, _, _, _, _, _, rfl, rfl, rfl, rfl, rfl, rfl⟩
    have hCl : CL.length ≤ 3000 := by rw [← HE.out.1]; have := ceL_le s col; omega
    have hWl : WL.length ≤ 1024 := by rw [← HE.out.2.1]; exact wiL_le _ _ _ _
    have hHl : HL.length ≤ 1024 := by rw [← HE.out.2.2.1]; exact heL_le _ _ _
    have A1 : Hid (∀ W v, IS W v s → Calls Try.prog 8 #[v, .int .i64 col] W fun e w' => ∃ u, e = .returned (.tuple #[u, .int .i64 e1]) ∧ Hid (OwK 40 2 fP W.heap.size w' u CL ∧ Below W.heap.size W w')) := fun W v h => by rw [← HE.out.1, ← HE.out.2.2.2.1]; exact Cells_any s col v W h
    have A2 : Hid (∀ W v u, IS W v s → IS W u m → Calls Try.prog 9 #[v, u, .int .i64 col, .int .i64 gap] W fun e w' => ∃ u, e = .returned (.tuple #[u, .int .i64 e2]) ∧ Hid (OwI W.heap.size w' u WL ∧ Below W.heap.size W w')) := fun W v u h k => by rw [← HE.out.2.1, ← HE.out.2.2.2.2.1]; exact Widths_any s m col gap v u W h k
    have A3 : Hid (∀ W v u, IS W v s → IS W u m → Calls Try.prog 11 #[v, u, .int .i64 col] W fun e w' => ∃ u, e = .returned (.tuple #[u, .int .i64 e3]) ∧ Hid (OwI W.heap.size w' u HL ∧ Below W.heap.size W w')) := fun W v u h k => by rw [← HE.out.2.2.1, ← HE.out.2.2.2.2.2]; exact Heights_any s m col v u W h k
    have B1 : Hid (∀ W v, IS W v s → Calls Try.prog 15 #[v, .int .i64 col] W fun e w' => ∃ u, e = .returned (.tuple #[u, .int .i64 e1]) ∧ Hid (OwK 40 2 fP W.heap.size w' u CL ∧ Below W.heap.size W w')) := fun W v h => by rw [← HE.out.1, ← HE.out.2.2.2.1]; exact rCells_any s col v W h
    have B2 : Hid (∀ W v u, IS W v s → IS W u m → Calls Try.prog 16 #[v, u, .int .i64 col, .int .i64 gap] W fun e w' => ∃ u, e = .returned (.tuple #[u, .int .i64 e2]) ∧ Hid (OwI W.heap.size w' u WL ∧ Below W.heap.size W w')) := fun W v u h k => by rw [← HE.out.2.1, ← HE.out.2.2.2.2.1]; exact rWidths_any s m col gap v u W h k
    have B3 : Hid (∀ W v u, IS W v s → IS W u m → Calls Try.prog 17 #[v, u, .int .i64 col] W fun e w' => ∃ u, e = .returned (.tuple #[u, .int .i64 e3]) ∧ Hid (OwI W.heap.size w' u HL ∧ Below W.heap.size W w')) := fun W v u h k => by rw [← HE.out.2.2.1, ← HE.out.2.2.2.2.2]; exact rHeights_any s m col v u W h k
    have D1 : Hid (∀ W v u, KS 2 fP W v CL → KS 2 fP W u CL → Calls Try.prog 18 #[v, u] W fun e w' => e = .returned (.bool true) ∧ Below W.heap.size W w') := fun W v u h k => points_same CL v u W h k (by omega)
    have D2 : Hid (∀ W v u, IS W v WL → IS W u WL → Calls Try.prog 19 #[v, u] W fun e w' => e = .returned (.bool true) ∧ Below W.heap.size W w') := fun W v u h k => by
      have := alike_any WL WL v u W h k (by omega)
      rwa [decide_eq_true rfl] at this
    have D3 : Hid (∀ W v u, IS W v HL → IS W u HL → Calls Try.prog 19 #[v, u] W fun e w' => e = .returned (.bool true) ∧ Below W.heap.size W w') := fun W v u h k => by
      have := alike_any HL HL v u W h k (by omega)
      rwa [decide_eq_true rfl] at this
    have D4 : Hid (∀ W lo g cap v, Mrk 3 1 fI 777 lo W g cap s → IS W v s → Calls Try.prog 20 #[.slice (some ⟨g, 0, none⟩) s.length cap, v] W fun e w' => e = .returned (.bool true) ∧ Below W.heap.size W w') := fun W lo g cap v h k => keptInts_any lo g cap s v W h k (by omega)
    have D5 : Hid (∀ W lo g cap v, Mrk 3 1 fI 777 lo W g cap m → IS W v m → Calls Try.prog 20 #[.slice (some ⟨g, 0, none⟩) m.length cap, v] W fun e w' => e = .returned (.bool true) ∧ Below W.heap.size W w') := fun W lo g cap v h k => keptInts_any lo g cap m v W h k (by omega)
    clear HE hm1 hm2 HNN hl1 hl2 hCl
    go_enter Try.func4, Try.ntmps4
    go_wp2_with fail
    refine (HAl.out _).mono ?_
    rintro e w1 ⟨rfl, hb⟩
    have F : Hid (Below w.heap.size w w1 ∧ w.heap.size ≤ w1.heap.size) := ⟨hb, hb.size⟩
    clear hb HAl
    go_wp2_with fail
    refine (HM1.out _).mono ?_
    rintro e _ ⟨rfl, rfl⟩
    go_wp2_with fail
    refine (HM2.out _).mono ?_
    rintro e w1 ⟨rfl, rfl⟩
    clear HM1 HM2
    go_wp2_with fail
    refine (HX.out _ (F.out.1)).mono ?_
    rintro e w2 ⟨gx, cx, rfl, HV⟩
    replace F : Hid (Below w.heap.size w w2 ∧ w.heap.size ≤ w1.heap.size ∧ MrK w1.heap.size w2.heap.size w2 gx cx s ∧ w1.heap.size ≤ w2.heap.size) := ⟨F.out.1.trans (HV.out.2.mono F.out.1.size), F.out.2, ⟨HV.out.1, (HV.out.1.at encI).2.1⟩, HV.out.2.size⟩
    clear HV HX
    go_wp2_with fail
    refine (HY.out _ (F.out.1)).mono ?_
    rintro e w3 ⟨gy, cy, rfl, HV⟩
    replace F : Hid (Below w.heap.size w w3 ∧ w.heap.size ≤ w1.heap.size ∧ MrK w1.heap.size w2.heap.size w3 gx cx s ∧ w1.heap.size ≤ w2.heap.size ∧ MrK w2.heap.size w3.heap.size w3 gy cy m ∧ w2.heap.size ≤ w3.heap.size) := ⟨F.out.1.trans (HV.out.2.mono F.out.1.size), F.out.2.1, F.out.2.2.1.below HV.out.2, F.out.2.2.2, ⟨HV.out.1, (HV.out.1.at encI).2.1⟩, HV.out.2.size⟩
    clear HV HY
    go_wp2_with fail
    refine (A1.out _ _ (F.out.2.2.1.1.is1)).mono ?_
    rintro e w4 ⟨cv, rfl, HV⟩
    replace F : Hid (Below w.heap.size w w4 ∧ w.heap.size ≤ w1.heap.size ∧ MrK w1.heap.size w2.heap.size w4 gx cx s ∧ w1.heap.size ≤ w2.heap.size ∧ MrK w2.heap.size w3.heap.size w4 gy cy m ∧ w2.heap.size ≤ w3.heap.size ∧ KS 2 fP w4 cv CL ∧ w3.heap.size ≤ w4.heap.size) := ⟨F.out.1.trans (HV.out.2.mono F.out.1.size), F.out.2.1, F.out.2.2.1.below HV.out.2, F.out.2.2.2.1, F.out.2.2.2.2.1.below HV.out.2, F.out.2.2.2.2.2, HV.out.1.ks encP, HV.out.2.size⟩
    clear HV A1
    go_wp2_with fail
    refine (A2.out _ _ _ (F.out.2.2.1.1.is1) (F.out.2.2.2.2.1.1.is1)).mono ?_
    rintro e w5 ⟨wv, rfl, HV⟩
    replace F : Hid (Below w.heap.size w w5 ∧ w.heap.size ≤ w1.heap.size ∧ MrK w1.heap.size w2.heap.size w5 gx cx s ∧ w1.heap.size ≤ w2.heap.size ∧ MrK w2.heap.size w3.heap.size w5 gy cy m ∧ w2.heap.size ≤ w3.heap.size ∧ KS 2 fP w5 cv CL ∧ w3.heap.size ≤ w4.heap.size ∧ RwI w4.heap.size w5.heap.size w5 wv WL ∧ w4.heap.size ≤ w5.heap.size) := ⟨F.out.1.trans (HV.out.2.mono F.out.1.size), F.out.2.1, F.out.2.2.1.below HV.out.2, F.out.2.2.2.1, F.out.2.2.2.2.1.below HV.out.2, F.out.2.2.2.2.2.1, F.out.2.2.2.2.2.2.1.below HV.out.2, F.out.2.2.2.2.2.2.2, rwi_of HV.out.1, HV.out.2.size⟩
    clear HV
    go_wp2_with fail
    refine (A3.out _ _ _ (F.out.2.2.1.1.is1) (F.out.2.2.2.2.1.1.is1)).mono ?_
    rintro e w6 ⟨hv, rfl, HV⟩
    replace F : Hid (Below w.heap.size w w6 ∧ w.heap.size ≤ w1.heap.size ∧ MrK w1.heap.size w2.heap.size w6 gx cx s ∧ w1.heap.size ≤ w2.heap.size ∧ MrK w2.heap.size w3.heap.size w6 gy cy m ∧ w2.heap.size ≤ w3.heap.size ∧ KS 2 fP w6 cv CL ∧ w3.heap.size ≤ w4.heap.size ∧ RwI w4.heap.size w5.heap.size w6 wv WL ∧ w4.heap.size ≤ w5.heap.size ∧ RwI w5.heap.size w6.heap.size w6 hv HL ∧ w5.heap.size ≤ w6.heap.size) := ⟨F.out.1.trans (HV.out.2.mono F.out.1.size), F.out.2.1, F.out.2.2.1.below HV.out.2, F.out.2.2.2.1, F.out.2.2.2.2.1.below HV.out.2, F.out.2.2.2.2.2.1, F.out.2.2.2.2.2.2.1.below HV.out.2, F.out.2.2.2.2.2.2.2.1, F.out.2.2.2.2.2.2.2.2.1.below HV.out.2, F.out.2.2.2.2.2.2.2.2.2, rwi_of HV.out.1, HV.out.2.size⟩
    clear HV A3
    go_wp2_with fail
    refine (A2.out _ _ _ (F.out.2.2.1.1.is1) (F.out.2.2.2.2.1.1.is1)).mono ?_
    rintro e w7 ⟨vv, rfl, HV⟩
    replace F : Hid (Below w.heap.size w w7 ∧ w.heap.size ≤ w1.heap.size ∧ MrK w1.heap.size w2.heap.size w7 gx cx s ∧ w1.heap.size ≤ w2.heap.size ∧ MrK w2.heap.size w3.heap.size w7 gy cy m ∧ w2.heap.size ≤ w3.heap.size ∧ KS 2 fP w7 cv CL ∧ w3.heap.size ≤ w4.heap.size ∧ RwI w4.heap.size w5.heap.size w7 wv WL ∧ w4.heap.size ≤ w5.heap.size ∧ RwI w5.heap.size w6.heap.size w7 hv HL ∧ w5.heap.size ≤ w6.heap.size ∧ RwI w6.heap.size w7.heap.size w7 vv WL ∧ w6.heap.size ≤ w7.heap.size) := ⟨F.out.1.trans (HV.out.2.mono F.out.1.size), F.out.2.1, F.out.2.2.1.below HV.out.2, F.out.2.2.2.1, F.out.2.2.2.2.1.below HV.out.2, F.out.2.2.2.2.2.1, F.out.2.2.2.2.2.2.1.below HV.out.2, F.out.2.2.2.2.2.2.2.1, F.out.2.2.2.2.2.2.2.2.1.below HV.out.2, F.out.2.2.2.2.2.2.2.2.2.1, F.out.2.2.2.2.2.2.2.2.2.2.1.below HV.out.2, F.out.2.2.2.2.2.2.2.2.2.2.2, rwi_of HV.out.1, HV.out.2.size⟩
    clear HV A2
    go_wp2_with fail
    refine (B1.out _ _ (HV0.out.1.below (F.out.1))).mono ?_
    rintro e w8 ⟨dv, rfl, HV⟩
    replace F : Hid (Below w.heap.size w w8 ∧ w.heap.size ≤ w1.heap.size ∧ MrK w1.heap.size w2.heap.size w8 gx cx s ∧ w1.heap.size ≤ w2.heap.size ∧ MrK w2.heap.size w3.heap.size w8 gy cy m ∧ w2.heap.size ≤ w3.heap.size ∧ KS 2 fP w8 cv CL ∧ w3.heap.size ≤ w4.heap.size ∧ RwI w4.heap.size w5.heap.size w8 wv WL ∧ w4.heap.size ≤ w5.heap.size ∧ RwI w5.heap.size w6.heap.size w8 hv HL ∧ w5.heap.size ≤ w6.heap.size ∧ RwI w6.heap.size w7.heap.size w8 vv WL ∧ w6.heap.size ≤ w7.heap.size ∧ KS 2 fP w8 dv CL ∧ w7.heap.size ≤ w8.heap.size) := ⟨F.out.1.trans (HV.out.2.mono F.out.1.size), F.out.2.1, F.out.2.2.1.below HV.out.2, F.out.2.2.2.1, F.out.2.2.2.2.1.below HV.out.2, F.out.2.2.2.2.2.1, F.out.2.2.2.2.2.2.1.below HV.out.2, F.out.2.2.2.2.2.2.2.1, F.out.2.2.2.2.2.2.2.2.1.below HV.out.2, F.out.2.2.2.2.2.2.2.2.2.1, F.out.2.2.2.2.2.2.2.2.2.2.1.below HV.out.2, F.out.2.2.2.2.2.2.2.2.2.2.2.1, F.out.2.2.2.2.2.2.2.2.2.2.2.2.1.below HV.out.2, F.out.2.2.2.2.2.2.2.2.2.2.2.2.2, HV.out.1.ks encP, HV.out.2.size⟩
    clear HV B1
    go_wp2_with fail
    refine (B2.out _ _ _ (HV0.out.1.below (F.out.1)) (HV0.out.2.below (F.out.1))).mono ?_
    rintro e w9 ⟨ev, rfl, HV⟩
    replace F : Hid (Below w.heap.size w w9 ∧ w.heap.size ≤ w1.heap.size ∧ MrK w1.heap.size w2.heap.size w9 gx cx s ∧ w1.heap.size ≤ w2.heap.size ∧ MrK w2.heap.size w3.heap.size w9 gy cy m ∧ w2.heap.size ≤ w3.heap.size ∧ KS 2 fP w9 cv CL ∧ w3.heap.size ≤ w4.heap.size ∧ RwI w4.heap.size w5.heap.size w9 wv WL ∧ w4.heap.size ≤ w5.heap.size ∧ RwI w5.heap.size w6.heap.size w9 hv HL ∧ w5.heap.size ≤ w6.heap.size ∧ RwI w6.heap.size w7.heap.size w9 vv WL ∧ w6.heap.size ≤ w7.heap.size ∧ KS 2 fP w9 dv CL ∧ w7.heap.size ≤ w8.heap.size ∧ RwI w8.heap.size w9.heap.size w9 ev WL) := ⟨F.out.1.trans (HV.out.2.mono F.out.1.size), F.out.2.1, F.out.2.2.1.below HV.out.2, F.out.2.2.2.1, F.out.2.2.2.2.1.below HV.out.2, F.out.2.2.2.2.2.1, F.out.2.2.2.2.2.2.1.below HV.out.2, F.out.2.2.2.2.2.2.2.1, F.out.2.2.2.2.2.2.2.2.1.below HV.out.2, F.out.2.2.2.2.2.2.2.2.2.1, F.out.2.2.2.2.2.2.2.2.2.2.1.below HV.out.2, F.out.2.2.2.2.2.2.2.2.2.2.2.1, F.out.2.2.2.2.2.2.2.2.2.2.2.2.1.below HV.out.2, F.out.2.2.2.2.2.2.2.2.2.2.2.2.2.1, F.out.2.2.2.2.2.2.2.2.2.2.2.2.2.2.1.below HV.out.2, F.out.2.2.2.2.2.2.2.2.2.2.2.2.2.2.2, rwi_of HV.out.1⟩
    clear HV B2
    go_wp2_with fail
    refine (B3.out _ _ _ (HV0.out.1.below (F.out.1)) (HV0.out.2.below (F.out.1))).mono ?_
    rintro e wa ⟨fv, rfl, HV⟩
    replace F : Hid (Below w.heap.size w wa ∧ w.heap.size ≤ w1.heap.size ∧ MrK w1.heap.size w2.heap.size wa gx cx s ∧ w1.heap.size ≤ w2.heap.size ∧ MrK w2.heap.size w3.heap.size wa gy cy m ∧ w2.heap.size ≤ w3.heap.size ∧ KS 2 fP wa cv CL ∧ w3.heap.size ≤ w4.heap.size ∧ RwI w4.heap.size w5.heap.size wa wv WL ∧ w4.heap.size ≤ w5.heap.size ∧ RwI w5.heap.size w6.heap.size wa hv HL ∧ w5.heap.size ≤ w6.heap.size ∧ RwI w6.heap.size w7.heap.size wa vv WL ∧ w6.heap.size ≤ w7.heap.size ∧ KS 2 fP wa dv CL ∧ w7.heap.size ≤ w8.heap.size ∧ RwI w8.heap.size w9.heap.size wa ev WL ∧ IS wa fv HL) := ⟨F.out.1.trans (HV.out.2.mono F.out.1.size), F.out.2.1, F.out.2.2.1.below HV.out.2, F.out.2.2.2.1, F.out.2.2.2.2.1.below HV.out.2, F.out.2.2.2.2.2.1, F.out.2.2.2.2.2.2.1.below HV.out.2, F.out.2.2.2.2.2.2.2.1, F.out.2.2.2.2.2.2.2.2.1.below HV.out.2, F.out.2.2.2.2.2.2.2.2.2.1, F.out.2.2.2.2.2.2.2.2.2.2.1.below HV.out.2, F.out.2.2.2.2.2.2.2.2.2.2.2.1, F.out.2.2.2.2.2.2.2.2.2.2.2.2.1.below HV.out.2, F.out.2.2.2.2.2.2.2.2.2.2.2.2.2.1, F.out.2.2.2.2.2.2.2.2.2.2.2.2.2.2.1.below HV.out.2, F.out.2.2.2.2.2.2.2.2.2.2.2.2.2.2.2.1, F.out.2.2.2.2.2.2.2.2.2.2.2.2.2.2.2.2.below HV.out.2, HV.out.1.is⟩
    clear HV B3
    go_wp2_with fail
    refine (D1.out _ _ _ (F.out.2.2.2.2.2.2.1) (F.out.2.2.2.2.2.2.2.2.2.2.2.2.2.2.1)).mono ?_
    rintro e wb ⟨rfl, hb⟩
    replace F : Hid (Below w.heap.size w wb ∧ w.heap.size ≤ w1.heap.size ∧ MrK w1.heap.size w2.heap.size wb gx cx s ∧ w1.heap.size ≤ w2.heap.size ∧ MrK w2.heap.size w3.heap.size wb gy cy m ∧ w2.heap.size ≤ w3.heap.size ∧ w3.heap.size ≤ w4.heap.size ∧ RwI w4.heap.size w5.heap.size wb wv WL ∧ w4.heap.size ≤ w5.heap.size ∧ RwI w5.heap.size w6.heap.size wb hv HL ∧ w5.heap.size ≤ w6.heap.size ∧ RwI w6.heap.size w7.heap.size wb vv WL ∧ w6.heap.size ≤ w7.heap.size ∧ w7.heap.size ≤ w8.heap.size ∧ RwI w8.heap.size w9.heap.size wb ev WL ∧ IS wb fv HL) := ⟨F.out.1.trans (hb.mono F.out.1.size), F.out.2.1, F.out.2.2.1.below hb, F.out.2.2.2.1, F.out.2.2.2.2.1.below hb, F.out.2.2.2.2.2.1, F.out.2.2.2.2.2.2.2.1, F.out.2.2.2.2.2.2.2.2.1.below hb, F.out.2.2.2.2.2.2.2.2.2.1, F.out.2.2.2.2.2.2.2.2.2.2.1.below hb, F.out.2.2.2.2.2.2.2.2.2.2.2.1, F.out.2.2.2.2.2.2.2.2.2.2.2.2.1.below hb, F.out.2.2.2.2.2.2.2.2.2.2.2.2.2.1, F.out.2.2.2.2.2.2.2.2.2.2.2.2.2.2.2.1, F.out.2.2.2.2.2.2.2.2.2.2.2.2.2.2.2.2.1.below hb, F.out.2.2.2.2.2.2.2.2.2.2.2.2.2.2.2.2.2.below hb⟩
    clear hb D1
    go_wp2_with fail
    refine (D2.out _ _ _ (F.out.2.2.2.2.2.2.2.1.1.is) (F.out.2.2.2.2.2.2.2.2.2.2.2.2.2.2.1.1.is)).mono ?_
    rintro e wc ⟨rfl, hb⟩
    replace F : Hid (Below w.heap.size w wc ∧ w.heap.size ≤ w1.heap.size ∧ MrK w1.heap.size w2.heap.size wc gx cx s ∧ w1.heap.size ≤ w2.heap.size ∧ MrK w2.heap.size w3.heap.size wc gy cy m ∧ w2.heap.size ≤ w3.heap.size ∧ w3.heap.size ≤ w4.heap.size ∧ RwI w4.heap.size w5.heap.size wc wv WL ∧ w4.heap.size ≤ w5.heap.size ∧ RwI w5.heap.size w6.heap.size wc hv HL ∧ w5.heap.size ≤ w6.heap.size ∧ RwI w6.heap.size w7.heap.size wc vv WL ∧ w6.heap.size ≤ w7.heap.size ∧ w7.heap.size ≤ w8.heap.size ∧ RwI w8.heap.size w9.heap.size wc ev WL ∧ IS wc fv HL) := ⟨F.out.1.trans (hb.mono F.out.1.size), F.out.2.1, F.out.2.2.1.below hb, F.out.2.2.2.1, F.out.2.2.2.2.1.below hb, F.out.2.2.2.2.2.1, F.out.2.2.2.2.2.2.1, F.out.2.2.2.2.2.2.2.1.below hb, F.out.2.2.2.2.2.2.2.2.1, F.out.2.2.2.2.2.2.2.2.2.1.below hb, F.out.2.2.2.2.2.2.2.2.2.2.1, F.out.2.2.2.2.2.2.2.2.2.2.2.1.below hb, F.out.2.2.2.2.2.2.2.2.2.2.2.2.1, F.out.2.2.2.2.2.2.2.2.2.2.2.2.2.1, F.out.2.2.2.2.2.2.2.2.2.2.2.2.2.2.1.below hb, F.out.2.2.2.2.2.2.2.2.2.2.2.2.2.2.2.below hb⟩
    clear hb
    go_wp2_with fail
    refine (D3.out _ _ _ (F.out.2.2.2.2.2.2.2.2.2.1.1.is) (F.out.2.2.2.2.2.2.2.2.2.2.2.2.2.2.2)).mono ?_
    rintro e wd ⟨rfl, hb⟩
    replace F : Hid (Below w.heap.size w wd ∧ w.heap.size ≤ w1.heap.size ∧ MrK w1.heap.size w2.heap.size wd gx cx s ∧ w1.heap.size ≤ w2.heap.size ∧ MrK w2.heap.size w3.heap.size wd gy cy m ∧ w2.heap.size ≤ w3.heap.size ∧ w3.heap.size ≤ w4.heap.size ∧ RwI w4.heap.size w5.heap.size wd wv WL ∧ w4.heap.size ≤ w5.heap.size ∧ RwI w5.heap.size w6.heap.size wd hv HL ∧ w5.heap.size ≤ w6.heap.size ∧ RwI w6.heap.size w7.heap.size wd vv WL ∧ w6.heap.size ≤ w7.heap.size ∧ w7.heap.size ≤ w8.heap.size ∧ RwI w8.heap.size w9.heap.size wd ev WL) := ⟨F.out.1.trans (hb.mono F.out.1.size), F.out.2.1, F.out.2.2.1.below hb, F.out.2.2.2.1, F.out.2.2.2.2.1.below hb, F.out.2.2.2.2.2.1, F.out.2.2.2.2.2.2.1, F.out.2.2.2.2.2.2.2.1.below hb, F.out.2.2.2.2.2.2.2.2.1, F.out.2.2.2.2.2.2.2.2.2.1.below hb, F.out.2.2.2.2.2.2.2.2.2.2.1, F.out.2.2.2.2.2.2.2.2.2.2.2.1.below hb, F.out.2.2.2.2.2.2.2.2.2.2.2.2.1, F.out.2.2.2.2.2.2.2.2.2.2.2.2.2.1, F.out.2.2.2.2.2.2.2.2.2.2.2.2.2.2.1.below hb⟩
    clear hb D3
    obtain ⟨wo, wcp, ew, _, wg⟩ := row_val (F.out.2.2.2.2.2.2.2.1).1
    subst ew
    have HAg : Hid (0 < WL.length → ∃ g, wo = some ⟨g, 0, none⟩) := fun h => by
      obtain ⟨g, e, _⟩ := wg h
      exact ⟨g, e⟩
    have H0 : Hid (Ovr wd w4.heap.size WL.length (.slice wo WL.length wcp) wd) := ⟨World.grownBy.refl _ _, WL, rfl, (F.out.2.2.2.2.2.2.2.1).1⟩
    clear wg
    go_wp2_with fail
    go_loopw [27] (fun i wr => ∃ k : Nat, i = .int .i64 k ∧ k ≤ WL.length ∧ Hid (Ovr wd w4.heap.size WL.length (.slice wo WL.length wcp) wr)) (fun i _ => WL.length - (intOf i).toNat)
    case atStart => exact ⟨0, rfl, Nat.zero_le _, H0⟩
    case round =>
      obtain ⟨k, rfl, hk, HR⟩ := hrel
      clear H0
      by_cases hlt : k < WL.length
      · have ik : (k : Int) < WL.length := by omega
        obtain ⟨g, rfl⟩ := HAg.out (by omega)
        obtain ⟨⟨z, c0⟩, f0⟩ := HR.out.at k hlt
        have HN : Hid (Ovr wd w4.heap.size WL.length (.slice (some ⟨g, 0, none⟩) WL.length wcp) (wr.setCell ⟨g, k, none⟩ (.int .i64 (-9)))) := HR.out.put k (-9)
        clear HR
        go_wp2
        exact ⟨⟨k + 1, by go_num, by omega, HN⟩, by simp [intOf]; omega⟩
      · obtain rfl : k = WL.length := by omega
        obtain ⟨we, hwe⟩ : ∃ we, we = wr := ⟨_, rfl⟩
        rw [← hwe] at HR ⊢
        clear hwe
        have G : Hid (Below w.heap.size w we ∧ MrK w1.heap.size w2.heap.size we gx cx s ∧ MrK w2.heap.size w3.heap.size we gy cy m ∧ RwI w5.heap.size w6.heap.size we hv HL ∧ RwI w6.heap.size w7.heap.size we vv WL ∧ RwI w8.heap.size w9.heap.size we ev WL) := by
          obtain ⟨f0, f1, f2, f3, f4, f5, f6, f7, f8, f9, f10, f11, f12, f13, f14⟩ := F.out
          have hg := HR.out.1
          refine ⟨grow_belowI f0 f7 ?_ f0.size hg, f2.kept f7 ?_ hg, f4.kept f7 ?_ hg, f9.kept f7 (.inr (Nat.le_refl _)) hg, f11.kept f7 (.inr ?_) hg, f14.kept f7 (.inr ?_) hg⟩
          all_goals omega
        have HS : Hid (w.heap.size ≤ w5.heap.size ∧ w2.heap.size ≤ w5.heap.size ∧ w3.heap.size ≤ w5.heap.size ∧ w6.heap.size ≤ w8.heap.size) := by
          obtain ⟨f0, f1, f2, f3, f4, f5, f6, f7, f8, f9, f10, f11, f12, f13, f14⟩ := F.out
          refine ⟨?_, ?_, ?_, ?_⟩ <;> omega
        clear HR F HAg
        obtain ⟨ho, hcp, eh, _, hg⟩ := row_val G.out.2.2.2.1.1
        subst eh
        have HAg : Hid (0 < HL.length → ∃ g, ho = some ⟨g, 0, none⟩) := fun h => by
          obtain ⟨g, e, _⟩ := hg h
          exact ⟨g, e⟩
        have H0 : Hid (Ovr we w5.heap.size HL.length (.slice ho HL.length hcp) we) := ⟨World.grownBy.refl _ _, HL, rfl, G.out.2.2.2.1.1⟩
        clear hg
        go_wp2_with fail
        go_loopw [28] (fun i wr => ∃ k : Nat, i = .int .i64 k ∧ k ≤ HL.length ∧ Hid (Ovr we w5.heap.size HL.length (.slice ho HL.length hcp) wr)) (fun i _ => HL.length - (intOf i).toNat)
        case atStart => exact ⟨0, rfl, Nat.zero_le _, H0⟩
        case round =>
          obtain ⟨k, rfl, hk, HR⟩ := hrel
          clear H0
          by_cases hlt : k < HL.length
          · have ik : (k : Int) < HL.length := by omega
            obtain ⟨g, rfl⟩ := HAg.out (by omega)
            obtain ⟨⟨z, c0⟩, f0⟩ := HR.out.at k hlt
            have HN : Hid (Ovr we w5.heap.size HL.length (.slice (some ⟨g, 0, none⟩) HL.length hcp) (wr.setCell ⟨g, k, none⟩ (.int .i64 (-8)))) := HR.out.put k (-8)
            clear HR
            go_wp2
            exact ⟨⟨k + 1, by go_num, by omega, HN⟩, by simp [intOf]; omega⟩
          · obtain rfl : k = HL.length := by omega
            obtain ⟨wf, hwf⟩ : ∃ wf, wf = wr := ⟨_, rfl⟩
            rw [← hwf] at HR ⊢
            clear hwf
            have Q : Hid (Below w.heap.size w wf ∧ MrK w1.heap.size w2.heap.size wf gx cx s ∧ MrK w2.heap.size w3.heap.size wf gy cy m ∧ IS wf vv WL ∧ IS wf ev WL) := by
              obtain ⟨f1, f2, f3, f4, f5, f6⟩ := G.out
              obtain ⟨s1, s2, s3, s4⟩ := HS.out
              have hg := HR.out.1
              exact ⟨grow_belowI f1 f4 s1 f1.size hg, f2.kept f4 s2 hg, f3.kept f4 s3 hg, (f5.kept f4 (.inr (Nat.le_refl _)) hg).1.is, (f6.kept f4 (.inr s4) hg).1.is⟩
            clear HR G HAg HS
            go_wp2_with fail
            refine (D2.out _ _ _ Q.out.2.2.2.1 Q.out.2.2.2.2).mono ?_
            rintro e wg ⟨rfl, hb⟩
            replace Q : Hid (Below w.heap.size w wg ∧ MrK w1.heap.size w2.heap.size wg gx cx s ∧ MrK w2.heap.size w3.heap.size wg gy cy m) := ⟨Q.out.1.trans (hb.mono Q.out.1.size), Q.out.2.1.below hb, Q.out.2.2.1.below hb⟩
            clear hb D2
            go_wp2_with fail
            refine (D4.out _ _ _ _ _ Q.out.2.1.1 (HV0.out.1.below Q.out.1)).mono ?_
            rintro e wh ⟨rfl, hb⟩
            replace Q : Hid (Below w.heap.size w wh ∧ MrK w2.heap.size w3.heap.size wh gy cy m) := ⟨Q.out.1.trans (hb.mono Q.out.1.size), Q.out.2.2.below hb⟩
            clear hb D4
            go_wp2_with fail
            refine (D5.out _ _ _ _ _ Q.out.2.1 (HV0.out.2.below Q.out.1)).mono ?_
            rintro e wi ⟨rfl, hb⟩
            replace Q : Hid (Below w.heap.size w wi) := Q.out.1.trans (hb.mono Q.out.1.size)
            clear hb D5
            go_wp2
            go_ret
            exact ⟨rfl, Q.out⟩

end Go.Proofs.Ythnhcphkpffkfaa
