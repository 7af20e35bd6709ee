/-
  Contracts of package region: Has, Bound.
-/
import Derived.Test.YtagkbpceiedikaaGN
namespace Go.Proofs.Ytagkbpceiedikaa
open Go.RowKit Go.Sort Go.Shelf

/-- Is a place one of a list's? -/
def hasC (l : List Rc) (px py : Int) : Bool := l.any fun r => hasB r.x r.y r.w r.h px py

set_option maxHeartbeats 1000000 in
theorem hasClo (x : Rc) (px py : Int) (bx : Nat) (W : World) (h0 : W.cell? ⟨bx, 0, none⟩ = some (.int .i64 px)) (h1 : W.cell? ⟨bx, 1, none⟩ = some (.int .i64 py)) (hb : bx < W.heap.size) (hx : I64 x.x) (hy : I64 x.y) :
    Calls Try.prog 59 #[.agg #[.int .i64 x.x, .int .i64 x.y, .int .i64 x.w, .int .i64 x.h], .pointer (some ⟨bx, 0, none⟩)] W fun e w' => e = .returned (.bool (hasB x.x x.y x.w x.h px py)) ∧ Below W.heap.size W w' := by
  have HH : Hid (∀ w, Calls Try.prog 60 #[.agg #[.int .i64 x.x, .int .i64 x.y, .int .i64 x.w, .int .i64 x.h], .agg #[.int .i64 px, .int .i64 py]] w fun e w' => e = .returned (.bool (hasB x.x x.y x.w x.h px py)) ∧ Below w.heap.size w w') := fun w => has_any _ _ _ _ _ _ w hx hy
  clear hx hy
  generalize hasB x.x x.y x.w x.h px py = hh at *
  go_enter Try.func59, Try.ntmps59
  go_wp2_with fail
  refine (HH.out _).mono ?_
  rintro e w1 ⟨rfl, hb1⟩
  have HB : Hid (Below W.heap.size W w1) := by
    have h2 : Below W.heap.size W (W.alloc (.cells #[.int .i64 x.x, .int .i64 x.y, .int .i64 x.w, .int .i64 x.h] 35)) := (Below.refl _ W).alloc (Nat.le_refl _) _
    exact h2.trans (hb1.mono h2.size)
  clear hb1
  go_wp2
  go_ret
  exact ⟨rfl, HB.out⟩

set_option maxRecDepth 10000 in
set_option maxHeartbeats 2000000 in
theorem index_any (l : List Rc) (v : Value) (px py : Int) (bx : Nat) (w : World) (hv : LsR w v l) (il : I64s l) (h0 : w.cell? ⟨bx, 0, none⟩ = some (.int .i64 px)) (h1 : w.cell? ⟨bx, 1, none⟩ = some (.int .i64 py)) (hb : bx < w.heap.size) (hl : l.length < 1000000000) :
    Calls Try.prog 75 #[v, .func (.func 59) #[] #[.pointer (some ⟨bx, 0, none⟩)]] w fun e w' => ∃ i : Int, e = .returned (.int .i64 i) ∧ decide (0 ≤ i) = hasC l px py ∧ Below w.heap.size w w' := by
  obtain ⟨oa, cap, rfl, hc, hg⟩ := hv
  have HG : Hid ((0 < l.length → ∃ g o, oa = some ⟨g, o, none⟩ ∧ g < w.heap.size ∧ ∀ i (h : i < l.length), RcAt w g (o + i * 4) l[i]) ∧ I64s l) := ⟨hg, il⟩
  have HC : Hid (∀ (x : Rc) W, Below w.heap.size w W → I64 x.x → I64 x.y → Calls Try.prog 59 #[.agg #[.int .i64 x.x, .int .i64 x.y, .int .i64 x.w, .int .i64 x.h], .pointer (some ⟨bx, 0, none⟩)] W fun e w' => e = .returned (.bool (hasB x.x x.y x.w x.h px py)) ∧ Below W.heap.size W w') := fun x W hW hx hy =>
    hasClo x px py bx W ((hW.cell (p := ⟨bx, 0, none⟩) hb).trans h0) ((hW.cell (p := ⟨bx, 1, none⟩) hb).trans h1) (Nat.lt_of_lt_of_le hb hW.size) hx hy
  obtain ⟨R, HR⟩ : ∃ R, Hid (R = hasC l px py) := ⟨_, rfl⟩
  rw [← HR.out]
  clear hg il h0 h1
  go_enter Try.func75, Try.ntmps75
  go_wp2_with fail
  go_loopw [8] (fun i wr => ∃ k : Nat, k ≤ l.length ∧ i = .int .i64 k ∧ hasC (l.take k) px py = false ∧ Below w.heap.size w wr) (fun i _ => l.length - (intOf i).toNat)
  case atStart => exact ⟨0, Nat.zero_le _, rfl, rfl, Below.refl _ _⟩
  case round =>
    obtain ⟨k, hk, rfl, ha, L⟩ := hrel
    by_cases hlt : k < l.length
    · obtain ⟨g, o, rfl, hg, hat⟩ := HG.out.1 (by omega)
      obtain ⟨x0, x1, x2, x3⟩ := (hat k hlt).kept (w' := wr) fun j => L.cell (p := ⟨g, j, none⟩) hg
      obtain ⟨i1, i2⟩ := HG.out.2 _ (List.getElem_mem hlt)
      have e1 : l.take (k + 1) = l.take k ++ [l[k]] := (List.take_append_getElem hlt).symm
      have e2 : hasC (l.take (k + 1)) px py = hasB l[k].x l[k].y l[k].w l[k].h px py := by
        unfold hasC at ha ⊢
        rw [e1, List.any_append, ha]; simp
      have e3 : hasB l[k].x l[k].y l[k].w l[k].h px py = true → R = true := fun h => by
        rw [HR.out]
        unfold hasC
        exact List.any_eq_true.2 ⟨l[k], List.getElem_mem hlt, h⟩
      have HX := HC.out l[k] wr L i1 i2
      have HE : Hid (hasC (l.take (k + 1)) px py = hasB l[k].x l[k].y l[k].w l[k].h px py ∧ (hasB l[k].x l[k].y l[k].w l[k].h px py = true → R = true) ∧ Below w.heap.size w wr) := ⟨e2, e3, L⟩
      have HX2 : Hid (Calls Try.prog 59 #[.agg #[.int .i64 l[k].x, .int .i64 l[k].y, .int .i64 l[k].w, .int .i64 l[k].h], .pointer (some ⟨bx, 0, none⟩)] wr fun e w' => e = .returned (.bool (hasB l[k].x l[k].y l[k].w l[k].h px py)) ∧ Below wr.heap.size wr w') := HX
      clear hat e1 e2 e3 L ha i1 i2 HX
      generalize hasB l[k].x l[k].y l[k].w l[k].h px py = hh at *
      generalize l[k] = x at *
      have HT : Hid (hh = true → R = true) := HE.out.2.1
      cases hh
      · go_wp2_with fail
        refine HX2.out.mono ?_
        rintro e w1 ⟨rfl, hb1⟩
        have HRel : Hid (∃ k' : Nat, k' ≤ l.length ∧ Value.int .i64 ((k : Int) + 1) = .int .i64 k' ∧ hasC (l.take k') px py = false ∧ Below w.heap.size w w1) := ⟨k + 1, by omega, by go_num, HE.out.1, HE.out.2.2.trans (hb1.mono HE.out.2.2.size)⟩
        clear hb1
        go_wp2
        exact ⟨HRel.out, by simp [intOf]; omega⟩
      · go_wp2_with fail
        refine HX2.out.mono ?_
        rintro e w1 ⟨rfl, hb1⟩
        have HB : Hid (Below w.heap.size w w1) := HE.out.2.2.trans (hb1.mono HE.out.2.2.size)
        clear hb1
        go_wp2
        go_ret
        have e5 : R = true := by first | exact HT.out rfl | exact HT.out trivial
        exact ⟨_, rfl, by rw [e5]; simp, HB.out⟩
    · obtain rfl : k = l.length := by omega
      rw [List.take_length] at ha
      have HB : Hid (R = false ∧ Below w.heap.size w wr) := ⟨by rw [HR.out]; exact ha, L⟩
      clear ha L
      go_wp2
      go_ret
      exact ⟨_, rfl, by rw [HB.out.1]; rfl, HB.out.2⟩

set_option maxHeartbeats 1000000 in
theorem hasL_any (l : List Rc) (v : Value) (px py : Int) (w : World) (hv : LsR w v l) (il : I64s l) :
    Calls Try.prog 29 #[v, .agg #[.int .i64 px, .int .i64 py]] w fun e w' => e = .returned (.tuple #[.bool (decide (lisE l = 0) && hasC l px py), .int .i64 (lisE l)]) ∧ Below w.heap.size w w' := by
  have hb0 : Below w.heap.size w (w.alloc (.cells #[.int .i64 px, .int .i64 py] 31)) := (Below.refl _ w).alloc (Nat.le_refl _) _
  have H1 : Hid (∀ W, Below w.heap.size w W → Calls Try.prog 41 #[v] W fun e w' => e = .returned (.int .i64 (lisE l)) ∧ Below W.heap.size W w') := fun W h => listed_any l v W (hv.below h) il
  have HB0 : Hid (Below w.heap.size w (w.alloc (.cells #[.int .i64 px, .int .i64 py] 31)) ∧ Bk (w.alloc (.cells #[.int .i64 px, .int .i64 py] 31)) w.heap.size #[.int .i64 px, .int .i64 py] 31) := ⟨hb0, Bk.new _ _ _⟩
  by_cases h0 : lisE l = 0
  · have hal := (lisE_zero h0).1
    have HI : Hid (∀ bx W, Below w.heap.size w W → Bk W bx #[.int .i64 px, .int .i64 py] 31 → Calls Try.prog 75 #[v, .func (.func 59) #[] #[.pointer (some ⟨bx, 0, none⟩)]] W fun e w' => ∃ i : Int, e = .returned (.int .i64 i) ∧ decide (0 ≤ i) = hasC l px py ∧ Below W.heap.size W w') := fun bx W h hk => index_any l v px py bx W (hv.below h) il hk.at2.1 hk.at2.2 hk.lt (by omega)
    rw [h0] at H1 ⊢
    rw [decide_eq_true rfl, Bool.true_and]
    generalize hasC l px py = hh at *
    have HCf : Hid (∀ bx W, Below w.heap.size w W → Bk W bx #[.int .i64 px, .int .i64 py] 31 → Calls Try.prog 58 #[v, .func (.func 59) #[] #[.pointer (some ⟨bx, 0, none⟩)]] W fun e w' => e = .returned (.bool hh) ∧ Below W.heap.size W w') := by
      intro bx W h hk
      have HX : Hid (Calls Try.prog 75 #[v, .func (.func 59) #[] #[.pointer (some ⟨bx, 0, none⟩)]] W fun e w' => ∃ i : Int, e = .returned (.int .i64 i) ∧ decide (0 ≤ i) = hh ∧ Below W.heap.size W w') := HI.out bx W h hk
      clear hk h hv il HI H1 HB0 hb0
      go_enter Try.func58, Try.ntmps58
      go_wp2_with fail
      refine HX.out.mono ?_
      rintro e w1 ⟨i, rfl, hi, hb1⟩
      have HB : Hid (Below W.heap.size W w1 ∧ decide (0 ≤ i) = hh) := ⟨hb1, hi⟩
      clear hb1 hi
      go_wp2
      go_ret
      exact ⟨by rw [← HB.out.2]; rfl, HB.out.1⟩
    clear hv il h0 HI hb0
    go_enter Try.func29, Try.ntmps29
    go_wp2_with fail
    refine (H1.out _ HB0.out.1).mono ?_
    rintro e w1 ⟨rfl, hb1⟩
    have HB1 : Hid (Below w.heap.size w w1 ∧ Bk w1 w.heap.size #[.int .i64 px, .int .i64 py] 31) := ⟨HB0.out.1.trans (hb1.mono HB0.out.1.size), HB0.out.2.below hb1⟩
    clear hb1
    go_wp2_with fail
    refine (HCf.out _ _ HB1.out.1 HB1.out.2).mono ?_
    rintro e w2 ⟨rfl, hb2⟩
    have HB2 : Hid (Below w.heap.size w w2) := HB1.out.1.trans (hb2.mono HB1.out.1.size)
    clear hb2
    go_wp2
    go_ret2
    exact ⟨rfl, HB2.out⟩
  · rw [decide_eq_false h0, Bool.false_and]
    generalize lisE l = ea at *
    have h1 : (ea != 0) = true := by simp [h0]
    clear hv il h0 hb0
    go_enter Try.func29, Try.ntmps29
    go_wp2_with fail
    refine (H1.out _ HB0.out.1).mono ?_
    rintro e w1 ⟨rfl, hb1⟩
    have HB1 : Hid (Below w.heap.size w w1) := HB0.out.1.trans (hb1.mono HB0.out.1.size)
    clear hb1
    go_wp2
    go_ret2
    exact ⟨rfl, HB1.out⟩

end Go.Proofs.Ytagkbpceiedikaa
