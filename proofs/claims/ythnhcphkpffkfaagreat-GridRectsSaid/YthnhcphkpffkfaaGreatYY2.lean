/-
  Package grid: Cells, Widths, Heights, Need.
-/
import Derived.Test.YthnhcphkpffkfaaGreatYX1
import Derived.Test.YthnhcphkpffkfaaGreatYJ
namespace Go.Proofs.YthnhcphkpffkfaaGreat
open Go.RowKit

theorem PlM.boxT {lo : Nat} {w : World} {v : Value} {us : List Value} {R : List (List Pc)} {b : Nat} {cs : Array Value} {t : TypeId} (h : PlM lo w v us R) (hk : Bk w b cs t) (h1 : t ≠ 88) (h2 : t ≠ 68) (o : Nat) (x : Value) : PlM lo (w.setCell ⟨b, o, none⟩ x) v us R := by
  refine h.kept (grow_set w b o x) (.inr (row_typ h.own hk h1)) fun r u hu => .inr ?_
  have hr : r < R.length := by rw [← h.len]; exact (List.getElem?_eq_some_iff.1 hu).1
  exact row_typ (h.ins r hr u hu) hk h2
theorem PlM.rowT {lo lo' : Nat} {w w' : World} {v a : Value} {us : List Value} {R : List (List Pc)} {t : TypeId} {k n : Nat} {xs : List Value} (h : PlM lo w v us R) (ho : w.ownsRow lo' t k a n xs) (h1 : 88 ≠ t) (h2 : 68 ≠ t) (hg : w.grownBy w' a.ownBlock) : PlM lo w' v us R := by
  refine h.kept hg (row_typ2 h.own ho h1) fun r u hu => ?_
  have hr : r < R.length := by rw [← h.len]; exact (List.getElem?_eq_some_iff.1 hu).1
  exact row_typ2 (h.ins r hr u hu) ho h2
theorem make_points (n : Nat) (hn : n < 1000000) (W : World) : ∃ arr : Array Value, arr.size = n * 2 ∧ (Instr.makeSlice 44 (.int .i64 0) (.int .i64 (n : Nat))).run Tryz.prog W = .ok (.slice (some ⟨W.heap.size, 0, none⟩) 0 n) (W.alloc (.cells arr 25)) := by
  obtain ⟨i0, hi, hz0, hz1, hz2⟩ := info_parts info_point
  have h := run_make (P := Tryz.prog) W 44 25 i0 (.agg #[.int .i64 0, .int .i64 0]) Tryz.underlying44 hi hz0 .i64 .i64 0 (n : Int) (by omega) (by omega) (by rw [hz2]; omega) (by omega)
  simp only [Int.toNat_natCast, hz1] at h
  exact ⟨_, size_madeCells _ _, h⟩
theorem own_made {t : TypeId} {k lo g n : Nat} {w : World} {arr : Array Value} (h : Bk w g arr t) (hs : arr.size = n * k) (hl : lo ≤ g) (hn : n ≤ maxLen) : w.ownsRow lo t k (.slice (some ⟨g, 0, none⟩) 0 n) 0 [] :=
  ⟨by simp, .inr ⟨g, n, arr, rfl, hl, h, Nat.zero_le _, hn, hs, by simp⟩⟩

theorem cells1_enters : ∀ args w, (callFunc 49 args).run Tryz.prog w = .ok (.enter 49 args) w := enters_of Tryz.func49 (by kernel_rfl) rfl
set_option maxRecDepth 10000 in
set_option maxHeartbeats 4000000 in
theorem cells1_any (c : Cl) (t : Nat) (b : Int) (ab lo : Nat) (L : List Cl) (av : Value) (w : World) (h1 : Bk w ab #[av] 44) (h2 : OwK 25 2 fP lo w av L) (hlo : lo ≤ w.heap.size) (hL : L.length ≤ 100000) :
    Calls Tryz.prog 49 #[.int .i64 (c.y : Nat), .agg #[.int .i64 (t : Nat), .int .i64 (c.x : Nat), .int .i64 b], .pointer (some ⟨ab, 0, none⟩)] w fun e w' => e = .returned (.tuple #[]) ∧ ∃ x av', w.grownBy x av.ownBlock ∧ OwK 25 2 fP lo x av' (L ++ [c]) ∧ w' = x.setCell ⟨ab, 0, none⟩ av' := by
  have x0 : w.cell? ⟨ab, 0, none⟩ = some av := by rw [h1.cell]; rfl
  have lab := h1.lt
  obtain ⟨j0, ki, kz0, kz1, kz2⟩ := info_parts info_point
  obtain ⟨ao, ac, e1, _, _⟩ := row_val h2
  subst e1
  have HA : Hid (∀ o p, ((w.alloc o).alloc p).ownsRow lo 25 2 (.slice ao L.length ac) L.length (flatK fP L) ∧ lo ≤ ((w.alloc o).alloc p).heap.size) := fun o p => ⟨row_below (row_below h2 ((Below.refl _ _).alloc (Nat.le_refl _) _)) ((Below.refl _ _).alloc (Nat.le_refl _) _), by simp; omega⟩
  have hc3 : Hid (L.length + 1 ≤ maxLen) := by unfold Hid maxLen; omega
  have hc4 : Hid ((L.length + 1) * 16 ≤ 140737488355328) := by unfold Hid; omega
  have HN : Hid (Bk w ab #[.slice ao L.length ac] 44 ∧ OwK 25 2 fP lo w (.slice ao L.length ac) L) := ⟨h1, h2⟩
  clear h1 h2
  go_enter Tryz.func49, Tryz.ntmps49
  go_wp2_with (at_builtin; refine wpList_append_lies _ rfl _ _ 44 rfl lo 25 j0 (.agg #[.int .i64 0, .int .i64 0]) 2 16 Tryz.underlying44 ki kz0 kz1 kz2 rfl (by decide) (.slice ao L.length ac) L.length (flatK fP L) rfl (HA.out _ _).1 _ 1 1 [.int .i64 (c.x : Nat), .int .i64 (c.y : Nat)] rfl rfl (cell_bk2 (Bk.newB (by simp))) (one2 _ _) (by decide) hc3.out hc4.out (HA.out _ _).2 _ rfl ?_)
  intro g4 cap4 w4 hown' hgrow _ hg4
  have H4 : Hid (w.grownBy w4 (Value.slice ao L.length ac).ownBlock ∧ OwK 25 2 fP lo w4 (.slice (some ⟨g4, 0, none⟩) (L.length + 1) cap4) (L ++ [c]) ∧ Bk w4 ab #[.slice ao L.length ac] 44) := by
    have b1 : Below w.heap.size w ((w.alloc (.cells #[.int .i64 (t : Nat), .int .i64 (c.x : Nat), .int .i64 b] 68)).alloc (.cells #[.int .i64 (c.x : Nat), .int .i64 (c.y : Nat)] 25)) := ((Below.refl _ _).alloc (Nat.le_refl _) _).alloc (by simp) _
    have kb := HN.out.1.below b1
    exact ⟨grow_tr ⟨b1.os, b1.tape, b1.output, b1.size, fun b hb _ => b1.block b hb⟩ hgrow (.inl rfl), OwK.snoc (a := c) rfl hown', kb.grown hgrow (row_typ (HA.out _ _).1 kb (by decide))⟩
  clear hown' hgrow HA HN x0 lab
  have c2 : w4.cell? ⟨ab, 0, none⟩ = some (.slice ao L.length ac) := by rw [H4.out.2.2.cell]; rfl
  have f2 := H4.out.2.2.frozen 0
  go_wp2
  go_end0
  exact ⟨rfl, _, _, H4.out.1, H4.out.2.1, rfl⟩

set_option maxRecDepth 10000 in
set_option maxHeartbeats 4000000 in
theorem Cells_any (s : List Int) (col : Int) (sv : Value) (w : World) (hs : IS w sv s) :
    Calls Tryz.prog 15 #[sv, .int .i64 col] w fun e w' => ∃ u, e = .returned (.tuple #[u, .int .i64 (ceE s col)]) ∧ Hid (OwK 25 2 fP w.heap.size w' u (ceL s col) ∧ Below w.heap.size w w') := by
  have HV : Hid (IS w sv s) := hs
  obtain ⟨so, sc, rfl, _, _⟩ := hs
  have H1 : Hid (∀ W, Below w.heap.size w W → Calls Tryz.prog 19 #[.slice so s.length sc] W fun e w' => e = .returned (.int .i64 (eaC s 64)) ∧ w' = W) := fun W h => spans_any s _ W (HV.out.below h)
  have H2 : Hid (∀ W, Calls Tryz.prog 21 #[.int .i64 col] W fun e w' => e = .returned (.int .i64 (nuC col 64)) ∧ w' = W) := fun W => columns_any col W
  have HO : Hid (∀ x W, IS W x [eaC s 64, nuC col 64] → Calls Tryz.prog 18 #[x] W fun e w' => e = .returned (.int .i64 (ceE s col)) ∧ w' = W) := fun x W h => or_any _ x W h (by simp)
  have HLit : Hid (IS (w.alloc (.cells #[.int .i64 (eaC s 64), .int .i64 (nuC col 64)] 34)) (.slice (some ⟨w.heap.size, 0, none⟩) 2 2) [eaC s 64, nuC col 64] ∧ Below w.heap.size w (w.alloc (.cells #[.int .i64 (eaC s 64), .int .i64 (nuC col 64)] 34))) := ⟨is_lit w [eaC s 64, nuC col 64] 34, (Below.refl _ _).alloc (Nat.le_refl _) _⟩
  by_cases h0 : ceE s col = 0
  · have hz := fsC_zero h0
    obtain ⟨hl, _⟩ := eaC_zero (hz (eaC s 64) (by simp))
    have hcol := nuC_zero (hz (nuC col 64) (by simp))
    have e2 : ceL s col = cel (clN col) s := by unfold ceL; rw [if_pos h0]
    rw [e2]
    rw [h0] at HO ⊢
    have HPu : Hid (∀ W, Below w.heap.size w W → Calls Tryz.prog 24 #[.slice so s.length sc, .int .i64 col] W fun e w' => ∃ v us, e = .returned (.agg #[.int .i64 (clN col : Nat), v]) ∧ Hid (PlM W.heap.size w' v us (prw (clN col) s) ∧ Below W.heap.size W w')) := fun W h => put_any s col _ W (HV.out.below h) hl hcol
    have hn0 := clN_pos col
    generalize clN col = n at *
    have HE : Hid (∀ (ab lo2 : Nat) (v av : Value) (us : List Value) (W : World), w.heap.size ≤ ab → PlM lo2 W v us (prw n s) → Below w.heap.size w W → Bk W ab #[av] 44 → OwK 25 2 fP w.heap.size W av [] → Calls Tryz.prog 30 #[.agg #[.int .i64 (n : Nat), v], .func (.func 49) #[] #[.pointer (some ⟨ab, 0, none⟩)]] W fun e w' => e = .returned (.tuple #[]) ∧ Hid (Below w.heap.size w w' ∧ ∃ av', Bk w' ab #[av'] 44 ∧ OwK 25 2 fP w.heap.size w' av' (cel n s))) := by
      intro ab lo2 v av us W hab hp hb k1 k2
      have := each_prw hn0 hl (v := v) (us := us) (F := 49) (caps := #[.pointer (some ⟨ab, 0, none⟩)]) (I := fun k W => PlM lo2 W v us (prw n s) ∧ Below w.heap.size w W ∧ ∃ av, Bk W ab #[av] 44 ∧ OwK 25 2 fP w.heap.size W av ((cel n s).take k)) cells1_enters (fun k W h => h.1.rs) (fun k W W' h hb => ⟨h.1.below hb, h.2.1.trans (hb.mono h.2.1.size), h.2.2.imp fun _ q => ⟨q.1.below hb, q.2.below hb⟩⟩) (fun k hk W h => ?_) W ⟨hp, hb, av, k1, k2⟩
      · refine this.mono ?_
        rintro e w' ⟨rfl, H⟩
        obtain ⟨_, a1, av', a2, a3⟩ := H.out
        rw [List.take_of_length_le (by rw [cel_len]; exact Nat.le_refl _)] at a3
        exact ⟨rfl, a1, av', a2, a3⟩
      · obtain ⟨a0, a1, av, a2, a3⟩ := h
        have hk' : k < s.length := by rw [cel_len] at hk; exact hk
        refine (cells1_any (cel n s)[k] k (((cel n s)[k].x + (cel n s)[k].k : Nat) : Int) ab w.heap.size _ av W a2 a3 a1.size (by rw [List.length_take]; omega)).mono ?_
        rintro e w' ⟨rfl, x, av', g1, g2, rfl⟩
        rw [← List.take_succ_eq_append_getElem hk] at g2
        have kx := a2.grown g1 (row_typ a3 a2 (by decide))
        have b1 : Below w.heap.size w x := app_below a1 a3 (Nat.le_refl _) g1
        exact ⟨rfl, (a0.rowT a3 (by decide) (by decide) g1).boxT kx (by decide) (by decide) 0 _, b1.setCell (p := ⟨ab, 0, none⟩) hab _, av', kx.put 0 _, g2.grown (grow_set x ab 0 av') (.inr (row_typ g2 kx (by decide)))⟩
    clear h0 hz e2 HV
    generalize eaC s 64 = r1 at *
    generalize nuC col 64 = r2 at *
    go_enter Tryz.func15, Tryz.ntmps15
    go_wp2_with fail
    refine (H1.out _ (Below.refl _ _)).mono ?_
    rintro e w1 ⟨rfl, rfl⟩
    go_wp2_with fail
    refine (H2.out _).mono ?_
    rintro e w2 ⟨rfl, rfl⟩
    go_wp2_with fail
    refine (HO.out _ _ HLit.out.1).mono ?_
    rintro e w3 ⟨rfl, rfl⟩
    have HB3 : Hid (Below w2.heap.size w2 (w2.alloc (.cells #[.int .i64 r1, .int .i64 r2] 34))) := HLit.out.2
    clear HLit HO H1 H2
    generalize w2.alloc (.cells #[.int .i64 r1, .int .i64 r2] 34) = W3 at *
    obtain ⟨arr, har, hmk⟩ := make_points s.length (by omega) W3
    have H3 : Hid (w2.heap.size ≤ W3.heap.size + 1 ∧ Below w2.heap.size w2 ((W3.alloc (.cells arr 25)).alloc (.cells #[.slice (some ⟨W3.heap.size, 0, none⟩) 0 s.length] 44)) ∧ Bk ((W3.alloc (.cells arr 25)).alloc (.cells #[.slice (some ⟨W3.heap.size, 0, none⟩) 0 s.length] 44)) (W3.heap.size + 1) #[.slice (some ⟨W3.heap.size, 0, none⟩) 0 s.length] 44 ∧ OwK 25 2 fP w2.heap.size ((W3.alloc (.cells arr 25)).alloc (.cells #[.slice (some ⟨W3.heap.size, 0, none⟩) 0 s.length] 44)) (.slice (some ⟨W3.heap.size, 0, none⟩) 0 s.length) []) := by
      have b1 := HB3.out.alloc HB3.out.size (.cells arr 25)
      have b2 := b1.alloc b1.size (.cells #[.slice (some ⟨W3.heap.size, 0, none⟩) 0 s.length] 44)
      exact ⟨by have := HB3.out.size; omega, b2, Bk.newB (by simp), own_made (Bk.alloc (Bk.newB rfl) _) har HB3.out.size (by unfold maxLen; omega)⟩
    clear har
    go_wp2_with fail
    refine (HPu.out _ H3.out.2.1).mono ?_
    rintro e w4 ⟨v, us, rfl, H4⟩
    have H5 : Hid (PlM ((W3.alloc (.cells arr 25)).alloc (.cells #[.slice (some ⟨W3.heap.size, 0, none⟩) 0 s.length] 44)).heap.size w4 v us (prw n s) ∧ Below w2.heap.size w2 w4 ∧ Bk w4 (W3.heap.size + 1) #[.slice (some ⟨W3.heap.size, 0, none⟩) 0 s.length] 44 ∧ OwK 25 2 fP w2.heap.size w4 (.slice (some ⟨W3.heap.size, 0, none⟩) 0 s.length) []) := ⟨H4.out.1, H3.out.2.1.trans (H4.out.2.mono H3.out.2.1.size), H3.out.2.2.1.below H4.out.2, H3.out.2.2.2.below H4.out.2⟩
    have hlo := H3.out.1
    have HEx := HE.out (W3.heap.size + 1) _ v _ us w4 hlo H5.out.1 H5.out.2.1 H5.out.2.2.1 H5.out.2.2.2
    clear H3 H4 HPu HE hmk H5 HB3
    go_wp2_with fail
    refine HEx.mono ?_
    rintro e w5 ⟨rfl, H6⟩
    obtain ⟨a1, av, a2, a3⟩ := H6.out
    have c0 : w5.cell? ⟨W3.heap.size + 1, 0, none⟩ = some av := by rw [a2.cell]; rfl
    have HF : Hid (OwK 25 2 fP w2.heap.size w5 av (cel n s) ∧ Below w2.heap.size w2 w5) := ⟨a3, a1⟩
    obtain ⟨ao, ac, e1, _, _⟩ := row_val a3
    clear H6 HEx a1 a2 a3
    subst e1
    go_wp2
    go_ret2
    exact ⟨_, rfl, HF⟩
  · have e2 : ceL s col = [] := by unfold ceL; rw [if_neg h0]
    rw [e2]
    have hne : (ceE s col != 0) = true := by simpa using h0
    generalize ceE s col = R at *
    generalize eaC s 64 = r1 at *
    generalize nuC col 64 = r2 at *
    clear h0 e2 HV
    go_enter Tryz.func15, Tryz.ntmps15
    go_wp2_with fail
    refine (H1.out _ (Below.refl _ _)).mono ?_
    rintro e w1 ⟨rfl, rfl⟩
    go_wp2_with fail
    refine (H2.out _).mono ?_
    rintro e w2 ⟨rfl, rfl⟩
    go_wp2_with fail
    refine (HO.out _ _ HLit.out.1).mono ?_
    rintro e w3 ⟨rfl, rfl⟩
    go_wp2
    go_ret2
    exact ⟨_, rfl, OwK.nil _ _ _ _ _, HLit.out.2⟩

end Go.Proofs.YthnhcphkpffkfaaGreat

namespace Go.Proofs.YthnhcphkpffkfaaGreat
open Go.RowKit

def okZ (q : Sz) : Bool := inG 16384 q.w && inG 16384 q.h
theorem szC_eq (z : List Sz) : szC z = if 1024 < z.length then 4 else if z.all okZ = true then 0 else 2 := by
  unfold szC
  by_cases h : 1024 < z.length
  · rw [if_pos h, if_pos h]
  · rw [if_neg h, if_neg h]
    have ew : eaC (z.map (·.w)) 16384 = if z.all (fun q => inG 16384 q.w) = true then 0 else 2 := by
      unfold eaC; rw [List.length_map, if_neg h, List.all_map]; rfl
    have eh : eaC (z.map (·.h)) 16384 = if z.all (fun q => inG 16384 q.h) = true then 0 else 2 := by
      unfold eaC; rw [List.length_map, if_neg h, List.all_map]; rfl
    have ea : z.all okZ = (z.all (fun q => inG 16384 q.w) && z.all (fun q => inG 16384 q.h)) := by
      clear ew eh h
      induction z with
      | nil => rfl
      | cons a l ih => rw [List.all_cons, List.all_cons, List.all_cons, ih]; unfold okZ; cases inG 16384 a.w <;> cases inG 16384 a.h <;> cases (l.all fun q => inG 16384 q.w) <;> rfl
    rw [ew, eh, ea]
    cases (z.all fun q => inG 16384 q.w) <;> cases (z.all fun q => inG 16384 q.h) <;> rfl

set_option maxHeartbeats 2000000 in
theorem size_any (q : Sz) (w : World) : Calls Tryz.prog 55 #[.agg #[.int .i64 q.w, .int .i64 q.h]] w fun e w' => e = .returned (.int .i64 (if okZ q = true then 0 else 2)) ∧ Below w.heap.size w w' := by
  have HB : Hid (Below w.heap.size w (w.alloc (.cells #[.int .i64 q.w, .int .i64 q.h] 27))) := (Below.refl _ _).alloc (Nat.le_refl _) _
  have H1 := fun W => side_any q.w W
  have H2 := fun W => side_any q.h W
  unfold okZ
  unfold nuC at H1 H2
  cases h1 : inG 16384 q.w
  · simp only [h1, Bool.false_eq_true, if_false] at H1
    clear H2
    have H1' : Hid (∀ W, Calls Tryz.prog 22 #[.int .i64 q.w] W fun e w' => e = .returned (.int .i64 2) ∧ w' = W) := H1
    clear H1 h1
    go_enter Tryz.func55, Tryz.ntmps55
    go_wp2_with fail
    refine (H1'.out _).mono ?_
    rintro e w1 ⟨rfl, rfl⟩
    go_wp2
    go_ret
    exact ⟨rfl, HB.out⟩
  · simp only [h1, if_true] at H1
    have H1' : Hid (∀ W, Calls Tryz.prog 22 #[.int .i64 q.w] W fun e w' => e = .returned (.int .i64 0) ∧ w' = W) := H1
    clear H1 h1
    rw [Bool.true_and]
    generalize (if inG 16384 q.h = true then (0 : Int) else 2) = R at *
    have H2' : Hid (∀ W, Calls Tryz.prog 22 #[.int .i64 q.h] W fun e w' => e = .returned (.int .i64 R) ∧ w' = W) := H2
    clear H2
    go_enter Tryz.func55, Tryz.ntmps55
    go_wp2_with fail
    refine (H1'.out _).mono ?_
    rintro e w1 ⟨rfl, rfl⟩
    go_wp2_with fail
    refine (H2'.out _).mono ?_
    rintro e w2 ⟨rfl, rfl⟩
    go_wp2
    go_ret
    exact ⟨rfl, HB.out⟩

theorem size_enters : ∀ args w, (callFunc 55 args).run Tryz.prog w = .ok (.enter 55 args) w := enters_of Tryz.func55 (by kernel_rfl) rfl

set_option maxHeartbeats 2000000 in
theorem listZ_any (z : List Sz) (v : Value) (w : World) (hv : KS 2 fZ w v z) :
    Calls Tryz.prog 54 #[v, .func (.func 55) #[] #[]] w fun e w' => e = .returned (.int .i64 (szC z)) ∧ Below w.heap.size w w' := by
  obtain ⟨oa, cap, rfl, hc, hg⟩ := hv
  have HG : Hid (0 < z.length → ∃ g o, oa = some ⟨g, o, none⟩ ∧ g < w.heap.size ∧ ∀ i (h : i < z.length) j, j < 2 → w.cell? ⟨g, o + i * 2 + j, none⟩ = some (.int .i64 ((fZ z[i]).getD j 0))) := hg
  have HF : Hid (∀ q W, Calls Tryz.prog 55 #[.agg #[.int .i64 (q : Sz).w, .int .i64 q.h]] W fun e w' => e = .returned (.int .i64 (if okZ q = true then 0 else 2)) ∧ Below W.heap.size W w') := fun q W => size_any q W
  have eg := size_enters
  clear hg
  rw [szC_eq]
  by_cases h2 : 1024 < z.length
  · rw [if_pos h2]
    have i2 : (1024 : Int) < z.length := by omega
    have HB : Hid (Below w.heap.size w w) := Below.refl _ _
    go_enter Tryz.func54, Tryz.ntmps54
    go_wp2
    go_ret
    exact ⟨rfl, HB.out⟩
  rw [if_neg h2]
  have i2 : ¬ (1024 : Int) < z.length := by omega
  obtain ⟨R, HR⟩ : ∃ R : Int, Hid (R = if z.all okZ = true then 0 else 2) := ⟨_, rfl⟩
  rw [← HR.out]
  have HB0 : Hid (Below w.heap.size w w) := Below.refl _ _
  go_enter Tryz.func54, Tryz.ntmps54
  go_wp2_with fail
  go_loopw [6, 7, 13] (fun _ _ i wr => ∃ k : Nat, k ≤ z.length ∧ i = .int .i64 k ∧ Hid ((z.take k).all okZ = true ∧ Below w.heap.size w wr)) (fun _ _ i _ => z.length - (intOf i).toNat)
  case atStart => exact ⟨0, Nat.zero_le _, rfl, rfl, HB0.out⟩
  case round =>
    obtain ⟨k, hk, rfl, HK⟩ := hrel
    by_cases hlt : k < z.length
    · have ik : (k : Int) < z.length := by omega
      obtain ⟨g, o, rfl, hg, hat⟩ := HG.out (by omega)
      have x0 : wr.cell? ⟨g, o + k * 2, none⟩ = some (.int .i64 z[k].w) := (HK.out.2.cell (p := ⟨g, o + k * 2, none⟩) hg).trans (hat k hlt 0 (by omega))
      have x1 : wr.cell? ⟨g, o + k * 2 + 1, none⟩ = some (.int .i64 z[k].h) := (HK.out.2.cell (p := ⟨g, o + k * 2 + 1, none⟩) hg).trans (hat k hlt 1 (by omega))
      have HT : Hid ((okZ z[k] = true → (z.take (k + 1)).all okZ = true) ∧ (okZ z[k] = false → R = 2)) := ⟨fun h => take_all hlt HK.out.1 h, fun h => by rw [HR.out, if_neg (by rw [all_not hlt h]; decide)]⟩
      have hbk := HK.out.2
      have B1 := hbk.alloc hbk.size (.cells #[.int .i64 z[k].w, .int .i64 z[k].h] 27)
      have HB1 : Hid (Below w.heap.size w (wr.alloc (.cells #[.int .i64 z[k].w, .int .i64 z[k].h] 27))) := B1
      have HFk := HF.out z[k] (wr.alloc (.cells #[.int .i64 z[k].w, .int .i64 z[k].h] 27))
      clear hat HK hbk B1
      generalize z[k] = q at *
      cases c1 : okZ q
      · have hR : Hid (R = 2) := HT.out.2 c1
        rw [c1, if_neg (by decide)] at HFk
        clear HT c1
        go_wp2_with fail
        refine HFk.mono ?_
        rintro e w1 ⟨rfl, hb⟩
        have HB2 : Hid (Below w.heap.size w w1) := HB1.out.trans (hb.mono HB1.out.size)
        clear hb HB1
        go_wp2
        go_ret
        exact ⟨by rw [hR.out]; rfl, HB2.out⟩
      · have HA : Hid ((z.take (k + 1)).all okZ = true) := HT.out.1 c1
        rw [c1, if_pos rfl] at HFk
        clear HT c1
        go_wp2_with fail
        refine HFk.mono ?_
        rintro e w1 ⟨rfl, hb⟩
        have HB2 : Hid (Below w.heap.size w w1) := HB1.out.trans (hb.mono HB1.out.size)
        clear hb HB1
        go_wp2
        exact ⟨⟨k + 1, by omega, by go_num, HA.out, HB2.out⟩, by simp [intOf]; omega⟩
    · obtain rfl : k = z.length := by omega
      have HF2 : Hid (R = 0 ∧ Below w.heap.size w wr) := by have := HK.out; rw [List.take_length] at this; exact ⟨by rw [HR.out, if_pos this.1], this.2⟩
      clear HK
      go_wp2
      go_ret
      exact ⟨by rw [HF2.out.1]; rfl, HF2.out.2⟩

set_option maxHeartbeats 2000000 in
theorem csizes_any (z : List Sz) (v : Value) (w : World) (hv : KS 2 fZ w v z) : Calls Tryz.prog 20 #[v] w fun e w' => e = .returned (.int .i64 (szC z)) ∧ Below w.heap.size w w' := by
  have HC := listZ_any z v w hv
  obtain ⟨oa, cap, rfl, hc, hg⟩ := hv
  clear hg hc
  generalize szC z = R at *
  go_enter Tryz.func20, Tryz.ntmps20
  go_wp2_with fail
  refine HC.mono ?_
  rintro e w1 ⟨rfl, hb⟩
  have HB : Hid (Below w.heap.size w w1) := hb
  clear hb
  go_wp2
  go_ret
  exact ⟨rfl, HB.out⟩

theorem fsC_snoc : ∀ (l : List Int) (x : Int), fsC (l ++ [x]) = if fsC l = 0 then x else fsC l
  | [], x => by
    show (if x = 0 then fsC [] else x) = _
    rw [if_pos (show fsC [] = 0 from rfl)]
    split
    · next h => rw [h]; rfl
    · rfl
  | y :: l, x => by
    show (if y = 0 then fsC (l ++ [x]) else y) = if (if y = 0 then fsC l else y) = 0 then x else (if y = 0 then fsC l else y)
    by_cases h : y = 0
    · rw [if_pos h, if_pos h]; exact fsC_snoc l x
    · rw [if_neg h, if_neg h, if_neg h]

set_option maxRecDepth 10000 in
set_option maxHeartbeats 4000000 in
theorem Widths_any (s m : List Int) (col gap : Int) (sv mv : Value) (w : World) (hs : IS w sv s) (hm : IS w mv m) :
    Calls Tryz.prog 16 #[sv, mv, .int .i64 col, .int .i64 gap] w fun e w' => ∃ u, e = .returned (.tuple #[u, .int .i64 (wiE s m col gap)]) ∧ Hid (OwI w.heap.size w' u (wiL s m col gap) ∧ Below w.heap.size w w') := by
  have HV : Hid (IS w sv s ∧ IS w mv m) := ⟨hs, hm⟩
  obtain ⟨so, sc, rfl, _, _⟩ := hs
  obtain ⟨mo, mc, rfl, _, _⟩ := hm
  have H1 : Hid (Calls Tryz.prog 19 #[.slice so s.length sc] w fun e w' => e = .returned (.int .i64 (eaC s 64)) ∧ w' = w) := spans_any s _ w HV.out.1
  have H2 : Hid (Calls Tryz.prog 50 #[.slice mo m.length mc] w fun e w' => e = .returned (.int .i64 (eaC m 16384)) ∧ w' = w) := leasts_any m _ w HV.out.2
  have H3 : Hid (Calls Tryz.prog 21 #[.int .i64 col] w fun e w' => e = .returned (.int .i64 (nuC col 64)) ∧ w' = w) := columns_any col w
  have H4 : Hid (Calls Tryz.prog 22 #[.int .i64 gap] w fun e w' => e = .returned (.int .i64 (nuC gap 16384)) ∧ w' = w) := side_any gap w
  have H5 : Hid (Calls Tryz.prog 23 #[.int .i64 s.length, .int .i64 m.length] w fun e w' => e = .returned (.int .i64 (prC s.length m.length)) ∧ w' = w) := pairs_any s.length m.length w
  have eE : fsC [eaC s 64, eaC m 16384, nuC col 64, nuC gap 16384, prC s.length m.length] = wiE s m col gap := by
    have := fsC_snoc [eaC s 64, eaC m 16384, nuC col 64, nuC gap 16384] (prC s.length m.length)
    exact this
  have HO : Hid (∀ x W, IS W x [eaC s 64, eaC m 16384, nuC col 64, nuC gap 16384, prC s.length m.length] → Calls Tryz.prog 18 #[x] W fun e w' => e = .returned (.int .i64 (wiE s m col gap)) ∧ w' = W) := fun x W h => by rw [← eE]; exact or_any _ x W h (by simp)
  have HLit : Hid (IS (w.alloc (.cells #[.int .i64 (eaC s 64), .int .i64 (eaC m 16384), .int .i64 (nuC col 64), .int .i64 (nuC gap 16384), .int .i64 (prC s.length m.length)] 34)) (.slice (some ⟨w.heap.size, 0, none⟩) 5 5) [eaC s 64, eaC m 16384, nuC col 64, nuC gap 16384, prC s.length m.length] ∧ Below w.heap.size w (w.alloc (.cells #[.int .i64 (eaC s 64), .int .i64 (eaC m 16384), .int .i64 (nuC col 64), .int .i64 (nuC gap 16384), .int .i64 (prC s.length m.length)] 34))) := ⟨is_lit w [eaC s 64, eaC m 16384, nuC col 64, nuC gap 16384, prC s.length m.length] 34, (Below.refl _ _).alloc (Nat.le_refl _) _⟩
  clear eE
  by_cases h0 : wiE s m col gap = 0
  · obtain ⟨hl, -, -, hcol, -, -, -⟩ := wiE_zero h0
    have e2 : wiL s m col gap = wsG (clN col) gap (cel (clN col) s) m := by unfold wiL; rw [if_pos h0]
    have HPu : Hid (∀ W, Below w.heap.size w W → Calls Tryz.prog 24 #[.slice so s.length sc, .int .i64 col] W fun e w' => ∃ v us, e = .returned (.agg #[.int .i64 (clN col : Nat), v]) ∧ Hid (PlM W.heap.size w' v us (prw (clN col) s) ∧ Below W.heap.size W w')) := fun W h => put_any s col _ W (HV.out.1.below h) hl hcol
    have HW : Hid (∀ lo v us W, PlM lo W v us (prw (clN col) s) → Below w.heap.size w W → Calls Tryz.prog 51 #[.agg #[.int .i64 (clN col : Nat), v], .slice mo m.length mc, .int .i64 gap] W fun e w' => ∃ u, e = .returned (.tuple #[u, .int .i64 0]) ∧ Hid (OwI W.heap.size w' u (wsG (clN col) gap (cel (clN col) s) m) ∧ Below W.heap.size W w')) := fun lo v us W hp hb => widths_any h0 hp (HV.out.2.below hb)
    rw [h0] at HO ⊢
    rw [e2]
    generalize wsG (clN col) gap (cel (clN col) s) m = L at *
    generalize clN col = n at *
    generalize eaC s 64 = r1 at *
    generalize eaC m 16384 = r2 at *
    generalize nuC col 64 = r3 at *
    generalize nuC gap 16384 = r4 at *
    generalize prC s.length m.length = r5 at *
    clear h0 e2 HV hl hcol
    go_enter Tryz.func16, Tryz.ntmps16
    go_wp2_with fail
    refine H1.out.mono ?_
    rintro e _ ⟨rfl, rfl⟩
    go_wp2_with fail
    refine H2.out.mono ?_
    rintro e _ ⟨rfl, rfl⟩
    go_wp2_with fail
    refine H3.out.mono ?_
    rintro e _ ⟨rfl, rfl⟩
    go_wp2_with fail
    refine H4.out.mono ?_
    rintro e _ ⟨rfl, rfl⟩
    go_wp2_with fail
    refine H5.out.mono ?_
    rintro e w3 ⟨rfl, rfl⟩
    go_wp2_with fail
    refine (HO.out _ _ HLit.out.1).mono ?_
    rintro e w4 ⟨rfl, rfl⟩
    have HB3 : Hid (Below w3.heap.size w3 (w3.alloc (.cells #[.int .i64 r1, .int .i64 r2, .int .i64 r3, .int .i64 r4, .int .i64 r5] 34))) := HLit.out.2
    clear HLit HO H1 H2 H3 H4 H5
    go_wp2_with fail
    refine (HPu.out _ HB3.out).mono ?_
    rintro e w5 ⟨v, us, rfl, H6⟩
    have hb5 := HB3.out.trans (H6.out.2.mono HB3.out.size)
    have HWx := HW.out _ v us w5 H6.out.1 hb5
    have HB5 : Hid (Below w3.heap.size w3 w5) := hb5
    clear H6 hb5 HPu HW HB3
    go_wp2_with fail
    refine HWx.mono ?_
    rintro e w6 ⟨u, rfl, H7⟩
    have HF : Hid (OwI w3.heap.size w6 u L ∧ Below w3.heap.size w3 w6) := ⟨H7.out.1.weaken HB5.out.size, HB5.out.trans (H7.out.2.mono HB5.out.size)⟩
    clear H7 HWx HB5
    go_wp2
    go_ret2
    exact ⟨_, rfl, HF⟩
  · have e2 : wiL s m col gap = [] := by unfold wiL; rw [if_neg h0]
    rw [e2]
    have hne : (wiE s m col gap != 0) = true := by simpa using h0
    generalize wiE s m col gap = R at *
    generalize eaC s 64 = r1 at *
    generalize eaC m 16384 = r2 at *
    generalize nuC col 64 = r3 at *
    generalize nuC gap 16384 = r4 at *
    generalize prC s.length m.length = r5 at *
    clear h0 e2 HV
    go_enter Tryz.func16, Tryz.ntmps16
    go_wp2_with fail
    refine H1.out.mono ?_
    rintro e _ ⟨rfl, rfl⟩
    go_wp2_with fail
    refine H2.out.mono ?_
    rintro e _ ⟨rfl, rfl⟩
    go_wp2_with fail
    refine H3.out.mono ?_
    rintro e _ ⟨rfl, rfl⟩
    go_wp2_with fail
    refine H4.out.mono ?_
    rintro e _ ⟨rfl, rfl⟩
    go_wp2_with fail
    refine H5.out.mono ?_
    rintro e w3 ⟨rfl, rfl⟩
    go_wp2_with fail
    refine (HO.out _ _ HLit.out.1).mono ?_
    rintro e w4 ⟨rfl, rfl⟩
    go_wp2
    go_ret2
    exact ⟨_, rfl, OwI.nil _ _, HLit.out.2⟩

end Go.Proofs.YthnhcphkpffkfaaGreat

namespace Go.Proofs.YthnhcphkpffkfaaGreat
open Go.RowKit

theorem set_box {w0 w : World} {rb : Nat} {x y : Value} {t : TypeId} (hb : Below w0.heap.size w0 w) (hk : Bk w rb #[x, y] t) (hlo : w0.heap.size ≤ rb) (a b : Value) (o : Obj) : (((w.setCell ⟨rb, 0, none⟩ a).setCell ⟨rb, 1, none⟩ b).alloc o).cell? ⟨rb, 0, none⟩ = some a ∧ (((w.setCell ⟨rb, 0, none⟩ a).setCell ⟨rb, 1, none⟩ b).alloc o).cell? ⟨rb, 1, none⟩ = some b ∧ Below w0.heap.size w0 (((w.setCell ⟨rb, 0, none⟩ a).setCell ⟨rb, 1, none⟩ b).alloc o) := by
  have k := Bk.alloc ((hk.put 0 a).put 1 b) o
  have b1 := (hb.setCell (p := ⟨rb, 0, none⟩) hlo a).setCell (p := ⟨rb, 1, none⟩) hlo b
  exact ⟨by rw [k.cell]; rfl, by rw [k.cell]; rfl, b1.alloc b1.size o⟩

set_option maxRecDepth 10000 in
set_option maxHeartbeats 4000000 in
theorem Heights_any (s m : List Int) (col : Int) (sv mv : Value) (w : World) (hs : IS w sv s) (hm : IS w mv m) :
    Calls Tryz.prog 17 #[sv, mv, .int .i64 col] w fun e w' => ∃ u, e = .returned (.tuple #[u, .int .i64 (heE s m col)]) ∧ Hid (OwI w.heap.size w' u (heL s m col) ∧ Below w.heap.size w w') := by
  have HV : Hid (IS w sv s ∧ IS w mv m) := ⟨hs, hm⟩
  obtain ⟨so, sc, rfl, _, _⟩ := hs
  obtain ⟨mo, mc, rfl, _, _⟩ := hm
  have HB : Hid (Below w.heap.size w w) := Below.refl _ _
  have H1 : Hid (∀ W, Below w.heap.size w W → Calls Tryz.prog 19 #[.slice so s.length sc] W fun e w' => e = .returned (.int .i64 (eaC s 64)) ∧ w' = W) := fun W h => spans_any s _ W (HV.out.1.below h)
  have H2 : Hid (∀ W, Below w.heap.size w W → Calls Tryz.prog 50 #[.slice mo m.length mc] W fun e w' => e = .returned (.int .i64 (eaC m 16384)) ∧ w' = W) := fun W h => leasts_any m _ W (HV.out.2.below h)
  have H3 : Hid (∀ W, Below w.heap.size w W → Calls Tryz.prog 21 #[.int .i64 col] W fun e w' => e = .returned (.int .i64 (nuC col 64)) ∧ w' = W) := fun W _ => columns_any col W
  have H5 : Hid (∀ W, Below w.heap.size w W → Calls Tryz.prog 23 #[.int .i64 s.length, .int .i64 m.length] W fun e w' => e = .returned (.int .i64 (prC s.length m.length)) ∧ w' = W) := fun W _ => pairs_any s.length m.length W
  have eE : fsC [eaC s 64, eaC m 16384, nuC col 64, prC s.length m.length] = heE s m col := fsC_snoc [eaC s 64, eaC m 16384, nuC col 64] (prC s.length m.length)
  have HO : Hid (∀ x W, IS W x [eaC s 64, eaC m 16384, nuC col 64, prC s.length m.length] → Calls Tryz.prog 18 #[x] W fun e w' => e = .returned (.int .i64 (heE s m col)) ∧ w' = W) := fun x W h => by rw [← eE]; exact or_any _ x W h (by simp)
  have HLit : Hid (∀ W, Below w.heap.size w W → IS (W.alloc (.cells #[.int .i64 (eaC s 64), .int .i64 (eaC m 16384), .int .i64 (nuC col 64), .int .i64 (prC s.length m.length)] 34)) (.slice (some ⟨W.heap.size, 0, none⟩) 4 4) [eaC s 64, eaC m 16384, nuC col 64, prC s.length m.length] ∧ Below w.heap.size w (W.alloc (.cells #[.int .i64 (eaC s 64), .int .i64 (eaC m 16384), .int .i64 (nuC col 64), .int .i64 (prC s.length m.length)] 34))) := fun W h => ⟨is_lit W [eaC s 64, eaC m 16384, nuC col 64, prC s.length m.length] 34, h.alloc h.size _⟩
  clear eE
  by_cases h0 : heE s m col = 0
  · obtain ⟨hl, hmb, hcol, hml⟩ := heE_zero h0
    have e2 : heL s m col = hgt (cel (clN col) s) m := by unfold heL; rw [if_pos h0]
    have HPu : Hid (∀ W, Below w.heap.size w W → Calls Tryz.prog 24 #[.slice so s.length sc, .int .i64 col] W fun e w' => ∃ v us, e = .returned (.agg #[.int .i64 (clN col : Nat), v]) ∧ Hid (PlM W.heap.size w' v us (prw (clN col) s) ∧ Below W.heap.size W w')) := fun W h => put_any s col _ W (HV.out.1.below h) hl hcol
    have HW : Hid (∀ lo v us W, PlM lo W v us (prw (clN col) s) → Below w.heap.size w W → Calls Tryz.prog 52 #[.agg #[.int .i64 (clN col : Nat), v], .slice mo m.length mc] W fun e w' => ∃ u, e = .returned u ∧ Hid (OwI W.heap.size w' u (hgt (cel (clN col) s) m) ∧ Below W.heap.size W w')) := fun lo v us W hp hb => heights_any (clN_pos col) hl hml.symm hmb hp (HV.out.2.below hb)
    rw [h0] at HO ⊢
    rw [e2]
    generalize hgt (cel (clN col) s) m = L at *
    generalize clN col = n at *
    generalize eaC s 64 = r1 at *
    generalize eaC m 16384 = r2 at *
    generalize nuC col 64 = r3 at *
    generalize prC s.length m.length = r4 at *
    clear h0 e2 HV hl hcol hmb hml
    go_enter Tryz.func17, Tryz.ntmps17
    go_wp2_with fail
    refine (H1.out _ HB.out).mono ?_
    rintro e _ ⟨rfl, rfl⟩
    go_wp2_with fail
    refine (H2.out _ HB.out).mono ?_
    rintro e _ ⟨rfl, rfl⟩
    go_wp2_with fail
    refine (H3.out _ HB.out).mono ?_
    rintro e _ ⟨rfl, rfl⟩
    go_wp2_with fail
    refine (H5.out _ HB.out).mono ?_
    rintro e _ ⟨rfl, rfl⟩
    have hLit := HLit.out _ HB.out
    go_wp2_with fail
    refine (HO.out _ _ hLit.1).mono ?_
    rintro e w4 ⟨rfl, rfl⟩
    replace HB : Hid (Below _ _ _) := hLit.2
    clear hLit HLit HO H1 H2 H3 H5
    go_wp2_with fail
    refine (HPu.out _ HB.out).mono ?_
    rintro e w5 ⟨v, us, rfl, H6⟩
    have hb5 := HB.out.trans (H6.out.2.mono HB.out.size)
    have HWx := HW.out _ v us w5 H6.out.1 hb5
    have HB5 : Hid (Below _ _ w5) := hb5
    clear H6 hb5 HPu HW HB
    go_wp2_with fail
    refine HWx.mono ?_
    rintro e w6 ⟨u, rfl, H7⟩
    have HF := (⟨H7.out.1.weaken HB5.out.size, HB5.out.trans (H7.out.2.mono HB5.out.size)⟩ : OwI _ w6 u L ∧ Below _ _ w6)
    have HG : Hid _ := HF
    clear H7 HWx HB5 HF
    go_wp2
    go_ret2
    exact ⟨_, rfl, HG⟩
  · have e2 : heL s m col = [] := by unfold heL; rw [if_neg h0]
    rw [e2]
    have hne : (heE s m col != 0) = true := by simpa using h0
    generalize heE s m col = R at *
    generalize eaC s 64 = r1 at *
    generalize eaC m 16384 = r2 at *
    generalize nuC col 64 = r3 at *
    generalize prC s.length m.length = r4 at *
    clear h0 e2 HV
    go_enter Tryz.func17, Tryz.ntmps17
    go_wp2_with fail
    refine (H1.out _ HB.out).mono ?_
    rintro e _ ⟨rfl, rfl⟩
    go_wp2_with fail
    refine (H2.out _ HB.out).mono ?_
    rintro e _ ⟨rfl, rfl⟩
    go_wp2_with fail
    refine (H3.out _ HB.out).mono ?_
    rintro e _ ⟨rfl, rfl⟩
    go_wp2_with fail
    refine (H5.out _ HB.out).mono ?_
    rintro e _ ⟨rfl, rfl⟩
    have hLit := HLit.out _ HB.out
    go_wp2_with fail
    refine (HO.out _ _ hLit.1).mono ?_
    rintro e w4 ⟨rfl, rfl⟩
    have HG : Hid _ := hLit.2
    clear hLit HLit HO H1 H2 H3 H5
    go_wp2
    go_ret2
    exact ⟨_, rfl, OwI.nil _ _, HG.out⟩

set_option maxRecDepth 10000 in
set_option maxHeartbeats 8000000 in
theorem Need_any (s : List Int) (z : List Sz) (col gap : Int) (sv zv : Value) (w0 : World) (hs : IS w0 sv s) (hz : KS 2 fZ w0 zv z) :
    Calls Tryz.prog 8 #[sv, zv, .int .i64 col, .int .i64 gap] w0 fun e w' => e = .returned (.tuple #[.agg #[.int .i64 (neZ s z col gap).w, .int .i64 (neZ s z col gap).h], .int .i64 (neE s z col gap)]) ∧ Hid (Below w0.heap.size w0 w') := by
  have HV : Hid (IS w0 sv s ∧ KS 2 fZ w0 zv z) := ⟨hs, hz⟩
  obtain ⟨so, sc, rfl, _, _⟩ := hs
  obtain ⟨zo, zc, rfl, _, _⟩ := hz
  obtain ⟨w, Hw⟩ : ∃ w, Hid (w0.alloc (.cells #[.int .i64 0, .int .i64 0] 27) = w) := ⟨_, rfl⟩
  have HB0 : Hid (Below w0.heap.size w0 w ∧ Bk w w0.heap.size #[.int .i64 0, .int .i64 0] 27) := by rw [← Hw.out]; exact ⟨(Below.refl _ _).alloc (Nat.le_refl _) _, Bk.new _ _ _⟩
  have HB : Hid (Below w.heap.size w w) := Below.refl _ _
  have H1 : Hid (∀ W, Below w.heap.size w W → Calls Tryz.prog 19 #[.slice so s.length sc] W fun e w' => e = .returned (.int .i64 (eaC s 64)) ∧ w' = W) := fun W h => spans_any s _ W ((HV.out.1.below HB0.out.1).below h)
  have H2 : Hid (∀ W, Below w.heap.size w W → Calls Tryz.prog 20 #[.slice zo z.length zc] W fun e w' => e = .returned (.int .i64 (szC z)) ∧ Below W.heap.size W w') := fun W h => csizes_any z _ W ((HV.out.2.below HB0.out.1).below h)
  have H3 : Hid (∀ W, Below w.heap.size w W → Calls Tryz.prog 21 #[.int .i64 col] W fun e w' => e = .returned (.int .i64 (nuC col 64)) ∧ w' = W) := fun W _ => columns_any col W
  have H4 : Hid (∀ W, Below w.heap.size w W → Calls Tryz.prog 22 #[.int .i64 gap] W fun e w' => e = .returned (.int .i64 (nuC gap 16384)) ∧ w' = W) := fun W _ => side_any gap W
  have H5 : Hid (∀ W, Below w.heap.size w W → Calls Tryz.prog 23 #[.int .i64 s.length, .int .i64 z.length] W fun e w' => e = .returned (.int .i64 (prC s.length z.length)) ∧ w' = W) := fun W _ => pairs_any s.length z.length W
  have eE : fsC [eaC s 64, szC z, nuC col 64, nuC gap 16384, prC s.length z.length] = gE1 s z col gap := fsC_snoc [eaC s 64, szC z, nuC col 64, nuC gap 16384] (prC s.length z.length)
  have HO : Hid (∀ x W, IS W x [eaC s 64, szC z, nuC col 64, nuC gap 16384, prC s.length z.length] → Calls Tryz.prog 18 #[x] W fun e w' => e = .returned (.int .i64 (gE1 s z col gap)) ∧ w' = W) := fun x W h => by rw [← eE]; exact or_any _ x W h (by simp)
  have HLit : Hid (∀ W, Below w.heap.size w W → IS (W.alloc (.cells #[.int .i64 (eaC s 64), .int .i64 (szC z), .int .i64 (nuC col 64), .int .i64 (nuC gap 16384), .int .i64 (prC s.length z.length)] 34)) (.slice (some ⟨W.heap.size, 0, none⟩) 5 5) [eaC s 64, szC z, nuC col 64, nuC gap 16384, prC s.length z.length] ∧ Below w.heap.size w (W.alloc (.cells #[.int .i64 (eaC s 64), .int .i64 (szC z), .int .i64 (nuC col 64), .int .i64 (nuC gap 16384), .int .i64 (prC s.length z.length)] 34))) := fun W h => ⟨is_lit W [eaC s 64, szC z, nuC col 64, nuC gap 16384, prC s.length z.length] 34, h.alloc h.size _⟩
  clear eE
  by_cases h0 : gE1 s z col gap = 0
  · obtain ⟨hl, -, hzb, hcol, hgap, hlz, hwi, hhe⟩ := gE1_zero h0
    have hGr := gri_of hwi
    have hud : usd (cel (clN col) s) ≤ clN col := usd_le fun c hc => (hGr.cel c hc).1
    have hcl := col_len hGr
    have hco := col_ok hGr
    have hcs := col_sum hGr
    have hn64 := (clN_bd hcol).2
    have HPu : Hid (∀ W, Below w.heap.size w W → Calls Tryz.prog 24 #[.slice so s.length sc, .int .i64 col] W fun e w' => ∃ v us, e = .returned (.agg #[.int .i64 (clN col : Nat), v]) ∧ Hid (PlM W.heap.size w' v us (prw (clN col) s) ∧ Below W.heap.size W w')) := fun W h => put_any s col _ W ((HV.out.1.below HB0.out.1).below h) hl hcol
    have HW : Hid (∀ lo v us W, PlM lo W v us (prw (clN col) s) → Below w.heap.size w W → Calls Tryz.prog 25 #[.agg #[.int .i64 (clN col : Nat), v], .slice zo z.length zc, .int .i64 gap] W fun e w' => ∃ a b, e = .returned (.tuple #[a, b, .int .i64 0]) ∧ Hid (IS w' a ((wsG (clN col) gap (cel (clN col) s) (z.map (·.w))).take (usd (cel (clN col) s))) ∧ IS w' b (hgt (cel (clN col) s) (z.map (·.h))) ∧ Below W.heap.size W w')) := fun lo v us W hp hb => sides_any h0 hp ((HV.out.2.below HB0.out.1).below hb)
    have HT1 : Hid (∀ a W, IS W a ((wsG (clN col) gap (cel (clN col) s) (z.map (·.w))).take (usd (cel (clN col) s))) → Calls Tryz.prog 26 #[a, .int .i64 gap] W fun e w' => e = .returned (.int .i64 (gnW (clN col) gap (cel (clN col) s) z)) ∧ w' = W) := fun a W h => by
      have := gsum_any _ gap a W h (by rw [hcl]; omega) hco hgap
      unfold neS at this
      rw [hcs, hcl] at this
      exact this
    have HT2 : Hid (∀ a W, IS W a (hgt (cel (clN col) s) (z.map (·.h))) → Calls Tryz.prog 26 #[a, .int .i64 gap] W fun e w' => e = .returned (.int .i64 (gnH gap (cel (clN col) s) z)) ∧ w' = W) := fun a W h => gsum_any _ gap a W h (hgt_len hhe).1 (hgt_len hhe).2 hgap
    have HNe : Hid (neE s z col gap = (if 16384 < gnW (clN col) gap (cel (clN col) s) z ∨ 16384 < gnH gap (cel (clN col) s) z then 9 else 0) ∧ neZ s z col gap = if neE s z col gap = 0 then ⟨gnW (clN col) gap (cel (clN col) s) z, gnH gap (cel (clN col) s) z⟩ else ⟨0, 0⟩) := by
      refine ⟨?_, rfl⟩
      unfold neE
      rw [if_pos h0]
    rw [h0] at HO
    generalize gnW (clN col) gap (cel (clN col) s) z = GW at *
    generalize gnH gap (cel (clN col) s) z = GH at *
    generalize (wsG (clN col) gap (cel (clN col) s) (z.map (·.w))).take (usd (cel (clN col) s)) = LW at *
    generalize hgt (cel (clN col) s) (z.map (·.h)) = LH at *
    generalize clN col = n at *
    generalize neE s z col gap = RE at *
    generalize neZ s z col gap = RZ at *
    generalize eaC s 64 = r1 at *
    generalize szC z = r2 at *
    generalize nuC col 64 = r3 at *
    generalize nuC gap 16384 = r4 at *
    generalize prC s.length z.length = r5 at *
    clear h0 HV hl hcol hzb hlz hwi hhe hGr hud hcl hco hcs hgap
    go_enter Tryz.func8, Tryz.ntmps8
    go_upto_region 1 with fail
    rw [Hw.out]
    go_wp2_with fail
    refine (H1.out _ HB.out).mono ?_
    rintro e _ ⟨rfl, rfl⟩
    go_wp2_with fail
    refine (H2.out _ HB.out).mono ?_
    rintro e w' ⟨rfl, hb⟩
    replace HB : Hid (Below _ _ w') := HB.out.trans (hb.mono HB.out.size)
    clear hb
    go_wp2_with fail
    refine (H3.out _ HB.out).mono ?_
    rintro e _ ⟨rfl, rfl⟩
    go_wp2_with fail
    refine (H4.out _ HB.out).mono ?_
    rintro e _ ⟨rfl, rfl⟩
    go_wp2_with fail
    refine (H5.out _ HB.out).mono ?_
    rintro e _ ⟨rfl, rfl⟩
    have hLit := HLit.out _ HB.out
    go_wp2_with fail
    refine (HO.out _ _ hLit.1).mono ?_
    rintro e w4 ⟨rfl, rfl⟩
    replace HB : Hid (Below _ _ _) := hLit.2
    clear hLit HLit HO H1 H2 H3 H4 H5
    go_wp2_with fail
    refine (HPu.out _ HB.out).mono ?_
    rintro e w5 ⟨v, us, rfl, H6⟩
    have hb5 := HB.out.trans (H6.out.2.mono HB.out.size)
    have HWx := HW.out _ v us w5 H6.out.1 hb5
    have HB5 : Hid (Below _ _ w5) := hb5
    clear H6 hb5 HPu HW HB
    go_wp2_with fail
    refine HWx.mono ?_
    rintro e w6 ⟨a, b, rfl, H7⟩
    have HT1x := HT1.out a w6 H7.out.1
    have HT2x := HT2.out b w6 H7.out.2.1
    have HB6 : Hid (Below w0.heap.size w0 w6 ∧ Bk w6 w0.heap.size #[.int .i64 0, .int .i64 0] 27) := by
      have hb := HB5.out.trans (H7.out.2.2.mono HB5.out.size)
      exact ⟨HB0.out.1.trans (hb.mono HB0.out.1.size), HB0.out.2.below hb⟩
    clear H7 HWx HB5 HT1 HT2 HB0
    go_wp2_with fail
    refine HT1x.mono ?_
    rintro e _ ⟨rfl, rfl⟩
    go_wp2_with fail
    refine HT2x.mono ?_
    rintro e w7 ⟨rfl, rfl⟩
    obtain ⟨rb, Hrb⟩ : ∃ rb, Hid (rb = w0.heap.size) := ⟨_, rfl⟩
    rw [← Hrb.out]
    have HB7 : Hid (Below w0.heap.size w0 w7 ∧ Bk w7 rb #[.int .i64 0, .int .i64 0] 27 ∧ w0.heap.size ≤ rb) := by rw [Hrb.out]; exact ⟨HB6.out.1, HB6.out.2, Nat.le_refl _⟩
    clear HB6 HT1x HT2x Hrb
    have r0 := HB7.out.2.1.at2.1
    have r1' := HB7.out.2.1.at2.2
    have f0 := HB7.out.2.1.frozen 0
    have f1 := HB7.out.2.1.frozen 1
    have lrb := HB7.out.2.1.lt
    by_cases c1 : 16384 < GW
    · have hE := HNe.out.1
      rw [if_pos (.inl c1)] at hE
      have hZ := HNe.out.2
      rw [hE, if_neg (by decide)] at hZ
      subst hE
      subst hZ
      clear HNe
      have HX := set_box HB7.out.1 HB7.out.2.1 HB7.out.2.2 (.int .i64 0) (.int .i64 0) (.cells #[.int .i64 GW, .int .i64 GH] 27)
      go_wp2
      exact bodyPost_ret (v := .tuple #[.agg #[.int .i64 0, .int .i64 0], .int .i64 9]) (by simp [results, Tryz.results8, go_sem, HX.1, HX.2.1]) rfl ⟨rfl, HX.2.2⟩
    · by_cases c2 : 16384 < GH
      · have hE := HNe.out.1
        rw [if_pos (.inr c2)] at hE
        have hZ := HNe.out.2
        rw [hE, if_neg (by decide)] at hZ
        subst hE
        subst hZ
        clear HNe
        have HX := set_box HB7.out.1 HB7.out.2.1 HB7.out.2.2 (.int .i64 0) (.int .i64 0) (.cells #[.int .i64 GW, .int .i64 GH] 27)
        go_wp2
        exact bodyPost_ret (v := .tuple #[.agg #[.int .i64 0, .int .i64 0], .int .i64 9]) (by simp [results, Tryz.results8, go_sem, HX.1, HX.2.1]) rfl ⟨rfl, HX.2.2⟩
      · have hE := HNe.out.1
        rw [if_neg (by omega)] at hE
        have hZ := HNe.out.2
        rw [hE, if_pos rfl] at hZ
        subst hE
        subst hZ
        clear HNe
        have HX := set_box HB7.out.1 HB7.out.2.1 HB7.out.2.2 (.int .i64 GW) (.int .i64 GH) (.cells #[.int .i64 GW, .int .i64 GH] 27)
        go_wp2
        exact bodyPost_ret (v := .tuple #[.agg #[.int .i64 GW, .int .i64 GH], .int .i64 0]) (by simp [results, Tryz.results8, go_sem, HX.1, HX.2.1]) rfl ⟨rfl, HX.2.2⟩
  · have e1 : neE s z col gap = gE1 s z col gap := by unfold neE; exact if_neg h0
    have e2 : neZ s z col gap = ⟨0, 0⟩ := by unfold neZ; rw [e1, if_neg h0]
    rw [e1, e2]
    have hne : (gE1 s z col gap != 0) = true := by simpa using h0
    generalize gE1 s z col gap = R at *
    generalize eaC s 64 = r1 at *
    generalize szC z = r2 at *
    generalize nuC col 64 = r3 at *
    generalize nuC gap 16384 = r4 at *
    generalize prC s.length z.length = r5 at *
    clear h0 e1 e2 HV
    go_enter Tryz.func8, Tryz.ntmps8
    go_upto_region 1 with fail
    rw [Hw.out]
    go_wp2_with fail
    refine (H1.out _ HB.out).mono ?_
    rintro e _ ⟨rfl, rfl⟩
    go_wp2_with fail
    refine (H2.out _ HB.out).mono ?_
    rintro e w' ⟨rfl, hb⟩
    replace HB : Hid (Below _ _ w') := HB.out.trans (hb.mono HB.out.size)
    clear hb
    go_wp2_with fail
    refine (H3.out _ HB.out).mono ?_
    rintro e _ ⟨rfl, rfl⟩
    go_wp2_with fail
    refine (H4.out _ HB.out).mono ?_
    rintro e _ ⟨rfl, rfl⟩
    go_wp2_with fail
    refine (H5.out _ HB.out).mono ?_
    rintro e _ ⟨rfl, rfl⟩
    have hLit := HLit.out _ HB.out
    go_wp2_with fail
    refine (HO.out _ _ hLit.1).mono ?_
    rintro e w4 ⟨rfl, rfl⟩
    clear hLit HLit HO H1 H2 H3 H4 H5
    obtain ⟨rb, Hrb⟩ : ∃ rb, Hid (rb = w0.heap.size) := ⟨_, rfl⟩
    have hb7 := HB0.out.1.trans (HB.out.mono HB0.out.1.size)
    have hk7 := HB0.out.2.below HB.out
    have hlo7 : w0.heap.size ≤ rb := by rw [Hrb.out]; exact Nat.le_refl _
    rw [← Hrb.out] at hk7 ⊢
    clear HB0 Hrb
    have r0 := hk7.at2.1
    have r1' := hk7.at2.2
    have f0 := hk7.frozen 0
    have f1 := hk7.frozen 1
    have lrb := hk7.lt
    have HX := set_box hb7 hk7 hlo7 (.int .i64 0) (.int .i64 0) (.cells #[.int .i64 r1, .int .i64 r2, .int .i64 r3, .int .i64 r4, .int .i64 r5] 34)
    clear hb7 hk7 hlo7
    go_wp2
    exact bodyPost_ret (v := .tuple #[.agg #[.int .i64 0, .int .i64 0], .int .i64 R]) (by simp [results, Tryz.results8, go_sem, HX.1, HX.2.1]) rfl ⟨rfl, HX.2.2⟩

end Go.Proofs.YthnhcphkpffkfaaGreat
