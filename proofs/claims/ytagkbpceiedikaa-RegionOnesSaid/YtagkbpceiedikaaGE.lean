/-
  Contracts of package region: the runs of a row.
-/
import Derived.Test.YtagkbpceiedikaaGD
namespace Go.Proofs.Ytagkbpceiedikaa
open Go.RowKit
attribute [local go_sem] ite_max ite_min

theorem info_parts {t : TypeId} {z : Value} {s b : Nat} (h : (Try.prog.info? t).map (fun i => (i.zero, i.size, i.bytes)) = some (some z, s, b)) : ∃ i, Try.prog.info? t = some i ∧ i.zero = some z ∧ i.size = s ∧ i.bytes = b := by
  cases hi : Try.prog.info? t with
  | none => rw [hi] at h; cases h
  | some i =>
    rw [hi] at h
    simp only [Option.map_some, Option.some.injEq, Prod.mk.injEq] at h
    exact ⟨i, rfl, h.1, h.2.1, h.2.2⟩
theorem row_lt {base : Nat} {e : TypeId} {size : Nat} {v : Value} {n : Nat} {xs : List Value} {X : World} (h : X.ownsRow base e size v n xs) (g : Nat) (hg : v.ownBlock = some g) : base ≤ g ∧ g < X.heap.size := by
  obtain ⟨hl, h⟩ := h
  rcases h with ⟨rfl, _⟩ | ⟨g', cap, cur, rfl, hb, hc, _⟩
  · cases hg
  · simp [Value.ownBlock] at hg
    subst hg
    exact ⟨hb, (Array.getElem?_eq_some_iff.1 hc).1⟩
theorem row_below {base : Nat} {e : TypeId} {size : Nat} {v : Value} {n : Nat} {xs : List Value} {X Y : World} (h : X.ownsRow base e size v n xs) (hb : Below X.heap.size X Y) : Y.ownsRow base e size v n xs := by
  obtain ⟨hl, h⟩ := h
  refine ⟨hl, ?_⟩
  rcases h with h | ⟨g, cap, cur, rfl, h0, h1, h2⟩
  · exact .inl h
  · exact .inr ⟨g, cap, cur, rfl, h0, (hb.block g (Array.getElem?_eq_some_iff.1 h1).1).trans h1, h2⟩
theorem row_weaken {base base' : Nat} {e : TypeId} {size : Nat} {v : Value} {n : Nat} {xs : List Value} {X : World} (h : X.ownsRow base e size v n xs) (hb : base' ≤ base) : X.ownsRow base' e size v n xs := by
  obtain ⟨hl, h⟩ := h
  refine ⟨hl, ?_⟩
  rcases h with h | ⟨g, cap, cur, rfl, h0, h1⟩
  · exact .inl h
  · exact .inr ⟨g, cap, cur, rfl, Nat.le_trans hb h0, h1⟩
/-- The value of a row of one's own. -/
theorem row_val {base : Nat} {e : TypeId} {size : Nat} {v : Value} {n : Nat} {xs : List Value} {X : World} (h : X.ownsRow base e size v n xs) : ∃ oa cap, v = .slice oa n cap ∧ n ≤ cap ∧ (0 < n → ∃ g, oa = some ⟨g, 0, none⟩ ∧ base ≤ g ∧ g < X.heap.size) := by
  obtain ⟨hl, h⟩ := h
  rcases h with ⟨rfl, rfl⟩ | ⟨g, cap, cur, rfl, h0, h1, h2, _⟩
  · exact ⟨none, 0, rfl, Nat.le_refl _, fun h => absurd h (Nat.lt_irrefl 0)⟩
  · exact ⟨_, cap, rfl, h2, fun _ => ⟨g, rfl, h0, (Array.getElem?_eq_some_iff.1 h1).1⟩⟩
theorem cell_two (w : World) (x y : Value) (t : TypeId) : ∀ (j : Nat) (u : Value), [x, y][j]? = some u → (w.alloc (.cells #[x, y] t)).cell? ((⟨w.heap.size, 0, none⟩ : Addr).add j) = some u := by
  intro j u hj
  match j, hj with
  | 0, hj => simp at hj; subst hj; simp [Addr.add]
  | 1, hj => simp at hj; subst hj; simp [Addr.add]
theorem one2 (a b : Int) : ∀ u ∈ [Value.int .i64 a, .int .i64 b], u.oneCell' = true := by
  intro u hu
  simp at hu
  rcases hu with rfl | rfl <;> rfl
theorem app_below {B : Nat} {w w1 w4 : World} {e : TypeId} {size n : Nat} {u : Value} {xs : List Value} (hB : Below w.heap.size w w1) (ar : w1.ownsRow B e size u n xs) (hBw : w.heap.size ≤ B) (hgrow : w1.grownBy w4 u.ownBlock) : Below w.heap.size w w4 :=
  hB.grown hgrow hB.size (fun g hg => Nat.le_trans hBw (row_lt ar g hg).1)

theorem below_drewN {B : Nat} {a w : World} {n : Nat} (h : Below B a w) : Below B a (w.drewN n) := ⟨h.os, h.tape, h.output, h.size, h.block⟩
theorem flatS_set (init : List Sp) (s : Sp) (z : Int) : (flatS (init ++ [s])).set (init.length * 2 + 1) (.int .i64 z) = flatS (init ++ [(s.1, z)]) := by
  induction init with
  | nil => rfl
  | cons q t ih =>
    have e : (q :: t).length * 2 + 1 = (t.length * 2 + 1) + 1 + 1 := by simp; omega
    rw [e]
    simpa [flatS] using ih
def RInv (L : List Rc) (y : Int) (w : World) (k : Nat) (acc : List Sp) (v : Value) (wr : World) : Prop :=
  k ≤ L.length ∧ acc.length ≤ k ∧ runsF y (L.drop k) acc = runsF y L [] ∧ wr.ownsRow w.heap.size 79 2 v acc.length (flatS acc) ∧ Below w.heap.size w wr

set_option maxRecDepth 10000 in
set_option maxHeartbeats 4000000 in
theorem runs_any (L : List Rc) (v : Value) (y : Int) (w : World) (hv : LsR w v L) (hk : ∀ r ∈ L, keepE r = true) (hl : L.length ≤ 1000000) :
    Calls Try.prog 79 #[v, .int .i64 y] w fun e w' => ∃ u, e = .returned u ∧ SpL w' u (runsF y L []) ∧ Below w.heap.size w w' := by
  obtain ⟨oa, cap, rfl, hc, hg⟩ := hv
  have HG : Hid (0 < L.length → ∃ g o, oa = some ⟨g, o, none⟩ ∧ g < w.heap.size ∧ ∀ i (h : i < L.length), RcAt w g (o + i * 4) L[i]) := hg
  have HH : Hid (∀ r ∈ L, keepE r = true) := hk
  obtain ⟨i0, hi, hz0, hz1, hz2⟩ := info_parts info_span
  have HI : Hid (Try.prog.info? 79 = some i0 ∧ i0.zero = some (.agg #[.int .i64 0, .int .i64 0]) ∧ i0.size = 2 ∧ i0.bytes = 16) := ⟨hi, hz0, hz1, hz2⟩
  clear hg hk hi hz0 hz1 hz2
  obtain ⟨R, HR⟩ : ∃ R, Hid (R = runsF y L []) := ⟨_, rfl⟩
  rw [← HR.out]
  go_enter Try.func79, Try.ntmps79
  go_wp2_with fail
  go_loopw [5, 13] (fun v i wr => ∃ (k : Nat) (acc : List Sp), i = .int .i64 k ∧ RInv L y w k acc v wr) (fun _ i _ => L.length - (intOf i).toNat)
  case atStart => exact ⟨0, [], rfl, Nat.zero_le _, Nat.le_refl _, rfl, World.ownsRow_nil _ _ _ _, Below.refl _ _⟩
  case round =>
    obtain ⟨k, acc, rfl, hI⟩ := hrel
    have HV : Hid (RInv L y w k acc u5 wr) := hI
    obtain ⟨hkl, hal, hrun, hown, hBr⟩ := hI
    by_cases hlt : k < L.length
    · obtain ⟨g, o, rfl, hg, hat⟩ := HG.out (by omega)
      have hx := (hat k hlt).kept (w' := wr) fun j => hBr.cell (p := ⟨g, j, none⟩) hg
      have hd : L.drop k = L[k] :: L.drop (k + 1) := List.drop_eq_getElem_cons hlt
      have hkp := (keepE_iff _).1 (HH.out _ (List.getElem_mem hlt))
      generalize L[k] = r at *
      rw [hd, runsF] at hrun
      obtain ⟨x0, x1, x2, x3⟩ := hx
      have HB1 : Hid (∀ o, Below w.heap.size w (wr.alloc o) ∧ (wr.alloc o).ownsRow w.heap.size 79 2 u5 acc.length (flatS acc)) := fun o => ⟨hBr.alloc hBr.size o, row_below hown ((Below.refl _ wr).alloc (Nat.le_refl _) o)⟩
      obtain ⟨oa, cap2, rfl, hcap2, hoa⟩ := row_val hown
      clear hown hBr hat
      by_cases c1 : y < r.y
      · rw [if_pos (.inl c1)] at hrun
        have HRun : Hid (runsF y (L.drop (k + 1)) acc = runsF y L []) := hrun
        clear hrun hoa
        go_wp2
        exact ⟨⟨k + 1, acc, by go_num, by omega, by omega, HRun.out, (HB1.out _).2, (HB1.out _).1⟩, by simp [intOf]; omega⟩
      · by_cases c2 : r.y + r.h ≤ y
        · rw [if_pos (.inr c2)] at hrun
          have HRun : Hid (runsF y (L.drop (k + 1)) acc = runsF y L []) := hrun
          clear hrun hoa
          go_wp2
          exact ⟨⟨k + 1, acc, by go_num, by omega, by omega, HRun.out, (HB1.out _).2, (HB1.out _).1⟩, by simp [intOf]; omega⟩
        · rw [if_neg (by omega)] at hrun
          have HRun : Hid (runsF y (L.drop (k + 1)) (runA acc r.x (r.x + r.w)) = runsF y L []) := hrun
          clear hrun
          have HW : Hid (∀ W, Below wr.heap.size wr W → W.ownsRow w.heap.size 79 2 (.slice oa acc.length cap2) acc.length (flatS acc) ∧ Below w.heap.size w W) := fun W hb => ⟨row_below HV.out.2.2.2.1 hb, HV.out.2.2.2.2.trans (hb.mono HV.out.2.2.2.2.size)⟩
          rcases List.eq_nil_or_concat acc with rfl | ⟨init, s, hcc⟩
          · go_wp2_with fail
            go_quiet (fail)
            have hbW : Below wr.heap.size wr ((wr.alloc (.cells #[.int .i64 r.x, .int .i64 r.y, .int .i64 r.w, .int .i64 r.h] 35)).drewN nq) := below_drewN ((Below.refl _ wr).alloc (Nat.le_refl _) _)
            obtain ⟨W, hW⟩ : ∃ W, W = (wr.alloc (.cells #[.int .i64 r.x, .int .i64 r.y, .int .i64 r.w, .int .i64 r.h] 35)).drewN nq := ⟨_, rfl⟩
            rw [← hW] at hbW ⊢
            have HbW : Hid (Below wr.heap.size wr W) := hbW
            clear hW hbW
            obtain ⟨hi, hz0, hz1, hz2⟩ := HI.out
            have hc3 : Hid (0 + 1 ≤ maxLen) := by unfold Hid maxLen; omega
            have hc4 : Hid ((0 + 1) * 16 ≤ 140737488355328) := by unfold Hid; omega
            have Hown : Hid (∀ o1, (W.alloc o1).ownsRow w.heap.size 79 2 (.slice oa 0 cap2) 0 (flatS ([] : List Sp)) ∧ Below w.heap.size w (W.alloc o1)) := fun o1 => HW.out _ (HbW.out.alloc HbW.out.size o1)
            have hc5 : Hid (∀ o1, w.heap.size ≤ (W.alloc o1).heap.size) := fun o1 => (Hown.out o1).2.size
            go_wp2_with (at_builtin; refine wpList_append_own _ rfl _ _ 75 rfl w.heap.size 79 i0 (.agg #[.int .i64 0, .int .i64 0]) 2 16 Try.underlying75 hi hz0 hz1 hz2 rfl (by decide) (.slice oa 0 cap2) 0 (flatS ([] : List Sp)) rfl (Hown.out _).1 _ 1 1 [.int .i64 r.x, .int .i64 (r.x + r.w)] rfl rfl (cell_two _ _ _ _) (one2 _ _) hc3.out hc4.out (hc5.out _) ?_)
            intro v' w4 hown' hgrow hnil
            have H4 : Hid (w4.ownsRow w.heap.size 79 2 v' (([] : List Sp) ++ [(r.x, r.x + r.w)]).length (flatS (([] : List Sp) ++ [(r.x, r.x + r.w)])) ∧ Below w.heap.size w w4) := by
              refine ⟨?_, app_below (Hown.out _).2 (Hown.out _).1 (Nat.le_refl _) hgrow⟩
              rw [flatS_app, List.length_append]
              exact hown'
            clear hown' hgrow hnil hi hz0 hz1 hz2
            have HRel : Hid (∃ (k' : Nat) (acc : List Sp), Value.int .i64 ((k : Int) + 1) = .int .i64 k' ∧ RInv L y w k' acc v' w4) := ⟨k + 1, ([] : List Sp) ++ [(r.x, r.x + r.w)], by go_num, by omega, by simp, HRun.out, H4.out.1, H4.out.2⟩
            go_wp2
            go_roundw
            case rel => exact HRel.out
            case measure => simp [intOf]; omega
          · rw [List.concat_eq_append] at hcc
            subst hcc
            have hlen : (init ++ [s]).length = init.length + 1 := by simp
            rw [hlen] at hal hcap2 hoa HW ⊢
            obtain ⟨g2, rfl, hg2, hg3⟩ := hoa (by omega)
            have hrs := runA_snoc s r.x (r.x + r.w) init
            have hown := HV.out.2.2.2.1
            rw [hlen] at hown
            have hcel := own_cell hown (init.length * 2 + 1) (by omega)
            rw [(flatS_at (init ++ [s]) init.length (by simp)).2] at hcel
            have hfr := own_frozen hown (init.length * 2 + 1)
            have hs2 : (init ++ [s])[init.length]'(by simp) = s := by simp
            rw [hs2] at hcel
            clear hown hoa
            by_cases c3 : r.x ≤ s.2
            · rw [if_pos c3] at hrs
              go_wp2_with fail
              go_quiet (fail)
              have HRel : Hid (∀ W, Below wr.heap.size wr W → ∃ (k' : Nat) (acc : List Sp), Value.int .i64 ((k : Int) + 1) = .int .i64 k' ∧ RInv L y w k' acc (.slice (some ⟨g2, 0, none⟩) (init.length + 1) cap2) (W.setCell ⟨g2, init.length * 2 + 1, none⟩ (.int .i64 (max s.2 (r.x + r.w))))) := by
                intro W hb
                obtain ⟨ho, hB⟩ := HW.out W hb
                refine ⟨k + 1, init ++ [(s.1, max s.2 (r.x + r.w))], by go_num, by omega, by simp; omega, by rw [← HRun.out, hrs], ?_, hB.setCell (p := ⟨g2, _, none⟩) (by simpa using hg2) _⟩
                have := own_set ho (init.length * 2 + 1) (.int .i64 (max s.2 (r.x + r.w)))
                rw [flatS_set] at this
                simpa using this
              have HbW : Hid (Below wr.heap.size wr ((wr.alloc (.cells #[.int .i64 r.x, .int .i64 r.y, .int .i64 r.w, .int .i64 r.h] 35)).drewN nq)) := below_drewN ((Below.refl _ wr).alloc (Nat.le_refl _) _)
              go_wp2
              go_roundw
              case rel => exact HRel.out _ HbW.out
              case measure => simp [intOf]; omega
            · rw [if_neg c3] at hrs
              go_wp2_with fail
              go_quiet (fail)
              have hbW : Below wr.heap.size wr ((wr.alloc (.cells #[.int .i64 r.x, .int .i64 r.y, .int .i64 r.w, .int .i64 r.h] 35)).drewN nq) := below_drewN ((Below.refl _ wr).alloc (Nat.le_refl _) _)
              obtain ⟨W, hW⟩ : ∃ W, W = (wr.alloc (.cells #[.int .i64 r.x, .int .i64 r.y, .int .i64 r.w, .int .i64 r.h] 35)).drewN nq := ⟨_, rfl⟩
              rw [← hW] at hbW ⊢
              have HbW : Hid (Below wr.heap.size wr W) := hbW
              clear hW hbW
              have hcW : W.cell? ⟨g2, init.length * 2 + 1, none⟩ = some (.int .i64 s.2) := (HbW.out.cell (p := ⟨g2, init.length * 2 + 1, none⟩) hg3).trans hcel
              obtain ⟨hi, hz0, hz1, hz2⟩ := HI.out
              have hc3 : Hid (init.length + 1 + 1 ≤ maxLen) := by unfold Hid maxLen; omega
              have hc4 : Hid ((init.length + 1 + 1) * 16 ≤ 140737488355328) := by unfold Hid; omega
              have Hown : Hid (∀ o1, (W.alloc o1).ownsRow w.heap.size 79 2 (.slice (some ⟨g2, 0, none⟩) (init.length + 1) cap2) (init.length + 1) (flatS (init ++ [s])) ∧ Below w.heap.size w (W.alloc o1)) := fun o1 => HW.out _ (HbW.out.alloc HbW.out.size o1)
              have hc5 : Hid (∀ o1, w.heap.size ≤ (W.alloc o1).heap.size) := fun o1 => (Hown.out o1).2.size
              go_wp2_with (at_builtin; refine wpList_append_own _ rfl _ _ 75 rfl w.heap.size 79 i0 (.agg #[.int .i64 0, .int .i64 0]) 2 16 Try.underlying75 hi hz0 hz1 hz2 rfl (by decide) (.slice (some ⟨g2, 0, none⟩) (init.length + 1) cap2) (init.length + 1) (flatS (init ++ [s])) rfl (Hown.out _).1 _ 1 1 [.int .i64 r.x, .int .i64 (r.x + r.w)] rfl rfl (cell_two _ _ _ _) (one2 _ _) hc3.out hc4.out (hc5.out _) ?_)
              intro v' w4 hown' hgrow hnil
              have H4 : Hid (w4.ownsRow w.heap.size 79 2 v' ((init ++ [s]) ++ [(r.x, r.x + r.w)]).length (flatS ((init ++ [s]) ++ [(r.x, r.x + r.w)])) ∧ Below w.heap.size w w4) := by
                refine ⟨?_, app_below (Hown.out _).2 (Hown.out _).1 (Nat.le_refl _) hgrow⟩
                rw [flatS_app, List.length_append, hlen]
                exact hown'
              clear hown' hgrow hnil hi hz0 hz1 hz2
              have HRel : Hid (∃ (k' : Nat) (acc : List Sp), Value.int .i64 ((k : Int) + 1) = .int .i64 k' ∧ RInv L y w k' acc v' w4) := ⟨k + 1, (init ++ [s]) ++ [(r.x, r.x + r.w)], by go_num, by omega, by simp at hal ⊢; omega, by rw [← HRun.out, hrs, List.append_assoc]; rfl, H4.out.1, H4.out.2⟩
              go_wp2
              go_roundw
              case rel => exact HRel.out
              case measure => simp [intOf]; omega
    · obtain rfl : k = L.length := by omega
      rw [List.drop_length] at hrun
      obtain rfl : acc = R := by rw [HR.out]; exact hrun
      obtain ⟨oa2, cap2, rfl, hcap2, hsp⟩ := spl_own hown
      have HS : Hid (SpL wr (.slice oa2 acc.length acc.length) acc) := hsp
      clear hsp
      have HB : Hid (Below w.heap.size w wr) := hBr
      clear hown hBr hrun
      go_wp2
      go_ret
      exact ⟨_, rfl, HS.out, HB.out⟩

end Go.Proofs.Ytagkbpceiedikaa
