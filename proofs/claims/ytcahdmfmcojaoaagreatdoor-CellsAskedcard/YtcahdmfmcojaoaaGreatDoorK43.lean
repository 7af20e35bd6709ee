/-
  Texts of this claim, one behind the other: what each is about stands ahead of it.
-/
import Derived.Test.YtcahdmfmcojaoaaGreatDoorK7
import Derived.Test.YtcahdmfmcojaoaaGreatDoorK18
import Derived.Test.YtcahdmfmcojaoaaGreatDoorK42
/-
  The document's side of stage 15: what may be (a cell, a size, a screen, a place).
-/
namespace Go.Proofs.YtcahdmfmcojaoaaGreatDoor
open Go.RowKit

set_option maxHeartbeats 2000000 in
theorem rcell_any (c : Ce) (w : World) : Calls Tryz.prog 61 #[(Value.agg #[.int .i32 c.r, .int .u8 c.c.r, .int .u8 c.c.g, .int .u8 c.c.b, .int .u8 c.c.a, .int .u8 c.b.r, .int .u8 c.b.g, .int .u8 c.b.b, .int .u8 c.b.a, .bool c.wd, .bool c.tl])] w fun e w' => e = .returned (.bool (okCe c)) ∧ Below w.heap.size w w' := by
  have HB : Hid (∀ W, Below (w.alloc (.cells (#[.int .i32 c.r, .int .u8 c.c.r, .int .u8 c.c.g, .int .u8 c.c.b, .int .u8 c.c.a, .int .u8 c.b.r, .int .u8 c.b.g, .int .u8 c.b.b, .int .u8 c.b.a, .bool c.wd, .bool c.tl]) 34)).heap.size (w.alloc (.cells (#[.int .i32 c.r, .int .u8 c.c.r, .int .u8 c.c.g, .int .u8 c.c.b, .int .u8 c.c.a, .int .u8 c.b.r, .int .u8 c.b.g, .int .u8 c.b.b, .int .u8 c.b.a, .bool c.wd, .bool c.tl]) 34)) W → Bk W w.heap.size (#[.int .i32 c.r, .int .u8 c.c.r, .int .u8 c.c.g, .int .u8 c.c.b, .int .u8 c.c.a, .int .u8 c.b.r, .int .u8 c.b.g, .int .u8 c.b.b, .int .u8 c.b.a, .bool c.wd, .bool c.tl]) 34 ∧ Below w.heap.size w W) := fun W h => ⟨(Bk.new w _ _).below h, ((Below.refl _ w).alloc (Nat.le_refl _) _).trans (h.mono (by simp))⟩
  have HL : Hid (∀ c, Below w.heap.size w (w.alloc c)) := fun c => (Below.refl _ w).alloc (Nat.le_refl _) _
  have cs : c.r < 0 ∨ (¬ c.r < 0 ∧ 1114111 < c.r) ∨ (¬ c.r < 0 ∧ ¬ 1114111 < c.r ∧ 55296 ≤ c.r ∧ c.r ≤ 57343) ∨ (¬ c.r < 0 ∧ ¬ 1114111 < c.r ∧ 55296 ≤ c.r ∧ ¬ c.r ≤ 57343) ∨ (¬ c.r < 0 ∧ ¬ 1114111 < c.r ∧ ¬ 55296 ≤ c.r) := by omega
  rcases cs with c1 | ⟨c1, c2⟩ | ⟨c1, c2, c3, c4⟩ | ⟨c1, c2, c3, c4⟩ | ⟨c1, c2, c3⟩
  iterate 3
    · have HV : Hid (okCe c = false) := by
        have : vldR c.r = false := by unfold vldR; exact decide_eq_false (by omega)
        show okCe c = false
        unfold okCe
        rw [this, Bool.false_and]
      clear HB
      go_enter Tryz.func61, Tryz.ntmps61
      go_wp2
      go_ret
      exact ⟨by rw [HV.out]; rfl, HL.out _⟩
  all_goals
    have hv : vldR c.r = true := by unfold vldR; exact decide_eq_true (by omega)
    have HV : Hid (vldR c.r = true) := hv
    clear hv
    go_enter Tryz.func61, Tryz.ntmps61
    go_wp2_with fail
    refine (rwidth_any _ _).mono ?_
    rintro e w2 ⟨rfl, hb⟩
    obtain ⟨B1, B2⟩ := HB.out _ hb
    have H1 : Hid (Below w.heap.size w w2) := B2
    have cc := B1.cell
    have a9 := cc 9
    have a10 := cc 10
    simp only [List.getElem?_toArray, List.getElem?_cons_zero, List.getElem?_cons_succ] at a9 a10
    have HO : Hid (okCe c = (if width c.r = 1 then !c.wd && !c.tl else if width c.r = 2 then c.wd != c.tl else false)) := by
      show okCe c = _
      unfold okCe
      rw [HV.out, Bool.true_and]
    clear hb B1 B2 cc HB HL
    generalize width c.r = n at *
    by_cases h1 : n = 1
    · subst h1
      cases hw : c.wd <;> cases ht : c.tl
      all_goals
        rw [hw] at a9
        rw [ht] at a10
        go_wp2
        go_ret
        exact ⟨by rw [HO.out]; simp [hw, ht], H1.out⟩
    · by_cases h2 : n = 2
      · subst h2
        cases hw : c.wd <;> cases ht : c.tl
        all_goals
          rw [hw] at a9
          rw [ht] at a10
          go_wp2
          go_ret
          exact ⟨by rw [HO.out]; simp [hw, ht], H1.out⟩
      · go_wp2
        go_ret
        exact ⟨by rw [HO.out, if_neg h1, if_neg h2]; rfl, H1.out⟩

set_option maxHeartbeats 1000000 in
theorem rsize15_any (a b : Int) (w : World) : Calls Tryz.prog 35 #[.agg #[.int .i64 a, .int .i64 b]] w fun e w' => e = .returned (.bool (szB a b)) ∧ Below w.heap.size w w' := by
  have HL : Hid (∀ c, Below w.heap.size w (w.alloc c)) := fun c => (Below.refl _ w).alloc (Nat.le_refl _) _
  have cs : ¬ 0 ≤ a ∨ (0 ≤ a ∧ ¬ 0 ≤ b) ∨ (0 ≤ a ∧ 0 ≤ b ∧ ¬ a ≤ 16384) ∨ (0 ≤ a ∧ 0 ≤ b ∧ a ≤ 16384 ∧ ¬ b ≤ 16384) ∨ (0 ≤ a ∧ 0 ≤ b ∧ a ≤ 16384 ∧ b ≤ 16384) := by omega
  rcases cs with c1 | ⟨c1, c2⟩ | ⟨c1, c2, c3⟩ | ⟨c1, c2, c3, c4⟩ | ⟨c1, c3, c2, c4⟩
  rotate_right
  · obtain ⟨m1, m2⟩ := mul_bd c1 c2 c3 c4
    generalize hm : a * b = m at m1 m2
    have hs : szB a b = decide (m ≤ 262144) := by
      rw [Bool.eq_iff_iff, szB_iff, hm]
      simp only [decide_eq_true_eq]
      omega
    have HM : Hid (a * b = m) := hm
    rw [hs]
    rw [← hm] at m1 m2 ⊢
    clear hs hm
    go_enter Tryz.func35, Tryz.ntmps35
    go_wp2
    go_ret
    exact ⟨rfl, HL.out _⟩
  all_goals
    have hs : szB a b = false := by
      rw [← Bool.not_eq_true, szB_iff]
      omega
    rw [hs]
    clear hs
    go_enter Tryz.func35, Tryz.ntmps35
    go_wp2
    go_ret
    exact ⟨rfl, HL.out _⟩

set_option maxHeartbeats 1000000 in
theorem rplace15_any (a b x y : Int) (v : Value) (w : World) : Calls Tryz.prog 26 #[.agg #[.int .i64 a, .int .i64 b, v], .agg #[.int .i64 x, .int .i64 y]] w fun e w' => e = .returned (.bool (plB a b x y)) ∧ Below w.heap.size w w' := by
  have HL : Hid (∀ c d, Below w.heap.size w ((w.alloc c).alloc d)) := fun c d => ((Below.refl _ w).alloc (Nat.le_refl _) _).alloc (by simp) _
  have cs : ¬ 0 ≤ x ∨ (0 ≤ x ∧ ¬ 0 ≤ y) ∨ (0 ≤ x ∧ 0 ≤ y ∧ ¬ x < a) ∨ (0 ≤ x ∧ 0 ≤ y ∧ x < a ∧ ¬ y < b) ∨ (0 ≤ x ∧ 0 ≤ y ∧ x < a ∧ y < b) := by omega
  rcases cs with c1 | ⟨c1, c2⟩ | ⟨c1, c2, c3⟩ | ⟨c1, c2, c3, c4⟩ | ⟨c1, c2, c3, c4⟩
  all_goals
    go_enter Tryz.func26, Tryz.ntmps26
    go_wp2
    go_ret
    exact ⟨ret_boolR (by simp [plB]; omega), HL.out _ _⟩

set_option maxRecDepth 10000 in
set_option maxHeartbeats 4000000 in
theorem rcheck15_any (a b : Int) (l : List Ce) (v : Value) (w : World) (hv : LsC w v l) (hl : l.length ≤ 9223372036854775806) : Calls Tryz.prog 25 #[.agg #[.int .i64 a, .int .i64 b, v]] w fun e w' => e = .returned (.int .i64 (scE a b l)) ∧ Below w.heap.size w w' := by
  obtain ⟨oa, cap, rfl, hcap, hg⟩ := id hv
  obtain ⟨n, hn⟩ : ∃ n, n = l.length := ⟨_, rfl⟩
  have HG : Hid (0 < n → ∃ g o, oa = some ⟨g, o, none⟩ ∧ g < w.heap.size ∧ ∀ i (h : i < l.length), CeAt w g (o + i * 11) l[i]) := by rw [hn]; exact hg
  have HN : Hid (n = l.length) := hn
  have HB : Hid (∀ W, Below (w.alloc (.cells #[.int .i64 a, .int .i64 b, .slice oa n cap] 26)).heap.size (w.alloc (.cells #[.int .i64 a, .int .i64 b, .slice oa n cap] 26)) W → Bk W w.heap.size #[.int .i64 a, .int .i64 b, .slice oa n cap] 26 ∧ Below w.heap.size w W) := fun W h => ⟨(Bk.new w _ _).below h, ((Below.refl _ w).alloc (Nat.le_refl _) _).trans (h.mono (by simp))⟩
  rw [← hn] at hl ⊢
  clear hg hv hcap hn
  go_enter Tryz.func25, Tryz.ntmps25
  go_wp2_with fail
  refine (rsize15_any _ _ _).mono ?_
  rintro e w1 ⟨rfl, hb⟩
  obtain ⟨B1, B2⟩ := HB.out _ hb
  have H1 : Hid (Below w.heap.size w w1 ∧ Bk w1 w.heap.size #[.int .i64 a, .int .i64 b, .slice oa n cap] 26) := ⟨B2, B1⟩
  cases hs : szB a b
  · have he : scE a b l = 150 := by unfold scE; rw [hs, if_neg (by simp)]
    clear hb B1 B2 HB
    go_wp2
    go_ret
    exact ⟨by rw [he]; rfl, H1.out.1⟩
  · obtain ⟨m1, m2⟩ := mulB hs
    obtain ⟨a0, a1, a2⟩ := Bk.at3S B1
    have HS : Hid (szB a b = true) := hs
    clear hb hs
    by_cases hq : (n : Int) = a * b
    · have e1 : Hid (scE a b l = if okCs l = true then 0 else 150) := by show scE a b l = _; unfold scE; rw [HS.out]; rw [HN.out] at hq; simp [hq]
      clear HB B1 B2 a0 a1 a2
      obtain ⟨a0, a1, a2⟩ := Bk.at3S H1.out.2
      go_wp2_with fail
      go_loopw [3] (fun i wr => ∃ k : Nat, k ≤ n ∧ i = .int .i64 k ∧ Hid ((l.take k).all okCe = true) ∧ Hid (Below w1.heap.size w1 wr)) (fun i _ => n - (intOf i).toNat)
      case atStart => exact ⟨0, Nat.zero_le _, rfl, (by show (l.take 0).all okCe = true; simp), Below.refl _ _⟩
      case round =>
        obtain ⟨k, hk, rfl, HA, HW⟩ := hrel
        have H2 : Hid (Below w.heap.size w wr ∧ Bk wr w.heap.size #[.int .i64 a, .int .i64 b, .slice oa n cap] 26) := ⟨H1.out.1.trans (HW.out.mono H1.out.1.size), H1.out.2.below HW.out⟩
        obtain ⟨x0, x1, x2⟩ := Bk.at3S H2.out.2
        by_cases hlt : k < n
        · have hlt' : k < l.length := by rw [← HN.out]; exact hlt
          obtain ⟨g, o, rfl, g1, g2⟩ := HG.out (by omega)
          obtain ⟨d0, d1, d2, d3, d4, d5, d6, d7, d8, d9, d10⟩ : CeAt wr g (o + k * 11) l[k] := (g2 k hlt').kept fun j => H2.out.1.cell (p := ⟨g, j, none⟩) g1
          have HC : Hid (∀ W, Calls Tryz.prog 61 #[(Value.agg #[.int .i32 l[k].r, .int .u8 l[k].c.r, .int .u8 l[k].c.g, .int .u8 l[k].c.b, .int .u8 l[k].c.a, .int .u8 l[k].b.r, .int .u8 l[k].b.g, .int .u8 l[k].b.b, .int .u8 l[k].b.a, .bool l[k].wd, .bool l[k].tl])] W fun e w' => e = .returned (.bool (okCe l[k])) ∧ Below W.heap.size W w') := fun W => rcell_any _ W
          have HQ : Hid ((okCe l[k] = true → (l.take (k + 1)).all okCe = true) ∧ (okCe l[k] = false → okCs l = false)) := ⟨all_step hlt' HA.out, all_fail hlt'⟩
          have ik : (k : Int) < n := by omega
          clear g2 g1
          generalize l[k] = c at *
          go_wp2_with fail
          refine (HC.out _).mono ?_
          rintro e w3 ⟨rfl, hb⟩
          have H3 : Hid (Below w1.heap.size w1 w3) := HW.out.trans (hb.mono HW.out.size)
          have H4 : Hid (Below w.heap.size w w3) := H2.out.1.trans (hb.mono H2.out.1.size)
          clear hb H2 HW x0 x1 x2 d0 d1 d2 d3 d4 d5 d6 d7 d8 d9 d10
          cases ho : okCe c
          · go_wp2
            go_ret
            exact ⟨by rw [e1.out, HQ.out.2 ho]; rfl, H4.out⟩
          · go_wp2
            go_roundw
            case rel => exact ⟨k + 1, by omega, by go_num, HQ.out.1 ho, H3⟩
            case measure => simp [intOf]; omega
        · obtain rfl : k = n := by omega
          go_wp2
          go_ret
          refine ⟨?_, H2.out.1⟩
          have h := HA.out
          rw [HN.out, List.take_length] at h
          rw [e1.out, show okCs l = true from h]
          rfl
    · have e1 : scE a b l = 150 := by unfold scE; rw [if_neg]; rintro ⟨_, h, _⟩; exact hq (by rw [HN.out]; exact h)
      clear HB B1 B2
      go_wp2
      go_ret
      exact ⟨by rw [e1]; rfl, H1.out.1⟩

end Go.Proofs.YtcahdmfmcojaoaaGreatDoor

/-
  The document's side of stage 15: At.
-/
namespace Go.Proofs.YtcahdmfmcojaoaaGreatDoor
open Go.RowKit

set_option maxRecDepth 20000 in
set_option maxHeartbeats 2000000 in
theorem rat_bad (a b : Int) (l : List Ce) (v : Value) (x y : Int) (w : World) (hv : LsC w v l) (hl : l.length ≤ 9223372036854775806) (hE : scE a b l = 150) :
    Calls Tryz.prog 8 #[.agg #[.int .i64 a, .int .i64 b, v], .agg #[.int .i64 x, .int .i64 y]] w fun e w' => e = .returned (.tuple #[(Value.agg #[.int .i32 ceZ.r, .int .u8 ceZ.c.r, .int .u8 ceZ.c.g, .int .u8 ceZ.c.b, .int .u8 ceZ.c.a, .int .u8 ceZ.b.r, .int .u8 ceZ.b.g, .int .u8 ceZ.b.b, .int .u8 ceZ.b.a, .bool ceZ.wd, .bool ceZ.tl]), .int .i64 150]) ∧ Below w.heap.size w w' := by
  obtain ⟨oa, cap, rfl, hcap, -⟩ := id hv
  have HC : Hid (∀ W, Below w.heap.size w W → Calls Tryz.prog 25 #[.agg #[.int .i64 a, .int .i64 b, .slice oa l.length cap]] W fun e w' => e = .returned (.int .i64 150) ∧ Below W.heap.size W w') := fun W h => by rw [← hE]; exact rcheck15_any a b l _ W (hv.below h) hl
  have H0 : Hid (Below w.heap.size w (((w.alloc (.cells #[.int .i64 a, .int .i64 b, .slice oa l.length cap] 26)).alloc (.cells #[.int .i64 x, .int .i64 y] 28)).alloc (.cells #[.int .i32 0, .int .u8 0, .int .u8 0, .int .u8 0, .int .u8 0, .int .u8 0, .int .u8 0, .int .u8 0, .int .u8 0, .bool false, .bool false] 34)) ∧ Bk (((w.alloc (.cells #[.int .i64 a, .int .i64 b, .slice oa l.length cap] 26)).alloc (.cells #[.int .i64 x, .int .i64 y] 28)).alloc (.cells #[.int .i32 0, .int .u8 0, .int .u8 0, .int .u8 0, .int .u8 0, .int .u8 0, .int .u8 0, .int .u8 0, .int .u8 0, .bool false, .bool false] 34)) w.heap.size #[.int .i64 a, .int .i64 b, .slice oa l.length cap] 26 ∧ Bk (((w.alloc (.cells #[.int .i64 a, .int .i64 b, .slice oa l.length cap] 26)).alloc (.cells #[.int .i64 x, .int .i64 y] 28)).alloc (.cells #[.int .i32 0, .int .u8 0, .int .u8 0, .int .u8 0, .int .u8 0, .int .u8 0, .int .u8 0, .int .u8 0, .int .u8 0, .bool false, .bool false] 34)) (w.heap.size + 1 + 1) #[.int .i32 0, .int .u8 0, .int .u8 0, .int .u8 0, .int .u8 0, .int .u8 0, .int .u8 0, .int .u8 0, .int .u8 0, .bool false, .bool false] 34) := by
    have k1 := (((Bk.new w #[.int .i64 a, .int .i64 b, .slice oa l.length cap] 26).below ((Below.refl _ _).alloc (Nat.le_refl _) (.cells #[.int .i64 x, .int .i64 y] 28)))).below ((Below.refl _ _).alloc (Nat.le_refl _) (.cells #[.int .i32 0, .int .u8 0, .int .u8 0, .int .u8 0, .int .u8 0, .int .u8 0, .int .u8 0, .int .u8 0, .int .u8 0, .bool false, .bool false] 34))
    have k2 := Bk.new ((w.alloc (.cells #[.int .i64 a, .int .i64 b, .slice oa l.length cap] 26)).alloc (.cells #[.int .i64 x, .int .i64 y] 28)) #[.int .i32 0, .int .u8 0, .int .u8 0, .int .u8 0, .int .u8 0, .int .u8 0, .int .u8 0, .int .u8 0, .int .u8 0, .bool false, .bool false] 34
    simp only [World.size_alloc] at k2
    exact ⟨(((Below.refl w.heap.size w).alloc (Nat.le_refl _) _).alloc (by simp) _).alloc (by simp; omega) _, k1, k2⟩
  clear hv hE
  go_enter Tryz.func8, Tryz.ntmps8
  go_wp2_with fail
  generalize ((w.alloc (.cells #[.int .i64 a, .int .i64 b, .slice oa l.length cap] 26)).alloc (.cells #[.int .i64 x, .int .i64 y] 28)).alloc (.cells #[.int .i32 0, .int .u8 0, .int .u8 0, .int .u8 0, .int .u8 0, .int .u8 0, .int .u8 0, .int .u8 0, .int .u8 0, .bool false, .bool false] 34) = w1 at *
  refine (HC.out _ H0.out.1).mono ?_
  rintro e w2 ⟨rfl, hb⟩
  have H2 : Hid (Below w.heap.size w w2 ∧ Bk w2 (w.heap.size + 1 + 1) #[.int .i32 0, .int .u8 0, .int .u8 0, .int .u8 0, .int .u8 0, .int .u8 0, .int .u8 0, .int .u8 0, .int .u8 0, .bool false, .bool false] 34) := ⟨H0.out.1.trans (hb.mono H0.out.1.size), H0.out.2.2.below hb⟩
  clear hb H0 HC
  go_wp2_with (refine wpList_store_row rfl 34 (.tmp 4) (.tmp 15) rfl (w.heap.size + 1 + 1) #[.int .i32 0, .int .u8 0, .int .u8 0, .int .u8 0, .int .u8 0, .int .u8 0, .int .u8 0, .int .u8 0, .int .u8 0, .bool false, .bool false] rfl rfl 34 _ H2.out.2 cel_size rfl (by simp [Value.oneCell']) ?_)
  obtain ⟨W3, hW3⟩ : ∃ W3, W3 = w2.setRow (w.heap.size + 1 + 1) #[.int .i32 0, .int .u8 0, .int .u8 0, .int .u8 0, .int .u8 0, .int .u8 0, .int .u8 0, .int .u8 0, .int .u8 0, .bool false, .bool false] := ⟨_, rfl⟩
  have H3 : Hid (Bk W3 (w.heap.size + 1 + 1) #[.int .i32 0, .int .u8 0, .int .u8 0, .int .u8 0, .int .u8 0, .int .u8 0, .int .u8 0, .int .u8 0, .int .u8 0, .bool false, .bool false] 34 ∧ Below w.heap.size w W3) := by rw [hW3]; exact ⟨setRow_heap w2 _ _ _ 34 _ H2.out.2, below_setRow H2.out.1 (by omega) _⟩
  rw [← hW3]
  clear hW3 H2
  have hld : (loadVar 34 ⟨w.heap.size + 1 + 1, 0, none⟩).run Tryz.prog W3 = .ok (.agg #[.int .i32 0, .int .u8 0, .int .u8 0, .int .u8 0, .int .u8 0, .int .u8 0, .int .u8 0, .int .u8 0, .int .u8 0, .bool false, .bool false]) W3 := run_loadVar_row W3 _ 34 34 _ _ _ H3.out.1 Tryz.underlying34 rfl cel_size
  refine bodyPost_ret (v := .tuple #[.agg #[.int .i32 0, .int .u8 0, .int .u8 0, .int .u8 0, .int .u8 0, .int .u8 0, .int .u8 0, .int .u8 0, .int .u8 0, .bool false, .bool false], .int .i64 150]) ?_ rfl ⟨rfl, H3.out.2⟩
  simp [results, Tryz.results8, asAddr, hld]
set_option maxRecDepth 20000 in
set_option maxHeartbeats 2000000 in
theorem rat_off (a b : Int) (l : List Ce) (v : Value) (x y : Int) (w : World) (hv : LsC w v l) (hl : l.length ≤ 9223372036854775806) (hE : scE a b l = 0) (hP : plB a b x y = false) :
    Calls Tryz.prog 8 #[.agg #[.int .i64 a, .int .i64 b, v], .agg #[.int .i64 x, .int .i64 y]] w fun e w' => e = .returned (.tuple #[(Value.agg #[.int .i32 ceZ.r, .int .u8 ceZ.c.r, .int .u8 ceZ.c.g, .int .u8 ceZ.c.b, .int .u8 ceZ.c.a, .int .u8 ceZ.b.r, .int .u8 ceZ.b.g, .int .u8 ceZ.b.b, .int .u8 ceZ.b.a, .bool ceZ.wd, .bool ceZ.tl]), .int .i64 150]) ∧ Below w.heap.size w w' := by
  obtain ⟨oa, cap, rfl, hcap, -⟩ := id hv
  have HC : Hid (∀ W, Below w.heap.size w W → Calls Tryz.prog 25 #[.agg #[.int .i64 a, .int .i64 b, .slice oa l.length cap]] W fun e w' => e = .returned (.int .i64 0) ∧ Below W.heap.size W w') := fun W h => by rw [← hE]; exact rcheck15_any a b l _ W (hv.below h) hl
  have HP : Hid (∀ W, Calls Tryz.prog 26 #[.agg #[.int .i64 a, .int .i64 b, .slice oa l.length cap], .agg #[.int .i64 x, .int .i64 y]] W fun e w' => e = .returned (.bool false) ∧ Below W.heap.size W w') := fun W => by rw [← hP]; exact rplace15_any a b x y _ W
  have H0 : Hid (Below w.heap.size w (((w.alloc (.cells #[.int .i64 a, .int .i64 b, .slice oa l.length cap] 26)).alloc (.cells #[.int .i64 x, .int .i64 y] 28)).alloc (.cells #[.int .i32 0, .int .u8 0, .int .u8 0, .int .u8 0, .int .u8 0, .int .u8 0, .int .u8 0, .int .u8 0, .int .u8 0, .bool false, .bool false] 34)) ∧ Bk (((w.alloc (.cells #[.int .i64 a, .int .i64 b, .slice oa l.length cap] 26)).alloc (.cells #[.int .i64 x, .int .i64 y] 28)).alloc (.cells #[.int .i32 0, .int .u8 0, .int .u8 0, .int .u8 0, .int .u8 0, .int .u8 0, .int .u8 0, .int .u8 0, .int .u8 0, .bool false, .bool false] 34)) w.heap.size #[.int .i64 a, .int .i64 b, .slice oa l.length cap] 26 ∧ Bk (((w.alloc (.cells #[.int .i64 a, .int .i64 b, .slice oa l.length cap] 26)).alloc (.cells #[.int .i64 x, .int .i64 y] 28)).alloc (.cells #[.int .i32 0, .int .u8 0, .int .u8 0, .int .u8 0, .int .u8 0, .int .u8 0, .int .u8 0, .int .u8 0, .int .u8 0, .bool false, .bool false] 34)) (w.heap.size + 1) #[.int .i64 x, .int .i64 y] 28 ∧ Bk (((w.alloc (.cells #[.int .i64 a, .int .i64 b, .slice oa l.length cap] 26)).alloc (.cells #[.int .i64 x, .int .i64 y] 28)).alloc (.cells #[.int .i32 0, .int .u8 0, .int .u8 0, .int .u8 0, .int .u8 0, .int .u8 0, .int .u8 0, .int .u8 0, .int .u8 0, .bool false, .bool false] 34)) (w.heap.size + 1 + 1) #[.int .i32 0, .int .u8 0, .int .u8 0, .int .u8 0, .int .u8 0, .int .u8 0, .int .u8 0, .int .u8 0, .int .u8 0, .bool false, .bool false] 34) := by
    have k1 := (((Bk.new w #[.int .i64 a, .int .i64 b, .slice oa l.length cap] 26).below ((Below.refl _ _).alloc (Nat.le_refl _) (.cells #[.int .i64 x, .int .i64 y] 28)))).below ((Below.refl _ _).alloc (Nat.le_refl _) (.cells #[.int .i32 0, .int .u8 0, .int .u8 0, .int .u8 0, .int .u8 0, .int .u8 0, .int .u8 0, .int .u8 0, .int .u8 0, .bool false, .bool false] 34))
    have k3 := (Bk.new (w.alloc (.cells #[.int .i64 a, .int .i64 b, .slice oa l.length cap] 26)) #[.int .i64 x, .int .i64 y] 28).below ((Below.refl _ _).alloc (Nat.le_refl _) (.cells #[.int .i32 0, .int .u8 0, .int .u8 0, .int .u8 0, .int .u8 0, .int .u8 0, .int .u8 0, .int .u8 0, .int .u8 0, .bool false, .bool false] 34))
    have k2 := Bk.new ((w.alloc (.cells #[.int .i64 a, .int .i64 b, .slice oa l.length cap] 26)).alloc (.cells #[.int .i64 x, .int .i64 y] 28)) #[.int .i32 0, .int .u8 0, .int .u8 0, .int .u8 0, .int .u8 0, .int .u8 0, .int .u8 0, .int .u8 0, .int .u8 0, .bool false, .bool false] 34
    simp only [World.size_alloc] at k2 k3
    exact ⟨(((Below.refl w.heap.size w).alloc (Nat.le_refl _) _).alloc (by simp) _).alloc (by simp; omega) _, k1, k3, k2⟩
  clear hv hE hP
  go_enter Tryz.func8, Tryz.ntmps8
  go_wp2_with fail
  generalize ((w.alloc (.cells #[.int .i64 a, .int .i64 b, .slice oa l.length cap] 26)).alloc (.cells #[.int .i64 x, .int .i64 y] 28)).alloc (.cells #[.int .i32 0, .int .u8 0, .int .u8 0, .int .u8 0, .int .u8 0, .int .u8 0, .int .u8 0, .int .u8 0, .int .u8 0, .bool false, .bool false] 34) = w1 at *
  refine (HC.out _ H0.out.1).mono ?_
  rintro e w2 ⟨rfl, hb⟩
  have H2 : Hid (Below w.heap.size w w2 ∧ Bk w2 w.heap.size #[.int .i64 a, .int .i64 b, .slice oa l.length cap] 26 ∧ Bk w2 (w.heap.size + 1) #[.int .i64 x, .int .i64 y] 28 ∧ Bk w2 (w.heap.size + 1 + 1) #[.int .i32 0, .int .u8 0, .int .u8 0, .int .u8 0, .int .u8 0, .int .u8 0, .int .u8 0, .int .u8 0, .int .u8 0, .bool false, .bool false] 34) := ⟨H0.out.1.trans (hb.mono H0.out.1.size), H0.out.2.1.below hb, H0.out.2.2.1.below hb, H0.out.2.2.2.below hb⟩
  clear hb H0 HC
  obtain ⟨z0, z1, z2⟩ := Bk.at3S H2.out.2.1
  have p0 : w2.cell? ⟨w.heap.size + 1, 0, none⟩ = some (.int .i64 x) := by rw [H2.out.2.2.1.cell]; rfl
  have p1 : w2.cell? ⟨w.heap.size + 1, 1, none⟩ = some (.int .i64 y) := by rw [H2.out.2.2.1.cell]; rfl
  go_wp2_with fail
  refine (HP.out _).mono ?_
  rintro e w3 ⟨rfl, hb⟩
  have H3 : Hid (Below w.heap.size w w3 ∧ Bk w3 w.heap.size #[.int .i64 a, .int .i64 b, .slice oa l.length cap] 26 ∧ Bk w3 (w.heap.size + 1) #[.int .i64 x, .int .i64 y] 28 ∧ Bk w3 (w.heap.size + 1 + 1) #[.int .i32 0, .int .u8 0, .int .u8 0, .int .u8 0, .int .u8 0, .int .u8 0, .int .u8 0, .int .u8 0, .int .u8 0, .bool false, .bool false] 34) := ⟨H2.out.1.trans (hb.mono H2.out.1.size), H2.out.2.1.below hb, H2.out.2.2.1.below hb, H2.out.2.2.2.below hb⟩
  clear hb H2 HP z0 z1 z2 p0 p1
  go_wp2_with (refine wpList_store_row rfl 34 (.tmp 4) (.tmp 15) rfl (w.heap.size + 1 + 1) #[.int .i32 0, .int .u8 0, .int .u8 0, .int .u8 0, .int .u8 0, .int .u8 0, .int .u8 0, .int .u8 0, .int .u8 0, .bool false, .bool false] rfl rfl 34 _ H3.out.2.2.2 cel_size rfl (by simp [Value.oneCell']) ?_)
  obtain ⟨W3, hW3⟩ : ∃ W3, W3 = w3.setRow (w.heap.size + 1 + 1) #[.int .i32 0, .int .u8 0, .int .u8 0, .int .u8 0, .int .u8 0, .int .u8 0, .int .u8 0, .int .u8 0, .int .u8 0, .bool false, .bool false] := ⟨_, rfl⟩
  have H4 : Hid (Bk W3 (w.heap.size + 1 + 1) #[.int .i32 0, .int .u8 0, .int .u8 0, .int .u8 0, .int .u8 0, .int .u8 0, .int .u8 0, .int .u8 0, .int .u8 0, .bool false, .bool false] 34 ∧ Below w.heap.size w W3) := by rw [hW3]; exact ⟨setRow_heap w3 _ _ _ 34 _ H3.out.2.2.2, below_setRow H3.out.1 (by omega) _⟩
  rw [← hW3]
  clear hW3 H3
  have hld : (loadVar 34 ⟨w.heap.size + 1 + 1, 0, none⟩).run Tryz.prog W3 = .ok (.agg #[.int .i32 0, .int .u8 0, .int .u8 0, .int .u8 0, .int .u8 0, .int .u8 0, .int .u8 0, .int .u8 0, .int .u8 0, .bool false, .bool false]) W3 := run_loadVar_row W3 _ 34 34 _ _ _ H4.out.1 Tryz.underlying34 rfl cel_size
  refine bodyPost_ret (v := .tuple #[.agg #[.int .i32 0, .int .u8 0, .int .u8 0, .int .u8 0, .int .u8 0, .int .u8 0, .int .u8 0, .int .u8 0, .int .u8 0, .bool false, .bool false], .int .i64 150]) ?_ rfl ⟨rfl, H4.out.2⟩
  simp [results, Tryz.results8, asAddr, hld]
set_option maxRecDepth 20000 in
set_option maxHeartbeats 2000000 in
theorem rat_in (a b : Int) (l : List Ce) (v : Value) (x y : Int) (w : World) (hv : LsC w v l) (hl : l.length ≤ 9223372036854775806) (hE : scE a b l = 0) (hP : plB a b x y = true) (c : Ce) (hc : c = l.getD (y * a + x).toNat ceZ) :
    Calls Tryz.prog 8 #[.agg #[.int .i64 a, .int .i64 b, v], .agg #[.int .i64 x, .int .i64 y]] w fun e w' => e = .returned (.tuple #[(Value.agg #[.int .i32 c.r, .int .u8 c.c.r, .int .u8 c.c.g, .int .u8 c.c.b, .int .u8 c.c.a, .int .u8 c.b.r, .int .u8 c.b.g, .int .u8 c.b.b, .int .u8 c.b.a, .bool c.wd, .bool c.tl]), .int .i64 0]) ∧ Below w.heap.size w w' := by
  obtain ⟨oa, cap, rfl, hcap, hg⟩ := id hv
  have hp : 0 ≤ x ∧ x < a ∧ 0 ≤ y ∧ y < b := by simpa [plB] using hP
  have hsz : szB a b = true ∧ (l.length : Int) = a * b := by
    unfold scE at hE
    split at hE
    · next h => exact ⟨h.1, h.2.1⟩
    · exact absurd hE (by decide)
  obtain ⟨s1, s2, s3, s4, s5⟩ := szB_iff.1 hsz.1
  have m1 : y * a + a ≤ a * b := by
    have : (y + 1) * a ≤ b * a := Int.mul_le_mul_of_nonneg_right (by omega) (by omega)
    rw [Int.add_mul, Int.one_mul, Int.mul_comm b a] at this
    exact this
  have m0 : 0 ≤ y * a := Int.mul_nonneg (by omega) (by omega)
  obtain ⟨p, hpp⟩ : ∃ p : Nat, (p : Int) = y * a := ⟨(y * a).toNat, by omega⟩
  obtain ⟨i, hi⟩ : ∃ i : Nat, (i : Int) = (p : Int) + x := ⟨((p : Int) + x).toNat, by omega⟩
  have hil : i < l.length := by omega
  obtain ⟨g, o, rfl, hgl, hat⟩ := hg (by omega)
  have hci : l[i] = c := by
    rw [hc, ← hpp, ← hi]
    simp [List.getD, hil]
  have HA : Hid (∀ W, Below w.heap.size w W → CeAt W g (o + i * 11) c) := fun W hb => by
    have := hat i hil
    rw [hci] at this
    exact this.kept fun j => hb.cell (p := ⟨g, j, none⟩) hgl
  have HC : Hid (∀ W, Below w.heap.size w W → Calls Tryz.prog 25 #[.agg #[.int .i64 a, .int .i64 b, .slice (some ⟨g, o, none⟩) l.length cap]] W fun e w' => e = .returned (.int .i64 0) ∧ Below W.heap.size W w') := fun W h => by rw [← hE]; exact rcheck15_any a b l _ W (hv.below h) hl
  have HP : Hid (∀ W, Calls Tryz.prog 26 #[.agg #[.int .i64 a, .int .i64 b, .slice (some ⟨g, o, none⟩) l.length cap], .agg #[.int .i64 x, .int .i64 y]] W fun e w' => e = .returned (.bool true) ∧ Below W.heap.size W w') := fun W => by rw [← hP]; exact rplace15_any a b x y _ W
  have H0 : Hid (Below w.heap.size w (((w.alloc (.cells #[.int .i64 a, .int .i64 b, .slice (some ⟨g, o, none⟩) l.length cap] 26)).alloc (.cells #[.int .i64 x, .int .i64 y] 28)).alloc (.cells #[.int .i32 0, .int .u8 0, .int .u8 0, .int .u8 0, .int .u8 0, .int .u8 0, .int .u8 0, .int .u8 0, .int .u8 0, .bool false, .bool false] 34)) ∧ Bk (((w.alloc (.cells #[.int .i64 a, .int .i64 b, .slice (some ⟨g, o, none⟩) l.length cap] 26)).alloc (.cells #[.int .i64 x, .int .i64 y] 28)).alloc (.cells #[.int .i32 0, .int .u8 0, .int .u8 0, .int .u8 0, .int .u8 0, .int .u8 0, .int .u8 0, .int .u8 0, .int .u8 0, .bool false, .bool false] 34)) w.heap.size #[.int .i64 a, .int .i64 b, .slice (some ⟨g, o, none⟩) l.length cap] 26 ∧ Bk (((w.alloc (.cells #[.int .i64 a, .int .i64 b, .slice (some ⟨g, o, none⟩) l.length cap] 26)).alloc (.cells #[.int .i64 x, .int .i64 y] 28)).alloc (.cells #[.int .i32 0, .int .u8 0, .int .u8 0, .int .u8 0, .int .u8 0, .int .u8 0, .int .u8 0, .int .u8 0, .int .u8 0, .bool false, .bool false] 34)) (w.heap.size + 1) #[.int .i64 x, .int .i64 y] 28 ∧ Bk (((w.alloc (.cells #[.int .i64 a, .int .i64 b, .slice (some ⟨g, o, none⟩) l.length cap] 26)).alloc (.cells #[.int .i64 x, .int .i64 y] 28)).alloc (.cells #[.int .i32 0, .int .u8 0, .int .u8 0, .int .u8 0, .int .u8 0, .int .u8 0, .int .u8 0, .int .u8 0, .int .u8 0, .bool false, .bool false] 34)) (w.heap.size + 1 + 1) #[.int .i32 0, .int .u8 0, .int .u8 0, .int .u8 0, .int .u8 0, .int .u8 0, .int .u8 0, .int .u8 0, .int .u8 0, .bool false, .bool false] 34) := by
    have k1 := (((Bk.new w #[.int .i64 a, .int .i64 b, .slice (some ⟨g, o, none⟩) l.length cap] 26).below ((Below.refl _ _).alloc (Nat.le_refl _) (.cells #[.int .i64 x, .int .i64 y] 28)))).below ((Below.refl _ _).alloc (Nat.le_refl _) (.cells #[.int .i32 0, .int .u8 0, .int .u8 0, .int .u8 0, .int .u8 0, .int .u8 0, .int .u8 0, .int .u8 0, .int .u8 0, .bool false, .bool false] 34))
    have k3 := (Bk.new (w.alloc (.cells #[.int .i64 a, .int .i64 b, .slice (some ⟨g, o, none⟩) l.length cap] 26)) #[.int .i64 x, .int .i64 y] 28).below ((Below.refl _ _).alloc (Nat.le_refl _) (.cells #[.int .i32 0, .int .u8 0, .int .u8 0, .int .u8 0, .int .u8 0, .int .u8 0, .int .u8 0, .int .u8 0, .int .u8 0, .bool false, .bool false] 34))
    have k2 := Bk.new ((w.alloc (.cells #[.int .i64 a, .int .i64 b, .slice (some ⟨g, o, none⟩) l.length cap] 26)).alloc (.cells #[.int .i64 x, .int .i64 y] 28)) #[.int .i32 0, .int .u8 0, .int .u8 0, .int .u8 0, .int .u8 0, .int .u8 0, .int .u8 0, .int .u8 0, .int .u8 0, .bool false, .bool false] 34
    simp only [World.size_alloc] at k2 k3
    exact ⟨(((Below.refl w.heap.size w).alloc (Nat.le_refl _) _).alloc (by simp) _).alloc (by simp; omega) _, k1, k3, k2⟩
  have g1 : IntKind.i64.wrap (y * a) = (p : Int) := by rw [← hpp, IntKind.wrap_i64]; omega
  have g2 : IntKind.i64.wrap ((p : Int) + x) = (i : Int) := by rw [← hi, IntKind.wrap_i64]; omega
  clear hv hE hP hp hsz s1 s2 s3 s4 s5 m1 m0 hpp hi hat hci hc hg hcap
  go_enter Tryz.func8, Tryz.ntmps8
  go_wp2_with fail
  generalize ((w.alloc (.cells #[.int .i64 a, .int .i64 b, .slice (some ⟨g, o, none⟩) l.length cap] 26)).alloc (.cells #[.int .i64 x, .int .i64 y] 28)).alloc (.cells #[.int .i32 0, .int .u8 0, .int .u8 0, .int .u8 0, .int .u8 0, .int .u8 0, .int .u8 0, .int .u8 0, .int .u8 0, .bool false, .bool false] 34) = w1 at *
  refine (HC.out _ H0.out.1).mono ?_
  rintro e w2 ⟨rfl, hb⟩
  have H2 : Hid (Below w.heap.size w w2 ∧ Bk w2 w.heap.size #[.int .i64 a, .int .i64 b, .slice (some ⟨g, o, none⟩) l.length cap] 26 ∧ Bk w2 (w.heap.size + 1) #[.int .i64 x, .int .i64 y] 28 ∧ Bk w2 (w.heap.size + 1 + 1) #[.int .i32 0, .int .u8 0, .int .u8 0, .int .u8 0, .int .u8 0, .int .u8 0, .int .u8 0, .int .u8 0, .int .u8 0, .bool false, .bool false] 34) := ⟨H0.out.1.trans (hb.mono H0.out.1.size), H0.out.2.1.below hb, H0.out.2.2.1.below hb, H0.out.2.2.2.below hb⟩
  clear hb H0 HC
  obtain ⟨z0, z1, z2⟩ := Bk.at3S H2.out.2.1
  have p0 : w2.cell? ⟨w.heap.size + 1, 0, none⟩ = some (.int .i64 x) := by rw [H2.out.2.2.1.cell]; rfl
  have p1 : w2.cell? ⟨w.heap.size + 1, 1, none⟩ = some (.int .i64 y) := by rw [H2.out.2.2.1.cell]; rfl
  go_wp2_with fail
  refine (HP.out _).mono ?_
  rintro e w3 ⟨rfl, hb⟩
  have H3 : Hid (Below w.heap.size w w3 ∧ Bk w3 w.heap.size #[.int .i64 a, .int .i64 b, .slice (some ⟨g, o, none⟩) l.length cap] 26 ∧ Bk w3 (w.heap.size + 1) #[.int .i64 x, .int .i64 y] 28 ∧ Bk w3 (w.heap.size + 1 + 1) #[.int .i32 0, .int .u8 0, .int .u8 0, .int .u8 0, .int .u8 0, .int .u8 0, .int .u8 0, .int .u8 0, .int .u8 0, .bool false, .bool false] 34) := ⟨H2.out.1.trans (hb.mono H2.out.1.size), H2.out.2.1.below hb, H2.out.2.2.1.below hb, H2.out.2.2.2.below hb⟩
  clear hb H2 HP z0 z1 z2 p0 p1
  obtain ⟨z0, z1, z2⟩ := Bk.at3S H3.out.2.1
  have p0 : w3.cell? ⟨w.heap.size + 1, 0, none⟩ = some (.int .i64 x) := by rw [H3.out.2.2.1.cell]; rfl
  have p1 : w3.cell? ⟨w.heap.size + 1, 1, none⟩ = some (.int .i64 y) := by rw [H3.out.2.2.1.cell]; rfl
  obtain ⟨c0, c1, c2, c3, c4, c5, c6, c7, c8, c9, c10⟩ := HA.out _ H3.out.1
  go_wp2_with (refine wpList_store_row rfl 34 (.tmp 4) (.tmp 28) rfl (w.heap.size + 1 + 1) (#[.int .i32 c.r, .int .u8 c.c.r, .int .u8 c.c.g, .int .u8 c.c.b, .int .u8 c.c.a, .int .u8 c.b.r, .int .u8 c.b.g, .int .u8 c.b.b, .int .u8 c.b.a, .bool c.wd, .bool c.tl]) rfl rfl 34 _ H3.out.2.2.2 cel_size rfl (by simp [Value.oneCell']) ?_)
  obtain ⟨W3, hW3⟩ : ∃ W3, W3 = w3.setRow (w.heap.size + 1 + 1) (#[.int .i32 c.r, .int .u8 c.c.r, .int .u8 c.c.g, .int .u8 c.c.b, .int .u8 c.c.a, .int .u8 c.b.r, .int .u8 c.b.g, .int .u8 c.b.b, .int .u8 c.b.a, .bool c.wd, .bool c.tl]) := ⟨_, rfl⟩
  have H4 : Hid (Bk W3 (w.heap.size + 1 + 1) (#[.int .i32 c.r, .int .u8 c.c.r, .int .u8 c.c.g, .int .u8 c.c.b, .int .u8 c.c.a, .int .u8 c.b.r, .int .u8 c.b.g, .int .u8 c.b.b, .int .u8 c.b.a, .bool c.wd, .bool c.tl]) 34 ∧ Below w.heap.size w W3) := by rw [hW3]; exact ⟨setRow_heap w3 _ _ _ 34 _ H3.out.2.2.2, below_setRow H3.out.1 (by omega) _⟩
  rw [← hW3]
  clear hW3 H3
  have hld : (loadVar 34 ⟨w.heap.size + 1 + 1, 0, none⟩).run Tryz.prog W3 = .ok (.agg (#[.int .i32 c.r, .int .u8 c.c.r, .int .u8 c.c.g, .int .u8 c.c.b, .int .u8 c.c.a, .int .u8 c.b.r, .int .u8 c.b.g, .int .u8 c.b.b, .int .u8 c.b.a, .bool c.wd, .bool c.tl])) W3 := run_loadVar_row W3 _ 34 34 _ _ _ H4.out.1 Tryz.underlying34 rfl cel_size
  refine bodyPost_ret (v := .tuple #[.agg (#[.int .i32 c.r, .int .u8 c.c.r, .int .u8 c.c.g, .int .u8 c.c.b, .int .u8 c.c.a, .int .u8 c.b.r, .int .u8 c.b.g, .int .u8 c.b.b, .int .u8 c.b.a, .bool c.wd, .bool c.tl]), .int .i64 0]) ?_ rfl ⟨rfl, H4.out.2⟩
  simp [results, Tryz.results8, asAddr, hld]
theorem rat15_any (a b : Int) (l : List Ce) (v : Value) (x y : Int) (w : World) (hv : LsC w v l) (hl : l.length ≤ 9223372036854775806) :
    Calls Tryz.prog 8 #[.agg #[.int .i64 a, .int .i64 b, v], .agg #[.int .i64 x, .int .i64 y]] w fun e w' => e = .returned (.tuple #[(Value.agg #[.int .i32 (atC a b l x y).r, .int .u8 (atC a b l x y).c.r, .int .u8 (atC a b l x y).c.g, .int .u8 (atC a b l x y).c.b, .int .u8 (atC a b l x y).c.a, .int .u8 (atC a b l x y).b.r, .int .u8 (atC a b l x y).b.g, .int .u8 (atC a b l x y).b.b, .int .u8 (atC a b l x y).b.a, .bool (atC a b l x y).wd, .bool (atC a b l x y).tl]), .int .i64 (atE a b l x y)]) ∧ Below w.heap.size w w' := by
  unfold atC atE
  rcases sc_two a b l with h | h
  · cases hp : plB a b x y
    · rw [if_neg (fun h => absurd h.2 (by decide)), if_neg (fun h => absurd h.2 (by decide))]
      exact rat_off a b l v x y w hv hl h hp
    · rw [if_pos ⟨h, rfl⟩, if_pos ⟨h, rfl⟩]
      exact rat_in a b l v x y w hv hl h hp _ rfl
  · have h0 : ¬ scE a b l = 0 := by rw [h]; decide
    rw [if_neg (fun h => h0 h.1), if_neg (fun h => h0 h.1)]
    exact rat_bad a b l v x y w hv hl h

end Go.Proofs.YtcahdmfmcojaoaaGreatDoor
