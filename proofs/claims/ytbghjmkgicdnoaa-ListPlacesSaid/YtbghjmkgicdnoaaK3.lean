/-
  Contracts of package region: what is left of spans when others are cut out; what two rows have together.
-/
import Derived.Test.YtbghjmkgicdnoaaK2
import Derived.WalkMore
import Derived.Maps.AppendAt
namespace Go.Proofs.Ytbghjmkgicdnoaa
open Go.RowKit
attribute [local go_sem] ite_max ite_min

theorem cut_len : ∀ (cs : List Sp) (a b : Int), (cutA a b cs).1.length + (cutA a b cs).2.length ≤ cs.length + 1
  | [], a, b => by simp [cutA]
  | c :: t, a, b => by
    have ih := cut_len t (max a c.2) b
    rw [cutA]
    split
    · split
      · dsimp only; split <;> simp <;> omega
      · dsimp only; rw [List.length_append]; split <;> simp <;> omega
    · simp; omega
theorem pieces_len : ∀ (l cs : List Sp), (piecesF l cs).length ≤ l.length + cs.length
  | [], cs => by simp [piecesF]
  | s :: t, cs => by
    have h1 := cut_len cs s.1 s.2
    have h2 := pieces_len t (cutA s.1 s.2 cs).2
    rw [piecesF, List.length_append, List.length_cons]
    omega

theorem row_other {base : Nat} {e : TypeId} {size n : Nat} {v : Value} {xs : List Value} {X : World} (h : X.ownsRow base e size v n xs) (p : Addr) (u : Value) (hp : v.ownBlock ≠ some p.block) : (X.setCell p u).ownsRow base e size v n xs := by
  obtain ⟨hl, h⟩ := h
  refine ⟨hl, ?_⟩
  rcases h with h | ⟨g, cap, cur, rfl, h0, h1, h2⟩
  · exact .inl h
  · exact .inr ⟨g, cap, cur, rfl, h0, (Below.heap_setCell _ _ _ g (fun e => hp (by rw [← e]; rfl))).trans h1, h2⟩

theorem cell_twoB (w : World) (x y : Value) (t : TypeId) (b : Nat) (h : b = w.heap.size) : ∀ (j : Nat) (u : Value), [x, y][j]? = some u → (w.alloc (.cells #[x, y] t)).cell? ((⟨b, 0, none⟩ : Addr).add j) = some u := by
  subst h
  exact cell_two w x y t

def POut (S C R : List Sp) (w : World) (i n : Nat) (acc : List Sp) (v : Value) (wr : World) : Prop :=
  i ≤ S.length ∧ n ≤ C.length ∧ acc ++ piecesF (S.drop i) (C.drop n) = R ∧ wr.ownsRow w.heap.size 104 2 v acc.length (flatS acc) ∧ Below w.heap.size w wr
def PIn (S C R : List Sp) (w : World) (i bx : Nat) (a b : Int) (n : Nat) (acc : List Sp) (v : Value) (wr : World) : Prop :=
  n ≤ C.length ∧ acc ++ (cutA a b (C.drop n)).1 ++ piecesF (S.drop (i + 1)) (cutA a b (C.drop n)).2 = R ∧ wr.ownsRow w.heap.size 104 2 v acc.length (flatS acc) ∧ Below w.heap.size w wr ∧ Bk wr bx #[.int .i64 a, .int .i64 b] 104 ∧ v.ownBlock ≠ some bx ∧ w.heap.size ≤ bx

set_option maxRecDepth 10000 in
set_option maxHeartbeats 8000000 in
theorem pieces_any (S C : List Sp) (v u : Value) (w : World) (hv : SpL w v S) (hu : SpL w u C) (hS : S.length ≤ 1000000) (hC : C.length ≤ 1000000) :
    Calls Try.prog 60 #[v, u] w fun e w' => ∃ z, e = .returned z ∧ SpL w' z (piecesF S C) ∧ Below w.heap.size w w' := by
  obtain ⟨oa, ca, rfl, hca, hga⟩ := hv.cells
  obtain ⟨ob, cb, rfl, hcb, hgb⟩ := hu.cells
  have HG : Hid ((0 < S.length → ∃ g, oa = some ⟨g, 0, none⟩ ∧ g < w.heap.size ∧ ∀ i (h : i < S.length), w.cell? ⟨g, i * 2, none⟩ = some (.int .i64 S[i].1) ∧ w.cell? ⟨g, i * 2 + 1, none⟩ = some (.int .i64 S[i].2)) ∧
    (0 < C.length → ∃ g, ob = some ⟨g, 0, none⟩ ∧ g < w.heap.size ∧ ∀ i (h : i < C.length), w.cell? ⟨g, i * 2, none⟩ = some (.int .i64 C[i].1) ∧ w.cell? ⟨g, i * 2 + 1, none⟩ = some (.int .i64 C[i].2))) := ⟨hga, hgb⟩
  obtain ⟨i0, hi, hz0, hz1, hz2⟩ := info_parts info_span
  have HI : Hid (Try.prog.info? 104 = some i0 ∧ i0.zero = some (.agg #[.int .i64 0, .int .i64 0]) ∧ i0.size = 2 ∧ i0.bytes = 16) := ⟨hi, hz0, hz1, hz2⟩
  clear hga hgb hi hz0 hz1 hz2
  obtain ⟨R, hR⟩ : ∃ R, R = piecesF S C := ⟨_, rfl⟩
  have hRl : R.length ≤ S.length + C.length := by rw [hR]; exact pieces_len S C
  have HR : Hid (R = piecesF S C) := hR
  rw [← hR]
  clear hR
  go_enter Try.func60, Try.ntmps60
  go_wp2_with fail
  go_step3
  go_wp2_with fail
  go_step3
  go_wp2_with fail
  go_loopw [5, 6, 12] (fun v b i wr => ∃ (k n : Nat) (acc : List Sp), b = .int .i64 n ∧ i = .int .i64 k ∧ POut S C R w k n acc v wr) (fun _ _ i _ => S.length - (intOf i).toNat)
  case atStart => exact ⟨0, 0, [], rfl, rfl, Nat.zero_le _, Nat.zero_le _, HR.out.symm, World.ownsRow_nil _ _ _ _, Below.refl _ _⟩
  case round =>
    obtain ⟨k, n, acc, rfl, rfl, hI⟩ := hrel
    have HV : Hid (POut S C R w k n acc u5 wr) := hI
    obtain ⟨hkl, hnl, hrun, hown, hBr⟩ := hI
    by_cases hlt : k < S.length
    · obtain ⟨g, rfl, hg, hat⟩ := HG.out.1 (by omega)
      have hx := hat k hlt
      rw [← hBr.cell (p := ⟨g, k * 2, none⟩) hg, ← hBr.cell (p := ⟨g, k * 2 + 1, none⟩) hg] at hx
      have hd : S.drop k = S[k] :: S.drop (k + 1) := List.drop_eq_getElem_cons hlt
      generalize S[k] = s at *
      rw [hd, piecesF, ← List.append_assoc] at hrun
      have HP0 : Hid (PIn S C R w k wr.heap.size s.1 s.2 n acc u5 (wr.alloc (.cells #[.int .i64 s.1, .int .i64 s.2] 104))) := by
        refine ⟨hnl, hrun, row_below hown ((Below.refl _ wr).alloc (Nat.le_refl _) _), hBr.alloc hBr.size _, Bk.new _ _ _, fun h => ?_, hBr.size⟩
        have := (row_lt hown _ h).2
        omega
      obtain ⟨bx, hbx⟩ : ∃ bx, bx = wr.heap.size := ⟨_, rfl⟩
      obtain ⟨W, hW⟩ : ∃ W, W = wr.alloc (.cells #[.int .i64 s.1, .int .i64 s.2] 104) := ⟨_, rfl⟩
      rw [← hW, ← hbx] at HP0
      clear hown hBr hat hrun
      obtain ⟨x0, x1⟩ := hx
      go_wp2_with fail
      rw [← hW, ← hbx]
      clear hW hbx
      go_loopw [5, 6] (fun v b wq => ∃ (a : Int) (n : Nat) (acc : List Sp), b = .int .i64 n ∧ PIn S C R w k bx a s.2 n acc v wq) (fun _ b _ => C.length - (intOf b).toNat)
      case atStart => exact ⟨s.1, n, acc, rfl, HP0.out⟩
      case round =>
        obtain ⟨a, n, acc, rfl, hI⟩ := hrel
        have HQ : Hid (PIn S C R w k bx a s.2 n acc u5 wr) := hI
        obtain ⟨hnl, hrun, hown, hBr, hbk, hnb, hbb⟩ := hI
        have hal : acc.length ≤ R.length := by rw [← hrun]; simp
        have HW : Hid (∀ W, Below wr.heap.size wr W → W.ownsRow w.heap.size 104 2 u5 acc.length (flatS acc) ∧ Below w.heap.size w W ∧ Bk W bx #[.int .i64 a, .int .i64 s.2] 104) := fun W hb => ⟨row_below HQ.out.2.2.1 hb, HQ.out.2.2.2.1.trans (hb.mono HQ.out.2.2.2.1.size), HQ.out.2.2.2.2.1.below hb⟩
        have hc3 : Hid (acc.length + 1 ≤ maxLen) := by unfold Hid maxLen; omega
        have hc4 : Hid ((acc.length + 1) * 16 ≤ 140737488355328) := by unfold Hid; omega
        obtain ⟨y0, y1⟩ := hbk.at2
        clear hown
        by_cases hn : n < C.length
        · obtain ⟨g', rfl, hg', hat'⟩ := HG.out.2 (by omega)
          have hz := hat' n hn
          rw [← hBr.cell (p := ⟨g', n * 2, none⟩) hg', ← hBr.cell (p := ⟨g', n * 2 + 1, none⟩) hg'] at hz
          have hd2 : C.drop n = C[n] :: C.drop (n + 1) := List.drop_eq_getElem_cons hn
          generalize C[n] = c at *
          obtain ⟨z0, z1⟩ := hz
          rw [hd2, cutA] at hrun
          have hg2 : g' < wr.heap.size := Nat.lt_of_lt_of_le hg' hBr.size
          clear hat' hBr hbk
          by_cases h1 : c.1 < s.2
          · rw [if_pos h1] at hrun
            by_cases h2 : a < c.1
            · by_cases h3 : s.2 ≤ c.2
              · rw [if_pos h3, if_pos h2] at hrun
                go_wp2_with fail
                go_quiet (fail)
                obtain ⟨V, hV⟩ : ∃ V, V = wr.drewN nq := ⟨_, rfl⟩
                have HbV : Hid (Below wr.heap.size wr V) := by unfold Hid; rw [hV]; exact below_drewN (Below.refl _ wr)
                rw [← hV]
                clear hV

                have v0 := (HbV.out.cell (p := ⟨g', n * 2, none⟩) hg2).trans z0
                have v1 := (HbV.out.cell (p := ⟨g', n * 2 + 1, none⟩) hg2).trans z1

                obtain ⟨q0, q1⟩ := (HW.out V HbV.out).2.2.at2
                have hbV : bx < V.heap.size := (HW.out V HbV.out).2.2.lt
                clear y0 y1

                have HC : Hid (Below wr.heap.size wr (V.alloc (.cells #[.int .i64 c.1, .int .i64 c.2] 104)) ∧ Bk (V.alloc (.cells #[.int .i64 c.1, .int .i64 c.2] 104)) V.heap.size #[.int .i64 c.1, .int .i64 c.2] 104) := ⟨HbV.out.alloc HbV.out.size _, Bk.new _ _ _⟩

                have HA : Hid (∀ o, ((V.alloc (.cells #[.int .i64 c.1, .int .i64 c.2] 104)).alloc o).ownsRow w.heap.size 104 2 u5 acc.length (flatS acc) ∧ Below w.heap.size w ((V.alloc (.cells #[.int .i64 c.1, .int .i64 c.2] 104)).alloc o) ∧ Bk ((V.alloc (.cells #[.int .i64 c.1, .int .i64 c.2] 104)).alloc o) bx #[.int .i64 a, .int .i64 s.2] 104) := fun o => HW.out _ (HC.out.1.alloc HC.out.1.size o)

                obtain ⟨hi, hz0, hz1, hz2⟩ := HI.out
                go_wp2_with (at_builtin; refine wpList_append_own_at _ rfl _ _ 100 rfl w.heap.size 104 i0 (.agg #[.int .i64 0, .int .i64 0]) 2 16 Try.underlying100 hi hz0 hz1 hz2 rfl (by decide) u5 acc.length (flatS acc) rfl (HA.out _).1 _ 1 1 [.int .i64 a, .int .i64 c.1] rfl rfl (cell_twoB _ _ _ _ _ (by simp)) (one2 _ _) hc3.out hc4.out (HA.out _).2.1.size ?_)
                intro v' w4 hown' hgrow hnil hat4
                clear hi hz0 hz1 hz2

                have H4 : Hid (w4.ownsRow w.heap.size 104 2 v' (acc ++ [(a, c.1)]).length (flatS (acc ++ [(a, c.1)])) ∧ Below w.heap.size w w4) := by
                  refine ⟨?_, app_below (HA.out _).2.1 (HA.out _).1 (Nat.le_refl _) hgrow⟩
                  rw [flatS_app, List.length_append]
                  exact hown'

                have HB4 : Hid (Bk w4 bx #[.int .i64 a, .int .i64 s.2] 104 ∧ Bk w4 V.heap.size #[.int .i64 c.1, .int .i64 c.2] 104 ∧ v'.ownBlock ≠ some bx) := by
                  refine ⟨(HA.out _).2.2.grown hgrow hnb, (HC.out.2.below ((Below.refl _ _).alloc (Nat.le_refl _) _)).grown hgrow (fun h => ?_), ?_⟩
                  · have := (row_lt HQ.out.2.2.1 _ h).2
                    have := HbV.out.size
                    omega
                  · rcases hat4 with h | h
                    · rw [h]; exact hnb
                    · rw [h]
                      intro e
                      injection e with e
                      have := HA.out (.cells #[.int .i64 a, .int .i64 c.1] 104)
                      have := this.2.2.lt
                      omega
                obtain ⟨r0, r1⟩ := HB4.out.1.at2
                obtain ⟨p0, p1⟩ := HB4.out.2.1.at2
                have r2 := HB4.out.1.frozen 0
                clear hown' hgrow hnil q0 q1 hat4

                have HRel : Hid (∃ (k' n' : Nat) (acc : List Sp), Value.int .i64 n = .int .i64 n' ∧ Value.int .i64 ((k : Int) + 1) = .int .i64 k' ∧ POut S C R w k' n' acc v' w4) := by
                  refine ⟨k + 1, n, acc ++ [(a, c.1)], rfl, by go_num, by omega, hnl, ?_, H4.out.1, H4.out.2⟩
                  rw [hd2, ← hrun]
                go_wp2
                exact ⟨HRel.out, by simp [intOf]; omega⟩
              · rw [if_neg h3, if_pos h2] at hrun
                go_wp2_with fail
                go_quiet (fail)
                obtain ⟨V, hV⟩ : ∃ V, V = wr.drewN nq := ⟨_, rfl⟩
                have HbV : Hid (Below wr.heap.size wr V) := by unfold Hid; rw [hV]; exact below_drewN (Below.refl _ wr)
                rw [← hV]
                clear hV

                have v0 := (HbV.out.cell (p := ⟨g', n * 2, none⟩) hg2).trans z0
                have v1 := (HbV.out.cell (p := ⟨g', n * 2 + 1, none⟩) hg2).trans z1

                obtain ⟨q0, q1⟩ := (HW.out V HbV.out).2.2.at2
                have hbV : bx < V.heap.size := (HW.out V HbV.out).2.2.lt
                clear y0 y1

                have HC : Hid (Below wr.heap.size wr (V.alloc (.cells #[.int .i64 c.1, .int .i64 c.2] 104)) ∧ Bk (V.alloc (.cells #[.int .i64 c.1, .int .i64 c.2] 104)) V.heap.size #[.int .i64 c.1, .int .i64 c.2] 104) := ⟨HbV.out.alloc HbV.out.size _, Bk.new _ _ _⟩

                have HA : Hid (∀ o, ((V.alloc (.cells #[.int .i64 c.1, .int .i64 c.2] 104)).alloc o).ownsRow w.heap.size 104 2 u5 acc.length (flatS acc) ∧ Below w.heap.size w ((V.alloc (.cells #[.int .i64 c.1, .int .i64 c.2] 104)).alloc o) ∧ Bk ((V.alloc (.cells #[.int .i64 c.1, .int .i64 c.2] 104)).alloc o) bx #[.int .i64 a, .int .i64 s.2] 104) := fun o => HW.out _ (HC.out.1.alloc HC.out.1.size o)

                obtain ⟨hi, hz0, hz1, hz2⟩ := HI.out
                go_wp2_with (at_builtin; refine wpList_append_own_at _ rfl _ _ 100 rfl w.heap.size 104 i0 (.agg #[.int .i64 0, .int .i64 0]) 2 16 Try.underlying100 hi hz0 hz1 hz2 rfl (by decide) u5 acc.length (flatS acc) rfl (HA.out _).1 _ 1 1 [.int .i64 a, .int .i64 c.1] rfl rfl (cell_twoB _ _ _ _ _ (by simp)) (one2 _ _) hc3.out hc4.out (HA.out _).2.1.size ?_)
                intro v' w4 hown' hgrow hnil hat4
                clear hi hz0 hz1 hz2

                have H4 : Hid (w4.ownsRow w.heap.size 104 2 v' (acc ++ [(a, c.1)]).length (flatS (acc ++ [(a, c.1)])) ∧ Below w.heap.size w w4) := by
                  refine ⟨?_, app_below (HA.out _).2.1 (HA.out _).1 (Nat.le_refl _) hgrow⟩
                  rw [flatS_app, List.length_append]
                  exact hown'

                have HB4 : Hid (Bk w4 bx #[.int .i64 a, .int .i64 s.2] 104 ∧ Bk w4 V.heap.size #[.int .i64 c.1, .int .i64 c.2] 104 ∧ v'.ownBlock ≠ some bx) := by
                  refine ⟨(HA.out _).2.2.grown hgrow hnb, (HC.out.2.below ((Below.refl _ _).alloc (Nat.le_refl _) _)).grown hgrow (fun h => ?_), ?_⟩
                  · have := (row_lt HQ.out.2.2.1 _ h).2
                    have := HbV.out.size
                    omega
                  · rcases hat4 with h | h
                    · rw [h]; exact hnb
                    · rw [h]
                      intro e
                      injection e with e
                      have := HA.out (.cells #[.int .i64 a, .int .i64 c.1] 104)
                      have := this.2.2.lt
                      omega
                obtain ⟨r0, r1⟩ := HB4.out.1.at2
                obtain ⟨p0, p1⟩ := HB4.out.2.1.at2
                have r2 := HB4.out.1.frozen 0
                clear hown' hgrow hnil q0 q1 hat4

                have HRel : Hid (∃ (a' : Int) (n' : Nat) (acc : List Sp), Value.int .i64 ((n : Int) + 1) = .int .i64 n' ∧ PIn S C R w k bx a' s.2 n' acc v' (w4.setCell ⟨bx, 0, none⟩ (.int .i64 (max a c.2)))) := by
                  refine ⟨max a c.2, n + 1, acc ++ [(a, c.1)], by go_num, by omega, by rw [← hrun]; simp, row_other H4.out.1 _ _ HB4.out.2.2, H4.out.2.setCell (p := ⟨bx, 0, none⟩) (by simpa using hbb) _, by simpa using HB4.out.1.put 0 (.int .i64 (max a c.2)), HB4.out.2.2, hbb⟩
                go_wp2
                exact ⟨HRel.out, by simp [intOf]; omega⟩
            · by_cases h3 : s.2 ≤ c.2
              · rw [if_pos h3, if_neg h2] at hrun
                go_wp2_with fail
                go_quiet (fail)
                obtain ⟨V, hV⟩ : ∃ V, V = wr.drewN nq := ⟨_, rfl⟩
                have HbV : Hid (Below wr.heap.size wr V) := by unfold Hid; rw [hV]; exact below_drewN (Below.refl _ wr)
                rw [← hV]
                clear hV

                have v0 := (HbV.out.cell (p := ⟨g', n * 2, none⟩) hg2).trans z0
                have v1 := (HbV.out.cell (p := ⟨g', n * 2 + 1, none⟩) hg2).trans z1

                obtain ⟨q0, q1⟩ := (HW.out V HbV.out).2.2.at2
                have hbV : bx < V.heap.size := (HW.out V HbV.out).2.2.lt
                clear y0 y1

                have HC : Hid (Below wr.heap.size wr (V.alloc (.cells #[.int .i64 c.1, .int .i64 c.2] 104)) ∧ Bk (V.alloc (.cells #[.int .i64 c.1, .int .i64 c.2] 104)) V.heap.size #[.int .i64 c.1, .int .i64 c.2] 104) := ⟨HbV.out.alloc HbV.out.size _, Bk.new _ _ _⟩

                have HU : Hid (u5.ownBlock ≠ some bx) := hnb
                have HA := HW.out _ HC.out.1
                have HX : Hid ((V.alloc (.cells #[.int .i64 c.1, .int .i64 c.2] 104)).ownsRow w.heap.size 104 2 u5 acc.length (flatS acc) ∧ Below w.heap.size w (V.alloc (.cells #[.int .i64 c.1, .int .i64 c.2] 104)) ∧ Bk (V.alloc (.cells #[.int .i64 c.1, .int .i64 c.2] 104)) bx #[.int .i64 a, .int .i64 s.2] 104) := HA
                have r2 := (HW.out V HbV.out).2.2.frozen 0
                clear HA

                have HRel : Hid (∃ (k' n' : Nat) (acc : List Sp), Value.int .i64 n = .int .i64 n' ∧ Value.int .i64 ((k : Int) + 1) = .int .i64 k' ∧ POut S C R w k' n' acc u5 (V.alloc (.cells #[.int .i64 c.1, .int .i64 c.2] 104))) := by
                  refine ⟨k + 1, n, acc, rfl, by go_num, by omega, hnl, ?_, HX.out.1, HX.out.2.1⟩
                  rw [hd2, ← hrun]; simp
                go_wp2
                exact ⟨HRel.out, by simp [intOf]; omega⟩
              · rw [if_neg h3, if_neg h2] at hrun
                go_wp2_with fail
                go_quiet (fail)
                obtain ⟨V, hV⟩ : ∃ V, V = wr.drewN nq := ⟨_, rfl⟩
                have HbV : Hid (Below wr.heap.size wr V) := by unfold Hid; rw [hV]; exact below_drewN (Below.refl _ wr)
                rw [← hV]
                clear hV

                have v0 := (HbV.out.cell (p := ⟨g', n * 2, none⟩) hg2).trans z0
                have v1 := (HbV.out.cell (p := ⟨g', n * 2 + 1, none⟩) hg2).trans z1

                obtain ⟨q0, q1⟩ := (HW.out V HbV.out).2.2.at2
                have hbV : bx < V.heap.size := (HW.out V HbV.out).2.2.lt
                clear y0 y1

                have HC : Hid (Below wr.heap.size wr (V.alloc (.cells #[.int .i64 c.1, .int .i64 c.2] 104)) ∧ Bk (V.alloc (.cells #[.int .i64 c.1, .int .i64 c.2] 104)) V.heap.size #[.int .i64 c.1, .int .i64 c.2] 104) := ⟨HbV.out.alloc HbV.out.size _, Bk.new _ _ _⟩

                have HU : Hid (u5.ownBlock ≠ some bx) := hnb
                have HA := HW.out _ HC.out.1
                have HX : Hid ((V.alloc (.cells #[.int .i64 c.1, .int .i64 c.2] 104)).ownsRow w.heap.size 104 2 u5 acc.length (flatS acc) ∧ Below w.heap.size w (V.alloc (.cells #[.int .i64 c.1, .int .i64 c.2] 104)) ∧ Bk (V.alloc (.cells #[.int .i64 c.1, .int .i64 c.2] 104)) bx #[.int .i64 a, .int .i64 s.2] 104) := HA
                have r2 := (HW.out V HbV.out).2.2.frozen 0
                clear HA

                have HRel : Hid (∃ (a' : Int) (n' : Nat) (acc : List Sp), Value.int .i64 ((n : Int) + 1) = .int .i64 n' ∧ PIn S C R w k bx a' s.2 n' acc u5 ((V.setCell ⟨bx, 0, none⟩ (.int .i64 (max a c.2))).alloc (.cells #[.int .i64 c.1, .int .i64 c.2] 104))) := by
                  obtain ⟨t1, t2, t3⟩ := HW.out V HbV.out
                  have ba : ∀ W : World, Below W.heap.size W (W.alloc (.cells #[.int .i64 c.1, .int .i64 c.2] 104)) := fun W => (Below.refl _ W).alloc (Nat.le_refl _) _
                  have t5 := t2.setCell (p := ⟨bx, 0, none⟩) (by simpa using hbb) (.int .i64 (max a c.2))
                  refine ⟨max a c.2, n + 1, acc, by go_num, by omega, by rw [← hrun]; simp, row_below (row_other t1 _ _ hnb) (ba _), t5.trans ((ba _).mono t5.size), (show Bk _ bx #[.int .i64 (max a c.2), .int .i64 s.2] 104 by simpa using t3.put 0 (.int .i64 (max a c.2))).below (ba _), hnb, hbb⟩
                go_wp2
                exact ⟨HRel.out, by simp [intOf]; omega⟩
          · rw [if_neg h1] at hrun
            go_wp2_with fail
            go_quiet (fail)
            obtain ⟨V, hV⟩ : ∃ V, V = wr.drewN nq := ⟨_, rfl⟩
            have HbV : Hid (Below wr.heap.size wr V) := by unfold Hid; rw [hV]; exact below_drewN (Below.refl _ wr)
            rw [← hV]
            clear hV

            obtain ⟨q0, q1⟩ := (HW.out V HbV.out).2.2.at2
            have hbV : bx < V.heap.size := (HW.out V HbV.out).2.2.lt
            clear y0 y1

            have HA : Hid (∀ o, (V.alloc o).ownsRow w.heap.size 104 2 u5 acc.length (flatS acc) ∧ Below w.heap.size w (V.alloc o) ∧ Bk (V.alloc o) bx #[.int .i64 a, .int .i64 s.2] 104) := fun o => HW.out _ (HbV.out.alloc HbV.out.size o)

            obtain ⟨hi, hz0, hz1, hz2⟩ := HI.out
            go_wp2_with (at_builtin; refine wpList_append_own _ rfl _ _ 100 rfl w.heap.size 104 i0 (.agg #[.int .i64 0, .int .i64 0]) 2 16 Try.underlying100 hi hz0 hz1 hz2 rfl (by decide) u5 acc.length (flatS acc) rfl (HA.out _).1 _ 1 1 [.int .i64 a, .int .i64 s.2] rfl rfl (cell_two _ _ _ _) (one2 _ _) hc3.out hc4.out (HA.out _).2.1.size ?_)
            intro v' w4 hown' hgrow hnil
            clear hi hz0 hz1 hz2

            have H4 : Hid (w4.ownsRow w.heap.size 104 2 v' (acc ++ [(a, s.2)]).length (flatS (acc ++ [(a, s.2)])) ∧ Below w.heap.size w w4) := by
              refine ⟨?_, app_below (HA.out _).2.1 (HA.out _).1 (Nat.le_refl _) hgrow⟩
              rw [flatS_app, List.length_append]
              exact hown'

            have HRel : Hid (∃ (k' n' : Nat) (acc : List Sp), Value.int .i64 n = .int .i64 n' ∧ Value.int .i64 ((k : Int) + 1) = .int .i64 k' ∧ POut S C R w k' n' acc v' w4) := by
              refine ⟨k + 1, n, acc ++ [(a, s.2)], rfl, by go_num, by omega, hnl, ?_, H4.out.1, H4.out.2⟩
              rw [hd2, ← hrun]
            clear hown' hgrow hnil
            go_wp2
            exact ⟨HRel.out, by simp [intOf]; omega⟩
        · obtain rfl : n = C.length := by omega
          rw [List.drop_length, cutA] at hrun
          clear hBr hbk

          go_wp2_with fail
          go_quiet (fail)
          obtain ⟨V, hV⟩ : ∃ V, V = wr.drewN nq := ⟨_, rfl⟩
          have HbV : Hid (Below wr.heap.size wr V) := by unfold Hid; rw [hV]; exact below_drewN (Below.refl _ wr)
          rw [← hV]
          clear hV

          obtain ⟨q0, q1⟩ := (HW.out V HbV.out).2.2.at2
          have hbV : bx < V.heap.size := (HW.out V HbV.out).2.2.lt
          clear y0 y1

          have HA : Hid (∀ o, (V.alloc o).ownsRow w.heap.size 104 2 u5 acc.length (flatS acc) ∧ Below w.heap.size w (V.alloc o) ∧ Bk (V.alloc o) bx #[.int .i64 a, .int .i64 s.2] 104) := fun o => HW.out _ (HbV.out.alloc HbV.out.size o)

          obtain ⟨hi, hz0, hz1, hz2⟩ := HI.out
          go_wp2_with (at_builtin; refine wpList_append_own _ rfl _ _ 100 rfl w.heap.size 104 i0 (.agg #[.int .i64 0, .int .i64 0]) 2 16 Try.underlying100 hi hz0 hz1 hz2 rfl (by decide) u5 acc.length (flatS acc) rfl (HA.out _).1 _ 1 1 [.int .i64 a, .int .i64 s.2] rfl rfl (cell_two _ _ _ _) (one2 _ _) hc3.out hc4.out (HA.out _).2.1.size ?_)
          intro v' w4 hown' hgrow hnil
          clear hi hz0 hz1 hz2

          have H4 : Hid (w4.ownsRow w.heap.size 104 2 v' (acc ++ [(a, s.2)]).length (flatS (acc ++ [(a, s.2)])) ∧ Below w.heap.size w w4) := by
            refine ⟨?_, app_below (HA.out _).2.1 (HA.out _).1 (Nat.le_refl _) hgrow⟩
            rw [flatS_app, List.length_append]
            exact hown'

          have HRel : Hid (∃ (k' n' : Nat) (acc : List Sp), Value.int .i64 C.length = .int .i64 n' ∧ Value.int .i64 ((k : Int) + 1) = .int .i64 k' ∧ POut S C R w k' n' acc v' w4) := by
            refine ⟨k + 1, C.length, acc ++ [(a, s.2)], rfl, by go_num, by omega, hnl, ?_, H4.out.1, H4.out.2⟩
            rw [List.drop_length, ← hrun]
          clear hown' hgrow hnil
          go_wp2
          exact ⟨HRel.out, by simp [intOf]; omega⟩
    · obtain rfl : k = S.length := by omega
      rw [List.drop_length, piecesF, List.append_nil] at hrun
      subst hrun
      obtain ⟨oa2, cap2, rfl, hcap2, hsp⟩ := spl_own hown
      have HS : Hid (SpL wr (.slice oa2 acc.length acc.length) acc) := hsp
      clear hsp
      have HB : Hid (Below w.heap.size w wr) := hBr
      clear hown hBr
      go_wp2
      try rw [Exit.noGoto_ret]
      go_ret
      exact ⟨_, rfl, HS.out, HB.out⟩

end Go.Proofs.Ytbghjmkgicdnoaa
