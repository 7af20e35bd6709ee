/-
  The document's grid: cells, widths, heights.
-/
import Derived.Test.YthnhcphkpffkfaaGreatYD
namespace Go.Proofs.YthnhcphkpffkfaaGreat
open Go.RowKit
attribute [local go_sem] ite_maxK ite_minK

/-- Two values that lie in other blocks. -/
def Apt (u v : Value) : Prop := ∀ g, u.ownBlock = some g → v.ownBlock ≠ some g
theorem Apt.ne {u v : Value} (h : Apt u v) : v.ownBlock = none ∨ v.ownBlock ≠ u.ownBlock := by
  cases e : v.ownBlock with
  | none => exact .inl rfl
  | some g => exact .inr fun c => h g c.symm e
theorem Apt.turn {u v : Value} (h : Apt u v) : Apt v u := fun g hv hu => h g hu hv
/-- One of two grows: they stay apart. -/
theorem Apt.grow {u v : Value} {lo H g n cap : Nat} {W : World} {e : TypeId} {size m : Nat} {xs : List Value} (h : Apt u v) (hv : W.ownsRow lo e size v m xs) (hH : W.heap.size ≤ H) (hl : u.ownBlock = some g ∨ g = H) : Apt (.slice (some ⟨g, 0, none⟩) n cap) v := by
  intro q hq hvq
  have e1 : q = g := by
    have : (Value.slice (some ⟨g, 0, none⟩) n cap).ownBlock = some g := rfl
    rw [this] at hq
    injection hq with hq
    exact hq.symm
  subst e1
  rcases hl with hl | hl
  · exact h q hl hvq
  · have := (row_lt hv q hvq).2
    omega
def wdL (C : List Cl) : List Int := C.map fun c => (c.k : Int)
theorem wdL_app (C D : List Cl) : wdL (C ++ D) = wdL C ++ wdL D := by simp [wdL]
theorem wdL_len (C : List Cl) : (wdL C).length = C.length := by simp [wdL]

set_option maxRecDepth 10000 in
set_option maxHeartbeats 4000000 in
theorem rcells_any (l : List Int) (col : Int) (v : Value) (w : World) (hv : IS w v l) (hn : l.length ≤ 1024) (hcol : 0 ≤ col ∧ col ≤ 64) :
    Calls Tryz.prog 39 #[v, .int .i64 col] w fun e w' => ∃ u q, e = .returned (.tuple #[u, q]) ∧ Hid (OwK 25 2 fP w.heap.size w' u (cel (clN col) l) ∧ OwI w.heap.size w' q (wdL (cel (clN col) l)) ∧ Below w.heap.size w w') := by
  obtain ⟨oa, cap, rfl, hc, hgg⟩ := hv
  have HG : Hid (0 < l.length → ∃ g o, oa = some ⟨g, o, none⟩ ∧ g < w.heap.size ∧ ∀ i (h : i < l.length), w.cell? ⟨g, o + i, none⟩ = some (.int .i64 l[i])) := hgg
  obtain ⟨i0, hi, hz0, hz1, hz2⟩ := info_parts info_int
  have HI : Hid (Tryz.prog.info? 3 = some i0 ∧ i0.zero = some (.int .i64 0) ∧ i0.size = 1 ∧ i0.bytes = 8) := ⟨hi, hz0, hz1, hz2⟩
  obtain ⟨j0, ki, kz0, kz1, kz2⟩ := info_parts info_point
  have HJ : Hid (Tryz.prog.info? 25 = some j0 ∧ j0.zero = some (.agg #[.int .i64 0, .int .i64 0]) ∧ j0.size = 2 ∧ j0.bytes = 16) := ⟨ki, kz0, kz1, kz2⟩
  clear hgg hi hz0 hz1 hz2 ki kz0 kz1 kz2
  have HN0 : Hid (((clN col : Nat) : Int) = max col 1 ∧ 0 < clN col) := ⟨clN_int col, clN_pos col⟩
  generalize clN col = n at *
  go_enter Tryz.func39, Tryz.ntmps39
  go_wp2_with fail
  go_loopw [7, 8, 9, 10, 11] (fun u q sx sy i wr => ∃ (k x y : Nat), k ≤ l.length ∧ i = .int .i64 k ∧ sx = .int .i64 x ∧ sy = .int .i64 y ∧ Hid (x = celX n 0 0 (l.take k) ∧ y = celY n 0 0 (l.take k) ∧ y ≤ k ∧ OwK 25 2 fP w.heap.size wr u (cel n (l.take k)) ∧ OwI w.heap.size wr q (wdL (cel n (l.take k))) ∧ Apt u q ∧ Below w.heap.size w wr)) (fun _ _ _ _ i _ => l.length - (intOf i).toNat)
  case atStart => exact ⟨0, 0, 0, Nat.zero_le _, rfl, rfl, rfl, rfl, rfl, Nat.le_refl _, OwK.nil _ _ _ _ _, OwI.nil _ _, (fun g h => by cases h), Below.refl _ _⟩
  case round =>
    obtain ⟨k, x, y, hk, rfl, rfl, rfl, HK⟩ := hrel
    by_cases hlt : k < l.length
    · have ik : (k : Int) < l.length := by omega
      obtain ⟨g, o, rfl, hgl, hat⟩ := HG.out (by omega)
      have x0 := (HK.out.2.2.2.2.2.2.cell (p := ⟨g, o + k, none⟩) hgl).trans (hat k hlt)
      have HN := cel_take (n := n) l hlt
      have HX : Hid (celX n 0 0 (l.take (k + 1)) = (nxC n x y l[k]).x + (nxC n x y l[k]).k ∧ celY n 0 0 (l.take (k + 1)) = (nxC n x y l[k]).y) := by
        unfold Hid
        rw [List.take_succ_eq_append_getElem hlt, celX_snoc, celY_snoc, ← HK.out.1, ← HK.out.2.1]
        exact ⟨rfl, rfl⟩
      have HN' : Hid (cel n (l.take (k + 1)) = cel n (l.take k) ++ [nxC n x y l[k]]) := by unfold Hid; rw [HN, ← HK.out.1, ← HK.out.2.1]
      have hxb : x ≤ n := by rw [HK.out.1]; exact celX_le HN0.out.2 _ _ _ (Nat.zero_le _)
      have hyb := HK.out.2.2.1
      have Hcl : Hid ((cel n (l.take k)).length = k) := by unfold Hid; rw [cel_len, List.length_take]; omega
      have H1 : Hid (wr.ownsRow w.heap.size 25 2 u7 k (flatK fP (cel n (l.take k)))) := by have h := HK.out.2.2.2.1; unfold OwK at h; rwa [Hcl.out] at h
      have H2 : Hid (wr.ownsRow w.heap.size 3 1 u8 k (flatI (wdL (cel n (l.take k)))) ∧ Apt u7 u8 ∧ Below w.heap.size w wr) := ⟨by have h := HK.out.2.2.2.2.1; unfold OwI at h; rwa [wdL_len, Hcl.out] at h, HK.out.2.2.2.2.2.1, HK.out.2.2.2.2.2.2⟩
      have HA : Hid (∀ o, (wr.alloc o).ownsRow w.heap.size 25 2 u7 k (flatK fP (cel n (l.take k))) ∧ w.heap.size ≤ (wr.alloc o).heap.size) := fun o => ⟨row_below H1.out ((Below.refl _ _).alloc (Nat.le_refl _) _), by have := H2.out.2.2.size; simp; omega⟩
      have hc3 : Hid (k + 1 ≤ maxLen) := by unfold Hid maxLen; omega
      have hc4 : Hid ((k + 1) * 16 ≤ 140737488355328) := by unfold Hid; omega
      have hc5 : Hid ((k + 1) * 8 ≤ 140737488355328) := by unfold Hid; omega
      obtain ⟨hi, hz0, hz1, hz2⟩ := HI.out
      obtain ⟨ki, kz0, kz1, kz2⟩ := HJ.out
      have hN := HN0.out.1
      have HWD : Hid (((wdN n l[k] : Nat) : Int) = min (max l[k] 1) (max col 1)) := by unfold Hid wdN; rw [← HN0.out.1]; omega
      clear HK hat HN H1
      generalize l[k] = s at *
      generalize hC : cel n (l.take k) = C at *
      have hK0 : 0 ≤ min (max s 1) (max col 1) ∧ min (max s 1) (max col 1) ≤ 64 := by omega
      have hw1 : IntKind.i64.wrap ((x : Int) + min (max s 1) (max col 1)) = (x : Int) + min (max s 1) (max col 1) := by rw [IntKind.wrap_i64]; omega
      by_cases hr : max col 1 < (x : Int) + min (max s 1) (max col 1)
      · have hnx : Hid (nxC n x y s = ⟨0, y + 1, wdN n s⟩) := by
          have := HWD.out
          unfold Hid nxC
          rw [if_pos (by omega)]
        rw [hnx.out] at HX HN'
        clear hnx
        have hwy : IntKind.i64.wrap ((y : Int) + 1) = (y : Int) + 1 := by rw [IntKind.wrap_i64]; omega
        go_wp2_with (at_builtin; refine wpList_append_lies _ rfl _ _ 44 rfl w.heap.size 25 j0 (.agg #[.int .i64 0, .int .i64 0]) 2 16 Tryz.underlying44 ki kz0 kz1 kz2 rfl (by decide) u7 k (flatK fP C) rfl (HA.out _).1 _ 1 1 [.int .i64 0, .int .i64 ((y : Int) + 1)] rfl rfl (cell_two _ _ _ _ _ rfl) (one2 _ _) (by decide) hc3.out hc4.out (HA.out _).2 _ rfl ?_)
        intro g4 cap4 w4 hown' hgrow hlies hg4
        have H4 : Hid (OwK 25 2 fP w.heap.size w4 (.slice (some ⟨g4, 0, none⟩) (k + 1) cap4) (cel n (l.take (k + 1))) ∧ w4.ownsRow w.heap.size 3 1 u8 k (flatI (wdL C)) ∧ Apt (.slice (some ⟨g4, 0, none⟩) (k + 1) cap4) u8 ∧ Below w.heap.size w w4) := by
          obtain ⟨a1, a2, a3⟩ := H2.out
          have b1 : Below wr.heap.size wr (wr.alloc (.cells #[.int .i64 0, .int .i64 ((y : Int) + 1)] 25)) := (Below.refl _ _).alloc (Nat.le_refl _) _
          have a1' := row_below a1 b1
          refine ⟨?_, World.ownsRow.kept a1' hgrow a2.ne, Apt.grow a2 a1' (by simp) hlies, app_below (a3.trans (b1.mono a3.size)) (HA.out _).1 (Nat.le_refl _) hgrow⟩
          rw [HN'.out]
          exact OwK.snoc (by rw [Hcl.out]) hown'
        clear hown' hgrow hlies HA H2
        have HA2 : Hid (∀ o, (w4.alloc o).ownsRow w.heap.size 3 1 u8 k (flatI (wdL C)) ∧ w.heap.size ≤ (w4.alloc o).heap.size) := fun o => ⟨row_below H4.out.2.1 ((Below.refl _ _).alloc (Nat.le_refl _) _), by have := H4.out.2.2.2.size; simp; omega⟩
        go_wp2_with (at_builtin; refine wpList_append_lies _ rfl _ _ 22 rfl w.heap.size 3 i0 (.int .i64 0) 1 8 Tryz.underlying22 hi hz0 hz1 hz2 rfl (by decide) u8 k (flatI (wdL C)) rfl (HA2.out _).1 _ 1 1 [.int .i64 (min (max s 1) (max col 1))] rfl rfl (cell_oneB _ _ _ _ rfl) (one1 _) (by decide) hc3.out hc5.out (HA2.out _).2 _ rfl ?_)
        intro g6 cap6 w6 hown' hgrow hlies hg6
        have H6 : Hid (OwK 25 2 fP w.heap.size w6 (.slice (some ⟨g4, 0, none⟩) (k + 1) cap4) (cel n (l.take (k + 1))) ∧ OwI w.heap.size w6 (.slice (some ⟨g6, 0, none⟩) (k + 1) cap6) (wdL (cel n (l.take (k + 1)))) ∧ Apt (.slice (some ⟨g4, 0, none⟩) (k + 1) cap4) (.slice (some ⟨g6, 0, none⟩) (k + 1) cap6) ∧ Below w.heap.size w w6) := by
          obtain ⟨a1, a2, a3, a4⟩ := H4.out
          have b1 : Below w4.heap.size w4 (w4.alloc (.cells #[.int .i64 (min (max s 1) (max col 1))] 3)) := (Below.refl _ _).alloc (Nat.le_refl _) _
          have a1' := row_below a1 b1
          refine ⟨World.ownsRow.kept a1' hgrow a3.turn.ne, ?_, (Apt.grow a3.turn a1' (by simp) hlies).turn, app_below (a4.trans (b1.mono a4.size)) (HA2.out _).1 (Nat.le_refl _) hgrow⟩
          rw [HN'.out, wdL_app]
          unfold OwI
          rw [List.length_append, wdL_len, wdL_len, Hcl.out, flatI_app]
          have e1 : flatI (wdL [(⟨0, y + 1, wdN n s⟩ : Cl)]) = [.int .i64 (min (max s 1) (max col 1))] := by rw [← HWD.out]; rfl
          rw [e1]
          exact hown'
        clear hown' hgrow hlies HA2 H4 hi hz0 hz1 hz2 ki kz0 kz1 kz2
        have HE : Hid (min (max s 1) (max col 1) = ((celX n 0 0 (l.take (k + 1)) : Nat) : Int) ∧ ((y : Int) + 1) = ((celY n 0 0 (l.take (k + 1)) : Nat) : Int) ∧ celY n 0 0 (l.take (k + 1)) ≤ k + 1) := by
          unfold Hid
          rw [HX.out.1, HX.out.2]
          refine ⟨?_, ?_, ?_⟩
          · show min (max s 1) (max col 1) = ((0 + wdN n s : Nat) : Int)
            (rw [Int.natCast_add, HWD.out]) <;> simp
          · show ((y : Int) + 1) = ((y + 1 : Nat) : Int)
            simp
          · show y + 1 ≤ k + 1
            omega
        have hw2 : IntKind.i64.wrap (min (max s 1) (max col 1)) = min (max s 1) (max col 1) := by rw [IntKind.wrap_i64]; omega
        go_wp2
        exact ⟨⟨k + 1, celX n 0 0 (l.take (k + 1)), celY n 0 0 (l.take (k + 1)), by omega, by go_num, by rw [← HE.out.1], by rw [← HE.out.2.1], rfl, rfl, HE.out.2.2, H6.out⟩, by simp [intOf]; omega⟩
      · have hnx : Hid (nxC n x y s = ⟨x, y, wdN n s⟩) := by
          have := HWD.out
          unfold Hid nxC
          rw [if_neg (by omega)]
        rw [hnx.out] at HX HN'
        clear hnx
        go_wp2_with (at_builtin; refine wpList_append_lies _ rfl _ _ 44 rfl w.heap.size 25 j0 (.agg #[.int .i64 0, .int .i64 0]) 2 16 Tryz.underlying44 ki kz0 kz1 kz2 rfl (by decide) u7 k (flatK fP C) rfl (HA.out _).1 _ 1 1 [.int .i64 (x : Int), .int .i64 (y : Int)] rfl rfl (cell_two _ _ _ _ _ rfl) (one2 _ _) (by decide) hc3.out hc4.out (HA.out _).2 _ rfl ?_)
        intro g4 cap4 w4 hown' hgrow hlies hg4
        have H4 : Hid (OwK 25 2 fP w.heap.size w4 (.slice (some ⟨g4, 0, none⟩) (k + 1) cap4) (cel n (l.take (k + 1))) ∧ w4.ownsRow w.heap.size 3 1 u8 k (flatI (wdL C)) ∧ Apt (.slice (some ⟨g4, 0, none⟩) (k + 1) cap4) u8 ∧ Below w.heap.size w w4) := by
          obtain ⟨a1, a2, a3⟩ := H2.out
          have b1 : Below wr.heap.size wr (wr.alloc (.cells #[.int .i64 (x : Int), .int .i64 (y : Int)] 25)) := (Below.refl _ _).alloc (Nat.le_refl _) _
          have a1' := row_below a1 b1
          refine ⟨?_, World.ownsRow.kept a1' hgrow a2.ne, Apt.grow a2 a1' (by simp) hlies, app_below (a3.trans (b1.mono a3.size)) (HA.out _).1 (Nat.le_refl _) hgrow⟩
          rw [HN'.out]
          exact OwK.snoc (by rw [Hcl.out]) hown'
        clear hown' hgrow hlies HA H2
        have HA2 : Hid (∀ o, (w4.alloc o).ownsRow w.heap.size 3 1 u8 k (flatI (wdL C)) ∧ w.heap.size ≤ (w4.alloc o).heap.size) := fun o => ⟨row_below H4.out.2.1 ((Below.refl _ _).alloc (Nat.le_refl _) _), by have := H4.out.2.2.2.size; simp; omega⟩
        go_wp2_with (at_builtin; refine wpList_append_lies _ rfl _ _ 22 rfl w.heap.size 3 i0 (.int .i64 0) 1 8 Tryz.underlying22 hi hz0 hz1 hz2 rfl (by decide) u8 k (flatI (wdL C)) rfl (HA2.out _).1 _ 1 1 [.int .i64 (min (max s 1) (max col 1))] rfl rfl (cell_oneB _ _ _ _ rfl) (one1 _) (by decide) hc3.out hc5.out (HA2.out _).2 _ rfl ?_)
        intro g6 cap6 w6 hown' hgrow hlies hg6
        have H6 : Hid (OwK 25 2 fP w.heap.size w6 (.slice (some ⟨g4, 0, none⟩) (k + 1) cap4) (cel n (l.take (k + 1))) ∧ OwI w.heap.size w6 (.slice (some ⟨g6, 0, none⟩) (k + 1) cap6) (wdL (cel n (l.take (k + 1)))) ∧ Apt (.slice (some ⟨g4, 0, none⟩) (k + 1) cap4) (.slice (some ⟨g6, 0, none⟩) (k + 1) cap6) ∧ Below w.heap.size w w6) := by
          obtain ⟨a1, a2, a3, a4⟩ := H4.out
          have b1 : Below w4.heap.size w4 (w4.alloc (.cells #[.int .i64 (min (max s 1) (max col 1))] 3)) := (Below.refl _ _).alloc (Nat.le_refl _) _
          have a1' := row_below a1 b1
          refine ⟨World.ownsRow.kept a1' hgrow a3.turn.ne, ?_, (Apt.grow a3.turn a1' (by simp) hlies).turn, app_below (a4.trans (b1.mono a4.size)) (HA2.out _).1 (Nat.le_refl _) hgrow⟩
          rw [HN'.out, wdL_app]
          unfold OwI
          rw [List.length_append, wdL_len, wdL_len, Hcl.out, flatI_app]
          have e1 : flatI (wdL [(⟨x, y, wdN n s⟩ : Cl)]) = [.int .i64 (min (max s 1) (max col 1))] := by rw [← HWD.out]; rfl
          rw [e1]
          exact hown'
        clear hown' hgrow hlies HA2 H4 hi hz0 hz1 hz2 ki kz0 kz1 kz2
        have HE : Hid ((x : Int) + min (max s 1) (max col 1) = ((celX n 0 0 (l.take (k + 1)) : Nat) : Int) ∧ (y : Int) = ((celY n 0 0 (l.take (k + 1)) : Nat) : Int) ∧ celY n 0 0 (l.take (k + 1)) ≤ k + 1) := by
          unfold Hid
          rw [HX.out.1, HX.out.2]
          refine ⟨?_, ?_, ?_⟩
          · show (x : Int) + min (max s 1) (max col 1) = ((x + wdN n s : Nat) : Int)
            (rw [Int.natCast_add, HWD.out]) <;> simp
          · show (y : Int) = ((y : Nat) : Int)
            simp
          · show y ≤ k + 1
            omega
        go_wp2
        exact ⟨⟨k + 1, celX n 0 0 (l.take (k + 1)), celY n 0 0 (l.take (k + 1)), by omega, by go_num, by rw [← HE.out.1], by rw [← HE.out.2.1], rfl, rfl, HE.out.2.2, H6.out⟩, by simp [intOf]; omega⟩
    · obtain rfl : k = l.length := by omega
      have HF : Hid (OwK 25 2 fP w.heap.size wr u7 (cel n l) ∧ OwI w.heap.size wr u8 (wdL (cel n l)) ∧ Below w.heap.size w wr) := by have := HK.out.2.2.2; rw [List.take_length] at this; exact ⟨this.1, this.2.1, this.2.2.2⟩
      clear HK
      obtain ⟨o1, c1, e1, _, _⟩ := row_val HF.out.1
      obtain ⟨o2, c2, e2, _, _⟩ := row_val HF.out.2.1
      subst e1
      subst e2
      go_wp2
      go_ret2
      exact ⟨_, _, rfl, HF⟩

end Go.Proofs.YthnhcphkpffkfaaGreat

namespace Go.Proofs.YthnhcphkpffkfaaGreat
open Go.RowKit
attribute [local go_sem] ite_maxK ite_minK

theorem rowN_snoc {α : Type} (n : Nat) (g : Nat → α) : rowN (n + 1) g = rowN n g ++ [g n] := by unfold rowN; rw [List.range_succ, List.map_append]; rfl
theorem cell_bk3Y {w : World} {b : Nat} {x y z : Value} {t : TypeId} (h : w.heap[b]? = some (.cells #[x, y, z] t)) : ∀ (j : Nat) (u : Value), [x, y, z][j]? = some u → w.cell? ((⟨b, 0, none⟩ : Addr).add j) = some u := by
  intro j u hj
  rw [addr_plus, Nat.zero_add, Bk.cell h]
  simpa using hj
theorem cell_bk1Y {w : World} {b : Nat} {x : Value} {t : TypeId} (h : w.heap[b]? = some (.cells #[x] t)) : ∀ (j : Nat) (u : Value), [x][j]? = some u → w.cell? ((⟨b, 0, none⟩ : Addr).add j) = some u := by
  intro j u hj
  rw [addr_plus, Nat.zero_add, Bk.cell h]
  simpa using hj
theorem one3Y (a b c : Int) : ∀ u ∈ [Value.int .i64 a, .int .i64 b, .int .i64 c], u.oneCell' = true := by
  intro u hu
  simp at hu
  rcases hu with rfl | rfl | rfl <;> rfl
theorem zipG_take {gap : Int} {C : List Cl} {m : List Int} {k : Nat} (h1 : k < C.length) (h2 : k < m.length) : (List.zipWith (bqC gap) C m).take (k + 1) = (List.zipWith (bqC gap) C m).take k ++ [bqC gap C[k] m[k]] := by
  rw [List.take_succ_eq_append_getElem (by rw [List.length_zipWith]; omega), List.getElem_zipWith]

set_option maxRecDepth 10000 in
set_option maxHeartbeats 8000000 in
theorem rwidths_any (s m : List Int) (col gap : Int) (sv mv : Value) (w : World) (hs : IS w sv s) (hm : IS w mv m) (hE : wiE s m col gap = 0) :
    Calls Tryz.prog 42 #[sv, mv, .int .i64 col, .int .i64 gap] w fun e w' => ∃ u, e = .returned u ∧ Hid (OwI w.heap.size w' u (wsG (clN col) gap (cel (clN col) s) m) ∧ Below w.heap.size w w') := by
  obtain ⟨hl, _, _, hcol, hgap, hml, _⟩ := wiE_zero hE
  have hGri := gri_of hE
  have HC : Hid (Calls Tryz.prog 39 #[sv, .int .i64 col] w fun e w' => ∃ u q, e = .returned (.tuple #[u, q]) ∧ Hid (OwK 25 2 fP w.heap.size w' u (cel (clN col) s) ∧ OwI w.heap.size w' q (wdL (cel (clN col) s)) ∧ Below w.heap.size w w')) := rcells_any s col sv w hs hl hcol
  have HM : Hid (IS w mv m) := hm
  have hn64 := (clN_bd hcol).2
  have HN0 : Hid (max col 1 = ((clN col : Nat) : Int) ∧ 0 < clN col) := ⟨(clN_int col).symm, clN_pos col⟩
  have HCl : Hid ((cel (clN col) s).length = m.length) := by unfold Hid; rw [cel_len, hml]
  have hml' : m.length ≤ 1024 := by omega
  obtain ⟨hSL, hSE⟩ := sol_grid hGri hn64 hgap.2 hml'
  generalize clN col = n at *
  generalize cel n s = C at *
  have HS : Hid (∀ v W, BS W v (bqG n gap C m) → Calls Tryz.prog 67 #[.int .i64 ((n : Int) + 1), v] W fun e w' => AnsB W (rowN (n + 1) (edG n gap C m)) 0 e w') := fun v W h => by
    have := rSolve_any ((n : Int) + 1) (bqG n gap C m) v W h
    rwa [hSL, hSE] at this
  have HGr : Hid (Gri n gap C m) := hGri
  clear hs hm hE hGri hSL hSE hml
  obtain ⟨i0, hi, hz0, hz1, hz2⟩ := info_parts info_int
  have HI : Hid (Tryz.prog.info? 3 = some i0 ∧ i0.zero = some (.int .i64 0) ∧ i0.size = 1 ∧ i0.bytes = 8) := ⟨hi, hz0, hz1, hz2⟩
  obtain ⟨j0, ki, kz0, kz1, kz2⟩ := info_parts info_boundY
  have HJ : Hid (Tryz.prog.info? 100 = some j0 ∧ j0.zero = some (.agg #[.int .i64 0, .int .i64 0, .int .i64 0]) ∧ j0.size = 3 ∧ j0.bytes = 24) := ⟨ki, kz0, kz1, kz2⟩
  clear hi hz0 hz1 hz2 ki kz0 kz1 kz2
  obtain ⟨so, scap, rfl, _, _⟩ := id HM.out
  go_enter Tryz.func42, Tryz.ntmps42
  go_wp2_with fail
  refine HC.out.mono ?_
  rintro e w1 ⟨pu, pq, rfl, H1⟩
  clear HC
  obtain ⟨po, pc, e1, _, pg⟩ := H1.out.1.ks encP
  obtain ⟨qo, qc, e2, _, qg⟩ := H1.out.2.1.is
  subst e1
  subst e2
  simp only [wdL_len, HCl.out]
  have HP : Hid (0 < C.length → ∃ g o, po = some ⟨g, o, none⟩ ∧ g < w1.heap.size ∧ ∀ i (h : i < C.length) j, j < 2 → w1.cell? ⟨g, o + i * 2 + j, none⟩ = some (.int .i64 ((fP C[i]).getD j 0))) := pg
  have HQ : Hid (0 < (wdL C).length → ∃ g o, qo = some ⟨g, o, none⟩ ∧ g < w1.heap.size ∧ ∀ i (h : i < (wdL C).length), w1.cell? ⟨g, o + i, none⟩ = some (.int .i64 (wdL C)[i])) := qg
  have H1b : Hid (Below w.heap.size w w1) := H1.out.2.2
  have HM1 : Hid (IS w1 (.slice so m.length scap) m) := HM.out.below H1b.out
  clear H1 pg qg HM
  rw [HN0.out.1]
  go_wp2_with fail
  go_loopw [12, 13] (fun u i wr => ∃ k : Nat, k ≤ n ∧ i = .int .i64 k ∧ Hid (OwK 100 3 fQ w1.heap.size wr u (bqE k) ∧ Below w1.heap.size w1 wr)) (fun _ i _ => n - (intOf i).toNat)
  case atStart => exact ⟨0, Nat.zero_le _, rfl, OwK.nil _ _ _ _ _, Below.refl _ _⟩
  case round =>
    obtain ⟨k, hk, rfl, HK⟩ := hrel
    by_cases hlt : k < n
    · have ik : (k : Int) < n := by omega
      have ho : wr.ownsRow w1.heap.size 100 3 u12 k (flatK fQ (bqE k)) := by have h := HK.out.1; unfold OwK at h; rwa [bqE_len] at h
      have HA : Hid (∀ o, (wr.alloc o).ownsRow w1.heap.size 100 3 u12 k (flatK fQ (bqE k)) ∧ w1.heap.size ≤ (wr.alloc o).heap.size) := fun o => ⟨row_below ho ((Below.refl _ _).alloc (Nat.le_refl _) _), by have := HK.out.2.size; simp; omega⟩
      have HB : Hid (Below w1.heap.size w1 wr) := HK.out.2
      have hc3 : Hid (k + 1 ≤ maxLen) := by unfold Hid maxLen; omega
      have hc4 : Hid ((k + 1) * 24 ≤ 140737488355328) := by unfold Hid; omega
      obtain ⟨ki, kz0, kz1, kz2⟩ := HJ.out
      have hw1 : IntKind.i64.wrap ((k : Int) + 1) = (k : Int) + 1 := by rw [IntKind.wrap_i64]; omega
      clear HK ho
      go_wp2_with (at_builtin; refine wpList_append_lies _ rfl _ _ 98 rfl w1.heap.size 100 j0 (.agg #[.int .i64 0, .int .i64 0, .int .i64 0]) 3 24 Tryz.underlying98 ki kz0 kz1 kz2 rfl (by decide) u12 k (flatK fQ (bqE k)) rfl (HA.out _).1 _ 1 1 [.int .i64 (k : Int), .int .i64 ((k : Int) + 1), .int .i64 0] rfl rfl (cell_bk3Y (Bk.new _ _ _)) (one3Y _ _ _) (by decide) hc3.out hc4.out (HA.out _).2 _ rfl ?_)
      intro g4 cap4 w4 hown' hgrow _ _
      have H4 : Hid (OwK 100 3 fQ w1.heap.size w4 (.slice (some ⟨g4, 0, none⟩) (k + 1) cap4) (bqE (k + 1)) ∧ Below w1.heap.size w1 w4) := by
        have b1 : Below wr.heap.size wr (wr.alloc (.cells #[.int .i64 (k : Int), .int .i64 ((k : Int) + 1), .int .i64 0] 100)) := (Below.refl _ _).alloc (Nat.le_refl _) _
        refine ⟨?_, app_below (HB.out.trans (b1.mono HB.out.size)) (HA.out _).1 (Nat.le_refl _) hgrow⟩
        rw [bqE_snoc]
        exact OwK.snoc (by rw [bqE_len]) hown'
      clear hown' hgrow HA HB ki kz0 kz1 kz2
      go_wp2
      exact ⟨⟨k + 1, by omega, by go_num, H4⟩, by simp [intOf]; omega⟩
    · obtain rfl : k = n := by omega
      have HK0 : Hid (OwK 100 3 fQ w1.heap.size wr u12 (bqE k ++ (List.zipWith (bqC gap) C m).take 0) ∧ Below w1.heap.size w1 wr) := by rw [List.take_zero, List.append_nil]; exact HK
      clear HK
      go_wp2_with fail
      go_loopw [12, 14] (fun u i wr => ∃ j : Nat, j ≤ m.length ∧ i = .int .i64 j ∧ Hid (OwK 100 3 fQ w1.heap.size wr u (bqE k ++ (List.zipWith (bqC gap) C m).take j) ∧ Below w1.heap.size w1 wr)) (fun _ i _ => m.length - (intOf i).toNat)
      case atStart => exact ⟨0, Nat.zero_le _, rfl, HK0⟩
      case round =>
        clear HK0
        obtain ⟨j, hj, rfl, HL⟩ := hrel
        have hCl := HCl.out
        by_cases hjt : j < m.length
        · have ij : (j : Int) < m.length := by omega
          obtain ⟨pgb, pof, rfl, pgl, pat⟩ := HP.out (by omega)
          obtain ⟨qgb, qof, rfl, qgl, qat⟩ := HQ.out (by rw [wdL_len]; omega)
          obtain ⟨oa', cap', e', _, mg⟩ := HM1.out
          injection e' with e1 _ e3
          subst e1 e3
          obtain ⟨mgb, mof, rfl, mgl, mat⟩ := mg (by omega)
          have hb := HL.out.2
          have x0 : wr.cell? ⟨pgb, pof + j * 2, none⟩ = some (.int .i64 (C[j]'(by omega)).x) := (hb.cell (p := ⟨pgb, pof + j * 2, none⟩) pgl).trans (pat j (by omega) 0 (by omega))
          have x1 : wr.cell? ⟨qgb, qof + j, none⟩ = some (.int .i64 (C[j]'(by omega)).k) := (hb.cell (p := ⟨qgb, qof + j, none⟩) qgl).trans ((qat j (by rw [wdL_len]; omega)).trans (by simp [wdL]))
          have x2 : wr.cell? ⟨mgb, mof + j, none⟩ = some (.int .i64 m[j]) := (hb.cell (p := ⟨mgb, mof + j, none⟩) mgl).trans (mat j hjt)
          have l0 : pgb < wr.heap.size := Nat.lt_of_lt_of_le pgl hb.size
          have l1 : qgb < wr.heap.size := Nat.lt_of_lt_of_le qgl hb.size
          have l2 : mgb < wr.heap.size := Nat.lt_of_lt_of_le mgl hb.size
          have hcb := HGr.out.cel (C[j]'(by omega)) (List.getElem_mem _)
          have hmb := HGr.out.ms m[j] (List.getElem_mem _)
          have HZ : Hid ((List.zipWith (bqC gap) C m).take (j + 1) = (List.zipWith (bqC gap) C m).take j ++ [bqC gap (C[j]'(by omega)) m[j]]) := zipG_take (by omega) hjt
          have Hlen : Hid ((bqE k ++ (List.zipWith (bqC gap) C m).take j).length = k + j) := by unfold Hid; rw [List.length_append, bqE_len, List.length_take, List.length_zipWith]; omega
          have hown : wr.ownsRow w1.heap.size 100 3 u12 (k + j) (flatK fQ (bqE k ++ (List.zipWith (bqC gap) C m).take j)) := by have h := HL.out.1; unfold OwK at h; rwa [Hlen.out] at h
          obtain ⟨ot, ct, rfl, _, _⟩ := row_val hown
          have HO : Hid (wr.ownsRow w1.heap.size 100 3 (.slice ot (k + j) ct) (k + j) (flatK fQ (bqE k ++ (List.zipWith (bqC gap) C m).take j)) ∧ Below w1.heap.size w1 wr) := ⟨hown, hb⟩
          clear HL hown hb pat qat mat mg
          generalize C[j]'(by omega) = c at *
          generalize m[j] = mm at *
          clear hCl
          have h63 : ((c.k : Int) - 1) * gap ≤ 63 * 16384 := Int.mul_le_mul (by omega) hgap.2 hgap.1 (by omega)
          have h64 : 0 ≤ ((c.k : Int) - 1) * gap := Int.mul_nonneg (by omega) hgap.1
          have hw1 : IntKind.i64.wrap ((c.x : Int) + c.k) = (c.x : Int) + c.k := by rw [IntKind.wrap_i64]; omega
          have hw2 : IntKind.i64.wrap ((c.k : Int) - 1) = (c.k : Int) - 1 := by rw [IntKind.wrap_i64]; omega
          have hw3 : IntKind.i64.wrap (((c.k : Int) - 1) * gap) = ((c.k : Int) - 1) * gap := by rw [IntKind.wrap_i64]; omega
          have hw4 : IntKind.i64.wrap (mm - ((c.k : Int) - 1) * gap) = mm - ((c.k : Int) - 1) * gap := by rw [IntKind.wrap_i64]; omega
          go_wp2_with fail
          refine R4.wp_region_lit 29 1 2 (fun _ b => .slice (some ⟨b, 0, none⟩) 1 1) (fun _ => .cells #[.int .i64 (c.x : Int), .int .i64 ((c.x : Int) + c.k), .int .i64 (mm - ((c.k : Int) - 1) * gap)] 100) [74] (by kernel_rfl) (by kernel_rfl) rfl ?_ rfl ?_
          · intro k hk
            have hc : k = 0 := by omega
            subst hc; rfl
          apply Exists.intro
          refine ⟨fun bs ne => ?_, ?_, ?_⟩
          · have d0 := fun t : Gb wr bs => (t.below.cell (p := ⟨pgb, pof + j * 2, none⟩) l0).trans x0
            have d1 := fun t : Gb wr bs => (t.below.cell (p := ⟨qgb, qof + j, none⟩) l1).trans x1
            have d2 := fun t : Gb wr bs => (t.below.cell (p := ⟨mgb, mof + j, none⟩) l2).trans x2
            simp only [List.take_succ_cons, List.take_zero]
            repeat (go_big_quiet_step (fail))
            exact wpQuiet_nil rfl
          · intro i h1 h2
            have hc : i = 29 := by omega
            subst hc
            exact ⟨_, rfl, rfl, fun _ => by kernel_rfl⟩
          intro bl wx hbl hlo _
          obtain ⟨q1, q2⟩ := hlo 29 (by omega) (by omega)
          simp only [R4.layL]
          generalize bl 29 = g0 at *
          clear hlo x0 x1 x2 l0 l1 l2
          have o5 := row_below HO.out.1 hbl
          have b5 := HO.out.2.trans (hbl.mono HO.out.2.size)
          obtain ⟨ki, kz0, kz1, kz2⟩ := HJ.out
          refine wpAny_one 30 (by kernel_rfl) rfl ?_
          intro K hK
          refine step_append_lies wx (by rfl) _ _ 98 (by rfl) w1.heap.size 100 j0 (.agg #[.int .i64 0, .int .i64 0, .int .i64 0]) 3 24 Tryz.underlying98 ki kz0 kz1 kz2 rfl (by decide) (.slice ot (k + j) ct) (k + j) (flatK fQ (bqE k ++ (List.zipWith (bqC gap) C m).take j)) (by rfl) o5 ⟨g0, 0, none⟩ 1 1 [.int .i64 (c.x : Int), .int .i64 ((c.x : Int) + c.k), .int .i64 (mm - ((c.k : Int) - 1) * gap)] (by rfl) rfl (cell_bk3Y q2) (one3Y _ _ _) (by decide) (by unfold maxLen; omega) (by omega) b5.size wx.heap.size rfl ?_
          intro h0 cap0 X1 hown hgrow _ _
          have HRel : Hid (OwK 100 3 fQ w1.heap.size X1 (.slice (some ⟨h0, 0, none⟩) (k + j + 1) cap0) (bqE k ++ (List.zipWith (bqC gap) C m).take (j + 1)) ∧ Below w1.heap.size w1 X1) := by
            refine ⟨?_, app_below b5 o5 (Nat.le_refl _) hgrow⟩
            rw [HZ.out, ← List.append_assoc]
            exact OwK.snoc (by rw [Hlen.out]) hown
          clear hown hgrow o5 b5 q1 q2 hbl ki kz0 kz1 kz2
          refine hK _ _ ?_
          clear hK K
          refine wpAny_one 31 (by kernel_rfl) rfl ?_
          intro K hK
          go_simp
          refine hK _ _ ?_
          clear hK K
          refine wpAny_done (by kernel_rfl) ?_ _
          go_wp2
          exact ⟨⟨j + 1, by omega, by go_num, HRel⟩, by simp [intOf]; omega⟩
        · obtain rfl : j = m.length := by omega
          have HB3 : Hid (BS wr u12 (bqG k gap C m) ∧ Below w.heap.size w wr) := by
            have h := HL.out.1.ks encQ
            rw [List.take_of_length_le (by rw [List.length_zipWith]; omega)] at h
            exact ⟨h.bs, H1b.out.trans (HL.out.2.mono H1b.out.size)⟩
          clear hCl
          clear HL HP HQ HM1
          have hw1 : IntKind.i64.wrap ((k : Int) + 1) = (k : Int) + 1 := by rw [IntKind.wrap_i64]; omega
          go_wp2_with fail
          refine (HS.out _ _ HB3.out.1).mono ?_
          rintro e w3 ⟨ev, rfl, H3⟩
          have H3b : Hid (Below w.heap.size w w3) := HB3.out.2.trans (H3.out.2.mono HB3.out.2.size)
          have H3e : Hid (IS w3 ev (rowN (k + 1) (edG k gap C m))) := H3.out.1.is
          clear H3 HB3 HS H1b
          obtain ⟨eo, ec, rfl, _, eg⟩ := id H3e.out
          obtain ⟨egb, eof, rfl, egl, eat⟩ := eg (by rw [rowN_len]; omega)
          have HEa : Hid (∀ i, i < k + 1 → w3.cell? ⟨egb, eof + i, none⟩ = some (.int .i64 (edG k gap C m i))) := fun i hi => by
            rw [eat i (by rw [rowN_len]; exact hi)]
            have := rowN_at (edG k gap C m) hi
            rw [List.getElem?_eq_some_iff] at this
            obtain ⟨_, e⟩ := this
            rw [e]
          clear eat eg H3e
          rw [rowN_len]
          go_wp2_with fail
          go_loopw [17, 18] (fun u i wr => ∃ j : Nat, j ≤ k ∧ i = .int .i64 j ∧ Hid (OwI w3.heap.size wr u (rowN j (wiG k gap C m)) ∧ Below w3.heap.size w3 wr)) (fun _ i _ => k - (intOf i).toNat)
          case atStart => exact ⟨0, Nat.zero_le _, rfl, OwI.nil _ _, Below.refl _ _⟩
          case round =>
            obtain ⟨j, hj, rfl, HL⟩ := hrel
            by_cases hjt : j < k
            · have ij : (j : Int) < k := by omega
              have hb := HL.out.2
              have x0 : wr.cell? ⟨egb, eof + (j + 1), none⟩ = some (.int .i64 (edG k gap C m (j + 1))) := (hb.cell (p := ⟨egb, eof + (j + 1), none⟩) egl).trans (HEa.out (j + 1) (by omega))
              have x1 : wr.cell? ⟨egb, eof + j, none⟩ = some (.int .i64 (edG k gap C m j)) := (hb.cell (p := ⟨egb, eof + j, none⟩) egl).trans (HEa.out j (by omega))
              have l0 : egb < wr.heap.size := Nat.lt_of_lt_of_le egl hb.size
              have e0 := edG_bd HGr.out (v := j) (by omega)
              have e1 := edG_bd HGr.out (v := j + 1) (by omega)
              have HZ : Hid (rowN (j + 1) (wiG k gap C m) = rowN j (wiG k gap C m) ++ [edG k gap C m (j + 1) - edG k gap C m j]) := rowN_snoc j _
              have hown : wr.ownsRow w3.heap.size 3 1 u17 j (flatI (rowN j (wiG k gap C m))) := by have h := HL.out.1; unfold OwI at h; rwa [rowN_len] at h
              obtain ⟨ot, ct, rfl, _, _⟩ := row_val hown
              have HO : Hid (wr.ownsRow w3.heap.size 3 1 (.slice ot j ct) j (flatI (rowN j (wiG k gap C m))) ∧ Below w3.heap.size w3 wr) := ⟨hown, hb⟩
              clear HL hown hb
              generalize edG k gap C m (j + 1) = ea at *
              generalize edG k gap C m j = eb at *
              have hw2 : IntKind.i64.wrap ((j : Int) + 1) = (j : Int) + 1 := by rw [IntKind.wrap_i64]; omega
              have hw3 : IntKind.i64.wrap (ea - eb) = ea - eb := by rw [IntKind.wrap_i64]; omega
              have ht : ((j : Int) + 1).toNat = j + 1 := by omega
              go_wp2_with fail
              refine R4.wp_region_lit 11 1 2 (fun _ b => .slice (some ⟨b, 0, none⟩) 1 1) (fun _ => .cells #[.int .i64 (ea - eb)] 3) [99] (by kernel_rfl) (by kernel_rfl) rfl ?_ rfl ?_
              · intro k hk
                have hc : k = 0 := by omega
                subst hc; rfl
              apply Exists.intro
              refine ⟨fun bs ne => ?_, ?_, ?_⟩
              · have d0 := fun t : Gb wr bs => (t.below.cell (p := ⟨egb, eof + (j + 1), none⟩) l0).trans x0
                have d1 := fun t : Gb wr bs => (t.below.cell (p := ⟨egb, eof + j, none⟩) l0).trans x1
                simp only [List.take_succ_cons, List.take_zero]
                repeat (go_big_quiet_step (fail))
                exact wpQuiet_nil rfl
              · intro i h1 h2
                have hc : i = 11 := by omega
                subst hc
                exact ⟨_, rfl, rfl, fun _ => by kernel_rfl⟩
              intro bl wx hbl hlo _
              obtain ⟨q1, q2⟩ := hlo 11 (by omega) (by omega)
              simp only [R4.layL]
              generalize bl 11 = g0 at *
              clear hlo x0 x1 l0
              have o5 := row_below HO.out.1 hbl
              have b5 := HO.out.2.trans (hbl.mono HO.out.2.size)
              obtain ⟨hi, hz0, hz1, hz2⟩ := HI.out
              refine wpAny_one 12 (by kernel_rfl) rfl ?_
              intro K hK
              refine step_append_lies wx (by rfl) _ _ 22 (by rfl) w3.heap.size 3 i0 (.int .i64 0) 1 8 Tryz.underlying22 hi hz0 hz1 hz2 rfl (by decide) (.slice ot j ct) j (flatI (rowN j (wiG k gap C m))) (by rfl) o5 ⟨g0, 0, none⟩ 1 1 [.int .i64 (ea - eb)] (by rfl) rfl (cell_bk1Y q2) (one1 _) (by decide) (by unfold maxLen; omega) (by omega) b5.size wx.heap.size rfl ?_
              intro h0 cap0 X1 hown hgrow _ _
              have HRel : Hid (OwI w3.heap.size X1 (.slice (some ⟨h0, 0, none⟩) (j + 1) cap0) (rowN (j + 1) (wiG k gap C m)) ∧ Below w3.heap.size w3 X1) := by
                refine ⟨?_, app_below b5 o5 (Nat.le_refl _) hgrow⟩
                rw [HZ.out]
                unfold OwI
                rw [List.length_append, rowN_len, flatI_app]
                exact hown
              clear hown hgrow o5 b5 q1 q2 hbl hi hz0 hz1 hz2
              refine hK _ _ ?_
              clear hK K
              refine wpAny_one 13 (by kernel_rfl) rfl ?_
              intro K hK
              go_simp
              refine hK _ _ ?_
              clear hK K
              refine wpAny_done (by kernel_rfl) ?_ _
              go_wp2
              exact ⟨⟨j + 1, by omega, by go_num, HRel⟩, by simp [intOf]; omega⟩
            · obtain rfl : j = k := by omega
              have HF : Hid (OwI w.heap.size wr u17 (wsG j gap C m) ∧ Below w.heap.size w wr) := ⟨HL.out.1.weaken H3b.out.size, H3b.out.trans (HL.out.2.mono H3b.out.size)⟩
              clear HL HEa
              obtain ⟨o1, c1, e1, _, _⟩ := row_val HF.out.1
              subst e1
              go_wp2
              go_ret
              exact ⟨_, rfl, HF⟩

end Go.Proofs.YthnhcphkpffkfaaGreat

namespace Go.Proofs.YthnhcphkpffkfaaGreat
open Go.RowKit
attribute [local go_sem] ite_maxK ite_minK

theorem OwI.put {lo : Nat} {w : World} {g n cap : Nat} {xs : List Int} (h : OwI lo w (.slice (some ⟨g, 0, none⟩) n cap) xs) (hn : xs.length = n) (j : Nat) (v : Int) : OwI lo (w.setCell ⟨g, j, none⟩ (.int .i64 v)) (.slice (some ⟨g, 0, none⟩) n cap) (xs.set j v) := by
  unfold OwI at h ⊢
  rw [hn] at h
  rw [List.length_set, flatI_set, hn]
  exact own_set h j (.int .i64 v)

theorem heE_zero {s m : List Int} {c : Int} (h : heE s m c = 0) : s.length ≤ 1024 ∧ (∀ x ∈ m, 0 ≤ x ∧ x ≤ 16384) ∧ (0 ≤ c ∧ c ≤ 64) ∧ m.length = s.length := by
  unfold heE at h
  split at h
  · next e =>
    split at h
    · next hl =>
      have hz := fsC_zero e
      have h1 := hz (eaC s 64) (by simp)
      have h2 := hz (eaC m 16384) (by simp)
      have h3 := hz (nuC c 64) (by simp)
      exact ⟨(eaC_zero h1).1, (eaC_zero h2).2, nuC_zero h3, hl⟩
    · omega
  · next e => exact absurd h e

set_option maxRecDepth 10000 in
set_option maxHeartbeats 8000000 in
theorem rheights_any (s m : List Int) (col : Int) (sv mv : Value) (w : World) (hs : IS w sv s) (hm : IS w mv m) (hE : heE s m col = 0) :
    Calls Tryz.prog 40 #[sv, mv, .int .i64 col] w fun e w' => ∃ u, e = .returned u ∧ Hid (OwI w.heap.size w' u (hgt (cel (clN col) s) m) ∧ Below w.heap.size w w') := by
  obtain ⟨hl, hmb, hcol, hml⟩ := heE_zero hE
  have HC : Hid (Calls Tryz.prog 39 #[sv, .int .i64 col] w fun e w' => ∃ u q, e = .returned (.tuple #[u, q]) ∧ Hid (OwK 25 2 fP w.heap.size w' u (cel (clN col) s) ∧ OwI w.heap.size w' q (wdL (cel (clN col) s)) ∧ Below w.heap.size w w')) := rcells_any s col sv w hs hl hcol
  have HM : Hid (IS w mv m) := hm
  have hn0 := clN_pos col
  generalize clN col = n at *
  have HFa : Hid (∀ i, i ≤ s.length → (hgt (cel n (s.take i)) (m.take i)).length = (if i = 0 then 0 else celY n 0 0 (s.take i) + 1) ∧ (∀ x ∈ hgt (cel n (s.take i)) (m.take i), 0 ≤ x ∧ x ≤ 16384) ∧ (hgt (cel n (s.take i)) (m.take i)).length ≤ i) := fun i hi => by
    obtain ⟨a, b, _⟩ := hgt_facts hn0 hml.symm hmb i hi
    refine ⟨a, b, ?_⟩
    have := (hgt_all hn0 (l := s.take i) (ms := m.take i) (by rw [List.length_take, List.length_take]; omega) (fun x hx => hmb x (List.mem_of_mem_take hx))).1
    rw [List.length_take] at this
    omega
  have HSt : Hid (∀ j (h : j < s.length) (h2 : j < m.length), hgt (cel n (s.take (j + 1))) (m.take (j + 1)) = hgS (hgt (cel n (s.take j)) (m.take j)) ((cel n s)[j]'(by rw [cel_len]; exact h)).y m[j] ∧ ((cel n s)[j]'(by rw [cel_len]; exact h)).y ≤ (hgt (cel n (s.take j)) (m.take j)).length) := fun j h _ => by
    rw [hgt_take hml.symm h, cel_at_take h]
    refine ⟨rfl, ?_⟩
    rw [(HFa.out j (by omega)).1]
    by_cases c : j = 0
    · subst c
      have := wdN_bd hn0 s[0]
      have e : nxC n (celX n 0 0 (s.take 0)) (celY n 0 0 (s.take 0)) s[0] = ⟨0, 0, wdN n s[0]⟩ := by
        rw [List.take_zero, celX, celY]
        unfold nxC
        rw [if_neg (by omega)]
      rw [e]
      simp
    · rw [if_neg c]
      have := nxC_y (n := n) (x := celX n 0 0 (s.take j)) (y := celY n 0 0 (s.take j)) s[j]
      omega
  have HMb : Hid (∀ x ∈ m, 0 ≤ x ∧ x ≤ 16384) := hmb
  have HCl : Hid ((cel n s).length = m.length) := by unfold Hid; rw [cel_len, hml]
  have hml' : m.length ≤ 1024 := by omega
  have Hml : Hid (m.length = s.length) := hml
  have HRs : Hid (hgt (cel n (s.take m.length)) (m.take m.length) = hgt (cel n s) m) := by unfold Hid; rw [List.take_of_length_le (l := s) (by omega), List.take_of_length_le (l := m) (Nat.le_refl _)]
  clear hs hm hE hml hmb
  obtain ⟨i0, hi, hz0, hz1, hz2⟩ := info_parts info_int
  have HI : Hid (Tryz.prog.info? 3 = some i0 ∧ i0.zero = some (.int .i64 0) ∧ i0.size = 1 ∧ i0.bytes = 8) := ⟨hi, hz0, hz1, hz2⟩
  clear hi hz0 hz1 hz2
  obtain ⟨so, scap, rfl, _, _⟩ := id HM.out
  go_enter Tryz.func40, Tryz.ntmps40
  go_wp2_with fail
  refine HC.out.mono ?_
  rintro e w1 ⟨pu, pq, rfl, H1⟩
  clear HC
  obtain ⟨po, pc, e1, _, pg⟩ := H1.out.1.ks encP
  subst e1
  simp only [HCl.out]
  have HP : Hid (0 < (cel n s).length → ∃ g o, po = some ⟨g, o, none⟩ ∧ g < w1.heap.size ∧ ∀ i (h : i < (cel n s).length) j, j < 2 → w1.cell? ⟨g, o + i * 2 + j, none⟩ = some (.int .i64 ((fP (cel n s)[i]).getD j 0))) := pg
  have H1b : Hid (Below w.heap.size w w1) := H1.out.2.2
  have HM1 : Hid (IS w1 (.slice so m.length scap) m) := HM.out.below H1b.out
  clear H1 pg HM
  go_wp2_with fail
  go_loopw [9, 10] (fun u i wr => ∃ j : Nat, j ≤ m.length ∧ i = .int .i64 j ∧ Hid (OwI w1.heap.size wr u (hgt (cel n (s.take j)) (m.take j)) ∧ Below w1.heap.size w1 wr)) (fun _ i _ => m.length - (intOf i).toNat)
  case atStart => exact ⟨0, Nat.zero_le _, rfl, OwI.nil _ _, Below.refl _ _⟩
  case round =>
    obtain ⟨j, hj, rfl, HL⟩ := hrel
    by_cases hjt : j < m.length
    · have ij : (j : Int) < m.length := by omega
      have hCl := HCl.out
      have hml := Hml.out
      obtain ⟨pgb, pof, rfl, pgl, pat⟩ := HP.out (by omega)
      obtain ⟨oa', cap', e', _, mg⟩ := HM1.out
      injection e' with e1 _ e3
      subst e1 e3
      obtain ⟨mgb, mof, rfl, mgl, mat⟩ := mg (by omega)
      have hb := HL.out.2
      have x0 : wr.cell? ⟨pgb, pof + j * 2 + 1, none⟩ = some (.int .i64 ((cel n s)[j]'(by omega)).y) := (hb.cell (p := ⟨pgb, pof + j * 2 + 1, none⟩) pgl).trans (pat j (by omega) 1 (by omega))
      have x2 : wr.cell? ⟨mgb, mof + j, none⟩ = some (.int .i64 m[j]) := (hb.cell (p := ⟨mgb, mof + j, none⟩) mgl).trans (mat j hjt)
      have y0 : Hid (w1.cell? ⟨pgb, pof + j * 2 + 1, none⟩ = some (.int .i64 ((cel n s)[j]'(by omega)).y)) := pat j (by omega) 1 (by omega)
      have y2 : Hid (w1.cell? ⟨mgb, mof + j, none⟩ = some (.int .i64 m[j])) := mat j hjt
      obtain ⟨s1, s2⟩ := HSt.out j (by omega) hjt
      obtain ⟨f1, f2, f3⟩ := HFa.out j (by omega)
      clear f1
      have hmm := HMb.out m[j] (List.getElem_mem _)
      have HO : Hid (OwI w1.heap.size wr u9 (hgt (cel n (s.take j)) (m.take j)) ∧ Below w1.heap.size w1 wr) := HL.out
      have HS1 : Hid (hgt (cel n (s.take (j + 1))) (m.take (j + 1)) = hgS (hgt (cel n (s.take j)) (m.take j)) ((cel n s)[j]'(by omega)).y m[j]) := s1
      have HF2 : Hid (∀ x ∈ hgt (cel n (s.take j)) (m.take j), 0 ≤ x ∧ x ≤ 16384) := f2
      clear HL hb pat mat mg s1 f2
      generalize ((cel n s)[j]'(by omega)).y = y at *
      generalize m[j] = mm at *
      generalize hgt (cel n (s.take j)) (m.take j) = R at *
      clear hCl hml
      obtain ⟨ot, ct, e9, _, og⟩ := HO.out.1.is
      subst e9
      by_cases hy0 : y = R.length
      · have hy : Hid (y = R.length) := hy0
        have HO2 : Hid (∀ o, (wr.alloc o).ownsRow w1.heap.size 3 1 (.slice ot R.length ct) R.length (flatI R) ∧ w1.heap.size ≤ (wr.alloc o).heap.size) := fun o => ⟨row_below HO.out.1 ((Below.refl _ _).alloc (Nat.le_refl _) _), by have := HO.out.2.size; simp; omega⟩
        have hc3 : Hid (R.length + 1 ≤ maxLen) := by unfold Hid maxLen; omega
        have hc4 : Hid ((R.length + 1) * 8 ≤ 140737488355328) := by unfold Hid; omega
        obtain ⟨hi, hz0, hz1, hz2⟩ := HI.out
        have iy : (y : Int) = R.length := by omega
        clear hy0
        go_wp2_with (at_builtin; refine wpList_append_lies _ rfl _ _ 22 rfl w1.heap.size 3 i0 (.int .i64 0) 1 8 Tryz.underlying22 hi hz0 hz1 hz2 rfl (by decide) (.slice ot R.length ct) R.length (flatI R) rfl (HO2.out _).1 _ 1 1 [.int .i64 0] rfl rfl (cell_oneB _ _ _ _ rfl) (one1 _) (by decide) hc3.out hc4.out (HO2.out _).2 _ rfl ?_)
        intro g4 cap4 w4 hown' hgrow _ hg4
        have H4 : Hid (OwI w1.heap.size w4 (.slice (some ⟨g4, 0, none⟩) (R.length + 1) cap4) (hgO R y) ∧ Below w1.heap.size w1 w4) := by
          have b1 : Below wr.heap.size wr (wr.alloc (.cells #[.int .i64 0] 3)) := (Below.refl _ _).alloc (Nat.le_refl _) _
          refine ⟨?_, app_below (HO.out.2.trans (b1.mono HO.out.2.size)) (HO2.out _).1 (Nat.le_refl _) hgrow⟩
          unfold hgO
          rw [if_pos hy.out]
          unfold OwI
          rw [List.length_append, flatI_app]
          exact hown'
        clear hown' hgrow HO2 HO x0 x2 og iy hi hz0 hz1 hz2
        have HOl : Hid ((hgO R y).length = R.length + 1) := by have := hy.out; unfold Hid; rw [hgO_len (by omega)]; omega
        have iy : (y : Int) < ((R.length + 1 : Nat) : Int) := by have := hy.out; omega
        have hylt : y < R.length + 1 := by have := hy.out; omega
        generalize hlen : R.length + 1 = len at *
        have hg4b := (row_lt (by have h := H4.out.1; unfold OwI at h; exact h) g4 rfl).1
        have z0 : w4.cell? ⟨pgb, pof + j * 2 + 1, none⟩ = some (.int .i64 (y : Int)) := (H4.out.2.cell (p := ⟨pgb, pof + j * 2 + 1, none⟩) pgl).trans y0.out
        have z1 : w4.cell? ⟨g4, y, none⟩ = some (.int .i64 ((hgO R y).getD y 0)) := by
          have h := H4.out.1
          unfold OwI at h
          rw [HOl.out] at h
          rw [own_cell h y (by omega), flatI_at _ _ (by rw [HOl.out]; exact hylt)]
          rw [List.getD_eq_getElem?_getD, List.getElem?_eq_getElem (by rw [HOl.out]; exact hylt)]
          rfl
        have z2 : w4.cell? ⟨mgb, mof + j, none⟩ = some (.int .i64 mm) := (H4.out.2.cell (p := ⟨mgb, mof + j, none⟩) mgl).trans y2.out
        have l0 : pgb < w4.heap.size := Nat.lt_of_lt_of_le pgl H4.out.2.size
        have l1 : g4 < w4.heap.size := hg4
        have l2 : mgb < w4.heap.size := Nat.lt_of_lt_of_le mgl H4.out.2.size
        have HE : Hid (∀ X, Below w4.heap.size w4 X → (OwI w1.heap.size (X.setCell ⟨g4, y, none⟩ (.int .i64 (max ((hgO R y).getD y 0) mm))) (.slice (some ⟨g4, 0, none⟩) len cap4) (hgt (cel n (s.take (j + 1))) (m.take (j + 1))) ∧ Below w1.heap.size w1 (X.setCell ⟨g4, y, none⟩ (.int .i64 (max ((hgO R y).getD y 0) mm)))) ∧ X.frozen? ⟨g4, y, none⟩ = false) := fun X hX => by
          have h := H4.out.1.below hX
          refine ⟨⟨?_, (H4.out.2.trans (hX.mono H4.out.2.size)).setCell hg4b _⟩, ?_⟩
          · rw [HS1.out]
            exact h.put HOl.out y _
          · unfold OwI at h
            rw [HOl.out] at h
            exact own_frozen h y
        have ho := HF2.out
        clear ho
        clear H4 HS1
        generalize (hgO R y).getD y 0 = ov at *
        go_wp2_with fail
        refine R4.wp_region_lit 20 0 1 (fun _ _ => undef) (fun _ => .cells #[] 0) [] (by kernel_rfl) (by kernel_rfl) rfl (fun k hk => absurd hk (by omega)) rfl ?_
        apply Exists.intro
        refine ⟨fun bs ne => ?_, fun i h1 h2 => absurd h2 (by omega), ?_⟩
        · have d0 := fun t : Gb w4 bs => (t.below.cell (p := ⟨pgb, pof + j * 2 + 1, none⟩) l0).trans z0
          have d1 := fun t : Gb w4 bs => (t.below.cell (p := ⟨g4, y, none⟩) l1).trans z1
          have d2 := fun t : Gb w4 bs => (t.below.cell (p := ⟨mgb, mof + j, none⟩) l2).trans z2
          simp only [List.take_succ_cons, List.take_zero]
          repeat (go_big_quiet_step (fail))
          exact wpQuiet_nil rfl
        · intro bl wx hbl _ _
          simp only [R4.layL]
          obtain ⟨hE', ff⟩ := HE.out wx hbl
          have HE' : Hid (OwI w1.heap.size (wx.setCell ⟨g4, y, none⟩ (.int .i64 (max ov mm))) (.slice (some ⟨g4, 0, none⟩) len cap4) (hgt (cel n (s.take (j + 1))) (m.take (j + 1))) ∧ Below w1.heap.size w1 (wx.setCell ⟨g4, y, none⟩ (.int .i64 (max ov mm)))) := hE'
          have b1 : wx.cell? ⟨g4, y, none⟩ = some (.int .i64 ov) := (hbl.cell (p := ⟨g4, y, none⟩) l1).trans z1
          clear hE' HE hbl z0 z1 z2
          refine wpAny_one 20 (by kernel_rfl) rfl ?_
          intro K hK
          go_simp
          refine hK _ _ ?_
          clear hK K
          refine wpAny_done (by kernel_rfl) ?_ _
          go_wp2
          exact ⟨⟨j + 1, by omega, by go_num, HE'⟩, by simp [intOf]; omega⟩
      · have hylt : y < R.length := by omega
        obtain ⟨g4, off, rfl, hg4, hxx⟩ := og (by omega)
        clear hxx
        obtain ⟨_, _, e', _, og'⟩ := row_val HO.out.1
        injection e' with e1 _ e3
        subst e3
        obtain ⟨_, e2, hg4b, _⟩ := og' (by omega)
        rw [e2] at e1
        injection e1 with e1
        injection e1 with e1 e1' _
        subst e1 e1'
        have H4 : Hid (OwI w1.heap.size wr (.slice (some ⟨g4, 0, none⟩) R.length ct) (hgO R y) ∧ Below w1.heap.size w1 wr) := by
          have : hgO R y = R := by unfold hgO; rw [if_neg hy0]
          rw [this]
          exact HO.out
        have iyn : ¬ (y : Int) = R.length := by omega
        clear HO og og' x0 x2
        have x0 : wr.cell? ⟨pgb, pof + j * 2 + 1, none⟩ = some (.int .i64 (y : Int)) := (H4.out.2.cell (p := ⟨pgb, pof + j * 2 + 1, none⟩) pgl).trans y0.out
        have HOl : Hid ((hgO R y).length = R.length) := by unfold Hid; rw [hgO_len (by omega)]; omega
        have iy : (y : Int) < (R.length : Int) := by omega
        generalize hlen : R.length = len at *
        have z0 : wr.cell? ⟨pgb, pof + j * 2 + 1, none⟩ = some (.int .i64 (y : Int)) := (H4.out.2.cell (p := ⟨pgb, pof + j * 2 + 1, none⟩) pgl).trans y0.out
        have z1 : wr.cell? ⟨g4, y, none⟩ = some (.int .i64 ((hgO R y).getD y 0)) := by
          have h := H4.out.1
          unfold OwI at h
          rw [HOl.out] at h
          rw [own_cell h y (by omega), flatI_at _ _ (by rw [HOl.out]; exact hylt)]
          rw [List.getD_eq_getElem?_getD, List.getElem?_eq_getElem (by rw [HOl.out]; exact hylt)]
          rfl
        have z2 : wr.cell? ⟨mgb, mof + j, none⟩ = some (.int .i64 mm) := (H4.out.2.cell (p := ⟨mgb, mof + j, none⟩) mgl).trans y2.out
        have l0 : pgb < wr.heap.size := Nat.lt_of_lt_of_le pgl H4.out.2.size
        have l1 : g4 < wr.heap.size := hg4
        have l2 : mgb < wr.heap.size := Nat.lt_of_lt_of_le mgl H4.out.2.size
        have HE : Hid (∀ X, Below wr.heap.size wr X → (OwI w1.heap.size (X.setCell ⟨g4, y, none⟩ (.int .i64 (max ((hgO R y).getD y 0) mm))) (.slice (some ⟨g4, 0, none⟩) len ct) (hgt (cel n (s.take (j + 1))) (m.take (j + 1))) ∧ Below w1.heap.size w1 (X.setCell ⟨g4, y, none⟩ (.int .i64 (max ((hgO R y).getD y 0) mm)))) ∧ X.frozen? ⟨g4, y, none⟩ = false) := fun X hX => by
          have h := H4.out.1.below hX
          refine ⟨⟨?_, (H4.out.2.trans (hX.mono H4.out.2.size)).setCell hg4b _⟩, ?_⟩
          · rw [HS1.out]
            exact h.put HOl.out y _
          · unfold OwI at h
            rw [HOl.out] at h
            exact own_frozen h y
        have ho := HF2.out
        clear ho
        clear H4 HS1
        generalize (hgO R y).getD y 0 = ov at *
        go_wp2_with fail
        refine R4.wp_region_lit 20 0 1 (fun _ _ => undef) (fun _ => .cells #[] 0) [] (by kernel_rfl) (by kernel_rfl) rfl (fun k hk => absurd hk (by omega)) rfl ?_
        apply Exists.intro
        refine ⟨fun bs ne => ?_, fun i h1 h2 => absurd h2 (by omega), ?_⟩
        · have d0 := fun t : Gb wr bs => (t.below.cell (p := ⟨pgb, pof + j * 2 + 1, none⟩) l0).trans z0
          have d1 := fun t : Gb wr bs => (t.below.cell (p := ⟨g4, y, none⟩) l1).trans z1
          have d2 := fun t : Gb wr bs => (t.below.cell (p := ⟨mgb, mof + j, none⟩) l2).trans z2
          simp only [List.take_succ_cons, List.take_zero]
          repeat (go_big_quiet_step (fail))
          exact wpQuiet_nil rfl
        · intro bl wx hbl _ _
          simp only [R4.layL]
          obtain ⟨hE', ff⟩ := HE.out wx hbl
          have HE' : Hid (OwI w1.heap.size (wx.setCell ⟨g4, y, none⟩ (.int .i64 (max ov mm))) (.slice (some ⟨g4, 0, none⟩) len ct) (hgt (cel n (s.take (j + 1))) (m.take (j + 1))) ∧ Below w1.heap.size w1 (wx.setCell ⟨g4, y, none⟩ (.int .i64 (max ov mm)))) := hE'
          have b1 : wx.cell? ⟨g4, y, none⟩ = some (.int .i64 ov) := (hbl.cell (p := ⟨g4, y, none⟩) l1).trans z1
          clear hE' HE hbl z0 z1 z2
          refine wpAny_one 20 (by kernel_rfl) rfl ?_
          intro K hK
          go_simp
          refine hK _ _ ?_
          clear hK K
          refine wpAny_done (by kernel_rfl) ?_ _
          go_wp2
          exact ⟨⟨j + 1, by omega, by go_num, HE'⟩, by simp [intOf]; omega⟩
    · obtain rfl : j = m.length := by omega
      have HF : Hid (OwI w.heap.size wr u9 (hgt (cel n s) m) ∧ Below w.heap.size w wr) := by
        have h := HL.out
        rw [HRs.out] at h
        exact ⟨h.1.weaken H1b.out.size, H1b.out.trans (h.2.mono H1b.out.size)⟩
      clear HL HRs
      obtain ⟨o1, c1, e1, _, _⟩ := row_val HF.out.1
      subst e1
      go_wp2
      go_ret
      exact ⟨_, rfl, HF⟩

end Go.Proofs.YthnhcphkpffkfaaGreat
