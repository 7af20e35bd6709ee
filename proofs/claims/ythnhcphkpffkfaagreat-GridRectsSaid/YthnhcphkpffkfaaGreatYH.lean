/-
  The document's grid: sides, used, sum, tracks.
-/
import Derived.Test.YthnhcphkpffkfaaGreatYG
namespace Go.Proofs.YthnhcphkpffkfaaGreat
open Go.RowKit
attribute [local go_sem] ite_maxK ite_minK

theorem take_map_snoc {α β : Type} (f : α → β) {l : List α} {k : Nat} (h : k < l.length) : (l.take (k + 1)).map f = (l.take k).map f ++ [f l[k]] := by
  rw [List.take_succ_eq_append_getElem h, List.map_append]; rfl

set_option maxRecDepth 10000 in
set_option maxHeartbeats 4000000 in
theorem rsides_any (z : List Sz) (v : Value) (w : World) (hv : KS 2 fZ w v z) (hn : z.length ≤ 1024) :
    Calls Tryz.prog 38 #[v] w fun e w' => ∃ u q, e = .returned (.tuple #[u, q]) ∧ Hid (OwI w.heap.size w' u (z.map (·.w)) ∧ OwI w.heap.size w' q (z.map (·.h)) ∧ Below w.heap.size w w') := by
  obtain ⟨oa, cap, rfl, hc, hgg⟩ := hv
  have HG : Hid (0 < z.length → ∃ g o, oa = some ⟨g, o, none⟩ ∧ g < w.heap.size ∧ ∀ i (h : i < z.length) j, j < 2 → w.cell? ⟨g, o + i * 2 + j, none⟩ = some (.int .i64 ((fZ z[i]).getD j 0))) := hgg
  obtain ⟨i0, hi, hz0, hz1, hz2⟩ := info_parts info_int
  have HI : Hid (Tryz.prog.info? 3 = some i0 ∧ i0.zero = some (.int .i64 0) ∧ i0.size = 1 ∧ i0.bytes = 8) := ⟨hi, hz0, hz1, hz2⟩
  clear hgg hi hz0 hz1 hz2
  go_enter Tryz.func38, Tryz.ntmps38
  go_wp2_with fail
  go_loopw [4, 5, 6] (fun u q i wr => ∃ k : Nat, k ≤ z.length ∧ i = .int .i64 k ∧ Hid (OwI w.heap.size wr u ((z.take k).map (·.w)) ∧ OwI w.heap.size wr q ((z.take k).map (·.h)) ∧ Apt u q ∧ Below w.heap.size w wr)) (fun _ _ i _ => z.length - (intOf i).toNat)
  case atStart => exact ⟨0, Nat.zero_le _, rfl, OwI.nil _ _, OwI.nil _ _, (fun g h => by cases h), Below.refl _ _⟩
  case round =>
    obtain ⟨k, hk, rfl, HK⟩ := hrel
    by_cases hlt : k < z.length
    · have ik : (k : Int) < z.length := by omega
      obtain ⟨g, o, rfl, hgl, hat⟩ := HG.out (by omega)
      have x0 : wr.cell? ⟨g, o + k * 2, none⟩ = some (.int .i64 z[k].w) := (HK.out.2.2.2.cell (p := ⟨g, o + k * 2, none⟩) hgl).trans (hat k hlt 0 (by omega))
      have y1 : Hid (w.cell? ⟨g, o + k * 2 + 1, none⟩ = some (.int .i64 z[k].h)) := hat k hlt 1 (by omega)
      have HN1 : Hid ((z.take (k + 1)).map (·.w) = (z.take k).map (·.w) ++ [z[k].w] ∧ (z.take (k + 1)).map (·.h) = (z.take k).map (·.h) ++ [z[k].h]) := ⟨take_map_snoc _ hlt, take_map_snoc _ hlt⟩
      have Hcl : Hid (((z.take k).map (·.w)).length = k ∧ ((z.take k).map (·.h)).length = k) := by unfold Hid; simp; omega
      have H2 : Hid (wr.ownsRow w.heap.size 3 1 u4 k (flatI ((z.take k).map (·.w))) ∧ wr.ownsRow w.heap.size 3 1 u5 k (flatI ((z.take k).map (·.h))) ∧ Apt u4 u5 ∧ Below w.heap.size w wr) := ⟨by have h := HK.out.1; unfold OwI at h; rwa [Hcl.out.1] at h, by have h := HK.out.2.1; unfold OwI at h; rwa [Hcl.out.2] at h, HK.out.2.2.1, HK.out.2.2.2⟩
      have HA : Hid (∀ o, (wr.alloc o).ownsRow w.heap.size 3 1 u4 k (flatI ((z.take k).map (·.w))) ∧ w.heap.size ≤ (wr.alloc o).heap.size) := fun o => ⟨row_below H2.out.1 ((Below.refl _ _).alloc (Nat.le_refl _) _), by have := H2.out.2.2.2.size; simp; omega⟩
      have hc3 : Hid (k + 1 ≤ maxLen) := by unfold Hid maxLen; omega
      have hc5 : Hid ((k + 1) * 8 ≤ 140737488355328) := by unfold Hid; omega
      obtain ⟨hi, hz0, hz1, hz2⟩ := HI.out
      clear HK hat
      generalize z[k] = q at *
      generalize (z.take k).map (·.w) = A at *
      generalize (z.take k).map (·.h) = B at *
      go_wp2_with (at_builtin; refine wpList_append_lies _ rfl _ _ 22 rfl w.heap.size 3 i0 (.int .i64 0) 1 8 Tryz.underlying22 hi hz0 hz1 hz2 rfl (by decide) u4 k (flatI A) rfl (HA.out _).1 _ 1 1 [.int .i64 q.w] rfl rfl (cell_oneB _ _ _ _ rfl) (one1 _) (by decide) hc3.out hc5.out (HA.out _).2 _ rfl ?_)
      intro g4 cap4 w4 hown' hgrow hlies hg4
      have H4 : Hid (OwI w.heap.size w4 (.slice (some ⟨g4, 0, none⟩) (k + 1) cap4) ((z.take (k + 1)).map (·.w)) ∧ w4.ownsRow w.heap.size 3 1 u5 k (flatI B) ∧ Apt (.slice (some ⟨g4, 0, none⟩) (k + 1) cap4) u5 ∧ Below w.heap.size w w4) := by
        obtain ⟨_, a1, a2, a3⟩ := H2.out
        have b1 : Below wr.heap.size wr (wr.alloc (.cells #[.int .i64 q.w] 3)) := (Below.refl _ _).alloc (Nat.le_refl _) _
        have a1' := row_below a1 b1
        refine ⟨?_, World.ownsRow.kept a1' hgrow a2.ne, Apt.grow a2 a1' (by simp) hlies, app_below (a3.trans (b1.mono a3.size)) (HA.out _).1 (Nat.le_refl _) hgrow⟩
        rw [HN1.out.1]
        unfold OwI
        rw [List.length_append, Hcl.out.1, flatI_app]
        exact hown'
      clear hown' hgrow hlies HA H2 x0
      have x1 : w4.cell? ⟨g, o + k * 2 + 1, none⟩ = some (.int .i64 q.h) := (H4.out.2.2.2.cell (p := ⟨g, o + k * 2 + 1, none⟩) hgl).trans y1.out
      have HA2 : Hid (∀ o, (w4.alloc o).ownsRow w.heap.size 3 1 u5 k (flatI B) ∧ w.heap.size ≤ (w4.alloc o).heap.size) := fun o => ⟨row_below H4.out.2.1 ((Below.refl _ _).alloc (Nat.le_refl _) _), by have := H4.out.2.2.2.size; simp; omega⟩
      go_wp2_with (at_builtin; refine wpList_append_lies _ rfl _ _ 22 rfl w.heap.size 3 i0 (.int .i64 0) 1 8 Tryz.underlying22 hi hz0 hz1 hz2 rfl (by decide) u5 k (flatI B) rfl (HA2.out _).1 _ 1 1 [.int .i64 q.h] rfl rfl (cell_oneB _ _ _ _ rfl) (one1 _) (by decide) hc3.out hc5.out (HA2.out _).2 _ rfl ?_)
      intro g6 cap6 w6 hown' hgrow hlies hg6
      have H6 : Hid (OwI w.heap.size w6 (.slice (some ⟨g4, 0, none⟩) (k + 1) cap4) ((z.take (k + 1)).map (·.w)) ∧ OwI w.heap.size w6 (.slice (some ⟨g6, 0, none⟩) (k + 1) cap6) ((z.take (k + 1)).map (·.h)) ∧ Apt (.slice (some ⟨g4, 0, none⟩) (k + 1) cap4) (.slice (some ⟨g6, 0, none⟩) (k + 1) cap6) ∧ Below w.heap.size w w6) := by
        obtain ⟨a1, a2, a3, a4⟩ := H4.out
        have b1 : Below w4.heap.size w4 (w4.alloc (.cells #[.int .i64 q.h] 3)) := (Below.refl _ _).alloc (Nat.le_refl _) _
        have a1' := row_below a1 b1
        refine ⟨World.ownsRow.kept a1' hgrow a3.turn.ne, ?_, (Apt.grow a3.turn a1' (by simp) hlies).turn, app_below (a4.trans (b1.mono a4.size)) (HA2.out _).1 (Nat.le_refl _) hgrow⟩
        rw [HN1.out.2]
        unfold OwI
        rw [List.length_append, Hcl.out.2, flatI_app]
        exact hown'
      clear hown' hgrow hlies HA2 H4 hi hz0 hz1 hz2 x1
      go_wp2
      exact ⟨⟨k + 1, by omega, by go_num, H6⟩, by simp [intOf]; omega⟩
    · obtain rfl : k = z.length := by omega
      have HF : Hid (OwI w.heap.size wr u4 (z.map (·.w)) ∧ OwI w.heap.size wr u5 (z.map (·.h)) ∧ Below w.heap.size w wr) := by have := HK.out; rw [List.take_length] at this; exact ⟨this.1, this.2.1, this.2.2.2⟩
      clear HK
      obtain ⟨o1, c1, e1, _, _⟩ := row_val HF.out.1
      obtain ⟨o2, c2, e2, _, _⟩ := row_val HF.out.2.1
      subst e1
      subst e2
      go_wp2
      go_ret2
      exact ⟨_, _, rfl, HF⟩

set_option maxRecDepth 10000 in
set_option maxHeartbeats 4000000 in
theorem rtracks_any (l : List Int) (v : Value) (w : World) (hv : IS w v l) (hn : l.length ≤ 1024) :
    Calls Tryz.prog 46 #[v] w fun e w' => ∃ u, e = .returned u ∧ Hid (OwK 96 3 fT w.heap.size w' u (l.map trk) ∧ Below w.heap.size w w') := by
  obtain ⟨oa, cap, rfl, hc, hgg⟩ := hv
  have HG : Hid (0 < l.length → ∃ g o, oa = some ⟨g, o, none⟩ ∧ g < w.heap.size ∧ ∀ i (h : i < l.length), w.cell? ⟨g, o + i, none⟩ = some (.int .i64 l[i])) := hgg
  obtain ⟨i0, hi, hz0, hz1, hz2⟩ := info_parts info_trackY
  have HI : Hid (Tryz.prog.info? 96 = some i0 ∧ i0.zero = some (.agg #[.int .i64 0, .int .i64 0, .int .i64 0]) ∧ i0.size = 3 ∧ i0.bytes = 24) := ⟨hi, hz0, hz1, hz2⟩
  clear hgg hi hz0 hz1 hz2
  go_enter Tryz.func46, Tryz.ntmps46
  go_wp2_with fail
  go_loopw [3, 4] (fun u i wr => ∃ k : Nat, k ≤ l.length ∧ i = .int .i64 k ∧ Hid (OwK 96 3 fT w.heap.size wr u ((l.take k).map trk) ∧ Below w.heap.size w wr)) (fun _ i _ => l.length - (intOf i).toNat)
  case atStart => exact ⟨0, Nat.zero_le _, rfl, OwK.nil _ _ _ _ _, Below.refl _ _⟩
  case round =>
    obtain ⟨k, hk, rfl, HK⟩ := hrel
    by_cases hlt : k < l.length
    · have ik : (k : Int) < l.length := by omega
      obtain ⟨g, o, rfl, hgl, hat⟩ := HG.out (by omega)
      have x0 := (HK.out.2.cell (p := ⟨g, o + k, none⟩) hgl).trans (hat k hlt)
      have HN1 : Hid ((l.take (k + 1)).map trk = (l.take k).map trk ++ [trk l[k]]) := take_map_snoc _ hlt
      have Hcl : Hid (((l.take k).map trk).length = k) := by unfold Hid; simp; omega
      have ho : wr.ownsRow w.heap.size 96 3 u3 k (flatK fT ((l.take k).map trk)) := by have h := HK.out.1; unfold OwK at h; rwa [Hcl.out] at h
      have HA : Hid (∀ o, (wr.alloc o).ownsRow w.heap.size 96 3 u3 k (flatK fT ((l.take k).map trk)) ∧ w.heap.size ≤ (wr.alloc o).heap.size) := fun o => ⟨row_below ho ((Below.refl _ _).alloc (Nat.le_refl _) _), by have := HK.out.2.size; simp; omega⟩
      have HB : Hid (Below w.heap.size w wr) := HK.out.2
      have hc3 : Hid (k + 1 ≤ maxLen) := by unfold Hid maxLen; omega
      have hc4 : Hid ((k + 1) * 24 ≤ 140737488355328) := by unfold Hid; omega
      obtain ⟨ki, kz0, kz1, kz2⟩ := HI.out
      clear HK ho hat
      generalize l[k] = x at *
      generalize (l.take k).map trk = A at *
      go_wp2_with (at_builtin; refine wpList_append_lies _ rfl _ _ 64 rfl w.heap.size 96 i0 (.agg #[.int .i64 0, .int .i64 0, .int .i64 0]) 3 24 Tryz.underlying64 ki kz0 kz1 kz2 rfl (by decide) u3 k (flatK fT A) rfl (HA.out _).1 _ 1 1 [.int .i64 x, .int .i64 0, .int .i64 1] rfl rfl (cell_bk3Y (Bk.new _ _ _)) (one3Y _ _ _) (by decide) hc3.out hc4.out (HA.out _).2 _ rfl ?_)
      intro g4 cap4 w4 hown' hgrow _ _
      have H4 : Hid (OwK 96 3 fT w.heap.size w4 (.slice (some ⟨g4, 0, none⟩) (k + 1) cap4) ((l.take (k + 1)).map trk) ∧ Below w.heap.size w w4) := by
        have b1 : Below wr.heap.size wr (wr.alloc (.cells #[.int .i64 x, .int .i64 0, .int .i64 1] 96)) := (Below.refl _ _).alloc (Nat.le_refl _) _
        refine ⟨?_, app_below (HB.out.trans (b1.mono HB.out.size)) (HA.out _).1 (Nat.le_refl _) hgrow⟩
        rw [HN1.out]
        exact OwK.snoc (by rw [Hcl.out]) hown'
      clear hown' hgrow HA HB ki kz0 kz1 kz2 x0
      go_wp2
      exact ⟨⟨k + 1, by omega, by go_num, H4⟩, by simp [intOf]; omega⟩
    · obtain rfl : k = l.length := by omega
      have HF : Hid (OwK 96 3 fT w.heap.size wr u3 (l.map trk) ∧ Below w.heap.size w wr) := by have := HK.out; rwa [List.take_length] at this
      clear HK
      obtain ⟨o1, c1, e1, _, _⟩ := row_val HF.out.1
      subst e1
      go_wp2
      go_ret
      exact ⟨_, rfl, HF⟩

theorem smL_bd {l : List Int} {M : Int} (h : ∀ x ∈ l, 0 ≤ x ∧ x ≤ M) : 0 ≤ smL l ∧ smL l ≤ l.length * M := by
  induction l with
  | nil => simp [smL]
  | cons x l ih =>
    have h1 := ih fun y hy => h y (by simp [hy])
    have h2 := h x (by simp)
    rw [smL, List.length_cons, Int.natCast_add, Int.add_mul]
    simp
    omega

set_option maxHeartbeats 2000000 in
theorem rsum_any (l : List Int) (k : Nat) (gap : Int) (v : Value) (w : World) (hv : IS w v l) (hn : l.length ≤ 1024) (hk : k ≤ 1024) (hx : ∀ x ∈ l, 0 ≤ x ∧ x ≤ 16384) (hg : 0 ≤ gap ∧ gap ≤ 16384) :
    Calls Tryz.prog 41 #[v, .int .i64 k, .int .i64 gap] w fun e w' => e = .returned (.int .i64 (neS l k gap)) ∧ w' = w := by
  obtain ⟨oa, cap, rfl, hc, hgg⟩ := hv
  have HG : Hid (0 < l.length → ∃ g o, oa = some ⟨g, o, none⟩ ∧ g < w.heap.size ∧ ∀ i (h : i < l.length), w.cell? ⟨g, o + i, none⟩ = some (.int .i64 l[i])) := hgg
  have HX : Hid (∀ x ∈ l, 0 ≤ x ∧ x ≤ 16384) := hx
  clear hgg hx
  have h1 : 0 ≤ max ((k : Int) - 1) 0 * gap := Int.mul_nonneg (by omega) hg.1
  have h2 : max ((k : Int) - 1) 0 * gap ≤ 1024 * 16384 := Int.mul_le_mul (by omega) hg.2 hg.1 (by omega)
  have HNs : Hid (∀ x, x = max ((k : Int) - 1) 0 * gap + smL l → neS l k gap = x) := fun x hx => by rw [hx]; rfl
  have hw1 : IntKind.i64.wrap ((k : Int) - 1) = (k : Int) - 1 := by rw [IntKind.wrap_i64]; omega
  have hw2 : IntKind.i64.wrap (max ((k : Int) - 1) 0 * gap) = max ((k : Int) - 1) 0 * gap := by rw [IntKind.wrap_i64]; omega
  go_enter Tryz.func41, Tryz.ntmps41
  go_wp2_with fail
  generalize max ((k : Int) - 1) 0 * gap = G at *
  go_loopw [7, 8] (fun s i wr => ∃ (j : Nat) (x : Int), j ≤ l.length ∧ i = .int .i64 j ∧ s = .int .i64 x ∧ wr = w ∧ Hid (x = G + smL (l.take j))) (fun _ i _ => l.length - (intOf i).toNat)
  case atStart => exact ⟨0, G, Nat.zero_le _, rfl, rfl, rfl, by unfold Hid; simp [smL]⟩
  case round =>
    obtain ⟨j, x, hj, rfl, rfl, rfl, HK⟩ := hrel
    by_cases hlt : j < l.length
    · have ik : (j : Int) < l.length := by omega
      obtain ⟨g, o, rfl, hgl, hat⟩ := HG.out (by omega)
      have x0 := hat j hlt
      have hxb := HX.out l[j] (List.getElem_mem hlt)
      have hsb := smL_bd (l := l.take j) (M := 16384) fun y hy => HX.out y (List.mem_of_mem_take hy)
      have hx1 : 0 ≤ x ∧ x ≤ 33554432 := by
        rw [HK.out]
        have : ((l.take j).length : Int) ≤ 1024 := by simp; omega
        omega
      have HN : Hid (x + l[j] = G + smL (l.take (j + 1))) := by unfold Hid; rw [smL_take hlt, HK.out]; omega
      clear HK hat hsb
      generalize l[j] = y at *
      have hw3 : IntKind.i64.wrap (x + y) = x + y := by rw [IntKind.wrap_i64]; omega
      go_wp2
      exact ⟨⟨j + 1, x + y, by omega, by go_num, rfl, trivial, HN.out⟩, by simp [intOf]; omega⟩
    · obtain rfl : j = l.length := by omega
      have HF : Hid (neS l k gap = x) := HNs.out x (by have := HK.out; rwa [List.take_length] at this)
      clear HK HNs
      go_wp2
      go_ret
      exact ⟨by rw [HF.out]; rfl, rfl⟩

set_option maxRecDepth 10000 in
set_option maxHeartbeats 4000000 in
theorem rused_any (C : List Cl) (n : Nat) (pv qv : Value) (w : World) (hp : KS 2 fP w pv C) (hq : IS w qv (wdL C)) (hn : C.length ≤ 1024) (hC : ∀ c ∈ C, c.x + c.k ≤ n) (h64 : n ≤ 64) :
    Calls Tryz.prog 43 #[pv, qv] w fun e w' => e = .returned (.int .i64 (usd C)) ∧ Below w.heap.size w w' := by
  obtain ⟨po, pc, rfl, _, pg⟩ := hp
  obtain ⟨qo, qc, rfl, _, qg⟩ := hq
  have HP : Hid (0 < C.length → ∃ g o, po = some ⟨g, o, none⟩ ∧ g < w.heap.size ∧ ∀ i (h : i < C.length) j, j < 2 → w.cell? ⟨g, o + i * 2 + j, none⟩ = some (.int .i64 ((fP C[i]).getD j 0))) := pg
  have HQ : Hid (0 < (wdL C).length → ∃ g o, qo = some ⟨g, o, none⟩ ∧ g < w.heap.size ∧ ∀ i (h : i < (wdL C).length), w.cell? ⟨g, o + i, none⟩ = some (.int .i64 (wdL C)[i])) := qg
  have HCb : Hid (∀ c ∈ C, c.x + c.k ≤ n) := hC
  clear pg qg hC
  rw [wdL_len]
  go_enter Tryz.func43, Tryz.ntmps43
  go_wp2_with fail
  go_loopw [5, 6] (fun s i wr => ∃ (j x : Nat), j ≤ C.length ∧ i = .int .i64 j ∧ s = .int .i64 x ∧ Hid (x = usd (C.take j) ∧ Below w.heap.size w wr)) (fun _ i _ => C.length - (intOf i).toNat)
  case atStart => exact ⟨0, 0, Nat.zero_le _, rfl, rfl, rfl, Below.refl _ _⟩
  case round =>
    obtain ⟨j, x, hj, rfl, rfl, HK⟩ := hrel
    by_cases hlt : j < C.length
    · have ik : (j : Int) < C.length := by omega
      obtain ⟨pgb, pof, rfl, pgl, pat⟩ := HP.out (by omega)
      obtain ⟨qgb, qof, rfl, qgl, qat⟩ := HQ.out (by rw [wdL_len]; omega)
      have x0 : wr.cell? ⟨pgb, pof + j * 2, none⟩ = some (.int .i64 C[j].x) := (HK.out.2.cell (p := ⟨pgb, pof + j * 2, none⟩) pgl).trans (pat j hlt 0 (by omega))
      have x1 : wr.cell? ⟨qgb, qof + j, none⟩ = some (.int .i64 C[j].k) := (HK.out.2.cell (p := ⟨qgb, qof + j, none⟩) qgl).trans ((qat j (by rw [wdL_len]; omega)).trans (by simp [wdL]))
      have l0 : pgb < wr.heap.size := Nat.lt_of_lt_of_le pgl HK.out.2.size
      have l1 : qgb < wr.heap.size := Nat.lt_of_lt_of_le qgl HK.out.2.size
      have HB : Hid (Below w.heap.size w wr) := HK.out.2
      have hcb := HCb.out C[j] (List.getElem_mem hlt)
      have HN : Hid (max x (C[j].x + C[j].k) = usd (C.take (j + 1))) := by unfold Hid; rw [List.take_succ_eq_append_getElem hlt, usd_snoc, HK.out.1]
      have hxb : x ≤ n := by rw [HK.out.1]; exact usd_le fun c hc => HCb.out c (List.mem_of_mem_take hc)
      clear HK pat qat
      generalize C[j] = c at *
      have hw1 : IntKind.i64.wrap ((c.x : Int) + c.k) = (c.x : Int) + c.k := by rw [IntKind.wrap_i64]; omega
      have HE : Hid (max (x : Int) ((c.x : Int) + c.k) = ((usd (C.take (j + 1)) : Nat) : Int)) := by unfold Hid; rw [← HN.out]; omega
      go_wp2_with fail
      refine R4.wp_region_lit 12 0 1 (fun _ _ => undef) (fun _ => .cells #[] 0) [] (by kernel_rfl) (by kernel_rfl) rfl (fun k hk => absurd hk (by omega)) rfl ?_
      apply Exists.intro
      refine ⟨fun bs ne => ?_, fun i h1 h2 => absurd h2 (by omega), ?_⟩
      · have d0 := fun t : Gb wr bs => (t.below.cell (p := ⟨pgb, pof + j * 2, none⟩) l0).trans x0
        have d1 := fun t : Gb wr bs => (t.below.cell (p := ⟨qgb, qof + j, none⟩) l1).trans x1
        simp only [List.take_succ_cons, List.take_zero]
        repeat (go_big_quiet_step (fail))
        exact wpQuiet_nil rfl
      · intro bl wx hbl _ _
        simp only [R4.layL]
        have HB2 : Hid (Below w.heap.size w wx) := HB.out.trans (hbl.mono HB.out.size)
        clear hbl HB x0 x1
        refine wpAny_one 12 (by kernel_rfl) rfl ?_
        intro K hK
        go_simp
        refine hK _ _ ?_
        clear hK K
        refine wpAny_done (by kernel_rfl) ?_ _
        go_wp2
        exact ⟨⟨j + 1, usd (C.take (j + 1)), by omega, by go_num, by rw [← HE.out], rfl, HB2.out⟩, by simp [intOf]; omega⟩
    · obtain rfl : j = C.length := by omega
      have HF : Hid (usd C = x ∧ Below w.heap.size w wr) := by have := HK.out; rw [List.take_length] at this; exact ⟨this.1.symm, this.2⟩
      clear HK
      go_wp2
      go_ret
      exact ⟨by rw [HF.out.1]; rfl, HF.out.2⟩

end Go.Proofs.YthnhcphkpffkfaaGreat
