/-
  Package grid: widths.
-/
import Derived.Test.YthnhcphkpffkfaaGreatYV
namespace Go.Proofs.YthnhcphkpffkfaaGreat
open Go.RowKit
attribute [local go_sem] ite_maxK ite_minK

theorem widths1_enters : ∀ args w, (callFunc 74 args).run Tryz.prog w = .ok (.enter 74 args) w := enters_of Tryz.func74 (by kernel_rfl) rfl
set_option maxRecDepth 10000 in
set_option maxHeartbeats 4000000 in
theorem widths1_any (y t : Nat) (a b gap : Int) (gb bb tb lo : Nat) (L : List Bq) (ms : List Int) (bv tv : Value) (w : World) (h1 : Bk w gb #[.int .i64 gap] 3) (h2 : Bk w bb #[bv] 98) (h3 : Bk w tb #[tv] 22) (h4 : IS w tv ms) (h5 : OwK 100 3 fQ lo w bv L) (hlo : lo ≤ w.heap.size) (hL : L.length ≤ 100000) (ht : t < ms.length)
    (hg : 0 ≤ gap ∧ gap ≤ 16384) (ha : 0 ≤ a ∧ a ≤ 1000) (hb : a < b ∧ b ≤ 1000) (hm : ∀ m ∈ ms, 0 ≤ m ∧ m ≤ 16384) :
    Calls Tryz.prog 74 #[.int .i64 (y : Nat), .agg #[.int .i64 (t : Nat), .int .i64 a, .int .i64 b], .pointer (some ⟨gb, 0, none⟩), .pointer (some ⟨bb, 0, none⟩), .pointer (some ⟨tb, 0, none⟩)] w fun e w' => e = .returned (.tuple #[]) ∧ ∃ x bv', w.grownBy x bv.ownBlock ∧ OwK 100 3 fQ lo x bv' (L ++ [⟨a, b, ms[t] - gap * (b - a - 1)⟩]) ∧ w' = x.setCell ⟨bb, 0, none⟩ bv' := by
  obtain ⟨oa, cap, rfl, _, hgg⟩ := h4
  obtain ⟨tg, th, rfl, htl, hat⟩ := hgg (by omega)
  have hmm := hm ms[t] (List.getElem_mem ht)
  have x0 : Hid (w.cell? ⟨gb, 0, none⟩ = some (.int .i64 gap)) := by unfold Hid; rw [h1.cell]; rfl
  have x1 : Hid (w.cell? ⟨tb, 0, none⟩ = some (.slice (some ⟨tg, th, none⟩) ms.length cap)) := by unfold Hid; rw [h3.cell]; rfl
  have x2 : Hid (w.cell? ⟨bb, 0, none⟩ = some bv) := by unfold Hid; rw [h2.cell]; rfl
  have x3 : Hid (w.cell? ⟨tg, th + t, none⟩ = some (.int .i64 ms[t])) := hat t ht
  have Lt : Hid (gb < w.heap.size ∧ tb < w.heap.size ∧ bb < w.heap.size ∧ tg < w.heap.size) := ⟨h1.lt, h3.lt, h2.lt, htl⟩
  have HN : Hid (Bk w bb #[bv] 98 ∧ OwK 100 3 fQ lo w bv L) := ⟨h2, h5⟩
  have it : (t : Int) < (ms.length : Int) := by omega
  obtain ⟨bo, bc, e1, _, _⟩ := row_val h5
  subst e1
  obtain ⟨j0, ki, kz0, kz1, kz2⟩ := info_parts info_boundY
  have HJ : Hid (Tryz.prog.info? 100 = some j0 ∧ j0.zero = some (.agg #[.int .i64 0, .int .i64 0, .int .i64 0]) ∧ j0.size = 3 ∧ j0.bytes = 24) := ⟨ki, kz0, kz1, kz2⟩
  clear hgg hat h1 h2 h3 h5 hm ki kz0 kz1 kz2
  generalize hmt : ms[t] = mm at *
  clear hmt
  have q1 : gap * (b - a - 1) ≤ 16384 * 1000 := Int.mul_le_mul hg.2 (by omega) (by omega) (by omega)
  have q2 : 0 ≤ gap * (b - a - 1) := Int.mul_nonneg hg.1 (by omega)
  have hw1 : IntKind.i64.wrap (b - a) = b - a := by rw [IntKind.wrap_i64]; omega
  have hw2 : IntKind.i64.wrap (b - a - 1) = b - a - 1 := by rw [IntKind.wrap_i64]; omega
  have hw3 : IntKind.i64.wrap (gap * (b - a - 1)) = gap * (b - a - 1) := by rw [IntKind.wrap_i64]; omega
  have hw4 : IntKind.i64.wrap (mm - gap * (b - a - 1)) = mm - gap * (b - a - 1) := by rw [IntKind.wrap_i64]; omega
  generalize hgp : gap * (b - a - 1) = gp at *
  have B1 : Below w.heap.size w (w.alloc (.cells #[.int .i64 (t : Nat), .int .i64 a, .int .i64 b] 68)) := (Below.refl _ _).alloc (Nat.le_refl _) _
  have K1 : Bk (w.alloc (.cells #[.int .i64 (t : Nat), .int .i64 a, .int .i64 b] 68)) w.heap.size #[.int .i64 (t : Nat), .int .i64 a, .int .i64 b] 68 := Bk.new _ _ _
  have HB : Hid (Below w.heap.size w (w.alloc (.cells #[.int .i64 (t : Nat), .int .i64 a, .int .i64 b] 68)) ∧ Bk (w.alloc (.cells #[.int .i64 (t : Nat), .int .i64 a, .int .i64 b] 68)) w.heap.size #[.int .i64 (t : Nat), .int .i64 a, .int .i64 b] 68) := ⟨B1, K1⟩
  clear B1 K1
  have y0 := x0.out
  have ly := Lt.out.1
  go_enter Tryz.func74, Tryz.ntmps74
  go_upto_region 2 with fail
  clear y0 ly hw1 hw2 hw3 hgp
  generalize w.alloc (.cells #[.int .i64 (t : Nat), .int .i64 a, .int .i64 b] 68) = W1 at *
  refine R4.wp_region_lit 13 1 2 (fun _ b => .slice (some ⟨b, 0, none⟩) 1 1) (fun _ => .cells #[.int .i64 a, .int .i64 b, .int .i64 (mm - gp)] 100) [29] (by kernel_rfl) (by kernel_rfl) rfl ?_ rfl ?_
  · intro k hk
    have hc : k = 0 := by omega
    subst hc; rfl
  apply Exists.intro
  refine ⟨fun bs ne => ?_, ?_, ?_⟩
  · have hs := HB.out.1
    have d1 := fun u : Gb W1 bs => (u.below.cell (p := ⟨tb, 0, none⟩) (Nat.lt_of_lt_of_le Lt.out.2.1 hs.size)).trans ((hs.cell (p := ⟨tb, 0, none⟩) Lt.out.2.1).trans x1.out)
    have d2 := fun u : Gb W1 bs => (u.below.cell (p := ⟨bb, 0, none⟩) (Nat.lt_of_lt_of_le Lt.out.2.2.1 hs.size)).trans ((hs.cell (p := ⟨bb, 0, none⟩) Lt.out.2.2.1).trans x2.out)
    have d3 := fun u : Gb W1 bs => (u.below.cell (p := ⟨tg, th + t, none⟩) (Nat.lt_of_lt_of_le Lt.out.2.2.2 hs.size)).trans ((hs.cell (p := ⟨tg, th + t, none⟩) Lt.out.2.2.2).trans x3.out)
    have d4 := fun u : Gb W1 bs => (show u.wd.cell? ⟨w.heap.size, 0, none⟩ = some (.int .i64 (t : Nat)) by rw [(HB.out.2.below u.below).cell]; rfl)
    have d5 := fun u : Gb W1 bs => (show u.wd.cell? ⟨w.heap.size, 1, none⟩ = some (.int .i64 a) by rw [(HB.out.2.below u.below).cell]; rfl)
    have d6 := fun u : Gb W1 bs => (show u.wd.cell? ⟨w.heap.size, 2, none⟩ = some (.int .i64 b) by rw [(HB.out.2.below u.below).cell]; rfl)
    clear hs
    simp only [List.take_succ_cons, List.take_zero]
    repeat (go_big_quiet_step (fail))
    exact wpQuiet_nil rfl
  · intro i h1 h2
    have hc : i = 13 := by omega
    subst hc
    exact ⟨_, rfl, rfl, fun _ => by kernel_rfl⟩
  intro bl wx hbl hlo' _
  obtain ⟨q3, q4⟩ := hlo' 13 (by omega) (by omega)
  simp only [R4.layL]
  generalize bl 13 = g0 at *
  have hb2 := HB.out.1.trans (hbl.mono HB.out.1.size)
  clear hlo' hbl HB
  have o5 : wx.ownsRow lo 100 3 (.slice bo L.length bc) L.length (flatK fQ L) := HN.out.2.below hb2
  obtain ⟨ki, kz0, kz1, kz2⟩ := HJ.out
  refine wpAny_one 14 (by kernel_rfl) rfl ?_
  intro K hK
  refine step_append_lies wx (by rfl) _ _ 98 (by rfl) lo 100 j0 (.agg #[.int .i64 0, .int .i64 0, .int .i64 0]) 3 24 Tryz.underlying98 ki kz0 kz1 kz2 rfl (by decide) (.slice bo L.length bc) L.length (flatK fQ L) (by rfl) o5 ⟨g0, 0, none⟩ 1 1 [.int .i64 a, .int .i64 b, .int .i64 (mm - gp)] (by rfl) rfl (cell_bk3Y q4) (one3Y _ _ _) (by decide) (by unfold maxLen; omega) (by omega) (Nat.le_trans hlo hb2.size) wx.heap.size rfl ?_
  intro h0 cap0 X1 hown hgrow _ _
  have kb := HN.out.1.below hb2
  have hne := row_typ o5 kb (by decide)
  have kb1 := kb.grown hgrow hne
  have HRel : Hid (w.grownBy X1 (Value.slice bo L.length bc).ownBlock ∧ OwK 100 3 fQ lo X1 (.slice (some ⟨h0, 0, none⟩) (L.length + 1) cap0) (L ++ [⟨a, b, mm - gp⟩])) := by
    exact ⟨grow_tr ⟨hb2.os, hb2.tape, hb2.output, hb2.size, fun b hb _ => hb2.block b hb⟩ hgrow (.inl rfl), OwK.snoc (a := (⟨a, b, mm - gp⟩ : Bq)) rfl hown⟩
  have c2 : X1.cell? ⟨bb, 0, none⟩ = some (.slice bo L.length bc) := by rw [kb1.cell]; rfl
  have f2 := kb1.frozen 0
  clear hown hgrow o5 q3 q4 hb2 ki kz0 kz1 kz2 kb kb1 hne
  refine hK _ _ ?_
  clear hK K
  refine wpAny_one 15 (by kernel_rfl) rfl ?_
  intro K hK
  go_simp
  refine hK _ _ ?_
  clear hK K
  refine wpAny_done (by kernel_rfl) ?_ _
  go_wp2
  go_end0
  exact ⟨rfl, _, _, HRel.out.1, HRel.out.2, rfl⟩

theorem bqC_prog {gap : Int} (c : Cl) (m : Int) : (⟨(c.x : Int), ((c.x + c.k : Nat) : Int), m - gap * (((c.x + c.k : Nat) : Int) - (c.x : Int) - 1)⟩ : Bq) = bqC gap c m := by
  unfold bqC
  have e : ((c.x + c.k : Nat) : Int) - (c.x : Int) - 1 = (c.k : Int) - 1 := by omega
  rw [e, Int.mul_comm, Int.natCast_add]
theorem fill_next (g : Nat → Int) {n j : Nat} (h : j < n) : (rowN j g ++ List.replicate (n - j) 0).set j (g j) = rowN (j + 1) g ++ List.replicate (n - (j + 1)) 0 := by
  obtain ⟨m, hm⟩ : ∃ m, n - j = m + 1 := ⟨n - j - 1, by omega⟩
  rw [List.set_append_right _ _ (by rw [rowN_len]; exact Nat.le_refl _), rowN_len, Nat.sub_self, hm, List.replicate_succ, List.set_cons_zero, rowN_snoc, List.append_assoc, show n - (j + 1) = m by omega]
  rfl
theorem OwK.grown {α : Type} {t : TypeId} {k : Nat} {f : α → List Int} {lo : Nat} {w w' : World} {v : Value} {l : List α} (h : OwK t k f lo w v l) {row : Option Nat} (hg : w.grownBy w' row) (hn : v.ownBlock = none ∨ v.ownBlock ≠ row) : OwK t k f lo w' v l := World.ownsRow.kept h hg hn

set_option maxRecDepth 10000 in
set_option maxHeartbeats 8000000 in
theorem widths_any {s ms : List Int} {col gap : Int} (hE : wiE s ms col gap = 0) {lo : Nat} {v tv : Value} {us : List Value} {w : World} (hp : PlM lo w v us (prw (clN col) s)) (ht : IS w tv ms) :
    Calls Tryz.prog 51 #[.agg #[.int .i64 (clN col : Nat), v], tv, .int .i64 gap] w fun e w' => ∃ u, e = .returned (.tuple #[u, .int .i64 0]) ∧ Hid (OwI w.heap.size w' u (wsG (clN col) gap (cel (clN col) s) ms) ∧ Below w.heap.size w w') := by
  obtain ⟨hl, _, hmb, hcol, hgap, hml, _⟩ := wiE_zero hE
  have hGri := gri_of hE
  have hn64 := (clN_bd hcol).2
  have h0 := clN_pos col
  have hml' : ms.length ≤ 1024 := by omega
  obtain ⟨hSL, hSE⟩ := sol_grid hGri hn64 hgap.2 hml'
  have HCl : Hid ((cel (clN col) s).length = ms.length) := by unfold Hid; rw [cel_len, hml]
  generalize clN col = n at *
  have HE : Hid (∀ (pb gb bb tb : Nat) (bv : Value) (W : World), w.heap.size ≤ bb → gb ≠ bb → tb ≠ bb → pb ≠ bb → Below w.heap.size w W → Bk W pb #[.int .i64 (n : Nat), v] 58 → Bk W gb #[.int .i64 gap] 3 → Bk W tb #[tv] 22 → Bk W bb #[bv] 98 → OwK 100 3 fQ w.heap.size W bv (bqE n) → Calls Tryz.prog 30 #[.agg #[.int .i64 (n : Nat), v], .func (.func 74) #[] #[.pointer (some ⟨gb, 0, none⟩), .pointer (some ⟨bb, 0, none⟩), .pointer (some ⟨tb, 0, none⟩)]] W fun e w' => e = .returned (.tuple #[]) ∧ Hid (Below w.heap.size w w' ∧ Bk w' pb #[.int .i64 (n : Nat), v] 58 ∧ ∃ bv', Bk w' bb #[bv'] 98 ∧ OwK 100 3 fQ w.heap.size w' bv' (bqG n gap (cel n s) ms))) := by
    intro pb gb bb tb bv W hlo hn1 hn2 hn3 hbw k0 k1 k2 k3 k4
    have := each_prw h0 hl (v := v) (us := us) (F := 74) (caps := #[.pointer (some ⟨gb, 0, none⟩), .pointer (some ⟨bb, 0, none⟩), .pointer (some ⟨tb, 0, none⟩)]) (I := fun k W => Below w.heap.size w W ∧ Bk W pb #[.int .i64 (n : Nat), v] 58 ∧ Bk W gb #[.int .i64 gap] 3 ∧ Bk W tb #[tv] 22 ∧ ∃ bv, Bk W bb #[bv] 98 ∧ OwK 100 3 fQ w.heap.size W bv (bqE n ++ (List.zipWith (bqC gap) (cel n s) ms).take k)) widths1_enters (fun k W h => (hp.below h.1).rs) (fun k W W' h hb => ⟨h.1.trans (hb.mono h.1.size), h.2.1.below hb, h.2.2.1.below hb, h.2.2.2.1.below hb, h.2.2.2.2.imp fun _ q => ⟨q.1.below hb, q.2.below hb⟩⟩) (fun k hk W h => ?_) W ⟨hbw, k0, k1, k2, bv, k3, by rw [List.take_zero, List.append_nil]; exact k4⟩
    · refine this.mono ?_
      rintro e w' ⟨rfl, H⟩
      obtain ⟨a1, a0, _, _, bv', a2, a3⟩ := H.out
      rw [List.take_of_length_le (by rw [List.length_zipWith, HCl.out]; omega)] at a3
      exact ⟨rfl, a1, a0, bv', a2, a3⟩
    · have hk' : k < ms.length := by rw [← HCl.out]; exact hk
      obtain ⟨a1, a0, a2, a3, bv, a4, a5⟩ := h
      have hc := hGri.cel (cel n s)[k] (List.getElem_mem _)
      have hLen : (bqE n ++ (List.zipWith (bqC gap) (cel n s) ms).take k).length ≤ 100000 := by rw [List.length_append, bqE_len, List.length_take, List.length_zipWith]; omega
      refine (widths1_any (cel n s)[k].y k ((cel n s)[k].x : Nat) (((cel n s)[k].x + (cel n s)[k].k : Nat) : Int) gap gb bb tb w.heap.size _ ms bv tv W a2 a4 a3 (ht.below a1) a5 a1.size hLen hk' hgap (by omega) (by omega) hmb).mono ?_
      rintro e w' ⟨rfl, x, bv', g1, g2, rfl⟩
      rw [bqC_prog, List.append_assoc, ← zipG_take hk hk'] at g2
      have n0 : bv.ownBlock ≠ some pb := row_typ a5 a0 (by decide)
      have n1 : bv.ownBlock ≠ some gb := row_typ a5 a2 (by decide)
      have n2 : bv.ownBlock ≠ some tb := row_typ a5 a3 (by decide)
      have n3 : bv.ownBlock ≠ some bb := row_typ a5 a4 (by decide)
      have b1 : Below w.heap.size w x := app_below a1 a5 (Nat.le_refl _) g1
      have kx := a4.grown g1 n3
      refine ⟨rfl, b1.setCell (p := ⟨bb, 0, none⟩) hlo _, (a0.grown g1 n0).other _ _ (fun e => hn3 e.symm), (a2.grown g1 n1).other _ _ (fun e => hn1 e.symm), (a3.grown g1 n2).other _ _ (fun e => hn2 e.symm), bv', kx.put 0 _, ?_⟩
      exact g2.grown (grow_set x bb 0 bv') (.inr (row_typ g2 kx (by decide)))
  have HS : Hid (∀ v W, BS W v (bqG n gap (cel n s) ms) → Calls Tryz.prog 75 #[.int .i64 ((n : Int) + 1), v] W fun e w' => AnsB W (rowN (n + 1) (edG n gap (cel n s) ms)) 0 e w') := fun v W h => by
    have := Solve_any ((n : Int) + 1) (bqG n gap (cel n s) ms) v W h
    rwa [hSL, hSE] at this
  have HGr : Hid (Gri n gap (cel n s) ms) := hGri
  obtain ⟨oa, cap, e1, _, _⟩ := row_val hp.own
  subst e1
  obtain ⟨th, tc, rfl, _, _⟩ := ht
  generalize (prw n s).length = rl at *
  have hmk := fun W => make_intsA n (by omega) W
  obtain ⟨j0, ki, kz0, kz1, kz2⟩ := info_parts info_boundY
  have HJ : Hid (Tryz.prog.info? 100 = some j0 ∧ j0.zero = some (.agg #[.int .i64 0, .int .i64 0, .int .i64 0]) ∧ j0.size = 3 ∧ j0.bytes = 24) := ⟨ki, kz0, kz1, kz2⟩
  generalize cel n s = C at *
  clear hp hE hGri hSL hSE hmb ki kz0 kz1 kz2 hml hl
  go_enter Tryz.func51, Tryz.ntmps51
  go_wp2_with fail
  have H0 : Hid (Below w.heap.size w ((((w.alloc (.cells #[.int .i64 (n : Nat), .slice oa rl cap] 58)).alloc (.cells #[.slice th ms.length tc] 22)).alloc (.cells #[.int .i64 gap] 3)).alloc (.cells #[.slice none 0 0] 98)) ∧ Bk ((((w.alloc (.cells #[.int .i64 (n : Nat), .slice oa rl cap] 58)).alloc (.cells #[.slice th ms.length tc] 22)).alloc (.cells #[.int .i64 gap] 3)).alloc (.cells #[.slice none 0 0] 98)) w.heap.size #[.int .i64 (n : Nat), .slice oa rl cap] 58 ∧ Bk ((((w.alloc (.cells #[.int .i64 (n : Nat), .slice oa rl cap] 58)).alloc (.cells #[.slice th ms.length tc] 22)).alloc (.cells #[.int .i64 gap] 3)).alloc (.cells #[.slice none 0 0] 98)) (w.heap.size + 1 + 1) #[.int .i64 gap] 3 ∧ Bk ((((w.alloc (.cells #[.int .i64 (n : Nat), .slice oa rl cap] 58)).alloc (.cells #[.slice th ms.length tc] 22)).alloc (.cells #[.int .i64 gap] 3)).alloc (.cells #[.slice none 0 0] 98)) (w.heap.size + 1) #[.slice th ms.length tc] 22 ∧ Bk ((((w.alloc (.cells #[.int .i64 (n : Nat), .slice oa rl cap] 58)).alloc (.cells #[.slice th ms.length tc] 22)).alloc (.cells #[.int .i64 gap] 3)).alloc (.cells #[.slice none 0 0] 98)) (w.heap.size + 1 + 1 + 1) #[.slice none 0 0] 98) := by
    refine ⟨((((Below.refl _ _).alloc (Nat.le_refl _) _).alloc (by simp) _).alloc (by simp; omega) _).alloc (by simp; omega) _, (((Bk.newB (by simp)).alloc _).alloc _).alloc _, Bk.alloc (Bk.newB (by simp)) _, ((Bk.newB (by simp)).alloc _).alloc _, Bk.newB (by simp)⟩
  generalize ((((w.alloc (.cells #[.int .i64 (n : Nat), .slice oa rl cap] 58)).alloc (.cells #[.slice th ms.length tc] 22)).alloc (.cells #[.int .i64 gap] 3)).alloc (.cells #[.slice none 0 0] 98)) = W0 at *
  obtain ⟨pb, Hpb⟩ : ∃ pb, Hid (pb = w.heap.size) := ⟨_, rfl⟩
  obtain ⟨tb, Htb⟩ : ∃ tb, Hid (tb = w.heap.size + 1) := ⟨_, rfl⟩
  obtain ⟨gb, Hgb⟩ : ∃ gb, Hid (gb = w.heap.size + 1 + 1) := ⟨_, rfl⟩
  obtain ⟨bb, Hbb⟩ : ∃ bb, Hid (bb = w.heap.size + 1 + 1 + 1) := ⟨_, rfl⟩
  have H1 : Hid (Below w.heap.size w W0 ∧ Bk W0 pb #[.int .i64 (n : Nat), .slice oa rl cap] 58 ∧ Bk W0 gb #[.int .i64 gap] 3 ∧ Bk W0 tb #[.slice th ms.length tc] 22 ∧ ∃ bv, Bk W0 bb #[bv] 98 ∧ OwK 100 3 fQ w.heap.size W0 bv (bqE 0)) := by
    obtain ⟨a1, a2, a3, a4, a5⟩ := H0.out
    rw [← Hbb.out] at a5
    rw [← Hgb.out] at a3
    rw [← Htb.out] at a4
    rw [← Hpb.out] at a2
    exact ⟨a1, a2, a3, a4, _, a5, OwK.nil _ _ _ _ _⟩
  have HD : Hid (w.heap.size ≤ bb ∧ gb ≠ bb ∧ tb ≠ bb ∧ pb ≠ bb) := by
    unfold Hid
    rw [Hbb.out, Hgb.out, Htb.out, Hpb.out]
    omega
  clear H0
  rw [← Hbb.out, ← Hgb.out, ← Htb.out, ← Hpb.out]
  clear Hpb Htb Hgb Hbb
  go_loopw [9, 16] (fun _ i wr => ∃ k : Nat, k ≤ n ∧ i = .int .i64 k ∧ Hid (Below w.heap.size w wr ∧ Bk wr pb #[.int .i64 (n : Nat), .slice oa rl cap] 58 ∧ Bk wr gb #[.int .i64 gap] 3 ∧ Bk wr tb #[.slice th ms.length tc] 22 ∧ ∃ bv, Bk wr bb #[bv] 98 ∧ OwK 100 3 fQ w.heap.size wr bv (bqE k))) (fun _ i _ => n - (intOf i).toNat)
  case atStart => exact ⟨0, Nat.zero_le _, rfl, H1.out⟩
  case round =>
    obtain ⟨k, hk, rfl, HK⟩ := hrel
    clear H1
    by_cases hlt : k < n
    · have ik : (k : Int) < n := by omega
      obtain ⟨a1, a2, a3, a4, bv, a5, a6⟩ := HK.out
      have c0 : wr.cell? ⟨bb, 0, none⟩ = some bv := by rw [a5.cell]; rfl
      have lb := a5.lt
      have HP : Hid (Below w.heap.size w wr ∧ Bk wr pb #[.int .i64 (n : Nat), .slice oa rl cap] 58 ∧ Bk wr gb #[.int .i64 gap] 3 ∧ Bk wr tb #[.slice th ms.length tc] 22 ∧ Bk wr bb #[bv] 98) := ⟨a1, a2, a3, a4, a5⟩
      have ho : wr.ownsRow w.heap.size 100 3 bv k (flatK fQ (bqE k)) := by have h := a6; unfold OwK at h; rwa [bqE_len] at h
      obtain ⟨bo, bc, e1, _, _⟩ := row_val ho
      subst e1
      have HA : Hid (∀ o, (wr.alloc o).ownsRow w.heap.size 100 3 (.slice bo k bc) k (flatK fQ (bqE k)) ∧ w.heap.size ≤ (wr.alloc o).heap.size) := fun o => ⟨row_below ho ((Below.refl _ _).alloc (Nat.le_refl _) _), by have := a1.size; simp; omega⟩
      have hc3 : Hid (k + 1 ≤ maxLen) := by unfold Hid maxLen; omega
      have hc4 : Hid ((k + 1) * 24 ≤ 140737488355328) := by unfold Hid; omega
      obtain ⟨ki, kz0, kz1, kz2⟩ := HJ.out
      have hw1 : IntKind.i64.wrap ((k : Int) + 1) = (k : Int) + 1 := by rw [IntKind.wrap_i64]; omega
      clear HK ho a1 a2 a3 a4 a5 a6
      go_wp2_with (at_builtin; refine wpList_append_lies _ rfl _ _ 98 rfl w.heap.size 100 j0 (.agg #[.int .i64 0, .int .i64 0, .int .i64 0]) 3 24 Tryz.underlying98 ki kz0 kz1 kz2 rfl (by decide) (.slice bo k bc) k (flatK fQ (bqE k)) rfl (HA.out _).1 _ 1 1 [.int .i64 (k : Int), .int .i64 ((k : Int) + 1), .int .i64 0] rfl rfl (cell_bk3Y (Bk.new _ _ _)) (one3Y _ _ _) (by decide) hc3.out hc4.out (HA.out _).2 _ rfl ?_)
      intro g4 cap4 w4 hown' hgrow _ hg4
      have H4 : Hid (Below w.heap.size w w4 ∧ Bk w4 pb #[.int .i64 (n : Nat), .slice oa rl cap] 58 ∧ Bk w4 gb #[.int .i64 gap] 3 ∧ Bk w4 tb #[.slice th ms.length tc] 22 ∧ Bk w4 bb #[.slice bo k bc] 98 ∧ OwK 100 3 fQ w.heap.size w4 (.slice (some ⟨g4, 0, none⟩) (k + 1) cap4) (bqE (k + 1))) := by
        obtain ⟨a1, a2, a3, a4, a5⟩ := HP.out
        have b1 : Below wr.heap.size wr (wr.alloc (.cells #[.int .i64 (k : Int), .int .i64 ((k : Int) + 1), .int .i64 0] 100)) := (Below.refl _ _).alloc (Nat.le_refl _) _
        have hA := (HA.out (.cells #[.int .i64 (k : Int), .int .i64 ((k : Int) + 1), .int .i64 0] 100)).1
        have k2 := a2.below b1
        have k3 := a3.below b1
        have k4 := a4.below b1
        have k5 := a5.below b1
        refine ⟨app_below (a1.trans (b1.mono a1.size)) hA (Nat.le_refl _) hgrow, k2.grown hgrow (row_typ hA k2 (by decide)), k3.grown hgrow (row_typ hA k3 (by decide)), k4.grown hgrow (row_typ hA k4 (by decide)), k5.grown hgrow (row_typ hA k5 (by decide)), ?_⟩
        rw [bqE_snoc]
        exact OwK.snoc (by rw [bqE_len]) hown'
      clear hown' hgrow HA HP ki kz0 kz1 kz2 c0 lb
      have c0 : w4.cell? ⟨bb, 0, none⟩ = some (.slice bo k bc) := by rw [H4.out.2.2.2.2.1.cell]; rfl
      have f0 := H4.out.2.2.2.2.1.frozen 0
      have H5 : Hid (Below w.heap.size w (w4.setCell ⟨bb, 0, none⟩ (.slice (some ⟨g4, 0, none⟩) (k + 1) cap4)) ∧ Bk (w4.setCell ⟨bb, 0, none⟩ (.slice (some ⟨g4, 0, none⟩) (k + 1) cap4)) pb #[.int .i64 (n : Nat), .slice oa rl cap] 58 ∧ Bk (w4.setCell ⟨bb, 0, none⟩ (.slice (some ⟨g4, 0, none⟩) (k + 1) cap4)) gb #[.int .i64 gap] 3 ∧ Bk (w4.setCell ⟨bb, 0, none⟩ (.slice (some ⟨g4, 0, none⟩) (k + 1) cap4)) tb #[.slice th ms.length tc] 22 ∧ ∃ bv, Bk (w4.setCell ⟨bb, 0, none⟩ (.slice (some ⟨g4, 0, none⟩) (k + 1) cap4)) bb #[bv] 98 ∧ OwK 100 3 fQ w.heap.size (w4.setCell ⟨bb, 0, none⟩ (.slice (some ⟨g4, 0, none⟩) (k + 1) cap4)) bv (bqE (k + 1))) := by
        obtain ⟨a1, a2, a3, a4, a5, a6⟩ := H4.out
        obtain ⟨d1, d2, d3, d4⟩ := HD.out
        exact ⟨a1.setCell (p := ⟨bb, 0, none⟩) d1 _, a2.other _ _ (fun e => d4 e.symm), a3.other _ _ (fun e => d2 e.symm), a4.other _ _ (fun e => d3 e.symm), _, a5.put 0 _, a6.grown (grow_set w4 bb 0 _) (.inr (row_typ a6 a5 (by decide)))⟩
      clear H4
      go_wp2
      exact ⟨⟨k + 1, by omega, by go_num, H5⟩, by simp [intOf]; omega⟩
    · obtain rfl : k = n := by omega
      obtain ⟨a1, a2, a3, a4, bv, a5, a6⟩ := HK.out
      have c0 := a2.at2.1
      have c1 := a2.at2.2
      have HEx := HE.out pb gb bb tb bv wr HD.out.1 HD.out.2.1 HD.out.2.2.1 HD.out.2.2.2 a1 a2 a3 a4 a5 a6
      clear HK a1 a2 a3 a4 a5 a6 HE
      go_wp2_with fail
      refine HEx.mono ?_
      rintro e w1 ⟨rfl, H1⟩
      clear HEx c0 c1
      obtain ⟨b1, b2, bv', b3, b4⟩ := H1.out
      have c0 : w1.cell? ⟨pb, 0, none⟩ = some (.int .i64 (k : Nat)) := b2.at2.1
      have c2 : w1.cell? ⟨bb, 0, none⟩ = some bv' := by rw [b3.cell]; rfl
      have HSx := HS.out bv' w1 (b4.ks encQ).bs
      have HP : Hid (Below w.heap.size w w1 ∧ Bk w1 pb #[.int .i64 (k : Nat), .slice oa rl cap] 58) := ⟨b1, b2⟩
      obtain ⟨bo, bc, e1, _, _⟩ := row_val b4
      clear H1 b1 b2 b3 b4
      subst e1
      have hw1 : IntKind.i64.wrap ((k : Int) + 1) = (k : Int) + 1 := by rw [IntKind.wrap_i64]; omega
      go_wp2_with fail
      refine HSx.mono ?_
      rintro e w3 ⟨ev, rfl, H3⟩
      clear HSx HS
      have H3b : Hid (Below w.heap.size w w3 ∧ Bk w3 pb #[.int .i64 (k : Nat), .slice oa rl cap] 58) := ⟨HP.out.1.trans (H3.out.2.mono HP.out.1.size), HP.out.2.below H3.out.2⟩
      have H3e : Hid (IS w3 ev (rowN (k + 1) (edG k gap C ms))) := H3.out.1.is
      clear H3 HP c0 c2
      obtain ⟨eo, ec, rfl, _, eg⟩ := id H3e.out
      obtain ⟨egb, eof, rfl, egl, eat⟩ := eg (by rw [rowN_len]; omega)
      have HEa : Hid (∀ i, i < k + 1 → w3.cell? ⟨egb, eof + i, none⟩ = some (.int .i64 (edG k gap C ms i))) := fun i hi => by
        rw [eat i (by rw [rowN_len]; exact hi)]
        have := rowN_at (edG k gap C ms) hi
        rw [List.getElem?_eq_some_iff] at this
        obtain ⟨_, e⟩ := this
        rw [e]
      clear eat eg H3e
      rw [rowN_len]
      have c0 : w3.cell? ⟨pb, 0, none⟩ = some (.int .i64 (k : Nat)) := H3b.out.2.at2.1
      have lpb := H3b.out.2.lt
      go_wp2_with fail
      obtain ⟨hg, Hhg⟩ : ∃ hg, Hid (hg = w3.heap.size) := ⟨_, rfl⟩
      have H4 : Hid (Nb (w3.alloc (.cells (flatI (List.replicate k 0)).toArray 3)) hg (rowN 0 (wiG k gap C ms) ++ List.replicate (k - 0) 0) ∧ Below w3.heap.size w3 (w3.alloc (.cells (flatI (List.replicate k 0)).toArray 3))) := by
        refine ⟨?_, (Below.refl _ _).alloc (Nat.le_refl _) _⟩
        have e : rowN 0 (wiG k gap C ms) ++ List.replicate (k - 0) 0 = List.replicate k 0 := by simp [rowN]
        rw [e, Hhg.out]
        exact Bk.new _ _ _
      clear c0 lpb
      rw [← Hhg.out]
      generalize w3.alloc (.cells (flatI (List.replicate k 0)).toArray 3) = W3 at *
      have HHl : Hid (w3.heap.size ≤ hg) := by have := Hhg.out; unfold Hid; omega
      clear hmk
      go_loopw [13, 46] (fun _ i wr => ∃ j : Nat, j ≤ k ∧ i = .int .i64 j ∧ Hid (Nb wr hg (rowN j (wiG k gap C ms) ++ List.replicate (k - j) 0) ∧ Below w3.heap.size w3 wr)) (fun _ i _ => k - (intOf i).toNat)
      case atStart => exact ⟨0, Nat.zero_le _, rfl, H4.out⟩
      case round =>
        obtain ⟨j, hj, rfl, HL⟩ := hrel
        clear H4
        by_cases hjt : j < k
        · have ij : (j : Int) < k := by omega
          have hb := HL.out.2
          have x0 : wr.cell? ⟨egb, eof + (j + 1), none⟩ = some (.int .i64 (edG k gap C ms (j + 1))) := (hb.cell (p := ⟨egb, eof + (j + 1), none⟩) egl).trans (HEa.out (j + 1) (by omega))
          have x1 : wr.cell? ⟨egb, eof + j, none⟩ = some (.int .i64 (edG k gap C ms j)) := (hb.cell (p := ⟨egb, eof + j, none⟩) egl).trans (HEa.out j (by omega))
          have l0 : egb < wr.heap.size := Nat.lt_of_lt_of_le egl hb.size
          have hll : j < (rowN j (wiG k gap C ms) ++ List.replicate (k - j) 0).length := by rw [List.length_append, rowN_len, List.length_replicate]; omega
          obtain ⟨z, z0⟩ : ∃ z, wr.cell? ⟨hg, j, none⟩ = some (.int .i64 z) := ⟨_, HL.out.1.at j hll⟩
          have l1 : hg < wr.heap.size := HL.out.1.lt
          have e0 := edG_bd HGr.out (v := j) (by omega)
          have e1 := edG_bd HGr.out (v := j + 1) (by omega)
          have HZ : Hid (∀ X, Below wr.heap.size wr X → (Nb (X.setCell ⟨hg, j, none⟩ (.int .i64 (edG k gap C ms (j + 1) - edG k gap C ms j))) hg (rowN (j + 1) (wiG k gap C ms) ++ List.replicate (k - (j + 1)) 0) ∧ Below w3.heap.size w3 (X.setCell ⟨hg, j, none⟩ (.int .i64 (edG k gap C ms (j + 1) - edG k gap C ms j)))) ∧ X.frozen? ⟨hg, j, none⟩ = false) := fun X hX => by
            refine ⟨⟨?_, (hb.trans (hX.mono hb.size)).setCell (p := ⟨hg, j, none⟩) HHl.out _⟩, (HL.out.1.below hX).frozen j⟩
            rw [← fill_next (wiG k gap C ms) hjt]
            exact (HL.out.1.below hX).put j _
          clear HL hb hll
          generalize edG k gap C ms (j + 1) = ea at *
          generalize edG k gap C ms j = eb at *
          have hw2 : IntKind.i64.wrap ((j : Int) + 1) = (j : Int) + 1 := by rw [IntKind.wrap_i64]; omega
          have hw3 : IntKind.i64.wrap (ea - eb) = ea - eb := by rw [IntKind.wrap_i64]; omega
          have ht : ((j : Int) + 1).toNat = j + 1 := by omega
          have ij1 : (j : Int) + 1 < ((k + 1 : Nat) : Int) := by omega
          go_upto_region 15 with fail
          refine R4.wp_region_lit 13 0 1 (fun _ _ => undef) (fun _ => .cells #[] 0) [] (by kernel_rfl) (by kernel_rfl) rfl (fun k hk => absurd hk (by omega)) rfl ?_
          apply Exists.intro
          refine ⟨fun bs ne => ?_, fun i h1 h2 => absurd h2 (by omega), ?_⟩
          · have d0 := fun t : Gb wr bs => (t.below.cell (p := ⟨egb, eof + (j + 1), none⟩) l0).trans x0
            have d1 := fun t : Gb wr bs => (t.below.cell (p := ⟨egb, eof + j, none⟩) l0).trans x1
            simp only [List.take_succ_cons, List.take_zero]
            repeat (go_big_quiet_step (fail))
            exact wpQuiet_nil rfl
          · intro bl wx hbl _ _
            simp only [R4.layL]
            obtain ⟨hE', ff⟩ := HZ.out wx hbl
            have HE' : Hid (Nb (wx.setCell ⟨hg, j, none⟩ (.int .i64 (ea - eb))) hg (rowN (j + 1) (wiG k gap C ms) ++ List.replicate (k - (j + 1)) 0) ∧ Below w3.heap.size w3 (wx.setCell ⟨hg, j, none⟩ (.int .i64 (ea - eb)))) := hE'
            have b1 : wx.cell? ⟨hg, j, none⟩ = some (.int .i64 z) := (hbl.cell (p := ⟨hg, j, none⟩) l1).trans z0
            clear hE' HZ hbl x0 x1 z0
            refine wpAny_one 13 (by kernel_rfl) rfl ?_
            intro K hK
            go_simp
            refine hK _ _ ?_
            clear hK K
            refine wpAny_done (by kernel_rfl) ?_ _
            go_wp2
            exact ⟨⟨j + 1, by omega, by go_num, HE'⟩, by simp [intOf]; omega⟩
        · obtain rfl : j = k := by omega
          have HF : Hid (OwI w.heap.size wr (.slice (some ⟨hg, 0, none⟩) j j) (wsG j gap C ms) ∧ Below w.heap.size w wr) := by
            obtain ⟨h1, h2⟩ := HL.out
            have e : rowN j (wiG j gap C ms) ++ List.replicate (j - j) 0 = wsG j gap C ms := by rw [Nat.sub_self, List.replicate_zero, List.append_nil]; rfl
            rw [e] at h1
            have := h1.own (lo := w.heap.size) (Nat.le_trans H3b.out.1.size HHl.out) (by rw [wsG_len]; unfold maxLen; omega)
            rw [wsG_len] at this
            exact ⟨this, H3b.out.1.trans (h2.mono H3b.out.1.size)⟩
          clear HL HEa
          go_wp2
          go_ret2
          exact ⟨_, rfl, HF⟩

end Go.Proofs.YthnhcphkpffkfaaGreat
