/-
  The document's answer: how strong rules are against one another.
-/
import Derived.Test.YtobmpjmpffnoiaaDoorSQ3
import Derived.Test.YtobmpjmpffnoiaaDoorSW5
import Derived.Test.YtobmpjmpffnoiaaDoorSOr1
import Derived.Test.YtobmpjmpffnoiaaDoorReg3
namespace Go.Proofs.YtobmpjmpffnoiaaDoor
open Go.RowKit Go.Shelf

theorem low_fin : ∀ s : Fin 16, bits .and .u8 ((s.val : Nat) : Int) 1 = ((s.val % 2 : Nat) : Int) ∧ bits .and .u8 (((s.val : Nat) : Int) / 2) 1 = ((s.val / 2 % 2 : Nat) : Int) ∧ bits .and .u8 (((s.val : Nat) : Int) / 4) 1 = ((s.val / 4 % 2 : Nat) : Int) ∧ bits .and .u8 (((s.val : Nat) : Int) / 8) 1 = ((s.val / 8 % 2 : Nat) : Int) := by decide +kernel

set_option maxHeartbeats 1000000 in
theorem rbits_any (s : Nat) (w : World) (h : s ≤ 15) :
    Calls Tryd.prog 56 #[.int .u8 (s : Nat)] w fun e w' => e = .returned (.int .i64 (ones s : Nat)) ∧ w' = w := by
  obtain ⟨l0, l1, l2, l3⟩ := low_fin ⟨s, by omega⟩
  simp only at l0 l1 l2 l3
  have m0 : s % 2 < 2 := by omega
  have m1 : s / 2 % 2 < 2 := by omega
  have m2 : s / 4 % 2 < 2 := by omega
  have m3 : s / 8 % 2 < 2 := by omega
  have HC : Hid (cnt s 1 = 0 + s % 2 ∧ cnt s 2 = cnt s 1 + s / 2 % 2 ∧ cnt s 3 = cnt s 2 + s / 4 % 2 ∧ cnt s 4 = cnt s 3 + s / 8 % 2 ∧ cnt s 4 = ones s) := by
    refine ⟨?_, rfl, rfl, rfl, cnt_end ⟨s, by omega⟩ ⟨4, by decide⟩ (by show s / 2 ^ 4 = 0; omega)⟩
    show 0 + s / 2 ^ 0 % 2 = _
    simp
  generalize s % 2 = d0 at *
  generalize s / 2 % 2 = d1 at *
  generalize s / 4 % 2 = d2 at *
  generalize s / 8 % 2 = d3 at *
  go_enter Tryd.func56, Tryd.ntmps56
  go_wp2_with fail
  go_loopw [3, 4] (fun n i wr => wr = w ∧ ∃ k c : Nat, k ≤ 4 ∧ Hid (c = cnt s k) ∧ c ≤ k ∧ n = .int .i64 (c : Nat) ∧ i = .int .i64 k) (fun _ i _ => 4 - (intOf i).toNat)
  case atStart => exact ⟨rfl, 0, 0, by omega, rfl, by omega, rfl, rfl⟩
  case round =>
    obtain ⟨rfl, k, c, hk, HK, hck, rfl, rfl⟩ := hrel
    obtain rfl | rfl | rfl | rfl | rfl : k = 0 ∨ k = 1 ∨ k = 2 ∨ k = 3 ∨ k = 4 := by omega
    · go_wp2_with fail
      go_roundw
      case rel =>
        refine ⟨trivial, 1, c + d0, by omega, ?_, by omega, by go_num, by go_num⟩
        have h1 : c = 0 := HK.out
        show c + d0 = cnt s 1
        rw [HC.out.1, h1]
      case measure => simp [intOf]
    · go_wp2_with fail
      go_roundw
      case rel =>
        refine ⟨trivial, 2, c + d1, by omega, ?_, by omega, by go_num, by go_num⟩
        have h1 : c = cnt s 1 := HK.out
        show c + d1 = cnt s 2
        rw [HC.out.2.1, h1]
      case measure => simp [intOf]
    · go_wp2_with fail
      go_roundw
      case rel =>
        refine ⟨trivial, 3, c + d2, by omega, ?_, by omega, by go_num, by go_num⟩
        have h1 : c = cnt s 2 := HK.out
        show c + d2 = cnt s 3
        rw [HC.out.2.2.1, h1]
      case measure => simp [intOf]
    · go_wp2_with fail
      go_roundw
      case rel =>
        refine ⟨trivial, 4, c + d3, by omega, ?_, by omega, by go_num, by go_num⟩
        have h1 : c = cnt s 3 := HK.out
        show c + d3 = cnt s 4
        rw [HC.out.2.2.2.1, h1]
      case measure => simp [intOf]
    · have h1 : Hid (c = ones s) := by
        have h2 : c = cnt s 4 := HK.out
        exact h2.trans HC.out.2.2.2.2
      go_wp2
      go_ret
      exact ⟨by rw [← h1.out]; rfl, rfl⟩

set_option maxHeartbeats 1000000 in
theorem rtold_any (b : Bool) (w : World) :
    Calls Tryd.prog 40 #[.bool b] w fun e w' => e = .returned (.int .i64 (b.toNat : Nat)) ∧ w' = w := by
  cases b
  · go_enter Tryd.func40, Tryd.ntmps40
    go_wp2
    go_ret
    exact ⟨rfl, rfl⟩
  · go_enter Tryd.func40, Tryd.ntmps40
    go_wp2
    go_ret
    exact ⟨rfl, rfl⟩

theorem isEmpty_size (t : ByteArray) : t.toList.isEmpty = (t.size == 0) := by
  by_cases hz : t.size = 0
  · rw [txt_nil hz, txt_list]; rfl
  · rw [(txt_ne hz).2, beq_eq_false_iff_ne.2 hz]

set_option maxRecDepth 20000 in
set_option maxHeartbeats 4000000 in
theorem rstronger_any (rs : List Rl) (v : Value) (x y : Nat) (w : World) (hv : Rules w v rs) (hs : ∀ r ∈ rs, r.state ≤ 15) (hx : x < rs.length) (hy : y < rs.length) (hn : rs.length < 1000000) :
    Calls Tryd.prog 39 #[v, .int .i64 x, .int .i64 y] w fun e w' => e = .returned (.bool (decide (str rs y < str rs x ∨ (str rs y = str rs x ∧ y < x)))) ∧ Below w.heap.size w w' := by
  obtain ⟨oa, cap, rfl, hc, hg⟩ := hv
  obtain ⟨g, o, rfl, hg, hat⟩ := hg (by omega)
  have S1 : Hid (∀ w, Calls Tryd.prog 56 #[.int .u8 (rs[x].state : Nat)] w fun e w' => e = .returned (.int .i64 (ones rs[x].state : Nat)) ∧ w' = w) := fun w => rbits_any _ w (hs _ (List.getElem_mem hx))
  have S2 : Hid (∀ w, Calls Tryd.prog 56 #[.int .u8 (rs[y].state : Nat)] w fun e w' => e = .returned (.int .i64 (ones rs[y].state : Nat)) ∧ w' = w) := fun w => rbits_any _ w (hs _ (List.getElem_mem hy))
  have ST : Hid (∀ b w, Calls Tryd.prog 40 #[.bool b] w fun e w' => e = .returned (.int .i64 (b.toNat : Nat)) ∧ w' = w) := rtold_any
  have N1 := isEmpty_size rs[x].cls
  have N2 := isEmpty_size rs[y].cls
  have lx : (x : Int) < (rs.length : Int) := by omega
  have ly : (y : Int) < (rs.length : Int) := by omega
  have kx : ((rs[x].kind : Int) != 0) = !(rs[x].kind == 0) := by
    by_cases h : rs[x].kind = 0
    · rw [h]; rfl
    · rw [beq_eq_false_iff_ne.2 h]; simp; omega
  have ky : ((rs[y].kind : Int) != 0) = !(rs[y].kind == 0) := by
    by_cases h : rs[y].kind = 0
    · rw [h]; rfl
    · rw [beq_eq_false_iff_ne.2 h]; simp; omega
  have hax := hat x hx
  have hay := hat y hy
  have HP : Hid (str rs x = 4 * (ones rs[x].state : Int) + 2 * ((!(rs[x].cls.size == 0)).toNat : Int) + ((!(rs[x].kind == 0)).toNat : Int) ∧ str rs y = 4 * (ones rs[y].state : Int) + 2 * ((!(rs[y].cls.size == 0)).toNat : Int) + ((!(rs[y].kind == 0)).toNat : Int)) := by
    rw [str_at hx, str_at hy]
    unfold strg
    constructor
    · cases rs[x].cls.size == 0 <;> cases rs[x].kind == 0 <;> simp
    · cases rs[y].cls.size == 0 <;> cases rs[y].kind == 0 <;> simp
  clear hat hs
  generalize str rs x = u1 at *
  generalize str rs y = u2 at *
  generalize ones rs[x].state = p0 at *
  generalize ones rs[y].state = q0 at *
  generalize (rs[x].cls.size == 0) = c1 at *
  generalize (rs[y].cls.size == 0) = c2 at *
  generalize (!(rs[x].kind == 0)) = k1 at *
  generalize (!(rs[y].kind == 0)) = k2 at *
  generalize rs[x] = X at *
  generalize rs[y] = Y at *
  obtain ⟨D, HD⟩ : ∃ D, Hid (D = decide (u2 < u1 ∨ (u2 = u1 ∧ y < x))) := ⟨_, rfl⟩
  rw [← HD.out]
  have HXY : Hid (RlAt w g (o + x * 14) X ∧ RlAt w g (o + y * 14) Y) := ⟨hax, hay⟩
  clear hax hay
  go_enter Tryd.func39, Tryd.ntmps39
  go_wp2_with fail
  refine R3.wp_region_lit 21 1 1 (fun _ b => .slice (some ⟨b, 0, none⟩) 4 4) (fun _ => .cells #[.int .i64 (p0 : Nat), .int .i64 ((!c1).toNat : Nat), .int .i64 (k1.toNat : Nat), .int .i64 (x : Nat)] 3) [31] (by kernel_rfl) (by kernel_rfl) rfl ?_ rfl ?_
  · intro k hk
    have hc : k = 0 := by omega
    subst hc; rfl
  apply Exists.intro
  refine ⟨fun bs ne => ?_, ?_, ?_⟩
  · have q := fun t : Gb w bs => HXY.out.1.kept (w' := t.wd) fun j => t.below.cell (p := ⟨g, j, none⟩) hg
    have d0 := fun t : Gb w bs => (q t).1
    have d1 := fun t : Gb w bs => (q t).2.1
    have d2 := fun t : Gb w bs => (q t).2.2.1
    clear q
    simp only [List.take_succ_cons, List.take_zero]
    repeat (go_big_quiet_step (first
      | (go_at_call 56; exact gb_same (S1.out _))
      | (go_at_call 40; exact gb_same (ST.out _ _))))
    exact wpQuiet_nil rfl
  · intro i h1 h2
    have hc : i = 21 := by omega
    subst hc
    exact ⟨_, rfl, rfl, fun _ => by kernel_rfl⟩
  intro bl wra hba hlo _
  obtain ⟨k1a, k2a⟩ := hlo 21 (by omega) (by omega)
  simp only [R3.layL]
  generalize bl 21 = ga at *
  clear hlo
  refine wpAny_one 22 (by kernel_rfl) rfl ?_
  intro K hK
  go_simp
  refine hK _ _ ?_
  clear hK K
  refine wpAny_done (by kernel_rfl) ?_ _
  have HA : Hid (Blk wra ga #[.int .i64 (p0 : Nat), .int .i64 ((!c1).toNat : Nat), .int .i64 (k1.toNat : Nat), .int .i64 (x : Nat)] 3 ∧ w.heap.size ≤ ga ∧ Below w.heap.size w wra) := ⟨k2a, k1a, hba⟩
  clear k1a k2a hba
  go_wp2_with fail
  refine R3.wp_region_lit 21 1 1 (fun _ b => .slice (some ⟨b, 0, none⟩) 4 4) (fun _ => .cells #[.int .i64 (q0 : Nat), .int .i64 ((!c2).toNat : Nat), .int .i64 (k2.toNat : Nat), .int .i64 (y : Nat)] 3) [53] (by kernel_rfl) (by kernel_rfl) rfl ?_ rfl ?_
  · intro k hk
    have hc : k = 0 := by omega
    subst hc; rfl
  apply Exists.intro
  refine ⟨fun bs ne => ?_, ?_, ?_⟩
  · have q := fun t : Gb wra bs => HXY.out.2.kept (w' := t.wd) fun j => (HA.out.2.2.trans (t.below.mono HA.out.2.2.size)).cell (p := ⟨g, j, none⟩) hg
    have d0 := fun t : Gb wra bs => (q t).1
    have d1 := fun t : Gb wra bs => (q t).2.1
    have d2 := fun t : Gb wra bs => (q t).2.2.1
    clear q
    simp only [List.take_succ_cons, List.take_zero]
    repeat (go_big_quiet_step (first
      | (go_at_call 56; exact gb_same (S2.out _))
      | (go_at_call 40; exact gb_same (ST.out _ _))))
    exact wpQuiet_nil rfl
  · intro i h1 h2
    have hc : i = 21 := by omega
    subst hc
    exact ⟨_, rfl, rfl, fun _ => by kernel_rfl⟩
  intro bl wrb hbb hlo _
  obtain ⟨k1b, k2b⟩ := hlo 21 (by omega) (by omega)
  simp only [R3.layL]
  generalize bl 21 = gb at *
  clear hlo
  refine wpAny_one 22 (by kernel_rfl) rfl ?_
  intro K hK
  go_simp
  refine hK _ _ ?_
  clear hK K
  refine wpAny_done (by kernel_rfl) ?_ _
  have HB : Hid (Blk wrb ga #[.int .i64 (p0 : Nat), .int .i64 ((!c1).toNat : Nat), .int .i64 (k1.toNat : Nat), .int .i64 (x : Nat)] 3 ∧ Blk wrb gb #[.int .i64 (q0 : Nat), .int .i64 ((!c2).toNat : Nat), .int .i64 (k2.toNat : Nat), .int .i64 (y : Nat)] 3 ∧ Below w.heap.size w wrb) := ⟨HA.out.1.below hbb, k2b, HA.out.2.2.trans (hbb.mono HA.out.2.2.size)⟩
  clear k1b k2b hbb HA
  go_wp2_with fail
  have hb1 : (!c1).toNat ≤ 1 ∧ (!c2).toNat ≤ 1 ∧ k1.toNat ≤ 1 ∧ k2.toNat ≤ 1 := ⟨Bool.toNat_le _, Bool.toNat_le _, Bool.toNat_le _, Bool.toNat_le _⟩
  have HQ : Hid ((u1 = 4 * (p0 : Int) + 2 * ((!c1).toNat : Int) + (k1.toNat : Int) ∧ u2 = 4 * (q0 : Int) + 2 * ((!c2).toNat : Int) + (k2.toNat : Int)) ∧ ((!c1).toNat ≤ 1 ∧ (!c2).toNat ≤ 1 ∧ k1.toNat ≤ 1 ∧ k2.toNat ≤ 1)) := ⟨HP.out, hb1⟩
  clear hb1 HP
  generalize (!c1).toNat = m1 at *
  generalize (!c2).toNat = m2 at *
  generalize k1.toNat = n1 at *
  generalize k2.toNat = n2 at *
  go_loopw [9] (fun i wr => ∃ j : Nat, j ≤ 4 ∧ i = .int .i64 j ∧ Hid ((0 < j → p0 = q0) ∧ (1 < j → m1 = m2) ∧ (2 < j → n1 = n2) ∧ (3 < j → x = y) ∧ Blk wr ga #[.int .i64 (p0 : Nat), .int .i64 (m1 : Nat), .int .i64 (n1 : Nat), .int .i64 (x : Nat)] 3 ∧ Blk wr gb #[.int .i64 (q0 : Nat), .int .i64 (m2 : Nat), .int .i64 (n2 : Nat), .int .i64 (y : Nat)] 3 ∧ Below w.heap.size w wr)) (fun i _ => 4 - (intOf i).toNat)
  case atStart => exact ⟨0, by omega, rfl, fun h => absurd h (by omega), fun h => absurd h (by omega), fun h => absurd h (by omega), fun h => absurd h (by omega), HB.out⟩
  case round =>
    obtain ⟨j, hj, rfl, HR⟩ := hrel
    clear HB
    have ne := gw_ne HR.out.2.2.2.2.2.2
    have HZ : Hid (∀ t : Gw wr, Blk t.wd ga #[.int .i64 (p0 : Nat), .int .i64 (m1 : Nat), .int .i64 (n1 : Nat), .int .i64 (x : Nat)] 3 ∧ Blk t.wd gb #[.int .i64 (q0 : Nat), .int .i64 (m2 : Nat), .int .i64 (n2 : Nat), .int .i64 (y : Nat)] 3 ∧ Below w.heap.size w t.wd) := fun t => ⟨HR.out.2.2.2.2.1.below t.below, HR.out.2.2.2.2.2.1.below t.below, HR.out.2.2.2.2.2.2.trans (t.below.mono HR.out.2.2.2.2.2.2.size)⟩
    obtain rfl | rfl | rfl | rfl | rfl : j = 0 ∨ j = 1 ∨ j = 2 ∨ j = 3 ∨ j = 4 := by omega
    · have z1 := fun t : Gw wr => (HZ.out t).1.cell 0
      have z2 := fun t : Gw wr => (HZ.out t).2.1.cell 0
      simp at z1 z2
      by_cases he : p0 = q0
      · have he' : ((p0 : Nat) : Int) = ((q0 : Nat) : Int) := by omega
        have HE : Hid (p0 = q0) := he
        go_wp2_with fail
        refine wp_region_gw (by kernel_rfl) (by kernel_rfl) ?_
        repeat (go_big_quiet_step (fail))
        refine wpQuiet_nil ?_
        rintro _ ⟨t, rfl⟩
        go_wp2_with fail
        go_roundw
        case rel => exact ⟨1, by omega, by go_num, fun _ => he, fun h => absurd h (by omega), fun h => absurd h (by omega), fun h => absurd h (by omega), HZ.out t⟩
        case measure => simp [intOf]
      · have he' : (((p0 : Nat) : Int) != ((q0 : Nat) : Int)) = true := bne_iff_ne.2 (by omega)
        have hD : D = decide (((q0 : Nat) : Int) < ((p0 : Nat) : Int)) := by
          rw [HD.out]
          obtain ⟨⟨e1, e2⟩, _⟩ := HQ.out
          refine decide_eq_decide.2 ?_
          omega
        have HD' : Hid (D = decide (((q0 : Nat) : Int) < ((p0 : Nat) : Int))) := hD
        clear hD
        go_wp2_with fail
        refine wp_region_gw (by kernel_rfl) (by kernel_rfl) ?_
        repeat (go_big_quiet_step (fail))
        refine wpQuiet_nil ?_
        rintro _ ⟨t, rfl⟩
        obtain ⟨B1, B2, L1⟩ := HZ.out t
        generalize t.wd = W1 at *
        have ne1 := gw_ne L1
        have HL1 : Hid (Below w.heap.size w W1) := L1
        have y1 := fun t : Gw W1 => (B1.below t.below).cell 0
        have y2 := fun t : Gw W1 => (B2.below t.below).cell 0
        simp at y1 y2
        clear z1 z2 B1 B2 L1 HZ ne
        go_wp2_with fail
        refine wp_region_gw (by kernel_rfl) (by kernel_rfl) ?_
        repeat (go_big_quiet_step (fail))
        refine wpQuiet_nil ?_
        rintro _ ⟨t, rfl⟩
        go_wp2
        go_ret
        exact ⟨by rw [HD'.out]; first | rfl | simp, HL1.out.trans (t.below.mono HL1.out.size)⟩
    · have z1 := fun t : Gw wr => (HZ.out t).1.cell 1
      have z2 := fun t : Gw wr => (HZ.out t).2.1.cell 1
      simp at z1 z2
      by_cases he : m1 = m2
      · have he' : ((m1 : Nat) : Int) = ((m2 : Nat) : Int) := by omega
        have HE : Hid (m1 = m2) := he
        go_wp2_with fail
        refine wp_region_gw (by kernel_rfl) (by kernel_rfl) ?_
        repeat (go_big_quiet_step (fail))
        refine wpQuiet_nil ?_
        rintro _ ⟨t, rfl⟩
        go_wp2_with fail
        go_roundw
        case rel => exact ⟨2, by omega, by go_num, fun _ => HR.out.1 (by omega), fun _ => he, fun h => absurd h (by omega), fun h => absurd h (by omega), HZ.out t⟩
        case measure => simp [intOf]
      · have he' : (((m1 : Nat) : Int) != ((m2 : Nat) : Int)) = true := bne_iff_ne.2 (by omega)
        have hD : D = decide (((m2 : Nat) : Int) < ((m1 : Nat) : Int)) := by
          rw [HD.out]
          obtain ⟨⟨e1, e2⟩, _⟩ := HQ.out
          refine decide_eq_decide.2 ?_
          have := HR.out.1 (by omega)
          omega
        have HD' : Hid (D = decide (((m2 : Nat) : Int) < ((m1 : Nat) : Int))) := hD
        clear hD
        go_wp2_with fail
        refine wp_region_gw (by kernel_rfl) (by kernel_rfl) ?_
        repeat (go_big_quiet_step (fail))
        refine wpQuiet_nil ?_
        rintro _ ⟨t, rfl⟩
        obtain ⟨B1, B2, L1⟩ := HZ.out t
        generalize t.wd = W1 at *
        have ne1 := gw_ne L1
        have HL1 : Hid (Below w.heap.size w W1) := L1
        have y1 := fun t : Gw W1 => (B1.below t.below).cell 1
        have y2 := fun t : Gw W1 => (B2.below t.below).cell 1
        simp at y1 y2
        clear z1 z2 B1 B2 L1 HZ ne
        go_wp2_with fail
        refine wp_region_gw (by kernel_rfl) (by kernel_rfl) ?_
        repeat (go_big_quiet_step (fail))
        refine wpQuiet_nil ?_
        rintro _ ⟨t, rfl⟩
        go_wp2
        go_ret
        exact ⟨by rw [HD'.out]; first | rfl | simp, HL1.out.trans (t.below.mono HL1.out.size)⟩
    · have z1 := fun t : Gw wr => (HZ.out t).1.cell 2
      have z2 := fun t : Gw wr => (HZ.out t).2.1.cell 2
      simp at z1 z2
      by_cases he : n1 = n2
      · have he' : ((n1 : Nat) : Int) = ((n2 : Nat) : Int) := by omega
        have HE : Hid (n1 = n2) := he
        go_wp2_with fail
        refine wp_region_gw (by kernel_rfl) (by kernel_rfl) ?_
        repeat (go_big_quiet_step (fail))
        refine wpQuiet_nil ?_
        rintro _ ⟨t, rfl⟩
        go_wp2_with fail
        go_roundw
        case rel => exact ⟨3, by omega, by go_num, fun _ => HR.out.1 (by omega), fun _ => HR.out.2.1 (by omega), fun _ => he, fun h => absurd h (by omega), HZ.out t⟩
        case measure => simp [intOf]
      · have he' : (((n1 : Nat) : Int) != ((n2 : Nat) : Int)) = true := bne_iff_ne.2 (by omega)
        have hD : D = decide (((n2 : Nat) : Int) < ((n1 : Nat) : Int)) := by
          rw [HD.out]
          obtain ⟨⟨e1, e2⟩, _⟩ := HQ.out
          refine decide_eq_decide.2 ?_
          have := HR.out.1 (by omega)
          have := HR.out.2.1 (by omega)
          omega
        have HD' : Hid (D = decide (((n2 : Nat) : Int) < ((n1 : Nat) : Int))) := hD
        clear hD
        go_wp2_with fail
        refine wp_region_gw (by kernel_rfl) (by kernel_rfl) ?_
        repeat (go_big_quiet_step (fail))
        refine wpQuiet_nil ?_
        rintro _ ⟨t, rfl⟩
        obtain ⟨B1, B2, L1⟩ := HZ.out t
        generalize t.wd = W1 at *
        have ne1 := gw_ne L1
        have HL1 : Hid (Below w.heap.size w W1) := L1
        have y1 := fun t : Gw W1 => (B1.below t.below).cell 2
        have y2 := fun t : Gw W1 => (B2.below t.below).cell 2
        simp at y1 y2
        clear z1 z2 B1 B2 L1 HZ ne
        go_wp2_with fail
        refine wp_region_gw (by kernel_rfl) (by kernel_rfl) ?_
        repeat (go_big_quiet_step (fail))
        refine wpQuiet_nil ?_
        rintro _ ⟨t, rfl⟩
        go_wp2
        go_ret
        exact ⟨by rw [HD'.out]; first | rfl | simp, HL1.out.trans (t.below.mono HL1.out.size)⟩
    · have z1 := fun t : Gw wr => (HZ.out t).1.cell 3
      have z2 := fun t : Gw wr => (HZ.out t).2.1.cell 3
      simp at z1 z2
      by_cases he : x = y
      · have he' : ((x : Nat) : Int) = ((y : Nat) : Int) := by omega
        have HE : Hid (x = y) := he
        go_wp2_with fail
        refine wp_region_gw (by kernel_rfl) (by kernel_rfl) ?_
        repeat (go_big_quiet_step (fail))
        refine wpQuiet_nil ?_
        rintro _ ⟨t, rfl⟩
        go_wp2_with fail
        go_roundw
        case rel => exact ⟨4, by omega, by go_num, fun _ => HR.out.1 (by omega), fun _ => HR.out.2.1 (by omega), fun _ => HR.out.2.2.1 (by omega), fun _ => he, HZ.out t⟩
        case measure => simp [intOf]
      · have he' : (((x : Nat) : Int) != ((y : Nat) : Int)) = true := bne_iff_ne.2 (by omega)
        have hD : D = decide (((y : Nat) : Int) < ((x : Nat) : Int)) := by
          rw [HD.out]
          obtain ⟨⟨e1, e2⟩, _⟩ := HQ.out
          refine decide_eq_decide.2 ?_
          have := HR.out.1 (by omega)
          have := HR.out.2.1 (by omega)
          have := HR.out.2.2.1 (by omega)
          omega
        have HD' : Hid (D = decide (((y : Nat) : Int) < ((x : Nat) : Int))) := hD
        clear hD
        go_wp2_with fail
        refine wp_region_gw (by kernel_rfl) (by kernel_rfl) ?_
        repeat (go_big_quiet_step (fail))
        refine wpQuiet_nil ?_
        rintro _ ⟨t, rfl⟩
        obtain ⟨B1, B2, L1⟩ := HZ.out t
        generalize t.wd = W1 at *
        have ne1 := gw_ne L1
        have HL1 : Hid (Below w.heap.size w W1) := L1
        have y1 := fun t : Gw W1 => (B1.below t.below).cell 3
        have y2 := fun t : Gw W1 => (B2.below t.below).cell 3
        simp at y1 y2
        clear z1 z2 B1 B2 L1 HZ ne
        go_wp2_with fail
        refine wp_region_gw (by kernel_rfl) (by kernel_rfl) ?_
        repeat (go_big_quiet_step (fail))
        refine wpQuiet_nil ?_
        rintro _ ⟨t, rfl⟩
        go_wp2
        go_ret
        exact ⟨by rw [HD'.out]; first | rfl | simp, HL1.out.trans (t.below.mono HL1.out.size)⟩
    · have hD : D = false := by
        rw [HD.out, decide_eq_false_iff_not]
        obtain ⟨⟨e1, e2⟩, _⟩ := HQ.out
        have := HR.out.1 (by omega)
        have := HR.out.2.1 (by omega)
        have := HR.out.2.2.1 (by omega)
        have := HR.out.2.2.2.1 (by omega)
        omega
      subst hD
      go_wp2
      go_ret
      exact ⟨rfl, HR.out.2.2.2.2.2.2⟩

end Go.Proofs.YtobmpjmpffnoiaaDoor
