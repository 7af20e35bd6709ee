/-
  The walk of the statement StyleOrders: the order has each number once, rising by strength, ties by place.
-/
import Derived.Test.YtobmpjmpffnoiaaDoorSX5
import Derived.Test.YtobmpjmpffnoiaaDoorSOr1
import Derived.Test.YtobmpjmpffnoiaaDoorSPl
namespace Go.Proofs.YtobmpjmpffnoiaaDoor
open Go.RowKit Go.Shelf

theorem info_bool : (Tryd.prog.info? 4).map (fun i => (i.zero, i.size, i.bytes)) = some (some (.bool false), 1, 1) := by kernel_rfl
theorem make_bools (n : Nat) (hn : n < 1000000) (w : World) : ∃ arr : Array Value, (arr.size = n ∧ ∀ i, i < n → arr[i]? = some (.bool false)) ∧ (Instr.makeSlice 50 (.int .i64 (n : Nat)) (.int .i64 (n : Nat))).run Tryd.prog w = .ok (.slice (some ⟨w.heap.size, 0, none⟩) n n) (w.alloc (.cells arr 4)) := by
  obtain ⟨i0, hi, hz0, hz1, hz2⟩ := info_parts info_bool
  have h := run_make (P := Tryd.prog) w 50 4 i0 (.bool false) Tryd.underlying50 hi hz0 .i64 .i64 (n : Int) (n : Int) (by omega) (Int.le_refl _) (by rw [hz2]; omega) (by omega)
  simp only [Int.toNat_natCast, hz1, Nat.mul_one] at h
  exact ⟨_, ⟨size_madeCells _ _, fun i hi => by simp [madeCells, Value.cells, hi, Nat.mod_one]⟩, h⟩

theorem Row.other {W : World} {B o n : Nat} {f : Nat → Nat} (h : Row W B o n f) (p : Addr) (v : Value) (hp : p.block ≠ B) : Row (W.setCell p v) B o n f :=
  ⟨by simpa [World.setCell] using h.lt, fun i hi => by
    rw [World.cell?_setCell_other _ _ _ _ (by intro he; exact hp (by rw [he]))]
    exact h.at' i hi, fun j => by rw [World.frozen?_setCell]; exact h.fr j⟩
theorem Row.alloc {W : World} {B o n : Nat} {f : Nat → Nat} (h : Row W B o n f) (c : Obj) : Row (W.alloc c) B o n f := h.below ((Below.refl _ W).alloc (Nat.le_refl _) _)

def was (f : Nat → Nat) (k x : Nat) : Bool := (List.range k).any fun j => f j == x
theorem was_succ (f : Nat → Nat) (k x : Nat) : was f (k + 1) x = (was f k x || f k == x) := by
  unfold was
  rw [List.range_succ, List.any_append]
  simp
theorem was_no {rs : List Rl} {f : Nat → Nat} (h : Mrg (str rs) id f 0 rs.length) {k : Nat} (hk : k < rs.length) : was f k (f k) = false := by
  unfold was
  rw [List.any_eq_false]
  intro j hj
  rw [beq_iff_eq]
  exact order_ne h (List.mem_range.1 hj) hk

set_option maxRecDepth 20000 in
set_option maxHeartbeats 4000000 in
theorem orders_walk (rs : List Rl) (v : Value) (w : World) (hT : Tab w) (hv : Rules w v rs) (hs : ∀ r ∈ rs, r.cls.size ≤ 9223372036854775807 ∧ r.wf) (hl : rs.length ≤ 9223372036854775807) :
    Calls Tryd.prog 7 #[v] w fun e w' => e = .returned (.bool true) ∧ Below w.heap.size w w' := by
  have HV : Hid (Rules w v rs ∧ Tab w) := ⟨hv, hT⟩
  have HS : Hid (∀ r ∈ rs, r.cls.size ≤ 9223372036854775807 ∧ r.wf) := hs
  obtain ⟨oa, cap, rfl, hc, hg⟩ := id hv
  have HG : Hid (0 < rs.length → ∃ g o, oa = some ⟨g, o, none⟩ ∧ g < w.heap.size ∧ ∀ i (h : i < rs.length), RlAt w g (o + i * 14) rs[i]) := hg
  clear hv hs hg
  go_enter Tryd.func7, Tryd.ntmps7
  go_wp2_with fail
  refine (alive_any _ hT).mono ?_
  rintro e w1 ⟨rfl, L⟩
  by_cases h100 : 100 < rs.length
  · have : (100 : Int) < rs.length := by omega
    go_wp2
    go_ret
    exact ⟨rfl, L⟩
  have hl' : ¬ (100 : Int) < rs.length := by omega
  have HL : Hid (Below w.heap.size w w1) := L
  clear L hT
  go_wp2_with fail
  by_cases hb : chkR rs = 0
  · refine (order_any rs _ w1 (HV.out.2.below HL.out) (HV.out.1.below HL.out) HS.out (by omega) hb).mono ?_
    rintro e w2 ⟨B, f, rfl, hB, hRow, hM, hb2⟩
    have H2 : Hid (Row w2 B 0 rs.length f ∧ Mrg (str rs) id f 0 rs.length ∧ Below w.heap.size w w2 ∧ w1.heap.size ≤ B) := ⟨hRow, hM, HL.out.trans (hb2.mono HL.out.size), hB⟩
    clear hRow hM hb2 hB HL
    obtain ⟨arr, ha, hmk⟩ := make_bools rs.length (by omega) w2
    have K := Blk.new w2 arr 4
    have HK : Hid ((arr.size = rs.length ∧ ∀ i, i < rs.length → arr[i]? = some (.bool false)) ∧ Blk (w2.alloc (.cells arr 4)) w2.heap.size arr 4) := ⟨ha, K⟩
    clear ha K
    go_wp2_with fail
    have hd : decide ((100 : Int) < rs.length) = false := decide_eq_false (by omega)
    simp only [hd]
    have L0 : Below w.heap.size w (w2.alloc (.cells arr 4)) := H2.out.2.2.1.alloc H2.out.2.2.1.size _
    have R0 : Row (w2.alloc (.cells arr 4)) B 0 rs.length f := H2.out.1.alloc _
    have HB : Hid (B < w2.heap.size ∧ w.heap.size ≤ w2.heap.size ∧ Mrg (str rs) id f 0 rs.length) := ⟨H2.out.1.lt, H2.out.2.2.1.size, H2.out.2.1⟩
    have H3 : Hid (Below w.heap.size w (w2.alloc (.cells arr 4)) ∧ Row (w2.alloc (.cells arr 4)) B 0 rs.length f) := ⟨L0, R0⟩
    clear L0 R0 H2 hmk
    generalize w2.heap.size = T at *
    go_loopw [7] (fun vi wr => ∃ k : Nat, k ≤ rs.length ∧ vi = .int .i64 k ∧ ∃ vs : Array Value, Hid (vs.size = rs.length ∧ Blk wr T vs 4 ∧ (∀ i, i < rs.length → vs[i]? = some (.bool (was f k i))) ∧ Row wr B 0 rs.length f ∧ Below w.heap.size w wr)) (fun vi _ => rs.length - (intOf vi).toNat)
    case atStart => exact ⟨0, Nat.zero_le _, rfl, arr, ⟨HK.out.1.1, HK.out.2, HK.out.1.2, H3.out.2, H3.out.1⟩⟩
    case round =>
      obtain ⟨k, hk, rfl, vs, HVs⟩ := hrel
      clear H3 HK
      by_cases hlt : k < rs.length
      · have hx : f k < rs.length := order_lt HB.out.2.2 hlt
        have c1 := HVs.out.2.2.2.1.at' k hlt
        have c2 : wr.cell? ⟨T, f k, none⟩ = some (.bool false) := (HVs.out.2.1.cell (f k)).trans ((HVs.out.2.2.1 (f k) hx).trans (by rw [was_no HB.out.2.2 hlt]))
        have f1 := HVs.out.2.1.frozen (f k)
        rw [Nat.zero_add] at c1
        have WW : ∃ W, W = wr.setCell ⟨T, f k, none⟩ (.bool true) ∧ Hid (∃ vs' : Array Value, vs'.size = rs.length ∧ Blk W T vs' 4 ∧ (∀ i, i < rs.length → vs'[i]? = some (.bool (was f (k + 1) i))) ∧ Row W B 0 rs.length f ∧ Below w.heap.size w W) := by
          refine ⟨_, rfl, ⟨vs.setIfInBounds (f k) (.bool true), by simp [HVs.out.1], HVs.out.2.1.put (f k) _, fun i hi => ?_, ?_, HVs.out.2.2.2.2.setCell (p := ⟨T, f k, none⟩) HB.out.2.1 _⟩⟩
          · rw [was_succ]
            by_cases e : f k = i
            · subst e; simp [HVs.out.1, hi]
            · rw [Array.getElem?_setIfInBounds_ne e, HVs.out.2.2.1 i hi, beq_eq_false_iff_ne.2 e, Bool.or_false]
          · exact HVs.out.2.2.2.1.other ⟨T, f k, none⟩ _ (by have := HB.out.1; show T ≠ B; omega)
        obtain ⟨W, hW, HW⟩ := WW
        obtain ⟨g, o, hoa, hgs, hat⟩ := HG.out (by omega)
        have S1 : Hid (∀ w, Calls Tryd.prog 28 #[(Value.agg #[.int .u8 (rs[f k].kind : Nat), .string rs[f k].cls, .int .u8 (rs[f k].state : Nat), .int .u8 (rs[f k].look.has : Nat), .int .u8 rs[f k].look.r, .int .u8 rs[f k].look.g, .int .u8 rs[f k].look.b, .int .u8 rs[f k].look.a, .int .u8 rs[f k].look.r2, .int .u8 rs[f k].look.g2, .int .u8 rs[f k].look.b2, .int .u8 rs[f k].look.a2, .bool rs[f k].look.bd, .int .i64 rs[f k].look.pad])] w fun e w' => e = .returned (.int .i64 (str rs (f k))) ∧ Below w.heap.size w w') := fun w => by
          rw [str_at hx]; exact weight_any _ w (HS.out _ (List.getElem_mem hx)).2.2.1
        have lw : Below w.heap.size w W := by obtain ⟨_, _, _, _, _, h⟩ := HW.out; exact h
        have qx := fun t : Gw W => (hat (f k) hx).kept (w' := t.wd) fun j => (lw.trans (t.below.mono lw.size)).cell (p := ⟨g, j, none⟩) hgs
        have ix : ((f k : Nat) : Int) < (rs.length : Int) := by omega
        subst hoa
        by_cases h0 : k = 0
        · subst h0
          have ne := gw_ne lw
          have lw' : Hid (Below w.heap.size w W) := lw
          clear S1 qx hat lw
          go_wp2_with fail
          rw [← hW]
          clear hW
          refine wp_region_gw (by kernel_rfl) (by kernel_rfl) ?_
          repeat (go_big_quiet_step (fail))
          refine wpQuiet_nil ?_
          rintro _ ⟨t, rfl⟩
          go_wp2_with fail
          go_roundw
          case rel =>
            obtain ⟨vs', v1, v2, v3, v4, v5⟩ := HW.out
            exact ⟨0 + 1, by omega, by go_num, vs', ⟨v1, v2.below t.below, v3, v4.below t.below, v5.trans (t.below.mono v5.size)⟩⟩
          case measure => simp [intOf]; omega
        · have hp : k - 1 < rs.length := by omega
          have k0 : 0 < k := by omega
          have k0d : decide ((0 : Int) < (k : Int)) = true := by simp; omega
          have hy : f (k - 1) < rs.length := order_lt HB.out.2.2 hp
          have S2 : Hid (∀ w, Calls Tryd.prog 28 #[(Value.agg #[.int .u8 (rs[f (k - 1)].kind : Nat), .string rs[f (k - 1)].cls, .int .u8 (rs[f (k - 1)].state : Nat), .int .u8 (rs[f (k - 1)].look.has : Nat), .int .u8 rs[f (k - 1)].look.r, .int .u8 rs[f (k - 1)].look.g, .int .u8 rs[f (k - 1)].look.b, .int .u8 rs[f (k - 1)].look.a, .int .u8 rs[f (k - 1)].look.r2, .int .u8 rs[f (k - 1)].look.g2, .int .u8 rs[f (k - 1)].look.b2, .int .u8 rs[f (k - 1)].look.a2, .bool rs[f (k - 1)].look.bd, .int .i64 rs[f (k - 1)].look.pad])] w fun e w' => e = .returned (.int .i64 (str rs (f (k - 1)))) ∧ Below w.heap.size w w') := fun w => by
            rw [str_at hy]; exact weight_any _ w (HS.out _ (List.getElem_mem hy)).2.2.1
          have qy := fun t : Gw W => (hat (f (k - 1)) hy).kept (w' := t.wd) fun j => (lw.trans (t.below.mono lw.size)).cell (p := ⟨g, j, none⟩) hgs
          have HWk : Hid (Wk (str rs) (f (k - 1)) (f k)) := HB.out.2.2.1 (k - 1) k (Nat.zero_le _) (by omega) hlt
          have zx := fun t : Gw W => (by obtain ⟨_, _, _, _, h, _⟩ := HW.out; exact (t.below.cell (p := ⟨B, 0 + k, none⟩) h.lt).trans (h.at' k hlt) : t.wd.cell? ⟨B, 0 + k, none⟩ = some (.int .i64 (f k)))
          have zy := fun t : Gw W => (by obtain ⟨_, _, _, _, h, _⟩ := HW.out; exact (t.below.cell (p := ⟨B, 0 + (k - 1), none⟩) h.lt).trans (h.at' (k - 1) hp) : t.wd.cell? ⟨B, 0 + (k - 1), none⟩ = some (.int .i64 (f (k - 1))))
          simp only [Nat.zero_add] at zx zy
          have iy : ((f (k - 1) : Nat) : Int) < (rs.length : Int) := by omega
          have ne := gw_ne lw
          have lw' : Hid (Below w.heap.size w W) := lw
          have zk : (k : Int) - 1 = ((k - 1 : Nat) : Int) := by omega
          clear hat lw
          go_wp2_with fail
          rw [← hW]
          clear hW c1 c2 f1
          have HWk' : Hid (str rs (f (k - 1)) < str rs (f k) ∨ (str rs (f (k - 1)) = str rs (f k) ∧ f (k - 1) < f k)) := HWk.out
          clear HWk
          generalize str rs (f k) = u1 at *
          generalize str rs (f (k - 1)) = u2 at *
          generalize rs[f k] = X at *
          generalize rs[f (k - 1)] = Y at *
          generalize f k = fx at *
          generalize f (k - 1) = fy at *
          generalize k - 1 = pk at *
          have ip : (pk : Int) < (rs.length : Int) := by omega
          have x0 := fun t : Gw W => (qx t).1
          have x1 := fun t : Gw W => (qx t).2.1
          have x2 := fun t : Gw W => (qx t).2.2.1
          have x3 := fun t : Gw W => (qx t).2.2.2.1
          have x4 := fun t : Gw W => (qx t).2.2.2.2.1
          have x5 := fun t : Gw W => (qx t).2.2.2.2.2.1
          have x6 := fun t : Gw W => (qx t).2.2.2.2.2.2.1
          have x7 := fun t : Gw W => (qx t).2.2.2.2.2.2.2.1
          have x8 := fun t : Gw W => (qx t).2.2.2.2.2.2.2.2.1
          have x9 := fun t : Gw W => (qx t).2.2.2.2.2.2.2.2.2.1
          have x10 := fun t : Gw W => (qx t).2.2.2.2.2.2.2.2.2.2.1
          have x11 := fun t : Gw W => (qx t).2.2.2.2.2.2.2.2.2.2.2.1
          have x12 := fun t : Gw W => (qx t).2.2.2.2.2.2.2.2.2.2.2.2.1
          have x13 := fun t : Gw W => (qx t).2.2.2.2.2.2.2.2.2.2.2.2.2
          have y0 := fun t : Gw W => (qy t).1
          have y1 := fun t : Gw W => (qy t).2.1
          have y2 := fun t : Gw W => (qy t).2.2.1
          have y3 := fun t : Gw W => (qy t).2.2.2.1
          have y4 := fun t : Gw W => (qy t).2.2.2.2.1
          have y5 := fun t : Gw W => (qy t).2.2.2.2.2.1
          have y6 := fun t : Gw W => (qy t).2.2.2.2.2.2.1
          have y7 := fun t : Gw W => (qy t).2.2.2.2.2.2.2.1
          have y8 := fun t : Gw W => (qy t).2.2.2.2.2.2.2.2.1
          have y9 := fun t : Gw W => (qy t).2.2.2.2.2.2.2.2.2.1
          have y10 := fun t : Gw W => (qy t).2.2.2.2.2.2.2.2.2.2.1
          have y11 := fun t : Gw W => (qy t).2.2.2.2.2.2.2.2.2.2.2.1
          have y12 := fun t : Gw W => (qy t).2.2.2.2.2.2.2.2.2.2.2.2.1
          have y13 := fun t : Gw W => (qy t).2.2.2.2.2.2.2.2.2.2.2.2.2
          clear qx qy
          rcases HWk'.out with h | ⟨h, h'⟩
          · have hn : ¬ u1 < u2 := by omega
            have hn' : (u2 == u1) = false := beq_eq_false_iff_ne.2 (by omega)
            clear h HWk'
            refine wp_region_gw (by kernel_rfl) (by kernel_rfl) ?_
            repeat (go_big_quiet_step (first
              | (go_at_call_of 28 (Value.string X.cls); exact gw_call (S1.out _))
              | (go_at_call_of 28 (Value.string Y.cls); exact gw_call (S2.out _))))
            refine wpQuiet_nil ?_
            rintro _ ⟨t, rfl⟩
            go_wp2_with fail
            go_roundw
            case rel =>
              obtain ⟨vs', v1, v2, v3, v4, v5⟩ := HW.out
              exact ⟨k + 1, by omega, by go_num, vs', ⟨v1, v2.below t.below, v3, v4.below t.below, v5.trans (t.below.mono v5.size)⟩⟩
            case measure => simp [intOf]; omega
          · subst h
            have hn : ¬ fx < fy := by omega
            have hn' : ¬ (fx : Int) < (fy : Int) := by omega
            clear h' HWk'
            refine wp_region_gw (by kernel_rfl) (by kernel_rfl) ?_
            repeat (go_big_quiet_step (first
              | (go_at_call_of 28 (Value.string X.cls); exact gw_call (S1.out _))
              | (go_at_call_of 28 (Value.string Y.cls); exact gw_call (S2.out _))))
            refine wpQuiet_nil ?_
            rintro _ ⟨t, rfl⟩
            go_wp2_with fail
            go_roundw
            case rel =>
              obtain ⟨vs', v1, v2, v3, v4, v5⟩ := HW.out
              exact ⟨k + 1, by omega, by go_num, vs', ⟨v1, v2.below t.below, v3, v4.below t.below, v5.trans (t.below.mono v5.size)⟩⟩
            case measure => simp [intOf]; omega
      · obtain rfl : k = rs.length := by omega
        go_wp2
        go_ret
        exact ⟨rfl, HVs.out.2.2.2.2⟩
  · refine (order_bad rs _ w1 (HV.out.2.below HL.out) (HV.out.1.below HL.out) HS.out hb).mono ?_
    rintro e w2 ⟨rfl, hb2⟩
    have hb' : (chkR rs == 0) = false := beq_eq_false_iff_ne.2 hb
    have L2 : Below w.heap.size w w2 := HL.out.trans (hb2.mono HL.out.size)
    have H2 : Hid (Below w.heap.size w w2) := L2
    clear hb2 L2 hb
    generalize chkR rs = e0 at *
    go_wp2
    go_ret
    exact ⟨rfl, H2.out⟩

end Go.Proofs.YtobmpjmpffnoiaaDoor
