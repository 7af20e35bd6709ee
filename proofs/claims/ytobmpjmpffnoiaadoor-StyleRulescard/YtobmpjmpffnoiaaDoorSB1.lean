/-
  Contracts of package style: Look and Which of rules that may not be.
-/
import Derived.Test.YtobmpjmpffnoiaaDoorSX4
namespace Go.Proofs.YtobmpjmpffnoiaaDoor
open Go.RowKit Go.Shelf

set_option maxHeartbeats 1000000 in
theorem look_bad (rs : List Rl) (v : Value) (kind : Nat) (t : ByteArray) (st : Nat) (w : World) (hT : Tab w) (hv : Rules w v rs) (hw : ∀ r ∈ rs, r.cls.size ≤ 9223372036854775807 ∧ r.wf) (hb : chkR rs ≠ 0) :
    Calls Tryd.prog 14 #[v, .int .u8 (kind : Nat), .string t, .int .u8 (st : Nat)] w fun e w' => e = .returned (.tuple #[(Value.agg #[.int .u8 (Lk.zero.has : Nat), .int .u8 Lk.zero.r, .int .u8 Lk.zero.g, .int .u8 Lk.zero.b, .int .u8 Lk.zero.a, .int .u8 Lk.zero.r2, .int .u8 Lk.zero.g2, .int .u8 Lk.zero.b2, .int .u8 Lk.zero.a2, .bool Lk.zero.bd, .int .i64 Lk.zero.pad]), .int .i64 (chkR rs)]) ∧ Below w.heap.size w w' := by
  have hC : Hid (∀ w, Tab w → Rules w v rs → Calls Tryd.prog 15 #[v] w fun e w' => e = .returned (.int .i64 (chkR rs)) ∧ Below w.heap.size w w') := fun w hT hv => check_rules rs v w hT hv hw
  have HV : Hid (Rules w v rs ∧ Tab w) := ⟨hv, hT⟩
  have hb' : (chkR rs == 0) = false := beq_eq_false_iff_ne.2 hb
  obtain ⟨oa, cap, rfl, hc, hg⟩ := id hv
  clear hT hv hw hb hg
  generalize chkR rs = e0 at *
  go_enter Tryd.func14, Tryd.ntmps14
  go_wp2_with fail
  obtain ⟨W0, hW0⟩ : ∃ W0, W0 = (w.alloc (.cells #[.slice oa rs.length cap] 23)).alloc (.cells (#[.int .u8 (Lk.zero.has : Nat), .int .u8 Lk.zero.r, .int .u8 Lk.zero.g, .int .u8 Lk.zero.b, .int .u8 Lk.zero.a, .int .u8 Lk.zero.r2, .int .u8 Lk.zero.g2, .int .u8 Lk.zero.b2, .int .u8 Lk.zero.a2, .bool Lk.zero.bd, .int .i64 Lk.zero.pad]) 33) := ⟨_, rfl⟩
  have H0 : Hid (Blk W0 (w.heap.size + 1) (#[.int .u8 (Lk.zero.has : Nat), .int .u8 Lk.zero.r, .int .u8 Lk.zero.g, .int .u8 Lk.zero.b, .int .u8 Lk.zero.a, .int .u8 Lk.zero.r2, .int .u8 Lk.zero.g2, .int .u8 Lk.zero.b2, .int .u8 Lk.zero.a2, .bool Lk.zero.bd, .int .i64 Lk.zero.pad]) 33 ∧ Below w.heap.size w W0) := by
    have k2 := Blk.new (w.alloc (.cells #[.slice oa rs.length cap] 23)) (#[.int .u8 (Lk.zero.has : Nat), .int .u8 Lk.zero.r, .int .u8 Lk.zero.g, .int .u8 Lk.zero.b, .int .u8 Lk.zero.a, .int .u8 Lk.zero.r2, .int .u8 Lk.zero.g2, .int .u8 Lk.zero.b2, .int .u8 Lk.zero.a2, .bool Lk.zero.bd, .int .i64 Lk.zero.pad]) 33
    simp only [World.size_alloc] at k2
    rw [hW0]
    exact ⟨k2, ((Below.refl _ w).alloc (Nat.le_refl _) _).alloc (by simp) _⟩
  simp only [Lk.zero, Int.natCast_zero] at hW0 H0
  rw [← hW0]
  clear hW0
  refine (hC.out _ (HV.out.2.below H0.out.2) (HV.out.1.below H0.out.2)).mono ?_
  rintro e w1 ⟨rfl, hb⟩
  have k3 := H0.out.1.below hb
  obtain ⟨d0, d1, d2, d3, d4, d5, d6, d7, d8, d9, d10⟩ := k3.at11
  have f1 := fun o => k3.frozen o
  have HL : Hid (Below w.heap.size w w1) := H0.out.2.trans (hb.mono H0.out.2.size)
  clear hb k3 H0
  go_wp2

  exact bodyPost_ret (v := .tuple #[(Value.agg #[.int .u8 (Lk.zero.has : Nat), .int .u8 Lk.zero.r, .int .u8 Lk.zero.g, .int .u8 Lk.zero.b, .int .u8 Lk.zero.a, .int .u8 Lk.zero.r2, .int .u8 Lk.zero.g2, .int .u8 Lk.zero.b2, .int .u8 Lk.zero.a2, .bool Lk.zero.bd, .int .i64 Lk.zero.pad]), .int .i64 e0]) (by simp [results, Tryd.results14, go_sem, Lk.zero, *]) rfl ⟨rfl, set11_below HL.out (by omega) _ _ _ _ _ _ _ _ _ _ _⟩

set_option maxHeartbeats 1000000 in
theorem which_bad (rs : List Rl) (v : Value) (kind : Nat) (t : ByteArray) (st fld : Nat) (w : World) (hT : Tab w) (hv : Rules w v rs) (hw : ∀ r ∈ rs, r.cls.size ≤ 9223372036854775807 ∧ r.wf) (hb : chkR rs ≠ 0) :
    Calls Tryd.prog 17 #[v, .int .u8 (kind : Nat), .string t, .int .u8 (st : Nat), .int .u8 (fld : Nat)] w fun e w' => e = .returned (.tuple #[.int .i64 0, .int .i64 (chkR rs)]) ∧ Below w.heap.size w w' := by
  have hC : Hid (∀ w, Tab w → Rules w v rs → Calls Tryd.prog 15 #[v] w fun e w' => e = .returned (.int .i64 (chkR rs)) ∧ Below w.heap.size w w') := fun w hT hv => check_rules rs v w hT hv hw
  have HV : Hid (Rules w v rs ∧ Tab w) := ⟨hv, hT⟩
  have hb' : (chkR rs == 0) = false := beq_eq_false_iff_ne.2 hb
  obtain ⟨oa, cap, rfl, hc, hg⟩ := id hv
  clear hT hv hw hb hg
  generalize chkR rs = e0 at *
  go_enter Tryd.func17, Tryd.ntmps17
  go_wp2_with fail
  obtain ⟨W0, hW0⟩ : ∃ W0, W0 = (((w.alloc (.cells #[.slice oa rs.length cap] 23)).alloc (.cells #[.int .u8 (fld : Nat)] 5)).alloc (.cells #[.int .i64 0] 3)).alloc (.cells #[.int .i64 0] 25) := ⟨_, rfl⟩
  have H0 : Hid (Blk W0 (w.heap.size + 1) #[.int .u8 (fld : Nat)] 5 ∧ Blk W0 (w.heap.size + 1 + 1) #[.int .i64 0] 3 ∧ Blk W0 (w.heap.size + 1 + 1 + 1) #[.int .i64 0] 25 ∧ Below w.heap.size w W0) := by
    have k2 := Blk.new (w.alloc (.cells #[.slice oa rs.length cap] 23)) #[.int .u8 (fld : Nat)] 5
    have k3 := Blk.new ((w.alloc (.cells #[.slice oa rs.length cap] 23)).alloc (.cells #[.int .u8 (fld : Nat)] 5)) #[.int .i64 0] 3
    have k4 := Blk.new (((w.alloc (.cells #[.slice oa rs.length cap] 23)).alloc (.cells #[.int .u8 (fld : Nat)] 5)).alloc (.cells #[.int .i64 0] 3)) #[.int .i64 0] 25
    simp only [World.size_alloc] at k2 k3 k4
    rw [hW0]
    exact ⟨(k2.alloc _).alloc _, k3.alloc _, k4, ((((Below.refl _ w).alloc (Nat.le_refl _) _).alloc (by simp) _).alloc (by simp; omega) _).alloc (by simp; omega) _⟩
  rw [← hW0]
  clear hW0
  refine (hC.out _ (HV.out.2.below H0.out.2.2.2) (HV.out.1.below H0.out.2.2.2)).mono ?_
  rintro e w1 ⟨rfl, hb⟩
  have k3 := H0.out.2.1.below hb
  have k4 := H0.out.2.2.1.below hb
  have c3 := k3.at1
  have c4 := k4.at1
  have f3 := k3.frozen 0
  have f4 := k4.frozen 0
  have H1 : Hid (Blk w1 (w.heap.size + 1 + 1) #[.int .i64 0] 3 ∧ Blk w1 (w.heap.size + 1 + 1 + 1) #[.int .i64 0] 25 ∧ Below w.heap.size w w1) := ⟨k3, k4, H0.out.2.2.2.trans (hb.mono H0.out.2.2.2.size)⟩
  clear hb k3 k4 H0
  go_wp2
  obtain ⟨k3, k4, L⟩ := H1.out
  have e3 := ((k3.put1 (.int .i64 0)).other ⟨w.heap.size + 1 + 1 + 1, 0, none⟩ (.int .i64 e0) (by simp)).at1
  have e4 := ((k4.other ⟨w.heap.size + 1 + 1, 0, none⟩ (.int .i64 0) (by simp)).put1 (.int .i64 e0)).at1
  exact bodyPost_ret (v := .tuple #[.int .i64 0, .int .i64 e0]) (by simp [results, Tryd.results17, go_sem, e3, e4]) rfl ⟨rfl, (L.setCell (p := ⟨w.heap.size + 1 + 1, 0, none⟩) (by simp; omega) _).setCell (p := ⟨w.heap.size + 1 + 1 + 1, 0, none⟩) (by simp; omega) _⟩

end Go.Proofs.YtobmpjmpffnoiaaDoor
