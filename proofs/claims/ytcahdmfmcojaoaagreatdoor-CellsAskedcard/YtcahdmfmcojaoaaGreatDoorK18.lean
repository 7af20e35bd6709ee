/-
  Texts of this claim, one behind the other: what each is about stands ahead of it.
-/
import Derived.Test.YtcahdmfmcojaoaaGreatDoorK7
import Derived.Test.YtcahdmfmcojaoaaGreatDoorK9
/-
  Package cells: At.
-/
namespace Go.Proofs.YtcahdmfmcojaoaaGreatDoor
open Go.RowKit

theorem cel_size : (Tryz.prog.info? 34).map (·.size) = some 11 := by kernel_rfl
def ceZ : Ce := ⟨0, coZ, coZ, false, false⟩
def atC (a b : Int) (l : List Ce) (x y : Int) : Ce := if scE a b l = 0 ∧ plB a b x y = true then l.getD (y * a + x).toNat ceZ else ceZ
def atE (a b : Int) (l : List Ce) (x y : Int) : Int := if scE a b l = 0 ∧ plB a b x y = true then 0 else 150
theorem sc_two (a b : Int) (l : List Ce) : scE a b l = 0 ∨ scE a b l = 150 := by
  unfold scE
  split
  · exact .inl rfl
  · exact .inr rfl
set_option maxRecDepth 20000 in
set_option maxHeartbeats 2000000 in
theorem at_bad (a b : Int) (l : List Ce) (v : Value) (x y : Int) (w : World) (hv : LsC w v l) (hl : l.length ≤ 9223372036854775806) (hE : scE a b l = 150) (T : Tabs w) :
    Calls Tryz.prog 7 #[.agg #[.int .i64 a, .int .i64 b, v], .agg #[.int .i64 x, .int .i64 y]] w fun e w' => e = .returned (.tuple #[(Value.agg #[.int .i32 ceZ.r, .int .u8 ceZ.c.r, .int .u8 ceZ.c.g, .int .u8 ceZ.c.b, .int .u8 ceZ.c.a, .int .u8 ceZ.b.r, .int .u8 ceZ.b.g, .int .u8 ceZ.b.b, .int .u8 ceZ.b.a, .bool ceZ.wd, .bool ceZ.tl]), .int .i64 150]) ∧ Below w.heap.size w w' := by
  obtain ⟨oa, cap, rfl, hcap, -⟩ := id hv
  have HC : Hid (∀ W, Below w.heap.size w W → Calls Tryz.prog 23 #[.agg #[.int .i64 a, .int .i64 b, .slice oa l.length cap]] W fun e w' => e = .returned (.int .i64 150) ∧ Below W.heap.size W w') := fun W h => by rw [← hE]; exact checkC_any a b l _ W (hv.below h) hl (T.below h)
  have H0 : Hid (Below w.heap.size w (((w.alloc (.cells #[.int .i64 a, .int .i64 b, .slice oa l.length cap] 26)).alloc (.cells #[.int .i64 x, .int .i64 y] 28)).alloc (.cells #[.int .i32 0, .int .u8 0, .int .u8 0, .int .u8 0, .int .u8 0, .int .u8 0, .int .u8 0, .int .u8 0, .int .u8 0, .bool false, .bool false] 34)) ∧ Bk (((w.alloc (.cells #[.int .i64 a, .int .i64 b, .slice oa l.length cap] 26)).alloc (.cells #[.int .i64 x, .int .i64 y] 28)).alloc (.cells #[.int .i32 0, .int .u8 0, .int .u8 0, .int .u8 0, .int .u8 0, .int .u8 0, .int .u8 0, .int .u8 0, .int .u8 0, .bool false, .bool false] 34)) w.heap.size #[.int .i64 a, .int .i64 b, .slice oa l.length cap] 26 ∧ Bk (((w.alloc (.cells #[.int .i64 a, .int .i64 b, .slice oa l.length cap] 26)).alloc (.cells #[.int .i64 x, .int .i64 y] 28)).alloc (.cells #[.int .i32 0, .int .u8 0, .int .u8 0, .int .u8 0, .int .u8 0, .int .u8 0, .int .u8 0, .int .u8 0, .int .u8 0, .bool false, .bool false] 34)) (w.heap.size + 1 + 1) #[.int .i32 0, .int .u8 0, .int .u8 0, .int .u8 0, .int .u8 0, .int .u8 0, .int .u8 0, .int .u8 0, .int .u8 0, .bool false, .bool false] 34) := by
    have k1 := (((Bk.new w #[.int .i64 a, .int .i64 b, .slice oa l.length cap] 26).below ((Below.refl _ _).alloc (Nat.le_refl _) (.cells #[.int .i64 x, .int .i64 y] 28)))).below ((Below.refl _ _).alloc (Nat.le_refl _) (.cells #[.int .i32 0, .int .u8 0, .int .u8 0, .int .u8 0, .int .u8 0, .int .u8 0, .int .u8 0, .int .u8 0, .int .u8 0, .bool false, .bool false] 34))
    have k2 := Bk.new ((w.alloc (.cells #[.int .i64 a, .int .i64 b, .slice oa l.length cap] 26)).alloc (.cells #[.int .i64 x, .int .i64 y] 28)) #[.int .i32 0, .int .u8 0, .int .u8 0, .int .u8 0, .int .u8 0, .int .u8 0, .int .u8 0, .int .u8 0, .int .u8 0, .bool false, .bool false] 34
    simp only [World.size_alloc] at k2
    exact ⟨(((Below.refl w.heap.size w).alloc (Nat.le_refl _) _).alloc (by simp) _).alloc (by simp; omega) _, k1, k2⟩
  clear hv T hE
  go_enter Tryz.func7, Tryz.ntmps7
  go_wp2_with fail
  generalize ((w.alloc (.cells #[.int .i64 a, .int .i64 b, .slice oa l.length cap] 26)).alloc (.cells #[.int .i64 x, .int .i64 y] 28)).alloc (.cells #[.int .i32 0, .int .u8 0, .int .u8 0, .int .u8 0, .int .u8 0, .int .u8 0, .int .u8 0, .int .u8 0, .int .u8 0, .bool false, .bool false] 34) = w1 at *
  refine (HC.out _ H0.out.1).mono ?_
  rintro e w2 ⟨rfl, hb⟩
  have H2 : Hid (Below w.heap.size w w2 ∧ Bk w2 (w.heap.size + 1 + 1) #[.int .i32 0, .int .u8 0, .int .u8 0, .int .u8 0, .int .u8 0, .int .u8 0, .int .u8 0, .int .u8 0, .int .u8 0, .bool false, .bool false] 34) := ⟨H0.out.1.trans (hb.mono H0.out.1.size), H0.out.2.2.below hb⟩
  clear hb H0 HC
  go_wp2_with (refine wpList_store_row rfl 34 (.tmp 4) (.tmp 11) rfl (w.heap.size + 1 + 1) #[.int .i32 0, .int .u8 0, .int .u8 0, .int .u8 0, .int .u8 0, .int .u8 0, .int .u8 0, .int .u8 0, .int .u8 0, .bool false, .bool false] rfl rfl 34 _ H2.out.2 cel_size rfl (by simp [Value.oneCell']) ?_)
  obtain ⟨W3, hW3⟩ : ∃ W3, W3 = w2.setRow (w.heap.size + 1 + 1) #[.int .i32 0, .int .u8 0, .int .u8 0, .int .u8 0, .int .u8 0, .int .u8 0, .int .u8 0, .int .u8 0, .int .u8 0, .bool false, .bool false] := ⟨_, rfl⟩
  have H3 : Hid (Bk W3 (w.heap.size + 1 + 1) #[.int .i32 0, .int .u8 0, .int .u8 0, .int .u8 0, .int .u8 0, .int .u8 0, .int .u8 0, .int .u8 0, .int .u8 0, .bool false, .bool false] 34 ∧ Below w.heap.size w W3) := by rw [hW3]; exact ⟨setRow_heap w2 _ _ _ 34 _ H2.out.2, below_setRow H2.out.1 (by omega) _⟩
  rw [← hW3]
  clear hW3 H2
  have hld : (loadVar 34 ⟨w.heap.size + 1 + 1, 0, none⟩).run Tryz.prog W3 = .ok (.agg #[.int .i32 0, .int .u8 0, .int .u8 0, .int .u8 0, .int .u8 0, .int .u8 0, .int .u8 0, .int .u8 0, .int .u8 0, .bool false, .bool false]) W3 := run_loadVar_row W3 _ 34 34 _ _ _ H3.out.1 Tryz.underlying34 rfl cel_size
  refine bodyPost_ret (v := .tuple #[.agg #[.int .i32 0, .int .u8 0, .int .u8 0, .int .u8 0, .int .u8 0, .int .u8 0, .int .u8 0, .int .u8 0, .int .u8 0, .bool false, .bool false], .int .i64 150]) ?_ rfl ⟨rfl, H3.out.2⟩
  simp [results, Tryz.results7, asAddr, hld]
set_option maxRecDepth 20000 in
set_option maxHeartbeats 2000000 in
theorem at_off (a b : Int) (l : List Ce) (v : Value) (x y : Int) (w : World) (hv : LsC w v l) (hl : l.length ≤ 9223372036854775806) (hE : scE a b l = 0) (hP : plB a b x y = false) (T : Tabs w) :
    Calls Tryz.prog 7 #[.agg #[.int .i64 a, .int .i64 b, v], .agg #[.int .i64 x, .int .i64 y]] w fun e w' => e = .returned (.tuple #[(Value.agg #[.int .i32 ceZ.r, .int .u8 ceZ.c.r, .int .u8 ceZ.c.g, .int .u8 ceZ.c.b, .int .u8 ceZ.c.a, .int .u8 ceZ.b.r, .int .u8 ceZ.b.g, .int .u8 ceZ.b.b, .int .u8 ceZ.b.a, .bool ceZ.wd, .bool ceZ.tl]), .int .i64 150]) ∧ Below w.heap.size w w' := by
  obtain ⟨oa, cap, rfl, hcap, -⟩ := id hv
  have HC : Hid (∀ W, Below w.heap.size w W → Calls Tryz.prog 23 #[.agg #[.int .i64 a, .int .i64 b, .slice oa l.length cap]] W fun e w' => e = .returned (.int .i64 0) ∧ Below W.heap.size W w') := fun W h => by rw [← hE]; exact checkC_any a b l _ W (hv.below h) hl (T.below h)
  have HP : Hid (∀ W, Calls Tryz.prog 24 #[.agg #[.int .i64 a, .int .i64 b], .agg #[.int .i64 x, .int .i64 y]] W fun e w' => e = .returned (.bool false) ∧ Below W.heap.size W w') := fun W => by rw [← hP]; exact place_any a b x y W
  have H0 : Hid (Below w.heap.size w (((w.alloc (.cells #[.int .i64 a, .int .i64 b, .slice oa l.length cap] 26)).alloc (.cells #[.int .i64 x, .int .i64 y] 28)).alloc (.cells #[.int .i32 0, .int .u8 0, .int .u8 0, .int .u8 0, .int .u8 0, .int .u8 0, .int .u8 0, .int .u8 0, .int .u8 0, .bool false, .bool false] 34)) ∧ Bk (((w.alloc (.cells #[.int .i64 a, .int .i64 b, .slice oa l.length cap] 26)).alloc (.cells #[.int .i64 x, .int .i64 y] 28)).alloc (.cells #[.int .i32 0, .int .u8 0, .int .u8 0, .int .u8 0, .int .u8 0, .int .u8 0, .int .u8 0, .int .u8 0, .int .u8 0, .bool false, .bool false] 34)) w.heap.size #[.int .i64 a, .int .i64 b, .slice oa l.length cap] 26 ∧ Bk (((w.alloc (.cells #[.int .i64 a, .int .i64 b, .slice oa l.length cap] 26)).alloc (.cells #[.int .i64 x, .int .i64 y] 28)).alloc (.cells #[.int .i32 0, .int .u8 0, .int .u8 0, .int .u8 0, .int .u8 0, .int .u8 0, .int .u8 0, .int .u8 0, .int .u8 0, .bool false, .bool false] 34)) (w.heap.size + 1) #[.int .i64 x, .int .i64 y] 28 ∧ Bk (((w.alloc (.cells #[.int .i64 a, .int .i64 b, .slice oa l.length cap] 26)).alloc (.cells #[.int .i64 x, .int .i64 y] 28)).alloc (.cells #[.int .i32 0, .int .u8 0, .int .u8 0, .int .u8 0, .int .u8 0, .int .u8 0, .int .u8 0, .int .u8 0, .int .u8 0, .bool false, .bool false] 34)) (w.heap.size + 1 + 1) #[.int .i32 0, .int .u8 0, .int .u8 0, .int .u8 0, .int .u8 0, .int .u8 0, .int .u8 0, .int .u8 0, .int .u8 0, .bool false, .bool false] 34) := by
    have k1 := (((Bk.new w #[.int .i64 a, .int .i64 b, .slice oa l.length cap] 26).below ((Below.refl _ _).alloc (Nat.le_refl _) (.cells #[.int .i64 x, .int .i64 y] 28)))).below ((Below.refl _ _).alloc (Nat.le_refl _) (.cells #[.int .i32 0, .int .u8 0, .int .u8 0, .int .u8 0, .int .u8 0, .int .u8 0, .int .u8 0, .int .u8 0, .int .u8 0, .bool false, .bool false] 34))
    have k3 := (Bk.new (w.alloc (.cells #[.int .i64 a, .int .i64 b, .slice oa l.length cap] 26)) #[.int .i64 x, .int .i64 y] 28).below ((Below.refl _ _).alloc (Nat.le_refl _) (.cells #[.int .i32 0, .int .u8 0, .int .u8 0, .int .u8 0, .int .u8 0, .int .u8 0, .int .u8 0, .int .u8 0, .int .u8 0, .bool false, .bool false] 34))
    have k2 := Bk.new ((w.alloc (.cells #[.int .i64 a, .int .i64 b, .slice oa l.length cap] 26)).alloc (.cells #[.int .i64 x, .int .i64 y] 28)) #[.int .i32 0, .int .u8 0, .int .u8 0, .int .u8 0, .int .u8 0, .int .u8 0, .int .u8 0, .int .u8 0, .int .u8 0, .bool false, .bool false] 34
    simp only [World.size_alloc] at k2 k3
    exact ⟨(((Below.refl w.heap.size w).alloc (Nat.le_refl _) _).alloc (by simp) _).alloc (by simp; omega) _, k1, k3, k2⟩
  clear hv T hE hP
  go_enter Tryz.func7, Tryz.ntmps7
  go_wp2_with fail
  generalize ((w.alloc (.cells #[.int .i64 a, .int .i64 b, .slice oa l.length cap] 26)).alloc (.cells #[.int .i64 x, .int .i64 y] 28)).alloc (.cells #[.int .i32 0, .int .u8 0, .int .u8 0, .int .u8 0, .int .u8 0, .int .u8 0, .int .u8 0, .int .u8 0, .int .u8 0, .bool false, .bool false] 34) = w1 at *
  refine (HC.out _ H0.out.1).mono ?_
  rintro e w2 ⟨rfl, hb⟩
  have H2 : Hid (Below w.heap.size w w2 ∧ Bk w2 w.heap.size #[.int .i64 a, .int .i64 b, .slice oa l.length cap] 26 ∧ Bk w2 (w.heap.size + 1) #[.int .i64 x, .int .i64 y] 28 ∧ Bk w2 (w.heap.size + 1 + 1) #[.int .i32 0, .int .u8 0, .int .u8 0, .int .u8 0, .int .u8 0, .int .u8 0, .int .u8 0, .int .u8 0, .int .u8 0, .bool false, .bool false] 34) := ⟨H0.out.1.trans (hb.mono H0.out.1.size), H0.out.2.1.below hb, H0.out.2.2.1.below hb, H0.out.2.2.2.below hb⟩
  clear hb H0 HC
  obtain ⟨z0, z1, z2⟩ := Bk.at3S H2.out.2.1
  have p0 : w2.cell? ⟨w.heap.size + 1, 0, none⟩ = some (.int .i64 x) := by rw [H2.out.2.2.1.cell]; rfl
  have p1 : w2.cell? ⟨w.heap.size + 1, 1, none⟩ = some (.int .i64 y) := by rw [H2.out.2.2.1.cell]; rfl
  go_wp2_with fail
  refine (HP.out _).mono ?_
  rintro e w3 ⟨rfl, hb⟩
  have H3 : Hid (Below w.heap.size w w3 ∧ Bk w3 w.heap.size #[.int .i64 a, .int .i64 b, .slice oa l.length cap] 26 ∧ Bk w3 (w.heap.size + 1) #[.int .i64 x, .int .i64 y] 28 ∧ Bk w3 (w.heap.size + 1 + 1) #[.int .i32 0, .int .u8 0, .int .u8 0, .int .u8 0, .int .u8 0, .int .u8 0, .int .u8 0, .int .u8 0, .int .u8 0, .bool false, .bool false] 34) := ⟨H2.out.1.trans (hb.mono H2.out.1.size), H2.out.2.1.below hb, H2.out.2.2.1.below hb, H2.out.2.2.2.below hb⟩
  clear hb H2 HP z0 z1 z2 p0 p1
  go_wp2_with (refine wpList_store_row rfl 34 (.tmp 4) (.tmp 18) rfl (w.heap.size + 1 + 1) #[.int .i32 0, .int .u8 0, .int .u8 0, .int .u8 0, .int .u8 0, .int .u8 0, .int .u8 0, .int .u8 0, .int .u8 0, .bool false, .bool false] rfl rfl 34 _ H3.out.2.2.2 cel_size rfl (by simp [Value.oneCell']) ?_)
  obtain ⟨W3, hW3⟩ : ∃ W3, W3 = w3.setRow (w.heap.size + 1 + 1) #[.int .i32 0, .int .u8 0, .int .u8 0, .int .u8 0, .int .u8 0, .int .u8 0, .int .u8 0, .int .u8 0, .int .u8 0, .bool false, .bool false] := ⟨_, rfl⟩
  have H4 : Hid (Bk W3 (w.heap.size + 1 + 1) #[.int .i32 0, .int .u8 0, .int .u8 0, .int .u8 0, .int .u8 0, .int .u8 0, .int .u8 0, .int .u8 0, .int .u8 0, .bool false, .bool false] 34 ∧ Below w.heap.size w W3) := by rw [hW3]; exact ⟨setRow_heap w3 _ _ _ 34 _ H3.out.2.2.2, below_setRow H3.out.1 (by omega) _⟩
  rw [← hW3]
  clear hW3 H3
  have hld : (loadVar 34 ⟨w.heap.size + 1 + 1, 0, none⟩).run Tryz.prog W3 = .ok (.agg #[.int .i32 0, .int .u8 0, .int .u8 0, .int .u8 0, .int .u8 0, .int .u8 0, .int .u8 0, .int .u8 0, .int .u8 0, .bool false, .bool false]) W3 := run_loadVar_row W3 _ 34 34 _ _ _ H4.out.1 Tryz.underlying34 rfl cel_size
  refine bodyPost_ret (v := .tuple #[.agg #[.int .i32 0, .int .u8 0, .int .u8 0, .int .u8 0, .int .u8 0, .int .u8 0, .int .u8 0, .int .u8 0, .int .u8 0, .bool false, .bool false], .int .i64 150]) ?_ rfl ⟨rfl, H4.out.2⟩
  simp [results, Tryz.results7, asAddr, hld]
set_option maxRecDepth 20000 in
set_option maxHeartbeats 2000000 in
theorem at_in (a b : Int) (l : List Ce) (v : Value) (x y : Int) (w : World) (hv : LsC w v l) (hl : l.length ≤ 9223372036854775806) (hE : scE a b l = 0) (hP : plB a b x y = true) (T : Tabs w) (c : Ce) (hc : c = l.getD (y * a + x).toNat ceZ) :
    Calls Tryz.prog 7 #[.agg #[.int .i64 a, .int .i64 b, v], .agg #[.int .i64 x, .int .i64 y]] w fun e w' => e = .returned (.tuple #[(Value.agg #[.int .i32 c.r, .int .u8 c.c.r, .int .u8 c.c.g, .int .u8 c.c.b, .int .u8 c.c.a, .int .u8 c.b.r, .int .u8 c.b.g, .int .u8 c.b.b, .int .u8 c.b.a, .bool c.wd, .bool c.tl]), .int .i64 0]) ∧ Below w.heap.size w w' := by
  obtain ⟨oa, cap, rfl, hcap, hg⟩ := id hv
  have hp : 0 ≤ x ∧ x < a ∧ 0 ≤ y ∧ y < b := by simpa [plB] using hP
  have hsz : szB a b = true ∧ (l.length : Int) = a * b := by
    unfold scE at hE
    split at hE
    · next h => exact ⟨h.1, h.2.1⟩
    · exact absurd hE (by decide)
  obtain ⟨s1, s2, s3, s4, s5⟩ := szB_iff.1 hsz.1
  have m1 : y * a + a ≤ a * b := by
    have : (y + 1) * a ≤ b * a := Int.mul_le_mul_of_nonneg_right (by omega) (by omega)
    rw [Int.add_mul, Int.one_mul, Int.mul_comm b a] at this
    exact this
  have m0 : 0 ≤ y * a := Int.mul_nonneg (by omega) (by omega)
  obtain ⟨p, hpp⟩ : ∃ p : Nat, (p : Int) = y * a := ⟨(y * a).toNat, by omega⟩
  obtain ⟨i, hi⟩ : ∃ i : Nat, (i : Int) = (p : Int) + x := ⟨((p : Int) + x).toNat, by omega⟩
  have hil : i < l.length := by omega
  obtain ⟨g, o, rfl, hgl, hat⟩ := hg (by omega)
  have hci : l[i] = c := by
    rw [hc, ← hpp, ← hi]
    simp [List.getD, hil]
  have HA : Hid (∀ W, Below w.heap.size w W → CeAt W g (o + i * 11) c) := fun W hb => by
    have := hat i hil
    rw [hci] at this
    exact this.kept fun j => hb.cell (p := ⟨g, j, none⟩) hgl
  have HC : Hid (∀ W, Below w.heap.size w W → Calls Tryz.prog 23 #[.agg #[.int .i64 a, .int .i64 b, .slice (some ⟨g, o, none⟩) l.length cap]] W fun e w' => e = .returned (.int .i64 0) ∧ Below W.heap.size W w') := fun W h => by rw [← hE]; exact checkC_any a b l _ W (hv.below h) hl (T.below h)
  have HP : Hid (∀ W, Calls Tryz.prog 24 #[.agg #[.int .i64 a, .int .i64 b], .agg #[.int .i64 x, .int .i64 y]] W fun e w' => e = .returned (.bool true) ∧ Below W.heap.size W w') := fun W => by rw [← hP]; exact place_any a b x y W
  have H0 : Hid (Below w.heap.size w (((w.alloc (.cells #[.int .i64 a, .int .i64 b, .slice (some ⟨g, o, none⟩) l.length cap] 26)).alloc (.cells #[.int .i64 x, .int .i64 y] 28)).alloc (.cells #[.int .i32 0, .int .u8 0, .int .u8 0, .int .u8 0, .int .u8 0, .int .u8 0, .int .u8 0, .int .u8 0, .int .u8 0, .bool false, .bool false] 34)) ∧ Bk (((w.alloc (.cells #[.int .i64 a, .int .i64 b, .slice (some ⟨g, o, none⟩) l.length cap] 26)).alloc (.cells #[.int .i64 x, .int .i64 y] 28)).alloc (.cells #[.int .i32 0, .int .u8 0, .int .u8 0, .int .u8 0, .int .u8 0, .int .u8 0, .int .u8 0, .int .u8 0, .int .u8 0, .bool false, .bool false] 34)) w.heap.size #[.int .i64 a, .int .i64 b, .slice (some ⟨g, o, none⟩) l.length cap] 26 ∧ Bk (((w.alloc (.cells #[.int .i64 a, .int .i64 b, .slice (some ⟨g, o, none⟩) l.length cap] 26)).alloc (.cells #[.int .i64 x, .int .i64 y] 28)).alloc (.cells #[.int .i32 0, .int .u8 0, .int .u8 0, .int .u8 0, .int .u8 0, .int .u8 0, .int .u8 0, .int .u8 0, .int .u8 0, .bool false, .bool false] 34)) (w.heap.size + 1) #[.int .i64 x, .int .i64 y] 28 ∧ Bk (((w.alloc (.cells #[.int .i64 a, .int .i64 b, .slice (some ⟨g, o, none⟩) l.length cap] 26)).alloc (.cells #[.int .i64 x, .int .i64 y] 28)).alloc (.cells #[.int .i32 0, .int .u8 0, .int .u8 0, .int .u8 0, .int .u8 0, .int .u8 0, .int .u8 0, .int .u8 0, .int .u8 0, .bool false, .bool false] 34)) (w.heap.size + 1 + 1) #[.int .i32 0, .int .u8 0, .int .u8 0, .int .u8 0, .int .u8 0, .int .u8 0, .int .u8 0, .int .u8 0, .int .u8 0, .bool false, .bool false] 34) := by
    have k1 := (((Bk.new w #[.int .i64 a, .int .i64 b, .slice (some ⟨g, o, none⟩) l.length cap] 26).below ((Below.refl _ _).alloc (Nat.le_refl _) (.cells #[.int .i64 x, .int .i64 y] 28)))).below ((Below.refl _ _).alloc (Nat.le_refl _) (.cells #[.int .i32 0, .int .u8 0, .int .u8 0, .int .u8 0, .int .u8 0, .int .u8 0, .int .u8 0, .int .u8 0, .int .u8 0, .bool false, .bool false] 34))
    have k3 := (Bk.new (w.alloc (.cells #[.int .i64 a, .int .i64 b, .slice (some ⟨g, o, none⟩) l.length cap] 26)) #[.int .i64 x, .int .i64 y] 28).below ((Below.refl _ _).alloc (Nat.le_refl _) (.cells #[.int .i32 0, .int .u8 0, .int .u8 0, .int .u8 0, .int .u8 0, .int .u8 0, .int .u8 0, .int .u8 0, .int .u8 0, .bool false, .bool false] 34))
    have k2 := Bk.new ((w.alloc (.cells #[.int .i64 a, .int .i64 b, .slice (some ⟨g, o, none⟩) l.length cap] 26)).alloc (.cells #[.int .i64 x, .int .i64 y] 28)) #[.int .i32 0, .int .u8 0, .int .u8 0, .int .u8 0, .int .u8 0, .int .u8 0, .int .u8 0, .int .u8 0, .int .u8 0, .bool false, .bool false] 34
    simp only [World.size_alloc] at k2 k3
    exact ⟨(((Below.refl w.heap.size w).alloc (Nat.le_refl _) _).alloc (by simp) _).alloc (by simp; omega) _, k1, k3, k2⟩
  have g1 : IntKind.i64.wrap (y * a) = (p : Int) := by rw [← hpp, IntKind.wrap_i64]; omega
  have g2 : IntKind.i64.wrap ((p : Int) + x) = (i : Int) := by rw [← hi, IntKind.wrap_i64]; omega
  clear hv T hE hP hp hsz s1 s2 s3 s4 s5 m1 m0 hpp hi hat hci hc hg hcap
  go_enter Tryz.func7, Tryz.ntmps7
  go_wp2_with fail
  generalize ((w.alloc (.cells #[.int .i64 a, .int .i64 b, .slice (some ⟨g, o, none⟩) l.length cap] 26)).alloc (.cells #[.int .i64 x, .int .i64 y] 28)).alloc (.cells #[.int .i32 0, .int .u8 0, .int .u8 0, .int .u8 0, .int .u8 0, .int .u8 0, .int .u8 0, .int .u8 0, .int .u8 0, .bool false, .bool false] 34) = w1 at *
  refine (HC.out _ H0.out.1).mono ?_
  rintro e w2 ⟨rfl, hb⟩
  have H2 : Hid (Below w.heap.size w w2 ∧ Bk w2 w.heap.size #[.int .i64 a, .int .i64 b, .slice (some ⟨g, o, none⟩) l.length cap] 26 ∧ Bk w2 (w.heap.size + 1) #[.int .i64 x, .int .i64 y] 28 ∧ Bk w2 (w.heap.size + 1 + 1) #[.int .i32 0, .int .u8 0, .int .u8 0, .int .u8 0, .int .u8 0, .int .u8 0, .int .u8 0, .int .u8 0, .int .u8 0, .bool false, .bool false] 34) := ⟨H0.out.1.trans (hb.mono H0.out.1.size), H0.out.2.1.below hb, H0.out.2.2.1.below hb, H0.out.2.2.2.below hb⟩
  clear hb H0 HC
  obtain ⟨z0, z1, z2⟩ := Bk.at3S H2.out.2.1
  have p0 : w2.cell? ⟨w.heap.size + 1, 0, none⟩ = some (.int .i64 x) := by rw [H2.out.2.2.1.cell]; rfl
  have p1 : w2.cell? ⟨w.heap.size + 1, 1, none⟩ = some (.int .i64 y) := by rw [H2.out.2.2.1.cell]; rfl
  go_wp2_with fail
  refine (HP.out _).mono ?_
  rintro e w3 ⟨rfl, hb⟩
  have H3 : Hid (Below w.heap.size w w3 ∧ Bk w3 w.heap.size #[.int .i64 a, .int .i64 b, .slice (some ⟨g, o, none⟩) l.length cap] 26 ∧ Bk w3 (w.heap.size + 1) #[.int .i64 x, .int .i64 y] 28 ∧ Bk w3 (w.heap.size + 1 + 1) #[.int .i32 0, .int .u8 0, .int .u8 0, .int .u8 0, .int .u8 0, .int .u8 0, .int .u8 0, .int .u8 0, .int .u8 0, .bool false, .bool false] 34) := ⟨H2.out.1.trans (hb.mono H2.out.1.size), H2.out.2.1.below hb, H2.out.2.2.1.below hb, H2.out.2.2.2.below hb⟩
  clear hb H2 HP z0 z1 z2 p0 p1
  obtain ⟨z0, z1, z2⟩ := Bk.at3S H3.out.2.1
  have p0 : w3.cell? ⟨w.heap.size + 1, 0, none⟩ = some (.int .i64 x) := by rw [H3.out.2.2.1.cell]; rfl
  have p1 : w3.cell? ⟨w.heap.size + 1, 1, none⟩ = some (.int .i64 y) := by rw [H3.out.2.2.1.cell]; rfl
  obtain ⟨c0, c1, c2, c3, c4, c5, c6, c7, c8, c9, c10⟩ := HA.out _ H3.out.1
  go_wp2_with (refine wpList_store_row rfl 34 (.tmp 4) (.tmp 31) rfl (w.heap.size + 1 + 1) (#[.int .i32 c.r, .int .u8 c.c.r, .int .u8 c.c.g, .int .u8 c.c.b, .int .u8 c.c.a, .int .u8 c.b.r, .int .u8 c.b.g, .int .u8 c.b.b, .int .u8 c.b.a, .bool c.wd, .bool c.tl]) rfl rfl 34 _ H3.out.2.2.2 cel_size rfl (by simp [Value.oneCell']) ?_)
  obtain ⟨W3, hW3⟩ : ∃ W3, W3 = w3.setRow (w.heap.size + 1 + 1) (#[.int .i32 c.r, .int .u8 c.c.r, .int .u8 c.c.g, .int .u8 c.c.b, .int .u8 c.c.a, .int .u8 c.b.r, .int .u8 c.b.g, .int .u8 c.b.b, .int .u8 c.b.a, .bool c.wd, .bool c.tl]) := ⟨_, rfl⟩
  have H4 : Hid (Bk W3 (w.heap.size + 1 + 1) (#[.int .i32 c.r, .int .u8 c.c.r, .int .u8 c.c.g, .int .u8 c.c.b, .int .u8 c.c.a, .int .u8 c.b.r, .int .u8 c.b.g, .int .u8 c.b.b, .int .u8 c.b.a, .bool c.wd, .bool c.tl]) 34 ∧ Below w.heap.size w W3) := by rw [hW3]; exact ⟨setRow_heap w3 _ _ _ 34 _ H3.out.2.2.2, below_setRow H3.out.1 (by omega) _⟩
  rw [← hW3]
  clear hW3 H3
  have hld : (loadVar 34 ⟨w.heap.size + 1 + 1, 0, none⟩).run Tryz.prog W3 = .ok (.agg (#[.int .i32 c.r, .int .u8 c.c.r, .int .u8 c.c.g, .int .u8 c.c.b, .int .u8 c.c.a, .int .u8 c.b.r, .int .u8 c.b.g, .int .u8 c.b.b, .int .u8 c.b.a, .bool c.wd, .bool c.tl])) W3 := run_loadVar_row W3 _ 34 34 _ _ _ H4.out.1 Tryz.underlying34 rfl cel_size
  refine bodyPost_ret (v := .tuple #[.agg (#[.int .i32 c.r, .int .u8 c.c.r, .int .u8 c.c.g, .int .u8 c.c.b, .int .u8 c.c.a, .int .u8 c.b.r, .int .u8 c.b.g, .int .u8 c.b.b, .int .u8 c.b.a, .bool c.wd, .bool c.tl]), .int .i64 0]) ?_ rfl ⟨rfl, H4.out.2⟩
  simp [results, Tryz.results7, asAddr, hld]
theorem atS_any (a b : Int) (l : List Ce) (v : Value) (x y : Int) (w : World) (hv : LsC w v l) (hl : l.length ≤ 9223372036854775806) (T : Tabs w) :
    Calls Tryz.prog 7 #[.agg #[.int .i64 a, .int .i64 b, v], .agg #[.int .i64 x, .int .i64 y]] w fun e w' => e = .returned (.tuple #[(Value.agg #[.int .i32 (atC a b l x y).r, .int .u8 (atC a b l x y).c.r, .int .u8 (atC a b l x y).c.g, .int .u8 (atC a b l x y).c.b, .int .u8 (atC a b l x y).c.a, .int .u8 (atC a b l x y).b.r, .int .u8 (atC a b l x y).b.g, .int .u8 (atC a b l x y).b.b, .int .u8 (atC a b l x y).b.a, .bool (atC a b l x y).wd, .bool (atC a b l x y).tl]), .int .i64 (atE a b l x y)]) ∧ Below w.heap.size w w' := by
  unfold atC atE
  rcases sc_two a b l with h | h
  · cases hp : plB a b x y
    · rw [if_neg (fun h => absurd h.2 (by decide)), if_neg (fun h => absurd h.2 (by decide))]
      exact at_off a b l v x y w hv hl h hp T
    · rw [if_pos ⟨h, rfl⟩, if_pos ⟨h, rfl⟩]
      exact at_in a b l v x y w hv hl h hp T _ rfl
  · have h0 : ¬ scE a b l = 0 := by rw [h]; decide
    rw [if_neg (fun h => h0 h.1), if_neg (fun h => h0 h.1)]
    exact at_bad a b l v x y w hv hl h T

end Go.Proofs.YtcahdmfmcojaoaaGreatDoor

/-
  Package cells: sameRune, sameLook.
-/
namespace Go.Proofs.YtcahdmfmcojaoaaGreatDoor
open Go.RowKit

def smR (x y : Ce) : Bool := x.wd && (y.tl && (x.r == y.r))
theorem smR_any (x y : Ce) (w : World) : Calls Tryz.prog 63 #[(Value.agg #[.int .i32 x.r, .int .u8 x.c.r, .int .u8 x.c.g, .int .u8 x.c.b, .int .u8 x.c.a, .int .u8 x.b.r, .int .u8 x.b.g, .int .u8 x.b.b, .int .u8 x.b.a, .bool x.wd, .bool x.tl]), (Value.agg #[.int .i32 y.r, .int .u8 y.c.r, .int .u8 y.c.g, .int .u8 y.c.b, .int .u8 y.c.a, .int .u8 y.b.r, .int .u8 y.b.g, .int .u8 y.b.b, .int .u8 y.b.a, .bool y.wd, .bool y.tl])] w fun e w' => e = .returned (.bool (smR x y)) ∧ Below w.heap.size w w' := by
  have H0 : Hid (Below w.heap.size w ((w.alloc (.cells (#[.int .i32 x.r, .int .u8 x.c.r, .int .u8 x.c.g, .int .u8 x.c.b, .int .u8 x.c.a, .int .u8 x.b.r, .int .u8 x.b.g, .int .u8 x.b.b, .int .u8 x.b.a, .bool x.wd, .bool x.tl]) 34)).alloc (.cells (#[.int .i32 y.r, .int .u8 y.c.r, .int .u8 y.c.g, .int .u8 y.c.b, .int .u8 y.c.a, .int .u8 y.b.r, .int .u8 y.b.g, .int .u8 y.b.b, .int .u8 y.b.a, .bool y.wd, .bool y.tl]) 34))) := ((Below.refl w.heap.size w).alloc (Nat.le_refl _) _).alloc (by simp) _
  obtain ⟨r, c, b, wd, tl⟩ := x
  obtain ⟨r', c', b', wd', tl'⟩ := y
  simp only at *
  unfold smR
  simp only
  cases wd
  · go_enter Tryz.func63, Tryz.ntmps63
    go_wp2
    go_ret
    exact ⟨rfl, H0.out⟩
  · cases tl'
    · go_enter Tryz.func63, Tryz.ntmps63
      go_wp2
      go_ret
      exact ⟨rfl, H0.out⟩
    · go_enter Tryz.func63, Tryz.ntmps63
      go_wp2
      go_ret
      exact ⟨rfl, H0.out⟩

def eqK (a b : Co) : Bool := (a.r == b.r) && ((a.g == b.g) && ((a.b == b.b) && (a.a == b.a)))
theorem eql_col (a b : Co) (w : World) : (binOp .eql 30 (Value.agg #[.int .u8 a.r, .int .u8 a.g, .int .u8 a.b, .int .u8 a.a]) (Value.agg #[.int .u8 b.r, .int .u8 b.g, .int .u8 b.b, .int .u8 b.a])).run Tryz.prog w = .ok (.bool (eqK a b)) w := by
  simp [go_sem]
  exact chainZ (chainZ (chainZ chainY))
def smL (x y : Ce) : Bool := smR x y && (eqK x.c y.c && eqK x.b y.b)
theorem smL_any (x y : Ce) (w : World) : Calls Tryz.prog 93 #[(Value.agg #[.int .i32 x.r, .int .u8 x.c.r, .int .u8 x.c.g, .int .u8 x.c.b, .int .u8 x.c.a, .int .u8 x.b.r, .int .u8 x.b.g, .int .u8 x.b.b, .int .u8 x.b.a, .bool x.wd, .bool x.tl]), (Value.agg #[.int .i32 y.r, .int .u8 y.c.r, .int .u8 y.c.g, .int .u8 y.c.b, .int .u8 y.c.a, .int .u8 y.b.r, .int .u8 y.b.g, .int .u8 y.b.b, .int .u8 y.b.a, .bool y.wd, .bool y.tl])] w fun e w' => e = .returned (.bool (smL x y)) ∧ Below w.heap.size w w' := by
  have H0 : Hid (Below w.heap.size w ((w.alloc (.cells (#[.int .i32 x.r, .int .u8 x.c.r, .int .u8 x.c.g, .int .u8 x.c.b, .int .u8 x.c.a, .int .u8 x.b.r, .int .u8 x.b.g, .int .u8 x.b.b, .int .u8 x.b.a, .bool x.wd, .bool x.tl]) 34)).alloc (.cells (#[.int .i32 y.r, .int .u8 y.c.r, .int .u8 y.c.g, .int .u8 y.c.b, .int .u8 y.c.a, .int .u8 y.b.r, .int .u8 y.b.g, .int .u8 y.b.b, .int .u8 y.b.a, .bool y.wd, .bool y.tl]) 34))) := ((Below.refl w.heap.size w).alloc (Nat.le_refl _) _).alloc (by simp) _
  have HS : Hid (∀ W, Calls Tryz.prog 63 #[(Value.agg #[.int .i32 x.r, .int .u8 x.c.r, .int .u8 x.c.g, .int .u8 x.c.b, .int .u8 x.c.a, .int .u8 x.b.r, .int .u8 x.b.g, .int .u8 x.b.b, .int .u8 x.b.a, .bool x.wd, .bool x.tl]), (Value.agg #[.int .i32 y.r, .int .u8 y.c.r, .int .u8 y.c.g, .int .u8 y.c.b, .int .u8 y.c.a, .int .u8 y.b.r, .int .u8 y.b.g, .int .u8 y.b.b, .int .u8 y.b.a, .bool y.wd, .bool y.tl])] W fun e w' => e = .returned (.bool (smR x y)) ∧ Below W.heap.size W w') := smR_any x y
  have HB : Hid (Bk ((w.alloc (.cells (#[.int .i32 x.r, .int .u8 x.c.r, .int .u8 x.c.g, .int .u8 x.c.b, .int .u8 x.c.a, .int .u8 x.b.r, .int .u8 x.b.g, .int .u8 x.b.b, .int .u8 x.b.a, .bool x.wd, .bool x.tl]) 34)).alloc (.cells (#[.int .i32 y.r, .int .u8 y.c.r, .int .u8 y.c.g, .int .u8 y.c.b, .int .u8 y.c.a, .int .u8 y.b.r, .int .u8 y.b.g, .int .u8 y.b.b, .int .u8 y.b.a, .bool y.wd, .bool y.tl]) 34)) w.heap.size (#[.int .i32 x.r, .int .u8 x.c.r, .int .u8 x.c.g, .int .u8 x.c.b, .int .u8 x.c.a, .int .u8 x.b.r, .int .u8 x.b.g, .int .u8 x.b.b, .int .u8 x.b.a, .bool x.wd, .bool x.tl]) 34 ∧ Bk ((w.alloc (.cells (#[.int .i32 x.r, .int .u8 x.c.r, .int .u8 x.c.g, .int .u8 x.c.b, .int .u8 x.c.a, .int .u8 x.b.r, .int .u8 x.b.g, .int .u8 x.b.b, .int .u8 x.b.a, .bool x.wd, .bool x.tl]) 34)).alloc (.cells (#[.int .i32 y.r, .int .u8 y.c.r, .int .u8 y.c.g, .int .u8 y.c.b, .int .u8 y.c.a, .int .u8 y.b.r, .int .u8 y.b.g, .int .u8 y.b.b, .int .u8 y.b.a, .bool y.wd, .bool y.tl]) 34)) (w.heap.size + 1) (#[.int .i32 y.r, .int .u8 y.c.r, .int .u8 y.c.g, .int .u8 y.c.b, .int .u8 y.c.a, .int .u8 y.b.r, .int .u8 y.b.g, .int .u8 y.b.b, .int .u8 y.b.a, .bool y.wd, .bool y.tl]) 34) := by
    have k1 := (Bk.new w (#[.int .i32 x.r, .int .u8 x.c.r, .int .u8 x.c.g, .int .u8 x.c.b, .int .u8 x.c.a, .int .u8 x.b.r, .int .u8 x.b.g, .int .u8 x.b.b, .int .u8 x.b.a, .bool x.wd, .bool x.tl]) 34).below ((Below.refl _ _).alloc (Nat.le_refl _) (.cells (#[.int .i32 y.r, .int .u8 y.c.r, .int .u8 y.c.g, .int .u8 y.c.b, .int .u8 y.c.a, .int .u8 y.b.r, .int .u8 y.b.g, .int .u8 y.b.b, .int .u8 y.b.a, .bool y.wd, .bool y.tl]) 34))
    have k2 := Bk.new (w.alloc (.cells (#[.int .i32 x.r, .int .u8 x.c.r, .int .u8 x.c.g, .int .u8 x.c.b, .int .u8 x.c.a, .int .u8 x.b.r, .int .u8 x.b.g, .int .u8 x.b.b, .int .u8 x.b.a, .bool x.wd, .bool x.tl]) 34)) (#[.int .i32 y.r, .int .u8 y.c.r, .int .u8 y.c.g, .int .u8 y.c.b, .int .u8 y.c.a, .int .u8 y.b.r, .int .u8 y.b.g, .int .u8 y.b.b, .int .u8 y.b.a, .bool y.wd, .bool y.tl]) 34
    simp only [World.size_alloc] at k2
    exact ⟨k1, k2⟩
  have q1 := eql_col x.c y.c
  have q2 := eql_col x.b y.b
  unfold smL
  generalize smR x y = s0 at *
  generalize eqK x.c y.c = s1 at *
  generalize eqK x.b y.b = s2 at *
  cases s0
  · go_enter Tryz.func93, Tryz.ntmps93
    go_wp2_with fail
    refine (HS.out _).mono ?_
    rintro e w2 ⟨rfl, hb⟩
    have H2 : Hid (Below w.heap.size w w2 ∧ Bk w2 w.heap.size (#[.int .i32 x.r, .int .u8 x.c.r, .int .u8 x.c.g, .int .u8 x.c.b, .int .u8 x.c.a, .int .u8 x.b.r, .int .u8 x.b.g, .int .u8 x.b.b, .int .u8 x.b.a, .bool x.wd, .bool x.tl]) 34 ∧ Bk w2 (w.heap.size + 1) (#[.int .i32 y.r, .int .u8 y.c.r, .int .u8 y.c.g, .int .u8 y.c.b, .int .u8 y.c.a, .int .u8 y.b.r, .int .u8 y.b.g, .int .u8 y.b.b, .int .u8 y.b.a, .bool y.wd, .bool y.tl]) 34) := ⟨H0.out.trans (hb.mono H0.out.size), HB.out.1.below hb, HB.out.2.below hb⟩
    clear hb H0 HB HS
    have cx := H2.out.2.1.cell
    have cy := H2.out.2.2.cell
    have a1 := cx 1
    have a2 := cx 2
    have a3 := cx 3
    have a4 := cx 4
    have a5 := cx 5
    have a6 := cx 6
    have a7 := cx 7
    have a8 := cx 8
    have b1 := cy 1
    have b2 := cy 2
    have b3 := cy 3
    have b4 := cy 4
    have b5 := cy 5
    have b6 := cy 6
    have b7 := cy 7
    have b8 := cy 8
    simp only [List.getElem?_toArray, List.getElem?_cons_zero, List.getElem?_cons_succ] at a1 a2 a3 a4 a5 a6 a7 a8 b1 b2 b3 b4 b5 b6 b7 b8
    clear cx cy
    go_wp2
    go_ret
    exact ⟨rfl, H2.out.1⟩
  · cases s1
    · go_enter Tryz.func93, Tryz.ntmps93
      go_wp2_with fail
      refine (HS.out _).mono ?_
      rintro e w2 ⟨rfl, hb⟩
      have H2 : Hid (Below w.heap.size w w2 ∧ Bk w2 w.heap.size (#[.int .i32 x.r, .int .u8 x.c.r, .int .u8 x.c.g, .int .u8 x.c.b, .int .u8 x.c.a, .int .u8 x.b.r, .int .u8 x.b.g, .int .u8 x.b.b, .int .u8 x.b.a, .bool x.wd, .bool x.tl]) 34 ∧ Bk w2 (w.heap.size + 1) (#[.int .i32 y.r, .int .u8 y.c.r, .int .u8 y.c.g, .int .u8 y.c.b, .int .u8 y.c.a, .int .u8 y.b.r, .int .u8 y.b.g, .int .u8 y.b.b, .int .u8 y.b.a, .bool y.wd, .bool y.tl]) 34) := ⟨H0.out.trans (hb.mono H0.out.size), HB.out.1.below hb, HB.out.2.below hb⟩
      clear hb H0 HB HS
      have cx := H2.out.2.1.cell
      have cy := H2.out.2.2.cell
      have a1 := cx 1
      have a2 := cx 2
      have a3 := cx 3
      have a4 := cx 4
      have a5 := cx 5
      have a6 := cx 6
      have a7 := cx 7
      have a8 := cx 8
      have b1 := cy 1
      have b2 := cy 2
      have b3 := cy 3
      have b4 := cy 4
      have b5 := cy 5
      have b6 := cy 6
      have b7 := cy 7
      have b8 := cy 8
      simp only [List.getElem?_toArray, List.getElem?_cons_zero, List.getElem?_cons_succ] at a1 a2 a3 a4 a5 a6 a7 a8 b1 b2 b3 b4 b5 b6 b7 b8
      clear cx cy
      go_wp2
      go_ret
      exact ⟨rfl, H2.out.1⟩
    · go_enter Tryz.func93, Tryz.ntmps93
      go_wp2_with fail
      refine (HS.out _).mono ?_
      rintro e w2 ⟨rfl, hb⟩
      have H2 : Hid (Below w.heap.size w w2 ∧ Bk w2 w.heap.size (#[.int .i32 x.r, .int .u8 x.c.r, .int .u8 x.c.g, .int .u8 x.c.b, .int .u8 x.c.a, .int .u8 x.b.r, .int .u8 x.b.g, .int .u8 x.b.b, .int .u8 x.b.a, .bool x.wd, .bool x.tl]) 34 ∧ Bk w2 (w.heap.size + 1) (#[.int .i32 y.r, .int .u8 y.c.r, .int .u8 y.c.g, .int .u8 y.c.b, .int .u8 y.c.a, .int .u8 y.b.r, .int .u8 y.b.g, .int .u8 y.b.b, .int .u8 y.b.a, .bool y.wd, .bool y.tl]) 34) := ⟨H0.out.trans (hb.mono H0.out.size), HB.out.1.below hb, HB.out.2.below hb⟩
      clear hb H0 HB HS
      have cx := H2.out.2.1.cell
      have cy := H2.out.2.2.cell
      have a1 := cx 1
      have a2 := cx 2
      have a3 := cx 3
      have a4 := cx 4
      have a5 := cx 5
      have a6 := cx 6
      have a7 := cx 7
      have a8 := cx 8
      have b1 := cy 1
      have b2 := cy 2
      have b3 := cy 3
      have b4 := cy 4
      have b5 := cy 5
      have b6 := cy 6
      have b7 := cy 7
      have b8 := cy 8
      simp only [List.getElem?_toArray, List.getElem?_cons_zero, List.getElem?_cons_succ] at a1 a2 a3 a4 a5 a6 a7 a8 b1 b2 b3 b4 b5 b6 b7 b8
      clear cx cy
      go_wp2
      go_ret
      exact ⟨rfl, H2.out.1⟩

end Go.Proofs.YtcahdmfmcojaoaaGreatDoor
