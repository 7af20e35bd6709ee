/-
  The walk of the statement TopWrapped.
-/
import Derived.Test.YtbnbfgkcndomaabGreatDoorVAl
import Derived.Test.YtbnbfgkcndomaabGreatDoorUL
import Derived.Test.YtbnbfgkcndomaabGreatDoorVB2
namespace Go.Proofs.YtbnbfgkcndomaabGreatDoor
open Go.RowKit Go.Shelf

theorem kinds_any (k : Nat) (hk : kindB k = true) (w : World) :
    Calls Tryz.prog 30 #[.int .u8 (k : Nat)] w fun e w' => e = .returned (.int .u16 (canK k : Nat)) ∧ w' = w := by
  rcases kind_cases hk with rfl | rfl | rfl | rfl | rfl | rfl | rfl | rfl | rfl | rfl
  all_goals
    clear hk
    go_enter Tryz.func30, Tryz.ntmps30
    go_wp2
    go_ret
    exact ⟨rfl, rfl⟩

set_option maxHeartbeats 1000000 in
theorem shows_any (c : Nat) (x : Wr) (w : World) (hc : c < 64) (hm : x.kind = 1 ∨ x.kind = 2 → x.mask < 64) :
    Calls Tryz.prog 31 #[.int .u16 (c : Nat), (Value.agg #[.int .u8 (x.kind : Nat), .int .u16 (x.mask : Nat), .int .i64 x.num, .string x.text])] w fun e w' => e = .returned (.int .u16 (lefC c x : Nat)) ∧ Below w.heap.size w w' := by
  have L : Hid (Below w.heap.size w (w.alloc (.cells (#[.int .u8 (x.kind : Nat), .int .u16 (x.mask : Nat), .int .i64 x.num, .string x.text]) 58))) := (Below.refl _ w).alloc (Nat.le_refl _) _
  obtain ⟨k, m, n, t⟩ := x
  simp only at hm
  have hk : k = 1 ∨ k = 2 ∨ k = 5 ∨ k = 6 ∨ k = 7 ∨ (k ≠ 1 ∧ k ≠ 2 ∧ k ≠ 5 ∧ k ≠ 6 ∧ k ≠ 7) := by omega
  rcases hk with rfl | rfl | rfl | rfl | rfl | ⟨n1, n2, n5, n6, n7⟩
  · have e := (and_fin ⟨c, hc⟩ ⟨m, hm (.inl rfl)⟩).1
    simp only at e
    go_enter Tryz.func31, Tryz.ntmps31
    go_wp2
    go_ret
    exact ⟨by rw [show lefC c ⟨1, m, n, t⟩ = c &&& (63 ^^^ m) from rfl, ← e]; rfl, L.out⟩
  · have e := (and_fin ⟨c, hc⟩ ⟨m, hm (.inr rfl)⟩).2.1
    simp only at e
    go_enter Tryz.func31, Tryz.ntmps31
    go_wp2
    go_ret
    exact ⟨by rw [show lefC c ⟨2, m, n, t⟩ = c &&& m from rfl, ← e]; rfl, L.out⟩
  · have e := (or_fin ⟨c, hc⟩).1
    simp only at e
    go_enter Tryz.func31, Tryz.ntmps31
    go_wp2
    go_ret
    exact ⟨by rw [show lefC c ⟨5, m, n, t⟩ = c ||| 4 from rfl, ← e]; rfl, L.out⟩
  · have e := (or_fin ⟨c, hc⟩).2.1
    simp only at e
    go_enter Tryz.func31, Tryz.ntmps31
    go_wp2
    go_ret
    exact ⟨by rw [show lefC c ⟨6, m, n, t⟩ = c ||| 16 from rfl, ← e]; rfl, L.out⟩
  · go_enter Tryz.func31, Tryz.ntmps31
    go_wp2
    go_ret
    exact ⟨rfl, L.out⟩
  · have e : lefC c ⟨k, m, n, t⟩ = c := by simp [lefC, n1, n2, n5, n6, n7]
    have k1 : ((k : Int) == 1) = false := beq_eq_false_iff_ne.2 (by omega)
    have k2 : ((k : Int) == 2) = false := beq_eq_false_iff_ne.2 (by omega)
    have k5 : ((k : Int) == 5) = false := beq_eq_false_iff_ne.2 (by omega)
    have k6 : ((k : Int) == 6) = false := beq_eq_false_iff_ne.2 (by omega)
    have k7 : ((k : Int) == 7) = false := beq_eq_false_iff_ne.2 (by omega)
    rw [e]
    clear n1 n2 n5 n6 n7 e
    go_enter Tryz.func31, Tryz.ntmps31
    go_wp2
    go_ret
    exact ⟨rfl, L.out⟩

theorem make_ndbad (n : Nd) (h : ¬ (kindB n.kind = true ∧ okN n = true)) : ∃ er : Int, (er != 0) = true ∧ ∀ W v, Tbs W → Calls Tryz.prog 20 #[(Value.agg #[.int .u8 (n.kind : Nat), .string n.name, .string n.cls, .string n.text, .int .i64 n.minW, .int .i64 n.minH, .int .i64 n.maxW, .int .i64 n.maxH, .int .i64 n.grow, .int .i64 n.order, .bool n.column, .int .i64 n.columns, .int .i64 n.span, .int .i64 n.gap, .int .i64 n.offX, .int .i64 n.offY, .bool n.hidden, .slice n.wA n.wN n.wC, .slice n.kA n.kN n.kC]), v] W fun e w' => e = .returned (.tuple #[.nilIface, .int .i64 er]) ∧ Below W.heap.size W w' := by
  cases hk : kindB n.kind
  · exact ⟨60, rfl, fun W v _ => make_kind n v W hk⟩
  · cases ho : okN n
    · exact ⟨2, rfl, fun W v T => make_arg n v W T hk ho⟩
    · exact absurd ⟨hk, ho⟩ h

/-- The label "a". -/
def ndA : Nd := ⟨1, ⟨#[]⟩, ⟨#[]⟩, ⟨#[97]⟩, 0, 0, 0, 0, 0, 0, false, 0, 0, 0, 0, 0, false, none, 0, 0, none, 0, 0⟩
theorem make_known (w : World) (T : Tbs w) : Calls Tryz.prog 20 #[(Value.agg #[.int .u8 (ndA.kind : Nat), .string ndA.name, .string ndA.cls, .string ndA.text, .int .i64 ndA.minW, .int .i64 ndA.minH, .int .i64 ndA.maxW, .int .i64 ndA.maxH, .int .i64 ndA.grow, .int .i64 ndA.order, .bool ndA.column, .int .i64 ndA.columns, .int .i64 ndA.span, .int .i64 ndA.gap, .int .i64 ndA.offX, .int .i64 ndA.offY, .bool ndA.hidden, .slice ndA.wA ndA.wN ndA.wC, .slice ndA.kA ndA.kN ndA.kC]), .slice none 0 0] w fun e w' => ∃ b, e = .returned (.tuple #[.iface Ty.label.id (.pointer (some ⟨b, 0, none⟩)), .int .i64 0]) ∧ Below w.heap.size w w' :=
  (make_nil ndA w T rfl (by decide +kernel)).mono fun e w' ⟨b, h1, _, _, h4⟩ => ⟨b, h1, h4⟩

/-- What lies there: the node. -/
structure TwW (w : World) (n : Nd) (W : World) : Prop where
  n : Blk W w.heap.size (#[.int .u8 (n.kind : Nat), .string n.name, .string n.cls, .string n.text, .int .i64 n.minW, .int .i64 n.minH, .int .i64 n.maxW, .int .i64 n.maxH, .int .i64 n.grow, .int .i64 n.order, .bool n.column, .int .i64 n.columns, .int .i64 n.span, .int .i64 n.gap, .int .i64 n.offX, .int .i64 n.offY, .bool n.hidden, .slice n.wA n.wN n.wC, .slice n.kA n.kN n.kC]) 29
  b : Below w.heap.size w W
theorem TwW.below {w : World} {n : Nd} {W W' : World} (h : TwW w n W) (hb : Below W.heap.size W W') : TwW w n W' := ⟨h.n.below hb, h.b.trans (hb.mono h.b.size)⟩

set_option maxRecDepth 10000 in
set_option maxHeartbeats 8000000 in
theorem top_bad (n : Nd) (v : Value) (w : World) (T : Tbs w) (h : ¬ (kindB n.kind = true ∧ okN n = true)) :
    Calls Tryz.prog 7 #[(Value.agg #[.int .u8 (n.kind : Nat), .string n.name, .string n.cls, .string n.text, .int .i64 n.minW, .int .i64 n.minH, .int .i64 n.maxW, .int .i64 n.maxH, .int .i64 n.grow, .int .i64 n.order, .bool n.column, .int .i64 n.columns, .int .i64 n.span, .int .i64 n.gap, .int .i64 n.offX, .int .i64 n.offY, .bool n.hidden, .slice n.wA n.wN n.wC, .slice n.kA n.kN n.kC]), v] w fun e w' => e = .returned (.bool true) ∧ Below w.heap.size w w' := by
  obtain ⟨er, he0, HM⟩ := make_ndbad n h
  have HM' : Hid (∀ W v, Tbs W → Calls Tryz.prog 20 #[(Value.agg #[.int .u8 (n.kind : Nat), .string n.name, .string n.cls, .string n.text, .int .i64 n.minW, .int .i64 n.minH, .int .i64 n.maxW, .int .i64 n.maxH, .int .i64 n.grow, .int .i64 n.order, .bool n.column, .int .i64 n.columns, .int .i64 n.span, .int .i64 n.gap, .int .i64 n.offX, .int .i64 n.offY, .bool n.hidden, .slice n.wA n.wN n.wC, .slice n.kA n.kN n.kC]), v] W fun e w' => e = .returned (.tuple #[.nilIface, .int .i64 er]) ∧ Below W.heap.size W w') := HM
  have S0 : Hid (TwW w n (w.alloc (.cells (#[.int .u8 (n.kind : Nat), .string n.name, .string n.cls, .string n.text, .int .i64 n.minW, .int .i64 n.minH, .int .i64 n.maxW, .int .i64 n.maxH, .int .i64 n.grow, .int .i64 n.order, .bool n.column, .int .i64 n.columns, .int .i64 n.span, .int .i64 n.gap, .int .i64 n.offX, .int .i64 n.offY, .bool n.hidden, .slice n.wA n.wN n.wC, .slice n.kA n.kN n.kC]) 29))) := ⟨Blk.new _ _ _, (Below.refl _ w).alloc (Nat.le_refl _) _⟩
  have hK := make_known _ (T.below S0.out.b)
  simp only [ndA] at hK
  have HT : Hid (Tbs w) := T
  have HV : Hid (∀ {W : World} {b : Nat} {t : TypeId}, Blk W b (#[.int .u8 (n.kind : Nat), .string n.name, .string n.cls, .string n.text, .int .i64 n.minW, .int .i64 n.minH, .int .i64 n.maxW, .int .i64 n.maxH, .int .i64 n.grow, .int .i64 n.order, .bool n.column, .int .i64 n.columns, .int .i64 n.span, .int .i64 n.gap, .int .i64 n.offX, .int .i64 n.offY, .bool n.hidden, .slice n.wA n.wN n.wC, .slice n.kA n.kN n.kC]) t → (Instr.loadAt 29 (.pointer (some ⟨b, 0, none⟩))).run Tryz.prog W = .ok (Value.agg #[.int .u8 (n.kind : Nat), .string n.name, .string n.cls, .string n.text, .int .i64 n.minW, .int .i64 n.minH, .int .i64 n.maxW, .int .i64 n.maxH, .int .i64 n.grow, .int .i64 n.order, .bool n.column, .int .i64 n.columns, .int .i64 n.span, .int .i64 n.gap, .int .i64 n.offX, .int .i64 n.offY, .bool n.hidden, .slice n.wA n.wN n.wC, .slice n.kA n.kN n.kC]) W) := load_node
  clear T HM h
  go_enter Tryz.func7, Tryz.ntmps7
  go_wp2_with fail
  refine hK.mono ?_
  rintro e w1 ⟨b0, rfl, hb⟩
  have S1 : Hid (TwW w n w1) := S0.out.below hb
  clear hb S0 hK
  go_wp2_with fail
  refine (can_ty_any .label _ _).mono ?_
  rintro e w2 ⟨rfl, rfl⟩
  go_upto_region 4 with fail
  have hl := HV.out S1.out.n
  refine Go.wp_region_lit ?_
  refine wpList_load rfl _ _ rfl _ _ rfl hl ?_
  clear hl
  generalize (Value.agg #[.int .u8 (n.kind : Nat), .string n.name, .string n.cls, .string n.text, .int .i64 n.minW, .int .i64 n.minH, .int .i64 n.maxW, .int .i64 n.maxH, .int .i64 n.grow, .int .i64 n.order, .bool n.column, .int .i64 n.columns, .int .i64 n.span, .int .i64 n.gap, .int .i64 n.offX, .int .i64 n.offY, .bool n.hidden, .slice n.wA n.wN n.wC, .slice n.kA n.kN n.kC]) = nv at *
  go_wp2_with fail
  refine (HM'.out _ _ (HT.out.below S1.out.b)).mono ?_
  rintro e w2 ⟨rfl, hb⟩
  have S2 : Hid (Below w.heap.size w w2) := (S1.out.below hb).b
  clear hb S1
  go_wp2
  go_ret
  exact ⟨rfl, S2.out⟩

set_option maxRecDepth 10000 in
set_option maxHeartbeats 8000000 in
theorem top_err (n : Nd) (l : List Wr) (v : Value) (w : World) (T : Tbs w) (hk : kindB n.kind = true) (ho : okN n = true) (hv : Wraps w v l) (hs : ∀ x ∈ l, x.wf) (hz : ckE l ≠ 0) :
    Calls Tryz.prog 7 #[(Value.agg #[.int .u8 (n.kind : Nat), .string n.name, .string n.cls, .string n.text, .int .i64 n.minW, .int .i64 n.minH, .int .i64 n.maxW, .int .i64 n.maxH, .int .i64 n.grow, .int .i64 n.order, .bool n.column, .int .i64 n.columns, .int .i64 n.span, .int .i64 n.gap, .int .i64 n.offX, .int .i64 n.offY, .bool n.hidden, .slice n.wA n.wN n.wC, .slice n.kA n.kN n.kC]), v] w fun e w' => e = .returned (.bool true) ∧ Below w.heap.size w w' := by
  have HM : Hid (∀ W, Tbs W → Calls Tryz.prog 20 #[(Value.agg #[.int .u8 (n.kind : Nat), .string n.name, .string n.cls, .string n.text, .int .i64 n.minW, .int .i64 n.minH, .int .i64 n.maxW, .int .i64 n.maxH, .int .i64 n.grow, .int .i64 n.order, .bool n.column, .int .i64 n.columns, .int .i64 n.span, .int .i64 n.gap, .int .i64 n.offX, .int .i64 n.offY, .bool n.hidden, .slice n.wA n.wN n.wC, .slice n.kA n.kN n.kC]), .slice none 0 0] W fun e w' => ∃ b, e = .returned (.tuple #[.iface (tyOf n.kind).id (.pointer (some ⟨b, 0, none⟩)), .int .i64 0]) ∧ PtIn w' b (ptOf n none 0 0) ∧ W.heap.size ≤ b ∧ Below W.heap.size W w') := fun W h => make_nil n W h hk ho
  have S0 : Hid (TwW w n (w.alloc (.cells (#[.int .u8 (n.kind : Nat), .string n.name, .string n.cls, .string n.text, .int .i64 n.minW, .int .i64 n.minH, .int .i64 n.maxW, .int .i64 n.maxH, .int .i64 n.grow, .int .i64 n.order, .bool n.column, .int .i64 n.columns, .int .i64 n.span, .int .i64 n.gap, .int .i64 n.offX, .int .i64 n.offY, .bool n.hidden, .slice n.wA n.wN n.wC, .slice n.kA n.kN n.kC]) 29))) := ⟨Blk.new _ _ _, (Below.refl _ w).alloc (Nat.le_refl _) _⟩
  have hK := make_known _ (T.below S0.out.b)
  simp only [ndA] at hK
  have HT : Hid (Tbs w) := T
  have HV : Hid (∀ {W : World} {b : Nat} {t : TypeId}, Blk W b (#[.int .u8 (n.kind : Nat), .string n.name, .string n.cls, .string n.text, .int .i64 n.minW, .int .i64 n.minH, .int .i64 n.maxW, .int .i64 n.maxH, .int .i64 n.grow, .int .i64 n.order, .bool n.column, .int .i64 n.columns, .int .i64 n.span, .int .i64 n.gap, .int .i64 n.offX, .int .i64 n.offY, .bool n.hidden, .slice n.wA n.wN n.wC, .slice n.kA n.kN n.kC]) t → (Instr.loadAt 29 (.pointer (some ⟨b, 0, none⟩))).run Tryz.prog W = .ok (Value.agg #[.int .u8 (n.kind : Nat), .string n.name, .string n.cls, .string n.text, .int .i64 n.minW, .int .i64 n.minH, .int .i64 n.maxW, .int .i64 n.maxH, .int .i64 n.grow, .int .i64 n.order, .bool n.column, .int .i64 n.columns, .int .i64 n.span, .int .i64 n.gap, .int .i64 n.offX, .int .i64 n.offY, .bool n.hidden, .slice n.wA n.wN n.wC, .slice n.kA n.kN n.kC]) W) := load_node
  have HA : Hid (∀ W i y, Below w.heap.size w W → Calls Tryz.prog 13 #[.iface i y, v] W fun e w' => e = .returned (.tuple #[.nilIface, .int .i64 (ckE l)]) ∧ Below W.heap.size W w') := fun W i y h => all_bad i y v l W (T.2.2.below h) (hv.below h) hs hz
  have HC : Hid (∀ W, Below w.heap.size w W → Calls Tryz.prog 29 #[v] W fun e w' => e = .returned (.int .i64 (ckE l)) ∧ Below W.heap.size W w') := fun W h => rChecks_any l v W (T.2.2.below h) (hv.below h)
  have hz1 : (ckE l != 0) = true := by simpa using hz
  obtain ⟨oa, cap, rfl, _, _⟩ := hv
  clear T hk ho hs
  generalize ckE l = E at *
  generalize (tyOf n.kind).id = ti at *
  have key : ∀ b, decide ((16 : Int) < (l.length : Int)) = b → Calls Tryz.prog 7 #[(Value.agg #[.int .u8 (n.kind : Nat), .string n.name, .string n.cls, .string n.text, .int .i64 n.minW, .int .i64 n.minH, .int .i64 n.maxW, .int .i64 n.maxH, .int .i64 n.grow, .int .i64 n.order, .bool n.column, .int .i64 n.columns, .int .i64 n.span, .int .i64 n.gap, .int .i64 n.offX, .int .i64 n.offY, .bool n.hidden, .slice n.wA n.wN n.wC, .slice n.kA n.kN n.kC]), .slice oa l.length cap] w fun e w' => e = .returned (.bool true) ∧ Below w.heap.size w w' := by
    intro b hb16
    cases b
    · have hm : ¬ (16 : Int) < (l.length : Int) := of_decide_eq_false hb16
      clear hb16
      go_enter Tryz.func7, Tryz.ntmps7
      go_wp2_with fail
      refine hK.mono ?_
      rintro e w1 ⟨b0, rfl, hb⟩
      have S1 : Hid (TwW w n w1) := S0.out.below hb
      clear hb S0 hK
      go_wp2_with fail
      refine (can_ty_any .label _ _).mono ?_
      rintro e w2 ⟨rfl, rfl⟩
      go_upto_region 4 with fail
      have hl := HV.out S1.out.n
      refine Go.wp_region_lit ?_
      refine wpList_load rfl _ _ rfl _ _ rfl hl ?_
      clear hl HV
      generalize (Value.agg #[.int .u8 (n.kind : Nat), .string n.name, .string n.cls, .string n.text, .int .i64 n.minW, .int .i64 n.minH, .int .i64 n.maxW, .int .i64 n.maxH, .int .i64 n.grow, .int .i64 n.order, .bool n.column, .int .i64 n.columns, .int .i64 n.span, .int .i64 n.gap, .int .i64 n.offX, .int .i64 n.offY, .bool n.hidden, .slice n.wA n.wN n.wC, .slice n.kA n.kN n.kC]) = nv at *
      go_wp2_with fail
      refine (HM.out _ (HT.out.below S1.out.b)).mono ?_
      rintro e w3 ⟨b1, rfl, _, _, hb⟩
      have S2 : Hid (Below w.heap.size w w3) := S1.out.b.trans (hb.mono S1.out.b.size)
      clear hb S1 HM
      go_wp2_with fail
      refine (HA.out _ _ _ S2.out).mono ?_
      rintro e w4 ⟨rfl, hb⟩
      have S3 : Hid (Below w.heap.size w w4) := S2.out.trans (hb.mono S2.out.size)
      clear hb S2
      go_wp2_with fail
      refine (HC.out _ S3.out).mono ?_
      rintro e w5 ⟨rfl, hb⟩
      have S4 : Hid (Below w.heap.size w w5) := S3.out.trans (hb.mono S3.out.size)
      clear hb S3
      go_wp2
      go_ret
      exact ⟨rfl, S4.out⟩
    · have hm : (16 : Int) < (l.length : Int) := of_decide_eq_true hb16
      clear hb16
      go_enter Tryz.func7, Tryz.ntmps7
      go_wp2_with fail
      refine hK.mono ?_
      rintro e w1 ⟨b0, rfl, hb⟩
      have S1 : Hid (TwW w n w1) := S0.out.below hb
      clear hb S0 hK
      go_wp2_with fail
      refine (can_ty_any .label _ _).mono ?_
      rintro e w2 ⟨rfl, rfl⟩
      go_upto_region 4 with fail
      have hl := HV.out S1.out.n
      refine Go.wp_region_lit ?_
      refine wpList_load rfl _ _ rfl _ _ rfl hl ?_
      clear hl HV
      generalize (Value.agg #[.int .u8 (n.kind : Nat), .string n.name, .string n.cls, .string n.text, .int .i64 n.minW, .int .i64 n.minH, .int .i64 n.maxW, .int .i64 n.maxH, .int .i64 n.grow, .int .i64 n.order, .bool n.column, .int .i64 n.columns, .int .i64 n.span, .int .i64 n.gap, .int .i64 n.offX, .int .i64 n.offY, .bool n.hidden, .slice n.wA n.wN n.wC, .slice n.kA n.kN n.kC]) = nv at *
      go_wp2_with fail
      refine (HM.out _ (HT.out.below S1.out.b)).mono ?_
      rintro e w3 ⟨b1, rfl, _, _, hb⟩
      have S2 : Hid (Below w.heap.size w w3) := S1.out.b.trans (hb.mono S1.out.b.size)
      clear hb S1 HM
      go_wp2_with fail
      refine (HA.out _ _ _ S2.out).mono ?_
      rintro e w4 ⟨rfl, hb⟩
      have S3 : Hid (Below w.heap.size w w4) := S2.out.trans (hb.mono S2.out.size)
      clear hb S2
      go_wp2
      go_ret
      exact ⟨rfl, S3.out⟩
  exact key _ rfl

theorem val_iface (B : Bs) : ∃ i y, B.val = .iface i y := by cases B <;> exact ⟨_, _, rfl⟩
theorem run_un : ∀ (l : List Wr) (s : Bs × List Wr), l ≠ [] → (!(runW s l).2.isEmpty || (runW s l).1.isHalf) = true := by
  intro l s h
  obtain ⟨l', x, rfl⟩ : ∃ l' x, l = l' ++ [x] := ⟨l.dropLast, l.getLast h, (List.dropLast_concat_getLast h).symm⟩
  rw [run_snoc]
  exact stp_un _ _

set_option maxRecDepth 10000 in
set_option maxHeartbeats 16000000 in
theorem top_ok (n : Nd) (l : List Wr) (v : Value) (w : World) (T : Tbs w) (hk : kindB n.kind = true) (ho : okN n = true) (hv : Wraps w v l) (hs : ∀ x ∈ l, x.wf) (hz : ckE l = 0) :
    Calls Tryz.prog 7 #[(Value.agg #[.int .u8 (n.kind : Nat), .string n.name, .string n.cls, .string n.text, .int .i64 n.minW, .int .i64 n.minH, .int .i64 n.maxW, .int .i64 n.maxH, .int .i64 n.grow, .int .i64 n.order, .bool n.column, .int .i64 n.columns, .int .i64 n.span, .int .i64 n.gap, .int .i64 n.offX, .int .i64 n.offY, .bool n.hidden, .slice n.wA n.wN n.wC, .slice n.kA n.kN n.kC]), v] w fun e w' => e = .returned (.bool true) ∧ Below w.heap.size w w' := by
  have HM : Hid (∀ W, Tbs W → Calls Tryz.prog 20 #[(Value.agg #[.int .u8 (n.kind : Nat), .string n.name, .string n.cls, .string n.text, .int .i64 n.minW, .int .i64 n.minH, .int .i64 n.maxW, .int .i64 n.maxH, .int .i64 n.grow, .int .i64 n.order, .bool n.column, .int .i64 n.columns, .int .i64 n.span, .int .i64 n.gap, .int .i64 n.offX, .int .i64 n.offY, .bool n.hidden, .slice n.wA n.wN n.wC, .slice n.kA n.kN n.kC]), .slice none 0 0] W fun e w' => ∃ b, e = .returned (.tuple #[.iface (tyOf n.kind).id (.pointer (some ⟨b, 0, none⟩)), .int .i64 0]) ∧ PtIn w' b (ptOf n none 0 0) ∧ W.heap.size ≤ b ∧ Below W.heap.size W w') := fun W h => make_nil n W h hk ho
  have S0 : Hid (TwW w n (w.alloc (.cells (#[.int .u8 (n.kind : Nat), .string n.name, .string n.cls, .string n.text, .int .i64 n.minW, .int .i64 n.minH, .int .i64 n.maxW, .int .i64 n.maxH, .int .i64 n.grow, .int .i64 n.order, .bool n.column, .int .i64 n.columns, .int .i64 n.span, .int .i64 n.gap, .int .i64 n.offX, .int .i64 n.offY, .bool n.hidden, .slice n.wA n.wN n.wC, .slice n.kA n.kN n.kC]) 29))) := ⟨Blk.new _ _ _, (Below.refl _ w).alloc (Nat.le_refl _) _⟩
  have hK := make_known _ (T.below S0.out.b)
  simp only [ndA] at hK
  have HT : Hid (Tbs w) := T
  have HV : Hid (∀ {W : World} {b : Nat} {t : TypeId}, Blk W b (#[.int .u8 (n.kind : Nat), .string n.name, .string n.cls, .string n.text, .int .i64 n.minW, .int .i64 n.minH, .int .i64 n.maxW, .int .i64 n.maxH, .int .i64 n.grow, .int .i64 n.order, .bool n.column, .int .i64 n.columns, .int .i64 n.span, .int .i64 n.gap, .int .i64 n.offX, .int .i64 n.offY, .bool n.hidden, .slice n.wA n.wN n.wC, .slice n.kA n.kN n.kC]) t → (Instr.loadAt 29 (.pointer (some ⟨b, 0, none⟩))).run Tryz.prog W = .ok (Value.agg #[.int .u8 (n.kind : Nat), .string n.name, .string n.cls, .string n.text, .int .i64 n.minW, .int .i64 n.minH, .int .i64 n.maxW, .int .i64 n.maxH, .int .i64 n.grow, .int .i64 n.order, .bool n.column, .int .i64 n.columns, .int .i64 n.span, .int .i64 n.gap, .int .i64 n.offX, .int .i64 n.offY, .bool n.hidden, .slice n.wA n.wN n.wC, .slice n.kA n.kN n.kC]) W) := load_node
  have hln := ck_len hz
  have HA : Hid (∀ W b, Below w.heap.size w W → PtIn W b (ptOf n none 0 0) → Calls Tryz.prog 13 #[.iface (tyOf n.kind).id (.pointer (some ⟨b, 0, none⟩)), v] W fun e w' => ∃ i y, e = .returned (.tuple #[.iface i y, .int .i64 0]) ∧ Hid (Pw w' (runW (.made (ptOf n none 0 0) b, []) l).1 (runW (.made (ptOf n none 0 0) b, []) l).2 (.iface i y) ∧ Below W.heap.size W w')) := fun W b h hp =>
    (all_ok (.made (ptOf n none 0 0) b) [] l _ v W (T.2.2.below h) ⟨rfl, hp, hk⟩ (hv.below h) hs hz (fits_of _ _ (by simp; omega))).mono fun e w' ⟨v', he, hq, hb⟩ => by
      obtain ⟨i, y, rfl, _, _⟩ := hq.tf
      exact ⟨i, y, he, ⟨hq, hb⟩⟩
  have HC : Hid (∀ W, Below w.heap.size w W → Calls Tryz.prog 29 #[v] W fun e w' => e = .returned (.int .i64 0) ∧ Below W.heap.size W w') := fun W h => by
    have := rChecks_any l v W (T.2.2.below h) (hv.below h)
    rwa [hz] at this
  have HD : Hid (∀ W, Calls Tryz.prog 30 #[.int .u8 (n.kind : Nat)] W fun e w' => e = .returned (.int .u16 (canK n.kind : Nat)) ∧ w' = W) := fun W => kinds_any n.kind hk W
  have HO : Hid (∀ x ∈ l, okW x = true) := all_of hz
  have HE : Hid (canK n.kind = (tyOf n.kind).can) := can_ty hk
  obtain ⟨oa, cap, rfl, _, hg⟩ := hv
  have HG : Hid (0 < l.length → ∃ g o, oa = some ⟨g, o, none⟩ ∧ g < w.heap.size ∧ ∀ i (h : i < l.length), WrAt w g (o + i * 4) l[i]) := hg
  have hm : ¬ (16 : Int) < (l.length : Int) := by omega
  clear T hk ho hs hz hg
  go_enter Tryz.func7, Tryz.ntmps7
  go_wp2_with fail
  refine hK.mono ?_
  rintro e w1 ⟨b0, rfl, hb⟩
  have S1 : Hid (TwW w n w1) := S0.out.below hb
  clear hb S0 hK
  go_wp2_with fail
  refine (can_ty_any .label _ _).mono ?_
  rintro e w2 ⟨rfl, rfl⟩
  go_upto_region 4 with fail
  have hl := HV.out S1.out.n
  refine Go.wp_region_lit ?_
  refine wpList_load rfl _ _ rfl _ _ rfl hl ?_
  clear hl HV
  generalize (Value.agg #[.int .u8 (n.kind : Nat), .string n.name, .string n.cls, .string n.text, .int .i64 n.minW, .int .i64 n.minH, .int .i64 n.maxW, .int .i64 n.maxH, .int .i64 n.grow, .int .i64 n.order, .bool n.column, .int .i64 n.columns, .int .i64 n.span, .int .i64 n.gap, .int .i64 n.offX, .int .i64 n.offY, .bool n.hidden, .slice n.wA n.wN n.wC, .slice n.kA n.kN n.kC]) = nv at *
  go_wp2_with fail
  refine (HM.out _ (HT.out.below S1.out.b)).mono ?_
  rintro e w3 ⟨b1, rfl, hpt, _, hb⟩
  have S2 : Hid (TwW w n w3 ∧ PtIn w3 b1 (ptOf n none 0 0)) := ⟨S1.out.below hb, hpt⟩
  clear hb S1 HM hpt
  go_wp2_with fail
  refine (HA.out _ b1 S2.out.1.b S2.out.2).mono ?_
  rintro e w4 ⟨pi, py, rfl, H4⟩
  have S3 : Hid (TwW w n w4) := S2.out.1.below H4.out.2
  clear S2 HA
  go_wp2_with fail
  refine (HC.out _ S3.out.b).mono ?_
  rintro e w5 ⟨rfl, hb⟩
  have S4 : Hid (TwW w n w5 ∧ Pw w5 (runW (.made (ptOf n none 0 0) b1, []) l).1 (runW (.made (ptOf n none 0 0) b1, []) l).2 (.iface pi py)) := ⟨S3.out.below hb, H4.out.1.below hb⟩
  clear hb S3 H4 HC
  have c0 := S4.out.1.n.cell 0
  have c1 := S4.out.1.n.cell 1
  go_wp2_with fail
  refine (HD.out _).mono ?_
  rintro e w6 ⟨rfl, rfl⟩
  clear HD
  obtain ⟨B, hB⟩ : ∃ B : Bs, B = .made (ptOf n none 0 0) b1 := ⟨_, rfl⟩
  rw [← hB] at S4
  have HB : Hid (canK n.kind = canL B [] ∧ n.kind = kindL B [] ∧ n.name = nameL B [] ∧ B.isHalf = false) := by
    rw [hB]
    exact ⟨HE.out, rfl, rfl, rfl⟩
  clear hB HE
  go_wp2_with fail
  clear c0 c1
  go_loopw [9, 10, 11, 12, 13] (fun c kd nm sp i wr => ∃ k : Nat, k ≤ l.length ∧ i = .int .i64 k ∧ c = .int .u16 (canL (runW (B, []) (l.take k)).1 (runW (B, []) (l.take k)).2 : Nat) ∧ kd = .int .u8 (kindL (runW (B, []) (l.take k)).1 (runW (B, []) (l.take k)).2 : Nat) ∧ nm = .string (nameL (runW (B, []) (l.take k)).1 (runW (B, []) (l.take k)).2) ∧ sp = .int .i64 ((runW (B, []) (l.take k)).2.length : Nat) ∧ Hid (Below w6.heap.size w6 wr)) (fun _ _ _ _ i _ => l.length - (intOf i).toNat)
  case atStart => exact ⟨0, Nat.zero_le _, rfl, by rw [HB.out.1]; rfl, by rw [HB.out.2.1]; rfl, by rw [HB.out.2.2.1]; rfl, rfl, Below.refl _ _⟩
  case round =>
    obtain ⟨k, hk, rfl, rfl, rfl, rfl, rfl, HR⟩ := hrel
    by_cases hlt : k < l.length
    · obtain ⟨g, o, rfl, hg, hat⟩ := HG.out (by omega)
      have HBW : Hid (Below w.heap.size w wr) := S4.out.1.b.trans (HR.out.mono S4.out.1.b.size)
      have hx := (hat k hlt).kept (w' := wr) fun j => HBW.out.cell (p := ⟨g, j, none⟩) hg
      have e1 : l.take (k + 1) = l.take k ++ [l[k]] := (List.take_append_getElem hlt).symm
      have e2 : runW (B, []) (l.take (k + 1)) = stp (runW (B, []) (l.take k)) l[k] := by rw [e1, run_snoc]
      have f1 := stp_can (runW (B, []) (l.take k)) l[k]
      have f2 := stp_kind (runW (B, []) (l.take k)) l[k]
      have f3 := stp_name (runW (B, []) (l.take k)) l[k]
      have f4 := stp_steps (runW (B, []) (l.take k)) l[k]
      rw [← e2] at f1 f2 f3 f4
      have hlt2 : canL (runW (B, []) (l.take k)).1 (runW (B, []) (l.take k)).2 < 64 := by
        rw [run_can]
        exact say_lt _ _ B.can_lt fun x hx => HO.out x (List.mem_of_mem_take hx)
      have hsl : (runW (B, []) (l.take k)).2.length ≤ 100 := by
        have := run_len (l.take k) (B, [])
        rw [List.length_take] at this
        simp at this
        omega
      have HSh : Hid (Calls Tryz.prog 31 #[.int .u16 (canL (runW (B, []) (l.take k)).1 (runW (B, []) (l.take k)).2 : Nat), (Value.agg #[.int .u8 (l[k].kind : Nat), .int .u16 (l[k].mask : Nat), .int .i64 l[k].num, .string l[k].text])] wr fun e w' => e = .returned (.int .u16 (lefC (canL (runW (B, []) (l.take k)).1 (runW (B, []) (l.take k)).2) l[k] : Nat)) ∧ Below wr.heap.size wr w') := shows_any _ _ _ hlt2 (ok_mask (HO.out _ (List.getElem_mem hlt)))
      have HF : Hid (canL (runW (B, []) (l.take (k + 1))).1 (runW (B, []) (l.take (k + 1))).2 = lefC (canL (runW (B, []) (l.take k)).1 (runW (B, []) (l.take k)).2) l[k] ∧ kindL (runW (B, []) (l.take (k + 1))).1 (runW (B, []) (l.take (k + 1))).2 = (if l[k].kind = 7 then 0 else if kindL (runW (B, []) (l.take k)).1 (runW (B, []) (l.take k)).2 = 0 then 9 else kindL (runW (B, []) (l.take k)).1 (runW (B, []) (l.take k)).2) ∧ nameL (runW (B, []) (l.take (k + 1))).1 (runW (B, []) (l.take (k + 1))).2 = (if l[k].kind = 7 then ⟨#[]⟩ else if l[k].kind = 4 then l[k].text else nameL (runW (B, []) (l.take k)).1 (runW (B, []) (l.take k)).2) ∧ (runW (B, []) (l.take (k + 1))).2.length = if l[k].kind = 7 then 0 else (runW (B, []) (l.take k)).2.length + 1) := ⟨f1, f2, f3, f4⟩
      have HGW : Hid (g < wr.heap.size) := Nat.lt_of_lt_of_le hg HBW.out.size
      have ik : (k : Int) < (l.length : Int) := by omega
      clear f1 f2 f3 f4 e1 e2 hlt2 hat hg HG HBW
      generalize lefC (canL (runW (B, []) (l.take k)).1 (runW (B, []) (l.take k)).2) l[k] = c2 at *
      generalize canL (runW (B, []) (l.take k)).1 (runW (B, []) (l.take k)).2 = cc at *
      generalize kindL (runW (B, []) (l.take k)).1 (runW (B, []) (l.take k)).2 = kk at *
      generalize nameL (runW (B, []) (l.take k)).1 (runW (B, []) (l.take k)).2 = nn at *
      generalize (runW (B, []) (l.take k)).2.length = ss at *
      generalize l[k] = x at *
      obtain ⟨xk, xm, xn, xt⟩ := x
      obtain ⟨x0, x1, x2, x3⟩ := hx
      simp only at x0 x1 x2 x3 HF HSh
      have HX : Hid (wr.cell? ⟨g, o + k * 4, none⟩ = some (.int .u8 (xk : Nat)) ∧ wr.cell? ⟨g, o + k * 4 + 3, none⟩ = some (.string xt)) := ⟨x0, x3⟩
      go_wp2_with fail
      refine HSh.out.mono ?_
      rintro e w7 ⟨rfl, hb⟩
      have H7 : Hid (Below w6.heap.size w6 w7) := HR.out.trans (hb.mono HR.out.size)
      have y0 : w7.cell? ⟨g, o + k * 4, none⟩ = some (.int .u8 (xk : Nat)) := (hb.cell (p := ⟨g, o + k * 4, none⟩) HGW.out).trans HX.out.1
      have y3 : w7.cell? ⟨g, o + k * 4 + 3, none⟩ = some (.string xt) := (hb.cell (p := ⟨g, o + k * 4 + 3, none⟩) HGW.out).trans HX.out.2
      clear hb x0 x1 x2 x3 HX HSh HR HGW
      have main : ∀ b : Bool, ((kk : Int) == 0) = b → (xk = 7 ∨ xk = 4 ∨ (xk ≠ 7 ∧ xk ≠ 4)) := fun _ _ => by omega
      obtain ⟨bk, hbk⟩ : ∃ b, ((kk : Int) == 0) = b := ⟨_, rfl⟩
      have hxk := main bk hbk
      clear main
      have HKK : Hid ((if kk = 0 then 9 else kk) = if bk then 9 else kk) := by
        by_cases h0 : kk = 0
        · subst h0
          have : bk = true := by rw [← hbk]; rfl
          rw [this]; rfl
        · have : bk = false := by rw [← hbk]; exact beq_eq_false_iff_ne.2 (by omega)
          rw [this, if_neg h0]; rfl
      rcases hxk with rfl | rfl | ⟨n7, n4⟩
      · cases bk
        all_goals
          go_wp2
          go_roundw
          case rel =>
            refine ⟨k + 1, by omega, by go_num, by rw [HF.out.1], ?_, ?_, ?_, H7.out⟩
            · rw [HF.out.2.1]; rfl
            · rw [HF.out.2.2.1]; rfl
            · rw [HF.out.2.2.2]; rfl
          case measure => simp [intOf]; omega
      · cases bk
        all_goals
          go_wp2
          go_roundw
          case rel =>
            refine ⟨k + 1, by omega, by go_num, by rw [HF.out.1], ?_, ?_, ?_, H7.out⟩
            · rw [HF.out.2.1, if_neg (by decide), HKK.out]; rfl
            · rw [HF.out.2.2.1]; rfl
            · rw [HF.out.2.2.2, if_neg (by decide)]; go_num
          case measure => simp [intOf]; omega
      · have k7 : ((xk : Int) == 7) = false := beq_eq_false_iff_ne.2 (by omega)
        have k4 : ((xk : Int) == 4) = false := beq_eq_false_iff_ne.2 (by omega)
        cases bk
        all_goals
          go_wp2
          go_roundw
          case rel =>
            refine ⟨k + 1, by omega, by go_num, by rw [HF.out.1], ?_, ?_, ?_, H7.out⟩
            · rw [HF.out.2.1, if_neg n7, HKK.out]; rfl
            · rw [HF.out.2.2.1, if_neg n7, if_neg n4]
            · rw [HF.out.2.2.2, if_neg n7]; go_num
          case measure => simp [intOf]; omega
    · obtain rfl : k = l.length := by omega
      rw [List.take_length]
      have HPw := S4.out.2.below HR.out
      have HLn : Hid (Below w.heap.size w wr) := S4.out.1.b.trans (HR.out.mono S4.out.1.b.size)
      have hU : (!(runW (B, []) l).2.isEmpty || (runW (B, []) l).1.isHalf) = decide ((0 : Int) < (l.length : Int)) := by
        by_cases h : l = []
        · rw [h]
          show (!([] : List Wr).isEmpty || B.isHalf) = _
          rw [HB.out.2.2.2]
          rfl
        · rw [run_un l _ h]
          have : 0 < l.length := List.length_pos_iff.2 h
          exact (decide_eq_true (by omega)).symm
      have hsl : (runW (B, []) l).2.length ≤ 100 := by
        have := run_len l (B, [])
        simp at this
        omega
      obtain ⟨i1, y1, hv1, hf, _⟩ := HPw.tf
      obtain ⟨rfl, rfl⟩ : pi = i1 ∧ py = y1 := by cases hv1; exact ⟨rfl, rfl⟩
      have hau := hf.au
      rw [hU] at hau
      have hIn := inner_any _ _ _ wr HPw (by omega)
      obtain ⟨vi, vy, hval⟩ := val_iface (runW (B, []) l).1
      rw [hval] at hIn
      have hHo := HPw.holdsTop wr
      have hCa := HPw.canC wr
      have hNo := HPw.noneC
      obtain ⟨i2, y2, kf, kr, hv2, hkm, hke, hkc⟩ := HPw.kindM
      obtain ⟨rfl, rfl⟩ : pi = i2 ∧ py = y2 := by cases hv2; exact ⟨rfl, rfl⟩
      obtain ⟨i3, y3, nf, nr, hv3, hnm, hne, hnc⟩ := HPw.nameM
      obtain ⟨rfl, rfl⟩ : pi = i3 ∧ py = y3 := by cases hv3; exact ⟨rfl, rfl⟩
      clear hv1 hv2 hv3 hf hU hval HPw HR S4 HB HG HO HT hsl hlt hk
      generalize canL (runW (B, []) l).1 (runW (B, []) l).2 = cc at *
      generalize kindL (runW (B, []) l).1 (runW (B, []) l).2 = kk at *
      generalize nameL (runW (B, []) l).1 (runW (B, []) l).2 = nn at *
      generalize (runW (B, []) l).2.length = ss at *
      have ik : ¬ (l.length : Int) < (l.length : Int) := by omega
      obtain ⟨bl, hbl⟩ : ∃ b, decide ((0 : Int) < (l.length : Int)) = b := ⟨_, rfl⟩
      rw [hbl] at hau
      obtain ⟨bk, hbk⟩ : ∃ b, ((kk : Int) == 0) = b := ⟨_, rfl⟩
      have hbk2 : decide (kk = 0) = bk := by
        rw [← hbk]
        by_cases h0 : kk = 0
        · subst h0; rfl
        · rw [decide_eq_false h0]; exact (beq_eq_false_iff_ne.2 (by omega)).symm
      rw [hbk2] at hNo
      clear hbk2
      have hlx : (bl = false ∧ l = []) ∨ (bl = true ∧ 0 < l.length) := by
        by_cases h : l = []
        · subst h; exact .inl ⟨hbl.symm, rfl⟩
        · have : 0 < l.length := List.length_pos_iff.2 h
          exact .inr ⟨hbl.symm.trans (decide_eq_true (by omega)), this⟩
      clear hbl
      rcases hlx with ⟨rfl, rfl⟩ | ⟨rfl, hle⟩ <;> cases bk
      all_goals
        simp only [cond_true, cond_false] at hau
        go_wp2_with fail
        refine hIn.mono ?_
        rintro e w8 ⟨rfl, rfl⟩
        go_wp2_with fail
        refine hHo.mono ?_
        rintro e w9 ⟨rfl, rfl⟩
        go_wp2_with fail
        refine hCa.mono ?_
        rintro e w10 ⟨rfl, rfl⟩
        go_wp2_with fail
        refine hNo.mono ?_
        rintro e w11 ⟨rfl, rfl⟩
        go_wp2_with fail
        refine hkc.mono ?_
        rintro e w12 ⟨rfl, rfl⟩
        go_wp2_with fail
        refine hnc.mono ?_
        rintro e w13 ⟨rfl, rfl⟩
        go_wp2
        go_ret
        exact ⟨rfl, HLn.out⟩

theorem top_walk (n : Nd) (l : List Wr) (v : Value) (w : World) (T : Tbs w) (hv : Wraps w v l) (hs : ∀ x ∈ l, x.wf) :
    Calls Tryz.prog 7 #[(Value.agg #[.int .u8 (n.kind : Nat), .string n.name, .string n.cls, .string n.text, .int .i64 n.minW, .int .i64 n.minH, .int .i64 n.maxW, .int .i64 n.maxH, .int .i64 n.grow, .int .i64 n.order, .bool n.column, .int .i64 n.columns, .int .i64 n.span, .int .i64 n.gap, .int .i64 n.offX, .int .i64 n.offY, .bool n.hidden, .slice n.wA n.wN n.wC, .slice n.kA n.kN n.kC]), v] w fun e w' => e = .returned (.bool true) ∧ Below w.heap.size w w' := by
  by_cases h : kindB n.kind = true ∧ okN n = true
  · by_cases hz : ckE l = 0
    · exact top_ok n l v w T h.1 h.2 hv hs hz
    · exact top_err n l v w T h.1 h.2 hv hs hz
  · exact top_bad n v w T h

end Go.Proofs.YtbnbfgkcndomaabGreatDoor
