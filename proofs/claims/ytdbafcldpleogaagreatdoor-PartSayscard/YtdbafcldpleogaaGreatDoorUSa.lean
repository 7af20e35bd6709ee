/-
  The walk of the statement PartSays.
-/
import Derived.Test.YtdbafcldpleogaaGreatDoorUR
import Derived.Test.YtdbafcldpleogaaGreatDoorUY
import Derived.Test.YtdbafcldpleogaaGreatDoorUZb
namespace Go.Proofs.YtdbafcldpleogaaGreatDoor
open Go.RowKit Go.Shelf

/-- What lies there: the node, the room. -/
structure SaW (w : World) (n : Nd) (W : World) : Prop where
  n : Blk W w.heap.size (#[.int .u8 (n.kind : Nat), .string n.name, .string n.cls, .string n.text, .int .i64 n.minW, .int .i64 n.minH, .int .i64 n.maxW, .int .i64 n.maxH, .int .i64 n.grow, .int .i64 n.order, .bool n.column, .int .i64 n.columns, .int .i64 n.span, .int .i64 n.gap, .int .i64 n.offX, .int .i64 n.offY, .bool n.hidden, .slice n.wA n.wN n.wC, .slice n.kA n.kN n.kC]) 29
  b : Below w.heap.size w W
theorem SaW.below {w : World} {n : Nd} {W W' : World} (h : SaW w n W) (hb : Below W.heap.size W W') : SaW w n W' := ⟨h.n.below hb, h.b.trans (hb.mono h.b.size)⟩
theorem SaW.alloc {w : World} {n : Nd} {W : World} (h : SaW w n W) (o : Obj) : SaW w n (W.alloc o) := h.below ((Below.refl _ _).alloc (Nat.le_refl _) o)
theorem sa_start (w : World) (n : Nd) (o : Obj) : SaW w n ((w.alloc (.cells (#[.int .u8 (n.kind : Nat), .string n.name, .string n.cls, .string n.text, .int .i64 n.minW, .int .i64 n.minH, .int .i64 n.maxW, .int .i64 n.maxH, .int .i64 n.grow, .int .i64 n.order, .bool n.column, .int .i64 n.columns, .int .i64 n.span, .int .i64 n.gap, .int .i64 n.offX, .int .i64 n.offY, .bool n.hidden, .slice n.wA n.wN n.wC, .slice n.kA n.kN n.kC]) 29)).alloc o) := ⟨(Blk.new _ _ _).alloc _, ((Below.refl _ w).alloc (Nat.le_refl _) _).alloc (by simp) _⟩

theorem make_bad (n : Nd) (h : ¬ (kindB n.kind = true ∧ okN n = true)) : ∃ er : Int, (er != 0) = true ∧ er = makE n 0 ∧ ∀ W v, Tbs W → Calls Tryz.prog 11 #[(Value.agg #[.int .u8 (n.kind : Nat), .string n.name, .string n.cls, .string n.text, .int .i64 n.minW, .int .i64 n.minH, .int .i64 n.maxW, .int .i64 n.maxH, .int .i64 n.grow, .int .i64 n.order, .bool n.column, .int .i64 n.columns, .int .i64 n.span, .int .i64 n.gap, .int .i64 n.offX, .int .i64 n.offY, .bool n.hidden, .slice n.wA n.wN n.wC, .slice n.kA n.kN n.kC]), v] W fun e w' => e = .returned (.tuple #[.nilIface, .int .i64 er]) ∧ Below W.heap.size W w' := by
  cases hk : kindB n.kind
  · exact ⟨60, rfl, by simp [makE, hk], fun W v _ => make_kind n v W hk⟩
  · cases ho : okN n
    · exact ⟨2, rfl, by simp [makE, hk, ho], fun W v T => make_arg n v W T hk ho⟩
    · exact absurd ⟨hk, ho⟩ h

set_option maxRecDepth 10000 in
set_option maxHeartbeats 4000000 in
theorem says_bad (n : Nd) (m : Int) (x y : Int) (w : World) (T : Tbs w) (h : ¬ (kindB n.kind = true ∧ okN n = true)) :
    Calls Tryz.prog 6 #[(Value.agg #[.int .u8 (n.kind : Nat), .string n.name, .string n.cls, .string n.text, .int .i64 n.minW, .int .i64 n.minH, .int .i64 n.maxW, .int .i64 n.maxH, .int .i64 n.grow, .int .i64 n.order, .bool n.column, .int .i64 n.columns, .int .i64 n.span, .int .i64 n.gap, .int .i64 n.offX, .int .i64 n.offY, .bool n.hidden, .slice n.wA n.wN n.wC, .slice n.kA n.kN n.kC]), .int .u16 m, .agg #[.int .i64 x, .int .i64 y]] w fun e w' => e = .returned (.bool true) ∧ Below w.heap.size w w' := by
  obtain ⟨er, he0, _, HM⟩ := make_bad n h
  have HM' : Hid (∀ W v, Tbs W → Calls Tryz.prog 11 #[(Value.agg #[.int .u8 (n.kind : Nat), .string n.name, .string n.cls, .string n.text, .int .i64 n.minW, .int .i64 n.minH, .int .i64 n.maxW, .int .i64 n.maxH, .int .i64 n.grow, .int .i64 n.order, .bool n.column, .int .i64 n.columns, .int .i64 n.span, .int .i64 n.gap, .int .i64 n.offX, .int .i64 n.offY, .bool n.hidden, .slice n.wA n.wN n.wC, .slice n.kA n.kN n.kC]), v] W fun e w' => e = .returned (.tuple #[.nilIface, .int .i64 er]) ∧ Below W.heap.size W w') := HM
  have S0 : Hid (SaW w n ((w.alloc (.cells (#[.int .u8 (n.kind : Nat), .string n.name, .string n.cls, .string n.text, .int .i64 n.minW, .int .i64 n.minH, .int .i64 n.maxW, .int .i64 n.maxH, .int .i64 n.grow, .int .i64 n.order, .bool n.column, .int .i64 n.columns, .int .i64 n.span, .int .i64 n.gap, .int .i64 n.offX, .int .i64 n.offY, .bool n.hidden, .slice n.wA n.wN n.wC, .slice n.kA n.kN n.kC]) 29)).alloc (.cells #[.int .i64 x, .int .i64 y] 23))) := sa_start w n _
  have hA := awake_any _ (T.below S0.out.b)
  have HT : Hid (Tbs w) := T
  have HV : Hid (∀ {W : World} {b : Nat} {t : TypeId}, Blk W b (#[.int .u8 (n.kind : Nat), .string n.name, .string n.cls, .string n.text, .int .i64 n.minW, .int .i64 n.minH, .int .i64 n.maxW, .int .i64 n.maxH, .int .i64 n.grow, .int .i64 n.order, .bool n.column, .int .i64 n.columns, .int .i64 n.span, .int .i64 n.gap, .int .i64 n.offX, .int .i64 n.offY, .bool n.hidden, .slice n.wA n.wN n.wC, .slice n.kA n.kN n.kC]) t → (Instr.loadAt 29 (.pointer (some ⟨b, 0, none⟩))).run Tryz.prog W = .ok (Value.agg #[.int .u8 (n.kind : Nat), .string n.name, .string n.cls, .string n.text, .int .i64 n.minW, .int .i64 n.minH, .int .i64 n.maxW, .int .i64 n.maxH, .int .i64 n.grow, .int .i64 n.order, .bool n.column, .int .i64 n.columns, .int .i64 n.span, .int .i64 n.gap, .int .i64 n.offX, .int .i64 n.offY, .bool n.hidden, .slice n.wA n.wN n.wC, .slice n.kA n.kN n.kC]) W) := load_node
  clear T HM h
  go_enter Tryz.func6, Tryz.ntmps6
  go_wp2_with fail
  refine hA.mono ?_
  rintro e w1 ⟨rfl, hb⟩
  have S1 : Hid (SaW w n w1) := S0.out.below hb
  clear hb S0 hA
  go_upto_region 4 with fail
  have hl := HV.out S1.out.n
  refine Go.wp_region_lit ?_
  refine wpList_load rfl _ _ rfl _ _ rfl hl ?_
  clear hl
  generalize (Value.agg #[.int .u8 (n.kind : Nat), .string n.name, .string n.cls, .string n.text, .int .i64 n.minW, .int .i64 n.minH, .int .i64 n.maxW, .int .i64 n.maxH, .int .i64 n.grow, .int .i64 n.order, .bool n.column, .int .i64 n.columns, .int .i64 n.span, .int .i64 n.gap, .int .i64 n.offX, .int .i64 n.offY, .bool n.hidden, .slice n.wA n.wN n.wC, .slice n.kA n.kN n.kC]) = nv at *
  go_wp2_with fail
  refine (HM'.out _ _ (HT.out.below S1.out.b)).mono ?_
  rintro e w2 ⟨rfl, hb⟩
  have S2 : Hid (Below w.heap.size w w2) := (S1.out.below hb).b
  clear hb S1
  go_wp2_with fail
  refine (can_nil_any _).mono ?_
  rintro e w3 ⟨rfl, rfl⟩
  go_wp2
  go_ret
  exact ⟨rfl, S2.out⟩

set_option maxRecDepth 10000 in
set_option maxHeartbeats 8000000 in
theorem says_ok (n : Nd) (m : Nat) (hm : m < 65536) (x y : Int) (w : World) (T : Tbs w) (hk : kindB n.kind = true) (ho : okN n = true) :
    Calls Tryz.prog 6 #[(Value.agg #[.int .u8 (n.kind : Nat), .string n.name, .string n.cls, .string n.text, .int .i64 n.minW, .int .i64 n.minH, .int .i64 n.maxW, .int .i64 n.maxH, .int .i64 n.grow, .int .i64 n.order, .bool n.column, .int .i64 n.columns, .int .i64 n.span, .int .i64 n.gap, .int .i64 n.offX, .int .i64 n.offY, .bool n.hidden, .slice n.wA n.wN n.wC, .slice n.kA n.kN n.kC]), .int .u16 (m : Nat), .agg #[.int .i64 x, .int .i64 y]] w fun e w' => e = .returned (.bool true) ∧ Below w.heap.size w w' := by
  have HM : Hid (∀ W, Tbs W → Calls Tryz.prog 11 #[(Value.agg #[.int .u8 (n.kind : Nat), .string n.name, .string n.cls, .string n.text, .int .i64 n.minW, .int .i64 n.minH, .int .i64 n.maxW, .int .i64 n.maxH, .int .i64 n.grow, .int .i64 n.order, .bool n.column, .int .i64 n.columns, .int .i64 n.span, .int .i64 n.gap, .int .i64 n.offX, .int .i64 n.offY, .bool n.hidden, .slice n.wA n.wN n.wC, .slice n.kA n.kN n.kC]), .slice none 0 0] W fun e w' => ∃ b, e = .returned (.tuple #[.iface (tyOf n.kind).id (.pointer (some ⟨b, 0, none⟩)), .int .i64 0]) ∧ PtIn w' b (ptOf n none 0 0) ∧ W.heap.size ≤ b ∧ Below W.heap.size W w') := fun W h => make_nil n W h hk ho
  have S0 : Hid (SaW w n ((w.alloc (.cells (#[.int .u8 (n.kind : Nat), .string n.name, .string n.cls, .string n.text, .int .i64 n.minW, .int .i64 n.minH, .int .i64 n.maxW, .int .i64 n.maxH, .int .i64 n.grow, .int .i64 n.order, .bool n.column, .int .i64 n.columns, .int .i64 n.span, .int .i64 n.gap, .int .i64 n.offX, .int .i64 n.offY, .bool n.hidden, .slice n.wA n.wN n.wC, .slice n.kA n.kN n.kC]) 29)).alloc (.cells #[.int .i64 x, .int .i64 y] 23))) := sa_start w n _
  have hA := awake_any _ (T.below S0.out.b)
  have HT : Hid (Tbs w) := T
  have HV : Hid (∀ {W : World} {b : Nat} {t : TypeId}, Blk W b (#[.int .u8 (n.kind : Nat), .string n.name, .string n.cls, .string n.text, .int .i64 n.minW, .int .i64 n.minH, .int .i64 n.maxW, .int .i64 n.maxH, .int .i64 n.grow, .int .i64 n.order, .bool n.column, .int .i64 n.columns, .int .i64 n.span, .int .i64 n.gap, .int .i64 n.offX, .int .i64 n.offY, .bool n.hidden, .slice n.wA n.wN n.wC, .slice n.kA n.kN n.kC]) t → (Instr.loadAt 29 (.pointer (some ⟨b, 0, none⟩))).run Tryz.prog W = .ok (Value.agg #[.int .u8 (n.kind : Nat), .string n.name, .string n.cls, .string n.text, .int .i64 n.minW, .int .i64 n.minH, .int .i64 n.maxW, .int .i64 n.maxH, .int .i64 n.grow, .int .i64 n.order, .bool n.column, .int .i64 n.columns, .int .i64 n.span, .int .i64 n.gap, .int .i64 n.offX, .int .i64 n.offY, .bool n.hidden, .slice n.wA n.wN n.wC, .slice n.kA n.kN n.kC]) W) := load_node
  -- what is asked of it
  obtain ⟨t, ht⟩ : ∃ t, t = tyOf n.kind := ⟨_, rfl⟩
  have Q1 : Hid (∀ W v, Calls Tryz.prog 17 #[.iface t.id v] W fun e w' => e = .returned (.int .u16 (t.can : Nat)) ∧ w' = W) := fun W v => can_ty_any t v W
  have Q2 : Hid (∀ W v, Calls Tryz.prog 16 #[.iface t.id v] W fun e w' => e = .returned (.int .u16 (t.can : Nat)) ∧ w' = W) := fun W v => holds_ty t v W
  have Q3 : Hid (∀ W, Calls Tryz.prog 32 #[.int .u8 (n.kind : Nat)] W fun e w' => e = .returned (.iface t.id (.pointer none)) ∧ w' = W) := fun W => by
    have := nilk_any n.kind W
    rw [show holV n.kind = .iface (tyOf n.kind).id (.pointer none) by simp [holV, hk], ← ht] at this
    exact this
  have Q4 : Hid (∀ W b, PtIn W b (ptOf n none 0 0) → Calls Tryz.prog 18 #[.iface t.id (.pointer (some ⟨b, 0, none⟩))] W fun e w' => e = .returned (.bool false) ∧ w' = W) := fun W b h => none_made t b n.kind W h.kind.1 hk
  have Q5 : Hid (∀ W, Calls Tryz.prog 18 #[.iface t.id (.pointer none)] W fun e w' => e = .returned (.bool true) ∧ w' = W) := fun W => none_hollow t W
  obtain ⟨m1, hm1⟩ : ∃ z : Int, z = if t.mes then 0 else 8 := ⟨_, rfl⟩
  obtain ⟨m2, hm2⟩ : ∃ z : Int, z = if t.pai then 0 else 8 := ⟨_, rfl⟩
  obtain ⟨m3, hm3⟩ : ∃ z : Int, z = if t.foc then 0 else 8 := ⟨_, rfl⟩
  obtain ⟨m4, hm4⟩ : ∃ z : Int, z = if t.scr then 0 else 8 := ⟨_, rfl⟩
  obtain ⟨m5, hm5⟩ : ∃ z : Int, z = if t.acc then 0 else 8 := ⟨_, rfl⟩
  obtain ⟨m6, hm6⟩ : ∃ z : Int, z = if t.hol then 0 else 8 := ⟨_, rfl⟩
  have C1 : Hid (∀ W b, PtIn W b (ptOf n none 0 0) → Calls Tryz.prog 25 #[.iface t.id (.pointer (some ⟨b, 0, none⟩)), .agg #[.int .i64 0, .int .i64 0]] W fun e w' => (∃ p q : Int, e = .returned (.tuple #[.agg #[.int .i64 p, .int .i64 q], .int .i64 m1])) ∧ Below W.heap.size W w') := fun W b h => by
    have := measure_made (ptOf n none 0 0) b 0 0 W h hk
    rw [show meaE (ptOf n none 0 0).t 0 0 = m1 by rw [hm1, ht]; show meaE (tyOf n.kind) 0 0 = _; cases tyOf n.kind <;> rfl] at this
    rw [ht]
    exact this.mono fun e w' ⟨h1, h2⟩ => ⟨⟨_, _, h1⟩, h2⟩
  have C2 : Hid (∀ W b, PtIn W b (ptOf n none 0 0) → Calls Tryz.prog 28 #[.iface t.id (.pointer (some ⟨b, 0, none⟩)), .agg #[.int .i64 0, .int .i64 0, .int .i64 0, .int .i64 0], (Value.agg #[.int .u8 (Lk.zero.has : Nat), .int .u8 Lk.zero.r, .int .u8 Lk.zero.g, .int .u8 Lk.zero.b, .int .u8 Lk.zero.a, .int .u8 Lk.zero.r2, .int .u8 Lk.zero.g2, .int .u8 Lk.zero.b2, .int .u8 Lk.zero.a2, .bool Lk.zero.bd, .int .i64 Lk.zero.pad])] W fun e w' => (∃ v, e = .returned (.tuple #[v, .int .i64 m2])) ∧ Below W.heap.size W w') := fun W b h => by
    have := strokes_made (ptOf n none 0 0) b zr Lk.zero W h hk ⟨by decide, by decide⟩ ⟨by decide, by decide⟩
    rw [show strE (ptOf n none 0 0).t zr Lk.zero = m2 by rw [hm2, ht]; show strE (tyOf n.kind) zr Lk.zero = _; cases tyOf n.kind <;> rfl] at this
    rw [ht]
    exact this.mono fun e w' ⟨v, h1, _, h2⟩ => ⟨⟨v, h1⟩, h2⟩
  have C3 : Hid (∀ W b, PtIn W b (ptOf n none 0 0) → Calls Tryz.prog 19 #[.iface t.id (.pointer (some ⟨b, 0, none⟩))] W fun e w' => (∃ q : Int, e = .returned (.tuple #[.int .i64 q, .int .i64 m3])) ∧ Below W.heap.size W w') := fun W b h => by
    have := order_made (ptOf n none 0 0) b W h hk
    rw [ht, hm3, ht]
    exact this.mono fun e w' ⟨h1, h2⟩ => ⟨⟨_, h1⟩, h2⟩
  have C4 : Hid (∀ W b, PtIn W b (ptOf n none 0 0) → Calls Tryz.prog 20 #[.iface t.id (.pointer (some ⟨b, 0, none⟩))] W fun e w' => (∃ p q : Int, e = .returned (.tuple #[.agg #[.int .i64 p, .int .i64 q], .int .i64 m4])) ∧ Below W.heap.size W w') := fun W b h => by
    have := offset_made (ptOf n none 0 0) b W h hk
    rw [ht, hm4, ht]
    exact this.mono fun e w' ⟨h1, h2⟩ => ⟨⟨_, _, h1⟩, h2⟩
  have C5 : Hid (∀ W b, PtIn W b (ptOf n none 0 0) → Calls Tryz.prog 21 #[.iface t.id (.pointer (some ⟨b, 0, none⟩)), .string ⟨#[]⟩] W fun e w' => (∃ q : Bool, e = .returned (.tuple #[.bool q, .int .i64 m5])) ∧ Below W.heap.size W w') := fun W b h => by
    have := takes_made (ptOf n none 0 0) b ⟨#[]⟩ W h hk
    rw [ht, hm5, ht]
    exact this.mono fun e w' ⟨h1, h2⟩ => ⟨⟨_, h1⟩, h2⟩
  have C6 : Hid (∀ W b, PtIn W b (ptOf n none 0 0) → Calls Tryz.prog 22 #[.iface t.id (.pointer (some ⟨b, 0, none⟩))] W fun e w' => e = .returned (.tuple #[.slice none 0 0, .int .i64 m6]) ∧ Below W.heap.size W w') := fun W b h => by
    have := parts_none (ptOf n none 0 0) b W h hk ⟨rfl, rfl, rfl⟩
    rw [ht, hm6, ht]
    exact this
  have D1 : Hid (∀ W, Calls Tryz.prog 25 #[.iface t.id (.pointer none), .agg #[.int .i64 0, .int .i64 0]] W fun e w' => e = .returned (.tuple #[.agg #[.int .i64 0, .int .i64 0], .int .i64 8]) ∧ Below W.heap.size W w') := fun W => measure_hollow t 0 0 W
  have D2 : Hid (∀ W, Calls Tryz.prog 28 #[.iface t.id (.pointer none), .agg #[.int .i64 0, .int .i64 0, .int .i64 0, .int .i64 0], (Value.agg #[.int .u8 (Lk.zero.has : Nat), .int .u8 Lk.zero.r, .int .u8 Lk.zero.g, .int .u8 Lk.zero.b, .int .u8 Lk.zero.a, .int .u8 Lk.zero.r2, .int .u8 Lk.zero.g2, .int .u8 Lk.zero.b2, .int .u8 Lk.zero.a2, .bool Lk.zero.bd, .int .i64 Lk.zero.pad])] W fun e w' => e = .returned (.tuple #[.slice none 0 0, .int .i64 8]) ∧ Below W.heap.size W w') := fun W => strokes_hollow t 0 0 0 0 Lk.zero W
  have D3 : Hid (∀ W, Calls Tryz.prog 22 #[.iface t.id (.pointer none)] W fun e w' => e = .returned (.tuple #[.slice none 0 0, .int .i64 8]) ∧ Below W.heap.size W w') := fun W => parts_hollow t W
  have E1 : Hid (∀ W v, Calls Tryz.prog 14 #[.iface t.id v, .int .u16 (t.can : Nat)] W fun e w' => e = .returned (.tuple #[.int .u16 0, .int .i64 0]) ∧ Below W.heap.size W w') := fun W v => by
    have := must_ty t v (t.can : Nat) W
    rw [(can_must t).1, (can_must t).2] at this
    exact this
  have hms := ms_any t (m % 64) (by omega)
  have hbey : beyB ((m % 64 : Nat) : Int) = false := by simp only [msB, Bool.and_eq_true, Bool.not_eq_true'] at hms; exact hms.1
  obtain ⟨R, hR⟩ : ∃ R, R = misK t ((m % 64 : Nat) : Int) 0 := ⟨_, rfl⟩
  obtain ⟨RE, hRE⟩ : ∃ RE : Int, RE = if R = 0 then 0 else 61 := ⟨_, rfl⟩
  obtain ⟨MS, hMS⟩ : ∃ MS, MS = bits .andNot .u16 ((m % 64 : Nat) : Int) ((t.can : Nat) : Int) := ⟨_, rfl⟩
  have E2 : Hid (∀ W v, Calls Tryz.prog 14 #[.iface t.id v, .int .u16 ((m : Int) % 64)] W fun e w' => e = .returned (.tuple #[.int .u16 R, .int .i64 RE]) ∧ Below W.heap.size W w') := fun W v => by
    have := must_ty t v ((m % 64 : Nat) : Int) W
    rw [hbey] at this
    rw [hRE, hR]
    exact this
  have HZ : Hid (((MS == 0) = true ∧ R = 0 ∧ RE = 0) ∨ ((MS == 0) = false ∧ (R != 0) = true ∧ (bits .and .u16 R MS == R) = true ∧ (bits .and .u16 R (R - 1) == 0) = true ∧ (bits .and .u16 MS (R - 1) == 0) = true ∧ 1 ≤ R ∧ R ≤ 32 ∧ RE = 61)) := by
    simp only [msB, ← hR, ← hMS, hbey, Bool.not_false, Bool.true_and] at hms
    unfold Hid
    cases hz : MS == 0
    · rw [hz] at hms
      simp only [Bool.false_eq_true, if_false, Bool.and_eq_true, decide_eq_true_eq] at hms
      obtain ⟨⟨⟨⟨⟨g1, g2⟩, g3⟩, g4⟩, g5⟩, g6⟩ := hms
      exact .inr ⟨rfl, g1, g2, g3, g4, g5, g6, by rw [hRE, if_neg (by omega)]⟩
    · rw [hz] at hms
      simp only [if_true, beq_iff_eq] at hms
      exact .inl ⟨rfl, hms, by rw [hRE, hms]; rfl⟩
  have HMQ : Hid (bits .andNot .u16 ((m : Int) % 64) ((t.can : Nat) : Int) = MS) := by
    unfold Hid
    rw [hMS]
    norm_cast
  clear hR hRE hMS hms hbey
  have hb63 := and63 m hm
  obtain ⟨t1, t2, t3, t4, t5⟩ := told_fin t
  have B1 : Hid (∀ W e a, Calls Tryz.prog 33 #[.int .i64 e, .int .u16 a] W fun e' w' => e' = .returned (.int .u16 (if e = 0 then a else 0)) ∧ w' = W) := fun W e a => bit_any e a W
  have z1 : (if m1 = 0 then (1 : Int) else 0) = if t.mes then 1 else 0 := by rw [hm1]; cases t.mes <;> rfl
  have z2 : (if m2 = 0 then (2 : Int) else 0) = if t.pai then 2 else 0 := by rw [hm2]; cases t.pai <;> rfl
  have z3 : (if m3 = 0 then (4 : Int) else 0) = if t.foc then 4 else 0 := by rw [hm3]; cases t.foc <;> rfl
  have z4 : (if m4 = 0 then (8 : Int) else 0) = if t.scr then 8 else 0 := by rw [hm4]; cases t.scr <;> rfl
  have z5 : (if m5 = 0 then (16 : Int) else 0) = if t.acc then 16 else 0 := by rw [hm5]; cases t.acc <;> rfl
  have z6 : (if m6 = 0 then (32 : Int) else 0) = if t.hol then 32 else 0 := by rw [hm6]; cases t.hol <;> rfl
  rw [← z1, ← z2] at t1
  rw [← z3] at t2
  rw [← z4] at t3
  rw [← z5] at t4
  rw [← z6] at t5
  have N1 : Hid (∀ W, Calls Tryz.prog 33 #[.int .i64 m1, .int .u16 1] W fun e' w' => e' = .returned (.int .u16 (if m1 = 0 then 1 else 0)) ∧ w' = W) := fun W => bit_any m1 1 W
  have N2 : Hid (∀ W, Calls Tryz.prog 33 #[.int .i64 m2, .int .u16 2] W fun e' w' => e' = .returned (.int .u16 (if m2 = 0 then 2 else 0)) ∧ w' = W) := fun W => bit_any m2 2 W
  have N3 : Hid (∀ W, Calls Tryz.prog 33 #[.int .i64 m3, .int .u16 4] W fun e' w' => e' = .returned (.int .u16 (if m3 = 0 then 4 else 0)) ∧ w' = W) := fun W => bit_any m3 4 W
  have N4 : Hid (∀ W, Calls Tryz.prog 33 #[.int .i64 m4, .int .u16 8] W fun e' w' => e' = .returned (.int .u16 (if m4 = 0 then 8 else 0)) ∧ w' = W) := fun W => bit_any m4 8 W
  have N5 : Hid (∀ W, Calls Tryz.prog 33 #[.int .i64 m5, .int .u16 16] W fun e' w' => e' = .returned (.int .u16 (if m5 = 0 then 16 else 0)) ∧ w' = W) := fun W => bit_any m5 16 W
  have N6 : Hid (∀ W, Calls Tryz.prog 33 #[.int .i64 m6, .int .u16 32] W fun e' w' => e' = .returned (.int .u16 (if m6 = 0 then 32 else 0)) ∧ w' = W) := fun W => bit_any m6 32 W
  clear z1 z2 z3 z4 z5 z6 hm1 hm2 hm3 hm4 hm5 hm6 B1
  generalize (if m1 = 0 then (1 : Int) else 0) = u1 at *
  generalize (if m2 = 0 then (2 : Int) else 0) = u2 at *
  generalize (if m3 = 0 then (4 : Int) else 0) = u3 at *
  generalize (if m4 = 0 then (8 : Int) else 0) = u4 at *
  generalize (if m5 = 0 then (16 : Int) else 0) = u5 at *
  generalize (if m6 = 0 then (32 : Int) else 0) = u6 at *
  generalize ((t.can % 4 : Nat) : Int) = s4 at *
  generalize ((t.can % 8 : Nat) : Int) = s8 at *
  generalize ((t.can % 16 : Nat) : Int) = s16 at *
  generalize ((t.can % 32 : Nat) : Int) = s32 at *
  generalize hcn : ((t.can : Nat) : Int) = cn at *
  clear hcn hk ho hm
  rw [← ht] at HM
  clear ht
  simp only [Lk.zero] at C2 D2
  have HF : Hid (bits .or .u16 u1 u2 = s4 ∧ bits .or .u16 s4 u3 = s8 ∧ bits .or .u16 s8 u4 = s16 ∧ bits .or .u16 s16 u5 = s32 ∧ bits .or .u16 s32 u6 = cn) := ⟨t1, t2, t3, t4, t5⟩
  have H63 : Hid (bits .and .u16 (m : Int) 63 = (m : Int) % 64) := by unfold Hid; rw [hb63]; norm_cast
  clear t1 t2 t3 t4 t5 hb63 T
  go_enter Tryz.func6, Tryz.ntmps6
  go_wp2_with fail
  refine hA.mono ?_
  rintro e w1 ⟨rfl, hb⟩
  have S1 : Hid (SaW w n w1) := S0.out.below hb
  clear hb S0 hA
  go_upto_region 4 with fail
  have hl := HV.out S1.out.n
  refine Go.wp_region_lit ?_
  refine wpList_load rfl _ _ rfl _ _ rfl hl ?_
  clear hl
  generalize (Value.agg #[.int .u8 (n.kind : Nat), .string n.name, .string n.cls, .string n.text, .int .i64 n.minW, .int .i64 n.minH, .int .i64 n.maxW, .int .i64 n.maxH, .int .i64 n.grow, .int .i64 n.order, .bool n.column, .int .i64 n.columns, .int .i64 n.span, .int .i64 n.gap, .int .i64 n.offX, .int .i64 n.offY, .bool n.hidden, .slice n.wA n.wN n.wC, .slice n.kA n.kN n.kC]) = nv at *
  go_wp2_with fail
  refine (HM.out _ (HT.out.below S1.out.b)).mono ?_
  rintro e w2 ⟨b, rfl, hp, _, hb⟩
  have S2 : Hid (SaW w n w2 ∧ PtIn w2 b (ptOf n none 0 0)) := ⟨S1.out.below hb, hp⟩
  clear hb hp S1 HM HT HV
  generalize t.id = ti at *
  go_wp2_with fail
  refine (Q1.out _ _).mono ?_
  rintro e w3 ⟨rfl, rfl⟩
  have c0 : w3.cell? ⟨w.heap.size, 0, none⟩ = some (.int .u8 (n.kind : Nat)) := S2.out.1.n.cell 0
  go_wp2_with fail
  clear c0
  refine (Q3.out _).mono ?_
  rintro e w4 ⟨rfl, rfl⟩
  go_wp2_with fail
  refine (Q2.out _ _).mono ?_
  rintro e w5 ⟨rfl, rfl⟩
  go_wp2_with fail
  refine (Q2.out _ _).mono ?_
  rintro e w6 ⟨rfl, rfl⟩
  go_wp2_with fail
  refine (Q1.out _ _).mono ?_
  rintro e w7 ⟨rfl, rfl⟩
  go_wp2_with fail
  refine (Q4.out _ b S2.out.2).mono ?_
  rintro e w8 ⟨rfl, rfl⟩
  go_wp2_with fail
  refine (Q5.out _).mono ?_
  rintro e w9 ⟨rfl, rfl⟩
  go_wp2_with fail
  refine (C1.out _ b S2.out.2).mono ?_
  rintro e w10 ⟨⟨p1, q1, rfl⟩, hb⟩
  have S10 : Hid (Below w.heap.size w (w10.alloc (.cells #[.int .i64 p1, .int .i64 q1] 23)) ∧ PtIn (w10.alloc (.cells #[.int .i64 p1, .int .i64 q1] 23)) b (ptOf n none 0 0)) := ⟨((S2.out.1.below hb).alloc _).b, (S2.out.2.below hb).alloc _⟩
  clear hb S2
  go_wp2_with fail
  generalize w10.alloc (.cells #[.int .i64 p1, .int .i64 q1] 23) = w11 at *
  generalize w10.heap.size = g1 at *
  refine (C2.out _ b S10.out.2).mono ?_
  rintro e w12 ⟨⟨v12, rfl⟩, hb⟩
  have S12 : Hid (Below w.heap.size w w12 ∧ PtIn w12 b (ptOf n none 0 0)) := ⟨S10.out.1.trans (hb.mono S10.out.1.size), S10.out.2.below hb⟩
  clear hb S10
  go_wp2_with fail
  refine (C3.out _ b S12.out.2).mono ?_
  rintro e w13 ⟨⟨v13, rfl⟩, hb⟩
  have S13 : Hid (Below w.heap.size w w13 ∧ PtIn w13 b (ptOf n none 0 0)) := ⟨S12.out.1.trans (hb.mono S12.out.1.size), S12.out.2.below hb⟩
  clear hb S12
  go_wp2_with fail
  refine (C4.out _ b S13.out.2).mono ?_
  rintro e w14 ⟨⟨p2, q2, rfl⟩, hb⟩
  have S14 : Hid (Below w.heap.size w (w14.alloc (.cells #[.int .i64 p2, .int .i64 q2] 25)) ∧ PtIn (w14.alloc (.cells #[.int .i64 p2, .int .i64 q2] 25)) b (ptOf n none 0 0)) := ⟨(S13.out.1.trans (hb.mono S13.out.1.size)).alloc (Nat.le_trans S13.out.1.size hb.size) _, (S13.out.2.below hb).alloc _⟩
  clear hb S13
  go_wp2_with fail
  generalize w14.alloc (.cells #[.int .i64 p2, .int .i64 q2] 25) = w15 at *
  generalize w14.heap.size = g2 at *
  refine (C5.out _ b S14.out.2).mono ?_
  rintro e w16 ⟨⟨v16, rfl⟩, hb⟩
  have S16 : Hid (Below w.heap.size w w16 ∧ PtIn w16 b (ptOf n none 0 0)) := ⟨S14.out.1.trans (hb.mono S14.out.1.size), S14.out.2.below hb⟩
  clear hb S14
  go_wp2_with fail
  refine (C6.out _ b S16.out.2).mono ?_
  rintro e w17 ⟨rfl, hb⟩
  have S17 : Hid (Below w.heap.size w w17) := S16.out.1.trans (hb.mono S16.out.1.size)
  clear hb S16 C1 C2 C3 C4 C5 C6
  go_wp2_with fail
  refine (N1.out _).mono ?_
  rintro e w18 ⟨rfl, rfl⟩
  go_wp2_with fail
  refine (N2.out _).mono ?_
  rintro e w18 ⟨rfl, rfl⟩
  obtain ⟨t1, t2, t3, t4, t5⟩ := HF.out
  go_wp2_with fail
  refine (N3.out _).mono ?_
  rintro e w18 ⟨rfl, rfl⟩
  go_wp2_with fail
  refine (N4.out _).mono ?_
  rintro e w18 ⟨rfl, rfl⟩
  go_wp2_with fail
  refine (N5.out _).mono ?_
  rintro e w18 ⟨rfl, rfl⟩
  go_wp2_with fail
  refine (N6.out _).mono ?_
  rintro e w18 ⟨rfl, rfl⟩
  go_wp2_with fail
  clear t1 t2 t3 t4 t5
  refine (D1.out _).mono ?_
  rintro e w19 ⟨rfl, hb⟩
  have S19 : Hid (Below w.heap.size w (w19.alloc (.cells #[.int .i64 0, .int .i64 0] 23))) := (S17.out.trans (hb.mono S17.out.size)).alloc (Nat.le_trans S17.out.size hb.size) _
  clear hb S17
  go_wp2_with fail
  generalize w19.alloc (.cells #[.int .i64 0, .int .i64 0] 23) = w20 at *
  generalize w19.heap.size = g3 at *
  refine (D2.out _).mono ?_
  rintro e w21 ⟨rfl, hb⟩
  have S21 : Hid (Below w.heap.size w w21) := S19.out.trans (hb.mono S19.out.size)
  clear hb S19
  go_wp2_with fail
  refine (D3.out _).mono ?_
  rintro e w22 ⟨rfl, hb⟩
  have S22 : Hid (Below w.heap.size w w22) := S21.out.trans (hb.mono S21.out.size)
  clear hb S21
  go_wp2_with fail
  refine (E1.out _ _).mono ?_
  rintro e w23 ⟨rfl, hb⟩
  have S23 : Hid (Below w.heap.size w w23) := S22.out.trans (hb.mono S22.out.size)
  clear hb S22
  have h63 := H63.out
  go_wp2_with fail
  clear h63
  refine (E2.out _ _).mono ?_
  rintro e w24 ⟨rfl, hb⟩
  have S24 : Hid (Below w.heap.size w w24) := S23.out.trans (hb.mono S23.out.size)
  clear hb S23
  have hq := HMQ.out
  rcases HZ.out with ⟨z0, rfl, rfl⟩ | ⟨z0, z1, z2, z3, z4, z5, z6, rfl⟩
  · go_wp2
    go_ret
    exact ⟨rfl, S24.out⟩
  · go_wp2
    go_ret
    exact ⟨rfl, S24.out⟩

theorem says_walk (n : Nd) (m : Nat) (hm : m < 65536) (x y : Int) (w : World) (T : Tbs w) :
    Calls Tryz.prog 6 #[(Value.agg #[.int .u8 (n.kind : Nat), .string n.name, .string n.cls, .string n.text, .int .i64 n.minW, .int .i64 n.minH, .int .i64 n.maxW, .int .i64 n.maxH, .int .i64 n.grow, .int .i64 n.order, .bool n.column, .int .i64 n.columns, .int .i64 n.span, .int .i64 n.gap, .int .i64 n.offX, .int .i64 n.offY, .bool n.hidden, .slice n.wA n.wN n.wC, .slice n.kA n.kN n.kC]), .int .u16 (m : Nat), .agg #[.int .i64 x, .int .i64 y]] w fun e w' => e = .returned (.bool true) ∧ Below w.heap.size w w' := by
  by_cases h : kindB n.kind = true ∧ okN n = true
  · exact says_ok n m hm x y w T h.1 h.2
  · exact says_bad n m x y w T h

end Go.Proofs.YtdbafcldpleogaaGreatDoor
