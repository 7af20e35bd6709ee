/-
  The walk of the statement PartRoom.
-/
import Derived.Test.YtdbafcldpleogaaGreatDoorUR
import Derived.Test.YtdbafcldpleogaaGreatDoorURq
import Derived.Deep.MidRow
namespace Go.Proofs.YtdbafcldpleogaaGreatDoor
open Go.RowKit Go.Shelf

/-- What lies there: the node, two rooms, the rectangle, the look. -/
structure RoW (w : World) (n : Nd) (x y x2 y2 : Int) (r : Rc) (k : Lk) (W : World) : Prop where
  n : Blk W w.heap.size (#[.int .u8 (n.kind : Nat), .string n.name, .string n.cls, .string n.text, .int .i64 n.minW, .int .i64 n.minH, .int .i64 n.maxW, .int .i64 n.maxH, .int .i64 n.grow, .int .i64 n.order, .bool n.column, .int .i64 n.columns, .int .i64 n.span, .int .i64 n.gap, .int .i64 n.offX, .int .i64 n.offY, .bool n.hidden, .slice n.wA n.wN n.wC, .slice n.kA n.kN n.kC]) 29
  s : At2 W (w.heap.size + 1) x y
  m : At2 W (w.heap.size + 1 + 1) x2 y2
  r : At4 W (w.heap.size + 1 + 1 + 1) r.x r.y r.w r.h
  k : Blk W (w.heap.size + 1 + 1 + 1 + 1) (#[.int .u8 (k.has : Nat), .int .u8 k.r, .int .u8 k.g, .int .u8 k.b, .int .u8 k.a, .int .u8 k.r2, .int .u8 k.g2, .int .u8 k.b2, .int .u8 k.a2, .bool k.bd, .int .i64 k.pad]) 67
  b : Below w.heap.size w W
theorem RoW.below {w : World} {n : Nd} {x y x2 y2 : Int} {r : Rc} {k : Lk} {W W' : World} (h : RoW w n x y x2 y2 r k W) (hb : Below W.heap.size W W') : RoW w n x y x2 y2 r k W' := ⟨h.n.below hb, h.s.below hb, h.m.below hb, h.r.below hb, h.k.below hb, h.b.trans (hb.mono h.b.size)⟩
theorem RoW.alloc {w : World} {n : Nd} {x y x2 y2 : Int} {r : Rc} {k : Lk} {W : World} (h : RoW w n x y x2 y2 r k W) (o : Obj) : RoW w n x y x2 y2 r k (W.alloc o) := h.below ((Below.refl _ _).alloc (Nat.le_refl _) o)
theorem ro_start (w : World) (n : Nd) (x y x2 y2 : Int) (r : Rc) (k : Lk) : RoW w n x y x2 y2 r k (((((w.alloc (.cells (#[.int .u8 (n.kind : Nat), .string n.name, .string n.cls, .string n.text, .int .i64 n.minW, .int .i64 n.minH, .int .i64 n.maxW, .int .i64 n.maxH, .int .i64 n.grow, .int .i64 n.order, .bool n.column, .int .i64 n.columns, .int .i64 n.span, .int .i64 n.gap, .int .i64 n.offX, .int .i64 n.offY, .bool n.hidden, .slice n.wA n.wN n.wC, .slice n.kA n.kN n.kC]) 29)).alloc (.cells #[.int .i64 x, .int .i64 y] 23)).alloc (.cells #[.int .i64 x2, .int .i64 y2] 23)).alloc (.cells #[.int .i64 r.x, .int .i64 r.y, .int .i64 r.w, .int .i64 r.h] 63)).alloc (.cells (#[.int .u8 (k.has : Nat), .int .u8 k.r, .int .u8 k.g, .int .u8 k.b, .int .u8 k.a, .int .u8 k.r2, .int .u8 k.g2, .int .u8 k.b2, .int .u8 k.a2, .bool k.bd, .int .i64 k.pad]) 67)) := by
  have C := Blk.new ((((w.alloc (.cells (#[.int .u8 (n.kind : Nat), .string n.name, .string n.cls, .string n.text, .int .i64 n.minW, .int .i64 n.minH, .int .i64 n.maxW, .int .i64 n.maxH, .int .i64 n.grow, .int .i64 n.order, .bool n.column, .int .i64 n.columns, .int .i64 n.span, .int .i64 n.gap, .int .i64 n.offX, .int .i64 n.offY, .bool n.hidden, .slice n.wA n.wN n.wC, .slice n.kA n.kN n.kC]) 29)).alloc (.cells #[.int .i64 x, .int .i64 y] 23)).alloc (.cells #[.int .i64 x2, .int .i64 y2] 23)).alloc (.cells #[.int .i64 r.x, .int .i64 r.y, .int .i64 r.w, .int .i64 r.h] 63)) (#[.int .u8 (k.has : Nat), .int .u8 k.r, .int .u8 k.g, .int .u8 k.b, .int .u8 k.a, .int .u8 k.r2, .int .u8 k.g2, .int .u8 k.b2, .int .u8 k.a2, .bool k.bd, .int .i64 k.pad]) 67
  simp only [World.size_alloc] at C
  exact ⟨((((Blk.new _ _ _).alloc _).alloc _).alloc _).alloc _, (((At2.new' (w.alloc _) (w.heap.size + 1) x y 23 (by simp)).alloc _).alloc _).alloc _, ((At2.new' ((w.alloc _).alloc _) (w.heap.size + 1 + 1) x2 y2 23 (by simp)).alloc _).alloc _, (At4.new' (((w.alloc _).alloc _).alloc _) (w.heap.size + 1 + 1 + 1) r.x r.y r.w r.h 63 (by simp)).alloc _, C, (((((Below.refl _ w).alloc (Nat.le_refl _) _).alloc (by simp) _).alloc (by simp; omega) _).alloc (by simp; omega) _).alloc (by simp; omega) _⟩

set_option maxRecDepth 10000 in
set_option maxHeartbeats 4000000 in
theorem room_bad (n : Nd) (x y x2 y2 : Int) (r : Rc) (lk : Lk) (w : World) (T : Tbs w) (h : ¬ (kindB n.kind = true ∧ okN n = true)) :
    Calls Tryz.prog 7 #[(Value.agg #[.int .u8 (n.kind : Nat), .string n.name, .string n.cls, .string n.text, .int .i64 n.minW, .int .i64 n.minH, .int .i64 n.maxW, .int .i64 n.maxH, .int .i64 n.grow, .int .i64 n.order, .bool n.column, .int .i64 n.columns, .int .i64 n.span, .int .i64 n.gap, .int .i64 n.offX, .int .i64 n.offY, .bool n.hidden, .slice n.wA n.wN n.wC, .slice n.kA n.kN n.kC]), .agg #[.int .i64 x, .int .i64 y], .agg #[.int .i64 x2, .int .i64 y2], .agg #[.int .i64 r.x, .int .i64 r.y, .int .i64 r.w, .int .i64 r.h], (Value.agg #[.int .u8 (lk.has : Nat), .int .u8 lk.r, .int .u8 lk.g, .int .u8 lk.b, .int .u8 lk.a, .int .u8 lk.r2, .int .u8 lk.g2, .int .u8 lk.b2, .int .u8 lk.a2, .bool lk.bd, .int .i64 lk.pad])] w fun e w' => e = .returned (.bool true) ∧ Below w.heap.size w w' := by
  obtain ⟨er, he0, HM⟩ : ∃ er : Int, (er != 0) = true ∧ ∀ W v, Tbs W → Calls Tryz.prog 11 #[(Value.agg #[.int .u8 (n.kind : Nat), .string n.name, .string n.cls, .string n.text, .int .i64 n.minW, .int .i64 n.minH, .int .i64 n.maxW, .int .i64 n.maxH, .int .i64 n.grow, .int .i64 n.order, .bool n.column, .int .i64 n.columns, .int .i64 n.span, .int .i64 n.gap, .int .i64 n.offX, .int .i64 n.offY, .bool n.hidden, .slice n.wA n.wN n.wC, .slice n.kA n.kN n.kC]), v] W fun e w' => e = .returned (.tuple #[.nilIface, .int .i64 er]) ∧ Below W.heap.size W w' := by
    cases hk : kindB n.kind
    · exact ⟨60, rfl, fun W v _ => make_kind n v W hk⟩
    · cases ho : okN n
      · exact ⟨2, rfl, fun W v T => make_arg n v W T hk ho⟩
      · exact absurd ⟨hk, ho⟩ h
  have HM' : Hid (∀ W v, Tbs W → Calls Tryz.prog 11 #[(Value.agg #[.int .u8 (n.kind : Nat), .string n.name, .string n.cls, .string n.text, .int .i64 n.minW, .int .i64 n.minH, .int .i64 n.maxW, .int .i64 n.maxH, .int .i64 n.grow, .int .i64 n.order, .bool n.column, .int .i64 n.columns, .int .i64 n.span, .int .i64 n.gap, .int .i64 n.offX, .int .i64 n.offY, .bool n.hidden, .slice n.wA n.wN n.wC, .slice n.kA n.kN n.kC]), v] W fun e w' => e = .returned (.tuple #[.nilIface, .int .i64 er]) ∧ Below W.heap.size W w') := HM
  have S0 : Hid (RoW w n x y x2 y2 r lk _) := ro_start w n x y x2 y2 r lk
  have hA := awake_any _ (T.below S0.out.b)
  have HT : Hid (Tbs w) := T
  have HV : Hid (∀ {W : World} {b : Nat} {t : TypeId}, Blk W b (#[.int .u8 (n.kind : Nat), .string n.name, .string n.cls, .string n.text, .int .i64 n.minW, .int .i64 n.minH, .int .i64 n.maxW, .int .i64 n.maxH, .int .i64 n.grow, .int .i64 n.order, .bool n.column, .int .i64 n.columns, .int .i64 n.span, .int .i64 n.gap, .int .i64 n.offX, .int .i64 n.offY, .bool n.hidden, .slice n.wA n.wN n.wC, .slice n.kA n.kN n.kC]) t → (Instr.loadAt 29 (.pointer (some ⟨b, 0, none⟩))).run Tryz.prog W = .ok (Value.agg #[.int .u8 (n.kind : Nat), .string n.name, .string n.cls, .string n.text, .int .i64 n.minW, .int .i64 n.minH, .int .i64 n.maxW, .int .i64 n.maxH, .int .i64 n.grow, .int .i64 n.order, .bool n.column, .int .i64 n.columns, .int .i64 n.span, .int .i64 n.gap, .int .i64 n.offX, .int .i64 n.offY, .bool n.hidden, .slice n.wA n.wN n.wC, .slice n.kA n.kN n.kC]) W) := load_node
  clear T HM h
  go_enter Tryz.func7, Tryz.ntmps7
  go_wp2_with fail
  refine hA.mono ?_
  rintro e w1 ⟨rfl, hb⟩
  have S1 : Hid (RoW w n x y x2 y2 r lk w1) := S0.out.below hb
  clear hb S0 hA
  go_upto_region 4 with fail
  have hl := HV.out S1.out.n
  refine Go.wp_region_lit ?_
  refine wpList_load rfl _ _ rfl _ _ rfl hl ?_
  clear hl
  generalize (Value.agg #[.int .u8 (n.kind : Nat), .string n.name, .string n.cls, .string n.text, .int .i64 n.minW, .int .i64 n.minH, .int .i64 n.maxW, .int .i64 n.maxH, .int .i64 n.grow, .int .i64 n.order, .bool n.column, .int .i64 n.columns, .int .i64 n.span, .int .i64 n.gap, .int .i64 n.offX, .int .i64 n.offY, .bool n.hidden, .slice n.wA n.wN n.wC, .slice n.kA n.kN n.kC]) = nv at *
  go_wp2_with fail
  refine (HM'.out _ _ (HT.out.below S1.out.b)).mono ?_
  rintro e w2 ⟨rfl, hb⟩
  have S2 : Hid (Below w.heap.size w w2) := (S1.out.below hb).b
  clear hb S1
  go_wp2
  go_ret
  exact ⟨rfl, S2.out⟩

theorem load_stroke {w : World} {g o : Nat} {s : Sk} (h : ∀ j u, s.vals[j]? = some u → w.cell? ⟨g, o + j, none⟩ = some u) : (Instr.loadAt 79 (.pointer (some ⟨g, o, none⟩))).run Tryz.prog w = .ok (.agg s.vals.toArray) w := by
  exact run_loadAt_mid w g o 79 s.vals _ h Tryz.underlying79 (by rfl) (by kernel_rfl)

theorem vals_len (s : Sk) : s.vals.length = 15 := rfl
theorem flatS_at : ∀ (L : List Sk) (k : Nat) (hk : k < L.length) (j : Nat), j < 15 → (flatS L)[k * 15 + j]? = (L[k]).vals[j]?
  | [], _, hk, _, _ => by simp at hk
  | a :: t, 0, _, j, hj => by
    have e : flatS (a :: t) = a.vals ++ flatS t := by simp [flatS]
    rw [e, List.getElem?_append_left (by rw [vals_len]; omega)]
    simp
  | a :: t, k + 1, hk, j, hj => by
    have e : flatS (a :: t) = a.vals ++ flatS t := by simp [flatS]
    rw [e, List.getElem?_append_right (by rw [vals_len]; omega), vals_len]
    have := flatS_at t k (by simpa using hk) j hj
    rw [show (k + 1) * 15 + j - 15 = k * 15 + j by omega, this]
    rfl
/-- A stroke of a list, in memory. -/
theorem row_stroke {w w' : World} {B g cap : Nat} {L : List Sk} (h : w.ownsRow B 79 15 (.slice (some ⟨g, 0, none⟩) L.length cap) L.length (flatS L)) (hb : Below w.heap.size w w') (k : Nat) (hk : k < L.length) (j : Nat) (u : Value) (hj : (L[k]).vals[j]? = some u) : w'.cell? ⟨g, k * 15 + j, none⟩ = some u := by
  have hj15 : j < 15 := by
    have := (List.getElem?_eq_some_iff.1 hj).1
    rwa [vals_len] at this
  have h1 := h.cellAt (k * 15 + j) (by have : (k + 1) * 15 ≤ L.length * 15 := Nat.mul_le_mul_right 15 hk; omega)
  rw [flatS_at L k hk j hj15, hj] at h1
  rw [hb.cell (p := ⟨g, k * 15 + j, none⟩) (World.block_lt_of_cell? _ _ h1)]
  exact h1

set_option maxRecDepth 10000 in
set_option maxHeartbeats 8000000 in
theorem room_ok (n : Nd) (x y x2 y2 : Int) (r : Rc) (lk : Lk) (w : World) (T : Tbs w) (hx : I64 r.x) (hy : I64 r.y) (hk : kindB n.kind = true) (ho : okN n = true) :
    Calls Tryz.prog 7 #[(Value.agg #[.int .u8 (n.kind : Nat), .string n.name, .string n.cls, .string n.text, .int .i64 n.minW, .int .i64 n.minH, .int .i64 n.maxW, .int .i64 n.maxH, .int .i64 n.grow, .int .i64 n.order, .bool n.column, .int .i64 n.columns, .int .i64 n.span, .int .i64 n.gap, .int .i64 n.offX, .int .i64 n.offY, .bool n.hidden, .slice n.wA n.wN n.wC, .slice n.kA n.kN n.kC]), .agg #[.int .i64 x, .int .i64 y], .agg #[.int .i64 x2, .int .i64 y2], .agg #[.int .i64 r.x, .int .i64 r.y, .int .i64 r.w, .int .i64 r.h], (Value.agg #[.int .u8 (lk.has : Nat), .int .u8 lk.r, .int .u8 lk.g, .int .u8 lk.b, .int .u8 lk.a, .int .u8 lk.r2, .int .u8 lk.g2, .int .u8 lk.b2, .int .u8 lk.a2, .bool lk.bd, .int .i64 lk.pad])] w fun e w' => e = .returned (.bool true) ∧ Below w.heap.size w w' := by
  have HM : Hid (∀ W, Tbs W → Calls Tryz.prog 11 #[(Value.agg #[.int .u8 (n.kind : Nat), .string n.name, .string n.cls, .string n.text, .int .i64 n.minW, .int .i64 n.minH, .int .i64 n.maxW, .int .i64 n.maxH, .int .i64 n.grow, .int .i64 n.order, .bool n.column, .int .i64 n.columns, .int .i64 n.span, .int .i64 n.gap, .int .i64 n.offX, .int .i64 n.offY, .bool n.hidden, .slice n.wA n.wN n.wC, .slice n.kA n.kN n.kC]), .slice none 0 0] W fun e w' => ∃ b, e = .returned (.tuple #[.iface (tyOf n.kind).id (.pointer (some ⟨b, 0, none⟩)), .int .i64 0]) ∧ PtIn w' b (ptOf n none 0 0) ∧ W.heap.size ≤ b ∧ Below W.heap.size W w') := fun W h => make_nil n W h hk ho
  have S0 : Hid (RoW w n x y x2 y2 r lk _) := ro_start w n x y x2 y2 r lk
  have hA := awake_any _ (T.below S0.out.b)
  have HT : Hid (Tbs w) := T
  have HV : Hid (∀ {W : World} {b : Nat} {t : TypeId}, Blk W b (#[.int .u8 (n.kind : Nat), .string n.name, .string n.cls, .string n.text, .int .i64 n.minW, .int .i64 n.minH, .int .i64 n.maxW, .int .i64 n.maxH, .int .i64 n.grow, .int .i64 n.order, .bool n.column, .int .i64 n.columns, .int .i64 n.span, .int .i64 n.gap, .int .i64 n.offX, .int .i64 n.offY, .bool n.hidden, .slice n.wA n.wN n.wC, .slice n.kA n.kN n.kC]) t → (Instr.loadAt 29 (.pointer (some ⟨b, 0, none⟩))).run Tryz.prog W = .ok (Value.agg #[.int .u8 (n.kind : Nat), .string n.name, .string n.cls, .string n.text, .int .i64 n.minW, .int .i64 n.minH, .int .i64 n.maxW, .int .i64 n.maxH, .int .i64 n.grow, .int .i64 n.order, .bool n.column, .int .i64 n.columns, .int .i64 n.span, .int .i64 n.gap, .int .i64 n.offX, .int .i64 n.offY, .bool n.hidden, .slice n.wA n.wN n.wC, .slice n.kA n.kN n.kC]) W) := load_node
  obtain ⟨t, ht⟩ : ∃ t, t = tyOf n.kind := ⟨_, rfl⟩
  obtain ⟨E, hE⟩ : ∃ E, E = strE t r lk := ⟨_, rfl⟩
  obtain ⟨L, hL⟩ : ∃ L, L = strL (ptOf n none 0 0) r lk := ⟨_, rfl⟩
  have HS : Hid (∀ W b, PtIn W b (ptOf n none 0 0) → Calls Tryz.prog 28 #[.iface t.id (.pointer (some ⟨b, 0, none⟩)), .agg #[.int .i64 r.x, .int .i64 r.y, .int .i64 r.w, .int .i64 r.h], (Value.agg #[.int .u8 (lk.has : Nat), .int .u8 lk.r, .int .u8 lk.g, .int .u8 lk.b, .int .u8 lk.a, .int .u8 lk.r2, .int .u8 lk.g2, .int .u8 lk.b2, .int .u8 lk.a2, .bool lk.bd, .int .i64 lk.pad])] W fun e w' => ∃ v, e = .returned (.tuple #[v, .int .i64 E]) ∧ w'.ownsRow W.heap.size 79 15 v L.length (flatS L) ∧ Below W.heap.size W w') := fun W b h => by
    have := strokes_made (ptOf n none 0 0) b r lk W h hk hx hy
    rw [hE, hL, ht]
    exact this
  have HP : Hid (L.length ≤ 3 ∧ ∀ s ∈ L, E = 0 ∧ StOk r s) := by
    have := pai_ok (ptOf n none 0 0) r lk hx hy
    rw [hE, hL, ht]
    exact this
  have HX : Hid (I64 r.x ∧ I64 r.y) := ⟨hx, hy⟩
  have HU : Hid (okN n = true ∧ kindB n.kind = true ∧ t = tyOf n.kind) := ⟨ho, hk, ht⟩
  clear T hE hL hx hy hk ho
  rw [← ht] at HM
  clear ht
  go_enter Tryz.func7, Tryz.ntmps7
  go_wp2_with fail
  refine hA.mono ?_
  rintro e w1 ⟨rfl, hb⟩
  have S1 : Hid (RoW w n x y x2 y2 r lk w1) := S0.out.below hb
  clear hb S0 hA
  go_upto_region 4 with fail
  have hl := HV.out S1.out.n
  refine Go.wp_region_lit ?_
  refine wpList_load rfl _ _ rfl _ _ rfl hl ?_
  clear hl
  generalize (Value.agg #[.int .u8 (n.kind : Nat), .string n.name, .string n.cls, .string n.text, .int .i64 n.minW, .int .i64 n.minH, .int .i64 n.maxW, .int .i64 n.maxH, .int .i64 n.grow, .int .i64 n.order, .bool n.column, .int .i64 n.columns, .int .i64 n.span, .int .i64 n.gap, .int .i64 n.offX, .int .i64 n.offY, .bool n.hidden, .slice n.wA n.wN n.wC, .slice n.kA n.kN n.kC]) = nv at *
  go_wp2_with fail
  refine (HM.out _ (HT.out.below S1.out.b)).mono ?_
  rintro e w2 ⟨b, rfl, hp, _, hb⟩
  have S2 : Hid (RoW w n x y x2 y2 r lk w2 ∧ PtIn w2 b (ptOf n none 0 0)) := ⟨S1.out.below hb, hp⟩
  clear hb hp S1 HM HT HV
  obtain ⟨r0, r1, r2, r3⟩ := S2.out.1.r
  obtain ⟨k0, k1, k2, k3, k4, k5, k6, k7, k8, k9, k10⟩ := S2.out.1.k.look
  go_wp2_with fail
  clear r0 r1 r2 r3 k0 k1 k2 k3 k4 k5 k6 k7 k8 k9 k10
  refine (HS.out _ b S2.out.2).mono ?_
  rintro e w3 ⟨v, rfl, hown, hb⟩
  have S3 : Hid (RoW w n x y x2 y2 r lk w3 ∧ PtIn w3 b (ptOf n none 0 0)) := ⟨S2.out.1.below hb, S2.out.2.below hb⟩
  have O3 : Hid (w3.ownsRow w2.heap.size 79 15 v L.length (flatS L)) := hown
  obtain ⟨oa, cp, hv⟩ : ∃ oa cp, v = .slice oa L.length cp := by
    obtain ⟨hl, h⟩ := hown
    rcases h with ⟨h0, h1⟩ | ⟨g, cap, cur, rfl, _⟩
    · exact ⟨none, 0, by rw [h1]; exact h0⟩
    · exact ⟨_, _, rfl⟩
  subst hv
  clear hb hown S2 HS
  go_wp2_with fail
  go_loopw [15] (fun i wr => ∃ k : Nat, k ≤ L.length ∧ i = .int .i64 k ∧ wr = wr ∧ Hid (RoW w n x y x2 y2 r lk wr ∧ PtIn wr b (ptOf n none 0 0) ∧ Below w3.heap.size w3 wr)) (fun i _ => L.length - (intOf i).toNat)
  case atStart => exact ⟨0, Nat.zero_le _, rfl, rfl, S3.out.1, S3.out.2, Below.refl _ _⟩
  case round =>
    obtain ⟨k, hk, rfl, _, S4⟩ := hrel
    by_cases hlt : k < L.length
    · obtain ⟨E0, ok⟩ := HP.out.2 (L[k]) (List.getElem_mem hlt)
      obtain ⟨g, hg⟩ : ∃ g, oa = some ⟨g, 0, none⟩ := by
        rcases O3.out.2 with ⟨_, h0⟩ | ⟨g, cap, cur, h1, _⟩
        · omega
        · simp only [Value.slice.injEq] at h1
          exact ⟨g, h1.1⟩
      subst hg
      have hl := load_stroke (s := L[k]) (g := g) (o := k * 15) (row_stroke O3.out S4.out.2.2 k hlt)
      have hlc : L.length ≤ cp := by
        rcases O3.out.2 with ⟨h0, _⟩ | ⟨g, cap, cur, h1, _, _, h2, _⟩
        · simp at h0
        · simp only [Value.slice.injEq] at h1
          omega
      have HL3 := HP.out.1
      obtain ⟨inn, ⟨fx, fy⟩, knd, nod⟩ := ok
      generalize L[k] = s at *
      obtain ⟨kd, sx, sy, sn, sm, c0, c1, c2, c3, b0, b1, b2, b3, tx, nd⟩ := s
      simp only at inn fx fy knd nod
      simp only [Sk.vals] at hl
      subst nod
      subst E0
      have HI : Hid (∀ W, Calls Tryz.prog 34 #[.agg #[.int .i64 sx, .int .i64 sy, .int .i64 sn, .int .i64 sm], .agg #[.int .i64 r.x, .int .i64 r.y, .int .i64 r.w, .int .i64 r.h]] W fun e w' => e = .returned (.bool true) ∧ Below W.heap.size W w') := fun W => by
        have := in_any sx sy sn sm r.x r.y r.w r.h W fx fy HX.out.1 HX.out.2
        rw [inn] at this
        exact this
      have S5 : Hid (RoW w n x y x2 y2 r lk (wr.alloc (.cells #[.int .u8 kd, .int .i64 sx, .int .i64 sy, .int .i64 sn, .int .i64 sm, .int .u8 c0, .int .u8 c1, .int .u8 c2, .int .u8 c3, .int .u8 b0, .int .u8 b1, .int .u8 b2, .int .u8 b3, .string tx, .int .i64 0] 79)) ∧ PtIn (wr.alloc (.cells #[.int .u8 kd, .int .i64 sx, .int .i64 sy, .int .i64 sn, .int .i64 sm, .int .u8 c0, .int .u8 c1, .int .u8 c2, .int .u8 c3, .int .u8 b0, .int .u8 b1, .int .u8 b2, .int .u8 b3, .string tx, .int .i64 0] 79)) b (ptOf n none 0 0) ∧ Below w3.heap.size w3 (wr.alloc (.cells #[.int .u8 kd, .int .i64 sx, .int .i64 sy, .int .i64 sn, .int .i64 sm, .int .u8 c0, .int .u8 c1, .int .u8 c2, .int .u8 c3, .int .u8 b0, .int .u8 b1, .int .u8 b2, .int .u8 b3, .string tx, .int .i64 0] 79)) ∧ Blk (wr.alloc (.cells #[.int .u8 kd, .int .i64 sx, .int .i64 sy, .int .i64 sn, .int .i64 sm, .int .u8 c0, .int .u8 c1, .int .u8 c2, .int .u8 c3, .int .u8 b0, .int .u8 b1, .int .u8 b2, .int .u8 b3, .string tx, .int .i64 0] 79)) wr.heap.size #[.int .u8 kd, .int .i64 sx, .int .i64 sy, .int .i64 sn, .int .i64 sm, .int .u8 c0, .int .u8 c1, .int .u8 c2, .int .u8 c3, .int .u8 b0, .int .u8 b1, .int .u8 b2, .int .u8 b3, .string tx, .int .i64 0] 79) := ⟨S4.out.1.alloc _, S4.out.2.1.alloc _, S4.out.2.2.alloc S4.out.2.2.size _, Blk.new _ _ _⟩
      clear inn fx fy
      go_upto_region 11 with fail
      refine Go.wp_region_lit ?_
      go_upto_region 12 with (refine wpList_load rfl _ _ rfl _ _ rfl hl ?_)
      generalize wr.alloc (.cells #[.int .u8 kd, .int .i64 sx, .int .i64 sy, .int .i64 sn, .int .i64 sm, .int .u8 c0, .int .u8 c1, .int .u8 c2, .int .u8 c3, .int .u8 b0, .int .u8 b1, .int .u8 b2, .int .u8 b3, .string tx, .int .i64 0] 79) = w5 at *
      generalize wr.heap.size = g5 at *
      clear hl S4
      obtain ⟨r0, r1, r2, r3⟩ := S5.out.1.r
      have d1 := S5.out.2.2.2.cell 1
      have d2 := S5.out.2.2.2.cell 2
      have d3 := S5.out.2.2.2.cell 3
      have d4 := S5.out.2.2.2.cell 4
      go_wp2_with fail
      clear r0 r1 r2 r3 d1 d2 d3 d4
      refine (HI.out _).mono ?_
      rintro e w6 ⟨rfl, hb⟩
      have S6 : Hid (RoW w n x y x2 y2 r lk w6 ∧ PtIn w6 b (ptOf n none 0 0) ∧ Below w3.heap.size w3 w6 ∧ Blk w6 g5 #[.int .u8 kd, .int .i64 sx, .int .i64 sy, .int .i64 sn, .int .i64 sm, .int .u8 c0, .int .u8 c1, .int .u8 c2, .int .u8 c3, .int .u8 b0, .int .u8 b1, .int .u8 b2, .int .u8 b3, .string tx, .int .i64 0] 79) := ⟨S5.out.1.below hb, S5.out.2.1.below hb, S5.out.2.2.1.trans (hb.mono S5.out.2.2.1.size), S5.out.2.2.2.below hb⟩
      clear hb S5
      have e0 := S6.out.2.2.2.cell 0
      have e13 := S6.out.2.2.2.cell 13
      have e14 := S6.out.2.2.2.cell 14
      rcases knd with ⟨rfl, rfl⟩ | ⟨rfl, rfl⟩ | ⟨rfl, hz⟩
      · go_wp2_with fail
        go_roundw
        case rel => exact ⟨k + 1, by omega, by go_num, by first | trivial | rfl, S6.out.1, S6.out.2.1, S6.out.2.2.1⟩
        case measure => simp [intOf]; omega
      · go_wp2_with fail
        go_roundw
        case rel => exact ⟨k + 1, by omega, by go_num, by first | trivial | rfl, S6.out.1, S6.out.2.1, S6.out.2.2.1⟩
        case measure => simp [intOf]; omega
      · obtain ⟨n1, n2⟩ := s_txt_ne hz
        clear hz
        go_wp2_with fail
        go_roundw
        case rel => exact ⟨k + 1, by omega, by go_num, by first | trivial | rfl, S6.out.1, S6.out.2.1, S6.out.2.2.1⟩
        case measure => simp [intOf]; omega
    · obtain rfl : k = L.length := by omega
      clear hk HP O3
      have HC : Hid (∀ W v, Calls Tryz.prog 17 #[.iface t.id v] W fun e w' => e = .returned (.int .u16 (t.can : Nat)) ∧ w' = W) := fun W v => can_ty_any t v W
      have hc1 : (bits .and .u16 ((t.can : Nat) : Int) 1 == 0) = !t.mes := by cases t <;> decide
      obtain ⟨x0, x1⟩ := S4.out.1.s
      obtain ⟨y0, y1⟩ := S4.out.1.m
      go_wp2_with fail
      refine (HC.out _ _).mono ?_
      rintro e w4 ⟨rfl, rfl⟩
      cases hm : t.mes
      · rw [hm] at hc1
        go_wp2
        go_ret
        exact ⟨rfl, S4.out.1.b⟩
      · rw [hm] at hc1
        have HM1 : Hid (t.mes = true) := hm
        clear hm
        by_cases q1 : x < 0
        · go_wp2
          go_ret
          exact ⟨rfl, S4.out.1.b⟩
        by_cases q2 : y < 0
        · go_wp2
          go_ret
          exact ⟨rfl, S4.out.1.b⟩
        by_cases q3 : x2 < x
        · go_wp2
          go_ret
          exact ⟨rfl, S4.out.1.b⟩
        by_cases q4 : y2 < y
        · go_wp2
          go_ret
          exact ⟨rfl, S4.out.1.b⟩
        by_cases q5 : 16384 < x2
        · go_wp2
          go_ret
          exact ⟨rfl, S4.out.1.b⟩
        by_cases q6 : 16384 < y2
        · go_wp2
          go_ret
          exact ⟨rfl, S4.out.1.b⟩
        have HQ : Hid (0 ≤ x ∧ 0 ≤ y ∧ x ≤ x2 ∧ y ≤ y2 ∧ x2 ≤ 16384 ∧ y2 ≤ 16384) := ⟨by omega, by omega, by omega, by omega, by omega, by omega⟩
        have ME : ∀ a c : Int, 0 ≤ a → a ≤ 16384 → 0 ≤ c → c ≤ 16384 → ∀ W, PtIn W b (ptOf n none 0 0) → Calls Tryz.prog 25 #[.iface t.id (.pointer (some ⟨b, 0, none⟩)), .agg #[.int .i64 a, .int .i64 c]] W fun e w' => e = .returned (.tuple #[.agg #[.int .i64 (lim (lim (askW n) n.maxW) a), .int .i64 (lim (lim (askH n) n.maxH) c)], .int .i64 0]) ∧ Below W.heap.size W w' := by
          intro a c h1 h2 h3 h4 W hp
          have := measure_made (ptOf n none 0 0) b a c W hp HU.out.2.1
          have ez : meaE (ptOf n none 0 0).t a c = 0 := by
            show meaE (tyOf n.kind) a c = 0
            rw [← HU.out.2.2]
            unfold meaE szB sideB fromTo
            rw [HM1.out]
            simp [h1, h2, h3, h4]
          rw [ez] at this
          rw [HU.out.2.2]
          exact this
        have M1 : Hid (∀ W, PtIn W b (ptOf n none 0 0) → Calls Tryz.prog 25 #[.iface t.id (.pointer (some ⟨b, 0, none⟩)), .agg #[.int .i64 x, .int .i64 y]] W fun e w' => e = .returned (.tuple #[.agg #[.int .i64 (lim (lim (askW n) n.maxW) x), .int .i64 (lim (lim (askH n) n.maxH) y)], .int .i64 0]) ∧ Below W.heap.size W w') := ME x y (by omega) (by omega) (by omega) (by omega)
        have M2 : Hid (∀ W, PtIn W b (ptOf n none 0 0) → Calls Tryz.prog 25 #[.iface t.id (.pointer (some ⟨b, 0, none⟩)), .agg #[.int .i64 x2, .int .i64 y2]] W fun e w' => e = .returned (.tuple #[.agg #[.int .i64 (lim (lim (askW n) n.maxW) x2), .int .i64 (lim (lim (askH n) n.maxH) y2)], .int .i64 0]) ∧ Below W.heap.size W w') := ME x2 y2 (by omega) (by omega) (by omega) (by omega)
        have M3 : Hid (∀ W, PtIn W b (ptOf n none 0 0) → Calls Tryz.prog 25 #[.iface t.id (.pointer (some ⟨b, 0, none⟩)), .agg #[.int .i64 0, .int .i64 0]] W fun e w' => e = .returned (.tuple #[.agg #[.int .i64 (lim (lim (askW n) n.maxW) 0), .int .i64 (lim (lim (askH n) n.maxH) 0)], .int .i64 0]) ∧ Below W.heap.size W w') := ME 0 0 (by omega) (by omega) (by omega) (by omega)
        have UO' := u_ok n HU.out.1
        have LS : ∀ W, Calls Tryz.prog 35 #[.int .i64 (lim (lim (askW n) n.maxW) x), .int .i64 (lim (lim (askW n) n.maxW) x2), .int .i64 (lim (lim (askW n) n.maxW) 0), .int .i64 x, .int .i64 x2] W fun e w' => e = .returned (.bool true) ∧ w' = W := fun W => less_true _ _ _ _ _ W (lim_room _ _) (lim_room _ _) (by omega)
        have LT : ∀ W, Calls Tryz.prog 35 #[.int .i64 (lim (lim (askH n) n.maxH) y), .int .i64 (lim (lim (askH n) n.maxH) y2), .int .i64 (lim (lim (askH n) n.maxH) 0), .int .i64 y, .int .i64 y2] W fun e w' => e = .returned (.bool true) ∧ w' = W := fun W => less_true _ _ _ _ _ W (lim_room _ _) (lim_room _ _) (by omega)
        clear ME
        generalize lim (lim (askW n) n.maxW) x = sw at *
        generalize lim (lim (askH n) n.maxH) y = sh at *
        generalize lim (lim (askW n) n.maxW) x2 = tw at *
        generalize lim (lim (askH n) n.maxH) y2 = th at *
        generalize lim (lim (askW n) n.maxW) 0 = uw at *
        generalize lim (lim (askH n) n.maxH) 0 = uh at *
        have HLS : Hid (∀ W, Calls Tryz.prog 35 #[.int .i64 sw, .int .i64 tw, .int .i64 uw, .int .i64 x, .int .i64 x2] W fun e w' => e = .returned (.bool true) ∧ w' = W) := LS
        have HLT : Hid (∀ W, Calls Tryz.prog 35 #[.int .i64 sh, .int .i64 th, .int .i64 uh, .int .i64 y, .int .i64 y2] W fun e w' => e = .returned (.bool true) ∧ w' = W) := LT
        have HUO : Hid (¬ uw < n.minW ∧ ¬ uh < n.minH ∧ (0 < n.maxW → ¬ n.maxW < uw) ∧ (0 < n.maxH → ¬ n.maxH < uh)) := UO'
        clear LS LT UO' HC HU HM1
        go_wp2_with fail
        clear x0 x1 y0 y1 q1 q2 q3 q4 q5 q6 hc1
        refine (M1.out _ S4.out.2.1).mono ?_
        rintro e w5 ⟨rfl, hb⟩
        have S6 : Hid (RoW w n x y x2 y2 r lk (w5.alloc (.cells #[.int .i64 sw, .int .i64 sh] 23)) ∧ PtIn (w5.alloc (.cells #[.int .i64 sw, .int .i64 sh] 23)) b (ptOf n none 0 0) ∧ At2 (w5.alloc (.cells #[.int .i64 sw, .int .i64 sh] 23)) w5.heap.size sw sh) := ⟨(S4.out.1.below hb).alloc _, (S4.out.2.1.below hb).alloc _, At2.new _ _ _ _⟩
        clear hb S4
        go_upto_region 17 with fail
        generalize w5.alloc (.cells #[.int .i64 sw, .int .i64 sh] 23) = w6 at *
        generalize w5.heap.size = g1 at *
        obtain ⟨y0, y1⟩ := S6.out.1.m
        go_wp2_with fail
        clear y0 y1
        refine (M2.out _ S6.out.2.1).mono ?_
        rintro e w7 ⟨rfl, hb⟩
        have S8 : Hid (RoW w n x y x2 y2 r lk (w7.alloc (.cells #[.int .i64 tw, .int .i64 th] 23)) ∧ PtIn (w7.alloc (.cells #[.int .i64 tw, .int .i64 th] 23)) b (ptOf n none 0 0) ∧ At2 (w7.alloc (.cells #[.int .i64 tw, .int .i64 th] 23)) g1 sw sh ∧ At2 (w7.alloc (.cells #[.int .i64 tw, .int .i64 th] 23)) w7.heap.size tw th) := ⟨(S6.out.1.below hb).alloc _, (S6.out.2.1.below hb).alloc _, (S6.out.2.2.below hb).alloc _, At2.new _ _ _ _⟩
        clear hb S6
        go_upto_region 18 with fail
        generalize w7.alloc (.cells #[.int .i64 tw, .int .i64 th] 23) = w8 at *
        generalize w7.heap.size = g2 at *
        go_wp2_with fail
        refine (M3.out _ S8.out.2.1).mono ?_
        rintro e w9 ⟨rfl, hb⟩
        have S10 : Hid (RoW w n x y x2 y2 r lk (w9.alloc (.cells #[.int .i64 uw, .int .i64 uh] 23)) ∧ At2 (w9.alloc (.cells #[.int .i64 uw, .int .i64 uh] 23)) g1 sw sh ∧ At2 (w9.alloc (.cells #[.int .i64 uw, .int .i64 uh] 23)) g2 tw th ∧ At2 (w9.alloc (.cells #[.int .i64 uw, .int .i64 uh] 23)) w9.heap.size uw uh) := ⟨(S8.out.1.below hb).alloc _, (S8.out.2.2.1.below hb).alloc _, (S8.out.2.2.2.below hb).alloc _, At2.new _ _ _ _⟩
        clear hb S8
        go_upto_region 19 with fail
        generalize w9.alloc (.cells #[.int .i64 uw, .int .i64 uh] 23) = w10 at *
        generalize w9.heap.size = g3 at *
        obtain ⟨a0, a1⟩ := S10.out.2.1
        obtain ⟨b0, b1⟩ := S10.out.2.2.1
        obtain ⟨c0, c1⟩ := S10.out.2.2.2
        obtain ⟨x0, x1⟩ := S10.out.1.s
        obtain ⟨y0, y1⟩ := S10.out.1.m
        have n4 : w10.cell? ⟨w.heap.size, 4, none⟩ = some (.int .i64 n.minW) := S10.out.1.n.cell 4
        have n5 : w10.cell? ⟨w.heap.size, 5, none⟩ = some (.int .i64 n.minH) := S10.out.1.n.cell 5
        have n6 : w10.cell? ⟨w.heap.size, 6, none⟩ = some (.int .i64 n.maxW) := S10.out.1.n.cell 6
        have n7 : w10.cell? ⟨w.heap.size, 7, none⟩ = some (.int .i64 n.maxH) := S10.out.1.n.cell 7
        obtain ⟨v1, v2, v3, v4⟩ := HUO.out
        by_cases p1 : 0 < n.maxW <;> by_cases p2 : 0 < n.maxH
        all_goals
          first | replace v3 := v3 p1 | clear v3
          first | replace v4 := v4 p2 | clear v4
          go_wp2_with fail
          refine (HLS.out _).mono ?_
          rintro e w11 ⟨rfl, rfl⟩
          go_wp2_with fail
          refine (HLT.out _).mono ?_
          rintro e w12 ⟨rfl, rfl⟩
          go_wp2
          go_ret
          exact ⟨rfl, S10.out.1.b⟩

theorem room_walk (n : Nd) (x y x2 y2 : Int) (r : Rc) (lk : Lk) (w : World) (T : Tbs w) (hx : I64 r.x) (hy : I64 r.y) :
    Calls Tryz.prog 7 #[(Value.agg #[.int .u8 (n.kind : Nat), .string n.name, .string n.cls, .string n.text, .int .i64 n.minW, .int .i64 n.minH, .int .i64 n.maxW, .int .i64 n.maxH, .int .i64 n.grow, .int .i64 n.order, .bool n.column, .int .i64 n.columns, .int .i64 n.span, .int .i64 n.gap, .int .i64 n.offX, .int .i64 n.offY, .bool n.hidden, .slice n.wA n.wN n.wC, .slice n.kA n.kN n.kC]), .agg #[.int .i64 x, .int .i64 y], .agg #[.int .i64 x2, .int .i64 y2], .agg #[.int .i64 r.x, .int .i64 r.y, .int .i64 r.w, .int .i64 r.h], (Value.agg #[.int .u8 (lk.has : Nat), .int .u8 lk.r, .int .u8 lk.g, .int .u8 lk.b, .int .u8 lk.a, .int .u8 lk.r2, .int .u8 lk.g2, .int .u8 lk.b2, .int .u8 lk.a2, .bool lk.bd, .int .i64 lk.pad])] w fun e w' => e = .returned (.bool true) ∧ Below w.heap.size w w' := by
  by_cases h : kindB n.kind = true ∧ okN n = true
  · exact room_ok n x y x2 y2 r lk w T hx hy h.1 h.2
  · exact room_bad n x y x2 y2 r lk w T h

end Go.Proofs.YtdbafcldpleogaaGreatDoor
