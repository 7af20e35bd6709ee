/-
  Contracts of package style: how strong a rule is, whether it may be.
-/
import Derived.Test.YtobmpjmpffnoiaaDoorSW2
import Derived.Test.YtobmpjmpffnoiaaDoorSP2
namespace Go.Proofs.YtobmpjmpffnoiaaDoor
open Go.RowKit Go.Shelf

theorem chain_if {p : Prop} [Decidable p] {A : Result Value} {b : Bool} {w : World} (h : A = .ok (.bool b) w) : (if p then A else .ok (.bool false) w) = .ok (.bool (decide p && b)) w := by
  by_cases hp : p <;> simp [hp, h]
theorem chain_last {p : Prop} [Decidable p] {w : World} : (if p then Result.ok (Value.bool true) w else .ok (.bool false) w) = .ok (.bool (decide p)) w := by
  by_cases hp : p <;> simp [hp]

theorem eql_look (x y : Lk) (w : World) : (binOp .eql 33 (Value.agg #[.int .u8 (x.has : Nat), .int .u8 x.r, .int .u8 x.g, .int .u8 x.b, .int .u8 x.a, .int .u8 x.r2, .int .u8 x.g2, .int .u8 x.b2, .int .u8 x.a2, .bool x.bd, .int .i64 x.pad]) (Value.agg #[.int .u8 (y.has : Nat), .int .u8 y.r, .int .u8 y.g, .int .u8 y.b, .int .u8 y.a, .int .u8 y.r2, .int .u8 y.g2, .int .u8 y.b2, .int .u8 y.a2, .bool y.bd, .int .i64 y.pad])).run Tryd.prog w = .ok (.bool (eqL x y)) w := by
  simp [go_sem]
  exact chain_if (chain_if (chain_if (chain_if (chain_if (chain_if (chain_if (chain_if (chain_if (chain_if chain_last)))))))))

theorem txt_list (t : ByteArray) : t.toList = t.data.toList := by first | exact ByteArray.toList_eq t | exact Lib.toList_data t | simp
theorem txt_ne {t : ByteArray} (h : t.size ≠ 0) : ¬ (t = ByteArray.empty) ∧ t.toList.isEmpty = false := by
  refine ⟨by rintro rfl; exact h rfl, ?_⟩
  rw [txt_list]
  cases hd : t.data.toList with
  | nil => exact absurd (congrArg List.length hd) (by rw [Array.length_toList]; exact h)
  | cons _ _ => rfl
theorem txt_nil {t : ByteArray} (h : t.size = 0) : t = ByteArray.empty := by
  obtain ⟨d⟩ := t
  have : d = #[] := Array.eq_empty_of_size_eq_zero h
  rw [this]; rfl

set_option maxHeartbeats 400000 in
theorem strength_any (r : Rl) (w : World) (h : r.state < 256) :
    Calls Tryd.prog 48 #[(Value.agg #[.int .u8 (r.kind : Nat), .string r.cls, .int .u8 (r.state : Nat), .int .u8 (r.look.has : Nat), .int .u8 r.look.r, .int .u8 r.look.g, .int .u8 r.look.b, .int .u8 r.look.a, .int .u8 r.look.r2, .int .u8 r.look.g2, .int .u8 r.look.b2, .int .u8 r.look.a2, .bool r.look.bd, .int .i64 r.look.pad])] w fun e w' => e = .returned (.int .i64 (strg r)) ∧ Below w.heap.size w w' := by
  have hO : Hid (∀ w, Calls Tryd.prog 55 #[.int .u8 (r.state : Nat)] w fun e w' => e = .returned (.int .i64 (ones r.state : Nat)) ∧ w' = w) := fun w => Any.bits_OnesCount8 Tryd.lays135 _ w (by omega) (by omega)
  have hc := ones_le h
  unfold strg
  generalize ones r.state = c at *
  have o1 : bits .or .i64 ((c : Int) * 4) 2 = (c : Int) * 4 + 2 := by
    have : ∀ c : Fin 9, bits .or .i64 ((c.val : Int) * 4) 2 = (c.val : Int) * 4 + 2 := by decide
    exact this ⟨c, by omega⟩
  have o2 : bits .or .i64 ((c : Int) * 4) 1 = (c : Int) * 4 + 1 := by
    have : ∀ c : Fin 9, bits .or .i64 ((c.val : Int) * 4) 1 = (c.val : Int) * 4 + 1 := by decide
    exact this ⟨c, by omega⟩
  have o3 : bits .or .i64 ((c : Int) * 4 + 2) 1 = (c : Int) * 4 + 3 := by
    have : ∀ c : Fin 9, bits .or .i64 ((c.val : Int) * 4 + 2) 1 = (c.val : Int) * 4 + 3 := by decide
    exact this ⟨c, by omega⟩
  obtain ⟨kind, cls, state, look⟩ := r
  simp only at *
  by_cases hz : cls.size = 0
  · obtain rfl := txt_nil hz
    by_cases hk : kind = 0
    · subst hk
      go_enter Tryd.func48, Tryd.ntmps48
      go_wp2_with (go_at_call_of 55 (Value.int .u8 (state : Nat)); refine (hO.out _).mono ?_; rintro e w1 ⟨rfl, rfl⟩)
      go_ret
      exact ⟨ret_int (by simp; omega), (Below.refl _ w).alloc (Nat.le_refl _) _⟩
    · have hk' : ((kind : Int) == 0) = false := beq_eq_false_iff_ne.2 (by omega)
      have hk2 : (kind == 0) = false := beq_eq_false_iff_ne.2 hk
      go_enter Tryd.func48, Tryd.ntmps48
      go_wp2_with (go_at_call_of 55 (Value.int .u8 (state : Nat)); refine (hO.out _).mono ?_; rintro e w1 ⟨rfl, rfl⟩)
      go_ret
      exact ⟨ret_int (by simp [hk2]; omega), (Below.refl _ w).alloc (Nat.le_refl _) _⟩
  · obtain ⟨n1, n2⟩ := txt_ne hz
    have n3 : (cls.size == 0) = false := beq_eq_false_iff_ne.2 hz
    by_cases hk : kind = 0
    · subst hk
      go_enter Tryd.func48, Tryd.ntmps48
      go_wp2_with (go_at_call_of 55 (Value.int .u8 (state : Nat)); refine (hO.out _).mono ?_; rintro e w1 ⟨rfl, rfl⟩)
      go_ret
      exact ⟨ret_int (by simp [n3]; omega), (Below.refl _ w).alloc (Nat.le_refl _) _⟩
    · have hk' : ((kind : Int) == 0) = false := beq_eq_false_iff_ne.2 (by omega)
      have hk2 : (kind == 0) = false := beq_eq_false_iff_ne.2 hk
      go_enter Tryd.func48, Tryd.ntmps48
      go_wp2_with (go_at_call_of 55 (Value.int .u8 (state : Nat)); refine (hO.out _).mono ?_; rintro e w1 ⟨rfl, rfl⟩)
      go_ret
      exact ⟨ret_int (by simp [n3, hk2]; omega), (Below.refl _ w).alloc (Nat.le_refl _) _⟩

theorem Blk.at14 {W : World} {b : Nat} {a0 a1 a2 a3 a4 a5 a6 a7 a8 a9 a10 a11 a12 a13 : Value} {t : TypeId} (h : Blk W b #[a0, a1, a2, a3, a4, a5, a6, a7, a8, a9, a10, a11, a12, a13] t) : W.cell? ⟨b, 0, none⟩ = some a0 ∧ W.cell? ⟨b, 1, none⟩ = some a1 ∧ W.cell? ⟨b, 2, none⟩ = some a2 ∧ W.cell? ⟨b, 3, none⟩ = some a3 ∧ W.cell? ⟨b, 4, none⟩ = some a4 ∧ W.cell? ⟨b, 5, none⟩ = some a5 ∧ W.cell? ⟨b, 6, none⟩ = some a6 ∧ W.cell? ⟨b, 7, none⟩ = some a7 ∧ W.cell? ⟨b, 8, none⟩ = some a8 ∧ W.cell? ⟨b, 9, none⟩ = some a9 ∧ W.cell? ⟨b, 10, none⟩ = some a10 ∧ W.cell? ⟨b, 11, none⟩ = some a11 ∧ W.cell? ⟨b, 12, none⟩ = some a12 ∧ W.cell? ⟨b, 13, none⟩ = some a13 :=
  ⟨h.cell 0, h.cell 1, h.cell 2, h.cell 3, h.cell 4, h.cell 5, h.cell 6, h.cell 7, h.cell 8, h.cell 9, h.cell 10, h.cell 11, h.cell 12, h.cell 13⟩

set_option maxHeartbeats 1000000 in
theorem lookMay_any (k : Lk) (w : World) (h : k.has < 256) :
    Calls Tryd.prog 54 #[(Value.agg #[.int .u8 (k.has : Nat), .int .u8 k.r, .int .u8 k.g, .int .u8 k.b, .int .u8 k.a, .int .u8 k.r2, .int .u8 k.g2, .int .u8 k.b2, .int .u8 k.a2, .bool k.bd, .int .i64 k.pad])] w fun e w' => e = .returned (.bool (okL k)) ∧ Below w.heap.size w w' := by
  have hT : Hid (∀ w, Calls Tryd.prog 52 #[(Value.agg #[.int .u8 (Lk.zero.has : Nat), .int .u8 Lk.zero.r, .int .u8 Lk.zero.g, .int .u8 Lk.zero.b, .int .u8 Lk.zero.a, .int .u8 Lk.zero.r2, .int .u8 Lk.zero.g2, .int .u8 Lk.zero.b2, .int .u8 Lk.zero.a2, .bool Lk.zero.bd, .int .i64 Lk.zero.pad]), (Value.agg #[.int .u8 (k.has : Nat), .int .u8 k.r, .int .u8 k.g, .int .u8 k.b, .int .u8 k.a, .int .u8 k.r2, .int .u8 k.g2, .int .u8 k.b2, .int .u8 k.a2, .bool k.bd, .int .i64 k.pad]), .int .u8 15] w fun e w' => e = .returned (Value.agg #[.int .u8 ((tk Lk.zero k 15).has : Nat), .int .u8 (tk Lk.zero k 15).r, .int .u8 (tk Lk.zero k 15).g, .int .u8 (tk Lk.zero k 15).b, .int .u8 (tk Lk.zero k 15).a, .int .u8 (tk Lk.zero k 15).r2, .int .u8 (tk Lk.zero k 15).g2, .int .u8 (tk Lk.zero k 15).b2, .int .u8 (tk Lk.zero k 15).a2, .bool (tk Lk.zero k 15).bd, .int .i64 (tk Lk.zero k 15).pad]) ∧ Below w.heap.size w w') := fun w => take_any _ _ 15 w (by decide) (by decide) h
  rw [← okL_eq h]
  have hq := eql_look k (tk Lk.zero k 15)
  simp only [Lk.zero] at hT
  generalize hy : tk Lk.zero k 15 = y at *
  simp only [Lk.zero] at hy
  rw [hy] at hT
  clear hy
  have main : ∀ (b0 b1 b2 : Bool), eqL k y = b0 → decide (0 ≤ k.pad) = b1 → decide (k.pad ≤ 16384) = b2 → Calls Tryd.prog 54 #[(Value.agg #[.int .u8 (k.has : Nat), .int .u8 k.r, .int .u8 k.g, .int .u8 k.b, .int .u8 k.a, .int .u8 k.r2, .int .u8 k.g2, .int .u8 k.b2, .int .u8 k.a2, .bool k.bd, .int .i64 k.pad])] w fun e w' => e = .returned (.bool (b0 && (b1 && b2))) ∧ Below w.heap.size w w' := by
    intro b0 b1 b2 e0 e1 e2
    rw [e0] at hq
    go_enter Tryd.func54, Tryd.ntmps54
    go_wp2_with fail
    have A := Blk.new w (#[.int .u8 (k.has : Nat), .int .u8 k.r, .int .u8 k.g, .int .u8 k.b, .int .u8 k.a, .int .u8 k.r2, .int .u8 k.g2, .int .u8 k.b2, .int .u8 k.a2, .bool k.bd, .int .i64 k.pad]) 33
    have L : Below w.heap.size w (w.alloc (.cells (#[.int .u8 (k.has : Nat), .int .u8 k.r, .int .u8 k.g, .int .u8 k.b, .int .u8 k.a, .int .u8 k.r2, .int .u8 k.g2, .int .u8 k.b2, .int .u8 k.a2, .bool k.bd, .int .i64 k.pad]) 33)) := (Below.refl _ w).alloc (Nat.le_refl _) _
    generalize w.alloc (.cells (#[.int .u8 (k.has : Nat), .int .u8 k.r, .int .u8 k.g, .int .u8 k.b, .int .u8 k.a, .int .u8 k.r2, .int .u8 k.g2, .int .u8 k.b2, .int .u8 k.a2, .bool k.bd, .int .i64 k.pad]) 33) = W at *
    have ne := gw_ne L
    have qq := fun t : Gw W => (A.below t.below).at11
    have a0 := fun t : Gw W => (qq t).1
    have a1 := fun t : Gw W => (qq t).2.1
    have a2 := fun t : Gw W => (qq t).2.2.1
    have a3 := fun t : Gw W => (qq t).2.2.2.1
    have a4 := fun t : Gw W => (qq t).2.2.2.2.1
    have a5 := fun t : Gw W => (qq t).2.2.2.2.2.1
    have a6 := fun t : Gw W => (qq t).2.2.2.2.2.2.1
    have a7 := fun t : Gw W => (qq t).2.2.2.2.2.2.2.1
    have a8 := fun t : Gw W => (qq t).2.2.2.2.2.2.2.2.1
    have a9 := fun t : Gw W => (qq t).2.2.2.2.2.2.2.2.2.1
    have a10 := fun t : Gw W => (qq t).2.2.2.2.2.2.2.2.2.2
    have HL : Hid (Below w.heap.size w W) := L
    clear A L qq
    cases b0 <;> cases b1 <;> cases b2 <;> first | (exfalso; simp at e1 e2; omega) | skip
    all_goals
      refine wp_region_gw (by kernel_rfl) (by kernel_rfl) ?_
      repeat (go_big_quiet_step (first
        | (go_at_call 52; exact gw_call (hT.out _))))
      refine wpQuiet_nil ?_
      rintro _ ⟨t, rfl⟩
      go_wp2
      go_ret
      exact ⟨rfl, HL.out.trans (t.below.mono HL.out.size)⟩
  exact main _ _ _ rfl rfl rfl

set_option maxHeartbeats 1000000 in
theorem classMay_any (c : ByteArray) (w : World) (hT : Lib.Utf8Tabs (Tryd.lays196_ren.g 3) (Tryd.lays196_ren.g 4) w) (hs : c.size ≤ 9223372036854775807) :
    Calls Tryd.prog 53 #[.string c] w fun e w' => e = .returned (.bool (okC c)) ∧ Below w.heap.size w w' := by
  have h1 : Hid (∀ w, Calls Tryd.prog 62 #[.string c, .string ⟨#[32]⟩] w fun e w' => e = .returned (.bool (decide (0 ≤ Lib.indexByte c.data.toList 32))) ∧ w' = w) := fun w => Any.strings_Contains_one Tryd.lays144 c 32 w
  have h2 : Hid (Calls Tryd.prog 44 #[.string c] w fun e w' => e = .returned (.bool (Lib.validD c.data.toList)) ∧ Below w.heap.size w w') := Any.utf8_ValidString Tryd.lays196 c w hs hT
  unfold okC
  generalize decide (0 ≤ Lib.indexByte c.data.toList 32) = b1 at *
  generalize Lib.validD c.data.toList = b2 at *
  by_cases hc : c.size ≤ 64
  · have hd : decide (c.size ≤ 64) = true := decide_eq_true hc
    rw [hd]
    cases b1
    · go_enter Tryd.func53, Tryd.ntmps53
      go_wp2_with fail
      refine (h1.out _).mono ?_
      rintro e w1 ⟨rfl, rfl⟩
      go_wp2_with fail
      refine h2.out.mono ?_
      rintro e w1 ⟨rfl, hb⟩
      go_wp2
      go_ret
      exact ⟨rfl, hb⟩
    · go_enter Tryd.func53, Tryd.ntmps53
      go_wp2_with fail
      refine (h1.out _).mono ?_
      rintro e w1 ⟨rfl, rfl⟩
      go_wp2
      go_ret
      exact ⟨rfl, Below.refl _ _⟩
  · have hd : decide (c.size ≤ 64) = false := decide_eq_false hc
    rw [hd]
    go_enter Tryd.func53, Tryd.ntmps53
    go_wp2
    go_ret
    exact ⟨rfl, Below.refl _ _⟩

def Tab (w : World) : Prop := Lib.Utf8Tabs (Tryd.lays196_ren.g 3) (Tryd.lays196_ren.g 4) w
theorem Tab.below {w w' : World} (h : Tab w) (hb : Below w.heap.size w w') : Tab w' := Utf8Tabs_below h hb

set_option maxHeartbeats 1000000 in
theorem ruleMay_any (r : Rl) (w : World) (hT : Tab w) (hs : r.cls.size ≤ 9223372036854775807) (h : r.wf) :
    Calls Tryd.prog 37 #[(Value.agg #[.int .u8 (r.kind : Nat), .string r.cls, .int .u8 (r.state : Nat), .int .u8 (r.look.has : Nat), .int .u8 r.look.r, .int .u8 r.look.g, .int .u8 r.look.b, .int .u8 r.look.a, .int .u8 r.look.r2, .int .u8 r.look.g2, .int .u8 r.look.b2, .int .u8 r.look.a2, .bool r.look.bd, .int .i64 r.look.pad])] w fun e w' => e = .returned (.bool (okR r)) ∧ Below w.heap.size w w' := by
  obtain ⟨h1, h2, h3⟩ := h
  have hC : Hid (∀ w, Tab w → Calls Tryd.prog 53 #[.string r.cls] w fun e w' => e = .returned (.bool (okC r.cls)) ∧ Below w.heap.size w w') := fun w hT => classMay_any _ w hT hs
  have hL : Hid (∀ w, Calls Tryd.prog 54 #[(Value.agg #[.int .u8 (r.look.has : Nat), .int .u8 r.look.r, .int .u8 r.look.g, .int .u8 r.look.b, .int .u8 r.look.a, .int .u8 r.look.r2, .int .u8 r.look.g2, .int .u8 r.look.b2, .int .u8 r.look.a2, .bool r.look.bd, .int .i64 r.look.pad])] w fun e w' => e = .returned (.bool (okL r.look)) ∧ Below w.heap.size w w') := fun w => lookMay_any _ w h3
  unfold okR
  generalize okC r.cls = b1 at *
  generalize okL r.look = b2 at *
  have A := Blk.new w (#[.int .u8 (r.kind : Nat), .string r.cls, .int .u8 (r.state : Nat), .int .u8 (r.look.has : Nat), .int .u8 r.look.r, .int .u8 r.look.g, .int .u8 r.look.b, .int .u8 r.look.a, .int .u8 r.look.r2, .int .u8 r.look.g2, .int .u8 r.look.b2, .int .u8 r.look.a2, .bool r.look.bd, .int .i64 r.look.pad]) 35
  have L : Below w.heap.size w (w.alloc (.cells (#[.int .u8 (r.kind : Nat), .string r.cls, .int .u8 (r.state : Nat), .int .u8 (r.look.has : Nat), .int .u8 r.look.r, .int .u8 r.look.g, .int .u8 r.look.b, .int .u8 r.look.a, .int .u8 r.look.r2, .int .u8 r.look.g2, .int .u8 r.look.b2, .int .u8 r.look.a2, .bool r.look.bd, .int .i64 r.look.pad]) 35)) := (Below.refl _ w).alloc (Nat.le_refl _) _
  have HA : Hid (Blk (w.alloc (.cells (#[.int .u8 (r.kind : Nat), .string r.cls, .int .u8 (r.state : Nat), .int .u8 (r.look.has : Nat), .int .u8 r.look.r, .int .u8 r.look.g, .int .u8 r.look.b, .int .u8 r.look.a, .int .u8 r.look.r2, .int .u8 r.look.g2, .int .u8 r.look.b2, .int .u8 r.look.a2, .bool r.look.bd, .int .i64 r.look.pad]) 35)) w.heap.size (#[.int .u8 (r.kind : Nat), .string r.cls, .int .u8 (r.state : Nat), .int .u8 (r.look.has : Nat), .int .u8 r.look.r, .int .u8 r.look.g, .int .u8 r.look.b, .int .u8 r.look.a, .int .u8 r.look.r2, .int .u8 r.look.g2, .int .u8 r.look.b2, .int .u8 r.look.a2, .bool r.look.bd, .int .i64 r.look.pad]) 35 ∧ Below w.heap.size w (w.alloc (.cells (#[.int .u8 (r.kind : Nat), .string r.cls, .int .u8 (r.state : Nat), .int .u8 (r.look.has : Nat), .int .u8 r.look.r, .int .u8 r.look.g, .int .u8 r.look.b, .int .u8 r.look.a, .int .u8 r.look.r2, .int .u8 r.look.g2, .int .u8 r.look.b2, .int .u8 r.look.a2, .bool r.look.bd, .int .i64 r.look.pad]) 35)) ∧ Tab (w.alloc (.cells (#[.int .u8 (r.kind : Nat), .string r.cls, .int .u8 (r.state : Nat), .int .u8 (r.look.has : Nat), .int .u8 r.look.r, .int .u8 r.look.g, .int .u8 r.look.b, .int .u8 r.look.a, .int .u8 r.look.r2, .int .u8 r.look.g2, .int .u8 r.look.b2, .int .u8 r.look.a2, .bool r.look.bd, .int .i64 r.look.pad]) 35))) := ⟨A, L, hT.below L⟩
  clear A L hT
  by_cases hk : r.kind ≤ 10
  · rw [decide_eq_true hk]
    cases b1
    · go_enter Tryd.func37, Tryd.ntmps37
      go_wp2_with fail
      refine (hC.out _ HA.out.2.2).mono ?_
      rintro e w1 ⟨rfl, hb⟩
      go_wp2
      go_ret
      exact ⟨rfl, HA.out.2.1.trans (hb.mono HA.out.2.1.size)⟩
    · by_cases hst : r.state ≤ 15
      · rw [decide_eq_true hst]
        go_enter Tryd.func37, Tryd.ntmps37
        go_wp2_with fail
        refine (hC.out _ HA.out.2.2).mono ?_
        rintro e w1 ⟨rfl, hb⟩
        have H1 : Hid (Below w.heap.size w w1) := HA.out.2.1.trans (hb.mono HA.out.2.1.size)
        obtain ⟨a0, a1, a2, a3, a4, a5, a6, a7, a8, a9, a10, a11, a12, a13⟩ := (HA.out.1.below hb).at14
        clear hb
        go_wp2_with fail
        refine (hL.out _).mono ?_
        rintro e w2 ⟨rfl, hb⟩
        have H2 : Hid (Below w.heap.size w w2) := H1.out.trans (hb.mono H1.out.size)
        clear hb a0 a1 a2 a3 a4 a5 a6 a7 a8 a9 a10 a11 a12 a13
        go_wp2
        go_ret
        exact ⟨rfl, H2.out⟩
      · rw [decide_eq_false hst]
        go_enter Tryd.func37, Tryd.ntmps37
        go_wp2_with fail
        refine (hC.out _ HA.out.2.2).mono ?_
        rintro e w1 ⟨rfl, hb⟩
        have H1 : Hid (Below w.heap.size w w1) := HA.out.2.1.trans (hb.mono HA.out.2.1.size)
        obtain ⟨a0, a1, a2, a3, a4, a5, a6, a7, a8, a9, a10, a11, a12, a13⟩ := (HA.out.1.below hb).at14
        clear hb
        go_wp2
        go_ret
        exact ⟨rfl, H1.out⟩
  · rw [decide_eq_false hk]
    go_enter Tryd.func37, Tryd.ntmps37
    go_wp2
    go_ret
    exact ⟨rfl, HA.out.2.1⟩

end Go.Proofs.YtobmpjmpffnoiaaDoor
