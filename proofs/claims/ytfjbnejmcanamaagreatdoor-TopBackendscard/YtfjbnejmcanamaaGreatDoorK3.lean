/-
  Texts of this claim, one behind the other: what each is about stands ahead of it.
-/
import Derived.Test.YtfjbnejmcanamaaGreatDoorK1
import Derived.Test.YtfjbnejmcanamaaGreatDoorK2
import Derived.Laws.AppendOwnNone
/-
  Strokes in memory: lists of them read and owned; strokes compared.
-/
namespace Go.Proofs.YtfjbnejmcanamaaGreatDoor
open Go.RowKit

/-- A stroke, cell by cell. -/
def sCel (s : St) : List Value := [.int .u8 s.k, .int .i64 s.r.x, .int .i64 s.r.y, .int .i64 s.r.w, .int .i64 s.r.h, .int .u8 s.c.r, .int .u8 s.c.g, .int .u8 s.c.b, .int .u8 s.c.a, .int .u8 s.b.r, .int .u8 s.b.g, .int .u8 s.b.b, .int .u8 s.b.a, .string s.t, .int .i64 s.n]
theorem sCel_len (s : St) : (sCel s).length = 15 := rfl
def flatZ : List St → List Value
  | [] => []
  | s :: l => sCel s ++ flatZ l
theorem flatZ_app (l m : List St) : flatZ (l ++ m) = flatZ l ++ flatZ m := by
  induction l with
  | nil => rfl
  | cons s l ih => show sCel s ++ flatZ (l ++ m) = (sCel s ++ flatZ l) ++ flatZ m; rw [ih, List.append_assoc]
theorem flatZ_one (s : St) : flatZ [s] = sCel s := List.append_nil _
theorem flatZ_len (l : List St) : (flatZ l).length = l.length * 15 := by
  induction l with
  | nil => rfl
  | cons s l ih => show (sCel s ++ flatZ l).length = _; rw [List.length_append, ih, sCel_len, List.length_cons]; omega
theorem flatZ_at (l : List St) (k : Nat) (h : k < l.length) (j : Nat) (hj : j < 15) : (flatZ l)[k * 15 + j]? = (sCel l[k])[j]? := by
  induction l generalizing k with
  | nil => simp at h
  | cons s l ih =>
    cases k with
    | zero =>
      show (sCel s ++ flatZ l)[0 * 15 + j]? = (sCel s)[j]?
      rw [Nat.zero_mul, Nat.zero_add, List.getElem?_append_left (by rw [sCel_len]; exact hj)]
    | succ k =>
      have h' : k < l.length := by simpa using h
      show (sCel s ++ flatZ l)[(k + 1) * 15 + j]? = (sCel l[k])[j]?
      rw [List.getElem?_append_right (by rw [sCel_len]; omega), sCel_len, ← ih k h']
      congr 1
      omega
theorem oneZ (s : St) : ∀ u ∈ sCel s, u.oneCell' = true := by
  intro u hu
  simp only [sCel, List.mem_cons, List.not_mem_nil, or_false] at hu
  rcases hu with rfl | rfl | rfl | rfl | rfl | rfl | rfl | rfl | rfl | rfl | rfl | rfl | rfl | rfl | rfl <;> rfl
theorem onesZ : ∀ (l : List St), ∀ u ∈ flatZ l, u.oneCell' = true
  | [], u, hu => by cases hu
  | s :: l, u, hu => by
    rcases List.mem_append.1 hu with h | h
    · exact oneZ s u h
    · exact onesZ l u h

/-- A stroke in memory, from a place of a block on. -/
def StAt (w : World) (g p : Nat) (s : St) : Prop := w.cell? ⟨g, p, none⟩ = some (.int .u8 s.k) ∧ w.cell? ⟨g, p + 1, none⟩ = some (.int .i64 s.r.x) ∧ w.cell? ⟨g, p + 2, none⟩ = some (.int .i64 s.r.y) ∧ w.cell? ⟨g, p + 3, none⟩ = some (.int .i64 s.r.w) ∧ w.cell? ⟨g, p + 4, none⟩ = some (.int .i64 s.r.h) ∧ w.cell? ⟨g, p + 5, none⟩ = some (.int .u8 s.c.r) ∧ w.cell? ⟨g, p + 6, none⟩ = some (.int .u8 s.c.g) ∧ w.cell? ⟨g, p + 7, none⟩ = some (.int .u8 s.c.b) ∧ w.cell? ⟨g, p + 8, none⟩ = some (.int .u8 s.c.a) ∧ w.cell? ⟨g, p + 9, none⟩ = some (.int .u8 s.b.r) ∧ w.cell? ⟨g, p + 10, none⟩ = some (.int .u8 s.b.g) ∧ w.cell? ⟨g, p + 11, none⟩ = some (.int .u8 s.b.b) ∧ w.cell? ⟨g, p + 12, none⟩ = some (.int .u8 s.b.a) ∧ w.cell? ⟨g, p + 13, none⟩ = some (.string s.t) ∧ w.cell? ⟨g, p + 14, none⟩ = some (.int .i64 s.n)
theorem stat_iff {w : World} {g p : Nat} {s : St} : StAt w g p s ↔ ∀ j, j < 15 → w.cell? ⟨g, p + j, none⟩ = (sCel s)[j]? := by
  constructor
  · rintro ⟨h0, h1, h2, h3, h4, h5, h6, h7, h8, h9, h10, h11, h12, h13, h14⟩ j hj
    match j, hj with
    | 0, _ => exact h0
    | 1, _ => exact h1
    | 2, _ => exact h2
    | 3, _ => exact h3
    | 4, _ => exact h4
    | 5, _ => exact h5
    | 6, _ => exact h6
    | 7, _ => exact h7
    | 8, _ => exact h8
    | 9, _ => exact h9
    | 10, _ => exact h10
    | 11, _ => exact h11
    | 12, _ => exact h12
    | 13, _ => exact h13
    | 14, _ => exact h14
  · intro h
    exact ⟨h 0 (by decide), h 1 (by decide), h 2 (by decide), h 3 (by decide), h 4 (by decide), h 5 (by decide), h 6 (by decide), h 7 (by decide), h 8 (by decide), h 9 (by decide), h 10 (by decide), h 11 (by decide), h 12 (by decide), h 13 (by decide), h 14 (by decide)⟩
theorem StAt.kept {w w' : World} {g p : Nat} {s : St} (h : StAt w g p s) (k : ∀ o, w'.cell? ⟨g, o, none⟩ = w.cell? ⟨g, o, none⟩) : StAt w' g p s := by
  rw [stat_iff] at h ⊢
  intro j hj
  rw [k, h j hj]
/-- A slice that holds strokes. -/
def LsS (w : World) (v : Value) (l : List St) : Prop := ∃ oa cap, v = .slice oa l.length cap ∧ l.length ≤ cap ∧ (0 < l.length → ∃ g o, oa = some ⟨g, o, none⟩ ∧ g < w.heap.size ∧ ∀ i (h : i < l.length), StAt w g (o + i * 15) l[i])
theorem LsS.below {w w' : World} {v : Value} {l : List St} (h : LsS w v l) (hb : Below w.heap.size w w') : LsS w' v l := by
  obtain ⟨oa, cap, e, hc, hg⟩ := h
  refine ⟨oa, cap, e, hc, fun hp => ?_⟩
  obtain ⟨g, o, e1, g1, g2⟩ := hg hp
  exact ⟨g, o, e1, Nat.lt_of_lt_of_le g1 hb.size, fun i hi => (g2 i hi).kept fun j => hb.cell (p := ⟨g, j, none⟩) g1⟩
theorem lss_nil (w : World) : LsS w (.slice none 0 0) [] := ⟨none, 0, rfl, Nat.le_refl _, fun h => absurd h (Nat.lt_irrefl 0)⟩
/-- Strokes that a call made. -/
def OwS (lo : Nat) (w : World) (v : Value) (l : List St) : Prop := w.ownsRow lo 53 15 v l.length (flatZ l)
theorem OwS.nil (lo : Nat) (w : World) : OwS lo w (.slice none 0 0) [] := World.ownsRow_nil _ _ _ _
theorem OwS.lss {lo : Nat} {w : World} {v : Value} {l : List St} (h : OwS lo w v l) : LsS w v l := by
  obtain ⟨hl, ⟨rfl, h0⟩ | ⟨g, cap, cur, rfl, hb, hc, h1, h2, h3, h4⟩⟩ := id h
  · obtain rfl : l = [] := List.length_eq_zero_iff.1 h0
    exact lss_nil w
  · refine ⟨_, cap, rfl, h1, fun _ => ⟨g, 0, rfl, (Array.getElem?_eq_some_iff.1 hc).1, fun i hi => ?_⟩⟩
    rw [stat_iff]
    intro j hj
    rw [Nat.zero_add, own_cell h (i * 15 + j) (by omega), flatZ_at l i hi j hj]

theorem info_strokeZ : (Tryz.prog.info? 53).map (fun i => (i.zero, i.size, i.bytes)) = some (some (.agg #[.int .u8 0, .int .i64 0, .int .i64 0, .int .i64 0, .int .i64 0, .int .u8 0, .int .u8 0, .int .u8 0, .int .u8 0, .int .u8 0, .int .u8 0, .int .u8 0, .int .u8 0, .string ByteArray.empty, .int .i64 0]), 15, 72) := by kernel_rfl

/-- Two strokes, compared. -/
def eqS (x y : St) : Bool := (x.k == y.k) && ((x.r.x == y.r.x) && ((x.r.y == y.r.y) && ((x.r.w == y.r.w) && ((x.r.h == y.r.h) && ((x.c.r == y.c.r) && ((x.c.g == y.c.g) && ((x.c.b == y.c.b) && ((x.c.a == y.c.a) && ((x.b.r == y.b.r) && ((x.b.g == y.b.g) && ((x.b.b == y.b.b) && ((x.b.a == y.b.a) && ((decide (x.t.toList = y.t.toList)) && (x.n == y.n))))))))))))))
theorem ztx_list (t : ByteArray) : t.toList = t.data.toList := by first | exact ByteArray.toList_eq t | exact Lib.toList_data t | simp
theorem ztx_inj {t u : ByteArray} : t.toList = u.toList ↔ t = u := by
  rw [ztx_list, ztx_list]
  constructor
  · intro h
    obtain ⟨d⟩ := t
    obtain ⟨e⟩ := u
    have h : d.toList = e.toList := h
    rw [Array.toList_inj.1 h]
  · intro h
    rw [h]
theorem eqS_iff (x y : St) : eqS x y = true ↔ x = y := by
  obtain ⟨xk, ⟨x1, x2, x3, x4⟩, ⟨x5, x6, x7, x8⟩, ⟨x9, x10, x11, x12⟩, xt, xn⟩ := x
  obtain ⟨yk, ⟨y1, y2, y3, y4⟩, ⟨y5, y6, y7, y8⟩, ⟨y9, y10, y11, y12⟩, yt, yn⟩ := y
  simp [eqS, and_assoc, ztx_inj]
theorem eqS_self (x : St) : eqS x x = true := (eqS_iff x x).2 rfl
theorem chainZ {p : Prop} [Decidable p] {A : Result Value} {b : Bool} {w : World} (h : A = .ok (.bool b) w) : (if p then A else .ok (.bool false) w) = .ok (.bool (decide p && b)) w := by
  by_cases hp : p <;> simp [hp, h]
theorem chainY {p : Prop} [Decidable p] {w : World} : (if p then Result.ok (Value.bool true) w else .ok (.bool false) w) = .ok (.bool (decide p)) w := by
  by_cases hp : p <;> simp [hp]
theorem chainN {p : Prop} [Decidable p] {A : Result Value} {b : Bool} {w : World} (h : A = .ok (.bool (!b)) w) : (if p then A else .ok (.bool true) w) = .ok (.bool (!(decide p && b))) w := by
  by_cases hp : p <;> simp [hp, h]
theorem chainM {p : Prop} [Decidable p] {w : World} : (if p then Result.ok (Value.bool false) w else .ok (.bool true) w) = .ok (.bool (!decide p)) w := by
  by_cases hp : p <;> simp [hp]

set_option maxHeartbeats 1000000 in
theorem eql_stroke (x y : St) (w : World) : (binOp .eql 53 (Value.agg #[.int .u8 x.k, .int .i64 x.r.x, .int .i64 x.r.y, .int .i64 x.r.w, .int .i64 x.r.h, .int .u8 x.c.r, .int .u8 x.c.g, .int .u8 x.c.b, .int .u8 x.c.a, .int .u8 x.b.r, .int .u8 x.b.g, .int .u8 x.b.b, .int .u8 x.b.a, .string x.t, .int .i64 x.n]) (Value.agg #[.int .u8 y.k, .int .i64 y.r.x, .int .i64 y.r.y, .int .i64 y.r.w, .int .i64 y.r.h, .int .u8 y.c.r, .int .u8 y.c.g, .int .u8 y.c.b, .int .u8 y.c.a, .int .u8 y.b.r, .int .u8 y.b.g, .int .u8 y.b.b, .int .u8 y.b.a, .string y.t, .int .i64 y.n])).run Tryz.prog w = .ok (.bool (eqS x y)) w := by
  simp [go_sem]
  exact chainZ (chainZ (chainZ (chainZ (chainZ (chainZ (chainZ (chainZ (chainZ (chainZ (chainZ (chainZ (chainZ (chainZ chainY)))))))))))))

set_option maxHeartbeats 1000000 in
theorem neq_stroke (x y : St) (w : World) : (binOp .neq 53 (Value.agg #[.int .u8 x.k, .int .i64 x.r.x, .int .i64 x.r.y, .int .i64 x.r.w, .int .i64 x.r.h, .int .u8 x.c.r, .int .u8 x.c.g, .int .u8 x.c.b, .int .u8 x.c.a, .int .u8 x.b.r, .int .u8 x.b.g, .int .u8 x.b.b, .int .u8 x.b.a, .string x.t, .int .i64 x.n]) (Value.agg #[.int .u8 y.k, .int .i64 y.r.x, .int .i64 y.r.y, .int .i64 y.r.w, .int .i64 y.r.h, .int .u8 y.c.r, .int .u8 y.c.g, .int .u8 y.c.b, .int .u8 y.c.a, .int .u8 y.b.r, .int .u8 y.b.g, .int .u8 y.b.b, .int .u8 y.b.a, .string y.t, .int .i64 y.n])).run Tryz.prog w = .ok (.bool (!eqS x y)) w := by
  simp [go_sem]
  exact chainN (chainN (chainN (chainN (chainN (chainN (chainN (chainN (chainN (chainN (chainN (chainN (chainN (chainN chainM)))))))))))))

theorem eql_co (a b : Co) (w : World) : (binOp .eql 26 (.agg #[.int .u8 a.r, .int .u8 a.g, .int .u8 a.b, .int .u8 a.a]) (.agg #[.int .u8 b.r, .int .u8 b.g, .int .u8 b.b, .int .u8 b.a])).run Tryz.prog w = .ok (.bool ((a.r == b.r) && ((a.g == b.g) && ((a.b == b.b) && (a.a == b.a))))) w := by
  simp [go_sem]
  exact chainZ (chainZ (chainZ chainY))
theorem neq_co0 (a : Co) (w : World) : (binOp .neq 26 (.agg #[.int .u8 a.r, .int .u8 a.g, .int .u8 a.b, .int .u8 a.a]) (.agg #[.int .u8 0, .int .u8 0, .int .u8 0, .int .u8 0])).run Tryz.prog w = .ok (.bool (!coE a)) w := by
  simp [go_sem]
  exact chainN (chainN (chainN chainM))
theorem neq_rc0 (a : Rc) (w : World) : (binOp .neq 51 (.agg #[.int .i64 a.x, .int .i64 a.y, .int .i64 a.w, .int .i64 a.h]) (.agg #[.int .i64 0, .int .i64 0, .int .i64 0, .int .i64 0])).run Tryz.prog w = .ok (.bool (!zZr a)) w := neq_rect a.x a.y a.w a.h 0 0 0 0 w

end Go.Proofs.YtfjbnejmcanamaaGreatDoor

/-
  Contracts of package region: the runs of a row.
-/
namespace Go.Proofs.YtfjbnejmcanamaaGreatDoor
open Go.RowKit
attribute [local go_sem] ite_max ite_min

theorem info_parts {t : TypeId} {z : Value} {s b : Nat} (h : (Tryz.prog.info? t).map (fun i => (i.zero, i.size, i.bytes)) = some (some z, s, b)) : ∃ i, Tryz.prog.info? t = some i ∧ i.zero = some z ∧ i.size = s ∧ i.bytes = b := by
  cases hi : Tryz.prog.info? t with
  | none => rw [hi] at h; cases h
  | some i =>
    rw [hi] at h
    simp only [Option.map_some, Option.some.injEq, Prod.mk.injEq] at h
    exact ⟨i, rfl, h.1, h.2.1, h.2.2⟩
theorem row_lt {base : Nat} {e : TypeId} {size : Nat} {v : Value} {n : Nat} {xs : List Value} {X : World} (h : X.ownsRow base e size v n xs) (g : Nat) (hg : v.ownBlock = some g) : base ≤ g ∧ g < X.heap.size := by
  obtain ⟨hl, h⟩ := h
  rcases h with ⟨rfl, _⟩ | ⟨g', cap, cur, rfl, hb, hc, _⟩
  · cases hg
  · simp [Value.ownBlock] at hg
    subst hg
    exact ⟨hb, (Array.getElem?_eq_some_iff.1 hc).1⟩
theorem row_below {base : Nat} {e : TypeId} {size : Nat} {v : Value} {n : Nat} {xs : List Value} {X Y : World} (h : X.ownsRow base e size v n xs) (hb : Below X.heap.size X Y) : Y.ownsRow base e size v n xs := by
  obtain ⟨hl, h⟩ := h
  refine ⟨hl, ?_⟩
  rcases h with h | ⟨g, cap, cur, rfl, h0, h1, h2⟩
  · exact .inl h
  · exact .inr ⟨g, cap, cur, rfl, h0, (hb.block g (Array.getElem?_eq_some_iff.1 h1).1).trans h1, h2⟩
theorem row_weaken {base base' : Nat} {e : TypeId} {size : Nat} {v : Value} {n : Nat} {xs : List Value} {X : World} (h : X.ownsRow base e size v n xs) (hb : base' ≤ base) : X.ownsRow base' e size v n xs := by
  obtain ⟨hl, h⟩ := h
  refine ⟨hl, ?_⟩
  rcases h with h | ⟨g, cap, cur, rfl, h0, h1⟩
  · exact .inl h
  · exact .inr ⟨g, cap, cur, rfl, Nat.le_trans hb h0, h1⟩
/-- The value of a row of one's own. -/
theorem row_val {base : Nat} {e : TypeId} {size : Nat} {v : Value} {n : Nat} {xs : List Value} {X : World} (h : X.ownsRow base e size v n xs) : ∃ oa cap, v = .slice oa n cap ∧ n ≤ cap ∧ (0 < n → ∃ g, oa = some ⟨g, 0, none⟩ ∧ base ≤ g ∧ g < X.heap.size) := by
  obtain ⟨hl, h⟩ := h
  rcases h with ⟨rfl, rfl⟩ | ⟨g, cap, cur, rfl, h0, h1, h2, _⟩
  · exact ⟨none, 0, rfl, Nat.le_refl _, fun h => absurd h (Nat.lt_irrefl 0)⟩
  · exact ⟨_, cap, rfl, h2, fun _ => ⟨g, rfl, h0, (Array.getElem?_eq_some_iff.1 h1).1⟩⟩
theorem cell_two (w : World) (x y : Value) (t : TypeId) : ∀ (j : Nat) (u : Value), [x, y][j]? = some u → (w.alloc (.cells #[x, y] t)).cell? ((⟨w.heap.size, 0, none⟩ : Addr).add j) = some u := by
  intro j u hj
  match j, hj with
  | 0, hj => simp at hj; subst hj; simp [Addr.add]
  | 1, hj => simp at hj; subst hj; simp [Addr.add]
theorem one2 (a b : Int) : ∀ u ∈ [Value.int .i64 a, .int .i64 b], u.oneCell' = true := by
  intro u hu
  simp at hu
  rcases hu with rfl | rfl <;> rfl
theorem app_below {B : Nat} {w w1 w4 : World} {e : TypeId} {size n : Nat} {u : Value} {xs : List Value} (hB : Below w.heap.size w w1) (ar : w1.ownsRow B e size u n xs) (hBw : w.heap.size ≤ B) (hgrow : w1.grownBy w4 u.ownBlock) : Below w.heap.size w w4 :=
  hB.grown hgrow hB.size (fun g hg => Nat.le_trans hBw (row_lt ar g hg).1)

theorem below_drewN {B : Nat} {a w : World} {n : Nat} (h : Below B a w) : Below B a (w.drewN n) := ⟨h.os, h.tape, h.output, h.size, h.block⟩

end Go.Proofs.YtfjbnejmcanamaaGreatDoor

/-
  No room behind no list; an append of nothing.
-/
namespace Go.Proofs.YtfjbnejmcanamaaGreatDoor
open Go.RowKit

/-- No room behind no list. -/
def NoNil (v : Value) : Prop := ∀ c, v = .slice none 0 c → c = 0
theorem own_nil {w : World} {base : Nat} {e : TypeId} {size n : Nat} {v : Value} {xs : List Value} (h : w.ownsRow base e size v n xs) : NoNil v := by
  intro c hc
  obtain ⟨_, ⟨h, _⟩ | ⟨g, cap, cur, h, _⟩⟩ := h
  · rw [h] at hc; injection hc with _ _ hc; exact hc.symm
  · rw [h] at hc; injection hc with hc _ _; cases hc

theorem app_none {P : Program} {w : World} {ops : Array Oper} {rest : List Oper} {o : Oper} {a : Act} {Q : Exit → Act → World → Prop} (hgd : o.guard = none) (s x : Operand) (t : TypeId)
    (ho : o.op = .call { callee := .builtin .append, args := #[s, x], argTypes := #[t, t] })
    (base : Nat) (e : TypeId) (i : TypeInfo) (size : Nat) (ht : P.underlying t = some (.slice e)) (hi : P.info? e = some i)
    (v : Value) (n : Nat) (xs : List Value) (hs : a.eval s = v) (hown : w.ownsRow base e size v n xs) (hx : a.eval x = .slice none 0 0)
    (h : ∀ v' w', v' = v → w' = w → wpList P ops Q rest (a.put o.dst v') w') : wpList P ops Q (o :: rest) a w :=
  wpList_append_own_none hgd s x t ho base e i size ht hi v n xs hs hown hx (h v w rfl rfl)

end Go.Proofs.YtfjbnejmcanamaaGreatDoor

/-
  Drawing lists place by place: what shows at a place is the same without what nobody sees; cut to a region it shows there alone.
-/
namespace Go.Proofs.YtfjbnejmcanamaaGreatDoor

theorem has_iff (r : Rc) (px py : Int) : zHa r px py = true ↔ (-16384 ≤ r.x ∧ r.x + r.w ≤ 16384 ∧ -16384 ≤ r.y ∧ r.y + r.h ≤ 16384) ∧ r.x ≤ px ∧ px < r.x + r.w ∧ r.y ≤ py ∧ py < r.y + r.h := by
  have h := keepE_iff r
  unfold keepE at h
  unfold zHa hasB
  rw [Bool.and_eq_true, h]
  simp only [Bool.and_eq_true, decide_eq_true_eq]
  constructor
  · rintro ⟨⟨_, _, _, _, _, _⟩, _, _, _, _⟩
    omega
  · rintro ⟨⟨_, _, _, _⟩, _, _, _, _⟩
    omega
theorem has_keep {r : Rc} {px py : Int} (h : zHa r px py = true) : zEm r = false := by
  unfold zHa hasB at h
  unfold zEm
  cases e : emptyB r.x r.y r.w r.h
  · rfl
  · rw [e] at h; simp at h
theorem has_em {r : Rc} (h : zEm r = true) (px py : Int) : zHa r px py = false := by
  cases e : zHa r px py
  · rfl
  · rw [has_keep e] at h; cases h
theorem has_zr (px py : Int) : zHa zr px py = false := has_em rfl px py
theorem em_iff (r : Rc) : zEm r = false ↔ -16384 ≤ r.x ∧ 0 < r.w ∧ r.x + r.w ≤ 16384 ∧ -16384 ≤ r.y ∧ 0 < r.h ∧ r.y + r.h ≤ 16384 := by
  rw [← keepE_iff]
  unfold zEm keepE
  simp
theorem has_meet (a b : Rc) (px py : Int) : zHa (zMe a b) px py = (zHa a px py && zHa b px py) := by
  cases ea : zEm a
  · cases eb : zEm b
    · have ha := (em_iff a).1 ea
      have hb := (em_iff b).1 eb
      have e : zMe a b = btw (max a.x b.x) (max a.y b.y) (min (a.x + a.w) (b.x + b.w)) (min (a.y + a.h) (b.y + b.h)) := by
        unfold zEm at ea eb
        unfold zMe meetR
        rw [ea, eb]
        rfl
      rw [e]
      by_cases h : min (a.x + a.w) (b.x + b.w) ≤ max a.x b.x ∨ min (a.y + a.h) (b.y + b.h) ≤ max a.y b.y
      · rw [btw_no h, has_zr]
        symm
        rw [Bool.eq_false_iff]
        intro k
        rw [Bool.and_eq_true, has_iff, has_iff] at k
        omega
      · rw [btw_yes (by omega) (by omega), Bool.eq_iff_iff, Bool.and_eq_true, has_iff, has_iff, has_iff]
        simp only
        omega
    · rw [has_em eb, Bool.and_false]
      have e : zMe a b = zr := by
        unfold zEm at ea eb
        unfold zMe meetR
        rw [ea, eb]
        rfl
      rw [e, has_zr]
  · rw [has_em ea, Bool.false_and]
    have e : zMe a b = zr := by
      unfold zEm at ea
      unfold zMe meetR
      rw [ea]
      rfl
    rw [e, has_zr]
theorem rc_of_eqB {r q : Rc} (h : eqB r q.x q.y q.w q.h = true) : r = q := by
  cases r; cases q
  simp [eqB] at h
  simp [h]
theorem in_has {a b : Rc} (h : zIn a b = true) {px py : Int} (k : zHa a px py = true) : zHa b px py = true := by
  unfold zIn inB at h
  have e := has_keep k
  unfold zEm at e
  rw [e, Bool.false_or] at h
  have e2 : zMe a b = a := rc_of_eqB h
  have e3 := has_meet a b px py
  rw [e2, k] at e3
  simpa using e3.symm
theorem ov_has {a b : Rc} {px py : Int} (h1 : zHa a px py = true) (h2 : zHa b px py = true) : zOv a b = true := by
  unfold zOv overB
  cases e : eqB (meetR a.x a.y a.w a.h b.x b.y b.w b.h) 0 0 0 0
  · rfl
  · have e2 : zMe a b = zr := rc_of_eqB (q := zr) e
    have e3 := has_meet a b px py
    rw [e2, h1, h2, has_zr] at e3
    cases e3

/-- Is a place at a rectangle's edge? -/
def edgB (r : Rc) (px py : Int) : Bool := (px == r.x) || ((py == r.y) || ((px == r.x + r.w - 1) || (py == r.y + r.h - 1)))
/-- Does a stroke draw at a place of the rectangle in which it shows? -/
def cnd (px py : Int) (s : St) : Bool := if s.k = 1 then !(s.c.a == 0) else if s.k = 2 then !(s.c.a == 0) && edgB s.r px py else if s.k = 3 then !(s.t.size == 0) else false
theorem btw_has (a b c d : Int) (h1 : -16384 ≤ a) (h2 : -16384 ≤ b) (h3 : c ≤ 16384) (h4 : d ≤ 16384) (px py : Int) : zHa (btw a b c d) px py = true ↔ a ≤ px ∧ px < c ∧ b ≤ py ∧ py < d := by
  by_cases h : c ≤ a ∨ d ≤ b
  · rw [btw_no h, has_zr]
    constructor
    · intro k; cases k
    · intro k; omega
  · rw [btw_yes (by omega) (by omega), has_iff]
    simp only
    omega
theorem sid_has {q : Rc} {px py : Int} (h : zHa q px py = true) : (sidR q).any (fun a => zHa a px py) = edgB q px py := by
  have k := (has_iff q px py).1 h
  rw [Bool.eq_iff_iff]
  unfold sidR edgB
  simp only [List.any_cons, List.any_nil, Bool.or_false, Bool.or_eq_true, beq_iff_eq]
  rw [btw_has _ _ _ _ (by omega) (by omega) (by omega) (by omega), btw_has _ _ _ _ (by omega) (by omega) (by omega) (by omega), btw_has _ _ _ _ (by omega) (by omega) (by omega) (by omega), btw_has _ _ _ _ (by omega) (by omega) (by omega) (by omega)]
  omega
theorem any_keep (r : Rc) (px py : Int) : ∀ l : List Rc, ((l.map (fun q => zMe q r)).filter (fun q => !zEm q)).any (fun a => zHa a px py) = (zHa r px py && l.any (fun a => zHa a px py))
  | [] => by simp
  | q :: l => by
    have ih := any_keep r px py l
    rw [List.map_cons, List.filter_cons, List.any_cons]
    cases e : zEm (zMe q r)
    · simp only [Bool.not_false, if_true, List.any_cons]
      rw [ih, has_meet]
      cases zHa q px py <;> cases zHa r px py <;> simp
    · simp only [Bool.not_true, Bool.false_eq_true, if_false]
      have h := has_em e px py
      rw [has_meet] at h
      rw [ih]
      revert h
      cases zHa q px py <;> cases zHa r px py <;> simp
/-- The places at which a stroke shows, place by place. -/
theorem plc_any {s : St} {r : Rc} {px py : Int} (hk : s.k = 1 ∨ s.k = 2 ∨ s.k = 3 ∨ s.k = 4 ∨ s.k = 5) (hr : zHa r px py = true → zHa s.r px py = true) :
    (plc s r).any (fun a => zHa a px py) = (zHa r px py && cnd px py s) := by
  unfold plc
  cases hn : noP s r
  · rw [if_neg (by simp)]
    unfold noP at hn
    simp only [Bool.or_eq_false_iff] at hn
    obtain ⟨h1, h2, h3, h4⟩ := hn
    have hd : s.k < 4 := by unfold drw at h4; simpa using h4
    by_cases h : s.k = 2
    · rw [if_pos h, any_keep]
      have ha : (s.c.a == 0) = false := by rw [h] at h3; simpa using h3
      unfold cnd
      rw [if_neg (by omega), if_pos h, ha]
      cases e : zHa r px py
      · rfl
      · rw [sid_has (hr e)]; rfl
    · rw [if_neg h]
      simp only [List.any_cons, List.any_nil, Bool.or_false]
      have hc : cnd px py s = true := by
        unfold cnd
        rcases hk with k | k | k | k | k
        · rw [if_pos k]
          rw [k] at h3
          simp at h3 ⊢
          exact h3
        · exact absurd k h
        · rw [if_neg (by omega), if_neg h, if_pos k]
          rw [k] at h2
          simp at h2 ⊢
          exact h2
        · omega
        · omega
      rw [hc, Bool.and_true]
  · rw [if_pos rfl]
    unfold noP at hn
    simp only [List.any_nil]
    cases e : zHa r px py
    · rfl
    · have h1 := has_keep e
      rw [h1, Bool.false_or] at hn
      symm
      rw [Bool.true_and]
      unfold cnd
      simp only [Bool.or_eq_true, Bool.and_eq_true] at hn
      rcases hk with k | k | k | k | k
      · rw [if_pos k]
        rw [k] at hn
        simp [drw, k] at hn
        simp [hn]
      · rw [if_neg (by omega), if_pos k]
        rw [k] at hn
        simp [drw, k] at hn
        simp [hn]
      · rw [if_neg (by omega), if_neg (by omega), if_pos k]
        rw [k] at hn
        simp [drw, k] at hn
        simp [hn]
      · rw [if_neg (by omega), if_neg (by omega), if_neg (by omega)]
      · rw [if_neg (by omega), if_neg (by omega), if_neg (by omega)]

/-- Strokes with whether they show at a place. -/
def hs (px py : Int) (p : St × Rc) : St × Bool := (p.1, zHa p.2 px py)
def dH (px py : Int) (p : St × Bool) : Bool := p.2 && cnd px py p.1
def oH (p : St × Bool) : Bool := p.2 && opq p.1
theorem oH_dH {px py : Int} {p : St × Bool} (h : oH p = true) : dH px py p = true := by
  unfold oH opq at h
  simp only [Bool.and_eq_true, beq_iff_eq] at h
  unfold dH cnd
  rw [h.1, if_pos h.2.1, h.2.2]
  rfl
/-- Those that draw there, from the last opaque Fill on. -/
def outH (px py : Int) : List (St × Bool) → List St
  | [] => []
  | p :: t => if (dH px py p && !t.any oH) = true then p.1 :: outH px py t else outH px py t
theorem outH_app (px py : Int) : ∀ a b : List (St × Bool), outH px py (a ++ b) = (if b.any oH = true then [] else outH px py a) ++ outH px py b
  | [], b => by show outH px py b = (if b.any oH = true then [] else []) ++ _; split <;> rfl
  | p :: a, b => by
    show (if (dH px py p && !(a ++ b).any oH) = true then p.1 :: outH px py (a ++ b) else outH px py (a ++ b)) = _
    rw [outH_app px py a b, List.any_append, show outH px py (p :: a) = (if (dH px py p && !a.any oH) = true then p.1 :: outH px py a else outH px py a) from rfl]
    cases b.any oH <;> cases a.any oH <;> cases dH px py p <;> simp
theorem outH_ne (px py : Int) : ∀ l : List (St × Bool), (outH px py l = [] ↔ l.any (dH px py) = false)
  | [] => by simp [outH]
  | p :: t => by
    have ih := outH_ne px py t
    unfold outH
    rw [List.any_cons]
    cases e : t.any (dH px py)
    · have h : t.any oH = false := by
        rw [List.any_eq_false] at e ⊢
        intro x hx hc
        exact e x hx (oH_dH hc)
      rw [h]
      cases dH px py p
      · simp [ih.2 e]
      · simp
    · have : outH px py t ≠ [] := fun h => by rw [ih.1 h] at e; cases e
      split <;> simp [this]
/-- Without a stroke that does not draw there. -/
theorem outH_drop (px py : Int) {p : St × Bool} (h : dH px py p = false) (a b : List (St × Bool)) : outH px py (a ++ p :: b) = outH px py (a ++ b) ∧ (a ++ p :: b).any oH = (a ++ b).any oH := by
  have ho : oH p = false := by
    cases e : oH p
    · rfl
    · rw [oH_dH e] at h; cases h
  have e1 : (p :: b).any oH = b.any oH := by rw [List.any_cons, ho, Bool.false_or]
  have e2 : outH px py (p :: b) = outH px py b := by rw [outH, h]; rfl
  rw [outH_app, outH_app, e1, e2, List.any_append, List.any_append, e1]
  exact ⟨rfl, rfl⟩
theorem hs_clip {px py : Int} {p : St × Rc} (h : p.1.k = 4 ∨ p.1.k = 5) : dH px py (hs px py p) = false := by
  unfold dH hs cnd
  rw [if_neg (by simp only; omega), if_neg (by simp only; omega), if_neg (by simp only; omega), Bool.and_false]
theorem outH_idl (px py : Int) {l m : List (St × Rc)} (h : Idl (fun p : St × Rc => p.1.k) l m) : outH px py (l.map (hs px py)) = outH px py (m.map (hs px py)) ∧ (l.map (hs px py)).any oH = (m.map (hs px py)).any oH := by
  induction h with
  | refl => exact ⟨rfl, rfl⟩
  | step a b m c o h1 h2 _ ih =>
    rw [List.map_append, List.map_cons, List.map_cons]
    rw [List.map_append] at ih
    have q1 := outH_drop px py (hs_clip (px := px) (py := py) (p := c) (.inl h1)) (a.map (hs px py)) (hs px py o :: b.map (hs px py))
    have q2 := outH_drop px py (hs_clip (px := px) (py := py) (p := o) (.inr h2)) (a.map (hs px py)) (b.map (hs px py))
    exact ⟨q1.1.trans (q2.1.trans ih.1), q1.2.trans (q2.2.trans ih.2)⟩

/-- A stroke's places are told by where it shows. -/
def Gd (p : St × Rc) : Prop := ∀ px py, (plc p.1 p.2).any (fun a => zHa a px py) = dH px py (hs px py p)
/-- Is a place in all clips? -/
def inO (px py : Int) : List Rc → Bool
  | [] => true
  | c :: _ => zHa c px py
theorem shR_has (px py : Int) (cs : List Rc) (s : St) : zHa (shR cs s) px py = (inO px py cs && zHa s.r px py) := by
  have h : zHa (topR cs s.r) px py = (inO px py cs && zHa s.r px py) := by
    cases cs with
    | nil => simp [topR, inO]
    | cons c cs => show zHa (zMe s.r c) px py = (zHa c px py && _); rw [has_meet, Bool.and_comm]
  rw [← h]
  unfold shR
  split
  · next e => rw [has_zr, has_em e]
  · rfl
theorem ann_gd : ∀ (l : List St) (cs : List Rc) (n : Nat), clpE n l = 0 → ∀ p ∈ ann cs l, Gd p
  | [], _, _, _, p, hp => by cases hp
  | s :: l, cs, n, h, p, hp => by
    obtain ⟨h1, h2, h3⟩ := clpE_cons h
    rcases List.mem_cons.1 (show p ∈ (s, shR cs s) :: ann (nxC cs s) l from hp) with rfl | hp
    · intro px py
      refine plc_any (oneE_zero h1).2.1 fun k => ?_
      have k : zHa (shR cs s) px py = true := k
      rw [shR_has] at k
      exact (Bool.and_eq_true_iff.1 k).2
    · exact ann_gd l _ _ h3 p hp
/-- Without what nobody sees, the same shows. -/
theorem outH_kepN (px py : Int) : ∀ l : List (St × Rc), (∀ p ∈ l, Gd p) → outH px py ((kepN l).map (hs px py)) = outH px py (l.map (hs px py)) ∧ ((kepN l).map (hs px py)).any oH = (l.map (hs px py)).any oH
  | [], _ => ⟨rfl, rfl⟩
  | p :: t, hg => by
    obtain ⟨i1, i2⟩ := outH_kepN px py t fun q hq => hg q (List.mem_cons_of_mem p hq)
    unfold kepN
    by_cases h : hidB p t = true
    · rw [if_pos h, List.map_cons]
      have key : dH px py (hs px py p) = true → (t.map (hs px py)).any oH = true := by
        intro hd
        rw [← hg p List.mem_cons_self px py, List.any_eq_true] at hd
        obtain ⟨a, ha, hap⟩ := hd
        unfold hidB at h
        rw [Bool.and_eq_true, Bool.or_eq_true] at h
        rcases h.2 with h | h
        · rw [List.isEmpty_iff] at h
          rw [h] at ha
          cases ha
        · rw [List.any_eq_true] at h
          obtain ⟨q, hq, hq2⟩ := h
          rw [Bool.and_eq_true, List.all_eq_true] at hq2
          rw [List.any_eq_true]
          refine ⟨hs px py q, List.mem_map_of_mem hq, ?_⟩
          show (zHa q.2 px py && opq q.1) = true
          rw [in_has (hq2.2 a ha) hap, hq2.1]
          rfl
      have ko : oH (hs px py p) = true → (t.map (hs px py)).any oH = true := fun k => key (oH_dH k)
      refine ⟨?_, ?_⟩
      · rw [i1, outH]
        cases e : dH px py (hs px py p)
        · rfl
        · rw [key e]; rfl
      · rw [i2, List.any_cons]
        cases e : oH (hs px py p)
        · rfl
        · rw [ko e]; rfl
    · rw [if_neg h, List.map_cons, List.map_cons, outH, outH, List.any_cons, List.any_cons, i1, i2]
      exact ⟨rfl, rfl⟩

/-- What the statements' own look tells: stroke by stroke, clip by clip. -/
def atO (px py : Int) (i : Bool) (s : St) (o : List St) : List St :=
  if s.k = 1 then (if (i && (zHa s.r px py && decide (0 < s.c.a))) = true then (if (i && (zHa s.r px py && s.c.a == 255)) = true then [] else o) ++ [s] else (if (i && (zHa s.r px py && s.c.a == 255)) = true then [] else o))
  else if s.k = 2 then (if (i && (zHa s.r px py && (edgB s.r px py && decide (0 < s.c.a)))) = true then o ++ [s] else o)
  else (if (i && (zHa s.r px py && !(s.t.size == 0))) = true then o ++ [s] else o)
def atS (px py : Int) : List Bool → Bool → List St → List St → List St
  | _, _, o, [] => o
  | cs, i, o, s :: l =>
    if s.k = 4 then atS px py (i :: cs) (i && zHa s.r px py) o l
    else if s.k = 5 then (if cs.isEmpty = true then [] else atS px py cs.tail (cs.headD true) o l)
    else atS px py cs i (atO px py i s o) l
def bls (px py : Int) : List Rc → List Bool
  | [] => []
  | _ :: cs => inO px py cs :: bls px py cs
theorem at_ann (px py : Int) : ∀ (l : List St) (cs : List Rc) (o : List St), clpE cs.length l = 0 → (∀ s ∈ l, 0 ≤ s.c.a) →
    atS px py (bls px py cs) (inO px py cs) o l = (if ((ann cs l).map (hs px py)).any oH = true then [] else o) ++ outH px py ((ann cs l).map (hs px py))
  | [], cs, o, _, _ => by
    cases cs <;> simp [atS, ann, outH]
  | s :: l, cs, o, h, hp => by
    obtain ⟨h1, h2, h3⟩ := clpE_cons h
    have hp' : ∀ q ∈ l, 0 ≤ q.c.a := fun q hq => hp q (List.mem_cons_of_mem s hq)
    have ha : 0 ≤ s.c.a := hp s List.mem_cons_self
    rw [← nxC_len] at h3
    obtain ⟨_, hk, _⟩ := oneE_zero h1
    have hsh := shR_has px py cs s
    show _ = (if ((hs px py (s, shR cs s)) :: (ann (nxC cs s) l).map (hs px py)).any oH = true then [] else o) ++ outH px py (hs px py (s, shR cs s) :: (ann (nxC cs s) l).map (hs px py))
    rw [List.any_cons, outH]
    have eH : oH (hs px py (s, shR cs s)) = ((inO px py cs && zHa s.r px py) && opq s) := by unfold oH hs; rw [hsh]
    have eD : dH px py (hs px py (s, shR cs s)) = ((inO px py cs && zHa s.r px py) && cnd px py s) := by unfold dH hs; rw [hsh]
    rw [eH, eD]
    have draws : s.k < 4 → atS px py (bls px py cs) (inO px py cs) o (s :: l) = atS px py (bls px py cs) (inO px py cs) (atO px py (inO px py cs) s o) l := by
      intro k
      rw [atS, if_neg (show ¬ s.k = 4 by omega), if_neg (show ¬ s.k = 5 by omega)]
    have nxt : s.k < 4 → nxC cs s = cs := fun k => nxC_drw cs (by unfold drw; exact decide_eq_true k)
    rcases hk with k | k | k | k | k
    · rw [draws (by omega)]
      rw [nxt (by omega)] at h3 ⊢
      rw [at_ann px py l cs _ h3 hp']
      unfold atO cnd opq
      rw [if_pos k, if_pos k, k]
      have c1 : decide (0 < s.c.a) = !(s.c.a == 0) := by
        rw [Bool.eq_iff_iff]; simp; omega
      rw [c1]
      generalize ((ann cs l).map (hs px py)).any oH = A
      generalize outH px py ((ann cs l).map (hs px py)) = B
      generalize inO px py cs = i
      generalize zHa s.r px py = z
      by_cases c0 : s.c.a = 0
      · rw [c0]
        cases A <;> cases i <;> cases z <;> simp
      · by_cases c2 : s.c.a = 255
        · rw [c2]
          cases A <;> cases i <;> cases z <;> simp [hs]
        · have e0 : (s.c.a == 0) = false := beq_eq_false_iff_ne.2 c0
          have e2 : (s.c.a == 255) = false := beq_eq_false_iff_ne.2 c2
          rw [e0, e2]
          cases A <;> cases i <;> cases z <;> simp [hs]
    · rw [draws (by omega)]
      rw [nxt (by omega)] at h3 ⊢
      rw [at_ann px py l cs _ h3 hp']
      unfold atO cnd opq
      rw [if_neg (show ¬ s.k = 1 by omega), if_pos k, if_neg (show ¬ s.k = 1 by omega), if_pos k, k]
      have c1 : decide (0 < s.c.a) = !(s.c.a == 0) := by
        rw [Bool.eq_iff_iff]; simp; omega
      rw [c1]
      generalize ((ann cs l).map (hs px py)).any oH = A
      generalize outH px py ((ann cs l).map (hs px py)) = B
      generalize inO px py cs = i
      generalize zHa s.r px py = z
      generalize edgB s.r px py = e
      generalize (s.c.a == 0) = f
      cases A <;> cases i <;> cases z <;> cases e <;> cases f <;> simp [hs]
    · rw [draws (by omega)]
      rw [nxt (by omega)] at h3 ⊢
      rw [at_ann px py l cs _ h3 hp']
      unfold atO cnd opq
      rw [if_neg (show ¬ s.k = 1 by omega), if_neg (show ¬ s.k = 2 by omega), if_neg (show ¬ s.k = 1 by omega), if_neg (show ¬ s.k = 2 by omega), if_pos k, k]
      generalize ((ann cs l).map (hs px py)).any oH = A
      generalize outH px py ((ann cs l).map (hs px py)) = B
      generalize inO px py cs = i
      generalize zHa s.r px py = z
      generalize (s.t.size == 0) = f
      cases A <;> cases i <;> cases z <;> cases f <;> simp [hs]
    · have e1 : nxC cs s = shR cs s :: cs := by unfold nxC; rw [if_pos k]
      have e2 : atS px py (bls px py cs) (inO px py cs) o (s :: l) = atS px py (bls px py (nxC cs s)) (inO px py (nxC cs s)) o l := by
        rw [e1]
        show _ = atS px py (inO px py cs :: bls px py cs) (zHa (shR cs s) px py) o l
        rw [hsh]
        rw [atS, if_pos k]
      rw [e2, at_ann px py l _ _ h3 hp']
      unfold cnd opq
      rw [if_neg (show ¬ s.k = 1 by omega), if_neg (show ¬ s.k = 2 by omega), if_neg (show ¬ s.k = 3 by omega), show (s.k == 1) = false from beq_eq_false_iff_ne.2 (by omega)]
      simp only [Bool.and_false, Bool.false_or, Bool.false_and, Bool.false_eq_true, if_false]
    · have hn : cs ≠ [] := fun e => h2 ⟨k, by rw [e]; rfl⟩
      cases cs with
      | nil => exact absurd rfl hn
      | cons c cs =>
        have e1 : nxC (c :: cs) s = cs := by unfold nxC; rw [if_neg (by omega), if_pos k]; rfl
        rw [e1] at h3 ⊢
        have e2 : atS px py (bls px py (c :: cs)) (inO px py (c :: cs)) o (s :: l) = atS px py (bls px py cs) (inO px py cs) o l := by
          show atS px py (inO px py cs :: bls px py cs) (zHa c px py) o (s :: l) = _
          rw [atS, if_neg (by omega), if_pos k]
          rfl
        rw [e2, at_ann px py l _ _ h3 hp']
        unfold cnd opq
        rw [if_neg (show ¬ s.k = 1 by omega), if_neg (show ¬ s.k = 2 by omega), if_neg (show ¬ s.k = 3 by omega), show (s.k == 1) = false from beq_eq_false_iff_ne.2 (by omega)]
        simp only [Bool.and_false, Bool.false_or, Bool.false_and, Bool.false_eq_true, if_false]
/-- What shows at a place. -/
def atL (px py : Int) (l : List St) : List St := atS px py [] true [] l
def APos (l : List St) : Prop := ∀ s ∈ l, 0 ≤ s.c.a
theorem atL_ann (px py : Int) {l : List St} (h : clpE 0 l = 0) (ha : APos l) : atL px py l = outH px py ((ann [] l).map (hs px py)) := by
  have := at_ann px py l [] [] h ha
  show atS px py (bls px py []) (inO px py []) [] l = _
  rw [this]
  split <;> rfl
theorem APos.sub {l m : List St} (h : APos l) (k : m.Sublist l) : APos m := fun s hs => h s (k.subset hs)
theorem norL_sub (l : List St) : (norL l).Sublist l := by
  unfold norL
  refine (idl_sub (bz_idl St.k _ [])).trans ?_
  have := (dro_sub (dro_kepN (ann [] l))).map Prod.fst
  rwa [ann_fst] at this
/-- Norm shows the same. -/
theorem at_norL (px py : Int) {l : List St} (h : clpE 0 l = 0) (ha : APos l) : atL px py (norL l) = atL px py l := by
  rw [atL_ann px py (norL_clp h) (ha.sub (norL_sub l)), atL_ann px py h ha, ann_norL]
  have h1 := outH_idl px py (bz_idl (fun p : St × Rc => p.1.k) (kepN (ann [] l)) [])
  have h2 := outH_kepN px py (ann [] l) (ann_gd l [] 0 h)
  exact h1.1.symm.trans h2.1
/-- What is shown there is what is touched there. -/
theorem at_any (px py : Int) {l : List St} (h : clpE 0 l = 0) (ha : APos l) : (atL px py l = [] ↔ (plA (ann [] l)).any (fun a => zHa a px py) = false) := by
  rw [atL_ann px py h ha, outH_ne]
  have hg := ann_gd l [] 0 h
  generalize ann [] l = A at *
  have e : (A.map (hs px py)).any (dH px py) = (plA A).any (fun a => zHa a px py) := by
    induction A with
    | nil => rfl
    | cons p A ih =>
      rw [List.map_cons, List.any_cons, ih fun q hq => hg q (List.mem_cons_of_mem p hq), ← hg p List.mem_cons_self px py]
      unfold plA
      rw [List.flatMap_cons, List.any_append]
  rw [e]

/-- Clips below one more clip. -/
def Und (px py : Int) (b : Bool) : List Rc → List Rc → Prop
  | [], ds => ∃ q, ds = [q] ∧ zHa q px py = b
  | c :: cs, ds => ∃ c' t, ds = c' :: t ∧ zHa c' px py = (b && zHa c px py) ∧ Und px py b cs t
theorem und_in {px py : Int} {b : Bool} : ∀ {cs cs' : List Rc}, Und px py b cs cs' → inO px py cs' = (b && inO px py cs)
  | [], _, h => by
    obtain ⟨q, rfl, h⟩ := h
    show zHa q px py = (b && true)
    rw [h, Bool.and_true]
  | _ :: _, _, h => by
    obtain ⟨c', t, rfl, h, _⟩ := h
    exact h
theorem und_nxt {px py : Int} {b : Bool} {cs cs' : List Rc} (h : Und px py b cs cs') {s : St} (hn : ¬ (s.k = 5 ∧ cs.length = 0)) : Und px py b (nxC cs s) (nxC cs' s) := by
  unfold nxC
  by_cases k4 : s.k = 4
  · rw [if_pos k4, if_pos k4]
    refine ⟨_, _, rfl, ?_, h⟩
    rw [shR_has, shR_has, und_in h, Bool.and_assoc]
  · rw [if_neg k4, if_neg k4]
    by_cases k5 : s.k = 5
    · rw [if_pos k5, if_pos k5]
      cases cs with
      | nil => exact absurd ⟨k5, rfl⟩ hn
      | cons c cs =>
        obtain ⟨c', t, rfl, _, h⟩ := h
        exact h
    · rw [if_neg k5, if_neg k5]
      exact h
theorem und_ann {px py : Int} {b : Bool} : ∀ (l : List St) {cs cs' : List Rc}, Und px py b cs cs' → clpE cs.length l = 0 → (ann cs' l).map (hs px py) = ((ann cs l).map (hs px py)).map fun p => (p.1, b && p.2)
  | [], _, _, _, _ => rfl
  | s :: l, cs, cs', h, hc => by
    obtain ⟨h1, h2, h3⟩ := clpE_cons hc
    rw [← nxC_len] at h3
    show hs px py (s, shR cs' s) :: (ann (nxC cs' s) l).map (hs px py) = (s, b && zHa (shR cs s) px py) :: _
    rw [und_ann l (und_nxt h h2) h3]
    congr 1
    show (s, zHa (shR cs' s) px py) = _
    rw [shR_has, shR_has, und_in h, Bool.and_assoc]
theorem end_und : ∀ (l : List St) (cs ds : List Rc), clpE cs.length l = 0 → endC (cs ++ ds) l = ds
  | [], cs, ds, h => by
    unfold clpE at h
    split at h
    · cases h
    · next h1 =>
      have : cs = [] := List.length_eq_zero_iff.1 (by omega)
      rw [this]
      rfl
  | s :: l, cs, ds, h => by
    obtain ⟨h1, h2, h3⟩ := clpE_cons h
    have e : ∃ cs', nxC (cs ++ ds) s = cs' ++ ds ∧ cs'.length = opn cs.length s := by
      unfold nxC opn
      by_cases k4 : s.k = 4
      · rw [if_pos k4, if_pos k4]
        exact ⟨shR (cs ++ ds) s :: cs, rfl, rfl⟩
      · rw [if_neg k4, if_neg k4]
        by_cases k5 : s.k = 5
        · rw [if_pos k5, if_pos k5]
          cases cs with
          | nil => exact absurd ⟨k5, rfl⟩ h2
          | cons c cs => exact ⟨cs, rfl, rfl⟩
        · rw [if_neg k5, if_neg k5]
          exact ⟨cs, rfl, rfl⟩
    obtain ⟨cs', e1, e2⟩ := e
    show endC (nxC (cs ++ ds) s) l = ds
    rw [e1]
    exact end_und l cs' ds (by rw [e2]; exact h3)
theorem clp_app : ∀ (a b : List St) (n : Nat), clpE n a = 0 → clpE n (a ++ b) = clpE 0 b
  | [], b, n, h => by
    unfold clpE at h
    split at h
    · cases h
    · next h1 =>
      have : n = 0 := by omega
      rw [this]
      rfl
  | s :: a, b, n, h => by
    obtain ⟨h1, h2, h3⟩ := clpE_cons h
    show clpE n (s :: (a ++ b)) = _
    rw [clpE, if_neg (by simp [h1]), if_neg h2]
    exact clp_app a b _ h3
theorem clp_more : ∀ (a : List St) (n : Nat), clpE n a = 0 → clpE (n + 1) (a ++ [opeS]) = 0
  | [], n, h => by
    unfold clpE at h
    split at h
    · cases h
    · next h1 =>
      have : n = 0 := by omega
      rw [this]
      rfl
  | s :: a, n, h => by
    obtain ⟨h1, h2, h3⟩ := clpE_cons h
    refine clpE_mk h1 (fun e => by omega) ?_
    have e : opn (n + 1) s = opn n s + 1 := by
      unfold opn
      by_cases k4 : s.k = 4
      · rw [if_pos k4, if_pos k4]
      · rw [if_neg k4, if_neg k4]
        by_cases k5 : s.k = 5
        · rw [if_pos k5, if_pos k5]
          have : n ≠ 0 := fun e => h2 ⟨k5, e⟩
          omega
        · rw [if_neg k5, if_neg k5]
    rw [e]
    exact clp_more a _ h3
theorem one_clip {q : Rc} (h : zEm q = false) : oneE (cliS q) = 0 := by
  have h2 : zMa q = true := may_of h
  have e1 : wroK (cliS q) = false := rfl
  have e2 : wroF (cliS q) = false := rfl
  unfold oneE
  rw [e1, e2]
  show (if zMa q = true then (0 : Int) else 5) = 0
  rw [if_pos h2]
theorem grp_clp {l : List St} (h : clpE 0 l = 0) {q : Rc} (hq : zEm q = false) : clpE 0 (grpL (ann [] l) q) = 0 := by
  unfold grpL
  refine idl_clp (bz_idl St.k _ []) 0 ?_
  refine clpE_mk (one_clip hq) (fun e => by cases e.1) ?_
  exact clp_more _ 0 (dro_clp l [] 0 (dro_wit q _) h)
theorem grp_len (l : List St) (q : Rc) : (grpL (ann [] l) q).length ≤ l.length + 2 := by
  unfold grpL
  refine Nat.le_trans (busy_len _) ?_
  have := dro_len (dro_wit q (ann [] l))
  rw [ann_len] at this
  simp
  omega
/-- One piece of a list that is cut to a region, place by place. -/
theorem grp_out (px py : Int) {l : List St} (h : clpE 0 l = 0) {q : Rc} (hq : zEm q = false) :
    outH px py ((ann [] (grpL (ann [] l) q)).map (hs px py)) = (if zHa q px py = true then outH px py ((ann [] l).map (hs px py)) else []) ∧
    ((ann [] (grpL (ann [] l) q)).map (hs px py)).any oH = (zHa q px py && ((ann [] l).map (hs px py)).any oH) ∧ endC [] (grpL (ann [] l) q) = [] := by
  have hd := dro_wit q (ann [] l)
  have hg := ann_gd l [] 0 h
  have hc := dro_clp l [] 0 hd h
  have he := dro_ann l [] hd
  have hsub := dro_sub hd
  have hN := grp_clp h hq
  have hW : ∀ p ∈ ann [] l, zHa q px py = true → witP q p = false → dH px py (hs px py p) = false := by
    intro p hp hqp hw
    rw [← hg p hp px py, List.any_eq_false]
    intro a ha hap
    unfold witP at hw
    rw [Bool.or_eq_false_iff, List.any_eq_false] at hw
    exact hw.2 a ha (ov_has hap hqp)
  have key : ∀ A : List (St × Rc), (∀ p ∈ A, zHa q px py = true → witP q p = false → dH px py (hs px py p) = false) → zHa q px py = true → outH px py ((A.filter (witP q)).map (hs px py)) = outH px py (A.map (hs px py)) ∧ ((A.filter (witP q)).map (hs px py)).any oH = (A.map (hs px py)).any oH := by
    intro A
    induction A with
    | nil => intro _ _; exact ⟨rfl, rfl⟩
    | cons p A ih =>
      intro hA hqp
      obtain ⟨i1, i2⟩ := ih (fun x hx => hA x (List.mem_cons_of_mem p hx)) hqp
      rw [List.filter_cons]
      by_cases hw : witP q p = true
      · rw [if_pos hw, List.map_cons, List.map_cons, outH, outH, List.any_cons, List.any_cons, i1, i2]
        exact ⟨rfl, rfl⟩
      · have e := hA p List.mem_cons_self hqp (Bool.eq_false_iff.2 hw)
        rw [if_neg hw, i1, i2, List.map_cons]
        have := outH_drop px py e [] (A.map (hs px py))
        exact ⟨this.1.symm, this.2.symm⟩
  have eC : shR [] (cliS q) = q := by
    unfold shR
    show (if zEm q = true then zr else q) = q
    rw [if_neg (by simp [hq])]
  refine ⟨?_, ?_, ?_⟩
  rotate_left 2
  · have := end_und (grpL (ann [] l) q) [] [] hN
    exact this
  all_goals
    unfold grpL
    rw [ann_busy]
    have hI := outH_idl px py (bz_idl (fun p : St × Rc => p.1.k) (ann [] (cliS q :: (((ann [] l).filter (witP q)).map Prod.fst ++ [opeS]))) [])
    have e1 : ann [] (cliS q :: (((ann [] l).filter (witP q)).map Prod.fst ++ [opeS])) = (cliS q, q) :: (ann [q] (((ann [] l).filter (witP q)).map Prod.fst) ++ ann (endC [q] (((ann [] l).filter (witP q)).map Prod.fst)) [opeS]) := by
      show (cliS q, shR [] (cliS q)) :: ann [shR [] (cliS q)] _ = _
      rw [eC, ann_app]
    have e2 : endC [q] (((ann [] l).filter (witP q)).map Prod.fst) = [q] := end_und _ [] [q] hc
    have e3 : (ann [q] (((ann [] l).filter (witP q)).map Prod.fst)).map (hs px py) = (((ann [] l).filter (witP q)).map (hs px py)).map fun p => (p.1, zHa q px py && p.2) := by
      rw [und_ann (b := zHa q px py) _ (cs := []) (show Und px py (zHa q px py) [] [q] from ⟨q, rfl, rfl⟩) hc, he]
    have d1 := outH_drop px py (hs_clip (px := px) (py := py) (p := (cliS q, q)) (.inl rfl)) [] ((ann [q] (((ann [] l).filter (witP q)).map Prod.fst) ++ ann [q] [opeS]).map (hs px py))
    have d2 := outH_drop px py (hs_clip (px := px) (py := py) (p := (opeS, shR [q] opeS)) (.inr rfl)) ((ann [q] (((ann [] l).filter (witP q)).map Prod.fst)).map (hs px py)) []
    rw [e1, e2, List.reverse_nil, List.nil_append] at hI
    rw [e1, e2]
  · refine hI.1.symm.trans ?_
    rw [List.map_cons]
    refine d1.1.trans ?_
    rw [List.nil_append, List.map_append]
    refine d2.1.trans ?_
    rw [List.append_nil, e3]
    cases hqp : zHa q px py
    · simp only [Bool.false_and, Bool.false_eq_true, if_false]
      generalize List.map (hs px py) ((ann [] l).filter (witP q)) = X
      induction X with
      | nil => rfl
      | cons x X ih =>
        rw [List.map_cons, outH]
        have : dH px py (x.1, false) = false := rfl
        rw [this, ih]
        rfl
    · simp only [Bool.true_and, if_true]
      rw [show (fun p : St × Bool => (p.1, p.2)) = id from rfl, List.map_id]
      exact (key _ hW hqp).1
  · refine hI.2.symm.trans ?_
    rw [List.map_cons]
    refine d1.2.trans ?_
    rw [List.nil_append, List.map_append]
    refine d2.2.trans ?_
    rw [List.append_nil, e3]
    cases hqp : zHa q px py
    · simp only [Bool.false_and]
      generalize List.map (hs px py) ((ann [] l).filter (witP q)) = X
      induction X with
      | nil => rfl
      | cons x X ih =>
        rw [List.map_cons, List.any_cons, ih]
        rfl
    · simp only [Bool.true_and]
      rw [show (fun p : St × Bool => (p.1, p.2)) = id from rfl, List.map_id]
      exact (key _ hW hqp).2
/-- How often a place lies in a rectangle of a list. -/
def cntR (px py : Int) (F : List Rc) : Nat := (F.filter fun q => zHa q px py).length
theorem wit_clp {l : List St} (h : clpE 0 l = 0) : ∀ {F : List Rc}, (∀ q ∈ F, zEm q = false) → clpE 0 (witA l F) = 0
  | [], _ => rfl
  | q :: F, hF => by
    unfold witA
    rw [List.flatMap_cons, clp_app _ _ 0 (grp_clp h (hF q List.mem_cons_self))]
    exact wit_clp h fun x hx => hF x (List.mem_cons_of_mem q hx)
theorem wit_len (l : List St) : ∀ F : List Rc, (witA l F).length ≤ F.length * (l.length + 2)
  | [] => Nat.zero_le _
  | q :: F => by
    have h1 := grp_len l q
    have h2 := wit_len l F
    unfold witA at h2 ⊢
    rw [List.flatMap_cons, List.length_append, List.length_cons, Nat.add_mul]
    omega
theorem wit_out (px py : Int) {l : List St} (h : clpE 0 l = 0) : ∀ {F : List Rc}, (∀ q ∈ F, zEm q = false) → cntR px py F ≤ 1 →
    outH px py ((ann [] (witA l F)).map (hs px py)) = (if F.any (fun q => zHa q px py) = true then outH px py ((ann [] l).map (hs px py)) else []) ∧
    ((ann [] (witA l F)).map (hs px py)).any oH = (F.any (fun q => zHa q px py) && ((ann [] l).map (hs px py)).any oH)
  | [], _, _ => ⟨rfl, rfl⟩
  | q :: F, hF, hc => by
    obtain ⟨g1, g2, g3⟩ := grp_out px py h (hF q List.mem_cons_self)
    have hc' : cntR px py F ≤ 1 := by
      unfold cntR at hc ⊢
      rw [List.filter_cons] at hc
      split at hc
      · rw [List.length_cons] at hc
        omega
      · exact hc
    obtain ⟨i1, i2⟩ := wit_out px py h (fun x hx => hF x (List.mem_cons_of_mem q hx)) hc'
    have e : ann [] (witA l (q :: F)) = ann [] (grpL (ann [] l) q) ++ ann [] (witA l F) := by
      show ann [] (List.flatMap _ (q :: F)) = _
      rw [List.flatMap_cons, ann_app, g3]
      rfl
    rw [e, List.map_append, outH_app, List.any_append, i1, i2, g1, g2, List.any_cons]
    cases hq : zHa q px py
    · simp
    · have hz : F.any (fun q => zHa q px py) = false := by
        unfold cntR at hc
        rw [List.filter_cons, if_pos hq, List.length_cons] at hc
        have : F.filter (fun q => zHa q px py) = [] := List.length_eq_zero_iff.1 (by omega)
        rw [List.filter_eq_nil_iff] at this
        rw [List.any_eq_false]
        exact this
      rw [hz]
      simp
theorem wit_pos {l : List St} (h : APos l) (F : List Rc) : APos (witA l F) := by
  intro s hs
  unfold witA at hs
  obtain ⟨q, _, hs⟩ := List.mem_flatMap.1 hs
  unfold grpL at hs
  have := (idl_sub (bz_idl St.k _ [])).subset hs
  simp only [List.reverse_nil, List.nil_append, List.mem_cons, List.mem_append, List.not_mem_nil, or_false] at this
  rcases this with rfl | h2 | rfl
  · exact Int.le_refl _
  · have h3 := ((dro_sub (dro_wit q (ann [] l))).map Prod.fst).subset h2
    rw [ann_fst] at h3
    exact h s h3
  · exact Int.le_refl _
/-- Cut to rectangles that lie apart, a list shows the same there, and nothing elsewhere. -/
theorem at_wit (px py : Int) {l : List St} (h : clpE 0 l = 0) (ha : APos l) {F : List Rc} (hF : ∀ q ∈ F, zEm q = false) (hc : cntR px py F ≤ 1) :
    atL px py (witA l F) = if F.any (fun q => zHa q px py) = true then atL px py l else [] := by
  rw [atL_ann px py (wit_clp h hF) (wit_pos ha F), atL_ann px py h ha]
  exact (wit_out px py h hF hc).1

end Go.Proofs.YtfjbnejmcanamaaGreatDoor
