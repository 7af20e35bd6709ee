/-
  Texts of this claim, one behind the other: what each is about stands ahead of it.
-/
import Derived.Test.YtbghjmkgicdnoaaK11
import Derived.Test.YtbghjmkgicdnoaaK2
import Derived.Test.YtbghjmkgicdnoaaK9
import Derived.Laws.AppendOwnNone
import Derived.Test.YtbghjmkgicdnoaaK7
import Derived.Test.YtbghjmkgicdnoaaK1
import Derived.Deep.DeepCutAuto
/-
  Strokes in memory: lists of them read and owned; strokes compared.
-/
namespace Go.Proofs.Ytbghjmkgicdnoaa
open Go.RowKit

/-- A stroke, cell by cell. -/
def sCel (s : St) : List Value := [.int .u8 s.k, .int .i64 s.r.x, .int .i64 s.r.y, .int .i64 s.r.w, .int .i64 s.r.h, .int .u8 s.c.r, .int .u8 s.c.g, .int .u8 s.c.b, .int .u8 s.c.a, .int .u8 s.b.r, .int .u8 s.b.g, .int .u8 s.b.b, .int .u8 s.b.a, .string s.t, .int .i64 s.n]
theorem sCel_len (s : St) : (sCel s).length = 15 := rfl
def flatZ : List St → List Value
  | [] => []
  | s :: l => sCel s ++ flatZ l
theorem flatZ_app (l m : List St) : flatZ (l ++ m) = flatZ l ++ flatZ m := by
  induction l with
  | nil => rfl
  | cons s l ih => show sCel s ++ flatZ (l ++ m) = (sCel s ++ flatZ l) ++ flatZ m; rw [ih, List.append_assoc]
theorem flatZ_one (s : St) : flatZ [s] = sCel s := List.append_nil _
theorem flatZ_len (l : List St) : (flatZ l).length = l.length * 15 := by
  induction l with
  | nil => rfl
  | cons s l ih => show (sCel s ++ flatZ l).length = _; rw [List.length_append, ih, sCel_len, List.length_cons]; omega
theorem flatZ_at (l : List St) (k : Nat) (h : k < l.length) (j : Nat) (hj : j < 15) : (flatZ l)[k * 15 + j]? = (sCel l[k])[j]? := by
  induction l generalizing k with
  | nil => simp at h
  | cons s l ih =>
    cases k with
    | zero =>
      show (sCel s ++ flatZ l)[0 * 15 + j]? = (sCel s)[j]?
      rw [Nat.zero_mul, Nat.zero_add, List.getElem?_append_left (by rw [sCel_len]; exact hj)]
    | succ k =>
      have h' : k < l.length := by simpa using h
      show (sCel s ++ flatZ l)[(k + 1) * 15 + j]? = (sCel l[k])[j]?
      rw [List.getElem?_append_right (by rw [sCel_len]; omega), sCel_len, ← ih k h']
      congr 1
      omega
theorem oneZ (s : St) : ∀ u ∈ sCel s, u.oneCell' = true := by
  intro u hu
  simp only [sCel, List.mem_cons, List.not_mem_nil, or_false] at hu
  rcases hu with rfl | rfl | rfl | rfl | rfl | rfl | rfl | rfl | rfl | rfl | rfl | rfl | rfl | rfl | rfl <;> rfl
theorem onesZ : ∀ (l : List St), ∀ u ∈ flatZ l, u.oneCell' = true
  | [], u, hu => by cases hu
  | s :: l, u, hu => by
    rcases List.mem_append.1 hu with h | h
    · exact oneZ s u h
    · exact onesZ l u h

/-- A stroke in memory, from a place of a block on. -/
def StAt (w : World) (g p : Nat) (s : St) : Prop := w.cell? ⟨g, p, none⟩ = some (.int .u8 s.k) ∧ w.cell? ⟨g, p + 1, none⟩ = some (.int .i64 s.r.x) ∧ w.cell? ⟨g, p + 2, none⟩ = some (.int .i64 s.r.y) ∧ w.cell? ⟨g, p + 3, none⟩ = some (.int .i64 s.r.w) ∧ w.cell? ⟨g, p + 4, none⟩ = some (.int .i64 s.r.h) ∧ w.cell? ⟨g, p + 5, none⟩ = some (.int .u8 s.c.r) ∧ w.cell? ⟨g, p + 6, none⟩ = some (.int .u8 s.c.g) ∧ w.cell? ⟨g, p + 7, none⟩ = some (.int .u8 s.c.b) ∧ w.cell? ⟨g, p + 8, none⟩ = some (.int .u8 s.c.a) ∧ w.cell? ⟨g, p + 9, none⟩ = some (.int .u8 s.b.r) ∧ w.cell? ⟨g, p + 10, none⟩ = some (.int .u8 s.b.g) ∧ w.cell? ⟨g, p + 11, none⟩ = some (.int .u8 s.b.b) ∧ w.cell? ⟨g, p + 12, none⟩ = some (.int .u8 s.b.a) ∧ w.cell? ⟨g, p + 13, none⟩ = some (.string s.t) ∧ w.cell? ⟨g, p + 14, none⟩ = some (.int .i64 s.n)
theorem stat_iff {w : World} {g p : Nat} {s : St} : StAt w g p s ↔ ∀ j, j < 15 → w.cell? ⟨g, p + j, none⟩ = (sCel s)[j]? := by
  constructor
  · rintro ⟨h0, h1, h2, h3, h4, h5, h6, h7, h8, h9, h10, h11, h12, h13, h14⟩ j hj
    match j, hj with
    | 0, _ => exact h0
    | 1, _ => exact h1
    | 2, _ => exact h2
    | 3, _ => exact h3
    | 4, _ => exact h4
    | 5, _ => exact h5
    | 6, _ => exact h6
    | 7, _ => exact h7
    | 8, _ => exact h8
    | 9, _ => exact h9
    | 10, _ => exact h10
    | 11, _ => exact h11
    | 12, _ => exact h12
    | 13, _ => exact h13
    | 14, _ => exact h14
  · intro h
    exact ⟨h 0 (by decide), h 1 (by decide), h 2 (by decide), h 3 (by decide), h 4 (by decide), h 5 (by decide), h 6 (by decide), h 7 (by decide), h 8 (by decide), h 9 (by decide), h 10 (by decide), h 11 (by decide), h 12 (by decide), h 13 (by decide), h 14 (by decide)⟩
theorem StAt.kept {w w' : World} {g p : Nat} {s : St} (h : StAt w g p s) (k : ∀ o, w'.cell? ⟨g, o, none⟩ = w.cell? ⟨g, o, none⟩) : StAt w' g p s := by
  rw [stat_iff] at h ⊢
  intro j hj
  rw [k, h j hj]
/-- A slice that holds strokes. -/
def LsS (w : World) (v : Value) (l : List St) : Prop := ∃ oa cap, v = .slice oa l.length cap ∧ l.length ≤ cap ∧ (0 < l.length → ∃ g o, oa = some ⟨g, o, none⟩ ∧ g < w.heap.size ∧ ∀ i (h : i < l.length), StAt w g (o + i * 15) l[i])
theorem LsS.below {w w' : World} {v : Value} {l : List St} (h : LsS w v l) (hb : Below w.heap.size w w') : LsS w' v l := by
  obtain ⟨oa, cap, e, hc, hg⟩ := h
  refine ⟨oa, cap, e, hc, fun hp => ?_⟩
  obtain ⟨g, o, e1, g1, g2⟩ := hg hp
  exact ⟨g, o, e1, Nat.lt_of_lt_of_le g1 hb.size, fun i hi => (g2 i hi).kept fun j => hb.cell (p := ⟨g, j, none⟩) g1⟩
theorem lss_nil (w : World) : LsS w (.slice none 0 0) [] := ⟨none, 0, rfl, Nat.le_refl _, fun h => absurd h (Nat.lt_irrefl 0)⟩
/-- Strokes that a call made. -/
def OwS (lo : Nat) (w : World) (v : Value) (l : List St) : Prop := w.ownsRow lo 31 15 v l.length (flatZ l)
theorem OwS.nil (lo : Nat) (w : World) : OwS lo w (.slice none 0 0) [] := World.ownsRow_nil _ _ _ _
theorem OwS.lss {lo : Nat} {w : World} {v : Value} {l : List St} (h : OwS lo w v l) : LsS w v l := by
  obtain ⟨hl, ⟨rfl, h0⟩ | ⟨g, cap, cur, rfl, hb, hc, h1, h2, h3, h4⟩⟩ := id h
  · obtain rfl : l = [] := List.length_eq_zero_iff.1 h0
    exact lss_nil w
  · refine ⟨_, cap, rfl, h1, fun _ => ⟨g, 0, rfl, (Array.getElem?_eq_some_iff.1 hc).1, fun i hi => ?_⟩⟩
    rw [stat_iff]
    intro j hj
    rw [Nat.zero_add, own_cell h (i * 15 + j) (by omega), flatZ_at l i hi j hj]

theorem info_strokeZ : (Try.prog.info? 31).map (fun i => (i.zero, i.size, i.bytes)) = some (some (.agg #[.int .u8 0, .int .i64 0, .int .i64 0, .int .i64 0, .int .i64 0, .int .u8 0, .int .u8 0, .int .u8 0, .int .u8 0, .int .u8 0, .int .u8 0, .int .u8 0, .int .u8 0, .string ByteArray.empty, .int .i64 0]), 15, 72) := by kernel_rfl

/-- Two strokes, compared. -/
def eqS (x y : St) : Bool := (x.k == y.k) && ((x.r.x == y.r.x) && ((x.r.y == y.r.y) && ((x.r.w == y.r.w) && ((x.r.h == y.r.h) && ((x.c.r == y.c.r) && ((x.c.g == y.c.g) && ((x.c.b == y.c.b) && ((x.c.a == y.c.a) && ((x.b.r == y.b.r) && ((x.b.g == y.b.g) && ((x.b.b == y.b.b) && ((x.b.a == y.b.a) && ((decide (x.t.toList = y.t.toList)) && (x.n == y.n))))))))))))))
theorem ztx_list (t : ByteArray) : t.toList = t.data.toList := by first | exact ByteArray.toList_eq t | exact Lib.toList_data t | simp
theorem ztx_inj {t u : ByteArray} : t.toList = u.toList ↔ t = u := by
  rw [ztx_list, ztx_list]
  constructor
  · intro h
    obtain ⟨d⟩ := t
    obtain ⟨e⟩ := u
    have h : d.toList = e.toList := h
    rw [Array.toList_inj.1 h]
  · intro h
    rw [h]
theorem eqS_iff (x y : St) : eqS x y = true ↔ x = y := by
  obtain ⟨xk, ⟨x1, x2, x3, x4⟩, ⟨x5, x6, x7, x8⟩, ⟨x9, x10, x11, x12⟩, xt, xn⟩ := x
  obtain ⟨yk, ⟨y1, y2, y3, y4⟩, ⟨y5, y6, y7, y8⟩, ⟨y9, y10, y11, y12⟩, yt, yn⟩ := y
  simp [eqS, and_assoc, ztx_inj]
theorem eqS_self (x : St) : eqS x x = true := (eqS_iff x x).2 rfl
theorem chainZ {p : Prop} [Decidable p] {A : Result Value} {b : Bool} {w : World} (h : A = .ok (.bool b) w) : (if p then A else .ok (.bool false) w) = .ok (.bool (decide p && b)) w := by
  by_cases hp : p <;> simp [hp, h]
theorem chainY {p : Prop} [Decidable p] {w : World} : (if p then Result.ok (Value.bool true) w else .ok (.bool false) w) = .ok (.bool (decide p)) w := by
  by_cases hp : p <;> simp [hp]
theorem chainN {p : Prop} [Decidable p] {A : Result Value} {b : Bool} {w : World} (h : A = .ok (.bool (!b)) w) : (if p then A else .ok (.bool true) w) = .ok (.bool (!(decide p && b))) w := by
  by_cases hp : p <;> simp [hp, h]
theorem chainM {p : Prop} [Decidable p] {w : World} : (if p then Result.ok (Value.bool false) w else .ok (.bool true) w) = .ok (.bool (!decide p)) w := by
  by_cases hp : p <;> simp [hp]

set_option maxHeartbeats 1000000 in
theorem eql_stroke (x y : St) (w : World) : (binOp .eql 31 (Value.agg #[.int .u8 x.k, .int .i64 x.r.x, .int .i64 x.r.y, .int .i64 x.r.w, .int .i64 x.r.h, .int .u8 x.c.r, .int .u8 x.c.g, .int .u8 x.c.b, .int .u8 x.c.a, .int .u8 x.b.r, .int .u8 x.b.g, .int .u8 x.b.b, .int .u8 x.b.a, .string x.t, .int .i64 x.n]) (Value.agg #[.int .u8 y.k, .int .i64 y.r.x, .int .i64 y.r.y, .int .i64 y.r.w, .int .i64 y.r.h, .int .u8 y.c.r, .int .u8 y.c.g, .int .u8 y.c.b, .int .u8 y.c.a, .int .u8 y.b.r, .int .u8 y.b.g, .int .u8 y.b.b, .int .u8 y.b.a, .string y.t, .int .i64 y.n])).run Try.prog w = .ok (.bool (eqS x y)) w := by
  simp [go_sem]
  exact chainZ (chainZ (chainZ (chainZ (chainZ (chainZ (chainZ (chainZ (chainZ (chainZ (chainZ (chainZ (chainZ (chainZ chainY)))))))))))))

set_option maxHeartbeats 1000000 in
theorem neq_stroke (x y : St) (w : World) : (binOp .neq 31 (Value.agg #[.int .u8 x.k, .int .i64 x.r.x, .int .i64 x.r.y, .int .i64 x.r.w, .int .i64 x.r.h, .int .u8 x.c.r, .int .u8 x.c.g, .int .u8 x.c.b, .int .u8 x.c.a, .int .u8 x.b.r, .int .u8 x.b.g, .int .u8 x.b.b, .int .u8 x.b.a, .string x.t, .int .i64 x.n]) (Value.agg #[.int .u8 y.k, .int .i64 y.r.x, .int .i64 y.r.y, .int .i64 y.r.w, .int .i64 y.r.h, .int .u8 y.c.r, .int .u8 y.c.g, .int .u8 y.c.b, .int .u8 y.c.a, .int .u8 y.b.r, .int .u8 y.b.g, .int .u8 y.b.b, .int .u8 y.b.a, .string y.t, .int .i64 y.n])).run Try.prog w = .ok (.bool (!eqS x y)) w := by
  simp [go_sem]
  exact chainN (chainN (chainN (chainN (chainN (chainN (chainN (chainN (chainN (chainN (chainN (chainN (chainN (chainN chainM)))))))))))))

theorem eql_co (a b : Co) (w : World) : (binOp .eql 29 (.agg #[.int .u8 a.r, .int .u8 a.g, .int .u8 a.b, .int .u8 a.a]) (.agg #[.int .u8 b.r, .int .u8 b.g, .int .u8 b.b, .int .u8 b.a])).run Try.prog w = .ok (.bool ((a.r == b.r) && ((a.g == b.g) && ((a.b == b.b) && (a.a == b.a))))) w := by
  simp [go_sem]
  exact chainZ (chainZ (chainZ chainY))
theorem neq_co0 (a : Co) (w : World) : (binOp .neq 29 (.agg #[.int .u8 a.r, .int .u8 a.g, .int .u8 a.b, .int .u8 a.a]) (.agg #[.int .u8 0, .int .u8 0, .int .u8 0, .int .u8 0])).run Try.prog w = .ok (.bool (!coE a)) w := by
  simp [go_sem]
  exact chainN (chainN (chainN chainM))
theorem neq_rc0 (a : Rc) (w : World) : (binOp .neq 27 (.agg #[.int .i64 a.x, .int .i64 a.y, .int .i64 a.w, .int .i64 a.h]) (.agg #[.int .i64 0, .int .i64 0, .int .i64 0, .int .i64 0])).run Try.prog w = .ok (.bool (!zZr a)) w := neq_rect a.x a.y a.w a.h 0 0 0 0 w

end Go.Proofs.Ytbghjmkgicdnoaa

/-
  Contracts of the document's answer for layer 13: what is wrong with a stroke.
-/
namespace Go.Proofs.Ytbghjmkgicdnoaa
open Go.RowKit

theorem ztx_ne {t : ByteArray} (h : t.size ≠ 0) : ¬ (t = ByteArray.empty) ∧ t.toList.isEmpty = false := by
  refine ⟨by rintro rfl; exact h rfl, ?_⟩
  rw [ztx_list]
  cases hd : t.data.toList with
  | nil => exact absurd (congrArg List.length hd) (by rw [Array.length_toList]; exact h)
  | cons _ _ => rfl
theorem ztx_nil {t : ByteArray} (h : t.size = 0) : t = ByteArray.empty := by
  obtain ⟨d⟩ := t
  have : d = #[] := Array.eq_empty_of_size_eq_zero h
  rw [this]; rfl

set_option maxRecDepth 20000 in
set_option maxHeartbeats 4000000 in
theorem one_wroK (s : St) (w : World) (hw : wroK s = true) (ht : s.t.size ≤ 9223372036854775807) :
    Calls Try.prog 73 #[(Value.agg #[.int .u8 s.k, .int .i64 s.r.x, .int .i64 s.r.y, .int .i64 s.r.w, .int .i64 s.r.h, .int .u8 s.c.r, .int .u8 s.c.g, .int .u8 s.c.b, .int .u8 s.c.a, .int .u8 s.b.r, .int .u8 s.b.g, .int .u8 s.b.b, .int .u8 s.b.a, .string s.t, .int .i64 s.n])] w fun e w' => e = .returned (.int .i64 2) ∧ Below w.heap.size w w' := by
  have HL : Hid (∀ c d, Below w.heap.size w ((w.alloc c).alloc d)) := fun c d => ((Below.refl _ w).alloc (Nat.le_refl _) _).alloc (by simp) _
  unfold wroK at hw
  simp only [Bool.or_eq_true, decide_eq_true_eq] at hw
  have cs : s.k < 1 ∨ (¬ s.k < 1 ∧ 5 < s.k) ∨ (¬ s.k < 1 ∧ ¬ 5 < s.k ∧ s.n < 0) ∨ (¬ s.k < 1 ∧ ¬ 5 < s.k ∧ ¬ s.n < 0 ∧ 1048576 < s.n) ∨ (¬ s.k < 1 ∧ ¬ 5 < s.k ∧ ¬ s.n < 0 ∧ ¬ 1048576 < s.n ∧ (65536 : Int) < (s.t.size : Int)) := by omega
  clear hw
  have E1 := neq_co0 s.b
  have E2 := neq_co0 s.c
  have E3 := neq_rc0 s.r
  generalize coE s.b = x1 at *
  generalize coE s.c = x2 at *
  generalize zZr s.r = x3 at *
  rcases cs with h1 | ⟨h1, h2⟩ | cs
  iterate 2
    · have k3 : (s.k == 3) = false := beq_eq_false_iff_ne.2 (by omega)
      have k4 : (s.k == 4) = false := beq_eq_false_iff_ne.2 (by omega)
      have k5 : (s.k == 5) = false := beq_eq_false_iff_ne.2 (by omega)
      go_enter Try.func73, Try.ntmps73
      go_wp2
      go_ret
      exact ⟨rfl, HL.out _ _⟩
  have hk : s.k = 1 ∨ s.k = 2 ∨ s.k = 3 ∨ s.k = 4 ∨ s.k = 5 := by omega
  have cs : s.n < 0 ∨ (¬ s.n < 0 ∧ 1048576 < s.n) ∨ (¬ s.n < 0 ∧ ¬ 1048576 < s.n ∧ (65536 : Int) < (s.t.size : Int)) := by omega
  rcases cs with h3 | ⟨h3, h4⟩ | ⟨h3, h4, h5⟩
  all_goals
    rcases hk with hk | hk | hk | hk | hk
  all_goals
    go_enter Try.func73, Try.ntmps73
    go_wp2
    go_ret
    exact ⟨rfl, HL.out _ _⟩

theorem wroK_no {s : St} (hw : wroK s = false) : ¬ s.k < 1 ∧ ¬ 5 < s.k ∧ ¬ s.n < 0 ∧ ¬ 1048576 < s.n ∧ ¬ (65536 : Int) < (s.t.size : Int) ∧ (s.k = 1 ∨ s.k = 2 ∨ s.k = 3 ∨ s.k = 4 ∨ s.k = 5) := by
  unfold wroK at hw
  simp only [Bool.or_eq_false_iff, decide_eq_false_iff_not] at hw
  omega
theorem wroF_yes {s : St} (hw : wroF s = true) (hk : s.k = 1 ∨ s.k = 2 ∨ s.k = 3 ∨ s.k = 4 ∨ s.k = 5) : (s.k ≠ 3 ∧ s.t.size ≠ 0) ∨ (s.k ≠ 3 ∧ s.t.size = 0 ∧ coE s.b = false) ∨ ((s.k = 4 ∨ s.k = 5) ∧ s.t.size = 0 ∧ coE s.b = true ∧ coE s.c = false) ∨ (s.k = 5 ∧ s.t.size = 0 ∧ coE s.b = true ∧ coE s.c = true ∧ zZr s.r = false) := by
  unfold wroF at hw
  by_cases hz : s.t.size = 0
  · cases hb : coE s.b <;> cases hc : coE s.c <;> cases hr : zZr s.r <;> rcases hk with k | k | k | k | k <;> simp [k, hz, hb, hc, hr] at hw ⊢
  · rcases hk with k | k | k | k | k <;> simp [k, hz] at hw ⊢
theorem wroF_not {s : St} (hw : wroF s = false) (hk : s.k = 1 ∨ s.k = 2 ∨ s.k = 3 ∨ s.k = 4 ∨ s.k = 5) : ((s.k = 1 ∨ s.k = 2) ∧ s.t.size = 0 ∧ coE s.b = true) ∨ s.k = 3 ∨ (s.k = 4 ∧ s.t.size = 0 ∧ coE s.b = true ∧ coE s.c = true) ∨ (s.k = 5 ∧ s.t.size = 0 ∧ coE s.b = true ∧ coE s.c = true ∧ zZr s.r = true) := by
  unfold wroF at hw
  by_cases hz : s.t.size = 0
  · cases hb : coE s.b <;> cases hc : coE s.c <;> cases hr : zZr s.r <;> rcases hk with k | k | k | k | k <;> simp [k, hz, hb, hc, hr] at hw ⊢
  · rcases hk with k | k | k | k | k <;> simp [k, hz] at hw ⊢

set_option maxRecDepth 20000 in
set_option maxHeartbeats 4000000 in
theorem one_wroF (s : St) (w : World) (hw : wroK s = false) (hf : wroF s = true) :
    Calls Try.prog 73 #[(Value.agg #[.int .u8 s.k, .int .i64 s.r.x, .int .i64 s.r.y, .int .i64 s.r.w, .int .i64 s.r.h, .int .u8 s.c.r, .int .u8 s.c.g, .int .u8 s.c.b, .int .u8 s.c.a, .int .u8 s.b.r, .int .u8 s.b.g, .int .u8 s.b.b, .int .u8 s.b.a, .string s.t, .int .i64 s.n])] w fun e w' => e = .returned (.int .i64 2) ∧ Below w.heap.size w w' := by
  have HL : Hid (∀ c d, Below w.heap.size w ((w.alloc c).alloc d)) := fun c d => ((Below.refl _ w).alloc (Nat.le_refl _) _).alloc (by simp) _
  obtain ⟨h1, h2, h3, h4, h5, hk⟩ := wroK_no hw
  have cs := wroF_yes hf hk
  have E1 := neq_co0 s.b
  have E2 := neq_co0 s.c
  have E3 := neq_rc0 s.r
  clear hw hf
  rcases cs with ⟨n3, hz⟩ | ⟨n3, hz, hb⟩ | ⟨hk, hz, hb, hc⟩ | ⟨hk, hz, hb, hc, hr⟩
  · obtain ⟨z1, z2⟩ := ztx_ne hz
    rcases hk with hk | hk | hk | hk | hk
    rotate_left 2
    · exact absurd hk n3
    all_goals
      clear n3
      go_enter Try.func73, Try.ntmps73
      go_wp2
      go_ret
      exact ⟨rfl, HL.out _ _⟩
  · rw [hb] at E1
    have hz2 := ztx_nil hz
    rcases hk with hk | hk | hk | hk | hk
    rotate_left 2
    · exact absurd hk n3
    all_goals
      clear n3
      go_enter Try.func73, Try.ntmps73
      go_wp2
      go_ret
      exact ⟨rfl, HL.out _ _⟩
  · rw [hb] at E1
    rw [hc] at E2
    have hz2 := ztx_nil hz
    rcases hk with hk | hk
    all_goals
      go_enter Try.func73, Try.ntmps73
      go_wp2
      go_ret
      exact ⟨rfl, HL.out _ _⟩
  · rw [hb] at E1
    rw [hc] at E2
    rw [hr] at E3
    have hz2 := ztx_nil hz
    go_enter Try.func73, Try.ntmps73
    go_wp2
    go_ret
    exact ⟨rfl, HL.out _ _⟩

set_option maxRecDepth 20000 in
set_option maxHeartbeats 4000000 in
theorem one_ok (s : St) (w : World) (hw : wroK s = false) (hf : wroF s = false) :
    Calls Try.prog 73 #[(Value.agg #[.int .u8 s.k, .int .i64 s.r.x, .int .i64 s.r.y, .int .i64 s.r.w, .int .i64 s.r.h, .int .u8 s.c.r, .int .u8 s.c.g, .int .u8 s.c.b, .int .u8 s.c.a, .int .u8 s.b.r, .int .u8 s.b.g, .int .u8 s.b.b, .int .u8 s.b.a, .string s.t, .int .i64 s.n])] w fun e w' => e = .returned (.int .i64 (if zMa s.r = true then 0 else 5)) ∧ Below w.heap.size w w' := by
  have HL : Hid (∀ c d, Below w.heap.size w ((w.alloc c).alloc d)) := fun c d => ((Below.refl _ w).alloc (Nat.le_refl _) _).alloc (by simp) _
  have HM : Hid (∀ W, Calls Try.prog 47 #[.agg #[.int .i64 s.r.x, .int .i64 s.r.y, .int .i64 s.r.w, .int .i64 s.r.h]] W fun e w' => e = .returned (.bool (zMa s.r)) ∧ Below W.heap.size W w') := fun W => rmay_any _ _ _ _ W
  obtain ⟨h1, h2, h3, h4, h5, hk⟩ := wroK_no hw
  have cs := wroF_not hf hk
  have E1 := neq_co0 s.b
  have E2 := neq_co0 s.c
  have E3 := neq_rc0 s.r
  clear hw hf hk
  generalize zMa s.r = b at *
  rcases cs with ⟨hk, hz, hb⟩ | hk | ⟨hk, hz, hb, hc⟩ | ⟨hk, hz, hb, hc, hr⟩
  · rw [hb] at E1
    have hz2 := ztx_nil hz
    rcases hk with hk | hk
    all_goals
      cases b
    all_goals
      go_enter Try.func73, Try.ntmps73
      go_wp2_with fail
      refine (HM.out _).mono ?_
      rintro e w1 ⟨rfl, hb1⟩
      have H1 : Hid (Below w.heap.size w w1) := (HL.out _ _).trans (hb1.mono (HL.out _ _).size)
      clear hb1
      go_wp2
      go_ret
      exact ⟨rfl, H1.out⟩
  · cases b
    all_goals
      go_enter Try.func73, Try.ntmps73
      go_wp2_with fail
      refine (HM.out _).mono ?_
      rintro e w1 ⟨rfl, hb1⟩
      have H1 : Hid (Below w.heap.size w w1) := (HL.out _ _).trans (hb1.mono (HL.out _ _).size)
      clear hb1
      go_wp2
      go_ret
      exact ⟨rfl, H1.out⟩
  · rw [hb] at E1
    rw [hc] at E2
    have hz2 := ztx_nil hz
    cases b
    all_goals
      go_enter Try.func73, Try.ntmps73
      go_wp2_with fail
      refine (HM.out _).mono ?_
      rintro e w1 ⟨rfl, hb1⟩
      have H1 : Hid (Below w.heap.size w w1) := (HL.out _ _).trans (hb1.mono (HL.out _ _).size)
      clear hb1
      go_wp2
      go_ret
      exact ⟨rfl, H1.out⟩
  · rw [hb] at E1
    rw [hc] at E2
    rw [hr] at E3
    have hz2 := ztx_nil hz
    cases b
    all_goals
      go_enter Try.func73, Try.ntmps73
      go_wp2_with fail
      refine (HM.out _).mono ?_
      rintro e w1 ⟨rfl, hb1⟩
      have H1 : Hid (Below w.heap.size w w1) := (HL.out _ _).trans (hb1.mono (HL.out _ _).size)
      clear hb1
      go_wp2
      go_ret
      exact ⟨rfl, H1.out⟩

theorem zone_any (s : St) (w : World) (ht : s.t.size ≤ 9223372036854775807) :
    Calls Try.prog 73 #[(Value.agg #[.int .u8 s.k, .int .i64 s.r.x, .int .i64 s.r.y, .int .i64 s.r.w, .int .i64 s.r.h, .int .u8 s.c.r, .int .u8 s.c.g, .int .u8 s.c.b, .int .u8 s.c.a, .int .u8 s.b.r, .int .u8 s.b.g, .int .u8 s.b.b, .int .u8 s.b.a, .string s.t, .int .i64 s.n])] w fun e w' => e = .returned (.int .i64 (oneE s)) ∧ Below w.heap.size w w' := by
  unfold oneE
  cases hw : wroK s
  · cases hf : wroF s
    · simpa using one_ok s w hw hf
    · exact one_wroF s w hw hf
  · exact one_wroK s w hw ht

end Go.Proofs.Ytbghjmkgicdnoaa

/-
  Contracts of the document's answer for layer 13: Check, Draws.
-/
namespace Go.Proofs.Ytbghjmkgicdnoaa
open Go.RowKit

/-- Texts as long as a machine's may be. -/
def Txs (l : List St) : Prop := ∀ s ∈ l, s.t.size ≤ 9223372036854775807

theorem clp_step {m : Nat} {s : St} {t : List St} {R : Int} (h : clpE m (s :: t) = R) : (oneE s ≠ 0 → R = oneE s) ∧ (oneE s = 0 → s.k = 5 → m = 0 → R = 130) ∧ (oneE s = 0 → ¬ (s.k = 5 ∧ m = 0) → clpE (opn m s) t = R) := by
  unfold clpE at h
  refine ⟨fun h1 => ?_, fun h1 h2 h3 => ?_, fun h1 h2 => ?_⟩
  · rw [if_pos h1] at h; exact h.symm
  · rw [if_neg (by simp [h1]), if_pos ⟨h2, h3⟩] at h; exact h.symm
  · rw [if_neg (by simp [h1]), if_neg h2] at h; exact h

set_option maxRecDepth 20000 in
set_option maxHeartbeats 4000000 in
theorem zcheck_any (l : List St) (v : Value) (w : World) (hv : LsS w v l) (ht : Txs l) :
    Calls Try.prog 46 #[v] w fun e w' => e = .returned (.int .i64 (chkS l)) ∧ Below w.heap.size w w' := by
  obtain ⟨oa, cap, rfl, hc, hg⟩ := hv
  have HG : Hid (0 < l.length → ∃ g o, oa = some ⟨g, o, none⟩ ∧ g < w.heap.size ∧ ∀ i (h : i < l.length), StAt w g (o + i * 15) l[i]) := hg
  have HT : Hid (Txs l) := ht
  clear hg ht
  unfold chkS
  by_cases hm : 16384 < l.length
  · rw [if_pos hm]
    go_enter Try.func46, Try.ntmps46
    go_wp2
    go_ret
    exact ⟨rfl, Below.refl _ _⟩
  rw [if_neg hm]
  obtain ⟨R, hR⟩ : ∃ R : Int, clpE 0 l = R := ⟨_, rfl⟩
  rw [hR]
  go_enter Try.func46, Try.ntmps46
  go_wp2_with fail
  go_loopw [3, 4] (fun n i wr => ∃ m k : Nat, n = .int .i64 m ∧ m ≤ k ∧ i = .int .i64 k ∧ k ≤ l.length ∧ Hid (clpE m (l.drop k) = R ∧ Below w.heap.size w wr)) (fun _ i _ => l.length - (intOf i).toNat)
  case atStart => exact ⟨0, 0, rfl, Nat.le_refl _, rfl, Nat.zero_le _, hR, Below.refl _ _⟩
  case round =>
    clear hR
    obtain ⟨m, k, rfl, hmk, rfl, hk, HK⟩ := hrel
    by_cases hlt : k < l.length
    · obtain ⟨g, o, rfl, hg, hat⟩ := HG.out (by omega)
      have hx := (hat k hlt).kept (w' := wr) fun j => HK.out.2.cell (p := ⟨g, j, none⟩) hg
      have hst := clp_step (show clpE m (l[k] :: l.drop (k + 1)) = R by rw [← List.drop_eq_getElem_cons hlt]; exact HK.out.1)
      have HR : Hid (∀ w, Calls Try.prog 73 #[(Value.agg #[.int .u8 l[k].k, .int .i64 l[k].r.x, .int .i64 l[k].r.y, .int .i64 l[k].r.w, .int .i64 l[k].r.h, .int .u8 l[k].c.r, .int .u8 l[k].c.g, .int .u8 l[k].c.b, .int .u8 l[k].c.a, .int .u8 l[k].b.r, .int .u8 l[k].b.g, .int .u8 l[k].b.b, .int .u8 l[k].b.a, .string l[k].t, .int .i64 l[k].n])] w fun e w' => e = .returned (.int .i64 (oneE l[k])) ∧ Below w.heap.size w w') := fun w => zone_any _ w (HT.out _ (List.getElem_mem hlt))
      have HX : Hid (∀ W, Below wr.heap.size wr W → W.cell? ⟨g, o + k * 15, none⟩ = some (.int .u8 l[k].k) ∧ Below w.heap.size w W) := fun W h => ⟨(h.cell (p := ⟨g, o + k * 15, none⟩) (Nat.lt_of_lt_of_le hg HK.out.2.size)).trans hx.1, HK.out.2.trans (h.mono HK.out.2.size)⟩
      have hcs := oneE_cases l[k]
      have h45 : oneE l[k] = 0 → l[k].k = 1 ∨ l[k].k = 2 ∨ l[k].k = 3 ∨ l[k].k = 4 ∨ l[k].k = 5 := fun h => (oneE_zero h).2.1
      have HS : Hid ((oneE l[k] ≠ 0 → R = oneE l[k]) ∧ (oneE l[k] = 0 → l[k].k = 5 → m = 0 → R = 130) ∧ (oneE l[k] = 0 → ¬ (l[k].k = 5 ∧ m = 0) → clpE (opn m l[k]) (l.drop (k + 1)) = R)) := hst
      have HO : Hid ((l[k].k = 4 → opn m l[k] = m + 1) ∧ (l[k].k = 5 → opn m l[k] = m - 1) ∧ (l[k].k < 4 → opn m l[k] = m)) := by
        unfold Hid opn
        exact ⟨fun h => by rw [if_pos h], fun h => by rw [if_neg (by omega), if_pos h], fun h => by rw [if_neg (by omega), if_neg (by omega)]⟩
      clear hat hst HT
      generalize oneE l[k] = c at *
      generalize l[k] = x at *
      obtain ⟨x0, x1, x2, x3, x4, x5, x6, x7, x8, x9, x10, x11, x12, x13, x14⟩ := hx
      rcases hcs with rfl | rfl | rfl
      · have hk5 := h45 rfl
        clear h45
        go_wp2_with fail
        refine (HR.out _).mono ?_
        rintro e w1 ⟨rfl, hb⟩
        obtain ⟨y0, hB⟩ := HX.out _ hb
        have H1 : Hid (Below w.heap.size w w1) := hB
        clear hb hB x0 x1 x2 x3 x4 x5 x6 x7 x8 x9 x10 x11 x12 x13 x14 HX HR
        have HS2 : Hid (x.k < 4 → clpE m (l.drop (k + 1)) = R) := fun h => by
          have q := HS.out.2.2 (by simp) (fun e => by omega)
          rwa [HO.out.2.2 h] at q
        have HS4 : Hid (x.k = 4 → clpE (m + 1) (l.drop (k + 1)) = R) := fun h => by
          have q := HS.out.2.2 (by simp) (fun e => by omega)
          rwa [HO.out.1 h] at q
        have HS5 : Hid (x.k = 5 → m = 0 → R = 130) := fun h h2 => HS.out.2.1 (by simp) h h2
        have HS6 : Hid (x.k = 5 → m ≠ 0 → clpE (m - 1) (l.drop (k + 1)) = R) := fun h h2 => by
          have q := HS.out.2.2 (by simp) (fun e => h2 e.2)
          rwa [HO.out.2.1 h] at q
        clear HS HO
        rcases hk5 with k1 | k1 | k1 | k1 | k1
        iterate 3
          · have HF := HS2.out (by omega)
            have HF' : Hid (clpE m (l.drop (k + 1)) = R ∧ Below w.heap.size w w1) := ⟨HF, H1.out⟩
            clear HF HS2 HS4 HS5 HS6
            go_wp2
            go_roundw
            case rel => exact ⟨m, k + 1, rfl, by omega, by go_num, by omega, HF'⟩
            case measure => simp [intOf]; omega
        · have HF := HS4.out k1
          have HF' : Hid (clpE (m + 1) (l.drop (k + 1)) = R ∧ Below w.heap.size w w1) := ⟨HF, H1.out⟩
          clear HF HS2 HS4 HS5 HS6
          go_wp2
          go_roundw
          case rel => exact ⟨m + 1, k + 1, by go_num, by omega, by go_num, by omega, HF'⟩
          case measure => simp [intOf]; omega
        · by_cases hm0 : m = 0
          · have e := HS5.out k1 hm0
            subst hm0
            subst e
            clear HS2 HS4 HS5 HS6
            go_wp2
            go_ret
            exact ⟨rfl, H1.out⟩
          · have HF := HS6.out k1 hm0
            obtain ⟨m', rfl⟩ : ∃ m', m = m' + 1 := ⟨m - 1, by omega⟩
            have HF' : Hid (clpE m' (l.drop (k + 1)) = R ∧ Below w.heap.size w w1) := ⟨HF, H1.out⟩
            clear HF HS2 HS4 HS5 HS6 hm0
            go_wp2
            go_roundw
            case rel => exact ⟨m', k + 1, by go_num, by omega, by go_num, by omega, HF'⟩
            case measure => simp [intOf]; omega
      iterate 2
        · have e := HS.out.1 (by decide)
          subst e
          clear h45 HS HO
          go_wp2_with fail
          refine (HR.out _).mono ?_
          rintro e w1 ⟨rfl, hb⟩
          obtain ⟨y0, hB⟩ := HX.out _ hb
          have H1 : Hid (Below w.heap.size w w1) := hB
          clear hb hB
          go_wp2
          go_ret
          exact ⟨rfl, H1.out⟩
    · obtain rfl : k = l.length := by omega
      have hR := HK.out.1
      rw [List.drop_length] at hR
      have H1 : Hid (Below w.heap.size w wr) := HK.out.2
      unfold clpE at hR
      by_cases hm0 : 0 < m
      · rw [if_pos hm0] at hR
        subst hR
        clear HK HT
        go_wp2
        go_ret
        exact ⟨rfl, H1.out⟩
      · rw [if_neg hm0] at hR
        subst hR
        obtain rfl : m = 0 := by omega
        clear HK HT
        go_wp2
        go_ret
        exact ⟨rfl, H1.out⟩

end Go.Proofs.Ytbghjmkgicdnoaa

/-
  Contracts of package geom: whether one lies in another, over another.
-/
namespace Go.Proofs.Ytbghjmkgicdnoaa
open Go.RowKit

set_option maxRecDepth 10000 in
set_option maxHeartbeats 1000000 in
theorem in_any (ax ay aw ah bx by' bw bh : Int) (w : World) (hax : I64 ax) (hay : I64 ay) (hbx : I64 bx) (hby : I64 by') :
    Calls Try.prog 34 #[.agg #[.int .i64 ax, .int .i64 ay, .int .i64 aw, .int .i64 ah], .agg #[.int .i64 bx, .int .i64 by', .int .i64 bw, .int .i64 bh]] w fun e w' => e = .returned (.bool (inB ax ay aw ah bx by' bw bh)) ∧ Below w.heap.size w w' := by
  cases h1 : emptyB ax ay aw ah
  · have hE : Hid (∀ w, Calls Try.prog 50 #[.agg #[.int .i64 ax, .int .i64 ay, .int .i64 aw, .int .i64 ah]] w fun e w' => e = .returned (.bool false) ∧ Below w.heap.size w w') := fun w => by
      have := empty_any ax ay aw ah w hax hay
      rwa [h1] at this
    go_enter Try.func34, Try.ntmps34
    go_wp2_with fail
    obtain ⟨A, B, L⟩ := boxes_rr w ax ay aw ah bx by' bw bh 27 27
    have ne := gw_ne L
    have d0 := fun t => (gw4 A t).1
    have d1 := fun t => (gw4 A t).2.1
    have d2 := fun t => (gw4 A t).2.2.1
    have d3 := fun t => (gw4 A t).2.2.2
    have e0 := fun t => (gw4 B t).1
    have e1 := fun t => (gw4 B t).2.1
    have e2 := fun t => (gw4 B t).2.2.1
    have e3 := fun t => (gw4 B t).2.2.2
    have hq := eql_rect
    refine wp_region_gw (by kernel_rfl) (by kernel_rfl) ?_
    repeat (go_big_quiet_step (first
      | (go_at_call 50; exact gw_call (hE.out _))
      | (go_at_call 56; exact gw_call (meet_any _ _ _ _ _ _ _ _ _ hax hay hbx hby))))
    refine wpQuiet_nil ?_
    rintro _ ⟨t, rfl⟩
    go_wp2
    go_ret
    refine ⟨ret_bool ?_, L.trans (t.below.mono L.size)⟩
    unfold inB eqB
    simp [h1]
  · have hE : Hid (∀ w, Calls Try.prog 50 #[.agg #[.int .i64 ax, .int .i64 ay, .int .i64 aw, .int .i64 ah]] w fun e w' => e = .returned (.bool true) ∧ Below w.heap.size w w') := fun w => by
      have := empty_any ax ay aw ah w hax hay
      rwa [h1] at this
    go_enter Try.func34, Try.ntmps34
    go_wp2_with fail
    obtain ⟨A, B, L⟩ := boxes_rr w ax ay aw ah bx by' bw bh 27 27
    have ne := gw_ne L
    have d0 := fun t => (gw4 A t).1
    have d1 := fun t => (gw4 A t).2.1
    have d2 := fun t => (gw4 A t).2.2.1
    have d3 := fun t => (gw4 A t).2.2.2
    have e0 := fun t => (gw4 B t).1
    have e1 := fun t => (gw4 B t).2.1
    have e2 := fun t => (gw4 B t).2.2.1
    have e3 := fun t => (gw4 B t).2.2.2
    have hq := eql_rect
    refine wp_region_gw (by kernel_rfl) (by kernel_rfl) ?_
    repeat (go_big_quiet_step (first
      | (go_at_call 50; exact gw_call (hE.out _))
      | (go_at_call 56; exact gw_call (meet_any _ _ _ _ _ _ _ _ _ hax hay hbx hby))))
    refine wpQuiet_nil ?_
    rintro _ ⟨t, rfl⟩
    go_wp2
    go_ret
    refine ⟨ret_bool ?_, L.trans (t.below.mono L.size)⟩
    unfold inB eqB
    simp [h1]

set_option maxRecDepth 10000 in
set_option maxHeartbeats 1000000 in
theorem over_any (ax ay aw ah bx by' bw bh : Int) (w : World) (hax : I64 ax) (hay : I64 ay) (hbx : I64 bx) (hby : I64 by') :
    Calls Try.prog 71 #[.agg #[.int .i64 ax, .int .i64 ay, .int .i64 aw, .int .i64 ah], .agg #[.int .i64 bx, .int .i64 by', .int .i64 bw, .int .i64 bh]] w fun e w' => e = .returned (.bool (overB ax ay aw ah bx by' bw bh)) ∧ Below w.heap.size w w' := by
  go_enter Try.func71, Try.ntmps71
  go_wp2_with fail
  obtain ⟨A, B, L⟩ := boxes_rr w ax ay aw ah bx by' bw bh 27 27
  refine (meet_any _ _ _ _ _ _ _ _ _ hax hay hbx hby).mono ?_
  rintro e w1 ⟨rfl, hb⟩
  replace L := L.trans (hb.mono L.size)
  clear A B hb
  go_wp2
  all_goals
    go_ret
    refine ⟨ret_bool ?_, L⟩
    unfold overB eqB
    simp_all

end Go.Proofs.Ytbghjmkgicdnoaa

/-
  Contracts: two corners make a rectangle, by the program and by the document's answer.
-/
namespace Go.Proofs.Ytbghjmkgicdnoaa
open Go.RowKit

theorem corn_bd {x y : Int} (h : cornB x y = true) : -16384 ≤ x ∧ x ≤ 16384 ∧ -16384 ≤ y ∧ y ≤ 16384 := by
  unfold cornB at h
  rw [Bool.and_eq_true, wit_iff, wit_iff] at h
  omega

theorem mnmx (a b : Int) : (a ≤ b ∧ a < b ∧ min a b = a ∧ max a b = b) ∨ (a ≤ b ∧ b ≤ a ∧ min a b = a ∧ max a b = a) ∨ (b ≤ a ∧ b < a ∧ min a b = b ∧ max a b = a) := by omega

end Go.Proofs.Ytbghjmkgicdnoaa

/-
  Contracts of the document's answer: what two have together; the least one that has both; whether one lies in another, over another.
-/
namespace Go.Proofs.Ytbghjmkgicdnoaa
open Go.RowKit
attribute [local go_sem] ite_max ite_min

end Go.Proofs.Ytbghjmkgicdnoaa

/-
  Contracts of the document's answer for layer 13: the rectangles in which strokes show.
-/
namespace Go.Proofs.Ytbghjmkgicdnoaa
open Go.RowKit

/-- Rectangles that a call made. -/
def OwR (lo : Nat) (w : World) (v : Value) (rs : List Rc) : Prop := w.ownsRow lo 27 4 v rs.length (flat rs)
theorem OwR.nil (lo : Nat) (w : World) : OwR lo w (.slice none 0 0) [] := World.ownsRow_nil _ _ _ _
theorem OwR.below {lo : Nat} {w w' : World} {v : Value} {rs : List Rc} (h : OwR lo w v rs) (hb : Below w.heap.size w w') : OwR lo w' v rs := row_below h hb
theorem OwS.below {lo : Nat} {w w' : World} {v : Value} {l : List St} (h : OwS lo w v l) (hb : Below w.heap.size w w') : OwS lo w' v l := row_below h hb
theorem OwR.weaken {lo lo' : Nat} {w : World} {v : Value} {rs : List Rc} (h : OwR lo w v rs) (hb : lo' ≤ lo) : OwR lo' w v rs := row_weaken h hb
theorem OwS.weaken {lo lo' : Nat} {w : World} {v : Value} {l : List St} (h : OwS lo w v l) (hb : lo' ≤ lo) : OwS lo' w v l := row_weaken h hb
/-- Two values that lie in other blocks. -/
def Apt (u v : Value) : Prop := ∀ g, u.ownBlock = some g → v.ownBlock ≠ some g
theorem Apt.ne {u v : Value} (h : Apt u v) : v.ownBlock = none ∨ v.ownBlock ≠ u.ownBlock := by
  cases e : v.ownBlock with
  | none => exact .inl rfl
  | some g => exact .inr fun c => h g c.symm e
theorem Apt.turn {u v : Value} (h : Apt u v) : Apt v u := fun g hv hu => h g hu hv
/-- One of two grows: they stay apart. -/
theorem Apt.grow {u v : Value} {lo H g n cap : Nat} {W : World} {e : TypeId} {size m : Nat} {xs : List Value} (h : Apt u v) (hv : W.ownsRow lo e size v m xs) (hH : W.heap.size ≤ H) (hl : u.ownBlock = some g ∨ g = H) : Apt (.slice (some ⟨g, 0, none⟩) n cap) v := by
  intro q hq hvq
  have e1 : q = g := by
    have : (Value.slice (some ⟨g, 0, none⟩) n cap).ownBlock = some g := rfl
    rw [this] at hq
    injection hq with hq
    exact hq.symm
  subst e1
  rcases hl with hl | hl
  · exact h q hl hvq
  · have := (row_lt hv q hvq).2
    omega
/-- The last thing of a row left away. -/
theorem own_cut {w : World} {base : Nat} {e : TypeId} {size n g cap : Nat} {xs ys : List Value} (h : w.ownsRow base e size (.slice (some ⟨g, 0, none⟩) (n + 1) cap) (n + 1) (xs ++ ys)) (hx : xs.length = n * size) : w.ownsRow base e size (.slice (some ⟨g, 0, none⟩) n cap) n xs := by
  obtain ⟨hl, ⟨h, _⟩ | ⟨g', cap', cur, h, hb, hc, h1, h2, h3, h4⟩⟩ := h
  · cases h
  · injection h with e1 _ e3
    injection e1 with e1
    injection e1 with e1 _ _
    subst e1 e3
    refine ⟨hx, .inr ⟨g, cap, cur, rfl, hb, hc, by omega, h2, h3, ?_⟩⟩
    have h5 : (cur.toList.take ((n + 1) * size)).take (n * size) = (xs ++ ys).take (n * size) := by rw [h4]
    rw [List.take_take, Nat.min_eq_left (Nat.mul_le_mul_right size (by omega)), List.take_left' hx] at h5
    exact h5

/-- What lies there while the rectangles are gathered. -/
structure ShW (w : World) (l : List St) (k : Nat) (cs : List Rc) (u v : Value) (W : World) : Prop where
  o : OwR w.heap.size W u (((ann [] l).map Prod.snd).take k)
  c : OwR w.heap.size W v cs.reverse
  a : Apt u v
  b : Below w.heap.size w W
  d : (ann [] l).drop k = ann cs (l.drop k)
  e : clpE cs.length (l.drop k) = 0
theorem ShW.below {w : World} {l : List St} {k : Nat} {cs : List Rc} {u v : Value} {W W' : World} (h : ShW w l k cs u v W) (hb : Below W.heap.size W W') : ShW w l k cs u v W' := ⟨h.o.below hb, h.c.below hb, h.a, h.b.trans (hb.mono h.b.size), h.d, h.e⟩
theorem sh_next {l : List St} {k : Nat} {cs : List Rc} (hk : k < l.length) (hd : (ann [] l).drop k = ann cs (l.drop k)) (he : clpE cs.length (l.drop k) = 0) :
    ((ann [] l).map Prod.snd).take (k + 1) = ((ann [] l).map Prod.snd).take k ++ [shR cs l[k]] ∧ (ann [] l).drop (k + 1) = ann (nxC cs l[k]) (l.drop (k + 1)) ∧ clpE (nxC cs l[k]).length (l.drop (k + 1)) = 0 ∧ (l[k].k = 5 → cs ≠ []) ∧ oneE l[k] = 0 := by
  rw [List.drop_eq_getElem_cons hk] at hd he
  have hk' : k < (ann [] l).length := by rw [ann_len]; exact hk
  have hk2 : k < ((ann [] l).map Prod.snd).length := by rw [List.length_map]; exact hk'
  rw [List.drop_eq_getElem_cons hk'] at hd
  have hd : (ann [] l)[k] :: (ann [] l).drop (k + 1) = (l[k], shR cs l[k]) :: ann (nxC cs l[k]) (l.drop (k + 1)) := hd
  injection hd with hd1 hd2
  obtain ⟨e1, e2, e3⟩ := clpE_cons he
  refine ⟨?_, hd2, by rw [nxC_len]; exact e3, fun h5 hn => e2 ⟨h5, by rw [hn]; rfl⟩, e1⟩
  rw [← List.take_append_getElem hk2, List.getElem_map, hd1]
theorem clp_le : ∀ (l : List St) (n : Nat), clpE n l = 0 → n ≤ l.length
  | [], n, h => by
    unfold clpE at h
    split at h
    · cases h
    · omega
  | s :: l, n, h => by
    obtain ⟨_, _, h3⟩ := clpE_cons h
    have := clp_le l _ h3
    have e : n ≤ opn n s + 1 := by
      unfold opn
      by_cases h4 : s.k = 4
      · rw [if_pos h4]; omega
      · rw [if_neg h4]
        split <;> omega
    rw [List.length_cons]
    omega
theorem own_last {lo : Nat} {w : World} {gc cc : Nat} {c : Rc} {t : List Rc} (h : OwR lo w (.slice (some ⟨gc, 0, none⟩) (c :: t).length cc) (c :: t).reverse) : RcAt w gc (t.length * 4) c := by
  unfold OwR at h
  rw [List.length_reverse] at h
  have hk : t.length < (c :: t).reverse.length := by simp
  have e : (c :: t).reverse[t.length] = c := by simp
  obtain ⟨f0, f1, f2, f3⟩ := flat_at (c :: t).reverse t.length hk
  rw [e] at f0 f1 f2 f3
  have hl : (c :: t).length * 4 = t.length * 4 + 4 := by simp; omega
  exact ⟨(own_cell h _ (by omega)).trans f0, (own_cell h _ (by omega)).trans f1, (own_cell h _ (by omega)).trans f2, (own_cell h _ (by omega)).trans f3⟩
theorem Bk.put4 {W : World} {b : Nat} {a0 a1 a2 a3 : Value} {t : TypeId} (h : Bk W b #[a0, a1, a2, a3] t) (x y z u : Value) : Bk ((((W.setCell ⟨b, 0, none⟩ x).setCell ⟨b, 1, none⟩ y).setCell ⟨b, 2, none⟩ z).setCell ⟨b, 3, none⟩ u) b #[x, y, z, u] t := (((h.put 0 x).put 1 y).put 2 z).put 3 u
theorem below_put4 {B : Nat} {w W : World} (h : Below B w W) {b : Nat} (hb : B ≤ b) (x y z u : Value) : Below B w ((((W.setCell ⟨b, 0, none⟩ x).setCell ⟨b, 1, none⟩ y).setCell ⟨b, 2, none⟩ z).setCell ⟨b, 3, none⟩ u) :=
  (((h.setCell (p := ⟨b, 0, none⟩) hb x).setCell (p := ⟨b, 1, none⟩) hb y).setCell (p := ⟨b, 2, none⟩) hb z).setCell (p := ⟨b, 3, none⟩) hb u
theorem Bk.at4 {W : World} {b : Nat} {a0 a1 a2 a3 : Value} {t : TypeId} (h : Bk W b #[a0, a1, a2, a3] t) : W.cell? ⟨b, 0, none⟩ = some a0 ∧ W.cell? ⟨b, 1, none⟩ = some a1 ∧ W.cell? ⟨b, 2, none⟩ = some a2 ∧ W.cell? ⟨b, 3, none⟩ = some a3 := ⟨by rw [h.cell]; rfl, by rw [h.cell]; rfl, by rw [h.cell]; rfl, by rw [h.cell]; rfl⟩
/-- A rectangle laid behind one of two rows. -/
theorem own_grow {lo : Nat} {W W4 : World} {o : Obj} {u v : Value} {rs cs : List Rc} {r : Rc} {k g4 cap4 : Nat} (hk : k = rs.length) (hv : OwR lo W v cs) (ha : Apt u v)
    (hown : W4.ownsRow lo 27 4 (.slice (some ⟨g4, 0, none⟩) (k + 1) cap4) (k + 1) (flat rs ++ [.int .i64 r.x, .int .i64 r.y, .int .i64 r.w, .int .i64 r.h])) (hgrow : (W.alloc o).grownBy W4 u.ownBlock) (hlies : u.ownBlock = some g4 ∨ g4 = W.heap.size + 1) :
    OwR lo W4 (.slice (some ⟨g4, 0, none⟩) (k + 1) cap4) (rs ++ [r]) ∧ OwR lo W4 v cs ∧ Apt (.slice (some ⟨g4, 0, none⟩) (k + 1) cap4) v := by
  have a1 : OwR lo (W.alloc o) v cs := hv.below ((Below.refl _ _).alloc (Nat.le_refl _) _)
  refine ⟨?_, World.ownsRow.kept a1 hgrow ha.ne, Apt.grow ha a1 (by simp) hlies⟩
  unfold OwR
  rw [List.length_append, List.length_singleton, ← hk, flat_app, flat_one]
  exact hown
theorem rc_four (r : Rc) : [Value.int .i64 r.x, .int .i64 r.y, .int .i64 r.w, .int .i64 r.h] = flat [r] := (flat_one r).symm

end Go.Proofs.Ytbghjmkgicdnoaa
