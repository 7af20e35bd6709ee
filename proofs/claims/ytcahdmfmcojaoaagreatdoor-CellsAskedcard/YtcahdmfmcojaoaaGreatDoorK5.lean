/-
  Cells in memory: lists of them read and owned; cells compared.
-/
import Derived.Test.YtcahdmfmcojaoaaGreatDoorK3
import Derived.Test.YtcahdmfmcojaoaaGreatDoorK0
import Derived.Test.YtcahdmfmcojaoaaGreatDoorK4
import Derived.Laws.AppendOwnNone
namespace Go.Proofs.YtcahdmfmcojaoaaGreatDoor
open Go.RowKit

def cCel (s : Ce) : List Value := [.int .i32 s.r, .int .u8 s.c.r, .int .u8 s.c.g, .int .u8 s.c.b, .int .u8 s.c.a, .int .u8 s.b.r, .int .u8 s.b.g, .int .u8 s.b.b, .int .u8 s.b.a, .bool s.wd, .bool s.tl]
theorem cCel_len (s : Ce) : (cCel s).length = 11 := rfl
def flatC : List Ce → List Value
  | [] => []
  | s :: l => cCel s ++ flatC l
theorem flatC_app (l m : List Ce) : flatC (l ++ m) = flatC l ++ flatC m := by
  induction l with
  | nil => rfl
  | cons s l ih => show cCel s ++ flatC (l ++ m) = (cCel s ++ flatC l) ++ flatC m; rw [ih, List.append_assoc]
theorem flatC_one (s : Ce) : flatC [s] = cCel s := List.append_nil _
theorem flatC_len (l : List Ce) : (flatC l).length = l.length * 11 := by
  induction l with
  | nil => rfl
  | cons s l ih => show (cCel s ++ flatC l).length = _; rw [List.length_append, ih, cCel_len, List.length_cons]; omega
theorem flatC_at (l : List Ce) (k : Nat) (h : k < l.length) (j : Nat) (hj : j < 11) : (flatC l)[k * 11 + j]? = (cCel l[k])[j]? := by
  induction l generalizing k with
  | nil => simp at h
  | cons s l ih =>
    cases k with
    | zero =>
      show (cCel s ++ flatC l)[0 * 11 + j]? = (cCel s)[j]?
      rw [Nat.zero_mul, Nat.zero_add, List.getElem?_append_left (by rw [cCel_len]; exact hj)]
    | succ k =>
      have h' : k < l.length := by simpa using h
      show (cCel s ++ flatC l)[(k + 1) * 11 + j]? = (cCel l[k])[j]?
      rw [List.getElem?_append_right (by rw [cCel_len]; omega), cCel_len, ← ih k h']
      congr 1
      omega
theorem oneC (s : Ce) : ∀ u ∈ cCel s, u.oneCell' = true := by
  intro u hu
  simp only [cCel, List.mem_cons, List.not_mem_nil, or_false] at hu
  rcases hu with rfl | rfl | rfl | rfl | rfl | rfl | rfl | rfl | rfl | rfl | rfl <;> rfl
theorem onesC : ∀ (l : List Ce), ∀ u ∈ flatC l, u.oneCell' = true
  | [], u, hu => by cases hu
  | s :: l, u, hu => by
    rcases List.mem_append.1 hu with h | h
    · exact oneC s u h
    · exact onesC l u h

def CeAt (w : World) (g p : Nat) (s : Ce) : Prop := w.cell? ⟨g, p, none⟩ = some (.int .i32 s.r) ∧ w.cell? ⟨g, p + 1, none⟩ = some (.int .u8 s.c.r) ∧ w.cell? ⟨g, p + 2, none⟩ = some (.int .u8 s.c.g) ∧ w.cell? ⟨g, p + 3, none⟩ = some (.int .u8 s.c.b) ∧ w.cell? ⟨g, p + 4, none⟩ = some (.int .u8 s.c.a) ∧ w.cell? ⟨g, p + 5, none⟩ = some (.int .u8 s.b.r) ∧ w.cell? ⟨g, p + 6, none⟩ = some (.int .u8 s.b.g) ∧ w.cell? ⟨g, p + 7, none⟩ = some (.int .u8 s.b.b) ∧ w.cell? ⟨g, p + 8, none⟩ = some (.int .u8 s.b.a) ∧ w.cell? ⟨g, p + 9, none⟩ = some (.bool s.wd) ∧ w.cell? ⟨g, p + 10, none⟩ = some (.bool s.tl)
theorem ceat_iff {w : World} {g p : Nat} {s : Ce} : CeAt w g p s ↔ ∀ j, j < 11 → w.cell? ⟨g, p + j, none⟩ = (cCel s)[j]? := by
  constructor
  · rintro ⟨h0, h1, h2, h3, h4, h5, h6, h7, h8, h9, h10⟩ j hj
    match j, hj with
    | 0, _ => exact h0
    | 1, _ => exact h1
    | 2, _ => exact h2
    | 3, _ => exact h3
    | 4, _ => exact h4
    | 5, _ => exact h5
    | 6, _ => exact h6
    | 7, _ => exact h7
    | 8, _ => exact h8
    | 9, _ => exact h9
    | 10, _ => exact h10
  · intro h
    exact ⟨h 0 (by decide), h 1 (by decide), h 2 (by decide), h 3 (by decide), h 4 (by decide), h 5 (by decide), h 6 (by decide), h 7 (by decide), h 8 (by decide), h 9 (by decide), h 10 (by decide)⟩
theorem CeAt.kept {w w' : World} {g p : Nat} {s : Ce} (h : CeAt w g p s) (k : ∀ o, w'.cell? ⟨g, o, none⟩ = w.cell? ⟨g, o, none⟩) : CeAt w' g p s := by
  rw [ceat_iff] at h ⊢
  intro j hj
  rw [k, h j hj]
def LsC (w : World) (v : Value) (l : List Ce) : Prop := ∃ oa cap, v = .slice oa l.length cap ∧ l.length ≤ cap ∧ (0 < l.length → ∃ g o, oa = some ⟨g, o, none⟩ ∧ g < w.heap.size ∧ ∀ i (h : i < l.length), CeAt w g (o + i * 11) l[i])
theorem LsC.below {w w' : World} {v : Value} {l : List Ce} (h : LsC w v l) (hb : Below w.heap.size w w') : LsC w' v l := by
  obtain ⟨oa, cap, e, hc, hg⟩ := h
  refine ⟨oa, cap, e, hc, fun hp => ?_⟩
  obtain ⟨g, o, e1, g1, g2⟩ := hg hp
  exact ⟨g, o, e1, Nat.lt_of_lt_of_le g1 hb.size, fun i hi => (g2 i hi).kept fun j => hb.cell (p := ⟨g, j, none⟩) g1⟩
theorem lsc_nil (w : World) : LsC w (.slice none 0 0) [] := ⟨none, 0, rfl, Nat.le_refl _, fun h => absurd h (Nat.lt_irrefl 0)⟩
def OwC (lo : Nat) (w : World) (v : Value) (l : List Ce) : Prop := w.ownsRow lo 34 11 v l.length (flatC l)
theorem OwC.nil (lo : Nat) (w : World) : OwC lo w (.slice none 0 0) [] := World.ownsRow_nil _ _ _ _
theorem OwC.lsc {lo : Nat} {w : World} {v : Value} {l : List Ce} (h : OwC lo w v l) : LsC w v l := by
  obtain ⟨hl, ⟨rfl, h0⟩ | ⟨g, cap, cur, rfl, hb, hc, h1, h2, h3, h4⟩⟩ := id h
  · obtain rfl : l = [] := List.length_eq_zero_iff.1 h0
    exact lsc_nil w
  · refine ⟨_, cap, rfl, h1, fun _ => ⟨g, 0, rfl, (Array.getElem?_eq_some_iff.1 hc).1, fun i hi => ?_⟩⟩
    rw [ceat_iff]
    intro j hj
    rw [Nat.zero_add, own_cell h (i * 11 + j) (by omega), flatC_at l i hi j hj]

theorem info_cell : (Tryz.prog.info? 34).map (fun i => (i.zero, i.size, i.bytes)) = some (some (.agg #[.int .i32 0, .int .u8 0, .int .u8 0, .int .u8 0, .int .u8 0, .int .u8 0, .int .u8 0, .int .u8 0, .int .u8 0, .bool false, .bool false]), 11, 16) := by kernel_rfl

def eqC (x y : Ce) : Bool := (x.r == y.r) && ((x.c.r == y.c.r) && ((x.c.g == y.c.g) && ((x.c.b == y.c.b) && ((x.c.a == y.c.a) && ((x.b.r == y.b.r) && ((x.b.g == y.b.g) && ((x.b.b == y.b.b) && ((x.b.a == y.b.a) && ((x.wd == y.wd) && ((x.tl == y.tl)))))))))))
theorem eqC_iff (x y : Ce) : eqC x y = true ↔ x = y := by
  obtain ⟨xr, ⟨x1, x2, x3, x4⟩, ⟨x5, x6, x7, x8⟩, xw, xt⟩ := x
  obtain ⟨yr, ⟨y1, y2, y3, y4⟩, ⟨y5, y6, y7, y8⟩, yw, yt⟩ := y
  simp [eqC, and_assoc]
theorem eqC_self (x : Ce) : eqC x x = true := (eqC_iff x x).2 rfl
instance : DecidableEq Ce := fun x y => decidable_of_iff (eqC x y = true) (eqC_iff x y)

set_option maxHeartbeats 1000000 in
theorem eql_cell (x y : Ce) (w : World) : (binOp .eql 34 (Value.agg #[.int .i32 x.r, .int .u8 x.c.r, .int .u8 x.c.g, .int .u8 x.c.b, .int .u8 x.c.a, .int .u8 x.b.r, .int .u8 x.b.g, .int .u8 x.b.b, .int .u8 x.b.a, .bool x.wd, .bool x.tl]) (Value.agg #[.int .i32 y.r, .int .u8 y.c.r, .int .u8 y.c.g, .int .u8 y.c.b, .int .u8 y.c.a, .int .u8 y.b.r, .int .u8 y.b.g, .int .u8 y.b.b, .int .u8 y.b.a, .bool y.wd, .bool y.tl])).run Tryz.prog w = .ok (.bool (eqC x y)) w := by
  simp [go_sem]
  exact chainZ (chainZ (chainZ (chainZ (chainZ (chainZ (chainZ (chainZ (chainZ (chainZ chainY)))))))))

set_option maxHeartbeats 1000000 in
theorem neq_cell (x y : Ce) (w : World) : (binOp .neq 34 (Value.agg #[.int .i32 x.r, .int .u8 x.c.r, .int .u8 x.c.g, .int .u8 x.c.b, .int .u8 x.c.a, .int .u8 x.b.r, .int .u8 x.b.g, .int .u8 x.b.b, .int .u8 x.b.a, .bool x.wd, .bool x.tl]) (Value.agg #[.int .i32 y.r, .int .u8 y.c.r, .int .u8 y.c.g, .int .u8 y.c.b, .int .u8 y.c.a, .int .u8 y.b.r, .int .u8 y.b.g, .int .u8 y.b.b, .int .u8 y.b.a, .bool y.wd, .bool y.tl])).run Tryz.prog w = .ok (.bool (!eqC x y)) w := by
  simp [go_sem]
  exact chainN (chainN (chainN (chainN (chainN (chainN (chainN (chainN (chainN (chainN chainM)))))))))

end Go.Proofs.YtcahdmfmcojaoaaGreatDoor
