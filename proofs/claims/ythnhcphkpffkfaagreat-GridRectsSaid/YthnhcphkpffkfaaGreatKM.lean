/-
  Lists of numbers in memory: read, owned, written, grown.
-/
import Derived.Test.YthnhcphkpffkfaaGreatRows
import Derived.Test.YthnhcphkpffkfaaGreatReg4
import Derived.WalkKit
import Derived.WalkSpells
import Derived.WalkLawsBesides
import Derived.Deep.AppendLies
import Derived.BigQuiet
import Derived.Laws.AppendOwnNone
namespace Go.Proofs.YthnhcphkpffkfaaGreat
open Go.RowKit

def K64 (n : Int) : Prop := -9223372036854775808 ≤ n ∧ n ≤ 9223372036854775807
theorem ite_maxK (x y : Int) : (if x < y then y else x) = max x y := by omega
theorem ite_minK (x y : Int) : (if y < x then y else x) = min x y := by omega
theorem lt_of_cellK {w : World} {b o : Nat} {u : Value} (h : w.cell? ⟨b, o, none⟩ = some u) : b < w.heap.size := World.block_lt_of_cell? w ⟨b, o, none⟩ h
theorem below_drewK {B : Nat} {a w : World} {n : Nat} (h : Below B a w) : Below B a (w.drewN n) := ⟨h.os, h.tape, h.output, h.size, h.block⟩
/-- A block's cells written out. -/
def Bk (W : World) (b : Nat) (vs : Array Value) (t : TypeId) : Prop := W.heap[b]? = some (.cells vs t)
theorem Bk.lt {W : World} {b : Nat} {vs : Array Value} {t : TypeId} (h : Bk W b vs t) : b < W.heap.size := (Array.getElem?_eq_some_iff.1 h).1
theorem Bk.cell {W : World} {b : Nat} {vs : Array Value} {t : TypeId} (h : Bk W b vs t) (o : Nat) : W.cell? ⟨b, o, none⟩ = vs[o]? := by
  simp [World.cell?, show W.heap[b]? = _ from h]
theorem Bk.frozen {W : World} {b : Nat} {vs : Array Value} {t : TypeId} (h : Bk W b vs t) (o : Nat) : W.frozen? ⟨b, o, none⟩ = false := by
  simp [World.frozen?, show W.heap[b]? = _ from h]
theorem Bk.below {W W' : World} {b : Nat} {vs : Array Value} {t : TypeId} (h : Bk W b vs t) (hb : Below W.heap.size W W') : Bk W' b vs t := (hb.block b h.lt).trans h
theorem Bk.under {B : Nat} {W W' : World} {b : Nat} {vs : Array Value} {t : TypeId} (h : Bk W b vs t) (hb : Below B W W') (hB : b < B) : Bk W' b vs t := (hb.block b hB).trans h
theorem Bk.new (W : World) (vs : Array Value) (t : TypeId) : Bk (W.alloc (.cells vs t)) W.heap.size vs t := by
  show (W.heap.push (.cells vs t))[W.heap.size]? = _
  exact Array.getElem?_push_size
theorem Bk.alloc {W : World} {b : Nat} {vs : Array Value} {t : TypeId} (h : Bk W b vs t) (o : Obj) : Bk (W.alloc o) b vs t := h.below ((Below.refl _ _).alloc (Nat.le_refl _) o)
theorem Bk.put {W : World} {b : Nat} {vs : Array Value} {t : TypeId} (h : Bk W b vs t) (o : Nat) (v : Value) : Bk (W.setCell ⟨b, o, none⟩ v) b (vs.setIfInBounds o v) t := heap_setCell_same W b o vs t v h
theorem Bk.other {W : World} {b : Nat} {vs : Array Value} {t : TypeId} (h : Bk W b vs t) (p : Addr) (v : Value) (hp : p.block ≠ b) : Bk (W.setCell p v) b vs t :=
  (Below.heap_setCell _ _ _ b (fun e => hp e.symm)).trans h
theorem Bk.grown {W W' : World} {b : Nat} {vs : Array Value} {t : TypeId} (h : Bk W b vs t) {row : Option Nat} (hg : W.grownBy W' row) (hb : row ≠ some b) : Bk W' b vs t := (hg.block b h.lt (fun e => hb e.symm)).trans h
theorem Bk.typ {w : World} {g : Nat} {cs ds : Array Value} {t t' : TypeId} (h : Bk w g cs t) (k : Bk w g ds t') : t = t' := by
  unfold Bk at h k
  rw [h] at k
  injection k with k
  injection k
theorem Bk.newB {W : World} {b : Nat} {vs : Array Value} {t : TypeId} (h : b = W.heap.size) : Bk (W.alloc (.cells vs t)) b vs t := by rw [h]; exact Bk.new W vs t
theorem Bk.drew {W : World} {b : Nat} {vs : Array Value} {t : TypeId} (h : Bk W b vs t) : Bk W.drew b vs t := h
theorem Bk.drewN {W : World} {b : Nat} {vs : Array Value} {t : TypeId} (h : Bk W b vs t) (n : Nat) : Bk (W.drewN n) b vs t := h
theorem Bk.at3 {W : World} {b : Nat} {a0 a1 a2 : Value} {t : TypeId} (h : Bk W b #[a0, a1, a2] t) : W.cell? ⟨b, 0, none⟩ = some a0 ∧ W.cell? ⟨b, 1, none⟩ = some a1 ∧ W.cell? ⟨b, 2, none⟩ = some a2 := ⟨by rw [h.cell]; rfl, by rw [h.cell]; rfl, by rw [h.cell]; rfl⟩
theorem Bk.at2 {W : World} {b : Nat} {a0 a1 : Value} {t : TypeId} (h : Bk W b #[a0, a1] t) : W.cell? ⟨b, 0, none⟩ = some a0 ∧ W.cell? ⟨b, 1, none⟩ = some a1 := ⟨by rw [h.cell]; rfl, by rw [h.cell]; rfl⟩

/-- Rows of one's own. -/
theorem own_cell {w : World} {base : Nat} {e : TypeId} {size n g cap : Nat} {xs : List Value} (h : w.ownsRow base e size (.slice (some ⟨g, 0, none⟩) n cap) n xs) (j : Nat) (hj : j < n * size) : w.cell? ⟨g, j, none⟩ = xs[j]? := h.cellAt j hj
theorem own_frozen {w : World} {base : Nat} {e : TypeId} {size n g cap : Nat} {xs : List Value} (h : w.ownsRow base e size (.slice (some ⟨g, 0, none⟩) n cap) n xs) (j : Nat) : w.frozen? ⟨g, j, none⟩ = false := by
  obtain ⟨_, ⟨h, _⟩ | ⟨g', cap', cur, h, _, hc, _⟩⟩ := h
  · cases h
  · injection h with h1 _ _
    injection h1 with h1
    injection h1 with h1 _ _
    subst h1
    simp [World.frozen?, hc]
theorem own_set {w : World} {base : Nat} {e : TypeId} {size n g cap : Nat} {xs : List Value} (h : w.ownsRow base e size (.slice (some ⟨g, 0, none⟩) n cap) n xs) (j : Nat) (v : Value) :
    (w.setCell ⟨g, j, none⟩ v).ownsRow base e size (.slice (some ⟨g, 0, none⟩) n cap) n (xs.set j v) := by
  obtain ⟨hl, ⟨h, _⟩ | ⟨g', cap', cur, h, hb, hc, h1, h2, h3, h4⟩⟩ := h
  · cases h
  · injection h with e1 _ e3
    injection e1 with e1
    injection e1 with e1 _ _
    subst e1 e3
    refine ⟨by rw [List.length_set]; exact hl, .inr ⟨g, cap, cur.setIfInBounds j v, rfl, hb, ?_, h1, h2, by simpa using h3, ?_⟩⟩
    · exact heap_setCell_same w g j cur e v hc
    · rw [Array.toList_setIfInBounds, List.take_set, h4]
theorem info_parts {t : TypeId} {z : Value} {s b : Nat} (h : (Tryz.prog.info? t).map (fun i => (i.zero, i.size, i.bytes)) = some (some z, s, b)) : ∃ i, Tryz.prog.info? t = some i ∧ i.zero = some z ∧ i.size = s ∧ i.bytes = b := by
  cases hi : Tryz.prog.info? t with
  | none => rw [hi] at h; cases h
  | some i =>
    rw [hi] at h
    simp only [Option.map_some, Option.some.injEq, Prod.mk.injEq] at h
    exact ⟨i, rfl, h.1, h.2.1, h.2.2⟩
theorem info_int : (Tryz.prog.info? 3).map (fun i => (i.zero, i.size, i.bytes)) = some (some (.int .i64 0), 1, 8) := by kernel_rfl
theorem int_size : (Tryz.prog.info? 3).map (·.size) = some 1 := by kernel_rfl
theorem row_lt {base : Nat} {e : TypeId} {size : Nat} {v : Value} {n : Nat} {xs : List Value} {X : World} (h : X.ownsRow base e size v n xs) (g : Nat) (hg : v.ownBlock = some g) : base ≤ g ∧ g < X.heap.size := by
  obtain ⟨hl, h⟩ := h
  rcases h with ⟨rfl, _⟩ | ⟨g', cap, cur, rfl, hb, hc, _⟩
  · cases hg
  · simp [Value.ownBlock] at hg
    subst hg
    exact ⟨hb, (Array.getElem?_eq_some_iff.1 hc).1⟩
theorem row_below {base : Nat} {e : TypeId} {size : Nat} {v : Value} {n : Nat} {xs : List Value} {X Y : World} (h : X.ownsRow base e size v n xs) (hb : Below X.heap.size X Y) : Y.ownsRow base e size v n xs := by
  obtain ⟨hl, h⟩ := h
  refine ⟨hl, ?_⟩
  rcases h with h | ⟨g, cap, cur, rfl, h0, h1, h2⟩
  · exact .inl h
  · exact .inr ⟨g, cap, cur, rfl, h0, (hb.block g (Array.getElem?_eq_some_iff.1 h1).1).trans h1, h2⟩
theorem row_weaken {base base' : Nat} {e : TypeId} {size : Nat} {v : Value} {n : Nat} {xs : List Value} {X : World} (h : X.ownsRow base e size v n xs) (hb : base' ≤ base) : X.ownsRow base' e size v n xs := by
  obtain ⟨hl, h⟩ := h
  refine ⟨hl, ?_⟩
  rcases h with h | ⟨g, cap, cur, rfl, h0, h1⟩
  · exact .inl h
  · exact .inr ⟨g, cap, cur, rfl, Nat.le_trans hb h0, h1⟩
theorem row_val {base : Nat} {e : TypeId} {size : Nat} {v : Value} {n : Nat} {xs : List Value} {X : World} (h : X.ownsRow base e size v n xs) : ∃ oa cap, v = .slice oa n cap ∧ n ≤ cap ∧ (0 < n → ∃ g, oa = some ⟨g, 0, none⟩ ∧ base ≤ g ∧ g < X.heap.size) := by
  obtain ⟨hl, h⟩ := h
  rcases h with ⟨rfl, rfl⟩ | ⟨g, cap, cur, rfl, h0, h1, h2, _⟩
  · exact ⟨none, 0, rfl, Nat.le_refl _, fun h => absurd h (Nat.lt_irrefl 0)⟩
  · exact ⟨_, cap, rfl, h2, fun _ => ⟨g, rfl, h0, (Array.getElem?_eq_some_iff.1 h1).1⟩⟩
theorem app_below {B : Nat} {w w1 w4 : World} {e : TypeId} {size n : Nat} {u : Value} {xs : List Value} (hB : Below w.heap.size w w1) (ar : w1.ownsRow B e size u n xs) (hBw : w.heap.size ≤ B) (hgrow : w1.grownBy w4 u.ownBlock) : Below w.heap.size w w4 :=
  hB.grown hgrow hB.size (fun g hg => Nat.le_trans hBw (row_lt ar g hg).1)
/-- No room behind no list. -/
def NoNil (v : Value) : Prop := ∀ c, v = .slice none 0 c → c = 0
theorem own_nil {w : World} {base : Nat} {e : TypeId} {size n : Nat} {v : Value} {xs : List Value} (h : w.ownsRow base e size v n xs) : NoNil v := by
  intro c hc
  obtain ⟨_, ⟨h, _⟩ | ⟨g, cap, cur, h, _⟩⟩ := h
  · rw [h] at hc; injection hc with _ _ hc; exact hc.symm
  · rw [h] at hc; injection hc with hc _ _; cases hc
theorem app_none {P : Program} {w : World} {ops : Array Oper} {rest : List Oper} {o : Oper} {a : Act} {Q : Exit → Act → World → Prop} (hgd : o.guard = none) (s x : Operand) (t : TypeId)
    (ho : o.op = .call { callee := .builtin .append, args := #[s, x], argTypes := #[t, t] })
    (base : Nat) (e : TypeId) (i : TypeInfo) (size : Nat) (ht : P.underlying t = some (.slice e)) (hi : P.info? e = some i)
    (v : Value) (n : Nat) (xs : List Value) (hs : a.eval s = v) (hown : w.ownsRow base e size v n xs) (hx : a.eval x = .slice none 0 0)
    (h : ∀ v' w', v' = v → w' = w → wpList P ops Q rest (a.put o.dst v') w') : wpList P ops Q (o :: rest) a w :=
  wpList_append_own_none hgd s x t ho base e i size ht hi v n xs hs hown hx (h v w rfl rfl)
theorem addr_plus (g o j : Nat) : (⟨g, o, none⟩ : Addr).add j = ⟨g, o + j, none⟩ := by
  unfold Addr.add
  split <;> simp_all
theorem cell_one (w : World) (x : Value) (t : TypeId) : ∀ (j : Nat) (u : Value), [x][j]? = some u → (w.alloc (.cells #[x] t)).cell? ((⟨w.heap.size, 0, none⟩ : Addr).add j) = some u := by
  intro j u hj
  match j, hj with
  | 0, hj => simp at hj; subst hj; simp [Addr.add]
theorem cell_oneB (w : World) (x : Value) (t : TypeId) (b : Nat) (h : b = w.heap.size) : ∀ (j : Nat) (u : Value), [x][j]? = some u → (w.alloc (.cells #[x] t)).cell? ((⟨b, 0, none⟩ : Addr).add j) = some u := by
  subst h
  exact cell_one w x t
theorem one1 (a : Int) : ∀ u ∈ [Value.int .i64 a], u.oneCell' = true := by
  intro u hu
  simp at hu
  subst hu
  rfl
theorem grow_tr {w W W' : World} {r s : Option Nat} (h : w.grownBy W r) (k : W.grownBy W' s) (hs : s = r ∨ ∀ g, s = some g → w.heap.size ≤ g) : w.grownBy W' r := by
  refine ⟨k.os.trans h.os, k.tape.trans h.tape, k.output.trans h.output, Nat.le_trans h.size k.size, fun b hb hr => ?_⟩
  refine (k.block b (Nat.lt_of_lt_of_le hb h.size) ?_).trans (h.block b hb hr)
  intro c
  rcases hs with rfl | hs
  · exact hr c
  · have := hs b c.symm
    omega
theorem grow_set (w : World) (g o : Nat) (v : Value) : w.grownBy (w.setCell ⟨g, o, none⟩ v) (some g) :=
  ⟨rfl, rfl, rfl, ((Below.refl 0 w).setCell (p := ⟨g, o, none⟩) (Nat.zero_le _) v).size, fun b _ hb => Below.heap_setCell _ _ _ b (fun e => hb (by rw [e]))⟩

/-- Numbers, cell by cell. -/
def flatI (xs : List Int) : List Value := xs.map fun n => .int .i64 n
theorem flatI_len (xs : List Int) : (flatI xs).length = xs.length := by simp [flatI]
theorem flatI_at (xs : List Int) (k : Nat) (h : k < xs.length) : (flatI xs)[k]? = some (.int .i64 xs[k]) := by simp [flatI, h]
theorem flatI_app (xs ys : List Int) : flatI (xs ++ ys) = flatI xs ++ flatI ys := by simp [flatI]
theorem flatI_set (xs : List Int) (k : Nat) (v : Int) : flatI (xs.set k v) = (flatI xs).set k (.int .i64 v) := by unfold flatI; rw [List.map_set]
theorem oneI (xs : List Int) : ∀ u ∈ flatI xs, u.oneCell' = true := by
  intro u hu
  unfold flatI at hu
  obtain ⟨n, _, rfl⟩ := List.mem_map.1 hu
  rfl
/-- A slice that holds numbers. -/
def IS (w : World) (v : Value) (xs : List Int) : Prop := ∃ oa cap, v = .slice oa xs.length cap ∧ xs.length ≤ cap ∧ (0 < xs.length → ∃ g o, oa = some ⟨g, o, none⟩ ∧ g < w.heap.size ∧ ∀ i (h : i < xs.length), w.cell? ⟨g, o + i, none⟩ = some (.int .i64 xs[i]))
theorem IS.below {w w' : World} {v : Value} {xs : List Int} (h : IS w v xs) (hb : Below w.heap.size w w') : IS w' v xs := by
  obtain ⟨oa, cap, e, hc, hg⟩ := h
  refine ⟨oa, cap, e, hc, fun hp => ?_⟩
  obtain ⟨g, o, e1, g1, g2⟩ := hg hp
  exact ⟨g, o, e1, Nat.lt_of_lt_of_le g1 hb.size, fun i hi => (hb.cell (p := ⟨g, o + i, none⟩) g1).trans (g2 i hi)⟩
theorem is_nil (w : World) : IS w (.slice none 0 0) [] := ⟨none, 0, rfl, Nat.le_refl _, fun h => absurd h (Nat.lt_irrefl 0)⟩
/-- Numbers that a call made. -/
def OwI (lo : Nat) (w : World) (v : Value) (xs : List Int) : Prop := w.ownsRow lo 3 1 v xs.length (flatI xs)
theorem OwI.is {lo : Nat} {w : World} {v : Value} {xs : List Int} (h : OwI lo w v xs) : IS w v xs := by
  obtain ⟨hl, ⟨rfl, h0⟩ | ⟨g, cap, cur, rfl, hb, hc, h1, h2, h3, h4⟩⟩ := h
  · obtain rfl : xs = [] := List.length_eq_zero_iff.1 h0
    exact is_nil w
  · refine ⟨_, cap, rfl, h1, fun _ => ⟨g, 0, rfl, (Array.getElem?_eq_some_iff.1 hc).1, fun i hi => ?_⟩⟩
    have e : (cur.toList.take (xs.length * 1))[i]? = cur[i]? := by rw [List.getElem?_take_of_lt (by omega), Array.getElem?_toList]
    rw [Nat.zero_add, Bk.cell hc, ← e, h4, flatI_at xs i hi]
theorem OwI.below {lo : Nat} {w w' : World} {v : Value} {xs : List Int} (h : OwI lo w v xs) (hb : Below w.heap.size w w') : OwI lo w' v xs := row_below h hb
theorem OwI.weaken {lo lo' : Nat} {w : World} {v : Value} {xs : List Int} (h : OwI lo w v xs) (hb : lo' ≤ lo) : OwI lo' w v xs := row_weaken h hb
theorem OwI.nil (lo : Nat) (w : World) : OwI lo w (.slice none 0 0) [] := World.ownsRow_nil _ _ _ _
/-- A block that holds just these numbers. -/
def Nb (w : World) (g : Nat) (xs : List Int) : Prop := Bk w g (flatI xs).toArray 3
theorem Nb.own {w : World} {g lo : Nat} {xs : List Int} (h : Nb w g xs) (hg : lo ≤ g) (hl : xs.length ≤ maxLen) : OwI lo w (.slice (some ⟨g, 0, none⟩) xs.length xs.length) xs := by
  refine ⟨by rw [flatI_len, Nat.mul_one], .inr ⟨g, xs.length, (flatI xs).toArray, rfl, hg, h, Nat.le_refl _, hl, by simp [flatI_len], ?_⟩⟩
  simp [List.take_of_length_le, flatI_len]
theorem Nb.at {w : World} {g : Nat} {xs : List Int} (h : Nb w g xs) (i : Nat) (hi : i < xs.length) : w.cell? ⟨g, i, none⟩ = some (.int .i64 xs[i]) := by
  rw [Bk.cell h]
  simpa using flatI_at xs i hi
theorem Nb.lt {w : World} {g : Nat} {xs : List Int} (h : Nb w g xs) : g < w.heap.size := Bk.lt h
theorem Nb.frozen {w : World} {g : Nat} {xs : List Int} (h : Nb w g xs) (o : Nat) : w.frozen? ⟨g, o, none⟩ = false := Bk.frozen h o
theorem Nb.below {w w' : World} {g : Nat} {xs : List Int} (h : Nb w g xs) (hb : Below w.heap.size w w') : Nb w' g xs := Bk.below h hb
theorem Nb.put {w : World} {g : Nat} {xs : List Int} (h : Nb w g xs) (i : Nat) (v : Int) : Nb (w.setCell ⟨g, i, none⟩ (.int .i64 v)) g (xs.set i v) := by
  unfold Nb
  rw [flatI_set]
  have := Bk.put h i (.int .i64 v)
  rwa [List.setIfInBounds_toArray] at this
theorem Nb.other {w : World} {g : Nat} {xs : List Int} (h : Nb w g xs) (p : Addr) (v : Value) (hp : p.block ≠ g) : Nb (w.setCell p v) g xs := Bk.other h p v hp
theorem Nb.alloc {w : World} {g : Nat} {xs : List Int} (h : Nb w g xs) (o : Obj) : Nb (w.alloc o) g xs := Bk.alloc h o
theorem Nb.is {w : World} {g : Nat} {xs : List Int} (h : Nb w g xs) : IS w (.slice (some ⟨g, 0, none⟩) xs.length xs.length) xs :=
  ⟨_, xs.length, rfl, Nat.le_refl _, fun _ => ⟨g, 0, rfl, h.lt, fun i hi => by rw [Nat.zero_add]; exact h.at i hi⟩⟩
theorem make_ints (n : Nat) (hn : n < 1000000) (w : World) : ∃ arr : Array Value, arr = (flatI (List.replicate n 0)).toArray ∧ (Instr.makeSlice 22 (.int .i64 (n : Nat)) (.int .i64 (n : Nat))).run Tryz.prog w = .ok (.slice (some ⟨w.heap.size, 0, none⟩) n n) (w.alloc (.cells arr 3)) := by
  obtain ⟨i0, hi, hz0, hz1, hz2⟩ := info_parts info_int
  have h := run_make (P := Tryz.prog) w 22 3 i0 (.int .i64 0) Tryz.underlying22 hi hz0 .i64 .i64 (n : Int) (n : Int) (by omega) (Int.le_refl _) (by rw [hz2]; omega) (by omega)
  simp only [Int.toNat_natCast, hz1, Nat.mul_one] at h
  refine ⟨_, ?_, h⟩
  refine Array.ext (by simp [size_madeCells, flatI_len]) fun i h1 h2 => ?_
  simp [madeCells, Value.cells, flatI, Nat.mod_one]

end Go.Proofs.YthnhcphkpffkfaaGreat
