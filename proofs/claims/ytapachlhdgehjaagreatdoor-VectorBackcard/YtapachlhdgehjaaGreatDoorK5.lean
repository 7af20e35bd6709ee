/-
  Texts of this claim, one behind the other: what each is about stands ahead of it.
-/
import Derived.Test.YtapachlhdgehjaaGreatDoorK2
import Derived.Test.YtapachlhdgehjaaGreatDoorK0
import Derived.Test.YtapachlhdgehjaaGreatDoorK4
import Derived.Laws.AppendOwnNone
import Derived.Laws.MathBits
import Derived.Laws.CopyOwn
/-
  Cells in memory: lists of them read and owned; cells compared.
-/
namespace Go.Proofs.YtapachlhdgehjaaGreatDoor
open Go.RowKit

def cCel (s : Ce) : List Value := [.int .i32 s.r, .int .u8 s.c.r, .int .u8 s.c.g, .int .u8 s.c.b, .int .u8 s.c.a, .int .u8 s.b.r, .int .u8 s.b.g, .int .u8 s.b.b, .int .u8 s.b.a, .bool s.wd, .bool s.tl]
theorem cCel_len (s : Ce) : (cCel s).length = 11 := rfl
def flatC : List Ce → List Value
  | [] => []
  | s :: l => cCel s ++ flatC l
theorem flatC_app (l m : List Ce) : flatC (l ++ m) = flatC l ++ flatC m := by
  induction l with
  | nil => rfl
  | cons s l ih => show cCel s ++ flatC (l ++ m) = (cCel s ++ flatC l) ++ flatC m; rw [ih, List.append_assoc]
theorem flatC_one (s : Ce) : flatC [s] = cCel s := List.append_nil _
theorem flatC_len (l : List Ce) : (flatC l).length = l.length * 11 := by
  induction l with
  | nil => rfl
  | cons s l ih => show (cCel s ++ flatC l).length = _; rw [List.length_append, ih, cCel_len, List.length_cons]; omega
theorem flatC_at (l : List Ce) (k : Nat) (h : k < l.length) (j : Nat) (hj : j < 11) : (flatC l)[k * 11 + j]? = (cCel l[k])[j]? := by
  induction l generalizing k with
  | nil => simp at h
  | cons s l ih =>
    cases k with
    | zero =>
      show (cCel s ++ flatC l)[0 * 11 + j]? = (cCel s)[j]?
      rw [Nat.zero_mul, Nat.zero_add, List.getElem?_append_left (by rw [cCel_len]; exact hj)]
    | succ k =>
      have h' : k < l.length := by simpa using h
      show (cCel s ++ flatC l)[(k + 1) * 11 + j]? = (cCel l[k])[j]?
      rw [List.getElem?_append_right (by rw [cCel_len]; omega), cCel_len, ← ih k h']
      congr 1
      omega
theorem oneC (s : Ce) : ∀ u ∈ cCel s, u.oneCell' = true := by
  intro u hu
  simp only [cCel, List.mem_cons, List.not_mem_nil, or_false] at hu
  rcases hu with rfl | rfl | rfl | rfl | rfl | rfl | rfl | rfl | rfl | rfl | rfl <;> rfl
theorem onesC : ∀ (l : List Ce), ∀ u ∈ flatC l, u.oneCell' = true
  | [], u, hu => by cases hu
  | s :: l, u, hu => by
    rcases List.mem_append.1 hu with h | h
    · exact oneC s u h
    · exact onesC l u h

def CeAt (w : World) (g p : Nat) (s : Ce) : Prop := w.cell? ⟨g, p, none⟩ = some (.int .i32 s.r) ∧ w.cell? ⟨g, p + 1, none⟩ = some (.int .u8 s.c.r) ∧ w.cell? ⟨g, p + 2, none⟩ = some (.int .u8 s.c.g) ∧ w.cell? ⟨g, p + 3, none⟩ = some (.int .u8 s.c.b) ∧ w.cell? ⟨g, p + 4, none⟩ = some (.int .u8 s.c.a) ∧ w.cell? ⟨g, p + 5, none⟩ = some (.int .u8 s.b.r) ∧ w.cell? ⟨g, p + 6, none⟩ = some (.int .u8 s.b.g) ∧ w.cell? ⟨g, p + 7, none⟩ = some (.int .u8 s.b.b) ∧ w.cell? ⟨g, p + 8, none⟩ = some (.int .u8 s.b.a) ∧ w.cell? ⟨g, p + 9, none⟩ = some (.bool s.wd) ∧ w.cell? ⟨g, p + 10, none⟩ = some (.bool s.tl)
theorem ceat_iff {w : World} {g p : Nat} {s : Ce} : CeAt w g p s ↔ ∀ j, j < 11 → w.cell? ⟨g, p + j, none⟩ = (cCel s)[j]? := by
  constructor
  · rintro ⟨h0, h1, h2, h3, h4, h5, h6, h7, h8, h9, h10⟩ j hj
    match j, hj with
    | 0, _ => exact h0
    | 1, _ => exact h1
    | 2, _ => exact h2
    | 3, _ => exact h3
    | 4, _ => exact h4
    | 5, _ => exact h5
    | 6, _ => exact h6
    | 7, _ => exact h7
    | 8, _ => exact h8
    | 9, _ => exact h9
    | 10, _ => exact h10
  · intro h
    exact ⟨h 0 (by decide), h 1 (by decide), h 2 (by decide), h 3 (by decide), h 4 (by decide), h 5 (by decide), h 6 (by decide), h 7 (by decide), h 8 (by decide), h 9 (by decide), h 10 (by decide)⟩
theorem CeAt.kept {w w' : World} {g p : Nat} {s : Ce} (h : CeAt w g p s) (k : ∀ o, w'.cell? ⟨g, o, none⟩ = w.cell? ⟨g, o, none⟩) : CeAt w' g p s := by
  rw [ceat_iff] at h ⊢
  intro j hj
  rw [k, h j hj]
def LsC (w : World) (v : Value) (l : List Ce) : Prop := ∃ oa cap, v = .slice oa l.length cap ∧ l.length ≤ cap ∧ (0 < l.length → ∃ g o, oa = some ⟨g, o, none⟩ ∧ g < w.heap.size ∧ ∀ i (h : i < l.length), CeAt w g (o + i * 11) l[i])
theorem LsC.below {w w' : World} {v : Value} {l : List Ce} (h : LsC w v l) (hb : Below w.heap.size w w') : LsC w' v l := by
  obtain ⟨oa, cap, e, hc, hg⟩ := h
  refine ⟨oa, cap, e, hc, fun hp => ?_⟩
  obtain ⟨g, o, e1, g1, g2⟩ := hg hp
  exact ⟨g, o, e1, Nat.lt_of_lt_of_le g1 hb.size, fun i hi => (g2 i hi).kept fun j => hb.cell (p := ⟨g, j, none⟩) g1⟩
theorem lsc_nil (w : World) : LsC w (.slice none 0 0) [] := ⟨none, 0, rfl, Nat.le_refl _, fun h => absurd h (Nat.lt_irrefl 0)⟩
def OwC (lo : Nat) (w : World) (v : Value) (l : List Ce) : Prop := w.ownsRow lo 65 11 v l.length (flatC l)
theorem OwC.nil (lo : Nat) (w : World) : OwC lo w (.slice none 0 0) [] := World.ownsRow_nil _ _ _ _
theorem OwC.lsc {lo : Nat} {w : World} {v : Value} {l : List Ce} (h : OwC lo w v l) : LsC w v l := by
  obtain ⟨hl, ⟨rfl, h0⟩ | ⟨g, cap, cur, rfl, hb, hc, h1, h2, h3, h4⟩⟩ := id h
  · obtain rfl : l = [] := List.length_eq_zero_iff.1 h0
    exact lsc_nil w
  · refine ⟨_, cap, rfl, h1, fun _ => ⟨g, 0, rfl, (Array.getElem?_eq_some_iff.1 hc).1, fun i hi => ?_⟩⟩
    rw [ceat_iff]
    intro j hj
    rw [Nat.zero_add, own_cell h (i * 11 + j) (by omega), flatC_at l i hi j hj]

theorem info_cell : (Tryz.prog.info? 65).map (fun i => (i.zero, i.size, i.bytes)) = some (some (.agg #[.int .i32 0, .int .u8 0, .int .u8 0, .int .u8 0, .int .u8 0, .int .u8 0, .int .u8 0, .int .u8 0, .int .u8 0, .bool false, .bool false]), 11, 16) := by kernel_rfl

def eqC (x y : Ce) : Bool := (x.r == y.r) && ((x.c.r == y.c.r) && ((x.c.g == y.c.g) && ((x.c.b == y.c.b) && ((x.c.a == y.c.a) && ((x.b.r == y.b.r) && ((x.b.g == y.b.g) && ((x.b.b == y.b.b) && ((x.b.a == y.b.a) && ((x.wd == y.wd) && ((x.tl == y.tl)))))))))))
theorem eqC_iff (x y : Ce) : eqC x y = true ↔ x = y := by
  obtain ⟨xr, ⟨x1, x2, x3, x4⟩, ⟨x5, x6, x7, x8⟩, xw, xt⟩ := x
  obtain ⟨yr, ⟨y1, y2, y3, y4⟩, ⟨y5, y6, y7, y8⟩, yw, yt⟩ := y
  simp [eqC, and_assoc]
instance : DecidableEq Ce := fun x y => decidable_of_iff (eqC x y = true) (eqC_iff x y)

set_option maxHeartbeats 1000000 in
theorem neq_cell (x y : Ce) (w : World) : (binOp .neq 65 (Value.agg #[.int .i32 x.r, .int .u8 x.c.r, .int .u8 x.c.g, .int .u8 x.c.b, .int .u8 x.c.a, .int .u8 x.b.r, .int .u8 x.b.g, .int .u8 x.b.b, .int .u8 x.b.a, .bool x.wd, .bool x.tl]) (Value.agg #[.int .i32 y.r, .int .u8 y.c.r, .int .u8 y.c.g, .int .u8 y.c.b, .int .u8 y.c.a, .int .u8 y.b.r, .int .u8 y.b.g, .int .u8 y.b.b, .int .u8 y.b.a, .bool y.wd, .bool y.tl])).run Tryz.prog w = .ok (.bool (!eqC x y)) w := by
  simp [go_sem]
  exact chainN (chainN (chainN (chainN (chainN (chainN (chainN (chainN (chainN (chainN chainM)))))))))

end Go.Proofs.YtapachlhdgehjaaGreatDoor

/-
  Cells cloned, laid behind one another, repeated.
-/
namespace Go.Proofs.YtapachlhdgehjaaGreatDoor
open Go.RowKit

theorem lsc_src {w : World} {g o : Nat} {M : List Ce} (h : ∀ i (h : i < M.length), CeAt w g (o + i * 11) M[i]) : ∀ (j : Nat) (u : Value), (flatC M)[j]? = some u → w.cell? ((⟨g, o, none⟩ : Addr).add j) = some u := by
  intro j u hj
  have hl : j < (flatC M).length := (List.getElem?_eq_some_iff.1 hj).1
  rw [flatC_len] at hl
  have hq : j / 11 < M.length := by omega
  have h1 := flatC_at M (j / 11) hq (j % 11) (Nat.mod_lt _ (by decide))
  have h2 := ceat_iff.1 (h (j / 11) hq) (j % 11) (Nat.mod_lt _ (by decide))
  rw [show j / 11 * 11 + j % 11 = j by omega, hj] at h1
  rw [← h1, Nat.add_assoc, show j / 11 * 11 + j % 11 = j by omega] at h2
  have e : (⟨g, o, none⟩ : Addr).add j = ⟨g, o + j, none⟩ := by unfold Addr.add; split <;> simp_all
  rw [e]
  exact h2
theorem app_moreC {P : Program} {w : World} {ops : Array Oper} {rest : List Oper} {o : Oper} {a : Act} {Q : Exit → Act → World → Prop} (hgd : o.guard = none) (s x : Operand)
    (ho : o.op = .call { callee := .builtin .append, args := #[s, x], argTypes := #[24, 24] })
    (i : TypeInfo) (ht : P.underlying 24 = some (.slice 65)) (hi : P.info? 65 = some i) (hz : i.zero = some (.agg #[.int .i32 0, .int .u8 0, .int .u8 0, .int .u8 0, .int .u8 0, .int .u8 0, .int .u8 0, .int .u8 0, .int .u8 0, .bool false, .bool false]))
    (hsize : i.size = 11) (hby : i.bytes = 16) (lo : Nat) (u : Value) (qs : List Ce) (n : Nat) (hn0 : n = qs.length) (hs : a.eval s = u) (hown : w.ownsRow lo 65 11 u n (flatC qs)) (hlo : lo ≤ w.heap.size) (rs : List Ce) (oa : Option Addr) (cap : Nat) (m : Nat) (hm : m = rs.length) (hx : a.eval x = .slice oa m cap) (hv : LsC w (.slice oa m cap) rs) (hn : NoNil (.slice oa m cap))
    (hl : n + m ≤ 1000000) (h : ∀ v' w', Hid (OwC lo w' v' (qs ++ rs) ∧ w.grownBy w' u.ownBlock) → wpList P ops Q rest (a.put o.dst v') w') : wpList P ops Q (o :: rest) a w := by
  subst hm
  cases oa with
  | none =>
    have h0 : rs = [] := by
      obtain ⟨oa, cap', e, _, hg⟩ := hv
      cases rs with
      | nil => rfl
      | cons r t =>
        obtain ⟨g, o, e2, _⟩ := hg (by simp)
        injection e with e1 _ _
        rw [e2] at e1
        cases e1
    subst h0
    obtain rfl : cap = 0 := hn cap rfl
    refine app_none hgd s x _ ho lo 65 i 11 ht hi u n (flatC qs) hs hown hx ?_
    rintro _ _ rfl rfl
    refine h _ _ ⟨?_, World.grownBy.refl _ _⟩
    rw [List.append_nil]
    unfold OwC
    rw [← hn0]
    exact hown
  | some ad =>
    refine wpList_append_own _ hgd s x _ ho lo 65 i (.agg #[.int .i32 0, .int .u8 0, .int .u8 0, .int .u8 0, .int .u8 0, .int .u8 0, .int .u8 0, .int .u8 0, .int .u8 0, .bool false, .bool false]) 11 16 ht hi hz hsize hby rfl (by decide) u n (flatC qs) hs hown ad rs.length cap (flatC rs) hx (flatC_len rs) ?_ (onesC rs) (by unfold maxLen; omega) (by omega) hlo ?_
    · intro j u' hj
      obtain ⟨oa, cap', e, _, hg⟩ := hv
      have hp : 0 < rs.length := by
        cases rs with
        | nil => simp [flatC] at hj
        | cons r t => simp
      obtain ⟨g, o, e2, _, hat⟩ := hg hp
      injection e with e1 _ _
      rw [e2] at e1
      injection e1 with e1
      subst e1
      exact lsc_src hat j u' hj
    · intro v' w' h2 h3 _
      refine h v' w' ⟨?_, h3⟩
      unfold OwC
      rw [List.length_append, ← hn0, flatC_app]
      exact h2
theorem nil_neC (ad : Addr) (n cap : Nat) (W : World) : (binOp .eql 24 (.slice (some ad) n cap) (.slice none 0 0)).run Tryz.prog W = .ok (.bool false) W := by kernel_rfl
theorem nil_eqC (W : World) : (binOp .eql 24 (.slice none 0 0) (.slice none 0 0)).run Tryz.prog W = .ok (.bool true) W := by kernel_rfl

set_option maxRecDepth 10000 in
set_option maxHeartbeats 4000000 in
theorem cloneC_any (l : List Ce) (v : Value) (w : World) (hv : LsC w v l) (hn : NoNil v) (hl : l.length ≤ 1000000) :
    Calls Tryz.prog 57 #[v] w fun e w' => ∃ u, e = .returned u ∧ OwC w.heap.size w' u l ∧ Below w.heap.size w w' := by
  obtain ⟨i0, hi, hz0, hz1, hz2⟩ := info_parts info_cell
  obtain ⟨oa, cap, rfl, hc, hg⟩ := id hv
  have HV : Hid (LsC w (.slice oa l.length cap) l ∧ NoNil (.slice oa l.length cap)) := ⟨hv, hn⟩
  cases oa with
  | none =>
    have h0 : l = [] := by
      cases l with
      | nil => rfl
      | cons r t =>
        obtain ⟨g, o, e2, _⟩ := hg (by simp)
        cases e2
    subst h0
    obtain rfl : cap = 0 := hn cap rfl
    clear hg hv hn HV
    have EN := nil_eqC
    go_enter Tryz.func57, Tryz.ntmps57
    go_wp2
    go_ret
    exact ⟨_, rfl, OwC.nil _ _, Below.refl _ _⟩
  | some ad =>
    clear hg hv hn
    have HB : Hid (Below w.heap.size w (w.alloc (.cells #[] 65))) := (Below.refl _ _).alloc (Nat.le_refl _) _
    have HO : Hid ((w.alloc (.cells #[] 65)).ownsRow w.heap.size 65 11 (.slice (some ⟨w.heap.size, 0, none⟩) 0 0) 0 (flatC [])) := ⟨rfl, .inr ⟨w.heap.size, 0, #[], rfl, Nat.le_refl _, Bk.new _ _ _, Nat.le_refl _, by unfold maxLen; omega, rfl, rfl⟩⟩
    have EN2 := fun W => nil_neC ad l.length cap W
    go_enter Tryz.func57, Tryz.ntmps57
    go_wp2_with (at_builtin; refine app_moreC rfl _ _ rfl i0 Tryz.underlying24 hi hz0 hz1 hz2 w.heap.size (.slice (some ⟨w.heap.size, 0, none⟩) 0 0) [] 0 rfl rfl HO.out HB.out.size l (some ad) cap l.length rfl rfl (HV.out.1.below HB.out) HV.out.2 (by omega) ?_)
    intro v' w4 H4
    have HF : Hid (OwC w.heap.size w4 v' l ∧ Below w.heap.size w w4) := ⟨H4.out.1, HB.out.grown H4.out.2 HB.out.size (fun g hg => (row_lt HO.out g hg).1)⟩
    clear H4 HO HB hi hz0 hz1 hz2
    go_wp2
    go_ret
    exact ⟨_, rfl, HF.out.1, HF.out.2⟩

end Go.Proofs.YtapachlhdgehjaaGreatDoor

/-
  copy of things of several cells each; slices.Repeat of one cell.
-/
namespace Go.Proofs.YtapachlhdgehjaaGreatDoor
open Go.RowKit

theorem run_copyK {P : Program} (w : World) (dT sT ty elem : TypeId) (k : Nat) (g o dLen dCap : Nat) (a : Addr) (sLen sCap : Nat) (cur : Array Value) (t : TypeId) (cs : List Value)
    (hu : P.underlying dT = some (.slice elem)) (hs : (P.info? elem).map (·.size) = some k)
    (hg : w.heap[g]? = some (.cells cur t (0, 0))) (hn : cs.length = Nat.min sLen dLen * k)
    (hsrc : ∀ j v, cs[j]? = some v → w.cell? (a.add j) = some v) (hfit : o + cs.length ≤ cur.size) (h1 : ∀ v ∈ cs, v.oneCell' = true) :
    (Builtin.copy_ #[dT, sT] ty #[.slice (some ⟨g, o, none⟩) dLen dCap, .slice (some a) sLen sCap]).run P w =
      .ok (goInt (Nat.min sLen dLen)) (w.setRow g (cur.toList.take o ++ cs ++ cur.toList.drop (o + cs.length)).toArray) := by
  have hl := run_loadCells_list (P := P) w a cs hsrc
  have hst := run_storeCells_at P g o t cs 0 cur w hg (by simpa using hfit) h1
  cases hq : P.info? elem with
  | none => simp [hq] at hs
  | some i =>
    have hi : i.size = k := by simpa [hq] using hs
    simp [Builtin.copy_, run_underlying hu, Builtin.lenOf, Builtin.firstCells, sizeOf, typeInfo, hq, hi, ← hn, hl, hst]
theorem run_copyK_none {P : Program} (w : World) (dT sT ty elem : TypeId) (k : Nat) (d a : Option Addr) (dLen dCap sLen sCap : Nat) (hu : P.underlying dT = some (.slice elem)) (hs : (P.info? elem).map (·.size) = some k) (hn : Nat.min sLen dLen = 0) :
    (Builtin.copy_ #[dT, sT] ty #[.slice d dLen dCap, .slice a sLen sCap]).run P w = .ok (goInt 0) w := by
  cases hq : P.info? elem with
  | none => simp [hq] at hs
  | some i =>
    have hl : ∀ (x : Addr), (loadCells x 0).run P w = .ok #[] w := fun x => by simpa using run_loadCells_list (P := P) w x [] (by simp)
    cases d <;> cases a <;> simp [Builtin.copy_, run_underlying hu, Builtin.lenOf, Builtin.firstCells, sizeOf, typeInfo, hq, hn, storeCells, hl]

theorem wpList_copyK {P : Program} {w : World} {ops : Array Oper} {rest : List Oper} {o : Oper} {a : Act} {Q : Exit → Act → World → Prop} (hgd : o.guard = none) (d s : Operand) (dT sT : TypeId)
    (ho : o.op = .call { callee := .builtin .copy, args := #[d, s], argTypes := #[dT, sT] }) (elem : TypeId) (k : Nat) (hu : P.underlying dT = some (.slice elem)) (hsz : (P.info? elem).map (·.size) = some k)
    (dp sp : Option Addr) (dLen dCap sLen sCap : Nat) (hd : a.eval d = .slice dp dLen dCap) (hs : a.eval s = .slice sp sLen sCap)
    (g off : Nat) (cur : List Value) (t : TypeId) (hg : w.heap[g]? = some (.cells cur.toArray t (0, 0))) (cs : List Value) (m : Nat) (hm : m = Nat.min sLen dLen) (hn : cs.length = m * k)
    (hpos : 0 < m → dp = some ⟨g, off, none⟩ ∧ ∃ ad, sp = some ad ∧ ∀ j v, cs[j]? = some v → w.cell? (ad.add j) = some v)
    (hfit : off + cs.length ≤ cur.length) (h1 : ∀ v ∈ cs, v.oneCell' = true) (B : Nat) (w0 : World) (hb : Below B w0 w) (hBg : B ≤ g)
    (h : ∀ w', Hid (w'.heap[g]? = some (.cells (splice cur off cs).toArray t (0, 0)) ∧ Below B w0 w' ∧ ∀ b, b ≠ g → w'.heap[b]? = w.heap[b]?) → wpList P ops Q rest (a.put o.dst (goInt m)) w') :
    wpList P ops Q (o :: rest) a w := by
  subst hm
  refine wpList_plain hgd fun K hK => ?_
  by_cases h0 : Nat.min sLen dLen = 0
  · have hc : cs.length = 0 := by rw [hn, h0, Nat.zero_mul]
    obtain rfl : cs = [] := List.eq_nil_of_length_eq_zero hc
    have hrun := run_copyK_none (P := P) w dT sT o.type elem k dp sp dLen dCap sLen sCap hu hsz h0
    unfold Oper.wp
    simp [execOp, ho, resolve, invoke, builtin, hd, hs, hrun, Result.andThen]
    have q := h w ⟨by simpa [splice] using hg, hb, fun _ _ => rfl⟩
    rw [h0] at q
    exact hK _ _ q
  · obtain ⟨rfl, ad, rfl, hsrc⟩ := hpos (by omega)
    have hrun := run_copyK (P := P) w dT sT o.type elem k g off dLen dCap ad sLen sCap cur.toArray t cs hu hsz hg hn hsrc (by simpa using hfit) h1
    unfold Oper.wp
    simp [execOp, ho, resolve, invoke, builtin, hd, hs, hrun, Result.andThen]
    exact hK _ _ (h _ ⟨by simpa [splice] using setRow_heap w g _ _ t _ hg, below_setRow hb hBg _, fun b hb => setRow_other w g b _ hb⟩)
theorem step_copyK {P : Program} {ops : Array Oper} {o : Oper} {a : Act} {w : World} {K : Act → World → Prop} {Q : Exit → Act → World → Prop} {E : Prop} (hgd : o.guard = none) (d s : Operand) (dT sT : TypeId)
    (ho : o.op = .call { callee := .builtin .copy, args := #[d, s], argTypes := #[dT, sT] }) (elem : TypeId) (k : Nat) (hu : P.underlying dT = some (.slice elem)) (hsz : (P.info? elem).map (·.size) = some k)
    (dp sp : Option Addr) (dLen dCap sLen sCap : Nat) (hd : a.eval d = .slice dp dLen dCap) (hs : a.eval s = .slice sp sLen sCap)
    (g off : Nat) (cur : List Value) (t : TypeId) (hg : w.heap[g]? = some (.cells cur.toArray t (0, 0))) (cs : List Value) (m : Nat) (hm : m = Nat.min sLen dLen) (hn : cs.length = m * k)
    (hpos : 0 < m → dp = some ⟨g, off, none⟩ ∧ ∃ ad, sp = some ad ∧ ∀ j v, cs[j]? = some v → w.cell? (ad.add j) = some v)
    (hfit : off + cs.length ≤ cur.length) (h1 : ∀ v ∈ cs, v.oneCell' = true) (B : Nat) (w0 : World) (hb : Below B w0 w) (hBg : B ≤ g)
    (h : ∀ w', Hid (w'.heap[g]? = some (.cells (splice cur off cs).toArray t (0, 0)) ∧ Below B w0 w' ∧ ∀ b, b ≠ g → w'.heap[b]? = w.heap[b]?) → K (a.put o.dst (goInt m)) w') :
    if Region.wanted o (yielded ops a.tmps) = true then Oper.wp P o a w K Q else E := by
  have hw : Region.wanted o (yielded ops a.tmps) = true := by simp [Region.wanted, hgd]
  rw [if_pos hw]
  subst hm
  by_cases h0 : Nat.min sLen dLen = 0
  · have hc : cs.length = 0 := by rw [hn, h0, Nat.zero_mul]
    obtain rfl : cs = [] := List.eq_nil_of_length_eq_zero hc
    have hrun := run_copyK_none (P := P) w dT sT o.type elem k dp sp dLen dCap sLen sCap hu hsz h0
    unfold Oper.wp
    simp [execOp, ho, resolve, invoke, builtin, hd, hs, hrun, Result.andThen]
    have q := h w ⟨by simpa [splice] using hg, hb, fun _ _ => rfl⟩
    rw [h0] at q
    exact q
  · obtain ⟨rfl, ad, rfl, hsrc⟩ := hpos (by omega)
    have hrun := run_copyK (P := P) w dT sT o.type elem k g off dLen dCap ad sLen sCap cur.toArray t cs hu hsz hg hn hsrc (by simpa using hfit) h1
    unfold Oper.wp
    simp [execOp, ho, resolve, invoke, builtin, hd, hs, hrun, Result.andThen]
    exact h _ ⟨by simpa [splice] using setRow_heap w g _ _ t _ hg, below_setRow hb hBg _, fun b hb => setRow_other w g b _ hb⟩

theorem cell_size : (Tryz.prog.info? 65).map (·.size) = some 11 := by kernel_rfl
def zCe : Ce := ⟨0, coZ, coZ, false, false⟩
def fillC (c : Ce) (n k : Nat) : List Ce := List.replicate k c ++ List.replicate (n - k) zCe
theorem fillC_len {c : Ce} {n k : Nat} (h : k ≤ n) : (fillC c n k).length = n := by simp [fillC]; omega
theorem splice_flat (L M : List Ce) (o : Nat) : splice (flatC L) (o * 11) (flatC M) = flatC (splice L o M) := by
  unfold splice
  rw [flatC_app, flatC_app, flatC_len]
  have h1 : ∀ (L : List Ce) (k : Nat), (flatC L).take (k * 11) = flatC (L.take k) := by
    intro L
    induction L with
    | nil => intro k; simp [flatC]
    | cons s l ih =>
      intro k
      cases k with
      | zero => simp [flatC]
      | succ k =>
        show (cCel s ++ flatC l).take ((k + 1) * 11) = cCel s ++ flatC (l.take k)
        rw [List.take_append, cCel_len, List.take_of_length_le (by rw [cCel_len]; omega), show (k + 1) * 11 - 11 = k * 11 by omega, ih]
  have h2 : ∀ (L : List Ce) (k : Nat), (flatC L).drop (k * 11) = flatC (L.drop k) := by
    intro L
    induction L with
    | nil => intro k; simp [flatC]
    | cons s l ih =>
      intro k
      cases k with
      | zero => simp [flatC]
      | succ k =>
        show (cCel s ++ flatC l).drop ((k + 1) * 11) = flatC (l.drop k)
        rw [List.drop_append, cCel_len, List.drop_of_length_le (by rw [cCel_len]; omega), List.nil_append, show (k + 1) * 11 - 11 = k * 11 by omega, ih]
  rw [h1, show o * 11 + M.length * 11 = (o + M.length) * 11 by omega, h2]
theorem fillC_splice {c : Ce} {n k m : Nat} (h : k + m ≤ n) : splice (fillC c n k) k (List.replicate m c) = fillC c n (k + m) := by
  unfold splice fillC
  simp only [List.length_replicate]
  rw [List.take_append_of_le_length (by simp), List.take_of_length_le (by simp), List.drop_append]
  simp only [List.length_replicate, List.drop_replicate]
  rw [show k - (k + m) = 0 by omega, show n - k - (k + m - k) = n - (k + m) by omega]
  rw [← List.append_assoc, List.replicate_append_replicate, List.replicate_zero, List.nil_append]
theorem fillC_end (c : Ce) (n : Nat) : fillC c n n = List.replicate n c := by simp [fillC]

end Go.Proofs.YtapachlhdgehjaaGreatDoor
