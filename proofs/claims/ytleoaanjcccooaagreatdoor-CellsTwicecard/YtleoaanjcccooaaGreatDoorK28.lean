/-
  Texts of this claim, one behind the other: what each is about stands ahead of it.
-/
import Derived.Test.YtleoaanjcccooaaGreatDoorK8
import Derived.Laws.MathBits
import Derived.Laws.CopyOwn
import Derived.Test.YtleoaanjcccooaaGreatDoorK9
import Derived.Test.YtleoaanjcccooaaGreatDoorK11
import Derived.Test.YtleoaanjcccooaaGreatDoorK24
import Derived.Test.YtleoaanjcccooaaGreatDoorK27
/-
  copy of things of several cells each; slices.Repeat of one cell.
-/
namespace Go.Proofs.YtleoaanjcccooaaGreatDoor
open Go.RowKit

theorem run_copyK {P : Program} (w : World) (dT sT ty elem : TypeId) (k : Nat) (g o dLen dCap : Nat) (a : Addr) (sLen sCap : Nat) (cur : Array Value) (t : TypeId) (cs : List Value)
    (hu : P.underlying dT = some (.slice elem)) (hs : (P.info? elem).map (·.size) = some k)
    (hg : w.heap[g]? = some (.cells cur t (0, 0))) (hn : cs.length = Nat.min sLen dLen * k)
    (hsrc : ∀ j v, cs[j]? = some v → w.cell? (a.add j) = some v) (hfit : o + cs.length ≤ cur.size) (h1 : ∀ v ∈ cs, v.oneCell' = true) :
    (Builtin.copy_ #[dT, sT] ty #[.slice (some ⟨g, o, none⟩) dLen dCap, .slice (some a) sLen sCap]).run P w =
      .ok (goInt (Nat.min sLen dLen)) (w.setRow g (cur.toList.take o ++ cs ++ cur.toList.drop (o + cs.length)).toArray) := by
  have hl := run_loadCells_list (P := P) w a cs hsrc
  have hst := run_storeCells_at P g o t cs 0 cur w hg (by simpa using hfit) h1
  cases hq : P.info? elem with
  | none => simp [hq] at hs
  | some i =>
    have hi : i.size = k := by simpa [hq] using hs
    simp [Builtin.copy_, run_underlying hu, Builtin.lenOf, Builtin.firstCells, sizeOf, typeInfo, hq, hi, ← hn, hl, hst]
theorem run_copyK_none {P : Program} (w : World) (dT sT ty elem : TypeId) (k : Nat) (d a : Option Addr) (dLen dCap sLen sCap : Nat) (hu : P.underlying dT = some (.slice elem)) (hs : (P.info? elem).map (·.size) = some k) (hn : Nat.min sLen dLen = 0) :
    (Builtin.copy_ #[dT, sT] ty #[.slice d dLen dCap, .slice a sLen sCap]).run P w = .ok (goInt 0) w := by
  cases hq : P.info? elem with
  | none => simp [hq] at hs
  | some i =>
    have hl : ∀ (x : Addr), (loadCells x 0).run P w = .ok #[] w := fun x => by simpa using run_loadCells_list (P := P) w x [] (by simp)
    cases d <;> cases a <;> simp [Builtin.copy_, run_underlying hu, Builtin.lenOf, Builtin.firstCells, sizeOf, typeInfo, hq, hn, storeCells, hl]

/-- A copy of things of k cells each, in a row that is known whole. -/
theorem wpList_copyK {P : Program} {w : World} {ops : Array Oper} {rest : List Oper} {o : Oper} {a : Act} {Q : Exit → Act → World → Prop} (hgd : o.guard = none) (d s : Operand) (dT sT : TypeId)
    (ho : o.op = .call { callee := .builtin .copy, args := #[d, s], argTypes := #[dT, sT] }) (elem : TypeId) (k : Nat) (hu : P.underlying dT = some (.slice elem)) (hsz : (P.info? elem).map (·.size) = some k)
    (dp sp : Option Addr) (dLen dCap sLen sCap : Nat) (hd : a.eval d = .slice dp dLen dCap) (hs : a.eval s = .slice sp sLen sCap)
    (g off : Nat) (cur : List Value) (t : TypeId) (hg : w.heap[g]? = some (.cells cur.toArray t (0, 0))) (cs : List Value) (m : Nat) (hm : m = Nat.min sLen dLen) (hn : cs.length = m * k)
    (hpos : 0 < m → dp = some ⟨g, off, none⟩ ∧ ∃ ad, sp = some ad ∧ ∀ j v, cs[j]? = some v → w.cell? (ad.add j) = some v)
    (hfit : off + cs.length ≤ cur.length) (h1 : ∀ v ∈ cs, v.oneCell' = true) (B : Nat) (w0 : World) (hb : Below B w0 w) (hBg : B ≤ g)
    (h : ∀ w', Hid (w'.heap[g]? = some (.cells (splice cur off cs).toArray t (0, 0)) ∧ Below B w0 w' ∧ ∀ b, b ≠ g → w'.heap[b]? = w.heap[b]?) → wpList P ops Q rest (a.put o.dst (goInt m)) w') :
    wpList P ops Q (o :: rest) a w := by
  subst hm
  refine wpList_plain hgd fun K hK => ?_
  by_cases h0 : Nat.min sLen dLen = 0
  · have hc : cs.length = 0 := by rw [hn, h0, Nat.zero_mul]
    obtain rfl : cs = [] := List.eq_nil_of_length_eq_zero hc
    have hrun := run_copyK_none (P := P) w dT sT o.type elem k dp sp dLen dCap sLen sCap hu hsz h0
    unfold Oper.wp
    simp [execOp, ho, resolve, invoke, builtin, hd, hs, hrun, Result.andThen]
    have q := h w ⟨by simpa [splice] using hg, hb, fun _ _ => rfl⟩
    rw [h0] at q
    exact hK _ _ q
  · obtain ⟨rfl, ad, rfl, hsrc⟩ := hpos (by omega)
    have hrun := run_copyK (P := P) w dT sT o.type elem k g off dLen dCap ad sLen sCap cur.toArray t cs hu hsz hg hn hsrc (by simpa using hfit) h1
    unfold Oper.wp
    simp [execOp, ho, resolve, invoke, builtin, hd, hs, hrun, Result.andThen]
    exact hK _ _ (h _ ⟨by simpa [splice] using setRow_heap w g _ _ t _ hg, below_setRow hb hBg _, fun b hb => setRow_other w g b _ hb⟩)
theorem step_copyK {P : Program} {ops : Array Oper} {o : Oper} {a : Act} {w : World} {K : Act → World → Prop} {Q : Exit → Act → World → Prop} {E : Prop} (hgd : o.guard = none) (d s : Operand) (dT sT : TypeId)
    (ho : o.op = .call { callee := .builtin .copy, args := #[d, s], argTypes := #[dT, sT] }) (elem : TypeId) (k : Nat) (hu : P.underlying dT = some (.slice elem)) (hsz : (P.info? elem).map (·.size) = some k)
    (dp sp : Option Addr) (dLen dCap sLen sCap : Nat) (hd : a.eval d = .slice dp dLen dCap) (hs : a.eval s = .slice sp sLen sCap)
    (g off : Nat) (cur : List Value) (t : TypeId) (hg : w.heap[g]? = some (.cells cur.toArray t (0, 0))) (cs : List Value) (m : Nat) (hm : m = Nat.min sLen dLen) (hn : cs.length = m * k)
    (hpos : 0 < m → dp = some ⟨g, off, none⟩ ∧ ∃ ad, sp = some ad ∧ ∀ j v, cs[j]? = some v → w.cell? (ad.add j) = some v)
    (hfit : off + cs.length ≤ cur.length) (h1 : ∀ v ∈ cs, v.oneCell' = true) (B : Nat) (w0 : World) (hb : Below B w0 w) (hBg : B ≤ g)
    (h : ∀ w', Hid (w'.heap[g]? = some (.cells (splice cur off cs).toArray t (0, 0)) ∧ Below B w0 w' ∧ ∀ b, b ≠ g → w'.heap[b]? = w.heap[b]?) → K (a.put o.dst (goInt m)) w') :
    if Region.wanted o (yielded ops a.tmps) = true then Oper.wp P o a w K Q else E := by
  have hw : Region.wanted o (yielded ops a.tmps) = true := by simp [Region.wanted, hgd]
  rw [if_pos hw]
  subst hm
  by_cases h0 : Nat.min sLen dLen = 0
  · have hc : cs.length = 0 := by rw [hn, h0, Nat.zero_mul]
    obtain rfl : cs = [] := List.eq_nil_of_length_eq_zero hc
    have hrun := run_copyK_none (P := P) w dT sT o.type elem k dp sp dLen dCap sLen sCap hu hsz h0
    unfold Oper.wp
    simp [execOp, ho, resolve, invoke, builtin, hd, hs, hrun, Result.andThen]
    have q := h w ⟨by simpa [splice] using hg, hb, fun _ _ => rfl⟩
    rw [h0] at q
    exact q
  · obtain ⟨rfl, ad, rfl, hsrc⟩ := hpos (by omega)
    have hrun := run_copyK (P := P) w dT sT o.type elem k g off dLen dCap ad sLen sCap cur.toArray t cs hu hsz hg hn hsrc (by simpa using hfit) h1
    unfold Oper.wp
    simp [execOp, ho, resolve, invoke, builtin, hd, hs, hrun, Result.andThen]
    exact h _ ⟨by simpa [splice] using setRow_heap w g _ _ t _ hg, below_setRow hb hBg _, fun b hb => setRow_other w g b _ hb⟩

theorem cell_size : (Tryz.prog.info? 47).map (·.size) = some 11 := by kernel_rfl
/-- A cell of which nothing is told. -/
def zCe : Ce := ⟨0, coZ, coZ, false, false⟩
/-- A row that is being filled with a cell. -/
def fillC (c : Ce) (n k : Nat) : List Ce := List.replicate k c ++ List.replicate (n - k) zCe
theorem fillC_len {c : Ce} {n k : Nat} (h : k ≤ n) : (fillC c n k).length = n := by simp [fillC]; omega
theorem splice_flat (L M : List Ce) (o : Nat) : splice (flatC L) (o * 11) (flatC M) = flatC (splice L o M) := by
  unfold splice
  rw [flatC_app, flatC_app, flatC_len]
  have h1 : ∀ (L : List Ce) (k : Nat), (flatC L).take (k * 11) = flatC (L.take k) := by
    intro L
    induction L with
    | nil => intro k; simp [flatC]
    | cons s l ih =>
      intro k
      cases k with
      | zero => simp [flatC]
      | succ k =>
        show (cCel s ++ flatC l).take ((k + 1) * 11) = cCel s ++ flatC (l.take k)
        rw [List.take_append, cCel_len, List.take_of_length_le (by rw [cCel_len]; omega), show (k + 1) * 11 - 11 = k * 11 by omega, ih]
  have h2 : ∀ (L : List Ce) (k : Nat), (flatC L).drop (k * 11) = flatC (L.drop k) := by
    intro L
    induction L with
    | nil => intro k; simp [flatC]
    | cons s l ih =>
      intro k
      cases k with
      | zero => simp [flatC]
      | succ k =>
        show (cCel s ++ flatC l).drop ((k + 1) * 11) = flatC (l.drop k)
        rw [List.drop_append, cCel_len, List.drop_of_length_le (by rw [cCel_len]; omega), List.nil_append, show (k + 1) * 11 - 11 = k * 11 by omega, ih]
  rw [h1, show o * 11 + M.length * 11 = (o + M.length) * 11 by omega, h2]
theorem fillC_splice {c : Ce} {n k m : Nat} (h : k + m ≤ n) : splice (fillC c n k) k (List.replicate m c) = fillC c n (k + m) := by
  unfold splice fillC
  simp only [List.length_replicate]
  rw [List.take_append_of_le_length (by simp), List.take_of_length_le (by simp), List.drop_append]
  simp only [List.length_replicate, List.drop_replicate]
  rw [show k - (k + m) = 0 by omega, show n - k - (k + m - k) = n - (k + m) by omega]
  rw [← List.append_assoc, List.replicate_append_replicate, List.replicate_zero, List.nil_append]
theorem fillC_end (c : Ce) (n : Nat) : fillC c n n = List.replicate n c := by simp [fillC]

end Go.Proofs.YtleoaanjcccooaaGreatDoor

/-
  slices.Repeat of one cell; Blank.
-/
namespace Go.Proofs.YtleoaanjcccooaaGreatDoor
open Go.RowKit

theorem and_smallK (n : Nat) (hn : n ≤ 262144) : bits BinOp.and IntKind.u64 (n : Int) 4294967295 = n := by
  rw [and_low32 _ (by omega) (by omega)]
  omega

set_option maxHeartbeats 1000000 in
theorem mul64K_any (n : Nat) (hn : n ≤ 262144) (w : World) : Calls Tryz.prog 114 #[.int .u64 1, .int .u64 n] w fun e w' => e = .returned (.tuple #[.int .u64 0, .int .u64 n]) ∧ w' = w := by
  have h1 := and_smallK n hn
  have h2 : bits BinOp.and IntKind.u64 1 4294967295 = 1 := by decide +kernel
  have h3 : bits BinOp.and IntKind.u64 0 4294967295 = 0 := by decide +kernel
  have h4 : (n : Int) / 4294967296 = 0 := by omega
  have h5 : IntKind.u64.wrap (n : Int) = n := by rw [IntKind.wrap_u64]; omega
  have h6 : IntKind.u64.wrap 0 = 0 := by rw [IntKind.wrap_u64]; rfl
  go_enter Tryz.func114, Tryz.ntmps114
  go_wp2
  go_ret2
  exact ⟨rfl, rfl⟩

set_option maxHeartbeats 1000000 in
theorem mulK_any (n : Nat) (hn : n ≤ 262144) (w : World) : Calls Tryz.prog 79 #[.int .u64 1, .int .u64 n] w fun e w' => e = .returned (.tuple #[.int .u64 0, .int .u64 n]) ∧ w' = w := by
  have HM : Hid (∀ W, Calls Tryz.prog 114 #[.int .u64 1, .int .u64 n] W fun e w' => e = .returned (.tuple #[.int .u64 0, .int .u64 n]) ∧ w' = W) := fun W => mul64K_any n hn W
  go_enter Tryz.func79, Tryz.ntmps79
  go_wp2_with fail
  refine (HM.out _).mono ?_
  rintro e w1 ⟨rfl, rfl⟩
  go_wp2
  go_ret2
  exact ⟨rfl, rfl⟩

set_option maxRecDepth 10000 in
theorem make_cellsZ (n : Nat) (hn : n < 1000000) (w : World) : (Instr.makeSlice 24 (.int .i64 (n : Nat)) (.int .i64 (n : Nat))).run Tryz.prog w = .ok (.slice (some ⟨w.heap.size, 0, none⟩) n n) (w.alloc (.cells (flatC (List.replicate n zCe)).toArray 47)) := by
  obtain ⟨i0, hi, hz0, hz1, hz2⟩ := info_parts info_cell
  have h := run_make (P := Tryz.prog) w 24 47 i0 _ Tryz.underlying24 hi hz0 .i64 .i64 (n : Int) (n : Int) (by omega) (Int.le_refl _) (by rw [hz2]; omega) (by omega)
  simp only [Int.toNat_natCast, hz1] at h
  rw [h]
  congr 3
  refine Array.ext (by simp [size_madeCells, flatC_len]) fun i h1 h2 => ?_
  have h3 : i % 11 < 11 := Nat.mod_lt _ (by omega)
  have h4 : i < n * 11 := by simpa [flatC_len] using h2
  have e : (flatC (List.replicate n zCe))[i]? = (cCel zCe)[i % 11]? := by
    have q := flatC_at (List.replicate n zCe) (i / 11) (by rw [List.length_replicate]; omega) (i % 11) h3
    rw [show i / 11 * 11 + i % 11 = i by omega] at q
    rw [q, List.getElem_replicate]
  have e2 : ((flatC (List.replicate n zCe)).toArray[i]'h2) = (cCel zCe)[i % 11]'(by rw [cCel_len]; exact h3) := by
    have h5 : i < (flatC (List.replicate n zCe)).length := by simpa using h2
    rw [List.getElem?_eq_getElem h5, List.getElem?_eq_getElem (by rw [cCel_len]; exact h3)] at e
    simpa using e
  rw [e2]
  simp [madeCells, Value.cells]
  generalize i % 11 = j at h3
  match j, h3 with
  | 0, _ => rfl
  | 1, _ => rfl
  | 2, _ => rfl
  | 3, _ => rfl
  | 4, _ => rfl
  | 5, _ => rfl
  | 6, _ => rfl
  | 7, _ => rfl
  | 8, _ => rfl
  | 9, _ => rfl
  | 10, _ => rfl

theorem Bk.alk {w : World} {b : Nat} {cs : Array Value} {t : TypeId} (h : Bk w b cs t) (o : Obj) : Bk (w.alloc o) b cs t := h.below ((Below.refl _ w).alloc (Nat.le_refl _) o)
def RpC (n c : Nat) (x : Ce) (g : Nat) (w wr : World) : Prop := Bk wr g (flatC (fillC x n c)).toArray 47 ∧ Below w.heap.size w wr ∧ w.heap.size ≤ g
theorem oneCc (l : List Ce) : ∀ v ∈ flatC l, v.oneCell' = true := by
  induction l with
  | nil => intro v h; cases h
  | cons c l ih =>
    intro v h
    rcases List.mem_append.1 (show v ∈ cCel c ++ flatC l from h) with h | h
    · simp only [cCel, List.mem_cons, List.not_mem_nil, or_false] at h
      rcases h with rfl | rfl | rfl | rfl | rfl | rfl | rfl | rfl | rfl | rfl | rfl <;> rfl
    · exact ih v h
theorem repC_src {w : World} {b c : Nat} {x : Ce} (hb : Bk w b (#[.int .i32 x.r, .int .u8 x.c.r, .int .u8 x.c.g, .int .u8 x.c.b, .int .u8 x.c.a, .int .u8 x.b.r, .int .u8 x.b.g, .int .u8 x.b.b, .int .u8 x.b.a, .bool x.wd, .bool x.tl]) 47) (hc : c ≤ 1) : ∀ (j : Nat) (v : Value), (flatC (List.replicate c x))[j]? = some v → w.cell? ((⟨b, 0, none⟩ : Addr).add j) = some v := by
  intro j v hj
  have hlt := (List.getElem?_eq_some_iff.1 hj).1
  rw [flatC_len, List.length_replicate] at hlt
  obtain rfl : c = 1 := by omega
  have e : flatC (List.replicate 1 x) = cCel x := flatC_one x
  rw [e] at hj
  have e2 : ((⟨b, 0, none⟩ : Addr).add j) = ⟨b, j, none⟩ := by
    simp [Addr.add]
    intro h
    exact h.symm
  rw [e2, Bk.cell hb, ← hj]
  show (cCel x).toArray[j]? = _
  simp
theorem fillC_src {w : World} {g n c m : Nat} {x : Ce} (hg : Bk w g (flatC (fillC x n c)).toArray 47) (hm : m ≤ c) : ∀ (j : Nat) (v : Value), (flatC (List.replicate m x))[j]? = some v → w.cell? ((⟨g, 0, none⟩ : Addr).add j) = some v := by
  intro j v hj
  have hlt := (List.getElem?_eq_some_iff.1 hj).1
  rw [flatC_len, List.length_replicate] at hlt
  have h3 : j % 11 < 11 := Nat.mod_lt _ (by omega)
  have e2 : ((⟨g, 0, none⟩ : Addr).add j) = ⟨g, j, none⟩ := by
    simp [Addr.add]
    intro h
    exact h.symm
  rw [e2, Bk.cell hg, ← hj]
  have q1 := flatC_at (List.replicate m x) (j / 11) (by rw [List.length_replicate]; omega) (j % 11) h3
  have q2 := flatC_at (fillC x n c) (j / 11) (by unfold fillC; simp; omega) (j % 11) h3
  rw [show j / 11 * 11 + j % 11 = j by omega] at q1 q2
  rw [q1]
  rw [show (flatC (fillC x n c)).toArray[j]? = (flatC (fillC x n c))[j]? by simp, q2]
  congr 2
  unfold fillC
  rw [List.getElem_append_left (by rw [List.length_replicate]; omega), List.getElem_replicate, List.getElem_replicate]

set_option maxRecDepth 10000 in
set_option maxHeartbeats 8000000 in
theorem repeatC_any (n : Nat) (hn : n ≤ 262144) (b : Nat) (x : Ce) (w : World) (hb : Bk w b (#[.int .i32 x.r, .int .u8 x.c.r, .int .u8 x.c.g, .int .u8 x.c.b, .int .u8 x.c.a, .int .u8 x.b.r, .int .u8 x.b.g, .int .u8 x.b.b, .int .u8 x.b.a, .bool x.wd, .bool x.tl]) 47) :
    Calls Tryz.prog 43 #[.slice (some ⟨b, 0, none⟩) 1 1, .int .i64 n] w fun e w' => ∃ g, e = .returned (.slice (some ⟨g, 0, none⟩) n n) ∧ Hid (Bk w' g (flatC (List.replicate n x)).toArray 47 ∧ Below w.heap.size w w' ∧ w.heap.size ≤ g) := by
  have HM : Hid (∀ W, Calls Tryz.prog 79 #[.int .u64 1, .int .u64 n] W fun e w' => e = .returned (.tuple #[.int .u64 0, .int .u64 n]) ∧ w' = W) := fun W => mulK_any n hn W
  have hw1 : IntKind.u64.wrap (n : Int) = n := by rw [IntKind.wrap_u64]; omega
  have hw2 : IntKind.i64.wrap (n : Int) = n := by rw [IntKind.wrap_i64]; omega
  have h9 : ¬ (9223372036854775807 : Int) < n := by omega
  have h0 : ¬ (n : Int) < 0 := by omega
  have hmk := make_cellsZ n (by omega) w
  have HB : Hid (Bk w b (#[.int .i32 x.r, .int .u8 x.c.r, .int .u8 x.c.g, .int .u8 x.c.b, .int .u8 x.c.a, .int .u8 x.b.r, .int .u8 x.b.g, .int .u8 x.b.b, .int .u8 x.b.a, .bool x.wd, .bool x.tl]) 47) := hb
  have H0 : Hid (RpC n 0 x w.heap.size w (w.alloc (.cells (flatC (List.replicate n zCe)).toArray 47))) := by
    refine ⟨?_, (Below.refl _ _).alloc (Nat.le_refl _) _, Nat.le_refl _⟩
    have e : fillC x n 0 = List.replicate n zCe := by simp [fillC]
    rw [e]
    exact Bk.new w _ _
  have HC : Hid (Bk (w.alloc (.cells (flatC (List.replicate n zCe)).toArray 47)) b (#[.int .i32 x.r, .int .u8 x.c.r, .int .u8 x.c.g, .int .u8 x.c.b, .int .u8 x.c.a, .int .u8 x.b.r, .int .u8 x.b.g, .int .u8 x.b.b, .int .u8 x.b.a, .bool x.wd, .bool x.tl]) 47) := Bk.alk hb _
  clear hb
  obtain ⟨c0, hc0⟩ : ∃ c0, c0 = min n 1 := ⟨_, rfl⟩
  have hc1 : c0 ≤ 1 ∧ c0 ≤ n ∧ (0 < n → 0 < c0) := by omega
  have Hc0 : Hid (c0 = min n 1) := hc0
  clear hc0
  go_enter Tryz.func43, Tryz.ntmps43
  go_wp2_with fail
  refine (HM.out _).mono ?_
  rintro e w1 ⟨rfl, rfl⟩
  obtain ⟨W0, HW0⟩ : ∃ W0, Hid (W0 = w1) := ⟨_, rfl⟩
  have H0' : Hid (RpC n 0 x w1.heap.size W0 (w1.alloc (.cells (flatC (List.replicate n zCe)).toArray 47))) := by rw [HW0.out]; exact H0.out
  have Hmin : Hid (c0 = Nat.min 1 n) := by have := Hc0.out; show c0 = min 1 n; omega
  have hlen : (flatC (List.replicate c0 x)).length = c0 * 11 := by rw [flatC_len, List.length_replicate]
  go_wp2_with (refine wpList_copyK rfl _ _ 24 24 rfl 47 11 Tryz.underlying24 cell_size (some ⟨w1.heap.size, 0, none⟩) (some ⟨b, 0, none⟩) n n 1 1 (by rfl) (by rfl) w1.heap.size 0 (flatC (fillC x n 0)) 47 H0'.out.1 (flatC (List.replicate c0 x)) c0 Hmin.out hlen (fun _ => ⟨rfl, ⟨b, 0, none⟩, rfl, repC_src HC.out hc1.1⟩) (by rw [hlen, flatC_len, fillC_len (by omega)]; omega) (oneCc _) W0.heap.size W0 H0'.out.2.1 H0'.out.2.2 ?_)
  intro w2 HG2
  obtain ⟨g, Hg⟩ : ∃ g, Hid (g = w1.heap.size) := ⟨_, rfl⟩
  have H2 : Hid (RpC n c0 x g W0 w2) := by
    refine ⟨?_, HG2.out.2.1, by rw [Hg.out]; exact H0'.out.2.2⟩
    have q := HG2.out.1
    have r := fillC_splice (c := x) (n := n) (k := 0) (m := c0) (by omega)
    have r2 := splice_flat (fillC x n 0) (List.replicate c0 x) 0
    rw [Nat.zero_mul] at r2
    rw [r2, r, Nat.zero_add] at q
    rw [Hg.out]
    exact q
  rw [← Hg.out]
  clear HG2 H0' H0 HC HB hlen hmk Hmin h9
  have Hw : Hid (W0.heap.size = w1.heap.size) := by unfold Hid; rw [HW0.out]
  go_wp2_with fail
  go_loopw [8] (fun i wr => ∃ c : Nat, i = .int .i64 c ∧ c ≤ n ∧ (0 < n → 0 < c) ∧ Hid (RpC n c x g W0 wr)) (fun i _ => n - (intOf i).toNat)
  case atStart => exact ⟨c0, rfl, hc1.2.1, hc1.2.2, H2⟩
  case round =>
    obtain ⟨c, rfl, hcn, hcp, HR⟩ := hrel
    clear H2
    by_cases hlt : c < n
    · have ik : (c : Int) < n := by omega
      have ik2 : (c : Int) ≤ n := by omega
      have hne : ¬ c = n := by omega
      go_wp2_with fail
      obtain ⟨m, Hm⟩ : ∃ m, Hid (m = min (n - c) c) := ⟨_, rfl⟩
      have hm : m ≤ c ∧ c + m ≤ n ∧ 0 < m := by have := Hm.out; have := hcp (by omega); omega
      have Hmin2 : Hid (m = Nat.min c (n - c)) := by have := Hm.out; show m = min c (n - c); omega
      have hml : (flatC (List.replicate m x)).length = m * 11 := by rw [flatC_len, List.length_replicate]
      have hwm : IntKind.i64.wrap ((c : Int) + (m : Int)) = c + m := by rw [IntKind.wrap_i64]; omega
      go_region_law (refine step_copyK rfl (.tmp 41) (.tmp 44) 24 24 rfl 47 11 Tryz.underlying24 cell_size (some ⟨g, c * 11, none⟩) (some ⟨g, 0, none⟩) (n - c) (n - c) c n (by simp [Act.eval, Act.put] <;> omega) (by simp [Act.eval, Act.put]) g (c * 11) (flatC (fillC x n c)) 47 HR.out.1 (flatC (List.replicate m x)) m Hmin2.out hml (fun _ => ⟨rfl, ⟨g, 0, none⟩, rfl, fillC_src HR.out.1 hm.1⟩) (by rw [hml, flatC_len, fillC_len (by omega)]; omega) (oneCc _) W0.heap.size W0 (by repeat (first | exact HR.out.2.1 | refine Below.drew ?_)) HR.out.2.2 ?_; intro w5 H5)
      all_goals
        have H6 : Hid (RpC n (c + m) x g W0 w5) := by
          refine ⟨?_, H5.out.2.1, HR.out.2.2⟩
          have q := H5.out.1
          rw [splice_flat, fillC_splice (by omega)] at q
          exact q
        clear H5 HR
        go_wp2
        exact ⟨⟨c + m, by go_num, by omega, fun _ => by omega, H6⟩, by simp [intOf]; omega⟩
    · obtain rfl : c = n := by omega
      have HF : Hid (Bk wr g (flatC (List.replicate c x)).toArray 47 ∧ Below w1.heap.size w1 wr ∧ w1.heap.size ≤ g) := by
        have q := HR.out
        unfold RpC at q
        rw [fillC_end, HW0.out] at q
        exact q
      clear HR
      go_wp2
      go_ret
      exact ⟨_, rfl, HF⟩

end Go.Proofs.YtleoaanjcccooaaGreatDoor

/-
  Package cells: Blank.
-/
namespace Go.Proofs.YtleoaanjcccooaaGreatDoor
open Go.RowKit

theorem Bk.tyk {w : World} {g : Nat} {cs ds : Array Value} {t t' : TypeId} (h : Bk w g cs t) (k : Bk w g ds t') : t = t' := by
  have := h.symm.trans k
  injection this with this
  injection this with _ h2 _

def JBk (w : World) (sa b2 : Int) (c : Co) (n : Nat) (b : Nat → Bool) (u5 u10 u11 u12 u13 u14 u15 u16 u17 u18 u19 u20 : Value) (x : World) : Prop :=
  (b 0 = true → u10 = .agg #[.int .i64 sa, .int .i64 b2]) ∧
  (b 1 = true → u11 = (Value.agg #[.int .u8 c.r, .int .u8 c.g, .int .u8 c.b, .int .u8 c.a])) ∧
  (b 2 = true → u12 = (Value.agg #[.int .i32 (⟨32, coZ, c, false, false⟩ : Ce).r, .int .u8 (⟨32, coZ, c, false, false⟩ : Ce).c.r, .int .u8 (⟨32, coZ, c, false, false⟩ : Ce).c.g, .int .u8 (⟨32, coZ, c, false, false⟩ : Ce).c.b, .int .u8 (⟨32, coZ, c, false, false⟩ : Ce).c.a, .int .u8 (⟨32, coZ, c, false, false⟩ : Ce).b.r, .int .u8 (⟨32, coZ, c, false, false⟩ : Ce).b.g, .int .u8 (⟨32, coZ, c, false, false⟩ : Ce).b.b, .int .u8 (⟨32, coZ, c, false, false⟩ : Ce).b.a, .bool (⟨32, coZ, c, false, false⟩ : Ce).wd, .bool (⟨32, coZ, c, false, false⟩ : Ce).tl])) ∧
  (b 3 = true → ∃ g, u13 = .slice (some ⟨g, 0, none⟩) 1 1 ∧ w.heap.size ≤ g ∧ Bk x g (#[.int .i32 (⟨32, coZ, c, false, false⟩ : Ce).r, .int .u8 (⟨32, coZ, c, false, false⟩ : Ce).c.r, .int .u8 (⟨32, coZ, c, false, false⟩ : Ce).c.g, .int .u8 (⟨32, coZ, c, false, false⟩ : Ce).c.b, .int .u8 (⟨32, coZ, c, false, false⟩ : Ce).c.a, .int .u8 (⟨32, coZ, c, false, false⟩ : Ce).b.r, .int .u8 (⟨32, coZ, c, false, false⟩ : Ce).b.g, .int .u8 (⟨32, coZ, c, false, false⟩ : Ce).b.b, .int .u8 (⟨32, coZ, c, false, false⟩ : Ce).b.a, .bool (⟨32, coZ, c, false, false⟩ : Ce).wd, .bool (⟨32, coZ, c, false, false⟩ : Ce).tl]) 47) ∧
  (b 4 = true → u14 = .pointer (some ⟨w.heap.size, 0, none⟩)) ∧
  (b 5 = true → u15 = .int .i64 sa) ∧
  (b 6 = true → u16 = .pointer (some ⟨w.heap.size, 1, none⟩)) ∧
  (b 7 = true → u17 = .int .i64 b2) ∧
  (b 8 = true → u18 = .int .i64 (n : Nat)) ∧
  (b 9 = true → ∃ g, u19 = .slice (some ⟨g, 0, none⟩) n n ∧ w.heap.size ≤ g ∧ Bk x g (flatC (List.replicate n (⟨32, coZ, c, false, false⟩ : Ce))).toArray 47) ∧
  (b 10 = true → b 9 = true ∧ u20 = .agg #[.int .i64 sa, .int .i64 b2, u19]) ∧
  (b 12 = true → u5 = .int .i64 0) ∧
  Bk x w.heap.size #[.int .i64 sa, .int .i64 b2] 23 ∧
  Bk x (w.heap.size + 1) #[.int .u8 c.r, .int .u8 c.g, .int .u8 c.b, .int .u8 c.a] 45 ∧
  (b 11 = false → Bk x (w.heap.size + 1 + 1) #[.int .i64 0, .int .i64 0, .slice none 0 0] 26) ∧
  (b 11 = true → b 9 = true ∧ Bk x (w.heap.size + 1 + 1) #[.int .i64 sa, .int .i64 b2, u19] 26) ∧
  Below w.heap.size w x

theorem JBk.bel {w : World} {sa b2 : Int} {c : Co} {n : Nat} {b : Nat → Bool} {u5 u10 u11 u12 u13 u14 u15 u16 u17 u18 u19 u20 : Value} {x : World} (h : JBk w sa b2 c n b u5 u10 u11 u12 u13 u14 u15 u16 u17 u18 u19 u20 x) : Below w.heap.size w x := by
  obtain ⟨j0, j1, j2, j3, j4, j5, j6, j7, j8, j9, j10, j12, e0, e1, e2, e3, e4⟩ := h
  exact e4
theorem JBk.grow {w : World} {sa b2 : Int} {c : Co} {n : Nat} {b : Nat → Bool} {u5 u10 u11 u12 u13 u14 u15 u16 u17 u18 u19 u20 : Value} {x x' : World} (h : JBk w sa b2 c n b u5 u10 u11 u12 u13 u14 u15 u16 u17 u18 u19 u20 x) (hb : Below x.heap.size x x') : JBk w sa b2 c n b u5 u10 u11 u12 u13 u14 u15 u16 u17 u18 u19 u20 x' := by
  obtain ⟨j0, j1, j2, j3, j4, j5, j6, j7, j8, j9, j10, j12, e0, e1, e2, e3, e4⟩ := h
  exact ⟨j0, j1, j2, (fun h => (j3 h).imp fun _ k => ⟨k.1, k.2.1, k.2.2.below hb⟩), j4, j5, j6, j7, j8, (fun h => (j9 h).imp fun _ k => ⟨k.1, k.2.1, k.2.2.below hb⟩), j10, j12, e0.below hb, e1.below hb, (fun h => (e2 h).below hb), (fun h => ⟨(e3 h).1, (e3 h).2.below hb⟩), e4.trans (hb.mono e4.size)⟩

/-- A blank screen's cells. -/
def blkC (c : Co) (n : Nat) : List Ce := List.replicate n ⟨32, coZ, c, false, false⟩
set_option maxRecDepth 20000 in
set_option maxHeartbeats 8000000 in
theorem blank_ok (sa b2 : Int) (c : Co) (n : Nat) (w : World) (hs : szB sa b2 = true) (hn : (n : Int) = sa * b2) :
    Calls Tryz.prog 15 #[.agg #[.int .i64 sa, .int .i64 b2], (Value.agg #[.int .u8 c.r, .int .u8 c.g, .int .u8 c.b, .int .u8 c.a])] w fun e w' => ∃ g, e = .returned (.tuple #[.agg #[.int .i64 sa, .int .i64 b2, .slice (some ⟨g, 0, none⟩) n n], .int .i64 0]) ∧ w.heap.size ≤ g ∧ Bk w' g (flatC (blkC c n)).toArray 47 ∧ Below w.heap.size w w' := by
  have hb := szB_iff.1 hs
  have hnb : n ≤ 262144 := by omega
  have hw : IntKind.i64.wrap (sa * b2) = n := by rw [IntKind.wrap_i64]; omega
  have HBl : Hid (∀ W, Calls Tryz.prog 44 #[(Value.agg #[.int .u8 c.r, .int .u8 c.g, .int .u8 c.b, .int .u8 c.a])] W fun e w' => e = .returned (Value.agg #[.int .i32 (⟨32, coZ, c, false, false⟩ : Ce).r, .int .u8 (⟨32, coZ, c, false, false⟩ : Ce).c.r, .int .u8 (⟨32, coZ, c, false, false⟩ : Ce).c.g, .int .u8 (⟨32, coZ, c, false, false⟩ : Ce).c.b, .int .u8 (⟨32, coZ, c, false, false⟩ : Ce).c.a, .int .u8 (⟨32, coZ, c, false, false⟩ : Ce).b.r, .int .u8 (⟨32, coZ, c, false, false⟩ : Ce).b.g, .int .u8 (⟨32, coZ, c, false, false⟩ : Ce).b.b, .int .u8 (⟨32, coZ, c, false, false⟩ : Ce).b.a, .bool (⟨32, coZ, c, false, false⟩ : Ce).wd, .bool (⟨32, coZ, c, false, false⟩ : Ce).tl]) ∧ Below W.heap.size W w') := fun W => blank_any c W
  have HRp : Hid (∀ g W, Bk W g (#[.int .i32 (⟨32, coZ, c, false, false⟩ : Ce).r, .int .u8 (⟨32, coZ, c, false, false⟩ : Ce).c.r, .int .u8 (⟨32, coZ, c, false, false⟩ : Ce).c.g, .int .u8 (⟨32, coZ, c, false, false⟩ : Ce).c.b, .int .u8 (⟨32, coZ, c, false, false⟩ : Ce).c.a, .int .u8 (⟨32, coZ, c, false, false⟩ : Ce).b.r, .int .u8 (⟨32, coZ, c, false, false⟩ : Ce).b.g, .int .u8 (⟨32, coZ, c, false, false⟩ : Ce).b.b, .int .u8 (⟨32, coZ, c, false, false⟩ : Ce).b.a, .bool (⟨32, coZ, c, false, false⟩ : Ce).wd, .bool (⟨32, coZ, c, false, false⟩ : Ce).tl]) 47 → Calls Tryz.prog 43 #[.slice (some ⟨g, 0, none⟩) 1 1, .int .i64 (n : Nat)] W fun e w' => ∃ g2, e = .returned (.slice (some ⟨g2, 0, none⟩) n n) ∧ Hid (Bk w' g2 (flatC (List.replicate n (⟨32, coZ, c, false, false⟩ : Ce))).toArray 47 ∧ Below W.heap.size W w' ∧ W.heap.size ≤ g2)) := fun g W h => repeatC_any n hnb g _ W h
  have HSz : Hid (∀ W, Calls Tryz.prog 42 #[.agg #[.int .i64 sa, .int .i64 b2]] W fun e w' => e = .returned (.bool true) ∧ Below W.heap.size W w') := fun W => by
    have q := size_any sa b2 W
    rw [hs] at q
    exact q
  have H0 : Hid (∀ W, W = ((w.alloc (.cells #[.int .i64 sa, .int .i64 b2] 23)).alloc (.cells #[.int .u8 c.r, .int .u8 c.g, .int .u8 c.b, .int .u8 c.a] 45)).alloc (.cells #[.int .i64 0, .int .i64 0, .slice none 0 0] 26) → Bk W w.heap.size #[.int .i64 sa, .int .i64 b2] 23 ∧ Bk W (w.heap.size + 1) #[.int .u8 c.r, .int .u8 c.g, .int .u8 c.b, .int .u8 c.a] 45 ∧ Bk W (w.heap.size + 1 + 1) #[.int .i64 0, .int .i64 0, .slice none 0 0] 26 ∧ Below w.heap.size w W) := fun W hW => by
    have k1 := Bk.new w #[.int .i64 sa, .int .i64 b2] 23
    have k2 := Bk.new (w.alloc (.cells #[.int .i64 sa, .int .i64 b2] 23)) #[.int .u8 c.r, .int .u8 c.g, .int .u8 c.b, .int .u8 c.a] 45
    have k3 := Bk.new ((w.alloc (.cells #[.int .i64 sa, .int .i64 b2] 23)).alloc (.cells #[.int .u8 c.r, .int .u8 c.g, .int .u8 c.b, .int .u8 c.a] 45)) #[.int .i64 0, .int .i64 0, .slice none 0 0] 26
    simp only [World.size_alloc] at k2 k3
    subst hW
    exact ⟨Bk.alk (Bk.alk k1 _) _, Bk.alk k2 _, k3, (((Below.refl _ w).alloc (Nat.le_refl _) _).alloc (by simp) _).alloc (by simp; omega) _⟩
  clear hb hs hn
  go_enter Tryz.func15, Tryz.ntmps15
  go_wp2_with fail
  obtain ⟨W0, hW0⟩ : ∃ W0, W0 = ((w.alloc (.cells #[.int .i64 sa, .int .i64 b2] 23)).alloc (.cells #[.int .u8 c.r, .int .u8 c.g, .int .u8 c.b, .int .u8 c.a] 45)).alloc (.cells #[.int .i64 0, .int .i64 0, .slice none 0 0] 26) := ⟨_, rfl⟩
  have H1 := show Hid _ from H0.out W0 hW0
  rw [← hW0]
  clear hW0 H0
  refine (HSz.out _).mono ?_
  rintro e w1 ⟨rfl, hb1⟩
  have H2 : Hid (Bk w1 w.heap.size #[.int .i64 sa, .int .i64 b2] 23 ∧ Bk w1 (w.heap.size + 1) #[.int .u8 c.r, .int .u8 c.g, .int .u8 c.b, .int .u8 c.a] 45 ∧ Bk w1 (w.heap.size + 1 + 1) #[.int .i64 0, .int .i64 0, .slice none 0 0] 26 ∧ Below w.heap.size w w1) := ⟨H1.out.1.below hb1, H1.out.2.1.below hb1, H1.out.2.2.1.below hb1, H1.out.2.2.2.trans (hb1.mono H1.out.2.2.2.size)⟩
  clear hb1 H1 HSz
  go_wp2_with fail
  refine wp_region_inv (I := (fun b a x => ∃ u5 u10 u11 u12 u13 u14 u15 u16 u17 u18 u19 u20, a = ⟨#[.agg #[.int .i64 sa, .int .i64 b2], (Value.agg #[.int .u8 c.r, .int .u8 c.g, .int .u8 c.b, .int .u8 c.a]), .pointer (some ⟨w.heap.size, 0, none⟩), .pointer (some ⟨w.heap.size + 1, 0, none⟩), .pointer (some ⟨w.heap.size + 1 + 1, 0, none⟩), u5, .agg #[.int .i64 sa, .int .i64 b2], .bool true, .bool false, undef, u10, u11, u12, u13, u14, u15, u16, u17, u18, u19, u20], []⟩ ∧ Hid (JBk w sa b2 c n b u5 u10 u11 u12 u13 u14 u15 u16 u17 u18 u19 u20 x))) (by kernel_rfl) (by kernel_rfl) ?_ ?_ ?_
  · exact ⟨_, _, _, _, _, _, _, _, _, _, _, _, rfl, ⟨(fun e => by cases e), (fun e => by cases e), (fun e => by cases e), (fun e => by cases e), (fun e => by cases e), (fun e => by cases e), (fun e => by cases e), (fun e => by cases e), (fun e => by cases e), (fun e => by cases e), (fun e => by cases e), (fun e => by cases e), H2.out.1.below (Below.refl _ _).drew, H2.out.2.1.below (Below.refl _ _).drew, (fun _ => H2.out.2.2.1.below (Below.refl _ _).drew), (fun e => by cases e), H2.out.2.2.2.drew⟩⟩
  · intro b a x i o hI hbi ho hpre K' hK
    obtain ⟨u5, u10, u11, u12, u13, u14, u15, u16, u17, u18, u19, u20, rfl, HJ⟩ := hI
    have hi : i < 13 := by have := (Array.getElem?_eq_some_iff.1 ho).1; simpa using this
    rcases (show i = 0 ∨ i = 1 ∨ i = 2 ∨ i = 3 ∨ i = 4 ∨ i = 5 ∨ i = 6 ∨ i = 7 ∨ i = 8 ∨ i = 9 ∨ i = 10 ∨ i = 11 ∨ i = 12 by omega) with rfl | rfl | rfl | rfl | rfl | rfl | rfl | rfl | rfl | rfl | rfl | rfl | rfl
    · injection (show some _ = some o from ho) with ho
      subst ho
      have c0 : x.cell? ⟨w.heap.size, 0, none⟩ = some (.int .i64 sa) := by obtain ⟨j0, j1, j2, j3, j4, j5, j6, j7, j8, j9, j10, j12, e0, e1, e2, e3, e4⟩ := HJ.out; exact (Bk.at2 e0).1
      have c1 : x.cell? ⟨w.heap.size, 1, none⟩ = some (.int .i64 b2) := by obtain ⟨j0, j1, j2, j3, j4, j5, j6, j7, j8, j9, j10, j12, e0, e1, e2, e3, e4⟩ := HJ.out; exact (Bk.at2 e0).2
      have HN : Hid (JBk w sa b2 c n (fun j => if j = 0 then true else b j) u5 (.agg #[.int .i64 sa, .int .i64 b2]) u11 u12 u13 u14 u15 u16 u17 u18 u19 u20 x) := by
        obtain ⟨j0, j1, j2, j3, j4, j5, j6, j7, j8, j9, j10, j12, e0, e1, e2, e3, e4⟩ := HJ.out
        exact ⟨fun _ => rfl, j1, j2, j3, j4, j5, j6, j7, j8, j9, j10, j12, e0, e1, e2, e3, e4⟩
      clear HJ hpre
      go_simp
      exact hK _ _ ⟨u5, _, u11, u12, u13, u14, u15, u16, u17, u18, u19, u20, rfl, HN⟩
    · injection (show some _ = some o from ho) with ho
      subst ho
      have d0 : x.cell? ⟨w.heap.size + 1, 0, none⟩ = some (.int .u8 c.r) := by obtain ⟨j0, j1, j2, j3, j4, j5, j6, j7, j8, j9, j10, j12, e0, e1, e2, e3, e4⟩ := HJ.out; exact Bk.cell e1 0
      have d1 : x.cell? ⟨w.heap.size + 1, 1, none⟩ = some (.int .u8 c.g) := by obtain ⟨j0, j1, j2, j3, j4, j5, j6, j7, j8, j9, j10, j12, e0, e1, e2, e3, e4⟩ := HJ.out; exact Bk.cell e1 1
      have d2 : x.cell? ⟨w.heap.size + 1, 2, none⟩ = some (.int .u8 c.b) := by obtain ⟨j0, j1, j2, j3, j4, j5, j6, j7, j8, j9, j10, j12, e0, e1, e2, e3, e4⟩ := HJ.out; exact Bk.cell e1 2
      have d3 : x.cell? ⟨w.heap.size + 1, 3, none⟩ = some (.int .u8 c.a) := by obtain ⟨j0, j1, j2, j3, j4, j5, j6, j7, j8, j9, j10, j12, e0, e1, e2, e3, e4⟩ := HJ.out; exact Bk.cell e1 3
      have HN : Hid (JBk w sa b2 c n (fun j => if j = 1 then true else b j) u5 u10 ((Value.agg #[.int .u8 c.r, .int .u8 c.g, .int .u8 c.b, .int .u8 c.a])) u12 u13 u14 u15 u16 u17 u18 u19 u20 x) := by
        obtain ⟨j0, j1, j2, j3, j4, j5, j6, j7, j8, j9, j10, j12, e0, e1, e2, e3, e4⟩ := HJ.out
        exact ⟨j0, fun _ => rfl, j2, j3, j4, j5, j6, j7, j8, j9, j10, j12, e0, e1, e2, e3, e4⟩
      clear HJ hpre
      go_simp
      exact hK _ _ ⟨u5, u10, _, u12, u13, u14, u15, u16, u17, u18, u19, u20, rfl, HN⟩
    · injection (show some _ = some o from ho) with ho
      subst ho
      have p1 : b 1 = true := hpre 1 (by decide +kernel)
      obtain rfl : u11 = (Value.agg #[.int .u8 c.r, .int .u8 c.g, .int .u8 c.b, .int .u8 c.a]) := by obtain ⟨j0, j1, j2, j3, j4, j5, j6, j7, j8, j9, j10, j12, e0, e1, e2, e3, e4⟩ := HJ.out; exact (j1 p1)
      have HC := HBl.out x
      have HN : Hid (∀ x', Below x.heap.size x x' → JBk w sa b2 c n (fun j => if j = 2 then true else b j) u5 u10 ((Value.agg #[.int .u8 c.r, .int .u8 c.g, .int .u8 c.b, .int .u8 c.a])) ((Value.agg #[.int .i32 (⟨32, coZ, c, false, false⟩ : Ce).r, .int .u8 (⟨32, coZ, c, false, false⟩ : Ce).c.r, .int .u8 (⟨32, coZ, c, false, false⟩ : Ce).c.g, .int .u8 (⟨32, coZ, c, false, false⟩ : Ce).c.b, .int .u8 (⟨32, coZ, c, false, false⟩ : Ce).c.a, .int .u8 (⟨32, coZ, c, false, false⟩ : Ce).b.r, .int .u8 (⟨32, coZ, c, false, false⟩ : Ce).b.g, .int .u8 (⟨32, coZ, c, false, false⟩ : Ce).b.b, .int .u8 (⟨32, coZ, c, false, false⟩ : Ce).b.a, .bool (⟨32, coZ, c, false, false⟩ : Ce).wd, .bool (⟨32, coZ, c, false, false⟩ : Ce).tl])) u13 u14 u15 u16 u17 u18 u19 u20 x') := fun x' hb => by
        obtain ⟨j0, j1, j2, j3, j4, j5, j6, j7, j8, j9, j10, j12, e0, e1, e2, e3, e4⟩ := HJ.out.grow hb
        exact ⟨j0, j1, fun _ => rfl, j3, j4, j5, j6, j7, j8, j9, j10, j12, e0, e1, e2, e3, e4⟩
      clear HJ hpre
      go_simp
      refine HC.mono ?_
      rintro e x' ⟨rfl, hb⟩
      exact hK _ _ ⟨u5, u10, _, _, u13, u14, u15, u16, u17, u18, u19, u20, rfl, HN.out x' hb⟩
    · injection (show some _ = some o from ho) with ho
      subst ho
      have p2 : b 2 = true := hpre 2 (by decide +kernel)
      obtain rfl : u12 = (Value.agg #[.int .i32 (⟨32, coZ, c, false, false⟩ : Ce).r, .int .u8 (⟨32, coZ, c, false, false⟩ : Ce).c.r, .int .u8 (⟨32, coZ, c, false, false⟩ : Ce).c.g, .int .u8 (⟨32, coZ, c, false, false⟩ : Ce).c.b, .int .u8 (⟨32, coZ, c, false, false⟩ : Ce).c.a, .int .u8 (⟨32, coZ, c, false, false⟩ : Ce).b.r, .int .u8 (⟨32, coZ, c, false, false⟩ : Ce).b.g, .int .u8 (⟨32, coZ, c, false, false⟩ : Ce).b.b, .int .u8 (⟨32, coZ, c, false, false⟩ : Ce).b.a, .bool (⟨32, coZ, c, false, false⟩ : Ce).wd, .bool (⟨32, coZ, c, false, false⟩ : Ce).tl]) := by obtain ⟨j0, j1, j2, j3, j4, j5, j6, j7, j8, j9, j10, j12, e0, e1, e2, e3, e4⟩ := HJ.out; exact j2 p2
      have HN : Hid (JBk w sa b2 c n (fun j => if j = 3 then true else b j) u5 u10 u11 ((Value.agg #[.int .i32 (⟨32, coZ, c, false, false⟩ : Ce).r, .int .u8 (⟨32, coZ, c, false, false⟩ : Ce).c.r, .int .u8 (⟨32, coZ, c, false, false⟩ : Ce).c.g, .int .u8 (⟨32, coZ, c, false, false⟩ : Ce).c.b, .int .u8 (⟨32, coZ, c, false, false⟩ : Ce).c.a, .int .u8 (⟨32, coZ, c, false, false⟩ : Ce).b.r, .int .u8 (⟨32, coZ, c, false, false⟩ : Ce).b.g, .int .u8 (⟨32, coZ, c, false, false⟩ : Ce).b.b, .int .u8 (⟨32, coZ, c, false, false⟩ : Ce).b.a, .bool (⟨32, coZ, c, false, false⟩ : Ce).wd, .bool (⟨32, coZ, c, false, false⟩ : Ce).tl])) (.slice (some ⟨x.heap.size, 0, none⟩) 1 1) u14 u15 u16 u17 u18 u19 u20 (x.alloc (.cells (#[.int .i32 (⟨32, coZ, c, false, false⟩ : Ce).r, .int .u8 (⟨32, coZ, c, false, false⟩ : Ce).c.r, .int .u8 (⟨32, coZ, c, false, false⟩ : Ce).c.g, .int .u8 (⟨32, coZ, c, false, false⟩ : Ce).c.b, .int .u8 (⟨32, coZ, c, false, false⟩ : Ce).c.a, .int .u8 (⟨32, coZ, c, false, false⟩ : Ce).b.r, .int .u8 (⟨32, coZ, c, false, false⟩ : Ce).b.g, .int .u8 (⟨32, coZ, c, false, false⟩ : Ce).b.b, .int .u8 (⟨32, coZ, c, false, false⟩ : Ce).b.a, .bool (⟨32, coZ, c, false, false⟩ : Ce).wd, .bool (⟨32, coZ, c, false, false⟩ : Ce).tl]) 47))) := by
        obtain ⟨j0, j1, j2, j3, j4, j5, j6, j7, j8, j9, j10, j12, e0, e1, e2, e3, e4⟩ := HJ.out.grow ((Below.refl _ x).alloc (Nat.le_refl _) (.cells (#[.int .i32 (⟨32, coZ, c, false, false⟩ : Ce).r, .int .u8 (⟨32, coZ, c, false, false⟩ : Ce).c.r, .int .u8 (⟨32, coZ, c, false, false⟩ : Ce).c.g, .int .u8 (⟨32, coZ, c, false, false⟩ : Ce).c.b, .int .u8 (⟨32, coZ, c, false, false⟩ : Ce).c.a, .int .u8 (⟨32, coZ, c, false, false⟩ : Ce).b.r, .int .u8 (⟨32, coZ, c, false, false⟩ : Ce).b.g, .int .u8 (⟨32, coZ, c, false, false⟩ : Ce).b.b, .int .u8 (⟨32, coZ, c, false, false⟩ : Ce).b.a, .bool (⟨32, coZ, c, false, false⟩ : Ce).wd, .bool (⟨32, coZ, c, false, false⟩ : Ce).tl]) 47))
        exact ⟨j0, j1, j2, fun _ => ⟨x.heap.size, rfl, HJ.out.bel.size, Bk.new _ _ _⟩, j4, j5, j6, j7, j8, j9, j10, j12, e0, e1, e2, e3, e4⟩
      clear HJ hpre
      go_simp
      exact hK _ _ ⟨u5, u10, u11, _, _, u14, u15, u16, u17, u18, u19, u20, rfl, HN⟩
    · injection (show some _ = some o from ho) with ho
      subst ho
      have HN : Hid (JBk w sa b2 c n (fun j => if j = 4 then true else b j) u5 u10 u11 u12 u13 (.pointer (some ⟨w.heap.size, 0, none⟩)) u15 u16 u17 u18 u19 u20 x) := by
        obtain ⟨j0, j1, j2, j3, j4, j5, j6, j7, j8, j9, j10, j12, e0, e1, e2, e3, e4⟩ := HJ.out
        exact ⟨j0, j1, j2, j3, fun _ => rfl, j5, j6, j7, j8, j9, j10, j12, e0, e1, e2, e3, e4⟩
      clear HJ hpre
      go_simp
      exact hK _ _ ⟨u5, u10, u11, u12, u13, _, u15, u16, u17, u18, u19, u20, rfl, HN⟩
    · injection (show some _ = some o from ho) with ho
      subst ho
      have p4 : b 4 = true := hpre 4 (by decide +kernel)
      obtain rfl : u14 = .pointer (some ⟨w.heap.size, 0, none⟩) := by obtain ⟨j0, j1, j2, j3, j4, j5, j6, j7, j8, j9, j10, j12, e0, e1, e2, e3, e4⟩ := HJ.out; exact (j4 p4)
      have c0 : x.cell? ⟨w.heap.size, 0, none⟩ = some (.int .i64 sa) := by obtain ⟨j0, j1, j2, j3, j4, j5, j6, j7, j8, j9, j10, j12, e0, e1, e2, e3, e4⟩ := HJ.out; exact (Bk.at2 e0).1
      have HN : Hid (JBk w sa b2 c n (fun j => if j = 5 then true else b j) u5 u10 u11 u12 u13 (.pointer (some ⟨w.heap.size, 0, none⟩)) (.int .i64 sa) u16 u17 u18 u19 u20 x) := by
        obtain ⟨j0, j1, j2, j3, j4, j5, j6, j7, j8, j9, j10, j12, e0, e1, e2, e3, e4⟩ := HJ.out
        exact ⟨j0, j1, j2, j3, j4, fun _ => rfl, j6, j7, j8, j9, j10, j12, e0, e1, e2, e3, e4⟩
      clear HJ hpre
      go_simp
      exact hK _ _ ⟨u5, u10, u11, u12, u13, _, _, u16, u17, u18, u19, u20, rfl, HN⟩
    · injection (show some _ = some o from ho) with ho
      subst ho
      have HN : Hid (JBk w sa b2 c n (fun j => if j = 6 then true else b j) u5 u10 u11 u12 u13 u14 u15 (.pointer (some ⟨w.heap.size, 1, none⟩)) u17 u18 u19 u20 x) := by
        obtain ⟨j0, j1, j2, j3, j4, j5, j6, j7, j8, j9, j10, j12, e0, e1, e2, e3, e4⟩ := HJ.out
        exact ⟨j0, j1, j2, j3, j4, j5, fun _ => rfl, j7, j8, j9, j10, j12, e0, e1, e2, e3, e4⟩
      clear HJ hpre
      go_simp
      exact hK _ _ ⟨u5, u10, u11, u12, u13, u14, u15, _, u17, u18, u19, u20, rfl, HN⟩
    · injection (show some _ = some o from ho) with ho
      subst ho
      have p6 : b 6 = true := hpre 6 (by decide +kernel)
      obtain rfl : u16 = .pointer (some ⟨w.heap.size, 1, none⟩) := by obtain ⟨j0, j1, j2, j3, j4, j5, j6, j7, j8, j9, j10, j12, e0, e1, e2, e3, e4⟩ := HJ.out; exact (j6 p6)
      have c1 : x.cell? ⟨w.heap.size, 1, none⟩ = some (.int .i64 b2) := by obtain ⟨j0, j1, j2, j3, j4, j5, j6, j7, j8, j9, j10, j12, e0, e1, e2, e3, e4⟩ := HJ.out; exact (Bk.at2 e0).2
      have HN : Hid (JBk w sa b2 c n (fun j => if j = 7 then true else b j) u5 u10 u11 u12 u13 u14 u15 (.pointer (some ⟨w.heap.size, 1, none⟩)) (.int .i64 b2) u18 u19 u20 x) := by
        obtain ⟨j0, j1, j2, j3, j4, j5, j6, j7, j8, j9, j10, j12, e0, e1, e2, e3, e4⟩ := HJ.out
        exact ⟨j0, j1, j2, j3, j4, j5, j6, fun _ => rfl, j8, j9, j10, j12, e0, e1, e2, e3, e4⟩
      clear HJ hpre
      go_simp
      exact hK _ _ ⟨u5, u10, u11, u12, u13, u14, u15, _, _, u18, u19, u20, rfl, HN⟩
    · injection (show some _ = some o from ho) with ho
      subst ho
      have p5 : b 5 = true := hpre 5 (by decide +kernel)
      obtain rfl : u15 = .int .i64 sa := by obtain ⟨j0, j1, j2, j3, j4, j5, j6, j7, j8, j9, j10, j12, e0, e1, e2, e3, e4⟩ := HJ.out; exact (j5 p5)
      have p7 : b 7 = true := hpre 7 (by decide +kernel)
      obtain rfl : u17 = .int .i64 b2 := by obtain ⟨j0, j1, j2, j3, j4, j5, j6, j7, j8, j9, j10, j12, e0, e1, e2, e3, e4⟩ := HJ.out; exact (j7 p7)
      have HN : Hid (JBk w sa b2 c n (fun j => if j = 8 then true else b j) u5 u10 u11 u12 u13 u14 (.int .i64 sa) u16 (.int .i64 b2) (.int .i64 (n : Nat)) u19 u20 x) := by
        obtain ⟨j0, j1, j2, j3, j4, j5, j6, j7, j8, j9, j10, j12, e0, e1, e2, e3, e4⟩ := HJ.out
        exact ⟨j0, j1, j2, j3, j4, j5, j6, j7, fun _ => rfl, j9, j10, j12, e0, e1, e2, e3, e4⟩
      clear HJ hpre
      go_simp
      exact hK _ _ ⟨u5, u10, u11, u12, u13, u14, _, u16, _, _, u19, u20, rfl, HN⟩
    · injection (show some _ = some o from ho) with ho
      subst ho
      have p8 : b 8 = true := hpre 8 (by decide +kernel)
      obtain rfl : u18 = .int .i64 (n : Nat) := by obtain ⟨j0, j1, j2, j3, j4, j5, j6, j7, j8, j9, j10, j12, e0, e1, e2, e3, e4⟩ := HJ.out; exact (j8 p8)
      have p3 : b 3 = true := hpre 3 (by decide +kernel)
      obtain ⟨g, rfl, hgl, hg⟩ : ∃ g, u13 = .slice (some ⟨g, 0, none⟩) 1 1 ∧ w.heap.size ≤ g ∧ Bk x g (#[.int .i32 (⟨32, coZ, c, false, false⟩ : Ce).r, .int .u8 (⟨32, coZ, c, false, false⟩ : Ce).c.r, .int .u8 (⟨32, coZ, c, false, false⟩ : Ce).c.g, .int .u8 (⟨32, coZ, c, false, false⟩ : Ce).c.b, .int .u8 (⟨32, coZ, c, false, false⟩ : Ce).c.a, .int .u8 (⟨32, coZ, c, false, false⟩ : Ce).b.r, .int .u8 (⟨32, coZ, c, false, false⟩ : Ce).b.g, .int .u8 (⟨32, coZ, c, false, false⟩ : Ce).b.b, .int .u8 (⟨32, coZ, c, false, false⟩ : Ce).b.a, .bool (⟨32, coZ, c, false, false⟩ : Ce).wd, .bool (⟨32, coZ, c, false, false⟩ : Ce).tl]) 47 := by obtain ⟨j0, j1, j2, j3, j4, j5, j6, j7, j8, j9, j10, j12, e0, e1, e2, e3, e4⟩ := HJ.out; exact j3 p3
      have HC := HRp.out g x hg
      have HN : Hid (∀ x' g2, Below x.heap.size x x' → x.heap.size ≤ g2 → Bk x' g2 (flatC (List.replicate n (⟨32, coZ, c, false, false⟩ : Ce))).toArray 47 → JBk w sa b2 c n (fun j => if j = 9 then true else b j) u5 u10 u11 u12 (.slice (some ⟨g, 0, none⟩) 1 1) u14 u15 u16 u17 (.int .i64 (n : Nat)) (.slice (some ⟨g2, 0, none⟩) n n) u20 x') := fun x' g2 hb h2 h3 => by
        obtain ⟨j0, j1, j2, j3, j4, j5, j6, j7, j8, j9, j10, j12, e0, e1, e2, e3, e4⟩ := HJ.out.grow hb
        exact ⟨j0, j1, j2, j3, j4, j5, j6, j7, j8, fun _ => ⟨g2, rfl, Nat.le_trans HJ.out.bel.size h2, h3⟩, (fun h => by have := (j10 h).1; rw [hbi] at this; cases this), j12, e0, e1, e2, (fun h => by have := (e3 h).1; rw [hbi] at this; cases this), e4⟩
      clear HJ hpre hg
      go_simp
      refine HC.mono ?_
      rintro e x' ⟨g2, rfl, hh⟩
      exact hK _ _ ⟨u5, u10, u11, u12, _, u14, u15, u16, u17, _, _, u20, rfl, HN.out x' g2 hh.out.2.1 hh.out.2.2 hh.out.1⟩
    · injection (show some _ = some o from ho) with ho
      subst ho
      have p0 : b 0 = true := hpre 0 (by decide +kernel)
      obtain rfl : u10 = .agg #[.int .i64 sa, .int .i64 b2] := by obtain ⟨j0, j1, j2, j3, j4, j5, j6, j7, j8, j9, j10, j12, e0, e1, e2, e3, e4⟩ := HJ.out; exact (j0 p0)
      have p9 : b 9 = true := hpre 9 (by decide +kernel)
      obtain ⟨g, rfl⟩ : ∃ g, u19 = .slice (some ⟨g, 0, none⟩) n n := by obtain ⟨j0, j1, j2, j3, j4, j5, j6, j7, j8, j9, j10, j12, e0, e1, e2, e3, e4⟩ := HJ.out; obtain ⟨g, e, _⟩ := j9 p9; exact ⟨g, e⟩
      have HN : Hid (JBk w sa b2 c n (fun j => if j = 10 then true else b j) u5 (.agg #[.int .i64 sa, .int .i64 b2]) u11 u12 u13 u14 u15 u16 u17 u18 (.slice (some ⟨g, 0, none⟩) n n) (.agg #[.int .i64 sa, .int .i64 b2, .slice (some ⟨g, 0, none⟩) n n]) x) := by
        obtain ⟨j0, j1, j2, j3, j4, j5, j6, j7, j8, j9, j10, j12, e0, e1, e2, e3, e4⟩ := HJ.out
        exact ⟨j0, j1, j2, j3, j4, j5, j6, j7, j8, j9, fun _ => ⟨p9, rfl⟩, j12, e0, e1, e2, e3, e4⟩
      clear HJ hpre
      go_simp
      exact hK _ _ ⟨u5, _, u11, u12, u13, u14, u15, u16, u17, u18, _, _, rfl, HN⟩
    · injection (show some _ = some o from ho) with ho
      subst ho
      have p10 : b 10 = true := hpre 10 (by decide +kernel)
      obtain ⟨p9, rfl⟩ : b 9 = true ∧ u20 = _ := by obtain ⟨j0, j1, j2, j3, j4, j5, j6, j7, j8, j9, j10, j12, e0, e1, e2, e3, e4⟩ := HJ.out; exact j10 p10
      obtain ⟨g, rfl⟩ : ∃ g, u19 = .slice (some ⟨g, 0, none⟩) n n := by obtain ⟨j0, j1, j2, j3, j4, j5, j6, j7, j8, j9, j10, j12, e0, e1, e2, e3, e4⟩ := HJ.out; obtain ⟨g, e, _⟩ := j9 p9; exact ⟨g, e⟩
      have hz : Bk x (w.heap.size + 1 + 1) #[.int .i64 0, .int .i64 0, .slice none 0 0] 26 := by obtain ⟨j0, j1, j2, j3, j4, j5, j6, j7, j8, j9, j10, j12, e0, e1, e2, e3, e4⟩ := HJ.out; exact e2 hbi
      have z0 := hz.cell 0
      have z1 := hz.cell 1
      have z2 := hz.cell 2
      simp only [List.getElem?_toArray, List.getElem?_cons_zero, List.getElem?_cons_succ] at z0 z1 z2
      have f0 := hz.frozen 0
      have f1 := hz.frozen 1
      have f2 := hz.frozen 2
      have HN : Hid (JBk w sa b2 c n (fun j => if j = 11 then true else b j) u5 u10 u11 u12 u13 u14 u15 u16 u17 u18 (.slice (some ⟨g, 0, none⟩) n n) (.agg #[.int .i64 sa, .int .i64 b2, .slice (some ⟨g, 0, none⟩) n n]) (((x.setCell ⟨w.heap.size + 1 + 1, 0, none⟩ (.int .i64 sa)).setCell ⟨w.heap.size + 1 + 1, 1, none⟩ (.int .i64 b2)).setCell ⟨w.heap.size + 1 + 1, 2, none⟩ (.slice (some ⟨g, 0, none⟩) n n))) := by
        obtain ⟨j0, j1, j2, j3, j4, j5, j6, j7, j8, j9, j10, j12, e0, e1, e2, e3, e4⟩ := HJ.out
        have hne : ∀ {h : Nat} {cs : Array Value} {t : TypeId}, Bk x h cs t → t ≠ 26 → w.heap.size + 1 + 1 ≠ h := fun k ht e => by subst e; exact ht (Bk.tyk k hz)
        have oth : ∀ {h : Nat} {cs : Array Value} {t : TypeId}, Bk x h cs t → t ≠ 26 → Bk (((x.setCell ⟨w.heap.size + 1 + 1, 0, none⟩ (.int .i64 sa)).setCell ⟨w.heap.size + 1 + 1, 1, none⟩ (.int .i64 b2)).setCell ⟨w.heap.size + 1 + 1, 2, none⟩ (.slice (some ⟨g, 0, none⟩) n n)) h cs t := fun k ht => ((k.other _ _ (hne k ht)).other _ _ (hne k ht)).other _ _ (hne k ht)
        exact ⟨j0, j1, j2, (fun h => (j3 h).imp fun _ k => ⟨k.1, k.2.1, oth k.2.2 (by decide)⟩), j4, j5, j6, j7, j8, (fun h => (j9 h).imp fun _ k => ⟨k.1, k.2.1, oth k.2.2 (by decide)⟩), j10, j12, oth e0 (by decide), oth e1 (by decide), (fun c => by cases c), (fun _ => ⟨p9, ((hz.put 0 _).put 1 _).put 2 _⟩), ((e4.setCell (p := ⟨w.heap.size + 1 + 1, 0, none⟩) (by show w.heap.size ≤ w.heap.size + 1 + 1; omega) _).setCell (p := ⟨w.heap.size + 1 + 1, 1, none⟩) (by show w.heap.size ≤ w.heap.size + 1 + 1; omega) _).setCell (p := ⟨w.heap.size + 1 + 1, 2, none⟩) (by show w.heap.size ≤ w.heap.size + 1 + 1; omega) _⟩
      clear HJ hpre hz
      go_simp
      exact hK _ _ ⟨u5, u10, u11, u12, u13, u14, u15, u16, u17, u18, _, _, rfl, HN⟩
    · injection (show some _ = some o from ho) with ho
      subst ho
      have HN : Hid (JBk w sa b2 c n (fun j => if j = 12 then true else b j) (.int .i64 0) u10 u11 u12 u13 u14 u15 u16 u17 u18 u19 u20 x) := by
        obtain ⟨j0, j1, j2, j3, j4, j5, j6, j7, j8, j9, j10, j12, e0, e1, e2, e3, e4⟩ := HJ.out
        exact ⟨j0, j1, j2, j3, j4, j5, j6, j7, j8, j9, j10, fun _ => rfl, e0, e1, e2, e3, e4⟩
      clear HJ hpre
      go_simp
      exact hK _ _ ⟨_, u10, u11, u12, u13, u14, u15, u16, u17, u18, u19, u20, rfl, HN⟩
  · intro b a' x hI hall
    obtain ⟨u5, u10, u11, u12, u13, u14, u15, u16, u17, u18, u19, u20, rfl, HJ⟩ := hI
    have hall' : ∀ i, i < 13 → b i = true := fun i hi => hall i (by simpa using hi)
    obtain ⟨j0, j1, j2, j3, j4, j5, j6, j7, j8, j9, j10, j12, e0, e1, e2, e3, e4⟩ := HJ.out
    obtain ⟨g, rfl, k1, k2⟩ := j9 (hall' 9 (by omega))
    obtain rfl := j12 (hall' 12 (by omega))
    have HF : Hid (Bk x (w.heap.size + 1 + 1) #[.int .i64 sa, .int .i64 b2, .slice (some ⟨g, 0, none⟩) n n] 26 ∧ w.heap.size ≤ g ∧ Bk x g (flatC (blkC c n)).toArray 47 ∧ Below w.heap.size w x) := ⟨(e3 (hall' 11 (by omega))).2, k1, k2, e4⟩
    clear HJ hall hall' j0 j1 j2 j3 j4 j5 j6 j7 j8 j9 j10 j12 e0 e1 e2 e3 e4 k1 k2 H2
    go_wp2_with fail
    have hld : (loadVar 26 ⟨w.heap.size + 1 + 1, 0, none⟩).run Tryz.prog x = .ok (.agg #[.int .i64 sa, .int .i64 b2, .slice (some ⟨g, 0, none⟩) n n]) x := run_loadVar_row x (w.heap.size + 1 + 1) 26 26 #[.int .i64 sa, .int .i64 b2, .slice (some ⟨g, 0, none⟩) n n] (0, 0) _ HF.out.1 Tryz.underlying26 rfl (by kernel_rfl)
    refine bodyPost_ret (v := .tuple #[.agg #[.int .i64 sa, .int .i64 b2, .slice (some ⟨g, 0, none⟩) n n], .int .i64 0]) ?_ rfl ⟨g, rfl, HF.out.2⟩
    simp [results, Tryz.results15, asAddr, hld]

end Go.Proofs.YtleoaanjcccooaaGreatDoor

/-
  The screens and texts of awake, in plain words.
-/
namespace Go.Proofs.YtleoaanjcccooaaGreatDoor
open Go.RowKit

def wht : Co := ⟨255, 255, 255, 255⟩
def st1 : St := ⟨3, ⟨1, 0, 2, 2⟩, wht, coZ, ⟨#[97, 98, 10, 99]⟩, 0⟩
def st2 : St := ⟨3, ⟨3, 0, 1, 1⟩, wht, coZ, ⟨#[228, 184, 128, 120]⟩, 0⟩
def bl0 : Ce := ⟨32, coZ, coZ, false, false⟩
def A8 : List Ce := [bl0, ⟨97, wht, coZ, false, false⟩, ⟨98, wht, coZ, false, false⟩, bl0, bl0, ⟨99, wht, coZ, false, false⟩, bl0, bl0]
def S8 : List Ce := [bl0, bl0, bl0, bl0, bl0, bl0, bl0, bl0]
theorem s8_eq : blkC coZ 8 = S8 := rfl
theorem a8_eq : drwS 4 S8 (flaL [st1]) = A8 := by decide +kernel
theorem b8_eq : (drwS 4 S8 (flaL [st2])).length = 8 ∧ ((drwS 4 S8 (flaL [st2])).getD 3 ceZ).wd = true ∧ ((drwS 4 S8 (flaL [st2])).getD 3 ceZ).r = 19968 := by decide +kernel
theorem s8_ok : scE 4 2 S8 = 0 := by decide +kernel
theorem a8_ok : scE 4 2 A8 = 0 := by decide +kernel
theorem t8_eq : (⟨(txtB 4 A8 2).toArray⟩ : ByteArray) = ⟨#[32, 97, 98, 32, 10, 32, 99, 32, 32, 10]⟩ := by decide +kernel
theorem chk1 : chkS [st1] = 0 ∧ chkS [st2] = 0 := by decide +kernel
def ru1 : Ru := ⟨1, 0, [⟨97, wht, coZ, false, false⟩, ⟨98, wht, coZ, false, false⟩]⟩
def ru2 : Ru := ⟨1, 1, [⟨99, wht, coZ, false, false⟩]⟩
theorem rn_eq : rnL 4 S8 A8 2 = [ru1, ru2] := rfl
def x8 : ByteArray := ⟨#[27, 91, 49, 59, 50, 72, 27, 91, 51, 56, 59, 50, 59, 50, 53, 53, 59, 50, 53, 53, 59, 50, 53, 53, 59, 50, 53, 53, 109, 97, 98, 27, 91, 50, 59, 50, 72, 99]⟩
theorem x8_eq : (⟨(escS [ru1, ru2] (coZ, coZ) 2).1.toArray⟩ : ByteArray) = x8 := by decide +kernel
theorem x8_len : (escS [ru1, ru2] (coZ, coZ) 2).1.length ≤ 1048576 := by decide +kernel

end Go.Proofs.YtleoaanjcccooaaGreatDoor

/-
  Package cells: Draw where the screen or the list may not be; At.
-/
namespace Go.Proofs.YtleoaanjcccooaaGreatDoor
open Go.RowKit

theorem two_scr (w : World) (a b : Int) (v : Value) : Below w.heap.size w ((w.alloc (.cells #[.int .i64 a, .int .i64 b, v] 26)).alloc (.cells #[.int .i64 0, .int .i64 0, .slice none 0 0] 26)) ∧ Bk ((w.alloc (.cells #[.int .i64 a, .int .i64 b, v] 26)).alloc (.cells #[.int .i64 0, .int .i64 0, .slice none 0 0] 26)) w.heap.size #[.int .i64 a, .int .i64 b, v] 26 ∧ Bk ((w.alloc (.cells #[.int .i64 a, .int .i64 b, v] 26)).alloc (.cells #[.int .i64 0, .int .i64 0, .slice none 0 0] 26)) (w.heap.size + 1) #[.int .i64 0, .int .i64 0, .slice none 0 0] 26 := by
  have k1 := Bk.new w #[.int .i64 a, .int .i64 b, v] 26
  have k2 := Bk.new (w.alloc (.cells #[.int .i64 a, .int .i64 b, v] 26)) #[.int .i64 0, .int .i64 0, .slice none 0 0] 26
  rw [World.size_alloc] at k2
  exact ⟨((Below.refl _ w).alloc (Nat.le_refl _) _).alloc (by simp) _, k1.below ((Below.refl _ _).alloc (Nat.le_refl _) _), k2⟩

set_option maxRecDepth 20000 in
set_option maxHeartbeats 2000000 in
theorem dDraw_scr (a b : Int) (l : List Ce) (v vs : Value) (w : World) (hv : LsC w v l) (hl : l.length ≤ 9223372036854775806) (hE : scE a b l = 150) (T : Tabs w) :
    Calls Tryz.prog 7 #[.agg #[.int .i64 a, .int .i64 b, v], vs] w fun e w' => e = .returned (.tuple #[.agg #[.int .i64 0, .int .i64 0, .slice none 0 0], .int .i64 150]) ∧ Below w.heap.size w w' := by
  obtain ⟨oa, cap, rfl, hcap, -⟩ := id hv
  have HC : Hid (∀ W, Below w.heap.size w W → Calls Tryz.prog 21 #[.agg #[.int .i64 a, .int .i64 b, .slice oa l.length cap]] W fun e w' => e = .returned (.int .i64 150) ∧ Below W.heap.size W w') := fun W h => by rw [← hE]; exact checkC_any a b l _ W (hv.below h) hl (T.below h)
  have H0 : Hid (Below w.heap.size w ((w.alloc (.cells #[.int .i64 a, .int .i64 b, .slice oa l.length cap] 26)).alloc (.cells #[.int .i64 0, .int .i64 0, .slice none 0 0] 26)) ∧ Bk ((w.alloc (.cells #[.int .i64 a, .int .i64 b, .slice oa l.length cap] 26)).alloc (.cells #[.int .i64 0, .int .i64 0, .slice none 0 0] 26)) w.heap.size #[.int .i64 a, .int .i64 b, .slice oa l.length cap] 26 ∧ Bk ((w.alloc (.cells #[.int .i64 a, .int .i64 b, .slice oa l.length cap] 26)).alloc (.cells #[.int .i64 0, .int .i64 0, .slice none 0 0] 26)) (w.heap.size + 1) #[.int .i64 0, .int .i64 0, .slice none 0 0] 26) := two_scr w a b _
  clear hv T hE
  go_enter Tryz.func7, Tryz.ntmps7
  go_wp2_with fail
  generalize (w.alloc (.cells #[.int .i64 a, .int .i64 b, .slice oa l.length cap] 26)).alloc (.cells #[.int .i64 0, .int .i64 0, .slice none 0 0] 26) = w1 at *
  refine (HC.out _ H0.out.1).mono ?_
  rintro e w2 ⟨rfl, hb⟩
  have H2 : Hid (Below w.heap.size w w2 ∧ Bk w2 (w.heap.size + 1) #[.int .i64 0, .int .i64 0, .slice none 0 0] 26) := ⟨H0.out.1.trans (hb.mono H0.out.1.size), H0.out.2.2.below hb⟩
  clear hb H0 HC
  obtain ⟨z0, z1, z2⟩ := Bk.at3S H2.out.2
  have y0 := H2.out.2.frozen 0
  have y1 := H2.out.2.frozen 1
  have y2 := H2.out.2.frozen 2
  obtain ⟨W9, hW9⟩ : ∃ W9, W9 = ((w2.setCell ⟨w.heap.size + 1, 0, none⟩ (.int .i64 0)).setCell ⟨w.heap.size + 1, 1, none⟩ (.int .i64 0)).setCell ⟨w.heap.size + 1, 2, none⟩ (.slice none 0 0) := ⟨_, rfl⟩
  have H9 : Hid (Below w.heap.size w W9 ∧ Bk W9 (w.heap.size + 1) #[.int .i64 0, .int .i64 0, .slice none 0 0] 26) := by
    have u2 := H2.out.1
    rw [hW9]
    exact ⟨((u2.setCell (p := ⟨w.heap.size + 1, 0, none⟩) (by simp) _).setCell (p := ⟨w.heap.size + 1, 1, none⟩) (by simp) _).setCell (p := ⟨w.heap.size + 1, 2, none⟩) (by simp) _, H2.out.2.put3S⟩
  go_wp2
  rw [← hW9]
  clear hW9 H2 z0 z1 z2 y0 y1 y2
  obtain ⟨z0, z1, z2⟩ := Bk.at3S H9.out.2
  exact bodyPost_ret (v := .tuple #[.agg #[.int .i64 0, .int .i64 0, .slice none 0 0], .int .i64 150]) (by simp [results, Tryz.results7, go_sem, z0, z1, z2]) rfl ⟨rfl, H9.out.1⟩

set_option maxRecDepth 20000 in
set_option maxHeartbeats 2000000 in
theorem dDraw_lst (a b : Int) (l : List Ce) (v : Value) (sl : List St) (vs : Value) (w : World) (hv : LsC w v l) (hl : l.length ≤ 9223372036854775806) (hE : scE a b l = 0) (hvs : LsS w vs sl) (ht : Txs sl) (hxy : Xys sl) (hck : chkS sl ≠ 0) (T : Tabs w) :
    Calls Tryz.prog 7 #[.agg #[.int .i64 a, .int .i64 b, v], vs] w fun e w' => e = .returned (.tuple #[.agg #[.int .i64 0, .int .i64 0, .slice none 0 0], .int .i64 (chkS sl)]) ∧ Below w.heap.size w w' := by
  obtain ⟨oa, cap, rfl, hcap, -⟩ := id hv
  have HC : Hid (∀ W, Below w.heap.size w W → Calls Tryz.prog 21 #[.agg #[.int .i64 a, .int .i64 b, .slice oa l.length cap]] W fun e w' => e = .returned (.int .i64 0) ∧ Below W.heap.size W w') := fun W h => by rw [← hE]; exact checkC_any a b l _ W (hv.below h) hl (T.below h)
  obtain ⟨ce, hce⟩ : ∃ ce, ce = chkS sl := ⟨_, rfl⟩
  have HF : Hid (∀ W, Below w.heap.size w W → Calls Tryz.prog 22 #[vs] W fun e w' => ∃ u q, e = .returned (.tuple #[u, q, .int .i64 ce]) ∧ Hid (OwS W.heap.size w' u (fla1 sl) ∧ OwR W.heap.size w' q (fla2 sl) ∧ Below W.heap.size W w')) := fun W h => by
    refine (lflat_any sl vs W (hvs.below h) ht hxy).mono ?_
    rintro e w' ⟨u, q, rfl, H⟩
    rw [hce]
    exact ⟨u, q, rfl, H.out.1, H.out.2.1, H.out.2.2.2⟩
  rw [← hce] at hck ⊢
  have hne : (ce != 0) = true := by simp [hck]
  have H0 : Hid (Below w.heap.size w ((w.alloc (.cells #[.int .i64 a, .int .i64 b, .slice oa l.length cap] 26)).alloc (.cells #[.int .i64 0, .int .i64 0, .slice none 0 0] 26)) ∧ Bk ((w.alloc (.cells #[.int .i64 a, .int .i64 b, .slice oa l.length cap] 26)).alloc (.cells #[.int .i64 0, .int .i64 0, .slice none 0 0] 26)) w.heap.size #[.int .i64 a, .int .i64 b, .slice oa l.length cap] 26 ∧ Bk ((w.alloc (.cells #[.int .i64 a, .int .i64 b, .slice oa l.length cap] 26)).alloc (.cells #[.int .i64 0, .int .i64 0, .slice none 0 0] 26)) (w.heap.size + 1) #[.int .i64 0, .int .i64 0, .slice none 0 0] 26) := two_scr w a b _
  clear hv T hE hvs ht hxy hce hck
  go_enter Tryz.func7, Tryz.ntmps7
  go_wp2_with fail
  generalize (w.alloc (.cells #[.int .i64 a, .int .i64 b, .slice oa l.length cap] 26)).alloc (.cells #[.int .i64 0, .int .i64 0, .slice none 0 0] 26) = w1 at *
  refine (HC.out _ H0.out.1).mono ?_
  rintro e w2 ⟨rfl, hb⟩
  have H2 : Hid (Below w.heap.size w w2 ∧ Bk w2 (w.heap.size + 1) #[.int .i64 0, .int .i64 0, .slice none 0 0] 26) := ⟨H0.out.1.trans (hb.mono H0.out.1.size), H0.out.2.2.below hb⟩
  clear hb H0 HC
  go_wp2_with fail
  refine (HF.out _ H2.out.1).mono ?_
  rintro e w3 ⟨us, qs, rfl, H3⟩
  obtain ⟨ou, cu, eu, hcu, -⟩ := row_val H3.out.1
  obtain ⟨oq, cq, eq, hcq, -⟩ := row_val H3.out.2.1
  subst eu eq
  have H4 : Hid (Below w.heap.size w w3 ∧ Bk w3 (w.heap.size + 1) #[.int .i64 0, .int .i64 0, .slice none 0 0] 26) := ⟨H2.out.1.trans (H3.out.2.2.mono H2.out.1.size), H2.out.2.below H3.out.2.2⟩
  clear H3 H2 HF
  obtain ⟨z0, z1, z2⟩ := Bk.at3S H4.out.2
  have y0 := H4.out.2.frozen 0
  have y1 := H4.out.2.frozen 1
  have y2 := H4.out.2.frozen 2
  obtain ⟨W9, hW9⟩ : ∃ W9, W9 = ((w3.setCell ⟨w.heap.size + 1, 0, none⟩ (.int .i64 0)).setCell ⟨w.heap.size + 1, 1, none⟩ (.int .i64 0)).setCell ⟨w.heap.size + 1, 2, none⟩ (.slice none 0 0) := ⟨_, rfl⟩
  have H9 : Hid (Below w.heap.size w W9 ∧ Bk W9 (w.heap.size + 1) #[.int .i64 0, .int .i64 0, .slice none 0 0] 26) := by
    have u2 := H4.out.1
    rw [hW9]
    exact ⟨((u2.setCell (p := ⟨w.heap.size + 1, 0, none⟩) (by simp) _).setCell (p := ⟨w.heap.size + 1, 1, none⟩) (by simp) _).setCell (p := ⟨w.heap.size + 1, 2, none⟩) (by simp) _, H4.out.2.put3S⟩
  go_wp2
  rw [← hW9]
  clear hW9 H4 z0 z1 z2 y0 y1 y2
  obtain ⟨z0, z1, z2⟩ := Bk.at3S H9.out.2
  exact bodyPost_ret (v := .tuple #[.agg #[.int .i64 0, .int .i64 0, .slice none 0 0], .int .i64 ce]) (by simp [results, Tryz.results7, go_sem, z0, z1, z2]) rfl ⟨rfl, H9.out.1⟩

end Go.Proofs.YtleoaanjcccooaaGreatDoor
