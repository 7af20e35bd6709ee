/-
  Texts of this claim, one behind the other: what each is about stands ahead of it.
-/
import Derived.Test.YtcahdmfmcojaoaaGreatDoorK7
import Derived.Laws.MathBits
import Derived.Laws.CopyOwn
import Derived.Test.YtcahdmfmcojaoaaGreatDoorK8
import Derived.Test.YtcahdmfmcojaoaaGreatDoorK11
/-
  copy of things of several cells each; slices.Repeat of one cell.
-/
namespace Go.Proofs.YtcahdmfmcojaoaaGreatDoor
open Go.RowKit

theorem run_copyK {P : Program} (w : World) (dT sT ty elem : TypeId) (k : Nat) (g o dLen dCap : Nat) (a : Addr) (sLen sCap : Nat) (cur : Array Value) (t : TypeId) (cs : List Value)
    (hu : P.underlying dT = some (.slice elem)) (hs : (P.info? elem).map (·.size) = some k)
    (hg : w.heap[g]? = some (.cells cur t (0, 0))) (hn : cs.length = Nat.min sLen dLen * k)
    (hsrc : ∀ j v, cs[j]? = some v → w.cell? (a.add j) = some v) (hfit : o + cs.length ≤ cur.size) (h1 : ∀ v ∈ cs, v.oneCell' = true) :
    (Builtin.copy_ #[dT, sT] ty #[.slice (some ⟨g, o, none⟩) dLen dCap, .slice (some a) sLen sCap]).run P w =
      .ok (goInt (Nat.min sLen dLen)) (w.setRow g (cur.toList.take o ++ cs ++ cur.toList.drop (o + cs.length)).toArray) := by
  have hl := run_loadCells_list (P := P) w a cs hsrc
  have hst := run_storeCells_at P g o t cs 0 cur w hg (by simpa using hfit) h1
  cases hq : P.info? elem with
  | none => simp [hq] at hs
  | some i =>
    have hi : i.size = k := by simpa [hq] using hs
    simp [Builtin.copy_, run_underlying hu, Builtin.lenOf, Builtin.firstCells, sizeOf, typeInfo, hq, hi, ← hn, hl, hst]
theorem run_copyK_none {P : Program} (w : World) (dT sT ty elem : TypeId) (k : Nat) (d a : Option Addr) (dLen dCap sLen sCap : Nat) (hu : P.underlying dT = some (.slice elem)) (hs : (P.info? elem).map (·.size) = some k) (hn : Nat.min sLen dLen = 0) :
    (Builtin.copy_ #[dT, sT] ty #[.slice d dLen dCap, .slice a sLen sCap]).run P w = .ok (goInt 0) w := by
  cases hq : P.info? elem with
  | none => simp [hq] at hs
  | some i =>
    have hl : ∀ (x : Addr), (loadCells x 0).run P w = .ok #[] w := fun x => by simpa using run_loadCells_list (P := P) w x [] (by simp)
    cases d <;> cases a <;> simp [Builtin.copy_, run_underlying hu, Builtin.lenOf, Builtin.firstCells, sizeOf, typeInfo, hq, hn, storeCells, hl]

theorem wpList_copyK {P : Program} {w : World} {ops : Array Oper} {rest : List Oper} {o : Oper} {a : Act} {Q : Exit → Act → World → Prop} (hgd : o.guard = none) (d s : Operand) (dT sT : TypeId)
    (ho : o.op = .call { callee := .builtin .copy, args := #[d, s], argTypes := #[dT, sT] }) (elem : TypeId) (k : Nat) (hu : P.underlying dT = some (.slice elem)) (hsz : (P.info? elem).map (·.size) = some k)
    (dp sp : Option Addr) (dLen dCap sLen sCap : Nat) (hd : a.eval d = .slice dp dLen dCap) (hs : a.eval s = .slice sp sLen sCap)
    (g off : Nat) (cur : List Value) (t : TypeId) (hg : w.heap[g]? = some (.cells cur.toArray t (0, 0))) (cs : List Value) (m : Nat) (hm : m = Nat.min sLen dLen) (hn : cs.length = m * k)
    (hpos : 0 < m → dp = some ⟨g, off, none⟩ ∧ ∃ ad, sp = some ad ∧ ∀ j v, cs[j]? = some v → w.cell? (ad.add j) = some v)
    (hfit : off + cs.length ≤ cur.length) (h1 : ∀ v ∈ cs, v.oneCell' = true) (B : Nat) (w0 : World) (hb : Below B w0 w) (hBg : B ≤ g)
    (h : ∀ w', Hid (w'.heap[g]? = some (.cells (splice cur off cs).toArray t (0, 0)) ∧ Below B w0 w' ∧ ∀ b, b ≠ g → w'.heap[b]? = w.heap[b]?) → wpList P ops Q rest (a.put o.dst (goInt m)) w') :
    wpList P ops Q (o :: rest) a w := by
  subst hm
  refine wpList_plain hgd fun K hK => ?_
  by_cases h0 : Nat.min sLen dLen = 0
  · have hc : cs.length = 0 := by rw [hn, h0, Nat.zero_mul]
    obtain rfl : cs = [] := List.eq_nil_of_length_eq_zero hc
    have hrun := run_copyK_none (P := P) w dT sT o.type elem k dp sp dLen dCap sLen sCap hu hsz h0
    unfold Oper.wp
    simp [execOp, ho, resolve, invoke, builtin, hd, hs, hrun, Result.andThen]
    have q := h w ⟨by simpa [splice] using hg, hb, fun _ _ => rfl⟩
    rw [h0] at q
    exact hK _ _ q
  · obtain ⟨rfl, ad, rfl, hsrc⟩ := hpos (by omega)
    have hrun := run_copyK (P := P) w dT sT o.type elem k g off dLen dCap ad sLen sCap cur.toArray t cs hu hsz hg hn hsrc (by simpa using hfit) h1
    unfold Oper.wp
    simp [execOp, ho, resolve, invoke, builtin, hd, hs, hrun, Result.andThen]
    exact hK _ _ (h _ ⟨by simpa [splice] using setRow_heap w g _ _ t _ hg, below_setRow hb hBg _, fun b hb => setRow_other w g b _ hb⟩)
theorem step_copyK {P : Program} {ops : Array Oper} {o : Oper} {a : Act} {w : World} {K : Act → World → Prop} {Q : Exit → Act → World → Prop} {E : Prop} (hgd : o.guard = none) (d s : Operand) (dT sT : TypeId)
    (ho : o.op = .call { callee := .builtin .copy, args := #[d, s], argTypes := #[dT, sT] }) (elem : TypeId) (k : Nat) (hu : P.underlying dT = some (.slice elem)) (hsz : (P.info? elem).map (·.size) = some k)
    (dp sp : Option Addr) (dLen dCap sLen sCap : Nat) (hd : a.eval d = .slice dp dLen dCap) (hs : a.eval s = .slice sp sLen sCap)
    (g off : Nat) (cur : List Value) (t : TypeId) (hg : w.heap[g]? = some (.cells cur.toArray t (0, 0))) (cs : List Value) (m : Nat) (hm : m = Nat.min sLen dLen) (hn : cs.length = m * k)
    (hpos : 0 < m → dp = some ⟨g, off, none⟩ ∧ ∃ ad, sp = some ad ∧ ∀ j v, cs[j]? = some v → w.cell? (ad.add j) = some v)
    (hfit : off + cs.length ≤ cur.length) (h1 : ∀ v ∈ cs, v.oneCell' = true) (B : Nat) (w0 : World) (hb : Below B w0 w) (hBg : B ≤ g)
    (h : ∀ w', Hid (w'.heap[g]? = some (.cells (splice cur off cs).toArray t (0, 0)) ∧ Below B w0 w' ∧ ∀ b, b ≠ g → w'.heap[b]? = w.heap[b]?) → K (a.put o.dst (goInt m)) w') :
    if Region.wanted o (yielded ops a.tmps) = true then Oper.wp P o a w K Q else E := by
  have hw : Region.wanted o (yielded ops a.tmps) = true := by simp [Region.wanted, hgd]
  rw [if_pos hw]
  subst hm
  by_cases h0 : Nat.min sLen dLen = 0
  · have hc : cs.length = 0 := by rw [hn, h0, Nat.zero_mul]
    obtain rfl : cs = [] := List.eq_nil_of_length_eq_zero hc
    have hrun := run_copyK_none (P := P) w dT sT o.type elem k dp sp dLen dCap sLen sCap hu hsz h0
    unfold Oper.wp
    simp [execOp, ho, resolve, invoke, builtin, hd, hs, hrun, Result.andThen]
    have q := h w ⟨by simpa [splice] using hg, hb, fun _ _ => rfl⟩
    rw [h0] at q
    exact q
  · obtain ⟨rfl, ad, rfl, hsrc⟩ := hpos (by omega)
    have hrun := run_copyK (P := P) w dT sT o.type elem k g off dLen dCap ad sLen sCap cur.toArray t cs hu hsz hg hn hsrc (by simpa using hfit) h1
    unfold Oper.wp
    simp [execOp, ho, resolve, invoke, builtin, hd, hs, hrun, Result.andThen]
    exact h _ ⟨by simpa [splice] using setRow_heap w g _ _ t _ hg, below_setRow hb hBg _, fun b hb => setRow_other w g b _ hb⟩

theorem cell_size : (Tryz.prog.info? 34).map (·.size) = some 11 := by kernel_rfl
def zCe : Ce := ⟨0, coZ, coZ, false, false⟩
def fillC (c : Ce) (n k : Nat) : List Ce := List.replicate k c ++ List.replicate (n - k) zCe
theorem fillC_len {c : Ce} {n k : Nat} (h : k ≤ n) : (fillC c n k).length = n := by simp [fillC]; omega
theorem splice_flat (L M : List Ce) (o : Nat) : splice (flatC L) (o * 11) (flatC M) = flatC (splice L o M) := by
  unfold splice
  rw [flatC_app, flatC_app, flatC_len]
  have h1 : ∀ (L : List Ce) (k : Nat), (flatC L).take (k * 11) = flatC (L.take k) := by
    intro L
    induction L with
    | nil => intro k; simp [flatC]
    | cons s l ih =>
      intro k
      cases k with
      | zero => simp [flatC]
      | succ k =>
        show (cCel s ++ flatC l).take ((k + 1) * 11) = cCel s ++ flatC (l.take k)
        rw [List.take_append, cCel_len, List.take_of_length_le (by rw [cCel_len]; omega), show (k + 1) * 11 - 11 = k * 11 by omega, ih]
  have h2 : ∀ (L : List Ce) (k : Nat), (flatC L).drop (k * 11) = flatC (L.drop k) := by
    intro L
    induction L with
    | nil => intro k; simp [flatC]
    | cons s l ih =>
      intro k
      cases k with
      | zero => simp [flatC]
      | succ k =>
        show (cCel s ++ flatC l).drop ((k + 1) * 11) = flatC (l.drop k)
        rw [List.drop_append, cCel_len, List.drop_of_length_le (by rw [cCel_len]; omega), List.nil_append, show (k + 1) * 11 - 11 = k * 11 by omega, ih]
  rw [h1, show o * 11 + M.length * 11 = (o + M.length) * 11 by omega, h2]
theorem fillC_splice {c : Ce} {n k m : Nat} (h : k + m ≤ n) : splice (fillC c n k) k (List.replicate m c) = fillC c n (k + m) := by
  unfold splice fillC
  simp only [List.length_replicate]
  rw [List.take_append_of_le_length (by simp), List.take_of_length_le (by simp), List.drop_append]
  simp only [List.length_replicate, List.drop_replicate]
  rw [show k - (k + m) = 0 by omega, show n - k - (k + m - k) = n - (k + m) by omega]
  rw [← List.append_assoc, List.replicate_append_replicate, List.replicate_zero, List.nil_append]
theorem fillC_end (c : Ce) (n : Nat) : fillC c n n = List.replicate n c := by simp [fillC]

end Go.Proofs.YtcahdmfmcojaoaaGreatDoor

/-
  slices.Repeat of one cell; Blank.
-/
namespace Go.Proofs.YtcahdmfmcojaoaaGreatDoor
open Go.RowKit

theorem and_smallK (n : Nat) (hn : n ≤ 262144) : bits BinOp.and IntKind.u64 (n : Int) 4294967295 = n := by
  rw [and_low32 _ (by omega) (by omega)]
  omega

set_option maxHeartbeats 1000000 in
theorem mul64K_any (n : Nat) (hn : n ≤ 262144) (w : World) : Calls Tryz.prog 102 #[.int .u64 1, .int .u64 n] w fun e w' => e = .returned (.tuple #[.int .u64 0, .int .u64 n]) ∧ w' = w := by
  have h1 := and_smallK n hn
  have h2 : bits BinOp.and IntKind.u64 1 4294967295 = 1 := by decide +kernel
  have h3 : bits BinOp.and IntKind.u64 0 4294967295 = 0 := by decide +kernel
  have h4 : (n : Int) / 4294967296 = 0 := by omega
  have h5 : IntKind.u64.wrap (n : Int) = n := by rw [IntKind.wrap_u64]; omega
  have h6 : IntKind.u64.wrap 0 = 0 := by rw [IntKind.wrap_u64]; rfl
  go_enter Tryz.func102, Tryz.ntmps102
  go_wp2
  go_ret2
  exact ⟨rfl, rfl⟩

set_option maxHeartbeats 1000000 in
theorem mulK_any (n : Nat) (hn : n ≤ 262144) (w : World) : Calls Tryz.prog 66 #[.int .u64 1, .int .u64 n] w fun e w' => e = .returned (.tuple #[.int .u64 0, .int .u64 n]) ∧ w' = w := by
  have HM : Hid (∀ W, Calls Tryz.prog 102 #[.int .u64 1, .int .u64 n] W fun e w' => e = .returned (.tuple #[.int .u64 0, .int .u64 n]) ∧ w' = W) := fun W => mul64K_any n hn W
  go_enter Tryz.func66, Tryz.ntmps66
  go_wp2_with fail
  refine (HM.out _).mono ?_
  rintro e w1 ⟨rfl, rfl⟩
  go_wp2
  go_ret2
  exact ⟨rfl, rfl⟩

set_option maxRecDepth 10000 in
theorem make_cellsZ (n : Nat) (hn : n < 1000000) (w : World) : (Instr.makeSlice 24 (.int .i64 (n : Nat)) (.int .i64 (n : Nat))).run Tryz.prog w = .ok (.slice (some ⟨w.heap.size, 0, none⟩) n n) (w.alloc (.cells (flatC (List.replicate n zCe)).toArray 34)) := by
  obtain ⟨i0, hi, hz0, hz1, hz2⟩ := info_parts info_cell
  have h := run_make (P := Tryz.prog) w 24 34 i0 _ Tryz.underlying24 hi hz0 .i64 .i64 (n : Int) (n : Int) (by omega) (Int.le_refl _) (by rw [hz2]; omega) (by omega)
  simp only [Int.toNat_natCast, hz1] at h
  rw [h]
  congr 3
  refine Array.ext (by simp [size_madeCells, flatC_len]) fun i h1 h2 => ?_
  have h3 : i % 11 < 11 := Nat.mod_lt _ (by omega)
  have h4 : i < n * 11 := by simpa [flatC_len] using h2
  have e : (flatC (List.replicate n zCe))[i]? = (cCel zCe)[i % 11]? := by
    have q := flatC_at (List.replicate n zCe) (i / 11) (by rw [List.length_replicate]; omega) (i % 11) h3
    rw [show i / 11 * 11 + i % 11 = i by omega] at q
    rw [q, List.getElem_replicate]
  have e2 : ((flatC (List.replicate n zCe)).toArray[i]'h2) = (cCel zCe)[i % 11]'(by rw [cCel_len]; exact h3) := by
    have h5 : i < (flatC (List.replicate n zCe)).length := by simpa using h2
    rw [List.getElem?_eq_getElem h5, List.getElem?_eq_getElem (by rw [cCel_len]; exact h3)] at e
    simpa using e
  rw [e2]
  simp [madeCells, Value.cells]
  generalize i % 11 = j at h3
  match j, h3 with
  | 0, _ => rfl
  | 1, _ => rfl
  | 2, _ => rfl
  | 3, _ => rfl
  | 4, _ => rfl
  | 5, _ => rfl
  | 6, _ => rfl
  | 7, _ => rfl
  | 8, _ => rfl
  | 9, _ => rfl
  | 10, _ => rfl

theorem Bk.alk {w : World} {b : Nat} {cs : Array Value} {t : TypeId} (h : Bk w b cs t) (o : Obj) : Bk (w.alloc o) b cs t := h.below ((Below.refl _ w).alloc (Nat.le_refl _) o)
def RpC (n c : Nat) (x : Ce) (g : Nat) (w wr : World) : Prop := Bk wr g (flatC (fillC x n c)).toArray 34 ∧ Below w.heap.size w wr ∧ w.heap.size ≤ g
theorem oneCc (l : List Ce) : ∀ v ∈ flatC l, v.oneCell' = true := by
  induction l with
  | nil => intro v h; cases h
  | cons c l ih =>
    intro v h
    rcases List.mem_append.1 (show v ∈ cCel c ++ flatC l from h) with h | h
    · simp only [cCel, List.mem_cons, List.not_mem_nil, or_false] at h
      rcases h with rfl | rfl | rfl | rfl | rfl | rfl | rfl | rfl | rfl | rfl | rfl <;> rfl
    · exact ih v h
theorem repC_src {w : World} {b c : Nat} {x : Ce} (hb : Bk w b (#[.int .i32 x.r, .int .u8 x.c.r, .int .u8 x.c.g, .int .u8 x.c.b, .int .u8 x.c.a, .int .u8 x.b.r, .int .u8 x.b.g, .int .u8 x.b.b, .int .u8 x.b.a, .bool x.wd, .bool x.tl]) 34) (hc : c ≤ 1) : ∀ (j : Nat) (v : Value), (flatC (List.replicate c x))[j]? = some v → w.cell? ((⟨b, 0, none⟩ : Addr).add j) = some v := by
  intro j v hj
  have hlt := (List.getElem?_eq_some_iff.1 hj).1
  rw [flatC_len, List.length_replicate] at hlt
  obtain rfl : c = 1 := by omega
  have e : flatC (List.replicate 1 x) = cCel x := flatC_one x
  rw [e] at hj
  have e2 : ((⟨b, 0, none⟩ : Addr).add j) = ⟨b, j, none⟩ := by
    simp [Addr.add]
    intro h
    exact h.symm
  rw [e2, Bk.cell hb, ← hj]
  show (cCel x).toArray[j]? = _
  simp
theorem fillC_src {w : World} {g n c m : Nat} {x : Ce} (hg : Bk w g (flatC (fillC x n c)).toArray 34) (hm : m ≤ c) : ∀ (j : Nat) (v : Value), (flatC (List.replicate m x))[j]? = some v → w.cell? ((⟨g, 0, none⟩ : Addr).add j) = some v := by
  intro j v hj
  have hlt := (List.getElem?_eq_some_iff.1 hj).1
  rw [flatC_len, List.length_replicate] at hlt
  have h3 : j % 11 < 11 := Nat.mod_lt _ (by omega)
  have e2 : ((⟨g, 0, none⟩ : Addr).add j) = ⟨g, j, none⟩ := by
    simp [Addr.add]
    intro h
    exact h.symm
  rw [e2, Bk.cell hg, ← hj]
  have q1 := flatC_at (List.replicate m x) (j / 11) (by rw [List.length_replicate]; omega) (j % 11) h3
  have q2 := flatC_at (fillC x n c) (j / 11) (by unfold fillC; simp; omega) (j % 11) h3
  rw [show j / 11 * 11 + j % 11 = j by omega] at q1 q2
  rw [q1]
  rw [show (flatC (fillC x n c)).toArray[j]? = (flatC (fillC x n c))[j]? by simp, q2]
  congr 2
  unfold fillC
  rw [List.getElem_append_left (by rw [List.length_replicate]; omega), List.getElem_replicate, List.getElem_replicate]

set_option maxRecDepth 10000 in
set_option maxHeartbeats 8000000 in
theorem repeatC_any (n : Nat) (hn : n ≤ 262144) (b : Nat) (x : Ce) (w : World) (hb : Bk w b (#[.int .i32 x.r, .int .u8 x.c.r, .int .u8 x.c.g, .int .u8 x.c.b, .int .u8 x.c.a, .int .u8 x.b.r, .int .u8 x.b.g, .int .u8 x.b.b, .int .u8 x.b.a, .bool x.wd, .bool x.tl]) 34) :
    Calls Tryz.prog 33 #[.slice (some ⟨b, 0, none⟩) 1 1, .int .i64 n] w fun e w' => ∃ g, e = .returned (.slice (some ⟨g, 0, none⟩) n n) ∧ Hid (Bk w' g (flatC (List.replicate n x)).toArray 34 ∧ Below w.heap.size w w' ∧ w.heap.size ≤ g) := by
  have HM : Hid (∀ W, Calls Tryz.prog 66 #[.int .u64 1, .int .u64 n] W fun e w' => e = .returned (.tuple #[.int .u64 0, .int .u64 n]) ∧ w' = W) := fun W => mulK_any n hn W
  have hw1 : IntKind.u64.wrap (n : Int) = n := by rw [IntKind.wrap_u64]; omega
  have hw2 : IntKind.i64.wrap (n : Int) = n := by rw [IntKind.wrap_i64]; omega
  have h9 : ¬ (9223372036854775807 : Int) < n := by omega
  have h0 : ¬ (n : Int) < 0 := by omega
  have hmk := make_cellsZ n (by omega) w
  have HB : Hid (Bk w b (#[.int .i32 x.r, .int .u8 x.c.r, .int .u8 x.c.g, .int .u8 x.c.b, .int .u8 x.c.a, .int .u8 x.b.r, .int .u8 x.b.g, .int .u8 x.b.b, .int .u8 x.b.a, .bool x.wd, .bool x.tl]) 34) := hb
  have H0 : Hid (RpC n 0 x w.heap.size w (w.alloc (.cells (flatC (List.replicate n zCe)).toArray 34))) := by
    refine ⟨?_, (Below.refl _ _).alloc (Nat.le_refl _) _, Nat.le_refl _⟩
    have e : fillC x n 0 = List.replicate n zCe := by simp [fillC]
    rw [e]
    exact Bk.new w _ _
  have HC : Hid (Bk (w.alloc (.cells (flatC (List.replicate n zCe)).toArray 34)) b (#[.int .i32 x.r, .int .u8 x.c.r, .int .u8 x.c.g, .int .u8 x.c.b, .int .u8 x.c.a, .int .u8 x.b.r, .int .u8 x.b.g, .int .u8 x.b.b, .int .u8 x.b.a, .bool x.wd, .bool x.tl]) 34) := Bk.alk hb _
  clear hb
  obtain ⟨c0, hc0⟩ : ∃ c0, c0 = min n 1 := ⟨_, rfl⟩
  have hc1 : c0 ≤ 1 ∧ c0 ≤ n ∧ (0 < n → 0 < c0) := by omega
  have Hc0 : Hid (c0 = min n 1) := hc0
  clear hc0
  go_enter Tryz.func33, Tryz.ntmps33
  go_wp2_with fail
  refine (HM.out _).mono ?_
  rintro e w1 ⟨rfl, rfl⟩
  obtain ⟨W0, HW0⟩ : ∃ W0, Hid (W0 = w1) := ⟨_, rfl⟩
  have H0' : Hid (RpC n 0 x w1.heap.size W0 (w1.alloc (.cells (flatC (List.replicate n zCe)).toArray 34))) := by rw [HW0.out]; exact H0.out
  have Hmin : Hid (c0 = Nat.min 1 n) := by have := Hc0.out; show c0 = min 1 n; omega
  have hlen : (flatC (List.replicate c0 x)).length = c0 * 11 := by rw [flatC_len, List.length_replicate]
  go_wp2_with (refine wpList_copyK rfl _ _ 24 24 rfl 34 11 Tryz.underlying24 cell_size (some ⟨w1.heap.size, 0, none⟩) (some ⟨b, 0, none⟩) n n 1 1 (by rfl) (by rfl) w1.heap.size 0 (flatC (fillC x n 0)) 34 H0'.out.1 (flatC (List.replicate c0 x)) c0 Hmin.out hlen (fun _ => ⟨rfl, ⟨b, 0, none⟩, rfl, repC_src HC.out hc1.1⟩) (by rw [hlen, flatC_len, fillC_len (by omega)]; omega) (oneCc _) W0.heap.size W0 H0'.out.2.1 H0'.out.2.2 ?_)
  intro w2 HG2
  obtain ⟨g, Hg⟩ : ∃ g, Hid (g = w1.heap.size) := ⟨_, rfl⟩
  have H2 : Hid (RpC n c0 x g W0 w2) := by
    refine ⟨?_, HG2.out.2.1, by rw [Hg.out]; exact H0'.out.2.2⟩
    have q := HG2.out.1
    have r := fillC_splice (c := x) (n := n) (k := 0) (m := c0) (by omega)
    have r2 := splice_flat (fillC x n 0) (List.replicate c0 x) 0
    rw [Nat.zero_mul] at r2
    rw [r2, r, Nat.zero_add] at q
    rw [Hg.out]
    exact q
  rw [← Hg.out]
  clear HG2 H0' H0 HC HB hlen hmk Hmin h9
  have Hw : Hid (W0.heap.size = w1.heap.size) := by unfold Hid; rw [HW0.out]
  go_wp2_with fail
  go_loopw [8] (fun i wr => ∃ c : Nat, i = .int .i64 c ∧ c ≤ n ∧ (0 < n → 0 < c) ∧ Hid (RpC n c x g W0 wr)) (fun i _ => n - (intOf i).toNat)
  case atStart => exact ⟨c0, rfl, hc1.2.1, hc1.2.2, H2⟩
  case round =>
    obtain ⟨c, rfl, hcn, hcp, HR⟩ := hrel
    clear H2
    by_cases hlt : c < n
    · have ik : (c : Int) < n := by omega
      have ik2 : (c : Int) ≤ n := by omega
      have hne : ¬ c = n := by omega
      go_wp2_with fail
      obtain ⟨m, Hm⟩ : ∃ m, Hid (m = min (n - c) c) := ⟨_, rfl⟩
      have hm : m ≤ c ∧ c + m ≤ n ∧ 0 < m := by have := Hm.out; have := hcp (by omega); omega
      have Hmin2 : Hid (m = Nat.min c (n - c)) := by have := Hm.out; show m = min c (n - c); omega
      have hml : (flatC (List.replicate m x)).length = m * 11 := by rw [flatC_len, List.length_replicate]
      have hwm : IntKind.i64.wrap ((c : Int) + (m : Int)) = c + m := by rw [IntKind.wrap_i64]; omega
      go_region_law (refine step_copyK rfl (.tmp 41) (.tmp 44) 24 24 rfl 34 11 Tryz.underlying24 cell_size (some ⟨g, c * 11, none⟩) (some ⟨g, 0, none⟩) (n - c) (n - c) c n (by simp [Act.eval, Act.put] <;> omega) (by simp [Act.eval, Act.put]) g (c * 11) (flatC (fillC x n c)) 34 HR.out.1 (flatC (List.replicate m x)) m Hmin2.out hml (fun _ => ⟨rfl, ⟨g, 0, none⟩, rfl, fillC_src HR.out.1 hm.1⟩) (by rw [hml, flatC_len, fillC_len (by omega)]; omega) (oneCc _) W0.heap.size W0 (by repeat (first | exact HR.out.2.1 | refine Below.drew ?_)) HR.out.2.2 ?_; intro w5 H5)
      all_goals
        have H6 : Hid (RpC n (c + m) x g W0 w5) := by
          refine ⟨?_, H5.out.2.1, HR.out.2.2⟩
          have q := H5.out.1
          rw [splice_flat, fillC_splice (by omega)] at q
          exact q
        clear H5 HR
        go_wp2
        exact ⟨⟨c + m, by go_num, by omega, fun _ => by omega, H6⟩, by simp [intOf]; omega⟩
    · obtain rfl : c = n := by omega
      have HF : Hid (Bk wr g (flatC (List.replicate c x)).toArray 34 ∧ Below w1.heap.size w1 wr ∧ w1.heap.size ≤ g) := by
        have q := HR.out
        unfold RpC at q
        rw [fillC_end, HW0.out] at q
        exact q
      clear HR
      go_wp2
      go_ret
      exact ⟨_, rfl, HF⟩

end Go.Proofs.YtcahdmfmcojaoaaGreatDoor
