/-
  What package least calls of Go's library: math/bits.Mul, slices.Repeat, Reverse, Min, Index, Grow, Concat.
-/
import Derived.Test.YthnhcphkpffkfaaGreatLB
import Derived.Laws.MathBits
import Derived.Laws.CopyOwn
namespace Go.Proofs.YthnhcphkpffkfaaGreat
open Go.RowKit

theorem and_small (n : Nat) (hn : n ≤ 4096) : bits BinOp.and IntKind.u64 (n : Int) 4294967295 = n := by
  rw [and_low32 _ (by omega) (by omega)]
  omega

set_option maxHeartbeats 1000000 in
theorem mul64_any (n : Nat) (hn : n ≤ 4096) (w : World) : Calls Tryz.prog 104 #[.int .u64 1, .int .u64 n] w fun e w' => e = .returned (.tuple #[.int .u64 0, .int .u64 n]) ∧ w' = w := by
  have h1 := and_small n hn
  have h2 : bits BinOp.and IntKind.u64 1 4294967295 = 1 := by decide +kernel
  have h3 : bits BinOp.and IntKind.u64 0 4294967295 = 0 := by decide +kernel
  have h4 : (n : Int) / 4294967296 = 0 := by omega
  have h5 : IntKind.u64.wrap (n : Int) = n := by rw [IntKind.wrap_u64]; omega
  have h6 : IntKind.u64.wrap 0 = 0 := by rw [IntKind.wrap_u64]; rfl
  go_enter Tryz.func104, Tryz.ntmps104
  go_wp2
  go_ret2
  exact ⟨rfl, rfl⟩

set_option maxHeartbeats 1000000 in
theorem mul_any (n : Nat) (hn : n ≤ 4096) (w : World) : Calls Tryz.prog 102 #[.int .u64 1, .int .u64 n] w fun e w' => e = .returned (.tuple #[.int .u64 0, .int .u64 n]) ∧ w' = w := by
  have HM : Hid (∀ W, Calls Tryz.prog 104 #[.int .u64 1, .int .u64 n] W fun e w' => e = .returned (.tuple #[.int .u64 0, .int .u64 n]) ∧ w' = W) := fun W => mul64_any n hn W
  go_enter Tryz.func102, Tryz.ntmps102
  go_wp2_with fail
  refine (HM.out _).mono ?_
  rintro e w1 ⟨rfl, rfl⟩
  go_wp2
  go_ret2
  exact ⟨rfl, rfl⟩

/-- A copy within a row that is known whole, in a region; what lies elsewhere stays. -/
theorem step_copy_mine {P : Program} {ops : Array Oper} {o : Oper} {a : Act} {w : World} {K : Act → World → Prop} {Q : Exit → Act → World → Prop} {E : Prop} (hgd : o.guard = none) (d s : Operand) (dT sT : TypeId)
    (ho : o.op = .call { callee := .builtin .copy, args := #[d, s], argTypes := #[dT, sT] }) (elem : TypeId) (hu : P.underlying dT = some (.slice elem)) (hsz : (P.info? elem).map (·.size) = some 1)
    (dp sp : Option Addr) (dLen dCap sLen sCap : Nat) (hd : a.eval d = .slice dp dLen dCap) (hs : a.eval s = .slice sp sLen sCap)
    (g off : Nat) (cur : List Value) (t : TypeId) (hg : w.heap[g]? = some (.cells cur.toArray t (0, 0))) (cs : List Value) (hn : cs.length = Nat.min sLen dLen)
    (hpos : 0 < cs.length → dp = some ⟨g, off, none⟩ ∧ ∃ ad, sp = some ad ∧ ∀ j v, cs[j]? = some v → w.cell? (ad.add j) = some v)
    (hfit : off + cs.length ≤ cur.length) (h1 : ∀ v ∈ cs, v.oneCell' = true) (B : Nat) (w0 : World) (hb : Below B w0 w) (hBg : B ≤ g)
    (h : ∀ w', Hid (w'.heap[g]? = some (.cells (splice cur off cs).toArray t (0, 0)) ∧ Below B w0 w' ∧ ∀ b, b ≠ g → w'.heap[b]? = w.heap[b]?) → K (a.put o.dst (goInt cs.length)) w') :
    if Region.wanted o (yielded ops a.tmps) = true then Oper.wp P o a w K Q else E := by
  have hw : Region.wanted o (yielded ops a.tmps) = true := by simp [Region.wanted, hgd]
  rw [if_pos hw]
  by_cases h0 : cs.length = 0
  · obtain rfl : cs = [] := List.eq_nil_of_length_eq_zero h0
    have hrun := run_copy_none (P := P) w dT sT o.type elem dp sp dLen dCap sLen sCap hu hsz (by simpa using hn.symm)
    unfold Oper.wp
    simp [execOp, ho, resolve, invoke, builtin, hd, hs, hrun, Result.andThen]
    exact h w ⟨by simpa [splice] using hg, hb, fun _ _ => rfl⟩
  · obtain ⟨rfl, ad, rfl, hsrc⟩ := hpos (by omega)
    have hrun := run_copy_row (P := P) w dT sT o.type elem g off dLen dCap ad sLen sCap cur.toArray t cs hu hsz hg hn hsrc (by simpa using hfit) h1
    unfold Oper.wp
    simp [execOp, ho, resolve, invoke, builtin, hd, hs, hrun, Result.andThen]
    exact h _ ⟨by simpa [splice] using setRow_heap w g _ _ t _ hg, below_setRow hb hBg _, fun b hb => setRow_other w g b _ hb⟩
/-- A row that is being filled. -/
def fill (n c : Nat) : List Int := List.replicate c (-1) ++ List.replicate (n - c) 0
theorem fill_len {n c : Nat} (h : c ≤ n) : (fill n c).length = n := by simp [fill]; omega
theorem fill_splice {n c m : Nat} (h : c + m ≤ n) : splice (flatI (fill n c)) c (flatI (List.replicate m (-1))) = flatI (fill n (c + m)) := by
  unfold splice fill flatI
  simp only [List.map_append, List.map_replicate, List.length_replicate]
  rw [List.take_append_of_le_length (by simp), List.take_of_length_le (by simp), List.drop_append]
  simp only [List.length_replicate, List.drop_replicate]
  rw [show c - (c + m) = 0 by omega, show n - c - (c + m - c) = n - (c + m) by omega]
  rw [← List.append_assoc, List.replicate_append_replicate, List.replicate_zero, List.nil_append]
theorem fill_end (n : Nat) : fill n n = List.replicate n (-1) := by simp [fill]
theorem fill_at {n c : Nat} {j : Nat} (hj : j < c) : (flatI (fill n c))[j]? = some (.int .i64 (-1)) := by
  unfold fill flatI
  simp only [List.map_append, List.map_replicate]
  rw [List.getElem?_append_left (by simpa using hj), List.getElem?_replicate, if_pos hj]

def RpI (n c : Nat) (g : Nat) (w wr : World) : Prop := Nb wr g (fill n c) ∧ Below w.heap.size w wr ∧ w.heap.size ≤ g
theorem rep_src {w : World} {b c : Nat} (hb : Bk w b #[.int .i64 (-1)] 3) (hc : c ≤ 1) : ∀ (j : Nat) (v : Value), (flatI (List.replicate c (-1)))[j]? = some v → w.cell? ((⟨b, 0, none⟩ : Addr).add j) = some v := by
  intro j v hj
  have hlt := (List.getElem?_eq_some_iff.1 hj).1
  rw [flatI_len, List.length_replicate] at hlt
  obtain rfl : j = 0 := by omega
  obtain rfl : c = 1 := by omega
  rw [addr_plus, hb.cell]
  simpa [flatI] using hj
theorem fill_src {w : World} {g n c m : Nat} (hg : Nb w g (fill n c)) (hm : m ≤ c) : ∀ (j : Nat) (v : Value), (flatI (List.replicate m (-1)))[j]? = some v → w.cell? ((⟨g, 0, none⟩ : Addr).add j) = some v := by
  intro j v hj
  have hlt := (List.getElem?_eq_some_iff.1 hj).1
  rw [flatI_len, List.length_replicate] at hlt
  have e : (flatI (List.replicate m (-1)))[j]? = some (.int .i64 (-1)) := by unfold flatI; rw [List.map_replicate, List.getElem?_replicate, if_pos hlt]
  rw [e] at hj
  rw [addr_plus, Nat.zero_add, Bk.cell hg, ← hj]
  simpa using fill_at (n := n) (c := c) (by omega)

set_option maxRecDepth 10000 in
set_option maxHeartbeats 4000000 in
theorem repeat_any (n : Nat) (hn : n ≤ 4096) (b : Nat) (w : World) (hb : Bk w b #[.int .i64 (-1)] 3) :
    Calls Tryz.prog 101 #[.slice (some ⟨b, 0, none⟩) 1 1, .int .i64 n] w fun e w' => ∃ g, e = .returned (.slice (some ⟨g, 0, none⟩) n n) ∧ Hid (Nb w' g (List.replicate n (-1)) ∧ Below w.heap.size w w' ∧ w.heap.size ≤ g) := by
  have HM : Hid (∀ W, Calls Tryz.prog 102 #[.int .u64 1, .int .u64 n] W fun e w' => e = .returned (.tuple #[.int .u64 0, .int .u64 n]) ∧ w' = W) := fun W => mul_any n hn W
  have hw1 : IntKind.u64.wrap (n : Int) = n := by rw [IntKind.wrap_u64]; omega
  have hw2 : IntKind.i64.wrap (n : Int) = n := by rw [IntKind.wrap_i64]; omega
  have h9 : ¬ (9223372036854775807 : Int) < n := by omega
  have h0 : ¬ (n : Int) < 0 := by omega
  obtain ⟨arr, ha, hmk⟩ := make_ints n (by omega) w
  have HB : Hid (Bk w b #[.int .i64 (-1)] 3) := hb
  have H0 : Hid (RpI n 0 w.heap.size w (w.alloc (.cells arr 3))) := by
    refine ⟨?_, (Below.refl _ _).alloc (Nat.le_refl _) _, Nat.le_refl _⟩
    rw [ha]
    have := Bk.new w (flatI (List.replicate n 0)).toArray 3
    simpa [Nb, fill] using this
  have HC : Hid (Bk (w.alloc (.cells arr 3)) b #[.int .i64 (-1)] 3) := hb.alloc _
  clear ha hb
  obtain ⟨c0, hc0⟩ : ∃ c0, c0 = min n 1 := ⟨_, rfl⟩
  have hc1 : c0 ≤ 1 ∧ c0 ≤ n ∧ (0 < n → 0 < c0) := by omega
  have Hc0 : Hid (c0 = min n 1) := hc0
  clear hc0
  go_enter Tryz.func101, Tryz.ntmps101
  go_wp2_with fail
  refine (HM.out _).mono ?_
  rintro e w1 ⟨rfl, rfl⟩
  obtain ⟨W0, HW0⟩ : ∃ W0, Hid (W0 = w1) := ⟨_, rfl⟩
  have H0' : Hid (RpI n 0 w1.heap.size W0 (w1.alloc (.cells arr 3))) := by rw [HW0.out]; exact H0.out
  have Hmin : Hid (c0 = Nat.min 1 n) := by have := Hc0.out; show c0 = min 1 n; omega
  have hlen : (flatI (List.replicate c0 (-1))).length = c0 := by rw [flatI_len, List.length_replicate]
  go_wp2_with (refine wpList_copy_splice rfl _ _ 22 22 rfl 3 Tryz.underlying22 int_size (some ⟨w1.heap.size, 0, none⟩) (some ⟨b, 0, none⟩) n n 1 1 (by rfl) (by rfl) w1.heap.size 0 (flatI (fill n 0)) 3 H0'.out.1 (flatI (List.replicate c0 (-1))) (hlen.trans Hmin.out) (fun _ => ⟨rfl, ⟨b, 0, none⟩, rfl, rep_src HC.out hc1.1⟩) (by rw [hlen, flatI_len, fill_len (by omega)]; omega) (oneI _) W0.heap.size W0 H0'.out.2.1 H0'.out.2.2 ?_)
  intro w2 HG2 hB2
  obtain ⟨g, Hg⟩ : ∃ g, Hid (g = w1.heap.size) := ⟨_, rfl⟩
  have H2 : Hid (RpI n c0 g W0 w2) := by
    refine ⟨?_, hB2, by rw [Hg.out]; exact H0'.out.2.2⟩
    have q := HG2.out
    have r := fill_splice (n := n) (c := 0) (m := c0) (by omega)
    rw [Nat.zero_add] at r
    rw [r] at q
    rw [Hg.out]
    exact q
  rw [← Hg.out]
  generalize decide ((9223372036854775807 : Int) < (n : Int)) = d9
  clear HG2 hB2 H0' H0 HC HB hlen hmk Hmin h9
  have Hw : Hid (W0.heap.size = w1.heap.size) := by unfold Hid; rw [HW0.out]
  go_wp2_with fail
  go_loopw [8] (fun i wr => ∃ c : Nat, i = .int .i64 c ∧ c ≤ n ∧ (0 < n → 0 < c) ∧ Hid (RpI n c g W0 wr)) (fun i _ => n - (intOf i).toNat)
  case atStart => exact ⟨c0, rfl, hc1.2.1, hc1.2.2, H2⟩
  case round =>
    obtain ⟨c, rfl, hcn, hcp, HR⟩ := hrel
    clear H2
    by_cases hlt : c < n
    · have ik : (c : Int) < n := by omega
      have ik2 : (c : Int) ≤ n := by omega
      have hne : ¬ c = n := by omega
      go_wp2_with fail
      obtain ⟨m, Hm⟩ : ∃ m, Hid (m = min (n - c) c) := ⟨_, rfl⟩
      have hm : m ≤ c ∧ c + m ≤ n ∧ 0 < m := by have := Hm.out; have := hcp (by omega); omega
      have Hmin2 : Hid (m = Nat.min c (n - c)) := by have := Hm.out; show m = min c (n - c); omega
      have hml : (flatI (List.replicate m (-1))).length = m := by rw [flatI_len, List.length_replicate]
      have hwm : IntKind.i64.wrap ((c : Int) + (m : Int)) = c + m := by rw [IntKind.wrap_i64]; omega
      go_region_law (refine step_copy_splice rfl (.tmp 41) (.tmp 44) 22 22 rfl 3 Tryz.underlying22 int_size (some ⟨g, c, none⟩) (some ⟨g, 0, none⟩) (n - c) (n - c) c n (by simp [Act.eval, Act.put] <;> omega) (by simp [Act.eval, Act.put]) g c (flatI (fill n c)) 3 HR.out.1 (flatI (List.replicate m (-1))) (hml.trans Hmin2.out) (fun _ => ⟨rfl, ⟨g, 0, none⟩, rfl, fill_src HR.out.1 hm.1⟩) (by rw [hml, flatI_len, fill_len (by omega)]; omega) (oneI _) W0.heap.size W0 (by repeat (first | exact HR.out.2.1 | refine Below.drew ?_)) HR.out.2.2 ?_; intro w5 H5 hb5)
      all_goals
        have H6 : Hid (RpI n (c + m) g W0 w5) := by
          refine ⟨?_, hb5, HR.out.2.2⟩
          have q := H5.out
          rw [fill_splice (by omega)] at q
          exact q
        clear H5 hb5 HR
        go_wp2
        exact ⟨⟨c + m, by go_num, by omega, fun _ => by omega, H6⟩, by simp [intOf]; omega⟩
    · obtain rfl : c = n := by omega
      have HF : Hid (Nb wr g (List.replicate c (-1)) ∧ Below w1.heap.size w1 wr ∧ w1.heap.size ≤ g) := by
        have q := HR.out
        unfold RpI at q
        rw [fill_end, HW0.out] at q
        exact q
      clear HR
      go_wp2
      go_ret
      exact ⟨_, rfl, HF⟩

end Go.Proofs.YthnhcphkpffkfaaGreat
