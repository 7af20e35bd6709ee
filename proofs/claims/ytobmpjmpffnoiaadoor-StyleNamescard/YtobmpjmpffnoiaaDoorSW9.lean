/-
  Contracts of package style: the order of rules.
-/
import Derived.Test.YtobmpjmpffnoiaaDoorSW6
import Derived.Test.YtobmpjmpffnoiaaDoorSR
import Derived.Laws.MakeOwn
import Derived.OwnWalk
namespace Go.Proofs.YtobmpjmpffnoiaaDoor
open Go.RowKit Go.Shelf

set_option maxHeartbeats 1000000 in
theorem order_bad (rs : List Rl) (v : Value) (w : World) (hT : Tab w) (hv : Rules w v rs) (hs : ∀ r ∈ rs, r.cls.size ≤ 9223372036854775807 ∧ r.wf) (hb : chkR rs ≠ 0) :
    Calls Tryd.prog 10 #[v] w fun e w' => e = .returned (.tuple #[.slice none 0 0, .int .i64 (chkR rs)]) ∧ Below w.heap.size w w' := by
  have hC := check_rules rs v w hT hv hs
  obtain ⟨oa, cap, rfl, _, _⟩ := hv
  have hb' : (chkR rs == 0) = false := beq_eq_false_iff_ne.2 hb
  clear hs hT
  generalize chkR rs = e0 at *
  go_enter Tryd.func10, Tryd.ntmps10
  go_wp2_with fail
  refine hC.mono ?_
  rintro e w1 ⟨rfl, hb⟩
  have HB : Hid (Below w.heap.size w w1) := hb
  clear hb hC
  go_wp2
  exact bodyPost_ret (v := .tuple #[.slice none 0 0, .int .i64 e0]) (by simp [results, Tryd.results10, go_sem]) rfl ⟨rfl, HB.out⟩

theorem info_int : (Tryd.prog.info? 3).map (fun i => (i.zero, i.size, i.bytes)) = some (some (.int .i64 0), 1, 8) := by kernel_rfl
theorem make_ints (n : Nat) (hn : n < 1000000) (w : World) : ∃ arr : Array Value, arr.size = n ∧ (Instr.makeSlice 24 (.int .i64 (n : Nat)) (.int .i64 (n : Nat))).run Tryd.prog w = .ok (.slice (some ⟨w.heap.size, 0, none⟩) n n) (w.alloc (.cells arr 3)) := by
  obtain ⟨i0, hi, hz0, hz1, hz2⟩ := info_parts info_int
  have h := run_make (P := Tryd.prog) w 24 3 i0 (.int .i64 0) Tryd.underlying24 hi hz0 .i64 .i64 (n : Int) (n : Int) (by omega) (Int.le_refl _) (by rw [hz2]; omega) (by omega)
  simp only [Int.toNat_natCast, hz1, Nat.mul_one] at h
  exact ⟨_, size_madeCells _ _, h⟩

set_option maxHeartbeats 1000000 in
theorem order_any (rs : List Rl) (v : Value) (w : World) (hT : Tab w) (hv : Rules w v rs) (hs : ∀ r ∈ rs, r.cls.size ≤ 9223372036854775807 ∧ r.wf) (hl : rs.length < 1000000) (hb : chkR rs = 0) :
    Calls Tryd.prog 10 #[v] w fun e w' => ∃ (B : Nat) (f : Nat → Nat), e = .returned (.tuple #[.slice (some ⟨B, 0, none⟩) rs.length rs.length, .int .i64 0]) ∧ w.heap.size ≤ B ∧ Row w' B 0 rs.length f ∧ Mrg (str rs) id f 0 rs.length ∧ Below w.heap.size w w' := by
  have hC := check_rules rs v w hT hv hs
  rw [hb] at hC
  have hS : Hid (∀ (B n cap : Nat) (f : Nat → Nat) (W : World), Below w.heap.size w W → w.heap.size ≤ B → n < 1000000 → Row W B 0 n f → (∀ i, i < n → f i < rs.length) → (∀ i j, i < j → j < n → f i < f j) →
      Calls Tryd.prog 32 #[v, .slice (some ⟨B, 0, none⟩) n cap] W fun e w' => e = .returned (.tuple #[]) ∧ ∃ f', Row w' B 0 n f' ∧ Mrg (str rs) f f' 0 n ∧ Ex B W w') :=
    fun B n cap f W h1 h2 h3 h4 h5 h6 => sortBy_any rs v B 0 n cap f w W hv h1 h2 (fun r hr => (hs r hr).2.2.1) hl h3 h4 h5 h6
  obtain ⟨oa, cap, rfl, _, _⟩ := hv
  clear hs hT hb
  go_enter Tryd.func10, Tryd.ntmps10
  go_wp2_with fail
  refine hC.mono ?_
  rintro e w1 ⟨rfl, hb⟩
  have HB : Hid (Below w.heap.size w w1) := hb
  clear hb hC
  obtain ⟨arr, ha, hmk⟩ := make_ints rs.length hl w1
  have K := Blk.new w1 arr 3
  have HK : Hid (arr.size = rs.length ∧ Blk (w1.alloc (.cells arr 3)) w1.heap.size arr 3) := ⟨ha, K⟩
  clear ha K
  go_wp2_with fail
  have L0 : Below w.heap.size w (w1.alloc (.cells arr 3)) := HB.out.alloc HB.out.size _
  have HL0 : Hid (Below w.heap.size w (w1.alloc (.cells arr 3)) ∧ w.heap.size ≤ w1.heap.size) := ⟨L0, HB.out.size⟩
  clear L0 hmk HB
  generalize w1.heap.size = B at *
  go_loopw [17] (fun vi wr => ∃ k : Nat, k ≤ rs.length ∧ vi = .int .i64 k ∧ ∃ vs : Array Value, Hid (vs.size = rs.length ∧ Blk wr B vs 3 ∧ (∀ i, i < k → vs[i]? = some (.int .i64 i)) ∧ Below w.heap.size w wr)) (fun vi _ => rs.length - (intOf vi).toNat)
  case atStart => exact ⟨0, Nat.zero_le _, rfl, arr, ⟨HK.out.1, HK.out.2, fun i hi => by omega, HL0.out.1⟩⟩
  case round =>
    obtain ⟨k, hk, rfl, vs, HV⟩ := hrel
    by_cases hlt : k < rs.length
    · have hkv : k < vs.size := by rw [HV.out.1]; exact hlt
      have c1 : wr.cell? ⟨B, k, none⟩ = some vs[k] := (HV.out.2.1.cell k).trans (Array.getElem?_eq_getElem hkv)
      have f1 := HV.out.2.1.frozen k
      go_wp2_with fail
      obtain ⟨v1, v2, v3, v4⟩ := HV.out
      go_roundw
      case rel =>
        refine ⟨k + 1, by omega, by go_num, vs.setIfInBounds k (.int .i64 k), ⟨by simp [v1], v2.put k _, fun i hi => ?_, v4.setCell (p := ⟨B, k, none⟩) HL0.out.2 _⟩⟩
        by_cases e : i = k
        · subst e; simp [hkv]
        · rw [Array.getElem?_setIfInBounds_ne (by omega)]; exact v3 i (by omega)
      case measure => simp [intOf]; omega
    · obtain rfl : k = rs.length := by omega
      have R : Row wr B 0 rs.length id := ⟨HV.out.2.1.lt, fun i hi => by rw [Nat.zero_add]; exact (HV.out.2.1.cell i).trans (HV.out.2.2.1 i hi), fun j => HV.out.2.1.frozen j⟩
      have HR : Hid (Row wr B 0 rs.length id ∧ Below w.heap.size w wr) := ⟨R, HV.out.2.2.2⟩
      clear R HV HK
      go_wp2_with fail
      refine (hS.out B rs.length rs.length id wr HR.out.2 HL0.out.2 hl HR.out.1 (fun i hi => hi) (fun i j h _ => h)).mono ?_
      rintro e w2 ⟨rfl, f, R2, M2, X2⟩
      have HF : Hid (Row w2 B 0 rs.length f ∧ Mrg (str rs) id f 0 rs.length ∧ Below w.heap.size w w2) := ⟨R2, M2, HR.out.2.trans (X2.below.mono HL0.out.2)⟩
      clear R2 M2 X2
      go_wp2
      exact bodyPost_ret (v := .tuple #[.slice (some ⟨B, 0, none⟩) rs.length rs.length, .int .i64 0]) (by simp [results, Tryd.results10, go_sem]) rfl ⟨B, f, rfl, HL0.out.2, HF.out.1, HF.out.2.1, HF.out.2.2⟩

end Go.Proofs.YtobmpjmpffnoiaaDoor
