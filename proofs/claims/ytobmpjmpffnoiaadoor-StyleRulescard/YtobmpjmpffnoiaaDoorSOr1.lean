/-
  How strong a rule is by the statements' own count.
-/
import Derived.Test.YtobmpjmpffnoiaaDoorSW3
namespace Go.Proofs.YtobmpjmpffnoiaaDoor
open Go.RowKit Go.Shelf

def cnt (st : Nat) : Nat → Nat
  | 0 => 0
  | k + 1 => cnt st k + st / 2 ^ k % 2
theorem cnt_end : ∀ (st : Fin 256) (k : Fin 9), st.val / 2 ^ k.val = 0 → cnt st.val k.val = ones st.val := by decide +kernel
theorem cnt_le (st : Nat) : ∀ k, cnt st k ≤ k
  | 0 => Nat.le_refl _
  | k + 1 => by
    have := cnt_le st k
    show cnt st k + st / 2 ^ k % 2 ≤ k + 1
    omega

set_option maxHeartbeats 1000000 in
theorem weight_any (r : Rl) (w : World) (h : r.state < 256) :
    Calls Tryd.prog 28 #[(Value.agg #[.int .u8 (r.kind : Nat), .string r.cls, .int .u8 (r.state : Nat), .int .u8 (r.look.has : Nat), .int .u8 r.look.r, .int .u8 r.look.g, .int .u8 r.look.b, .int .u8 r.look.a, .int .u8 r.look.r2, .int .u8 r.look.g2, .int .u8 r.look.b2, .int .u8 r.look.a2, .bool r.look.bd, .int .i64 r.look.pad])] w fun e w' => e = .returned (.int .i64 (strg r)) ∧ Below w.heap.size w w' := by
  have A := Blk.new w (#[.int .u8 (r.kind : Nat), .string r.cls, .int .u8 (r.state : Nat), .int .u8 (r.look.has : Nat), .int .u8 r.look.r, .int .u8 r.look.g, .int .u8 r.look.b, .int .u8 r.look.a, .int .u8 r.look.r2, .int .u8 r.look.g2, .int .u8 r.look.b2, .int .u8 r.look.a2, .bool r.look.bd, .int .i64 r.look.pad]) 35
  have L : Below w.heap.size w (w.alloc (.cells (#[.int .u8 (r.kind : Nat), .string r.cls, .int .u8 (r.state : Nat), .int .u8 (r.look.has : Nat), .int .u8 r.look.r, .int .u8 r.look.g, .int .u8 r.look.b, .int .u8 r.look.a, .int .u8 r.look.r2, .int .u8 r.look.g2, .int .u8 r.look.b2, .int .u8 r.look.a2, .bool r.look.bd, .int .i64 r.look.pad]) 35)) := (Below.refl _ w).alloc (Nat.le_refl _) _
  obtain ⟨c0, c1, c2, _⟩ := A.at14
  have HL : Hid (Below w.heap.size w (w.alloc (.cells (#[.int .u8 (r.kind : Nat), .string r.cls, .int .u8 (r.state : Nat), .int .u8 (r.look.has : Nat), .int .u8 r.look.r, .int .u8 r.look.g, .int .u8 r.look.b, .int .u8 r.look.a, .int .u8 r.look.r2, .int .u8 r.look.g2, .int .u8 r.look.b2, .int .u8 r.look.a2, .bool r.look.bd, .int .i64 r.look.pad]) 35))) := L
  clear L A
  go_enter Tryd.func28, Tryd.ntmps28
  go_wp2_with fail
  generalize w.alloc (.cells (#[.int .u8 (r.kind : Nat), .string r.cls, .int .u8 (r.state : Nat), .int .u8 (r.look.has : Nat), .int .u8 r.look.r, .int .u8 r.look.g, .int .u8 r.look.b, .int .u8 r.look.a, .int .u8 r.look.r2, .int .u8 r.look.g2, .int .u8 r.look.b2, .int .u8 r.look.a2, .bool r.look.bd, .int .i64 r.look.pad]) 35) = W at *
  go_loopw [3, 4] (fun n s wr => wr = W ∧ ∃ k q c : Nat, Hid (k ≤ 8 ∧ q = r.state / 2 ^ k ∧ c = cnt r.state k) ∧ n = .int .i64 (4 * (c : Int)) ∧ s = .int .i64 (q : Int)) (fun _ s _ => (intOf s).toNat)
  case atStart => exact ⟨rfl, 0, r.state, 0, ⟨by omega, by simp, rfl⟩, rfl, rfl⟩
  case round =>
    obtain ⟨rfl, k, q, c, HK, rfl, rfl⟩ := hrel
    by_cases hq : q = 0
    · subst hq
      have hc : c = ones r.state := by
        obtain ⟨k8, k1, k2⟩ := HK.out
        rw [k2]; exact cnt_end ⟨r.state, h⟩ ⟨k, by omega⟩ k1.symm
      have c8 := ones_le h
      rw [← hc] at c8
      have ES : strg r = 4 * (c : Int) + (bif r.cls.size == 0 then 0 else 2) + (bif r.kind == 0 then 0 else 1) := by unfold strg; rw [hc]
      by_cases hz : r.cls.size = 0
      · rw [txt_nil hz] at c1
        by_cases hk : r.kind = 0
        · rw [hk] at c0
          go_wp2
          go_ret
          exact ⟨ret_int (by rw [ES, hz, hk]; simp [hc]), HL.out⟩
        · have hk' : ((r.kind : Int) == 0) = false := beq_eq_false_iff_ne.2 (by omega)
          have hk2 : (r.kind == 0) = false := beq_eq_false_iff_ne.2 hk
          go_wp2
          go_ret
          exact ⟨ret_int (by rw [ES, hz, hk2]; simp [hc]), HL.out⟩
      · obtain ⟨n1, n2⟩ := txt_ne hz
        have n3 : (r.cls.size == 0) = false := beq_eq_false_iff_ne.2 hz
        by_cases hk : r.kind = 0
        · rw [hk] at c0
          go_wp2
          go_ret
          exact ⟨ret_int (by rw [ES, n3, hk]; simp [hc]), HL.out⟩
        · have hk' : ((r.kind : Int) == 0) = false := beq_eq_false_iff_ne.2 (by omega)
          have hk2 : (r.kind == 0) = false := beq_eq_false_iff_ne.2 hk
          go_wp2
          go_ret
          exact ⟨ret_int (by rw [ES, n3, hk2]; simp; try omega), HL.out⟩
    · have h8 : k < 8 ∧ c ≤ 8 ∧ q < 256 := by
        obtain ⟨k8, k1, k2⟩ := HK.out
        refine ⟨?_, by rw [k2]; exact Nat.le_trans (cnt_le _ _) k8, by rw [k1]; exact Nat.lt_of_le_of_lt (Nat.div_le_self _ _) h⟩
        rcases Nat.lt_or_ge k 8 with h' | h'
        · exact h'
        · exfalso
          apply hq
          rw [k1]
          exact Nat.div_eq_of_lt (Nat.lt_of_lt_of_le h (show 2 ^ 8 ≤ 2 ^ k from Nat.pow_le_pow_right (by decide) h'))
      obtain ⟨_, c8, q8⟩ := h8
      have q0 : (0 : Int) < q := by omega
      go_wp2_with fail
      go_roundw
      case rel =>
        refine ⟨trivial, k + 1, q / 2, c + q % 2, ?_, ?_, ?_⟩
        · obtain ⟨k8, k1, k2⟩ := HK.out
          refine ⟨by omega, by rw [k1, Nat.pow_succ, Nat.div_div_eq_div_mul], ?_⟩
          show _ = cnt r.state k + r.state / 2 ^ k % 2
          rw [k1, k2]
        · go_num
        · go_num
      case measure => simp [intOf]; omega

end Go.Proofs.YtobmpjmpffnoiaaDoor
