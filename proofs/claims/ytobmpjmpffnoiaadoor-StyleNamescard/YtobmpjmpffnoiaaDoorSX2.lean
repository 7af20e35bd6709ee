/-
  slices.Backward over numbers: what it hands on.
-/
import Derived.Test.YtobmpjmpffnoiaaDoorSR
namespace Go.Proofs.YtobmpjmpffnoiaaDoor
open Go.RowKit Go.Shelf
attribute [local go_sem] Oper.semAt_some

def bwd (l : List Nat) : Nat → List (Nat × Nat)
  | 0 => []
  | k + 1 => (k, l.getD k 0) :: bwd l k

set_option maxHeartbeats 400000 in
theorem backward_any (oa : Option Addr) (n c : Nat) (w : World) :
    Calls Tryd.prog 34 #[.slice oa n c] w fun e w' => e = .returned (.func (.func 50) #[] #[.pointer (some ⟨w.heap.size, 0, none⟩)]) ∧ w' = w.alloc (.cells #[.slice oa n c] 24) := by
  go_enter Tryd.func34, Tryd.ntmps34
  go_wp2
  go_ret
  exact ⟨rfl, rfl⟩

def prE (x : Nat × Nat) : Array Value := #[.int .i64 (x.1 : Nat), .int .i64 (x.2 : Nat)]

set_option maxRecDepth 20000 in
set_option maxHeartbeats 1000000 in
theorem back_seq (n sb g c : Nat) (oa : Option Addr) (l : List Nat) (ow : Nat → Prop) (w : World) (ks : Blk w sb #[.slice oa l.length c] 24) (ob : Obj) (ho : 0 < l.length → oa = some ⟨g, 0, none⟩ ∧ w.heap[g]? = some ob ∧ ¬ ow g ∧ ob.isCells = true ∧ ∀ W : World, W.heap[g]? = some ob → ∀ i (h : i < l.length), W.cell? ⟨g, i, none⟩ = some (.int .i64 (l[i] : Nat))) (hsb : ¬ ow sb) (hl : l.length < 1000000) :
    SeqD Fence.wide n Tryd.prog 50 #[.pointer (some ⟨sb, 0, none⟩)] prE (Kept ow) (· = bwd l l.length) (· <+: bwd l l.length) (fun pre x => pre ++ [x] <+: bwd l l.length) sb w := by
  intro lp J Jx W hW hsz hJ hJx hS hSx hY h0
  refine callsIn_of_wp Tryd.func50 rfl trivial ?_ rfl
  simp only [Tryd.ntmps50, List.size_toArray, List.length_cons, List.length_nil, Nat.reduceAdd, Nat.reduceSub, Array.replicate_succ, Array.replicate_zero, List.push_toArray, List.append_toArray, List.nil_append, List.cons_append]
  replace ks := ks.below hW
  have c1 := ks.at1
  have HH : Hid (Blk W sb #[.slice oa l.length c] 24 ∧ (0 < l.length → oa = some ⟨g, 0, none⟩ ∧ W.heap[g]? = some ob ∧ ¬ ow g ∧ ob.isCells = true ∧ ∀ W : World, W.heap[g]? = some ob → ∀ i (h : i < l.length), W.cell? ⟨g, i, none⟩ = some (.int .i64 (l[i] : Nat))) ∧ ¬ ow sb ∧ J [] W) := ⟨ks, fun h => ⟨(ho h).1, (hW.block g (Array.getElem?_eq_some_iff.1 (ho h).2.1).1).trans (ho h).2.1, (ho h).2.2⟩, hsb, h0⟩
  have HY : Hid (∀ pre x W1, J pre W1 → pre ++ [x] <+: bwd l l.length → YieldAt Fence.wide (n - 1) Tryd.prog lp (prE x) W1 fun e W' =>
      (e = .returned (.bool true) ∧ J (pre ++ [x]) W' ∧ Kept ow W1 W') ∨ (e = .returned (.bool false) ∧ Jx (pre ++ [x]) W')) := hY
  clear hsz hJ hJx hS hSx hY hW ks ho h0 hsb
  gi_wp2_with fail
  gi_loopw [3] (fun vi wr => ∃ (k : Nat) (pre : List (Nat × Nat)), k ≤ l.length ∧ vi = .int .i64 ((k : Int) - 1) ∧ Hid (Blk wr sb #[.slice oa l.length c] 24 ∧ (0 < l.length → wr.heap[g]? = some ob) ∧ J pre wr ∧ bwd l l.length = pre ++ bwd l k)) (fun vi _ => (intOf vi + 1).toNat)
  case atStart => exact ⟨l.length, [], Nat.le_refl _, rfl, ⟨HH.out.1, fun h => (HH.out.2.1 h).2.1, HH.out.2.2.2, rfl⟩⟩
  case round =>
    obtain ⟨k, pre, hk, rfl, HR⟩ := hrel
    clear c1
    have d1 := HR.out.1.at1
    by_cases hk0 : k = 0
    · subst hk0
      gi_wp2
      go_end0
      exact ⟨⟨_, rfl⟩, .inl ⟨pre, by rw [HR.out.2.2.2]; simp [bwd], HR.out.2.2.1⟩⟩
    · obtain ⟨p, ep⟩ : ∃ p, p = k - 1 := ⟨_, rfl⟩
      have z1 : (k : Int) - 1 = (p : Int) := by omega
      have pl : p < l.length := by omega
      have pl' : (p : Int) < (l.length : Int) := by omega
      obtain ⟨hoa, hbk, hno, hcl, hvs⟩ := HH.out.2.1 (by omega)
      have d2 : wr.cell? ⟨g, p, none⟩ = some (.int .i64 (l[p] : Nat)) := hvs wr (HR.out.2.1 (by omega)) p pl
      have HW : Hid (bwd l l.length = (pre ++ [(p, l[p])]) ++ bwd l p ∧ k = p + 1) := by
        have e : k = p + 1 := by omega
        refine ⟨?_, e⟩
        rw [HR.out.2.2.2, e, bwd]
        simp [List.getD, List.getElem?_eq_getElem pl]
      obtain ⟨fn, tmps, assign, body, hy, hRd⟩ := HY.out pre (p, l[p]) wr HR.out.2.2.1 (by rw [HW.out.1]; exact List.prefix_append _ _)
      simp only [prE] at hy
      subst hoa
      clear hbk hvs ep hk0
      generalize l[p] = xp at *
      gi_wp2_with fail
      refine ⟨fun h => (by cases h), hRd.mono ?_⟩
      rintro e W2 (⟨rfl, hJ2, hkp⟩ | ⟨rfl, hJx2⟩)
      · have HK : Hid (Blk W2 sb #[.slice (some ⟨g, 0, none⟩) l.length c] 24 ∧ (0 < l.length → W2.heap[g]? = some ob) ∧ J (pre ++ [(p, xp)]) W2 ∧ bwd l l.length = (pre ++ [(p, xp)]) ++ bwd l p) :=
          ⟨HR.out.1.kept hkp HH.out.2.2.1, fun h => hkp.2 g ob hno (.inl hcl) (HR.out.2.1 h), hJ2, HW.out.1⟩
        clear hJ2 hkp d1 d2 hy hRd
        gi_wp2_with fail
        exact ⟨⟨p, pre ++ [(p, xp)], by omega, rfl, HK⟩, by simp [intOf]; omega⟩
      · gi_wp2
        exact bodyPost_ret (v := .tuple #[]) (by simp [results, Tryd.results50, go_sem]) rfl ⟨⟨_, rfl⟩, .inr ⟨pre ++ [(p, xp)], by rw [HW.out.1]; exact List.prefix_append _ _, hJx2⟩⟩

end Go.Proofs.YtobmpjmpffnoiaaDoor
