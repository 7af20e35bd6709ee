/-
  The iterator over a text's pieces: what it hands on, to whatever body keeps the blocks that are not its own.
-/
import Derived.Test.YtbnbfgkcndomaabGreatDoorRW1
import Derived.Test.YtbnbfgkcndomaabGreatDoorRF
import Derived.Lib.OthersKept
import Derived.Shelf.Abstract
import Derived.Shelf.RegionOpen
import Derived.OwnWalkIn
import Derived.TacticsInMore
import Derived.LoopNIn
import Derived.LoopIn
namespace Go.Proofs.YtbnbfgkcndomaabGreatDoor
open Go.RowKit Go.Shelf
attribute [local go_sem] Oper.semAt_some

theorem grow_end {s : ByteArray} {f a r q : Nat} (hq : ¬ q < s.size) : grow s (f + 1) a r q = [⟨a, s.size, r⟩] := by simp [grow, hq]
theorem grow_in {s : ByteArray} {f a r q : Nat} (hq : q < s.size) (h : (mrk (rn s q) && !ctl r) = true) : grow s (f + 1) a r q = grow s f a r (q + sz s q) := by simp only [grow, hq, h, if_true]
theorem grow_out {s : ByteArray} {f a r q : Nat} (hq : q < s.size) (h : (mrk (rn s q) && !ctl r) = false) : grow s (f + 1) a r q = ⟨a, q, r⟩ :: grow s f q (rn s q) (q + sz s q) := by simp [grow, hq, h]

/-- A piece as the loop is handed it. -/
def pcE (x : Pc) : Array Value := #[pcV x.fr x.to x.r (width x.r)]

/-- Where the iterator stands between two rounds: at q, the piece that it holds began at a with r. -/
def Stand (s : ByteArray) (pre : List Pc) (q : Nat) (va vb vr vc : Int) : Prop :=
  (q = 0 ∧ pre = [] ∧ va = 0 ∧ vb = 0 ∧ vr = 0 ∧ vc = 0) ∨ (0 < q ∧ ∃ (f a r : Nat), pcs s = pre ++ grow s (f + 1) a r q ∧ s.size ≤ f + q ∧ va = a ∧ vr = r ∧ vc = width r)

def iterPos (w : World) (k : Nat) : Nat := match w.heap[k]? with | some (.stringIter _ p) => p | _ => 0

theorem iterPos_of {w : World} {k p : Nat} {s : ByteArray} (h : w.heap[k]? = some (.stringIter s p)) : iterPos w k = p := by unfold iterPos; rw [h]

theorem toList_isEmpty (s : ByteArray) : s.toList.isEmpty = decide (s.size = 0) := by
  rw [ByteArray.toList_eq]
  have : s.size = s.data.toList.length := Array.length_toList.symm
  rw [this]
  cases s.data.toList <;> simp

set_option maxHeartbeats 1000000 in
theorem pieces_seq (n sb : Nat) (ow : Nat → Prop) (s : ByteArray) (w0 w : World) (T : Tabs w0) (h0w : Same w0 w) (hs : Blk w sb #[.string s] 9)
    (ho : ∀ k, ow k → w0.heap.size ≤ k ∧ k ≠ sb ∧ k ≠ w.heap.size + 2 ∧ k ≠ w.heap.size + 3) :
    SeqC Fence.wide n Tryz.prog 162 #[.pointer (some ⟨sb, 0, none⟩)] pcE (Kept ow) (· = pcs s) (· <+: pcs s) (fun pre x => pre ++ [x] <+: pcs s) w := by
  intro l J Jx W hW hsz hJ hJx hS hSx hY h0
  refine callsIn_of_wp Tryz.func162 rfl trivial ?_ rfl
  simp only [Tryz.ntmps162, List.size_toArray, List.length_cons, List.length_nil, Nat.reduceAdd, Nat.reduceSub, Array.replicate_succ, Array.replicate_zero, List.push_toArray, List.append_toArray, List.nil_append, List.cons_append]
  rw [← Nat.add_right_cancel_iff (n := 1)] at hsz
  have hw2 : w.heap.size + 2 = W.heap.size := by omega
  have hw3 : w.heap.size + 3 = W.heap.size + 1 := by omega
  rw [hw2, hw3] at ho
  have hsW := hs.below hW
  have h0W : Same w0 W := h0w.below hW
  have hs1 : ∀ o, (W.alloc o).cell? ⟨sb, 0, none⟩ = some (.string s) := fun o => (hsW.alloc o).at1
  have HH : Hid (AbidesFrom W.heap.size J ∧ AbidesFrom W.heap.size Jx ∧ Stores W.heap.size J ∧ Stores W.heap.size Jx ∧ Blk W sb #[.string s] 9 ∧ Same w0 W ∧ Tabs w0) := ⟨hJ, hJx, hS, hSx, hsW, h0W, T⟩
  have HY : Hid (∀ pre x W1, J pre W1 → pre ++ [x] <+: pcs s → W.heap.size + 1 < W1.heap.size → YieldAt Fence.wide (n - 1) Tryz.prog l (pcE x) W1 fun e W' =>
      (e = .returned (.bool true) ∧ J (pre ++ [x]) W' ∧ Kept ow W1 W') ∨ (e = .returned (.bool false) ∧ Jx (pre ++ [x]) W')) := hY
  have HO : Hid (∀ k, ow k → w0.heap.size ≤ k ∧ k ≠ sb ∧ k ≠ W.heap.size ∧ k ≠ W.heap.size + 1) := ho
  clear hsz hJ hJx hS hSx hsW h0W hY ho hw2 hw3 hW h0w hs T
  gi_wp2
  gi_loopw [] (fun wr => ∃ (pre : List Pc) (q : Nat) (va vb vr vc : Int), wr.heap[W.heap.size + 1]? = some (.stringIter s q) ∧ Blk wr W.heap.size #[.int .i64 va, .int .i64 vb, .int .i32 vr, .int .i64 vc] 464 ∧ Blk wr sb #[.string s] 9 ∧ Same w0 wr ∧ J pre wr ∧ Stand s pre q va vb vr vc)
    (fun wr => s.size - iterPos wr (W.heap.size + 1))
  case atStart =>
    obtain ⟨hJ, hJx, hS, hSx, hsW, h0W, T⟩ := HH.out
    have B1 : Below W.heap.size W ((W.alloc (.cells #[.int .i64 0, .int .i64 0, .int .i32 0, .int .i64 0] 464)).alloc (.stringIter s 0)) := ((Below.refl _ W).alloc (Nat.le_refl _) _).alloc (by simp) _
    refine ⟨[], 0, 0, 0, 0, 0, ?_, (Blk.new W _ _).alloc _, hsW.below B1, h0W.below B1, AbidesFrom.below hJ h0 B1, .inl ⟨rfl, rfl, rfl, rfl, rfl, rfl⟩⟩
    have := World.alloc_heap_new (W.alloc (.cells #[.int .i64 0, .int .i64 0, .int .i32 0, .int .i64 0] 464)) (.stringIter s 0)
    rwa [World.size_alloc] at this
  case round =>
    obtain ⟨pre, q, va, vb, vr, vc, hit, hpb, hsb, h0r, hJr, hst⟩ := hrel
    have HR : Hid (Blk wr W.heap.size #[.int .i64 va, .int .i64 vb, .int .i32 vr, .int .i64 vc] 464 ∧ Blk wr sb #[.string s] 9 ∧ Same w0 wr ∧ J pre wr ∧ Stand s pre q va vb vr vc) := ⟨hpb, hsb, h0r, hJr, hst⟩
    by_cases hq : q < s.size
    · have hnx := Lib.run_next_any_at (P := Tryz.prog) wr (W.heap.size + 1) s q 0 hit hq
      have hlW : W.heap.size + 1 < wr.heap.size := (Array.getElem?_eq_some_iff.1 hit).1
      obtain ⟨r', hr'⟩ : ∃ r', r' = (Utf8.decode s q).1 := ⟨_, rfl⟩
      obtain ⟨z', hz'⟩ : ∃ z', z' = (Utf8.decode s q).2 := ⟨_, rfl⟩
      obtain ⟨wI, hwI⟩ : ∃ wI, wI = wr.iterAt (W.heap.size + 1) s (q + z') := ⟨_, rfl⟩
      rw [← hr', ← hz', ← hwI] at hnx
      have hz1 : 1 ≤ z' := by rw [hz']; exact Lib.width_pos s q
      have HZ : Hid (r' = rn s q ∧ z' = sz s q ∧ iterPos wr (W.heap.size + 1) = q ∧ 1 ≤ z') := ⟨hr', hz', iterPos_of hit, hz1⟩
      clear hr' hz'
      have AI : Hid (wI.heap[W.heap.size + 1]? = some (.stringIter s (q + z')) ∧ Blk wI W.heap.size #[.int .i64 va, .int .i64 vb, .int .i32 vr, .int .i64 vc] 464 ∧ Blk wI sb #[.string s] 9 ∧ Same w0 wI ∧ J pre wI ∧ Stand s pre q va vb vr vc) := by
        obtain ⟨hJ, hJx, hS, hSx, hsW, h0W, T⟩ := HH.out
        have := hsW.lt
        rw [hwI]
        exact ⟨Lib.iterAt_heap _ _ _ _ _ hit, hpb.iterAt _ _ _ (by simp), hsb.iterAt _ _ _ (by omega), h0r.iterAt _ _ _ (by have := h0W.1; omega),
          hJ pre wr _ (some (W.heap.size + 1)) hJr ⟨rfl, rfl, rfl, by rw [Lib.iterAt_size]; exact Nat.le_refl _, fun k _ hk => Lib.iterAt_other _ _ _ _ _ (fun e => hk (by rw [e]))⟩ (fun r e => by cases e; exact ⟨by omega, _, hit, rfl⟩), hst⟩
      clear hit hpb hsb h0r hJr hst HR hwI
      obtain ⟨iI, pI, sI, zI, jI, stI⟩ := id AI.out
      obtain ⟨c0, c1, c2, c3⟩ := pI.at4
      have fI : ∀ o, wI.frozen? ⟨W.heap.size, o, none⟩ = false := pI.frozen
      rcases stI with ⟨rfl, rfl, rfl, rfl, rfl, rfl⟩ | ⟨hq0, f, a, r, hpc, hf, rfl, rfl, rfl⟩
      · clear iI pI sI zI jI hz1
        gi_wp2_with fail
        refine ⟨trivial, ?_⟩
        gi_wp2_with fail
        refine ⟨fun _ h => (by cases h), ?_⟩
        gi_wp2_with fail
        have TI : Tabs (wI.setCell ⟨W.heap.size, 1, none⟩ (.int .i64 0)) := by
          obtain ⟨hJ, hJx, hS, hSx, hsW, h0W, T⟩ := HH.out
          obtain ⟨iI, pI, sI, zI, jI, stI⟩ := AI.out
          exact T.same (zI.set _ _ _ h0W.1)
        refine ⟨trivial, fun h => (by cases h), (callsIn_wide.2 (width_any _ _ TI)).mono ?_⟩
        rintro e w2 ⟨rfl, hb⟩
        have A2 : Hid (w2.heap[W.heap.size + 1]? = some (.stringIter s (0 + z')) ∧ Blk w2 W.heap.size #[.int .i64 0, .int .i64 0, .int .i32 0, .int .i64 0] 464 ∧ Blk w2 sb #[.string s] 9 ∧ Same w0 w2 ∧ J [] w2) := by
          obtain ⟨hJ, hJx, hS, hSx, hsW, h0W, T⟩ := HH.out
          obtain ⟨iI, pI, sI, zI, jI, stI⟩ := AI.out
          have := hsW.lt
          have i1 := same_set (p := ⟨W.heap.size, 1, none⟩) (v := .int .i64 0) iI (by simp)
          exact ⟨(hb.block _ (Array.getElem?_eq_some_iff.1 i1).1).trans i1, (pI.put41 _).below hb, (sI.other ⟨W.heap.size, 1, none⟩ _ (by simp; omega)).below hb, (zI.set _ _ _ h0W.1).below hb, AbidesFrom.below hJ (hS _ _ _ _ jI) hb⟩
        clear c0 c1 c2 c3 fI hb TI
        obtain ⟨i2, p2, s2, z2, j2⟩ := id A2.out
        have f2 : ∀ o, w2.frozen? ⟨W.heap.size, o, none⟩ = false := p2.frozen
        obtain ⟨c0, c1, c2, c3⟩ := p2.at4
        clear i2 p2 s2 z2 j2
        gi_wp2
        obtain ⟨hJ, hJx, hS, hSx, hsW, h0W, T⟩ := HH.out
        obtain ⟨i2, p2, s2, z2, j2⟩ := A2.out
        obtain ⟨hr', hz', hip, hz1⟩ := HZ.out
        have := hsW.lt
        have i3 : ((((w2.setCell ⟨W.heap.size, 0, none⟩ (.int .i64 0)).setCell ⟨W.heap.size, 1, none⟩ (.int .i64 0)).setCell ⟨W.heap.size, 2, none⟩ (.int .i32 r')).setCell ⟨W.heap.size, 3, none⟩ (.int .i64 (width r'))).heap[W.heap.size + 1]? = some (.stringIter s (0 + z')) :=
          same_set (same_set (same_set (same_set i2 (by simp)) (by simp)) (by simp)) (by simp)
        refine ⟨⟨[], 0 + z', 0, 0, r', width r', i3, p2.put4 _ _ _ _, (((s2.other _ _ (by simp; omega)).other _ _ (by simp; omega)).other _ _ (by simp; omega)).other _ _ (by simp; omega),
          (((z2.set _ _ _ h0W.1).set _ _ _ h0W.1).set _ _ _ h0W.1).set _ _ _ h0W.1, hS _ _ _ _ (hS _ _ _ _ (hS _ _ _ _ (hS _ _ _ _ j2))), .inr ⟨by omega, s.size - 1, 0, r', ?_, by omega, rfl, rfl, rfl⟩⟩, ?_⟩
        · simp only [pcs, if_neg (show ¬ s.size = 0 by omega), List.nil_append, hr', hz', Nat.zero_add, show s.size - 1 + 1 = s.size by omega]
        · rw [hip, iterPos_of i3]; omega
      · clear iI pI sI zI jI
        have TI : Tabs wI := by
          obtain ⟨hJ, hJx, hS, hSx, hsW, h0W, T⟩ := HH.out
          obtain ⟨iI, pI, sI, zI, jI, stI⟩ := AI.out
          exact T.same zI
        have HT : Hid (Tabs wI) := TI
        clear TI
        have HP : Hid (pcs s = pre ++ grow s (f + 1) a r q ∧ s.size ≤ f + q) := ⟨hpc, hf⟩
        clear hpc hf
        gi_wp2_with fail
        refine ⟨trivial, fun h => (by cases h), (callsIn_wide.2 (takes_any _ _ _ _ _ _ HT.out)).mono ?_⟩
        rintro e w2 ⟨rfl, hb⟩
        have A2 : Hid (w2.heap[W.heap.size + 1]? = some (.stringIter s (q + z')) ∧ Blk w2 W.heap.size #[.int .i64 a, .int .i64 vb, .int .i32 r, .int .i64 (width r)] 464 ∧ Blk w2 sb #[.string s] 9 ∧ Same w0 w2 ∧ J pre w2) := by
          obtain ⟨hJ, hJx, hS, hSx, hsW, h0W, T⟩ := HH.out
          obtain ⟨iI, pI, sI, zI, jI, stI⟩ := AI.out
          exact ⟨(hb.block _ (Array.getElem?_eq_some_iff.1 iI).1).trans iI, pI.below hb, sI.below hb, zI.below hb, AbidesFrom.below hJ jI hb⟩
        clear c0 c1 c2 c3 fI hb
        cases ht : (mrk r' && !ctl r)
        · obtain ⟨x, hx⟩ : ∃ x : Pc, x = ⟨a, q, r⟩ := ⟨_, rfl⟩
          obtain ⟨g, hg, hpg⟩ : ∃ g, pcs s = pre ++ x :: g ∧ g = grow s (f - 1 + 1) q r' (q + z') := by
            obtain ⟨hpc, hf⟩ := HP.out
            obtain ⟨hr', hz', hip, hz1⟩ := HZ.out
            rw [hr'] at ht
            rw [hpc, grow_out hq ht]
            exact ⟨_, by rw [hx], by rw [hr', hz', show f - 1 + 1 = f by omega]⟩
          obtain ⟨fn, tmps, assign, body, hy, hR⟩ := HY.out pre x (w2.setCell ⟨W.heap.size, 1, none⟩ (.int .i64 q)) (HH.out.2.2.1 _ _ _ _ A2.out.2.2.2.2) ⟨g, by rw [hg]; simp⟩ (Nat.lt_of_lt_of_le (Array.getElem?_eq_some_iff.1 A2.out.1).1 (KeepsWalks.setCell w2 _ _).size)
          rw [hx] at hy
          dsimp only [pcE] at hy
          have HG : Hid (pcs s = pre ++ x :: g ∧ g = grow s (f - 1 + 1) q r' (q + z') ∧ x = ⟨a, q, r⟩) := ⟨hg, hpg, hx⟩
          clear hg hpg hx
          have p2 := A2.out.2.1
          have f2 : ∀ o, w2.frozen? ⟨W.heap.size, o, none⟩ = false := p2.frozen
          obtain ⟨c0, c1, c2, c3⟩ := p2.at4
          clear p2
          gi_wp2
          refine ⟨fun h => (by cases h), hR.mono ?_⟩
          clear hy hR
          rintro e w3 (⟨rfl, hJ3, hk3⟩ | ⟨rfl, hJx3⟩)
          · have A3 : Hid (w3.heap[W.heap.size + 1]? = some (.stringIter s (q + z')) ∧ Blk w3 W.heap.size #[.int .i64 a, .int .i64 q, .int .i32 r, .int .i64 (width r)] 464 ∧ Blk w3 sb #[.string s] 9 ∧ Same w0 w3 ∧ J (pre ++ [x]) w3) := by
              obtain ⟨hJ, hJx, hS, hSx, hsW, h0W, T⟩ := HH.out
              obtain ⟨i2, p2, s2, z2, j2⟩ := A2.out
              have ho := HO.out
              have := hsW.lt
              exact ⟨hk3.2 _ _ (fun h => (ho _ h).2.2.2 rfl) (.inr rfl) (same_set i2 (by simp)), (p2.put41 _).kept hk3 (fun h => (ho _ h).2.2.1 rfl), (s2.other ⟨W.heap.size, 1, none⟩ _ (by simp; omega)).kept hk3 (fun h => (ho _ h).2.1 rfl), (z2.set _ _ _ h0W.1).kept hk3 (fun k h => (ho k h).1), hJ3⟩
            clear c0 c1 c2 c3 f2 hJ3 hk3
            gi_wp2_with fail
            have T3 : Tabs w3 := HH.out.2.2.2.2.2.2.same A3.out.2.2.2.1
            refine ⟨trivial, fun h => (by cases h), (callsIn_wide.2 (width_any _ _ T3)).mono ?_⟩
            rintro e w4 ⟨rfl, hb⟩
            have A4 : Hid (w4.heap[W.heap.size + 1]? = some (.stringIter s (q + z')) ∧ Blk w4 W.heap.size #[.int .i64 a, .int .i64 q, .int .i32 r, .int .i64 (width r)] 464 ∧ Blk w4 sb #[.string s] 9 ∧ Same w0 w4 ∧ J (pre ++ [x]) w4) := by
              obtain ⟨hJ, hJx, hS, hSx, hsW, h0W, T⟩ := HH.out
              obtain ⟨i3, p3, s3, z3, j3⟩ := A3.out
              exact ⟨(hb.block _ (Array.getElem?_eq_some_iff.1 i3).1).trans i3, p3.below hb, s3.below hb, z3.below hb, AbidesFrom.below hJ j3 hb⟩
            clear hb T3
            have p4 := A4.out.2.1
            have f4 : ∀ o, w4.frozen? ⟨W.heap.size, o, none⟩ = false := p4.frozen
            obtain ⟨c0, c1, c2, c3⟩ := p4.at4
            clear p4
            gi_wp2
            obtain ⟨hJ, hJx, hS, hSx, hsW, h0W, T⟩ := HH.out
            obtain ⟨i4, p4, s4, z4, j4⟩ := A4.out
            obtain ⟨hr', hz', hip, hz1⟩ := HZ.out
            obtain ⟨hg, hpg, hx⟩ := HG.out
            obtain ⟨hpc, hf⟩ := HP.out
            have := hsW.lt
            have i5 : ((((w4.setCell ⟨W.heap.size, 0, none⟩ (.int .i64 q)).setCell ⟨W.heap.size, 1, none⟩ (.int .i64 0)).setCell ⟨W.heap.size, 2, none⟩ (.int .i32 r')).setCell ⟨W.heap.size, 3, none⟩ (.int .i64 (width r'))).heap[W.heap.size + 1]? = some (.stringIter s (q + z')) :=
              same_set (same_set (same_set (same_set i4 (by simp)) (by simp)) (by simp)) (by simp)
            refine ⟨⟨pre ++ [x], q + z', q, 0, r', width r', i5, p4.put4 _ _ _ _, (((s4.other _ _ (by simp; omega)).other _ _ (by simp; omega)).other _ _ (by simp; omega)).other _ _ (by simp; omega),
              (((z4.set _ _ _ h0W.1).set _ _ _ h0W.1).set _ _ _ h0W.1).set _ _ _ h0W.1, hS _ _ _ _ (hS _ _ _ _ (hS _ _ _ _ (hS _ _ _ _ j4))), .inr ⟨by omega, f - 1, q, r', ?_, by omega, rfl, rfl, rfl⟩⟩, ?_⟩
            · rw [hg, hpg]; simp
            · rw [hip, iterPos_of i5]; omega
          · gi_wp2
            obtain ⟨hg, hpg, hx⟩ := HG.out
            refine bodyPost_ret (results_none rfl _ _ _) rfl ?_
            exact ⟨⟨_, rfl⟩, .inr ⟨pre ++ [x], ⟨g, by rw [hg]; simp⟩, hJx3⟩⟩
        · gi_wp2
          obtain ⟨hpc, hf⟩ := HP.out
          obtain ⟨i2, p2, s2, z2, j2⟩ := A2.out
          obtain ⟨hr', hz', hip, hz1⟩ := HZ.out
          obtain ⟨f', rfl⟩ : ∃ f', f = f' + 1 := ⟨f - 1, by omega⟩
          refine ⟨⟨pre, q + z', a, vb, r, width r, i2, p2, s2, z2, j2, .inr ⟨by omega, f', a, r, ?_, by omega, rfl, rfl, rfl⟩⟩, ?_⟩
          · rw [hr'] at ht
            rw [hpc, grow_in hq ht, hz']
          · rw [hip, iterPos_of i2]; omega
    · have hnx := Lib.run_next_end_at (P := Tryz.prog) wr (W.heap.size + 1) s q 0 hit hq
      have hlW : W.heap.size + 1 < wr.heap.size := (Array.getElem?_eq_some_iff.1 hit).1
      have cs := hsb.at1
      obtain ⟨c0, c1, c2, c3⟩ := hpb.at4
      have fI : ∀ o, wr.frozen? ⟨W.heap.size, o, none⟩ = false := hpb.frozen
      clear hit hpb hsb h0r hJr hst
      by_cases hz : s.size = 0
      · have hne : s.toList.isEmpty = true := by rw [toList_isEmpty, decide_eq_true hz]
        gi_wp2
        obtain ⟨hpb, hsb, h0r, hJr, hst⟩ := HR.out
        go_end0
        refine ⟨⟨_, rfl⟩, .inl ⟨pre, ?_, hJr⟩⟩
        rcases hst with ⟨_, h, _⟩ | ⟨_, f, a, r, h, _⟩
        · rw [h]; simp [pcs, hz]
        · have : pcs s = [] := by simp [pcs, hz]
          rw [this] at h
          simp at h
          rw [this, h.1]
      · have hne : s.toList.isEmpty = false := by
          rw [toList_isEmpty, decide_eq_false hz]
        obtain ⟨f, a, r, hpc, hf, rfl, rfl, rfl⟩ : ∃ (f a r : Nat), pcs s = pre ++ grow s (f + 1) a r q ∧ s.size ≤ f + q ∧ va = a ∧ vr = r ∧ vc = width r := by
          rcases HR.out.2.2.2.2 with ⟨h, _⟩ | ⟨_, h⟩
          · omega
          · exact h
        obtain ⟨x, hx⟩ : ∃ x : Pc, x = ⟨a, s.size, r⟩ := ⟨_, rfl⟩
        have hg : pcs s = pre ++ [x] := by
          rw [hpc, grow_end hq, hx]
        obtain ⟨fn, tmps, assign, body, hy, hR⟩ := HY.out pre x (wr.setCell ⟨W.heap.size, 1, none⟩ (.int .i64 s.size)) (HH.out.2.2.1 _ _ _ _ HR.out.2.2.2.1) ⟨[], by rw [hg]; simp⟩ (Nat.lt_of_lt_of_le hlW (KeepsWalks.setCell wr _ _).size)
        rw [hx] at hy
        dsimp only [pcE] at hy
        have HG : Hid (pcs s = pre ++ [x]) := hg
        clear hg hx hpc hf
        gi_wp2
        refine ⟨fun h => (by cases h), hR.mono ?_⟩
        clear hy hR
        rintro e w3 (⟨rfl, hJ3, hk3⟩ | ⟨rfl, hJx3⟩)
        · gi_wp2
          go_end0
          exact ⟨⟨_, rfl⟩, .inl ⟨pre ++ [x], HG.out.symm, hJ3⟩⟩
        · gi_wp2
          go_end0
          exact ⟨⟨_, rfl⟩, .inr ⟨pre ++ [x], ⟨[], by rw [HG.out]; simp⟩, hJx3⟩⟩

end Go.Proofs.YtbnbfgkcndomaabGreatDoor
