/-
  Contracts of package style: which rules hold: a class among a text's.
-/
import Derived.Test.YtobmpjmpffnoiaaDoorSW4
import Derived.Test.YtobmpjmpffnoiaaDoorRG
import Derived.Shelf.Abstract
import Derived.Shelf.RegionOpen
import Derived.OwnWalkIn
import Derived.TacticsInMore
import Derived.LoopNIn
import Derived.LoopIn
namespace Go.Proofs.YtobmpjmpffnoiaaDoor
open Go.RowKit Go.Shelf
attribute [local go_sem] Oper.semAt_some

def bl (s : ByteArray) : Int := Lib.indexByte s.data.toList 32
/-- A text, cut at each blank. -/
def wl : Nat → ByteArray → List ByteArray
  | 0, s => [s]
  | f + 1, s => if bl s < 0 then [s] else s.extract 0 (bl s).toNat :: wl f (s.extract ((bl s).toNat + 1) s.size)
def wordsB (t : ByteArray) : List ByteArray := wl (t.size + 1) t

set_option maxHeartbeats 400000 in
theorem splitSeq_any (t : ByteArray) (w : World) :
    Calls Tryd.prog 66 #[.string t, .string ⟨#[32]⟩] w fun e w' => e = .returned (.func (.func 72) #[] #[.pointer (some ⟨w.heap.size + 1, 0, none⟩), .pointer (some ⟨w.heap.size, 0, none⟩), .pointer (some ⟨w.heap.size + 1 + 1, 0, none⟩)]) ∧
      w' = ((w.alloc (.cells #[.string t] 9)).alloc (.cells #[.string ⟨#[32]⟩] 9)).alloc (.cells #[.int .i64 0] 3) := by
  have h : Calls Tryd.prog 69 #[.string t, .string ⟨#[32]⟩, .int .i64 0] w fun e w' => e = .returned (.func (.func 72) #[] #[.pointer (some ⟨w.heap.size + 1, 0, none⟩), .pointer (some ⟨w.heap.size, 0, none⟩), .pointer (some ⟨w.heap.size + 1 + 1, 0, none⟩)]) ∧
      w' = ((w.alloc (.cells #[.string t] 9)).alloc (.cells #[.string ⟨#[32]⟩] 9)).alloc (.cells #[.int .i64 0] 3) := by
    go_enter Tryd.func69, Tryd.ntmps69
    go_wp2
    go_ret
    exact ⟨rfl, rfl⟩
  go_enter Tryd.func66, Tryd.ntmps66
  go_wp2_with fail
  refine h.mono ?_
  rintro e w1 ⟨rfl, rfl⟩
  go_wp2
  go_ret
  exact ⟨rfl, rfl⟩

def restOf (w : World) (b : Nat) : Nat := match w.cell? ⟨b, 0, none⟩ with | some (.string r) => r.size | _ => 0
theorem restOf_blk {w : World} {b : Nat} {r : ByteArray} {t : TypeId} (h : Blk w b #[.string r] t) : restOf w b = r.size := by unfold restOf; rw [h.at1]

set_option maxRecDepth 20000 in
set_option maxHeartbeats 1000000 in
theorem split_seq (n b1 b2 b3 : Nat) (t : ByteArray) (w : World) (h12 : b1 ≠ b2) (h23 : b2 ≠ b3) (k2 : Blk w b2 #[.string t] 9) (k1 : Blk w b1 #[.string ⟨#[32]⟩] 9) (k3 : Blk w b3 #[.int .i64 0] 3) (ht : t.size < 1000000000) :
    SeqD Fence.wide n Tryd.prog 72 #[.pointer (some ⟨b1, 0, none⟩), .pointer (some ⟨b2, 0, none⟩), .pointer (some ⟨b3, 0, none⟩)] (fun x : ByteArray => #[.string x]) (Kept fun _ => False) (· = wordsB t) (· <+: wordsB t) (fun pre x => pre ++ [x] <+: wordsB t) b2 w := by
  intro l J Jx W hW hsz hJ hJx hS hSx hY h0
  refine callsIn_of_wp Tryd.func72 rfl trivial ?_ rfl
  simp only [Tryd.ntmps72, List.size_toArray, List.length_cons, List.length_nil, Nat.reduceAdd, Nat.reduceSub, Array.replicate_succ, Array.replicate_zero, List.push_toArray, List.append_toArray, List.nil_append, List.cons_append]
  replace k1 := k1.below hW
  replace k2 := k2.below hW
  replace k3 := k3.below hW
  have c1 := k1.at1
  have HH : Hid (AbidesFrom W.heap.size J ∧ AbidesFrom W.heap.size Jx ∧ Stores b2 J ∧ Stores b2 Jx ∧ Blk W b1 #[.string ⟨#[32]⟩] 9 ∧ Blk W b2 #[.string t] 9 ∧ Blk W b3 #[.int .i64 0] 3 ∧ J [] W) := ⟨hJ, hJx, hS, hSx, k1, k2, k3, h0⟩
  have HY : Hid (∀ pre x W1, J pre W1 → pre ++ [x] <+: wordsB t → YieldAt Fence.wide (n - 1) Tryd.prog l #[.string x] W1 fun e W' =>
      (e = .returned (.bool true) ∧ J (pre ++ [x]) W' ∧ Kept (fun _ => False) W1 W') ∨ (e = .returned (.bool false) ∧ Jx (pre ++ [x]) W')) := hY
  clear hsz hJ hJx hS hSx hY hW k1 k2 k3 h0
  gi_wp2_with fail
  gi_loopw [] (fun wr => ∃ (pre : List ByteArray) (r : ByteArray) (f : Nat), r.size ≤ t.size ∧ Hid (Blk wr b1 #[.string ⟨#[32]⟩] 9 ∧ Blk wr b2 #[.string r] 9 ∧ Blk wr b3 #[.int .i64 0] 3 ∧ J pre wr ∧ wordsB t = pre ++ wl (f + 1) r ∧ r.size ≤ f)) (fun wr => restOf wr b2)
  case atStart =>
    obtain ⟨hJ, hJx, hS, hSx, k1, k2, k3, h0⟩ := HH.out
    exact ⟨[], t, t.size, Nat.le_refl _, ⟨k1, k2, k3, h0, rfl, Nat.le_refl _⟩⟩
  case round =>
    obtain ⟨pre, r, f, hr, HR⟩ := hrel
    have d1 := HR.out.1.at1
    have d2 := HR.out.2.1.at1
    have d3 := HR.out.2.2.1.at1
    have f2 := HR.out.2.1.frozen 0
    have HI : Hid (∀ w, Calls Tryd.prog 67 #[.string r, .string ⟨#[32]⟩] w fun e w' => e = .returned (.int .i64 (bl r)) ∧ w' = w) := fun w => Any.strings_Index_one Tryd.lays143 r 32 w
    clear c1
    by_cases hb : bl r < 0
    · have hw : wl (f + 1) r = [r] := by simp [wl, hb]
      obtain ⟨fn, tmps, assign, body, hy, hRd⟩ := HY.out pre r wr HR.out.2.2.2.1 (by rw [HR.out.2.2.2.2.1, hw]; exact List.prefix_refl _)
      gi_wp2_with fail
      refine ⟨trivial, fun h => (by cases h), (callsIn_wide.2 (HI.out _)).mono ?_⟩
      rintro e w1 ⟨rfl, rfl⟩
      gi_wp2_with fail
      refine ⟨fun h => (by cases h), hRd.mono ?_⟩
      rintro e W2 (⟨rfl, hJ2, _⟩ | ⟨rfl, hJx2⟩)
      · gi_wp2
        go_end0
        exact ⟨⟨_, rfl⟩, .inl ⟨pre ++ [r], by rw [HR.out.2.2.2.2.1, hw], hJ2⟩⟩
      · gi_wp2
        go_end0
        exact ⟨⟨_, rfl⟩, .inr ⟨pre ++ [r], by rw [HR.out.2.2.2.2.1, hw]; exact List.prefix_refl _, hJx2⟩⟩
    · obtain ⟨i, ei⟩ : ∃ i : Nat, bl r = (i : Int) := ⟨(bl r).toNat, by omega⟩
      have hir : i < r.size := by
        have h := (Lib.indexByte_some (l := r.data.toList) (c := 32) (o := i) ei).1
        have h2 := (List.getElem?_eq_some_iff.1 h).1
        rwa [Array.length_toList] at h2
      have il : (i : Int) < (r.size : Int) := by omega
      have hw : wl (f + 1) r = r.extract 0 i :: wl f (r.extract (i + 1) r.size) := by simp [wl, ei]; omega
      rw [ei] at HI
      obtain ⟨f', ef⟩ : ∃ f', f = f' + 1 := ⟨f - 1, by have := HR.out.2.2.2.2.2; omega⟩
      have HW : Hid (wordsB t = (pre ++ [r.extract 0 i]) ++ wl (f' + 1) (r.extract (i + 1) r.size) ∧ (r.extract (i + 1) r.size).size ≤ f' ∧ (r.extract (i + 1) r.size).size < r.size ∧ (r.extract (i + 1) r.size).size ≤ t.size) := by
        have hz : (r.extract (i + 1) r.size).size = r.size - (i + 1) := by rw [ByteArray.size_extract]; omega
        refine ⟨by rw [HR.out.2.2.2.2.1, hw, ef]; simp, by have := HR.out.2.2.2.2.2; omega, by omega, by omega⟩
      obtain ⟨fn, tmps, assign, body, hy, hRd⟩ := HY.out pre (r.extract 0 i) wr HR.out.2.2.2.1 (by rw [HW.out.1]; exact List.prefix_append _ _)
      clear hw ef ei hb
      have i1 : (i : Int) + 1 = ((i + 1 : Nat) : Int) := by omega
      gi_wp2_with fail
      refine ⟨trivial, fun h => (by cases h), (callsIn_wide.2 (HI.out _)).mono ?_⟩
      rintro e w1 ⟨rfl, rfl⟩
      clear i1
      gi_wp2_with fail
      refine ⟨fun h => (by cases h), hRd.mono ?_⟩
      rintro e W2 (⟨rfl, hJ2, hk⟩ | ⟨rfl, hJx2⟩)
      · have K1 := HR.out.1.kept hk (fun h => h)
        have K2 := HR.out.2.1.kept hk (fun h => h)
        have K3 := HR.out.2.2.1.kept hk (fun h => h)
        have HK : Hid (Blk W2 b1 #[.string ⟨#[32]⟩] 9 ∧ Blk W2 b2 #[.string r] 9 ∧ Blk W2 b3 #[.int .i64 0] 3 ∧ J (pre ++ [r.extract 0 i]) W2) := ⟨K1, K2, K3, hJ2⟩
        have e1 := K1.at1
        have e2 := K2.at1
        have e3 := K2.frozen 0
        clear K1 K2 K3 hJ2 hk d1 d2 d3 f2 hy hRd
        gi_wp2_with fail
        obtain ⟨hJ, hJx, hS, hSx, _⟩ := HH.out
        obtain ⟨K1, K2, K3, hJ2⟩ := HK.out
        have K4 := K2.put1 (.string (r.extract (i + 1) r.size))
        refine ⟨⟨pre ++ [r.extract 0 i], r.extract (i + 1) r.size, f', HW.out.2.2.2, ⟨K1.other ⟨b2, 0, none⟩ _ (fun h => h12 h.symm), K4, K3.other ⟨b2, 0, none⟩ _ h23, hS _ _ _ _ hJ2, HW.out.1, HW.out.2.1⟩⟩, ?_⟩
        rw [restOf_blk K4, restOf_blk HR.out.2.1]
        exact HW.out.2.2.1
      · gi_wp2
        exact bodyPost_ret (v := .tuple #[]) (by simp [results, Tryd.results72, go_sem]) rfl ⟨⟨_, rfl⟩, .inr ⟨pre ++ [r.extract 0 i], by rw [HW.out.1]; exact List.prefix_append _ _, hJx2⟩⟩

end Go.Proofs.YtobmpjmpffnoiaaDoor
