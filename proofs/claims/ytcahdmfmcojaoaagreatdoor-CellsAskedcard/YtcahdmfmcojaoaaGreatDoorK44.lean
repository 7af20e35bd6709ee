/-
  Texts of this claim, one behind the other: what each is about stands ahead of it.
-/
import Derived.Test.YtcahdmfmcojaoaaGreatDoorK43
import Derived.Test.YtcahdmfmcojaoaaGreatDoorK38
import Derived.Test.YtcahdmfmcojaoaaGreatDoorK19
import Derived.OneCell
import Derived.Test.YtcahdmfmcojaoaaGreatDoorK24
/-
  The document's side of stage 15: Blank; and where a blank screen may not be.
-/
namespace Go.Proofs.YtcahdmfmcojaoaaGreatDoor
open Go.RowKit

theorem scrG_size : (Tryz.prog.info? 26).map (·.size) = some 3 := by kernel_rfl
theorem owc_ne {lo : Nat} {w : World} {v : Value} {l : List Ce} {b : Nat} {cs : Array Value} (h : OwC lo w v l) (hb : Bk w b cs 26) : v.ownBlock ≠ some b := by
  obtain ⟨_, ⟨rfl, _⟩ | ⟨g, cap, cur, rfl, _, hc, _⟩⟩ := h
  · simp [Value.ownBlock]
  · intro e
    simp only [Value.ownBlock, Option.some.injEq] at e
    subst e
    have := hb.symm.trans hc
    injection this with this
    injection this with _ h2 _
    exact absurd h2 (by decide)
theorem owc_lt {lo : Nat} {w : World} {v : Value} {l : List Ce} {b : Nat} (h : OwC lo w v l) (hb : b < lo) : v.ownBlock ≠ some b := by
  obtain ⟨_, ⟨rfl, _⟩ | ⟨g, cap, cur, rfl, hl, _⟩⟩ := h
  · simp [Value.ownBlock]
  · intro e
    simp only [Value.ownBlock, Option.some.injEq] at e
    omega

set_option maxRecDepth 10000 in
set_option maxHeartbeats 2000000 in
theorem rblank15_bad (a b : Int) (c : Co) (w : World) (hs : szB a b = false) :
    Calls Tryz.prog 12 #[.agg #[.int .i64 a, .int .i64 b], (Value.agg #[.int .u8 c.r, .int .u8 c.g, .int .u8 c.b, .int .u8 c.a])] w fun e w' => e = .returned (.tuple #[.agg #[.int .i64 0, .int .i64 0, .slice none 0 0], .int .i64 150]) ∧ Below w.heap.size w w' := by
  have HS : Hid (∀ W, Calls Tryz.prog 35 #[.agg #[.int .i64 a, .int .i64 b]] W fun e w' => e = .returned (.bool false) ∧ Below W.heap.size W w') := fun W => by rw [← hs]; exact rsize15_any a b W
  have H0 : Hid (∀ W, W = ((w.alloc (.cells #[.int .i64 a, .int .i64 b] 23)).alloc (.cells #[.int .u8 c.r, .int .u8 c.g, .int .u8 c.b, .int .u8 c.a] 30)).alloc (.cells #[.int .i64 0, .int .i64 0, .slice none 0 0] 26) → Below w.heap.size w W ∧ Bk W (w.heap.size + 1 + 1) #[.int .i64 0, .int .i64 0, .slice none 0 0] 26) := fun W hW => by
    have k2 := Bk.new ((w.alloc (.cells #[.int .i64 a, .int .i64 b] 23)).alloc (.cells #[.int .u8 c.r, .int .u8 c.g, .int .u8 c.b, .int .u8 c.a] 30)) #[.int .i64 0, .int .i64 0, .slice none 0 0] 26
    simp only [World.size_alloc] at k2
    rw [hW]
    exact ⟨(((Below.refl w.heap.size w).alloc (Nat.le_refl _) _).alloc (by simp) _).alloc (by simp; omega) _, k2⟩
  clear hs
  go_enter Tryz.func12, Tryz.ntmps12
  go_wp2_with fail
  obtain ⟨w1, hw1⟩ : ∃ w1, w1 = ((w.alloc (.cells #[.int .i64 a, .int .i64 b] 23)).alloc (.cells #[.int .u8 c.r, .int .u8 c.g, .int .u8 c.b, .int .u8 c.a] 30)).alloc (.cells #[.int .i64 0, .int .i64 0, .slice none 0 0] 26) := ⟨_, rfl⟩
  have H1 := show Hid _ from H0.out w1 hw1
  rw [← hw1]
  clear hw1 H0
  refine (HS.out _).mono ?_
  rintro e w2 ⟨rfl, hb⟩
  have H2 : Hid (Below w.heap.size w w2 ∧ Bk w2 (w.heap.size + 1 + 1) #[.int .i64 0, .int .i64 0, .slice none 0 0] 26) := ⟨H1.out.1.trans (hb.mono H1.out.1.size), H1.out.2.below hb⟩
  clear hb H1 HS
  go_wp2_with (refine wpList_store_row rfl 26 (.tmp 4) (.tmp 11) rfl (w.heap.size + 1 + 1) #[.int .i64 0, .int .i64 0, .slice none 0 0] rfl rfl 26 _ H2.out.2 scrG_size rfl (by simp [Value.oneCell']) ?_)
  obtain ⟨W3, hW3⟩ : ∃ W3, W3 = w2.setRow (w.heap.size + 1 + 1) #[.int .i64 0, .int .i64 0, .slice none 0 0] := ⟨_, rfl⟩
  have H3 : Hid (Bk W3 (w.heap.size + 1 + 1) #[.int .i64 0, .int .i64 0, .slice none 0 0] 26 ∧ Below w.heap.size w W3) := by rw [hW3]; exact ⟨setRow_heap w2 _ _ _ 26 _ H2.out.2, below_setRow H2.out.1 (by omega) _⟩
  rw [← hW3]
  clear hW3 H2
  have hld : (loadVar 26 ⟨w.heap.size + 1 + 1, 0, none⟩).run Tryz.prog W3 = .ok (.agg #[.int .i64 0, .int .i64 0, .slice none 0 0]) W3 := run_loadVar_row W3 _ 26 26 _ _ _ H3.out.1 Tryz.underlying26 rfl scrG_size
  refine bodyPost_ret (v := .tuple #[.agg #[.int .i64 0, .int .i64 0, .slice none 0 0], .int .i64 150]) ?_ rfl ⟨rfl, H3.out.2⟩
  simp [results, Tryz.results12, asAddr, hld]

set_option maxRecDepth 10000 in
set_option maxHeartbeats 2000000 in
theorem blank_bad (a b : Int) (c : Co) (w : World) (hs : szB a b = false) :
    Calls Tryz.prog 11 #[.agg #[.int .i64 a, .int .i64 b], (Value.agg #[.int .u8 c.r, .int .u8 c.g, .int .u8 c.b, .int .u8 c.a])] w fun e w' => e = .returned (.tuple #[.agg #[.int .i64 0, .int .i64 0, .slice none 0 0], .int .i64 150]) ∧ Below w.heap.size w w' := by
  have HS : Hid (∀ W, Calls Tryz.prog 32 #[.agg #[.int .i64 a, .int .i64 b]] W fun e w' => e = .returned (.bool false) ∧ Below W.heap.size W w') := fun W => by rw [← hs]; exact size_any a b W
  have H0 : Hid (∀ W, W = ((w.alloc (.cells #[.int .i64 a, .int .i64 b] 23)).alloc (.cells #[.int .u8 c.r, .int .u8 c.g, .int .u8 c.b, .int .u8 c.a] 30)).alloc (.cells #[.int .i64 0, .int .i64 0, .slice none 0 0] 26) → Below w.heap.size w W ∧ Bk W (w.heap.size + 1 + 1) #[.int .i64 0, .int .i64 0, .slice none 0 0] 26) := fun W hW => by
    have k2 := Bk.new ((w.alloc (.cells #[.int .i64 a, .int .i64 b] 23)).alloc (.cells #[.int .u8 c.r, .int .u8 c.g, .int .u8 c.b, .int .u8 c.a] 30)) #[.int .i64 0, .int .i64 0, .slice none 0 0] 26
    simp only [World.size_alloc] at k2
    rw [hW]
    exact ⟨(((Below.refl w.heap.size w).alloc (Nat.le_refl _) _).alloc (by simp) _).alloc (by simp; omega) _, k2⟩
  clear hs
  go_enter Tryz.func11, Tryz.ntmps11
  go_wp2_with fail
  obtain ⟨w1, hw1⟩ : ∃ w1, w1 = ((w.alloc (.cells #[.int .i64 a, .int .i64 b] 23)).alloc (.cells #[.int .u8 c.r, .int .u8 c.g, .int .u8 c.b, .int .u8 c.a] 30)).alloc (.cells #[.int .i64 0, .int .i64 0, .slice none 0 0] 26) := ⟨_, rfl⟩
  have H1 := show Hid _ from H0.out w1 hw1
  rw [← hw1]
  clear hw1 H0
  refine (HS.out _).mono ?_
  rintro e w2 ⟨rfl, hb⟩
  have H2 : Hid (Below w.heap.size w w2 ∧ Bk w2 (w.heap.size + 1 + 1) #[.int .i64 0, .int .i64 0, .slice none 0 0] 26) := ⟨H1.out.1.trans (hb.mono H1.out.1.size), H1.out.2.below hb⟩
  clear hb H1 HS
  go_wp2_with (refine wpList_store_row rfl 26 (.tmp 4) (.tmp 9) rfl (w.heap.size + 1 + 1) #[.int .i64 0, .int .i64 0, .slice none 0 0] rfl rfl 26 _ H2.out.2 scrG_size rfl (by simp [Value.oneCell']) ?_)
  obtain ⟨W3, hW3⟩ : ∃ W3, W3 = w2.setRow (w.heap.size + 1 + 1) #[.int .i64 0, .int .i64 0, .slice none 0 0] := ⟨_, rfl⟩
  have H3 : Hid (Bk W3 (w.heap.size + 1 + 1) #[.int .i64 0, .int .i64 0, .slice none 0 0] 26 ∧ Below w.heap.size w W3) := by rw [hW3]; exact ⟨setRow_heap w2 _ _ _ 26 _ H2.out.2, below_setRow H2.out.1 (by omega) _⟩
  rw [← hW3]
  clear hW3 H2
  have hld : (loadVar 26 ⟨w.heap.size + 1 + 1, 0, none⟩).run Tryz.prog W3 = .ok (.agg #[.int .i64 0, .int .i64 0, .slice none 0 0]) W3 := run_loadVar_row W3 _ 26 26 _ _ _ H3.out.1 Tryz.underlying26 rfl scrG_size
  refine bodyPost_ret (v := .tuple #[.agg #[.int .i64 0, .int .i64 0, .slice none 0 0], .int .i64 150]) ?_ rfl ⟨rfl, H3.out.2⟩
  simp [results, Tryz.results11, asAddr, hld]

structure BlW (w : World) (a b : Int) (c : Co) (s0 s1 ob : Nat) (k : Nat) (W : World) : Prop where
  sz : Bk W s0 #[.int .i64 a, .int .i64 b] 23
  co : Bk W (s0 + 1) #[.int .u8 c.r, .int .u8 c.g, .int .u8 c.b, .int .u8 c.a] 30
  rs : Bk W s1 #[.int .i64 0, .int .i64 0, .slice none 0 0] 26
  lo : Below w.heap.size w W
  lt : s0 + 1 < ob ∧ s1 < ob ∧ w.heap.size ≤ ob ∧ w.heap.size ≤ s1
  ou : ∃ u, Bk W ob #[.int .i64 a, .int .i64 b, u] 26 ∧ OwC (ob + 1) W u (blkC c k)
theorem own_belowC {w w1 : World} {base : Nat} {v : Value} {l : List Ce} (h : OwC base w v l) (hb : Below w.heap.size w w1) : OwC base w1 v l := by
  unfold OwC at h ⊢
  refine ⟨h.1, ?_⟩
  rcases h.2 with h' | ⟨g, cap, cur, h1, h2, hg, rest⟩
  · exact .inl h'
  · exact .inr ⟨g, cap, cur, h1, h2, by rw [hb.block g (Array.getElem?_eq_some_iff.1 hg).1]; exact hg, rest⟩
theorem low_bk {B b : Nat} {W W' : World} {cs : Array Value} {t : TypeId} (h : Bk W b cs t) (hb : Below B W W') (hl : b < B) : Bk W' b cs t := (hb.block b hl).trans h
theorem BlW.next {w : World} {a b : Int} {c : Co} {s0 s1 ob k : Nat} {W W' : World} {u v : Value} (h : BlW w a b c s0 s1 ob k W) (hu : Bk W ob #[.int .i64 a, .int .i64 b, u] 26) (hb : Below (ob + 1) W W') (ho : OwC (ob + 1) W' v (blkC c (k + 1))) : BlW w a b c s0 s1 ob (k + 1) (W'.setCell ⟨ob, 2, none⟩ v) := by
  obtain ⟨l1, l2, l3, l4⟩ := h.lt
  have k1 := low_bk hu hb (Nat.lt_succ_self _)
  have e1 : ob ≠ s0 := by omega
  have e2 : ob ≠ s0 + 1 := by omega
  have e3 : ob ≠ s1 := by omega
  refine ⟨(low_bk h.sz hb (by omega)).other _ _ e1, (low_bk h.co hb (by omega)).other _ _ e2, (low_bk h.rs hb (by omega)).other _ _ e3, (h.lo.trans (hb.mono (by omega))).setCell (p := ⟨ob, 2, none⟩) l3 _, h.lt, v, k1.put 2 v, ?_⟩
  exact ownsRow_setCell_other ho (owc_ne ho k1) _
theorem blkC_succ (c : Co) (k : Nat) : blkC c (k + 1) = blkC c k ++ [⟨32, coZ, c, false, false⟩] := by
  unfold blkC
  rw [List.replicate_succ']
theorem blkC_len (c : Co) (k : Nat) : (blkC c k).length = k := by simp [blkC]

set_option maxRecDepth 10000 in
set_option maxHeartbeats 8000000 in
theorem rblank15_ok (a b : Int) (c : Co) (n : Nat) (w : World) (hs : szB a b = true) (hn : (n : Int) = a * b) :
    Calls Tryz.prog 12 #[.agg #[.int .i64 a, .int .i64 b], (Value.agg #[.int .u8 c.r, .int .u8 c.g, .int .u8 c.b, .int .u8 c.a])] w fun e w' => ∃ u, e = .returned (.tuple #[.agg #[.int .i64 a, .int .i64 b, u], .int .i64 0]) ∧ LsC w' u (blkC c n) ∧ Below w.heap.size w w' := by
  obtain ⟨i0, hi, hz0, hz1, hz2⟩ := info_parts info_cell
  have hnb : n ≤ 262144 := by have := (szB_iff.1 hs).2.2.2.2; omega
  have hmu : IntKind.i64.wrap (a * b) = (n : Int) := by rw [← hn, IntKind.wrap_i64]; omega
  have HS : Hid (∀ W, Calls Tryz.prog 35 #[.agg #[.int .i64 a, .int .i64 b]] W fun e w' => e = .returned (.bool true) ∧ Below W.heap.size W w') := fun W => by rw [← hs]; exact rsize15_any a b W
  have H0 : Hid (∀ W, W = ((w.alloc (.cells #[.int .i64 a, .int .i64 b] 23)).alloc (.cells #[.int .u8 c.r, .int .u8 c.g, .int .u8 c.b, .int .u8 c.a] 30)).alloc (.cells #[.int .i64 0, .int .i64 0, .slice none 0 0] 26) → Below w.heap.size w W ∧ Bk W w.heap.size #[.int .i64 a, .int .i64 b] 23 ∧ Bk W (w.heap.size + 1) #[.int .u8 c.r, .int .u8 c.g, .int .u8 c.b, .int .u8 c.a] 30 ∧ Bk W (w.heap.size + 1 + 1) #[.int .i64 0, .int .i64 0, .slice none 0 0] 26) := fun W hW => by
    have k1 := Bk.new w #[.int .i64 a, .int .i64 b] 23
    have k2 := Bk.new (w.alloc (.cells #[.int .i64 a, .int .i64 b] 23)) #[.int .u8 c.r, .int .u8 c.g, .int .u8 c.b, .int .u8 c.a] 30
    have k3 := Bk.new ((w.alloc (.cells #[.int .i64 a, .int .i64 b] 23)).alloc (.cells #[.int .u8 c.r, .int .u8 c.g, .int .u8 c.b, .int .u8 c.a] 30)) #[.int .i64 0, .int .i64 0, .slice none 0 0] 26
    simp only [World.size_alloc] at k2 k3
    rw [hW]
    exact ⟨(((Below.refl w.heap.size w).alloc (Nat.le_refl _) _).alloc (by simp) _).alloc (by simp; omega) _, (k1.alk _).alk _, k2.alk _, k3⟩
  clear hs hn
  go_enter Tryz.func12, Tryz.ntmps12
  go_wp2_with fail
  obtain ⟨w1, hw1⟩ : ∃ w1, w1 = ((w.alloc (.cells #[.int .i64 a, .int .i64 b] 23)).alloc (.cells #[.int .u8 c.r, .int .u8 c.g, .int .u8 c.b, .int .u8 c.a] 30)).alloc (.cells #[.int .i64 0, .int .i64 0, .slice none 0 0] 26) := ⟨_, rfl⟩
  have H1 := show Hid _ from H0.out w1 hw1
  rw [← hw1]
  clear hw1 H0
  refine (HS.out _).mono ?_
  rintro e w2 ⟨rfl, hb⟩
  have H2 : Hid (Below w.heap.size w w2 ∧ Bk w2 w.heap.size #[.int .i64 a, .int .i64 b] 23 ∧ Bk w2 (w.heap.size + 1) #[.int .u8 c.r, .int .u8 c.g, .int .u8 c.b, .int .u8 c.a] 30 ∧ Bk w2 (w.heap.size + 1 + 1) #[.int .i64 0, .int .i64 0, .slice none 0 0] 26) := ⟨H1.out.1.trans (hb.mono H1.out.1.size), H1.out.2.1.below hb, H1.out.2.2.1.below hb, H1.out.2.2.2.below hb⟩
  clear hb H1 HS
  have y0 := H2.out.2.1.cell 0
  have y1 := H2.out.2.1.cell 1
  simp only [List.getElem?_toArray, List.getElem?_cons_zero, List.getElem?_cons_succ] at y0 y1
  go_wp2_with fail
  obtain ⟨ob, hob⟩ : ∃ ob, ob = w2.heap.size := ⟨_, rfl⟩
  obtain ⟨w3, hw3⟩ : ∃ w3, w3 = w2.alloc (.cells #[.int .i64 a, .int .i64 b, .slice none 0 0] 26) := ⟨_, rfl⟩
  have H3 : Hid (BlW w a b c w.heap.size (w.heap.size + 1 + 1) ob 0 w3) := by
    have h1 := H2.out.2.2.2.lt
    have h2 := H2.out.1.size
    rw [hw3, hob]
    exact ⟨H2.out.2.1.alk _, H2.out.2.2.1.alk _, H2.out.2.2.2.alk _, H2.out.1.alloc h2 _, ⟨by omega, by omega, h2, by omega⟩, .slice none 0 0, Bk.new _ _ _, OwC.nil _ _⟩
  rw [← hw3, ← hob]
  obtain ⟨s0, hs0⟩ : ∃ s0, s0 = w.heap.size := ⟨_, rfl⟩
  rw [← hs0] at H3 ⊢
  obtain ⟨s1, hs1⟩ : ∃ s1, s1 = s0 + 1 + 1 := ⟨_, rfl⟩
  rw [← hs1] at H3 ⊢
  clear hw3 hob H2 y0 y1 hs0 hs1
  go_loopw [7] (fun i wr => ∃ k : Nat, k ≤ n ∧ i = .int .i64 k ∧ Hid (BlW w a b c s0 s1 ob k wr)) (fun i _ => n - (intOf i).toNat)
  case atStart => exact ⟨0, Nat.zero_le _, rfl, H3.out⟩
  case round =>
    obtain ⟨k, hk, rfl, HK⟩ := hrel
    have y0 := HK.out.sz.cell 0
    have y1 := HK.out.sz.cell 1
    have z0 := HK.out.co.cell 0
    have z1 := HK.out.co.cell 1
    have z2 := HK.out.co.cell 2
    have z3 := HK.out.co.cell 3
    obtain ⟨u, hu, ho⟩ := HK.out.ou
    have x0 := hu.cell 0
    have x1 := hu.cell 1
    have x2 := hu.cell 2
    simp only [List.getElem?_toArray, List.getElem?_cons_zero, List.getElem?_cons_succ] at y0 y1 z0 z1 z2 z3 x0 x1 x2
    by_cases hlt : k < n
    · have ik : (k : Int) < n := by omega
      have HX : Hid (∀ W, W = wr.alloc (.cells (#[.int .i32 (⟨32, coZ, c, false, false⟩ : Ce).r, .int .u8 (⟨32, coZ, c, false, false⟩ : Ce).c.r, .int .u8 (⟨32, coZ, c, false, false⟩ : Ce).c.g, .int .u8 (⟨32, coZ, c, false, false⟩ : Ce).c.b, .int .u8 (⟨32, coZ, c, false, false⟩ : Ce).c.a, .int .u8 (⟨32, coZ, c, false, false⟩ : Ce).b.r, .int .u8 (⟨32, coZ, c, false, false⟩ : Ce).b.g, .int .u8 (⟨32, coZ, c, false, false⟩ : Ce).b.b, .int .u8 (⟨32, coZ, c, false, false⟩ : Ce).b.a, .bool (⟨32, coZ, c, false, false⟩ : Ce).wd, .bool (⟨32, coZ, c, false, false⟩ : Ce).tl]) 34) → W.ownsRow (ob + 1) 34 11 u k (flatC (blkC c k)) ∧ ob + 1 ≤ W.heap.size ∧ LsC W (.slice (some ⟨wr.heap.size, 0, none⟩) 1 1) [⟨32, coZ, c, false, false⟩] ∧ (∀ v' w', OwC (ob + 1) w' v' (blkC c k ++ [⟨32, coZ, c, false, false⟩]) → W.grownBy w' u.ownBlock → w'.frozen? ⟨ob, 2, none⟩ = false ∧ w'.cell? ⟨ob, 2, none⟩ = some u ∧ BlW w a b c s0 s1 ob (k + 1) (w'.setCell ⟨ob, 2, none⟩ v'))) := fun W hW => by
        have hb : Below wr.heap.size wr W := by rw [hW]; exact (Below.refl _ wr).alloc (Nat.le_refl _) _
        have hob := hu.lt
        have ho2 : OwC (ob + 1) W u (blkC c k) := own_belowC ho hb
        have hn : Bk W wr.heap.size (#[.int .i32 (⟨32, coZ, c, false, false⟩ : Ce).r, .int .u8 (⟨32, coZ, c, false, false⟩ : Ce).c.r, .int .u8 (⟨32, coZ, c, false, false⟩ : Ce).c.g, .int .u8 (⟨32, coZ, c, false, false⟩ : Ce).c.b, .int .u8 (⟨32, coZ, c, false, false⟩ : Ce).c.a, .int .u8 (⟨32, coZ, c, false, false⟩ : Ce).b.r, .int .u8 (⟨32, coZ, c, false, false⟩ : Ce).b.g, .int .u8 (⟨32, coZ, c, false, false⟩ : Ce).b.b, .int .u8 (⟨32, coZ, c, false, false⟩ : Ce).b.a, .bool (⟨32, coZ, c, false, false⟩ : Ce).wd, .bool (⟨32, coZ, c, false, false⟩ : Ce).tl]) 34 := by rw [hW]; exact Bk.new _ _ _
        have hsz : ob + 1 ≤ W.heap.size := Nat.le_trans hob hb.size
        have ho3 : W.ownsRow (ob + 1) 34 11 u k (flatC (blkC c k)) := by
          have := ho2
          unfold OwC at this
          rw [blkC_len] at this
          exact this
        refine ⟨ho3, hsz, ⟨_, 1, rfl, Nat.le_refl _, fun _ => ⟨wr.heap.size, 0, rfl, hn.lt, fun i hi => ?_⟩⟩, fun v' w' h1 h2 => ?_⟩
        · obtain rfl : i = 0 := by simp at hi; omega
          exact bk_ceat hn
        · have hB : Below (ob + 1) wr w' := ((hb.mono hob).grown h2 hsz (fun g hg => (row_lt ho3 g hg).1))
          rw [← blkC_succ] at h1
          have hbk := low_bk hu hB (Nat.lt_succ_self _)
          exact ⟨hbk.frozen 2, by rw [hbk.cell]; rfl, HK.out.next hu hB h1⟩
      clear HK hu ho
      go_wp2_with (at_builtin; refine app_moreC rfl _ _ rfl i0 Tryz.underlying24 hi hz0 hz1 hz2 (ob + 1) u (blkC c k) k (blkC_len c k).symm rfl (HX.out _ rfl).1 (HX.out _ rfl).2.1 [⟨32, coZ, c, false, false⟩] (some ⟨wr.heap.size, 0, none⟩) 1 1 rfl rfl (HX.out _ rfl).2.2.1 (fun c h => by cases h) (by omega) ?_)
      intro v' w' H4
      obtain ⟨oa', cp', rfl, _, _⟩ := id H4.out.1.lsc
      obtain ⟨f1, f2, h3⟩ := (HX.out _ rfl).2.2.2 _ w' H4.out.1 H4.out.2
      have H5 : Hid (BlW w a b c s0 s1 ob (k + 1) (w'.setCell ⟨ob, 2, none⟩ (.slice oa' (blkC c k ++ [(⟨32, coZ, c, false, false⟩ : Ce)]).length cp'))) := h3
      rw [List.length_append, List.length_singleton] at H5
      clear HX H4 h3 x0 x1 x2 y0 y1 z0 z1 z2 z3
      go_wp2
      exact ⟨⟨k + 1, by omega, by go_num, H5⟩, by simp [intOf]; omega⟩
    · obtain rfl : k = n := by omega
      obtain ⟨oa, cp, rfl, _, _⟩ := id ho.lsc
      have HL : Hid (OwC (ob + 1) wr (.slice oa (blkC c k).length cp) (blkC c k)) := ho
      clear hu ho
      go_wp2_with (refine wpList_store_row rfl 26 (.tmp 4) (.tmp 30) rfl s1 #[.int .i64 a, .int .i64 b, .slice oa (blkC c k).length cp] rfl rfl 26 _ HK.out.rs scrG_size rfl (by simp [Value.oneCell']) ?_)
      obtain ⟨W3, hW3⟩ : ∃ W3, W3 = wr.setRow s1 #[.int .i64 a, .int .i64 b, .slice oa (blkC c k).length cp] := ⟨_, rfl⟩
      have H5 : Hid (Bk W3 s1 #[.int .i64 a, .int .i64 b, .slice oa (blkC c k).length cp] 26 ∧ Below w.heap.size w W3 ∧ LsC W3 (.slice oa (blkC c k).length cp) (blkC c k)) := by
        rw [hW3]
        obtain ⟨l1, l2, l3, l4⟩ := HK.out.lt
        have h5 : OwC (ob + 1) (wr.setRow s1 #[.int .i64 a, .int .i64 b, .slice oa (blkC c k).length cp]) (.slice oa (blkC c k).length cp) (blkC c k) := World.ownsRow.kept (row := some s1) HL.out ⟨rfl, rfl, rfl, by simp, fun k _ hk => setRow_other _ _ _ _ (fun e => hk (by simp [e]))⟩ (.inr (owc_lt HL.out (by omega)))
        exact ⟨setRow_heap wr _ _ _ 26 _ HK.out.rs, below_setRow HK.out.lo l4 _, h5.lsc⟩
      rw [← hW3]
      clear hW3 HK HL
      have hld : (loadVar 26 ⟨s1, 0, none⟩).run Tryz.prog W3 = .ok (.agg #[.int .i64 a, .int .i64 b, .slice oa (blkC c k).length cp]) W3 := run_loadVar_row W3 _ 26 26 _ _ _ H5.out.1 Tryz.underlying26 rfl scrG_size
      refine bodyPost_ret (v := .tuple #[.agg #[.int .i64 a, .int .i64 b, .slice oa (blkC c k).length cp], .int .i64 0]) ?_ rfl ⟨_, rfl, H5.out.2.2, H5.out.2.1⟩
      simp [results, Tryz.results12, asAddr, hld]

end Go.Proofs.YtcahdmfmcojaoaaGreatDoor

/-
  Package cells: Text of any screen.
-/
namespace Go.Proofs.YtcahdmfmcojaoaaGreatDoor
open Go.RowKit Go.Lib

set_option maxRecDepth 20000 in
set_option maxHeartbeats 8000000 in
theorem text_gen (a b : Nat) (l : List Ce) (oa : Option Addr) (c n : Nat) (w : World) (hv : LsC w (.slice oa n c) l) (hn : n = l.length) (hE : scE a b l = 0) (hb0 : 0 < b) (T : Tabs w)
    (HRa : Hid (∀ (y : Nat) W, y < b → Calls Tryz.prog 28 #[.agg #[.int .i64 (a : Nat), .int .i64 (b : Nat), .slice oa n c], .int .i64 y] W fun e w' => ∃ u, e = .returned u ∧ LsC w u (rowL a l y) ∧ Below W.heap.size W w')) :
    Calls Tryz.prog 9 #[.agg #[.int .i64 (a : Nat), .int .i64 (b : Nat), .slice oa n c]] w fun e w' => e = .returned (.tuple #[.string ⟨(txtB a l b).toArray⟩, .int .i64 0]) ∧ Below w.heap.size w w' := by
  have hs : szB a b = true ∧ (n : Int) = a * b ∧ okCs l = true := by
    unfold scE at hE
    split at hE
    · rename_i h; rw [hn]; exact h
    · cases hE
  obtain ⟨hs, hnm, hok⟩ := hs
  obtain ⟨s1, s2, s3, s4, s5⟩ := szB_iff.1 hs
  have hnb : n ≤ 262144 := by omega
  have hnat : n = a * b := by
    have : ((a * b : Nat) : Int) = (a : Int) * b := by simp
    omega
  have hra : ∀ (y : Nat), y < b → y * a + a ≤ n := fun y hy => by
    rw [hnat]
    calc y * a + a = (y + 1) * a := by rw [Nat.succ_mul]
      _ ≤ b * a := Nat.mul_le_mul_right a hy
      _ = a * b := Nat.mul_comm _ _
  have HC : Hid (∀ W, Below w.heap.size w W → Calls Tryz.prog 23 #[.agg #[.int .i64 (a : Nat), .int .i64 (b : Nat), .slice oa n c]] W fun e w' => e = .returned (.int .i64 0) ∧ Below W.heap.size W w') := fun W h => by
    have := checkC_any a b l _ W (hv.below h) (by omega) (T.below h)
    rw [hE] at this
    exact this
  have HWr : Hid (∀ (u : Value) (bb : Nat) (y : Nat) W, y < b → LsC w u (rowL a l y) → IsBd 74 [] w.heap.size bb (Lib.byteCells (txtB a l y)) W → Below w.heap.size w W → Calls Tryz.prog 27 #[.pointer (some ⟨bb, 0, none⟩), u] W fun e w' => e = .returned (.tuple #[]) ∧ WrW w bb (txtB a l y) (rowL a l y) (rowL a l y).length W w') := fun u bb y W hy hu hI hB => by
    refine wrow_any w bb _ _ _ W hu (by have := rowL_le a l y; omega) (fun q hq => okr_of hok q (List.mem_of_mem_drop (List.mem_of_mem_take hq))) hB hI ?_
    have h1 := txtB_len a l y
    have h2 := hra y hy
    have h3 : y * (4 * a + 1) = 4 * (y * a) + y := by rw [Nat.mul_add, Nat.mul_one, Nat.mul_left_comm]
    omega
  have HLt : Hid (∀ y : Nat, y < b → (Lib.byteCells (txtB a l y ++ rowB (rowL a l y) (rowL a l y).length)).length + 1 ≤ 140737488355328) := fun y hy => by
    have h1 := txtB_len a l y
    have h2 := hra y hy
    have h3 : y * (4 * a + 1) = 4 * (y * a) + y := by rw [Nat.mul_add, Nat.mul_one, Nat.mul_left_comm]
    have h4 := rowB_len (rowL a l y) (rowL a l y).length
    have h5 := rowL_le a l y
    rw [Lib.byteCells_length, List.length_append]
    omega
  have HNe : Hid (txtB a l b ≠ []) := by
    obtain ⟨b', rfl⟩ : ∃ b', b = b' + 1 := ⟨b - 1, by omega⟩
    unfold Hid txtB
    simp
  have HB0 : Hid (∀ W, W = w.alloc (.cells #[.int .i64 (a : Nat), .int .i64 (b : Nat), .slice oa n c] 26) → Bk W w.heap.size #[.int .i64 (a : Nat), .int .i64 (b : Nat), .slice oa n c] 26 ∧ Below w.heap.size w W) := fun W hW => by
    subst hW
    exact ⟨Bk.new w _ _, (Below.refl _ w).alloc (Nat.le_refl _) _⟩
  clear hv hn hE T hs hnm hok hra hnat s1 s2 s3 s5 hnb
  go_enter Tryz.func9, Tryz.ntmps9
  go_wp2_with fail
  obtain ⟨W1, hW1⟩ : ∃ W1, W1 = w.alloc (.cells #[.int .i64 (a : Nat), .int .i64 (b : Nat), .slice oa n c] 26) := ⟨_, rfl⟩
  obtain ⟨sb, hsb⟩ : ∃ sb, sb = w.heap.size := ⟨_, rfl⟩
  have H1 : Hid (Bk W1 sb #[.int .i64 (a : Nat), .int .i64 (b : Nat), .slice oa n c] 26 ∧ Below w.heap.size w W1) := by rw [hsb]; exact HB0.out W1 hW1
  rw [← hW1, ← hsb]
  clear hW1 HB0 hsb
  refine (HC.out _ H1.out.2).mono ?_
  rintro e W2 ⟨rfl, hb2⟩
  have H2 : Hid (∀ W, W = W2.alloc (.cells #[.pointer none, .slice none 0 0] 74) → TxW w W2.heap.size sb #[.int .i64 (a : Nat), .int .i64 (b : Nat), .slice oa n c] a l 0 W ∧ sb < W2.heap.size) := fun W hW => by
    have k1 := H1.out.1.below hb2
    have k2 := H1.out.2.trans (hb2.mono H1.out.2.size)
    subst hW
    exact ⟨⟨.inl ⟨k2.size, _, Bk.new W2 _ _, World.ownsRowF_nil _ _ _ _, by simp [Value.ownBlock]⟩, k1.below ((Below.refl _ _).alloc (Nat.le_refl _) _), k2.alloc k2.size _⟩, k1.lt⟩
  obtain ⟨x0, x1, x2⟩ := Bk.at3S (H2.out _ rfl).1.bx
  clear H1 hb2 HC
  go_wp2_with fail
  obtain ⟨W3, hW3⟩ : ∃ W3, W3 = W2.alloc (.cells #[.pointer none, .slice none 0 0] 74) := ⟨_, rfl⟩
  obtain ⟨bb, hbb⟩ : ∃ bb, bb = W2.heap.size := ⟨_, rfl⟩
  have H3 : Hid (TxW w bb sb #[.int .i64 (a : Nat), .int .i64 (b : Nat), .slice oa n c] a l 0 W3 ∧ sb < bb) := by rw [hbb]; exact H2.out W3 hW3
  rw [← hW3, ← hbb]
  clear hW3 hbb H2 x0 x1 x2
  go_loopw [15] (fun i wr => ∃ k : Nat, k ≤ b ∧ i = .int .i64 k ∧ Hid (TxW w bb sb #[.int .i64 (a : Nat), .int .i64 (b : Nat), .slice oa n c] a l k wr)) (fun i _ => b - (RowKit.intOf i).toNat)
  case atStart => exact ⟨0, Nat.zero_le _, rfl, H3.out.1⟩
  case round =>
    obtain ⟨k, hk, rfl, HK⟩ := hrel
    by_cases hlt : k < b
    · have ik : (k : Int) < b := by omega
      obtain ⟨x0, x1, x2⟩ := Bk.at3S HK.out.bx
      go_wp2_with fail
      refine (HRa.out k _ hlt).mono ?_
      rintro e W4 ⟨u, rfl, hu, hb4⟩
      have HU : Hid (LsC w u (rowL a l k)) := hu
      clear hu
      have H4 : Hid (TxW w bb sb #[.int .i64 (a : Nat), .int .i64 (b : Nat), .slice oa n c] a l k W4) := ⟨HK.out.bd.below hb4, HK.out.bx.below hb4, HK.out.lo.trans (hb4.mono HK.out.lo.size)⟩
      clear hb4 HK x0 x1 x2
      go_wp2_with fail
      refine (HWr.out u bb k _ hlt HU.out H4.out.bd H4.out.lo).mono ?_
      rintro e W5 ⟨rfl, h5⟩
      have H5 : Hid (IsBd 74 [] w.heap.size bb (Lib.byteCells (txtB a l k ++ rowB (rowL a l k) (rowL a l k).length)) W5 ∧ Bk W5 sb #[.int .i64 (a : Nat), .int .i64 (b : Nat), .slice oa n c] 26 ∧ Below w.heap.size w W5) := ⟨h5.bd, h5.kp.cell H4.out.bx (by have := H3.out.2; omega) (by decide), h5.lo⟩
      clear h5 H4
      go_wp2_with fail
      refine (dWriteByte_any 74 [] w.heap.size bb _ 10 _ bld_tyh H5.out.1 (HLt.out k hlt) H5.out.2.2.size).mono ?_
      rintro e W6 ⟨⟨u, rfl⟩, h6, k6⟩
      have H6 : Hid (TxW w bb sb #[.int .i64 (a : Nat), .int .i64 (b : Nat), .slice oa n c] a l (k + 1) W6) := by
        refine ⟨.inr ?_, k6.cell H5.out.2.1 (by have := H3.out.2; omega) (by decide), H5.out.2.2.trans k6.bw⟩
        rw [txtB, show Lib.byteCells (txtB a l k ++ rowB (rowL a l k) (rowL a l k).length ++ [10]) = Lib.byteCells (txtB a l k ++ rowB (rowL a l k) (rowL a l k).length) ++ [.int .u8 10] by simp [Lib.byteCells]]
        exact h6
      clear h6 k6 H5
      go_wp2
      exact ⟨⟨k + 1, by omega, by go_num, H6⟩, by simp [RowKit.intOf]; omega⟩
    · obtain rfl : k = b := by omega
      go_wp2_with fail
      refine (dString_any 74 [] w.heap.size bb (txtB a l k) _ HK.out.bd HNe.out).mono ?_
      rintro e W4 ⟨rfl, hb4⟩
      have HF : Hid (Below w.heap.size w W4) := HK.out.lo.trans hb4
      clear hb4 HK
      go_wp2
      go_ret2
      exact ⟨rfl, HF.out⟩

theorem row_zero (b y : Int) (oa : Option Addr) (cap : Nat) (w : World) (hc : oa = none → cap = 0) :
    Calls Tryz.prog 28 #[.agg #[.int .i64 (0 : Nat), .int .i64 b, .slice oa 0 cap], .int .i64 y] w fun e w' => ∃ u, e = .returned u ∧ LsC w u [] ∧ Below w.heap.size w w' := by
  have HL : Hid (∀ c, Below w.heap.size w (w.alloc c)) := fun c => (Below.refl _ w).alloc (Nat.le_refl _) _
  have e1 : y * ((0 : Nat) : Int) = 0 := by simp
  have e2 : ∀ z : Int, z * ((0 : Nat) : Int) = 0 := fun z => by simp
  have e3 : ∀ z : Int, z * (0 : Int) = 0 := fun z => by simp
  cases oa with
  | none =>
    obtain rfl := hc rfl
    clear hc
    go_enter Tryz.func28, Tryz.ntmps28
    go_wp2
    go_ret
    exact ⟨_, rfl, lsc_nil _, HL.out _⟩
  | some ad =>
    clear hc
    go_enter Tryz.func28, Tryz.ntmps28
    go_wp2
    go_ret
    exact ⟨_, rfl, ⟨_, _, rfl, Nat.zero_le _, fun h => absurd h (Nat.lt_irrefl 0)⟩, HL.out _⟩

set_option maxRecDepth 20000 in
set_option maxHeartbeats 2000000 in
theorem text_bad (a b : Int) (l : List Ce) (v : Value) (w : World) (hv : LsC w v l) (hl : l.length ≤ 9223372036854775806) (hE : scE a b l = 150) (T : Tabs w) :
    Calls Tryz.prog 9 #[.agg #[.int .i64 a, .int .i64 b, v]] w fun e w' => e = .returned (.tuple #[.string ⟨#[]⟩, .int .i64 150]) ∧ Below w.heap.size w w' := by
  obtain ⟨oa, cap, rfl, hcap, -⟩ := id hv
  have HC : Hid (∀ W, Below w.heap.size w W → Calls Tryz.prog 23 #[.agg #[.int .i64 a, .int .i64 b, .slice oa l.length cap]] W fun e w' => e = .returned (.int .i64 150) ∧ Below W.heap.size W w') := fun W h => by rw [← hE]; exact checkC_any a b l _ W (hv.below h) hl (T.below h)
  have HL : Hid (∀ c, Below w.heap.size w (w.alloc c)) := fun c => (Below.refl _ w).alloc (Nat.le_refl _) _
  clear hv T hE
  go_enter Tryz.func9, Tryz.ntmps9
  go_wp2_with fail
  refine (HC.out _ (HL.out _)).mono ?_
  rintro e w2 ⟨rfl, hb⟩
  have H2 : Hid (Below w.heap.size w w2) := (HL.out _).trans (hb.mono (HL.out _).size)
  clear hb HL HC
  go_wp2
  go_ret2
  exact ⟨rfl, H2.out⟩

theorem str_nil (B b : Nat) (w : World) (hbk : Bk w b #[.pointer none, .slice none 0 0] 74) :
    Calls Tryz.prog 30 #[.pointer (some ⟨b, 0, none⟩)] w fun e w' => e = .returned (.string ⟨#[]⟩) ∧ Below B w w' := by
  have c1 : w.drew.cell? ⟨b, 1, none⟩ = some (.slice none 0 0) := by
    have : Bk w.drew b #[.pointer none, .slice none 0 0] 74 := hbk
    rw [this.cell]; rfl
  have hSD : (Builtin.unsafeSliceData_ #[72] 118 #[.slice none 0 0]).run Tryz.prog w.drew = .ok (.pointer none) w.drew := Lib.run_unsafeSliceData_nil _ _ _ _ _
  have hUS : (Builtin.unsafeString_ #[118, 3] 9 #[.pointer none, .int .i64 0]).run Tryz.prog w.drew = .ok (.string ⟨#[]⟩) w.drew := Lib.run_unsafeString_none _ _ _ _ _
  have HB : Hid (Below B w w.drew) := Below.drew (Below.refl B w)
  clear hbk
  have mixed : Tryz.prog.follows .mixedOrders = true := by kernel_rfl
  go_enter Tryz.func30, Tryz.ntmps30
  go_wp2
  go_region_o
  all_goals (go_wp2; go_ret; exact ⟨rfl, HB.out⟩)

set_option maxRecDepth 20000 in
set_option maxHeartbeats 2000000 in
theorem text_none (a : Nat) (l : List Ce) (v : Value) (w : World) (hv : LsC w v l) (hl : l.length ≤ 9223372036854775806) (hE : scE a 0 l = 0) (T : Tabs w) :
    Calls Tryz.prog 9 #[.agg #[.int .i64 a, .int .i64 0, v]] w fun e w' => e = .returned (.tuple #[.string ⟨#[]⟩, .int .i64 0]) ∧ Below w.heap.size w w' := by
  obtain ⟨oa, cap, rfl, hcap, -⟩ := id hv
  have HC : Hid (∀ W, Below w.heap.size w W → Calls Tryz.prog 23 #[.agg #[.int .i64 a, .int .i64 0, .slice oa l.length cap]] W fun e w' => e = .returned (.int .i64 0) ∧ Below W.heap.size W w') := fun W h => by
    have q := checkC_any (a : Int) 0 l _ W (hv.below h) hl (T.below h)
    rw [hE] at q
    exact q
  have HB0 : Hid (∀ W, W = w.alloc (.cells #[.int .i64 a, .int .i64 0, .slice oa l.length cap] 26) → Bk W w.heap.size #[.int .i64 a, .int .i64 0, .slice oa l.length cap] 26 ∧ Below w.heap.size w W) := fun W hW => by
    subst hW
    exact ⟨Bk.new w _ _, (Below.refl _ w).alloc (Nat.le_refl _) _⟩
  clear hv T hE
  go_enter Tryz.func9, Tryz.ntmps9
  go_wp2_with fail
  obtain ⟨W1, hW1⟩ : ∃ W1, W1 = w.alloc (.cells #[.int .i64 a, .int .i64 0, .slice oa l.length cap] 26) := ⟨_, rfl⟩
  have H1 := show Hid _ from HB0.out W1 hW1
  rw [← hW1]
  clear hW1 HB0
  refine (HC.out _ H1.out.2).mono ?_
  rintro e w2 ⟨rfl, hb⟩
  have H2 : Hid (∀ W, W = w2.alloc (.cells #[.pointer none, .slice none 0 0] 74) → Bk W w2.heap.size #[.pointer none, .slice none 0 0] 74 ∧ Bk W w.heap.size #[.int .i64 a, .int .i64 0, .slice oa l.length cap] 26 ∧ Below w.heap.size w W) := fun W hW => by
    have k2 := H1.out.2.trans (hb.mono H1.out.2.size)
    rw [hW]
    exact ⟨Bk.new _ _ _, (H1.out.1.below hb).below ((Below.refl _ _).alloc (Nat.le_refl _) _), k2.alloc k2.size _⟩
  have x0 := (H2.out _ rfl).2.1.cell 0
  have x1 := (H2.out _ rfl).2.1.cell 1
  simp only [List.getElem?_toArray, List.getElem?_cons_zero, List.getElem?_cons_succ] at x0 x1
  clear hb H1 HC
  go_wp2_with fail
  obtain ⟨W3, hW3⟩ : ∃ W3, W3 = w2.alloc (.cells #[.pointer none, .slice none 0 0] 74) := ⟨_, rfl⟩
  have H3 := show Hid _ from H2.out W3 hW3
  rw [← hW3]
  clear hW3 H2 x0 x1
  go_loopw [15] (fun i wr => i = .int .i64 0 ∧ Hid (wr = W3)) (fun _ _ => 0)
  case atStart => exact ⟨rfl, (rfl : Hid _)⟩
  case round =>
    obtain ⟨rfl, HW⟩ := hrel
    obtain rfl := HW.out
    go_wp2_with fail
    refine (str_nil w.heap.size _ _ H3.out.1).mono ?_
    rintro e W4 ⟨rfl, hb4⟩
    have HF : Hid (Below w.heap.size w W4) := H3.out.2.2.trans hb4
    clear hb4
    go_wp2
    go_ret2
    exact ⟨rfl, HF.out⟩
theorem text_all (a b : Nat) (l : List Ce) (v : Value) (w : World) (hv : LsC w v l) (nv : NoNil v) (hl : l.length ≤ 9223372036854775806) (hE : scE a b l = 0) (T : Tabs w) :
    Calls Tryz.prog 9 #[.agg #[.int .i64 a, .int .i64 b, v]] w fun e w' => e = .returned (.tuple #[.string ⟨(txtB a l b).toArray⟩, .int .i64 0]) ∧ Below w.heap.size w w' := by
  obtain ⟨oa, cap, rfl, hcap, hg⟩ := id hv
  rcases Nat.eq_zero_or_pos b with rfl | hb
  · exact text_none a l _ w hv hl hE T
  rcases Nat.eq_zero_or_pos a with rfl | ha
  · have hl0 : l = [] := by
      unfold scE at hE
      split at hE
      · next h => 
        have := h.2.1
        apply List.length_eq_zero_iff.1
        omega
      · cases hE
    subst hl0
    refine text_gen 0 b [] oa cap 0 w hv rfl hE hb T fun y W _ => ?_
    have hr : rowL 0 [] y = [] := by simp [rowL]
    rw [hr]
    refine (row_zero b y oa cap W (fun e => by subst e; exact nv cap rfl)).mono ?_
    rintro e w' ⟨u, rfl, hu, hb'⟩
    refine ⟨u, rfl, ?_, hb'⟩
    obtain ⟨oa', c', e', h1, _⟩ := hu
    exact ⟨oa', c', e', h1, fun h => absurd h (Nat.lt_irrefl 0)⟩
  · have hs : szB a b = true ∧ (l.length : Int) = a * b := by
      unfold scE at hE
      split at hE
      · next h => exact ⟨h.1, h.2.1⟩
      · cases hE
    have hnat : l.length = a * b := by
      have : ((a * b : Nat) : Int) = (a : Int) * b := by simp
      omega
    have hp : 0 < l.length := by rw [hnat]; exact Nat.mul_pos ha hb
    obtain ⟨g, o, rfl, hgl, hat⟩ := hg hp
    refine text_gen a b l _ cap l.length w hv rfl hE hb T fun y W hy => ?_
    have hra : y * a + a ≤ l.length := by
      rw [hnat]
      calc y * a + a = (y + 1) * a := by rw [Nat.succ_mul]
        _ ≤ b * a := Nat.mul_le_mul_right a hy
        _ = a * b := Nat.mul_comm _ _
    refine (rowC_any a b y g o l.length cap W hs.1 hs.2 hcap (by omega) (by omega) (by omega) (y * a) (by simp) a rfl).mono ?_
    rintro e w' ⟨rfl, hb'⟩
    refine ⟨_, rfl, ?_, hb'⟩
    have k1 := lsC_sub (k := y * a) (m := y * a + a) hv rfl (by omega) hra rfl
    rw [Nat.add_sub_cancel_left] at k1
    exact k1

end Go.Proofs.YtcahdmfmcojaoaaGreatDoor
