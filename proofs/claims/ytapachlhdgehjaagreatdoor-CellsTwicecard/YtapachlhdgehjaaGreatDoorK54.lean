/-
  Texts of this claim, one behind the other: what each is about stands ahead of it.
-/
import Derived.Test.YtapachlhdgehjaaGreatDoorK53
import Derived.Laws.Rows
import Derived.Test.YtapachlhdgehjaaGreatDoorK7
/-
  Package cells: sequenceOf, of a text that begins with a sequence.
-/
namespace Go.Proofs.YtapachlhdgehjaaGreatDoor
open Go.RowKit

def rsA (q : ByteArray) (p : Nat) : ByteArray := q.extract p q.size
def sqG (q : ByteArray) : Nat → List Int → Nat → Option (List Int × Nat × Nat)
  | 0, _, _ => none
  | f + 1, ns, p =>
    if (nmA (rsA q p)).2 = 0 ∨ p + (nmA (rsA q p)).2 = q.size then none
    else if bA q (p + (nmA (rsA q p)).2) = 59 then sqG q f (ns ++ [(nmA (rsA q p)).1]) (p + (nmA (rsA q p)).2 + 1)
    else some (ns ++ [(nmA (rsA q p)).1], bA q (p + (nmA (rsA q p)).2), p + (nmA (rsA q p)).2 + 1)
def sqA (q : ByteArray) : Option (List Int × Nat × Nat) := if q.size < 2 ∨ bA q 0 ≠ 27 ∨ bA q 1 ≠ 91 then none else sqG q 6 [] 2
theorem nmF_le (q : ByteArray) : ∀ (f d : Nat) (n : Int), d ≤ q.size → (nmF q f d n).2 ≤ q.size
  | 0, d, n, h => h
  | f + 1, d, n, h => by
    unfold nmF
    split
    · split
      · exact Nat.zero_le _
      · exact nmF_le q f (d + 1) _ (by omega)
    · exact h
theorem nmA_le (q : ByteArray) (p : Nat) (h : p ≤ q.size) : p + (nmA (rsA q p)).2 ≤ q.size := by
  have h1 := nmF_le (rsA q p) ((rsA q p).size + 1) 0 0 (Nat.zero_le _)
  have h2 : (rsA q p).size = q.size - p := by simp [rsA]
  unfold nmA
  omega
def six (ns : List Int) (k : Nat) : Value := .int .i64 (ns.getD k 0)
abbrev sqC (ns : List Int) (c : Nat) (q p : Nat) : Array Value := #[six ns 0, six ns 1, six ns 2, six ns 3, six ns 4, six ns 5, .int .i64 (c : Nat), .int .u8 (q : Nat), .int .i64 (p : Nat)]
theorem seq_size : (Tryz.prog.info? 193).map (·.size) = some 9 := by kernel_rfl

theorem getD_snoc_lt (ns : List Int) (n : Int) (i : Nat) (h : i ≠ ns.length) : (ns ++ [n]).getD i 0 = ns.getD i 0 := by
  rcases Nat.lt_or_ge i ns.length with h1 | h1
  · simp [List.getD, List.getElem?_append_left h1]
  · have h2 : ns.length < i := by omega
    simp [List.getD, List.getElem?_append_right h1, show i - ns.length ≠ 0 by omega, List.getElem?_eq_none (show ns.length ≤ i from h1)]
theorem getD_snoc_eq (ns : List Int) (n : Int) : (ns ++ [n]).getD ns.length 0 = n := by simp [List.getD]
theorem sqC_put (ns : List Int) (n : Int) (c q p : Nat) (h : ns.length < 6) : (sqC ns c q p).setIfInBounds ns.length (.int .i64 n) = sqC (ns ++ [n]) c q p := by
  obtain ⟨k, hk⟩ : ∃ k, k = ns.length := ⟨_, rfl⟩
  have e : ∀ i, i ≠ k → six (ns ++ [n]) i = six ns i := fun i hi => by unfold six; rw [getD_snoc_lt ns n i (by rw [← hk]; exact hi)]
  have e2 : six (ns ++ [n]) k = .int .i64 n := by unfold six; rw [hk, getD_snoc_eq]
  rw [← hk] at h ⊢
  rcases (show k = 0 ∨ k = 1 ∨ k = 2 ∨ k = 3 ∨ k = 4 ∨ k = 5 by omega) with rfl | rfl | rfl | rfl | rfl | rfl
  · rw [sqC, sqC, e2, e 1 (by decide), e 2 (by decide), e 3 (by decide), e 4 (by decide), e 5 (by decide)]; rfl
  · rw [sqC, sqC, e2, e 0 (by decide), e 2 (by decide), e 3 (by decide), e 4 (by decide), e 5 (by decide)]; rfl
  · rw [sqC, sqC, e2, e 0 (by decide), e 1 (by decide), e 3 (by decide), e 4 (by decide), e 5 (by decide)]; rfl
  · rw [sqC, sqC, e2, e 0 (by decide), e 1 (by decide), e 2 (by decide), e 4 (by decide), e 5 (by decide)]; rfl
  · rw [sqC, sqC, e2, e 0 (by decide), e 1 (by decide), e 2 (by decide), e 3 (by decide), e 5 (by decide)]; rfl
  · rw [sqC, sqC, e2, e 0 (by decide), e 1 (by decide), e 2 (by decide), e 3 (by decide), e 4 (by decide)]; rfl

def cntQ (b : Nat) (w : World) : Nat := match w.cell? ⟨b, 6, none⟩ with | some v => (RowKit.intOf v).toNat | none => 0

structure SrW (w : World) (rb qb : Nat) (ns : List Int) (lt p : Nat) (wr : World) : Prop where
  q : Bk wr qb (sqC ns ns.length lt p) 193
  r : Bk wr rb (sqC [] 0 0 0) 193
  lo : Below w.heap.size w wr

theorem sr_put {wr : World} {qb : Nat} {ns : List Int} {k lt p : Nat} {T : TypeId} (h : Bk wr qb (sqC ns k lt p) T) (hk : k = ns.length) (h6 : k < 6) (a n : Int) (c P : Nat) (k1 c1 b1 : Int) (hk1 : k1 = ((k + 1 : Nat) : Int)) (hc1 : c1 = (c : Nat)) (hb1 : b1 = (P : Nat)) :
    Bk (((((wr.setCell ⟨qb, 8, none⟩ (.int .i64 a)).setCell ⟨qb, k, none⟩ (.int .i64 n)).setCell ⟨qb, 6, none⟩ (.int .i64 k1)).setCell ⟨qb, 7, none⟩ (.int .u8 c1)).setCell ⟨qb, 8, none⟩ (.int .i64 b1)) qb (sqC (ns ++ [n]) (k + 1) c P) T := by
  subst hk1 hc1 hb1
  have h1 : Bk (wr.setCell ⟨qb, 8, none⟩ (.int .i64 a)) qb #[six ns 0, six ns 1, six ns 2, six ns 3, six ns 4, six ns 5, .int .i64 (k : Nat), .int .u8 (lt : Nat), .int .i64 a] T := h.put 8 (.int .i64 a)
  have h2 := h1.put k (.int .i64 n)
  have e : (#[six ns 0, six ns 1, six ns 2, six ns 3, six ns 4, six ns 5, .int .i64 (k : Nat), .int .u8 (lt : Nat), .int .i64 a] : Array Value).setIfInBounds k (.int .i64 n) = #[six (ns ++ [n]) 0, six (ns ++ [n]) 1, six (ns ++ [n]) 2, six (ns ++ [n]) 3, six (ns ++ [n]) 4, six (ns ++ [n]) 5, .int .i64 (k : Nat), .int .u8 (lt : Nat), .int .i64 a] := by
    have e : ∀ i, i ≠ k → six (ns ++ [n]) i = six ns i := fun i hi => by unfold six; rw [getD_snoc_lt ns n i (by rw [← hk]; exact hi)]
    have e2 : six (ns ++ [n]) k = .int .i64 n := by unfold six; rw [hk, getD_snoc_eq]
    clear hk h1 h2 h
    rcases (show k = 0 ∨ k = 1 ∨ k = 2 ∨ k = 3 ∨ k = 4 ∨ k = 5 by omega) with rfl | rfl | rfl | rfl | rfl | rfl
    · rw [e2, e 1 (by decide), e 2 (by decide), e 3 (by decide), e 4 (by decide), e 5 (by decide)]; rfl
    · rw [e2, e 0 (by decide), e 2 (by decide), e 3 (by decide), e 4 (by decide), e 5 (by decide)]; rfl
    · rw [e2, e 0 (by decide), e 1 (by decide), e 3 (by decide), e 4 (by decide), e 5 (by decide)]; rfl
    · rw [e2, e 0 (by decide), e 1 (by decide), e 2 (by decide), e 4 (by decide), e 5 (by decide)]; rfl
    · rw [e2, e 0 (by decide), e 1 (by decide), e 2 (by decide), e 3 (by decide), e 5 (by decide)]; rfl
    · rw [e2, e 0 (by decide), e 1 (by decide), e 2 (by decide), e 3 (by decide), e 4 (by decide)]; rfl
  rw [e] at h2
  exact ((h2.put 6 _).put 7 _).put 8 _
theorem below5 {B : Nat} {w wr : World} (h : Below B w wr) {qb : Nat} (hq : B ≤ qb) (o1 o2 o3 o4 o5 : Nat) (v1 v2 v3 v4 v5 : Value) : Below B w (((((wr.setCell ⟨qb, o1, none⟩ v1).setCell ⟨qb, o2, none⟩ v2).setCell ⟨qb, o3, none⟩ v3).setCell ⟨qb, o4, none⟩ v4).setCell ⟨qb, o5, none⟩ v5) :=
  ((((h.setCell (p := ⟨qb, o1, none⟩) hq v1).setCell (p := ⟨qb, o2, none⟩) hq v2).setCell (p := ⟨qb, o3, none⟩) hq v3).setCell (p := ⟨qb, o4, none⟩) hq v4).setCell (p := ⟨qb, o5, none⟩) hq v5
theorem other5 {wr : World} {rb qb : Nat} {vs : Array Value} {T : TypeId} (h : Bk wr rb vs T) (hne : rb ≠ qb) (o1 o2 o3 o4 o5 : Nat) (v1 v2 v3 v4 v5 : Value) : Bk (((((wr.setCell ⟨qb, o1, none⟩ v1).setCell ⟨qb, o2, none⟩ v2).setCell ⟨qb, o3, none⟩ v3).setCell ⟨qb, o4, none⟩ v4).setCell ⟨qb, o5, none⟩ v5) rb vs T :=
  ((((h.other ⟨qb, o1, none⟩ v1 (fun e => hne e.symm)).other ⟨qb, o2, none⟩ v2 (fun e => hne e.symm)).other ⟨qb, o3, none⟩ v3 (fun e => hne e.symm)).other ⟨qb, o4, none⟩ v4 (fun e => hne e.symm)).other ⟨qb, o5, none⟩ v5 (fun e => hne e.symm)

set_option maxRecDepth 20000 in
set_option maxHeartbeats 8000000 in
theorem seqOf_ok (q : ByteArray) (ns0 : List Int) (l0 p0 : Nat) (w : World) (hq : q.size ≤ 2000000) (h : sqA q = some (ns0, l0, p0)) (hcnt : ns0.length = 2 ∨ ns0.length = 6) :
    Calls Tryz.prog 118 #[.string q] w fun e w' => e = .returned (.tuple #[.agg (sqC ns0 ns0.length l0 p0), .bool true]) ∧ Below w.heap.size w w' := by
  have hs2 : 2 ≤ q.size ∧ bA q 0 = 27 ∧ bA q 1 = 91 ∧ sqG q 6 [] 2 = some (ns0, l0, p0) := by
    unfold sqA at h
    split at h
    · cases h
    · rename_i hn
      refine ⟨by omega, by omega, by omega, h⟩
  obtain ⟨hs, b0, b1, hG⟩ := hs2
  have HG : Hid (sqG q 6 [] 2 = some (ns0, l0, p0)) := hG
  have HCnt : Hid (ns0.length = 2 ∨ ns0.length = 6) := hcnt
  clear hcnt
  have k0 : ((q[0]'(by omega)).toNat : Int) = 27 := by rw [← bA_at (by omega), b0]; rfl
  have k1 : ((q[1]'(by omega)).toNat : Int) = 91 := by rw [← bA_at (by omega), b1]; rfl
  have hlt2 : decide ((q.size : Int) < 2) = false := by simp; omega
  have i0 : (0 : Int) < q.size := by omega
  have i1 : (1 : Int) < q.size := by omega
  have H0 : Hid (∀ W, W = (w.alloc (.cells (sqC [] 0 0 0) 193)).alloc (.cells (sqC [] 0 0 2) 193) → SrW w w.heap.size (w.heap.size + 1) [] 0 2 W) := fun W hW => by
    have a1 := Bk.new (w.alloc (.cells (sqC [] 0 0 0) 193)) (sqC [] 0 0 2) 193
    simp only [World.size_alloc] at a1
    subst hW
    exact ⟨a1, (Bk.new w _ _).below ((Below.refl _ _).alloc (Nat.le_refl _) _), ((Below.refl _ w).alloc (Nat.le_refl _) _).alloc (by simp) _⟩
  clear h b0 b1 hG
  go_enter Tryz.func118, Tryz.ntmps118
  go_wp2_with fail
  obtain ⟨W1, hW1⟩ : ∃ W1, W1 = (w.alloc (.cells (sqC [] 0 0 0) 193)).alloc (.cells (sqC [] 0 0 2) 193) := ⟨_, rfl⟩
  obtain ⟨rb, hrb⟩ : ∃ rb, rb = w.heap.size := ⟨_, rfl⟩
  have H1 : Hid (SrW w rb (rb + 1) [] 0 2 W1) := by rw [hrb]; exact H0.out W1 hW1
  rw [show (w.alloc (.cells #[.int .i64 0, .int .i64 0, .int .i64 0, .int .i64 0, .int .i64 0, .int .i64 0, .int .i64 0, .int .u8 0, .int .i64 0] 193)).alloc (.cells #[.int .i64 0, .int .i64 0, .int .i64 0, .int .i64 0, .int .i64 0, .int .i64 0, .int .i64 0, .int .u8 0, .int .i64 2] 193) = W1 from hW1.symm, ← hrb]
  have HRb : Hid (w.heap.size ≤ rb) := by rw [hrb]; exact Nat.le_refl _
  clear hW1 hrb H0 k0 k1 hlt2 i0 i1
  obtain ⟨qb, hqb⟩ : ∃ qb, qb = rb + 1 := ⟨_, rfl⟩
  rw [← hqb] at H1
  rw [← hqb]
  have HQb : Hid (rb < qb) := by rw [hqb]; exact Nat.lt_succ_self _
  clear hqb
  go_loopw [] (fun wr => ∃ (ns : List Int) (lt p : Nat), ns.length < 6 ∧ p ≤ q.size ∧ Hid (SrW w rb qb ns lt p wr ∧ sqG q (6 - ns.length) ns p = some (ns0, l0, p0))) (fun wr => 6 - cntQ qb wr)
  case atStart => exact ⟨[], 0, 2, by decide, hs, H1.out, HG.out⟩
  case round =>
    obtain ⟨ns, lt, p, hk, hp, HK⟩ := hrel
    clear H1 HG
    obtain ⟨k, hkk⟩ : ∃ k, k = ns.length := ⟨_, rfl⟩
    have HKk : Hid (k = ns.length) := hkk
    have HCn : Hid (cntQ qb wr = k) := by
      unfold Hid cntQ
      rw [show wr.cell? ⟨qb, 6, none⟩ = some (.int .i64 (ns.length : Nat)) from HK.out.1.q.cell 6, hkk]
      simp [RowKit.intOf]
    have c6 : wr.cell? ⟨qb, 6, none⟩ = some (.int .i64 (k : Nat)) := by rw [hkk]; exact HK.out.1.q.cell 6
    have c7 : wr.cell? ⟨qb, 7, none⟩ = some (.int .u8 (lt : Nat)) := HK.out.1.q.cell 7
    have c8 : wr.cell? ⟨qb, 8, none⟩ = some (.int .i64 (p : Nat)) := HK.out.1.q.cell 8
    have f6 : wr.frozen? ⟨qb, 6, none⟩ = false := HK.out.1.q.frozen 6
    have f7 : wr.frozen? ⟨qb, 7, none⟩ = false := HK.out.1.q.frozen 7
    have f8 : wr.frozen? ⟨qb, 8, none⟩ = false := HK.out.1.q.frozen 8
    have fk : wr.frozen? ⟨qb, k, none⟩ = false := HK.out.1.q.frozen k
    rw [← hkk] at hk
    obtain ⟨old, ck⟩ : ∃ old, wr.cell? ⟨qb, k, none⟩ = some (.int .i64 old) := by
      rcases (show k = 0 ∨ k = 1 ∨ k = 2 ∨ k = 3 ∨ k = 4 ∨ k = 5 by omega) with h | h | h | h | h | h <;> rw [h]
      · exact ⟨_, HK.out.1.q.cell 0⟩
      · exact ⟨_, HK.out.1.q.cell 1⟩
      · exact ⟨_, HK.out.1.q.cell 2⟩
      · exact ⟨_, HK.out.1.q.cell 3⟩
      · exact ⟨_, HK.out.1.q.cell 4⟩
      · exact ⟨_, HK.out.1.q.cell 5⟩
    have hkI : (k : Int) < 6 := by omega
    have hk6 : ¬ k = 6 := by omega
    have hk7 : ¬ k = 7 := by omega
    have hk8 : ¬ k = 8 := by omega
    have hk6' : ¬ 6 = k := by omega
    have hk7' : ¬ 7 = k := by omega
    have hk8' : ¬ 8 = k := by omega
    have hpI : (p : Int) ≤ q.size := by omega
    have HNum : Hid (Calls Tryz.prog 152 #[.string (q.extract p q.size)] wr fun e w' => e = .returned (.tuple #[.int .i64 (nmA (rsA q p)).1, .int .i64 (nmA (rsA q p)).2]) ∧ w' = wr) := num_cells (rsA q p) wr (by simp [rsA]; omega)
    have hle := nmA_le q p hp
    have hG : ¬ ((nmA (rsA q p)).2 = 0 ∨ p + (nmA (rsA q p)).2 = q.size) ∧ (if bA q (p + (nmA (rsA q p)).2) = 59 then sqG q (6 - (k + 1)) (ns ++ [(nmA (rsA q p)).1]) (p + (nmA (rsA q p)).2 + 1) else some (ns ++ [(nmA (rsA q p)).1], bA q (p + (nmA (rsA q p)).2), p + (nmA (rsA q p)).2 + 1)) = some (ns0, l0, p0) := by
      have h := HK.out.2
      rw [← hkk, show 6 - k = (6 - (k + 1)) + 1 by omega, sqG] at h
      split at h
      · cases h
      · rename_i hn
        exact ⟨hn, h⟩
    have HSr : Hid (SrW w rb qb ns lt p wr) := HK.out.1
    clear hkk HK
    generalize nmA (rsA q p) = nd at *
    obtain ⟨n, d⟩ := nd
    simp only at HNum hle hG
    obtain ⟨hn, hG⟩ := hG
    have HG2 : Hid ((if bA q (p + d) = 59 then sqG q (6 - (k + 1)) (ns ++ [n]) (p + d + 1) else some (ns ++ [n], bA q (p + d), p + d + 1)) = some (ns0, l0, p0)) := hG
    clear hG
    have hd0 : ¬ d = 0 := by omega
    have hlt : p + d < q.size := by omega
    clear hn hle
    have hdz : ((d : Int) == 0) = false := by simp; omega
    have hpz : ((p : Int) + (d : Int) == (q.size : Int)) = false := by simp; omega
    have hpl : (p : Int) + (d : Int) < q.size := by omega
    have hw1 : IntKind.i64.wrap ((p : Int) + (d : Int)) = (p : Int) + (d : Int) := by rw [IntKind.wrap_i64]; omega
    have hw2 : IntKind.i64.wrap ((p : Int) + (d : Int) + 1) = (p : Int) + (d : Int) + 1 := by rw [IntKind.wrap_i64]; omega
    go_wp2_with fail
    refine HNum.out.mono ?_
    rintro e W3 ⟨rfl, hW3⟩
    obtain rfl := hW3.symm
    clear HNum
    have ebl := bA_at hlt
    have HS5 : Hid (∀ W k1, k1 = (k : Int) + 1 → W = ((((wr.setCell ⟨qb, 8, none⟩ (.int .i64 ((p : Int) + d))).setCell ⟨qb, k, none⟩ (.int .i64 n)).setCell ⟨qb, 6, none⟩ (.int .i64 k1)).setCell ⟨qb, 7, none⟩ (.int .u8 ((q[p + d]'hlt).toNat : Int))).setCell ⟨qb, 8, none⟩ (.int .i64 ((p : Int) + d + 1)) → Bk W qb (sqC (ns ++ [n]) (k + 1) (bA q (p + d)) (p + d + 1)) 193 ∧ Bk W rb (sqC [] 0 0 0) 193 ∧ Below w.heap.size w W) := fun W k1 hk1 hW => by
      subst hW
      have h1 := HSr.out.q
      rw [← HKk.out] at h1
      exact ⟨sr_put h1 HKk.out hk _ n (bA q (p + d)) (p + d + 1) _ _ _ (by omega) (by rw [ebl]) (by omega), other5 HSr.out.r (by have := HQb.out; omega) _ _ _ _ _ _ _ _ _ _, below5 HSr.out.lo (by have h1 := HRb.out; have h2 := HQb.out; omega) _ _ _ _ _ _ _ _ _ _⟩
    have HLen : Hid ((ns ++ [n]).length = k + 1) := by unfold Hid; rw [List.length_append, ← HKk.out]; rfl
    by_cases hl : bA q (p + d) = 59
    · have hl2 : (((q[p + d]'hlt).toNat : Int) == 59) = true := by rw [← ebl, hl]; rfl
      have HN : Hid (sqG q (6 - (k + 1)) (ns ++ [n]) (p + d + 1) = some (ns0, l0, p0)) := by have := HG2.out; rw [if_pos hl] at this; exact this
      have hk5 : k < 5 := by
        rcases (show k < 5 ∨ k = 5 by omega) with h | h
        · exact h
        · have h3 := HN.out
          rw [h] at h3
          cases h3
      have HM : Hid (∀ W, Bk W qb (sqC (ns ++ [n]) (k + 1) (bA q (p + d)) (p + d + 1)) 193 → cntQ qb W = k + 1) := fun W hW => by
        unfold cntQ
        rw [show W.cell? ⟨qb, 6, none⟩ = some (.int .i64 ((k + 1 : Nat) : Int)) from hW.cell 6]
        simp [RowKit.intOf]
      clear HG2 hl ebl
      go_wp2_with fail
      have h5 := HS5.out _ _ rfl rfl
      refine ⟨⟨ns ++ [n], bA q (p + d), p + d + 1, by rw [HLen.out]; omega, by omega, ⟨by rw [HLen.out]; exact h5.1, h5.2.1, h5.2.2⟩, by rw [HLen.out]; exact HN.out⟩, ?_⟩
      rw [HM.out _ h5.1, HCn.out]
      omega
    · have hl2 : (((q[p + d]'hlt).toNat : Int) == 59) = false := by rw [← ebl]; simp; omega
      have HN : Hid (ns0 = ns ++ [n] ∧ l0 = bA q (p + d) ∧ p0 = p + d + 1) := by
        have h3 := HG2.out
        rw [if_neg hl] at h3
        injection h3 with h3
        injection h3 with h4 h5
        injection h5 with h5 h6
        exact ⟨h4.symm, h5.symm, h6.symm⟩
      clear HG2 hl ebl
      have hk2 : k = 1 ∨ k = 5 := by
        have h1 := HCnt.out
        rw [HN.out.1, HLen.out] at h1
        omega
      clear hk6 hk7 hk8 hk6' hk7' hk8' hkI
      rcases hk2 with rfl | rfl
      · obtain ⟨v0, hv0⟩ : ∃ v, v = ns.getD 0 0 := ⟨_, rfl⟩
        have HV0 : Hid (v0 = ns.getD 0 0) := hv0
        have c0 : wr.cell? ⟨qb, 0, none⟩ = some (.int .i64 v0) := by rw [hv0]; exact HSr.out.q.cell 0
        clear hv0
        obtain ⟨v2, hv2⟩ : ∃ v, v = ns.getD 2 0 := ⟨_, rfl⟩
        have HV2 : Hid (v2 = ns.getD 2 0) := hv2
        have c2 : wr.cell? ⟨qb, 2, none⟩ = some (.int .i64 v2) := by rw [hv2]; exact HSr.out.q.cell 2
        clear hv2
        obtain ⟨v3, hv3⟩ : ∃ v, v = ns.getD 3 0 := ⟨_, rfl⟩
        have HV3 : Hid (v3 = ns.getD 3 0) := hv3
        have c3 : wr.cell? ⟨qb, 3, none⟩ = some (.int .i64 v3) := by rw [hv3]; exact HSr.out.q.cell 3
        clear hv3
        obtain ⟨v4, hv4⟩ : ∃ v, v = ns.getD 4 0 := ⟨_, rfl⟩
        have HV4 : Hid (v4 = ns.getD 4 0) := hv4
        have c4 : wr.cell? ⟨qb, 4, none⟩ = some (.int .i64 v4) := by rw [hv4]; exact HSr.out.q.cell 4
        clear hv4
        obtain ⟨v5, hv5⟩ : ∃ v, v = ns.getD 5 0 := ⟨_, rfl⟩
        have HV5 : Hid (v5 = ns.getD 5 0) := hv5
        have c5 : wr.cell? ⟨qb, 5, none⟩ = some (.int .i64 v5) := by rw [hv5]; exact HSr.out.q.cell 5
        clear hv5
        have HC : Hid (#[.int .i64 v0, .int .i64 n, .int .i64 v2, .int .i64 v3, .int .i64 v4, .int .i64 v5, .int .i64 2, .int .u8 ((q[p + d]'hlt).toNat : Int), .int .i64 ((p : Int) + d + 1)] = sqC ns0 ns0.length l0 p0) := by
          have e := sqC_put ns n 2 (bA q (p + d)) (p + d + 1) (by rw [← HKk.out]; decide)
          rw [← HKk.out] at e
          rw [HN.out.1, HN.out.2.1, HN.out.2.2, HLen.out, ← e, bA_at hlt, HV0.out, HV2.out, HV3.out, HV4.out, HV5.out]
          rfl
        have H6 : Hid (Bk (((((wr.setCell ⟨qb, 8, none⟩ (.int .i64 ((p : Int) + d))).setCell ⟨qb, 1, none⟩ (.int .i64 n)).setCell ⟨qb, 6, none⟩ (.int .i64 2)).setCell ⟨qb, 7, none⟩ (.int .u8 ((q[p + d]'hlt).toNat : Int))).setCell ⟨qb, 8, none⟩ (.int .i64 ((p : Int) + d + 1))) rb (sqC [] 0 0 0) 193 ∧ Below w.heap.size w (((((wr.setCell ⟨qb, 8, none⟩ (.int .i64 ((p : Int) + d))).setCell ⟨qb, 1, none⟩ (.int .i64 n)).setCell ⟨qb, 6, none⟩ (.int .i64 2)).setCell ⟨qb, 7, none⟩ (.int .u8 ((q[p + d]'hlt).toNat : Int))).setCell ⟨qb, 8, none⟩ (.int .i64 ((p : Int) + d + 1)))) := (HS5.out _ 2 (by decide) rfl).2
        go_wp2_with (refine wpList_store_row rfl 193 (.tmp 2) (.tmp 69) rfl rb #[.int .i64 v0, .int .i64 n, .int .i64 v2, .int .i64 v3, .int .i64 v4, .int .i64 v5, .int .i64 2, .int .u8 ((q[p + d]'hlt).toNat : Int), .int .i64 ((p : Int) + d + 1)] rfl rfl 193 (sqC [] 0 0 0) ?hb seq_size rfl (by simp [Value.oneCell']) ?_)
        case hb => exact H6.out.1
        obtain ⟨W7, hW7⟩ : ∃ W7, W7 = (((((wr.setCell ⟨qb, 8, none⟩ (.int .i64 ((p : Int) + d))).setCell ⟨qb, 1, none⟩ (.int .i64 n)).setCell ⟨qb, 6, none⟩ (.int .i64 2)).setCell ⟨qb, 7, none⟩ (.int .u8 ((q[p + d]'hlt).toNat : Int))).setCell ⟨qb, 8, none⟩ (.int .i64 ((p : Int) + d + 1))).setRow rb #[.int .i64 v0, .int .i64 n, .int .i64 v2, .int .i64 v3, .int .i64 v4, .int .i64 v5, .int .i64 2, .int .u8 ((q[p + d]'hlt).toNat : Int), .int .i64 ((p : Int) + d + 1)] := ⟨_, rfl⟩
        have H7 : Hid (Bk W7 rb #[.int .i64 v0, .int .i64 n, .int .i64 v2, .int .i64 v3, .int .i64 v4, .int .i64 v5, .int .i64 2, .int .u8 ((q[p + d]'hlt).toNat : Int), .int .i64 ((p : Int) + d + 1)] 193 ∧ Below w.heap.size w W7) := by rw [hW7]; exact ⟨setRow_heap _ rb _ _ 193 _ H6.out.1, below_setRow H6.out.2 HRb.out _⟩
        rw [← hW7]
        clear hW7 H6 HS5 c0 c2 c3 c4 c6 c7 c8 f6 f7 f8 fk hl2
        go_wp2_with fail
        have hld : (loadVar 193 ⟨rb, 0, none⟩).run Tryz.prog W7 = .ok (.agg #[.int .i64 v0, .int .i64 n, .int .i64 v2, .int .i64 v3, .int .i64 v4, .int .i64 v5, .int .i64 2, .int .u8 ((q[p + d]'hlt).toNat : Int), .int .i64 ((p : Int) + d + 1)]) W7 := run_loadVar_row W7 rb 193 193 _ _ _ H7.out.1 Tryz.underlying193 rfl seq_size
        refine bodyPost_ret (v := .tuple #[.agg #[.int .i64 v0, .int .i64 n, .int .i64 v2, .int .i64 v3, .int .i64 v4, .int .i64 v5, .int .i64 2, .int .u8 ((q[p + d]'hlt).toNat : Int), .int .i64 ((p : Int) + d + 1)], .bool true]) ?_ rfl ⟨by rw [HC.out], H7.out.2⟩
        simp [results, Tryz.results118, asAddr, hld]
      · obtain ⟨v0, hv0⟩ : ∃ v, v = ns.getD 0 0 := ⟨_, rfl⟩
        have HV0 : Hid (v0 = ns.getD 0 0) := hv0
        have c0 : wr.cell? ⟨qb, 0, none⟩ = some (.int .i64 v0) := by rw [hv0]; exact HSr.out.q.cell 0
        clear hv0
        obtain ⟨v1, hv1⟩ : ∃ v, v = ns.getD 1 0 := ⟨_, rfl⟩
        have HV1 : Hid (v1 = ns.getD 1 0) := hv1
        have c1 : wr.cell? ⟨qb, 1, none⟩ = some (.int .i64 v1) := by rw [hv1]; exact HSr.out.q.cell 1
        clear hv1
        obtain ⟨v2, hv2⟩ : ∃ v, v = ns.getD 2 0 := ⟨_, rfl⟩
        have HV2 : Hid (v2 = ns.getD 2 0) := hv2
        have c2 : wr.cell? ⟨qb, 2, none⟩ = some (.int .i64 v2) := by rw [hv2]; exact HSr.out.q.cell 2
        clear hv2
        obtain ⟨v3, hv3⟩ : ∃ v, v = ns.getD 3 0 := ⟨_, rfl⟩
        have HV3 : Hid (v3 = ns.getD 3 0) := hv3
        have c3 : wr.cell? ⟨qb, 3, none⟩ = some (.int .i64 v3) := by rw [hv3]; exact HSr.out.q.cell 3
        clear hv3
        obtain ⟨v4, hv4⟩ : ∃ v, v = ns.getD 4 0 := ⟨_, rfl⟩
        have HV4 : Hid (v4 = ns.getD 4 0) := hv4
        have c4 : wr.cell? ⟨qb, 4, none⟩ = some (.int .i64 v4) := by rw [hv4]; exact HSr.out.q.cell 4
        clear hv4
        have HC : Hid (#[.int .i64 v0, .int .i64 v1, .int .i64 v2, .int .i64 v3, .int .i64 v4, .int .i64 n, .int .i64 6, .int .u8 ((q[p + d]'hlt).toNat : Int), .int .i64 ((p : Int) + d + 1)] = sqC ns0 ns0.length l0 p0) := by
          have e := sqC_put ns n 6 (bA q (p + d)) (p + d + 1) (by rw [← HKk.out]; decide)
          rw [← HKk.out] at e
          rw [HN.out.1, HN.out.2.1, HN.out.2.2, HLen.out, ← e, bA_at hlt, HV0.out, HV1.out, HV2.out, HV3.out, HV4.out]
          rfl
        have H6 : Hid (Bk (((((wr.setCell ⟨qb, 8, none⟩ (.int .i64 ((p : Int) + d))).setCell ⟨qb, 5, none⟩ (.int .i64 n)).setCell ⟨qb, 6, none⟩ (.int .i64 6)).setCell ⟨qb, 7, none⟩ (.int .u8 ((q[p + d]'hlt).toNat : Int))).setCell ⟨qb, 8, none⟩ (.int .i64 ((p : Int) + d + 1))) rb (sqC [] 0 0 0) 193 ∧ Below w.heap.size w (((((wr.setCell ⟨qb, 8, none⟩ (.int .i64 ((p : Int) + d))).setCell ⟨qb, 5, none⟩ (.int .i64 n)).setCell ⟨qb, 6, none⟩ (.int .i64 6)).setCell ⟨qb, 7, none⟩ (.int .u8 ((q[p + d]'hlt).toNat : Int))).setCell ⟨qb, 8, none⟩ (.int .i64 ((p : Int) + d + 1)))) := (HS5.out _ 6 (by decide) rfl).2
        go_wp2_with (refine wpList_store_row rfl 193 (.tmp 2) (.tmp 69) rfl rb #[.int .i64 v0, .int .i64 v1, .int .i64 v2, .int .i64 v3, .int .i64 v4, .int .i64 n, .int .i64 6, .int .u8 ((q[p + d]'hlt).toNat : Int), .int .i64 ((p : Int) + d + 1)] rfl rfl 193 (sqC [] 0 0 0) ?hb seq_size rfl (by simp [Value.oneCell']) ?_)
        case hb => exact H6.out.1
        obtain ⟨W7, hW7⟩ : ∃ W7, W7 = (((((wr.setCell ⟨qb, 8, none⟩ (.int .i64 ((p : Int) + d))).setCell ⟨qb, 5, none⟩ (.int .i64 n)).setCell ⟨qb, 6, none⟩ (.int .i64 6)).setCell ⟨qb, 7, none⟩ (.int .u8 ((q[p + d]'hlt).toNat : Int))).setCell ⟨qb, 8, none⟩ (.int .i64 ((p : Int) + d + 1))).setRow rb #[.int .i64 v0, .int .i64 v1, .int .i64 v2, .int .i64 v3, .int .i64 v4, .int .i64 n, .int .i64 6, .int .u8 ((q[p + d]'hlt).toNat : Int), .int .i64 ((p : Int) + d + 1)] := ⟨_, rfl⟩
        have H7 : Hid (Bk W7 rb #[.int .i64 v0, .int .i64 v1, .int .i64 v2, .int .i64 v3, .int .i64 v4, .int .i64 n, .int .i64 6, .int .u8 ((q[p + d]'hlt).toNat : Int), .int .i64 ((p : Int) + d + 1)] 193 ∧ Below w.heap.size w W7) := by rw [hW7]; exact ⟨setRow_heap _ rb _ _ 193 _ H6.out.1, below_setRow H6.out.2 HRb.out _⟩
        rw [← hW7]
        clear hW7 H6 HS5 c0 c2 c3 c4 c6 c7 c8 f6 f7 f8 fk hl2
        go_wp2_with fail
        have hld : (loadVar 193 ⟨rb, 0, none⟩).run Tryz.prog W7 = .ok (.agg #[.int .i64 v0, .int .i64 v1, .int .i64 v2, .int .i64 v3, .int .i64 v4, .int .i64 n, .int .i64 6, .int .u8 ((q[p + d]'hlt).toNat : Int), .int .i64 ((p : Int) + d + 1)]) W7 := run_loadVar_row W7 rb 193 193 _ _ _ H7.out.1 Tryz.underlying193 rfl seq_size
        refine bodyPost_ret (v := .tuple #[.agg #[.int .i64 v0, .int .i64 v1, .int .i64 v2, .int .i64 v3, .int .i64 v4, .int .i64 n, .int .i64 6, .int .u8 ((q[p + d]'hlt).toNat : Int), .int .i64 ((p : Int) + d + 1)], .bool true]) ?_ rfl ⟨by rw [HC.out], H7.out.2⟩
        simp [results, Tryz.results118, asAddr, hld]

end Go.Proofs.YtapachlhdgehjaaGreatDoor

/-
  Package cells: a reader in memory; jump, dip.
-/
namespace Go.Proofs.YtapachlhdgehjaaGreatDoor
open Go.RowKit

abbrev rdC (W H : Nat) (g n cap : Nat) (x y : Int) (c k : Co) : Array Value := #[.int .i64 (W : Nat), .int .i64 (H : Nat), .slice (some ⟨g, 0, none⟩) n cap, .int .i64 x, .int .i64 y, .int .u8 c.r, .int .u8 c.g, .int .u8 c.b, .int .u8 c.a, .int .u8 k.r, .int .u8 k.g, .int .u8 k.b, .int .u8 k.a]
theorem rd_at {w : World} {b W H g n cap : Nat} {x y : Int} {c k : Co} (h : Bk w b (rdC W H g n cap x y c k) 103) : (w.cell? ⟨b, 0, none⟩ = some (.int .i64 (W : Nat)) ∧ w.cell? ⟨b, 1, none⟩ = some (.int .i64 (H : Nat)) ∧ w.cell? ⟨b, 2, none⟩ = some (.slice (some ⟨g, 0, none⟩) n cap) ∧ w.cell? ⟨b, 3, none⟩ = some (.int .i64 x) ∧ w.cell? ⟨b, 4, none⟩ = some (.int .i64 y)) ∧ (w.cell? ⟨b, 5, none⟩ = some (.int .u8 c.r) ∧ w.cell? ⟨b, 6, none⟩ = some (.int .u8 c.g) ∧ w.cell? ⟨b, 7, none⟩ = some (.int .u8 c.b) ∧ w.cell? ⟨b, 8, none⟩ = some (.int .u8 c.a)) ∧ w.cell? ⟨b, 9, none⟩ = some (.int .u8 k.r) ∧ w.cell? ⟨b, 10, none⟩ = some (.int .u8 k.g) ∧ w.cell? ⟨b, 11, none⟩ = some (.int .u8 k.b) ∧ w.cell? ⟨b, 12, none⟩ = some (.int .u8 k.a) :=
  ⟨⟨h.cell 0, h.cell 1, h.cell 2, h.cell 3, h.cell 4⟩, ⟨h.cell 5, h.cell 6, h.cell 7, h.cell 8⟩, h.cell 9, h.cell 10, h.cell 11, h.cell 12⟩

structure RdW (lo b : Nat) (W H g n cap : Nat) (x y : Int) (c k : Co) (L : List Ce) (w : World) : Prop where
  bk : Bk w b (rdC W H g n cap x y c k) 103
  sc : ScM lo w g n cap L
  ne : g ≠ b
  lb : lo ≤ b
  sz : lo ≤ w.heap.size
theorem RdW.bel {lo b W H g n cap : Nat} {x y : Int} {c k : Co} {L : List Ce} {w w' : World} (h : RdW lo b W H g n cap x y c k L w) (hb : Below w.heap.size w w') : RdW lo b W H g n cap x y c k L w' := ⟨h.bk.below hb, h.sc.below hb, h.ne, h.lb, Nat.le_trans h.sz hb.size⟩
theorem scm_far {lo : Nat} {w : World} {g n cap : Nat} {L : List Ce} (h : ScM lo w g n cap L) {b : Nat} (hne : g ≠ b) (o : Nat) (v : Value) : ScM lo (w.setCell ⟨b, o, none⟩ v) g n cap L :=
  ⟨h.1, World.ownsRow.kept (row := some b) h.2 ⟨rfl, rfl, rfl, by simp [World.setCell], fun q _ hk => Below.heap_setCell _ _ _ _ (fun e => hk (by simp [e]))⟩ (.inr (fun e => hne (by injection e)))⟩
theorem RdW.place {lo b W H g n cap : Nat} {x y : Int} {c k : Co} {L : List Ce} {w : World} (h : RdW lo b W H g n cap x y c k L w) (x' y' : Int) : RdW lo b W H g n cap x' y' c k L ((w.setCell ⟨b, 3, none⟩ (.int .i64 x')).setCell ⟨b, 4, none⟩ (.int .i64 y')) :=
  ⟨((h.bk.put 3 (.int .i64 x')).put 4 (.int .i64 y')), scm_far (scm_far h.sc h.ne _ _) h.ne _ _, h.ne, h.lb, by simpa using h.sz⟩
theorem RdW.fore {lo b W H g n cap : Nat} {x y : Int} {c k : Co} {L : List Ce} {w : World} (h : RdW lo b W H g n cap x y c k L w) (d : Co) : RdW lo b W H g n cap x y d k L ((((w.setCell ⟨b, 5, none⟩ (.int .u8 d.r)).setCell ⟨b, 6, none⟩ (.int .u8 d.g)).setCell ⟨b, 7, none⟩ (.int .u8 d.b)).setCell ⟨b, 8, none⟩ (.int .u8 d.a)) :=
  ⟨((((h.bk.put 5 (.int .u8 d.r)).put 6 (.int .u8 d.g)).put 7 (.int .u8 d.b)).put 8 (.int .u8 d.a)), scm_far (scm_far (scm_far (scm_far h.sc h.ne _ _) h.ne _ _) h.ne _ _) h.ne _ _, h.ne, h.lb, by simpa using h.sz⟩
theorem below2 {B : Nat} {w wr : World} (h : Below B w wr) {qb : Nat} (hq : B ≤ qb) (o1 o2 : Nat) (v1 v2 : Value) : Below B w ((wr.setCell ⟨qb, o1, none⟩ v1).setCell ⟨qb, o2, none⟩ v2) := (h.setCell (p := ⟨qb, o1, none⟩) hq v1).setCell (p := ⟨qb, o2, none⟩) hq v2

def FrB (b : Nat) (w w' : World) : Prop := w.heap.size ≤ w'.heap.size ∧ ∀ q, q < w.heap.size → q ≠ b → w'.heap[q]? = w.heap[q]?
theorem FrB.of_below {b : Nat} {w w' : World} (h : Below w.heap.size w w') : FrB b w w' := ⟨h.size, fun q hq _ => h.block q hq⟩
theorem FrB.trans {b : Nat} {w w1 w2 : World} (h : FrB b w w1) (k : FrB b w1 w2) : FrB b w w2 := ⟨Nat.le_trans h.1 k.1, fun q hq hb => (k.2 q (Nat.lt_of_lt_of_le hq h.1) hb).trans (h.2 q hq hb)⟩
theorem FrB.set (b : Nat) (w : World) (o : Nat) (v : Value) : FrB b w (w.setCell ⟨b, o, none⟩ v) := ⟨by simp, fun q _ hb => Below.heap_setCell _ _ _ _ (fun e => hb e)⟩
theorem FrB.bk {b : Nat} {w w' : World} (h : FrB b w w') {q : Nat} {vs : Array Value} {t : TypeId} (hq : Bk w q vs t) (hb : q ≠ b) : Bk w' q vs t := (h.2 q hq.lt hb).trans hq
theorem FrB.set2 (b : Nat) (w : World) (o1 o2 : Nat) (v1 v2 : Value) : FrB b w ((w.setCell ⟨b, o1, none⟩ v1).setCell ⟨b, o2, none⟩ v2) := (FrB.set b w o1 v1).trans (FrB.set b _ o2 v2)

set_option maxRecDepth 20000 in
set_option maxHeartbeats 4000000 in
theorem jump_any (lo b W H g n cap : Nat) (x y : Int) (c k : Co) (L : List Ce) (p q : Int) (w : World) (hR : RdW lo b W H g n cap x y c k L w) (hp : 1 ≤ p ∧ p ≤ 100000) (hq : 1 ≤ q ∧ q ≤ 100000) :
    Calls Tryz.prog 153 #[.pointer (some ⟨b, 0, none⟩), .int .i64 p, .int .i64 q] w fun e w' => e = .returned (.bool true) ∧ RdW lo b W H g n cap (p - 1) (q - 1) c k L w' ∧ Below lo w w' ∧ FrB b w w' := by
  obtain ⟨⟨c0, c1, c2, c3, c4⟩, _, _⟩ := rd_at hR.bk
  have f3 := hR.bk.frozen 3
  have f4 := hR.bk.frozen 4
  have HF : Hid (RdW lo b W H g n cap (p - 1) (q - 1) c k L ((w.setCell ⟨b, 3, none⟩ (.int .i64 (p - 1))).setCell ⟨b, 4, none⟩ (.int .i64 (q - 1))) ∧ Below lo w ((w.setCell ⟨b, 3, none⟩ (.int .i64 (p - 1))).setCell ⟨b, 4, none⟩ (.int .i64 (q - 1))) ∧ FrB b w ((w.setCell ⟨b, 3, none⟩ (.int .i64 (p - 1))).setCell ⟨b, 4, none⟩ (.int .i64 (q - 1)))) := ⟨hR.place _ _, below2 (Below.refl _ _) hR.lb _ _ _ _, FrB.set2 _ _ _ _ _ _⟩
  obtain ⟨hp1, hp2⟩ := hp
  obtain ⟨hq1, hq2⟩ := hq
  have t1 : decide (p < 1) = false := by simp; omega
  have t2 : decide (q < 1) = false := by simp; omega
  clear hR
  go_enter Tryz.func153, Tryz.ntmps153
  go_wp2
  go_ret
  exact ⟨rfl, HF.out⟩

set_option maxRecDepth 20000 in
set_option maxHeartbeats 4000000 in
theorem max4_any (g : Nat) (a0 a1 a2 a3 a4 a5 : Int) (w : World) (hg : Bk w g #[.int .i64 a0, .int .i64 a1, .int .i64 a2, .int .i64 a3, .int .i64 a4, .int .i64 a5] 191) (h2 : a2 ≤ 255) (h3 : a3 ≤ 255) (h4 : a4 ≤ 255) (h5 : a5 ≤ 255) :
    Calls Tryz.prog 170 #[.slice (some ⟨g, 2, none⟩) 4 4] w fun e w' => (∃ m, e = .returned (.int .i64 m) ∧ m ≤ 255) ∧ w' = w := by
  have c2 : w.cell? ⟨g, 2, none⟩ = some (.int .i64 a2) := hg.cell 2
  have c3 : w.cell? ⟨g, 3, none⟩ = some (.int .i64 a3) := hg.cell 3
  have c4 : w.cell? ⟨g, 4, none⟩ = some (.int .i64 a4) := hg.cell 4
  have c5 : w.cell? ⟨g, 5, none⟩ = some (.int .i64 a5) := hg.cell 5
  clear hg
  go_enter Tryz.func170, Tryz.ntmps170
  go_wp2_with fail
  go_loopw [3, 4] (fun ma i wr => ∃ (m : Int) (k : Nat), ma = .int .i64 m ∧ k ≤ 4 ∧ 1 ≤ k ∧ i = .int .i64 k ∧ wr = w ∧ Hid (m ≤ 255)) (fun _ i _ => 4 - (RowKit.intOf i).toNat)
  case atStart => exact ⟨a2, 1, rfl, by omega, by omega, rfl, rfl, h2⟩
  case round =>
    obtain ⟨m, k, rfl, hk, hk1, rfl, rfl, HK⟩ := hrel
    rcases (show k = 1 ∨ k = 2 ∨ k = 3 ∨ k = 4 by omega) with rfl | rfl | rfl | rfl
    · have HM : Hid (max m a3 ≤ 255) := by have := HK.out; unfold Hid; omega
      go_wp2
      exact ⟨⟨_, 2, rfl, by omega, by omega, by go_num, trivial, HM⟩, by simp [RowKit.intOf]⟩
    · have HM : Hid (max m a4 ≤ 255) := by have := HK.out; unfold Hid; omega
      go_wp2
      exact ⟨⟨_, 3, rfl, by omega, by omega, by go_num, trivial, HM⟩, by simp [RowKit.intOf]⟩
    · have HM : Hid (max m a5 ≤ 255) := by have := HK.out; unfold Hid; omega
      go_wp2
      exact ⟨⟨_, 4, rfl, by omega, by omega, by go_num, trivial, HM⟩, by simp [RowKit.intOf]⟩
    · go_wp2
      go_ret
      exact ⟨⟨m, rfl, HK.out⟩, rfl⟩

end Go.Proofs.YtapachlhdgehjaaGreatDoor

/-
  Package cells: dip, obey, escape, of sequences that say something.
-/
namespace Go.Proofs.YtapachlhdgehjaaGreatDoor
open Go.RowKit

theorem u8_wrap {n : Int} (h0 : 0 ≤ n) (h1 : n ≤ 255) : IntKind.u8.wrap n = n := by rw [IntKind.wrap_u8]; omega

set_option maxRecDepth 20000 in
set_option maxHeartbeats 8000000 in
theorem dip_any (lo b W H g n cap : Nat) (x y : Int) (c k : Co) (L : List Ce) (a1 : Int) (d : Co) (hd : d.ok) (w : World) (hR : RdW lo b W H g n cap x y c k L w) :
    Calls Tryz.prog 154 #[.pointer (some ⟨b, 0, none⟩), .agg #[.int .i64 38, .int .i64 a1, .int .i64 d.r, .int .i64 d.g, .int .i64 d.b, .int .i64 d.a]] w fun e w' => e = .returned (.bool true) ∧ RdW lo b W H g n cap x y d k L w' ∧ Below lo w w' ∧ FrB b w w' := by
  obtain ⟨⟨r0, r1⟩, ⟨g0, g1⟩, ⟨b0, b1⟩, ⟨a0, a1'⟩⟩ := hd
  have H0 : Hid (∀ W1, W1 = w.alloc (.cells #[.int .i64 38, .int .i64 a1, .int .i64 d.r, .int .i64 d.g, .int .i64 d.b, .int .i64 d.a] 191) → RdW lo b W H g n cap x y c k L W1 ∧ Bk W1 w.heap.size #[.int .i64 38, .int .i64 a1, .int .i64 d.r, .int .i64 d.g, .int .i64 d.b, .int .i64 d.a] 191 ∧ Below lo w W1 ∧ b < w.heap.size ∧ FrB b w W1) := fun W1 hW => by
    subst hW
    exact ⟨hR.bel ((Below.refl _ _).alloc (Nat.le_refl _) _), Bk.new _ _ _, (Below.refl _ w).alloc hR.sz _, hR.bk.lt, FrB.of_below ((Below.refl _ w).alloc (Nat.le_refl _) _)⟩
  have w1 := u8_wrap r0 r1
  have w2 := u8_wrap g0 g1
  have w3 := u8_wrap b0 b1
  have w4 := u8_wrap a0 a1'
  clear hR
  go_enter Tryz.func154, Tryz.ntmps154
  go_wp2_with fail
  obtain ⟨W1, hW1⟩ : ∃ W1, W1 = w.alloc (.cells #[.int .i64 38, .int .i64 a1, .int .i64 d.r, .int .i64 d.g, .int .i64 d.b, .int .i64 d.a] 191) := ⟨_, rfl⟩
  obtain ⟨sb, hsb⟩ : ∃ sb, sb = w.heap.size := ⟨_, rfl⟩
  have H1 : Hid (RdW lo b W H g n cap x y c k L W1 ∧ Bk W1 sb #[.int .i64 38, .int .i64 a1, .int .i64 d.r, .int .i64 d.g, .int .i64 d.b, .int .i64 d.a] 191 ∧ Below lo w W1 ∧ b < sb ∧ FrB b w W1) := by rw [hsb]; exact H0.out W1 hW1
  rw [← hW1, ← hsb]
  clear hW1 hsb H0
  refine (max4_any sb 38 a1 d.r d.g d.b d.a W1 H1.out.2.1 (by omega) (by omega) (by omega) (by omega)).mono ?_
  rintro e W2 ⟨⟨m, rfl, hm⟩, hW2⟩
  obtain rfl := hW2.symm
  have hm2 : decide (255 < m) = false := by simp; omega
  obtain ⟨c0, c1, c2, c3, c4, c5⟩ : W1.cell? ⟨sb, 0, none⟩ = some (.int .i64 38) ∧ W1.cell? ⟨sb, 1, none⟩ = some (.int .i64 a1) ∧ W1.cell? ⟨sb, 2, none⟩ = some (.int .i64 d.r) ∧ W1.cell? ⟨sb, 3, none⟩ = some (.int .i64 d.g) ∧ W1.cell? ⟨sb, 4, none⟩ = some (.int .i64 d.b) ∧ W1.cell? ⟨sb, 5, none⟩ = some (.int .i64 d.a) := ⟨H1.out.2.1.cell 0, H1.out.2.1.cell 1, H1.out.2.1.cell 2, H1.out.2.1.cell 3, H1.out.2.1.cell 4, H1.out.2.1.cell 5⟩
  have H3 : Hid (∀ W3, W3 = W1.alloc (.cells #[.int .u8 d.r, .int .u8 d.g, .int .u8 d.b, .int .u8 d.a] 38) → RdW lo b W H g n cap x y c k L W3 ∧ Below lo w W3 ∧ FrB b w W3) := fun W3 hW => by
    subst hW
    exact ⟨H1.out.1.bel ((Below.refl _ _).alloc (Nat.le_refl _) _), H1.out.2.2.1.alloc H1.out.1.sz _, H1.out.2.2.2.2.trans (FrB.of_below ((Below.refl _ _).alloc (Nat.le_refl _) _))⟩
  obtain ⟨_, ⟨t5, t6, t7, t8⟩, _⟩ := rd_at (H3.out _ rfl).1.bk
  have f5 := (H3.out _ rfl).1.bk.frozen 5
  have f6 := (H3.out _ rfl).1.bk.frozen 6
  have f7 := (H3.out _ rfl).1.bk.frozen 7
  have f8 := (H3.out _ rfl).1.bk.frozen 8
  have H4 : Hid (∀ W4, W4 = ((((W1.alloc (.cells #[.int .u8 d.r, .int .u8 d.g, .int .u8 d.b, .int .u8 d.a] 38)).setCell ⟨b, 5, none⟩ (.int .u8 d.r)).setCell ⟨b, 6, none⟩ (.int .u8 d.g)).setCell ⟨b, 7, none⟩ (.int .u8 d.b)).setCell ⟨b, 8, none⟩ (.int .u8 d.a) → RdW lo b W H g n cap x y d k L W4 ∧ Below lo w W4 ∧ FrB b w W4) := fun W4 hW => by
    obtain ⟨h1, h2, h3⟩ := H3.out _ rfl
    subst hW
    exact ⟨h1.fore d, below2 (below2 h2 h1.lb _ _ _ _) h1.lb _ _ _ _, (h3.trans (FrB.set2 b _ _ _ _ _)).trans (FrB.set2 b _ _ _ _ _)⟩
  have e0 : (W1.alloc (.cells #[.int .u8 d.r, .int .u8 d.g, .int .u8 d.b, .int .u8 d.a] 38)).cell? ⟨sb, 0, none⟩ = some (.int .i64 38) := (H1.out.2.1.below ((Below.refl _ _).alloc (Nat.le_refl _) _)).cell 0
  clear H1 H3
  go_wp2_with fail
  go_ret
  exact ⟨rfl, H4.out _ rfl⟩

abbrev sqB (a0 a1 a2 a3 a4 a5 : Int) (c q p : Nat) : Array Value := #[.int .i64 a0, .int .i64 a1, .int .i64 a2, .int .i64 a3, .int .i64 a4, .int .i64 a5, .int .i64 (c : Nat), .int .u8 (q : Nat), .int .i64 (p : Nat)]
theorem sqB_at {w : World} {s : Nat} {a0 a1 a2 a3 a4 a5 : Int} {c q p : Nat} {t : TypeId} (h : Bk w s (sqB a0 a1 a2 a3 a4 a5 c q p) t) : w.cell? ⟨s, 0, none⟩ = some (.int .i64 a0) ∧ w.cell? ⟨s, 1, none⟩ = some (.int .i64 a1) ∧ w.cell? ⟨s, 2, none⟩ = some (.int .i64 a2) ∧ w.cell? ⟨s, 3, none⟩ = some (.int .i64 a3) ∧ w.cell? ⟨s, 4, none⟩ = some (.int .i64 a4) ∧ w.cell? ⟨s, 5, none⟩ = some (.int .i64 a5) ∧ w.cell? ⟨s, 6, none⟩ = some (.int .i64 (c : Nat)) ∧ w.cell? ⟨s, 7, none⟩ = some (.int .u8 (q : Nat)) ∧ w.cell? ⟨s, 8, none⟩ = some (.int .i64 (p : Nat)) :=
  ⟨h.cell 0, h.cell 1, h.cell 2, h.cell 3, h.cell 4, h.cell 5, h.cell 6, h.cell 7, h.cell 8⟩

set_option maxRecDepth 20000 in
set_option maxHeartbeats 8000000 in
theorem obeyH_any (lo b W H g n cap : Nat) (x y : Int) (c k : Co) (L : List Ce) (a0 a1 a2 a3 a4 a5 : Int) (p : Nat) (w : World) (hR : RdW lo b W H g n cap x y c k L w) (h0 : 1 ≤ a0 ∧ a0 ≤ 100000) (h1 : 1 ≤ a1 ∧ a1 ≤ 100000) :
    Calls Tryz.prog 119 #[.pointer (some ⟨b, 0, none⟩), .agg (sqB a0 a1 a2 a3 a4 a5 2 72 p)] w fun e w' => e = .returned (.bool true) ∧ RdW lo b W H g n cap (a1 - 1) (a0 - 1) c k L w' ∧ Below lo w w' ∧ FrB b w w' := by
  have H0 : Hid (∀ W1, W1 = w.alloc (.cells (sqB a0 a1 a2 a3 a4 a5 2 72 p) 193) → Bk W1 w.heap.size (sqB a0 a1 a2 a3 a4 a5 2 72 p) 193 ∧ Calls Tryz.prog 153 #[.pointer (some ⟨b, 0, none⟩), .int .i64 a1, .int .i64 a0] W1 fun e w' => e = .returned (.bool true) ∧ RdW lo b W H g n cap (a1 - 1) (a0 - 1) c k L w' ∧ Below lo w w' ∧ FrB b w w') := fun W1 hW => by
    subst hW
    refine ⟨Bk.new _ _ _, (jump_any lo b W H g n cap x y c k L a1 a0 _ (hR.bel ((Below.refl _ _).alloc (Nat.le_refl _) _)) h1 h0).mono ?_⟩
    rintro e w' ⟨rfl, q1, q2, q3⟩
    exact ⟨rfl, q1, ((Below.refl _ w).alloc hR.sz _).trans q2, (FrB.of_below ((Below.refl _ w).alloc (Nat.le_refl _) _)).trans q3⟩
  clear hR h0 h1
  go_enter Tryz.func119, Tryz.ntmps119
  obtain ⟨z0, z1, z2, z3, z4, z5, z6, z7, z8⟩ := sqB_at (H0.out _ rfl).1
  go_wp2_with fail
  refine (H0.out _ rfl).2.mono ?_
  rintro e W2 ⟨rfl, h2⟩
  have H2 : Hid (RdW lo b W H g n cap (a1 - 1) (a0 - 1) c k L W2 ∧ Below lo w W2 ∧ FrB b w W2) := h2
  clear h2 H0 z0 z1 z2 z3 z4 z5 z6 z7 z8
  go_wp2
  go_ret
  exact ⟨rfl, H2.out⟩

set_option maxRecDepth 20000 in
set_option maxHeartbeats 8000000 in
theorem obeyM_any (lo b W H g n cap : Nat) (x y : Int) (c k : Co) (L : List Ce) (d : Co) (hd : d.ok) (p : Nat) (w : World) (hR : RdW lo b W H g n cap x y c k L w) :
    Calls Tryz.prog 119 #[.pointer (some ⟨b, 0, none⟩), .agg (sqB 38 2 d.r d.g d.b d.a 6 109 p)] w fun e w' => e = .returned (.bool true) ∧ RdW lo b W H g n cap x y d k L w' ∧ Below lo w w' ∧ FrB b w w' := by
  have H0 : Hid (∀ W1, W1 = w.alloc (.cells (sqB 38 2 d.r d.g d.b d.a 6 109 p) 193) → Bk W1 w.heap.size (sqB 38 2 d.r d.g d.b d.a 6 109 p) 193 ∧ Calls Tryz.prog 154 #[.pointer (some ⟨b, 0, none⟩), .agg #[.int .i64 38, .int .i64 2, .int .i64 d.r, .int .i64 d.g, .int .i64 d.b, .int .i64 d.a]] W1 fun e w' => e = .returned (.bool true) ∧ RdW lo b W H g n cap x y d k L w' ∧ Below lo w w' ∧ FrB b w w') := fun W1 hW => by
    subst hW
    refine ⟨Bk.new _ _ _, (dip_any lo b W H g n cap x y c k L 2 d hd _ (hR.bel ((Below.refl _ _).alloc (Nat.le_refl _) _))).mono ?_⟩
    rintro e w' ⟨rfl, q1, q2, q3⟩
    exact ⟨rfl, q1, ((Below.refl _ w).alloc hR.sz _).trans q2, (FrB.of_below ((Below.refl _ w).alloc (Nat.le_refl _) _)).trans q3⟩
  clear hR hd
  go_enter Tryz.func119, Tryz.ntmps119
  obtain ⟨z0, z1, z2, z3, z4, z5, z6, z7, z8⟩ := sqB_at (H0.out _ rfl).1
  go_wp2_with fail
  refine (H0.out _ rfl).2.mono ?_
  rintro e W2 ⟨rfl, h2⟩
  have H2 : Hid (RdW lo b W H g n cap x y d k L W2 ∧ Below lo w W2 ∧ FrB b w W2) := h2
  clear h2 H0 z0 z1 z2 z3 z4 z5 z6 z7 z8
  go_wp2
  go_ret
  exact ⟨rfl, H2.out⟩

end Go.Proofs.YtapachlhdgehjaaGreatDoor
