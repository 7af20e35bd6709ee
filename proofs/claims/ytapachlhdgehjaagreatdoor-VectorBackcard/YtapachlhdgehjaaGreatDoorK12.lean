/-
  Package cells: rows (an iterator over what an area has of a screen's rows).
-/
import Derived.Test.YtapachlhdgehjaaGreatDoorK10
import Derived.Test.YtapachlhdgehjaaGreatDoorK11
namespace Go.Proofs.YtapachlhdgehjaaGreatDoor
open Go.RowKit Go.Shelf
attribute [local go_sem] Oper.semAt_some

def updQ (L : List Ce) (a x y m j : Nat) (f : Nat → Ce → Ce) : List Ce := L.mapIdx fun k c => if x ≤ k % a ∧ k % a < x + m ∧ y ≤ k / a ∧ k / a < y + j then f k c else c
theorem updQ_len (L : List Ce) (a x y m j : Nat) (f : Nat → Ce → Ce) : (updQ L a x y m j f).length = L.length := by simp [updQ]
theorem updQ_zero (L : List Ce) (a x y m : Nat) (f : Nat → Ce → Ce) : updQ L a x y m 0 f = L := by
  apply List.ext_getElem (updQ_len _ _ _ _ _ _ _)
  intro k h1 h2
  simp only [updQ, List.getElem_mapIdx]
  rw [if_neg (by omega)]
theorem row_iff {a x m r k : Nat} (hx : x + m ≤ a) : (r * a + x ≤ k ∧ k < r * a + x + m) ↔ (x ≤ k % a ∧ k % a < x + m ∧ k / a = r) := by
  by_cases ha : a = 0
  · subst ha
    constructor
    · rintro ⟨h1, h2⟩; omega
    · rintro ⟨h1, h2, _⟩; omega
  · have hp : 0 < a := Nat.pos_of_ne_zero ha
    have hd := Nat.div_add_mod k a
    have hm := Nat.mod_lt k hp
    constructor
    · rintro ⟨h1, h2⟩
      have hr : k / a = r := by
        apply Nat.div_eq_of_lt_le
        · omega
        · rw [Nat.add_mul, Nat.one_mul]; omega
      rw [hr, Nat.mul_comm] at hd
      exact ⟨by omega, by omega, hr⟩
    · rintro ⟨h1, h2, rfl⟩
      rw [Nat.mul_comm] at hd
      constructor <;> omega
theorem updQ_next (L : List Ce) {a x y m j : Nat} (hx : x + m ≤ a) (f : Nat → Ce → Ce) : updR (updQ L a x y m j f) ((y + j) * a + x) m f = updQ L a x y m (j + 1) f := by
  apply List.ext_getElem (by rw [updR_len, updQ_len, updQ_len])
  intro k h1 h2
  rw [updR_at]
  simp only [updQ, List.getElem_mapIdx]
  have hi := row_iff (r := y + j) (k := k) hx
  by_cases c : (y + j) * a + x ≤ k ∧ k < (y + j) * a + x + m
  · have c' := hi.1 c
    rw [if_pos c, if_neg (by omega), if_pos (by omega)]
  · rw [if_neg c]
    by_cases d : x ≤ k % a ∧ k % a < x + m ∧ y ≤ k / a ∧ k / a < y + j
    · rw [if_pos d, if_pos (by omega)]
    · rw [if_neg d, if_neg]
      rintro ⟨e1, e2, e3, e4⟩
      apply c
      apply hi.2
      refine ⟨e1, e2, ?_⟩
      by_cases e : k / a < y + j
      · exact absurd ⟨e1, e2, e3, e⟩ d
      · omega

set_option maxHeartbeats 400000 in
theorem rows_any (a b x y ww hh : Int) (v : Value) (oa : Option Addr) (n cap : Nat) (hv : v = .slice oa n cap) (w : World) :
    Calls Tryz.prog 91 #[.agg #[.int .i64 a, .int .i64 b, v], .agg #[.int .i64 x, .int .i64 y, .int .i64 ww, .int .i64 hh]] w fun e w' => e = .returned (.func (.func 125) #[] #[.pointer (some ⟨w.heap.size + 1, 0, none⟩), .pointer (some ⟨w.heap.size, 0, none⟩)]) ∧ w' = (w.alloc (.cells #[.int .i64 a, .int .i64 b, v] 26)).alloc (.cells #[.int .i64 x, .int .i64 y, .int .i64 ww, .int .i64 hh] 52) := by
  subst hv
  go_enter Tryz.func91, Tryz.ntmps91
  go_wp2
  go_ret
  exact ⟨rfl, rfl⟩

def prR (g a x m cap : Nat) (y : Nat) : Array Value := #[.int .i64 (y : Nat), .slice (some ⟨g, (y * a + x) * 11, none⟩) m (cap - (y * a + x))]
def rwY (y j : Nat) : List Nat := (List.range j).map (y + ·)
theorem rwY_next (y j : Nat) : rwY y (j + 1) = rwY y j ++ [y + j] := by simp [rwY, List.range_succ]
theorem rwY_pre {y j h : Nat} (hj : j ≤ h) : rwY y j <+: rwY y h := by
  refine ⟨(rwY y h).drop j, ?_⟩
  have : rwY y j = (rwY y h).take j := by
    unfold rwY
    rw [← List.map_take, List.take_range, Nat.min_eq_left hj]
  rw [this, List.take_append_drop]

def notV : Value → Value
  | .bool b => .bool (!b)
  | v => v
def RwJ (lp ab sb g a0 b0 x0 y m hh N cap p cc j : Nat) (J Jx : List Nat → World → Prop) (b : Nat → Bool) (u19 u20 u21 u22 u23 u24 u25 u26 u27 u28 u29 u30 u31 u32 u33 u34 u35 u36 : Value) (x : World) : Prop :=
  (b 0 = true → u19 = .func (.yield lp) #[] #[]) ∧
  (b 1 = true → u20 = .int .i64 ((y : Int) + (j : Int))) ∧
  (b 2 = true → u21 = .agg #[.int .i64 (a0 : Nat), .int .i64 (b0 : Nat), .slice (some ⟨g, 0, none⟩) N cap]) ∧
  (b 3 = true → u22 = .int .i64 ((y : Int) + (j : Int))) ∧
  (b 4 = true → b 2 = true ∧ b 3 = true ∧ u23 = .slice (some ⟨g, p * 11, none⟩) a0 cc) ∧
  (b 5 = true → u24 = .pointer (some ⟨ab, 0, none⟩)) ∧
  (b 6 = true → b 5 = true ∧ u25 = .pointer (some ⟨ab, 0, none⟩)) ∧
  (b 7 = true → b 6 = true ∧ u26 = .int .i64 (x0 : Nat)) ∧
  (b 8 = true → u27 = .pointer (some ⟨ab, 0, none⟩)) ∧
  (b 9 = true → b 8 = true ∧ u28 = .pointer (some ⟨ab, 0, none⟩)) ∧
  (b 10 = true → b 9 = true ∧ u29 = .int .i64 (x0 : Nat)) ∧
  (b 11 = true → u30 = .pointer (some ⟨ab, 2, none⟩)) ∧
  (b 12 = true → b 11 = true ∧ u31 = .pointer (some ⟨ab, 2, none⟩)) ∧
  (b 13 = true → b 12 = true ∧ u32 = .int .i64 (m : Nat)) ∧
  (b 14 = true → b 10 = true ∧ b 13 = true ∧ u33 = .int .i64 ((x0 : Int) + (m : Int))) ∧
  (b 15 = true → b 4 = true ∧ b 7 = true ∧ b 14 = true ∧ u34 = .slice (some ⟨g, p * 11 + x0 * 11, none⟩) m (cc - x0)) ∧
  (b 17 = true → b 16 = true ∧ u36 = notV u35) ∧
  (b 16 = false → Blk x ab #[.int .i64 (x0 : Nat), .int .i64 (y : Nat), .int .i64 (m : Nat), .int .i64 (hh : Nat)] 52 ∧ Blk x sb #[.int .i64 (a0 : Nat), .int .i64 (b0 : Nat), .slice (some ⟨g, 0, none⟩) N cap] 26 ∧ J (rwY y j) x) ∧
  (b 16 = true → (∃ bb, u35 = .bool bb ∧ (bb = true → Blk x ab #[.int .i64 (x0 : Nat), .int .i64 (y : Nat), .int .i64 (m : Nat), .int .i64 (hh : Nat)] 52 ∧ Blk x sb #[.int .i64 (a0 : Nat), .int .i64 (b0 : Nat), .slice (some ⟨g, 0, none⟩) N cap] 26 ∧ J (rwY y (j + 1)) x) ∧ (bb = false → Jx (rwY y (j + 1)) x))) ∧
  (b 16 = true → b 0 = true ∧ b 1 = true ∧ b 2 = true ∧ b 3 = true ∧ b 4 = true ∧ b 5 = true ∧ b 6 = true ∧ b 7 = true ∧ b 8 = true ∧ b 9 = true ∧ b 10 = true ∧ b 11 = true ∧ b 12 = true ∧ b 13 = true ∧ b 14 = true ∧ b 15 = true)

set_option maxRecDepth 20000 in
set_option maxHeartbeats 4000000 in
theorem rows_seq (n ab sb g a0 b0 x0 y m hh N cap : Nat) (w : World) (ka : Blk w ab #[.int .i64 (x0 : Nat), .int .i64 (y : Nat), .int .i64 (m : Nat), .int .i64 (hh : Nat)] 52) (ks : Blk w sb #[.int .i64 (a0 : Nat), .int .i64 (b0 : Nat), .slice (some ⟨g, 0, none⟩) N cap] 26)
    (hs : szB a0 b0 = true) (hN : (N : Int) = a0 * b0) (hc : N ≤ cap) (hm : 0 < m) (hx : x0 + m ≤ a0) (hy : y + hh ≤ b0) :
    SeqD Fence.wide n Tryz.prog 125 #[.pointer (some ⟨ab, 0, none⟩), .pointer (some ⟨sb, 0, none⟩)] (prR g a0 x0 m cap) (KpB ab sb) (· = rwY y hh) (· <+: rwY y hh) (fun pre q => pre ++ [q] <+: rwY y hh) ab w := by
  intro lp J Jx W hW hsz hJ hJx hS hSx hY h0
  refine callsIn_of_wp Tryz.func125 rfl trivial ?_ rfl
  simp only [Tryz.ntmps125, List.size_toArray, List.length_cons, List.length_nil, Nat.reduceAdd, Nat.reduceSub, Array.replicate_succ, Array.replicate_zero, List.push_toArray, List.append_toArray, List.nil_append, List.cons_append]
  replace ka := ka.below hW
  replace ks := ks.below hW
  have HH : Hid (Blk W ab #[.int .i64 (x0 : Nat), .int .i64 (y : Nat), .int .i64 (m : Nat), .int .i64 (hh : Nat)] 52 ∧ Blk W sb #[.int .i64 (a0 : Nat), .int .i64 (b0 : Nat), .slice (some ⟨g, 0, none⟩) N cap] 26 ∧ J [] W) := ⟨ka, ks, h0⟩
  have HY : Hid (∀ pre q W1, J pre W1 → pre ++ [q] <+: rwY y hh → YieldAt Fence.wide (n - 1) Tryz.prog lp (prR g a0 x0 m cap q) W1 fun e W' =>
      (e = .returned (.bool true) ∧ J (pre ++ [q]) W' ∧ KpB ab sb W1 W') ∨ (e = .returned (.bool false) ∧ Jx (pre ++ [q]) W')) := hY
  obtain ⟨s1, s2, s3, s4, s5⟩ := szB_iff.1 hs
  have cy : ((y : Int) + hh) ≤ 16384 := by omega
  have ⟨c0, c1, c2, c3⟩ : W.cell? ⟨ab, 0, none⟩ = some (.int .i64 (x0 : Nat)) ∧ W.cell? ⟨ab, 1, none⟩ = some (.int .i64 (y : Nat)) ∧ W.cell? ⟨ab, 2, none⟩ = some (.int .i64 (m : Nat)) ∧ W.cell? ⟨ab, 3, none⟩ = some (.int .i64 (hh : Nat)) := ⟨by rw [ka.cell]; rfl, by rw [ka.cell]; rfl, by rw [ka.cell]; rfl, by rw [ka.cell]; rfl⟩
  have HA : Hid (∀ W, Blk W ab #[.int .i64 (x0 : Nat), .int .i64 (y : Nat), .int .i64 (m : Nat), .int .i64 (hh : Nat)] 52 → W.cell? ⟨ab, 0, none⟩ = some (.int .i64 (x0 : Nat)) ∧ W.cell? ⟨ab, 1, none⟩ = some (.int .i64 (y : Nat)) ∧ W.cell? ⟨ab, 2, none⟩ = some (.int .i64 (m : Nat)) ∧ W.cell? ⟨ab, 3, none⟩ = some (.int .i64 (hh : Nat))) := fun W k => ⟨by rw [k.cell]; rfl, by rw [k.cell]; rfl, by rw [k.cell]; rfl, by rw [k.cell]; rfl⟩
  have HJ : Hid (AbidesFrom W.heap.size J) := hJ
  clear hsz hJ hJx hS hSx hY hW ks ka h0
  gi_wp2_with fail
  gi_loopw [4] (fun vi wr => ∃ j : Nat, j ≤ hh ∧ vi = .int .i64 ((y : Int) + (j : Int)) ∧ Hid (Blk wr ab #[.int .i64 (x0 : Nat), .int .i64 (y : Nat), .int .i64 (m : Nat), .int .i64 (hh : Nat)] 52 ∧ Blk wr sb #[.int .i64 (a0 : Nat), .int .i64 (b0 : Nat), .slice (some ⟨g, 0, none⟩) N cap] 26 ∧ J (rwY y j) wr)) (fun vi _ => ((y : Int) + hh - intOf vi).toNat)
  case atStart => exact ⟨0, Nat.zero_le _, by simp, ⟨HH.out.1, HH.out.2.1, HH.out.2.2⟩⟩
  case round =>
    obtain ⟨j, hj, rfl, HR⟩ := hrel
    clear c0 c1 c2 c3
    obtain ⟨c0, c1, c2, c3⟩ := HA.out _ HR.out.1
    by_cases hlt : j < hh
    · have hq : y + j < b0 := by omega
      obtain ⟨p, hp⟩ : ∃ p : Nat, (p : Int) = ((y + j : Nat) : Int) * a0 := ⟨(y + j) * a0, by rw [Int.natCast_mul]⟩
      have HP : Hid ((y + j) * a0 = p) := by rw [← Int.natCast_mul] at hp; exact (Int.ofNat.inj hp).symm
      have hpx : p + a0 ≤ N := by
        have h1 : (y + j + 1) * a0 ≤ b0 * a0 := Nat.mul_le_mul_right a0 hq
        rw [Nat.add_mul, Nat.one_mul, HP.out] at h1
        rw [← Int.natCast_mul] at hN
        have h2 : N = a0 * b0 := Int.ofNat.inj hN
        rw [h2, Nat.mul_comm a0 b0]
        exact h1
      have HRow : Hid (∀ W, Calls Tryz.prog 45 #[.agg #[.int .i64 (a0 : Nat), .int .i64 (b0 : Nat), .slice (some ⟨g, 0, none⟩) N cap], .int .i64 ((y : Int) + (j : Int))] W fun e w' => e = .returned (.slice (some ⟨g, p * 11, none⟩) a0 (cap - p)) ∧ Below W.heap.size W w') := fun W => by
        have := rowC_any a0 b0 ((y : Int) + (j : Int)) g 0 N cap W hs hN hc (by omega) (by omega) (by omega) p (by rw [hp]; simp) a0 rfl
        rw [Nat.zero_add] at this
        exact this
      have e0 : wr.cell? ⟨sb, 0, none⟩ = some (.int .i64 (a0 : Nat)) := by rw [HR.out.2.1.cell]; rfl
      have e1 : wr.cell? ⟨sb, 1, none⟩ = some (.int .i64 (b0 : Nat)) := by rw [HR.out.2.1.cell]; rfl
      have e2 : wr.cell? ⟨sb, 2, none⟩ = some (.slice (some ⟨g, 0, none⟩) N cap) := by rw [HR.out.2.1.cell]; rfl
      have HB : Hid (∀ w2, Blk w2 ab #[.int .i64 (x0 : Nat), .int .i64 (y : Nat), .int .i64 (m : Nat), .int .i64 (hh : Nat)] 52 ∧ Blk w2 sb #[.int .i64 (a0 : Nat), .int .i64 (b0 : Nat), .slice (some ⟨g, 0, none⟩) N cap] 26 ∧ J (rwY y j) w2 →
          YieldAt Fence.wide (n - 1) Tryz.prog lp #[.int .i64 ((y : Int) + (j : Int)), .slice (some ⟨g, p * 11 + x0 * 11, none⟩) m (cap - p - x0)] w2 fun e W' => ∃ bb, e = .returned (.bool bb) ∧ Hid ((bb = true → Blk W' ab #[.int .i64 (x0 : Nat), .int .i64 (y : Nat), .int .i64 (m : Nat), .int .i64 (hh : Nat)] 52 ∧ Blk W' sb #[.int .i64 (a0 : Nat), .int .i64 (b0 : Nat), .slice (some ⟨g, 0, none⟩) N cap] 26 ∧ J (rwY y (j + 1)) W') ∧ (bb = false → Jx (rwY y (j + 1)) W'))) := fun w2 ⟨k1, k2, k3⟩ => by
        have q := HY.out (rwY y j) (y + j) w2 k3 (by rw [← rwY_next]; exact rwY_pre (by omega))
        rw [← rwY_next] at q
        have e : prR g a0 x0 m cap (y + j) = #[.int .i64 ((y : Int) + (j : Int)), .slice (some ⟨g, p * 11 + x0 * 11, none⟩) m (cap - p - x0)] := by
          unfold prR
          rw [HP.out, Nat.add_mul, Nat.sub_sub, Int.natCast_add]
        rw [e] at q
        obtain ⟨fn, tmps, assign, body, hy, hRd⟩ := q
        refine ⟨fn, tmps, assign, body, hy, hRd.mono ?_⟩
        rintro e W' (⟨rfl, q1, q2⟩ | ⟨rfl, q1⟩)
        · exact ⟨true, rfl, fun _ => ⟨q2.1.trans k1, q2.2.trans k2, q1⟩, (fun h => (by cases h))⟩
        · exact ⟨false, rfl, (fun h => (by cases h)), fun _ => q1⟩
      have pl : x0 + m ≤ cap - p := by omega
      have px : x0 < cap - p := by omega
      have g1 : (x0 : Int) ≤ (x0 : Int) + (m : Int) := by omega
      have g2 : (x0 : Int) + (m : Int) ≤ ((cap - p : Nat) : Int) := by omega
      have g3 : ¬ x0 = cap - p := by omega
      have g4 : ¬ cap - p = x0 := by omega
      have g5 : ((x0 : Int) + (m : Int)).toNat = x0 + m := by omega
      have g6 : IntKind.i64.wrap ((x0 : Int) + (m : Int)) = (x0 : Int) + (m : Int) := by rw [IntKind.wrap_i64]; omega
      have hlt2 : (j : Int) < hh := by omega
      clear hp hpx
      generalize cap - p = cc at *
      have hmo : Tryz.prog.follows Departure.mixedOrders = true := rfl
      gi_wp2_with fail
      have HJ2 : Hid (AbidesFrom W.heap.size J) := HJ
      have H0 : Hid (Blk wr ab #[.int .i64 (x0 : Nat), .int .i64 (y : Nat), .int .i64 (m : Nat), .int .i64 (hh : Nat)] 52 ∧ Blk wr sb #[.int .i64 (a0 : Nat), .int .i64 (b0 : Nat), .slice (some ⟨g, 0, none⟩) N cap] 26 ∧ J (rwY y j) wr) := HR
      have HJd : Hid (J (rwY y j) wr → J (rwY y j) wr.drew) := fun h => HJ.out _ _ _ none h ⟨rfl, rfl, rfl, Nat.le_refl _, fun _ _ _ => rfl⟩ (fun r hr => by cases hr)
      clear HJ HY HR HH HA HP e0 e1 e2 c0 c1 c2 c3
      refine wpIn_region_inv (fun b a x => ∃ u19 u20 u21 u22 u23 u24 u25 u26 u27 u28 u29 u30 u31 u32 u33 u34 u35 u36, a = ⟨#[.func (.yield lp) #[] #[], .pointer (some ⟨ab, 0, none⟩), .pointer (some ⟨sb, 0, none⟩), undef, .int .i64 ((y : Int) + (j : Int)), .pointer (some ⟨ab, 0, none⟩), .pointer (some ⟨ab, 1, none⟩), .int .i64 (y : Nat), .int .i64 ((y : Int) + (j : Int)), .pointer (some ⟨ab, 0, none⟩), .pointer (some ⟨ab, 1, none⟩), .int .i64 (y : Nat), .pointer (some ⟨ab, 2, none⟩), .pointer (some ⟨ab, 3, none⟩), .int .i64 (hh : Nat), .int .i64 ((y : Int) + (hh : Int)), .bool true, u17, u18, u19, u20, u21, u22, u23, u24, u25, u26, u27, u28, u29, u30, u31, u32, u33, u34, u35, u36], []⟩ ∧ Hid (RwJ lp ab sb g a0 b0 x0 y m hh N cap p cc j J Jx b u19 u20 u21 u22 u23 u24 u25 u26 u27 u28 u29 u30 u31 u32 u33 u34 u35 u36 x)) hmo (by kernel_rfl) ?_ ?_ ?_
      · exact ⟨_, _, _, _, _, _, _, _, _, _, _, _, _, _, _, _, _, _, rfl, ⟨(fun h => (by cases h)), (fun h => (by cases h)), (fun h => (by cases h)), (fun h => (by cases h)), (fun h => (by cases h)), (fun h => (by cases h)), (fun h => (by cases h)), (fun h => (by cases h)), (fun h => (by cases h)), (fun h => (by cases h)), (fun h => (by cases h)), (fun h => (by cases h)), (fun h => (by cases h)), (fun h => (by cases h)), (fun h => (by cases h)), (fun h => (by cases h)), (fun h => (by cases h)), fun _ => ⟨H0.out.1, H0.out.2.1, HJd.out H0.out.2.2⟩, (fun h => (by cases h)), (fun h => (by cases h))⟩⟩
      · intro b a x i o hI hbi ho hpre K' hK
        obtain ⟨u19, u20, u21, u22, u23, u24, u25, u26, u27, u28, u29, u30, u31, u32, u33, u34, u35, u36, rfl, HJ⟩ := hI
        have hi : i < 18 := by have := (Array.getElem?_eq_some_iff.1 ho).1; simpa using this
        rcases (show i = 0 ∨ i = 1 ∨ i = 2 ∨ i = 3 ∨ i = 4 ∨ i = 5 ∨ i = 6 ∨ i = 7 ∨ i = 8 ∨ i = 9 ∨ i = 10 ∨ i = 11 ∨ i = 12 ∨ i = 13 ∨ i = 14 ∨ i = 15 ∨ i = 16 ∨ i = 17 by omega) with rfl | rfl | rfl | rfl | rfl | rfl | rfl | rfl | rfl | rfl | rfl | rfl | rfl | rfl | rfl | rfl | rfl | rfl
        · injection (show some _ = some o from ho) with ho
          subst ho
          have n16 : b 16 = false := by cases h : b 16 with | false => rfl | true => (obtain ⟨j0, j1, j2, j3, j4, j5, j6, j7, j8, j9, j10, j11, j12, j13, j14, j15, j17, e0, e1, e2⟩ := HJ.out; exact absurd (hbi.symm.trans (e2 h).1) (by decide))
          have HN : Hid (RwJ lp ab sb g a0 b0 x0 y m hh N cap p cc j J Jx (fun j => if j = 0 then true else b j) (.func (.yield lp) #[] #[]) u20 u21 u22 u23 u24 u25 u26 u27 u28 u29 u30 u31 u32 u33 u34 u35 u36 x) := by
            obtain ⟨j0, j1, j2, j3, j4, j5, j6, j7, j8, j9, j10, j11, j12, j13, j14, j15, j17, e0, e1, e2⟩ := HJ.out
            exact ⟨fun _ => rfl, j1, j2, j3, j4, j5, j6, j7, j8, j9, j10, j11, j12, j13, j14, j15, j17, e0, e1, (fun h => absurd (n16.symm.trans h) (by decide))⟩
          clear HJ hpre
          go_simp
          exact hK _ _ ⟨_, u20, u21, u22, u23, u24, u25, u26, u27, u28, u29, u30, u31, u32, u33, u34, u35, u36, rfl, HN⟩
        · injection (show some _ = some o from ho) with ho
          subst ho
          have n16 : b 16 = false := by cases h : b 16 with | false => rfl | true => (obtain ⟨j0, j1, j2, j3, j4, j5, j6, j7, j8, j9, j10, j11, j12, j13, j14, j15, j17, e0, e1, e2⟩ := HJ.out; exact absurd (hbi.symm.trans (e2 h).2.1) (by decide))
          have HN : Hid (RwJ lp ab sb g a0 b0 x0 y m hh N cap p cc j J Jx (fun j => if j = 1 then true else b j) u19 (.int .i64 ((y : Int) + (j : Int))) u21 u22 u23 u24 u25 u26 u27 u28 u29 u30 u31 u32 u33 u34 u35 u36 x) := by
            obtain ⟨j0, j1, j2, j3, j4, j5, j6, j7, j8, j9, j10, j11, j12, j13, j14, j15, j17, e0, e1, e2⟩ := HJ.out
            exact ⟨j0, fun _ => rfl, j2, j3, j4, j5, j6, j7, j8, j9, j10, j11, j12, j13, j14, j15, j17, e0, e1, (fun h => absurd (n16.symm.trans h) (by decide))⟩
          clear HJ hpre
          go_simp
          exact hK _ _ ⟨u19, _, u21, u22, u23, u24, u25, u26, u27, u28, u29, u30, u31, u32, u33, u34, u35, u36, rfl, HN⟩
        · injection (show some _ = some o from ho) with ho
          subst ho
          have n16 : b 16 = false := by cases h : b 16 with | false => rfl | true => (obtain ⟨j0, j1, j2, j3, j4, j5, j6, j7, j8, j9, j10, j11, j12, j13, j14, j15, j17, e0, e1, e2⟩ := HJ.out; exact absurd (hbi.symm.trans (e2 h).2.2.1) (by decide))
          have c0 : x.cell? ⟨sb, 0, none⟩ = some (.int .i64 (a0 : Nat)) := by obtain ⟨j0, j1, j2, j3, j4, j5, j6, j7, j8, j9, j10, j11, j12, j13, j14, j15, j17, e0, e1, e2⟩ := HJ.out; rw [(e0 n16).2.1.cell]; rfl
          have c1 : x.cell? ⟨sb, 1, none⟩ = some (.int .i64 (b0 : Nat)) := by obtain ⟨j0, j1, j2, j3, j4, j5, j6, j7, j8, j9, j10, j11, j12, j13, j14, j15, j17, e0, e1, e2⟩ := HJ.out; rw [(e0 n16).2.1.cell]; rfl
          have c2' : x.cell? ⟨sb, 2, none⟩ = some (.slice (some ⟨g, 0, none⟩) N cap) := by obtain ⟨j0, j1, j2, j3, j4, j5, j6, j7, j8, j9, j10, j11, j12, j13, j14, j15, j17, e0, e1, e2⟩ := HJ.out; rw [(e0 n16).2.1.cell]; rfl
          have HN : Hid (RwJ lp ab sb g a0 b0 x0 y m hh N cap p cc j J Jx (fun j => if j = 2 then true else b j) u19 u20 (.agg #[.int .i64 (a0 : Nat), .int .i64 (b0 : Nat), .slice (some ⟨g, 0, none⟩) N cap]) u22 u23 u24 u25 u26 u27 u28 u29 u30 u31 u32 u33 u34 u35 u36 x) := by
            obtain ⟨j0, j1, j2, j3, j4, j5, j6, j7, j8, j9, j10, j11, j12, j13, j14, j15, j17, e0, e1, e2⟩ := HJ.out
            exact ⟨j0, j1, fun _ => rfl, j3, (fun h => absurd (hbi.symm.trans (j4 h).1) (by decide)), j5, j6, j7, j8, j9, j10, j11, j12, j13, j14, j15, j17, e0, e1, (fun h => absurd (n16.symm.trans h) (by decide))⟩
          clear HJ hpre
          go_simp
          exact hK _ _ ⟨u19, u20, _, u22, u23, u24, u25, u26, u27, u28, u29, u30, u31, u32, u33, u34, u35, u36, rfl, HN⟩
        · injection (show some _ = some o from ho) with ho
          subst ho
          have n16 : b 16 = false := by cases h : b 16 with | false => rfl | true => (obtain ⟨j0, j1, j2, j3, j4, j5, j6, j7, j8, j9, j10, j11, j12, j13, j14, j15, j17, e0, e1, e2⟩ := HJ.out; exact absurd (hbi.symm.trans (e2 h).2.2.2.1) (by decide))
          have HN : Hid (RwJ lp ab sb g a0 b0 x0 y m hh N cap p cc j J Jx (fun j => if j = 3 then true else b j) u19 u20 u21 (.int .i64 ((y : Int) + (j : Int))) u23 u24 u25 u26 u27 u28 u29 u30 u31 u32 u33 u34 u35 u36 x) := by
            obtain ⟨j0, j1, j2, j3, j4, j5, j6, j7, j8, j9, j10, j11, j12, j13, j14, j15, j17, e0, e1, e2⟩ := HJ.out
            exact ⟨j0, j1, j2, fun _ => rfl, (fun h => absurd (hbi.symm.trans (j4 h).2.1) (by decide)), j5, j6, j7, j8, j9, j10, j11, j12, j13, j14, j15, j17, e0, e1, (fun h => absurd (n16.symm.trans h) (by decide))⟩
          clear HJ hpre
          go_simp
          exact hK _ _ ⟨u19, u20, u21, _, u23, u24, u25, u26, u27, u28, u29, u30, u31, u32, u33, u34, u35, u36, rfl, HN⟩
        · injection (show some _ = some o from ho) with ho
          subst ho
          have p2 : b 2 = true := hpre 2 (by decide +kernel)
          obtain rfl : u21 = .agg #[.int .i64 (a0 : Nat), .int .i64 (b0 : Nat), .slice (some ⟨g, 0, none⟩) N cap] := by obtain ⟨j0, j1, j2, j3, j4, j5, j6, j7, j8, j9, j10, j11, j12, j13, j14, j15, j17, e0, e1, e2⟩ := HJ.out; exact (j2 p2)
          have p3 : b 3 = true := hpre 3 (by decide +kernel)
          obtain rfl : u22 = .int .i64 ((y : Int) + (j : Int)) := by obtain ⟨j0, j1, j2, j3, j4, j5, j6, j7, j8, j9, j10, j11, j12, j13, j14, j15, j17, e0, e1, e2⟩ := HJ.out; exact (j3 p3)
          have n16 : b 16 = false := by cases h : b 16 with | false => rfl | true => (obtain ⟨j0, j1, j2, j3, j4, j5, j6, j7, j8, j9, j10, j11, j12, j13, j14, j15, j17, e0, e1, e2⟩ := HJ.out; exact absurd (hbi.symm.trans (e2 h).2.2.2.2.1) (by decide))
          have HN : Hid (∀ x', Below x.heap.size x x' → RwJ lp ab sb g a0 b0 x0 y m hh N cap p cc j J Jx (fun j => if j = 4 then true else b j) u19 u20 (.agg #[.int .i64 (a0 : Nat), .int .i64 (b0 : Nat), .slice (some ⟨g, 0, none⟩) N cap]) (.int .i64 ((y : Int) + (j : Int))) (.slice (some ⟨g, p * 11, none⟩) a0 cc) u24 u25 u26 u27 u28 u29 u30 u31 u32 u33 u34 u35 u36 x') := fun x' hb => by
            obtain ⟨j0, j1, j2, j3, j4, j5, j6, j7, j8, j9, j10, j11, j12, j13, j14, j15, j17, e0, e1, e2⟩ := HJ.out
            exact ⟨j0, j1, j2, j3, (fun _ => ⟨p2, p3, rfl⟩), j5, j6, j7, j8, j9, j10, j11, j12, j13, j14, (fun h => absurd (hbi.symm.trans (j15 h).1) (by decide)), j17, (fun _ => ⟨(e0 n16).1.below hb, (e0 n16).2.1.below hb, HJ2.out _ _ _ none (e0 n16).2.2 ⟨hb.os, hb.tape, hb.output, hb.size, fun b hb' _ => hb.block b hb'⟩ (fun r hr => by cases hr)⟩), (fun h => absurd (n16.symm.trans h) (by decide)), (fun h => absurd (n16.symm.trans h) (by decide))⟩
          clear HJ hpre
          go_simp
          refine ⟨trivial, fun h => (by cases h), (callsIn_wide.2 (HRow.out _)).mono ?_⟩
          rintro e x' ⟨rfl, hb⟩
          exact hK _ _ ⟨u19, u20, _, _, _, u24, u25, u26, u27, u28, u29, u30, u31, u32, u33, u34, u35, u36, rfl, HN.out x' hb⟩
        · injection (show some _ = some o from ho) with ho
          subst ho
          have n16 : b 16 = false := by cases h : b 16 with | false => rfl | true => (obtain ⟨j0, j1, j2, j3, j4, j5, j6, j7, j8, j9, j10, j11, j12, j13, j14, j15, j17, e0, e1, e2⟩ := HJ.out; exact absurd (hbi.symm.trans (e2 h).2.2.2.2.2.1) (by decide))
          have HN : Hid (RwJ lp ab sb g a0 b0 x0 y m hh N cap p cc j J Jx (fun j => if j = 5 then true else b j) u19 u20 u21 u22 u23 (.pointer (some ⟨ab, 0, none⟩)) u25 u26 u27 u28 u29 u30 u31 u32 u33 u34 u35 u36 x) := by
            obtain ⟨j0, j1, j2, j3, j4, j5, j6, j7, j8, j9, j10, j11, j12, j13, j14, j15, j17, e0, e1, e2⟩ := HJ.out
            exact ⟨j0, j1, j2, j3, j4, fun _ => rfl, (fun h => absurd (hbi.symm.trans (j6 h).1) (by decide)), j7, j8, j9, j10, j11, j12, j13, j14, j15, j17, e0, e1, (fun h => absurd (n16.symm.trans h) (by decide))⟩
          clear HJ hpre
          go_simp
          exact hK _ _ ⟨u19, u20, u21, u22, u23, _, u25, u26, u27, u28, u29, u30, u31, u32, u33, u34, u35, u36, rfl, HN⟩
        · injection (show some _ = some o from ho) with ho
          subst ho
          have p5 : b 5 = true := hpre 5 (by decide +kernel)
          obtain rfl : u24 = .pointer (some ⟨ab, 0, none⟩) := by obtain ⟨j0, j1, j2, j3, j4, j5, j6, j7, j8, j9, j10, j11, j12, j13, j14, j15, j17, e0, e1, e2⟩ := HJ.out; exact (j5 p5)
          have n16 : b 16 = false := by cases h : b 16 with | false => rfl | true => (obtain ⟨j0, j1, j2, j3, j4, j5, j6, j7, j8, j9, j10, j11, j12, j13, j14, j15, j17, e0, e1, e2⟩ := HJ.out; exact absurd (hbi.symm.trans (e2 h).2.2.2.2.2.2.1) (by decide))
          have HN : Hid (RwJ lp ab sb g a0 b0 x0 y m hh N cap p cc j J Jx (fun j => if j = 6 then true else b j) u19 u20 u21 u22 u23 (.pointer (some ⟨ab, 0, none⟩)) (.pointer (some ⟨ab, 0, none⟩)) u26 u27 u28 u29 u30 u31 u32 u33 u34 u35 u36 x) := by
            obtain ⟨j0, j1, j2, j3, j4, j5, j6, j7, j8, j9, j10, j11, j12, j13, j14, j15, j17, e0, e1, e2⟩ := HJ.out
            exact ⟨j0, j1, j2, j3, j4, j5, fun _ => ⟨p5, rfl⟩, (fun h => absurd (hbi.symm.trans (j7 h).1) (by decide)), j8, j9, j10, j11, j12, j13, j14, j15, j17, e0, e1, (fun h => absurd (n16.symm.trans h) (by decide))⟩
          clear HJ hpre
          go_simp
          exact hK _ _ ⟨u19, u20, u21, u22, u23, _, _, u26, u27, u28, u29, u30, u31, u32, u33, u34, u35, u36, rfl, HN⟩
        · injection (show some _ = some o from ho) with ho
          subst ho
          have p6 : b 6 = true := hpre 6 (by decide +kernel)
          obtain rfl : u25 = .pointer (some ⟨ab, 0, none⟩) := by obtain ⟨j0, j1, j2, j3, j4, j5, j6, j7, j8, j9, j10, j11, j12, j13, j14, j15, j17, e0, e1, e2⟩ := HJ.out; exact (j6 p6).2
          have n16 : b 16 = false := by cases h : b 16 with | false => rfl | true => (obtain ⟨j0, j1, j2, j3, j4, j5, j6, j7, j8, j9, j10, j11, j12, j13, j14, j15, j17, e0, e1, e2⟩ := HJ.out; exact absurd (hbi.symm.trans (e2 h).2.2.2.2.2.2.2.1) (by decide))
          have c0 : x.cell? ⟨ab, 0, none⟩ = some (.int .i64 (x0 : Nat)) := by obtain ⟨j0, j1, j2, j3, j4, j5, j6, j7, j8, j9, j10, j11, j12, j13, j14, j15, j17, e0, e1, e2⟩ := HJ.out; rw [(e0 n16).1.cell]; rfl
          have HN : Hid (RwJ lp ab sb g a0 b0 x0 y m hh N cap p cc j J Jx (fun j => if j = 7 then true else b j) u19 u20 u21 u22 u23 u24 (.pointer (some ⟨ab, 0, none⟩)) (.int .i64 (x0 : Nat)) u27 u28 u29 u30 u31 u32 u33 u34 u35 u36 x) := by
            obtain ⟨j0, j1, j2, j3, j4, j5, j6, j7, j8, j9, j10, j11, j12, j13, j14, j15, j17, e0, e1, e2⟩ := HJ.out
            exact ⟨j0, j1, j2, j3, j4, j5, j6, fun _ => ⟨p6, rfl⟩, j8, j9, j10, j11, j12, j13, j14, (fun h => absurd (hbi.symm.trans (j15 h).2.1) (by decide)), j17, e0, e1, (fun h => absurd (n16.symm.trans h) (by decide))⟩
          clear HJ hpre
          go_simp
          exact hK _ _ ⟨u19, u20, u21, u22, u23, u24, _, _, u27, u28, u29, u30, u31, u32, u33, u34, u35, u36, rfl, HN⟩
        · injection (show some _ = some o from ho) with ho
          subst ho
          have n16 : b 16 = false := by cases h : b 16 with | false => rfl | true => (obtain ⟨j0, j1, j2, j3, j4, j5, j6, j7, j8, j9, j10, j11, j12, j13, j14, j15, j17, e0, e1, e2⟩ := HJ.out; exact absurd (hbi.symm.trans (e2 h).2.2.2.2.2.2.2.2.1) (by decide))
          have HN : Hid (RwJ lp ab sb g a0 b0 x0 y m hh N cap p cc j J Jx (fun j => if j = 8 then true else b j) u19 u20 u21 u22 u23 u24 u25 u26 (.pointer (some ⟨ab, 0, none⟩)) u28 u29 u30 u31 u32 u33 u34 u35 u36 x) := by
            obtain ⟨j0, j1, j2, j3, j4, j5, j6, j7, j8, j9, j10, j11, j12, j13, j14, j15, j17, e0, e1, e2⟩ := HJ.out
            exact ⟨j0, j1, j2, j3, j4, j5, j6, j7, fun _ => rfl, (fun h => absurd (hbi.symm.trans (j9 h).1) (by decide)), j10, j11, j12, j13, j14, j15, j17, e0, e1, (fun h => absurd (n16.symm.trans h) (by decide))⟩
          clear HJ hpre
          go_simp
          exact hK _ _ ⟨u19, u20, u21, u22, u23, u24, u25, u26, _, u28, u29, u30, u31, u32, u33, u34, u35, u36, rfl, HN⟩
        · injection (show some _ = some o from ho) with ho
          subst ho
          have p8 : b 8 = true := hpre 8 (by decide +kernel)
          obtain rfl : u27 = .pointer (some ⟨ab, 0, none⟩) := by obtain ⟨j0, j1, j2, j3, j4, j5, j6, j7, j8, j9, j10, j11, j12, j13, j14, j15, j17, e0, e1, e2⟩ := HJ.out; exact (j8 p8)
          have n16 : b 16 = false := by cases h : b 16 with | false => rfl | true => (obtain ⟨j0, j1, j2, j3, j4, j5, j6, j7, j8, j9, j10, j11, j12, j13, j14, j15, j17, e0, e1, e2⟩ := HJ.out; exact absurd (hbi.symm.trans (e2 h).2.2.2.2.2.2.2.2.2.1) (by decide))
          have HN : Hid (RwJ lp ab sb g a0 b0 x0 y m hh N cap p cc j J Jx (fun j => if j = 9 then true else b j) u19 u20 u21 u22 u23 u24 u25 u26 (.pointer (some ⟨ab, 0, none⟩)) (.pointer (some ⟨ab, 0, none⟩)) u29 u30 u31 u32 u33 u34 u35 u36 x) := by
            obtain ⟨j0, j1, j2, j3, j4, j5, j6, j7, j8, j9, j10, j11, j12, j13, j14, j15, j17, e0, e1, e2⟩ := HJ.out
            exact ⟨j0, j1, j2, j3, j4, j5, j6, j7, j8, fun _ => ⟨p8, rfl⟩, (fun h => absurd (hbi.symm.trans (j10 h).1) (by decide)), j11, j12, j13, j14, j15, j17, e0, e1, (fun h => absurd (n16.symm.trans h) (by decide))⟩
          clear HJ hpre
          go_simp
          exact hK _ _ ⟨u19, u20, u21, u22, u23, u24, u25, u26, _, _, u29, u30, u31, u32, u33, u34, u35, u36, rfl, HN⟩
        · injection (show some _ = some o from ho) with ho
          subst ho
          have p9 : b 9 = true := hpre 9 (by decide +kernel)
          obtain rfl : u28 = .pointer (some ⟨ab, 0, none⟩) := by obtain ⟨j0, j1, j2, j3, j4, j5, j6, j7, j8, j9, j10, j11, j12, j13, j14, j15, j17, e0, e1, e2⟩ := HJ.out; exact (j9 p9).2
          have n16 : b 16 = false := by cases h : b 16 with | false => rfl | true => (obtain ⟨j0, j1, j2, j3, j4, j5, j6, j7, j8, j9, j10, j11, j12, j13, j14, j15, j17, e0, e1, e2⟩ := HJ.out; exact absurd (hbi.symm.trans (e2 h).2.2.2.2.2.2.2.2.2.2.1) (by decide))
          have c0 : x.cell? ⟨ab, 0, none⟩ = some (.int .i64 (x0 : Nat)) := by obtain ⟨j0, j1, j2, j3, j4, j5, j6, j7, j8, j9, j10, j11, j12, j13, j14, j15, j17, e0, e1, e2⟩ := HJ.out; rw [(e0 n16).1.cell]; rfl
          have HN : Hid (RwJ lp ab sb g a0 b0 x0 y m hh N cap p cc j J Jx (fun j => if j = 10 then true else b j) u19 u20 u21 u22 u23 u24 u25 u26 u27 (.pointer (some ⟨ab, 0, none⟩)) (.int .i64 (x0 : Nat)) u30 u31 u32 u33 u34 u35 u36 x) := by
            obtain ⟨j0, j1, j2, j3, j4, j5, j6, j7, j8, j9, j10, j11, j12, j13, j14, j15, j17, e0, e1, e2⟩ := HJ.out
            exact ⟨j0, j1, j2, j3, j4, j5, j6, j7, j8, j9, fun _ => ⟨p9, rfl⟩, j11, j12, j13, (fun h => absurd (hbi.symm.trans (j14 h).1) (by decide)), j15, j17, e0, e1, (fun h => absurd (n16.symm.trans h) (by decide))⟩
          clear HJ hpre
          go_simp
          exact hK _ _ ⟨u19, u20, u21, u22, u23, u24, u25, u26, u27, _, _, u30, u31, u32, u33, u34, u35, u36, rfl, HN⟩
        · injection (show some _ = some o from ho) with ho
          subst ho
          have n16 : b 16 = false := by cases h : b 16 with | false => rfl | true => (obtain ⟨j0, j1, j2, j3, j4, j5, j6, j7, j8, j9, j10, j11, j12, j13, j14, j15, j17, e0, e1, e2⟩ := HJ.out; exact absurd (hbi.symm.trans (e2 h).2.2.2.2.2.2.2.2.2.2.2.1) (by decide))
          have HN : Hid (RwJ lp ab sb g a0 b0 x0 y m hh N cap p cc j J Jx (fun j => if j = 11 then true else b j) u19 u20 u21 u22 u23 u24 u25 u26 u27 u28 u29 (.pointer (some ⟨ab, 2, none⟩)) u31 u32 u33 u34 u35 u36 x) := by
            obtain ⟨j0, j1, j2, j3, j4, j5, j6, j7, j8, j9, j10, j11, j12, j13, j14, j15, j17, e0, e1, e2⟩ := HJ.out
            exact ⟨j0, j1, j2, j3, j4, j5, j6, j7, j8, j9, j10, fun _ => rfl, (fun h => absurd (hbi.symm.trans (j12 h).1) (by decide)), j13, j14, j15, j17, e0, e1, (fun h => absurd (n16.symm.trans h) (by decide))⟩
          clear HJ hpre
          go_simp
          exact hK _ _ ⟨u19, u20, u21, u22, u23, u24, u25, u26, u27, u28, u29, _, u31, u32, u33, u34, u35, u36, rfl, HN⟩
        · injection (show some _ = some o from ho) with ho
          subst ho
          have p11 : b 11 = true := hpre 11 (by decide +kernel)
          obtain rfl : u30 = .pointer (some ⟨ab, 2, none⟩) := by obtain ⟨j0, j1, j2, j3, j4, j5, j6, j7, j8, j9, j10, j11, j12, j13, j14, j15, j17, e0, e1, e2⟩ := HJ.out; exact (j11 p11)
          have n16 : b 16 = false := by cases h : b 16 with | false => rfl | true => (obtain ⟨j0, j1, j2, j3, j4, j5, j6, j7, j8, j9, j10, j11, j12, j13, j14, j15, j17, e0, e1, e2⟩ := HJ.out; exact absurd (hbi.symm.trans (e2 h).2.2.2.2.2.2.2.2.2.2.2.2.1) (by decide))
          have HN : Hid (RwJ lp ab sb g a0 b0 x0 y m hh N cap p cc j J Jx (fun j => if j = 12 then true else b j) u19 u20 u21 u22 u23 u24 u25 u26 u27 u28 u29 (.pointer (some ⟨ab, 2, none⟩)) (.pointer (some ⟨ab, 2, none⟩)) u32 u33 u34 u35 u36 x) := by
            obtain ⟨j0, j1, j2, j3, j4, j5, j6, j7, j8, j9, j10, j11, j12, j13, j14, j15, j17, e0, e1, e2⟩ := HJ.out
            exact ⟨j0, j1, j2, j3, j4, j5, j6, j7, j8, j9, j10, j11, fun _ => ⟨p11, rfl⟩, (fun h => absurd (hbi.symm.trans (j13 h).1) (by decide)), j14, j15, j17, e0, e1, (fun h => absurd (n16.symm.trans h) (by decide))⟩
          clear HJ hpre
          go_simp
          exact hK _ _ ⟨u19, u20, u21, u22, u23, u24, u25, u26, u27, u28, u29, _, _, u32, u33, u34, u35, u36, rfl, HN⟩
        · injection (show some _ = some o from ho) with ho
          subst ho
          have p12 : b 12 = true := hpre 12 (by decide +kernel)
          obtain rfl : u31 = .pointer (some ⟨ab, 2, none⟩) := by obtain ⟨j0, j1, j2, j3, j4, j5, j6, j7, j8, j9, j10, j11, j12, j13, j14, j15, j17, e0, e1, e2⟩ := HJ.out; exact (j12 p12).2
          have n16 : b 16 = false := by cases h : b 16 with | false => rfl | true => (obtain ⟨j0, j1, j2, j3, j4, j5, j6, j7, j8, j9, j10, j11, j12, j13, j14, j15, j17, e0, e1, e2⟩ := HJ.out; exact absurd (hbi.symm.trans (e2 h).2.2.2.2.2.2.2.2.2.2.2.2.2.1) (by decide))
          have c2 : x.cell? ⟨ab, 2, none⟩ = some (.int .i64 (m : Nat)) := by obtain ⟨j0, j1, j2, j3, j4, j5, j6, j7, j8, j9, j10, j11, j12, j13, j14, j15, j17, e0, e1, e2⟩ := HJ.out; rw [(e0 n16).1.cell]; rfl
          have HN : Hid (RwJ lp ab sb g a0 b0 x0 y m hh N cap p cc j J Jx (fun j => if j = 13 then true else b j) u19 u20 u21 u22 u23 u24 u25 u26 u27 u28 u29 u30 (.pointer (some ⟨ab, 2, none⟩)) (.int .i64 (m : Nat)) u33 u34 u35 u36 x) := by
            obtain ⟨j0, j1, j2, j3, j4, j5, j6, j7, j8, j9, j10, j11, j12, j13, j14, j15, j17, e0, e1, e2⟩ := HJ.out
            exact ⟨j0, j1, j2, j3, j4, j5, j6, j7, j8, j9, j10, j11, j12, fun _ => ⟨p12, rfl⟩, (fun h => absurd (hbi.symm.trans (j14 h).2.1) (by decide)), j15, j17, e0, e1, (fun h => absurd (n16.symm.trans h) (by decide))⟩
          clear HJ hpre
          go_simp
          exact hK _ _ ⟨u19, u20, u21, u22, u23, u24, u25, u26, u27, u28, u29, u30, _, _, u33, u34, u35, u36, rfl, HN⟩
        · injection (show some _ = some o from ho) with ho
          subst ho
          have p10 : b 10 = true := hpre 10 (by decide +kernel)
          obtain rfl : u29 = .int .i64 (x0 : Nat) := by obtain ⟨j0, j1, j2, j3, j4, j5, j6, j7, j8, j9, j10, j11, j12, j13, j14, j15, j17, e0, e1, e2⟩ := HJ.out; exact (j10 p10).2
          have p13 : b 13 = true := hpre 13 (by decide +kernel)
          obtain rfl : u32 = .int .i64 (m : Nat) := by obtain ⟨j0, j1, j2, j3, j4, j5, j6, j7, j8, j9, j10, j11, j12, j13, j14, j15, j17, e0, e1, e2⟩ := HJ.out; exact (j13 p13).2
          have n16 : b 16 = false := by cases h : b 16 with | false => rfl | true => (obtain ⟨j0, j1, j2, j3, j4, j5, j6, j7, j8, j9, j10, j11, j12, j13, j14, j15, j17, e0, e1, e2⟩ := HJ.out; exact absurd (hbi.symm.trans (e2 h).2.2.2.2.2.2.2.2.2.2.2.2.2.2.1) (by decide))
          have HN : Hid (RwJ lp ab sb g a0 b0 x0 y m hh N cap p cc j J Jx (fun j => if j = 14 then true else b j) u19 u20 u21 u22 u23 u24 u25 u26 u27 u28 (.int .i64 (x0 : Nat)) u30 u31 (.int .i64 (m : Nat)) (.int .i64 ((x0 : Int) + (m : Int))) u34 u35 u36 x) := by
            obtain ⟨j0, j1, j2, j3, j4, j5, j6, j7, j8, j9, j10, j11, j12, j13, j14, j15, j17, e0, e1, e2⟩ := HJ.out
            exact ⟨j0, j1, j2, j3, j4, j5, j6, j7, j8, j9, j10, j11, j12, j13, fun _ => ⟨p10, p13, rfl⟩, (fun h => absurd (hbi.symm.trans (j15 h).2.2.1) (by decide)), j17, e0, e1, (fun h => absurd (n16.symm.trans h) (by decide))⟩
          clear HJ hpre
          go_simp
          exact hK _ _ ⟨u19, u20, u21, u22, u23, u24, u25, u26, u27, u28, _, u30, u31, _, _, u34, u35, u36, rfl, HN⟩
        · injection (show some _ = some o from ho) with ho
          subst ho
          have p4 : b 4 = true := hpre 4 (by decide +kernel)
          obtain rfl : u23 = .slice (some ⟨g, p * 11, none⟩) a0 cc := by obtain ⟨j0, j1, j2, j3, j4, j5, j6, j7, j8, j9, j10, j11, j12, j13, j14, j15, j17, e0, e1, e2⟩ := HJ.out; exact (j4 p4).2.2
          have p7 : b 7 = true := hpre 7 (by decide +kernel)
          obtain rfl : u26 = .int .i64 (x0 : Nat) := by obtain ⟨j0, j1, j2, j3, j4, j5, j6, j7, j8, j9, j10, j11, j12, j13, j14, j15, j17, e0, e1, e2⟩ := HJ.out; exact (j7 p7).2
          have p14 : b 14 = true := hpre 14 (by decide +kernel)
          obtain rfl : u33 = .int .i64 ((x0 : Int) + (m : Int)) := by obtain ⟨j0, j1, j2, j3, j4, j5, j6, j7, j8, j9, j10, j11, j12, j13, j14, j15, j17, e0, e1, e2⟩ := HJ.out; exact (j14 p14).2.2
          have n16 : b 16 = false := by cases h : b 16 with | false => rfl | true => (obtain ⟨j0, j1, j2, j3, j4, j5, j6, j7, j8, j9, j10, j11, j12, j13, j14, j15, j17, e0, e1, e2⟩ := HJ.out; exact absurd (hbi.symm.trans (e2 h).2.2.2.2.2.2.2.2.2.2.2.2.2.2.2) (by decide))
          have HN : Hid (RwJ lp ab sb g a0 b0 x0 y m hh N cap p cc j J Jx (fun j => if j = 15 then true else b j) u19 u20 u21 u22 (.slice (some ⟨g, p * 11, none⟩) a0 cc) u24 u25 (.int .i64 (x0 : Nat)) u27 u28 u29 u30 u31 u32 (.int .i64 ((x0 : Int) + (m : Int))) (.slice (some ⟨g, p * 11 + x0 * 11, none⟩) m (cc - x0)) u35 u36 x) := by
            obtain ⟨j0, j1, j2, j3, j4, j5, j6, j7, j8, j9, j10, j11, j12, j13, j14, j15, j17, e0, e1, e2⟩ := HJ.out
            exact ⟨j0, j1, j2, j3, j4, j5, j6, j7, j8, j9, j10, j11, j12, j13, j14, fun _ => ⟨p4, p7, p14, rfl⟩, j17, e0, e1, (fun h => absurd (n16.symm.trans h) (by decide))⟩
          clear HJ hpre
          go_simp
          exact hK _ _ ⟨u19, u20, u21, u22, _, u24, u25, _, u27, u28, u29, u30, u31, u32, _, _, u35, u36, rfl, HN⟩
        · injection (show some _ = some o from ho) with ho
          subst ho
          have p0 : b 0 = true := hpre 0 (by decide +kernel)
          obtain rfl : u19 = .func (.yield lp) #[] #[] := by obtain ⟨j0, j1, j2, j3, j4, j5, j6, j7, j8, j9, j10, j11, j12, j13, j14, j15, j17, e0, e1, e2⟩ := HJ.out; exact (j0 p0)
          have p1 : b 1 = true := hpre 1 (by decide +kernel)
          obtain rfl : u20 = .int .i64 ((y : Int) + (j : Int)) := by obtain ⟨j0, j1, j2, j3, j4, j5, j6, j7, j8, j9, j10, j11, j12, j13, j14, j15, j17, e0, e1, e2⟩ := HJ.out; exact (j1 p1)
          have p15 : b 15 = true := hpre 15 (by decide +kernel)
          obtain rfl : u34 = .slice (some ⟨g, p * 11 + x0 * 11, none⟩) m (cc - x0) := by obtain ⟨j0, j1, j2, j3, j4, j5, j6, j7, j8, j9, j10, j11, j12, j13, j14, j15, j17, e0, e1, e2⟩ := HJ.out; exact (j15 p15).2.2.2
          have n16 : b 16 = false := hbi
          have hall : b 0 = true ∧ b 1 = true ∧ b 2 = true ∧ b 3 = true ∧ b 4 = true ∧ b 5 = true ∧ b 6 = true ∧ b 7 = true ∧ b 8 = true ∧ b 9 = true ∧ b 10 = true ∧ b 11 = true ∧ b 12 = true ∧ b 13 = true ∧ b 14 = true ∧ b 15 = true := by
            obtain ⟨j0, j1, j2, j3, j4, j5, j6, j7, j8, j9, j10, j11, j12, j13, j14, j15, j17, e0, e1, e2⟩ := HJ.out
            have q0 : b 0 = true := p0
            have q1 : b 1 = true := p1
            have q15 : b 15 = true := p15
            have q4 : b 4 = true := (j15 p15).1
            have q7 : b 7 = true := (j15 p15).2.1
            have q14 : b 14 = true := (j15 p15).2.2.1
            have q2 : b 2 = true := (j4 q4).1
            have q3 : b 3 = true := (j4 q4).2.1
            have q6 : b 6 = true := (j7 q7).1
            have q5 : b 5 = true := (j6 q6).1
            have q10 : b 10 = true := (j14 q14).1
            have q13 : b 13 = true := (j14 q14).2.1
            have q9 : b 9 = true := (j10 q10).1
            have q8 : b 8 = true := (j9 q9).1
            have q12 : b 12 = true := (j13 q13).1
            have q11 : b 11 = true := (j12 q12).1
            exact ⟨q0, q1, q2, q3, q4, q5, q6, q7, q8, q9, q10, q11, q12, q13, q14, q15⟩
          obtain ⟨fn, tmps, assign, body, hy, hRd⟩ := HB.out x (by obtain ⟨j0, j1, j2, j3, j4, j5, j6, j7, j8, j9, j10, j11, j12, j13, j14, j15, j17, e0, e1, e2⟩ := HJ.out; exact e0 n16)
          have HN : Hid (∀ bb x', (bb = true → Blk x' ab #[.int .i64 (x0 : Nat), .int .i64 (y : Nat), .int .i64 (m : Nat), .int .i64 (hh : Nat)] 52 ∧ Blk x' sb #[.int .i64 (a0 : Nat), .int .i64 (b0 : Nat), .slice (some ⟨g, 0, none⟩) N cap] 26 ∧ J (rwY y (j + 1)) x') ∧ (bb = false → Jx (rwY y (j + 1)) x') → RwJ lp ab sb g a0 b0 x0 y m hh N cap p cc j J Jx (fun j => if j = 16 then true else b j) (.func (.yield lp) #[] #[]) (.int .i64 ((y : Int) + (j : Int))) u21 u22 u23 u24 u25 u26 u27 u28 u29 u30 u31 u32 u33 (.slice (some ⟨g, p * 11 + x0 * 11, none⟩) m (cc - x0)) (.bool bb) u36 x') := fun bb x' hF => by
            obtain ⟨j0, j1, j2, j3, j4, j5, j6, j7, j8, j9, j10, j11, j12, j13, j14, j15, j17, e0, e1, e2⟩ := HJ.out
            exact ⟨j0, j1, j2, j3, j4, j5, j6, j7, j8, j9, j10, j11, j12, j13, j14, j15, (fun h => absurd (hbi.symm.trans (j17 h).1) (by decide)), (fun h => by cases h), (fun _ => ⟨bb, rfl, hF⟩), (fun _ => hall)⟩
          clear HJ hpre
          go_simp
          refine ⟨fun h => (by cases h), hRd.mono ?_⟩
          rintro e x' ⟨bb, rfl, HF⟩
          exact hK _ _ ⟨_, _, u21, u22, u23, u24, u25, u26, u27, u28, u29, u30, u31, u32, u33, _, _, u36, rfl, HN.out bb x' HF.out⟩
        · injection (show some _ = some o from ho) with ho
          subst ho
          have p16 : b 16 = true := hpre 16 (by decide +kernel)
          obtain ⟨bb, rfl⟩ : ∃ bb, u35 = .bool bb := by obtain ⟨j0, j1, j2, j3, j4, j5, j6, j7, j8, j9, j10, j11, j12, j13, j14, j15, j17, e0, e1, e2⟩ := HJ.out; obtain ⟨bb, h, _⟩ := e1 p16; exact ⟨bb, h⟩
          have HN : Hid (RwJ lp ab sb g a0 b0 x0 y m hh N cap p cc j J Jx (fun j => if j = 17 then true else b j) u19 u20 u21 u22 u23 u24 u25 u26 u27 u28 u29 u30 u31 u32 u33 u34 (.bool bb) (.bool (!bb)) x) := by
            obtain ⟨j0, j1, j2, j3, j4, j5, j6, j7, j8, j9, j10, j11, j12, j13, j14, j15, j17, e0, e1, e2⟩ := HJ.out
            exact ⟨j0, j1, j2, j3, j4, j5, j6, j7, j8, j9, j10, j11, j12, j13, j14, j15, (fun _ => ⟨p16, rfl⟩), e0, e1, e2⟩
          clear HJ hpre
          go_simp
          exact hK _ _ ⟨u19, u20, u21, u22, u23, u24, u25, u26, u27, u28, u29, u30, u31, u32, u33, u34, _, _, rfl, HN⟩
      · rintro b a' x' ⟨u19, u20, u21, u22, u23, u24, u25, u26, u27, u28, u29, u30, u31, u32, u33, u34, u35, u36, rfl, HJ⟩ hall
        obtain ⟨bb, rfl, F1, F2⟩ : ∃ bb, u35 = .bool bb ∧ (bb = true → Blk x' ab #[.int .i64 (x0 : Nat), .int .i64 (y : Nat), .int .i64 (m : Nat), .int .i64 (hh : Nat)] 52 ∧ Blk x' sb #[.int .i64 (a0 : Nat), .int .i64 (b0 : Nat), .slice (some ⟨g, 0, none⟩) N cap] 26 ∧ J (rwY y (j + 1)) x') ∧ (bb = false → Jx (rwY y (j + 1)) x') := by
          obtain ⟨j0, j1, j2, j3, j4, j5, j6, j7, j8, j9, j10, j11, j12, j13, j14, j15, j17, e0, e1, e2⟩ := HJ.out
          exact e1 (hall 16 (by decide))
        obtain rfl : u36 = .bool (!bb) := by
          obtain ⟨j0, j1, j2, j3, j4, j5, j6, j7, j8, j9, j10, j11, j12, j13, j14, j15, j17, e0, e1, e2⟩ := HJ.out
          exact (j17 (hall 17 (by decide))).2
        have HF1 : Hid (bb = true → Blk x' ab #[.int .i64 (x0 : Nat), .int .i64 (y : Nat), .int .i64 (m : Nat), .int .i64 (hh : Nat)] 52 ∧ Blk x' sb #[.int .i64 (a0 : Nat), .int .i64 (b0 : Nat), .slice (some ⟨g, 0, none⟩) N cap] 26 ∧ J (rwY y (j + 1)) x') := F1
        have HF2 : Hid (bb = false → Jx (rwY y (j + 1)) x') := F2
        clear F1 F2 hall HJ H0 HB HRow HJd HJ2
        cases bb
        · have HX : Hid (Jx (rwY y (j + 1)) x') := HF2.out rfl
          clear HF1 HF2
          gi_wp2
          exact bodyPost_ret (v := .tuple #[]) (by simp [results, Tryz.results125, go_sem]) rfl ⟨⟨_, rfl⟩, .inr ⟨rwY y (j + 1), rwY_pre (by omega), HX.out⟩⟩
        · have HK2 : Hid (Blk x' ab #[.int .i64 (x0 : Nat), .int .i64 (y : Nat), .int .i64 (m : Nat), .int .i64 (hh : Nat)] 52 ∧ Blk x' sb #[.int .i64 (a0 : Nat), .int .i64 (b0 : Nat), .slice (some ⟨g, 0, none⟩) N cap] 26 ∧ J (rwY y (j + 1)) x') := HF1.out rfl
          clear HF1 HF2
          gi_wp2_with fail
          exact ⟨⟨j + 1, by omega, by simp [Int.add_assoc], HK2⟩, by simp [intOf]; omega⟩
    · obtain rfl : hh = j := by omega
      gi_wp2
      go_end0
      exact ⟨⟨_, rfl⟩, .inl ⟨_, rfl, HR.out.2.2⟩⟩

end Go.Proofs.YtapachlhdgehjaaGreatDoor
