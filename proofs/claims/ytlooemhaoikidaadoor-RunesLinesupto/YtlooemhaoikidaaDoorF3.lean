/-
  The contract of the document's pieces.
-/
import Derived.Test.YtlooemhaoikidaaDoorF2
import Derived.Lib.RuneCountTail
import Derived.Lib.QuoteLoop
namespace Go.Proofs.YtlooemhaoikidaaDoor
open Go.RowKit Go.Shelf

theorem tail_size (s : ByteArray) (q : Nat) : (s.extract q s.size).size = s.size - q := by simp
theorem oR_tail (s : ByteArray) (q : Nat) : oR (s.extract q s.size) = rn s q := by unfold oR; rw [Lib.tail_decode]; rfl
theorem oZ_tail (s : ByteArray) (q : Nat) : oZ (s.extract q s.size) = sz s q := by unfold oZ; rw [Lib.tail_decode]; rfl
theorem sz_le (s : ByteArray) (q : Nat) (h : q < s.size) : q + sz s q ≤ s.size := by
  have := Lib.width_le (s.extract q s.size) (by rw [tail_size]; omega)
  rw [Lib.tail_decode, tail_size] at this
  have e : (Utf8.decode s (q + 0)).2 = sz s q := rfl
  rw [e] at this
  omega

theorem grow_fuel (s : ByteArray) : ∀ (f g a r q : Nat), s.size < f + q → s.size < g + q → 0 < f → 0 < g → grow s f a r q = grow s g a r q
  | 0, _, _, _, _, _, _, h, _ => absurd h (by omega)
  | _ + 1, 0, _, _, _, _, _, _, h => absurd h (by omega)
  | f + 1, g + 1, a, r, q, h1, h2, _, _ => by
    have hp := sz_pos s q
    by_cases hq : q < s.size
    · cases hm : (mrk (rn s q) && !ctl r)
      · rw [grow_out hq hm, grow_out hq hm, grow_fuel s f g q (rn s q) (q + sz s q) (by omega) (by omega) (by omega) (by omega)]
      · rw [grow_in hq hm, grow_in hq hm, grow_fuel s f g a r (q + sz s q) (by omega) (by omega) (by omega) (by omega)]
    · rw [grow_end hq, grow_end hq]
/-- The pieces from a place on at which one begins. -/
def T (s : ByteArray) (a : Nat) : List Pc := if a < s.size then grow s (s.size + 1) a (rn s a) (a + sz s a) else []
theorem pcs_T (s : ByteArray) : pcs s = T s 0 := by
  unfold pcs T
  by_cases h : s.size = 0
  · rw [if_pos h, if_neg (by omega)]
  · have := sz_pos s 0
    rw [if_neg h, if_pos (by omega), Nat.zero_add]
    exact grow_fuel s _ _ _ _ _ (by omega) (by omega) (by omega) (by omega)
theorem T_stop (s : ByteArray) (a r q : Nat) (h : (q < s.size ∧ (mrk (rn s q) && !ctl r) = false) ∨ q = s.size) : grow s (s.size + 1) a r q = ⟨a, q, r⟩ :: T s q := by
  rcases h with ⟨hq, hm⟩ | hq
  · have := sz_pos s q
    rw [grow_out hq hm, T, if_pos hq]
    rw [grow_fuel s s.size (s.size + 1) q (rn s q) (q + sz s q) (by omega) (by omega) (by omega) (by omega)]
  · rw [grow_end (by omega), T, if_neg (by omega), hq]
theorem T_go (s : ByteArray) (a r q : Nat) (hq : q < s.size) (hm : (mrk (rn s q) && !ctl r) = true) : grow s (s.size + 1) a r q = grow s (s.size + 1) a r (q + sz s q) := by
  have := sz_pos s q
  rw [grow_in hq hm]
  exact grow_fuel s _ _ _ _ _ (by omega) (by omega) (by omega) (by omega)

theorem T_ne (s : ByteArray) : ∀ (a r q : Nat), grow s (s.size + 1) a r q ≠ [] := by
  intro a r q h
  have key : ∀ f a r q, s.size < f + q → 0 < f → grow s f a r q ≠ [] := by
    intro f
    induction f with
    | zero => intro a r q _ h; omega
    | succ f ih =>
      intro a r q h _
      have hp := sz_pos s q
      by_cases hq : q < s.size
      · cases hm : (mrk (rn s q) && !ctl r)
        · rw [grow_out hq hm]; simp
        · rw [grow_in hq hm]; exact ih _ _ _ (by omega) (by omega)
      · rw [grow_end hq]; simp
  exact key _ _ _ _ (by omega) (by omega) h

abbrev pcC (a q r : Nat) : Array Value := #[.int .i64 a, .int .i64 q, .int .i32 r, .int .i64 (width r)]
def flatP (l : List Pc) : List Value := (l.map fun x => (pcC x.fr x.to x.r).toList).flatten
theorem flatP_snoc (l : List Pc) (x : Pc) : flatP (l ++ [x]) = flatP l ++ (pcC x.fr x.to x.r).toList := by simp [flatP]
theorem info_piece : (Tryd.prog.info? 51).map (fun i => (i.zero, i.size, i.bytes)) = some (some (.agg #[.int .i64 0, .int .i64 0, .int .i32 0, .int .i64 0]), 4, 32) := by kernel_rfl
def toAt (w : World) (b : Nat) : Nat := match w.heap[b]? with
  | some (.cells cs _ _) => (intOf (cs.getD 1 undef)).toNat
  | _ => 0
theorem toAt_of {w : World} {b a q r : Nat} {t : TypeId} (h : Blk w b (pcC a q r) t) : toAt w b = q := by
  unfold toAt
  rw [show w.heap[b]? = _ from h]
  simp [pcC, intOf]
theorem cellFour (w : World) (x y n m : Value) (t : TypeId) : ∀ (j : Nat) (u : Value), [x, y, n, m][j]? = some u → (w.alloc (.cells #[x, y, n, m] t)).cell? ((⟨w.heap.size, 0, none⟩ : Addr).add j) = some u := by
  intro j u hj
  match j, hj with
  | 0, hj => simp at hj; subst hj; simp [Addr.add]
  | 1, hj => simp at hj; subst hj; simp [Addr.add]
  | 2, hj => simp at hj; subst hj; simp [Addr.add]
  | 3, hj => simp at hj; subst hj; simp [Addr.add]
theorem oneFour (a q r : Nat) : ∀ u ∈ (pcC a q r).toList, u.oneCell' = true := by
  intro u hu
  simp at hu
  rcases hu with rfl | rfl | rfl | rfl <;> rfl

set_option maxRecDepth 10000 in
set_option maxHeartbeats 2000000 in
theorem rpieces_any (s : ByteArray) (w : World) (hs : s.size ≤ 1048576) :
    Calls Tryd.prog 33 #[.string s] w fun e w' => ∃ v, e = .returned v ∧ w'.ownsRow w.heap.size 51 4 v (pcs s).length (flatP (pcs s)) ∧ Below w.heap.size w w' := by
  obtain ⟨i0, hi, hz0, hz1, hz2⟩ := info_parts info_piece
  have HI : Hid (Tryd.prog.info? 51 = some i0 ∧ i0.zero = some (.agg #[.int .i64 0, .int .i64 0, .int .i32 0, .int .i64 0]) ∧ i0.size = 4 ∧ i0.bytes = 32) := ⟨hi, hz0, hz1, hz2⟩
  clear hi hz0 hz1 hz2
  have hpl := pcs_len s
  go_enter Tryd.func33, Tryd.ntmps33
  go_wp2_with fail
  go_loopw [3, 4] (fun v a wr => ∃ (pre : List Pc) (q : Nat), a = .int .i64 q ∧ q ≤ s.size ∧ pcs s = pre ++ T s q ∧ wr.ownsRow w.heap.size 51 4 v pre.length (flatP pre) ∧ Below w.heap.size w wr) (fun _ a _ => s.size - (intOf a).toNat)
  case atStart => exact ⟨[], 0, rfl, Nat.zero_le _, pcs_T s, World.ownsRow_nil _ _ _ _, Below.refl _ _⟩
  case round =>
    obtain ⟨pre, a, rfl, ha, heq, hown, hbr⟩ := hrel
    by_cases hlt : a < s.size
    · obtain ⟨r, hr⟩ : ∃ r, r = rn s a := ⟨_, rfl⟩
      obtain ⟨z, hz⟩ : ∃ z, z = sz s a := ⟨_, rfl⟩
      have hz1 : 1 ≤ z := by rw [hz]; exact sz_pos s a
      have hz2 : a + z ≤ s.size := by rw [hz]; exact sz_le s a hlt
      have HE : Hid (pcs s = pre ++ grow s (s.size + 1) a r (a + z) ∧ wr.ownsRow w.heap.size 51 4 u3 pre.length (flatP pre) ∧ Below w.heap.size w wr ∧ r = rn s a ∧ z = sz s a) := by
        refine ⟨?_, hown, hbr, hr, hz⟩
        rw [heq, T, if_pos hlt, hr, hz]
      have hpn : pre.length < 1048576 := by
        have e := congrArg List.length heq
        have h1 : 0 < (T s a).length := by
          rw [T, if_pos hlt]
          have hh := T_ne s a (rn s a) (a + sz s a)
          exact List.length_pos_iff.2 hh
        rw [List.length_append] at e
        omega
      clear heq hown hbr hr hz
      go_wp2_with fail
      refine (one_any (s.extract a s.size) wr (by rw [tail_size]; omega)).mono ?_
      rintro e w1 ⟨rfl, rfl⟩
      rw [oR_tail, oZ_tail, show rn s a = r from HE.out.2.2.2.1.symm, show sz s a = z from HE.out.2.2.2.2.symm]
      generalize oB (s.extract a s.size) = bb
      go_wp2_with fail
      refine (rwidth_any _ _).mono ?_
      rintro e w2 ⟨rfl, hb2⟩
      have H2 : Hid (pcs s = pre ++ grow s (s.size + 1) a r (a + z) ∧ w2.ownsRow w.heap.size 51 4 u3 pre.length (flatP pre) ∧ Below w.heap.size w w2) := by
        obtain ⟨h1, h2, h3, _⟩ := HE.out
        exact ⟨h1, row_below h2 hb2, h3.trans (hb2.mono h3.size)⟩
      clear hb2
      go_wp2_with fail
      obtain ⟨wb, hwb⟩ : ∃ wb, wb = w2.heap.size := ⟨_, rfl⟩
      have HWB : Hid (wb = w2.heap.size) := hwb
      rw [← hwb]
      have start : Blk (w2.alloc (.cells #[.int .i64 a, .int .i64 ((a : Int) + z), .int .i32 r, .int .i64 (width r)] 51)) wb (pcC a (a + z) r) 51 := by
        have h := Blk.new w2 (pcC a (a + z) r) 51
        rw [hwb]
        simpa [pcC] using h
      obtain ⟨wS, hwS⟩ : ∃ wS, wS = w2.alloc (.cells #[.int .i64 a, .int .i64 ((a : Int) + z), .int .i32 r, .int .i64 (width r)] 51) := ⟨_, rfl⟩
      rw [← hwS] at start
      have HSt : Hid (Blk wS wb (pcC a (a + z) r) 51 ∧ wS.ownsRow w.heap.size 51 4 u3 pre.length (flatP pre) ∧ Below w.heap.size w wS) := by
        obtain ⟨h1, h2, h3⟩ := H2.out
        refine ⟨start, ?_, ?_⟩
        · rw [hwS]; exact row_below h2 ((Below.refl _ _).alloc (Nat.le_refl _) _)
        · rw [hwS]; exact h3.alloc h3.size _
      rw [← hwS]
      clear hwb start hwS
      go_loopw [] (fun wq => ∃ q : Nat, Blk wq wb (pcC a q r) 51 ∧ a < q ∧ q ≤ s.size ∧ pcs s = pre ++ grow s (s.size + 1) a r q ∧ wq.ownsRow w.heap.size 51 4 u3 pre.length (flatP pre) ∧ Below w.heap.size w wq) (fun wq => s.size - toAt wq wb)
      case atStart => exact ⟨a + z, HSt.out.1, by omega, hz2, H2.out.1, HSt.out.2.1, HSt.out.2.2⟩
      case round =>
        obtain ⟨q, kb, hq1, hq2, heq, hown, hbr⟩ := hrel
        obtain ⟨d0, d1, d2, d3⟩ := kb.at4
        have f1 := kb.frozen 1
        have HQ0 : Hid (Blk wr wb (pcC a q r) 51 ∧ pcs s = pre ++ grow s (s.size + 1) a r q ∧ wr.ownsRow w.heap.size 51 4 u3 pre.length (flatP pre) ∧ Below w.heap.size w wr) := ⟨kb, heq, hown, hbr⟩
        have HQ2 : Hid (q ≤ s.size ∧ a < q) := ⟨hq2, hq1⟩
        clear kb heq hown hbr
        go_wp2_with fail
        refine (rcontrol_any _ _).mono ?_
        rintro e wx ⟨rfl, rfl⟩
        cases hc : ctl r
        · by_cases hq3 : q < s.size
          · go_wp2_with fail
            refine (one_any (s.extract q s.size) wx (by rw [tail_size]; omega)).mono ?_
            rintro e wy ⟨rfl, rfl⟩
            obtain ⟨m, hm⟩ : ∃ m, m = rn s q := ⟨_, rfl⟩
            obtain ⟨y, hy⟩ : ∃ y, y = sz s q := ⟨_, rfl⟩
            have hy1 : 1 ≤ y := by rw [hy]; exact sz_pos s q
            have hy2 : q + y ≤ s.size := by rw [hy]; exact sz_le s q hq3
            rw [oR_tail, oZ_tail, show rn s q = m from hm.symm, show sz s q = y from hy.symm]
            generalize oB (s.extract q s.size) = bc
            have HMY : Hid (m = rn s q ∧ y = sz s q) := ⟨hm, hy⟩
            clear hm hy
            go_wp2_with fail
            refine (rmark_any _ _).mono ?_
            rintro e w3 ⟨rfl, hb3⟩
            have HQ3 : Hid (Blk w3 wb (pcC a q r) 51 ∧ pcs s = pre ++ grow s (s.size + 1) a r q ∧ w3.ownsRow w.heap.size 51 4 u3 pre.length (flatP pre) ∧ Below w.heap.size w w3) := by
              obtain ⟨h1, h2, h3, h4⟩ := HQ0.out
              exact ⟨h1.below hb3, h2, row_below h3 hb3, h4.trans (hb3.mono h4.size)⟩
            clear hb3 d0 d1 d2 d3 f1
            cases hmk : mrk m
            · have HQ : Hid (Blk w3 wb (pcC a q r) 51 ∧ pcs s = pre ++ (⟨a, q, r⟩ :: T s q) ∧ w3.ownsRow w.heap.size 51 4 u3 pre.length (flatP pre) ∧ Below w.heap.size w w3) := by
                obtain ⟨h1, h2, h3, h4⟩ := HQ3.out
                refine ⟨h1, ?_, h3, h4⟩
                rw [h2, T_stop s a r q (.inl ⟨hq3, by rw [show rn s q = m from HMY.out.1.symm, hmk]; rfl⟩)]
              obtain ⟨hi, hz0, hz1, hz2⟩ := HI.out
              have hc3 : Hid (pre.length + 1 ≤ maxLen) := by unfold Hid maxLen; omega
              have hc4 : Hid ((pre.length + 1) * 32 ≤ 140737488355328) := by unfold Hid; omega
              have Hown : Hid (∀ o1, (w3.alloc o1).ownsRow w.heap.size 51 4 u3 pre.length (flatP pre)) := fun o1 => row_below HQ.out.2.2.1 ((Below.refl _ w3).alloc (Nat.le_refl _) o1)
              have hc5 : Hid (∀ o1, w.heap.size ≤ (w3.alloc o1).heap.size) := by intro o1; have := HQ.out.2.2.2.size; simp; omega
              obtain ⟨c0, c1, c2, c3⟩ := HQ.out.1.at4
              go_wp2_with (at_builtin; refine wpList_append_own _ rfl _ _ 48 rfl w.heap.size 51 i0 (.agg #[.int .i64 0, .int .i64 0, .int .i32 0, .int .i64 0]) 4 32 Tryd.underlying48 hi hz0 hz1 hz2 rfl (by decide) u3 pre.length (flatP pre) rfl (Hown.out _) _ 1 1 (pcC a q r).toList rfl rfl (cellFour _ _ _ _ _ _) (oneFour _ _ _) hc3.out hc4.out (hc5.out _) ?_)
              intro v' w4 hown' hgrow hnil
              have R : w4.ownsRow w.heap.size 51 4 v' (pre ++ [(⟨a, q, r⟩ : Pc)]).length (flatP (pre ++ [(⟨a, q, r⟩ : Pc)])) ∧ Below w.heap.size w w4 ∧ Blk w4 wb (pcC a q r) 51 := by
                obtain ⟨k1, k2, k3, k4⟩ := HQ.out
                have ar := Hown.out (.cells (pcC a q r) 51)
                have b2 : Below w3.heap.size w3 (w3.alloc (.cells (pcC a q r) 51)) := (Below.refl _ _).alloc (Nat.le_refl _) _
                refine ⟨?_, (k4.alloc k4.size _).grown hgrow (hc5.out _) (fun g hg => (row_lt ar g hg).1), ?_⟩
                · rw [List.length_append, flatP_snoc]; exact hown'
                · refine (hgrow.block wb (k1.below b2).lt (fun e => ?_)).trans (k1.below b2)
                  have := (row_lt H2.out.2.1 wb e.symm).2
                  have := HWB.out
                  omega
              have HR4 : Hid (w4.ownsRow w.heap.size 51 4 v' (pre ++ [(⟨a, q, r⟩ : Pc)]).length (flatP (pre ++ [(⟨a, q, r⟩ : Pc)])) ∧ Below w.heap.size w w4) := ⟨R.1, R.2.1⟩
              obtain ⟨e0, e1, e2, e3⟩ := R.2.2.at4
              clear R hown' hgrow hnil hi hz0 hz1 hz2 c0 c1 c2 c3
              go_wp2
              go_roundw
              case rel => exact ⟨pre ++ [(⟨a, q, r⟩ : Pc)], q, rfl, HQ2.out.1, by rw [HQ.out.2.1]; simp, HR4.out.1, HR4.out.2⟩
              case measure => have := HQ2.out.2; simp [intOf]; omega
            · obtain ⟨d0, d1, d2, d3⟩ := HQ3.out.1.at4
              have f1 := HQ3.out.1.frozen 1
              go_wp2
              go_roundw
              case rel =>
                obtain ⟨h1, h2, h3, h4⟩ := HQ3.out
                refine ⟨q + y, ?_, by omega, hy2, ?_, row_set' h3 _ _ (fun g hg => ?_), h4.setCell (p := ⟨wb, 1, none⟩) ?_ _⟩
                · have h := h1.put41 (.int .i64 ((q + y : Nat) : Int))
                  simpa [pcC] using h
                · rw [h2, T_go s a r q hq3 (by rw [show rn s q = m from HMY.out.1.symm, hmk, hc]; rfl), show sz s q = y from HMY.out.2.symm]
                · have := (row_lt H2.out.2.1 g hg).2; have := HWB.out; simp; omega
                · have := H2.out.2.2.size; have := HWB.out; simp; omega
              case measure =>
                have e1 := toAt_of HQ0.out.1
                have e2 : toAt (w3.setCell ⟨wb, 1, none⟩ (.int .i64 ((q : Int) + y))) wb = q + y := by
                  have h := HQ3.out.1.put41 (.int .i64 ((q + y : Nat) : Int))
                  have h' : Blk (w3.setCell ⟨wb, 1, none⟩ (.int .i64 ((q : Int) + y))) wb (pcC a (q + y) r) 51 := by simpa [pcC] using h
                  exact toAt_of h'
                rw [e1, e2]; omega
          · have HQ : Hid (Blk wx wb (pcC a q r) 51 ∧ pcs s = pre ++ (⟨a, q, r⟩ :: T s q) ∧ wx.ownsRow w.heap.size 51 4 u3 pre.length (flatP pre) ∧ Below w.heap.size w wx) := by
              obtain ⟨h1, h2, h3, h4⟩ := HQ0.out
              refine ⟨h1, ?_, h3, h4⟩
              rw [h2, T_stop s a r q (.inr (by omega))]
            clear d0 d1 d2 d3 f1
            obtain ⟨hi, hz0, hz1, hz2⟩ := HI.out
            have hc3 : Hid (pre.length + 1 ≤ maxLen) := by unfold Hid maxLen; omega
            have hc4 : Hid ((pre.length + 1) * 32 ≤ 140737488355328) := by unfold Hid; omega
            have Hown : Hid (∀ o1, (wx.alloc o1).ownsRow w.heap.size 51 4 u3 pre.length (flatP pre)) := fun o1 => row_below HQ.out.2.2.1 ((Below.refl _ wx).alloc (Nat.le_refl _) o1)
            have hc5 : Hid (∀ o1, w.heap.size ≤ (wx.alloc o1).heap.size) := by intro o1; have := HQ.out.2.2.2.size; simp; omega
            obtain ⟨c0, c1, c2, c3⟩ := HQ.out.1.at4
            go_wp2_with (at_builtin; refine wpList_append_own _ rfl _ _ 48 rfl w.heap.size 51 i0 (.agg #[.int .i64 0, .int .i64 0, .int .i32 0, .int .i64 0]) 4 32 Tryd.underlying48 hi hz0 hz1 hz2 rfl (by decide) u3 pre.length (flatP pre) rfl (Hown.out _) _ 1 1 (pcC a q r).toList rfl rfl (cellFour _ _ _ _ _ _) (oneFour _ _ _) hc3.out hc4.out (hc5.out _) ?_)
            intro v' w4 hown' hgrow hnil
            have R : w4.ownsRow w.heap.size 51 4 v' (pre ++ [(⟨a, q, r⟩ : Pc)]).length (flatP (pre ++ [(⟨a, q, r⟩ : Pc)])) ∧ Below w.heap.size w w4 ∧ Blk w4 wb (pcC a q r) 51 := by
              obtain ⟨k1, k2, k3, k4⟩ := HQ.out
              have ar := Hown.out (.cells (pcC a q r) 51)
              have b2 : Below wx.heap.size wx (wx.alloc (.cells (pcC a q r) 51)) := (Below.refl _ _).alloc (Nat.le_refl _) _
              refine ⟨?_, (k4.alloc k4.size _).grown hgrow (hc5.out _) (fun g hg => (row_lt ar g hg).1), ?_⟩
              · rw [List.length_append, flatP_snoc]; exact hown'
              · refine (hgrow.block wb (k1.below b2).lt (fun e => ?_)).trans (k1.below b2)
                have := (row_lt H2.out.2.1 wb e.symm).2
                have := HWB.out
                omega
            have HR4 : Hid (w4.ownsRow w.heap.size 51 4 v' (pre ++ [(⟨a, q, r⟩ : Pc)]).length (flatP (pre ++ [(⟨a, q, r⟩ : Pc)])) ∧ Below w.heap.size w w4) := ⟨R.1, R.2.1⟩
            obtain ⟨e0, e1, e2, e3⟩ := R.2.2.at4
            clear R hown' hgrow hnil hi hz0 hz1 hz2 c0 c1 c2 c3
            go_wp2
            go_roundw
            case rel => exact ⟨pre ++ [(⟨a, q, r⟩ : Pc)], q, rfl, HQ2.out.1, by rw [HQ.out.2.1]; simp, HR4.out.1, HR4.out.2⟩
            case measure => have := HQ2.out.2; simp [intOf]; omega
        · have HQ : Hid (Blk wx wb (pcC a q r) 51 ∧ pcs s = pre ++ (⟨a, q, r⟩ :: T s q) ∧ wx.ownsRow w.heap.size 51 4 u3 pre.length (flatP pre) ∧ Below w.heap.size w wx) := by
            obtain ⟨h1, h2, h3, h4⟩ := HQ0.out
            refine ⟨h1, ?_, h3, h4⟩
            rcases (show q < s.size ∨ q = s.size by omega) with hq3 | hq3
            · rw [h2, T_stop s a r q (.inl ⟨hq3, by rw [hc]; simp⟩)]
            · rw [h2, T_stop s a r q (.inr hq3)]
          clear d0 d1 d2 d3 f1
          obtain ⟨hi, hz0, hz1, hz2⟩ := HI.out
          have hc3 : Hid (pre.length + 1 ≤ maxLen) := by unfold Hid maxLen; omega
          have hc4 : Hid ((pre.length + 1) * 32 ≤ 140737488355328) := by unfold Hid; omega
          have Hown : Hid (∀ o1, (wx.alloc o1).ownsRow w.heap.size 51 4 u3 pre.length (flatP pre)) := fun o1 => row_below HQ.out.2.2.1 ((Below.refl _ wx).alloc (Nat.le_refl _) o1)
          have hc5 : Hid (∀ o1, w.heap.size ≤ (wx.alloc o1).heap.size) := by intro o1; have := HQ.out.2.2.2.size; simp; omega
          obtain ⟨c0, c1, c2, c3⟩ := HQ.out.1.at4
          go_wp2_with (at_builtin; refine wpList_append_own _ rfl _ _ 48 rfl w.heap.size 51 i0 (.agg #[.int .i64 0, .int .i64 0, .int .i32 0, .int .i64 0]) 4 32 Tryd.underlying48 hi hz0 hz1 hz2 rfl (by decide) u3 pre.length (flatP pre) rfl (Hown.out _) _ 1 1 (pcC a q r).toList rfl rfl (cellFour _ _ _ _ _ _) (oneFour _ _ _) hc3.out hc4.out (hc5.out _) ?_)
          intro v' w4 hown' hgrow hnil
          have R : w4.ownsRow w.heap.size 51 4 v' (pre ++ [(⟨a, q, r⟩ : Pc)]).length (flatP (pre ++ [(⟨a, q, r⟩ : Pc)])) ∧ Below w.heap.size w w4 ∧ Blk w4 wb (pcC a q r) 51 := by
            obtain ⟨k1, k2, k3, k4⟩ := HQ.out
            have ar := Hown.out (.cells (pcC a q r) 51)
            have b2 : Below wx.heap.size wx (wx.alloc (.cells (pcC a q r) 51)) := (Below.refl _ _).alloc (Nat.le_refl _) _
            refine ⟨?_, (k4.alloc k4.size _).grown hgrow (hc5.out _) (fun g hg => (row_lt ar g hg).1), ?_⟩
            · rw [List.length_append, flatP_snoc]; exact hown'
            · refine (hgrow.block wb (k1.below b2).lt (fun e => ?_)).trans (k1.below b2)
              have := (row_lt H2.out.2.1 wb e.symm).2
              have := HWB.out
              omega
          have HR4 : Hid (w4.ownsRow w.heap.size 51 4 v' (pre ++ [(⟨a, q, r⟩ : Pc)]).length (flatP (pre ++ [(⟨a, q, r⟩ : Pc)])) ∧ Below w.heap.size w w4) := ⟨R.1, R.2.1⟩
          obtain ⟨e0, e1, e2, e3⟩ := R.2.2.at4
          clear R hown' hgrow hnil hi hz0 hz1 hz2 c0 c1 c2 c3
          go_wp2
          go_roundw
          case rel => exact ⟨pre ++ [(⟨a, q, r⟩ : Pc)], q, rfl, HQ2.out.1, by rw [HQ.out.2.1]; simp, HR4.out.1, HR4.out.2⟩
          case measure => have := HQ2.out.2; simp [intOf]; omega
    · go_wp2
      go_ret
      have e : a = s.size := by omega
      subst e
      rw [T, if_neg (by omega), List.append_nil] at heq
      subst heq
      exact ⟨u3, rfl, hown, hbr⟩

end Go.Proofs.YtlooemhaoikidaaDoor
