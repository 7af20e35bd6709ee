/-
  The calls of package flex: begins, Starts, Row.
-/
import Derived.Test.YthnhcphkpffkfaaGreatXH
namespace Go.Proofs.YthnhcphkpffkfaaGreat
open Go.RowKit

def bgK (gap : Int) (xs : List Int) (k : Nat) : List Int := bgs gap 0 (xs.take k) ++ List.replicate (xs.length - k) 0
theorem bgK_len (gap : Int) (xs : List Int) (k : Nat) (h : k ≤ xs.length) : (bgK gap xs k).length = xs.length := by
  unfold bgK
  rw [List.length_append, bgs_len, List.length_take, List.length_replicate]
  omega
theorem bgK_next {gap : Int} {xs : List Int} {k : Nat} (h : k < xs.length) : (bgK gap xs k).set k (bgE gap 0 (xs.take k)) = bgK gap xs (k + 1) := by
  unfold bgK
  obtain ⟨m, hm⟩ : ∃ m, xs.length - k = m + 1 := ⟨xs.length - k - 1, by omega⟩
  have hl : (bgs gap 0 (xs.take k)).length = k := by rw [bgs_len]; simp; omega
  rw [List.set_append_right _ _ (by omega), hl, Nat.sub_self, hm, List.replicate_succ, List.set_cons_zero, ← List.take_append_getElem h, bgs_snoc, List.append_assoc, show xs.length - (k + 1) = m by omega]
  rfl
theorem bgK_end (gap : Int) (xs : List Int) : bgK gap xs xs.length = bgs gap 0 xs := by unfold bgK; simp

set_option maxRecDepth 10000 in
set_option maxHeartbeats 4000000 in
theorem begins_any (xs : List Int) (gap : Int) (v : Value) (w : World) (hv : IS w v xs) (hn : xs.length ≤ 1024) (hx : ∀ x ∈ xs, 0 ≤ x ∧ x ≤ 16777216) (hg : 0 ≤ gap ∧ gap ≤ 16384) :
    Calls Tryz.prog 65 #[v, .int .i64 gap] w fun e w' => ∃ b, e = .returned (.slice (some ⟨b, 0, none⟩) xs.length xs.length) ∧ Hid (w.heap.size ≤ b ∧ OwI w.heap.size w' (.slice (some ⟨b, 0, none⟩) xs.length xs.length) (bgs gap 0 xs) ∧ Below w.heap.size w w') := by
  obtain ⟨oa, cap, rfl, hc, hgg⟩ := hv
  have HG : Hid (0 < xs.length → ∃ g o, oa = some ⟨g, o, none⟩ ∧ g < w.heap.size ∧ ∀ i (h : i < xs.length), w.cell? ⟨g, o + i, none⟩ = some (.int .i64 xs[i])) := hgg
  have HX : Hid (∀ x ∈ xs, 0 ≤ x ∧ x ≤ 16777216) := hx
  have hmk := make_intsA xs.length (by omega) w
  have H0 : Hid (Nb (w.alloc (.cells (flatI (List.replicate xs.length 0)).toArray 3)) w.heap.size (bgK gap xs 0) ∧ Below w.heap.size w (w.alloc (.cells (flatI (List.replicate xs.length 0)).toArray 3))) := by
    refine ⟨?_, (Below.refl _ _).alloc (Nat.le_refl _) _⟩
    have e : bgK gap xs 0 = List.replicate xs.length 0 := by unfold bgK; simp [bgs]
    rw [e]
    exact Bk.new _ _ _
  clear hgg hx
  go_enter Tryz.func65, Tryz.ntmps65
  go_wp2_with fail
  generalize w.alloc (.cells (flatI (List.replicate xs.length 0)).toArray 3) = W0 at *
  obtain ⟨b, Hb⟩ : ∃ b, Hid (b = w.heap.size) := ⟨w.heap.size, by unfold Hid; rfl⟩
  rw [← Hb.out]
  have H1 : Hid (Nb W0 b (bgK gap xs 0) ∧ Below w.heap.size w W0) := by rw [Hb.out]; exact H0.out
  clear H0 hmk
  go_loopw [6, 7, 8, 14] (fun s _ _ i wr => ∃ (k : Nat) (x : Int), k ≤ xs.length ∧ i = .int .i64 k ∧ s = .int .i64 x ∧ Hid (x = bgE gap 0 (xs.take k) ∧ Nb wr b (bgK gap xs k) ∧ Below w.heap.size w wr)) (fun _ _ _ i _ => xs.length - (intOf i).toNat)
  case atStart => exact ⟨0, 0, Nat.zero_le _, rfl, rfl, by simp [bgE], H1.out⟩
  case round =>
    obtain ⟨k, x, hk, rfl, rfl, HI⟩ := hrel
    clear H1
    by_cases hlt : k < xs.length
    · have ik : (k : Int) < xs.length := by omega
      obtain ⟨g, o, rfl, hgl, hat⟩ := HG.out (by omega)
      have x0 := (HI.out.2.2.cell (p := ⟨g, o + k, none⟩) hgl).trans (hat k hlt)
      have hkl : k < (bgK gap xs k).length := by rw [bgK_len gap xs k hk]; exact hlt
      have c0 : ∃ z, wr.cell? ⟨b, k, none⟩ = some z := ⟨_, HI.out.2.1.at k hkl⟩
      obtain ⟨z, c0⟩ := c0
      have f0 := HI.out.2.1.frozen k
      have hbx := HX.out xs[k] (List.getElem_mem hlt)
      have hbe := bgE_bd gap 16777216 hg.1 (xs.take k) 0 fun y hy => HX.out y (List.mem_of_mem_take hy)
      have hlen : ((xs.take k).length : Int) ≤ 1024 := by simp; omega
      have hb1 : 0 ≤ x ∧ x ≤ 17196646400 := by
        rw [HI.out.1]
        have : ((xs.take k).length : Int) * (16777216 + gap) ≤ 1024 * 16793600 := Int.mul_le_mul hlen (by omega) (by omega) (by omega)
        omega
      have hbl := HI.out.2.1.lt
      have hgb : ¬ g = b := fun e => by have := Hb.out; omega
      have HN : Hid (x + (xs[k] + gap) = bgE gap 0 (xs.take (k + 1)) ∧ Nb (wr.setCell ⟨b, k, none⟩ (.int .i64 x)) b (bgK gap xs (k + 1)) ∧ Below w.heap.size w (wr.setCell ⟨b, k, none⟩ (.int .i64 x))) := by
        refine ⟨?_, ?_, HI.out.2.2.setCell (p := ⟨b, k, none⟩) (by show w.heap.size ≤ b; rw [Hb.out]; exact Nat.le_refl _) _⟩
        · rw [← List.take_append_getElem hlt, bgE_snoc, HI.out.1]; omega
        · have := HI.out.2.1.put k x
          rw [HI.out.1, bgK_next hlt] at this
          rw [HI.out.1]
          exact this
      clear HI hat hkl hbe hlen
      generalize xs[k] = q at *
      have hw1 : IntKind.i64.wrap (q + gap) = q + gap := by rw [IntKind.wrap_i64]; omega
      have hw2 : IntKind.i64.wrap (x + (q + gap)) = x + (q + gap) := by rw [IntKind.wrap_i64]; omega
      go_wp2
      exact ⟨⟨k + 1, x + (q + gap), by omega, by go_num, rfl, HN.out⟩, by simp [intOf]; omega⟩
    · obtain rfl : k = xs.length := by omega
      have HF : Hid (w.heap.size ≤ b ∧ OwI w.heap.size wr (.slice (some ⟨b, 0, none⟩) xs.length xs.length) (bgs gap 0 xs) ∧ Below w.heap.size w wr) := by
        obtain ⟨_, h2, h3⟩ := HI.out
        rw [bgK_end] at h2
        have := h2.own (lo := w.heap.size) (by rw [Hb.out]; exact Nat.le_refl _) (by rw [bgs_len]; unfold maxLen; omega)
        rw [bgs_len] at this
        exact ⟨by rw [Hb.out]; exact Nat.le_refl _, this, h3⟩
      clear HI
      go_wp2
      go_ret
      exact ⟨b, rfl, HF⟩

/-- Two lists and an error. -/
def AnsR (w : World) (xs ys : List Int) (er : Int) (e : Ending) (w' : World) : Prop := ∃ v u, e = .returned (.tuple #[v, u, .int .i64 er]) ∧ Hid (OwI w.heap.size w' v xs ∧ OwI w.heap.size w' u ys ∧ (0 < xs.length → v.ownBlock ≠ u.ownBlock) ∧ Below w.heap.size w w')

attribute [local go_sem] ite_maxK ite_minK
set_option maxRecDepth 10000 in
set_option maxHeartbeats 2000000 in
theorem Row_any (T : List Tk) (gap room : Int) (tv : Value) (w : World) (hT : TS w tv T) :
    Calls Tryz.prog 28 #[tv, .int .i64 gap, .int .i64 room] w fun e w' => AnsR w (rwL T gap room) (rwS T gap room) (rwE T gap room) e w' := by
  have HC := check_tk T tv w hT
  have HTS : Hid (TS w tv T) := hT
  have H1 : Hid (∀ W, Calls Tryz.prog 61 #[.int .i64 gap] W fun e w' => e = .returned (.bool (sdB gap)) ∧ w' = W) := fun W => isSide_any gap W
  have H2 : Hid (∀ W, Calls Tryz.prog 62 #[.int .i64 room] W fun e w' => e = .returned (.bool (rmB room)) ∧ w' = W) := fun W => isRoom_any room W
  unfold rwS rwL rwE
  by_cases h0 : chT T = 0
  · rw [if_pos h0, if_pos h0]
    obtain ⟨hn, hk⟩ := chT_zero h0
    rw [h0] at HC
    clear h0
    cases hr : rwB gap room
    · have hr2 : sdB gap = false ∨ sdB gap = true ∧ rmB room = false := by
        unfold rwB at hr
        cases h1 : sdB gap
        · exact .inl rfl
        · rw [h1] at hr; exact .inr ⟨rfl, hr⟩
      clear hT hr hk
      rcases hr2 with h1 | ⟨h1, h2⟩
      · rw [h1] at H1
        clear h1
        go_enter Tryz.func28, Tryz.ntmps28
        go_wp2_with fail
        refine HC.mono ?_
        rintro e w1 ⟨rfl, hb⟩
        have HB : Hid (Below w.heap.size w w1) := hb
        clear HC hb
        go_wp2_with fail
        refine (H1.out _).mono ?_
        rintro e w2 ⟨rfl, rfl⟩
        go_wp2
        go_ret3
        exact ⟨_, _, rfl, OwI.nil _ _, OwI.nil _ _, (fun h => absurd h (by simp)), HB.out⟩
      · rw [h1] at H1
        rw [h2] at H2
        clear h1 h2
        go_enter Tryz.func28, Tryz.ntmps28
        go_wp2_with fail
        refine HC.mono ?_
        rintro e w1 ⟨rfl, hb⟩
        have HB : Hid (Below w.heap.size w w1) := hb
        clear HC hb
        go_wp2_with fail
        refine (H1.out _).mono ?_
        rintro e w2 ⟨rfl, rfl⟩
        go_wp2_with fail
        refine (H2.out _).mono ?_
        rintro e w3 ⟨rfl, rfl⟩
        go_wp2
        go_ret3
        exact ⟨_, _, rfl, OwI.nil _ _, OwI.nil _ _, (fun h => absurd h (by simp)), HB.out⟩
    · obtain ⟨h1, h2⟩ : sdB gap = true ∧ rmB room = true := by unfold rwB at hr; simpa using hr
      rw [h1] at H1
      rw [h2] at H2
      have hg := (sd_iff gap).1 h1
      have hrm := (rm_iff room).1 h2
      obtain ⟨m1, m2, m3, m4⟩ := rwM_bd hn hg hrm
      have HSh : Hid (∀ W, Below w.heap.size w W → Calls Tryz.prog 64 #[tv, .int .i64 (rwM T gap room)] W fun e w' => ∃ v, e = .returned v ∧ Hid (OwI W.heap.size w' v (shaR T (rwM T gap room)) ∧ Below W.heap.size W w')) := fun W hW => share_any T _ tv W (HTS.out.below hW) hn hk ⟨m1, m2⟩
      have HBg : Hid (∀ v W, IS W v (shaR T (rwM T gap room)) → Calls Tryz.prog 65 #[v, .int .i64 gap] W fun e w' => ∃ b, e = .returned (.slice (some ⟨b, 0, none⟩) (shaR T (rwM T gap room)).length (shaR T (rwM T gap room)).length) ∧ Hid (W.heap.size ≤ b ∧ OwI W.heap.size w' (.slice (some ⟨b, 0, none⟩) (shaR T (rwM T gap room)).length (shaR T (rwM T gap room)).length) (bgs gap 0 (shaR T (rwM T gap room))) ∧ Below W.heap.size W w')) := fun v W hv => begins_any _ gap v W hv (by rw [shaR_len hk]; exact hn) (shaR_bd hk hn m2) hg
      have HLe : Hid (∀ y b W, W.cell? ⟨b, 0, none⟩ = some (.int .i64 y) → Calls Tryz.prog 63 #[.int .i64 room, .slice (some ⟨b, 0, none⟩) 1 1] W fun e w' => e = .returned (.int .i64 (min room y)) ∧ w' = W) := fun y b W hb => least_any room y b W hb
      obtain ⟨mm, Hmm⟩ : ∃ mm, Hid (mm = max ((T.length : Int) - 1) 0) := ⟨_, rfl⟩
      obtain ⟨rm, Hrm⟩ : ∃ rm, Hid (rm = rwM T gap room) := ⟨_, rfl⟩
      have Hrm2 : Hid (room - min room (gap * mm) = rm) := by unfold Hid; rw [Hrm.out, Hmm.out]; rfl
      rw [← Hmm.out] at m3 m4
      obtain ⟨mi, Hmi⟩ : ∃ mi, Hid (mi = min room (gap * mm)) := ⟨_, rfl⟩
      have hmi : 0 ≤ mi ∧ mi ≤ room := by have := Hmi.out; omega
      have hws : IntKind.i64.wrap (room - mi) = rm := by rw [IntKind.wrap_i64]; have := Hrm2.out; rw [← Hmi.out] at this; omega
      have hwm : IntKind.i64.wrap (gap * mm) = gap * mm := by rw [IntKind.wrap_i64]; omega
      have hwl : IntKind.i64.wrap ((T.length : Int) - 1) = (T.length : Int) - 1 := by rw [IntKind.wrap_i64]; omega
      have hmx : max ((T.length : Int) - 1) 0 = mm := Hmm.out.symm
      have HLe2 : Hid (∀ b W, W.cell? ⟨b, 0, none⟩ = some (.int .i64 (gap * mm)) → Calls Tryz.prog 63 #[.int .i64 room, .slice (some ⟨b, 0, none⟩) 1 1] W fun e w' => e = .returned (.int .i64 mi) ∧ w' = W) := fun b W hb => by rw [Hmi.out]; exact HLe.out _ b W hb
      rw [← Hrm.out] at HSh HBg
      rw [show (if true = true then shaR T (rwM T gap room) else []) = shaR T rm by rw [Hrm.out]; rfl]
      obtain ⟨toa, tcp, rfl, _⟩ := hT
      generalize shaR T rm = sl at *
      clear hr h1 h2 m1 m2 hk Hrm Hrm2 Hmi Hmm HLe hg hrm
      go_enter Tryz.func28, Tryz.ntmps28
      go_wp2_with fail
      refine HC.mono ?_
      rintro e w1 ⟨rfl, hb⟩
      have HB : Hid (Below w.heap.size w w1) := hb
      clear HC hb
      go_wp2_with fail
      refine (H1.out _).mono ?_
      rintro e w2 ⟨rfl, rfl⟩
      go_wp2_with fail
      refine (H2.out _).mono ?_
      rintro e w3 ⟨rfl, rfl⟩
      go_wp2_with fail
      refine (HLe2.out _ _ ?_).mono ?_
      · rw [(Bk.new w3 #[.int .i64 (gap * mm)] 3).cell]; rfl
      rintro e w4 ⟨rfl, rfl⟩
      have HB4 : Hid (Below w.heap.size w (w3.alloc (.cells #[.int .i64 (gap * mm)] 3))) := HB.out.alloc HB.out.size _
      clear HLe2
      go_wp2_with fail
      refine (HSh.out _ HB4.out).mono ?_
      rintro e w5 ⟨v, rfl, H5⟩
      have HB5 : Hid (Below w.heap.size w w5 ∧ OwI w.heap.size w5 v sl) := ⟨HB4.out.trans (H5.out.2.mono HB4.out.size), H5.out.1.weaken HB4.out.size⟩
      clear HB4 H5 HSh
      go_wp2_with fail
      refine (HBg.out v w5 HB5.out.2.is).mono ?_
      rintro e w6 ⟨b, rfl, H6⟩
      have HF : Hid (OwI w.heap.size w6 v sl ∧ OwI w.heap.size w6 (.slice (some ⟨b, 0, none⟩) sl.length sl.length) (bgs gap 0 sl) ∧ (0 < sl.length → v.ownBlock ≠ (Value.slice (some ⟨b, 0, none⟩) sl.length sl.length).ownBlock) ∧ Below w.heap.size w w6) := by
        obtain ⟨k1, k2, k3⟩ := H6.out
        refine ⟨HB5.out.2.below k3, k2.weaken HB5.out.1.size, fun _ e => ?_, HB5.out.1.trans (k3.mono HB5.out.1.size)⟩
        have := (row_lt HB5.out.2 b e).2
        omega
      clear H6 HBg
      go_wp2
      go_ret3
      exact ⟨_, _, rfl, HF⟩
  · rw [if_neg h0, if_neg h0]
    obtain ⟨er, Her⟩ : ∃ er, Hid (er = chT T) := ⟨_, rfl⟩
    rw [← Her.out] at HC ⊢
    have hne : (er != 0) = true := by rw [Her.out]; simpa using h0
    clear Her h0 hT
    go_enter Tryz.func28, Tryz.ntmps28
    go_wp2_with fail
    refine HC.mono ?_
    rintro e w1 ⟨rfl, hb⟩
    have HB : Hid (Below w.heap.size w w1) := hb
    clear HC hb
    go_wp2
    go_ret3
    exact ⟨_, _, rfl, OwI.nil _ _, OwI.nil _ _, (fun h => absurd h (by simp)), HB.out⟩

end Go.Proofs.YthnhcphkpffkfaaGreat
