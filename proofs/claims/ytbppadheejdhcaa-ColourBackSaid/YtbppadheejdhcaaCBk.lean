/-
  A colour's text is read as the colour; the walk of the statement ColourBack.
-/
import Derived.Test.YtbppadheejdhcaaCAl
import Derived.Test.YtbppadheejdhcaaCX3
namespace Go.Proofs.Ytbppadheejdhcaa
open Go.RowKit

/-- The text of these sixteens. -/
def sT (ns : List Nat) : ByteArray := ⟨(35 :: ns.map bt).toArray⟩
theorem sT_size (ns : List Nat) : (sT ns).size = ns.length + 1 := by simp [sT, ByteArray.size]
theorem sT_zero (ns : List Nat) (h : 0 < (sT ns).size) : (sT ns)[0] = 35 := rfl
theorem sT_succ (ns : List Nat) (j : Nat) (hj : j < ns.length) (h : j + 1 < (sT ns).size) : (sT ns)[j + 1] = bt ns[j] := by
  have h' : j + 1 < (35 :: ns.map bt).toArray.size := by simp; omega
  exact (show (sT ns)[j + 1] = (35 :: ns.map bt).toArray[j + 1]'h' from rfl).trans (by simp)
theorem dig_bt : ∀ x : Fin 16, dig (bt x.val).toNat = (x.val : Int) := by decide +kernel
theorem six_bt : ∀ x : Fin 16, six (bt x.val).toNat = true := by decide +kernel
theorem sT_dg {ns : List Nat} (hn : ∀ n ∈ ns, n < 16) (j : Nat) (hj : j < ns.length) : dg (sT ns) (j + 1) = (ns[j] : Nat) := by
  have h : j + 1 < (sT ns).size := by rw [sT_size]; omega
  rw [dg_at h, sT_succ ns j hj h]
  exact dig_bt ⟨ns[j], hn _ (List.getElem_mem hj)⟩
theorem sT_bel {ns : List Nat} (hn : ∀ n ∈ ns, n < 16) (h8 : ns.length ≤ 8) : bel (sT ns) = ns.length + 1 := by
  have hz := sT_size ns
  refine bel_is ⟨by omega, fun j hj hlt => ?_⟩ (fun h => absurd h (by omega))
  cases j with
  | zero => rw [sT_zero ns hj]; rfl
  | succ j =>
    rw [sT_succ ns j (by omega) hj]
    unfold belB
    rw [if_neg (by omega)]
    simp only [Bool.and_eq_true, decide_eq_true_eq]
    exact ⟨by omega, six_bt ⟨ns[j], hn _ (List.getElem_mem _)⟩⟩

theorem tw_eq {x : Nat} (hx : x < 256) (h : tw x = true) : x = 17 * (x % 16) := by
  unfold tw at h
  rw [sx_inj (by omega) (by omega)] at h
  simp only [beq_iff_eq] at h
  omega
def sxs (r g b a : Nat) : List Nat :=
  if a = 255 ∧ tw r = true ∧ tw g = true ∧ tw b = true then [r % 16, g % 16, b % 16]
  else if a = 255 then [r / 16, r % 16, g / 16, g % 16, b / 16, b % 16]
  else [r / 16, r % 16, g / 16, g % 16, b / 16, b % 16, a / 16, a % 16]
theorem txt_sT (c : Co) : txt c = sT (sxs c.r.toNat c.g.toNat c.b.toNat c.a.toNat) := by
  unfold txt txtL sxs
  split
  · rfl
  · split <;> rfl
theorem sxs_lt {r g b a : Nat} (hr : r < 256) (hg : g < 256) (hb : b < 256) (ha : a < 256) : (∀ n ∈ sxs r g b a, n < 16) ∧ (sxs r g b a).length ≤ 8 ∧ (a = 255 → (sxs r g b a).length ≤ 6) := by
  unfold sxs
  split
  · refine ⟨fun n hn => ?_, by simp, fun _ => by simp⟩
    simp at hn
    omega
  · split
    · refine ⟨fun n hn => ?_, by simp, fun _ => by simp⟩
      simp at hn
      omega
    · refine ⟨fun n hn => ?_, by simp, fun h => absurd h (by assumption)⟩
      simp at hn
      omega

theorem back_text (c : Co) (hc : c.ok) : okT (txt c) = true ∧ parC (txt c) = c ∧ (txt c).size ≤ 9 ∧ (c.a = 255 → (txt c).size ≤ 7) := by
  obtain ⟨⟨r1, r2⟩, ⟨g1, g2⟩, ⟨b1, b2⟩, ⟨a1, a2⟩⟩ := hc
  obtain ⟨r, g, b, a⟩ := c
  simp only at r1 r2 g1 g2 b1 b2 a1 a2
  obtain ⟨r, rfl⟩ := Int.eq_ofNat_of_zero_le r1
  obtain ⟨g, rfl⟩ := Int.eq_ofNat_of_zero_le g1
  obtain ⟨b, rfl⟩ := Int.eq_ofNat_of_zero_le b1
  obtain ⟨a, rfl⟩ := Int.eq_ofNat_of_zero_le a1
  rw [txt_sT]
  simp only [Int.toNat_natCast]
  obtain ⟨h1, h2, h3⟩ := sxs_lt (r := r) (g := g) (b := b) (a := a) (by omega) (by omega) (by omega) (by omega)
  have hbel := sT_bel h1 h2
  have hz := sT_size (sxs r g b a)
  refine ⟨?_, ?_, by omega, fun h => by have := h3 (by omega); omega⟩
  · rw [ok_iff]
    refine ⟨by omega, ?_⟩
    rw [hbel]
    unfold sxs
    split
    · simp
    · split <;> simp
  · have hd := fun j hj => sT_dg h1 j hj
    unfold parC
    have hlen : (sxs r g b a).length = 3 ∨ (sxs r g b a).length = 6 ∨ (sxs r g b a).length = 8 := by
      unfold sxs
      split
      · simp
      · split <;> simp
    rw [if_pos (ok_iff.2 ⟨by omega, by omega⟩), hbel]
    by_cases ht : a = 255 ∧ tw r = true ∧ tw g = true ∧ tw b = true
    · have e : sxs r g b a = [r % 16, g % 16, b % 16] := by unfold sxs; rw [if_pos ht]
      rw [e] at hd ⊢
      have q0 := hd 0 (by simp)
      have q1 := hd 1 (by simp)
      have q2 := hd 2 (by simp)
      simp at q0 q1 q2
      rw [if_pos (by simp), q0, q1, q2]
      obtain ⟨ha, t1, t2, t3⟩ := ht
      have u1 := tw_eq (by omega) t1
      have u2 := tw_eq (by omega) t2
      have u3 := tw_eq (by omega) t3
      simp only [Co.mk.injEq]
      omega
    · by_cases ha : a = 255
      · have e : sxs r g b a = [r / 16, r % 16, g / 16, g % 16, b / 16, b % 16] := by unfold sxs; rw [if_neg ht, if_pos ha]
        rw [e] at hd ⊢
        have q0 := hd 0 (by simp)
        have q1 := hd 1 (by simp)
        have q2 := hd 2 (by simp)
        have q3 := hd 3 (by simp)
        have q4 := hd 4 (by simp)
        have q5 := hd 5 (by simp)
        simp at q0 q1 q2 q3 q4 q5
        rw [if_neg (by simp), if_pos (by simp), q0, q1, q2, q3, q4, q5]
        simp only [Co.mk.injEq]
        omega
      · have e : sxs r g b a = [r / 16, r % 16, g / 16, g % 16, b / 16, b % 16, a / 16, a % 16] := by unfold sxs; rw [if_neg ht, if_neg ha]
        rw [e] at hd ⊢
        have q0 := hd 0 (by simp)
        have q1 := hd 1 (by simp)
        have q2 := hd 2 (by simp)
        have q3 := hd 3 (by simp)
        have q4 := hd 4 (by simp)
        have q5 := hd 5 (by simp)
        have q6 := hd 6 (by simp)
        have q7 := hd 7 (by simp)
        simp at q0 q1 q2 q3 q4 q5 q6 q7
        rw [if_neg (by simp), if_neg (by simp), q0, q1, q2, q3, q4, q5, q6, q7]
        simp only [Co.mk.injEq]
        omega

theorem back_size (s : ByteArray) (h : okT s = true) : (txt (parC s)).size ≤ 9 ∧ ((txt (parC s)).size ≤ s.size ∨ s.size = 4) := by
  obtain ⟨_, _, h1, h2⟩ := back_text (parC s) (parC_ok s)
  refine ⟨h1, ?_⟩
  obtain ⟨k1, k2⟩ := ok_iff.1 h
  rcases k2 with k | k | k
  · exact .inr (by omega)
  · refine .inl ?_
    have : (parC s).a = 255 := by
      unfold parC
      rw [if_pos h, if_neg (by omega), if_pos k]
    have := h2 this
    omega
  · exact .inl (by omega)

set_option maxHeartbeats 2000000 in
theorem back_walk (x : Co) (s : ByteArray) (w : World) (hx : x.ok) (hs : s.size ≤ 9223372036854775807) :
    Calls Try.prog 5 #[(Value.agg #[.int .u8 x.r, .int .u8 x.g, .int .u8 x.b, .int .u8 x.a]), .string s] w fun e w' => e = .returned (.bool true) ∧ Below w.heap.size w w' := by
  have key : ∀ c : Co, c.ok → (∀ w, Calls Try.prog 7 #[.string (txt c)] w fun e w' => e = .returned (.tuple #[(Value.agg #[.int .u8 c.r, .int .u8 c.g, .int .u8 c.b, .int .u8 c.a]), .int .i64 0, .int .i64 0]) ∧ Below w.heap.size w w') := fun c hc w => by
    obtain ⟨k1, k2, k3, _⟩ := back_text c hc
    have h := parse_any (txt c) w (by omega)
    rw [k2, show parN (txt c) = 0 by unfold parN; rw [if_pos k1], show parE (txt c) = 0 by unfold parE; rw [if_pos k1]] at h
    exact h
  obtain ⟨tx, htx⟩ : ∃ tx, tx = txt x := ⟨_, rfl⟩
  have H1 : Hid (∀ w, Calls Try.prog 9 #[(Value.agg #[.int .u8 x.r, .int .u8 x.g, .int .u8 x.b, .int .u8 x.a])] w fun e w' => e = .returned (.string tx) ∧ Below w.heap.size w w') := fun w => by rw [htx]; exact text_any x w hx
  have H2 : Hid (∀ w, Calls Try.prog 7 #[.string tx] w fun e w' => e = .returned (.tuple #[(Value.agg #[.int .u8 x.r, .int .u8 x.g, .int .u8 x.b, .int .u8 x.a]), .int .i64 0, .int .i64 0]) ∧ Below w.heap.size w w') := fun w => by rw [htx]; exact key x hx w
  clear htx
  cases hok : okT s
  · obtain ⟨n, hn⟩ : ∃ n, n = bel s := ⟨_, rfl⟩
    obtain ⟨n1, n2⟩ := bel_le s
    rw [← hn] at n1 n2
    have H3 : Hid (∀ w, Calls Try.prog 7 #[.string s] w fun e w' => e = .returned (.tuple #[.agg #[.int .u8 0, .int .u8 0, .int .u8 0, .int .u8 0], .int .i64 (n : Nat), .int .i64 40]) ∧ Below w.heap.size w w') := fun w => by
      have h := parse_any s w hs
      rw [show parC s = ⟨0, 0, 0, 0⟩ by unfold parC; rw [if_neg (by simp [hok])], show parN s = (bel s : Nat) by unfold parN; rw [if_neg (by simp [hok])], show parE s = 40 by unfold parE; rw [if_neg (by simp [hok])], ← hn] at h
      exact h
    clear key hok hn hx
    go_enter Try.func5, Try.ntmps5
    go_wp2_with fail
    refine (H1.out _).mono ?_
    rintro e w1 ⟨rfl, hb⟩
    have A := (AtC.new w x.r x.g x.b x.a 23).below hb
    have L := ((Below.refl w.heap.size w).alloc (Nat.le_refl _) _).trans (hb.mono (by simp))
    clear hb
    go_wp2_with fail
    refine (H2.out _).mono ?_
    rintro e w2 ⟨rfl, hb⟩
    replace A := A.below hb
    replace L := L.trans (hb.mono L.size)
    clear hb
    have la := A.lt
    go_wp2_with fail
    clear la
    refine (alive_any _).mono ?_
    rintro e w3 ⟨rfl, hb⟩
    have B := (AtC.new w2 x.r x.g x.b x.a 23).below hb
    replace A := (A.alloc _).below hb
    replace L := (L.alloc L.size _).trans (hb.mono (by have := L.size; simp; omega))
    clear hb
    obtain ⟨d0, d1, d2, d3⟩ := id A
    obtain ⟨e0, e1, e2, e3⟩ := id B
    go_wp2_with fail
    clear d0 d1 d2 d3 e0 e1 e2 e3
    refine (H3.out _).mono ?_
    rintro e w4 ⟨rfl, hb⟩
    replace L := L.trans (hb.mono L.size)
    clear A B hb
    go_wp2
    go_ret
    exact ⟨congrArg (fun z => Ending.returned (.bool z)) (decide_eq_true (by omega)), L.alloc L.size _⟩
  · obtain ⟨c, hc⟩ : ∃ c, c = parC s := ⟨_, rfl⟩
    have hcok : c.ok := by rw [hc]; exact parC_ok s
    obtain ⟨t, ht⟩ : ∃ t, t = txt c := ⟨_, rfl⟩
    obtain ⟨z1, z2⟩ := back_size s hok
    rw [← hc, ← ht] at z1 z2
    have H3 : Hid (∀ w, Calls Try.prog 7 #[.string s] w fun e w' => e = .returned (.tuple #[(Value.agg #[.int .u8 c.r, .int .u8 c.g, .int .u8 c.b, .int .u8 c.a]), .int .i64 0, .int .i64 0]) ∧ Below w.heap.size w w') := fun w => by
      have h := parse_any s w hs
      rw [show parN s = 0 by unfold parN; rw [if_pos hok], show parE s = 0 by unfold parE; rw [if_pos hok], ← hc] at h
      exact h
    have H4 : Hid (∀ w, Calls Try.prog 9 #[(Value.agg #[.int .u8 c.r, .int .u8 c.g, .int .u8 c.b, .int .u8 c.a])] w fun e w' => e = .returned (.string t) ∧ Below w.heap.size w w') := fun w => by rw [ht]; exact text_any c w hcok
    have H5 : Hid (∀ w, Calls Try.prog 7 #[.string t] w fun e w' => e = .returned (.tuple #[(Value.agg #[.int .u8 c.r, .int .u8 c.g, .int .u8 c.b, .int .u8 c.a]), .int .i64 0, .int .i64 0]) ∧ Below w.heap.size w w') := fun w => by rw [ht]; exact key c hcok w
    have HZ : Hid (t.size ≤ s.size ∨ s.size = 4) := z2
    clear key hok hc ht hcok hx z2
    iterate 1
      go_enter Try.func5, Try.ntmps5
      go_wp2_with fail
      refine (H1.out _).mono ?_
      rintro e w1 ⟨rfl, hb⟩
      have A := (AtC.new w x.r x.g x.b x.a 23).below hb
      have L := ((Below.refl w.heap.size w).alloc (Nat.le_refl _) _).trans (hb.mono (by simp))
      clear hb
      go_wp2_with fail
      refine (H2.out _).mono ?_
      rintro e w2 ⟨rfl, hb⟩
      replace A := A.below hb
      replace L := L.trans (hb.mono L.size)
      clear hb
      have la := A.lt
      go_wp2_with fail
      clear la
      refine (alive_any _).mono ?_
      rintro e w3 ⟨rfl, hb⟩
      have B := (AtC.new w2 x.r x.g x.b x.a 23).below hb
      replace A := (A.alloc _).below hb
      replace L := (L.alloc L.size _).trans (hb.mono (by have := L.size; simp; omega))
      clear hb
      obtain ⟨d0, d1, d2, d3⟩ := id A
      obtain ⟨e0, e1, e2, e3⟩ := id B
      go_wp2_with fail
      clear d0 d1 d2 d3 e0 e1 e2 e3
      refine (H3.out _).mono ?_
      rintro e w4 ⟨rfl, hb⟩
      replace L := L.trans (hb.mono L.size)
      clear A B hb
      go_wp2_with fail
      refine (H4.out _).mono ?_
      rintro e w5 ⟨rfl, hb⟩
      have C := (AtC.new w4 c.r c.g c.b c.a 23).below hb
      replace L := (L.alloc L.size _).trans (hb.mono (by have := L.size; simp; omega))
      clear hb
      go_wp2_with fail
      refine (H5.out _).mono ?_
      rintro e w6 ⟨rfl, hb⟩
      replace C := C.below hb
      replace L := L.trans (hb.mono L.size)
      clear hb
      have lc := C.lt
      obtain ⟨d0, d1, d2, d3⟩ := id C
      go_wp2
      all_goals
        go_ret
        refine ⟨?_, L.alloc L.size _⟩
        have hz := HZ.out
        first | rfl | (refine ret_bool ?_; simp; omega)

end Go.Proofs.Ytbppadheejdhcaa
