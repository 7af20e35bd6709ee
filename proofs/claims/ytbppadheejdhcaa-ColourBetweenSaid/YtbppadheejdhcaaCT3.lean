/-
  Contract of package colour: Parse.
-/
import Derived.Test.YtbppadheejdhcaaCT2
namespace Go.Proofs.Ytbppadheejdhcaa
open Go.RowKit

theorem cut_size (s : ByteArray) : (s.extract 1 s.size).size = s.size - 1 := by simp [ByteArray.size_extract]
theorem cut_at (s : ByteArray) (j : Nat) (h : j < (s.extract 1 s.size).size) (h' : j + 1 < s.size) : (s.extract 1 s.size)[j] = s[j + 1] := by
  rw [ByteArray.getElem_extract]
  congr 1
  omega
theorem cut_dg (s : ByteArray) (j : Nat) (h : j + 1 < s.size) : dg (s.extract 1 s.size) j = dg s (j + 1) := by
  have h1 : j < (s.extract 1 s.size).size := by rw [cut_size]; omega
  rw [dg_at h1, dg_at h, cut_at s j h1 h]
theorem cut_six (s : ByteArray) (hb : bel s = s.size) : ∀ (j : Nat) (h : j < (s.extract 1 s.size).size), six ((s.extract 1 s.size)[j]).toNat = true := by
  intro j h
  have h1 : j + 1 < s.size := by rw [cut_size] at h; omega
  rw [cut_at s j h h1]
  exact bel_six h1 (by omega) (by omega)

theorem parC_three {s : ByteArray} (hb : bel s = s.size) (h : s.size = 4) : parC s = ⟨17 * dg s 1, 17 * dg s 2, 17 * dg s 3, 255⟩ := by
  unfold parC
  rw [if_pos (ok_iff.2 ⟨hb, by omega⟩), if_pos (by omega)]
theorem rd_two {t : ByteArray} (hd : ∀ j, j < t.size → 0 ≤ dg t j ∧ dg t j ≤ 15) (h : t.size = 6 ∨ t.size = 8) : rd t 2 t.size 0 = 16 * dg t 0 + dg t 1 ∧ rd t 2 t.size 1 = 16 * dg t 2 + dg t 3 ∧ rd t 2 t.size 2 = 16 * dg t 4 + dg t 5 ∧
    rd t 2 t.size 3 = if t.size = 6 then 255 else 16 * dg t 6 + dg t 7 := by
  have h0 := hd 0 (by omega)
  have h1 := hd 1 (by omega)
  have h2 := hd 2 (by omega)
  have h3 := hd 3 (by omega)
  have h4 := hd 4 (by omega)
  have h5 := hd 5 (by omega)
  rcases h with h | h
  · rw [h]
    simp [rd]
    omega
  · have h6 := hd 6 (by omega)
    have h7 := hd 7 (by omega)
    rw [h]
    simp [rd]
    omega
theorem parC_two {s : ByteArray} (hb : bel s = s.size) (h : s.size = 7 ∨ s.size = 9) :
    parC s = ⟨rd (s.extract 1 s.size) 2 (s.extract 1 s.size).size 0, rd (s.extract 1 s.size) 2 (s.extract 1 s.size).size 1, rd (s.extract 1 s.size) 2 (s.extract 1 s.size).size 2, rd (s.extract 1 s.size) 2 (s.extract 1 s.size).size 3⟩ := by
  have hz := cut_size s
  have hd : ∀ j, j < (s.extract 1 s.size).size → 0 ≤ dg (s.extract 1 s.size) j ∧ dg (s.extract 1 s.size) j ≤ 15 := fun j hj => by
    rw [cut_dg s j (by omega)]
    exact dg_bd (by omega) (by omega)
  obtain ⟨e0, e1, e2, e3⟩ := rd_two hd (by omega)
  rw [e0, e1, e2, e3, cut_dg s 0 (by omega), cut_dg s 1 (by omega), cut_dg s 2 (by omega), cut_dg s 3 (by omega), cut_dg s 4 (by omega), cut_dg s 5 (by omega)]
  unfold parC
  rw [if_pos (ok_iff.2 ⟨hb, by omega⟩), if_neg (by omega)]
  rcases h with h | h
  · rw [if_pos (by omega), if_pos (by omega)]
  · rw [if_neg (by omega), if_neg (by omega), cut_dg s 6 (by omega), cut_dg s 7 (by omega)]

set_option maxHeartbeats 1000000 in
theorem parse_any (s : ByteArray) (w : World) (hs : s.size ≤ 9223372036854775807) :
    Calls Try.prog 7 #[.string s] w fun e w' => e = .returned (.tuple #[(Value.agg #[.int .u8 (parC s).r, .int .u8 (parC s).g, .int .u8 (parC s).b, .int .u8 (parC s).a]), .int .i64 (parN s), .int .i64 (parE s)]) ∧ Below w.heap.size w w' := by
  have hle := bel_le s
  have cs : bel s < s.size ∨ (bel s = s.size ∧ s.size = 4) ∨ (bel s = s.size ∧ (s.size = 7 ∨ s.size = 9)) ∨ (bel s = s.size ∧ s.size ≠ 4 ∧ s.size ≠ 7 ∧ s.size ≠ 9) := by omega
  rcases cs with c | ⟨c, c4⟩ | ⟨c, c7⟩ | ⟨c, c1, c2, c3⟩
  · have hn : okT s = false := by rw [Bool.eq_false_iff]; intro h; have := (ok_iff.1 h).1; omega
    rw [show parC s = ⟨0, 0, 0, 0⟩ by unfold parC; rw [if_neg (by simp [hn])], show parN s = (bel s : Nat) by unfold parN; rw [if_neg (by simp [hn])], show parE s = 40 by unfold parE; rw [if_neg (by simp [hn])]]
    clear hn
    obtain ⟨n, hn⟩ : ∃ n, n = bel s := ⟨_, rfl⟩
    have HB := belonging_any s
    rw [← hn] at HB c hle ⊢
    have HB' : Hid (∀ w, s.size ≤ 9223372036854775807 → Calls Try.prog 21 #[.string s] w fun e w' => e = .returned (.int .i64 (n : Nat)) ∧ w' = w) := HB
    clear HB hn
    go_enter Try.func7, Try.ntmps7
    go_wp2_with (go_at_call 21; refine (HB'.out _ hs).mono ?_; rintro e w' ⟨rfl, rfl⟩)
    exact bodyPost_ret (v := .tuple #[.agg #[.int .u8 0, .int .u8 0, .int .u8 0, .int .u8 0], .int .i64 n, .int .i64 40]) (by simp [results, Try.results7, go_sem]) rfl ⟨rfl, (Below.refl _ _).alloc (Nat.le_refl _) _⟩
  · have hz := cut_size s
    have HR : Hid (∀ w, Calls Try.prog 22 #[.string (s.extract 1 s.size), .int .i64 1] w fun e w' => e = .returned (Value.agg #[.int .u8 (parC s).r, .int .u8 (parC s).g, .int .u8 (parC s).b, .int .u8 (parC s).a]) ∧ Below w.heap.size w w') := fun w => by
      have h := read_one (s.extract 1 s.size) w (by omega) (cut_six s c)
      rw [cut_dg s 0 (by omega), cut_dg s 1 (by omega), cut_dg s 2 (by omega)] at h
      rw [parC_three c c4]
      exact h
    have hok : okT s = true := ok_iff.2 ⟨c, by omega⟩
    rw [show parN s = 0 by unfold parN; rw [if_pos hok], show parE s = 0 by unfold parE; rw [if_pos hok]]
    have HB : Hid (∀ w, s.size ≤ 9223372036854775807 → Calls Try.prog 21 #[.string s] w fun e w' => e = .returned (.int .i64 4) ∧ w' = w) := fun w h => by
      have := belonging_any s w h
      rw [c, c4] at this
      exact this
    clear hok c hle hz
    generalize parC s = z at *
    rw [c4] at HR
    go_enter Try.func7, Try.ntmps7
    go_wp2_with (go_at_call 21; refine (HB.out _ hs).mono ?_; rintro e w' ⟨rfl, rfl⟩)
    refine (HR.out _).mono ?_
    rintro e w1 ⟨rfl, hb⟩
    have C := (AtC.new w 0 0 0 0 23).below hb
    have F := ((Fr.new w _ _).below hb).2
    have L := ((Below.refl w.heap.size w).alloc (Nat.le_refl _) _).trans (hb.mono (by simp))
    clear hb
    obtain ⟨z0, z1, z2, z3⟩ := C
    go_wp2
    exact bodyPost_ret (v := .tuple #[(Value.agg #[.int .u8 z.r, .int .u8 z.g, .int .u8 z.b, .int .u8 z.a]), .int .i64 0, .int .i64 0]) (by simp [results, Try.results7, go_sem, z0, z1, z2, z3]) rfl ⟨rfl, set4_below L (by omega) _ _ _ _⟩
  · have hz := cut_size s
    have HR : Hid (∀ w, Calls Try.prog 22 #[.string (s.extract 1 s.size), .int .i64 2] w fun e w' => e = .returned (Value.agg #[.int .u8 (parC s).r, .int .u8 (parC s).g, .int .u8 (parC s).b, .int .u8 (parC s).a]) ∧ Below w.heap.size w w') := fun w => by
      have h := read_two (s.extract 1 s.size) w (by omega) (cut_six s c)
      rw [parC_two c c7]
      exact h
    have hok : okT s = true := ok_iff.2 ⟨c, by omega⟩
    rw [show parN s = 0 by unfold parN; rw [if_pos hok], show parE s = 0 by unfold parE; rw [if_pos hok]]
    generalize parC s = z at *
    rcases c7 with c7 | c7
    · have HB : Hid (∀ w, s.size ≤ 9223372036854775807 → Calls Try.prog 21 #[.string s] w fun e w' => e = .returned (.int .i64 7) ∧ w' = w) := fun w h => by
        have := belonging_any s w h
        rw [c, c7] at this
        exact this
      clear hok c hle hz
      rw [c7] at HR
      go_enter Try.func7, Try.ntmps7
      go_wp2_with (go_at_call 21; refine (HB.out _ hs).mono ?_; rintro e w' ⟨rfl, rfl⟩)
      refine (HR.out _).mono ?_
      rintro e w1 ⟨rfl, hb⟩
      have C := (AtC.new w 0 0 0 0 23).below hb
      have F := ((Fr.new w _ _).below hb).2
      have L := ((Below.refl w.heap.size w).alloc (Nat.le_refl _) _).trans (hb.mono (by simp))
      clear hb
      obtain ⟨z0, z1, z2, z3⟩ := C
      go_wp2
      exact bodyPost_ret (v := .tuple #[(Value.agg #[.int .u8 z.r, .int .u8 z.g, .int .u8 z.b, .int .u8 z.a]), .int .i64 0, .int .i64 0]) (by simp [results, Try.results7, go_sem, z0, z1, z2, z3]) rfl ⟨rfl, set4_below L (by omega) _ _ _ _⟩
    · have HB : Hid (∀ w, s.size ≤ 9223372036854775807 → Calls Try.prog 21 #[.string s] w fun e w' => e = .returned (.int .i64 9) ∧ w' = w) := fun w h => by
        have := belonging_any s w h
        rw [c, c7] at this
        exact this
      clear hok c hle hz
      rw [c7] at HR
      go_enter Try.func7, Try.ntmps7
      go_wp2_with (go_at_call 21; refine (HB.out _ hs).mono ?_; rintro e w' ⟨rfl, rfl⟩)
      refine (HR.out _).mono ?_
      rintro e w1 ⟨rfl, hb⟩
      have C := (AtC.new w 0 0 0 0 23).below hb
      have F := ((Fr.new w _ _).below hb).2
      have L := ((Below.refl w.heap.size w).alloc (Nat.le_refl _) _).trans (hb.mono (by simp))
      clear hb
      obtain ⟨z0, z1, z2, z3⟩ := C
      go_wp2
      exact bodyPost_ret (v := .tuple #[(Value.agg #[.int .u8 z.r, .int .u8 z.g, .int .u8 z.b, .int .u8 z.a]), .int .i64 0, .int .i64 0]) (by simp [results, Try.results7, go_sem, z0, z1, z2, z3]) rfl ⟨rfl, set4_below L (by omega) _ _ _ _⟩
  · have hn : okT s = false := by rw [Bool.eq_false_iff]; intro h; have := (ok_iff.1 h).2; omega
    rw [show parC s = ⟨0, 0, 0, 0⟩ by unfold parC; rw [if_neg (by simp [hn])], show parN s = (bel s : Nat) by unfold parN; rw [if_neg (by simp [hn])], show parE s = 40 by unfold parE; rw [if_neg (by simp [hn])]]
    clear hn
    have HB : Hid (∀ w, s.size ≤ 9223372036854775807 → Calls Try.prog 21 #[.string s] w fun e w' => e = .returned (.int .i64 s.size) ∧ w' = w) := fun w h => by
      have := belonging_any s w h
      rw [c] at this
      exact this
    rw [c]
    rw [c] at hle
    obtain ⟨_, h9⟩ := hle
    clear c
    go_enter Try.func7, Try.ntmps7
    go_wp2_with (go_at_call 21; refine (HB.out _ hs).mono ?_; rintro e w' ⟨rfl, rfl⟩)
    exact bodyPost_ret (v := .tuple #[.agg #[.int .u8 0, .int .u8 0, .int .u8 0, .int .u8 0], .int .i64 s.size, .int .i64 40]) (by simp [results, Try.results7, go_sem]) rfl ⟨rfl, (Below.refl _ _).alloc (Nat.le_refl _) _⟩

end Go.Proofs.Ytbppadheejdhcaa
