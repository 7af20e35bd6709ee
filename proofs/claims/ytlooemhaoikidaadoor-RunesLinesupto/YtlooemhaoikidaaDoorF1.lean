/-
  Contracts of the document's answer for layer 3: the first rune of a text.
-/
import Derived.Test.YtlooemhaoikidaaDoorRAw
import Derived.Test.YtlooemhaoikidaaDoorF0
import Derived.Laws.BitsAllLaws
namespace Go.Proofs.YtlooemhaoikidaaDoor
open Go.RowKit Go.Shelf

theorem and31 : ∀ x : Fin 256, bits .and .i32 ((x.val : Nat) : Int) 31 = ((x.val % 32 : Nat) : Int) := by decide +kernel
theorem and15 : ∀ x : Fin 256, bits .and .i32 ((x.val : Nat) : Int) 15 = ((x.val % 16 : Nat) : Int) := by decide +kernel
theorem and7 : ∀ x : Fin 256, bits .and .i32 ((x.val : Nat) : Int) 7 = ((x.val % 8 : Nat) : Int) := by decide +kernel
theorem and63 : ∀ x : Fin 256, bits .and .u8 ((x.val : Nat) : Int) 63 = ((x.val % 64 : Nat) : Int) := by decide +kernel

/-- What is gathered of the first bytes. -/
def pv (s : ByteArray) (m : Nat) : Nat → Nat
  | 0 => m
  | i + 1 => pv s m i * 64 + (s.get! (i + 1)).toNat % 64
def cont (s : ByteArray) (j : Nat) : Prop := 128 ≤ (s.get! j).toNat ∧ (s.get! j).toNat ≤ 191

theorem get_at (s : ByteArray) (i : Nat) (h : i < s.size) : (s.get! i) = s[i] := by
  simp [ByteArray.get!, h]
  rfl

theorem pv_bound (s : ByteArray) (m M N : Nat) (hm : m < M) (hN : M * 64 ^ N ≤ 134217728) : ∀ k, k < N → pv s m k < 33554432 ∧ pv s m k < M * 64 ^ k := by
  intro k hk
  have h : pv s m k < M * 64 ^ k := by
    clear hk
    induction k with
    | zero => simpa [pv] using hm
    | succ k ih =>
      rw [pv, Nat.pow_succ]
      have := Nat.mod_lt (s.get! (k + 1)).toNat (show 64 > 0 by decide)
      have e : M * (64 ^ k * 64) = (M * 64 ^ k) * 64 := by rw [Nat.mul_assoc]
      rw [e]
      omega
  refine ⟨?_, h⟩
  have h2 : M * 64 ^ k * 64 ≤ M * 64 ^ N := by
    rw [Nat.mul_assoc, ← Nat.pow_succ]
    exact Nat.mul_le_mul_left _ (Nat.pow_le_pow_right (by decide) hk)
  omega

/-- What the first rune is. -/
def oR (s : ByteArray) : Nat := (Utf8.decode s 0).1
def oZ (s : ByteArray) : Nat := (Utf8.decode s 0).2
def oB (s : ByteArray) : Bool := decide ((Utf8.decode s 0).1 = 65533 ∧ (Utf8.decode s 0).2 = 1)
theorem fin3 {s : ByteArray} {x y : Nat} {bd : Bool} (h : Utf8.decode s 0 = (x, y)) (hb : bd = decide (x = 65533 ∧ y = 1)) : Ending.returned (.tuple #[.int .i32 (oR s : Nat), .int .i64 (oZ s : Nat), .bool (oB s)]) = .returned (.tuple #[.int .i32 x, .int .i64 y, .bool bd]) := by
  rw [oR, oZ, oB, h, hb]
theorem finB {s : ByteArray} (h : Utf8.decode s 0 = (65533, 1)) : Ending.returned (.tuple #[.int .i32 (oR s : Nat), .int .i64 (oZ s : Nat), .bool (oB s)]) = .returned (.tuple #[.int .i32 65533, .int .i64 1, .bool true]) := fin3 h (by decide)
theorem finG {s : ByteArray} {x y : Nat} (h : Utf8.decode s 0 = (x, y)) (hn : ¬ (x = 65533 ∧ y = 1)) : Ending.returned (.tuple #[.int .i32 (oR s : Nat), .int .i64 (oZ s : Nat), .bool (oB s)]) = .returned (.tuple #[.int .i32 x, .int .i64 y, .bool false]) := fin3 h (by rw [decide_eq_false hn])
theorem bytes (s : ByteArray) (j : Nat) : (s.get! j).toNat < 256 := UInt8.toNat_lt _
theorem get0 (s : ByteArray) (hs : 0 < s.size) : (s.get! 0).toNat = (s[0]).toNat := by rw [get_at s 0 hs]
theorem dec0 (s : ByteArray) (hs : 0 < s.size) : Utf8.decode s 0 = Lib.decodeN s.size (s[0]).toNat (s.get! 1).toNat (s.get! 2).toNat (s.get! 3).toNat := by
  rw [Lib.decode_at, get0 s hs]; rfl
theorem bad_cont (s : ByteArray) (hs : 0 < s.size) (j : Nat) (hj : 1 ≤ j) (h : (194 ≤ (s[0]).toNat ∧ (s[0]).toNat ≤ 223 ∧ j < 2) ∨ (224 ≤ (s[0]).toNat ∧ (s[0]).toNat ≤ 239 ∧ j < 3) ∨ (240 ≤ (s[0]).toNat ∧ (s[0]).toNat ≤ 244 ∧ j < 4)) (hc : ¬ cont s j) : Utf8.decode s 0 = (65533, 1) := by
  rw [dec0 s hs]
  unfold cont at hc
  have hj3 : j = 1 ∨ j = 2 ∨ j = 3 := by omega
  refine dN_bad (by omega) (UInt8.toNat_lt _) (bytes s 1) (bytes s 2) (bytes s 3) ?_ ?_ ?_
  · rintro ⟨h1, h2, h3, h4⟩
    rcases hj3 with rfl | rfl | rfl <;> omega
  · rintro ⟨h1, h2, h3, h4, h5, _⟩
    rcases hj3 with rfl | rfl | rfl <;> omega
  · rintro ⟨h1, h2, h3, h4, h5, h6, _⟩
    rcases hj3 with rfl | rfl | rfl <;> omega
theorem bad_short (s : ByteArray) (hs : 0 < s.size) (h : (194 ≤ (s[0]).toNat ∧ (s[0]).toNat ≤ 223 ∧ s.size < 2) ∨ (224 ≤ (s[0]).toNat ∧ (s[0]).toNat ≤ 239 ∧ s.size < 3) ∨ (240 ≤ (s[0]).toNat ∧ (s[0]).toNat ≤ 244 ∧ s.size < 4) ∨ (128 ≤ (s[0]).toNat ∧ ((s[0]).toNat < 194 ∨ 244 < (s[0]).toNat))) : Utf8.decode s 0 = (65533, 1) := by
  rw [dec0 s hs]
  refine dN_bad (by omega) (UInt8.toNat_lt _) (bytes s 1) (bytes s 2) (bytes s 3) ?_ ?_ ?_
  · rintro ⟨h1, h2, h3, h4⟩; omega
  · rintro ⟨h1, h2, h3, h4, h5, _⟩; omega
  · rintro ⟨h1, h2, h3, h4, h5, h6, _⟩; omega
theorem good2 (s : ByteArray) (hs : 0 < s.size) (h1 : 194 ≤ (s[0]).toNat) (h2 : (s[0]).toNat ≤ 223) (h3 : 2 ≤ s.size) (c1 : cont s 1) (p : Nat) (hp : p = pv s ((s[0]).toNat % 32) 1) : Utf8.decode s 0 = (p, 2) := by
  rw [dec0 s hs, dN_two ⟨h1, h2, h3, c1⟩, hp]; rfl
theorem good3 (s : ByteArray) (hs : 0 < s.size) (h1 : 224 ≤ (s[0]).toNat) (h2 : (s[0]).toNat ≤ 239) (h3 : 3 ≤ s.size) (c1 : cont s 1) (c2 : cont s 2) (p : Nat) (hp : p = pv s ((s[0]).toNat % 16) 2) (hv : 2048 ≤ p ∧ (p < 55296 ∨ 57344 ≤ p)) : Utf8.decode s 0 = (p, 3) := by
  subst hp
  rw [dec0 s hs, dN_three ⟨h1, h2, h3, c1, c2, hv.1, hv.2⟩]; rfl
theorem bad3 (s : ByteArray) (hs : 0 < s.size) (h1 : 224 ≤ (s[0]).toNat) (h2 : (s[0]).toNat ≤ 239) (p : Nat) (hp : p = pv s ((s[0]).toNat % 16) 2) (hv : p < 2048 ∨ (55296 ≤ p ∧ p ≤ 57343)) : Utf8.decode s 0 = (65533, 1) := by
  subst hp
  rw [dec0 s hs]
  refine dN_bad (by omega) (UInt8.toNat_lt _) (bytes s 1) (bytes s 2) (bytes s 3) ?_ ?_ ?_
  · rintro ⟨h1, h2, h3, h4⟩; omega
  · rintro ⟨_, _, _, _, _, h8, h9⟩
    have e : r3 (s[0]).toNat (s.get! 1).toNat (s.get! 2).toNat = pv s ((s[0]).toNat % 16) 2 := rfl
    rw [e] at h8 h9; omega
  · rintro ⟨h1, _⟩; omega
theorem good4 (s : ByteArray) (hs : 0 < s.size) (h1 : 240 ≤ (s[0]).toNat) (h2 : (s[0]).toNat ≤ 244) (h3 : 4 ≤ s.size) (c1 : cont s 1) (c2 : cont s 2) (c3 : cont s 3) (p : Nat) (hp : p = pv s ((s[0]).toNat % 8) 3) (hv : 65536 ≤ p ∧ p ≤ 1114111) : Utf8.decode s 0 = (p, 4) := by
  subst hp
  rw [dec0 s hs, dN_four ⟨h1, h2, h3, c1, c2, c3, hv.1, hv.2⟩]; rfl
theorem bad4 (s : ByteArray) (hs : 0 < s.size) (h1 : 240 ≤ (s[0]).toNat) (h2 : (s[0]).toNat ≤ 244) (p : Nat) (hp : p = pv s ((s[0]).toNat % 8) 3) (hv : p < 65536 ∨ 1114111 < p) : Utf8.decode s 0 = (65533, 1) := by
  subst hp
  rw [dec0 s hs]
  refine dN_bad (by omega) (UInt8.toNat_lt _) (bytes s 1) (bytes s 2) (bytes s 3) ?_ ?_ ?_
  · rintro ⟨h1, h2, h3, h4⟩; omega
  · rintro ⟨h1, h2, _⟩; omega
  · rintro ⟨_, _, _, _, _, _, h8, h9⟩
    have e : r4 (s[0]).toNat (s.get! 1).toNat (s.get! 2).toNat (s.get! 3).toNat = pv s ((s[0]).toNat % 8) 3 := rfl
    rw [e] at h8 h9; omega

set_option maxRecDepth 10000 in
set_option maxHeartbeats 2000000 in
theorem one_any (s : ByteArray) (w : World) (hs : 0 < s.size) :
    Calls Tryd.prog 41 #[.string s] w fun e w' => e = .returned (.tuple #[.int .i32 (oR s : Nat), .int .i64 (oZ s : Nat), .bool (oB s)]) ∧ w' = w := by
  obtain ⟨b, hb⟩ : ∃ b, b = (s[0]).toNat := ⟨_, rfl⟩
  have hb256 : b < 256 := by rw [hb]; exact UInt8.toNat_lt _
  have a31 := and31 ⟨b, hb256⟩
  have a15 := and15 ⟨b, hb256⟩
  have a7 := and7 ⟨b, hb256⟩
  simp only at a31 a15 a7
  rw [hb] at a31 a15 a7
  clear hb256
  by_cases h1 : (s[0]).toNat < 128
  · have HX : Hid (Utf8.decode s 0 = ((s[0]).toNat, 1)) := by unfold Hid; rw [dec0 s hs, dN_ascii h1]
    clear a31 a15 a7 hb
    go_enter Tryd.func41, Tryd.ntmps41
    go_wp2
    go_ret3
    exact ⟨(finG HX.out (by omega)).symm, rfl⟩
  rcases (show (194 ≤ (s[0]).toNat ∧ (s[0]).toNat ≤ 223) ∨ (224 ≤ (s[0]).toNat ∧ (s[0]).toNat ≤ 239) ∨ (240 ≤ (s[0]).toNat ∧ (s[0]).toNat ≤ 244) ∨ ((s[0]).toNat < 194 ∨ 244 < (s[0]).toNat) by omega) with ⟨h2, h2'⟩ | ⟨h2, h2'⟩ | ⟨h2, h2'⟩ | h2
  · by_cases h3 : s.size < 2
    · have HX : Hid (Utf8.decode s 0 = (65533, 1)) := bad_short s hs (.inl ⟨h2, h2', h3⟩)
      clear a31 a15 a7 hb
      go_enter Tryd.func41, Tryd.ntmps41
      go_wp2
      go_ret3
      exact ⟨(finB HX.out).symm, rfl⟩
    · go_enter Tryd.func41, Tryd.ntmps41
      go_wp2
      obtain ⟨m, hm⟩ : ∃ m, m = (s[0]).toNat % 32 := ⟨_, rfl⟩
      have hm' : (((s[0]).toNat : Int) % 32) = (m : Int) := by rw [hm]; omega
      have hmm : m < 32 := by rw [hm]; exact Nat.mod_lt _ (by decide)
      have HS : Hid (194 ≤ (s[0]).toNat ∧ (s[0]).toNat ≤ 223 ∧ 2 ≤ s.size ∧ m = (s[0]).toNat % 32) := ⟨h2, h2', by omega, hm⟩
      rw [hm']
      clear hm hm' a31 a15 a7 h1 h2 h2' h3 hb
      try generalize decide (((s[0]).toNat : Int) < 128) = d1
      try generalize decide (((s[0]).toNat : Int) ≤ 223) = d2
      try generalize decide (((s[0]).toNat : Int) ≤ 239) = d3
      try generalize decide (((s[0]).toNat : Int) ≤ 244) = d4
      try generalize decide ((s.size : Int) < 2) = d5
      try generalize decide ((194 : Int) ≤ (s[0]).toNat) = d6
      try generalize decide ((224 : Int) ≤ (s[0]).toNat) = d7
      try generalize decide ((240 : Int) ≤ (s[0]).toNat) = d8
      go_loopw [7, 8] (fun r i wr => ∃ k : Nat, k < 2 ∧ i = .int .i64 ((k : Int) + 1) ∧ r = .int .i32 (pv s m k : Nat) ∧ (∀ j, 1 ≤ j → j ≤ k → cont s j) ∧ wr = w) (fun _ i _ => 2 - (intOf i).toNat)
      case atStart => exact ⟨0, by decide, rfl, rfl, fun j h1 h2 => by omega, rfl⟩
      case round =>
        obtain ⟨k, hk, rfl, rfl, hcs, rfl⟩ := hrel
        have hpb := (pv_bound s m 32 2 hmm (by decide) k hk).1
        obtain ⟨p, hp⟩ : ∃ p, p = pv s m k := ⟨_, rfl⟩
        rw [← hp]
        rw [← hp] at hpb
        have HH : Hid ((∀ j, 1 ≤ j → j ≤ k → cont s j) ∧ p = pv s m k) := ⟨hcs, hp⟩
        clear hcs hp
        by_cases hk2 : k + 1 < 2
        · have hlt : k + 1 < s.size := by have := HS.out.2.2.1; omega
          have a63 := and63 ⟨(s[k + 1]).toNat, UInt8.toNat_lt _⟩
          simp only at a63
          by_cases hc1 : 128 ≤ (s[k + 1]).toNat ∧ (s[k + 1]).toNat ≤ 191
          · obtain ⟨hc1, hc2⟩ := hc1
            go_wp2
            go_roundw
            case rel =>
              obtain ⟨hcs, hp⟩ := HH.out
              have e : ((p : Int) * 64 + ((s[k + 1]).toNat : Int) % 64) = ((pv s m (k + 1) : Nat) : Int) := by
                rw [pv, ← hp, get_at s (k + 1) hlt]; omega
              refine ⟨k + 1, by omega, by go_num, by rw [e], fun j j1 j2 => ?_, by first | rfl | trivial⟩
              by_cases hj : j = k + 1
              · subst hj; unfold cont; rw [get_at s (k + 1) hlt]; exact ⟨hc1, hc2⟩
              · exact hcs j j1 (by omega)
            case measure => simp [intOf]; omega
          · have hbad : ¬ cont s (k + 1) := by unfold cont; rw [get_at s (k + 1) hlt]; exact hc1
            have HX : Hid (Utf8.decode s 0 = (65533, 1)) := bad_cont s hs (k + 1) (by omega) (.inl ⟨HS.out.1, HS.out.2.1, hk2⟩) hbad
            rcases (show (s[k + 1]).toNat < 128 ∨ 191 < (s[k + 1]).toNat by omega) with hc1 | hc1
            · go_wp2
              go_ret3
              exact ⟨(finB HX.out).symm, rfl⟩
            · go_wp2
              go_ret3
              exact ⟨(finB HX.out).symm, rfl⟩
        · have hk3 : k = 2 - 1 := by omega
          subst hk3
          have HX : Hid (Utf8.decode s 0 = (p, 2)) := by
            obtain ⟨c1, c2, c3, c4⟩ := HS.out
            obtain ⟨hcs, hp⟩ := HH.out
            exact good2 s hs c1 c2 c3 (hcs 1 (by omega) (by omega)) p (by rw [hp, c4])
          have hp2 : p < 2048 := by
            have := (pv_bound s m 32 2 hmm (by decide) 1 (by omega)).2
            rw [HH.out.2]; omega
          go_wp2
          go_ret3
          exact ⟨(finG HX.out (by omega)).symm, rfl⟩
  · by_cases h3 : s.size < 3
    · have HX : Hid (Utf8.decode s 0 = (65533, 1)) := bad_short s hs (.inr (.inl ⟨h2, h2', h3⟩))
      clear a31 a15 a7 hb
      go_enter Tryd.func41, Tryd.ntmps41
      go_wp2
      go_ret3
      exact ⟨(finB HX.out).symm, rfl⟩
    · go_enter Tryd.func41, Tryd.ntmps41
      go_wp2
      obtain ⟨m, hm⟩ : ∃ m, m = (s[0]).toNat % 16 := ⟨_, rfl⟩
      have hm' : (((s[0]).toNat : Int) % 16) = (m : Int) := by rw [hm]; omega
      have hmm : m < 16 := by rw [hm]; exact Nat.mod_lt _ (by decide)
      have HS : Hid (224 ≤ (s[0]).toNat ∧ (s[0]).toNat ≤ 239 ∧ 3 ≤ s.size ∧ m = (s[0]).toNat % 16) := ⟨h2, h2', by omega, hm⟩
      rw [hm']
      clear hm hm' a31 a15 a7 h1 h2 h2' h3 hb
      try generalize decide (((s[0]).toNat : Int) < 128) = d1
      try generalize decide (((s[0]).toNat : Int) ≤ 223) = d2
      try generalize decide (((s[0]).toNat : Int) ≤ 239) = d3
      try generalize decide (((s[0]).toNat : Int) ≤ 244) = d4
      try generalize decide ((s.size : Int) < 3) = d5
      try generalize decide ((194 : Int) ≤ (s[0]).toNat) = d6
      try generalize decide ((224 : Int) ≤ (s[0]).toNat) = d7
      try generalize decide ((240 : Int) ≤ (s[0]).toNat) = d8
      go_loopw [7, 8] (fun r i wr => ∃ k : Nat, k < 3 ∧ i = .int .i64 ((k : Int) + 1) ∧ r = .int .i32 (pv s m k : Nat) ∧ (∀ j, 1 ≤ j → j ≤ k → cont s j) ∧ wr = w) (fun _ i _ => 3 - (intOf i).toNat)
      case atStart => exact ⟨0, by decide, rfl, rfl, fun j h1 h2 => by omega, rfl⟩
      case round =>
        obtain ⟨k, hk, rfl, rfl, hcs, rfl⟩ := hrel
        have hpb := (pv_bound s m 16 3 hmm (by decide) k hk).1
        obtain ⟨p, hp⟩ : ∃ p, p = pv s m k := ⟨_, rfl⟩
        rw [← hp]
        rw [← hp] at hpb
        have HH : Hid ((∀ j, 1 ≤ j → j ≤ k → cont s j) ∧ p = pv s m k) := ⟨hcs, hp⟩
        clear hcs hp
        by_cases hk2 : k + 1 < 3
        · have hlt : k + 1 < s.size := by have := HS.out.2.2.1; omega
          have a63 := and63 ⟨(s[k + 1]).toNat, UInt8.toNat_lt _⟩
          simp only at a63
          by_cases hc1 : 128 ≤ (s[k + 1]).toNat ∧ (s[k + 1]).toNat ≤ 191
          · obtain ⟨hc1, hc2⟩ := hc1
            go_wp2
            go_roundw
            case rel =>
              obtain ⟨hcs, hp⟩ := HH.out
              have e : ((p : Int) * 64 + ((s[k + 1]).toNat : Int) % 64) = ((pv s m (k + 1) : Nat) : Int) := by
                rw [pv, ← hp, get_at s (k + 1) hlt]; omega
              refine ⟨k + 1, by omega, by go_num, by rw [e], fun j j1 j2 => ?_, by first | rfl | trivial⟩
              by_cases hj : j = k + 1
              · subst hj; unfold cont; rw [get_at s (k + 1) hlt]; exact ⟨hc1, hc2⟩
              · exact hcs j j1 (by omega)
            case measure => simp [intOf]; omega
          · have hbad : ¬ cont s (k + 1) := by unfold cont; rw [get_at s (k + 1) hlt]; exact hc1
            have HX : Hid (Utf8.decode s 0 = (65533, 1)) := bad_cont s hs (k + 1) (by omega) (.inr (.inl ⟨HS.out.1, HS.out.2.1, hk2⟩)) hbad
            rcases (show (s[k + 1]).toNat < 128 ∨ 191 < (s[k + 1]).toNat by omega) with hc1 | hc1
            · go_wp2
              go_ret3
              exact ⟨(finB HX.out).symm, rfl⟩
            · go_wp2
              go_ret3
              exact ⟨(finB HX.out).symm, rfl⟩
        · have hk3 : k = 3 - 1 := by omega
          subst hk3
          have h3 : HS = HS := rfl
          clear h3
          obtain ⟨p', hp'⟩ : ∃ p', p' = p := ⟨_, rfl⟩
          clear hp' p'
          have HP : Hid (p = pv s ((s[0]).toNat % 16) 2) := by
            unfold Hid; rw [HH.out.2, HS.out.2.2.2]
          have hpl : p < 65536 := by
            have := (pv_bound s m 16 3 hmm (by decide) 2 (by omega)).2
            rw [HH.out.2]; omega
          by_cases v1 : p < 2048
          · have HX : Hid (Utf8.decode s 0 = (65533, 1)) := bad3 s hs HS.out.1 HS.out.2.1 p HP.out (.inl v1)
            go_wp2
            go_ret3
            exact ⟨(finB HX.out).symm, rfl⟩
          by_cases v2 : 55296 ≤ p ∧ p ≤ 57343
          · have HX : Hid (Utf8.decode s 0 = (65533, 1)) := bad3 s hs HS.out.1 HS.out.2.1 p HP.out (.inr v2)
            obtain ⟨v3, v4⟩ := v2
            go_wp2
            go_ret3
            exact ⟨(finB HX.out).symm, rfl⟩
          · have HX : Hid (Utf8.decode s 0 = (p, 3)) := by
              obtain ⟨hcs, _⟩ := HH.out
              exact good3 s hs HS.out.1 HS.out.2.1 HS.out.2.2.1 (hcs 1 (by omega) (by omega)) (hcs 2 (by omega) (by omega)) p HP.out ⟨by omega, by omega⟩
            rcases (show p < 55296 ∨ 57343 < p by omega) with v3 | v3
            · go_wp2
              go_ret3
              exact ⟨(finG HX.out (by omega)).symm, rfl⟩
            · go_wp2
              go_ret3
              exact ⟨(finG HX.out (by omega)).symm, rfl⟩
  · by_cases h3 : s.size < 4
    · have HX : Hid (Utf8.decode s 0 = (65533, 1)) := bad_short s hs (.inr (.inr (.inl ⟨h2, h2', h3⟩)))
      clear a31 a15 a7 hb
      go_enter Tryd.func41, Tryd.ntmps41
      go_wp2
      go_ret3
      exact ⟨(finB HX.out).symm, rfl⟩
    · go_enter Tryd.func41, Tryd.ntmps41
      go_wp2
      obtain ⟨m, hm⟩ : ∃ m, m = (s[0]).toNat % 8 := ⟨_, rfl⟩
      have hm' : (((s[0]).toNat : Int) % 8) = (m : Int) := by rw [hm]; omega
      have hmm : m < 8 := by rw [hm]; exact Nat.mod_lt _ (by decide)
      have HS : Hid (240 ≤ (s[0]).toNat ∧ (s[0]).toNat ≤ 244 ∧ 4 ≤ s.size ∧ m = (s[0]).toNat % 8) := ⟨h2, h2', by omega, hm⟩
      rw [hm']
      clear hm hm' a31 a15 a7 h1 h2 h2' h3 hb
      try generalize decide (((s[0]).toNat : Int) < 128) = d1
      try generalize decide (((s[0]).toNat : Int) ≤ 223) = d2
      try generalize decide (((s[0]).toNat : Int) ≤ 239) = d3
      try generalize decide (((s[0]).toNat : Int) ≤ 244) = d4
      try generalize decide ((s.size : Int) < 4) = d5
      try generalize decide ((194 : Int) ≤ (s[0]).toNat) = d6
      try generalize decide ((224 : Int) ≤ (s[0]).toNat) = d7
      try generalize decide ((240 : Int) ≤ (s[0]).toNat) = d8
      go_loopw [7, 8] (fun r i wr => ∃ k : Nat, k < 4 ∧ i = .int .i64 ((k : Int) + 1) ∧ r = .int .i32 (pv s m k : Nat) ∧ (∀ j, 1 ≤ j → j ≤ k → cont s j) ∧ wr = w) (fun _ i _ => 4 - (intOf i).toNat)
      case atStart => exact ⟨0, by decide, rfl, rfl, fun j h1 h2 => by omega, rfl⟩
      case round =>
        obtain ⟨k, hk, rfl, rfl, hcs, rfl⟩ := hrel
        have hpb := (pv_bound s m 8 4 hmm (by decide) k hk).1
        obtain ⟨p, hp⟩ : ∃ p, p = pv s m k := ⟨_, rfl⟩
        rw [← hp]
        rw [← hp] at hpb
        have HH : Hid ((∀ j, 1 ≤ j → j ≤ k → cont s j) ∧ p = pv s m k) := ⟨hcs, hp⟩
        clear hcs hp
        by_cases hk2 : k + 1 < 4
        · have hlt : k + 1 < s.size := by have := HS.out.2.2.1; omega
          have a63 := and63 ⟨(s[k + 1]).toNat, UInt8.toNat_lt _⟩
          simp only at a63
          by_cases hc1 : 128 ≤ (s[k + 1]).toNat ∧ (s[k + 1]).toNat ≤ 191
          · obtain ⟨hc1, hc2⟩ := hc1
            go_wp2
            go_roundw
            case rel =>
              obtain ⟨hcs, hp⟩ := HH.out
              have e : ((p : Int) * 64 + ((s[k + 1]).toNat : Int) % 64) = ((pv s m (k + 1) : Nat) : Int) := by
                rw [pv, ← hp, get_at s (k + 1) hlt]; omega
              refine ⟨k + 1, by omega, by go_num, by rw [e], fun j j1 j2 => ?_, by first | rfl | trivial⟩
              by_cases hj : j = k + 1
              · subst hj; unfold cont; rw [get_at s (k + 1) hlt]; exact ⟨hc1, hc2⟩
              · exact hcs j j1 (by omega)
            case measure => simp [intOf]; omega
          · have hbad : ¬ cont s (k + 1) := by unfold cont; rw [get_at s (k + 1) hlt]; exact hc1
            have HX : Hid (Utf8.decode s 0 = (65533, 1)) := bad_cont s hs (k + 1) (by omega) (.inr (.inr ⟨HS.out.1, HS.out.2.1, hk2⟩)) hbad
            rcases (show (s[k + 1]).toNat < 128 ∨ 191 < (s[k + 1]).toNat by omega) with hc1 | hc1
            · go_wp2
              go_ret3
              exact ⟨(finB HX.out).symm, rfl⟩
            · go_wp2
              go_ret3
              exact ⟨(finB HX.out).symm, rfl⟩
        · have hk3 : k = 4 - 1 := by omega
          subst hk3
          have HP : Hid (p = pv s ((s[0]).toNat % 8) 3) := by
            unfold Hid; rw [HH.out.2, HS.out.2.2.2]
          by_cases v1 : p < 65536
          · have HX : Hid (Utf8.decode s 0 = (65533, 1)) := bad4 s hs HS.out.1 HS.out.2.1 p HP.out (.inl v1)
            go_wp2
            go_ret3
            exact ⟨(finB HX.out).symm, rfl⟩
          by_cases v2 : 1114111 < p
          · have HX : Hid (Utf8.decode s 0 = (65533, 1)) := bad4 s hs HS.out.1 HS.out.2.1 p HP.out (.inr v2)
            go_wp2
            go_ret3
            exact ⟨(finB HX.out).symm, rfl⟩
          · have HX : Hid (Utf8.decode s 0 = (p, 4)) := by
              obtain ⟨hcs, _⟩ := HH.out
              exact good4 s hs HS.out.1 HS.out.2.1 HS.out.2.2.1 (hcs 1 (by omega) (by omega)) (hcs 2 (by omega) (by omega)) (hcs 3 (by omega) (by omega)) p HP.out ⟨by omega, by omega⟩
            go_wp2
            go_ret3
            exact ⟨(finG HX.out (by omega)).symm, rfl⟩
  · have HX : Hid (Utf8.decode s 0 = (65533, 1)) := bad_short s hs (.inr (.inr (.inr ⟨by omega, h2⟩)))
    clear a31 a15 a7 hb
    rcases h2 with h2 | h2
    · go_enter Tryd.func41, Tryd.ntmps41
      go_wp2
      go_ret3
      exact ⟨(finB HX.out).symm, rfl⟩
    · go_enter Tryd.func41, Tryd.ntmps41
      go_wp2
      go_ret3
      exact ⟨(finB HX.out).symm, rfl⟩

end Go.Proofs.YtlooemhaoikidaaDoor
