/-
  The document's side of stage 15: Text.
-/
import Derived.Test.YtcahdmfmcojaoaaGreatDoorK43
import Derived.Test.YtcahdmfmcojaoaaGreatDoorK44
namespace Go.Proofs.YtcahdmfmcojaoaaGreatDoor
open Go.RowKit

theorem rpair15_any (x y : Ce) (w : World) : Calls Tryz.prog 31 #[(Value.agg #[.int .i32 x.r, .int .u8 x.c.r, .int .u8 x.c.g, .int .u8 x.c.b, .int .u8 x.c.a, .int .u8 x.b.r, .int .u8 x.b.g, .int .u8 x.b.b, .int .u8 x.b.a, .bool x.wd, .bool x.tl]), (Value.agg #[.int .i32 y.r, .int .u8 y.c.r, .int .u8 y.c.g, .int .u8 y.c.b, .int .u8 y.c.a, .int .u8 y.b.r, .int .u8 y.b.g, .int .u8 y.b.b, .int .u8 y.b.a, .bool y.wd, .bool y.tl])] w fun e w' => e = .returned (.bool (smR x y)) ∧ Below w.heap.size w w' := by
  have H0 : Hid (Below w.heap.size w ((w.alloc (.cells (#[.int .i32 x.r, .int .u8 x.c.r, .int .u8 x.c.g, .int .u8 x.c.b, .int .u8 x.c.a, .int .u8 x.b.r, .int .u8 x.b.g, .int .u8 x.b.b, .int .u8 x.b.a, .bool x.wd, .bool x.tl]) 34)).alloc (.cells (#[.int .i32 y.r, .int .u8 y.c.r, .int .u8 y.c.g, .int .u8 y.c.b, .int .u8 y.c.a, .int .u8 y.b.r, .int .u8 y.b.g, .int .u8 y.b.b, .int .u8 y.b.a, .bool y.wd, .bool y.tl]) 34))) := ((Below.refl w.heap.size w).alloc (Nat.le_refl _) _).alloc (by simp) _
  obtain ⟨r, c, b, wd, tl⟩ := x
  obtain ⟨r', c', b', wd', tl'⟩ := y
  simp only at *
  unfold smR
  simp only
  cases wd
  · go_enter Tryz.func31, Tryz.ntmps31
    go_wp2
    go_ret
    exact ⟨rfl, H0.out⟩
  · cases tl'
    · go_enter Tryz.func31, Tryz.ntmps31
      go_wp2
      go_ret
      exact ⟨rfl, H0.out⟩
    · go_enter Tryz.func31, Tryz.ntmps31
      go_wp2
      go_ret
      exact ⟨rfl, H0.out⟩

theorem enc_utf (n : Nat) (h : n < 55296 ∨ (57343 < n ∧ n ≤ 1114111)) : Utf8.encode (n : Int) = ⟨(Lib.encodeRune (n : Int)).toArray⟩ := by
  have hv : Utf8.valid (n : Int) = true := by
    unfold Utf8.valid
    simp only [Bool.or_eq_true, Bool.and_eq_true, decide_eq_true_eq]
    omega
  unfold Utf8.encode
  simp only [hv, if_true, Int.toNat_natCast]
  by_cases h1 : n < 128
  · rw [if_pos h1, Lib.encodeRune, Lib.encodeRuneZ_one (by omega) (by omega)]
    rfl
  · rw [if_neg h1]
    by_cases h2 : n < 2048
    · rw [if_pos h2, Lib.encodeRune, Lib.encodeRuneZ_two (by omega) (by omega)]
      have e1 : (192 + (n : Int) / 64).toNat = 192 + n / 64 := by omega
      have e2 : (128 + (n : Int) % 64).toNat = 128 + n % 64 := by omega
      simp only [List.map_cons, List.map_nil, e1, e2]
    · rw [if_neg h2]
      by_cases h3 : n < 65536
      · rw [if_pos h3, Lib.encodeRune, Lib.encodeRuneZ_three (by omega)]
        have e1 : (224 + (n : Int) / 4096).toNat = 224 + n / 4096 := by omega
        have e2 : (128 + (n : Int) / 64 % 64).toNat = 128 + n / 64 % 64 := by omega
        have e3 : (128 + (n : Int) % 64).toNat = 128 + n % 64 := by omega
        simp only [List.map_cons, List.map_nil, e1, e2, e3]
      · rw [if_neg h3, Lib.encodeRune, Lib.encodeRuneZ_four (by omega) (by omega)]
        have e1 : (240 + (n : Int) / 262144).toNat = 240 + n / 262144 := by omega
        have e2 : (128 + (n : Int) / 4096 % 64).toNat = 128 + n / 4096 % 64 := by omega
        have e3 : (128 + (n : Int) / 64 % 64).toNat = 128 + n / 64 % 64 := by omega
        have e4 : (128 + (n : Int) % 64).toNat = 128 + n % 64 := by omega
        simp only [List.map_cons, List.map_nil, e1, e2, e3, e4]
theorem enc_ce {c : Ce} (h : okCe c = true) : Utf8.encode c.r = ⟨(Lib.encodeRune c.r).toArray⟩ := by
  unfold okCe at h
  rw [Bool.and_eq_true] at h
  have h2 := of_decide_eq_true h.1
  obtain ⟨n, hn⟩ : ∃ n : Nat, c.r = n := ⟨c.r.toNat, by omega⟩
  rw [hn] at h2 ⊢
  exact enc_utf n (by omega)
theorem okc_two {c : Ce} (h : okCe c = true) : (c.wd && c.tl) = false := by
  unfold okCe at h
  rw [Bool.and_eq_true] at h
  have h2 := h.2
  split at h2
  · cases hw : c.wd
    · rfl
    · rw [hw] at h2; simp at h2
  · split at h2
    · cases hw : c.wd
      · rfl
      · cases ht : c.tl
        · rfl
        · rw [hw, ht] at h2; simp at h2
    · cases h2
theorem tl_left {l : List Ce} {k : Nat} (ho : okCe (l.getD k ceZ) = true) (h1 : k + 1 < l.length) (h2 : smR (l.getD k ceZ) (l.getD (k + 1) ceZ) = true) : tlB l k = Lib.encodeRune (l.getD k ceZ).r := by
  have hw : (l.getD k ceZ).wd = true := by
    unfold smR at h2
    rw [Bool.and_eq_true] at h2
    exact h2.1
  have ht : (l.getD k ceZ).tl = false := by
    have := okc_two ho
    rw [hw, Bool.true_and] at this
    exact this
  have e : wayF smR l k = 0 := by
    unfold wayF
    rw [hw, ht, h2, decide_eq_false (show ¬ (k + 1 = l.length) by omega)]
    rfl
  unfold tlB
  rw [e, if_pos rfl]
theorem tl_rest {l : List Ce} {k : Nat} (ho : okCe (l.getD k ceZ) = true) (h1 : 0 < k) (h2 : smR (l.getD (k - 1) ceZ) (l.getD k ceZ) = true) : tlB l k = [] := by
  have ht : (l.getD k ceZ).tl = true := by
    unfold smR at h2
    rw [Bool.and_eq_true, Bool.and_eq_true] at h2
    exact h2.2.1
  have hw : (l.getD k ceZ).wd = false := by
    have := okc_two ho
    rw [ht, Bool.and_true] at this
    exact this
  have e : wayF smR l k = 1 := by
    unfold wayF
    rw [hw, ht, h2, decide_eq_true h1]
    rfl
  unfold tlB
  rw [e, if_neg (by decide), if_pos rfl]
theorem tl_blank {l : List Ce} {k : Nat} (hk : k < l.length) (h1 : ¬ (k + 1 < l.length ∧ smR (l.getD k ceZ) (l.getD (k + 1) ceZ) = true)) (h2 : ¬ (0 < k ∧ smR (l.getD (k - 1) ceZ) (l.getD k ceZ) = true)) (h3 : ((l.getD k ceZ).wd || (l.getD k ceZ).tl) = true) : tlB l k = [32] := by
  have h4 : (decide (k + 1 = l.length) || !smR (l.getD k ceZ) (l.getD (k + 1) ceZ)) = true := by
    by_cases e : k + 1 = l.length
    · rw [decide_eq_true e]; rfl
    · cases hs : smR (l.getD k ceZ) (l.getD (k + 1) ceZ)
      · simp
      · exact absurd ⟨by omega, hs⟩ h1
  have h5 : (decide (0 < k) && smR (l.getD (k - 1) ceZ) (l.getD k ceZ)) = false := by
    cases hs : smR (l.getD (k - 1) ceZ) (l.getD k ceZ)
    · simp
    · rw [decide_eq_false (fun h => h2 ⟨h, hs⟩)]; rfl
  have e : wayF smR l k = 2 ∨ wayF smR l k = 3 := by
    unfold wayF
    rw [h4, h5]
    cases hw : (l.getD k ceZ).wd
    · rw [hw, Bool.false_or] at h3
      rw [h3]
      exact .inr rfl
    · exact .inl rfl
  unfold tlB
  rcases e with e | e
  · rw [e, if_neg (by decide), if_neg (by decide)]
  · rw [e, if_neg (by decide), if_neg (by decide)]
theorem tl_plain {l : List Ce} {k : Nat} (h3 : ((l.getD k ceZ).wd || (l.getD k ceZ).tl) = false) : tlB l k = Lib.encodeRune (l.getD k ceZ).r := by
  rw [Bool.or_eq_false_iff] at h3
  have e : wayF smR l k = 0 := by
    unfold wayF
    rw [h3.1, h3.2]
    rfl
  unfold tlB
  rw [e, if_pos rfl]
def baT (l : List UInt8) : ByteArray := ⟨l.toArray⟩
theorem baT_size (l : List UInt8) : (baT l).size = l.length := by simp [baT, ByteArray.size]
theorem baT_cat (a b : List UInt8) : baT a ++ baT b = baT (a ++ b) := by
  apply ByteArray.ext
  simp [baT]
theorem enc_baT {c : Ce} (h : okCe c = true) : Utf8.encode c.r = baT (Lib.encodeRune c.r) := enc_ce h
set_option maxRecDepth 20000 in
set_option maxHeartbeats 2000000 in
theorem rtext_bad (a b : Int) (l : List Ce) (v : Value) (w : World) (hv : LsC w v l) (hl : l.length ≤ 9223372036854775806) (hE : scE a b l = 150) :
    Calls Tryz.prog 10 #[.agg #[.int .i64 a, .int .i64 b, v]] w fun e w' => e = .returned (.tuple #[.string ⟨#[]⟩, .int .i64 150]) ∧ Below w.heap.size w w' := by
  obtain ⟨oa, cap, rfl, hcap, -⟩ := id hv
  have HC : Hid (∀ W, Below w.heap.size w W → Calls Tryz.prog 25 #[.agg #[.int .i64 a, .int .i64 b, .slice oa l.length cap]] W fun e w' => e = .returned (.int .i64 150) ∧ Below W.heap.size W w') := fun W h => by rw [← hE]; exact rcheck15_any a b l _ W (hv.below h) hl
  have HL : Hid (∀ c, Below w.heap.size w (w.alloc c)) := fun c => (Below.refl _ w).alloc (Nat.le_refl _) _
  clear hv hE
  go_enter Tryz.func10, Tryz.ntmps10
  go_wp2_with fail
  refine (HC.out _ (HL.out _)).mono ?_
  rintro e w2 ⟨rfl, hb⟩
  have H2 : Hid (Below w.heap.size w w2) := (HL.out _).trans (hb.mono (HL.out _).size)
  clear hb HL HC
  go_wp2
  go_ret2
  exact ⟨rfl, H2.out⟩

structure RtW (w : World) (sb : Nat) (cs : Array Value) (W : World) : Prop where
  bx : Bk W sb cs 26
  lo : Below w.heap.size w W
theorem RtW.below {w : World} {sb : Nat} {cs : Array Value} {W W' : World} (h : RtW w sb cs W) (hb : Below W.heap.size W W') : RtW w sb cs W' := ⟨h.bx.below hb, h.lo.trans (hb.mono h.lo.size)⟩

set_option maxRecDepth 20000 in
set_option maxHeartbeats 4000000 in
theorem rtext_flat (a b : Nat) (v : Value) (l : List Ce) (w : World) (hv : LsC w v l) (nv : NoNil v) (hE : scE a b l = 0) (h0 : a = 0 ∨ b = 0) :
    Calls Tryz.prog 10 #[.agg #[.int .i64 a, .int .i64 b, v]] w fun e w' => e = .returned (.tuple #[.string ⟨(txtB a l b).toArray⟩, .int .i64 0]) ∧ Below w.heap.size w w' := by
  have hq : szB a b = true ∧ (l.length : Int) = a * b := by
    unfold scE at hE
    split at hE
    · next h => exact ⟨h.1, h.2.1⟩
    · cases hE
  have hb6 : b ≤ 16384 := by have := (szB_iff.1 hq.1).2.2.2.1; omega
  have hl0 : l = [] := by
    apply List.length_eq_zero_iff.1
    rcases h0 with rfl | rfl <;> omega
  subst hl0
  obtain ⟨oa, cap, rfl, -, -⟩ := id hv
  have HC : Hid (∀ W, Below w.heap.size w W → Calls Tryz.prog 25 #[.agg #[.int .i64 a, .int .i64 b, .slice oa 0 cap]] W fun e w' => e = .returned (.int .i64 0) ∧ Below W.heap.size W w') := fun W h => by rw [← hE]; exact rcheck15_any a b [] _ W (hv.below h) (by simp)
  have hz : b = 0 ∨ (a = 0 ∧ 0 < b) := by omega
  have HB0 : Hid (∀ W, W = w.alloc (.cells #[.int .i64 a, .int .i64 b, .slice oa 0 cap] 26) → RtW w w.heap.size #[.int .i64 a, .int .i64 b, .slice oa 0 cap] W) := fun W hW => by
    subst hW
    exact ⟨Bk.new w _ _, (Below.refl _ w).alloc (Nat.le_refl _) _⟩
  have hcap : oa = none → cap = 0 := fun e => by subst e; exact nv cap rfl
  have HTx : Hid (∀ k, (baT (txtB 0 [] k)).size = k ∧ baT (txtB 0 [] k) ++ ⟨#[10]⟩ = baT (txtB 0 [] (k + 1))) := fun k => by
    have hr : ∀ y, rowL 0 [] y = [] := fun y => by simp [rowL]
    have hs : ∀ y, txtB 0 [] (y + 1) = txtB 0 [] y ++ [10] := fun y => by rw [txtB, hr]; simp [rowB]
    have hl : ∀ y, (txtB 0 [] y).length = y := fun y => by
      induction y with
      | zero => rfl
      | succ y ih => rw [hs, List.length_append, ih]; rfl
    refine ⟨by rw [baT_size, hl], ?_⟩
    rw [hs, ← baT_cat]
    rfl
  clear hv hE hq h0 nv
  have z0 : ((0 : Nat) : Int) = 0 := rfl
  rcases hz with rfl | ⟨rfl, hb0⟩
  · clear hcap
    simp only [z0] at HB0 HC ⊢
    go_enter Tryz.func10, Tryz.ntmps10
    go_wp2_with fail
    obtain ⟨W1, hW1⟩ : ∃ W1, W1 = w.alloc (.cells #[.int .i64 a, .int .i64 0, .slice oa 0 cap] 26) := ⟨_, rfl⟩
    obtain ⟨sb, hsb⟩ : ∃ sb, sb = w.heap.size := ⟨_, rfl⟩
    have H1 : Hid (RtW w sb #[.int .i64 a, .int .i64 0, .slice oa 0 cap] W1) := by rw [hsb]; exact HB0.out W1 hW1
    rw [← hW1, ← hsb]
    clear hW1 HB0 hsb
    refine (HC.out _ H1.out.lo).mono ?_
    rintro e W2 ⟨rfl, hb2⟩
    have H2 := show Hid _ from H1.out.below hb2
    clear H1 hb2 HC
    go_wp2_with fail
    obtain ⟨x0, x1, x2⟩ := Bk.at3S H2.out.bx
    go_loopw [5, 6] (fun o i wr => o = .string ⟨#[]⟩ ∧ i = .int .i64 0 ∧ Hid (wr = W2)) (fun _ _ _ => 0)
    case atStart => exact ⟨rfl, rfl, (rfl : Hid _)⟩
    case round =>
      obtain ⟨rfl, rfl, HW⟩ := hrel
      obtain rfl := HW.out
      go_wp2
      go_ret2
      exact ⟨rfl, H2.out.lo⟩
  · simp only [z0] at HB0 HC ⊢
    have e3 : ∀ z : Int, z * (0 : Int) = 0 := fun z => by simp
    rcases (show (oa = none ∧ cap = 0) ∨ ∃ ad, oa = some ad by
      cases oa with
      | none => exact .inl ⟨rfl, hcap rfl⟩
      | some ad => exact .inr ⟨ad, rfl⟩) with ⟨rfl, rfl⟩ | ⟨ad, rfl⟩
    · clear hcap
      go_enter Tryz.func10, Tryz.ntmps10
      go_wp2_with fail
      obtain ⟨W1, hW1⟩ : ∃ W1, W1 = w.alloc (.cells #[.int .i64 0, .int .i64 b, .slice none 0 0] 26) := ⟨_, rfl⟩
      obtain ⟨sb, hsb⟩ : ∃ sb, sb = w.heap.size := ⟨_, rfl⟩
      have H1 : Hid (RtW w sb #[.int .i64 0, .int .i64 b, .slice none 0 0] W1) := by rw [hsb]; exact HB0.out W1 hW1
      rw [← hW1, ← hsb]
      clear hW1 HB0 hsb
      refine (HC.out _ H1.out.lo).mono ?_
      rintro e W2 ⟨rfl, hb2⟩
      have H2 := show Hid _ from H1.out.below hb2
      clear H1 hb2 HC
      go_wp2_with fail
      go_loopw [5, 6] (fun o i wr => ∃ k : Nat, k ≤ b ∧ o = .string (baT (txtB 0 [] k)) ∧ i = .int .i64 k ∧ Hid (wr = W2)) (fun _ i _ => b - (RowKit.intOf i).toNat)
      case atStart => exact ⟨0, Nat.zero_le _, rfl, rfl, (rfl : Hid _)⟩
      case round =>
        obtain ⟨k, hk, rfl, rfl, HW⟩ := hrel
        obtain rfl := HW.out
        obtain ⟨x0, x1, x2⟩ := Bk.at3S H2.out.bx
        have hS := (HTx.out k).1
        have hN := (HTx.out k).2
        have HN : Hid (baT (txtB 0 [] k) ++ ⟨#[10]⟩ = baT (txtB 0 [] (k + 1))) := hN
        clear hN
        by_cases hlt : k < b
        · have ik : (k : Int) < b := by omega
          generalize baT (txtB 0 [] k) = S at *
          go_wp2_with fail
          go_loopw [5, 8] (fun o i wx => o = .string S ∧ i = .int .i64 0 ∧ Hid (wx = wr)) (fun _ _ _ => 0)
          case atStart => exact ⟨rfl, rfl, (rfl : Hid _)⟩
          case round =>
            obtain ⟨rfl, rfl, HW2⟩ := hrel
            obtain rfl := HW2.out
            go_wp2
            exact ⟨⟨k + 1, by omega, by rw [← HN.out], by go_num, True.intro⟩, by simp [RowKit.intOf]; omega⟩
        · obtain rfl : k = b := by omega
          go_wp2
          go_ret2
          exact ⟨rfl, H2.out.lo⟩
    · clear hcap
      go_enter Tryz.func10, Tryz.ntmps10
      go_wp2_with fail
      obtain ⟨W1, hW1⟩ : ∃ W1, W1 = w.alloc (.cells #[.int .i64 0, .int .i64 b, .slice (some ad) 0 cap] 26) := ⟨_, rfl⟩
      obtain ⟨sb, hsb⟩ : ∃ sb, sb = w.heap.size := ⟨_, rfl⟩
      have H1 : Hid (RtW w sb #[.int .i64 0, .int .i64 b, .slice (some ad) 0 cap] W1) := by rw [hsb]; exact HB0.out W1 hW1
      rw [← hW1, ← hsb]
      clear hW1 HB0 hsb
      refine (HC.out _ H1.out.lo).mono ?_
      rintro e W2 ⟨rfl, hb2⟩
      have H2 := show Hid _ from H1.out.below hb2
      clear H1 hb2 HC
      go_wp2_with fail
      go_loopw [5, 6] (fun o i wr => ∃ k : Nat, k ≤ b ∧ o = .string (baT (txtB 0 [] k)) ∧ i = .int .i64 k ∧ Hid (wr = W2)) (fun _ i _ => b - (RowKit.intOf i).toNat)
      case atStart => exact ⟨0, Nat.zero_le _, rfl, rfl, (rfl : Hid _)⟩
      case round =>
        obtain ⟨k, hk, rfl, rfl, HW⟩ := hrel
        obtain rfl := HW.out
        obtain ⟨x0, x1, x2⟩ := Bk.at3S H2.out.bx
        have hS := (HTx.out k).1
        have hN := (HTx.out k).2
        have HN : Hid (baT (txtB 0 [] k) ++ ⟨#[10]⟩ = baT (txtB 0 [] (k + 1))) := hN
        clear hN
        by_cases hlt : k < b
        · have ik : (k : Int) < b := by omega
          generalize baT (txtB 0 [] k) = S at *
          go_wp2_with fail
          go_loopw [5, 8] (fun o i wx => o = .string S ∧ i = .int .i64 0 ∧ Hid (wx = wr)) (fun _ _ _ => 0)
          case atStart => exact ⟨rfl, rfl, (rfl : Hid _)⟩
          case round =>
            obtain ⟨rfl, rfl, HW2⟩ := hrel
            obtain rfl := HW2.out
            go_wp2
            exact ⟨⟨k + 1, by omega, by rw [← HN.out], by go_num, True.intro⟩, by simp [RowKit.intOf]; omega⟩
        · obtain rfl : k = b := by omega
          go_wp2
          go_ret2
          exact ⟨rfl, H2.out.lo⟩

theorem enc4 (r : Int) : (Utf8.encode r).size ≤ 4 := by
  have h : (Utf8.encode r).data.toList.length ≤ 4 := by
    unfold Utf8.encode
    dsimp only
    generalize (if Utf8.valid r = true then r.toNat else Utf8.runeError) = c
    by_cases h1 : c < 128
    · simp [h1]
    · by_cases h2 : c < 2048
      · simp [h1, h2]
      · by_cases h3 : c < 65536
        · simp [h1, h2, h3]
        · simp [h1, h2, h3]
  exact h
theorem ba_nil (S : ByteArray) : S ++ baT [] = S := by
  apply ByteArray.ext
  simp [baT]

set_option maxRecDepth 20000 in
set_option maxHeartbeats 16000000 in
theorem rtext_core (a b : Nat) (l : List Ce) (g o cap n : Nat) (w : World) (hv : LsC w (.slice (some ⟨g, o, none⟩) n cap) l) (hn : n = l.length) (hgl : g < w.heap.size) (hat : ∀ i (h : i < l.length), CeAt w g (o + i * 11) l[i]) (hcap : n ≤ cap) (hE : scE a b l = 0) (ha : 0 < a) (hb0 : 0 < b) :
    Calls Tryz.prog 10 #[.agg #[.int .i64 a, .int .i64 b, .slice (some ⟨g, o, none⟩) n cap]] w fun e w' => e = .returned (.tuple #[.string (baT (txtB a l b)), .int .i64 0]) ∧ Below w.heap.size w w' := by
  have hq : szB a b = true ∧ (l.length : Int) = a * b ∧ okCs l = true := by
    unfold scE at hE
    split at hE
    · next h => exact h
    · cases hE
  have hz := szB_iff.1 hq.1
  have hnat : n = a * b := by
    have : ((a * b : Nat) : Int) = (a : Int) * b := by simp
    omega
  have hra : ∀ (y : Nat), y < b → y * a + a ≤ n := fun y hy => by
    rw [hnat]
    calc y * a + a = (y + 1) * a := by rw [Nat.succ_mul]
      _ ≤ b * a := Nat.mul_le_mul_right a hy
      _ = a * b := Nat.mul_comm _ _
  have hn6 : n ≤ 262144 := by have := hz.2.2.2.2; omega
  have hgd : ∀ y, y < b → ∀ x, x < a → ∃ (h : y * a + x < l.length), (rowL a l y).getD x ceZ = l[y * a + x] := fun y hy x hx => by
    have h1 := hra y hy
    have h2 : y * a + x < l.length := by omega
    refine ⟨h2, ?_⟩
    unfold rowL
    rw [List.getD_eq_getElem?_getD, List.getElem?_take_of_lt hx, List.getElem?_drop, List.getElem?_eq_getElem h2]
    rfl
  have HAr : Hid (∀ k : Nat, k < b → ∀ p, p = k * a → (k : Int) * a = (p : Int) ∧ ((k : Int) + 1) * a = (p : Int) + a ∧ p + a ≤ n) := fun k hk p hp => by
    subst hp
    refine ⟨by simp, ?_, hra k hk⟩
    rw [Int.add_mul, Int.one_mul]
    simp
  have HCe : Hid (∀ k, k < b → ∀ p, p = k * a → ∀ W x, Below w.heap.size w W → x < a → CeAt W g (o + p * 11 + x * 11) ((rowL a l k).getD x ceZ)) := fun k hk p hp W x hW hx => by
    obtain ⟨h1, h2⟩ := hgd k hk x hx
    rw [h2]
    subst hp
    have := (hat _ h1).kept (w' := W) fun j => hW.cell (p := ⟨g, j, none⟩) hgl
    rw [show o + k * a * 11 + x * 11 = o + (k * a + x) * 11 by rw [Nat.add_mul]; omega]
    exact this
  have HOk : Hid (∀ k, k < b → ∀ x, x < a → okCe ((rowL a l k).getD x ceZ) = true) := fun k hk x hx => by
    obtain ⟨h1, h2⟩ := hgd k hk x hx
    rw [h2]
    exact List.all_eq_true.1 hq.2.2 _ (List.getElem_mem h1)
  have HLe : Hid (∀ k, k < b → (rowL a l k).length = a) := fun k hk => by
    have := hra k hk
    unfold rowL
    rw [List.length_take, List.length_drop]
    omega
  have HSz : Hid (∀ k, k < b → ∀ x, x ≤ a → (baT (txtB a l k ++ rowB (rowL a l k) x)).size ≤ 3000000) := fun k hk x hx => by
    have h1 := txtB_len a l k
    have h2 := hra k hk
    have h3 : k * (4 * a + 1) = 4 * (k * a) + k := by rw [Nat.mul_add, Nat.mul_one, Nat.mul_left_comm]
    have h4 := rowB_len (rowL a l k) x
    rw [baT_size, List.length_append]
    omega
  have HSzb : Hid (∀ k, k ≤ b → (baT (txtB a l k)).size ≤ 3000000) := fun k hk => by
    rw [baT_size]
    cases k with
    | zero => simp [txtB]
    | succ k =>
      have h1 := txtB_len a l (k + 1)
      have h2 := hra k hk
      have h3 : (k + 1) * (4 * a + 1) = 4 * (k * a + a) + k + 1 := by
        rw [Nat.mul_add (k + 1) (4 * a) 1, Nat.mul_left_comm (k + 1) 4 a, Nat.add_mul k 1 a, Nat.one_mul, Nat.mul_one]
        omega
      omega
  have HNx : Hid (∀ k, k < b → baT (txtB a l k ++ rowB (rowL a l k) a) ++ ⟨#[10]⟩ = baT (txtB a l (k + 1))) := fun k hk => by
    show _ ++ baT [10] = _
    rw [baT_cat, txtB, HLe.out k hk]
  have HP : Hid (∀ x y W, Calls Tryz.prog 31 #[(Value.agg #[.int .i32 x.r, .int .u8 x.c.r, .int .u8 x.c.g, .int .u8 x.c.b, .int .u8 x.c.a, .int .u8 x.b.r, .int .u8 x.b.g, .int .u8 x.b.b, .int .u8 x.b.a, .bool x.wd, .bool x.tl]), (Value.agg #[.int .i32 y.r, .int .u8 y.c.r, .int .u8 y.c.g, .int .u8 y.c.b, .int .u8 y.c.a, .int .u8 y.b.r, .int .u8 y.b.g, .int .u8 y.b.b, .int .u8 y.b.a, .bool y.wd, .bool y.tl])] W fun e w' => e = .returned (.bool (smR x y)) ∧ Below W.heap.size W w') := rpair15_any
  have HC : Hid (∀ W, Below w.heap.size w W → Calls Tryz.prog 25 #[.agg #[.int .i64 a, .int .i64 b, .slice (some ⟨g, o, none⟩) n cap]] W fun e w' => e = .returned (.int .i64 0) ∧ Below W.heap.size W w') := fun W h => by
    have := rcheck15_any a b l _ W (hv.below h) (by omega)
    rw [hE] at this
    exact this
  have HB0 : Hid (∀ W, W = w.alloc (.cells #[.int .i64 a, .int .i64 b, .slice (some ⟨g, o, none⟩) n cap] 26) → RtW w w.heap.size #[.int .i64 a, .int .i64 b, .slice (some ⟨g, o, none⟩) n cap] W) := fun W hW => by
    subst hW
    exact ⟨Bk.new w _ _, (Below.refl _ w).alloc (Nat.le_refl _) _⟩
  have HGl : Hid (g < w.heap.size) := hgl
  have hb6 : b ≤ 16384 := by omega
  have ha6 : a ≤ 16384 := by omega
  clear hv hn hgl hat hE hq hz hnat hra hgd
  go_enter Tryz.func10, Tryz.ntmps10
  go_wp2_with fail
  obtain ⟨W1, hW1⟩ : ∃ W1, W1 = w.alloc (.cells #[.int .i64 a, .int .i64 b, .slice (some ⟨g, o, none⟩) n cap] 26) := ⟨_, rfl⟩
  obtain ⟨sb, hsb⟩ : ∃ sb, sb = w.heap.size := ⟨_, rfl⟩
  have H1 : Hid (RtW w sb #[.int .i64 a, .int .i64 b, .slice (some ⟨g, o, none⟩) n cap] W1) := by rw [hsb]; exact HB0.out W1 hW1
  rw [← hW1, ← hsb]
  clear hW1 HB0 hsb
  refine (HC.out _ H1.out.lo).mono ?_
  rintro e W2 ⟨rfl, hb2⟩
  have H2 := show Hid _ from H1.out.below hb2
  clear H1 hb2 HC
  go_wp2_with fail
  go_loopw [5, 6] (fun o' i wr => ∃ k : Nat, k ≤ b ∧ o' = .string (baT (txtB a l k)) ∧ i = .int .i64 k ∧ Hid (RtW w sb #[.int .i64 a, .int .i64 b, .slice (some ⟨g, o, none⟩) n cap] wr)) (fun _ i _ => b - (RowKit.intOf i).toNat)
  case atStart => exact ⟨0, Nat.zero_le _, rfl, rfl, H2.out⟩
  case round =>
    obtain ⟨k, hk, rfl, rfl, HK⟩ := hrel
    obtain ⟨x0, x1, x2⟩ := Bk.at3S HK.out.bx
    by_cases hlt : k < b
    · have ik : (k : Int) < b := by omega
      obtain ⟨p, hp⟩ : ∃ p, p = k * a := ⟨_, rfl⟩
      obtain ⟨e1, e2, hpa⟩ := HAr.out k hlt p hp
      have HX := show Hid _ from HCe.out k hlt p hp
      have HO1 := show Hid _ from HOk.out k hlt
      have HLn := show Hid _ from HLe.out k hlt
      have HS := show Hid _ from HSz.out k hlt
      have HNl := show Hid _ from HNx.out k hlt
      have hs0 := HSzb.out k hk
      have hpc : p + a ≤ cap := by omega
      have hpc2 : p ≤ cap := by omega
      have HKb : Hid (k < b) := hlt
      clear hp HAr HCe HOk HLe HSz HNx HSzb
      generalize rowL a l k = R at *
      obtain ⟨T, hT⟩ : ∃ T, T = txtB a l k := ⟨_, rfl⟩
      rw [← hT] at HS HNl hs0 ⊢
      clear hT
      go_wp2_with fail
      first
        | rw [Nat.add_sub_cancel_left]
        | skip
      go_loopw [5, 8] (fun o' i wr => ∃ x : Nat, x ≤ a ∧ o' = .string (baT (T ++ rowB R x)) ∧ i = .int .i64 x ∧ Hid (RtW w sb #[.int .i64 a, .int .i64 b, .slice (some ⟨g, o, none⟩) n cap] wr)) (fun _ i _ => a - (RowKit.intOf i).toNat)
      case atStart => exact ⟨0, Nat.zero_le _, by simp [rowB], rfl, HK.out⟩
      case round =>
        obtain ⟨x, hx, rfl, rfl, HW⟩ := hrel
        have hS := HS.out x hx
        clear HK x0 x1 x2
        by_cases hxa : x < a
        · have ix : (x : Int) < a := by omega
          have HN : Hid (∀ t : List UInt8, tlB R x = t → baT (T ++ rowB R x) ++ baT t = baT (T ++ rowB R (x + 1))) := fun t ht => by rw [baT_cat, rowB_succ, ht, List.append_assoc]
          obtain ⟨S, hS'⟩ : ∃ S, S = baT (T ++ rowB R x) := ⟨_, rfl⟩
          rw [← hS'] at hS HN ⊢
          clear hS'
          have hc := HX.out wr x HW.out.lo hxa
          have HG : Hid (g < wr.heap.size) := Nat.lt_of_lt_of_le HGl.out HW.out.lo.size
          have hoc := HO1.out x hxa
          have HT1 : Hid (x + 1 < R.length → smR (R.getD x ceZ) (R.getD (x + 1) ceZ) = true → tlB R x = Lib.encodeRune (R.getD x ceZ).r) := fun h h' => tl_left hoc h h'
          have HT2 : Hid (0 < x → smR (R.getD (x - 1) ceZ) (R.getD x ceZ) = true → tlB R x = []) := fun h h' => tl_rest hoc h h'
          have HT3 : Hid (¬ (x + 1 < R.length ∧ smR (R.getD x ceZ) (R.getD (x + 1) ceZ) = true) → ¬ (0 < x ∧ smR (R.getD (x - 1) ceZ) (R.getD x ceZ) = true) → ((R.getD x ceZ).wd || (R.getD x ceZ).tl) = true → tlB R x = [32]) := tl_blank (by rw [HLn.out]; exact hxa)
          have HT4 : Hid (((R.getD x ceZ).wd || (R.getD x ceZ).tl) = false → tlB R x = Lib.encodeRune (R.getD x ceZ).r) := tl_plain
          have HO : Hid (okCe (R.getD x ceZ) = true) := hoc
          have hcz : R.getD x ceZ = R.getD x ceZ := rfl
          clear hoc hcz HO1 HS HNl
          generalize R.getD x ceZ = c at *
          by_cases h1 : x + 1 < a
          · have ix1 : (x : Int) + 1 < a := by omega
            have ne : Nonempty (Gw wr) := ⟨⟨wr, Below.refl _ _⟩⟩
            have hd := HX.out wr (x + 1) HW.out.lo h1
            have HTA := HT1.out (by rw [HLn.out]; exact h1)
            generalize R.getD (x + 1) ceZ = d at hd HTA HT3
            have cf := fun t : Gw wr => cell_gw hc HG.out t
            have c0 := fun t => (cf t).1
            have c1 := fun t => (cf t).2.1
            have c2 := fun t => (cf t).2.2.1
            have c3 := fun t => (cf t).2.2.2.1
            have c4 := fun t => (cf t).2.2.2.2.1
            have c5 := fun t => (cf t).2.2.2.2.2.1
            have c6 := fun t => (cf t).2.2.2.2.2.2.1
            have c7 := fun t => (cf t).2.2.2.2.2.2.2.1
            have c8 := fun t => (cf t).2.2.2.2.2.2.2.2.1
            have c9 := fun t => (cf t).2.2.2.2.2.2.2.2.2.1
            have c10 := fun t => (cf t).2.2.2.2.2.2.2.2.2.2
            clear cf
            have cf := fun t : Gw wr => cell_gw hd HG.out t
            have d0 := fun t => (cf t).1
            have d1 := fun t => (cf t).2.1
            have d2 := fun t => (cf t).2.2.1
            have d3 := fun t => (cf t).2.2.2.1
            have d4 := fun t => (cf t).2.2.2.2.1
            have d5 := fun t => (cf t).2.2.2.2.2.1
            have d6 := fun t => (cf t).2.2.2.2.2.2.1
            have d7 := fun t => (cf t).2.2.2.2.2.2.2.1
            have d8 := fun t => (cf t).2.2.2.2.2.2.2.2.1
            have d9 := fun t => (cf t).2.2.2.2.2.2.2.2.2.1
            have d10 := fun t => (cf t).2.2.2.2.2.2.2.2.2.2
            clear cf
            go_wp2_with fail
            refine wp_region_gw (by kernel_rfl) (by kernel_rfl) ?_
            repeat (go_big_quiet_step (first | (go_at_call 31; exact gw_call (HP.out _ _ _))))
            refine wpQuiet_nil ?_
            rintro _ ⟨t, rfl⟩
            have HW2 := show Hid _ from HW.out.below t.below
            have hc2 := cell_gw hc HG.out t
            have HG2 : Hid (g < t.wd.heap.size) := Nat.lt_of_lt_of_le HG.out t.below.size
            clear ne c0 c1 c2 c3 c4 c5 c6 c7 c8 c9 c10 d0 d1 d2 d3 d4 d5 d6 d7 d8 d9 d10 hc hd
            generalize t.wd = W3 at *
            clear HW HG
            have HW := show Hid _ from HW2.out
            have hc := hc2
            have HG := show Hid _ from HG2.out
            clear HW2 hc2 HG2
            cases hs1 : smR c d
            · have hA : ¬ (x + 1 < R.length ∧ smR c d = true) := by rw [hs1]; rintro ⟨_, h⟩; cases h
              clear hs1 HTA
              go_wp2_with fail
              by_cases h2 : 0 < x
              · have ix2 : (0 : Int) < x := by omega
                have hw1 : IntKind.i64.wrap ((x : Int) - 1) = ((x - 1 : Nat) : Int) := by rw [IntKind.wrap_i64]; omega
                have ix3 : ((x - 1 : Nat) : Int) < a := by omega
                have ix4 : x - 1 < a := by omega
                have ne : Nonempty (Gw W3) := ⟨⟨W3, Below.refl _ _⟩⟩
                have hd := HX.out W3 (x - 1) HW.out.lo (by omega)
                have HTB := HT2.out h2
                generalize R.getD (x - 1) ceZ = d at hd HTB HT3
                have cf := fun t : Gw W3 => cell_gw hc HG.out t
                have c0 := fun t => (cf t).1
                have c1 := fun t => (cf t).2.1
                have c2 := fun t => (cf t).2.2.1
                have c3 := fun t => (cf t).2.2.2.1
                have c4 := fun t => (cf t).2.2.2.2.1
                have c5 := fun t => (cf t).2.2.2.2.2.1
                have c6 := fun t => (cf t).2.2.2.2.2.2.1
                have c7 := fun t => (cf t).2.2.2.2.2.2.2.1
                have c8 := fun t => (cf t).2.2.2.2.2.2.2.2.1
                have c9 := fun t => (cf t).2.2.2.2.2.2.2.2.2.1
                have c10 := fun t => (cf t).2.2.2.2.2.2.2.2.2.2
                clear cf
                have cf := fun t : Gw W3 => cell_gw hd HG.out t
                have d0 := fun t => (cf t).1
                have d1 := fun t => (cf t).2.1
                have d2 := fun t => (cf t).2.2.1
                have d3 := fun t => (cf t).2.2.2.1
                have d4 := fun t => (cf t).2.2.2.2.1
                have d5 := fun t => (cf t).2.2.2.2.2.1
                have d6 := fun t => (cf t).2.2.2.2.2.2.1
                have d7 := fun t => (cf t).2.2.2.2.2.2.2.1
                have d8 := fun t => (cf t).2.2.2.2.2.2.2.2.1
                have d9 := fun t => (cf t).2.2.2.2.2.2.2.2.2.1
                have d10 := fun t => (cf t).2.2.2.2.2.2.2.2.2.2
                clear cf
                refine wp_region_gw (by kernel_rfl) (by kernel_rfl) ?_
                repeat (go_big_quiet_step (first | (go_at_call 31; exact gw_call (HP.out _ _ _))))
                refine wpQuiet_nil ?_
                rintro _ ⟨t, rfl⟩
                have HW2 := show Hid _ from HW.out.below t.below
                have hc2 := cell_gw hc HG.out t
                clear ne c0 c1 c2 c3 c4 c5 c6 c7 c8 c9 c10 d0 d1 d2 d3 d4 d5 d6 d7 d8 d9 d10 hc hd
                generalize t.wd = W4 at *
                clear HW HG
                have HW := show Hid _ from HW2.out
                have hc := hc2
                clear HW2 hc2
                cases hs2 : smR d c
                · have hB : ¬ (0 < x ∧ smR d c = true) := by rw [hs2]; rintro ⟨_, h⟩; cases h
                  obtain ⟨c0, c1, c2, c3, c4, c5, c6, c7, c8, c9, c10⟩ := hc
                  have hu := enc4 c.r
                  cases hw : c.wd
                  · rw [hw] at c9
                    cases ht : c.tl
                    · rw [ht] at c10
                      go_wp2
                      exact ⟨⟨x + 1, by omega, by rw [enc_baT HO.out, HN.out _ (HT4.out (by rw [hw, ht]; rfl))], by go_num, HW.out⟩, by simp [RowKit.intOf]; omega⟩
                    · rw [ht] at c10
                      go_wp2
                      exact ⟨⟨x + 1, by omega, congrArg Value.string (HN.out [32] (HT3.out hA hB (by rw [hw, ht]; rfl))), by go_num, HW.out⟩, by simp [RowKit.intOf]; omega⟩
                  · rw [hw] at c9
                    go_wp2
                    exact ⟨⟨x + 1, by omega, congrArg Value.string (HN.out [32] (HT3.out hA hB (by rw [hw]; rfl))), by go_num, HW.out⟩, by simp [RowKit.intOf]; omega⟩
                · go_wp2
                  exact ⟨⟨x + 1, by omega, congrArg Value.string ((ba_nil S).symm.trans (HN.out [] (HTB hs2))), by go_num, HW.out⟩, by simp [RowKit.intOf]; omega⟩
              · have ix2 : ¬ ((0 : Int) < x) := by omega
                have dx2 : decide ((0 : Int) < (x : Int)) = false := decide_eq_false ix2
                have ne : Nonempty (Gw W3) := ⟨⟨W3, Below.refl _ _⟩⟩
                refine wp_region_gw (by kernel_rfl) (by kernel_rfl) ?_
                repeat (go_big_quiet_step (fail))
                refine wpQuiet_nil ?_
                rintro _ ⟨t, rfl⟩
                have HW2 := show Hid _ from HW.out.below t.below
                have hc2 := cell_gw hc HG.out t
                clear ne hc
                generalize t.wd = W4 at *
                clear HW HG
                have HW := show Hid _ from HW2.out
                have hc := hc2
                clear HW2 hc2
                have hB : ¬ (0 < x ∧ smR (R.getD (x - 1) ceZ) c = true) := fun h => h2 h.1
                obtain ⟨c0, c1, c2, c3, c4, c5, c6, c7, c8, c9, c10⟩ := hc
                have hu := enc4 c.r
                cases hw : c.wd
                · rw [hw] at c9
                  cases ht : c.tl
                  · rw [ht] at c10
                    go_wp2
                    exact ⟨⟨x + 1, by omega, by rw [enc_baT HO.out, HN.out _ (HT4.out (by rw [hw, ht]; rfl))], by go_num, HW.out⟩, by simp [RowKit.intOf]; omega⟩
                  · rw [ht] at c10
                    go_wp2
                    exact ⟨⟨x + 1, by omega, congrArg Value.string (HN.out [32] (HT3.out hA hB (by rw [hw, ht]; rfl))), by go_num, HW.out⟩, by simp [RowKit.intOf]; omega⟩
                · rw [hw] at c9
                  go_wp2
                  exact ⟨⟨x + 1, by omega, congrArg Value.string (HN.out [32] (HT3.out hA hB (by rw [hw]; rfl))), by go_num, HW.out⟩, by simp [RowKit.intOf]; omega⟩
            · obtain ⟨c0, c1, c2, c3, c4, c5, c6, c7, c8, c9, c10⟩ := hc
              have hu := enc4 c.r
              go_wp2
              exact ⟨⟨x + 1, by omega, by rw [enc_baT HO.out, HN.out _ (HTA hs1)], by go_num, HW.out⟩, by simp [RowKit.intOf]; omega⟩
          · have ix1 : ¬ ((x : Int) + 1 < a) := by omega
            have dx1 : decide ((x : Int) + 1 < (a : Int)) = false := decide_eq_false ix1
            have ne : Nonempty (Gw wr) := ⟨⟨wr, Below.refl _ _⟩⟩
            go_wp2_with fail
            refine wp_region_gw (by kernel_rfl) (by kernel_rfl) ?_
            repeat (go_big_quiet_step (fail))
            refine wpQuiet_nil ?_
            rintro _ ⟨t, rfl⟩
            have HW2 := show Hid _ from HW.out.below t.below
            have hc2 := cell_gw hc HG.out t
            have HG2 : Hid (g < t.wd.heap.size) := Nat.lt_of_lt_of_le HG.out t.below.size
            clear ne hc
            generalize t.wd = W3 at *
            clear HW HG
            have HW := show Hid _ from HW2.out
            have hc := hc2
            have HG := show Hid _ from HG2.out
            clear HW2 hc2 HG2
            have hA : ¬ (x + 1 < R.length ∧ smR c (R.getD (x + 1) ceZ) = true) := fun h => h1 (by rw [← HLn.out]; exact h.1)
            go_wp2_with fail
            by_cases h2 : 0 < x
            · have ix2 : (0 : Int) < x := by omega
              have hw1 : IntKind.i64.wrap ((x : Int) - 1) = ((x - 1 : Nat) : Int) := by rw [IntKind.wrap_i64]; omega
              have ix3 : ((x - 1 : Nat) : Int) < a := by omega
              have ix4 : x - 1 < a := by omega
              have ne : Nonempty (Gw W3) := ⟨⟨W3, Below.refl _ _⟩⟩
              have hd := HX.out W3 (x - 1) HW.out.lo (by omega)
              have HTB := HT2.out h2
              generalize R.getD (x - 1) ceZ = d at hd HTB HT3
              have cf := fun t : Gw W3 => cell_gw hc HG.out t
              have c0 := fun t => (cf t).1
              have c1 := fun t => (cf t).2.1
              have c2 := fun t => (cf t).2.2.1
              have c3 := fun t => (cf t).2.2.2.1
              have c4 := fun t => (cf t).2.2.2.2.1
              have c5 := fun t => (cf t).2.2.2.2.2.1
              have c6 := fun t => (cf t).2.2.2.2.2.2.1
              have c7 := fun t => (cf t).2.2.2.2.2.2.2.1
              have c8 := fun t => (cf t).2.2.2.2.2.2.2.2.1
              have c9 := fun t => (cf t).2.2.2.2.2.2.2.2.2.1
              have c10 := fun t => (cf t).2.2.2.2.2.2.2.2.2.2
              clear cf
              have cf := fun t : Gw W3 => cell_gw hd HG.out t
              have d0 := fun t => (cf t).1
              have d1 := fun t => (cf t).2.1
              have d2 := fun t => (cf t).2.2.1
              have d3 := fun t => (cf t).2.2.2.1
              have d4 := fun t => (cf t).2.2.2.2.1
              have d5 := fun t => (cf t).2.2.2.2.2.1
              have d6 := fun t => (cf t).2.2.2.2.2.2.1
              have d7 := fun t => (cf t).2.2.2.2.2.2.2.1
              have d8 := fun t => (cf t).2.2.2.2.2.2.2.2.1
              have d9 := fun t => (cf t).2.2.2.2.2.2.2.2.2.1
              have d10 := fun t => (cf t).2.2.2.2.2.2.2.2.2.2
              clear cf
              refine wp_region_gw (by kernel_rfl) (by kernel_rfl) ?_
              repeat (go_big_quiet_step (first | (go_at_call 31; exact gw_call (HP.out _ _ _))))
              refine wpQuiet_nil ?_
              rintro _ ⟨t, rfl⟩
              have HW2 := show Hid _ from HW.out.below t.below
              have hc2 := cell_gw hc HG.out t
              clear ne c0 c1 c2 c3 c4 c5 c6 c7 c8 c9 c10 d0 d1 d2 d3 d4 d5 d6 d7 d8 d9 d10 hc hd
              generalize t.wd = W4 at *
              clear HW HG
              have HW := show Hid _ from HW2.out
              have hc := hc2
              clear HW2 hc2
              cases hs2 : smR d c
              · have hB : ¬ (0 < x ∧ smR d c = true) := by rw [hs2]; rintro ⟨_, h⟩; cases h
                obtain ⟨c0, c1, c2, c3, c4, c5, c6, c7, c8, c9, c10⟩ := hc
                have hu := enc4 c.r
                cases hw : c.wd
                · rw [hw] at c9
                  cases ht : c.tl
                  · rw [ht] at c10
                    go_wp2
                    exact ⟨⟨x + 1, by omega, by rw [enc_baT HO.out, HN.out _ (HT4.out (by rw [hw, ht]; rfl))], by go_num, HW.out⟩, by simp [RowKit.intOf]; omega⟩
                  · rw [ht] at c10
                    go_wp2
                    exact ⟨⟨x + 1, by omega, congrArg Value.string (HN.out [32] (HT3.out hA hB (by rw [hw, ht]; rfl))), by go_num, HW.out⟩, by simp [RowKit.intOf]; omega⟩
                · rw [hw] at c9
                  go_wp2
                  exact ⟨⟨x + 1, by omega, congrArg Value.string (HN.out [32] (HT3.out hA hB (by rw [hw]; rfl))), by go_num, HW.out⟩, by simp [RowKit.intOf]; omega⟩
              · go_wp2
                exact ⟨⟨x + 1, by omega, congrArg Value.string ((ba_nil S).symm.trans (HN.out [] (HTB hs2))), by go_num, HW.out⟩, by simp [RowKit.intOf]; omega⟩
            · have ix2 : ¬ ((0 : Int) < x) := by omega
              have dx2 : decide ((0 : Int) < (x : Int)) = false := decide_eq_false ix2
              have ne : Nonempty (Gw W3) := ⟨⟨W3, Below.refl _ _⟩⟩
              refine wp_region_gw (by kernel_rfl) (by kernel_rfl) ?_
              repeat (go_big_quiet_step (fail))
              refine wpQuiet_nil ?_
              rintro _ ⟨t, rfl⟩
              have HW2 := show Hid _ from HW.out.below t.below
              have hc2 := cell_gw hc HG.out t
              clear ne hc
              generalize t.wd = W4 at *
              clear HW HG
              have HW := show Hid _ from HW2.out
              have hc := hc2
              clear HW2 hc2
              have hB : ¬ (0 < x ∧ smR (R.getD (x - 1) ceZ) c = true) := fun h => h2 h.1
              obtain ⟨c0, c1, c2, c3, c4, c5, c6, c7, c8, c9, c10⟩ := hc
              have hu := enc4 c.r
              cases hw : c.wd
              · rw [hw] at c9
                cases ht : c.tl
                · rw [ht] at c10
                  go_wp2
                  exact ⟨⟨x + 1, by omega, by rw [enc_baT HO.out, HN.out _ (HT4.out (by rw [hw, ht]; rfl))], by go_num, HW.out⟩, by simp [RowKit.intOf]; omega⟩
                · rw [ht] at c10
                  go_wp2
                  exact ⟨⟨x + 1, by omega, congrArg Value.string (HN.out [32] (HT3.out hA hB (by rw [hw, ht]; rfl))), by go_num, HW.out⟩, by simp [RowKit.intOf]; omega⟩
              · rw [hw] at c9
                go_wp2
                exact ⟨⟨x + 1, by omega, congrArg Value.string (HN.out [32] (HT3.out hA hB (by rw [hw]; rfl))), by go_num, HW.out⟩, by simp [RowKit.intOf]; omega⟩
        · obtain rfl : x = a := by omega
          have hN := HNl.out
          have HN : Hid (baT (T ++ rowB R x) ++ ⟨#[10]⟩ = baT (txtB x l (k + 1))) := hN
          clear hN
          generalize baT (T ++ rowB R x) = S at *
          go_wp2
          exact ⟨⟨k + 1, HKb.out, congrArg Value.string HN.out, by go_num, HW.out⟩, by simp [RowKit.intOf]; omega⟩
    · obtain rfl : k = b := by omega
      go_wp2
      go_ret2
      exact ⟨rfl, HK.out.lo⟩

theorem rtext_all (a b : Nat) (l : List Ce) (v : Value) (w : World) (hv : LsC w v l) (nv : NoNil v) (hE : scE a b l = 0) :
    Calls Tryz.prog 10 #[.agg #[.int .i64 a, .int .i64 b, v]] w fun e w' => e = .returned (.tuple #[.string ⟨(txtB a l b).toArray⟩, .int .i64 0]) ∧ Below w.heap.size w w' := by
  by_cases h0 : a = 0 ∨ b = 0
  · exact rtext_flat a b v l w hv nv hE h0
  have ha : 0 < a := by omega
  have hb : 0 < b := by omega
  have hs : szB a b = true ∧ (l.length : Int) = a * b := by
    unfold scE at hE
    split at hE
    · next h => exact ⟨h.1, h.2.1⟩
    · cases hE
  have hnat : l.length = a * b := by
    have : ((a * b : Nat) : Int) = (a : Int) * b := by simp
    omega
  have hp : 0 < l.length := by rw [hnat]; exact Nat.mul_pos ha hb
  obtain ⟨oa, cap, rfl, hcap, hg⟩ := id hv
  obtain ⟨g, o, rfl, hgl, hat⟩ := hg hp
  exact rtext_core a b l g o cap l.length w hv rfl hgl hat hcap hE ha hb

end Go.Proofs.YtcahdmfmcojaoaaGreatDoor
