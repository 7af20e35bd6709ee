/-
  What is wrong with tracks, with sizes; grows, lacks; the least of two numbers; the need.
-/
import Derived.Test.YthnhcphkpffkfaaGreatXA
namespace Go.Proofs.YthnhcphkpffkfaaGreat
open Go.RowKit

set_option maxRecDepth 10000 in
set_option maxHeartbeats 4000000 in
theorem check_tk (T : List Tk) (v : Value) (w : World) (hv : TS w v T) :
    Calls Tryz.prog 60 #[v] w fun e w' => e = .returned (.int .i64 (chT T)) ∧ Below w.heap.size w w' := by
  obtain ⟨oa, cap, rfl, hc, hg⟩ := hv
  have HG : Hid (0 < T.length → ∃ g o, oa = some ⟨g, o, none⟩ ∧ g < w.heap.size ∧ ∀ i (h : i < T.length), TkAt w g (o + i * 3) T[i]) := hg
  clear hg
  unfold chT
  by_cases h2 : 1024 < T.length
  · rw [if_pos h2]
    have i2 : (1024 : Int) < T.length := by omega
    go_enter Tryz.func60, Tryz.ntmps60
    go_wp2
    go_ret
    exact ⟨rfl, Below.refl _ _⟩
  rw [if_neg (by omega)]
  have i2 : ¬ (1024 : Int) < T.length := by omega
  obtain ⟨R, HR⟩ : ∃ R : Int, Hid (R = if T.all okB = true then 0 else 100) := ⟨_, rfl⟩
  rw [← HR.out]
  go_enter Tryz.func60, Tryz.ntmps60
  go_wp2_with fail
  go_loopw [10] (fun i wr => ∃ k : Nat, k ≤ T.length ∧ i = .int .i64 k ∧ Hid ((T.take k).all okB = true ∧ Below w.heap.size w wr)) (fun i _ => T.length - (intOf i).toNat)
  case atStart => exact ⟨0, Nat.zero_le _, rfl, rfl, Below.refl _ _⟩
  case round =>
    obtain ⟨k, hk, rfl, HK⟩ := hrel
    by_cases hlt : k < T.length
    · have ik : (k : Int) < T.length := by omega
      obtain ⟨g, o, rfl, hg, hat⟩ := HG.out (by omega)
      have hx := (hat k hlt).below HK.out.2 hg
      have HM : Hid (∀ W, Calls Tryz.prog 78 #[.agg #[.int .i64 T[k].mn, .int .i64 T[k].mx, .int .i64 T[k].gr]] W fun e w' => e = .returned (.bool (okB T[k])) ∧ Below W.heap.size W w') := fun W => mayBe_any _ W
      have HT : Hid ((okB T[k] = true → (T.take (k + 1)).all okB = true) ∧ (okB T[k] = false → R = 100)) := ⟨fun h => take_all hlt HK.out.1 h, fun h => by rw [HR.out, if_neg (by rw [all_not hlt h]; decide)]⟩
      have HB : Hid (∀ o W, Below (wr.alloc o).heap.size (wr.alloc o) W → Below w.heap.size w W) := fun o W h => (HK.out.2.alloc HK.out.2.size o).trans (h.mono (by rw [World.size_alloc]; exact Nat.le_succ_of_le HK.out.2.size))
      obtain ⟨x0, x1, x2⟩ := hx
      clear hat HK
      generalize T[k] = q at *
      go_wp2_with fail
      refine (HM.out _).mono ?_
      rintro e w1 ⟨rfl, hb1⟩
      have H1' : Hid (Below w.heap.size w w1) := HB.out _ _ hb1
      clear hb1 HB x0 x1 x2
      cases hq : okB q
      · have hR : Hid (R = 100) := HT.out.2 hq
        clear HT
        go_wp2
        go_ret
        exact ⟨by rw [hR.out]; rfl, H1'.out⟩
      · have HA : Hid ((T.take (k + 1)).all okB = true) := HT.out.1 hq
        clear HT
        go_wp2
        exact ⟨⟨k + 1, by omega, by go_num, HA.out, H1'.out⟩, by simp [intOf]; omega⟩
    · obtain rfl : k = T.length := by omega
      have HF : Hid (R = 0 ∧ Below w.heap.size w wr) := ⟨by have := HK.out.1; rw [List.take_length] at this; rw [HR.out, if_pos this], HK.out.2⟩
      clear HK
      go_wp2
      go_ret
      exact ⟨by rw [HF.out.1]; rfl, HF.out.2⟩

set_option maxRecDepth 10000 in
set_option maxHeartbeats 4000000 in
theorem rcheck_tk (T : List Tk) (v : Value) (w : World) (hv : TS w v T) :
    Calls Tryz.prog 68 #[v] w fun e w' => e = .returned (.int .i64 (chT T)) ∧ Below w.heap.size w w' := by
  obtain ⟨oa, cap, rfl, hc, hg⟩ := hv
  have HG : Hid (0 < T.length → ∃ g o, oa = some ⟨g, o, none⟩ ∧ g < w.heap.size ∧ ∀ i (h : i < T.length), TkAt w g (o + i * 3) T[i]) := hg
  clear hg
  unfold chT
  by_cases h2 : 1024 < T.length
  · rw [if_pos h2]
    have i2 : (1024 : Int) < T.length := by omega
    go_enter Tryz.func68, Tryz.ntmps68
    go_wp2
    go_ret
    exact ⟨rfl, Below.refl _ _⟩
  rw [if_neg (by omega)]
  have i2 : ¬ (1024 : Int) < T.length := by omega
  obtain ⟨R, HR⟩ : ∃ R : Int, Hid (R = if T.all okB = true then 0 else 100) := ⟨_, rfl⟩
  rw [← HR.out]
  go_enter Tryz.func68, Tryz.ntmps68
  go_wp2_with fail
  go_loopw [3] (fun i wr => ∃ k : Nat, k ≤ T.length ∧ i = .int .i64 k ∧ Hid ((T.take k).all okB = true ∧ Below w.heap.size w wr)) (fun i _ => T.length - (intOf i).toNat)
  case atStart => exact ⟨0, Nat.zero_le _, rfl, rfl, Below.refl _ _⟩
  case round =>
    obtain ⟨k, hk, rfl, HK⟩ := hrel
    by_cases hlt : k < T.length
    · have ik : (k : Int) < T.length := by omega
      obtain ⟨g, o, rfl, hg, hat⟩ := HG.out (by omega)
      have hx := (hat k hlt).below HK.out.2 hg
      have HM : Hid (∀ W, Calls Tryz.prog 85 #[.agg #[.int .i64 T[k].mn, .int .i64 T[k].mx, .int .i64 T[k].gr]] W fun e w' => e = .returned (.bool (okB T[k])) ∧ Below W.heap.size W w') := fun W => rmay_tk _ W
      have HT : Hid ((okB T[k] = true → (T.take (k + 1)).all okB = true) ∧ (okB T[k] = false → R = 100)) := ⟨fun h => take_all hlt HK.out.1 h, fun h => by rw [HR.out, if_neg (by rw [all_not hlt h]; decide)]⟩
      have HB : Hid (∀ W, Below wr.heap.size wr W → Below w.heap.size w W) := fun W h => HK.out.2.trans (h.mono HK.out.2.size)
      obtain ⟨x0, x1, x2⟩ := hx
      clear hat HK
      generalize T[k] = q at *
      go_wp2_with fail
      refine (HM.out _).mono ?_
      rintro e w1 ⟨rfl, hb1⟩
      have H1' : Hid (Below w.heap.size w w1) := HB.out _ hb1
      clear hb1 HB x0 x1 x2
      cases hq : okB q
      · have hR : Hid (R = 100) := HT.out.2 hq
        clear HT
        go_wp2
        go_ret
        exact ⟨by rw [hR.out]; rfl, H1'.out⟩
      · have HA : Hid ((T.take (k + 1)).all okB = true) := HT.out.1 hq
        clear HT
        go_wp2
        exact ⟨⟨k + 1, by omega, by go_num, HA.out, H1'.out⟩, by simp [intOf]; omega⟩
    · obtain rfl : k = T.length := by omega
      have HF : Hid (R = 0 ∧ Below w.heap.size w wr) := ⟨by have := HK.out.1; rw [List.take_length] at this; rw [HR.out, if_pos this], HK.out.2⟩
      clear HK
      go_wp2
      go_ret
      exact ⟨by rw [HF.out.1]; rfl, HF.out.2⟩

set_option maxHeartbeats 1000000 in
theorem grows_any (t : Tk) (w : World) : Calls Tryz.prog 80 #[.agg #[.int .i64 t.mn, .int .i64 t.mx, .int .i64 t.gr]] w fun e w' => e = .returned (.bool (decide (0 < t.gr))) ∧ Below w.heap.size w w' := by
  have HL : Hid (Below w.heap.size w (w.alloc (.cells #[.int .i64 t.mn, .int .i64 t.mx, .int .i64 t.gr] 96))) := (Below.refl _ _).alloc (Nat.le_refl _) _
  go_enter Tryz.func80, Tryz.ntmps80
  go_wp2
  go_ret
  exact ⟨rfl, HL.out⟩

set_option maxHeartbeats 1000000 in
theorem lacks_any (t : Tk) (h : okT t) (w : World) : Calls Tryz.prog 95 #[.agg #[.int .i64 t.mn, .int .i64 t.mx, .int .i64 t.gr]] w fun e w' => e = .returned (.tuple #[.int .i64 (if t.mx = 0 then 0 else t.mx - t.mn), .bool (!(t.mx == 0))]) ∧ Below w.heap.size w w' := by
  have HL : Hid (Below w.heap.size w (w.alloc (.cells #[.int .i64 t.mn, .int .i64 t.mx, .int .i64 t.gr] 96))) := (Below.refl _ _).alloc (Nat.le_refl _) _
  obtain ⟨h1, h2, h3, _, _⟩ := h
  obtain ⟨a, b, c⟩ := t
  simp only at h1 h2 h3 HL ⊢
  cases h4 : (b == 0)
  · have hb : b ≠ 0 := by simpa using h4
    have hs : IntKind.i64.wrap (b - a) = b - a := by rw [IntKind.wrap_i64]; omega
    rw [if_neg hb]
    clear hb h3
    go_enter Tryz.func95, Tryz.ntmps95
    go_wp2
    go_ret2
    exact ⟨rfl, HL.out⟩
  · have hb : b = 0 := by simpa using h4
    rw [if_pos hb]
    clear h3 hb
    go_enter Tryz.func95, Tryz.ntmps95
    go_wp2
    go_ret2
    exact ⟨rfl, HL.out⟩

set_option maxHeartbeats 1000000 in
theorem least_any (x y : Int) (b : Nat) (w : World) (hb : w.cell? ⟨b, 0, none⟩ = some (.int .i64 y)) : Calls Tryz.prog 63 #[.int .i64 x, .slice (some ⟨b, 0, none⟩) 1 1] w fun e w' => e = .returned (.int .i64 (min x y)) ∧ w' = w := by
  obtain ⟨R, HR⟩ : ∃ R, Hid (R = min x y) := ⟨_, rfl⟩
  rw [← HR.out]
  go_enter Tryz.func63, Tryz.ntmps63
  go_wp2_with fail
  go_loopw [0, 9] (fun l i wr => (i = .int .i64 0 ∧ l = .int .i64 x ∨ i = .int .i64 1 ∧ l = .int .i64 R) ∧ wr = w) (fun _ i _ => 1 - (intOf i).toNat)
  case atStart => exact ⟨.inl ⟨rfl, rfl⟩, rfl⟩
  case round =>
    obtain ⟨⟨rfl, rfl⟩ | ⟨rfl, rfl⟩, rfl⟩ := hrel
    · by_cases c : y < x
      · have hR : Hid (y = R) := by unfold Hid; rw [HR.out]; omega
        clear HR
        go_wp2
        exact ⟨⟨.inr ⟨rfl, by rw [hR.out]⟩, trivial⟩, by simp [intOf]⟩
      · have hR : Hid (x = R) := by unfold Hid; rw [HR.out]; omega
        clear HR
        go_wp2
        exact ⟨⟨.inr ⟨rfl, by rw [hR.out]⟩, trivial⟩, by simp [intOf]⟩
    · go_wp2
      go_ret
      exact ⟨rfl, rfl⟩

set_option maxRecDepth 10000 in
set_option maxHeartbeats 4000000 in
theorem need_any (T : List Tk) (v : Value) (w : World) (hv : TS w v T) (hl : T.length ≤ 1024) (hk : ∀ t ∈ T, okT t) :
    Calls Tryz.prog 79 #[v] w fun e w' => e = .returned (.int .i64 (mnS T)) ∧ Below w.heap.size w w' := by
  obtain ⟨oa, cap, rfl, hc, hg⟩ := hv
  have HG : Hid (0 < T.length → ∃ g o, oa = some ⟨g, o, none⟩ ∧ g < w.heap.size ∧ ∀ i (h : i < T.length), TkAt w g (o + i * 3) T[i]) := hg
  have HK : Hid (∀ t ∈ T, okT t) := hk
  clear hg hk
  obtain ⟨R, HR⟩ : ∃ R : Int, Hid (R = mnS T) := ⟨_, rfl⟩
  rw [← HR.out]
  go_enter Tryz.func79, Tryz.ntmps79
  go_wp2_with fail
  go_loopw [3, 8] (fun s i wr => ∃ (k : Nat) (x : Int), k ≤ T.length ∧ i = .int .i64 k ∧ s = .int .i64 x ∧ Hid (x = mnS (T.take k) ∧ Below w.heap.size w wr)) (fun _ i _ => T.length - (intOf i).toNat)
  case atStart => exact ⟨0, 0, Nat.zero_le _, rfl, rfl, rfl, Below.refl _ _⟩
  case round =>
    obtain ⟨k, x, hk, rfl, rfl, HI⟩ := hrel
    by_cases hlt : k < T.length
    · have ik : (k : Int) < T.length := by omega
      obtain ⟨g, o, rfl, hg, hat⟩ := HG.out (by omega)
      have hx := (hat k hlt).below HI.out.2 hg
      have hbd := mnS_bd (T := T.take k) fun t ht => HK.out t (List.mem_of_mem_take ht)
      have hkt := HK.out T[k] (List.getElem_mem hlt)
      have hbx : 0 ≤ x ∧ x ≤ 16777216 := by
        rw [HI.out.1]
        have : (T.take k).length ≤ 1024 := by simp; omega
        omega
      have HN : Hid (x + T[k].mn = mnS (T.take (k + 1)) ∧ ∀ o, Below w.heap.size w (wr.alloc o)) := ⟨by rw [← List.take_append_getElem hlt, mnS_snoc, HI.out.1], fun o => HI.out.2.alloc HI.out.2.size o⟩
      obtain ⟨x0, x1, x2⟩ := hx
      obtain ⟨o1, o2, _, _, _⟩ := hkt
      clear hat HI hbd
      generalize T[k] = q at *
      have hw : IntKind.i64.wrap (x + q.mn) = x + q.mn := by rw [IntKind.wrap_i64]; omega
      go_wp2
      exact ⟨⟨k + 1, x + q.mn, by omega, by go_num, rfl, HN.out.1, HN.out.2 _⟩, by simp [intOf]; omega⟩
    · obtain rfl : k = T.length := by omega
      have HF : Hid (x = R ∧ Below w.heap.size w wr) := ⟨by rw [HI.out.1, HR.out, List.take_length], HI.out.2⟩
      clear HI
      go_wp2
      go_ret
      exact ⟨by rw [HF.out.1]; rfl, HF.out.2⟩

end Go.Proofs.YthnhcphkpffkfaaGreat
