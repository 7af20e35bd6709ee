/-
  The sort's own calls: the merge in place.
-/
import Derived.Test.YtobmpjmpffnoiaaDoorSO4
import Derived.Test.YtobmpjmpffnoiaaDoorSO5
namespace Go.Proofs.YtobmpjmpffnoiaaDoor
open Go.RowKit

/-- What the merge is asked, and owes. -/
def Merges (s : Nat → Int) (N B o n cap g : Nat) (cb : Array Value) (w0 : World) (d : Nat) : Prop :=
  ∀ (f : Nat → Nat) (a m b : Nat) (w : World), b - a ≤ d → Ex B w0 w → Row w B o n f → (∀ i, i < n → f i < N) → a < m → m < b → b ≤ n → Srt s f a m → Srt s f m b → Lo f a m b →
    Calls Tryd.prog 65 #[.slice (some ⟨B, o, none⟩) n cap, .int .i64 a, .int .i64 m, .int .i64 b, .func (.func g) #[] cb] w fun e w' => e = .returned (.tuple #[]) ∧ ∃ f', Row w' B o n f' ∧ Mrg s f f' a b ∧ Ex B w w'

set_option maxRecDepth 20000 in
set_option maxHeartbeats 2000000 in
theorem sym_one (s : Nat → Int) (N B o n cap g : Nat) (cb : Array Value) (w0 : World) (hC : Cmps s N B g cb w0) (eg : ∀ args w, (callFunc g args).run Tryd.prog w = .ok (.enter g args) w) (hn : n < 1000000)
    (f : Nat → Nat) (a m b : Nat) (w : World) (hX : Ex B w0 w) (hR : Row w B o n f) (hN : ∀ i, i < n → f i < N) (hm : Hid (m = a + 1)) (hb : m < b) (hbn : b ≤ n) (h2 : Srt s f m b) (hl : Lo f a m b) :
    Calls Tryd.prog 65 #[.slice (some ⟨B, o, none⟩) n cap, .int .i64 a, .int .i64 m, .int .i64 b, .func (.func g) #[] cb] w fun e w' => e = .returned (.tuple #[]) ∧ ∃ f', Row w' B o n f' ∧ Mrg s f f' a b ∧ Ex B w w' := by
  have am : m = a + 1 := hm.out
  have q0 : ((m : Int) - (a : Int) == 1) = true := by simp; omega
  have la : (a : Int) < (n : Int) := by omega
  have hmb : m < b := hb
  clear am
  go_enter Tryd.func65, Tryd.ntmps65
  go_wp2_with fail
  go_loopw [10, 11] (fun vi vj wr => ∃ (i j : Nat), vi = .int .i64 i ∧ vj = .int .i64 j ∧ m ≤ i ∧ i ≤ j ∧ j ≤ b ∧ (∀ k, m ≤ k → k < i → Wk s (f k) (f a)) ∧ (∀ k, j ≤ k → k < b → Wk s (f a) (f k)) ∧ Row wr B o n f ∧ Ex B w wr) (fun vi vj _ => (intOf vj).toNat - (intOf vi).toNat)
  case atStart => exact ⟨m, b, rfl, rfl, Nat.le_refl _, Nat.le_of_lt hb, Nat.le_refl _, fun k k1 k2 => by omega, fun k k1 k2 => by omega, hR, Ex.refl _ _⟩
  case round =>
    obtain ⟨i, j, rfl, rfl, hi, hij, hj, u1, u2, R, X⟩ := hrel
    by_cases hlt : i < j
    · obtain ⟨h, eh⟩ : ∃ h, h = (i + j) / 2 := ⟨_, rfl⟩
      have z1 : ((i : Int) + (j : Int)) / 2 = (h : Int) := by omega
      have b1 : i ≤ h := by omega
      have b2 : h < j := by omega
      have l1 : (h : Int) < (n : Int) := by omega
      clear eh
      have c1 := fun t : Gw wr => (R.below t.below).at' h (by omega)
      have c2 := fun t : Gw wr => (R.below t.below).at' a (by omega)
      have HC : Hid (∀ t : Gw wr, Calls Tryd.prog g (#[.int .i64 (f h), .int .i64 (f a)] ++ cb) t.wd fun e w' => e = .returned (.int .i64 (if s (f h) < s (f a) then -1 else if s (f a) < s (f h) then 1 else 0)) ∧ Below t.wd.heap.size t.wd w') := fun t =>
        hC _ _ _ ((hX.trans X).trans (Ex.of (Nat.le_of_lt R.lt) t.below)) (hN _ (by omega)) (hN _ (by omega))
      have low : f a < f h := hl a h (Nat.le_refl _) (by have := hm.out; omega) (by omega) (by omega)
      have OUT : Hid (∀ W, Below wr.heap.size wr W → (s (f h) < s (f a) → (∀ k, m ≤ k → k < h + 1 → Wk s (f k) (f a)) ∧ (∀ k, j ≤ k → k < b → Wk s (f a) (f k)) ∧ Row W B o n f ∧ Ex B w W) ∧ (¬ s (f h) < s (f a) → (∀ k, m ≤ k → k < i → Wk s (f k) (f a)) ∧ (∀ k, h ≤ k → k < b → Wk s (f a) (f k)) ∧ Row W B o n f ∧ Ex B w W)) := fun W hb =>
        ⟨fun hs => ⟨fun k k1 k2 => h2.le k1 (show k ≤ h by omega) (by omega) ((wk_lo low).2 hs), u2, R.below hb, X.trans (Ex.of (Nat.le_of_lt R.lt) hb)⟩,
         fun hs => ⟨u1, fun k k1 k2 => h2.ge (show m ≤ h by omega) k1 k2 ((wk_hi low).2 hs), R.below hb, X.trans (Ex.of (Nat.le_of_lt R.lt) hb)⟩⟩
      have L : Below wr.heap.size wr wr := Below.refl _ _
      have ne := gw_ne L
      clear L u1 u2 R X low
      by_cases hs : s (f h) < s (f a)
      · rw [if_pos hs] at HC
        have HS : Hid (s (f h) < s (f a)) := hs
        clear hs
        go_wp2_with fail
        refine wp_region_gw (by kernel_rfl) (by kernel_rfl) ?_
        repeat (go_big_quiet_step (first
          | (go_at_fn g; exact gw_call (HC.out _))))
        refine wpQuiet_nil ?_
        rintro _ ⟨t, rfl⟩
        go_wp2
        go_roundw
        case rel =>
          obtain ⟨v1, v2, v3, v4⟩ := (OUT.out _ t.below).1 HS.out
          exact ⟨h + 1, j, by go_num, rfl, by omega, by omega, hj, v1, v2, v3, v4⟩
        case measure => simp [intOf]; omega
      · rw [if_neg hs] at HC
        generalize hV : (if s (f a) < s (f h) then (1 : Int) else 0) = V at HC
        have v0 : ¬ V < 0 := by rw [← hV]; split <;> omega
        have v1 : decide (V < 0) = false := decide_eq_false v0
        have HS : Hid (¬ s (f h) < s (f a)) := hs
        clear hs hV
        go_wp2_with fail
        refine wp_region_gw (by kernel_rfl) (by kernel_rfl) ?_
        repeat (go_big_quiet_step (first
          | (go_at_fn g; exact gw_call (HC.out _))))
        refine wpQuiet_nil ?_
        rintro _ ⟨t, rfl⟩
        go_wp2
        go_roundw
        case rel =>
          obtain ⟨v1, v2, v3, v4⟩ := (OUT.out _ t.below).2 HS.out
          exact ⟨i, h, rfl, rfl, hi, by omega, by omega, v1, v2, v3, v4⟩
        case measure => simp [intOf]; omega
    · obtain rfl : i = j := by omega
      have HU : Hid (Mrg s f (rot f a m i) a b) := by
        obtain rfl : m = a + 1 := hm.out
        refine rot_whole ⟨Nat.le_refl _, by omega, hi, hj, fun h => by omega, fun _ h => u1 _ (by omega) (by omega)⟩ (fun p q p1 p2 p3 => by omega) h2 (fun p q p1 p2 => by omega) (fun p q p1 p2 p3 p4 => ?_)
        obtain rfl : p = a := by omega
        exact u2 q p3 p4
      have HR : Hid (Row wr B o n f ∧ Ex B w wr) := ⟨R, X⟩
      clear u1 u2 R X
      obtain ⟨i1, ei1⟩ : ∃ i1, i1 = i - 1 := ⟨_, rfl⟩
      have zi : (i : Int) - 1 = (i1 : Int) := by have := hm.out; omega
      have hi1 : a ≤ i1 := by have := hm.out; omega
      have HI : Hid (i1 = i - 1) := ei1
      clear ei1
      go_wp2_with fail
      go_loopw [13] (fun vk wz => ∃ k : Nat, vk = .int .i64 k ∧ a ≤ k ∧ k ≤ i1 ∧ Row wz B o n (rot f a m (k + 1)) ∧ Ex B w wz) (fun vk _ => i1 - (intOf vk).toNat)
      case atStart => exact ⟨a, rfl, Nat.le_refl _, hi1, by rw [rot_none f a m (a + 1) (.inr hm.out)]; exact HR.out.1, HR.out.2⟩
      case round =>
        obtain ⟨k, rfl, k1, k2, R, X⟩ := hrel
        by_cases hk : k < i1
        · obtain ⟨p, ep⟩ : ∃ p, p = k + 1 := ⟨_, rfl⟩
          have zp : (k : Int) + 1 = (p : Int) := by omega
          have l1 : (k : Int) < (n : Int) := by omega
          have l2 : (p : Int) < (n : Int) := by omega
          have c1 := R.at' k (by omega)
          have c2 := R.at' p (by omega)
          have f1 := R.fr (o + k)
          have f2 := R.fr (o + p)
          have HX : Hid (p = k + 1 ∧ Row wr B o n (rot f a m (k + 1)) ∧ Ex B w wr) := ⟨ep, R, X⟩
          have nk : k ≠ p := by omega
          clear ep R X HR
          generalize hx1 : rot f a m (k + 1) k = x1 at c1
          generalize hx2 : rot f a m (k + 1) p = x2 at c2
          have HY : Hid (rot f a m (k + 1) k = x1 ∧ rot f a m (k + 1) p = x2) := ⟨hx1, hx2⟩
          clear hx1 hx2
          go_wp2_with fail
          go_big_region
          all_goals go_wp2
          obtain ⟨ep, R, X⟩ := HX.out
          obtain ⟨y1, y2⟩ := HY.out
          go_roundw
          case rel =>
            refine ⟨p, by first | rfl | go_num, by omega, by omega, Row.drew ?_, ((X.set _ _).set _ _).drew⟩
            have h := R.swap k p (by omega) (by omega)
            rw [y1, y2] at h
            have hm' := hm.out
            rw [hm', ep, rot_up f a k k1, ← hm', ← ep] at h
            exact h
          case measure => simp [intOf]; omega
        · obtain rfl : k = i1 := by omega
          have e1 : k + 1 = i := by have := HI.out; have := hm.out; omega
          rw [e1] at R
          have HF : Hid (Row wr B o n (rot f a m i) ∧ Ex B w wr) := ⟨R, X⟩
          clear R X HR e1
          go_wp2
          exact bodyPost_ret (v := .tuple #[]) (by simp [results, Tryd.results65, go_sem]) rfl ⟨rfl, _, HF.out.1, HU.out, HF.out.2⟩

set_option maxRecDepth 20000 in
set_option maxHeartbeats 2000000 in
theorem sym_last (s : Nat → Int) (N B o n cap g : Nat) (cb : Array Value) (w0 : World) (hC : Cmps s N B g cb w0) (eg : ∀ args w, (callFunc g args).run Tryd.prog w = .ok (.enter g args) w) (hn : n < 1000000)
    (f : Nat → Nat) (a m b : Nat) (w : World) (hX : Ex B w0 w) (hR : Row w B o n f) (hN : ∀ i, i < n → f i < N) (hm : a + 1 < m) (hb : Hid (b = m + 1)) (hbn : b ≤ n) (h1 : Srt s f a m) (hl : Lo f a m b) :
    Calls Tryd.prog 65 #[.slice (some ⟨B, o, none⟩) n cap, .int .i64 a, .int .i64 m, .int .i64 b, .func (.func g) #[] cb] w fun e w' => e = .returned (.tuple #[]) ∧ ∃ f', Row w' B o n f' ∧ Mrg s f f' a b ∧ Ex B w w' := by
  have q0 : ((m : Int) - (a : Int) == 1) = false := beq_eq_false_iff_ne.2 (by omega)
  have bm : b = m + 1 := hb.out
  have la : (a : Int) < (n : Int) := by omega
  have lm : (m : Int) < (n : Int) := by omega
  have q1 : ((b : Int) - (m : Int) == 1) = true := by simp; omega
  clear bm
  go_enter Tryd.func65, Tryd.ntmps65
  go_wp2_with fail
  go_loopw [14, 15] (fun vi vj wr => ∃ (i j : Nat), vi = .int .i64 i ∧ vj = .int .i64 j ∧ a ≤ i ∧ i ≤ j ∧ j ≤ m ∧ (∀ k, a ≤ k → k < i → Wk s (f k) (f m)) ∧ (∀ k, j ≤ k → k < m → Wk s (f m) (f k)) ∧ Row wr B o n f ∧ Ex B w wr) (fun vi vj _ => (intOf vj).toNat - (intOf vi).toNat)
  case atStart => exact ⟨a, m, rfl, rfl, Nat.le_refl _, by omega, Nat.le_refl _, fun k k1 k2 => by omega, fun k k1 k2 => by omega, hR, Ex.refl _ _⟩
  case round =>
    obtain ⟨i, j, rfl, rfl, hi, hij, hj, u1, u2, R, X⟩ := hrel
    by_cases hlt : i < j
    · obtain ⟨h, eh⟩ : ∃ h, h = (i + j) / 2 := ⟨_, rfl⟩
      have z1 : ((i : Int) + (j : Int)) / 2 = (h : Int) := by omega
      have b1 : i ≤ h := by omega
      have b2 : h < j := by omega
      have l1 : (h : Int) < (n : Int) := by omega
      clear eh
      have c1 := fun t : Gw wr => (R.below t.below).at' h (by omega)
      have c2 := fun t : Gw wr => (R.below t.below).at' m (by omega)
      have HC : Hid (∀ t : Gw wr, Calls Tryd.prog g (#[.int .i64 (f m), .int .i64 (f h)] ++ cb) t.wd fun e w' => e = .returned (.int .i64 (if s (f m) < s (f h) then -1 else if s (f h) < s (f m) then 1 else 0)) ∧ Below t.wd.heap.size t.wd w') := fun t =>
        hC _ _ _ ((hX.trans X).trans (Ex.of (Nat.le_of_lt R.lt) t.below)) (hN _ (by omega)) (hN _ (by omega))
      have low : f h < f m := hl h m (by omega) (by omega) (Nat.le_refl _) (by have := hb.out; omega)
      have OUT : Hid (∀ W, Below wr.heap.size wr W → (s (f m) < s (f h) → (∀ k, a ≤ k → k < i → Wk s (f k) (f m)) ∧ (∀ k, h ≤ k → k < m → Wk s (f m) (f k)) ∧ Row W B o n f ∧ Ex B w W) ∧ (¬ s (f m) < s (f h) → (∀ k, a ≤ k → k < h + 1 → Wk s (f k) (f m)) ∧ (∀ k, j ≤ k → k < m → Wk s (f m) (f k)) ∧ Row W B o n f ∧ Ex B w W)) := fun W hb =>
        ⟨fun hs => ⟨u1, fun k k1 k2 => h1.ge (show a ≤ h by omega) k1 k2 ((wk_lo low).2 hs), R.below hb, X.trans (Ex.of (Nat.le_of_lt R.lt) hb)⟩,
         fun hs => ⟨fun k k1 k2 => h1.le k1 (show k ≤ h by omega) (by omega) ((wk_hi low).2 hs), u2, R.below hb, X.trans (Ex.of (Nat.le_of_lt R.lt) hb)⟩⟩
      have L : Below wr.heap.size wr wr := Below.refl _ _
      have ne := gw_ne L
      clear L u1 u2 R X low
      by_cases hs : s (f m) < s (f h)
      · rw [if_pos hs] at HC
        have HS : Hid (s (f m) < s (f h)) := hs
        clear hs
        go_wp2_with fail
        refine wp_region_gw (by kernel_rfl) (by kernel_rfl) ?_
        repeat (go_big_quiet_step (first
          | (go_at_fn g; exact gw_call (HC.out _))))
        refine wpQuiet_nil ?_
        rintro _ ⟨t, rfl⟩
        go_wp2
        go_roundw
        case rel =>
          obtain ⟨v1, v2, v3, v4⟩ := (OUT.out _ t.below).1 HS.out
          exact ⟨i, h, rfl, rfl, hi, by omega, by omega, v1, v2, v3, v4⟩
        case measure => simp [intOf]; omega
      · rw [if_neg hs] at HC
        generalize hV : (if s (f h) < s (f m) then (1 : Int) else 0) = V at HC
        have v0 : ¬ V < 0 := by rw [← hV]; split <;> omega
        have v1 : decide (V < 0) = false := decide_eq_false v0
        have HS : Hid (¬ s (f m) < s (f h)) := hs
        clear hs hV
        go_wp2_with fail
        refine wp_region_gw (by kernel_rfl) (by kernel_rfl) ?_
        repeat (go_big_quiet_step (first
          | (go_at_fn g; exact gw_call (HC.out _))))
        refine wpQuiet_nil ?_
        rintro _ ⟨t, rfl⟩
        go_wp2
        go_roundw
        case rel =>
          obtain ⟨v1, v2, v3, v4⟩ := (OUT.out _ t.below).2 HS.out
          exact ⟨h + 1, j, by go_num, rfl, by omega, by omega, hj, v1, v2, v3, v4⟩
        case measure => simp [intOf]; omega
    · obtain rfl : i = j := by omega
      have HU : Hid (Mrg s f (rot f i m b) a b) := by
        obtain rfl : b = m + 1 := hb.out
        refine rot_whole ⟨hi, hj, by omega, Nat.le_refl _, fun _ h => by omega, fun h _ => u2 _ (Nat.le_refl _) h⟩ h1 (fun p q p1 p2 p3 => by omega) (fun p q p1 p2 p3 p4 => ?_) (fun p q p1 p2 p3 p4 => by omega)
        obtain rfl : q = m := by omega
        exact u1 p p1 p2
      have HR : Hid (Row wr B o n f ∧ Ex B w wr) := ⟨R, X⟩
      clear u1 u2 R X
      go_wp2_with fail
      go_loopw [17] (fun vk wz => ∃ k : Nat, vk = .int .i64 k ∧ i ≤ k ∧ k ≤ m ∧ Row wz B o n (rot f k m b) ∧ Ex B w wz) (fun vk _ => (intOf vk).toNat)
      case atStart => exact ⟨m, rfl, hj, Nat.le_refl _, by rw [rot_none f m m b (.inl rfl)]; exact HR.out.1, HR.out.2⟩
      case round =>
        obtain ⟨k, rfl, k1, k2, R, X⟩ := hrel
        by_cases hk : i < k
        · obtain ⟨p, ep⟩ : ∃ p, p = k - 1 := ⟨_, rfl⟩
          have zp : (k : Int) - 1 = (p : Int) := by omega
          have l1 : (k : Int) < (n : Int) := by omega
          have l2 : (p : Int) < (n : Int) := by omega
          have c1 := R.at' k (by omega)
          have c2 := R.at' p (by omega)
          have f1 := R.fr (o + k)
          have f2 := R.fr (o + p)
          have HX : Hid (k = p + 1 ∧ Row wr B o n (rot f k m b) ∧ Ex B w wr) := ⟨by omega, R, X⟩
          have nk : k ≠ p := by omega
          clear ep R X HR
          generalize hx1 : rot f k m b k = x1 at c1
          generalize hx2 : rot f k m b p = x2 at c2
          have HY : Hid (rot f k m b k = x1 ∧ rot f k m b p = x2) := ⟨hx1, hx2⟩
          clear hx1 hx2
          go_wp2_with fail
          go_big_region
          all_goals go_wp2
          obtain ⟨ep, R, X⟩ := HX.out
          obtain ⟨y1, y2⟩ := HY.out
          go_roundw
          case rel =>
            refine ⟨p, by first | rfl | go_num, by omega, by omega, Row.drew ?_, ((X.set _ _).set _ _).drew⟩
            have h := R.swap k p (by omega) (by omega)
            rw [y1, y2] at h
            have hb' := hb.out
            subst ep
            rw [hb', rot_down f m p (by omega), ← hb'] at h
            exact h
          case measure => simp [intOf]; omega
        · obtain rfl : k = i := by omega
          have HF : Hid (Row wr B o n (rot f k m b) ∧ Ex B w wr) := ⟨R, X⟩
          clear R X HR
          go_wp2
          exact bodyPost_ret (v := .tuple #[]) (by simp [results, Tryd.results65, go_sem]) rfl ⟨rfl, _, HF.out.1, HU.out, HF.out.2⟩

end Go.Proofs.YtobmpjmpffnoiaaDoor
