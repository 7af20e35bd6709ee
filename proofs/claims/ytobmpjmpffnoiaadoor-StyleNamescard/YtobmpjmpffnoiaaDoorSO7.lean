/-
  The sort's own calls: the merge in place, of longer rows.
-/
import Derived.Test.YtobmpjmpffnoiaaDoorSO6
namespace Go.Proofs.YtobmpjmpffnoiaaDoor
open Go.RowKit

theorem Perm.bound {f g : Nat → Nat} {a b n N : Nat} (h : Perm f g a b) (hb : b ≤ n) (hN : ∀ i, i < n → f i < N) : ∀ i, i < n → g i < N := fun i hi => by
  by_cases c : a ≤ i ∧ i < b
  · obtain ⟨j, _, j2, e⟩ := h.inn i c.1 c.2
    rw [e]; exact hN j (by omega)
  · rw [h.out i c]; exact hN i hi
theorem mrg_fin {s : Nat → Int} {f f2 f3 : Nat → Nat} {a m b x e mid : Nat} (h : Cutd s f a m b x e) (hmid : x + (e - m) = mid) (h1 : Srt s f a m) (h2 : Srt s f m b) (g1 : Mrg s (rot f x m e) f2 a mid) (g2 : Mrg s f2 f3 mid b) : Mrg s f f3 a b := by
  have q := h.apart h1 h2
  rw [hmid] at q
  have h3 := h.ax
  have h4 := h.eb
  have h5 := h.xm
  have h6 := h.me
  have r := mrg_whole (by omega) (by omega) q g1 g2
  exact ⟨r.1, ((rot_perm f x m e h.xm h.me).wide h.ax h.eb).trans r.2⟩
theorem mrg_none1 {s : Nat → Int} {f : Nat → Nat} {a m b x e mid : Nat} (h : Cutd s f a m b x e) (hmid : x + (e - m) = mid) (h1 : Srt s f a m) (h2 : Srt s f m b) (hc : a = x ∨ x = mid) : Mrg s (rot f x m e) (rot f x m e) a mid := by
  refine ⟨?_, Perm.refl _ _ _⟩
  rcases hc with rfl | hx
  · rw [← hmid]; exact rot_srt_1 h h2
  · rw [← hx]; exact rot_srt_lo h h1
theorem mrg_none2 {s : Nat → Int} {f f2 : Nat → Nat} {a m b x e mid : Nat} (h : Cutd s f a m b x e) (hmid : x + (e - m) = mid) (h1 : Srt s f a m) (h2 : Srt s f m b) (hp : Mrg s (rot f x m e) f2 a mid) (hc : mid = e ∨ e = b) : Mrg s f2 f2 mid b := by
  refine ⟨Srt.congr (f := rot f x m e) ?_ fun k k1 _ => hp.2.out k (by omega), Perm.refl _ _ _⟩
  rcases hc with hx | hx
  · rw [hx]; exact rot_srt_hi h h2
  · have := rot_srt_2 h h1
    rw [hmid, hx] at this
    rwa [hx]
theorem mrg_next {s : Nat → Int} {f f2 : Nat → Nat} {a m b x e mid : Nat} (h : Cutd s f a m b x e) (hmid : x + (e - m) = mid) (h1 : Srt s f a m) (h2 : Srt s f m b) (hl : Lo f a m b) (hp : Mrg s (rot f x m e) f2 a mid) : Srt s f2 mid e ∧ Srt s f2 e b ∧ Lo f2 mid e b := by
  have h6 := h.me
  have h5 := h.xm
  have h7 := h.eb
  have q : ∀ k, mid ≤ k → f2 k = rot f x m e k := fun k hk => hp.2.out k (by omega)
  refine ⟨Srt.congr (f := rot f x m e) (by have := rot_srt_2 h h1; rwa [hmid] at this) fun k k1 _ => q k k1, Srt.congr (f := rot f x m e) (rot_srt_hi h h2) fun k k1 _ => q k (by omega), fun i j i1 i2 j1 j2 => ?_⟩
  rw [q i i1, q j (by omega)]
  have := rot_low_hi h hl
  rw [hmid] at this
  exact this i j i1 i2 j1 j2

set_option maxRecDepth 200000 in
set_option maxHeartbeats 4000000 in
theorem sym_more (s : Nat → Int) (N B o n cap g : Nat) (cb : Array Value) (w0 : World) (hC : Cmps s N B g cb w0) (eg : ∀ args w, (callFunc g args).run Tryd.prog w = .ok (.enter g args) w) (hn : n < 1000000)
    (f : Nat → Nat) (a m b : Nat) (w : World) (hM : Merges s N B o n cap g cb w0 (b - a - 1)) (hX : Ex B w0 w) (hR : Row w B o n f) (hN : ∀ i, i < n → f i < N) (hm : a + 1 < m) (hb : m + 1 < b) (hbn : b ≤ n) (h1 : Srt s f a m) (h2 : Srt s f m b) (hl : Lo f a m b) :
    Calls Tryd.prog 65 #[.slice (some ⟨B, o, none⟩) n cap, .int .i64 a, .int .i64 m, .int .i64 b, .func (.func g) #[] cb] w fun e w' => e = .returned (.tuple #[]) ∧ ∃ f', Row w' B o n f' ∧ Mrg s f f' a b ∧ Ex B w w' := by
  have ba : (a : Int) < 1000000 := by omega
  have bm : (m : Int) < 1000000 := by omega
  have bb : (b : Int) < 1000000 := by omega
  have q0 : ((m : Int) - (a : Int) == 1) = false := beq_eq_false_iff_ne.2 (by omega)
  have q1 : ((b : Int) - (m : Int) == 1) = false := beq_eq_false_iff_ne.2 (by omega)
  obtain ⟨mid, hmid⟩ : ∃ mid, mid = (a + b) / 2 := ⟨_, rfl⟩
  have z1 : ((a : Int) + (b : Int)) / 2 = (mid : Int) := by omega
  obtain ⟨n1, hn1⟩ : ∃ n1, n1 = mid + m := ⟨_, rfl⟩
  have z2 : (mid : Int) + (m : Int) = (n1 : Int) := by omega
  obtain ⟨p1, hp1⟩ : ∃ p1, p1 = n1 - 1 := ⟨_, rfl⟩
  have z3 : (n1 : Int) - 1 = (p1 : Int) := by omega
  have bn : (n1 : Int) < 2000000 := by omega
  have HM : Hid (mid = (a + b) / 2 ∧ n1 = mid + m ∧ p1 = n1 - 1) := ⟨hmid, hn1, hp1⟩
  have HH : Hid (Merges s N B o n cap g cb w0 (b - a - 1) ∧ Ex B w0 w ∧ Row w B o n f ∧ (∀ i, i < n → f i < N) ∧ Srt s f a m ∧ Srt s f m b ∧ Lo f a m b ∧ Cmps s N B g cb w0) := ⟨hM, hX, hR, hN, h1, h2, hl, hC⟩
  have hRt : Hid (∀ (x e : Nat) (w : World), Row w B o n f → x < m → m < e → e ≤ n → Calls Tryd.prog 68 #[.slice (some ⟨B, o, none⟩) n cap, .int .i64 x, .int .i64 m, .int .i64 e, .func (.func g) #[] cb] w fun e' w' => e' = .returned (.tuple #[]) ∧ Row w' B o n (rot f x m e) ∧ Ex B w w') :=
    fun x e w hr h1 h2 h3 => rotate_any B o n cap f x m e _ w hr hn h1 h2 h3
  clear hM hX hR hN h1 h2 hl hC hmid hn1 hp1
  by_cases hmm : mid < m
  · have q2 : decide ((mid : Int) < (m : Int)) = true := decide_eq_true (by omega)
    obtain ⟨lo, elo⟩ : ∃ lo, lo = n1 - b := ⟨_, rfl⟩
    have HB : Hid (a ≤ lo ∧ lo ≤ mid ∧ mid ≤ m ∧ m + mid ≤ n1 ∧ n1 ≤ b + lo ∧ (lo = a ∨ n1 = b + lo) ∧ (mid = m ∨ n1 = m + mid)) := by have := HM.out; refine ⟨?_, ?_, ?_, ?_, ?_, ?_, ?_⟩ <;> omega
    have z4 : (n1 : Int) - (b : Int) = (lo : Int) := by have := HM.out; omega
    clear elo
    go_enter Tryd.func65, Tryd.ntmps65
    go_wp2_with fail
    go_loopw [20, 21] (fun vi vj wr => ∃ (x r : Nat), vi = .int .i64 x ∧ vj = .int .i64 r ∧ lo ≤ x ∧ x ≤ r ∧ r ≤ mid ∧ (∀ c, lo ≤ c → c < x → Wk s (f c) (f (p1 - c))) ∧ (∀ c, r ≤ c → c < mid → Wk s (f (p1 - c)) (f c)) ∧ Row wr B o n f ∧ Ex B w wr) (fun vi vj _ => (intOf vj).toNat - (intOf vi).toNat)
    case atStart => exact ⟨lo, mid, rfl, rfl, Nat.le_refl _, HB.out.2.1, Nat.le_refl _, fun k k1 k2 => by omega, fun k k1 k2 => by omega, HH.out.2.2.1, Ex.refl _ _⟩
    case round =>
      obtain ⟨x, r, rfl, rfl, hx, hxr, hr, u1, u2, R, X⟩ := hrel
      have B1 : a ≤ lo ∧ mid ≤ m ∧ m + mid ≤ n1 ∧ n1 ≤ b + lo := ⟨HB.out.1, HB.out.2.2.1, HB.out.2.2.2.1, HB.out.2.2.2.2.1⟩
      have B2 : p1 = n1 - 1 := HM.out.2.2
      by_cases hlt : x < r
      · obtain ⟨h, eh⟩ : ∃ h, h = (x + r) / 2 := ⟨_, rfl⟩
        have y1 : ((x : Int) + (r : Int)) / 2 = (h : Int) := by omega
        have b1 : x ≤ h := by omega
        have b2 : h < r := by omega
        obtain ⟨y, ey⟩ : ∃ y, y = p1 - h := ⟨_, rfl⟩
        have y2 : (p1 : Int) - (h : Int) = (y : Int) := by omega
        have l1 : (h : Int) < (n : Int) := by omega
        have l2 : (y : Int) < (n : Int) := by omega
        have l3 : (r : Int) < 1000000 := by omega
        have c1 := fun t : Gw wr => (R.below t.below).at' h (by omega)
        have c2 := fun t : Gw wr => (R.below t.below).at' y (by omega)
        have HC : Hid (∀ t : Gw wr, Calls Tryd.prog g (#[.int .i64 (f y), .int .i64 (f h)] ++ cb) t.wd fun e w' => e = .returned (.int .i64 (if s (f y) < s (f h) then -1 else if s (f h) < s (f y) then 1 else 0)) ∧ Below t.wd.heap.size t.wd w') := fun t =>
          HH.out.2.2.2.2.2.2.2 _ _ _ ((HH.out.2.1.trans X).trans (Ex.of (Nat.le_of_lt R.lt) t.below)) (HH.out.2.2.2.1 _ (by omega)) (HH.out.2.2.2.1 _ (by omega))
        have low : f h < f y := HH.out.2.2.2.2.2.2.1 h y (by omega) (by omega) (by omega) (by omega)
        have OUT : Hid (∀ W, Below wr.heap.size wr W → (s (f y) < s (f h) → (∀ c, lo ≤ c → c < x → Wk s (f c) (f (p1 - c))) ∧ (∀ c, h ≤ c → c < mid → Wk s (f (p1 - c)) (f c)) ∧ Row W B o n f ∧ Ex B w W) ∧ (¬ s (f y) < s (f h) → (∀ c, lo ≤ c → c < h + 1 → Wk s (f c) (f (p1 - c))) ∧ (∀ c, r ≤ c → c < mid → Wk s (f (p1 - c)) (f c)) ∧ Row W B o n f ∧ Ex B w W)) := fun W hb => by
          have h1 := HH.out.2.2.2.2.1
          have h2 := HH.out.2.2.2.2.2.1
          refine ⟨fun hs => ⟨u1, fun c c1 c2 => ?_, R.below hb, X.trans (Ex.of (Nat.le_of_lt R.lt) hb)⟩, fun hs => ⟨fun c c1 c2 => ?_, u2, R.below hb, X.trans (Ex.of (Nat.le_of_lt R.lt) hb)⟩⟩
          · exact h1.ge (show a ≤ h by omega) c1 (by omega) (h2.le (show m ≤ p1 - c by omega) (show p1 - c ≤ y by omega) (by omega) ((wk_lo low).2 hs))
          · exact h1.le (show a ≤ c by omega) (show c ≤ h by omega) (by omega) (h2.ge (show m ≤ y by omega) (show y ≤ p1 - c by omega) (by omega) ((wk_hi low).2 hs))
        have L : Below wr.heap.size wr wr := Below.refl _ _
        have ne := gw_ne L
        clear L u1 u2 R X low eh ey B1 B2
        by_cases hs : s (f y) < s (f h)
        · rw [if_pos hs] at HC
          have HS : Hid (s (f y) < s (f h)) := hs
          clear hs
          go_wp2_with fail
          refine wp_region_gw (by kernel_rfl) (by kernel_rfl) ?_
          repeat (go_big_quiet_step (first
            | (go_at_fn g; exact gw_call (HC.out _))))
          refine wpQuiet_nil ?_
          rintro _ ⟨t, rfl⟩
          go_wp2
          go_roundw
          case rel =>
            obtain ⟨v1, v2, v3, v4⟩ := (OUT.out _ t.below).1 HS.out
            exact ⟨x, h, rfl, rfl, hx, by omega, by omega, v1, v2, v3, v4⟩
          case measure => simp [intOf]; omega
        · rw [if_neg hs] at HC
          generalize hV : (if s (f h) < s (f y) then (1 : Int) else 0) = V at HC
          have v0 : ¬ V < 0 := by rw [← hV]; split <;> omega
          have v1 : decide (V < 0) = false := decide_eq_false v0
          have HS : Hid (¬ s (f y) < s (f h)) := hs
          clear hs hV
          go_wp2_with fail
          refine wp_region_gw (by kernel_rfl) (by kernel_rfl) ?_
          repeat (go_big_quiet_step (first
            | (go_at_fn g; exact gw_call (HC.out _))))
          refine wpQuiet_nil ?_
          rintro _ ⟨t, rfl⟩
          go_wp2
          go_roundw
          case rel =>
            obtain ⟨v1, v2, v3, v4⟩ := (OUT.out _ t.below).2 HS.out
            exact ⟨h + 1, r, by go_num, rfl, by omega, by omega, hr, v1, v2, v3, v4⟩
          case measure => simp [intOf]; omega
      · obtain rfl : x = r := by omega
        obtain ⟨e, ee⟩ : ∃ e, e = n1 - x := ⟨_, rfl⟩
        have y3 : (n1 : Int) - (x : Int) = (e : Int) := by omega
        have B3 : n1 = mid + m := HM.out.2.1
        have B4 : mid = (a + b) / 2 := HM.out.1
        have K : Cutd s f a m b x e := by
          refine ⟨by omega, by omega, by omega, by omega, fun k1 k2 => ?_, fun k1 k2 => ?_⟩
          · have := u1 (x - 1) (by rcases HB.out.2.2.2.2.2.1 with q | q <;> omega) (by omega)
            rwa [show p1 - (x - 1) = e by omega] at this
          · have := u2 x (Nat.le_refl _) (by rcases HB.out.2.2.2.2.2.2 with q | q <;> omega)
            rwa [show p1 - x = e - 1 by omega] at this
        have HF : Hid (Cutd s f a m b x e ∧ x + (e - m) = mid ∧ Row wr B o n f ∧ Ex B w wr) := ⟨K, by have := K.me; omega, R, X⟩
        have e1 : (x < m ↔ mid < e) ∧ (m < e ↔ x < mid) ∧ (¬ x < m → a < x) ∧ (¬ m < e → a < x ∧ e < b) ∧ a ≤ x ∧ x ≤ m ∧ m ≤ e ∧ e ≤ b ∧ a < mid ∧ mid < b := by
          have k1 := K.ax
          have k2 := K.xm
          have k3 := K.me
          have k4 := K.eb
          refine ⟨?_, ?_, ?_, ?_, k1, k2, k3, k4, ?_, ?_⟩ <;> omega
        have I : Hid ((x < m ↔ mid < e) ∧ (m < e ↔ x < mid) ∧ (¬ x < m → a < x) ∧ (¬ m < e → a < x ∧ e < b)) := ⟨e1.1, e1.2.1, e1.2.2.1, e1.2.2.2.1⟩
        obtain ⟨_, _, _, _, k1, k2, k3, k4, k5, k6⟩ := e1
        clear K u1 u2 R X ee B1 B2 B3 B4
        have le : (e : Int) < 1000000 := by omega
        have lx : (x : Int) < 1000000 := by omega
        by_cases P : x < m
        · by_cases Q : m < e
          · by_cases U : a < x
            · by_cases V : e < b
              · have d1 : mid < e := by have := I.out.1; omega
                have d2 : x < mid := by have := I.out.2.1; omega
                go_wp2_with fail
                refine (hRt.out x e wr HF.out.2.2.1 (by omega) (by omega) (by omega)).mono ?_
                rintro e' w1 ⟨rfl, R1, X1⟩
                have H1 : Hid (Row w1 B o n (rot f x m e) ∧ Ex B w w1) := ⟨R1, HF.out.2.2.2.trans X1⟩
                clear R1 X1
                go_wp2_with fail
                refine (HH.out.1 (rot f x m e) a x mid w1 (by omega) (HH.out.2.1.trans H1.out.2) H1.out.1 (((rot_perm f x m e k2 k3).wide k1 k4).bound hbn HH.out.2.2.2.1) (by omega) (by omega) (by omega) (rot_srt_lo HF.out.1 HH.out.2.2.2.2.1) (by have := rot_srt_1 HF.out.1 HH.out.2.2.2.2.2.1; rwa [HF.out.2.1] at this) (by have := rot_low_lo HF.out.1 HH.out.2.2.2.2.2.2.1; rwa [HF.out.2.1] at this)).mono ?_
                rintro e' w2 ⟨rfl, f2, R2, M2, X2⟩
                have H2 : Hid (Row w2 B o n f2 ∧ Mrg s (rot f x m e) f2 a mid ∧ Ex B w w2) := ⟨R2, M2, H1.out.2.trans X2⟩
                clear R2 M2 X2
                have H3 : Hid (Srt s f2 mid e ∧ Srt s f2 e b ∧ Lo f2 mid e b) := mrg_next HF.out.1 HF.out.2.1 HH.out.2.2.2.2.1 HH.out.2.2.2.2.2.1 HH.out.2.2.2.2.2.2.1 H2.out.2.1
                go_wp2_with fail
                refine (HH.out.1 f2 mid e b w2 (by omega) (HH.out.2.1.trans H2.out.2.2) H2.out.1 (Perm.bound (H2.out.2.1.2.wide (Nat.le_refl _) (Nat.le_of_lt k6)) hbn (((rot_perm f x m e k2 k3).wide k1 k4).bound hbn HH.out.2.2.2.1)) (by omega) (by omega) hbn H3.out.1 H3.out.2.1 H3.out.2.2).mono ?_
                rintro e' w3 ⟨rfl, f3, R3, M3, X3⟩
                have H4 : Hid (Row w3 B o n f3 ∧ Mrg s f2 f3 mid b ∧ Ex B w w3) := ⟨R3, M3, H2.out.2.2.trans X3⟩
                clear R3 M3 X3
                go_wp2
                go_end0
                exact ⟨rfl, f3, H4.out.1, mrg_fin HF.out.1 HF.out.2.1 HH.out.2.2.2.2.1 HH.out.2.2.2.2.2.1 H2.out.2.1 H4.out.2.1, H4.out.2.2⟩
              · have d1 : mid < e := by have := I.out.1; omega
                have d2 : x < mid := by have := I.out.2.1; omega
                go_wp2_with fail
                refine (hRt.out x e wr HF.out.2.2.1 (by omega) (by omega) (by omega)).mono ?_
                rintro e' w1 ⟨rfl, R1, X1⟩
                have H1 : Hid (Row w1 B o n (rot f x m e) ∧ Ex B w w1) := ⟨R1, HF.out.2.2.2.trans X1⟩
                clear R1 X1
                go_wp2_with fail
                refine (HH.out.1 (rot f x m e) a x mid w1 (by omega) (HH.out.2.1.trans H1.out.2) H1.out.1 (((rot_perm f x m e k2 k3).wide k1 k4).bound hbn HH.out.2.2.2.1) (by omega) (by omega) (by omega) (rot_srt_lo HF.out.1 HH.out.2.2.2.2.1) (by have := rot_srt_1 HF.out.1 HH.out.2.2.2.2.2.1; rwa [HF.out.2.1] at this) (by have := rot_low_lo HF.out.1 HH.out.2.2.2.2.2.2.1; rwa [HF.out.2.1] at this)).mono ?_
                rintro e' w2 ⟨rfl, f2, R2, M2, X2⟩
                have H2 : Hid (Row w2 B o n f2 ∧ Mrg s (rot f x m e) f2 a mid ∧ Ex B w w2) := ⟨R2, M2, H1.out.2.trans X2⟩
                clear R2 M2 X2
                obtain ⟨f3, ef3⟩ : ∃ f3, f3 = f2 := ⟨_, rfl⟩
                have H4 : Hid (Row w2 B o n f3 ∧ Mrg s f2 f3 mid b ∧ Ex B w w2) := by rw [ef3]; exact ⟨H2.out.1, mrg_none2 HF.out.1 HF.out.2.1 HH.out.2.2.2.2.1 HH.out.2.2.2.2.2.1 H2.out.2.1 (by omega), H2.out.2.2⟩
                clear ef3
                go_wp2
                go_end0
                exact ⟨rfl, f3, H4.out.1, mrg_fin HF.out.1 HF.out.2.1 HH.out.2.2.2.2.1 HH.out.2.2.2.2.2.1 H2.out.2.1 H4.out.2.1, H4.out.2.2⟩
            · by_cases V : e < b
              · have d1 : mid < e := by have := I.out.1; omega
                have d2 : x < mid := by have := I.out.2.1; omega
                go_wp2_with fail
                refine (hRt.out x e wr HF.out.2.2.1 (by omega) (by omega) (by omega)).mono ?_
                rintro e' w1 ⟨rfl, R1, X1⟩
                have H1 : Hid (Row w1 B o n (rot f x m e) ∧ Ex B w w1) := ⟨R1, HF.out.2.2.2.trans X1⟩
                clear R1 X1
                obtain ⟨f2, ef2⟩ : ∃ f2, f2 = rot f x m e := ⟨_, rfl⟩
                have H2 : Hid (Row w1 B o n f2 ∧ Mrg s (rot f x m e) f2 a mid ∧ Ex B w w1) := by rw [ef2]; exact ⟨H1.out.1, mrg_none1 HF.out.1 HF.out.2.1 HH.out.2.2.2.2.1 HH.out.2.2.2.2.2.1 (by omega), H1.out.2⟩
                clear ef2
                have H3 : Hid (Srt s f2 mid e ∧ Srt s f2 e b ∧ Lo f2 mid e b) := mrg_next HF.out.1 HF.out.2.1 HH.out.2.2.2.2.1 HH.out.2.2.2.2.2.1 HH.out.2.2.2.2.2.2.1 H2.out.2.1
                go_wp2_with fail
                refine (HH.out.1 f2 mid e b w1 (by omega) (HH.out.2.1.trans H2.out.2.2) H2.out.1 (Perm.bound (H2.out.2.1.2.wide (Nat.le_refl _) (Nat.le_of_lt k6)) hbn (((rot_perm f x m e k2 k3).wide k1 k4).bound hbn HH.out.2.2.2.1)) (by omega) (by omega) hbn H3.out.1 H3.out.2.1 H3.out.2.2).mono ?_
                rintro e' w3 ⟨rfl, f3, R3, M3, X3⟩
                have H4 : Hid (Row w3 B o n f3 ∧ Mrg s f2 f3 mid b ∧ Ex B w w3) := ⟨R3, M3, H2.out.2.2.trans X3⟩
                clear R3 M3 X3
                go_wp2
                go_end0
                exact ⟨rfl, f3, H4.out.1, mrg_fin HF.out.1 HF.out.2.1 HH.out.2.2.2.2.1 HH.out.2.2.2.2.2.1 H2.out.2.1 H4.out.2.1, H4.out.2.2⟩
              · have d1 : mid < e := by have := I.out.1; omega
                have d2 : x < mid := by have := I.out.2.1; omega
                go_wp2_with fail
                refine (hRt.out x e wr HF.out.2.2.1 (by omega) (by omega) (by omega)).mono ?_
                rintro e' w1 ⟨rfl, R1, X1⟩
                have H1 : Hid (Row w1 B o n (rot f x m e) ∧ Ex B w w1) := ⟨R1, HF.out.2.2.2.trans X1⟩
                clear R1 X1
                obtain ⟨f2, ef2⟩ : ∃ f2, f2 = rot f x m e := ⟨_, rfl⟩
                have H2 : Hid (Row w1 B o n f2 ∧ Mrg s (rot f x m e) f2 a mid ∧ Ex B w w1) := by rw [ef2]; exact ⟨H1.out.1, mrg_none1 HF.out.1 HF.out.2.1 HH.out.2.2.2.2.1 HH.out.2.2.2.2.2.1 (by omega), H1.out.2⟩
                clear ef2
                obtain ⟨f3, ef3⟩ : ∃ f3, f3 = f2 := ⟨_, rfl⟩
                have H4 : Hid (Row w1 B o n f3 ∧ Mrg s f2 f3 mid b ∧ Ex B w w1) := by rw [ef3]; exact ⟨H2.out.1, mrg_none2 HF.out.1 HF.out.2.1 HH.out.2.2.2.2.1 HH.out.2.2.2.2.2.1 H2.out.2.1 (by omega), H2.out.2.2⟩
                clear ef3
                go_wp2
                go_end0
                exact ⟨rfl, f3, H4.out.1, mrg_fin HF.out.1 HF.out.2.1 HH.out.2.2.2.2.1 HH.out.2.2.2.2.2.1 H2.out.2.1 H4.out.2.1, H4.out.2.2⟩
          · have d1 : mid < e := by have := I.out.1; omega
            have d2 : ¬ x < mid := by have := I.out.2.1; omega
            have UV := I.out.2.2.2 Q
            have U2 : a < x := UV.1
            have V2 : e < b := UV.2
            clear UV
            have H1 : Hid (Row wr B o n (rot f x m e) ∧ Ex B w wr) := ⟨by rw [rot_none f x m e (by omega)]; exact HF.out.2.2.1, HF.out.2.2.2⟩
            obtain ⟨f2, ef2⟩ : ∃ f2, f2 = rot f x m e := ⟨_, rfl⟩
            have H2 : Hid (Row wr B o n f2 ∧ Mrg s (rot f x m e) f2 a mid ∧ Ex B w wr) := by rw [ef2]; exact ⟨H1.out.1, mrg_none1 HF.out.1 HF.out.2.1 HH.out.2.2.2.2.1 HH.out.2.2.2.2.2.1 (by omega), H1.out.2⟩
            clear ef2
            have H3 : Hid (Srt s f2 mid e ∧ Srt s f2 e b ∧ Lo f2 mid e b) := mrg_next HF.out.1 HF.out.2.1 HH.out.2.2.2.2.1 HH.out.2.2.2.2.2.1 HH.out.2.2.2.2.2.2.1 H2.out.2.1
            go_wp2_with fail
            refine (HH.out.1 f2 mid e b wr (by omega) (HH.out.2.1.trans H2.out.2.2) H2.out.1 (Perm.bound (H2.out.2.1.2.wide (Nat.le_refl _) (Nat.le_of_lt k6)) hbn (((rot_perm f x m e k2 k3).wide k1 k4).bound hbn HH.out.2.2.2.1)) (by omega) (by omega) hbn H3.out.1 H3.out.2.1 H3.out.2.2).mono ?_
            rintro e' w3 ⟨rfl, f3, R3, M3, X3⟩
            have H4 : Hid (Row w3 B o n f3 ∧ Mrg s f2 f3 mid b ∧ Ex B w w3) := ⟨R3, M3, H2.out.2.2.trans X3⟩
            clear R3 M3 X3
            go_wp2
            go_end0
            exact ⟨rfl, f3, H4.out.1, mrg_fin HF.out.1 HF.out.2.1 HH.out.2.2.2.2.1 HH.out.2.2.2.2.2.1 H2.out.2.1 H4.out.2.1, H4.out.2.2⟩
        · by_cases Q : m < e
          · have d1 : ¬ mid < e := by have := I.out.1; omega
            have d2 : x < mid := by have := I.out.2.1; omega
            have U : a < x := I.out.2.2.1 P
            have H1 : Hid (Row wr B o n (rot f x m e) ∧ Ex B w wr) := ⟨by rw [rot_none f x m e (by omega)]; exact HF.out.2.2.1, HF.out.2.2.2⟩
            go_wp2_with fail
            refine (HH.out.1 (rot f x m e) a x mid wr (by omega) (HH.out.2.1.trans H1.out.2) H1.out.1 (((rot_perm f x m e k2 k3).wide k1 k4).bound hbn HH.out.2.2.2.1) (by omega) (by omega) (by omega) (rot_srt_lo HF.out.1 HH.out.2.2.2.2.1) (by have := rot_srt_1 HF.out.1 HH.out.2.2.2.2.2.1; rwa [HF.out.2.1] at this) (by have := rot_low_lo HF.out.1 HH.out.2.2.2.2.2.2.1; rwa [HF.out.2.1] at this)).mono ?_
            rintro e' w2 ⟨rfl, f2, R2, M2, X2⟩
            have H2 : Hid (Row w2 B o n f2 ∧ Mrg s (rot f x m e) f2 a mid ∧ Ex B w w2) := ⟨R2, M2, H1.out.2.trans X2⟩
            clear R2 M2 X2
            obtain ⟨f3, ef3⟩ : ∃ f3, f3 = f2 := ⟨_, rfl⟩
            have H4 : Hid (Row w2 B o n f3 ∧ Mrg s f2 f3 mid b ∧ Ex B w w2) := by rw [ef3]; exact ⟨H2.out.1, mrg_none2 HF.out.1 HF.out.2.1 HH.out.2.2.2.2.1 HH.out.2.2.2.2.2.1 H2.out.2.1 (by omega), H2.out.2.2⟩
            clear ef3
            go_wp2
            go_end0
            exact ⟨rfl, f3, H4.out.1, mrg_fin HF.out.1 HF.out.2.1 HH.out.2.2.2.2.1 HH.out.2.2.2.2.2.1 H2.out.2.1 H4.out.2.1, H4.out.2.2⟩
          · have d1 : ¬ mid < e := by have := I.out.1; omega
            have d2 : ¬ x < mid := by have := I.out.2.1; omega
            have U : a < x := I.out.2.2.1 P
            have UV := I.out.2.2.2 Q
            have U2 : a < x := UV.1
            have V2 : e < b := UV.2
            clear UV
            have H1 : Hid (Row wr B o n (rot f x m e) ∧ Ex B w wr) := ⟨by rw [rot_none f x m e (by omega)]; exact HF.out.2.2.1, HF.out.2.2.2⟩
            obtain ⟨f2, ef2⟩ : ∃ f2, f2 = rot f x m e := ⟨_, rfl⟩
            have H2 : Hid (Row wr B o n f2 ∧ Mrg s (rot f x m e) f2 a mid ∧ Ex B w wr) := by rw [ef2]; exact ⟨H1.out.1, mrg_none1 HF.out.1 HF.out.2.1 HH.out.2.2.2.2.1 HH.out.2.2.2.2.2.1 (by omega), H1.out.2⟩
            clear ef2
            obtain ⟨f3, ef3⟩ : ∃ f3, f3 = f2 := ⟨_, rfl⟩
            have H4 : Hid (Row wr B o n f3 ∧ Mrg s f2 f3 mid b ∧ Ex B w wr) := by rw [ef3]; exact ⟨H2.out.1, mrg_none2 HF.out.1 HF.out.2.1 HH.out.2.2.2.2.1 HH.out.2.2.2.2.2.1 H2.out.2.1 (by omega), H2.out.2.2⟩
            clear ef3
            go_wp2
            go_end0
            exact ⟨rfl, f3, H4.out.1, mrg_fin HF.out.1 HF.out.2.1 HH.out.2.2.2.2.1 HH.out.2.2.2.2.2.1 H2.out.2.1 H4.out.2.1, H4.out.2.2⟩
  · have q2 : decide ((mid : Int) < (m : Int)) = false := decide_eq_false (by omega)
    have HB : Hid (a ≤ a ∧ a ≤ m ∧ m ≤ m ∧ m + m ≤ n1 ∧ n1 ≤ b + a ∧ (a = a ∨ n1 = b + a) ∧ (m = m ∨ n1 = m + m)) := by have := HM.out; refine ⟨?_, ?_, ?_, ?_, ?_, .inl rfl, .inl rfl⟩ <;> omega
    go_enter Tryd.func65, Tryd.ntmps65
    go_wp2_with fail
    go_loopw [20, 21] (fun vi vj wr => ∃ (x r : Nat), vi = .int .i64 x ∧ vj = .int .i64 r ∧ a ≤ x ∧ x ≤ r ∧ r ≤ m ∧ (∀ c, a ≤ c → c < x → Wk s (f c) (f (p1 - c))) ∧ (∀ c, r ≤ c → c < m → Wk s (f (p1 - c)) (f c)) ∧ Row wr B o n f ∧ Ex B w wr) (fun vi vj _ => (intOf vj).toNat - (intOf vi).toNat)
    case atStart => exact ⟨a, m, rfl, rfl, Nat.le_refl _, HB.out.2.1, Nat.le_refl _, fun k k1 k2 => by omega, fun k k1 k2 => by omega, HH.out.2.2.1, Ex.refl _ _⟩
    case round =>
      obtain ⟨x, r, rfl, rfl, hx, hxr, hr, u1, u2, R, X⟩ := hrel
      have B1 : a ≤ a ∧ m ≤ m ∧ m + m ≤ n1 ∧ n1 ≤ b + a := ⟨HB.out.1, HB.out.2.2.1, HB.out.2.2.2.1, HB.out.2.2.2.2.1⟩
      have B2 : p1 = n1 - 1 := HM.out.2.2
      by_cases hlt : x < r
      · obtain ⟨h, eh⟩ : ∃ h, h = (x + r) / 2 := ⟨_, rfl⟩
        have y1 : ((x : Int) + (r : Int)) / 2 = (h : Int) := by omega
        have b1 : x ≤ h := by omega
        have b2 : h < r := by omega
        obtain ⟨y, ey⟩ : ∃ y, y = p1 - h := ⟨_, rfl⟩
        have y2 : (p1 : Int) - (h : Int) = (y : Int) := by omega
        have l1 : (h : Int) < (n : Int) := by omega
        have l2 : (y : Int) < (n : Int) := by omega
        have l3 : (r : Int) < 1000000 := by omega
        have c1 := fun t : Gw wr => (R.below t.below).at' h (by omega)
        have c2 := fun t : Gw wr => (R.below t.below).at' y (by omega)
        have HC : Hid (∀ t : Gw wr, Calls Tryd.prog g (#[.int .i64 (f y), .int .i64 (f h)] ++ cb) t.wd fun e w' => e = .returned (.int .i64 (if s (f y) < s (f h) then -1 else if s (f h) < s (f y) then 1 else 0)) ∧ Below t.wd.heap.size t.wd w') := fun t =>
          HH.out.2.2.2.2.2.2.2 _ _ _ ((HH.out.2.1.trans X).trans (Ex.of (Nat.le_of_lt R.lt) t.below)) (HH.out.2.2.2.1 _ (by omega)) (HH.out.2.2.2.1 _ (by omega))
        have low : f h < f y := HH.out.2.2.2.2.2.2.1 h y (by omega) (by omega) (by omega) (by omega)
        have OUT : Hid (∀ W, Below wr.heap.size wr W → (s (f y) < s (f h) → (∀ c, a ≤ c → c < x → Wk s (f c) (f (p1 - c))) ∧ (∀ c, h ≤ c → c < m → Wk s (f (p1 - c)) (f c)) ∧ Row W B o n f ∧ Ex B w W) ∧ (¬ s (f y) < s (f h) → (∀ c, a ≤ c → c < h + 1 → Wk s (f c) (f (p1 - c))) ∧ (∀ c, r ≤ c → c < m → Wk s (f (p1 - c)) (f c)) ∧ Row W B o n f ∧ Ex B w W)) := fun W hb => by
          have h1 := HH.out.2.2.2.2.1
          have h2 := HH.out.2.2.2.2.2.1
          refine ⟨fun hs => ⟨u1, fun c c1 c2 => ?_, R.below hb, X.trans (Ex.of (Nat.le_of_lt R.lt) hb)⟩, fun hs => ⟨fun c c1 c2 => ?_, u2, R.below hb, X.trans (Ex.of (Nat.le_of_lt R.lt) hb)⟩⟩
          · exact h1.ge (show a ≤ h by omega) c1 (by omega) (h2.le (show m ≤ p1 - c by omega) (show p1 - c ≤ y by omega) (by omega) ((wk_lo low).2 hs))
          · exact h1.le (show a ≤ c by omega) (show c ≤ h by omega) (by omega) (h2.ge (show m ≤ y by omega) (show y ≤ p1 - c by omega) (by omega) ((wk_hi low).2 hs))
        have L : Below wr.heap.size wr wr := Below.refl _ _
        have ne := gw_ne L
        clear L u1 u2 R X low eh ey B1 B2
        by_cases hs : s (f y) < s (f h)
        · rw [if_pos hs] at HC
          have HS : Hid (s (f y) < s (f h)) := hs
          clear hs
          go_wp2_with fail
          refine wp_region_gw (by kernel_rfl) (by kernel_rfl) ?_
          repeat (go_big_quiet_step (first
            | (go_at_fn g; exact gw_call (HC.out _))))
          refine wpQuiet_nil ?_
          rintro _ ⟨t, rfl⟩
          go_wp2
          go_roundw
          case rel =>
            obtain ⟨v1, v2, v3, v4⟩ := (OUT.out _ t.below).1 HS.out
            exact ⟨x, h, rfl, rfl, hx, by omega, by omega, v1, v2, v3, v4⟩
          case measure => simp [intOf]; omega
        · rw [if_neg hs] at HC
          generalize hV : (if s (f h) < s (f y) then (1 : Int) else 0) = V at HC
          have v0 : ¬ V < 0 := by rw [← hV]; split <;> omega
          have v1 : decide (V < 0) = false := decide_eq_false v0
          have HS : Hid (¬ s (f y) < s (f h)) := hs
          clear hs hV
          go_wp2_with fail
          refine wp_region_gw (by kernel_rfl) (by kernel_rfl) ?_
          repeat (go_big_quiet_step (first
            | (go_at_fn g; exact gw_call (HC.out _))))
          refine wpQuiet_nil ?_
          rintro _ ⟨t, rfl⟩
          go_wp2
          go_roundw
          case rel =>
            obtain ⟨v1, v2, v3, v4⟩ := (OUT.out _ t.below).2 HS.out
            exact ⟨h + 1, r, by go_num, rfl, by omega, by omega, hr, v1, v2, v3, v4⟩
          case measure => simp [intOf]; omega
      · obtain rfl : x = r := by omega
        obtain ⟨e, ee⟩ : ∃ e, e = n1 - x := ⟨_, rfl⟩
        have y3 : (n1 : Int) - (x : Int) = (e : Int) := by omega
        have B3 : n1 = mid + m := HM.out.2.1
        have B4 : mid = (a + b) / 2 := HM.out.1
        have K : Cutd s f a m b x e := by
          refine ⟨by omega, by omega, by omega, by omega, fun k1 k2 => ?_, fun k1 k2 => ?_⟩
          · have := u1 (x - 1) (by rcases HB.out.2.2.2.2.2.1 with q | q <;> omega) (by omega)
            rwa [show p1 - (x - 1) = e by omega] at this
          · have := u2 x (Nat.le_refl _) (by rcases HB.out.2.2.2.2.2.2 with q | q <;> omega)
            rwa [show p1 - x = e - 1 by omega] at this
        have HF : Hid (Cutd s f a m b x e ∧ x + (e - m) = mid ∧ Row wr B o n f ∧ Ex B w wr) := ⟨K, by have := K.me; omega, R, X⟩
        have e1 : (x < m ↔ mid < e) ∧ (m < e ↔ x < mid) ∧ (¬ x < m → a < x) ∧ (¬ m < e → a < x ∧ e < b) ∧ a ≤ x ∧ x ≤ m ∧ m ≤ e ∧ e ≤ b ∧ a < mid ∧ mid < b := by
          have k1 := K.ax
          have k2 := K.xm
          have k3 := K.me
          have k4 := K.eb
          refine ⟨?_, ?_, ?_, ?_, k1, k2, k3, k4, ?_, ?_⟩ <;> omega
        have I : Hid ((x < m ↔ mid < e) ∧ (m < e ↔ x < mid) ∧ (¬ x < m → a < x) ∧ (¬ m < e → a < x ∧ e < b)) := ⟨e1.1, e1.2.1, e1.2.2.1, e1.2.2.2.1⟩
        obtain ⟨_, _, _, _, k1, k2, k3, k4, k5, k6⟩ := e1
        clear K u1 u2 R X ee B1 B2 B3 B4
        have le : (e : Int) < 1000000 := by omega
        have lx : (x : Int) < 1000000 := by omega
        by_cases P : x < m
        · by_cases Q : m < e
          · by_cases U : a < x
            · by_cases V : e < b
              · have d1 : mid < e := by have := I.out.1; omega
                have d2 : x < mid := by have := I.out.2.1; omega
                go_wp2_with fail
                refine (hRt.out x e wr HF.out.2.2.1 (by omega) (by omega) (by omega)).mono ?_
                rintro e' w1 ⟨rfl, R1, X1⟩
                have H1 : Hid (Row w1 B o n (rot f x m e) ∧ Ex B w w1) := ⟨R1, HF.out.2.2.2.trans X1⟩
                clear R1 X1
                go_wp2_with fail
                refine (HH.out.1 (rot f x m e) a x mid w1 (by omega) (HH.out.2.1.trans H1.out.2) H1.out.1 (((rot_perm f x m e k2 k3).wide k1 k4).bound hbn HH.out.2.2.2.1) (by omega) (by omega) (by omega) (rot_srt_lo HF.out.1 HH.out.2.2.2.2.1) (by have := rot_srt_1 HF.out.1 HH.out.2.2.2.2.2.1; rwa [HF.out.2.1] at this) (by have := rot_low_lo HF.out.1 HH.out.2.2.2.2.2.2.1; rwa [HF.out.2.1] at this)).mono ?_
                rintro e' w2 ⟨rfl, f2, R2, M2, X2⟩
                have H2 : Hid (Row w2 B o n f2 ∧ Mrg s (rot f x m e) f2 a mid ∧ Ex B w w2) := ⟨R2, M2, H1.out.2.trans X2⟩
                clear R2 M2 X2
                have H3 : Hid (Srt s f2 mid e ∧ Srt s f2 e b ∧ Lo f2 mid e b) := mrg_next HF.out.1 HF.out.2.1 HH.out.2.2.2.2.1 HH.out.2.2.2.2.2.1 HH.out.2.2.2.2.2.2.1 H2.out.2.1
                go_wp2_with fail
                refine (HH.out.1 f2 mid e b w2 (by omega) (HH.out.2.1.trans H2.out.2.2) H2.out.1 (Perm.bound (H2.out.2.1.2.wide (Nat.le_refl _) (Nat.le_of_lt k6)) hbn (((rot_perm f x m e k2 k3).wide k1 k4).bound hbn HH.out.2.2.2.1)) (by omega) (by omega) hbn H3.out.1 H3.out.2.1 H3.out.2.2).mono ?_
                rintro e' w3 ⟨rfl, f3, R3, M3, X3⟩
                have H4 : Hid (Row w3 B o n f3 ∧ Mrg s f2 f3 mid b ∧ Ex B w w3) := ⟨R3, M3, H2.out.2.2.trans X3⟩
                clear R3 M3 X3
                go_wp2
                go_end0
                exact ⟨rfl, f3, H4.out.1, mrg_fin HF.out.1 HF.out.2.1 HH.out.2.2.2.2.1 HH.out.2.2.2.2.2.1 H2.out.2.1 H4.out.2.1, H4.out.2.2⟩
              · have d1 : mid < e := by have := I.out.1; omega
                have d2 : x < mid := by have := I.out.2.1; omega
                go_wp2_with fail
                refine (hRt.out x e wr HF.out.2.2.1 (by omega) (by omega) (by omega)).mono ?_
                rintro e' w1 ⟨rfl, R1, X1⟩
                have H1 : Hid (Row w1 B o n (rot f x m e) ∧ Ex B w w1) := ⟨R1, HF.out.2.2.2.trans X1⟩
                clear R1 X1
                go_wp2_with fail
                refine (HH.out.1 (rot f x m e) a x mid w1 (by omega) (HH.out.2.1.trans H1.out.2) H1.out.1 (((rot_perm f x m e k2 k3).wide k1 k4).bound hbn HH.out.2.2.2.1) (by omega) (by omega) (by omega) (rot_srt_lo HF.out.1 HH.out.2.2.2.2.1) (by have := rot_srt_1 HF.out.1 HH.out.2.2.2.2.2.1; rwa [HF.out.2.1] at this) (by have := rot_low_lo HF.out.1 HH.out.2.2.2.2.2.2.1; rwa [HF.out.2.1] at this)).mono ?_
                rintro e' w2 ⟨rfl, f2, R2, M2, X2⟩
                have H2 : Hid (Row w2 B o n f2 ∧ Mrg s (rot f x m e) f2 a mid ∧ Ex B w w2) := ⟨R2, M2, H1.out.2.trans X2⟩
                clear R2 M2 X2
                obtain ⟨f3, ef3⟩ : ∃ f3, f3 = f2 := ⟨_, rfl⟩
                have H4 : Hid (Row w2 B o n f3 ∧ Mrg s f2 f3 mid b ∧ Ex B w w2) := by rw [ef3]; exact ⟨H2.out.1, mrg_none2 HF.out.1 HF.out.2.1 HH.out.2.2.2.2.1 HH.out.2.2.2.2.2.1 H2.out.2.1 (by omega), H2.out.2.2⟩
                clear ef3
                go_wp2
                go_end0
                exact ⟨rfl, f3, H4.out.1, mrg_fin HF.out.1 HF.out.2.1 HH.out.2.2.2.2.1 HH.out.2.2.2.2.2.1 H2.out.2.1 H4.out.2.1, H4.out.2.2⟩
            · by_cases V : e < b
              · have d1 : mid < e := by have := I.out.1; omega
                have d2 : x < mid := by have := I.out.2.1; omega
                go_wp2_with fail
                refine (hRt.out x e wr HF.out.2.2.1 (by omega) (by omega) (by omega)).mono ?_
                rintro e' w1 ⟨rfl, R1, X1⟩
                have H1 : Hid (Row w1 B o n (rot f x m e) ∧ Ex B w w1) := ⟨R1, HF.out.2.2.2.trans X1⟩
                clear R1 X1
                obtain ⟨f2, ef2⟩ : ∃ f2, f2 = rot f x m e := ⟨_, rfl⟩
                have H2 : Hid (Row w1 B o n f2 ∧ Mrg s (rot f x m e) f2 a mid ∧ Ex B w w1) := by rw [ef2]; exact ⟨H1.out.1, mrg_none1 HF.out.1 HF.out.2.1 HH.out.2.2.2.2.1 HH.out.2.2.2.2.2.1 (by omega), H1.out.2⟩
                clear ef2
                have H3 : Hid (Srt s f2 mid e ∧ Srt s f2 e b ∧ Lo f2 mid e b) := mrg_next HF.out.1 HF.out.2.1 HH.out.2.2.2.2.1 HH.out.2.2.2.2.2.1 HH.out.2.2.2.2.2.2.1 H2.out.2.1
                go_wp2_with fail
                refine (HH.out.1 f2 mid e b w1 (by omega) (HH.out.2.1.trans H2.out.2.2) H2.out.1 (Perm.bound (H2.out.2.1.2.wide (Nat.le_refl _) (Nat.le_of_lt k6)) hbn (((rot_perm f x m e k2 k3).wide k1 k4).bound hbn HH.out.2.2.2.1)) (by omega) (by omega) hbn H3.out.1 H3.out.2.1 H3.out.2.2).mono ?_
                rintro e' w3 ⟨rfl, f3, R3, M3, X3⟩
                have H4 : Hid (Row w3 B o n f3 ∧ Mrg s f2 f3 mid b ∧ Ex B w w3) := ⟨R3, M3, H2.out.2.2.trans X3⟩
                clear R3 M3 X3
                go_wp2
                go_end0
                exact ⟨rfl, f3, H4.out.1, mrg_fin HF.out.1 HF.out.2.1 HH.out.2.2.2.2.1 HH.out.2.2.2.2.2.1 H2.out.2.1 H4.out.2.1, H4.out.2.2⟩
              · have d1 : mid < e := by have := I.out.1; omega
                have d2 : x < mid := by have := I.out.2.1; omega
                go_wp2_with fail
                refine (hRt.out x e wr HF.out.2.2.1 (by omega) (by omega) (by omega)).mono ?_
                rintro e' w1 ⟨rfl, R1, X1⟩
                have H1 : Hid (Row w1 B o n (rot f x m e) ∧ Ex B w w1) := ⟨R1, HF.out.2.2.2.trans X1⟩
                clear R1 X1
                obtain ⟨f2, ef2⟩ : ∃ f2, f2 = rot f x m e := ⟨_, rfl⟩
                have H2 : Hid (Row w1 B o n f2 ∧ Mrg s (rot f x m e) f2 a mid ∧ Ex B w w1) := by rw [ef2]; exact ⟨H1.out.1, mrg_none1 HF.out.1 HF.out.2.1 HH.out.2.2.2.2.1 HH.out.2.2.2.2.2.1 (by omega), H1.out.2⟩
                clear ef2
                obtain ⟨f3, ef3⟩ : ∃ f3, f3 = f2 := ⟨_, rfl⟩
                have H4 : Hid (Row w1 B o n f3 ∧ Mrg s f2 f3 mid b ∧ Ex B w w1) := by rw [ef3]; exact ⟨H2.out.1, mrg_none2 HF.out.1 HF.out.2.1 HH.out.2.2.2.2.1 HH.out.2.2.2.2.2.1 H2.out.2.1 (by omega), H2.out.2.2⟩
                clear ef3
                go_wp2
                go_end0
                exact ⟨rfl, f3, H4.out.1, mrg_fin HF.out.1 HF.out.2.1 HH.out.2.2.2.2.1 HH.out.2.2.2.2.2.1 H2.out.2.1 H4.out.2.1, H4.out.2.2⟩
          · have d1 : mid < e := by have := I.out.1; omega
            have d2 : ¬ x < mid := by have := I.out.2.1; omega
            have UV := I.out.2.2.2 Q
            have U2 : a < x := UV.1
            have V2 : e < b := UV.2
            clear UV
            have H1 : Hid (Row wr B o n (rot f x m e) ∧ Ex B w wr) := ⟨by rw [rot_none f x m e (by omega)]; exact HF.out.2.2.1, HF.out.2.2.2⟩
            obtain ⟨f2, ef2⟩ : ∃ f2, f2 = rot f x m e := ⟨_, rfl⟩
            have H2 : Hid (Row wr B o n f2 ∧ Mrg s (rot f x m e) f2 a mid ∧ Ex B w wr) := by rw [ef2]; exact ⟨H1.out.1, mrg_none1 HF.out.1 HF.out.2.1 HH.out.2.2.2.2.1 HH.out.2.2.2.2.2.1 (by omega), H1.out.2⟩
            clear ef2
            have H3 : Hid (Srt s f2 mid e ∧ Srt s f2 e b ∧ Lo f2 mid e b) := mrg_next HF.out.1 HF.out.2.1 HH.out.2.2.2.2.1 HH.out.2.2.2.2.2.1 HH.out.2.2.2.2.2.2.1 H2.out.2.1
            go_wp2_with fail
            refine (HH.out.1 f2 mid e b wr (by omega) (HH.out.2.1.trans H2.out.2.2) H2.out.1 (Perm.bound (H2.out.2.1.2.wide (Nat.le_refl _) (Nat.le_of_lt k6)) hbn (((rot_perm f x m e k2 k3).wide k1 k4).bound hbn HH.out.2.2.2.1)) (by omega) (by omega) hbn H3.out.1 H3.out.2.1 H3.out.2.2).mono ?_
            rintro e' w3 ⟨rfl, f3, R3, M3, X3⟩
            have H4 : Hid (Row w3 B o n f3 ∧ Mrg s f2 f3 mid b ∧ Ex B w w3) := ⟨R3, M3, H2.out.2.2.trans X3⟩
            clear R3 M3 X3
            go_wp2
            go_end0
            exact ⟨rfl, f3, H4.out.1, mrg_fin HF.out.1 HF.out.2.1 HH.out.2.2.2.2.1 HH.out.2.2.2.2.2.1 H2.out.2.1 H4.out.2.1, H4.out.2.2⟩
        · by_cases Q : m < e
          · have d1 : ¬ mid < e := by have := I.out.1; omega
            have d2 : x < mid := by have := I.out.2.1; omega
            have U : a < x := I.out.2.2.1 P
            have H1 : Hid (Row wr B o n (rot f x m e) ∧ Ex B w wr) := ⟨by rw [rot_none f x m e (by omega)]; exact HF.out.2.2.1, HF.out.2.2.2⟩
            go_wp2_with fail
            refine (HH.out.1 (rot f x m e) a x mid wr (by omega) (HH.out.2.1.trans H1.out.2) H1.out.1 (((rot_perm f x m e k2 k3).wide k1 k4).bound hbn HH.out.2.2.2.1) (by omega) (by omega) (by omega) (rot_srt_lo HF.out.1 HH.out.2.2.2.2.1) (by have := rot_srt_1 HF.out.1 HH.out.2.2.2.2.2.1; rwa [HF.out.2.1] at this) (by have := rot_low_lo HF.out.1 HH.out.2.2.2.2.2.2.1; rwa [HF.out.2.1] at this)).mono ?_
            rintro e' w2 ⟨rfl, f2, R2, M2, X2⟩
            have H2 : Hid (Row w2 B o n f2 ∧ Mrg s (rot f x m e) f2 a mid ∧ Ex B w w2) := ⟨R2, M2, H1.out.2.trans X2⟩
            clear R2 M2 X2
            obtain ⟨f3, ef3⟩ : ∃ f3, f3 = f2 := ⟨_, rfl⟩
            have H4 : Hid (Row w2 B o n f3 ∧ Mrg s f2 f3 mid b ∧ Ex B w w2) := by rw [ef3]; exact ⟨H2.out.1, mrg_none2 HF.out.1 HF.out.2.1 HH.out.2.2.2.2.1 HH.out.2.2.2.2.2.1 H2.out.2.1 (by omega), H2.out.2.2⟩
            clear ef3
            go_wp2
            go_end0
            exact ⟨rfl, f3, H4.out.1, mrg_fin HF.out.1 HF.out.2.1 HH.out.2.2.2.2.1 HH.out.2.2.2.2.2.1 H2.out.2.1 H4.out.2.1, H4.out.2.2⟩
          · have d1 : ¬ mid < e := by have := I.out.1; omega
            have d2 : ¬ x < mid := by have := I.out.2.1; omega
            have U : a < x := I.out.2.2.1 P
            have UV := I.out.2.2.2 Q
            have U2 : a < x := UV.1
            have V2 : e < b := UV.2
            clear UV
            have H1 : Hid (Row wr B o n (rot f x m e) ∧ Ex B w wr) := ⟨by rw [rot_none f x m e (by omega)]; exact HF.out.2.2.1, HF.out.2.2.2⟩
            obtain ⟨f2, ef2⟩ : ∃ f2, f2 = rot f x m e := ⟨_, rfl⟩
            have H2 : Hid (Row wr B o n f2 ∧ Mrg s (rot f x m e) f2 a mid ∧ Ex B w wr) := by rw [ef2]; exact ⟨H1.out.1, mrg_none1 HF.out.1 HF.out.2.1 HH.out.2.2.2.2.1 HH.out.2.2.2.2.2.1 (by omega), H1.out.2⟩
            clear ef2
            obtain ⟨f3, ef3⟩ : ∃ f3, f3 = f2 := ⟨_, rfl⟩
            have H4 : Hid (Row wr B o n f3 ∧ Mrg s f2 f3 mid b ∧ Ex B w wr) := by rw [ef3]; exact ⟨H2.out.1, mrg_none2 HF.out.1 HF.out.2.1 HH.out.2.2.2.2.1 HH.out.2.2.2.2.2.1 H2.out.2.1 (by omega), H2.out.2.2⟩
            clear ef3
            go_wp2
            go_end0
            exact ⟨rfl, f3, H4.out.1, mrg_fin HF.out.1 HF.out.2.1 HH.out.2.2.2.2.1 HH.out.2.2.2.2.2.1 H2.out.2.1 H4.out.2.1, H4.out.2.2⟩

theorem sym_any (s : Nat → Int) (N B o n cap g : Nat) (cb : Array Value) (w0 : World) (hC : Cmps s N B g cb w0) (eg : ∀ args w, (callFunc g args).run Tryd.prog w = .ok (.enter g args) w) (hn : n < 1000000) : ∀ d, Merges s N B o n cap g cb w0 d := by
  intro d
  induction d with
  | zero => intro f a m b w hd _ _ _ h1 h2; omega
  | succ d ih =>
    intro f a m b w hd hX hR hN ham hmb hbn h1 h2 hl
    by_cases c1 : m = a + 1
    · exact sym_one s N B o n cap g cb w0 hC eg hn f a m b w hX hR hN c1 hmb hbn h2 hl
    · by_cases c2 : b = m + 1
      · exact sym_last s N B o n cap g cb w0 hC eg hn f a m b w hX hR hN (by omega) c2 hbn h1 hl
      · exact sym_more s N B o n cap g cb w0 hC eg hn f a m b w (fun f a' m' b' w hd' => ih f a' m' b' w (by omega)) hX hR hN (by omega) (by omega) hbn h1 h2 hl

end Go.Proofs.YtobmpjmpffnoiaaDoor
