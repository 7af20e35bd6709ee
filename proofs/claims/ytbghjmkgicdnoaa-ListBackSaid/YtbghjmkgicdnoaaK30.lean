/-
  Texts of this claim, one behind the other: what each is about stands ahead of it.
-/
import Derived.Test.YtbghjmkgicdnoaaK29
import Derived.Test.YtbghjmkgicdnoaaK13
import Derived.Test.YtbghjmkgicdnoaaK12
/-
  Contracts of package list: what a stroke draws.
-/
namespace Go.Proofs.Ytbghjmkgicdnoaa
open Go.RowKit

theorem bk_alloc2 {W : World} {b : Nat} {vs : Array Value} {t : TypeId} (h : Bk W b vs t) (o : Obj) : Bk (W.alloc o) b vs t := h.below ((Below.refl _ _).alloc (Nat.le_refl _) o)
theorem two_new (W : World) (n : Nat) (hn : W.heap.size = n) (a b : Array Value) (t u : TypeId) : Below W.heap.size W ((W.alloc (.cells a t)).alloc (.cells b u)).drew ∧ Bk ((W.alloc (.cells a t)).alloc (.cells b u)).drew n a t ∧ Bk ((W.alloc (.cells a t)).alloc (.cells b u)).drew (n + 1) b u := by
  subst hn
  have q := Bk.new (W.alloc (.cells a t)) b u
  rw [World.size_alloc] at q
  exact ⟨(((Below.refl _ W).alloc (Nat.le_refl _) _).alloc (by simp) _).drew, bk_alloc2 (Bk.new W a t) _, q⟩

set_option maxRecDepth 20000 in
set_option maxHeartbeats 8000000 in
theorem border_any (f r : Rc) (w : World) (hf : zMa f = true) (hr : zMa r = true) :
    Calls Try.prog 81 #[.agg #[.int .i64 f.x, .int .i64 f.y, .int .i64 f.w, .int .i64 f.h], .agg #[.int .i64 r.x, .int .i64 r.y, .int .i64 r.w, .int .i64 r.h]] w fun e w' => AnsP w (brdL f r) e w' := by
  obtain ⟨f1, f2, f3, f4, f5, f6, f7, f8⟩ := may_bd hf
  obtain ⟨g1, g2, g3, g4, -⟩ := may_bd hr
  have HME : Hid (∀ (a b c d : Int) W, -100000 ≤ a → a ≤ 100000 → -100000 ≤ b → b ≤ 100000 → Calls Try.prog 56 #[.agg #[.int .i64 r.x, .int .i64 r.y, .int .i64 r.w, .int .i64 r.h], .agg #[.int .i64 a, .int .i64 b, .int .i64 c, .int .i64 d]] W fun e w' => e = .returned (.agg #[.int .i64 (zMe r ⟨a, b, c, d⟩).x, .int .i64 (zMe r ⟨a, b, c, d⟩).y, .int .i64 (zMe r ⟨a, b, c, d⟩).w, .int .i64 (zMe r ⟨a, b, c, d⟩).h]) ∧ Below W.heap.size W w') := fun a b c d W h1 h2 h3 h4 => meet_any _ _ _ _ _ _ _ _ W (i64_near ⟨g1, g2⟩) (i64_near ⟨g3, g4⟩) (by unfold I64; omega) (by unfold I64; omega)
  obtain ⟨xr, hxr⟩ : ∃ xr, f.x + f.w - 1 = xr := ⟨_, rfl⟩
  obtain ⟨yb, hyb⟩ : ∃ yb, f.y + f.h - 1 = yb := ⟨_, rfl⟩
  have e : brdL f r = [zMe r ⟨f.x, f.y, f.w, 1⟩, zMe r ⟨f.x, f.y, 1, f.h⟩, zMe r ⟨xr, f.y, 1, f.h⟩, zMe r ⟨f.x, yb, f.w, 1⟩] := by rw [← hxr, ← hyb]; rfl
  rw [e]
  have x1 : -100000 ≤ xr := by omega
  have x2 : xr ≤ 100000 := by omega
  have y1 : -100000 ≤ yb := by omega
  have y2 : yb ≤ 100000 := by omega
  clear e
  clear hf hr g1 g2 g3 g4
  go_enter Try.func81, Try.ntmps81
  go_upto_region 1 with fail
  go_cut [5, 6] (fun s5 s6 wx => ∃ b5 b6, s5 = .pointer (some ⟨b5, 0, none⟩) ∧ s6 = .pointer (some ⟨b6, 0, none⟩) ∧ Hid (Bk wx w.heap.size #[.int .i64 f.x, .int .i64 f.y, .int .i64 f.w, .int .i64 f.h] 27 ∧ Bk wx (w.heap.size + 1) #[.int .i64 r.x, .int .i64 r.y, .int .i64 r.w, .int .i64 r.h] 27 ∧ Bk wx b5 #[.int .i64 f.w, .int .i64 1] 25 ∧ Bk wx b6 #[.int .i64 1, .int .i64 f.h] 25 ∧ Below w.heap.size w wx))
  case first =>
    have K0 := Bk.new w #[.int .i64 f.x, .int .i64 f.y, .int .i64 f.w, .int .i64 f.h] 27
    have K1 := Bk.new (w.alloc (.cells #[.int .i64 f.x, .int .i64 f.y, .int .i64 f.w, .int .i64 f.h] 27)) #[.int .i64 r.x, .int .i64 r.y, .int .i64 r.w, .int .i64 r.h] 27
    have L1 : Below w.heap.size w ((w.alloc (.cells #[.int .i64 f.x, .int .i64 f.y, .int .i64 f.w, .int .i64 f.h] 27)).alloc (.cells #[.int .i64 r.x, .int .i64 r.y, .int .i64 r.w, .int .i64 r.h] 27)) := ((Below.refl _ w).alloc (Nat.le_refl _) _).alloc (by simp) _
    rw [World.size_alloc] at K1
    have HK : Hid (∀ W, Below ((w.alloc (.cells #[.int .i64 f.x, .int .i64 f.y, .int .i64 f.w, .int .i64 f.h] 27)).alloc (.cells #[.int .i64 r.x, .int .i64 r.y, .int .i64 r.w, .int .i64 r.h] 27)).heap.size ((w.alloc (.cells #[.int .i64 f.x, .int .i64 f.y, .int .i64 f.w, .int .i64 f.h] 27)).alloc (.cells #[.int .i64 r.x, .int .i64 r.y, .int .i64 r.w, .int .i64 r.h] 27)) W → Bk W w.heap.size #[.int .i64 f.x, .int .i64 f.y, .int .i64 f.w, .int .i64 f.h] 27 ∧ Bk W (w.heap.size + 1) #[.int .i64 r.x, .int .i64 r.y, .int .i64 r.w, .int .i64 r.h] 27 ∧ Below w.heap.size w W) := fun W h => ⟨(bk_alloc2 K0 _).below h, K1.below h, L1.trans (h.mono L1.size)⟩
    have HS : Hid (∀ (W : World) (a b : Array Value) (t u : TypeId), W.heap.size = w.heap.size + 1 + 1 → Below W.heap.size W ((W.alloc (.cells a t)).alloc (.cells b u)).drew ∧ Bk ((W.alloc (.cells a t)).alloc (.cells b u)).drew (w.heap.size + 1 + 1) a t ∧ Bk ((W.alloc (.cells a t)).alloc (.cells b u)).drew (w.heap.size + 1 + 1 + 1) b u) := fun W a b t u h => two_new W _ h a b t u
    clear K0 K1 L1
    go_region
    all_goals
      go_wp2_with fail
      go_meet
      refine ⟨_, _, rfl, rfl, ?_⟩
      obtain ⟨t1, t2, t3⟩ := HK.out _ (HS.out _ _ _ _ _ (by simp)).1
      refine ⟨t1, t2, ?_, ?_, t3⟩
      all_goals
        first
          | exact (HS.out _ _ _ _ _ (by simp)).2.1
          | exact (HS.out _ _ _ _ _ (by simp)).2.2
  case rest =>
    obtain ⟨b5, b6, rfl, rfl, H1⟩ := hcut
    generalize wc = w1 at *
    obtain ⟨c0, c1, c2, c3⟩ := H1.out.1.at4
    obtain ⟨b0, hb0⟩ : ∃ b0, b0 = w.heap.size := ⟨_, rfl⟩
    obtain ⟨b1, hb1⟩ : ∃ b1, b1 = w.heap.size + 1 := ⟨_, rfl⟩
    have HBE : Hid (b0 = w.heap.size ∧ b1 = w.heap.size + 1) := ⟨hb0, hb1⟩
    have l0 := H1.out.1.lt
    rw [← hb0] at c0 c1 c2 c3 l0
    rw [← hb1, ← hb0]
    have H2 : Hid (Bk w1 b0 #[.int .i64 f.x, .int .i64 f.y, .int .i64 f.w, .int .i64 f.h] 27 ∧ Bk w1 b1 #[.int .i64 r.x, .int .i64 r.y, .int .i64 r.w, .int .i64 r.h] 27 ∧ Bk w1 b5 #[.int .i64 f.w, .int .i64 1] 25 ∧ Bk w1 b6 #[.int .i64 1, .int .i64 f.h] 25 ∧ Below w.heap.size w w1) := by rw [hb0, hb1]; exact H1
    clear hb0 hb1 H1
    have HS : Hid (∀ (a b : Array Value) (t u : TypeId), Below w1.heap.size w1 ((w1.alloc (.cells a t)).alloc (.cells b u)) ∧ Bk ((w1.alloc (.cells a t)).alloc (.cells b u)) w1.heap.size a t ∧ Bk ((w1.alloc (.cells a t)).alloc (.cells b u)) (w1.heap.size + 1) b u) := fun a b t u => by
      have q := Bk.new (w1.alloc (.cells a t)) b u
      rw [World.size_alloc] at q
      exact ⟨(((Below.refl _ w1).alloc (Nat.le_refl _) _).alloc (by simp) _), bk_alloc2 (Bk.new w1 a t) _, q⟩
    go_upto_region 4 with fail
    have H3 := HS.out #[.int .i64 xr, .int .i64 f.y] #[.int .i64 f.x, .int .i64 yb] 23 23
    have H4 : Hid (Bk ((w1.alloc (.cells #[.int .i64 xr, .int .i64 f.y] 23)).alloc (.cells #[.int .i64 f.x, .int .i64 yb] 23)) w1.heap.size #[.int .i64 xr, .int .i64 f.y] 23 ∧ Bk ((w1.alloc (.cells #[.int .i64 xr, .int .i64 f.y] 23)).alloc (.cells #[.int .i64 f.x, .int .i64 yb] 23)) (w1.heap.size + 1) #[.int .i64 f.x, .int .i64 yb] 23 ∧ Bk ((w1.alloc (.cells #[.int .i64 xr, .int .i64 f.y] 23)).alloc (.cells #[.int .i64 f.x, .int .i64 yb] 23)) b0 #[.int .i64 f.x, .int .i64 f.y, .int .i64 f.w, .int .i64 f.h] 27 ∧ Bk ((w1.alloc (.cells #[.int .i64 xr, .int .i64 f.y] 23)).alloc (.cells #[.int .i64 f.x, .int .i64 yb] 23)) b1 #[.int .i64 r.x, .int .i64 r.y, .int .i64 r.w, .int .i64 r.h] 27 ∧ Bk ((w1.alloc (.cells #[.int .i64 xr, .int .i64 f.y] 23)).alloc (.cells #[.int .i64 f.x, .int .i64 yb] 23)) b5 #[.int .i64 f.w, .int .i64 1] 25 ∧ Bk ((w1.alloc (.cells #[.int .i64 xr, .int .i64 f.y] 23)).alloc (.cells #[.int .i64 f.x, .int .i64 yb] 23)) b6 #[.int .i64 1, .int .i64 f.h] 25 ∧ Below w.heap.size w ((w1.alloc (.cells #[.int .i64 xr, .int .i64 f.y] 23)).alloc (.cells #[.int .i64 f.x, .int .i64 yb] 23))) := by
      obtain ⟨t1, t2, t3, t4, t5⟩ := H2.out
      exact ⟨H3.2.1, H3.2.2, t1.below H3.1, t2.below H3.1, t3.below H3.1, t4.below H3.1, t5.trans (H3.1.mono t5.size)⟩
    obtain ⟨b7, hb7⟩ : ∃ b7, b7 = w1.heap.size := ⟨_, rfl⟩
    obtain ⟨b8, hb8⟩ : ∃ b8, b8 = w1.heap.size + 1 := ⟨_, rfl⟩
    rw [← hb8, ← hb7] at H4
    rw [← hb8, ← hb7]
    generalize (w1.alloc (.cells #[.int .i64 xr, .int .i64 f.y] 23)).alloc (.cells #[.int .i64 f.x, .int .i64 yb] 23) = w2 at *
    clear H2 H3 HS hb7 hb8 c0 c1 c2 c3 l0 HBE
    clear hxr hyb
    refine R4.wp_region_lit 22 1 1 (fun _ b => .slice (some ⟨b, 0, none⟩) 4 4) (fun _ => .cells #[.int .i64 (zMe r ⟨f.x, f.y, f.w, 1⟩).x, .int .i64 (zMe r ⟨f.x, f.y, f.w, 1⟩).y, .int .i64 (zMe r ⟨f.x, f.y, f.w, 1⟩).w, .int .i64 (zMe r ⟨f.x, f.y, f.w, 1⟩).h, .int .i64 (zMe r ⟨f.x, f.y, 1, f.h⟩).x, .int .i64 (zMe r ⟨f.x, f.y, 1, f.h⟩).y, .int .i64 (zMe r ⟨f.x, f.y, 1, f.h⟩).w, .int .i64 (zMe r ⟨f.x, f.y, 1, f.h⟩).h, .int .i64 (zMe r ⟨xr, f.y, 1, f.h⟩).x, .int .i64 (zMe r ⟨xr, f.y, 1, f.h⟩).y, .int .i64 (zMe r ⟨xr, f.y, 1, f.h⟩).w, .int .i64 (zMe r ⟨xr, f.y, 1, f.h⟩).h, .int .i64 (zMe r ⟨f.x, yb, f.w, 1⟩).x, .int .i64 (zMe r ⟨f.x, yb, f.w, 1⟩).y, .int .i64 (zMe r ⟨f.x, yb, f.w, 1⟩).w, .int .i64 (zMe r ⟨f.x, yb, f.w, 1⟩).h] 27) [63] (by kernel_rfl) (by decide +kernel) rfl ?_ rfl ?_
    · intro k hk
      have hc : k = 0 := by omega
      subst hc; rfl
    apply Exists.intro
    refine ⟨fun bs ne => ?_, ?_, ?_⟩
    · have a7 := fun tt : Gb w2 bs => (H4.out.1.below tt.below).at2.1
      have a7' := fun tt : Gb w2 bs => (H4.out.1.below tt.below).at2.2
      have a8 := fun tt : Gb w2 bs => (H4.out.2.1.below tt.below).at2.1
      have a8' := fun tt : Gb w2 bs => (H4.out.2.1.below tt.below).at2.2
      have a0 := fun tt : Gb w2 bs => (H4.out.2.2.1.below tt.below).at4.1
      have a0' := fun tt : Gb w2 bs => (H4.out.2.2.1.below tt.below).at4.2.1
      have a1 := fun tt : Gb w2 bs => (H4.out.2.2.2.1.below tt.below).at4.1
      have a1' := fun tt : Gb w2 bs => (H4.out.2.2.2.1.below tt.below).at4.2.1
      have a1a := fun tt : Gb w2 bs => (H4.out.2.2.2.1.below tt.below).at4.2.2.1
      have a1b := fun tt : Gb w2 bs => (H4.out.2.2.2.1.below tt.below).at4.2.2.2
      have a5 := fun tt : Gb w2 bs => (H4.out.2.2.2.2.1.below tt.below).at2.1
      have a5' := fun tt : Gb w2 bs => (H4.out.2.2.2.2.1.below tt.below).at2.2
      have a6 := fun tt : Gb w2 bs => (H4.out.2.2.2.2.2.1.below tt.below).at2.1
      have a6' := fun tt : Gb w2 bs => (H4.out.2.2.2.2.2.1.below tt.below).at2.2
      simp only [List.take_succ_cons, List.take_zero]
      repeat (go_big_quiet_step (first
        | (go_at_call 56; exact gb_call (HME.out _ _ _ _ _ (by omega) (by omega) (by omega) (by omega)))))
      exact wpQuiet_nil rfl
    · intro i h1 h2
      have hc : i = 22 := by omega
      subst hc
      exact ⟨_, rfl, rfl, fun _ => by kernel_rfl⟩
    intro bl wx hbl hlo _
    obtain ⟨q1, q2⟩ := hlo 22 (by omega) (by omega)
    simp only [R4.layL]
    generalize bl 22 = g0 at *
    clear hlo
    have HH : Hid (OwR w.heap.size wx (.slice (some ⟨g0, 0, none⟩) 4 4) [zMe r ⟨f.x, f.y, f.w, 1⟩, zMe r ⟨f.x, f.y, 1, f.h⟩, zMe r ⟨xr, f.y, 1, f.h⟩, zMe r ⟨f.x, yb, f.w, 1⟩] ∧ Below w.heap.size w wx) := by
      refine ⟨⟨rfl, .inr ⟨g0, 4, _, rfl, Nat.le_trans H4.out.2.2.2.2.2.2.size q1, q2, Nat.le_refl _, by unfold maxLen; omega, rfl, rfl⟩⟩, H4.out.2.2.2.2.2.2.trans (hbl.mono H4.out.2.2.2.2.2.2.size)⟩
    clear hbl q1 q2
    refine wpAny_one 23 (by kernel_rfl) rfl ?_
    intro K hK
    go_simp
    refine hK _ _ ?_
    clear hK K
    refine wpAny_done (by kernel_rfl) ?_ _
    go_wp2
    go_ret
    exact ⟨_, rfl, HH.out.1, HH.out.2⟩

end Go.Proofs.Ytbghjmkgicdnoaa

/-
  Contracts of package list: what a stroke draws of the rectangle in which it shows.
-/
namespace Go.Proofs.Ytbghjmkgicdnoaa
open Go.RowKit

set_option maxRecDepth 20000 in
set_option maxHeartbeats 4000000 in
theorem drawn_1 (q : Rc) (c b : Co) (t : ByteArray) (n : Int) (r : Rc) (w : World) :
    Calls Try.prog 63 #[(Value.agg #[.int .u8 (⟨1, q, c, b, t, n⟩ : St).k, .int .i64 (⟨1, q, c, b, t, n⟩ : St).r.x, .int .i64 (⟨1, q, c, b, t, n⟩ : St).r.y, .int .i64 (⟨1, q, c, b, t, n⟩ : St).r.w, .int .i64 (⟨1, q, c, b, t, n⟩ : St).r.h, .int .u8 (⟨1, q, c, b, t, n⟩ : St).c.r, .int .u8 (⟨1, q, c, b, t, n⟩ : St).c.g, .int .u8 (⟨1, q, c, b, t, n⟩ : St).c.b, .int .u8 (⟨1, q, c, b, t, n⟩ : St).c.a, .int .u8 (⟨1, q, c, b, t, n⟩ : St).b.r, .int .u8 (⟨1, q, c, b, t, n⟩ : St).b.g, .int .u8 (⟨1, q, c, b, t, n⟩ : St).b.b, .int .u8 (⟨1, q, c, b, t, n⟩ : St).b.a, .string (⟨1, q, c, b, t, n⟩ : St).t, .int .i64 (⟨1, q, c, b, t, n⟩ : St).n]), .agg #[.int .i64 r.x, .int .i64 r.y, .int .i64 r.w, .int .i64 r.h]] w fun e w' => AnsP w (if 0 < c.a then [r] else []) e w' := by
  have HL : Hid (∀ c d, Below w.heap.size w ((w.alloc c).alloc d)) := fun c d => ((Below.refl _ w).alloc (Nat.le_refl _) _).alloc (by simp) _
  by_cases ha : 0 < c.a
  · rw [if_pos ha]
    have HF : Hid (OwR w.heap.size (((w.alloc (.cells (#[.int .u8 (⟨1, q, c, b, t, n⟩ : St).k, .int .i64 (⟨1, q, c, b, t, n⟩ : St).r.x, .int .i64 (⟨1, q, c, b, t, n⟩ : St).r.y, .int .i64 (⟨1, q, c, b, t, n⟩ : St).r.w, .int .i64 (⟨1, q, c, b, t, n⟩ : St).r.h, .int .u8 (⟨1, q, c, b, t, n⟩ : St).c.r, .int .u8 (⟨1, q, c, b, t, n⟩ : St).c.g, .int .u8 (⟨1, q, c, b, t, n⟩ : St).c.b, .int .u8 (⟨1, q, c, b, t, n⟩ : St).c.a, .int .u8 (⟨1, q, c, b, t, n⟩ : St).b.r, .int .u8 (⟨1, q, c, b, t, n⟩ : St).b.g, .int .u8 (⟨1, q, c, b, t, n⟩ : St).b.b, .int .u8 (⟨1, q, c, b, t, n⟩ : St).b.a, .string (⟨1, q, c, b, t, n⟩ : St).t, .int .i64 (⟨1, q, c, b, t, n⟩ : St).n]) 31)).alloc (.cells #[.int .i64 r.x, .int .i64 r.y, .int .i64 r.w, .int .i64 r.h] 27)).alloc (.cells #[.int .i64 r.x, .int .i64 r.y, .int .i64 r.w, .int .i64 r.h] 27)) (.slice (some ⟨w.heap.size + 1 + 1, 0, none⟩) 1 1) [r] ∧ Below w.heap.size w (((w.alloc (.cells (#[.int .u8 (⟨1, q, c, b, t, n⟩ : St).k, .int .i64 (⟨1, q, c, b, t, n⟩ : St).r.x, .int .i64 (⟨1, q, c, b, t, n⟩ : St).r.y, .int .i64 (⟨1, q, c, b, t, n⟩ : St).r.w, .int .i64 (⟨1, q, c, b, t, n⟩ : St).r.h, .int .u8 (⟨1, q, c, b, t, n⟩ : St).c.r, .int .u8 (⟨1, q, c, b, t, n⟩ : St).c.g, .int .u8 (⟨1, q, c, b, t, n⟩ : St).c.b, .int .u8 (⟨1, q, c, b, t, n⟩ : St).c.a, .int .u8 (⟨1, q, c, b, t, n⟩ : St).b.r, .int .u8 (⟨1, q, c, b, t, n⟩ : St).b.g, .int .u8 (⟨1, q, c, b, t, n⟩ : St).b.b, .int .u8 (⟨1, q, c, b, t, n⟩ : St).b.a, .string (⟨1, q, c, b, t, n⟩ : St).t, .int .i64 (⟨1, q, c, b, t, n⟩ : St).n]) 31)).alloc (.cells #[.int .i64 r.x, .int .i64 r.y, .int .i64 r.w, .int .i64 r.h] 27)).alloc (.cells #[.int .i64 r.x, .int .i64 r.y, .int .i64 r.w, .int .i64 r.h] 27))) := by
      have q3 := Bk.new ((w.alloc (.cells (#[.int .u8 (⟨1, q, c, b, t, n⟩ : St).k, .int .i64 (⟨1, q, c, b, t, n⟩ : St).r.x, .int .i64 (⟨1, q, c, b, t, n⟩ : St).r.y, .int .i64 (⟨1, q, c, b, t, n⟩ : St).r.w, .int .i64 (⟨1, q, c, b, t, n⟩ : St).r.h, .int .u8 (⟨1, q, c, b, t, n⟩ : St).c.r, .int .u8 (⟨1, q, c, b, t, n⟩ : St).c.g, .int .u8 (⟨1, q, c, b, t, n⟩ : St).c.b, .int .u8 (⟨1, q, c, b, t, n⟩ : St).c.a, .int .u8 (⟨1, q, c, b, t, n⟩ : St).b.r, .int .u8 (⟨1, q, c, b, t, n⟩ : St).b.g, .int .u8 (⟨1, q, c, b, t, n⟩ : St).b.b, .int .u8 (⟨1, q, c, b, t, n⟩ : St).b.a, .string (⟨1, q, c, b, t, n⟩ : St).t, .int .i64 (⟨1, q, c, b, t, n⟩ : St).n]) 31)).alloc (.cells #[.int .i64 r.x, .int .i64 r.y, .int .i64 r.w, .int .i64 r.h] 27)) #[.int .i64 r.x, .int .i64 r.y, .int .i64 r.w, .int .i64 r.h] 27
      rw [World.size_alloc, World.size_alloc] at q3
      exact ⟨own_one q3 (by omega), (HL.out _ _).alloc (by simp; omega) _⟩
    go_enter Try.func63, Try.ntmps63
    go_wp2
    go_ret
    exact ⟨_, rfl, HF.out⟩
  · rw [if_neg ha]
    go_enter Try.func63, Try.ntmps63
    go_wp2
    go_ret
    exact ⟨_, rfl, OwR.nil _ _, HL.out _ _⟩

set_option maxRecDepth 20000 in
set_option maxHeartbeats 4000000 in
theorem drawn_2 (q : Rc) (c b : Co) (t : ByteArray) (n : Int) (r : Rc) (w : World) (hq : zMa q = true) (hr : zMa r = true) :
    Calls Try.prog 63 #[(Value.agg #[.int .u8 (⟨2, q, c, b, t, n⟩ : St).k, .int .i64 (⟨2, q, c, b, t, n⟩ : St).r.x, .int .i64 (⟨2, q, c, b, t, n⟩ : St).r.y, .int .i64 (⟨2, q, c, b, t, n⟩ : St).r.w, .int .i64 (⟨2, q, c, b, t, n⟩ : St).r.h, .int .u8 (⟨2, q, c, b, t, n⟩ : St).c.r, .int .u8 (⟨2, q, c, b, t, n⟩ : St).c.g, .int .u8 (⟨2, q, c, b, t, n⟩ : St).c.b, .int .u8 (⟨2, q, c, b, t, n⟩ : St).c.a, .int .u8 (⟨2, q, c, b, t, n⟩ : St).b.r, .int .u8 (⟨2, q, c, b, t, n⟩ : St).b.g, .int .u8 (⟨2, q, c, b, t, n⟩ : St).b.b, .int .u8 (⟨2, q, c, b, t, n⟩ : St).b.a, .string (⟨2, q, c, b, t, n⟩ : St).t, .int .i64 (⟨2, q, c, b, t, n⟩ : St).n]), .agg #[.int .i64 r.x, .int .i64 r.y, .int .i64 r.w, .int .i64 r.h]] w fun e w' => AnsP w (if 0 < c.a then brdL q r else []) e w' := by
  have HL : Hid (∀ c d, Below w.heap.size w ((w.alloc c).alloc d)) := fun c d => ((Below.refl _ w).alloc (Nat.le_refl _) _).alloc (by simp) _
  by_cases ha : 0 < c.a
  · rw [if_pos ha]
    have HB : Hid (∀ W, Calls Try.prog 81 #[.agg #[.int .i64 q.x, .int .i64 q.y, .int .i64 q.w, .int .i64 q.h], .agg #[.int .i64 r.x, .int .i64 r.y, .int .i64 r.w, .int .i64 r.h]] W fun e w' => AnsP W (brdL q r) e w') := fun W => border_any q r W hq hr
    clear hq hr
    generalize brdL q r = BL at *
    go_enter Try.func63, Try.ntmps63
    go_wp2_with fail
    refine (HB.out _).mono ?_
    rintro e w1 ⟨u, rfl, ho, hb⟩
    have HF : Hid (OwR w.heap.size w1 u BL ∧ Below w.heap.size w w1) := ⟨ho.weaken (HL.out _ _).size, (HL.out _ _).trans (hb.mono (HL.out _ _).size)⟩
    clear ho hb
    go_wp2
    go_ret
    exact ⟨_, rfl, HF.out⟩
  · rw [if_neg ha]
    go_enter Try.func63, Try.ntmps63
    go_wp2
    go_ret
    exact ⟨_, rfl, OwR.nil _ _, HL.out _ _⟩

set_option maxRecDepth 20000 in
set_option maxHeartbeats 4000000 in
theorem drawn_3 (q : Rc) (c b : Co) (t : ByteArray) (n : Int) (r : Rc) (w : World) :
    Calls Try.prog 63 #[(Value.agg #[.int .u8 (⟨3, q, c, b, t, n⟩ : St).k, .int .i64 (⟨3, q, c, b, t, n⟩ : St).r.x, .int .i64 (⟨3, q, c, b, t, n⟩ : St).r.y, .int .i64 (⟨3, q, c, b, t, n⟩ : St).r.w, .int .i64 (⟨3, q, c, b, t, n⟩ : St).r.h, .int .u8 (⟨3, q, c, b, t, n⟩ : St).c.r, .int .u8 (⟨3, q, c, b, t, n⟩ : St).c.g, .int .u8 (⟨3, q, c, b, t, n⟩ : St).c.b, .int .u8 (⟨3, q, c, b, t, n⟩ : St).c.a, .int .u8 (⟨3, q, c, b, t, n⟩ : St).b.r, .int .u8 (⟨3, q, c, b, t, n⟩ : St).b.g, .int .u8 (⟨3, q, c, b, t, n⟩ : St).b.b, .int .u8 (⟨3, q, c, b, t, n⟩ : St).b.a, .string (⟨3, q, c, b, t, n⟩ : St).t, .int .i64 (⟨3, q, c, b, t, n⟩ : St).n]), .agg #[.int .i64 r.x, .int .i64 r.y, .int .i64 r.w, .int .i64 r.h]] w fun e w' => AnsP w (if t.size ≠ 0 then [r] else []) e w' := by
  have HL : Hid (∀ c d, Below w.heap.size w ((w.alloc c).alloc d)) := fun c d => ((Below.refl _ w).alloc (Nat.le_refl _) _).alloc (by simp) _
  by_cases hz : t.size = 0
  · rw [if_neg (by simp [hz])]
    have hz2 := ztx_nil hz
    subst hz2
    clear hz
    go_enter Try.func63, Try.ntmps63
    go_wp2
    go_ret
    exact ⟨_, rfl, OwR.nil _ _, HL.out _ _⟩
  · rw [if_pos hz]
    obtain ⟨z1, z2⟩ := ztx_ne hz
    have HF : Hid (OwR w.heap.size (((w.alloc (.cells (#[.int .u8 (⟨3, q, c, b, t, n⟩ : St).k, .int .i64 (⟨3, q, c, b, t, n⟩ : St).r.x, .int .i64 (⟨3, q, c, b, t, n⟩ : St).r.y, .int .i64 (⟨3, q, c, b, t, n⟩ : St).r.w, .int .i64 (⟨3, q, c, b, t, n⟩ : St).r.h, .int .u8 (⟨3, q, c, b, t, n⟩ : St).c.r, .int .u8 (⟨3, q, c, b, t, n⟩ : St).c.g, .int .u8 (⟨3, q, c, b, t, n⟩ : St).c.b, .int .u8 (⟨3, q, c, b, t, n⟩ : St).c.a, .int .u8 (⟨3, q, c, b, t, n⟩ : St).b.r, .int .u8 (⟨3, q, c, b, t, n⟩ : St).b.g, .int .u8 (⟨3, q, c, b, t, n⟩ : St).b.b, .int .u8 (⟨3, q, c, b, t, n⟩ : St).b.a, .string (⟨3, q, c, b, t, n⟩ : St).t, .int .i64 (⟨3, q, c, b, t, n⟩ : St).n]) 31)).alloc (.cells #[.int .i64 r.x, .int .i64 r.y, .int .i64 r.w, .int .i64 r.h] 27)).alloc (.cells #[.int .i64 r.x, .int .i64 r.y, .int .i64 r.w, .int .i64 r.h] 27)) (.slice (some ⟨w.heap.size + 1 + 1, 0, none⟩) 1 1) [r] ∧ Below w.heap.size w (((w.alloc (.cells (#[.int .u8 (⟨3, q, c, b, t, n⟩ : St).k, .int .i64 (⟨3, q, c, b, t, n⟩ : St).r.x, .int .i64 (⟨3, q, c, b, t, n⟩ : St).r.y, .int .i64 (⟨3, q, c, b, t, n⟩ : St).r.w, .int .i64 (⟨3, q, c, b, t, n⟩ : St).r.h, .int .u8 (⟨3, q, c, b, t, n⟩ : St).c.r, .int .u8 (⟨3, q, c, b, t, n⟩ : St).c.g, .int .u8 (⟨3, q, c, b, t, n⟩ : St).c.b, .int .u8 (⟨3, q, c, b, t, n⟩ : St).c.a, .int .u8 (⟨3, q, c, b, t, n⟩ : St).b.r, .int .u8 (⟨3, q, c, b, t, n⟩ : St).b.g, .int .u8 (⟨3, q, c, b, t, n⟩ : St).b.b, .int .u8 (⟨3, q, c, b, t, n⟩ : St).b.a, .string (⟨3, q, c, b, t, n⟩ : St).t, .int .i64 (⟨3, q, c, b, t, n⟩ : St).n]) 31)).alloc (.cells #[.int .i64 r.x, .int .i64 r.y, .int .i64 r.w, .int .i64 r.h] 27)).alloc (.cells #[.int .i64 r.x, .int .i64 r.y, .int .i64 r.w, .int .i64 r.h] 27))) := by
      have q3 := Bk.new ((w.alloc (.cells (#[.int .u8 (⟨3, q, c, b, t, n⟩ : St).k, .int .i64 (⟨3, q, c, b, t, n⟩ : St).r.x, .int .i64 (⟨3, q, c, b, t, n⟩ : St).r.y, .int .i64 (⟨3, q, c, b, t, n⟩ : St).r.w, .int .i64 (⟨3, q, c, b, t, n⟩ : St).r.h, .int .u8 (⟨3, q, c, b, t, n⟩ : St).c.r, .int .u8 (⟨3, q, c, b, t, n⟩ : St).c.g, .int .u8 (⟨3, q, c, b, t, n⟩ : St).c.b, .int .u8 (⟨3, q, c, b, t, n⟩ : St).c.a, .int .u8 (⟨3, q, c, b, t, n⟩ : St).b.r, .int .u8 (⟨3, q, c, b, t, n⟩ : St).b.g, .int .u8 (⟨3, q, c, b, t, n⟩ : St).b.b, .int .u8 (⟨3, q, c, b, t, n⟩ : St).b.a, .string (⟨3, q, c, b, t, n⟩ : St).t, .int .i64 (⟨3, q, c, b, t, n⟩ : St).n]) 31)).alloc (.cells #[.int .i64 r.x, .int .i64 r.y, .int .i64 r.w, .int .i64 r.h] 27)) #[.int .i64 r.x, .int .i64 r.y, .int .i64 r.w, .int .i64 r.h] 27
      rw [World.size_alloc, World.size_alloc] at q3
      exact ⟨own_one q3 (by omega), (HL.out _ _).alloc (by simp; omega) _⟩
    go_enter Try.func63, Try.ntmps63
    go_wp2
    go_ret
    exact ⟨_, rfl, HF.out⟩

set_option maxRecDepth 20000 in
set_option maxHeartbeats 4000000 in
theorem drawn_4 (q : Rc) (c b : Co) (t : ByteArray) (n : Int) (r : Rc) (w : World) :
    Calls Try.prog 63 #[(Value.agg #[.int .u8 (⟨4, q, c, b, t, n⟩ : St).k, .int .i64 (⟨4, q, c, b, t, n⟩ : St).r.x, .int .i64 (⟨4, q, c, b, t, n⟩ : St).r.y, .int .i64 (⟨4, q, c, b, t, n⟩ : St).r.w, .int .i64 (⟨4, q, c, b, t, n⟩ : St).r.h, .int .u8 (⟨4, q, c, b, t, n⟩ : St).c.r, .int .u8 (⟨4, q, c, b, t, n⟩ : St).c.g, .int .u8 (⟨4, q, c, b, t, n⟩ : St).c.b, .int .u8 (⟨4, q, c, b, t, n⟩ : St).c.a, .int .u8 (⟨4, q, c, b, t, n⟩ : St).b.r, .int .u8 (⟨4, q, c, b, t, n⟩ : St).b.g, .int .u8 (⟨4, q, c, b, t, n⟩ : St).b.b, .int .u8 (⟨4, q, c, b, t, n⟩ : St).b.a, .string (⟨4, q, c, b, t, n⟩ : St).t, .int .i64 (⟨4, q, c, b, t, n⟩ : St).n]), .agg #[.int .i64 r.x, .int .i64 r.y, .int .i64 r.w, .int .i64 r.h]] w fun e w' => AnsP w [] e w' := by
  have HL : Hid (∀ c d, Below w.heap.size w ((w.alloc c).alloc d)) := fun c d => ((Below.refl _ w).alloc (Nat.le_refl _) _).alloc (by simp) _
  go_enter Try.func63, Try.ntmps63
  go_wp2
  go_ret
  exact ⟨_, rfl, OwR.nil _ _, HL.out _ _⟩

set_option maxRecDepth 20000 in
set_option maxHeartbeats 4000000 in
theorem drawn_5 (q : Rc) (c b : Co) (t : ByteArray) (n : Int) (r : Rc) (w : World) :
    Calls Try.prog 63 #[(Value.agg #[.int .u8 (⟨5, q, c, b, t, n⟩ : St).k, .int .i64 (⟨5, q, c, b, t, n⟩ : St).r.x, .int .i64 (⟨5, q, c, b, t, n⟩ : St).r.y, .int .i64 (⟨5, q, c, b, t, n⟩ : St).r.w, .int .i64 (⟨5, q, c, b, t, n⟩ : St).r.h, .int .u8 (⟨5, q, c, b, t, n⟩ : St).c.r, .int .u8 (⟨5, q, c, b, t, n⟩ : St).c.g, .int .u8 (⟨5, q, c, b, t, n⟩ : St).c.b, .int .u8 (⟨5, q, c, b, t, n⟩ : St).c.a, .int .u8 (⟨5, q, c, b, t, n⟩ : St).b.r, .int .u8 (⟨5, q, c, b, t, n⟩ : St).b.g, .int .u8 (⟨5, q, c, b, t, n⟩ : St).b.b, .int .u8 (⟨5, q, c, b, t, n⟩ : St).b.a, .string (⟨5, q, c, b, t, n⟩ : St).t, .int .i64 (⟨5, q, c, b, t, n⟩ : St).n]), .agg #[.int .i64 r.x, .int .i64 r.y, .int .i64 r.w, .int .i64 r.h]] w fun e w' => AnsP w [] e w' := by
  have HL : Hid (∀ c d, Below w.heap.size w ((w.alloc c).alloc d)) := fun c d => ((Below.refl _ w).alloc (Nat.le_refl _) _).alloc (by simp) _
  go_enter Try.func63, Try.ntmps63
  go_wp2
  go_ret
  exact ⟨_, rfl, OwR.nil _ _, HL.out _ _⟩

theorem drawn_any (s : St) (r : Rc) (w : World) (hk : Kd s) (hs : zMa s.r = true) (hr : zMa r = true) :
    Calls Try.prog 63 #[(Value.agg #[.int .u8 s.k, .int .i64 s.r.x, .int .i64 s.r.y, .int .i64 s.r.w, .int .i64 s.r.h, .int .u8 s.c.r, .int .u8 s.c.g, .int .u8 s.c.b, .int .u8 s.c.a, .int .u8 s.b.r, .int .u8 s.b.g, .int .u8 s.b.b, .int .u8 s.b.a, .string s.t, .int .i64 s.n]), .agg #[.int .i64 r.x, .int .i64 r.y, .int .i64 r.w, .int .i64 r.h]] w fun e w' => AnsP w (dwnL s r) e w' := by
  obtain ⟨k, q, c, b, t, n⟩ := s
  unfold Kd at hk
  unfold dwnL
  dsimp only at hk hs ⊢
  rcases hk with rfl | rfl | rfl | rfl | rfl
  · have := drawn_1 q c b t n r w
    simpa using this
  · have := drawn_2 q c b t n r w hs hr
    simpa using this
  · have := drawn_3 q c b t n r w
    simpa using this
  · simpa using drawn_4 q c b t n r w
  · simpa using drawn_5 q c b t n r w

end Go.Proofs.Ytbghjmkgicdnoaa

/-
  slices.Concat of rows of rectangles.
-/
namespace Go.Proofs.Ytbghjmkgicdnoaa
open Go.RowKit

/-- A list that lies somewhere laid behind a row of one's own. -/
theorem app_moreR {P : Program} {w : World} {ops : Array Oper} {rest : List Oper} {o : Oper} {a : Act} {Q : Exit → Act → World → Prop} (hgd : o.guard = none) (s x : Operand)
    (ho : o.op = .call { callee := .builtin .append, args := #[s, x], argTypes := #[39, 39] })
    (i : TypeInfo) (ht : P.underlying 39 = some (.slice 27)) (hi : P.info? 27 = some i) (hz : i.zero = some (.agg #[.int .i64 0, .int .i64 0, .int .i64 0, .int .i64 0]))
    (hsize : i.size = 4) (hby : i.bytes = 32) (lo : Nat) (u : Value) (qs : List Rc) (n : Nat) (hn0 : n = qs.length) (hs : a.eval s = u) (hown : w.ownsRow lo 27 4 u n (flat qs)) (hlo : lo ≤ w.heap.size) (rs : List Rc) (oa : Option Addr) (cap : Nat) (m : Nat) (hm : m = rs.length) (hx : a.eval x = .slice oa m cap) (hv : LsR w (.slice oa m cap) rs) (hn : NoNil (.slice oa m cap))
    (hl : n + m ≤ 100000) (h : ∀ v' w', Hid (OwR lo w' v' (qs ++ rs) ∧ w.grownBy w' u.ownBlock) → wpList P ops Q rest (a.put o.dst v') w') : wpList P ops Q (o :: rest) a w := by
  subst hm
  cases oa with
  | none =>
    have h0 : rs = [] := by
      obtain ⟨oa, cap', e, _, hg⟩ := hv
      cases rs with
      | nil => rfl
      | cons r t =>
        obtain ⟨g, o, e2, _⟩ := hg (by simp)
        injection e with e1 _ _
        rw [e2] at e1
        cases e1
    subst h0
    obtain rfl : cap = 0 := hn cap rfl
    refine app_none hgd s x _ ho lo 27 i 4 ht hi u n (flat qs) hs hown hx ?_
    rintro _ _ rfl rfl
    refine h _ _ ⟨?_, World.grownBy.refl _ _⟩
    rw [List.append_nil]
    unfold OwR
    rw [← hn0]
    exact hown
  | some ad =>
    refine wpList_append_own _ hgd s x _ ho lo 27 i (.agg #[.int .i64 0, .int .i64 0, .int .i64 0, .int .i64 0]) 4 32 ht hi hz hsize hby rfl (by decide) u n (flat qs) hs hown ad rs.length cap (flat rs) hx (flat_len rs) ?_ (flat_ones rs) (by unfold maxLen; omega) (by omega) hlo ?_
    · intro j u' hj
      obtain ⟨oa, cap', e, _, hg⟩ := hv
      have hp : 0 < rs.length := by
        cases rs with
        | nil => simp [flat] at hj
        | cons r t => simp
      obtain ⟨g, o, e2, _, hat⟩ := hg hp
      injection e with e1 _ _
      rw [e2] at e1
      injection e1 with e1
      subst e1
      exact lsr_src hat j u' hj
    · intro v' w' h2 h3 _
      refine h v' w' ⟨?_, h3⟩
      unfold OwR
      rw [List.length_append, ← hn0, flat_app]
      exact h2

/-- A slice of slices, each of which holds api.Rect. -/
def RowsR (w : World) (v : Value) (Ls : List (List Rc)) : Prop := ∃ oa cap, v = .slice oa Ls.length cap ∧ Ls.length ≤ cap ∧ (0 < Ls.length → ∃ hb ho, oa = some ⟨hb, ho, none⟩ ∧ hb < w.heap.size ∧ ∀ k (h : k < Ls.length), ∃ u, w.cell? ⟨hb, ho + k, none⟩ = some u ∧ LsR w u Ls[k] ∧ NoNil u)
theorem RowsR.below {w w' : World} {v : Value} {Ls : List (List Rc)} (h : RowsR w v Ls) (hb : Below w.heap.size w w') : RowsR w' v Ls := by
  obtain ⟨oa, cap, e, hc, hg⟩ := h
  refine ⟨oa, cap, e, hc, fun hp => ?_⟩
  obtain ⟨g, o, e1, g1, g2⟩ := hg hp
  refine ⟨g, o, e1, Nat.lt_of_lt_of_le g1 hb.size, fun i hi => ?_⟩
  obtain ⟨u, c, hl, hn⟩ := g2 i hi
  exact ⟨u, (hb.cell (p := ⟨g, o + i, none⟩) g1).trans c, hl.below hb, hn⟩

set_option maxRecDepth 10000 in
set_option maxHeartbeats 4000000 in
theorem concR_any (Ls : List (List Rc)) (v : Value) (w : World) (hv : RowsR w v Ls) (hn : Ls.length ≤ 20000) (ht : Ls.flatten.length ≤ 100000) :
    Calls Try.prog 37 #[v] w fun e w' => ∃ u, e = .returned u ∧ OwR w.heap.size w' u Ls.flatten ∧ Below w.heap.size w w' := by
  obtain ⟨i0, hi, hz0, hz1, hz2⟩ := info_parts info_rect
  obtain ⟨oa, cap, rfl, hcap, hg⟩ := hv
  have HP : Hid (∀ k, k < Ls.length → ∃ (M : List Rc) (oM : Option Addr) (cM hb ho : Nat), oa = some ⟨hb, ho, none⟩ ∧ hb < w.heap.size ∧ w.cell? ⟨hb, ho + k, none⟩ = some (.slice oM M.length cM) ∧ LsR w (.slice oM M.length cM) M ∧ NoNil (.slice oM M.length cM) ∧ M.length ≤ 100000 ∧ (Ls.take (k + 1)).flatten = (Ls.take k).flatten ++ M ∧ (Ls.take k).flatten.length + M.length ≤ 100000) := by
    intro k hk
    obtain ⟨hb, ho, e, hlt, hat⟩ := hg (by omega)
    obtain ⟨u, hc, hl, hnn⟩ := hat k hk
    obtain ⟨oM, cM, rfl, hcM, hgM⟩ := id hl
    have e1 : (Ls.take (k + 1)).flatten = (Ls.take k).flatten ++ Ls[k] := by
      rw [← List.take_append_getElem hk, List.flatten_append]; simp
    have e2 : (Ls.take k).flatten.length + Ls[k].length ≤ 100000 := by
      rw [← List.length_append, ← e1]
      have : Ls.flatten = (Ls.take (k + 1)).flatten ++ (Ls.drop (k + 1)).flatten := by rw [← List.flatten_append, List.take_append_drop]
      rw [this, List.length_append] at ht
      omega
    exact ⟨Ls[k], oM, cM, hb, ho, e, hlt, hc, hl, hnn, by omega, e1, e2⟩
  have HEnd : Hid ((Ls.take Ls.length).flatten = Ls.flatten) := by unfold Hid; rw [List.take_length]
  have HGr : Hid (∀ n : Nat, n ≤ 1000000 → Calls Try.prog 61 #[.slice none 0 0, .int .i64 n] w fun e w' => ∃ u, e = .returned u ∧ w'.ownsRow w.heap.size 27 4 u 0 [] ∧ Below w.heap.size w w') := fun n h => grow_any n w h
  obtain ⟨N, hN⟩ : ∃ N, N = Ls.length := ⟨_, rfl⟩
  have HN : Hid (N = Ls.length) := hN
  rw [← hN] at hcap hn HP HEnd ⊢
  clear hg hN
  go_enter Try.func37, Try.ntmps37
  go_wp2_with fail
  go_loopw [3, 11] (fun s i wr => ∃ (k n : Nat), k ≤ N ∧ i = .int .i64 k ∧ s = .int .i64 n ∧ n ≤ 100000 ∧ Hid (n = ((Ls.take k).flatten).length) ∧ wr = w) (fun _ i _ => N - (intOf i).toNat)
  case atStart => exact ⟨0, 0, by omega, rfl, rfl, by omega, by unfold Hid; simp, rfl⟩
  case round =>
    obtain ⟨k, n, hk, rfl, rfl, hn1, HNn, rfl⟩ := hrel
    by_cases hlt : k < N
    · have ik : (k : Int) < N := by omega
      obtain ⟨M, oM, cM, hb, ho, rfl, hlb, hcell, _, _, hMl, hacc, hal⟩ := HP.out k hlt
      have hnm : n + M.length ≤ 100000 := by rw [HNn.out]; exact hal
      have HRel : Hid (∃ (k' n' : Nat), k' ≤ N ∧ Value.int .i64 ((k : Int) + 1) = .int .i64 k' ∧ Value.int .i64 ((n : Int) + (M.length : Int)) = .int .i64 n' ∧ n' ≤ 100000 ∧ Hid (n' = ((Ls.take k').flatten).length) ∧ True) := ⟨k + 1, n + M.length, by omega, by go_num, by rw [Int.natCast_add], hnm, by unfold Hid; rw [hacc, List.length_append, HNn.out], trivial⟩
      clear hacc hal HNn
      go_wp2
      go_roundw
      case rel => exact HRel.out
      case measure => simp [intOf]; omega
    · obtain rfl : k = N := by omega
      have ik : ¬ (k : Int) < k := by omega
      have HG3 : Hid (Calls Try.prog 61 #[.slice none 0 0, .int .i64 n] wr fun e w' => ∃ u, e = .returned u ∧ w'.ownsRow wr.heap.size 27 4 u 0 [] ∧ Below wr.heap.size wr w') := HGr.out n (by omega)
      clear HGr HNn
      go_wp2_with fail
      refine HG3.out.mono ?_
      rintro e w1 ⟨u1, rfl, hu1, hb1⟩
      have HC0 : Hid (OwR wr.heap.size w1 u1 ((Ls.take 0).flatten) ∧ Below wr.heap.size wr w1) := ⟨hu1, hb1⟩
      clear hu1 hb1 HG3
      obtain ⟨ww, hww⟩ : ∃ ww : World, ww = wr := ⟨_, rfl⟩
      rw [← hww] at HC0 HP
      have Hww : Hid (ww = wr) := hww
      clear hww
      go_wp2_with fail
      go_loopw [6, 27] (fun v i wq => ∃ j : Nat, i = .int .i64 j ∧ j ≤ k ∧ Hid (OwR ww.heap.size wq v ((Ls.take j).flatten) ∧ Below ww.heap.size ww wq)) (fun _ i _ => k - (intOf i).toNat)
      case atStart => exact ⟨0, rfl, Nat.zero_le _, HC0⟩
      case round =>
        clear HC0
        obtain ⟨j, rfl, hj, HR⟩ := hrel
        by_cases hlt2 : j < k
        · have ij : (j : Int) < k := by omega
          obtain ⟨M, oM, cM, hb, ho, rfl, hlb, hcell, hM, hMn, hMl, hacc, hal⟩ := HP.out j hlt2
          have hc : wr.cell? ⟨hb, ho + j, none⟩ = some (.slice oM M.length cM) := (HR.out.2.cell (p := ⟨hb, ho + j, none⟩) hlb).trans hcell
          obtain ⟨acc, hac⟩ : ∃ acc, acc = (Ls.take j).flatten := ⟨_, rfl⟩
          rw [← hac] at hacc hal
          have HA : Hid ((Ls.take (j + 1)).flatten = acc ++ M) := hacc
          have HO : Hid (wr.ownsRow ww.heap.size 27 4 u6 acc.length (flat acc) ∧ Below ww.heap.size ww wr ∧ ww.heap.size ≤ wr.heap.size ∧ LsR wr (.slice oM M.length cM) M ∧ NoNil (.slice oM M.length cM)) := by
            have h := HR.out.1
            rw [← hac] at h
            exact ⟨h, HR.out.2, HR.out.2.size, hM.below HR.out.2, hMn⟩
          clear HR hac hacc hcell hM hMn
          go_wp2_with (at_builtin; refine app_moreR rfl _ _ rfl i0 Try.underlying39 hi hz0 hz1 hz2 ww.heap.size u6 acc acc.length rfl rfl HO.out.1 HO.out.2.2.1 M oM cM M.length rfl rfl HO.out.2.2.2.1 HO.out.2.2.2.2 (by omega) ?_)
          intro v' w4 H4
          have HRel : Hid (OwR ww.heap.size w4 v' ((Ls.take (j + 1)).flatten) ∧ Below ww.heap.size ww w4) := by
            refine ⟨by rw [HA.out]; exact H4.out.1, HO.out.2.1.grown H4.out.2 HO.out.2.2.1 (fun g hg => (row_lt HO.out.1 g hg).1)⟩
          clear H4 HO
          go_wp2
          go_roundw
          case rel => exact ⟨j + 1, by go_num, by omega, HRel⟩
          case measure => simp [intOf]; omega
        · obtain rfl : j = k := by omega
          have ij : ¬ (j : Int) < j := by omega
          have HF : Hid (OwR ww.heap.size wr u6 Ls.flatten ∧ Below ww.heap.size ww wr) := by rw [← HEnd.out]; exact HR.out
          rw [Hww.out] at HF
          clear HR
          go_wp2
          go_ret
          exact ⟨_, rfl, HF.out.1, HF.out.2⟩

end Go.Proofs.Ytbghjmkgicdnoaa
