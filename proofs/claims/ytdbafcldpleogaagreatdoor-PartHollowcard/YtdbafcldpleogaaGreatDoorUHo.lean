/-
  The walk of the statement PartHollow.
-/
import Derived.Test.YtdbafcldpleogaaGreatDoorUR
import Derived.Test.YtdbafcldpleogaaGreatDoorUV
import Derived.Test.YtdbafcldpleogaaGreatDoorUX
namespace Go.Proofs.YtdbafcldpleogaaGreatDoor
open Go.RowKit Go.Shelf

/-- What lies there: the room, the rectangle, the look. -/
structure HoW (w : World) (x y : Int) (r : Rc) (k : Lk) (W : World) : Prop where
  s : At2 W w.heap.size x y
  r : At4 W (w.heap.size + 1) r.x r.y r.w r.h
  k : Blk W (w.heap.size + 1 + 1) (#[.int .u8 (k.has : Nat), .int .u8 k.r, .int .u8 k.g, .int .u8 k.b, .int .u8 k.a, .int .u8 k.r2, .int .u8 k.g2, .int .u8 k.b2, .int .u8 k.a2, .bool k.bd, .int .i64 k.pad]) 67
  b : Below w.heap.size w W
theorem HoW.below {w : World} {x y : Int} {r : Rc} {k : Lk} {W W' : World} (h : HoW w x y r k W) (hb : Below W.heap.size W W') : HoW w x y r k W' := ⟨h.s.below hb, h.r.below hb, h.k.below hb, h.b.trans (hb.mono h.b.size)⟩
theorem HoW.alloc {w : World} {x y : Int} {r : Rc} {k : Lk} {W : World} (h : HoW w x y r k W) (o : Obj) : HoW w x y r k (W.alloc o) := h.below ((Below.refl _ _).alloc (Nat.le_refl _) o)
theorem ho_start (w : World) (x y : Int) (r : Rc) (k : Lk) : HoW w x y r k (((w.alloc (.cells #[.int .i64 x, .int .i64 y] 23)).alloc (.cells #[.int .i64 r.x, .int .i64 r.y, .int .i64 r.w, .int .i64 r.h] 63)).alloc (.cells (#[.int .u8 (k.has : Nat), .int .u8 k.r, .int .u8 k.g, .int .u8 k.b, .int .u8 k.a, .int .u8 k.r2, .int .u8 k.g2, .int .u8 k.b2, .int .u8 k.a2, .bool k.bd, .int .i64 k.pad]) 67)) := by
  have C := Blk.new ((w.alloc (.cells #[.int .i64 x, .int .i64 y] 23)).alloc (.cells #[.int .i64 r.x, .int .i64 r.y, .int .i64 r.w, .int .i64 r.h] 63)) (#[.int .u8 (k.has : Nat), .int .u8 k.r, .int .u8 k.g, .int .u8 k.b, .int .u8 k.a, .int .u8 k.r2, .int .u8 k.g2, .int .u8 k.b2, .int .u8 k.a2, .bool k.bd, .int .i64 k.pad]) 67
  simp only [World.size_alloc] at C
  exact ⟨((At2.new w x y 23).alloc _).alloc _, (At4.new' (w.alloc _) (w.heap.size + 1) r.x r.y r.w r.h 63 (by simp)).alloc _, C, (((Below.refl _ w).alloc (Nat.le_refl _) _).alloc (by simp) _).alloc (by simp; omega) _⟩

/-- All that is asked of a part that is none. -/
structure NoneAsked (v : Value) (c : Int) (m : Nat) (x y : Int) (r : Rc) (lk : Lk) (r1 r2 : Int) : Prop where
  must : ∀ w, Calls Tryz.prog 14 #[v, .int .u16 (m : Nat)] w fun e w' => e = .returned (.tuple #[.int .u16 r1, .int .i64 r2]) ∧ Below w.heap.size w w'
  rmust : ∀ (w : World) (b : Bool), (c == 0) = b → Calls Tryz.prog 15 #[.int .u16 c, .int .u16 (m : Nat), .bool b] w fun e w' => e = .returned (.tuple #[.int .u16 r1, .int .i64 r2]) ∧ w' = w
  mea : ∀ w, Calls Tryz.prog 25 #[v, .agg #[.int .i64 x, .int .i64 y]] w fun e w' => e = .returned (.tuple #[.agg #[.int .i64 0, .int .i64 0], .int .i64 8]) ∧ Below w.heap.size w w'
  str : ∀ w, Calls Tryz.prog 28 #[v, .agg #[.int .i64 r.x, .int .i64 r.y, .int .i64 r.w, .int .i64 r.h], (Value.agg #[.int .u8 (lk.has : Nat), .int .u8 lk.r, .int .u8 lk.g, .int .u8 lk.b, .int .u8 lk.a, .int .u8 lk.r2, .int .u8 lk.g2, .int .u8 lk.b2, .int .u8 lk.a2, .bool lk.bd, .int .i64 lk.pad])] w fun e w' => e = .returned (.tuple #[.slice none 0 0, .int .i64 8]) ∧ Below w.heap.size w w'
  ord : ∀ w, Calls Tryz.prog 19 #[v] w fun e w' => e = .returned (.tuple #[.int .i64 0, .int .i64 8]) ∧ Below w.heap.size w w'
  off : ∀ w, Calls Tryz.prog 20 #[v] w fun e w' => e = .returned (.tuple #[.agg #[.int .i64 0, .int .i64 0], .int .i64 8]) ∧ Below w.heap.size w w'
  tak : ∀ w, Calls Tryz.prog 21 #[v, .string ⟨#[116, 101, 120, 116]⟩] w fun e w' => e = .returned (.tuple #[.bool false, .int .i64 8]) ∧ Below w.heap.size w w'
  par : ∀ w, Calls Tryz.prog 22 #[v] w fun e w' => e = .returned (.tuple #[.slice none 0 0, .int .i64 8]) ∧ Below w.heap.size w w'
  can : ∀ w, Calls Tryz.prog 17 #[v] w fun e w' => e = .returned (.int .u16 c) ∧ w' = w
  non : ∀ w, Calls Tryz.prog 18 #[v] w fun e w' => e = .returned (.bool true) ∧ w' = w

set_option maxRecDepth 10000 in
set_option maxHeartbeats 4000000 in
theorem hollow_walk (k m : Nat) (hm : m < 65536) (x y : Int) (r : Rc) (lk : Lk) (w : World) (T : Tbs w) :
    Calls Tryz.prog 5 #[.int .u8 (k : Nat), .int .u16 (m : Nat), .agg #[.int .i64 x, .int .i64 y], .agg #[.int .i64 r.x, .int .i64 r.y, .int .i64 r.w, .int .i64 r.h], (Value.agg #[.int .u8 (lk.has : Nat), .int .u8 lk.r, .int .u8 lk.g, .int .u8 lk.b, .int .u8 lk.a, .int .u8 lk.r2, .int .u8 lk.g2, .int .u8 lk.b2, .int .u8 lk.a2, .bool lk.bd, .int .i64 lk.pad])] w fun e w' => e = .returned (.bool true) ∧ Below w.heap.size w w' := by
  have hA := awake_any _ (T.below (ho_start w x y r lk).b)
  have H0 : Hid (HoW w x y r lk (((w.alloc (.cells #[.int .i64 x, .int .i64 y] 23)).alloc (.cells #[.int .i64 r.x, .int .i64 r.y, .int .i64 r.w, .int .i64 r.h] 63)).alloc (.cells (#[.int .u8 (lk.has : Nat), .int .u8 lk.r, .int .u8 lk.g, .int .u8 lk.b, .int .u8 lk.a, .int .u8 lk.r2, .int .u8 lk.g2, .int .u8 lk.b2, .int .u8 lk.a2, .bool lk.bd, .int .i64 lk.pad]) 67))) := ho_start w x y r lk
  have HN : Hid (∀ W, Calls Tryz.prog 32 #[.int .u8 (k : Nat)] W fun e w' => e = .returned (holV k) ∧ w' = W) := fun W => nilk_any k W
  have HC : Hid (∀ W, Calls Tryz.prog 13 #[.int .u8 (k : Nat)] W fun e w' => e = .returned (.int .u16 (canK k : Nat)) ∧ w' = W) := fun W => rcan_any k W
  clear T
  obtain ⟨v, hv⟩ : ∃ v, v = holV k := ⟨_, rfl⟩
  obtain ⟨c, hc⟩ : ∃ c : Int, c = (canK k : Nat) := ⟨_, rfl⟩
  cases hk : kindB k
  · have ev : v = .nilIface := by rw [hv]; simp [holV, hk]
    have ec : c = 0 := by rw [hc, can_none hk]; rfl
    rw [← hv] at HN
    rw [← hc] at HC
    have NA : Hid (NoneAsked v c m x y r lk 0 (bif beyB m then 2 else 8)) := by
      subst ev; subst ec
      exact ⟨fun w => must_nil m w, fun w b hb => by subst hb; exact rmust_none 0 m hm w, fun w => measure_nil x y w, fun w => strokes_nil r.x r.y r.w r.h lk w, fun w => order_nil w, fun w => offset_nil w, fun w => takes_nil _ w, fun w => parts_nil w, fun w => can_nil_any w, fun w => none_nil w⟩
    generalize (bif beyB m then (2 : Int) else 8) = r2 at *
    subst ev; subst ec
    clear hv hc hk hm
    go_enter Tryz.func5, Tryz.ntmps5
    go_wp2_with fail
    refine hA.mono ?_
    rintro e w1 ⟨rfl, hb⟩
    have H1 : Hid (HoW w x y r lk w1) := H0.out.below hb
    clear hb H0 hA
    go_wp2_with fail
    refine (HN.out _).mono ?_
    rintro e w2 ⟨rfl, rfl⟩
    go_wp2_with fail
    refine (HC.out _).mono ?_
    rintro e w3 ⟨rfl, rfl⟩
    go_wp2_with fail
    refine (NA.out.must _).mono ?_
    rintro e w4 ⟨rfl, hb⟩
    have H4 : Hid (HoW w x y r lk w4) := H1.out.below hb
    clear hb H1
    go_wp2_with fail
    refine (NA.out.rmust _ true rfl).mono ?_
    rintro e w5 ⟨rfl, rfl⟩
    obtain ⟨s0, s1⟩ := H4.out.s
    go_wp2_with fail
    clear s0 s1
    refine (NA.out.mea _).mono ?_
    rintro e w6 ⟨rfl, hb⟩
    have H6 : Hid (HoW w x y r lk (w6.alloc (.cells #[.int .i64 0, .int .i64 0] 23))) := (H4.out.below hb).alloc _
    have D6 : Hid (At2 (w6.alloc (.cells #[.int .i64 0, .int .i64 0] 23)) w6.heap.size 0 0) := At2.new _ _ _ _
    have E6 : Hid (HoW w x y r lk w6) := H4.out.below hb
    clear hb H4
    go_upto_region 14 with fail
    generalize w6.alloc (.cells #[.int .i64 0, .int .i64 0] 23) = w7 at *
    generalize w6.heap.size = g1 at *
    obtain ⟨r0, r1, r2', r3⟩ := H6.out.r
    obtain ⟨k0, k1, k2, k3, k4, k5, k6, k7, k8, k9, k10⟩ := H6.out.k.look
    go_wp2_with fail
    clear r0 r1 r2' r3 k0 k1 k2 k3 k4 k5 k6 k7 k8 k9 k10
    refine (NA.out.str _).mono ?_
    rintro e w8 ⟨rfl, hb⟩
    have H8 : Hid (Below w.heap.size w w8 ∧ At2 w8 g1 0 0) := ⟨(H6.out.below hb).b, D6.out.below hb⟩
    clear hb H6 D6 E6
    go_wp2_with fail
    refine (NA.out.ord _).mono ?_
    rintro e w9 ⟨rfl, hb⟩
    have H9 : Hid (Below w.heap.size w w9 ∧ At2 w9 g1 0 0) := ⟨H8.out.1.trans (hb.mono H8.out.1.size), H8.out.2.below hb⟩
    clear hb H8
    go_wp2_with fail
    refine (NA.out.off _).mono ?_
    rintro e w10 ⟨rfl, hb⟩
    have H10 : Hid (Below w.heap.size w (w10.alloc (.cells #[.int .i64 0, .int .i64 0] 25)) ∧ At2 (w10.alloc (.cells #[.int .i64 0, .int .i64 0] 25)) g1 0 0 ∧ At2 (w10.alloc (.cells #[.int .i64 0, .int .i64 0] 25)) w10.heap.size 0 0) := ⟨(H9.out.1.trans (hb.mono H9.out.1.size)).alloc (Nat.le_trans H9.out.1.size hb.size) _, (H9.out.2.below hb).alloc _, At2.new _ _ _ _⟩
    clear hb H9
    go_upto_region 17 with fail
    generalize w10.alloc (.cells #[.int .i64 0, .int .i64 0] 25) = w11 at *
    generalize w10.heap.size = g2 at *
    go_wp2_with fail
    refine (NA.out.tak _).mono ?_
    rintro e w12 ⟨rfl, hb⟩
    have H12 : Hid (Below w.heap.size w w12 ∧ At2 w12 g1 0 0 ∧ At2 w12 g2 0 0) := ⟨H10.out.1.trans (hb.mono H10.out.1.size), H10.out.2.1.below hb, H10.out.2.2.below hb⟩
    clear hb H10
    go_wp2_with fail
    refine (NA.out.par _).mono ?_
    rintro e w13 ⟨rfl, hb⟩
    have H13 : Hid (Below w.heap.size w w13) := H12.out.1.trans (hb.mono H12.out.1.size)
    obtain ⟨d0, d1⟩ := H12.out.2.1.below hb
    obtain ⟨e0, e1⟩ := H12.out.2.2.below hb
    clear hb H12
    go_wp2_with fail
    refine (NA.out.can _).mono ?_
    rintro e w14 ⟨rfl, rfl⟩
    go_wp2_with fail
    refine (NA.out.non _).mono ?_
    rintro e w14 ⟨rfl, rfl⟩
    go_wp2
    go_ret
    exact ⟨by simp, H13.out⟩
  · have ev : v = .iface (tyOf k).id (.pointer none) := by rw [hv]; simp [holV, hk]
    have ec : c = ((tyOf k).can : Nat) := by rw [hc, can_ty hk]
    rw [← hv] at HN
    rw [← hc] at HC
    have c0 : (c == 0) = false := by rw [ec]; cases tyOf k <;> rfl
    have NA : Hid (NoneAsked v c m x y r lk (bif beyB m then 0 else misK (tyOf k) m 0) (bif beyB m then 2 else if misK (tyOf k) m 0 = 0 then 0 else 61)) := by
      subst ev
      exact ⟨fun w => must_ty _ _ m w, fun w b hb => by rw [c0] at hb; subst hb; rw [ec]; exact rmust_ty (tyOf k) m hm w, fun w => measure_hollow _ x y w, fun w => strokes_hollow _ r.x r.y r.w r.h lk w, fun w => order_hollow _ w, fun w => offset_hollow _ w, fun w => takes_hollow _ _ w, fun w => parts_hollow _ w, fun w => by rw [ec]; exact can_ty_any _ _ w, fun w => none_hollow _ w⟩
    generalize (bif beyB m then (2 : Int) else if misK (tyOf k) m 0 = 0 then 0 else 61) = r2 at *
    generalize (bif beyB m then (0 : Int) else misK (tyOf k) m 0) = r1x at *
    have K1 : Hid (∀ W, Calls Tryz.prog (tyOf k).kf #[.pointer none] W fun e w' => e = .returned (.int .u8 0) ∧ w' = W) := fun W => kf_hol _ W
    have K2 : Hid (∀ W, Calls Tryz.prog (tyOf k).nf #[.pointer none] W fun e w' => e = .returned (.string ⟨#[]⟩) ∧ w' = W) := fun W => nf_hol _ W
    have K3 : Hid (∀ W, Calls Tryz.prog 16 #[.iface (tyOf k).id (.pointer none)] W fun e w' => e = .returned (.int .u16 c) ∧ w' = W) := fun W => by rw [ec]; exact holds_ty _ _ W
    have mK := fun f W => me_Kind (tyOf k) f none W
    have mN := fun f W => me_Name (tyOf k) f none W
    have cK := fun a W => ent_kf (tyOf k) a W
    have cN := fun a W => ent_nf (tyOf k) a W
    generalize (tyOf k).kf = fk at *
    generalize (tyOf k).nf = fn at *
    subst ev
    clear hv hc hk hm ec
    generalize (tyOf k).id = ti at *
    go_enter Tryz.func5, Tryz.ntmps5
    go_wp2_with fail
    refine hA.mono ?_
    rintro e w1 ⟨rfl, hb⟩
    have H1 : Hid (HoW w x y r lk w1) := H0.out.below hb
    clear hb H0 hA
    go_wp2_with fail
    refine (HN.out _).mono ?_
    rintro e w2 ⟨rfl, rfl⟩
    go_wp2_with fail
    refine (HC.out _).mono ?_
    rintro e w3 ⟨rfl, rfl⟩
    go_wp2_with fail
    refine (K1.out _).mono ?_
    rintro e w3 ⟨rfl, rfl⟩
    go_wp2_with fail
    refine (K2.out _).mono ?_
    rintro e w3 ⟨rfl, rfl⟩
    go_wp2_with fail
    refine (K3.out _).mono ?_
    rintro e w3 ⟨rfl, rfl⟩
    go_wp2_with fail
    refine (NA.out.must _).mono ?_
    rintro e w4 ⟨rfl, hb⟩
    have H4 : Hid (HoW w x y r lk w4) := H1.out.below hb
    clear hb H1
    go_wp2_with fail
    refine (NA.out.rmust _ false c0).mono ?_
    rintro e w5 ⟨rfl, rfl⟩
    obtain ⟨s0, s1⟩ := H4.out.s
    go_wp2_with fail
    clear s0 s1
    refine (NA.out.mea _).mono ?_
    rintro e w6 ⟨rfl, hb⟩
    have H6 : Hid (HoW w x y r lk (w6.alloc (.cells #[.int .i64 0, .int .i64 0] 23))) := (H4.out.below hb).alloc _
    have D6 : Hid (At2 (w6.alloc (.cells #[.int .i64 0, .int .i64 0] 23)) w6.heap.size 0 0) := At2.new _ _ _ _
    have E6 : Hid (HoW w x y r lk w6) := H4.out.below hb
    clear hb H4
    go_upto_region 14 with fail
    generalize w6.alloc (.cells #[.int .i64 0, .int .i64 0] 23) = w7 at *
    generalize w6.heap.size = g1 at *
    obtain ⟨r0, r1, r2', r3⟩ := H6.out.r
    obtain ⟨k0, k1, k2, k3, k4, k5, k6, k7, k8, k9, k10⟩ := H6.out.k.look
    go_wp2_with fail
    clear r0 r1 r2' r3 k0 k1 k2 k3 k4 k5 k6 k7 k8 k9 k10
    refine (NA.out.str _).mono ?_
    rintro e w8 ⟨rfl, hb⟩
    have H8 : Hid (Below w.heap.size w w8 ∧ At2 w8 g1 0 0) := ⟨(H6.out.below hb).b, D6.out.below hb⟩
    clear hb H6 D6 E6
    go_wp2_with fail
    refine (NA.out.ord _).mono ?_
    rintro e w9 ⟨rfl, hb⟩
    have H9 : Hid (Below w.heap.size w w9 ∧ At2 w9 g1 0 0) := ⟨H8.out.1.trans (hb.mono H8.out.1.size), H8.out.2.below hb⟩
    clear hb H8
    go_wp2_with fail
    refine (NA.out.off _).mono ?_
    rintro e w10 ⟨rfl, hb⟩
    have H10 : Hid (Below w.heap.size w (w10.alloc (.cells #[.int .i64 0, .int .i64 0] 25)) ∧ At2 (w10.alloc (.cells #[.int .i64 0, .int .i64 0] 25)) g1 0 0 ∧ At2 (w10.alloc (.cells #[.int .i64 0, .int .i64 0] 25)) w10.heap.size 0 0) := ⟨(H9.out.1.trans (hb.mono H9.out.1.size)).alloc (Nat.le_trans H9.out.1.size hb.size) _, (H9.out.2.below hb).alloc _, At2.new _ _ _ _⟩
    clear hb H9
    go_upto_region 17 with fail
    generalize w10.alloc (.cells #[.int .i64 0, .int .i64 0] 25) = w11 at *
    generalize w10.heap.size = g2 at *
    go_wp2_with fail
    refine (NA.out.tak _).mono ?_
    rintro e w12 ⟨rfl, hb⟩
    have H12 : Hid (Below w.heap.size w w12 ∧ At2 w12 g1 0 0 ∧ At2 w12 g2 0 0) := ⟨H10.out.1.trans (hb.mono H10.out.1.size), H10.out.2.1.below hb, H10.out.2.2.below hb⟩
    clear hb H10
    go_wp2_with fail
    refine (NA.out.par _).mono ?_
    rintro e w13 ⟨rfl, hb⟩
    have H13 : Hid (Below w.heap.size w w13) := H12.out.1.trans (hb.mono H12.out.1.size)
    obtain ⟨d0, d1⟩ := H12.out.2.1.below hb
    obtain ⟨e0, e1⟩ := H12.out.2.2.below hb
    clear hb H12
    go_wp2_with fail
    refine (NA.out.can _).mono ?_
    rintro e w14 ⟨rfl, rfl⟩
    go_wp2_with fail
    refine (NA.out.non _).mono ?_
    rintro e w14 ⟨rfl, rfl⟩
    go_wp2
    go_ret
    exact ⟨by simp, H13.out⟩

end Go.Proofs.YtdbafcldpleogaaGreatDoor
