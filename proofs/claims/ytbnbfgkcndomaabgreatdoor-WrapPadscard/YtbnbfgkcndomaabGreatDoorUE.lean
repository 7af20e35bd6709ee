/-
  The calls Measure, Order, Offset, Takes of parts.
-/
import Derived.Test.YtbnbfgkcndomaabGreatDoorUD
namespace Go.Proofs.YtbnbfgkcndomaabGreatDoor
open Go.RowKit

theorem pwithin_any (n lo hi : Int) (w : World) :
    Calls Tryz.prog 76 #[.int .i64 n, .int .i64 lo, .int .i64 hi] w fun e w' => e = .returned (.bool (fromTo n lo hi)) ∧ w' = w := by
  have main : ∀ b1 b2, decide (lo ≤ n) = b1 → decide (n ≤ hi) = b2 → Calls Tryz.prog 76 #[.int .i64 n, .int .i64 lo, .int .i64 hi] w fun e w' => e = .returned (.bool (b1 && b2)) ∧ w' = w := by
    intro b1 b2 h1 h2
    cases b1 <;> cases b2
    all_goals
      go_enter Tryz.func76, Tryz.ntmps76
      go_wp2
      go_ret
      exact ⟨rfl, rfl⟩
  exact main _ _ rfl rfl

theorem sizeMay_any (x y : Int) (w : World) :
    Calls Tryz.prog 71 #[.agg #[.int .i64 x, .int .i64 y]] w fun e w' => e = .returned (.bool (szB x y)) ∧ Below w.heap.size w w' := by
  have hS : Hid (∀ n lo hi w, Calls Tryz.prog 76 #[.int .i64 n, .int .i64 lo, .int .i64 hi] w fun e w' => e = .returned (.bool (fromTo n lo hi)) ∧ w' = w) := pwithin_any
  have main : ∀ b1 b2, fromTo x 0 16384 = b1 → fromTo y 0 16384 = b2 → Calls Tryz.prog 71 #[.agg #[.int .i64 x, .int .i64 y]] w fun e w' => e = .returned (.bool (b1 && b2)) ∧ Below w.heap.size w w' := by
    intro b1 b2 h1 h2
    cases b1 <;> cases b2
    all_goals
      go_enter Tryz.func71, Tryz.ntmps71
      go_wp2_with (go_at_call 76; refine (hS.out _ _ _ _).mono ?_; rintro e w1 ⟨rfl, rfl⟩)
      go_ret
      exact ⟨rfl, (Below.refl _ w).alloc (Nat.le_refl _) _⟩
  exact main _ _ rfl rfl

/-- What Measure answers. -/
def meaE (t : Ty) (x y : Int) : Int := if t.mes = false then 8 else if szB x y = false then 9 else 0
def meaN (e a m r : Int) : Int := if e = 0 then lim (lim a m) r else 0

theorem mea1_any (p : Pt) (b g r : Nat) (x y : Int) (w : World) (h : PtIn w b p) (ht : p.t.mes = true) (hg : w.cell? ⟨g, 0, none⟩ = some (.iface p.t.id (.pointer (some ⟨b, 0, none⟩)))) (hr : At2 w r x y) :
    Calls Tryz.prog 73 #[.pointer (some ⟨g, 0, none⟩), .pointer (some ⟨r, 0, none⟩)] w fun e w' => e = .returned (.agg #[.int .i64 (lim (lim p.aw p.mw) x), .int .i64 (lim (lim p.ah p.mh) y)]) ∧ Below w.heap.size w w' := by
  have hm := (h.alloc (.cells #[.int .i64 0, .int .i64 0] 23)).mea ht
  have hc := over_alloc hg (.cells #[.int .i64 0, .int .i64 0] 23)
  obtain ⟨r0, r1⟩ := hr.alloc (.cells #[.int .i64 0, .int .i64 0] 23)
  have A := Blk.new w #[.int .i64 0, .int .i64 0] 23
  have L : Below w.heap.size w (w.alloc (.cells #[.int .i64 0, .int .i64 0] 23)) := (Below.refl _ w).alloc (Nat.le_refl _) _
  clear h ht hg hr
  go_enter Tryz.func73, Tryz.ntmps73
  go_wp2_with fail
  refine (measuring_any _ _ _ _ _ _ _).mono ?_
  rintro e w1 ⟨rfl, hb⟩
  replace A := A.below hb
  replace L := L.trans (hb.mono L.size)
  have a0 := A.cell 0
  have a1 := A.cell 1
  have fa := A.frozen
  have HL : Hid (Below w.heap.size w w1) := L
  clear A L hb hm hc r0 r1
  go_wp2
  exact bodyPost_ret (v := .agg #[.int .i64 _, .int .i64 _]) (by simp [results, Tryz.results73, go_sem, a0, a1]) rfl ⟨rfl, (HL.out.setCell (Nat.le_refl _) _).setCell (Nat.le_refl _) _⟩

theorem world3 (w : World) (x y : Int) (v : Value) (W : World) (hW : W = ((w.alloc (.cells #[.int .i64 x, .int .i64 y] 23)).alloc (.cells #[.int .i64 0, .int .i64 0] 23)).alloc (.cells #[v] 129)) :
    At2 W w.heap.size x y ∧ Blk W (w.heap.size + 1) #[.int .i64 0, .int .i64 0] 23 ∧ Blk W (w.heap.size + 1 + 1) #[v] 129 ∧ Below w.heap.size w W := by
  subst hW
  refine ⟨((At2.new w x y 23).alloc _).alloc _, ?_, ?_, (((Below.refl w.heap.size w).alloc (Nat.le_refl _) _).alloc (by simp) _).alloc (by simp; omega) _⟩
  · have := (Blk.new (w.alloc (.cells #[.int .i64 x, .int .i64 y] 23)) #[.int .i64 0, .int .i64 0] 23).alloc (.cells #[v] 129)
    rwa [World.size_alloc] at this
  · have := Blk.new ((w.alloc (.cells #[.int .i64 x, .int .i64 y] 23)).alloc (.cells #[.int .i64 0, .int .i64 0] 23)) #[v] 129
    rwa [World.size_alloc, World.size_alloc] at this

set_option maxHeartbeats 2000000 in
theorem measure_made (p : Pt) (b : Nat) (x y : Int) (w : World) (h : PtIn w b p) (hk : kindB p.k = true) :
    Calls Tryz.prog 27 #[.iface p.t.id (.pointer (some ⟨b, 0, none⟩)), .agg #[.int .i64 x, .int .i64 y]] w fun e w' => e = .returned (.tuple #[.agg #[.int .i64 (meaN (meaE p.t x y) p.aw p.mw x), .int .i64 (meaN (meaE p.t x y) p.ah p.mh y)], .int .i64 (meaE p.t x y)]) ∧ Below w.heap.size w w' := by
  have hmf : ∀ (fn : Fn) (first cap : Array Value) (w : World), (Instr.makeFunc fn first cap).run Tryz.prog w = .ok (.func fn first cap) w := fun _ _ _ _ => rfl
  have HM := mes_made p.t b p.k ((w.alloc (.cells #[.int .i64 x, .int .i64 y] 23)).alloc (.cells #[.int .i64 0, .int .i64 0] 23)) ((h.alloc _).alloc _).kind.1 hk
  have HP : Hid (PtIn w b p) := h
  clear h hk
  cases hm : p.t.mes
  · rw [hm] at HM
    simp only [meaE, hm, if_true, meaN, show ¬ ((8 : Int) = 0) by decide, if_false]
    go_enter Tryz.func27, Tryz.ntmps27
    go_wp2_with fail
    refine HM.mono ?_
    rintro e w1 ⟨rfl, rfl⟩
    go_wp2
    exact bodyPost_ret (v := .tuple #[.agg #[.int .i64 0, .int .i64 0], .int .i64 8]) (by simp [results, Tryz.results27, go_sem]) rfl ⟨rfl, (world3 w x y .nilIface _ rfl).2.2.2⟩
  · rw [hm] at HM
    have HT : Hid (p.t.mes = true) := hm
    cases hz : szB x y
    · simp only [meaE, hm, hz, if_true, meaN, show ¬ ((9 : Int) = 0) by decide, if_false, Bool.true_eq_false]
      clear hm
      go_enter Tryz.func27, Tryz.ntmps27
      go_wp2_with fail
      refine HM.mono ?_
      rintro e w1 ⟨rfl, rfl⟩
      go_wp2_with fail
      have hs := sizeMay_any x y (((w.alloc (.cells #[.int .i64 x, .int .i64 y] 23)).alloc (.cells #[.int .i64 0, .int .i64 0] 23)).alloc (.cells #[.iface p.t.id (.pointer (some ⟨b, 0, none⟩))] 129))
      rw [hz] at hs
      refine hs.mono ?_
      rintro e w1 ⟨rfl, hb⟩
      obtain ⟨A, B, C, L⟩ := world3 w x y (.iface p.t.id (.pointer (some ⟨b, 0, none⟩))) _ rfl
      replace B := B.below hb
      replace L := L.trans (hb.mono L.size)
      have b0 := B.cell 0
      have b1 := B.cell 1
      have fb := B.frozen
      have HL : Hid (Below w.heap.size w w1) := L
      clear A B C L hb hs HM hz
      go_wp2
      exact bodyPost_ret (v := .tuple #[.agg #[.int .i64 0, .int .i64 0], .int .i64 9]) (by simp [results, Tryz.results27, go_sem, b0, b1]) rfl ⟨rfl, (HL.out.setCell (le1 _) _).setCell (le1 _) _⟩
    · simp only [meaE, hm, hz, if_true, meaN, if_false, Bool.true_eq_false]
      clear hm
      go_enter Tryz.func27, Tryz.ntmps27
      go_wp2_with fail
      refine HM.mono ?_
      rintro e w1 ⟨rfl, rfl⟩
      go_wp2_with fail
      have hs := sizeMay_any x y (((w.alloc (.cells #[.int .i64 x, .int .i64 y] 23)).alloc (.cells #[.int .i64 0, .int .i64 0] 23)).alloc (.cells #[.iface p.t.id (.pointer (some ⟨b, 0, none⟩))] 129))
      rw [hz] at hs
      refine hs.mono ?_
      rintro e w1 ⟨rfl, hb⟩
      obtain ⟨A, B, C, L⟩ := world3 w x y (.iface p.t.id (.pointer (some ⟨b, 0, none⟩))) _ rfl
      replace A := A.below hb
      replace B := B.below hb
      replace C := C.below hb
      replace L := L.trans (hb.mono L.size)
      have HL : Hid (At2 w1 w.heap.size x y ∧ Blk w1 (w.heap.size + 1) #[.int .i64 0, .int .i64 0] 23 ∧ Blk w1 (w.heap.size + 1 + 1) #[.iface p.t.id (.pointer (some ⟨b, 0, none⟩))] 129 ∧ Below w.heap.size w w1) := ⟨A, B, C, L⟩
      clear A B C L hb hs HM hz
      go_wp2_with fail
      obtain ⟨A, B, C, L⟩ := HL.out
      refine (ans_size _ _ (lim (lim p.aw p.mw) x) (lim (lim p.ah p.mh) y) w1 (fun w2 hb => mea1_any p b _ _ x y w2 ((HP.out.below L).below hb) HT.out ((C.below hb).cell 0) (A.below hb))).mono ?_
      rintro e w2 ⟨rfl, hb⟩
      replace B := B.below hb
      replace L := L.trans (hb.mono L.size)
      have b0 := B.cell 0
      have b1 := B.cell 1
      have fb := B.frozen
      have HL : Hid (Below w.heap.size w w2) := L
      clear A B C L hb
      go_wp2
      exact bodyPost_ret (v := .tuple #[.agg #[.int .i64 _, .int .i64 _], .int .i64 0]) (by simp [results, Tryz.results27, go_sem, b0, b1]) rfl ⟨rfl, (HL.out.setCell (le1 _) _).setCell (le1 _) _⟩

theorem measure_hollow (t : Ty) (x y : Int) (w : World) :
    Calls Tryz.prog 27 #[.iface t.id (.pointer none), .agg #[.int .i64 x, .int .i64 y]] w fun e w' => e = .returned (.tuple #[.agg #[.int .i64 0, .int .i64 0], .int .i64 8]) ∧ Below w.heap.size w w' := by
  have HM := fun w => mes_hollow t w
  go_enter Tryz.func27, Tryz.ntmps27
  go_wp2_with fail
  refine (HM _).mono ?_
  rintro e w1 ⟨rfl, rfl⟩
  go_wp2
  exact bodyPost_ret (v := .tuple #[.agg #[.int .i64 0, .int .i64 0], .int .i64 8]) (by simp [results, Tryz.results27, go_sem]) rfl ⟨rfl, (world3 w x y .nilIface _ rfl).2.2.2⟩

theorem measure_nil (x y : Int) (w : World) :
    Calls Tryz.prog 27 #[.nilIface, .agg #[.int .i64 x, .int .i64 y]] w fun e w' => e = .returned (.tuple #[.agg #[.int .i64 0, .int .i64 0], .int .i64 8]) ∧ Below w.heap.size w w' := by
  have HM := fun w => mes_nil w
  go_enter Tryz.func27, Tryz.ntmps27
  go_wp2_with fail
  refine (HM _).mono ?_
  rintro e w1 ⟨rfl, rfl⟩
  go_wp2
  exact bodyPost_ret (v := .tuple #[.agg #[.int .i64 0, .int .i64 0], .int .i64 8]) (by simp [results, Tryz.results27, go_sem]) rfl ⟨rfl, (world3 w x y .nilIface _ rfl).2.2.2⟩

end Go.Proofs.YtbnbfgkcndomaabGreatDoor
