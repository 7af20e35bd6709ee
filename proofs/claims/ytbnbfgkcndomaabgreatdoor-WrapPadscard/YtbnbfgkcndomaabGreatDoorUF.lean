/-
  The calls Order, Offset, Takes of parts; hollow parts, no part: Strokes, Parts.
-/
import Derived.Test.YtbnbfgkcndomaabGreatDoorUE
import Derived.Test.YtbnbfgkcndomaabGreatDoorSP
namespace Go.Proofs.YtbnbfgkcndomaabGreatDoor
open Go.RowKit

theorem catch_int (p : Addr) (w : World) :
    CallsD Tryz.prog 130 #[.pointer (some p)] .returning w fun e u' w' => e = .returned (.tuple #[]) ∧ u' = .returning ∧ w' = w := by
  refine callsD_of_wpS Tryz.func130 rfl fun c₀ cs hu => ?_
  apply wpS_seq
  apply wpS_region
  simp [wpOpsS, go_sem, recoverD, hu, Tryz.ntmps130, Exit.thenS]
  refine wpS_cond (t := false) (by simp [Act.eval, Array.replicate]) ?_
  simp only [Bool.false_eq_true, if_false]
  refine wpS_of_wp (wp_skip ?_)
  cases c₀
  simp_all [bodyPostS, results, Tryz.results130]

theorem catch_point (p : Addr) (w : World) :
    CallsD Tryz.prog 131 #[.pointer (some p)] .returning w fun e u' w' => e = .returned (.tuple #[]) ∧ u' = .returning ∧ w' = w := by
  refine callsD_of_wpS Tryz.func131 rfl fun c₀ cs hu => ?_
  apply wpS_seq
  apply wpS_region
  simp [wpOpsS, go_sem, recoverD, hu, Tryz.ntmps131, Exit.thenS]
  refine wpS_cond (t := false) (by simp [Act.eval, Array.replicate]) ?_
  simp only [Bool.false_eq_true, if_false]
  refine wpS_of_wp (wp_skip ?_)
  cases c₀
  simp_all [bodyPostS, results, Tryz.results131]

theorem catch_parts (p : Addr) (w : World) :
    CallsD Tryz.prog 133 #[.pointer (some p)] .returning w fun e u' w' => e = .returned (.tuple #[]) ∧ u' = .returning ∧ w' = w := by
  refine callsD_of_wpS Tryz.func133 rfl fun c₀ cs hu => ?_
  apply wpS_seq
  apply wpS_region
  simp [wpOpsS, go_sem, recoverD, hu, Tryz.ntmps133, Exit.thenS]
  refine wpS_cond (t := false) (by simp [Act.eval, Array.replicate]) ?_
  simp only [Bool.false_eq_true, if_false]
  refine wpS_of_wp (wp_skip ?_)
  cases c₀
  simp_all [bodyPostS, results, Tryz.results133]

theorem fOrder_any (x : Int) (w : World) :
    Calls Tryz.prog 220 #[.agg #[.int .i64 x]] w fun e w' => e = .returned (.int .i64 x) ∧ Below w.heap.size w w' := by
  go_enter Tryz.func220, Tryz.ntmps220
  go_wp2
  go_ret
  exact ⟨rfl, (Below.refl _ w).alloc (Nat.le_refl _) _⟩

theorem fOffset_any (x y : Int) (w : World) :
    Calls Tryz.prog 229 #[.agg #[.int .i64 x, .int .i64 y]] w fun e w' => e = .returned (.agg #[.int .i64 x, .int .i64 y]) ∧ Below w.heap.size w w' := by
  go_enter Tryz.func229, Tryz.ntmps229
  go_wp2
  exact bodyPost_ret (v := .agg #[.int .i64 x, .int .i64 y]) (by simp [results, Tryz.results229, go_sem]) rfl ⟨rfl, ((Below.refl _ w).alloc (Nat.le_refl _) _).alloc (by simp) _⟩

theorem fTakes_any (s t : ByteArray) (w : World) :
    Calls Tryz.prog 223 #[.agg #[.string s], .string t] w fun e w' => e = .returned (.bool (t.toList == s.toList)) ∧ Below w.heap.size w w' := by
  go_enter Tryz.func223, Tryz.ntmps223
  go_wp2
  go_ret
  exact ⟨rfl, (Below.refl _ w).alloc (Nat.le_refl _) _⟩

set_option maxHeartbeats 1000000 in
theorem ans_int (p : Pt) (b : Nat) (w : World) (h : PtIn w b p) (ht : p.t.foc = true) :
    Calls Tryz.prog 90 #[.func (.method "Order") #[.iface p.t.id (.pointer (some ⟨b, 0, none⟩))] #[]] w fun e w' => e = .returned (.tuple #[.int .i64 p.o, .int .i64 0]) ∧ Below w.heap.size w w' := by
  have hmf : ∀ (fn : Fn) (first cap : Array Value) (w : World), (Instr.makeFunc fn first cap).run Tryz.prog w = .ok (.func fn first cap) w := fun _ _ _ _ => rfl
  have hm := fun f => ((h.alloc (.cells #[.int .i64 0] 45)).ord ht f).1
  clear h ht
  go_enter_defers Tryz.func90, Tryz.ntmps90
  go_wp2_with fail
  refine (fOrder_any p.o _).mono ?_
  rintro e w1 ⟨rfl, hb⟩
  have B := (Blk.new w #[.int .i64 0] 45).below hb
  have L := ((Below.refl _ w).alloc (Nat.le_refl _) (.cells #[.int .i64 0] 45)).trans (hb.mono (by simp))
  clear hb hm
  have b0 := B.cell 0
  have fb := B.frozen
  have HL : Hid (Below w.heap.size w w1) := L
  clear B L
  go_wp2_with fail
  refine leaves_cons (f := 130) (args := #[.pointer (some ⟨w.heap.size, 0, none⟩)]) (by simp) (by simp [go_sem]) ?_
  refine (catch_int _ _).mono ?_
  rintro e u' w'' ⟨rfl, rfl, rfl⟩
  refine ⟨.tuple #[.int .i64 p.o, .int .i64 0], ?_, rfl, ?_⟩
  · simp [results, Tryz.results90, go_sem, b0]
  · exact HL.out.setCell (Nat.le_refl _) _

set_option maxHeartbeats 1000000 in
theorem ans_point (p : Pt) (b : Nat) (w : World) (h : PtIn w b p) (ht : p.t.scr = true) :
    Calls Tryz.prog 92 #[.func (.method "Offset") #[.iface p.t.id (.pointer (some ⟨b, 0, none⟩))] #[]] w fun e w' => e = .returned (.tuple #[.agg #[.int .i64 p.ox, .int .i64 p.oy], .int .i64 0]) ∧ Below w.heap.size w w' := by
  have hmf : ∀ (fn : Fn) (first cap : Array Value) (w : World), (Instr.makeFunc fn first cap).run Tryz.prog w = .ok (.func fn first cap) w := fun _ _ _ _ => rfl
  have hm := fun f => (((h.alloc (.cells #[.int .i64 0, .int .i64 0] 25)).alloc (.cells #[.int .i64 0] 45)).off ht f).1
  clear h ht
  go_enter_defers Tryz.func92, Tryz.ntmps92
  go_wp2_with fail
  refine (fOffset_any p.ox p.oy _).mono ?_
  rintro e w1 ⟨rfl, hb⟩
  have A := ((Blk.new w #[.int .i64 0, .int .i64 0] 25).alloc (.cells #[.int .i64 0] 45)).below hb
  have B := Blk.new (w.alloc (.cells #[.int .i64 0, .int .i64 0] 25)) #[.int .i64 0] 45
  rw [World.size_alloc] at B
  replace B := B.below hb
  have L := (((Below.refl _ w).alloc (Nat.le_refl _) (.cells #[.int .i64 0, .int .i64 0] 25)).alloc (by simp) (.cells #[.int .i64 0] 45)).trans (hb.mono (by simp; omega))
  clear hb hm
  have a0 := A.cell 0
  have a1 := A.cell 1
  have b0 := B.cell 0
  have fa := A.frozen
  have fb := B.frozen
  have HL : Hid (Below w.heap.size w w1) := L
  clear A B L
  go_wp2_with fail
  refine leaves_cons (f := 131) (args := #[.pointer (some ⟨w.heap.size + 1, 0, none⟩)]) (by simp) (by simp [go_sem]) ?_
  refine (catch_point _ _).mono ?_
  rintro e u' w'' ⟨rfl, rfl, rfl⟩
  refine ⟨.tuple #[.agg #[.int .i64 p.ox, .int .i64 p.oy], .int .i64 0], ?_, rfl, ?_⟩
  · simp [results, Tryz.results92, go_sem, a0, a1, b0]
  · exact ((HL.out.setCell (Nat.le_refl _) _).setCell (Nat.le_refl _) _).setCell (le1 _) _

set_option maxHeartbeats 1000000 in
theorem order_made (p : Pt) (b : Nat) (w : World) (h : PtIn w b p) (hk : kindB p.k = true) :
    Calls Tryz.prog 42 #[.iface p.t.id (.pointer (some ⟨b, 0, none⟩))] w fun e w' => e = .returned (.tuple #[.int .i64 (if p.t.foc then p.o else 0), .int .i64 (if p.t.foc then 0 else 8)]) ∧ Below w.heap.size w w' := by
  have hmf : ∀ (fn : Fn) (first cap : Array Value) (w : World), (Instr.makeFunc fn first cap).run Tryz.prog w = .ok (.func fn first cap) w := fun _ _ _ _ => rfl
  have HM := foc_made p.t b p.k w h.kind.1 hk
  cases hm : p.t.foc
  · rw [hm] at HM
    clear h hm
    go_enter Tryz.func42, Tryz.ntmps42
    go_wp2_with fail
    refine HM.mono ?_
    rintro e w1 ⟨rfl, rfl⟩
    go_wp2
    exact bodyPost_ret (v := .tuple #[.int .i64 0, .int .i64 8]) (by simp [results, Tryz.results42, go_sem]) rfl ⟨rfl, Below.refl _ _⟩
  · rw [hm] at HM
    have hA := ans_int p b w h hm
    have hN := fun f => (h.ord hm f).2
    clear h hm
    go_enter Tryz.func42, Tryz.ntmps42
    go_wp2_with fail
    refine HM.mono ?_
    rintro e w1 ⟨rfl, rfl⟩
    go_wp2_with fail
    refine hA.mono ?_
    rintro e w1 ⟨rfl, hb⟩
    go_wp2
    exact bodyPost_ret (v := .tuple #[.int .i64 p.o, .int .i64 0]) (by simp [results, Tryz.results42, go_sem]) rfl ⟨rfl, hb⟩

set_option maxHeartbeats 1000000 in
theorem offset_made (p : Pt) (b : Nat) (w : World) (h : PtIn w b p) (hk : kindB p.k = true) :
    Calls Tryz.prog 44 #[.iface p.t.id (.pointer (some ⟨b, 0, none⟩))] w fun e w' => e = .returned (.tuple #[.agg #[.int .i64 (if p.t.scr then p.ox else 0), .int .i64 (if p.t.scr then p.oy else 0)], .int .i64 (if p.t.scr then 0 else 8)]) ∧ Below w.heap.size w w' := by
  have hmf : ∀ (fn : Fn) (first cap : Array Value) (w : World), (Instr.makeFunc fn first cap).run Tryz.prog w = .ok (.func fn first cap) w := fun _ _ _ _ => rfl
  have HM := scr_made p.t b p.k (w.alloc (.cells #[.int .i64 0, .int .i64 0] 25)) (h.alloc _).kind.1 hk
  have L : Below w.heap.size w (w.alloc (.cells #[.int .i64 0, .int .i64 0] 25)) := (Below.refl _ w).alloc (Nat.le_refl _) _
  cases hm : p.t.scr
  · rw [hm] at HM
    clear h hm
    go_enter Tryz.func44, Tryz.ntmps44
    go_wp2_with fail
    refine HM.mono ?_
    rintro e w1 ⟨rfl, rfl⟩
    go_wp2
    exact bodyPost_ret (v := .tuple #[.agg #[.int .i64 0, .int .i64 0], .int .i64 8]) (by simp [results, Tryz.results44, go_sem]) rfl ⟨rfl, L⟩
  · rw [hm] at HM
    have hA := ans_point p b (w.alloc (.cells #[.int .i64 0, .int .i64 0] 25)) (h.alloc _) hm
    have hN := fun f => ((h.alloc (.cells #[.int .i64 0, .int .i64 0] 25)).off hm f).2
    clear h hm
    go_enter Tryz.func44, Tryz.ntmps44
    go_wp2_with fail
    refine HM.mono ?_
    rintro e w1 ⟨rfl, rfl⟩
    go_wp2_with fail
    refine hA.mono ?_
    rintro e w1 ⟨rfl, hb⟩
    have A := (Blk.new w #[.int .i64 0, .int .i64 0] 25).below hb
    replace L := L.trans (hb.mono L.size)
    have a0 := A.cell 0
    have a1 := A.cell 1
    have fa := A.frozen
    have HL : Hid (Below w.heap.size w w1) := L
    clear A L hb hA HM hN
    go_wp2
    exact bodyPost_ret (v := .tuple #[.agg #[.int .i64 p.ox, .int .i64 p.oy], .int .i64 0]) (by simp [results, Tryz.results44, go_sem, a0, a1]) rfl ⟨rfl, (HL.out.setCell (Nat.le_refl _) _).setCell (Nat.le_refl _) _⟩

theorem tak1_any (p : Pt) (b g r : Nat) (s : ByteArray) (w : World) (h : PtIn w b p) (ht : p.t.acc = true) (hg : w.cell? ⟨g, 0, none⟩ = some (.iface p.t.id (.pointer (some ⟨b, 0, none⟩)))) (hr : w.cell? ⟨r, 0, none⟩ = some (.string s)) :
    Calls Tryz.prog 95 #[.pointer (some ⟨g, 0, none⟩), .pointer (some ⟨r, 0, none⟩)] w fun e w' => e = .returned (.bool (s.toList == droT.toList)) ∧ Below w.heap.size w w' := by
  have hm := h.tak ht
  clear h ht
  go_enter Tryz.func95, Tryz.ntmps95
  go_wp2_with fail
  refine (fTakes_any droT s _).mono ?_
  rintro e w1 ⟨rfl, hb⟩
  go_wp2
  go_ret
  exact ⟨rfl, hb⟩

set_option maxHeartbeats 1000000 in
theorem takes_made (p : Pt) (b : Nat) (s : ByteArray) (w : World) (h : PtIn w b p) (hk : kindB p.k = true) :
    Calls Tryz.prog 46 #[.iface p.t.id (.pointer (some ⟨b, 0, none⟩)), .string s] w fun e w' => e = .returned (.tuple #[.bool (p.t.acc && (s.toList == droT.toList)), .int .i64 (if p.t.acc then 0 else 8)]) ∧ Below w.heap.size w w' := by
  have hmf : ∀ (fn : Fn) (first cap : Array Value) (w : World), (Instr.makeFunc fn first cap).run Tryz.prog w = .ok (.func fn first cap) w := fun _ _ _ _ => rfl
  have HM := acc_made p.t b p.k (w.alloc (.cells #[.string s] 9)) (h.alloc _).kind.1 hk
  have HP : Hid (PtIn w b p) := h
  clear h hk
  cases hm : p.t.acc
  · rw [hm] at HM
    clear hm
    go_enter Tryz.func46, Tryz.ntmps46
    go_wp2_with fail
    refine HM.mono ?_
    rintro e w1 ⟨rfl, rfl⟩
    go_wp2
    exact bodyPost_ret (v := .tuple #[.bool false, .int .i64 8]) (by simp [results, Tryz.results46, go_sem]) rfl ⟨rfl, ((Below.refl _ w).alloc (Nat.le_refl _) _).alloc (by simp) _⟩
  · rw [hm] at HM
    have HT : Hid (p.t.acc = true) := hm
    clear hm
    go_enter Tryz.func46, Tryz.ntmps46
    go_wp2_with fail
    refine HM.mono ?_
    rintro e w1 ⟨rfl, rfl⟩
    go_wp2_with fail
    have A := (Blk.new w #[.string s] 9).alloc (.cells #[.iface p.t.id (.pointer (some ⟨b, 0, none⟩))] 141)
    have C := Blk.new (w.alloc (.cells #[.string s] 9)) #[.iface p.t.id (.pointer (some ⟨b, 0, none⟩))] 141
    rw [World.size_alloc] at C
    have L := ((Below.refl _ w).alloc (Nat.le_refl _) (.cells #[.string s] 9)).alloc (by simp) (.cells #[.iface p.t.id (.pointer (some ⟨b, 0, none⟩))] 141)
    refine (ans_bool _ _ (s.toList == droT.toList) _ (fun w2 hb => tak1_any p b _ _ s w2 ((HP.out.below L).below hb) HT.out ((C.below hb).cell 0) ((A.below hb).cell 0))).mono ?_
    rintro e w2 ⟨rfl, hb⟩
    replace L := L.trans (hb.mono L.size)
    clear A C hb HM
    go_wp2
    exact bodyPost_ret (v := .tuple #[.bool (s.toList == droT.toList), .int .i64 0]) (by simp [results, Tryz.results46, go_sem]) rfl ⟨by simp, L⟩

theorem order_hollow (t : Ty) (w : World) :
    Calls Tryz.prog 42 #[.iface t.id (.pointer none)] w fun e w' => e = .returned (.tuple #[.int .i64 0, .int .i64 8]) ∧ Below w.heap.size w w' := by
  have HM := fun w => foc_hollow t w
  go_enter Tryz.func42, Tryz.ntmps42
  go_wp2_with fail
  refine (HM _).mono ?_
  rintro e w1 ⟨rfl, rfl⟩
  go_wp2
  exact bodyPost_ret (v := .tuple #[.int .i64 0, .int .i64 8]) (by simp [results, Tryz.results42, go_sem]) rfl ⟨rfl, Below.refl _ _⟩

theorem offset_hollow (t : Ty) (w : World) :
    Calls Tryz.prog 44 #[.iface t.id (.pointer none)] w fun e w' => e = .returned (.tuple #[.agg #[.int .i64 0, .int .i64 0], .int .i64 8]) ∧ Below w.heap.size w w' := by
  have HM := fun w => scr_hollow t w
  go_enter Tryz.func44, Tryz.ntmps44
  go_wp2_with fail
  refine (HM _).mono ?_
  rintro e w1 ⟨rfl, rfl⟩
  go_wp2
  exact bodyPost_ret (v := .tuple #[.agg #[.int .i64 0, .int .i64 0], .int .i64 8]) (by simp [results, Tryz.results44, go_sem]) rfl ⟨rfl, (Below.refl _ w).alloc (Nat.le_refl _) _⟩

theorem takes_hollow (t : Ty) (s : ByteArray) (w : World) :
    Calls Tryz.prog 46 #[.iface t.id (.pointer none), .string s] w fun e w' => e = .returned (.tuple #[.bool false, .int .i64 8]) ∧ Below w.heap.size w w' := by
  have HM := fun w => acc_hollow t w
  go_enter Tryz.func46, Tryz.ntmps46
  go_wp2_with fail
  refine (HM _).mono ?_
  rintro e w1 ⟨rfl, rfl⟩
  go_wp2
  exact bodyPost_ret (v := .tuple #[.bool false, .int .i64 8]) (by simp [results, Tryz.results46, go_sem]) rfl ⟨rfl, ((Below.refl _ w).alloc (Nat.le_refl _) _).alloc (by simp) _⟩

theorem parts_hollow (t : Ty) (w : World) :
    Calls Tryz.prog 48 #[.iface t.id (.pointer none)] w fun e w' => e = .returned (.tuple #[.slice none 0 0, .int .i64 8]) ∧ Below w.heap.size w w' := by
  have HM := fun w => hol_hollow t w
  go_enter Tryz.func48, Tryz.ntmps48
  go_wp2_with fail
  refine (HM _).mono ?_
  rintro e w1 ⟨rfl, rfl⟩
  go_wp2
  exact bodyPost_ret (v := .tuple #[.slice none 0 0, .int .i64 8]) (by simp [results, Tryz.results48, go_sem]) rfl ⟨rfl, (Below.refl _ _).alloc (Nat.le_refl _) _⟩

theorem strokes_hollow (t : Ty) (x y n m : Int) (lk : Lk) (w : World) :
    Calls Tryz.prog 28 #[.iface t.id (.pointer none), .agg #[.int .i64 x, .int .i64 y, .int .i64 n, .int .i64 m], (Value.agg #[.int .u8 (lk.has : Nat), .int .u8 lk.r, .int .u8 lk.g, .int .u8 lk.b, .int .u8 lk.a, .int .u8 lk.r2, .int .u8 lk.g2, .int .u8 lk.b2, .int .u8 lk.a2, .bool lk.bd, .int .i64 lk.pad])] w fun e w' => e = .returned (.tuple #[.slice none 0 0, .int .i64 8]) ∧ Below w.heap.size w w' := by
  have HM := fun w => pai_hollow t w
  go_enter Tryz.func28, Tryz.ntmps28
  go_wp2_with fail
  refine (HM _).mono ?_
  rintro e w1 ⟨rfl, rfl⟩
  go_wp2
  exact bodyPost_ret (v := .tuple #[.slice none 0 0, .int .i64 8]) (by simp [results, Tryz.results28, go_sem]) rfl ⟨rfl, (((Below.refl _ w).alloc (Nat.le_refl _) _).alloc (by simp) _).alloc (by simp; omega) _⟩

theorem order_nil (w : World) :
    Calls Tryz.prog 42 #[.nilIface] w fun e w' => e = .returned (.tuple #[.int .i64 0, .int .i64 8]) ∧ Below w.heap.size w w' := by
  have HM := fun w => foc_nil w
  go_enter Tryz.func42, Tryz.ntmps42
  go_wp2_with fail
  refine (HM _).mono ?_
  rintro e w1 ⟨rfl, rfl⟩
  go_wp2
  exact bodyPost_ret (v := .tuple #[.int .i64 0, .int .i64 8]) (by simp [results, Tryz.results42, go_sem]) rfl ⟨rfl, Below.refl _ _⟩

theorem offset_nil (w : World) :
    Calls Tryz.prog 44 #[.nilIface] w fun e w' => e = .returned (.tuple #[.agg #[.int .i64 0, .int .i64 0], .int .i64 8]) ∧ Below w.heap.size w w' := by
  have HM := fun w => scr_nil w
  go_enter Tryz.func44, Tryz.ntmps44
  go_wp2_with fail
  refine (HM _).mono ?_
  rintro e w1 ⟨rfl, rfl⟩
  go_wp2
  exact bodyPost_ret (v := .tuple #[.agg #[.int .i64 0, .int .i64 0], .int .i64 8]) (by simp [results, Tryz.results44, go_sem]) rfl ⟨rfl, (Below.refl _ w).alloc (Nat.le_refl _) _⟩

theorem takes_nil (s : ByteArray) (w : World) :
    Calls Tryz.prog 46 #[.nilIface, .string s] w fun e w' => e = .returned (.tuple #[.bool false, .int .i64 8]) ∧ Below w.heap.size w w' := by
  have HM := fun w => acc_nil w
  go_enter Tryz.func46, Tryz.ntmps46
  go_wp2_with fail
  refine (HM _).mono ?_
  rintro e w1 ⟨rfl, rfl⟩
  go_wp2
  exact bodyPost_ret (v := .tuple #[.bool false, .int .i64 8]) (by simp [results, Tryz.results46, go_sem]) rfl ⟨rfl, ((Below.refl _ w).alloc (Nat.le_refl _) _).alloc (by simp) _⟩

theorem parts_nil (w : World) :
    Calls Tryz.prog 48 #[.nilIface] w fun e w' => e = .returned (.tuple #[.slice none 0 0, .int .i64 8]) ∧ Below w.heap.size w w' := by
  have HM := fun w => hol_nil w
  go_enter Tryz.func48, Tryz.ntmps48
  go_wp2_with fail
  refine (HM _).mono ?_
  rintro e w1 ⟨rfl, rfl⟩
  go_wp2
  exact bodyPost_ret (v := .tuple #[.slice none 0 0, .int .i64 8]) (by simp [results, Tryz.results48, go_sem]) rfl ⟨rfl, (Below.refl _ _).alloc (Nat.le_refl _) _⟩

theorem strokes_nil (x y n m : Int) (lk : Lk) (w : World) :
    Calls Tryz.prog 28 #[.nilIface, .agg #[.int .i64 x, .int .i64 y, .int .i64 n, .int .i64 m], (Value.agg #[.int .u8 (lk.has : Nat), .int .u8 lk.r, .int .u8 lk.g, .int .u8 lk.b, .int .u8 lk.a, .int .u8 lk.r2, .int .u8 lk.g2, .int .u8 lk.b2, .int .u8 lk.a2, .bool lk.bd, .int .i64 lk.pad])] w fun e w' => e = .returned (.tuple #[.slice none 0 0, .int .i64 8]) ∧ Below w.heap.size w w' := by
  have HM := fun w => pai_nil w
  go_enter Tryz.func28, Tryz.ntmps28
  go_wp2_with fail
  refine (HM _).mono ?_
  rintro e w1 ⟨rfl, rfl⟩
  go_wp2
  exact bodyPost_ret (v := .tuple #[.slice none 0 0, .int .i64 8]) (by simp [results, Tryz.results28, go_sem]) rfl ⟨rfl, (((Below.refl _ w).alloc (Nat.le_refl _) _).alloc (by simp) _).alloc (by simp; omega) _⟩

end Go.Proofs.YtbnbfgkcndomaabGreatDoor
