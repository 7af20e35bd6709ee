/-
  The call Parts of a part that holds none; bit.
-/
import Derived.Test.YtdbafcldpleogaaGreatDoorUK
import Derived.Test.YtdbafcldpleogaaGreatDoorUF
namespace Go.Proofs.YtdbafcldpleogaaGreatDoor
open Go.RowKit Go.Shelf

theorem fParts_nil (w : World) :
    Calls Tryz.prog 173 #[.agg #[.slice none 0 0]] w fun e w' => e = .returned (.slice none 0 0) ∧ Below w.heap.size w w' := by
  have h := fun w => clone_nil w
  go_enter Tryz.func173, Tryz.ntmps173
  go_wp2_with fail
  refine (h _).mono ?_
  rintro e w1 ⟨rfl, rfl⟩
  go_wp2
  go_ret
  exact ⟨rfl, (Below.refl _ w).alloc (Nat.le_refl _) _⟩

theorem par1_nil (p : Pt) (b g : Nat) (w : World) (h : PtIn w b p) (ht : p.t.hol = true) (h0 : p.pa = none ∧ p.pn = 0 ∧ p.pc = 0) (hg : w.cell? ⟨g, 0, none⟩ = some (.iface p.t.id (.pointer (some ⟨b, 0, none⟩)))) :
    Calls Tryz.prog 53 #[.pointer (some ⟨g, 0, none⟩)] w fun e w' => e = .returned (.slice none 0 0) ∧ Below w.heap.size w w' := by
  have hm := h.par ht
  rw [h0.1, h0.2.1, h0.2.2] at hm
  have h2 := fun w => clone_nil w
  clear h ht h0
  go_enter Tryz.func53, Tryz.ntmps53
  go_wp2_with fail
  refine (fParts_nil _).mono ?_
  rintro e w1 ⟨rfl, hb⟩
  go_wp2_with fail
  refine (h2 _).mono ?_
  rintro e w2 ⟨rfl, rfl⟩
  go_wp2
  go_ret
  exact ⟨rfl, hb⟩

set_option maxHeartbeats 1000000 in
theorem ans_parts (c0 : Value) (oa : Option Addr) (n c : Nat) (w : World)
    (hf : ∀ w', Below w.heap.size w w' → Calls Tryz.prog 53 #[c0] w' fun e w'' => e = .returned (.slice oa n c) ∧ Below w'.heap.size w' w'') :
    Calls Tryz.prog 52 #[.func (.func 53) #[] #[c0]] w fun e w' => e = .returned (.tuple #[.slice oa n c, .int .i64 0]) ∧ Below w.heap.size w w' := by
  have hmf : ∀ (fn : Fn) (first cap : Array Value) (w : World), (Instr.makeFunc fn first cap).run Tryz.prog w = .ok (.func fn first cap) w := fun _ _ _ _ => rfl
  have HF : Hid (∀ w', Below w.heap.size w w' → Calls Tryz.prog 53 #[c0] w' fun e w'' => e = .returned (.slice oa n c) ∧ Below w'.heap.size w' w'') := hf
  clear hf
  go_enter_defers Tryz.func52, Tryz.ntmps52
  go_wp2_with fail
  obtain ⟨W, hW⟩ : ∃ W, W = w.alloc (.cells #[.int .i64 0] 39) := ⟨_, rfl⟩
  rw [← hW]
  have B : Blk W w.heap.size #[.int .i64 0] 39 := by rw [hW]; exact Blk.new _ _ _
  have L : Below w.heap.size w W := by rw [hW]; exact (Below.refl _ w).alloc (Nat.le_refl _) _
  clear hW
  refine (HF.out W L).mono ?_
  rintro e w1 ⟨rfl, hb⟩
  replace B := B.below hb
  replace L := L.trans (hb.mono L.size)
  clear hb HF
  have b0 := B.cell 0
  have fb := B.frozen
  have HL : Hid (Below w.heap.size w w1) := L
  clear B L
  go_wp2_with fail
  refine leaves_cons (f := 83) (args := #[.pointer (some ⟨w.heap.size, 0, none⟩)]) (by simp) (by simp [go_sem]) ?_
  refine (catch_parts _ _).mono ?_
  rintro e u' w'' ⟨rfl, rfl, rfl⟩
  refine ⟨.tuple #[.slice oa n c, .int .i64 0], ?_, rfl, ?_⟩
  · simp [results, Tryz.results52, go_sem, b0]
  · exact HL.out.setCell (Nat.le_refl _) _

set_option maxHeartbeats 1000000 in
theorem parts_none (p : Pt) (b : Nat) (w : World) (h : PtIn w b p) (hk : kindB p.k = true) (h0 : p.pa = none ∧ p.pn = 0 ∧ p.pc = 0) :
    Calls Tryz.prog 22 #[.iface p.t.id (.pointer (some ⟨b, 0, none⟩))] w fun e w' => e = .returned (.tuple #[.slice none 0 0, .int .i64 (if p.t.hol then 0 else 8)]) ∧ Below w.heap.size w w' := by
  have hmf : ∀ (fn : Fn) (first cap : Array Value) (w : World), (Instr.makeFunc fn first cap).run Tryz.prog w = .ok (.func fn first cap) w := fun _ _ _ _ => rfl
  have HM := hol_made p.t b p.k w h.kind.1 hk
  have HP : Hid (PtIn w b p ∧ p.pa = none ∧ p.pn = 0 ∧ p.pc = 0) := ⟨h, h0⟩
  clear h hk h0
  cases hm : p.t.hol
  · rw [hm] at HM
    clear hm
    go_enter Tryz.func22, Tryz.ntmps22
    go_wp2_with fail
    refine HM.mono ?_
    rintro e w1 ⟨rfl, rfl⟩
    go_wp2
    exact bodyPost_ret (v := .tuple #[.slice none 0 0, .int .i64 8]) (by simp [results, Tryz.results22, go_sem]) rfl ⟨rfl, (Below.refl _ _).alloc (Nat.le_refl _) _⟩
  · rw [hm] at HM
    have HT : Hid (p.t.hol = true) := hm
    clear hm
    go_enter Tryz.func22, Tryz.ntmps22
    go_wp2_with fail
    refine HM.mono ?_
    rintro e w1 ⟨rfl, rfl⟩
    go_wp2_with fail
    have C := Blk.new w1 #[.iface p.t.id (.pointer (some ⟨b, 0, none⟩))] 110
    have L := (Below.refl _ w1).alloc (Nat.le_refl _) (.cells #[.iface p.t.id (.pointer (some ⟨b, 0, none⟩))] 110)
    refine (ans_parts _ none 0 0 _ (fun w2 hb => par1_nil p b _ w2 ((HP.out.1.below L).below hb) HT.out HP.out.2 ((C.below hb).cell 0))).mono ?_
    rintro e w2 ⟨rfl, hb⟩
    replace L := L.trans (hb.mono L.size)
    clear C hb HM
    go_wp2
    exact bodyPost_ret (v := .tuple #[.slice none 0 0, .int .i64 0]) (by simp [results, Tryz.results22, go_sem]) rfl ⟨rfl, L⟩

theorem bit_any (e a : Int) (w : World) :
    Calls Tryz.prog 33 #[.int .i64 e, .int .u16 a] w fun e' w' => e' = .returned (.int .u16 (if e = 0 then a else 0)) ∧ w' = w := by
  by_cases h : e = 0
  · subst h
    go_enter Tryz.func33, Tryz.ntmps33
    go_wp2
    go_ret
    exact ⟨rfl, rfl⟩
  · rw [if_neg h]
    have h' : (e == 0) = false := beq_eq_false_iff_ne.2 h
    clear h
    go_enter Tryz.func33, Tryz.ntmps33
    go_wp2
    go_ret
    exact ⟨rfl, rfl⟩

end Go.Proofs.YtdbafcldpleogaaGreatDoor
