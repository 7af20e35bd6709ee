/-
  The statements' own question whether a rule holds.
-/
import Derived.Test.YtobmpjmpffnoiaaDoorSX5
namespace Go.Proofs.YtobmpjmpffnoiaaDoor
open Go.RowKit Go.Shelf

def l8 : Lk := ⟨8, 0, 0, 0, 0, 0, 0, 0, 0, false, 7⟩
def as8 (r : Rl) : Rl := { r with look := l8 }
theorem chk_one {r : Rl} (h : okR r = true) : chkR [as8 r] = 0 := by
  have : okR (as8 r) = true := by
    unfold okR at h ⊢
    simp only [Bool.and_eq_true] at h
    show (decide (r.kind ≤ 10) && okC r.cls && decide (r.state ≤ 15) && okL l8) = true
    simp only [Bool.and_eq_true]
    exact ⟨⟨⟨h.1.1.1, h.1.1.2⟩, h.1.2⟩, by decide +kernel⟩
  unfold chkR
  rw [if_neg (by simp), if_pos (by simp [this])]
theorem held_one {r : Rl} {kind : Nat} {t : ByteArray} {st : Nat} {l : List Nat} (h : Held [as8 r] kind t st l) : whN [as8 r] 8 (bwd l l.length) = (bif hld r kind t st then 0 else -1) := by
  have eh : hs [as8 r] kind t st [as8 r].length = if hld r kind t st then [0] else [] := by
    show hs [as8 r] kind t st 1 = _
    rw [hs_succ]
    rfl
  cases hh : hld r kind t st
  · have : l = [] := held_is h rfl fun x => by rw [eh, hh]; simp
    subst this
    rfl
  · have : l = [0] := held_is h rfl fun x => by rw [eh, hh]; simp
    subst this
    unfold whN
    have e : tells [as8 r] 8 0 = true := by
      show (bits .and .u8 ((8 : Nat) : Int) ((8 : Nat) : Int) != 0) = true
      decide +kernel
    show (match List.find? (fun x : Nat × Nat => tells [as8 r] 8 x.2) [(0, 0)] with | some x => (x.2 : Int) | none => -1) = _
    rw [List.find?_cons_of_pos (p := fun x : Nat × Nat => tells [as8 r] 8 x.2) (a := (0, 0)) e]
    rfl

theorem rules_one {W : World} {g : Nat} {r : Rl} {t : TypeId} (h : Blk W g (#[.int .u8 (r.kind : Nat), .string r.cls, .int .u8 (r.state : Nat), .int .u8 (r.look.has : Nat), .int .u8 r.look.r, .int .u8 r.look.g, .int .u8 r.look.b, .int .u8 r.look.a, .int .u8 r.look.r2, .int .u8 r.look.g2, .int .u8 r.look.b2, .int .u8 r.look.a2, .bool r.look.bd, .int .i64 r.look.pad]) t) : Rules W (.slice (some ⟨g, 0, none⟩) 1 1) [r] := by
  refine ⟨_, 1, rfl, Nat.le_refl _, fun _ => ⟨g, 0, rfl, h.lt, fun i hi => ?_⟩⟩
  match i, hi with
  | 0, _ => exact ⟨h.cell 0, h.cell 1, h.cell 2, h.cell 3, h.cell 4, h.cell 5, h.cell 6, h.cell 7, h.cell 8, h.cell 9, h.cell 10, h.cell 11, h.cell 12, h.cell 13⟩
  | n + 1, hi => exact absurd hi (by simp)

set_option maxHeartbeats 2000000 in
theorem lholds_any (r : Rl) (kind : Nat) (t : ByteArray) (st : Nat) (w : World) (hT : Tab w) (hr : okR r = true) (hw : r.cls.size ≤ 9223372036854775807 ∧ r.wf) (ht : t.size < 1000000000) :
    Calls Tryd.prog 27 #[(Value.agg #[.int .u8 (r.kind : Nat), .string r.cls, .int .u8 (r.state : Nat), .int .u8 (r.look.has : Nat), .int .u8 r.look.r, .int .u8 r.look.g, .int .u8 r.look.b, .int .u8 r.look.a, .int .u8 r.look.r2, .int .u8 r.look.g2, .int .u8 r.look.b2, .int .u8 r.look.a2, .bool r.look.bd, .int .i64 r.look.pad]), .int .u8 (kind : Nat), .string t, .int .u8 (st : Nat)] w fun e w' => e = .returned (.bool (hld r kind t st)) ∧ Below w.heap.size w w' := by
  have hW : Hid (∀ W v, Tab W → Rules W v [as8 r] → Calls Tryd.prog 17 #[v, .int .u8 (kind : Nat), .string t, .int .u8 (st : Nat), .int .u8 8] W fun e w' => e = .returned (.tuple #[.int .i64 (bif hld r kind t st then 0 else -1), .int .i64 0]) ∧ Below W.heap.size W w') := fun W v hT hv =>
    (which_ok [as8 r] v kind t st 8 W hT hv (fun x hx => by simp at hx; subst hx; exact ⟨hw.1, hw.2.1, hw.2.2.1, show 8 < 256 by decide⟩) ht (by simp) (chk_one hr) (by decide +kernel)).mono fun e w'' ⟨l, hl, he, hb⟩ => by
      rw [held_one hl] at he
      exact ⟨he, hb⟩
  go_enter Tryd.func27, Tryd.ntmps27
  go_wp2_with fail
  have K := rules_one (Blk.new (w.alloc (.cells (#[.int .u8 ((as8 r).kind : Nat), .string (as8 r).cls, .int .u8 ((as8 r).state : Nat), .int .u8 ((as8 r).look.has : Nat), .int .u8 (as8 r).look.r, .int .u8 (as8 r).look.g, .int .u8 (as8 r).look.b, .int .u8 (as8 r).look.a, .int .u8 (as8 r).look.r2, .int .u8 (as8 r).look.g2, .int .u8 (as8 r).look.b2, .int .u8 (as8 r).look.a2, .bool (as8 r).look.bd, .int .i64 (as8 r).look.pad]) 35)) (#[.int .u8 ((as8 r).kind : Nat), .string (as8 r).cls, .int .u8 ((as8 r).state : Nat), .int .u8 ((as8 r).look.has : Nat), .int .u8 (as8 r).look.r, .int .u8 (as8 r).look.g, .int .u8 (as8 r).look.b, .int .u8 (as8 r).look.a, .int .u8 (as8 r).look.r2, .int .u8 (as8 r).look.g2, .int .u8 (as8 r).look.b2, .int .u8 (as8 r).look.a2, .bool (as8 r).look.bd, .int .i64 (as8 r).look.pad]) 35)
  have L : Below w.heap.size w ((w.alloc (.cells (#[.int .u8 ((as8 r).kind : Nat), .string (as8 r).cls, .int .u8 ((as8 r).state : Nat), .int .u8 ((as8 r).look.has : Nat), .int .u8 (as8 r).look.r, .int .u8 (as8 r).look.g, .int .u8 (as8 r).look.b, .int .u8 (as8 r).look.a, .int .u8 (as8 r).look.r2, .int .u8 (as8 r).look.g2, .int .u8 (as8 r).look.b2, .int .u8 (as8 r).look.a2, .bool (as8 r).look.bd, .int .i64 (as8 r).look.pad]) 35)).alloc (.cells (#[.int .u8 ((as8 r).kind : Nat), .string (as8 r).cls, .int .u8 ((as8 r).state : Nat), .int .u8 ((as8 r).look.has : Nat), .int .u8 (as8 r).look.r, .int .u8 (as8 r).look.g, .int .u8 (as8 r).look.b, .int .u8 (as8 r).look.a, .int .u8 (as8 r).look.r2, .int .u8 (as8 r).look.g2, .int .u8 (as8 r).look.b2, .int .u8 (as8 r).look.a2, .bool (as8 r).look.bd, .int .i64 (as8 r).look.pad]) 35)) := ((Below.refl _ w).alloc (Nat.le_refl _) _).alloc (by simp) _
  rw [World.size_alloc] at K
  refine (hW.out _ _ (hT.below L) K).mono ?_
  rintro e w1 ⟨rfl, hb⟩
  have HL : Hid (Below w.heap.size w w1) := L.trans (hb.mono L.size)
  clear hb L K hW
  cases hh : hld r kind t st
  · go_wp2
    go_ret
    exact ⟨by rw [hh]; rfl, HL.out⟩
  · go_wp2
    go_ret
    exact ⟨by rw [hh]; rfl, HL.out⟩

end Go.Proofs.YtobmpjmpffnoiaaDoor
