/-
  Texts of this claim, one behind the other: what each is about stands ahead of it.
-/
import Derived.Test.YtapachlhdgehjaaGreatDoorK29
import Derived.Test.YtapachlhdgehjaaGreatDoorK22
import Derived.Test.YtapachlhdgehjaaGreatDoorK23
/-
  The document's comparing of screens (stage 15).
-/
namespace Go.Proofs.YtapachlhdgehjaaGreatDoor
open Go.RowKit

set_option maxRecDepth 20000 in
set_option maxHeartbeats 4000000 in
theorem scr15_any (p q : Int) (L : List Ce) (va vb : Value) (w : World) (ha : LsC w va L) (hb : LsC w vb L) (hl : L.length < 1000000) :
    Calls Tryz.prog 10 #[.agg #[.int .i64 p, .int .i64 q, va], .agg #[.int .i64 p, .int .i64 q, vb]] w fun e w' => e = .returned (.bool true) ∧ Below w.heap.size w w' := by
  obtain ⟨oa, ca, rfl, hca, hga⟩ := ha
  obtain ⟨ob, cb, rfl, hcb, hgb⟩ := hb
  obtain ⟨m, hm⟩ : ∃ m, m = L.length := ⟨_, rfl⟩
  have HA : Hid (0 < L.length → ∃ g o, oa = some ⟨g, o, none⟩ ∧ g < w.heap.size ∧ ∀ i (h : i < L.length), CeAt w g (o + i * 11) L[i]) := hga
  have HB : Hid (0 < L.length → ∃ g o, ob = some ⟨g, o, none⟩ ∧ g < w.heap.size ∧ ∀ i (h : i < L.length), CeAt w g (o + i * 11) L[i]) := hgb
  have HM : Hid (L.length = m) := hm.symm
  rw [← hm]
  rw [← hm] at hl
  obtain ⟨W2, hW2⟩ : ∃ W2, W2 = (w.alloc (.cells #[.int .i64 p, .int .i64 q, .slice oa m ca] 26)).alloc (.cells #[.int .i64 p, .int .i64 q, .slice ob m cb] 26) := ⟨_, rfl⟩
  have H2 : Hid (Bk W2 w.heap.size #[.int .i64 p, .int .i64 q, .slice oa m ca] 26 ∧ Bk W2 (w.heap.size + 1) #[.int .i64 p, .int .i64 q, .slice ob m cb] 26 ∧ Below w.heap.size w W2) := by
    have k1 := Bk.new w #[.int .i64 p, .int .i64 q, .slice oa m ca] 26
    have k2 := Bk.new (w.alloc (.cells #[.int .i64 p, .int .i64 q, .slice oa m ca] 26)) #[.int .i64 p, .int .i64 q, .slice ob m cb] 26
    simp only [World.size_alloc] at k2
    rw [hW2]
    exact ⟨k1.below ((Below.refl _ _).alloc (Nat.le_refl _) _), k2, ((Below.refl _ w).alloc (Nat.le_refl _) _).alloc (by simp) _⟩
  clear hga hgb hm hca hcb
  go_enter Tryz.func10, Tryz.ntmps10
  go_wp2_with fail
  rw [← hW2]
  clear hW2
  go_loopw [5] (fun i wr => ∃ k : Nat, k ≤ m ∧ i = .int .i64 k ∧ Hid (Below W2.heap.size W2 wr)) (fun i _ => m - (intOf i).toNat)
  case atStart => exact ⟨0, Nat.zero_le _, rfl, Below.refl _ _⟩
  case round =>
    obtain ⟨k, hk, rfl, HK⟩ := hrel
    have c0 := (H2.out.1.below HK.out).cell 2
    have c1 := (H2.out.2.1.below HK.out).cell 2
    simp only [List.getElem?_toArray, List.getElem?_cons_zero, List.getElem?_cons_succ] at c0 c1
    have HW : Hid (Below w.heap.size w wr) := H2.out.2.2.trans (HK.out.mono H2.out.2.2.size)
    by_cases hlt : k < m
    · have ik : (k : Int) < m := by omega
      have hla : k < L.length := by rw [HM.out]; exact hlt
      obtain ⟨g, o, rfl, hg, hat⟩ := HA.out (by omega)
      obtain ⟨g', o', rfl, hg', hat'⟩ := HB.out (by omega)
      have hx := (hat k hla).kept (w' := wr) fun j => HW.out.cell (p := ⟨g, j, none⟩) hg
      have hy := (hat' k hla).kept (w' := wr) fun j => HW.out.cell (p := ⟨g', j, none⟩) hg'
      clear hat hat'
      generalize L[k] = x at *
      obtain ⟨x0, x1, x2, x3, x4, x5, x6, x7, x8, x9, x10⟩ := hx
      obtain ⟨y0, y1, y2, y3, y4, y5, y6, y7, y8, y9, y10⟩ := hy
      have hq := neq_cellS x
      have HF : Hid (Below W2.heap.size W2 wr) := HK.out
      clear HK hla HW
      go_wp2_with fail
      go_quiet (fail)
      go_wp2
      go_roundw
      case rel => exact ⟨k + 1, by omega, by go_num, below_drewN HF.out⟩
      case measure => simp [intOf]; omega
    · obtain rfl : k = m := by omega
      go_wp2
      go_ret
      exact ⟨rfl, HW.out⟩

end Go.Proofs.YtapachlhdgehjaaGreatDoor

/-
  The statements' own lists of strokes: lent, kept, written over.
-/
namespace Go.Proofs.YtapachlhdgehjaaGreatDoor
open Go.RowKit

end Go.Proofs.YtapachlhdgehjaaGreatDoor

/-
  Contracts of the document's answer for layer 13: Join, Moved.
-/
namespace Go.Proofs.YtapachlhdgehjaaGreatDoor
open Go.RowKit

def joiE (a b : List St) : Int := if chkS a = 0 then (if chkS b = 0 then (if 16384 < a.length + b.length then 4 else 0) else chkS b) else chkS a
def joiL (a b : List St) : List St := if joiE a b = 0 then a ++ b else []

theorem app_moreS {P : Program} {w : World} {ops : Array Oper} {rest : List Oper} {o : Oper} {a : Act} {Q : Exit → Act → World → Prop} (hgd : o.guard = none) (s x : Operand)
    (ho : o.op = .call { callee := .builtin .append, args := #[s, x], argTypes := #[27, 27] })
    (i : TypeInfo) (ht : P.underlying 27 = some (.slice 55)) (hi : P.info? 55 = some i) (hz : i.zero = some (.agg #[.int .u8 0, .int .i64 0, .int .i64 0, .int .i64 0, .int .i64 0, .int .u8 0, .int .u8 0, .int .u8 0, .int .u8 0, .int .u8 0, .int .u8 0, .int .u8 0, .int .u8 0, .string ByteArray.empty, .int .i64 0]))
    (hsize : i.size = 15) (hby : i.bytes = 72) (lo : Nat) (u : Value) (qs : List St) (n : Nat) (hn0 : n = qs.length) (hs : a.eval s = u) (hown : w.ownsRow lo 55 15 u n (flatZ qs)) (hlo : lo ≤ w.heap.size) (rs : List St) (oa : Option Addr) (cap : Nat) (m : Nat) (hm : m = rs.length) (hx : a.eval x = .slice oa m cap) (hv : LsS w (.slice oa m cap) rs) (hn : NoNil (.slice oa m cap))
    (hl : n + m ≤ 100000) (h : ∀ v' w', Hid (OwS lo w' v' (qs ++ rs) ∧ w.grownBy w' u.ownBlock) → wpList P ops Q rest (a.put o.dst v') w') : wpList P ops Q (o :: rest) a w := by
  subst hm
  cases oa with
  | none =>
    have h0 : rs = [] := by
      obtain ⟨oa, cap', e, _, hg⟩ := hv
      cases rs with
      | nil => rfl
      | cons r t =>
        obtain ⟨g, o, e2, _⟩ := hg (by simp)
        injection e with e1 _ _
        rw [e2] at e1
        cases e1
    subst h0
    obtain rfl : cap = 0 := hn cap rfl
    refine app_none hgd s x _ ho lo 55 i 15 ht hi u n (flatZ qs) hs hown hx ?_
    rintro _ _ rfl rfl
    refine h _ _ ⟨?_, World.grownBy.refl _ _⟩
    rw [List.append_nil]
    unfold OwS
    rw [← hn0]
    exact hown
  | some ad =>
    refine wpList_append_own _ hgd s x _ ho lo 55 i (.agg #[.int .u8 0, .int .i64 0, .int .i64 0, .int .i64 0, .int .i64 0, .int .u8 0, .int .u8 0, .int .u8 0, .int .u8 0, .int .u8 0, .int .u8 0, .int .u8 0, .int .u8 0, .string ByteArray.empty, .int .i64 0]) 15 72 ht hi hz hsize hby rfl (by decide) u n (flatZ qs) hs hown ad rs.length cap (flatZ rs) hx (flatZ_len rs) ?_ (onesZ rs) (by unfold maxLen; omega) (by omega) hlo ?_
    · intro j u' hj
      obtain ⟨oa, cap', e, _, hg⟩ := hv
      have hp : 0 < rs.length := by
        cases rs with
        | nil => simp [flatZ] at hj
        | cons r t => simp
      obtain ⟨g, o, e2, _, hat⟩ := hg hp
      injection e with e1 _ _
      rw [e2] at e1
      injection e1 with e1
      subst e1
      exact lss_src hat j u' hj
    · intro v' w' h2 h3 _
      refine h v' w' ⟨?_, h3⟩
      unfold OwS
      rw [List.length_append, ← hn0, flatZ_app]
      exact h2

end Go.Proofs.YtapachlhdgehjaaGreatDoor
