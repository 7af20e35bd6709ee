/-
  Texts of this claim, one behind the other: what each is about stands ahead of it.
-/
import Derived.Test.YtdmhcmngajmghaaGreatDoorK3
import Derived.Test.YtdmhcmngajmghaaGreatDoorK1
import Derived.BigQuiet
import Derived.Test.YtdmhcmngajmghaaGreatDoorK20
import Derived.Test.YtdmhcmngajmghaaGreatDoorK25
import Derived.Test.YtdmhcmngajmghaaGreatDoorK16
import Derived.WalkMore
import Derived.Maps.AppendAt
/-
  Contracts of the document's answer for layer 13: lists compared.
-/
namespace Go.Proofs.YtdmhcmngajmghaaGreatDoor
open Go.RowKit

/-- Two lists of strokes, compared. -/
def samZ : List St → List St → Bool
  | [], [] => true
  | x :: a, y :: b => eqS x y && samZ a b
  | _, _ => false
theorem samZ_iff : ∀ a b : List St, samZ a b = true ↔ a = b
  | [], [] => by simp [samZ]
  | [], _ :: _ => by simp [samZ]
  | _ :: _, [] => by simp [samZ]
  | x :: a, y :: b => by rw [samZ, Bool.and_eq_true, eqS_iff, samZ_iff a b]; simp
theorem samZ_self (a : List St) : samZ a a = true := (samZ_iff a a).2 rfl
theorem samZ_no {a b : List St} (h : a ≠ b) : samZ a b = false := by
  cases e : samZ a b
  · rfl
  · exact absurd ((samZ_iff a b).1 e) h

theorem cell_strokeB (w : World) (s : St) (t : TypeId) (b : Nat) (h : b = w.heap.size) : ∀ (j : Nat) (u : Value), (sCel s)[j]? = some u → (w.alloc (.cells (#[.int .u8 s.k, .int .i64 s.r.x, .int .i64 s.r.y, .int .i64 s.r.w, .int .i64 s.r.h, .int .u8 s.c.r, .int .u8 s.c.g, .int .u8 s.c.b, .int .u8 s.c.a, .int .u8 s.b.r, .int .u8 s.b.g, .int .u8 s.b.b, .int .u8 s.b.a, .string s.t, .int .i64 s.n]) t)).cell? ((⟨b, 0, none⟩ : Addr).add j) = some u := by
  intro j u hj
  subst h
  have e : (⟨w.heap.size, 0, none⟩ : Addr).add j = ⟨w.heap.size, j, none⟩ := by
    simp [Addr.add]
    intro h
    exact h.symm
  rw [e, (Bk.new w (#[.int .u8 s.k, .int .i64 s.r.x, .int .i64 s.r.y, .int .i64 s.r.w, .int .i64 s.r.h, .int .u8 s.c.r, .int .u8 s.c.g, .int .u8 s.c.b, .int .u8 s.c.a, .int .u8 s.b.r, .int .u8 s.b.g, .int .u8 s.b.b, .int .u8 s.b.a, .string s.t, .int .i64 s.n]) t).cell j, ← hj]
  show (sCel s).toArray[j]? = _
  simp

end Go.Proofs.YtdmhcmngajmghaaGreatDoor

/-
  The statements' own comparing of lists, of screens (stage 16).
-/
namespace Go.Proofs.YtdmhcmngajmghaaGreatDoor
open Go.RowKit

set_option maxRecDepth 20000 in
set_option maxHeartbeats 4000000 in
theorem same16_any (a b : List St) (va vb : Value) (w : World) (ha : LsS w va a) (hb : LsS w vb b) (hl : a.length < 1000000) :
    Calls Tryz.prog 7 #[va, vb] w fun e w' => e = .returned (.bool (samZ a b)) ∧ Below w.heap.size w w' := by
  obtain ⟨oa, ca, rfl, hca, hga⟩ := ha
  obtain ⟨ob, cb, rfl, hcb, hgb⟩ := hb
  by_cases hn : a.length = b.length
  case neg =>
    have hn' : ((a.length : Int) == (b.length : Int)) = false := beq_eq_false_iff_ne.2 (by omega)
    rw [samZ_no (fun h => hn (by rw [h]))]
    clear hga hgb hn
    go_enter Tryz.func7, Tryz.ntmps7
    go_wp2
    go_ret
    exact ⟨rfl, Below.refl _ _⟩
  case pos =>
    have HA : Hid (0 < a.length → ∃ g o, oa = some ⟨g, o, none⟩ ∧ g < w.heap.size ∧ ∀ i (h : i < a.length), StAt w g (o + i * 15) a[i]) := hga
    have HB : Hid (0 < b.length → ∃ g o, ob = some ⟨g, o, none⟩ ∧ g < w.heap.size ∧ ∀ i (h : i < b.length), StAt w g (o + i * 15) b[i]) := hgb
    obtain ⟨R, HR⟩ : ∃ R, Hid (samZ a b = R) := ⟨_, rfl⟩
    rw [HR.out]
    have HN : Hid (a.length = b.length) := hn
    obtain ⟨m, hm⟩ : ∃ m, m = b.length := ⟨_, rfl⟩
    have hm2 : a.length = m := by rw [hm]; exact hn
    have HM : Hid (b.length = m ∧ a.length = m) := ⟨hm.symm, hm2⟩
    rw [← hm]
    rw [hm2]
    rw [hm2] at hl
    clear hga hgb hn hm hm2 hca hcb
    go_enter Tryz.func7, Tryz.ntmps7
    go_wp2_with fail
    go_loopw [5] (fun i wr => ∃ k : Nat, k ≤ m ∧ i = .int .i64 k ∧ Hid ((∀ j, j < k → a[j]? = b[j]?) ∧ Below w.heap.size w wr)) (fun i _ => m - (intOf i).toNat)
    case atStart => exact ⟨0, Nat.zero_le _, rfl, fun j hj => absurd hj (Nat.not_lt_zero _), Below.refl _ _⟩
    case round =>
      obtain ⟨k, hk, rfl, HK⟩ := hrel
      by_cases hlt : k < m
      · have ik : (k : Int) < m := by omega
        have hla : k < a.length := by rw [HM.out.2]; exact hlt
        have hlb : k < b.length := by rw [HM.out.1]; exact hlt
        obtain ⟨g, o, rfl, hg, hat⟩ := HA.out (by omega)
        obtain ⟨g', o', rfl, hg', hat'⟩ := HB.out (by omega)
        have hx := (hat k hla).kept (w' := wr) fun j => HK.out.2.cell (p := ⟨g, j, none⟩) hg
        have hy := (hat' k hlb).kept (w' := wr) fun j => HK.out.2.cell (p := ⟨g', j, none⟩) hg'
        have HE : Hid (a[k]? = some a[k] ∧ b[k]? = some b[k]) := ⟨List.getElem?_eq_getElem hla, List.getElem?_eq_getElem hlb⟩
        clear hat hat'
        generalize a[k] = x at *
        generalize b[k] = y at *
        obtain ⟨x0, x1, x2, x3, x4, x5, x6, x7, x8, x9, x10, x11, x12, x13, x14⟩ := hx
        obtain ⟨y0, y1, y2, y3, y4, y5, y6, y7, y8, y9, y10, y11, y12, y13, y14⟩ := hy
        have hq := neq_stroke x y
        cases ht : eqS x y
        · have HF : Hid (R = false ∧ Below w.heap.size w wr) := by
            refine ⟨?_, HK.out.2⟩
            rw [← HR.out]
            refine samZ_no fun e => ?_
            have h1 := HE.out.1
            rw [e, HE.out.2] at h1
            injection h1 with h1
            rw [h1, eqS_self] at ht
            cases ht
          rw [ht] at hq
          clear HK HE ht hla hlb
          go_wp2_with fail
          go_quiet (fail)
          go_wp2
          go_ret
          exact ⟨by rw [HF.out.1]; rfl, below_drewN HF.out.2⟩
        · have HF : Hid ((∀ j, j < k + 1 → a[j]? = b[j]?) ∧ Below w.heap.size w wr) := by
            refine ⟨fun j hj => ?_, HK.out.2⟩
            by_cases hjk : j = k
            · subst hjk; rw [HE.out.1, HE.out.2, (eqS_iff x y).1 ht]
            · exact HK.out.1 j (by omega)
          rw [ht] at hq
          clear HK HE ht hla hlb
          go_wp2_with fail
          go_quiet (fail)
          go_wp2
          go_roundw
          case rel => exact ⟨k + 1, by omega, by go_num, HF.out.1, below_drewN HF.out.2⟩
          case measure => simp [intOf]; omega
      · obtain rfl : k = m := by omega
        have HF : Hid (R = true ∧ Below w.heap.size w wr) := by
          refine ⟨?_, HK.out.2⟩
          rw [← HR.out, samZ_iff]
          refine List.ext_getElem? fun j => ?_
          by_cases hj : j < k
          · exact HK.out.1 j hj
          · rw [List.getElem?_eq_none (by have := HM.out.2; omega), List.getElem?_eq_none (by have := HM.out.1; omega)]
        clear HK
        go_wp2
        go_ret
        exact ⟨by rw [HF.out.1]; rfl, HF.out.2⟩

theorem neq_cellS (x : Ce) (w : World) : (binOp .neq 65 (Value.agg #[.int .i32 x.r, .int .u8 x.c.r, .int .u8 x.c.g, .int .u8 x.c.b, .int .u8 x.c.a, .int .u8 x.b.r, .int .u8 x.b.g, .int .u8 x.b.b, .int .u8 x.b.a, .bool x.wd, .bool x.tl]) (Value.agg #[.int .i32 x.r, .int .u8 x.c.r, .int .u8 x.c.g, .int .u8 x.c.b, .int .u8 x.c.a, .int .u8 x.b.r, .int .u8 x.b.g, .int .u8 x.b.b, .int .u8 x.b.a, .bool x.wd, .bool x.tl])).run Tryz.prog w = .ok (.bool false) w := by
  simp [go_sem]

set_option maxRecDepth 20000 in
set_option maxHeartbeats 4000000 in
theorem sameScr_any (p q : Int) (L : List Ce) (va vb : Value) (w : World) (ha : LsC w va L) (hb : LsC w vb L) (hl : L.length < 1000000) :
    Calls Tryz.prog 12 #[.agg #[.int .i64 p, .int .i64 q, va], .agg #[.int .i64 p, .int .i64 q, vb]] w fun e w' => e = .returned (.bool true) ∧ Below w.heap.size w w' := by
  obtain ⟨oa, ca, rfl, hca, hga⟩ := ha
  obtain ⟨ob, cb, rfl, hcb, hgb⟩ := hb
  obtain ⟨m, hm⟩ : ∃ m, m = L.length := ⟨_, rfl⟩
  have HA : Hid (0 < L.length → ∃ g o, oa = some ⟨g, o, none⟩ ∧ g < w.heap.size ∧ ∀ i (h : i < L.length), CeAt w g (o + i * 11) L[i]) := hga
  have HB : Hid (0 < L.length → ∃ g o, ob = some ⟨g, o, none⟩ ∧ g < w.heap.size ∧ ∀ i (h : i < L.length), CeAt w g (o + i * 11) L[i]) := hgb
  have HM : Hid (L.length = m) := hm.symm
  rw [← hm]
  rw [← hm] at hl
  obtain ⟨W2, hW2⟩ : ∃ W2, W2 = (w.alloc (.cells #[.int .i64 p, .int .i64 q, .slice oa m ca] 37)).alloc (.cells #[.int .i64 p, .int .i64 q, .slice ob m cb] 37) := ⟨_, rfl⟩
  have H2 : Hid (Bk W2 w.heap.size #[.int .i64 p, .int .i64 q, .slice oa m ca] 37 ∧ Bk W2 (w.heap.size + 1) #[.int .i64 p, .int .i64 q, .slice ob m cb] 37 ∧ Below w.heap.size w W2) := by
    have k1 := Bk.new w #[.int .i64 p, .int .i64 q, .slice oa m ca] 37
    have k2 := Bk.new (w.alloc (.cells #[.int .i64 p, .int .i64 q, .slice oa m ca] 37)) #[.int .i64 p, .int .i64 q, .slice ob m cb] 37
    simp only [World.size_alloc] at k2
    rw [hW2]
    exact ⟨k1.below ((Below.refl _ _).alloc (Nat.le_refl _) _), k2, ((Below.refl _ w).alloc (Nat.le_refl _) _).alloc (by simp) _⟩
  clear hga hgb hm hca hcb
  go_enter Tryz.func12, Tryz.ntmps12
  go_wp2_with fail
  rw [← hW2]
  clear hW2
  go_loopw [5] (fun i wr => ∃ k : Nat, k ≤ m ∧ i = .int .i64 k ∧ Hid (Below W2.heap.size W2 wr)) (fun i _ => m - (intOf i).toNat)
  case atStart => exact ⟨0, Nat.zero_le _, rfl, Below.refl _ _⟩
  case round =>
    obtain ⟨k, hk, rfl, HK⟩ := hrel
    have c0 := (H2.out.1.below HK.out).cell 2
    have c1 := (H2.out.2.1.below HK.out).cell 2
    simp only [List.getElem?_toArray, List.getElem?_cons_zero, List.getElem?_cons_succ] at c0 c1
    have HW : Hid (Below w.heap.size w wr) := H2.out.2.2.trans (HK.out.mono H2.out.2.2.size)
    by_cases hlt : k < m
    · have ik : (k : Int) < m := by omega
      have hla : k < L.length := by rw [HM.out]; exact hlt
      obtain ⟨g, o, rfl, hg, hat⟩ := HA.out (by omega)
      obtain ⟨g', o', rfl, hg', hat'⟩ := HB.out (by omega)
      have hx := (hat k hla).kept (w' := wr) fun j => HW.out.cell (p := ⟨g, j, none⟩) hg
      have hy := (hat' k hla).kept (w' := wr) fun j => HW.out.cell (p := ⟨g', j, none⟩) hg'
      clear hat hat'
      generalize L[k] = x at *
      obtain ⟨x0, x1, x2, x3, x4, x5, x6, x7, x8, x9, x10⟩ := hx
      obtain ⟨y0, y1, y2, y3, y4, y5, y6, y7, y8, y9, y10⟩ := hy
      have hq := neq_cellS x
      have HF : Hid (Below W2.heap.size W2 wr) := HK.out
      clear HK hla HW
      go_wp2_with fail
      go_quiet (fail)
      go_wp2
      go_roundw
      case rel => exact ⟨k + 1, by omega, by go_num, below_drewN HF.out⟩
      case measure => simp [intOf]; omega
    · obtain rfl : k = m := by omega
      go_wp2
      go_ret
      exact ⟨rfl, HW.out⟩

end Go.Proofs.YtdmhcmngajmghaaGreatDoor

/-
  A list drawn on a screen, in plain words: stroke by stroke is place by place.
-/
namespace Go.Proofs.YtdmhcmngajmghaaGreatDoor
open Go.RowKit

/-- The screen behind strokes with their rectangles, place by place. -/
def drwS (a : Nat) (L : List Ce) (A : List (St × Rc)) : List Ce := L.mapIdx fun k c => drwC wrP overC (k % a : Nat) (k / a : Nat) c A
theorem drwS_len (a : Nat) (L : List Ce) (A : List (St × Rc)) : (drwS a L A).length = L.length := by simp [drwS]
theorem drwS_nil (a : Nat) (L : List Ce) : drwS a L [] = L := by
  apply List.ext_getElem (drwS_len _ _ _)
  intro k h1 h2
  simp [drwS, drwC]
/-- The area of a screen in which a stroke shows. -/
def areZ (a b : Nat) (q : Rc) : Rc := zMe q ⟨0, 0, a, b⟩
/-- One stroke. -/
def stpS (a b : Nat) (L : List Ce) (p : St × Rc) : List Ce :=
  if zEm (areZ a b p.2) = true then L else updQ L a (areZ a b p.2).x.toNat (areZ a b p.2).y.toNat (areZ a b p.2).w.toNat (areZ a b p.2).h.toNat (madK p.1 a)
theorem hasE_iff (r : Rc) (px py : Int) (h : zEm r = false) : zHa r px py = true ↔ r.x ≤ px ∧ px < r.x + r.w ∧ r.y ≤ py ∧ py < r.y + r.h := by
  unfold zHa hasB
  rw [show emptyB r.x r.y r.w r.h = false from h]
  simp
theorem hasE_em {r : Rc} {px py : Int} (h : zEm r = true) : zHa r px py = false := by
  unfold zHa hasB
  rw [show emptyB r.x r.y r.w r.h = true from h]
  rfl
/-- Where the area lies. -/
theorem are_in {a b : Nat} {q : Rc} (h : zEm (areZ a b q) = false) : 0 ≤ (areZ a b q).x ∧ 0 < (areZ a b q).w ∧ (areZ a b q).x + (areZ a b q).w ≤ a ∧ 0 ≤ (areZ a b q).y ∧ 0 < (areZ a b q).h ∧ (areZ a b q).y + (areZ a b q).h ≤ b ∧ q.x ≤ (areZ a b q).x ∧ (areZ a b q).x + (areZ a b q).w ≤ q.x + q.w ∧ q.y ≤ (areZ a b q).y ∧ (areZ a b q).y + (areZ a b q).h ≤ q.y + q.h := by
  obtain ⟨-, e2, -, -, e5, -⟩ := (em_iff _).1 h
  unfold areZ zMe meetR at e2 e5 ⊢
  split at e2
  · exact absurd e2 (by decide)
  · next c =>
    rw [if_neg c] at e5
    unfold btw at e2 e5 ⊢
    split at e2
    · exact absurd e2 (by decide)
    · next d =>
      rw [if_neg d] at e5
      simp only [if_neg c, if_neg d]
      dsimp only at d e2 e5 ⊢
      omega
theorem are_has {a b : Nat} (hs : szB a b = true) (q : Rc) {k : Nat} (h : k < a * b) : zHa (areZ a b q) (k % a : Nat) (k / a : Nat) = zHa q (k % a : Nat) (k / a : Nat) := by
  have ha : 0 < a := by
    rcases Nat.eq_zero_or_pos a with e | e
    · rw [e, Nat.zero_mul] at h; omega
    · exact e
  have h1 := Nat.mod_lt k ha
  have h2 : k / a < b := Nat.div_lt_of_lt_mul h
  obtain ⟨s1, s2, s3, s4, -⟩ := szB_iff.1 hs
  unfold areZ
  generalize k % a = c at *
  generalize k / a = r at *
  have e : zHa ⟨0, 0, a, b⟩ (c : Nat) (r : Nat) = true := (hasE_iff _ _ _ ((em_iff _).2 (by simp only; omega))).2 (by simp only; omega)
  rw [has_meet, e, Bool.and_true]
/-- One stroke, place by place. -/
theorem stp_map {a b : Nat} (hs : szB a b = true) {L : List Ce} (hL : L.length = a * b) (p : St × Rc) : stpS a b L p = L.mapIdx fun k c => if zHa p.2 (k % a : Nat) (k / a : Nat) = true then madK p.1 a k c else c := by
  unfold stpS
  cases h : zEm (areZ a b p.2)
  · rw [if_neg (by simp)]
    obtain ⟨r1, r2, r3, r4, r5, r6, -⟩ := are_in h
    apply List.ext_getElem (by rw [updQ_len, List.length_mapIdx])
    intro k h1 h2
    rw [updQ_len, hL] at h1
    simp only [updQ, List.getElem_mapIdx]
    rw [← are_has hs p.2 h1]
    have hi := hasE_iff (areZ a b p.2) (k % a : Nat) (k / a : Nat) h
    generalize k % a = cx at *
    generalize k / a = rx at *
    by_cases c : zHa (areZ a b p.2) (cx : Nat) (rx : Nat) = true
    · have := hi.1 c
      rw [if_pos c, if_pos (by omega)]
    · rw [if_neg c, if_neg]
      intro d
      exact c (hi.2 (by omega))
  · rw [if_pos rfl]
    apply List.ext_getElem (by rw [List.length_mapIdx])
    intro k h1 h2
    rw [hL] at h1
    rw [List.getElem_mapIdx, ← are_has hs p.2 h1, hasE_em h, if_neg (by simp)]
theorem drwS_snoc {a b : Nat} (hs : szB a b = true) {L : List Ce} (hL : L.length = a * b) (A : List (St × Rc)) (p : St × Rc) (hp : drw p.1 = true) : stpS a b (drwS a L A) p = drwS a L (A ++ [p]) := by
  rw [stp_map hs (by rw [drwS_len, hL])]
  apply List.ext_getElem (by rw [List.length_mapIdx, drwS_len, drwS_len])
  intro k h1 h2
  simp only [List.getElem_mapIdx, drwS, drwC, List.foldl_append, List.foldl_cons, List.foldl_nil, hp, Bool.true_and]
  rfl

end Go.Proofs.YtdmhcmngajmghaaGreatDoor

/-
  Package list's own ways in plain words: the lowest clip is all places; pieces that may be empty; what opaque Fills hide, the last stroke first.
-/
namespace Go.Proofs.YtdmhcmngajmghaaGreatDoor

theorem me_nil {a b : Rc} (h : zEm a = true ∨ zEm b = true) : zMe a b = zr := by
  unfold zMe meetR
  unfold zEm at h
  rw [if_pos (by rcases h with h | h <;> rw [h] <;> simp)]
theorem me_btw {a b : Rc} (ha : zEm a = false) (hb : zEm b = false) : zMe a b = btw (max a.x b.x) (max a.y b.y) (min (a.x + a.w) (b.x + b.w)) (min (a.y + a.h) (b.y + b.h)) := by
  unfold zMe meetR
  unfold zEm at ha hb
  rw [ha, hb]
  rfl
theorem em_zr : zEm zr = true := by decide +kernel
theorem em_mk {r : Rc} (h1 : -16384 ≤ r.x) (h2 : -16384 ≤ r.y) (h3 : r.x + r.w ≤ 16384) (h4 : r.y + r.h ≤ 16384) (h5 : 0 < r.w) (h6 : 0 < r.h) : zEm r = false := by
  unfold zEm emptyB
  rw [may_iff.2 ⟨⟨by omega, by omega, by omega⟩, by omega, by omega, by omega⟩]
  simp
  omega
theorem em_bd {r : Rc} (h : zEm r = false) : -16384 ≤ r.x ∧ -16384 ≤ r.y ∧ r.x + r.w ≤ 16384 ∧ r.y + r.h ≤ 16384 ∧ 0 < r.w ∧ 0 < r.h := by
  have := bounds_of h
  omega
theorem me_em {a b : Rc} (h : zEm (zMe a b) = true) : zMe a b = zr := by
  cases ha : zEm a
  · cases hb : zEm b
    · rw [me_btw ha hb] at h ⊢
      obtain ⟨a1, a2, a3, a4, a5, a6⟩ := em_bd ha
      obtain ⟨b1, b2, b3, b4, b5, b6⟩ := em_bd hb
      unfold btw at h ⊢
      split at h
      · next hc => rw [if_pos hc]
      · next hc =>
        rw [em_mk (by simp only; omega) (by simp only; omega) (by simp only; omega) (by simp only; omega) (by simp only; omega) (by simp only; omega)] at h
        cases h
    · exact me_nil (.inr hb)
  · exact me_nil (.inl ha)
theorem me_turn (a b : Rc) : zMe a b = zMe b a := by
  cases ha : zEm a
  · cases hb : zEm b
    · rw [me_btw ha hb, me_btw hb ha]
      congr 1 <;> omega
    · rw [me_nil (.inr hb), me_nil (.inl hb)]
  · rw [me_nil (.inl ha), me_nil (.inr ha)]

/-- All places. -/
def evR : Rc := ⟨-16384, -16384, 32768, 32768⟩
theorem ev_em : zEm evR = false := by decide +kernel
def topP (cs : List Rc) : Rc :=
  match cs with
  | [] => evR
  | c :: _ => c
theorem shR_top {cs : List Rc} {s : St} : shR cs s = zMe s.r (topP cs) := by
  cases cs with
  | nil =>
    show (if zEm s.r = true then zr else s.r) = zMe s.r evR
    cases h : zEm s.r
    · rw [me_btw h ev_em]
      obtain ⟨a1, a2, a3, a4, a5, a6⟩ := em_bd h
      have e1 : max s.r.x evR.x = s.r.x := by unfold evR; simp only; omega
      have e2 : max s.r.y evR.y = s.r.y := by unfold evR; simp only; omega
      have e3 : min (s.r.x + s.r.w) (evR.x + evR.w) = s.r.x + s.r.w := by unfold evR; simp only; omega
      have e4 : min (s.r.y + s.r.h) (evR.y + evR.h) = s.r.y + s.r.h := by unfold evR; simp only; omega
      rw [e1, e2, e3, e4, btw_yes (by omega) (by omega)]
      simp only [Bool.false_eq_true, if_false]
      have f1 : s.r.x + s.r.w - s.r.x = s.r.w := by omega
      have f2 : s.r.y + s.r.h - s.r.y = s.r.h := by omega
      rw [f1, f2]
    · rw [me_nil (.inl h)]
      simp
  | cons c t =>
    show (if zEm (zMe s.r c) = true then zr else zMe s.r c) = zMe s.r c
    cases h : zEm (zMe s.r c)
    · simp
    · rw [me_em h]
      simp
theorem shR_em {cs : List Rc} {s : St} (h : zEm (shR cs s) = false) : zEm s.r = false := by
  cases e : zEm s.r
  · rfl
  · rw [shR_top, me_nil (.inl e), em_zr] at h
    cases h
theorem shR_may (cs : List Rc) (s : St) : zMa (shR cs s) = true := by
  cases e : zEm (shR cs s)
  · unfold zEm at e
    unfold zMa
    exact may_of e
  · rw [shR_top] at e ⊢
    rw [me_em e]
    decide +kernel

/-- What a stroke draws of the rectangle in which it shows, with pieces that are empty. -/
def brdL (f r : Rc) : List Rc := [zMe r ⟨f.x, f.y, f.w, 1⟩, zMe r ⟨f.x, f.y, 1, f.h⟩, zMe r ⟨f.x + f.w - 1, f.y, 1, f.h⟩, zMe r ⟨f.x, f.y + f.h - 1, f.w, 1⟩]
def dwnL (s : St) (r : Rc) : List Rc := if s.k = 1 ∧ 0 < s.c.a ∨ s.k = 3 ∧ s.t.size ≠ 0 then [r] else if s.k = 2 ∧ 0 < s.c.a then brdL s.r r else []
theorem side_btw {f : Rc} (h : zEm f = false) : sidR f = [⟨f.x, f.y, f.w, 1⟩, ⟨f.x, f.y, 1, f.h⟩, ⟨f.x + f.w - 1, f.y, 1, f.h⟩, ⟨f.x, f.y + f.h - 1, f.w, 1⟩] := by
  obtain ⟨a1, a2, a3, a4, a5, a6⟩ := em_bd h
  unfold sidR
  rw [btw_yes (by omega) (by omega), btw_yes (by omega) (by omega), btw_yes (by omega) (by omega), btw_yes (by omega) (by omega)]
  have e1 : f.x + f.w - f.x = f.w := by omega
  have e2 : f.y + 1 - f.y = 1 := by omega
  have e3 : f.x + 1 - f.x = 1 := by omega
  have e4 : f.y + f.h - f.y = f.h := by omega
  have e5 : f.x + f.w - (f.x + f.w - 1) = 1 := by omega
  have e6 : f.y + f.h - (f.y + f.h - 1) = 1 := by omega
  rw [e1, e2, e3, e4, e5, e6]
theorem dwn_plc {s : St} {r : Rc} (hk : s.k = 1 ∨ s.k = 2 ∨ s.k = 3 ∨ s.k = 4 ∨ s.k = 5) (hc : 0 ≤ s.c.a) (hr : zEm r = false → zEm s.r = false) : (dwnL s r).filter (fun q => !zEm q) = plc s r := by
  unfold dwnL plc noP drw
  cases he : zEm r
  · have hs := hr he
    rcases hk with k | k | k | k | k
    · by_cases ha : s.c.a = 0
      · simp [k, ha]
      · have : 0 < s.c.a := by omega
        simp [k, ha, this, he]
    · by_cases ha : s.c.a = 0
      · simp [k, ha]
      · have h0 : 0 < s.c.a := by omega
        have e : brdL s.r r = (sidR s.r).map (fun q => zMe q r) := by
          rw [side_btw hs]
          unfold brdL
          simp only [List.map_cons, List.map_nil]
          rw [me_turn r, me_turn r, me_turn r, me_turn r]
        rw [if_neg (by omega), if_pos ⟨k, h0⟩, e]
        simp [k, ha]
    · by_cases ht : s.t.size = 0
      · simp [k, ht]
      · simp [k, ht, he]
    · simp [k]
    · simp [k]
  · have hb : (brdL s.r r).filter (fun q => !zEm q) = [] := by
      unfold brdL
      rw [me_nil (.inl he), me_nil (.inl he), me_nil (.inl he), me_nil (.inl he)]
      simp [em_zr]
    simp only [Bool.true_or, if_true]
    split
    · simp [he]
    · split
      · exact hb
      · rfl
theorem dwn_len (s : St) (r : Rc) : (dwnL s r).length ≤ 4 := by
  unfold dwnL
  split
  · simp
  · split
    · simp [brdL]
    · simp

end Go.Proofs.YtdmhcmngajmghaaGreatDoor

/-
  What is known of strokes that show, and of their rectangles.
-/
namespace Go.Proofs.YtdmhcmngajmghaaGreatDoor
open Go.RowKit

theorem oneE_text {s : St} (h : oneE s = 0) : s.t.size ≤ 65536 := by
  unfold oneE at h
  split at h
  · cases h
  · next h1 =>
    have : wroK s = false := by
      cases e : wroK s
      · rfl
      · rw [e] at h1; simp at h1
    unfold wroK at this
    simp at this
    omega
theorem clpE_all : ∀ (l : List St) (n : Nat), clpE n l = 0 → ∀ s ∈ l, oneE s = 0
  | [], _, _, s, hs => by cases hs
  | t :: l, n, h, s, hs => by
    obtain ⟨h1, _, h3⟩ := clpE_cons h
    rcases List.mem_cons.1 hs with rfl | hs
    · exact h1
    · exact clpE_all l _ h3 s hs
theorem ann_mem : ∀ (l : List St) (cs : List Rc), ∀ p ∈ ann cs l, p.1 ∈ l ∧ ∃ c, p.2 = shR c p.1
  | [], _, p, hp => by cases hp
  | s :: l, cs, p, hp => by
    rcases List.mem_cons.1 (show p ∈ (s, shR cs s) :: ann (nxC cs s) l from hp) with rfl | hp
    · exact ⟨List.mem_cons_self, cs, rfl⟩
    · obtain ⟨h1, h2⟩ := ann_mem l _ p hp
      exact ⟨List.mem_cons_of_mem _ h1, h2⟩
theorem meet_sub {a b : Rc} (h : zEm (zMe a b) = false) : (a.x ≤ (zMe a b).x ∧ (zMe a b).x + (zMe a b).w ≤ a.x + a.w ∧ a.y ≤ (zMe a b).y ∧ (zMe a b).y + (zMe a b).h ≤ a.y + a.h) ∧ b.x ≤ (zMe a b).x ∧ (zMe a b).x + (zMe a b).w ≤ b.x + b.w ∧ b.y ≤ (zMe a b).y ∧ (zMe a b).y + (zMe a b).h ≤ b.y + b.h := by
  obtain ⟨-, e2, -, -, e5, -⟩ := (em_iff _).1 h
  unfold zMe meetR at e2 e5 ⊢
  split at e2
  · exact absurd e2 (by decide)
  · next c =>
    rw [if_neg c] at e5
    unfold btw at e2 e5 ⊢
    split at e2
    · exact absurd e2 (by decide)
    · next d =>
      rw [if_neg d] at e5
      simp only [if_neg c, if_neg d]
      dsimp only at d e2 e5 ⊢
      omega
theorem shR_sub {cs : List Rc} {s : St} (h : zEm (shR cs s) = false) : s.r.x ≤ (shR cs s).x ∧ (shR cs s).x + (shR cs s).w ≤ s.r.x + s.r.w ∧ s.r.y ≤ (shR cs s).y ∧ (shR cs s).y + (shR cs s).h ≤ s.r.y + s.r.h := by
  unfold shR at h ⊢
  split at h
  · exact absurd h (by decide)
  · next c =>
    rw [if_neg c]
    unfold topR at h ⊢
    split at h
    · exact ⟨Int.le_refl _, Int.le_refl _, Int.le_refl _, Int.le_refl _⟩
    · first | exact (meet_sub h).1 | exact (meet_sub h).2
/-- What is known of a pair. -/
structure PrF (p : St × Rc) : Prop where
  d : drw p.1 = true
  k : p.1.k = 1 ∨ p.1.k = 2 ∨ p.1.k = 3
  r : zMa p.1.r = true
  q : zMa p.2 = true
  t : p.1.t.size ≤ 65536
  i : zEm p.2 = false → p.1.r.x ≤ p.2.x ∧ p.2.x + p.2.w ≤ p.1.r.x + p.1.r.w ∧ p.1.r.y ≤ p.2.y ∧ p.2.y + p.2.h ≤ p.1.r.y + p.1.r.h
theorem fla_facts {l : List St} (h : chkS l = 0) : ∀ p ∈ flaL l, PrF p ∧ p.1 ∈ l := by
  intro p hp
  have h0 : clpE 0 l = 0 := by
    unfold chkS at h
    split at h
    · cases h
    · exact h
  unfold flaL at hp
  obtain ⟨ha, hd⟩ := List.mem_filter.1 hp
  obtain ⟨hm, c, hc⟩ := ann_mem l [] p ha
  have h1 := clpE_all l 0 h0 p.1 hm
  obtain ⟨z1, z2, -⟩ := oneE_zero h1
  have hd' : drw p.1 = true := by simpa using hd
  refine ⟨⟨hd', ?_, z1, by rw [hc]; exact shR_may _ _, oneE_text h1, fun he => by rw [hc] at he ⊢; exact shR_sub he⟩, hm⟩
  unfold drw at hd'
  simp at hd'
  omega

end Go.Proofs.YtdmhcmngajmghaaGreatDoor

/-
  Contracts of package region: what is left of spans when others are cut out; what two rows have together.
-/
namespace Go.Proofs.YtdmhcmngajmghaaGreatDoor
open Go.RowKit
attribute [local go_sem] ite_max ite_min

theorem cut_len : ∀ (cs : List Sp) (a b : Int), (cutA a b cs).1.length + (cutA a b cs).2.length ≤ cs.length + 1
  | [], a, b => by simp [cutA]
  | c :: t, a, b => by
    have ih := cut_len t (max a c.2) b
    rw [cutA]
    split
    · split
      · dsimp only; split <;> simp <;> omega
      · dsimp only; rw [List.length_append]; split <;> simp <;> omega
    · simp; omega
theorem pieces_len : ∀ (l cs : List Sp), (piecesF l cs).length ≤ l.length + cs.length
  | [], cs => by simp [piecesF]
  | s :: t, cs => by
    have h1 := cut_len cs s.1 s.2
    have h2 := pieces_len t (cutA s.1 s.2 cs).2
    rw [piecesF, List.length_append, List.length_cons]
    omega

theorem row_other {base : Nat} {e : TypeId} {size n : Nat} {v : Value} {xs : List Value} {X : World} (h : X.ownsRow base e size v n xs) (p : Addr) (u : Value) (hp : v.ownBlock ≠ some p.block) : (X.setCell p u).ownsRow base e size v n xs := by
  obtain ⟨hl, h⟩ := h
  refine ⟨hl, ?_⟩
  rcases h with h | ⟨g, cap, cur, rfl, h0, h1, h2⟩
  · exact .inl h
  · exact .inr ⟨g, cap, cur, rfl, h0, (Below.heap_setCell _ _ _ g (fun e => hp (by rw [← e]; rfl))).trans h1, h2⟩

theorem cell_twoB (w : World) (x y : Value) (t : TypeId) (b : Nat) (h : b = w.heap.size) : ∀ (j : Nat) (u : Value), [x, y][j]? = some u → (w.alloc (.cells #[x, y] t)).cell? ((⟨b, 0, none⟩ : Addr).add j) = some u := by
  subst h
  exact cell_two w x y t

theorem cell_fourB (w : World) (x y n m : Value) (t : TypeId) (b : Nat) (h : b = w.heap.size) : ∀ (j : Nat) (u : Value), [x, y, n, m][j]? = some u → (w.alloc (.cells #[x, y, n, m] t)).cell? ((⟨b, 0, none⟩ : Addr).add j) = some u := by
  intro j u hj
  subst h
  match j, hj with
  | 0, hj => simp at hj; subst hj; simp [Addr.add]
  | 1, hj => simp at hj; subst hj; simp [Addr.add]
  | 2, hj => simp at hj; subst hj; simp [Addr.add]
  | 3, hj => simp at hj; subst hj; simp [Addr.add]
theorem one4 (r : Rc) : ∀ u ∈ [Value.int .i64 r.x, .int .i64 r.y, .int .i64 r.w, .int .i64 r.h], u.oneCell' = true := by
  intro u hu
  simp at hu
  rcases hu with rfl | rfl | rfl | rfl <;> rfl

end Go.Proofs.YtdmhcmngajmghaaGreatDoor
