/-
  Contracts of the document's answer for layer 3: the next piece, the last one, the word.
-/
import Derived.Test.YtlooemhaoikidaaDoorFP
import Derived.Test.YtlooemhaoikidaaDoorRAw
import Derived.Deep.QuietTactic
import Derived.BigQuiet
import Derived.Laws.OwnMore
namespace Go.Proofs.YtlooemhaoikidaaDoor
open Go.RowKit Go.Shelf

/-- A world that has grown out of W: below W's size nothing has turned. -/
structure Gw (W : World) where
  wd : World
  below : Below W.heap.size W wd
theorem wp_region_gw {P : Program} {id : Nat} {Q : Exit → Act → World → Prop} {a : Act} {w : World} {l : List Oper} (hm : P.follows .mixedOrders = true) (hB : Region.lexB .any l.toArray = true)
    (h : wpQuiet P l.toArray (fun w' => ∃ t : Gw w, w' = t.wd) (fun a' => ∀ w', (∃ t : Gw w, w' = t.wd) → Q .normal a' w') l a) : (Code.region id l.toArray true).wp P Q a w :=
  wp_region_quiet (C := fun w' => ∃ t : Gw w, w' = t.wd) hm hB ⟨⟨w.drew, (Below.refl _ _).drew⟩, rfl⟩ (by simpa using h)
theorem gw_call {P : Program} {f : FuncId} {args : Array Value} {W : World} {v : Value} {t : Gw W}
    (h : Calls P f args t.wd fun e w' => e = .returned v ∧ Below t.wd.heap.size t.wd w') : Calls P f args t.wd fun e w'' => e = .returned v ∧ ∃ t' : Gw W, w'' = t'.wd :=
  h.mono fun _ w'' ⟨he, hb⟩ => ⟨he, ⟨⟨w'', t.below.trans (hb.mono t.below.size)⟩, rfl⟩⟩
theorem gw_ne (W : World) : Nonempty (Gw W) := ⟨⟨W, Below.refl _ _⟩⟩

/-- A row of pieces, read. -/
def RowAt (w : World) (ao : Option Addr) (l : List Pc) : Prop := ∀ (i : Nat) (h : i < l.length), ∃ g, ao = some ⟨g, 0, none⟩ ∧ w.cell? ⟨g, i * 4, none⟩ = some (.int .i64 l[i].fr) ∧ w.cell? ⟨g, i * 4 + 1, none⟩ = some (.int .i64 l[i].to) ∧ w.cell? ⟨g, i * 4 + 2, none⟩ = some (.int .i32 l[i].r) ∧ w.cell? ⟨g, i * 4 + 3, none⟩ = some (.int .i64 (width l[i].r))
theorem RowAt.below {W w1 : World} {ao : Option Addr} {l : List Pc} (h : RowAt W ao l) (hb : Below W.heap.size W w1) : RowAt w1 ao l := fun i hi => by
  obtain ⟨g, h0, h1, h2, h3, h4⟩ := h i hi
  exact ⟨g, h0, cellB (Nat.le_refl _) hb h1, cellB (Nat.le_refl _) hb h2, cellB (Nat.le_refl _) hb h3, cellB (Nat.le_refl _) hb h4⟩
theorem row_at {w : World} {base : Nat} {e : TypeId} {v : Value} {l : List Pc} (h : w.ownsRow base e 4 v l.length (flatP l)) : ∃ ao cap, v = .slice ao l.length cap ∧ l.length ≤ cap ∧ RowAt w ao l := by
  have h' := h
  obtain ⟨_, h2 | ⟨g, cap, cur, h1, _, _, h3, _⟩⟩ := h
  · exact ⟨none, 0, by rw [h2.1, h2.2], by rw [h2.2]; exact Nat.le_refl _, fun i hi => by rw [h2.2] at hi; omega⟩
  · refine ⟨_, cap, h1, h3, fun i hi => ⟨g, rfl, ?_⟩⟩
    subst h1
    obtain ⟨e0, e1, e2, e3⟩ := flatP_at l i hi
    rw [h'.cellAt (i * 4) (by omega), h'.cellAt (i * 4 + 1) (by omega), h'.cellAt (i * 4 + 2) (by omega), h'.cellAt (i * 4 + 3) (by omega)]
    exact ⟨e0, e1, e2, e3⟩

set_option maxHeartbeats 1000000 in
theorem rnext_any (s : ByteArray) (p : Int) (w : World) (hs : s.size ≤ 1048576) :
    Calls Tryd.prog 24 #[.string s, .int .i64 p] w fun e w' => e = .returned (.tuple #[.int .i64 ((nxR (pcs s) p).1 : Nat), .bool (nxR (pcs s) p).2]) ∧ Below w.heap.size w w' := by
  have HP : Hid (∀ w, Calls Tryd.prog 33 #[.string s] w fun e w' => ∃ v, e = .returned v ∧ w'.ownsRow w.heap.size 51 4 v (pcs s).length (flatP (pcs s)) ∧ Below w.heap.size w w') := fun w => rpieces_any s w hs
  have hlen := pcs_len s
  generalize pcs s = l at *
  go_enter Tryd.func24, Tryd.ntmps24
  go_wp2_with fail
  refine (HP.out _).mono ?_
  rintro e w1 ⟨v, rfl, hown, hb⟩
  obtain ⟨ao, cap, rfl, hcap, hR⟩ := row_at hown
  have HR : Hid (RowAt w1 ao l ∧ Below w.heap.size w w1) := ⟨hR, hb⟩
  clear hown hR hb
  go_wp2
  go_loopw [7] (fun i wr => ∃ k : Nat, k ≤ l.length ∧ i = .int .i64 k ∧ nxR l p = nxR (l.drop k) p ∧ wr = w1) (fun i _ => l.length - (intOf i).toNat)
  case atStart => exact ⟨0, Nat.zero_le _, rfl, by simp, rfl⟩
  case round =>
    obtain ⟨k, hk, rfl, hall, rfl⟩ := hrel
    by_cases hlt : k < l.length
    · obtain ⟨g, hao, c0, c1, c2, c3⟩ := HR.out.1 k hlt
      subst hao
      have hd : nxR (l.drop k) p = if ((l[k].fr : Nat) : Int) ≤ p ∧ p < (l[k].to : Nat) then (l[k].to, true) else nxR (l.drop (k + 1)) p := by
        rw [List.drop_eq_getElem_cons hlt]; rfl
      have HE : Hid (nxR l p = if ((l[k].fr : Nat) : Int) ≤ p ∧ p < (l[k].to : Nat) then (l[k].to, true) else nxR (l.drop (k + 1)) p) := by unfold Hid; rw [hall, hd]
      clear hall hd c2 c3
      generalize l[k] = x at *
      by_cases h1 : (x.fr : Int) ≤ p
      · by_cases h2 : p < x.to
        · go_wp2
          go_ret2
          exact ⟨by rw [HE.out, if_pos ⟨h1, h2⟩]; rfl, HR.out.2⟩
        · go_wp2
          go_roundw
          case rel => exact ⟨k + 1, by omega, by go_num, by rw [HE.out, if_neg (fun h => h2 h.2)], by first | rfl | trivial⟩
          case measure => simp [intOf]; omega
      · go_wp2
        go_roundw
        case rel => exact ⟨k + 1, by omega, by go_num, by rw [HE.out, if_neg (fun h => h1 h.1)], by first | rfl | trivial⟩
        case measure => simp [intOf]; omega
    · obtain rfl : k = l.length := by omega
      have HE : Hid (nxR l p = (0, false)) := by unfold Hid; rw [hall, List.drop_length]; rfl
      go_wp2
      go_ret2
      exact ⟨by rw [HE.out]; rfl, HR.out.2⟩

set_option maxHeartbeats 1000000 in
theorem rback_any (s : ByteArray) (p : Int) (w : World) (hs : s.size ≤ 1048576) :
    Calls Tryd.prog 26 #[.string s, .int .i64 p] w fun e w' => e = .returned (.tuple #[.int .i64 (backN s p), .bool (backB s p)]) ∧ Below w.heap.size w w' := by
  by_cases h1 : p < 1
  · have e : backB s p = false := by unfold backB; rw [decide_eq_false (by omega)]; rfl
    rw [backN, e]
    go_enter Tryd.func26, Tryd.ntmps26
    go_wp2
    go_ret2
    exact ⟨rfl, Below.refl _ _⟩
  by_cases h2 : (s.size : Int) < p
  · have e : backB s p = false := by unfold backB; rw [decide_eq_false (show ¬ p ≤ (s.size : Int) by omega), Bool.and_false]
    rw [backN, e]
    go_enter Tryd.func26, Tryd.ntmps26
    go_wp2
    go_ret2
    exact ⟨rfl, Below.refl _ _⟩
  have e : backB s p = true := by unfold backB; rw [decide_eq_true (show 1 ≤ p by omega), decide_eq_true (show p ≤ (s.size : Int) by omega)]; rfl
  rw [backN, e, if_pos rfl, ← bk_back (pcs s) 0 p 0 (pcs_ch s)]
  have HP : Hid (∀ w, Calls Tryd.prog 33 #[.string s] w fun e w' => ∃ v, e = .returned v ∧ w'.ownsRow w.heap.size 51 4 v (pcs s).length (flatP (pcs s)) ∧ Below w.heap.size w w') := fun w => rpieces_any s w hs
  have hlen := pcs_len s
  clear e
  generalize pcs s = l at *
  go_enter Tryd.func26, Tryd.ntmps26
  go_wp2_with fail
  refine (HP.out _).mono ?_
  rintro e w1 ⟨v, rfl, hown, hb⟩
  obtain ⟨ao, cap, rfl, hcap, hR⟩ := row_at hown
  have HR : Hid (RowAt w1 ao l ∧ Below w.heap.size w w1) := ⟨hR, hb⟩
  clear hown hR hb
  go_wp2
  go_loopw [7, 8] (fun b i wr => ∃ (k q : Nat), k ≤ l.length ∧ i = .int .i64 k ∧ b = .int .i64 q ∧ bkR l p 0 = bkR (l.drop k) p q ∧ wr = w1) (fun _ i _ => l.length - (intOf i).toNat)
  case atStart => exact ⟨0, 0, Nat.zero_le _, rfl, rfl, by simp, rfl⟩
  case round =>
    obtain ⟨k, q, hk, rfl, rfl, hall, rfl⟩ := hrel
    by_cases hlt : k < l.length
    · obtain ⟨g, hao, c0, c1, c2, c3⟩ := HR.out.1 k hlt
      subst hao
      have hd : bkR (l.drop k) p q = bkR (l.drop (k + 1)) p (if ((l[k].fr : Nat) : Int) < p then l[k].fr else q) := by
        rw [List.drop_eq_getElem_cons hlt]; rfl
      have HE : Hid (bkR l p 0 = bkR (l.drop (k + 1)) p (if ((l[k].fr : Nat) : Int) < p then l[k].fr else q)) := by unfold Hid; rw [hall, hd]
      clear hall hd c1 c2 c3
      generalize l[k] = x at *
      by_cases h3 : (x.fr : Int) < p
      · go_wp2
        go_roundw
        case rel => exact ⟨k + 1, x.fr, by omega, by go_num, rfl, by rw [HE.out, if_pos h3], by first | rfl | trivial⟩
        case measure => simp [intOf]; omega
      · go_wp2
        go_roundw
        case rel => exact ⟨k + 1, q, by omega, by go_num, rfl, by rw [HE.out, if_neg h3], by first | rfl | trivial⟩
        case measure => simp [intOf]; omega
    · obtain rfl : k = l.length := by omega
      have HE : Hid (bkR l p 0 = q) := by unfold Hid; rw [hall, List.drop_length]; rfl
      go_wp2
      go_ret2
      exact ⟨by rw [HE.out]; rfl, HR.out.2⟩

end Go.Proofs.YtlooemhaoikidaaDoor
