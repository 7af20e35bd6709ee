/-
  The statements' own list without one rule.
-/
import Derived.Test.YtobmpjmpffnoiaaDoorSPl
import Derived.Test.YtobmpjmpffnoiaaDoorSOp
import Derived.OwnWalk
import Derived.Laws.AppendOwn
namespace Go.Proofs.YtobmpjmpffnoiaaDoor
open Go.RowKit Go.Shelf

def flR (l : List Rl) : List Value := l.flatMap cellsR
theorem cellsR_len (r : Rl) : (cellsR r).length = 14 := rfl
theorem flR_len (l : List Rl) : (flR l).length = l.length * 14 := by
  induction l with
  | nil => rfl
  | cons a t ih => show (cellsR a ++ flR t).length = _; rw [List.length_append, ih, cellsR_len]; simp; omega
theorem flR_app (l m : List Rl) : flR (l ++ m) = flR l ++ flR m := by unfold flR; rw [List.flatMap_append]
theorem flR_one (l : List Rl) : ∀ u ∈ flR l, u.oneCell' = true := by
  intro u hu
  obtain ⟨r, _, hr⟩ := List.mem_flatMap.1 hu
  unfold cellsR cellsL at hr
  simp only [List.mem_cons, List.not_mem_nil, or_false] at hr
  rcases hr with h | h | h | h | h | h | h | h | h | h | h | h | h | h <;> (rw [h]; rfl)
theorem flR_at (l : List Rl) : ∀ (i : Nat) (h : i < l.length) (j : Nat) (v : Value), (cellsR l[i])[j]? = some v → (flR l)[i * 14 + j]? = some v := by
  induction l with
  | nil => intro i h; simp at h
  | cons a t ih =>
    intro i h j v hj
    have e : flR (a :: t) = cellsR a ++ flR t := rfl
    rw [e]
    match i, h with
    | 0, _ =>
      have hj' : j < 14 := by have := (List.getElem?_eq_some_iff.1 hj).1; rwa [cellsR_len] at this
      rw [Nat.zero_mul, Nat.zero_add, List.getElem?_append_left (by rw [cellsR_len]; exact hj')]
      exact hj
    | i + 1, h =>
      rw [List.getElem?_append_right (by rw [cellsR_len]; omega)]
      have := ih i (by simpa using h) j v hj
      rw [← this]
      congr 1
      rw [cellsR_len]; omega
theorem RlAt.cells {w : World} {g p : Nat} {r : Rl} (h : RlAt w g p r) : ∀ (j : Nat) (v : Value), (cellsR r)[j]? = some v → w.cell? ⟨g, p + j, none⟩ = some v := by
  intro j v hj
  have hj' : j < 14 := by have := (List.getElem?_eq_some_iff.1 hj).1; rwa [cellsR_len] at this
  obtain ⟨h0, h1, h2, h3, h4, h5, h6, h7, h8, h9, h10, h11, h12, h13⟩ := h
  unfold cellsR cellsL at hj
  match j, hj' with
  | 0, _ => exact h0.trans hj
  | 1, _ => exact h1.trans hj
  | 2, _ => exact h2.trans hj
  | 3, _ => exact h3.trans hj
  | 4, _ => exact h4.trans hj
  | 5, _ => exact h5.trans hj
  | 6, _ => exact h6.trans hj
  | 7, _ => exact h7.trans hj
  | 8, _ => exact h8.trans hj
  | 9, _ => exact h9.trans hj
  | 10, _ => exact h10.trans hj
  | 11, _ => exact h11.trans hj
  | 12, _ => exact h12.trans hj
  | 13, _ => exact h13.trans hj
/-- The cells of rules that lie one behind the other. -/
theorem news_of {w : World} {g : Nat} : ∀ (l : List Rl) (p : Nat), (∀ i (h : i < l.length), RlAt w g (p + i * 14) l[i]) → ∀ (j : Nat) (u : Value), (flR l)[j]? = some u → w.cell? ((⟨g, p, none⟩ : Addr).add j) = some u
  | [], _, _, j, u, hu => by simp [flR] at hu
  | a :: t, p, h, j, u, hu => by
    have e : flR (a :: t) = cellsR a ++ flR t := rfl
    rw [e] at hu
    by_cases hj : j < 14
    · rw [List.getElem?_append_left (by rw [cellsR_len]; exact hj)] at hu
      have h0 := h 0 (by simp)
      rw [Nat.zero_mul, Nat.add_zero] at h0
      rw [Addr.add_lit]
      exact h0.cells j u hu
    · rw [List.getElem?_append_right (by rw [cellsR_len]; omega), cellsR_len] at hu
      have := news_of t (p + 14) (fun i hi => by
        have := h (i + 1) (by simpa using hi)
        rwa [show p + (i + 1) * 14 = p + 14 + i * 14 by omega] at this) (j - 14) u hu
      rw [Addr.add_lit] at this ⊢
      rwa [show p + 14 + (j - 14) = p + j by omega] at this

def Rl.zero : Rl := ⟨0, ByteArray.empty, 0, Lk.zero⟩
theorem info_rule : (Tryd.prog.info? 35).map (fun i => (i.zero, i.size, i.bytes)) = some (some (Value.agg #[.int .u8 (Rl.zero.kind : Nat), .string Rl.zero.cls, .int .u8 (Rl.zero.state : Nat), .int .u8 (Rl.zero.look.has : Nat), .int .u8 Rl.zero.look.r, .int .u8 Rl.zero.look.g, .int .u8 Rl.zero.look.b, .int .u8 Rl.zero.look.a, .int .u8 Rl.zero.look.r2, .int .u8 Rl.zero.look.g2, .int .u8 Rl.zero.look.b2, .int .u8 Rl.zero.look.a2, .bool Rl.zero.look.bd, .int .i64 Rl.zero.look.pad]), 14, 56) := by kernel_rfl
theorem rules_own {w : World} {base : Nat} {e : TypeId} {v : Value} {rs : List Rl} (h : w.ownsRow base e 14 v rs.length (flR rs)) : Rules w v rs := by
  rcases h.2 with ⟨rfl, h0⟩ | ⟨g, cap, cur, rfl, hb, hg, hc, _, _, htk⟩
  · exact ⟨none, 0, by rw [h0], by omega, fun h => absurd h (by omega)⟩
  · refine ⟨_, cap, rfl, hc, fun _ => ⟨g, 0, rfl, (Array.getElem?_eq_some_iff.1 hg).1, fun i hi => ?_⟩⟩
    have hb : Blk w g cur e := hg
    have key : ∀ j (v : Value), (cellsR rs[i])[j]? = some v → w.cell? ⟨g, 0 + i * 14 + j, none⟩ = some v := fun j v hj => by
      have hj' : j < 14 := by have := (List.getElem?_eq_some_iff.1 hj).1; rwa [cellsR_len] at this
      rw [hb.cell, ← Array.getElem?_toList, Nat.zero_add, ← List.getElem?_take_of_lt (j := rs.length * 14) (by omega), htk]
      exact flR_at rs i hi j v hj
    exact ⟨key 0 _ rfl, key 1 _ rfl, key 2 _ rfl, key 3 _ rfl, key 4 _ rfl, key 5 _ rfl, key 6 _ rfl, key 7 _ rfl, key 8 _ rfl, key 9 _ rfl, key 10 _ rfl, key 11 _ rfl, key 12 _ rfl, key 13 _ rfl⟩

set_option maxHeartbeats 2000000 in
theorem without_any (rs : List Rl) (v : Value) (a : Nat) (w : World) (hv : Rules w v rs) (ha : a < rs.length) (hl : rs.length < 1000) :
    Calls Tryd.prog 26 #[v, .int .i64 (a : Nat)] w fun e w' => ∃ u, e = .returned u ∧ Rules w' u (wo1 rs a) ∧ Below w.heap.size w w' := by
  obtain ⟨oa, cap, rfl, hc, hg⟩ := id hv
  obtain ⟨g, o, rfl, hg, hat⟩ := hg (by omega)
  obtain ⟨i0, hi, hz0, hz1, hz2⟩ := info_parts info_rule
  have a1 : (a : Int) ≤ (rs.length : Int) := by omega
  have a2 : (a : Int) ≤ (cap : Int) := by omega
  obtain ⟨b, zb⟩ : ∃ b : Nat, (a : Int) + 1 = (b : Int) := ⟨a + 1, by omega⟩
  have b1 : (b : Int) ≤ (rs.length : Int) := by omega
  have HN1 : Hid (∀ (j : Nat) (u : Value), (flR (rs.take a))[j]? = some u → w.cell? ((⟨g, o, none⟩ : Addr).add j) = some u) := news_of _ o fun i hi => by
    have hi' : i < a ∧ i < rs.length := by have h := hi; simp at h; omega
    rw [List.getElem_take]
    exact hat i hi'.2
  have HN2 : Hid (∀ W, Below w.heap.size w W → ∀ (j : Nat) (u : Value), (flR (rs.drop b))[j]? = some u → W.cell? ((⟨g, o + b * 14, none⟩ : Addr).add j) = some u) := fun W hW => news_of _ _ fun i hi => by
    have hi' : i < rs.length - b := by simpa using hi
    rw [List.getElem_drop]
    have := (hat (b + i) (by omega)).kept (w' := W) fun j => hW.cell (p := ⟨g, j, none⟩) hg
    rwa [show o + b * 14 + i * 14 = o + (b + i) * 14 by omega]
  have HE : Hid (flR (wo1 rs a) = flR (rs.take a) ++ flR (rs.drop b) ∧ (wo1 rs a).length = a + (rs.length - b) ∧ b = a + 1) := by
    have : b = a + 1 := by omega
    subst this
    exact ⟨flR_app _ _, by unfold wo1; simp; omega, rfl⟩
  have l1 : (flR (rs.take a)).length = a * 14 := by rw [flR_len]; simp; omega
  have l2 : (flR (rs.drop b)).length = (rs.length - b) * 14 := by rw [flR_len]; simp
  have c1 : Hid (0 + a ≤ maxLen) := by unfold Hid maxLen; omega
  have c2 : Hid ((0 + a) * 56 ≤ 140737488355328) := by unfold Hid; omega
  have c3 : Hid (a + (rs.length - b) ≤ maxLen) := by unfold Hid maxLen; omega
  have c4 : Hid ((a + (rs.length - b)) * 56 ≤ 140737488355328) := by unfold Hid; omega
  have HI : Hid (Tryd.prog.info? 35 = some i0 ∧ i0.zero = some (Value.agg #[.int .u8 (Rl.zero.kind : Nat), .string Rl.zero.cls, .int .u8 (Rl.zero.state : Nat), .int .u8 (Rl.zero.look.has : Nat), .int .u8 Rl.zero.look.r, .int .u8 Rl.zero.look.g, .int .u8 Rl.zero.look.b, .int .u8 Rl.zero.look.a, .int .u8 Rl.zero.look.r2, .int .u8 Rl.zero.look.g2, .int .u8 Rl.zero.look.b2, .int .u8 Rl.zero.look.a2, .bool Rl.zero.look.bd, .int .i64 Rl.zero.look.pad]) ∧ i0.size = 14 ∧ i0.bytes = 56) := ⟨hi, hz0, hz1, hz2⟩
  have HL : Hid ((flR (rs.take a)).length = a * 14 ∧ (flR (rs.drop b)).length = (rs.length - b) * 14) := ⟨l1, l2⟩
  clear hat hi hz0 hz1 hz2 l1 l2 hv
  go_enter Tryd.func26, Tryd.ntmps26
  go_wp2_with (at_builtin; refine wpList_append_own _ rfl _ _ 23 rfl w.heap.size 35 i0 (Value.agg #[.int .u8 (Rl.zero.kind : Nat), .string Rl.zero.cls, .int .u8 (Rl.zero.state : Nat), .int .u8 (Rl.zero.look.has : Nat), .int .u8 Rl.zero.look.r, .int .u8 Rl.zero.look.g, .int .u8 Rl.zero.look.b, .int .u8 Rl.zero.look.a, .int .u8 Rl.zero.look.r2, .int .u8 Rl.zero.look.g2, .int .u8 Rl.zero.look.b2, .int .u8 Rl.zero.look.a2, .bool Rl.zero.look.bd, .int .i64 Rl.zero.look.pad]) 14 56 Tryd.underlying23 HI.out.1 HI.out.2.1 HI.out.2.2.1 HI.out.2.2.2 rfl (by decide) (.slice none 0 0) 0 [] rfl (World.ownsRow_nil _ _ _ _) _ a _ (flR (rs.take a)) rfl HL.out.1 HN1.out (flR_one _) c1.out c2.out (Nat.le_refl _) ?_)
  intro v' w4 hown hgrow hnil
  have L4 : Below w.heap.size w w4 := (Below.refl _ w).grown hgrow (Nat.le_refl _) (fun g hg => by cases hg)
  have H4 : Hid (w4.ownsRow w.heap.size 35 14 v' a (flR (rs.take a)) ∧ Below w.heap.size w w4) := ⟨by simpa using hown, L4⟩
  clear hown hgrow hnil L4
  by_cases hcb : cap = b
  · have HX : Hid (∀ ad : Addr, ∀ (j : Nat) (u : Value), (flR (rs.drop b))[j]? = some u → w4.cell? (ad.add j) = some u) := fun ad j u hu => by
      have e : flR (rs.drop b) = [] := List.eq_nil_of_length_eq_zero (by rw [HL.out.2]; omega)
      rw [e] at hu; simp at hu
    go_wp2_with (at_builtin; refine wpList_append_own _ rfl _ _ 23 rfl w.heap.size 35 i0 (Value.agg #[.int .u8 (Rl.zero.kind : Nat), .string Rl.zero.cls, .int .u8 (Rl.zero.state : Nat), .int .u8 (Rl.zero.look.has : Nat), .int .u8 Rl.zero.look.r, .int .u8 Rl.zero.look.g, .int .u8 Rl.zero.look.b, .int .u8 Rl.zero.look.a, .int .u8 Rl.zero.look.r2, .int .u8 Rl.zero.look.g2, .int .u8 Rl.zero.look.b2, .int .u8 Rl.zero.look.a2, .bool Rl.zero.look.bd, .int .i64 Rl.zero.look.pad]) 14 56 Tryd.underlying23 HI.out.1 HI.out.2.1 HI.out.2.2.1 HI.out.2.2.2 rfl (by decide) v' a (flR (rs.take a)) rfl H4.out.1 _ (rs.length - b) _ (flR (rs.drop b)) rfl HL.out.2 (HX.out _) (flR_one _) c3.out c4.out H4.out.2.size ?_)
    intro v2 w5 hown hgrow hnil
    have L5 : Below w.heap.size w w5 := H4.out.2.grown hgrow H4.out.2.size (fun g hg => (row_lt H4.out.1 g hg).1)
    have H5 : Hid (Rules w5 v2 (wo1 rs a) ∧ Below w.heap.size w w5) := by
      refine ⟨rules_own (base := w.heap.size) (e := 35) ?_, L5⟩
      rw [HE.out.1, HE.out.2.1]
      exact hown
    clear hown hgrow hnil L5
    go_wp2
    go_ret
    exact ⟨_, rfl, H5.out⟩
  · go_wp2_with (at_builtin; refine wpList_append_own _ rfl _ _ 23 rfl w.heap.size 35 i0 (Value.agg #[.int .u8 (Rl.zero.kind : Nat), .string Rl.zero.cls, .int .u8 (Rl.zero.state : Nat), .int .u8 (Rl.zero.look.has : Nat), .int .u8 Rl.zero.look.r, .int .u8 Rl.zero.look.g, .int .u8 Rl.zero.look.b, .int .u8 Rl.zero.look.a, .int .u8 Rl.zero.look.r2, .int .u8 Rl.zero.look.g2, .int .u8 Rl.zero.look.b2, .int .u8 Rl.zero.look.a2, .bool Rl.zero.look.bd, .int .i64 Rl.zero.look.pad]) 14 56 Tryd.underlying23 HI.out.1 HI.out.2.1 HI.out.2.2.1 HI.out.2.2.2 rfl (by decide) v' a (flR (rs.take a)) rfl H4.out.1 _ (rs.length - b) _ (flR (rs.drop b)) rfl HL.out.2 (HN2.out _ H4.out.2) (flR_one _) c3.out c4.out H4.out.2.size ?_)
    intro v2 w5 hown hgrow hnil
    have L5 : Below w.heap.size w w5 := H4.out.2.grown hgrow H4.out.2.size (fun g hg => (row_lt H4.out.1 g hg).1)
    have H5 : Hid (Rules w5 v2 (wo1 rs a) ∧ Below w.heap.size w w5) := by
      refine ⟨rules_own (base := w.heap.size) (e := 35) ?_, L5⟩
      rw [HE.out.1, HE.out.2.1]
      exact hown
    clear hown hgrow hnil L5
    go_wp2
    go_ret
    exact ⟨_, rfl, H5.out⟩

end Go.Proofs.YtobmpjmpffnoiaaDoor
