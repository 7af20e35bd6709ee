/-
  What Which tells and what the look says, in plain lists.
-/
import Derived.Test.YtobmpjmpffnoiaaDoorSX5
import Derived.Test.YtobmpjmpffnoiaaDoorSY1
namespace Go.Proofs.YtobmpjmpffnoiaaDoor

/-- The field with bit i. -/
def Bit (fld i : Nat) : Prop := (fld = 1 ∧ i = 0) ∨ (fld = 2 ∧ i = 1) ∨ (fld = 4 ∧ i = 2) ∨ (fld = 8 ∧ i = 3)
theorem bit_tb {fld i q : Nat} (h : Bit fld i) (hq : q < 256) : (bits .and .u8 (q : Int) (fld : Int) != 0) = tb q i := by
  obtain ⟨e0, e1, e2, e3⟩ := bit_fin8 ⟨q, hq⟩
  rcases h with ⟨rfl, rfl⟩ | ⟨rfl, rfl⟩ | ⟨rfl, rfl⟩ | ⟨rfl, rfl⟩
  · exact e0
  · exact e1
  · exact e2
  · exact e3
theorem bit_thg {fld i : Nat} (h : Bit fld i) : thg fld = true := by
  rcases h with ⟨rfl, rfl⟩ | ⟨rfl, rfl⟩ | ⟨rfl, rfl⟩ | ⟨rfl, rfl⟩ <;> decide +kernel

theorem bwd_in {l : List Nat} {x : Nat × Nat} : ∀ {n : Nat}, n ≤ l.length → x ∈ bwd l n → x.2 ∈ l
  | 0, _, h => by simp [bwd] at h
  | n + 1, hn, h => by
    simp only [bwd, List.mem_cons] at h
    rcases h with rfl | h
    · show l.getD n 0 ∈ l
      rw [List.getD_eq_getElem?_getD, List.getElem?_eq_getElem (by omega)]
      exact List.getElem_mem _
    · exact bwd_in (by omega) h

theorem find_map_congr {α β : Type} (f : α → β) (p : α → Bool) (q : β → Bool) : ∀ (l : List α), (∀ x ∈ l, p x = q (f x)) → (l.map f).find? q = (l.find? p).map f
  | [], _ => rfl
  | a :: t, h => by
    have ha := h a (List.mem_cons_self ..)
    have ht := find_map_congr f p q t fun x hx => h x (List.mem_cons_of_mem _ hx)
    cases hp : p a
    · rw [List.map_cons, List.find?_cons_of_neg (by rw [← ha, hp]; decide), List.find?_cons_of_neg (by rw [hp]; decide), ht]
    · rw [List.map_cons, List.find?_cons_of_pos (by rw [← ha, hp]), List.find?_cons_of_pos hp]
      rfl

def lkAt (rs : List Rl) (x : Nat × Nat) : Lk := match rs[x.2]? with | some r => r.look | none => Lk.zero
theorem tells_lk {rs : List Rl} {fld i : Nat} (hB : Bit fld i) (hw : ∀ r ∈ rs, r.look.has < 256) {x : Nat × Nat} (hx : x.2 < rs.length) : tells rs fld x.2 = tb (lkAt rs x).has i := by
  unfold tells lkAt
  rw [List.getElem?_eq_getElem hx]
  exact bit_tb hB (hw _ (List.getElem_mem hx))

theorem hld_of {rs : List Rl} {kind : Nat} {t : ByteArray} {st n : Nat} {l : List Nat} (h : Held rs kind t st l) (hn : n ∈ l) : ∃ hl : n < rs.length, hld rs[n] kind t st = true := by
  have hl := held_lt h hn
  refine ⟨hl, ?_⟩
  have h1 := (h.2.1 n).1 hn
  unfold hs at h1
  have h2 := (List.mem_filter.1 h1).2
  unfold hAt at h2
  rw [List.getElem?_eq_getElem hl] at h2
  exact h2

/-- What Which tells of a thing, and the look that is picked. -/
theorem told_plain {rs : List Rl} {kind : Nat} {t : ByteArray} {st fld i : Nat} {l : List Nat} (h : Held rs kind t st l) (hw : ∀ r ∈ rs, r.look.has < 256) (hB : Bit fld i) :
    (whN rs fld (bwd l l.length) = -1 ∧ pick (lks rs (bwd l l.length)) i = none) ∨
    ∃ (n : Nat) (hn : n < rs.length), n ∈ l ∧ hld rs[n] kind t st = true ∧ whN rs fld (bwd l l.length) = (n : Int) ∧ tb rs[n].look.has i = true ∧ pick (lks rs (bwd l l.length)) i = some rs[n].look := by
  have hin : ∀ x ∈ bwd l l.length, x.2 ∈ l := fun x hx => bwd_in (Nat.le_refl _) hx
  have e : pick (lks rs (bwd l l.length)) i = ((bwd l l.length).find? fun x => tells rs fld x.2).map (lkAt rs) :=
    find_map_congr (lkAt rs) (fun x => tells rs fld x.2) (fun f => tb f.has i) _ fun x hx => tells_lk hB hw (held_lt h (hin x hx))
  unfold whN
  cases hf : (bwd l l.length).find? fun x => tells rs fld x.2 with
  | none => exact .inl ⟨rfl, by rw [e, hf]; rfl⟩
  | some x =>
    have hx := hin x (List.mem_of_find?_eq_some hf)
    obtain ⟨hn, hh⟩ := hld_of h hx
    have hl : lkAt rs x = rs[x.2].look := by unfold lkAt; rw [List.getElem?_eq_getElem hn]
    have ht : tells rs fld x.2 = true := List.find?_some (p := fun x : Nat × Nat => tells rs fld x.2) hf
    refine .inr ⟨x.2, hn, hx, hh, rfl, ?_, by rw [e, hf, ← hl]; rfl⟩
    rw [← hl, ← tells_lk hB hw hn]
    exact ht

theorem ly_bit (l : List Lk) {fld i : Nat} (hB : Bit fld i) : (bits .and .u8 ((ly l).has : Int) (fld : Int) != 0) = (pick l i).isSome := by
  rw [bit_tb hB (Nat.lt_trans (ly_has l) (by decide))]
  show tb (h4 _ _ _ _) i = _
  have key : ∀ b0 b1 b2 b3 : Bool, tb (h4 b0 b1 b2 b3) 0 = b0 ∧ tb (h4 b0 b1 b2 b3) 1 = b1 ∧ tb (h4 b0 b1 b2 b3) 2 = b2 ∧ tb (h4 b0 b1 b2 b3) 3 = b3 := by decide
  obtain ⟨k0, k1, k2, k3⟩ := key (pick l 0).isSome (pick l 1).isSome (pick l 2).isSome (pick l 3).isSome
  rcases hB with ⟨rfl, rfl⟩ | ⟨rfl, rfl⟩ | ⟨rfl, rfl⟩ | ⟨rfl, rfl⟩
  · exact k0
  · exact k1
  · exact k2
  · exact k3

theorem held_unique {rs : List Rl} {kind : Nat} {t : ByteArray} {st : Nat} {l m : List Nat} (h : Held rs kind t st l) (k : Held rs kind t st m) : l = m :=
  list_unique h.1 k.1 fun x => (h.2.1 x).trans (k.2.1 x).symm

end Go.Proofs.YtobmpjmpffnoiaaDoor
