/-
  The strongest rule taken off, in plain lists.
-/
import Derived.Test.YtobmpjmpffnoiaaDoorSTp
namespace Go.Proofs.YtobmpjmpffnoiaaDoor

def lkN (rs : List Rl) (i : Nat) : Lk := match rs[i]? with | some r => r.look | none => Lk.zero
theorem bwd_snd (l : List Nat) : ∀ n, n ≤ l.length → (bwd l n).map (·.2) = (l.take n).reverse
  | 0, _ => rfl
  | n + 1, h => by
    rw [bwd, List.map_cons, bwd_snd l n (by omega), List.take_add_one, List.getElem?_eq_getElem (by omega), List.reverse_append]
    show l.getD n 0 :: _ = _
    rw [List.getD_eq_getElem?_getD, List.getElem?_eq_getElem (by omega)]
    rfl
theorem lks_rev (rs : List Rl) (l : List Nat) : lks rs (bwd l l.length) = l.reverse.map (lkN rs) := by
  have h := bwd_snd l l.length (Nat.le_refl _)
  rw [List.take_length] at h
  rw [← h, List.map_map]
  rfl

theorem pick_cons (a : Lk) (r : List Lk) (i : Nat) : pick (a :: r) i = bif tb a.has i then some a else pick r i := by
  unfold pick
  cases h : tb a.has i
  · rw [List.find?_cons_of_neg (by rw [h]; decide)]; rfl
  · rw [List.find?_cons_of_pos (p := fun f : Lk => tb f.has i) h]; rfl
theorem isSome_cons (a : Lk) (r : List Lk) (i : Nat) : (pick (a :: r) i).isSome = (tb a.has i || (pick r i).isSome) := by
  rw [pick_cons]
  cases tb a.has i <;> simp
theorem pk_cons {α : Type} (a : Lk) (r : List Lk) (i : Nat) (g : Lk → α) (z : α) : pk (a :: r) i g z = bif tb a.has i then g a else bif (pick r i).isSome then pk r i g z else z := by
  unfold pk
  rw [pick_cons]
  cases tb a.has i
  · cases pick r i <;> rfl
  · rfl
theorem ly_cons (a : Lk) (r : List Lk) : ly (a :: r) = ly [a, ly r] := by
  rw [un_ly]
  have key : ∀ b0 b1 b2 b3 : Bool, tb (h4 b0 b1 b2 b3) 0 = b0 ∧ tb (h4 b0 b1 b2 b3) 1 = b1 ∧ tb (h4 b0 b1 b2 b3) 2 = b2 ∧ tb (h4 b0 b1 b2 b3) 3 = b3 := by decide
  obtain ⟨k0, k1, k2, k3⟩ := key (pick r 0).isSome (pick r 1).isSome (pick r 2).isSome (pick r 3).isSome
  unfold un
  have e0 : tb (ly r).has 0 = (pick r 0).isSome := k0
  have e1 : tb (ly r).has 1 = (pick r 1).isSome := k1
  have e2 : tb (ly r).has 2 = (pick r 2).isSome := k2
  have e3 : tb (ly r).has 3 = (pick r 3).isSome := k3
  rw [e0, e1, e2, e3]
  unfold ly
  simp only [isSome_cons, pk_cons]

/-- The place in the whole list of one of the list without place a. -/
def sh (a x : Nat) : Nat := if x < a then x else x + 1
theorem sh_lt {a x y : Nat} (h : x < y) : sh a x < sh a y := by unfold sh; split <;> split <;> omega
theorem sh_ne (a x : Nat) : sh a x ≠ a := by unfold sh; split <;> omega
theorem sh_onto {a y : Nat} (h : y ≠ a) : ∃ x, sh a x = y := by
  by_cases hy : y < a
  · exact ⟨y, by unfold sh; rw [if_pos hy]⟩
  · exact ⟨y - 1, by unfold sh; rw [if_neg (by omega)]; omega⟩

def wo1 (rs : List Rl) (a : Nat) : List Rl := rs.take a ++ rs.drop (a + 1)
theorem wo1_len {rs : List Rl} {a : Nat} (h : a < rs.length) : (wo1 rs a).length = rs.length - 1 := by
  unfold wo1; simp; omega
theorem wo1_at {rs : List Rl} {a : Nat} (h : a < rs.length) (x : Nat) : (wo1 rs a)[x]? = rs[sh a x]? := by
  unfold wo1 sh
  by_cases hx : x < a
  · rw [if_pos hx, List.getElem?_append_left (by simp; omega), List.getElem?_take, if_pos hx]
  · rw [if_neg hx, List.getElem?_append_right (by simp; omega), List.getElem?_drop]
    congr 1
    simp; omega
theorem wo1_in {rs : List Rl} {a : Nat} {r : Rl} (h : r ∈ wo1 rs a) : r ∈ rs := by
  unfold wo1 at h
  rcases List.mem_append.1 h with h | h
  · exact List.mem_of_mem_take h
  · exact List.mem_of_mem_drop h
theorem str_wo {rs : List Rl} {a : Nat} (h : a < rs.length) (x : Nat) : str (wo1 rs a) x = str rs (sh a x) := by
  unfold str; rw [wo1_at h]
theorem lkN_wo {rs : List Rl} {a : Nat} (h : a < rs.length) (x : Nat) : lkN (wo1 rs a) x = lkN rs (sh a x) := by
  unfold lkN; rw [wo1_at h]
theorem hAt_wo {rs : List Rl} {a : Nat} (h : a < rs.length) (kind : Nat) (t : ByteArray) (st x : Nat) : hAt (wo1 rs a) kind t st x = hAt rs kind t st (sh a x) := by
  unfold hAt; rw [wo1_at h]
theorem chk_wo {rs : List Rl} {a : Nat} (h : a < rs.length) (hc : chkR rs = 0) : chkR (wo1 rs a) = 0 := by
  unfold chkR at hc ⊢
  rw [wo1_len h]
  by_cases h1 : 256 < rs.length
  · rw [if_pos h1] at hc; simp at hc
  · rw [if_neg h1] at hc
    rw [if_neg (by omega)]
    by_cases h2 : rs.all okR = true
    · rw [if_pos]
      exact List.all_eq_true.2 fun r hr => List.all_eq_true.1 h2 r (wo1_in hr)
    · rw [if_neg h2] at hc; simp at hc
theorem hs_mem (rs : List Rl) (kind : Nat) (t : ByteArray) (st k x : Nat) : x ∈ hs rs kind t st k ↔ x < k ∧ hAt rs kind t st x = true := by
  unfold hs; rw [List.mem_filter, List.mem_range]

theorem held_wo {rs : List Rl} {kind : Nat} {t : ByteArray} {st a : Nat} {l l' : List Nat} (h : Held rs kind t st l) (ha : a < rs.length) (hmax : ∀ x, x < rs.length → x ≠ a → Wk (str rs) x a) (h' : Held (wo1 rs a) kind t st l') :
    l = if hAt rs kind t st a then l'.map (sh a) ++ [a] else l'.map (sh a) := by
  have pw : (l'.map (sh a)).Pairwise (Wk (str rs)) := by
    refine List.pairwise_map.2 (h'.1.imp fun {x y} hxy => ?_)
    unfold Wk at hxy ⊢
    rw [str_wo ha, str_wo ha] at hxy
    rcases hxy with hxy | ⟨e, hxy⟩
    · exact .inl hxy
    · exact .inr ⟨e, sh_lt hxy⟩
  have mem : ∀ y, y ∈ l'.map (sh a) ↔ (y < rs.length ∧ hAt rs kind t st y = true) ∧ y ≠ a := by
    intro y
    rw [List.mem_map]
    constructor
    · rintro ⟨x, hx, rfl⟩
      have h1 := (hs_mem _ _ _ _ _ _).1 ((h'.2.1 x).1 hx)
      rw [hAt_wo ha, wo1_len ha] at h1
      refine ⟨⟨?_, h1.2⟩, sh_ne a x⟩
      unfold sh; split <;> omega
    · rintro ⟨⟨h1, h2⟩, h3⟩
      obtain ⟨x, rfl⟩ := sh_onto h3
      refine ⟨x, (h'.2.1 x).2 ((hs_mem _ _ _ _ _ _).2 ⟨?_, by rw [hAt_wo ha]; exact h2⟩), rfl⟩
      rw [wo1_len ha]
      unfold sh at h1; split at h1 <;> omega
  have meml : ∀ y, y ∈ l ↔ (y < rs.length ∧ hAt rs kind t st y = true) := fun y => (h.2.1 y).trans (hs_mem _ _ _ _ _ _)
  split
  · rename_i hh
    refine list_unique h.1 ?_ fun y => ?_
    · refine List.pairwise_append.2 ⟨pw, List.pairwise_singleton _ _, fun x hx y hy => ?_⟩
      simp at hy; subst hy
      have := (mem x).1 hx
      exact hmax x this.1.1 this.2
    · rw [meml, List.mem_append, mem, List.mem_singleton]
      constructor
      · intro hy
        by_cases e : y = a
        · exact .inr e
        · exact .inl ⟨hy, e⟩
      · rintro (hy | rfl)
        · exact hy.1
        · exact ⟨ha, hh⟩
  · rename_i hh
    refine list_unique h.1 pw fun y => ?_
    rw [meml, mem]
    constructor
    · intro hy
      refine ⟨hy, ?_⟩
      rintro rfl
      exact hh hy.2
    · exact fun hy => hy.1

/-- The look of all rules by the strongest one and the look of the others. -/
theorem peel_plain {rs : List Rl} {kind : Nat} {t : ByteArray} {st a : Nat} {l l' : List Nat} (h : Held rs kind t st l) (ha : a < rs.length) (hmax : ∀ x, x < rs.length → x ≠ a → Wk (str rs) x a) (h' : Held (wo1 rs a) kind t st l') :
    ly (lks rs (bwd l l.length)) = if hld rs[a] kind t st then ly [rs[a].look, ly (lks (wo1 rs a) (bwd l' l'.length))] else ly (lks (wo1 rs a) (bwd l' l'.length)) := by
  have e := held_wo h ha hmax h'
  have eh : hAt rs kind t st a = hld rs[a] kind t st := by unfold hAt; rw [List.getElem?_eq_getElem ha]
  have el : lkN rs a = rs[a].look := by unfold lkN; rw [List.getElem?_eq_getElem ha]
  rw [eh] at e
  have em : l'.reverse.map (lkN (wo1 rs a)) = (l'.map (sh a)).reverse.map (lkN rs) := by
    rw [← List.map_reverse, List.map_map]
    exact List.map_congr_left fun x _ => lkN_wo ha x
  rw [lks_rev, lks_rev, em]
  cases hh : hld rs[a] kind t st
  · rw [hh] at e
    simp only [Bool.false_eq_true, if_false] at e ⊢
    rw [e]
  · rw [hh] at e
    simp only [if_true] at e ⊢
    rw [e, List.reverse_append, List.reverse_singleton, List.singleton_append, List.map_cons, el, ly_cons]

/-- The last one of the order is stronger than all others. -/
theorem order_last {rs : List Rl} {f : Nat → Nat} (h : Mrg (str rs) id f 0 rs.length) (hp : 0 < rs.length) : f (rs.length - 1) < rs.length ∧ ∀ x, x < rs.length → x ≠ f (rs.length - 1) → Wk (str rs) x (f (rs.length - 1)) := by
  obtain ⟨hS, hP⟩ := h
  have lt : ∀ i, i < rs.length → f i < rs.length := fun i hi => by
    obtain ⟨j, _, j2, e⟩ := hP.inn i (Nat.zero_le _) hi
    rw [e]; exact j2
  refine ⟨lt _ (by omega), fun x hx hne => ?_⟩
  obtain ⟨j, _, j2, e⟩ := hP.bak x (Nat.zero_le _) hx
  have e' : x = f j := e
  have hj : j ≠ rs.length - 1 := by rintro rfl; exact hne e'
  rw [e']
  exact hS j (rs.length - 1) (Nat.zero_le _) (by omega) (by omega)
theorem order_lt {rs : List Rl} {f : Nat → Nat} (h : Mrg (str rs) id f 0 rs.length) {i : Nat} (hi : i < rs.length) : f i < rs.length := by
  obtain ⟨j, _, j2, e⟩ := h.2.inn i (Nat.zero_le _) hi
  rw [e]; exact j2
theorem order_ne {rs : List Rl} {f : Nat → Nat} (h : Mrg (str rs) id f 0 rs.length) {i j : Nat} (hij : i < j) (hj : j < rs.length) : f i ≠ f j := fun e => by
  have := h.1 i j (Nat.zero_le _) hij hj
  rw [e] at this
  exact this.irrefl

end Go.Proofs.YtobmpjmpffnoiaaDoor
