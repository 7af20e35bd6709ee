/-
  Clean texts in plain lists: what was encoded is decoded; nothing of a clean text's cells is lost.
-/
import Derived.Test.YtlooemhaoikidaaDoorF6
import Derived.Lib.ValidLaws
namespace Go.Proofs.YtlooemhaoikidaaDoor
open Go.Lib (decodeL decodeN encodeRune)

/-- A rune that can be encoded. -/
def Scal (r : Nat) : Prop := r ≤ 1114111 ∧ (r < 55296 ∨ 57343 < r)
theorem dec_scal (l : List UInt8) : Scal (decodeL l).1 := by
  rw [Lib.decodeL_N]
  have k0 := (l.getD 0 0).toNat_lt
  have k1 := (l.getD 1 0).toNat_lt
  have k2 := (l.getD 2 0).toNat_lt
  have k3 := (l.getD 3 0).toNat_lt
  unfold Scal
  rcases Lib.decodeN_shape l.length (l.getD 0 0).toNat (l.getD 1 0).toNat (l.getD 2 0).toNat (l.getD 3 0).toNat with ⟨c, e⟩ | ⟨c1, c2, c3, cv, e⟩ | ⟨c1, c2, c3, c4, cv, cs, e⟩ | ⟨c1, c2, c3, c4, c5, cv, cw, e⟩ | e
  all_goals (rw [e]; dsimp only)
  all_goals omega

theorem u8nat (z : Int) (h0 : 0 ≤ z) (h1 : z < 256) : (z.toNat.toUInt8).toNat = z.toNat := by
  rw [Nat.toUInt8, UInt8.toNat_ofNat']
  omega

theorem dec_enc (r : Nat) (hr : Scal r) (t : List UInt8) : decodeL (encodeRune (r : Int) ++ t) = (r, (encodeRune (r : Int)).length) ∧ 0 < (encodeRune (r : Int)).length ∧ ((encodeRune (r : Int)).length = 1 → r < 128) ∧
    (∀ b ∈ encodeRune (r : Int), (r < 128 ∧ b.toNat = r) ∨ 128 ≤ b.toNat) := by
  obtain ⟨h1, h2⟩ := hr
  rw [Lib.decodeL_N]
  unfold Lib.encodeRune
  by_cases c1 : r < 128
  · rw [Lib.encodeRuneZ_one (by omega) (by omega)]
    have e0 := u8nat (r : Int) (by omega) (by omega)
    simp only [List.map_cons, List.map_nil, List.cons_append, List.nil_append, List.getD_cons_zero, List.length_cons, List.length_nil, e0]
    refine ⟨?_, by omega, fun _ => c1, ?_⟩
    · unfold decodeN
      rw [if_pos (by omega)]
      simp
    · intro b hb
      simp only [List.mem_singleton] at hb
      subst hb
      rw [e0]
      exact .inl ⟨c1, by omega⟩
  by_cases c2 : r ≤ 2047
  · rw [Lib.encodeRuneZ_two (by omega) (by omega)]
    have e0 := u8nat (192 + (r : Int) / 64) (by omega) (by omega)
    have e1 := u8nat (128 + (r : Int) % 64) (by omega) (by omega)
    simp only [List.map_cons, List.map_nil, List.cons_append, List.nil_append, List.getD_cons_zero, List.getD_cons_succ, List.length_cons, List.length_nil, e0, e1]
    refine ⟨?_, by omega, fun h => by omega, ?_⟩
    · unfold decodeN
      rw [if_neg (by omega), if_pos (by omega), if_pos (by omega)]
      refine Prod.ext ?_ rfl
      dsimp only
      omega
    · intro b hb
      simp only [List.mem_cons, List.not_mem_nil, or_false] at hb
      rcases hb with rfl | rfl
      · rw [e0]; exact .inr (by omega)
      · rw [e1]; exact .inr (by omega)
  by_cases c3 : r ≤ 65535
  · rw [Lib.encodeRuneZ_three (by omega)]
    have e0 := u8nat (224 + (r : Int) / 4096) (by omega) (by omega)
    have e1 := u8nat (128 + (r : Int) / 64 % 64) (by omega) (by omega)
    have e2 := u8nat (128 + (r : Int) % 64) (by omega) (by omega)
    simp only [List.map_cons, List.map_nil, List.cons_append, List.nil_append, List.getD_cons_zero, List.getD_cons_succ, List.length_cons, List.length_nil, e0, e1, e2]
    refine ⟨?_, by omega, fun h => by omega, ?_⟩
    · unfold decodeN
      rw [if_neg (by omega), if_neg (by omega), if_pos (by omega), if_pos (by omega)]
      refine Prod.ext ?_ rfl
      dsimp only
      omega
    · intro b hb
      simp only [List.mem_cons, List.not_mem_nil, or_false] at hb
      rcases hb with rfl | rfl | rfl
      · rw [e0]; exact .inr (by omega)
      · rw [e1]; exact .inr (by omega)
      · rw [e2]; exact .inr (by omega)
  · rw [Lib.encodeRuneZ_four (by omega) (by omega)]
    have e0 := u8nat (240 + (r : Int) / 262144) (by omega) (by omega)
    have e1 := u8nat (128 + (r : Int) / 4096 % 64) (by omega) (by omega)
    have e2 := u8nat (128 + (r : Int) / 64 % 64) (by omega) (by omega)
    have e3 := u8nat (128 + (r : Int) % 64) (by omega) (by omega)
    simp only [List.map_cons, List.map_nil, List.cons_append, List.nil_append, List.getD_cons_zero, List.getD_cons_succ, List.length_cons, List.length_nil, e0, e1, e2, e3]
    refine ⟨?_, by omega, fun h => by omega, ?_⟩
    · unfold decodeN
      rw [if_neg (by omega), if_neg (by omega), if_neg (by omega), if_pos (by omega), if_pos (by omega)]
      refine Prod.ext ?_ rfl
      dsimp only
      omega
    · intro b hb
      simp only [List.mem_cons, List.not_mem_nil, or_false] at hb
      rcases hb with rfl | rfl | rfl | rfl
      · rw [e0]; exact .inr (by omega)
      · rw [e1]; exact .inr (by omega)
      · rw [e2]; exact .inr (by omega)
      · rw [e3]; exact .inr (by omega)

/-- From rune to rune, by lists: the clean text, the cells, whether there is a broken byte. -/
def clG : Nat → List UInt8 → List UInt8
  | 0, _ => []
  | f + 1, l => if l = [] then [] else (if keepR (decodeL l).1 = true then encodeRune ((decodeL l).1 : Nat) else []) ++ clG f (l.drop (decodeL l).2)
def wdG : Nat → List UInt8 → Int
  | 0, _ => 0
  | f + 1, l => if l = [] then 0 else width (decodeL l).1 + wdG f (l.drop (decodeL l).2)
def bdG : Nat → List UInt8 → Bool
  | 0, _ => false
  | f + 1, l => if l = [] then false else decide ((decodeL l).1 = 65533 ∧ (decodeL l).2 = 1) || bdG f (l.drop (decodeL l).2)

theorem valid_bd : ∀ (f : Nat) (l : List UInt8), l.length < f → Lib.validD l = !bdG f l
  | 0, l, h => absurd h (by omega)
  | f + 1, l, h => by
    unfold bdG
    by_cases hn : l = []
    · subst hn; rfl
    · rw [if_neg hn, Lib.validD_step l hn]
      have hz := Lib.decodeL_width l
      have hp : 0 < l.length := List.length_pos_iff.2 hn
      by_cases hb : (decodeL l).1 = 65533 ∧ (decodeL l).2 = 1
      · rw [if_pos hb, decide_eq_true hb]; rfl
      · rw [if_neg hb, decide_eq_false hb, Bool.false_or]
        exact valid_bd f _ (by rw [List.length_drop]; omega)

theorem ctl_width {r : Nat} (h : keepR r = false) : width r = 0 := by
  unfold keepR at h
  simp only [Bool.or_eq_false_iff, Bool.not_eq_false'] at h
  unfold width
  rw [h.2]
  rfl
theorem keep_byte {r : Nat} (h : keepR r = true) (hr : r < 128) : (32 ≤ r ∨ r = 10) ∧ r ≠ 127 := by
  unfold keepR ctl at h
  simp only [Bool.or_eq_true, decide_eq_true_eq, Bool.not_eq_true', Bool.or_eq_false_iff, Bool.and_eq_false_iff, decide_eq_false_iff_not] at h
  omega

/-- All that is asked of a clean text. -/
theorem clean_all : ∀ (f : Nat) (l : List UInt8) (g : Nat), l.length < f → (clG f l).length < g →
    Lib.validD (clG f l) = true ∧ clG g (clG f l) = clG f l ∧ wdG g (clG f l) = wdG f l ∧ bdG g (clG f l) = false ∧ ∀ b ∈ clG f l, (32 ≤ b.toNat ∨ b.toNat = 10) ∧ b.toNat ≠ 127
  | 0, l, g, h, _ => absurd h (by omega)
  | f + 1, l, g, h, hg => by
    obtain ⟨g', rfl⟩ : ∃ g', g = g' + 1 := ⟨g - 1, by omega⟩
    by_cases hn : l = []
    · subst hn
      have e : clG (f + 1) [] = [] := by unfold clG; rw [if_pos rfl]
      rw [e]
      refine ⟨rfl, ?_, ?_, ?_, fun b hb => by simp at hb⟩
      · unfold clG; rw [if_pos rfl]
      · unfold wdG; rw [if_pos rfl, if_pos rfl]
      · unfold bdG; rw [if_pos rfl]
    · have hz := Lib.decodeL_width l
      have hp : 0 < l.length := List.length_pos_iff.2 hn
      have hd : (l.drop (decodeL l).2).length < f := by rw [List.length_drop]; omega
      have hsc := dec_scal l
      have ew : wdG (f + 1) l = width (decodeL l).1 + wdG f (l.drop (decodeL l).2) := by rw [wdG, if_neg hn]
      have ec : clG (f + 1) l = (if keepR (decodeL l).1 = true then encodeRune ((decodeL l).1 : Nat) else []) ++ clG f (l.drop (decodeL l).2) := by rw [clG, if_neg hn]
      rw [ew]
      rw [ec] at hg ⊢
      generalize decodeL l = d at *
      generalize hc : clG f (l.drop d.2) = c at *
      cases hk : keepR d.1
      · rw [hk] at hg
        simp only [Bool.false_eq_true, if_false, List.nil_append] at hg ⊢
        rw [ctl_width hk, Int.zero_add]
        have ih := clean_all f (l.drop d.2) (g' + 1) hd (by rw [hc]; exact hg)
        rw [hc] at ih
        exact ih
      · rw [hk] at hg
        simp only [if_true] at hg ⊢
        obtain ⟨d1, d2, d3, d4⟩ := dec_enc d.1 hsc c
        rw [List.length_append] at hg
        have ih := clean_all f (l.drop d.2) g' hd (by rw [hc]; omega)
        rw [hc] at ih
        obtain ⟨i1, i2, i3, i4, i5⟩ := ih
        have hne : encodeRune (d.1 : Int) ++ c ≠ [] := fun e => by
          have := congrArg List.length e
          rw [List.length_append] at this
          simp at this
          have h0 := d2
          rw [this.1] at h0
          exact absurd h0 (by decide)
        have hdrop : (encodeRune (d.1 : Int) ++ c).drop (encodeRune (d.1 : Int)).length = c := List.drop_left
        have hnb : ¬ (d.1 = 65533 ∧ (encodeRune (d.1 : Int)).length = 1) := fun hb => by have := d3 hb.2; omega
        refine ⟨?_, ?_, ?_, ?_, ?_⟩
        · rw [Lib.validD_step _ hne, d1, if_neg hnb, hdrop]; exact i1
        · rw [clG, if_neg hne, d1]
          simp only [hk, if_true]
          rw [hdrop, i2]
        · rw [wdG, if_neg hne, d1]
          dsimp only
          rw [hdrop, i3]
        · rw [bdG, if_neg hne, d1]
          dsimp only
          rw [hdrop, i4, decide_eq_false hnb]
          rfl
        · intro b hb
          rcases List.mem_append.1 hb with hb | hb
          · rcases d4 b hb with ⟨hr, e⟩ | e
            · rw [e]; exact keep_byte hk hr
            · omega
          · exact i5 b hb

end Go.Proofs.YtlooemhaoikidaaDoor
