/-
  The document's answer: is a word one of a text's classes?
-/
import Derived.Test.YtobmpjmpffnoiaaDoorSQ3
import Derived.Test.YtobmpjmpffnoiaaDoorSW8
namespace Go.Proofs.YtobmpjmpffnoiaaDoor
open Go.RowKit Go.Shelf

theorem suf_at (t : ByteArray) (p k : Nat) : (t.extract p t.size).data.toList[k]? = t.data.toList[p + k]? := by
  rw [ByteArray.data_extract, Array.getElem?_toList, Array.getElem?_toList, Array.getElem?_extract]
  have : t.data.size = t.size := rfl
  by_cases h : p + k < t.size
  · rw [if_pos (by rw [this]; omega)]
  · rw [if_neg (by rw [this]; omega), Array.getElem?_eq_none (by omega)]
theorem bl_found {t : ByteArray} {p i : Nat} (hp : p ≤ i) (hi : i < t.size) (h32 : (t[i]).toNat = 32) (hno : ∀ (j : Nat) (h : j < t.size), p ≤ j → j < i → (t[j]).toNat ≠ 32) : bl (t.extract p t.size) = ((i - p : Nat) : Int) := by
  unfold bl
  have e : t[i] = 32 := UInt8.toNat_inj.1 h32
  have hat : (t.extract p t.size).data.toList[i - p]? = some 32 := by
    rw [suf_at, show p + (i - p) = i by omega, at_list t hi, e]
  have hge := Lib.indexByte_ge (t.extract p t.size).data.toList 32
  by_cases hn : Lib.indexByte (t.extract p t.size).data.toList 32 = -1
  · exact absurd hat (Lib.indexByte_none hn (i - p))
  · obtain ⟨o, ho⟩ : ∃ o : Nat, Lib.indexByte (t.extract p t.size).data.toList 32 = o := ⟨_, (Int.toNat_of_nonneg (by omega)).symm⟩
    obtain ⟨h1, h2⟩ := Lib.indexByte_some ho
    rw [ho]
    congr 1
    rcases Nat.lt_trichotomy o (i - p) with h | h | h
    · exfalso
      rw [suf_at, at_list t (show p + o < t.size by omega)] at h1
      injection h1 with h3
      exact hno (p + o) (by omega) (by omega) (by omega) (by rw [h3]; rfl)
    · exact h
    · exact absurd hat (h2 _ h)
theorem bl_none {t : ByteArray} {p : Nat} (hno : ∀ (j : Nat) (h : j < t.size), p ≤ j → (t[j]).toNat ≠ 32) : bl (t.extract p t.size) < 0 := by
  unfold bl
  rcases Int.lt_or_le (Lib.indexByte (t.extract p t.size).data.toList 32) 0 with h | h
  · exact h
  · exfalso
    obtain ⟨o, ho⟩ : ∃ o : Nat, Lib.indexByte (t.extract p t.size).data.toList 32 = o := ⟨_, (Int.toNat_of_nonneg h).symm⟩
    have h1 := (Lib.indexByte_some ho).1
    rw [suf_at] at h1
    obtain ⟨hlt, _⟩ := List.getElem?_eq_some_iff.1 h1
    have hlt' : p + o < t.size := by simpa using hlt
    rw [at_list t hlt'] at h1
    injection h1 with h3
    exact hno (p + o) hlt' (by omega) (by rw [h3]; rfl)
theorem ext_ext (t : ByteArray) {p a b : Nat} (h : p + b ≤ t.size) : (t.extract p t.size).extract a b = t.extract (p + a) (p + b) := by
  apply ByteArray.ext
  rw [ByteArray.data_extract, ByteArray.data_extract, ByteArray.data_extract, Array.extract_extract]
  congr 1
  have : t.data.size = t.size := rfl
  omega
theorem wl_found {t : ByteArray} {p i F : Nat} (hp : p ≤ i) (hi : i < t.size) (h32 : (t[i]).toNat = 32) (hno : ∀ (j : Nat) (h : j < t.size), p ≤ j → j < i → (t[j]).toNat ≠ 32) : wl (F + 1) (t.extract p t.size) = t.extract p i :: wl F (t.extract (i + 1) t.size) := by
  have e := bl_found hp hi h32 hno
  have hz : (t.extract p t.size).size = t.size - p := by rw [ByteArray.size_extract]; omega
  rw [wl, if_neg (by omega), e, Int.toNat_natCast, hz, ext_ext t (by omega), ext_ext t (by omega)]
  rw [show p + 0 = p by omega, show p + (i - p) = i by omega, show p + (i - p + 1) = i + 1 by omega, show p + (t.size - p) = t.size by omega]
theorem wl_none {t : ByteArray} {p F : Nat} (hno : ∀ (j : Nat) (h : j < t.size), p ≤ j → (t[j]).toNat ≠ 32) : wl F (t.extract p t.size) = [t.extract p t.size] := by
  cases F with
  | zero => rfl
  | succ F => rw [wl, if_pos (bl_none hno)]
theorem eqB_nil {c x : ByteArray} (hc : c.size ≠ 0) (hx : x.size = 0) : eqB x c = false := by
  unfold eqB
  rw [txt_nil hx, txt_list, txt_list]
  cases hd : c.data.toList with
  | nil => exact absurd (congrArg List.length hd) (by rw [Array.length_toList]; exact hc)
  | cons _ _ => rfl

set_option maxRecDepth 20000 in
set_option maxHeartbeats 4000000 in
theorem ramong_any (c t : ByteArray) (w : World) (hc : c.size ≠ 0) (ht : t.size < 1000000000) :
    Calls Tryd.prog 63 #[.string c, .string t] w fun e w' => e = .returned (.bool (am c t)) ∧ w' = w := by
  obtain ⟨D, HD⟩ : ∃ D, Hid (D = am c t) := ⟨_, rfl⟩
  rw [← HD.out]
  go_enter Tryd.func63, Tryd.ntmps63
  go_wp2_with fail
  go_loopw [5, 6] (fun vf vi wr => wr = w ∧ ∃ p i : Nat, vf = .int .i64 p ∧ vi = .int .i64 i ∧ p ≤ i ∧ i ≤ t.size + 1 ∧ Hid ((i ≤ t.size → ∃ F, D = ((wl (F + 1) (t.extract p t.size)).any fun x => eqB x c) ∧ t.size ≤ F + p) ∧ (∀ (j : Nat) (h : j < t.size), p ≤ j → j < i → (t[j]).toNat ≠ 32) ∧ (i = t.size + 1 → D = false))) (fun _ vi _ => t.size + 1 - (intOf vi).toNat)
  case atStart =>
    refine ⟨rfl, 0, 0, rfl, rfl, Nat.le_refl _, by omega, fun _ => ⟨t.size, ?_, by omega⟩, fun _ _ _ h => absurd h (by omega), fun h => absurd h (by omega)⟩
    rw [HD.out]
    unfold am wordsB
    rw [show t.extract 0 t.size = t from ByteArray.ext (by rw [ByteArray.data_extract]; exact Array.extract_size)]
  case round =>
    obtain ⟨rfl, p, i, rfl, rfl, hpi, hi, HR⟩ := hrel
    clear HD
    by_cases h1 : i = t.size + 1
    · have hD : D = false := HR.out.2.2 h1
      have h1' : ¬ (i : Int) ≤ (t.size : Int) := by omega
      have h1d : decide ((i : Int) ≤ (t.size : Int)) = false := decide_eq_false h1'
      subst hD
      clear HR
      go_wp2
      go_ret
      exact ⟨rfl, rfl⟩
    have h1' : (i : Int) ≤ (t.size : Int) := by omega
    obtain ⟨F, hD, hF⟩ := HR.out.1 (by omega)
    have HF : Hid (D = ((wl (F + 1) (t.extract p t.size)).any fun x => eqB x c) ∧ t.size ≤ F + p) := ⟨hD, hF⟩
    clear hD hF
    have hb1 : (p : Int) ≤ (i : Int) := by omega
    obtain ⟨i1, zi⟩ : ∃ i1 : Nat, (i : Int) + 1 = (i1 : Int) := ⟨i + 1, by omega⟩
    have hi1 : i1 = i + 1 := by omega
    have HI : Hid (i1 = i + 1) := hi1
    clear hi1
    by_cases h2 : i = t.size
    · subst h2
      have hw : D = eqB (t.extract p t.size) c := by
        rw [HF.out.1, wl_none (fun j hj hp => HR.out.2.1 j hj hp (by omega))]
        simp
      cases he : eqB (t.extract p t.size) c
      · have HN : Hid (D = false) := hw.trans he
        have he' : ((t.extract p t.size).toList == c.toList) = false := he
        clear hw he
        by_cases h3 : p < t.size
        · have h3' : (p : Int) < (t.size : Int) := by omega
          go_wp2_with fail
          go_roundw
          case rel => exact ⟨trivial, i1, i1, rfl, rfl, Nat.le_refl _, by have := HI.out; omega, fun h => absurd h (by have := HI.out; omega), fun j hj h4 h5 => absurd h4 (by omega), fun _ => HN.out⟩
          case measure => have := HI.out; simp [intOf]; omega
        · have h3' : ¬ (p : Int) < (t.size : Int) := by omega
          have h3d : decide ((p : Int) < (t.size : Int)) = false := decide_eq_false h3'
          go_wp2_with fail
          go_roundw
          case rel => exact ⟨trivial, i1, i1, rfl, rfl, Nat.le_refl _, by have := HI.out; omega, fun h => absurd h (by have := HI.out; omega), fun j hj h4 h5 => absurd h4 (by omega), fun _ => HN.out⟩
          case measure => have := HI.out; simp [intOf]; omega
      · have hD : D = true := hw.trans he
        have he' : ((t.extract p t.size).toList == c.toList) = true := he
        have h3 : p < t.size := by
          rcases Nat.lt_or_ge p t.size with h | h
          · exact h
          · exfalso
            rw [eqB_nil hc (by rw [ByteArray.size_extract]; omega)] at he
            cases he
        have h3' : (p : Int) < (t.size : Int) := by omega
        subst hD
        clear hw he HF HR
        go_wp2
        go_ret
        exact ⟨rfl, rfl⟩
    have hlt : i < t.size := by omega
    have hlt' : (i : Int) < (t.size : Int) := by omega
    have h2' : ((i : Int) == (t.size : Int)) = false := beq_eq_false_iff_ne.2 (by omega)
    have h2n : ¬ (i : Int) = (t.size : Int) := by omega
    by_cases h32 : (t[i]).toNat = 32
    · have h32' : (((t[i]).toNat : Int) == 32) = true := beq_iff_eq.2 (by omega)
      have hw : D = (eqB (t.extract p i) c || ((wl F (t.extract (i + 1) t.size)).any fun x => eqB x c)) := by
        rw [HF.out.1, wl_found hpi hlt h32 (fun j hj h4 h5 => HR.out.2.1 j hj h4 h5)]
        simp
      cases he : eqB (t.extract p i) c
      · have HN : Hid (∃ F', D = ((wl (F' + 1) (t.extract i1 t.size)).any fun x => eqB x c) ∧ t.size ≤ F' + i1) := by
          refine ⟨F - 1, ?_, ?_⟩
          · rw [hw, he, HI.out, show F - 1 + 1 = F by have := HF.out.2; omega]
            simp
          · have := HF.out.2; have := HI.out; omega
        have he' : ((t.extract p i).toList == c.toList) = false := he
        clear hw he
        by_cases h3 : p < i
        · have h3' : (p : Int) < (i : Int) := by omega
          go_wp2_with fail
          go_roundw
          case rel => exact ⟨trivial, i1, i1, rfl, rfl, Nat.le_refl _, by have := HI.out; omega, fun _ => HN.out, fun j hj h4 h5 => absurd h4 (by omega), fun h => absurd h (by have := HI.out; omega)⟩
          case measure => have := HI.out; simp [intOf]; omega
        · have h3' : ¬ (p : Int) < (i : Int) := by omega
          have h3d : decide ((p : Int) < (i : Int)) = false := decide_eq_false h3'
          go_wp2_with fail
          go_roundw
          case rel => exact ⟨trivial, i1, i1, rfl, rfl, Nat.le_refl _, by have := HI.out; omega, fun _ => HN.out, fun j hj h4 h5 => absurd h4 (by omega), fun h => absurd h (by have := HI.out; omega)⟩
          case measure => have := HI.out; simp [intOf]; omega
      · have hD : D = true := by rw [hw, he]; rfl
        have he' : ((t.extract p i).toList == c.toList) = true := he
        have h3 : p < i := by
          rcases Nat.lt_or_ge p i with h | h
          · exact h
          · exfalso
            rw [eqB_nil hc (by rw [ByteArray.size_extract]; omega)] at he
            cases he
        have h3' : (p : Int) < (i : Int) := by omega
        subst hD
        clear hw he HF HR
        go_wp2
        go_ret
        exact ⟨rfl, rfl⟩
    · have h32' : (((t[i]).toNat : Int) == 32) = false := beq_eq_false_iff_ne.2 (by omega)
      have h32n : ¬ ((t[i]).toNat : Int) = 32 := by omega
      have HN : Hid (∀ (j : Nat) (h : j < t.size), p ≤ j → j < i1 → (t[j]).toNat ≠ 32) := fun j hj h4 h5 => by
        have := HI.out
        by_cases e : j = i
        · subst e; exact h32
        · exact HR.out.2.1 j hj h4 (by omega)
      go_wp2_with fail
      go_roundw
      case rel => exact ⟨trivial, p, i1, rfl, rfl, by have := HI.out; omega, by have := HI.out; omega, fun _ => ⟨F, HF.out⟩, HN.out, fun h => absurd h (by have := HI.out; omega)⟩
      case measure => have := HI.out; simp [intOf]; omega

end Go.Proofs.YtobmpjmpffnoiaaDoor
