/-
  Paragraphs of a text by the places of its line ends.
-/
import Derived.Test.YtlooemhaoikidaaDoorFQ
import Derived.Lib.IndexLaws
import Derived.Lib.IndexBytes
import Derived.Lib.CountLaws
import Derived.Lib.Split
namespace Go.Proofs.YtlooemhaoikidaaDoor

theorem at_list (c : ByteArray) {k : Nat} (h : k < c.size) : c.data.toList[k]? = some c[k] := by
  rw [Array.getElem?_toList, Array.getElem?_eq_getElem h]; rfl
theorem suf_at (t : ByteArray) (p k : Nat) : (t.extract p t.size).data.toList[k]? = t.data.toList[p + k]? := by
  rw [ByteArray.data_extract, Array.getElem?_toList, Array.getElem?_toList, Array.getElem?_extract]
  have : t.data.size = t.size := rfl
  by_cases h : p + k < t.size
  · rw [if_pos (by rw [this]; omega)]
  · rw [if_neg (by rw [this]; omega), Array.getElem?_eq_none (by omega)]
theorem idx_nl (s : ByteArray) : Lib.indexB s nl = Lib.indexByte s.data.toList 10 := Lib.index_one s.data.toList 10
theorem nl_found {t : ByteArray} {p i : Nat} (hp : p ≤ i) (hi : i < t.size) (h10 : (t[i]).toNat = 10) (hno : ∀ (j : Nat) (h : j < t.size), p ≤ j → j < i → (t[j]).toNat ≠ 10) : Lib.indexB (t.extract p t.size) nl = ((i - p : Nat) : Int) := by
  rw [idx_nl]
  have e : t[i] = 10 := UInt8.toNat_inj.1 h10
  have hat : (t.extract p t.size).data.toList[i - p]? = some 10 := by
    rw [suf_at, show p + (i - p) = i by omega, at_list t hi, e]
  have hge := Lib.indexByte_ge (t.extract p t.size).data.toList 10
  by_cases hn : Lib.indexByte (t.extract p t.size).data.toList 10 = -1
  · exact absurd hat (Lib.indexByte_none hn (i - p))
  · obtain ⟨o, ho⟩ : ∃ o : Nat, Lib.indexByte (t.extract p t.size).data.toList 10 = o := ⟨_, (Int.toNat_of_nonneg (by omega)).symm⟩
    obtain ⟨h1, h2⟩ := Lib.indexByte_some ho
    rw [ho]
    congr 1
    rcases Nat.lt_trichotomy o (i - p) with h | h | h
    · exfalso
      rw [suf_at, at_list t (show p + o < t.size by omega)] at h1
      injection h1 with h3
      exact hno (p + o) (by omega) (by omega) (by omega) (by rw [h3]; rfl)
    · exact h
    · exact absurd hat (h2 _ h)
theorem nl_none {t : ByteArray} {p : Nat} (hno : ∀ (j : Nat) (h : j < t.size), p ≤ j → (t[j]).toNat ≠ 10) : Lib.indexB (t.extract p t.size) nl = -1 := by
  rw [idx_nl]
  have hge := Lib.indexByte_ge (t.extract p t.size).data.toList 10
  rcases Int.lt_or_le (Lib.indexByte (t.extract p t.size).data.toList 10) 0 with h | h
  · omega
  · exfalso
    obtain ⟨o, ho⟩ : ∃ o : Nat, Lib.indexByte (t.extract p t.size).data.toList 10 = o := ⟨_, (Int.toNat_of_nonneg h).symm⟩
    have h1 := (Lib.indexByte_some ho).1
    rw [suf_at] at h1
    obtain ⟨hlt, _⟩ := List.getElem?_eq_some_iff.1 h1
    have hlt' : p + o < t.size := by simpa using hlt
    rw [at_list t hlt'] at h1
    injection h1 with h3
    exact hno (p + o) hlt' (by omega) (by rw [h3]; rfl)
theorem ext_ext (t : ByteArray) {p a b : Nat} (h : p + b ≤ t.size) : (t.extract p t.size).extract a b = t.extract (p + a) (p + b) := by
  apply ByteArray.ext
  rw [ByteArray.data_extract, ByteArray.data_extract, ByteArray.data_extract, Array.extract_extract]
  congr 1
  have : t.data.size = t.size := rfl
  omega
theorem paras_found {t : ByteArray} {p i : Nat} (hp : p ≤ i) (hi : i < t.size) (h10 : (t[i]).toNat = 10) (hno : ∀ (j : Nat) (h : j < t.size), p ≤ j → j < i → (t[j]).toNat ≠ 10) : paras (t.extract p t.size) = t.extract p i :: paras (t.extract (i + 1) t.size) := by
  have e := nl_found hp hi h10 hno
  have hz : (t.extract p t.size).size = t.size - p := by rw [ByteArray.size_extract]; omega
  have hn : nl.size = 1 := rfl
  unfold paras
  rw [Lib.countB_hit _ nl _ (by rw [hn]; exact Nat.le_refl _) e, Nat.add_comm 1, Lib.splitB_hit nl 0 _ _ _ e, hn, hz, Nat.add_zero]
  rw [ext_ext t (show p + (i - p) ≤ t.size by omega), ext_ext t (show p + (t.size - p) ≤ t.size by omega)]
  rw [show p + 0 = p by omega, show p + (i - p) = i by omega, show p + (i - p + 1) = i + 1 by omega, show p + (t.size - p) = t.size by omega]
theorem paras_none {t : ByteArray} {p : Nat} (hno : ∀ (j : Nat) (h : j < t.size), p ≤ j → (t[j]).toNat ≠ 10) : paras (t.extract p t.size) = [t.extract p t.size] := by
  unfold paras
  exact Lib.splitB_miss nl 0 _ _ (nl_none hno)
theorem outL_cons (p : ByteArray) (ps : List ByteArray) (room : Int) : outL (p :: ps) room = outP p room ++ outL ps room := by
  unfold outL; simp
theorem wid_max : ∀ (ps : List ByteArray) (room m : Int), widL ps room m = (outL ps room).foldl (fun m x => max m (sumC (pcs x))) m
  | [], _, _ => rfl
  | p :: ps, room, m => by
    have h : widP p room m = (outP p room).foldl (fun m x => max m (sumC (pcs x))) m := by
      unfold widP
      have hw := lines_width p room
      have e1 : (linesOf p room).foldl (fun m l => max m l.c) m = ((linesOf p room).map fun l => l.c).foldl max m := by rw [List.foldl_map]
      rw [e1, hw, List.foldl_map]
    rw [outL_cons, List.foldl_append, ← h, ← wid_max ps room]
    rfl
theorem outP_pos (p : ByteArray) (room : Int) : 0 < (outP p room).length := by unfold outP linesOf; simp

end Go.Proofs.YtlooemhaoikidaaDoor
