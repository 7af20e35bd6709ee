/-
  Lines in plain words: their places lie in the paragraph; how many there are at most.
-/
import Derived.Test.YtbnbfgkcndomaabGreatDoorRL3
import Derived.Test.YtbnbfgkcndomaabGreatDoorRS
import Derived.Lib.SplitLaws
namespace Go.Proofs.YtbnbfgkcndomaabGreatDoor
open Go.RowKit Go.Shelf

theorem sz_pos (s : ByteArray) (q : Nat) : 1 ≤ sz s q := Lib.width_pos s q
/-- Pieces one behind the other, from a place on, up to an end at most. -/
def Ch (N : Nat) : Nat → List Pc → Prop
  | _, [] => True
  | a, x :: t => x.fr = a ∧ a < x.to ∧ x.to ≤ N ∧ Ch N x.to t
theorem grow_ch (s : ByteArray) : ∀ f a r q, a < q → a < s.size → Ch s.size a (grow s f a r q)
  | 0, _, _, _, _, _ => by simp [grow, Ch]
  | f + 1, a, r, q, h1, h2 => by
    by_cases hq : q < s.size
    · cases h : (mrk (rn s q) && !ctl r)
      · rw [grow_out hq h]
        exact ⟨rfl, h1, Nat.le_of_lt hq, grow_ch s f q (rn s q) (q + sz s q) (by have := sz_pos s q; omega) hq⟩
      · rw [grow_in hq h]
        exact grow_ch s f a r (q + sz s q) (by omega) h2
    · rw [grow_end hq]
      exact ⟨rfl, h2, Nat.le_refl _, trivial⟩
theorem pcs_ch (s : ByteArray) : Ch s.size 0 (pcs s) := by
  unfold pcs
  split
  · trivial
  · exact grow_ch s _ _ _ _ (by have := sz_pos s 0; omega) (by omega)

/-- A line within a text. -/
def InL (N : Nat) (l : Ln) : Prop := l.fr ≤ l.to ∧ l.to ≤ N
def InN (N : Nat) (l : Ln) : Prop := l.fr ≤ l.k ∧ l.k ≤ l.to ∧ l.to ≤ N
theorem squeeze_in (N : Nat) (room : Int) (x : Pc) : ∀ (f : Nat) (L : List Ln) (n : Ln), x.fr = n.to → InN N n → (∀ y ∈ L, InL N y) → InN N (squeeze f room x L n).2 ∧ (squeeze f room x L n).2.to = n.to ∧ (∀ y ∈ (squeeze f room x L n).1, InL N y)
  | 0, L, n, hx, hn, hL => ⟨hn, rfl, hL⟩
  | f + 1, L, n, hx, hn, hL => by
    obtain ⟨n1, n2, n3⟩ := hn
    rw [squeeze]
    split
    · exact ⟨⟨n1, n2, n3⟩, rfl, hL⟩
    · by_cases c : x.r = 32 ∨ n.k = n.fr
      · have e1 : stays n x = n := by simp [stays, c]
        have e2 : goes n x = ⟨x.fr, x.fr, 0, x.fr, 0⟩ := by simp [goes, c]
        have r := squeeze_in N room x f (L ++ [stays n x]) (goes n x) (by rw [e2]) (by rw [e2]; exact ⟨Nat.le_refl _, Nat.le_refl _, by simp; omega⟩) (by
          intro y hy
          rcases List.mem_append.1 hy with hy | hy
          · exact hL y hy
          · rw [List.mem_singleton, e1] at hy; subst hy; exact ⟨by omega, n3⟩)
        refine ⟨r.1, r.2.1.trans ?_, r.2.2⟩
        rw [e2]
        exact hx
      · have e1 : stays n x = ⟨n.fr, n.k, n.kc, 0, 0⟩ := by simp [stays, c]
        have e2 : goes n x = ⟨n.k, n.to, n.c - n.kc, n.k, 0⟩ := by simp [goes, c]
        have r := squeeze_in N room x f (L ++ [stays n x]) (goes n x) (by rw [e2]; exact hx) (by rw [e2]; exact ⟨Nat.le_refl _, n2, n3⟩) (by
          intro y hy
          rcases List.mem_append.1 hy with hy | hy
          · exact hL y hy
          · rw [List.mem_singleton, e1] at hy; subst hy; exact ⟨n1, by simp; omega⟩)
        refine ⟨r.1, r.2.1.trans ?_, r.2.2⟩
        rw [e2]
theorem fold_in (N : Nat) (room : Int) : ∀ (l : List Pc) (L : List Ln) (n : Ln), Ch N n.to l → InN N n → (∀ y ∈ L, InL N y) → InN N (foldL room l L n).2 ∧ (∀ y ∈ (foldL room l L n).1, InL N y)
  | [], L, n, _, hn, hL => ⟨hn, hL⟩
  | x :: t, L, n, hc, hn, hL => by
    obtain ⟨c1, c2, c3, c4⟩ := hc
    obtain ⟨s1, s2, s3⟩ := squeeze_in N room x 3 L n c1 hn hL
    rw [foldL]
    refine fold_in N room t _ _ c4 ?_ s3
    obtain ⟨i1, i2, i3⟩ := s1
    unfold withL InN
    dsimp only
    split <;> omega
theorem lines_in (s : ByteArray) (room : Int) (l : Ln) (h : l ∈ linesOf s room) : InL s.size l := by
  obtain ⟨r1, r2⟩ := fold_in s.size room (pcs s) [] zeroL (pcs_ch s) ⟨Nat.le_refl _, Nat.le_refl _, Nat.zero_le _⟩ (by simp)
  unfold linesOf at h
  rcases List.mem_append.1 h with h | h
  · exact r2 l h
  · rw [List.mem_singleton] at h; subst h; exact ⟨Nat.le_trans r1.1 r1.2.1, r1.2.2⟩

theorem squeeze_len (room : Int) (x : Pc) : ∀ (f : Nat) (L : List Ln) (n : Ln), (squeeze f room x L n).1.length ≤ L.length + f
  | 0, _, _ => by simp [squeeze]
  | f + 1, L, n => by
    rw [squeeze]
    split
    · simp
    · have := squeeze_len room x f (L ++ [stays n x]) (goes n x); simp at this; omega
theorem fold_len (room : Int) : ∀ (l : List Pc) (L : List Ln) (n : Ln), (foldL room l L n).1.length ≤ L.length + 3 * l.length
  | [], _, _ => by simp [foldL]
  | x :: t, L, n => by
    rw [foldL]
    have h1 := fold_len room t (squeeze 3 room x L n).1 (withL (squeeze 3 room x L n).2 x)
    have h2 := squeeze_len room x 3 L n
    simp only [List.length_cons]
    omega
theorem lines_len (s : ByteArray) (room : Int) : 1 ≤ (linesOf s room).length ∧ (linesOf s room).length ≤ 3 * s.size + 1 := by
  have h1 := fold_len room (pcs s) [] zeroL
  have h2 := pcs_len s
  unfold linesOf
  simp only [List.length_append, List.length_singleton, List.length_nil] at *
  omega

/-- The paragraphs of a text. -/
def nl : ByteArray := ⟨#[10]⟩
def paras (s : ByteArray) : List ByteArray := Lib.splitB nl 0 (Lib.countB s nl) s
theorem split_size (sep : ByteArray) : ∀ (k : Nat) (s : ByteArray) (p : ByteArray), p ∈ Lib.splitB sep 0 k s → p.size ≤ s.size
  | 0, s, p, h => by rw [Lib.splitB, List.mem_singleton] at h; rw [h]; exact Nat.le_refl _
  | k + 1, s, p, h => by
    rw [Lib.splitB] at h
    split at h
    · rw [List.mem_singleton] at h; rw [h]; exact Nat.le_refl _
    · rcases List.mem_cons.1 h with h | h
      · rw [h]; simp; omega
      · have := split_size sep k _ p h
        refine Nat.le_trans this ?_
        simp
theorem paras_size {s p : ByteArray} (h : p ∈ paras s) : p.size ≤ s.size := split_size nl _ s p h
theorem paras_len (s : ByteArray) : (paras s).length = Lib.countB s nl + 1 := Lib.splitB_all nl (by decide) 0 _ s rfl
theorem count_le (s : ByteArray) : Lib.countB s nl ≤ s.size + 1 := by
  have := Lib.count_le s.data.toList nl.data.toList
  have e : s.size = s.data.toList.length := Array.length_toList.symm
  rw [e]
  exact this

/-- The lines of a text, and the greatest number of cells of one. -/
def outP (p : ByteArray) (room : Int) : List ByteArray := (linesOf p room).map fun l => p.extract l.fr l.to
def outL (ps : List ByteArray) (room : Int) : List ByteArray := (ps.map fun p => outP p room).flatten
def widP (p : ByteArray) (room : Int) (m : Int) : Int := (linesOf p room).foldl (fun m l => max m l.c) m
def widL (ps : List ByteArray) (room : Int) (m : Int) : Int := ps.foldl (fun m p => widP p room m) m
def roomOf (cells : Int) : Int := if cells < 1 then 9223372036854775807 else cells

theorem flatL_at (L : List Ln) (j : Nat) (h : j < L.length) : (flatL L)[j * 5]? = some (.int .i64 L[j].fr) ∧ (flatL L)[j * 5 + 1]? = some (.int .i64 L[j].to) ∧ (flatL L)[j * 5 + 2]? = some (.int .i64 L[j].c) ∧ (flatL L)[j * 5 + 3]? = some (.int .i64 L[j].k) ∧ (flatL L)[j * 5 + 4]? = some (.int .i64 L[j].kc) := by
  induction L generalizing j with
  | nil => simp at h
  | cons a t ih =>
    have e : flatL (a :: t) = (.int .i64 a.fr) :: (.int .i64 a.to) :: (.int .i64 a.c) :: (.int .i64 a.k) :: (.int .i64 a.kc) :: flatL t := by simp [flatL]
    rw [e]
    cases j with
    | zero => simp
    | succ j =>
      have := ih j (by simpa using h)
      simp only [List.getElem_cons_succ]
      rw [show (j + 1) * 5 = j * 5 + 1 + 1 + 1 + 1 + 1 by omega]
      simpa using this

end Go.Proofs.YtbnbfgkcndomaabGreatDoor
