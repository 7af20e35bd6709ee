/-
  Package grid: what may be; rows of cells in plain lists and in memory; each.
-/
import Derived.Test.YthnhcphkpffkfaaGreatYD
import Derived.Shelf.Abstract
import Derived.Test.YthnhcphkpffkfaaGreatYR
namespace Go.Proofs.YthnhcphkpffkfaaGreat
open Go.RowKit
attribute [local go_sem] ite_maxK ite_minK

theorem counted_any (x : Int) (w : World) : Calls Tryz.prog 57 #[.int .i64 x] w fun e w' => e = .returned (.int .i64 (max x 1)) ∧ w' = w := by
  go_enter Tryz.func57, Tryz.ntmps57
  go_wp2
  go_ret
  first
    | exact ⟨rfl, rfl⟩
    | (refine ⟨?_, rfl⟩; congr 2; omega)

theorem nuC_lo {x most : Int} (h : x < 0) : nuC x most = 2 := by unfold nuC inG; rw [if_neg]; simp; omega
theorem nuC_hi {x most : Int} (h : most < x) : nuC x most = 2 := by unfold nuC inG; rw [if_neg]; simp; omega
theorem nuC_in {x most : Int} (h : ¬ x < 0) (h' : ¬ most < x) : nuC x most = 0 := by unfold nuC inG; rw [if_pos]; simp; omega

set_option maxHeartbeats 2000000 in
theorem upTo_any (x most : Int) (w : World) :
    Calls Tryz.prog 56 #[.int .i64 x, .int .i64 most] w fun e w' => e = .returned (.int .i64 (nuC x most)) ∧ w' = w := by
  by_cases c1 : x < 0
  · rw [nuC_lo c1]
    go_enter Tryz.func56, Tryz.ntmps56
    go_wp2
    go_ret
    exact ⟨rfl, rfl⟩
  · by_cases c2 : most < x
    · rw [nuC_hi c2]
      go_enter Tryz.func56, Tryz.ntmps56
      go_wp2
      go_ret
      exact ⟨rfl, rfl⟩
    · rw [nuC_in c1 c2]
      go_enter Tryz.func56, Tryz.ntmps56
      go_wp2
      go_ret
      exact ⟨rfl, rfl⟩

set_option maxHeartbeats 2000000 in
theorem columns_any (x : Int) (w : World) : Calls Tryz.prog 21 #[.int .i64 x] w fun e w' => e = .returned (.int .i64 (nuC x 64)) ∧ w' = w := by
  have HC := upTo_any x 64 w
  generalize nuC x 64 = R at *
  go_enter Tryz.func21, Tryz.ntmps21
  go_wp2_with fail
  refine HC.mono ?_
  rintro e w1 ⟨rfl, rfl⟩
  go_wp2
  go_ret
  exact ⟨rfl, rfl⟩

set_option maxHeartbeats 2000000 in
theorem side_any (x : Int) (w : World) : Calls Tryz.prog 22 #[.int .i64 x] w fun e w' => e = .returned (.int .i64 (nuC x 16384)) ∧ w' = w := by
  have HC := upTo_any x 16384 w
  generalize nuC x 16384 = R at *
  go_enter Tryz.func22, Tryz.ntmps22
  go_wp2_with fail
  refine HC.mono ?_
  rintro e w1 ⟨rfl, rfl⟩
  go_wp2
  go_ret
  exact ⟨rfl, rfl⟩

def prC (a b : Nat) : Int := if b = a then 0 else 110
set_option maxHeartbeats 2000000 in
theorem pairs_any (a b : Nat) (w : World) : Calls Tryz.prog 23 #[.int .i64 a, .int .i64 b] w fun e w' => e = .returned (.int .i64 (prC a b)) ∧ w' = w := by
  unfold prC
  by_cases h : b = a
  · subst h
    rw [if_pos rfl]
    go_enter Tryz.func23, Tryz.ntmps23
    go_wp2
    go_ret
    exact ⟨rfl, rfl⟩
  · rw [if_neg h]
    have h1 : ¬ (a : Int) = b := by omega
    go_enter Tryz.func23, Tryz.ntmps23
    go_wp2
    go_ret
    exact ⟨rfl, rfl⟩

set_option maxHeartbeats 2000000 in
theorem listI_any (F : Nat) (most : Int) (hF : ∀ x W, Calls Tryz.prog F #[.int .i64 x] W fun e w' => e = .returned (.int .i64 (nuC x most)) ∧ w' = W) (eg : ∀ args w, (callFunc F args).run Tryz.prog w = .ok (.enter F args) w) (l : List Int) (v : Value) (w : World) (hv : IS w v l) :
    Calls Tryz.prog 53 #[v, .func (.func F) #[] #[]] w fun e w' => e = .returned (.int .i64 (eaC l most)) ∧ w' = w := by
  obtain ⟨oa, cap, rfl, hc, hg⟩ := hv
  have HG : Hid (0 < l.length → ∃ g o, oa = some ⟨g, o, none⟩ ∧ g < w.heap.size ∧ ∀ i (h : i < l.length), w.cell? ⟨g, o + i, none⟩ = some (.int .i64 l[i])) := hg
  have HF : Hid (∀ x W, Calls Tryz.prog F #[.int .i64 x] W fun e w' => e = .returned (.int .i64 (nuC x most)) ∧ w' = W) := hF
  clear hg hF
  unfold eaC
  by_cases h2 : 1024 < l.length
  · rw [if_pos h2]
    have i2 : (1024 : Int) < l.length := by omega
    go_enter Tryz.func53, Tryz.ntmps53
    go_wp2
    go_ret
    exact ⟨rfl, rfl⟩
  rw [if_neg (by omega)]
  have i2 : ¬ (1024 : Int) < l.length := by omega
  obtain ⟨R, HR⟩ : ∃ R : Int, Hid (R = if l.all (inG most) = true then 0 else 2) := ⟨_, rfl⟩
  rw [← HR.out]
  go_enter Tryz.func53, Tryz.ntmps53
  go_wp2_with fail
  go_loopw [6, 7, 13] (fun _ _ i wr => ∃ k : Nat, k ≤ l.length ∧ i = .int .i64 k ∧ wr = w ∧ Hid ((l.take k).all (inG most) = true)) (fun _ _ i _ => l.length - (intOf i).toNat)
  case atStart => exact ⟨0, Nat.zero_le _, rfl, rfl, rfl⟩
  case round =>
    obtain ⟨k, hk, rfl, rfl, HK⟩ := hrel
    by_cases hlt : k < l.length
    · have ik : (k : Int) < l.length := by omega
      obtain ⟨g, o, rfl, hg, hat⟩ := HG.out (by omega)
      have x0 := hat k hlt
      have HT : Hid ((inG most l[k] = true → (l.take (k + 1)).all (inG most) = true) ∧ (inG most l[k] = false → R = 2)) := ⟨fun h => take_all hlt HK.out h, fun h => by rw [HR.out, if_neg (by rw [all_not hlt h]; decide)]⟩
      have HFk := HF.out l[k] wr
      unfold nuC at HFk
      clear hat HK
      generalize l[k] = x at *
      cases c1 : inG most x
      · have hR : Hid (R = 2) := HT.out.2 c1
        rw [c1, if_neg (by decide)] at HFk
        clear HT c1
        go_wp2_with fail
        refine HFk.mono ?_
        rintro e w1 ⟨rfl, rfl⟩
        go_wp2
        go_ret
        exact ⟨by rw [hR.out]; rfl, rfl⟩
      · have HA : Hid ((l.take (k + 1)).all (inG most) = true) := HT.out.1 c1
        rw [c1, if_pos rfl] at HFk
        clear HT c1
        go_wp2_with fail
        refine HFk.mono ?_
        rintro e w1 ⟨rfl, rfl⟩
        go_wp2
        exact ⟨⟨k + 1, by omega, by go_num, trivial, HA.out⟩, by simp [intOf]; omega⟩
    · obtain rfl : k = l.length := by omega
      have HF : Hid (R = 0) := by have := HK.out; rw [List.take_length] at this; unfold Hid; rw [HR.out, if_pos this]
      clear HK
      go_wp2
      go_ret
      exact ⟨by rw [HF.out]; rfl, rfl⟩

theorem columns_enters : ∀ args w, (callFunc 21 args).run Tryz.prog w = .ok (.enter 21 args) w := enters_of Tryz.func21 (by kernel_rfl) rfl
theorem side_enters : ∀ args w, (callFunc 22 args).run Tryz.prog w = .ok (.enter 22 args) w := enters_of Tryz.func22 (by kernel_rfl) rfl

set_option maxHeartbeats 2000000 in
theorem spans_any (l : List Int) (v : Value) (w : World) (hv : IS w v l) : Calls Tryz.prog 19 #[v] w fun e w' => e = .returned (.int .i64 (eaC l 64)) ∧ w' = w := by
  have HC := listI_any 21 64 (fun x W => columns_any x W) columns_enters l v w hv
  obtain ⟨oa, cap, rfl, hc, hg⟩ := hv
  clear hg hc
  generalize eaC l 64 = R at *
  go_enter Tryz.func19, Tryz.ntmps19
  go_wp2_with fail
  refine HC.mono ?_
  rintro e w1 ⟨rfl, rfl⟩
  go_wp2
  go_ret
  exact ⟨rfl, rfl⟩

set_option maxHeartbeats 2000000 in
theorem leasts_any (l : List Int) (v : Value) (w : World) (hv : IS w v l) : Calls Tryz.prog 50 #[v] w fun e w' => e = .returned (.int .i64 (eaC l 16384)) ∧ w' = w := by
  have HC := listI_any 22 16384 (fun x W => side_any x W) side_enters l v w hv
  obtain ⟨oa, cap, rfl, hc, hg⟩ := hv
  clear hg hc
  generalize eaC l 16384 = R at *
  go_enter Tryz.func50, Tryz.ntmps50
  go_wp2_with fail
  refine HC.mono ?_
  rintro e w1 ⟨rfl, rfl⟩
  go_wp2
  go_ret
  exact ⟨rfl, rfl⟩

/-- The first that is not nought. -/
theorem fsC_take : ∀ (l : List Int) (k : Nat), (∀ e ∈ l.take k, e = 0) → ∀ (h : k < l.length), l[k] ≠ 0 → fsC l = l[k]
  | [], _, _, h, _ => by simp at h
  | x :: l, 0, _, _, hx => by simp only [List.getElem_cons_zero] at hx ⊢; unfold fsC; rw [if_neg hx]
  | x :: l, k + 1, ha, h, hx => by
    have h0 : x = 0 := ha x (by simp)
    subst h0
    have := fsC_take l k (fun e he => ha e (by simp [he])) (by simpa using h) (by simpa using hx)
    unfold fsC
    rw [if_pos rfl, this]
    simp
theorem fsC_all : ∀ (l : List Int), (∀ e ∈ l, e = 0) → fsC l = 0
  | [], _ => rfl
  | x :: l, ha => by
    unfold fsC
    rw [if_pos (ha x (by simp)), fsC_all l fun e he => ha e (by simp [he])]

set_option maxHeartbeats 2000000 in
theorem or_any (l : List Int) (v : Value) (w : World) (hv : IS w v l) (hl : l.length ≤ 1000) : Calls Tryz.prog 18 #[v] w fun e w' => e = .returned (.int .i64 (fsC l)) ∧ w' = w := by
  obtain ⟨oa, cap, rfl, hc, hg⟩ := hv
  have HG : Hid (0 < l.length → ∃ g o, oa = some ⟨g, o, none⟩ ∧ g < w.heap.size ∧ ∀ i (h : i < l.length), w.cell? ⟨g, o + i, none⟩ = some (.int .i64 l[i])) := hg
  clear hg
  go_enter Tryz.func18, Tryz.ntmps18
  go_wp2_with fail
  go_loopw [5, 8] (fun _ i wr => ∃ k : Nat, k ≤ l.length ∧ i = .int .i64 k ∧ wr = w ∧ Hid (∀ e ∈ l.take k, e = 0)) (fun _ i _ => l.length - (intOf i).toNat)
  case atStart => exact ⟨0, Nat.zero_le _, rfl, rfl, by unfold Hid; simp⟩
  case round =>
    obtain ⟨k, hk, rfl, rfl, HK⟩ := hrel
    by_cases hlt : k < l.length
    · have ik : (k : Int) < l.length := by omega
      obtain ⟨g, o, rfl, hg, hat⟩ := HG.out (by omega)
      have x0 := hat k hlt
      by_cases c1 : l[k] = 0
      · have HA : Hid (∀ e ∈ l.take (k + 1), e = 0) := fun e he => by
          rw [List.take_succ_eq_append_getElem hlt] at he
          rcases List.mem_append.1 he with he | he
          · exact HK.out e he
          · simp at he; rw [he, c1]
        rw [c1] at x0
        clear hat HK c1
        go_wp2
        exact ⟨⟨k + 1, by omega, by go_num, trivial, HA.out⟩, by simp [intOf]; omega⟩
      · have HA : Hid (fsC l = l[k]) := fsC_take l k HK.out hlt c1
        have c2 : (l[k] != 0) = true := by simpa using c1
        clear hat HK c1
        generalize l[k] = x at *
        go_wp2
        go_ret
        exact ⟨by rw [HA.out]; rfl, rfl⟩
    · obtain rfl : k = l.length := by omega
      have HF : Hid (fsC l = 0) := by have := HK.out; rw [List.take_length] at this; exact fsC_all l this
      clear HK
      go_wp2
      go_ret
      exact ⟨by rw [HF.out]; rfl, rfl⟩

end Go.Proofs.YthnhcphkpffkfaaGreat

namespace Go.Proofs.YthnhcphkpffkfaaGreat

/-- A cell of a plan: the thing, its first column, the one behind its last. -/
structure Pc where
  t : Nat
  a : Nat
  b : Nat
def pcC (i : Nat) (c : Cl) : Pc := ⟨i, c.x, c.x + c.k⟩
/-- One cell more: in a row of its own, or in the last one. -/
def rwO (R : List (List Pc)) (fresh : Bool) : List (List Pc) := if fresh = true then R ++ [[]] else R
def rwA (R : List (List Pc)) (fresh : Bool) (c : Pc) : List (List Pc) := (rwO R fresh).set ((rwO R fresh).length - 1) ((rwO R fresh).getD ((rwO R fresh).length - 1) [] ++ [c])
def ptR (C : List Cl) : Nat → List (List Pc)
  | 0 => []
  | i + 1 => match C[i]? with
    | some c => rwA (ptR C i) (decide (c.y = (ptR C i).length)) (pcC i c)
    | none => ptR C i
theorem ptR_succ {C : List Cl} {i : Nat} (h : i < C.length) : ptR C (i + 1) = rwA (ptR C i) (decide (C[i].y = (ptR C i).length)) (pcC i C[i]) := by
  rw [ptR, List.getElem?_eq_getElem h]
theorem rwO_len (R : List (List Pc)) (f : Bool) : (rwO R f).length = R.length + if f = true then 1 else 0 := by
  unfold rwO
  split <;> simp
theorem rwA_len (R : List (List Pc)) (f : Bool) (c : Pc) : (rwA R f c).length = R.length + if f = true then 1 else 0 := by
  unfold rwA
  rw [List.length_set, rwO_len]
/-- Where the next thing would stand. -/
def nxt (n : Nat) (l : List Int) (i : Nat) : Nat := if i = 0 then n else celX n 0 0 (l.take i)
theorem ptR_len {n : Nat} (h0 : 0 < n) (l : List Int) : ∀ i, i ≤ l.length → (ptR (cel n l) i).length = if i = 0 then 0 else celY n 0 0 (l.take i) + 1
  | 0, _ => rfl
  | i + 1, h => by
    have ih := ptR_len h0 l i (by omega)
    rw [ptR_succ (by rw [cel_len]; omega), rwA_len, cel_at_take (by omega), if_neg (show ¬ (i + 1 = 0) by omega), List.take_succ_eq_append_getElem (by omega), celY_snoc, ih]
    by_cases hi : i = 0
    · subst hi
      have hw := wdN_bd h0 l[0]
      have e : nxC n 0 0 l[0] = ⟨0, 0, wdN n l[0]⟩ := by unfold nxC; rw [if_neg (by omega)]
      simp only [List.take_zero, celX, celY]
      rw [e]
      simp
    · rw [if_neg hi]
      rcases nxC_y (n := n) (x := celX n 0 0 (l.take i)) (y := celY n 0 0 (l.take i)) l[i] with e | e <;> rw [e] <;> simp
/-- What comes of a step. -/
theorem put_step {n : Nat} (h0 : 0 < n) {l : List Int} {i : Nat} (h : i < l.length) (hC : i < (cel n l).length) :
    decide ((cel n l)[i].y = (ptR (cel n l) i).length) = decide (n < nxt n l i + wdN n l[i]) ∧ (cel n l)[i].k = wdN n l[i] ∧
    (cel n l)[i].x = (if n < nxt n l i + wdN n l[i] then 0 else nxt n l i) ∧ nxt n l (i + 1) = (cel n l)[i].x + wdN n l[i] ∧ nxt n l i ≤ n ∧
    ((cel n l)[i].y + 1 = (rwO (ptR (cel n l) i) (decide (n < nxt n l i + wdN n l[i]))).length) := by
  have hw := wdN_bd h0 l[i]
  have hlen := ptR_len h0 l i (by omega)
  have hx : nxt n l (i + 1) = (nxC n (celX n 0 0 (l.take i)) (celY n 0 0 (l.take i)) l[i]).x + wdN n l[i] := by
    unfold nxt
    rw [if_neg (by omega), List.take_succ_eq_append_getElem h, celX_snoc, nxC_k]
  rw [rwO_len, cel_at_take h, hlen, hx, nxC_k]
  by_cases hi : i = 0
  · subst hi
    have e : nxt n l 0 = n := rfl
    have e2 : nxC n 0 0 l[0] = ⟨0, 0, wdN n l[0]⟩ := by unfold nxC; rw [if_neg (by omega)]
    rw [e]
    simp only [List.take_zero, celX, celY]
    rw [e2]
    simp
    omega
  · have e : nxt n l i = celX n 0 0 (l.take i) := if_neg hi
    have := celX_le h0 (l.take i) 0 0 (Nat.zero_le n)
    rw [e, if_neg hi]
    unfold nxC
    split <;> simp <;> omega
/-- All cells of rows, with their rows. -/
def flF : Nat → List (List Pc) → List (Nat × Pc)
  | _, [] => []
  | y, r :: R => r.map (fun c => (y, c)) ++ flF (y + 1) R
theorem flF_app : ∀ (R S : List (List Pc)) (y : Nat), flF y (R ++ S) = flF y R ++ flF (y + R.length) S
  | [], S, y => by simp [flF]
  | r :: R, S, y => by rw [List.cons_append, flF, flF_app R S, flF, List.append_assoc, List.length_cons, show y + 1 + R.length = y + (R.length + 1) by omega]
theorem rwO_fl (R : List (List Pc)) (f : Bool) : flF 0 (rwO R f) = flF 0 R := by
  unfold rwO
  split
  · rw [flF_app]; simp [flF]
  · rfl
theorem list_last {α : Type} {l : List α} (h : 0 < l.length) : ∃ s a, l = s ++ [a] := by
  have hn : l ≠ [] := by rintro rfl; simp at h
  exact ⟨l.dropLast, l.getLast hn, (List.dropLast_concat_getLast hn).symm⟩
theorem set_last {α : Type} (S : List α) (a b : α) : (S ++ [a]).set ((S ++ [a]).length - 1) b = S ++ [b] := by
  rw [List.length_append, List.length_singleton, Nat.add_sub_cancel, List.set_append_right _ _ (Nat.le_refl _), Nat.sub_self, List.set_cons_zero]
theorem get_last {α : Type} (S : List α) (a d : α) : (S ++ [a]).getD ((S ++ [a]).length - 1) d = a := by
  rw [List.length_append, List.length_singleton, Nat.add_sub_cancel, List.getD_eq_getElem?_getD, List.getElem?_append_right (Nat.le_refl _), Nat.sub_self]
  rfl
theorem rwA_fl {R : List (List Pc)} {f : Bool} (h : 0 < (rwO R f).length) (c : Pc) : flF 0 (rwA R f c) = flF 0 R ++ [((rwO R f).length - 1, c)] := by
  rw [← rwO_fl R f]
  unfold rwA
  generalize rwO R f = Q at *
  obtain ⟨S, r, rfl⟩ := list_last h
  rw [set_last, get_last, flF_app, flF_app, Nat.zero_add, List.length_append, List.length_singleton, Nat.add_sub_cancel]
  simp [flF]
def flC (C : List Cl) (i : Nat) : List (Nat × Pc) := (List.range i).flatMap fun j => match C[j]? with
  | some c => [(c.y, pcC j c)]
  | none => []
theorem flC_succ {C : List Cl} {i : Nat} (h : i < C.length) : flC C (i + 1) = flC C i ++ [(C[i].y, pcC i C[i])] := by
  unfold flC
  rw [List.range_succ, List.flatMap_append]
  simp [List.getElem?_eq_getElem h]
theorem ptR_fl {n : Nat} (h0 : 0 < n) (l : List Int) : ∀ i, i ≤ l.length → flF 0 (ptR (cel n l) i) = flC (cel n l) i
  | 0, _ => rfl
  | i + 1, h => by
    have hC : i < (cel n l).length := by rw [cel_len]; omega
    obtain ⟨h1, _, _, _, _, h2⟩ := put_step h0 (by omega : i < l.length) hC
    rw [← h1] at h2
    rw [ptR_succ hC, rwA_fl (by omega), ptR_fl h0 l i (by omega), flC_succ hC, ← h2, Nat.add_sub_cancel]
theorem flC_len {C : List Cl} : ∀ {i : Nat}, i ≤ C.length → (flC C i).length = i
  | 0, _ => rfl
  | i + 1, h => by rw [flC_succ (by omega), List.length_append, flC_len (by omega)]; rfl
theorem flC_at {C : List Cl} : ∀ {i j : Nat} (_ : i ≤ C.length) (hj : j < i), (flC C i)[j]? = some ((C[j]'(by omega)).y, pcC j (C[j]'(by omega)))
  | 0, _, _, hj => by omega
  | i + 1, j, h, hj => by
    rw [flC_succ (by omega)]
    by_cases c : j < i
    · rw [List.getElem?_append_left (by rw [flC_len (by omega)]; exact c), flC_at (by omega) c]
    · obtain rfl : j = i := by omega
      rw [List.getElem?_append_right (by rw [flC_len (by omega)]; omega), flC_len (by omega), Nat.sub_self]
      rfl
/-- How many cells lie in the first rows. -/
def off (R : List (List Pc)) (r : Nat) : Nat := (flF 0 (R.take r)).length
theorem off_zero (R : List (List Pc)) : off R 0 = 0 := rfl
theorem off_succ {R : List (List Pc)} {r : Nat} (h : r < R.length) : off R (r + 1) = off R r + R[r].length := by
  unfold off
  rw [List.take_succ_eq_append_getElem h, flF_app, List.length_append]
  simp [flF]
theorem off_all (R : List (List Pc)) : off R R.length = (flF 0 R).length := by unfold off; rw [List.take_length]
theorem off_at {R : List (List Pc)} {r j : Nat} (h : r < R.length) (hj : j < R[r].length) : (flF 0 R)[off R r + j]? = some (r, R[r][j]) := by
  have e : R = R.take r ++ (R[r] :: R.drop (r + 1)) := by rw [List.getElem_cons_drop, List.take_append_drop]
  have e2 : flF 0 R = flF 0 (R.take r) ++ (R[r].map (fun c => (r, c)) ++ flF (r + 1) (R.drop (r + 1))) := by
    have := congrArg (flF 0) e
    rw [flF_app, Nat.zero_add, List.length_take, Nat.min_eq_left (by omega), flF] at this
    exact this
  rw [e2]
  unfold off
  rw [List.getElem?_append_right (by omega), Nat.add_sub_cancel_left, List.getElem?_append_left (by rw [List.length_map]; exact hj)]
  simp [hj]
/-- The rows of all things. -/
def prw (n : Nat) (l : List Int) : List (List Pc) := ptR (cel n l) l.length
theorem prw_off {n : Nat} (h0 : 0 < n) (l : List Int) : off (prw n l) (prw n l).length = l.length := by
  rw [off_all]
  unfold prw
  rw [ptR_fl h0 l _ (Nat.le_refl _), flC_len (by rw [cel_len]; omega)]
theorem prw_at {n : Nat} (h0 : 0 < n) (l : List Int) {r j : Nat} (h : r < (prw n l).length) (hj : j < (prw n l)[r].length) :
    ∃ hk : off (prw n l) r + j < (cel n l).length, ((cel n l)[off (prw n l) r + j]).y = r ∧ (prw n l)[r][j] = pcC (off (prw n l) r + j) (cel n l)[off (prw n l) r + j] := by
  have h1 := off_at h hj
  have h2 : flF 0 (prw n l) = flC (cel n l) l.length := ptR_fl h0 l _ (Nat.le_refl _)
  have h3 : off (prw n l) r + j < l.length := by
    have := (List.getElem?_eq_some_iff.1 h1).1
    rwa [h2, flC_len (by rw [cel_len]; omega)] at this
  refine ⟨by rw [cel_len]; exact h3, ?_⟩
  rw [h2, flC_at (by rw [cel_len]; omega) h3] at h1
  injection h1 with h1
  injection h1 with h1 h4
  exact ⟨h1, h4.symm⟩
theorem prw_len {n : Nat} (h0 : 0 < n) (l : List Int) : (prw n l).length ≤ l.length := by
  unfold prw
  rw [ptR_len h0 l _ (Nat.le_refl _)]
  split
  · omega
  · have hp : 0 < l.length := by omega
    have := cel_in h0 (l := l) (List.getElem_mem (l := cel n l) (n := l.length - 1) (by rw [cel_len]; omega))
    have e := cel_at_take (n := n) (l := l) (i := l.length - 1) (by omega)
    rw [e, ← celY_snoc, ← List.take_succ_eq_append_getElem (by omega), show l.length - 1 + 1 = l.length by omega] at this
    omega

end Go.Proofs.YthnhcphkpffkfaaGreat

namespace Go.Proofs.YthnhcphkpffkfaaGreat
open Go.RowKit

def fC (c : Pc) : List Int := [(c.t : Int), (c.a : Int), (c.b : Int)]
theorem encC : Enc 3 fC := fun _ => rfl
/-- A slice of rows of cells; us: the rows' own values. -/
def RsM (w : World) (v : Value) (us : List Value) (R : List (List Pc)) : Prop := ∃ oa cap, v = .slice oa R.length cap ∧ R.length ≤ cap ∧ (0 < R.length → ∃ g o, oa = some ⟨g, o, none⟩ ∧ g < w.heap.size ∧ ∀ r (h : r < R.length), ∃ u, us[r]? = some u ∧ w.cell? ⟨g, o + r, none⟩ = some u ∧ KS 3 fC w u R[r])
theorem RsM.below {w w' : World} {v : Value} {us : List Value} {R : List (List Pc)} (h : RsM w v us R) (hb : Below w.heap.size w w') : RsM w' v us R := by
  obtain ⟨oa, cap, e, hc, hg⟩ := h
  refine ⟨oa, cap, e, hc, fun hp => ?_⟩
  obtain ⟨g, o, e1, g1, g2⟩ := hg hp
  refine ⟨g, o, e1, Nat.lt_of_lt_of_le g1 hb.size, fun r hr => ?_⟩
  obtain ⟨u, hu, hk, hs⟩ := g2 r hr
  exact ⟨u, hu, (hb.cell (p := ⟨g, o + r, none⟩) g1).trans hk, hs.below hb⟩
/-- What a function that is handed on keeps, cell by cell. -/
structure Uses (R : List (List Pc)) (v : Value) (us : List Value) (F : Nat) (caps : Array Value) (I : Nat → World → Prop) : Prop where
  eg : ∀ args w, (callFunc F args).run Tryz.prog w = .ok (.enter F args) w
  rows : ∀ k W, I k W → RsM W v us R
  bel : ∀ k W W', I k W → Below W.heap.size W W' → I k W'
  call : ∀ r (h : r < R.length) j (hj : j < R[r].length) W, I (off R r + j) W → Calls Tryz.prog F (#[.int .i64 r, .agg #[.int .i64 R[r][j].t, .int .i64 R[r][j].a, .int .i64 R[r][j].b]] ++ caps) W fun e w' => e = .returned (.tuple #[]) ∧ I (off R r + j + 1) w'
  len : R.length ≤ 2000
  lens : ∀ r ∈ R, r.length ≤ 2000

set_option maxRecDepth 10000 in
set_option maxHeartbeats 4000000 in
theorem each_any {R : List (List Pc)} {v : Value} {us : List Value} {F : Nat} {caps : Array Value} {I : Nat → World → Prop} (h : Uses R v us F caps I) (col : Int) (w : World) (h0 : I 0 w) :
    Calls Tryz.prog 30 #[.agg #[.int .i64 col, v], .func (.func F) #[] caps] w fun e w' => e = .returned (.tuple #[]) ∧ Hid (I (off R R.length) w') := by
  have eg := h.eg
  have HU : Hid (Uses R v us F caps I) := h
  obtain ⟨oa, cap, rfl, hc, _⟩ := h.rows 0 w h0
  have HI0 : Hid (I (off R 0) (w.alloc (.cells #[.int .i64 col, .slice oa R.length cap] 58))) := h.bel 0 _ _ h0 ((Below.refl _ _).alloc (Nat.le_refl _) _)
  have hlen := h.len
  clear h h0
  go_enter Tryz.func30, Tryz.ntmps30
  go_wp2_with fail
  generalize w.alloc (.cells #[.int .i64 col, .slice oa R.length cap] 58) = W0 at *
  go_loopw [4, 5, 7, 11] (fun _ _ _ i wr => ∃ r : Nat, r ≤ R.length ∧ i = .int .i64 r ∧ Hid (I (off R r) wr)) (fun _ _ _ i _ => R.length - (intOf i).toNat)
  case atStart => exact ⟨0, Nat.zero_le _, rfl, HI0.out⟩
  case round =>
    obtain ⟨r, hr, rfl, HI⟩ := hrel
    clear HI0
    by_cases hlt : r < R.length
    · have ir : (r : Int) < R.length := by omega
      obtain ⟨oa', cap', e', _, hg⟩ := HU.out.rows _ _ HI.out
      injection e' with e1 _ e3
      subst e1 e3
      obtain ⟨g, o, rfl, hgl, hat⟩ := hg (by omega)
      obtain ⟨u, hur, x0, hks⟩ := hat r hlt
      have Hur : Hid (us[r]? = some u) := hur
      obtain ⟨qa, qc, e1, hqc, hqg⟩ := hks
      subst e1
      clear hur
      have hjl := HU.out.lens R[r] (List.getElem_mem hlt)
      have Hoff : Hid (off R (r + 1) = off R r + R[r].length) := off_succ hlt
      clear hqg hg hat
      obtain ⟨wo, rfl⟩ : ∃ wo : World, wo = wr := ⟨_, rfl⟩
      have HI2 : Hid (I (off R r + 0) wo) := HI.out
      clear HI
      go_wp2_with fail
      go_loopw [7, 18] (fun _ i wr => ∃ j : Nat, j ≤ R[r].length ∧ i = .int .i64 j ∧ Hid (I (off R r + j) wr)) (fun _ i _ => R[r].length - (intOf i).toNat)
      case atStart => exact ⟨0, Nat.zero_le _, rfl, HI2.out⟩
      case round =>
        obtain ⟨j, hj, rfl, HJ⟩ := hrel
        by_cases hjt : j < R[r].length
        · have ij : (j : Int) < R[r].length := by omega
          obtain ⟨oa', cap', -, -, hg⟩ := HU.out.rows _ _ HJ.out
          obtain ⟨g', o', -, -, hat⟩ := hg (by omega)
          obtain ⟨u, hu, _, hks⟩ := hat r hlt
          rw [Hur.out] at hu
          injection hu with hu
          subst hu
          obtain ⟨qa', qc', e5, _, hqg⟩ := hks
          injection e5 with e6 _ e7
          subst e6 e7
          obtain ⟨qg, qo, rfl, hql, hqat⟩ := hqg (by omega)
          have y0 := hqat j hjt 0 (by omega)
          have y1 := hqat j hjt 1 (by omega)
          have y2 := hqat j hjt 2 (by omega)
          have z0 : wr.cell? ⟨qg, qo + j * 3, none⟩ = some (.int .i64 (R[r][j].t : Int)) := y0
          have z1 : wr.cell? ⟨qg, qo + j * 3 + 1, none⟩ = some (.int .i64 (R[r][j].a : Int)) := y1
          have z2 : wr.cell? ⟨qg, qo + j * 3 + 2, none⟩ = some (.int .i64 (R[r][j].b : Int)) := y2
          have HC := HU.out.call r hlt j hjt (wr.alloc (.cells #[.int .i64 (R[r][j].t : Int), .int .i64 (R[r][j].a : Int), .int .i64 (R[r][j].b : Int)] 68)) (HU.out.bel _ _ _ HJ.out ((Below.refl _ _).alloc (Nat.le_refl _) _))
          clear y0 y1 y2 hqat hqg hat hg HJ
          generalize R[r][j] = c at *
          go_wp2_with fail
          refine HC.mono ?_
          rintro e w1 ⟨rfl, h1⟩
          have H1 : Hid (I (off R r + (j + 1)) w1) := h1
          clear h1 HC
          go_wp2
          exact ⟨⟨j + 1, by omega, by go_num, H1.out⟩, by simp [intOf]; omega⟩
        · obtain rfl : j = R[r].length := by omega
          have H1 : Hid (I (off R (r + 1)) wr) := by unfold Hid; rw [Hoff.out]; exact HJ.out
          clear HJ
          go_wp2
          exact ⟨⟨r + 1, by omega, by go_num, H1.out⟩, by simp [intOf]; omega⟩
    · obtain rfl : r = R.length := by omega
      go_wp2
      go_end0
      exact ⟨rfl, HI⟩

end Go.Proofs.YthnhcphkpffkfaaGreat
