/-
  The statements' own lists.
-/
import Derived.Test.YthnhcphkpffkfaaGreatYJ
namespace Go.Proofs.YthnhcphkpffkfaaGreat
open Go.RowKit
attribute [local go_sem] ite_maxK ite_minK

theorem ks_src {α : Type} {k : Nat} {f : α → List Int} (he : Enc k f) {w : World} {g o : Nat} {M : List α} (h : ∀ i (h : i < M.length) j, j < k → w.cell? ⟨g, o + i * k + j, none⟩ = some (.int .i64 ((f M[i]).getD j 0))) : ∀ (j : Nat) (u : Value), (flatK f M)[j]? = some u → w.cell? ((⟨g, o, none⟩ : Addr).add j) = some u := by
  intro j u hj
  have hl : j < (flatK f M).length := (List.getElem?_eq_some_iff.1 hj).1
  rw [flatK_len he] at hl
  have hk : 0 < k := by
    rcases Nat.eq_zero_or_pos k with e | e
    · rw [e, Nat.mul_zero] at hl; omega
    · exact e
  have hq : j / k < M.length := Nat.div_lt_of_lt_mul (by rw [Nat.mul_comm]; exact hl)
  have hm : j % k < k := Nat.mod_lt _ hk
  have e : j / k * k + j % k = j := by rw [Nat.mul_comm]; exact Nat.div_add_mod j k
  have h1 := flatK_at he M (j / k) hq (j % k) hm
  rw [e, hj] at h1
  have h2 := h (j / k) hq (j % k) hm
  rw [Nat.add_assoc, e] at h2
  rw [addr_plus, h2, h1]
/-- A list of things laid behind no list. -/
theorem app_firstK {α : Type} {k : Nat} {f : α → List Int} (he : Enc k f) (hk : 0 < k) {tS tE : TypeId} {zv : Value} {by8 : Nat} {P : Program} {w : World} {ops : Array Oper} {rest : List Oper} {o : Oper} {a : Act} {Q : Exit → Act → World → Prop} (hgd : o.guard = none) (s x : Operand)
    (ho : o.op = .call { callee := .builtin .append, args := #[s, x], argTypes := #[tS, tS] })
    (i : TypeInfo) (ht : P.underlying tS = some (.slice tE)) (hi : P.info? tE = some i) (hz : i.zero = some zv)
    (hsize : i.size = k) (hby : i.bytes = by8) (hzs : zv.cells.size = k) (hs : a.eval s = .slice none 0 0) (L : List α) (oa : Option Addr) (cap : Nat) (hx : a.eval x = .slice oa L.length cap) (hv : KS k f w (.slice oa L.length cap) L) (hn : NoNil (.slice oa L.length cap))
    (hl : L.length ≤ 2000000) (hb8 : L.length * by8 ≤ 140737488355328) (h : ∀ v' w', Hid (OwK tE k f w.heap.size w' v' L ∧ Below w.heap.size w w') → wpList P ops Q rest (a.put o.dst v') w') : wpList P ops Q (o :: rest) a w := by
  have hown : w.ownsRow w.heap.size tE k (.slice none 0 0) 0 [] := World.ownsRow_nil _ _ _ _
  cases oa with
  | none =>
    have h0 : L = [] := by
      obtain ⟨oa, cap', e, _, hg⟩ := hv
      cases L with
      | nil => rfl
      | cons r t =>
        obtain ⟨g, o, e2, _⟩ := hg (by simp)
        injection e with e1 _ _
        rw [e2] at e1
        cases e1
    subst h0
    obtain rfl : cap = 0 := hn cap rfl
    refine app_none hgd s x _ ho w.heap.size tE i k ht hi (.slice none 0 0) 0 [] hs hown hx ?_
    rintro _ _ rfl rfl
    exact h _ _ ⟨OwK.nil _ _ _ _ _, Below.refl _ _⟩
  | some ad =>
    refine wpList_append_own _ hgd s x _ ho w.heap.size tE i zv k by8 ht hi hz hsize hby hzs hk (.slice none 0 0) 0 [] hs hown ad L.length cap (flatK f L) hx (flatK_len he L) ?_ (flatK_ones f L) (by unfold maxLen; omega) (by rw [Nat.zero_add]; exact hb8) (Nat.le_refl _) ?_
    · intro j u hj
      obtain ⟨oa, cap', e, _, hg⟩ := hv
      have hp : 0 < L.length := by
        cases L with
        | nil => simp [flatK, flatI] at hj
        | cons r t => simp
      obtain ⟨g, o, e2, _, hat⟩ := hg hp
      injection e with e1 _ _
      rw [e2] at e1
      injection e1 with e1
      subst e1
      exact ks_src he hat j u hj
    · intro v' w' h2 h3 _
      rw [Nat.zero_add, List.nil_append] at h2
      exact h v' w' ⟨h2, (Below.refl _ w).grown h3 (Nat.le_refl _) (fun g e => by cases e)⟩
def fI (x : Int) : List Int := [x]
theorem encI : Enc 1 fI := fun _ => rfl
theorem flatK_int (l : List Int) : flatK fI l = flatI l := by
  unfold flatK
  congr 1
  induction l with
  | nil => rfl
  | cons x l ih => rw [List.flatMap_cons, ih]; rfl
theorem IS.ks {w : World} {v : Value} {l : List Int} (h : IS w v l) : KS 1 fI w v l := by
  obtain ⟨oa, cap, e, hc, hg⟩ := h
  refine ⟨oa, cap, e, hc, fun hp => ?_⟩
  obtain ⟨g, o, e1, g1, g2⟩ := hg hp
  refine ⟨g, o, e1, g1, fun i hi j hj => ?_⟩
  obtain rfl : j = 0 := by omega
  rw [Nat.mul_one, Nat.add_zero]
  exact g2 i hi
/-- A list of one's own with a mark behind it. -/
def Mrk {α : Type} (t : TypeId) (k : Nat) (f : α → List Int) (x : α) (lo : Nat) (w : World) (g cap : Nat) (l : List α) : Prop := OwK t k f lo w (.slice (some ⟨g, 0, none⟩) (l.length + 1) cap) (l ++ [x])

set_option maxHeartbeats 2000000 in
theorem ints_any (l : List Int) (v : Value) (w : World) (hv : IS w v l) (hn : NoNil v) (hl : l.length ≤ 2000000) :
    Calls Tryz.prog 6 #[v] w fun e w' => ∃ g cap, e = .returned (.slice (some ⟨g, 0, none⟩) l.length cap) ∧ Hid (Mrk 3 1 fI 777 w.heap.size w' g cap l ∧ Below w.heap.size w w') := by
  obtain ⟨oa, cap, rfl, hc, _⟩ := id hv
  obtain ⟨i0, hi, hz0, hz1, hz2⟩ := info_parts info_int
  have HV : Hid (KS 1 fI w (.slice oa l.length cap) l ∧ NoNil (.slice oa l.length cap)) := ⟨hv.ks, hn⟩
  clear hv hn
  go_enter Tryz.func6, Tryz.ntmps6
  go_wp2_with (at_builtin; refine app_firstK encI (by decide) (zv := .int .i64 0) (by8 := 8) rfl _ _ rfl i0 Tryz.underlying22 hi hz0 hz1 hz2 rfl rfl l oa cap rfl HV.out.1 HV.out.2 hl (by omega) ?_)
  intro v1 w1 H1
  have hc3 : Hid (l.length + 1 ≤ maxLen) := by unfold Hid maxLen; omega
  have hc4 : Hid ((l.length + 1) * 8 ≤ 140737488355328) := by unfold Hid; omega
  have HA : Hid (∀ o, (w1.alloc o).ownsRow w.heap.size 3 1 v1 l.length (flatK fI l) ∧ Below w.heap.size w (w1.alloc o)) := fun o => ⟨row_below H1.out.1 ((Below.refl _ _).alloc (Nat.le_refl _) _), H1.out.2.alloc H1.out.2.size _⟩
  go_wp2_with (at_builtin; refine wpList_append_own _ rfl _ _ 22 rfl w.heap.size 3 i0 (.int .i64 0) 1 8 Tryz.underlying22 hi hz0 hz1 hz2 rfl (by decide) v1 l.length (flatK fI l) rfl (HA.out _).1 _ 1 1 [.int .i64 777] rfl rfl (cell_oneB _ _ _ _ rfl) (one1 _) hc3.out hc4.out (HA.out _).2.size ?_)
  intro v2 w2 hown hgrow hnil
  have hown2 : OwK 3 1 fI w.heap.size w2 v2 (l ++ [777]) := OwK.snoc rfl hown
  have hb2 := app_below (HA.out _).2 (HA.out _).1 (Nat.le_refl _) hgrow
  obtain ⟨o2, c2, e2, hc2, hg2⟩ := row_val hown2
  rw [List.length_append] at e2 hc2 hg2
  subst e2
  obtain ⟨g, rfl, hg3, hg4⟩ := hg2 (by simp)
  have HF : Hid (Mrk 3 1 fI 777 w.heap.size w2 g c2 l ∧ Below w.heap.size w w2) := ⟨hown2, hb2⟩
  have hcc : l.length ≤ c2 := by have : [(777 : Int)].length = 1 := rfl; omega
  have hcc2 : (l.length : Int) ≤ c2 := by omega
  clear hown hgrow hnil hown2 hb2 hg2 hg3 hg4 hi hz0 hz1 hz2 HA H1 HV
  go_wp2
  go_ret
  exact ⟨_, _, rfl, HF⟩

theorem lists_eq {α : Type} {A B : List α} (h : A.length = B.length) {k : Nat} (hk : k < A.length) : (A.take (k + 1) = B.take (k + 1) ↔ A.take k = B.take k ∧ A[k] = B[k]'(by omega)) := by
  rw [List.take_succ_eq_append_getElem hk, List.take_succ_eq_append_getElem (l := B) (by omega)]
  constructor
  · intro e
    have := List.append_inj e (by rw [List.length_take, List.length_take]; omega)
    exact ⟨this.1, by simpa using this.2⟩
  · rintro ⟨e1, e2⟩
    rw [e1, e2]

set_option maxHeartbeats 4000000 in
theorem alike_any (A B : List Int) (a b : Value) (w : World) (ha : IS w a A) (hb : IS w b B) (hA : A.length ≤ 2000000) :
    Calls Tryz.prog 48 #[a, b] w fun e w' => e = .returned (.bool (decide (A = B))) ∧ Below w.heap.size w w' := by
  obtain ⟨oa, ca, rfl, _, ga⟩ := ha
  obtain ⟨ob, cb, rfl, _, gb⟩ := hb
  have HGa : Hid (0 < A.length → ∃ g o, oa = some ⟨g, o, none⟩ ∧ g < w.heap.size ∧ ∀ i (h : i < A.length), w.cell? ⟨g, o + i, none⟩ = some (.int .i64 A[i])) := ga
  have HGb : Hid (0 < B.length → ∃ g o, ob = some ⟨g, o, none⟩ ∧ g < w.heap.size ∧ ∀ i (h : i < B.length), w.cell? ⟨g, o + i, none⟩ = some (.int .i64 B[i])) := gb
  clear ga gb
  obtain ⟨R, HR⟩ : ∃ R : Bool, Hid (R = decide (A = B)) := ⟨_, rfl⟩
  rw [← HR.out]
  by_cases hl : A.length = B.length
  · have Hl : Hid (A.length = B.length) := hl
    rw [← hl]
    clear hl
    go_enter Tryz.func48, Tryz.ntmps48
    go_wp2_with fail
    go_loopw [5] (fun i wr => ∃ k : Nat, k ≤ A.length ∧ i = .int .i64 k ∧ Hid (A.take k = B.take k ∧ Below w.heap.size w wr)) (fun i _ => A.length - (intOf i).toNat)
    case atStart => exact ⟨0, Nat.zero_le _, rfl, rfl, Below.refl _ _⟩
    case round =>
      obtain ⟨k, hk, rfl, HK⟩ := hrel
      by_cases hlt : k < A.length
      · have ik : (k : Int) < A.length := by omega
        have hl := Hl.out
        obtain ⟨g, o, rfl, hg, hat⟩ := HGa.out (by omega)
        obtain ⟨g2, o2, rfl, hg2, hat2⟩ := HGb.out (by omega)
        have x0 := (HK.out.2.cell (p := ⟨g, o + k, none⟩) hg).trans (hat k hlt)
        have x1 := (HK.out.2.cell (p := ⟨g2, o2 + k, none⟩) hg2).trans (hat2 k (by omega))
        have HT : Hid ((A[k] = B[k]'(by omega) → A.take (k + 1) = B.take (k + 1)) ∧ (A[k] ≠ B[k]'(by omega) → R = false)) := by
          refine ⟨fun h => (lists_eq hl hlt).2 ⟨HK.out.1, h⟩, fun h => ?_⟩
          rw [HR.out]
          refine decide_eq_false fun e => h ?_
          subst e
          rfl
        have HW : Hid (∀ m, Below w.heap.size w (wr.drewN m)) := fun m => below_drewK HK.out.2
        clear hat hat2 HK
        generalize A[k] = x at *
        generalize B[k]'(by omega) = y at *
        clear hl
        by_cases c : x = y
        · have HA : Hid (A.take (k + 1) = B.take (k + 1)) := HT.out.1 c
          clear HT
          subst c
          go_wp2_with fail
          go_quiet (fail)
          go_wp2
          exact ⟨⟨k + 1, by omega, by go_num, HA.out, HW.out _⟩, by simp [intOf]; omega⟩
        · have hR : Hid (R = false) := HT.out.2 c
          clear HT
          go_wp2_with fail
          go_quiet (fail)
          go_wp2
          go_ret
          exact ⟨by rw [hR.out]; rfl, HW.out _⟩
      · obtain rfl : k = A.length := by omega
        have HF : Hid (R = true ∧ Below w.heap.size w wr) := by
          have h := HK.out
          rw [List.take_length, Hl.out, List.take_length] at h
          exact ⟨by rw [HR.out]; exact decide_eq_true h.1, h.2⟩
        clear HK
        go_wp2
        go_ret
        exact ⟨by rw [HF.out.1]; rfl, HF.out.2⟩
  · have il : ¬ (A.length : Int) = B.length := by omega
    have hR : Hid (R = false) := by unfold Hid; rw [HR.out]; exact decide_eq_false fun e => hl (by rw [e])
    go_enter Tryz.func48, Tryz.ntmps48
    go_wp2
    go_ret
    exact ⟨by rw [hR.out]; rfl, Below.refl _ _⟩

def mchB (n : Int) : Bool := (decide (60 < n) && decide (n ≤ 1024)) || decide (3000 < n)
set_option maxHeartbeats 2000000 in
theorem much_any (n : Int) (w : World) : Calls Tryz.prog 5 #[.int .i64 n] w fun e w' => e = .returned (.bool (mchB n)) ∧ w' = w := by
  obtain ⟨R, HR⟩ : ∃ R : Bool, Hid (R = mchB n) := ⟨_, rfl⟩
  rw [← HR.out]
  by_cases h1 : 60 < n
  · by_cases h2 : n ≤ 1024
    · have hR : Hid (R = true) := by unfold Hid; rw [HR.out]; unfold mchB; simp [h1, h2]
      clear HR
      go_enter Tryz.func5, Tryz.ntmps5
      go_wp2
      go_ret
      exact ⟨by rw [hR.out]; rfl, rfl⟩
    · by_cases h3 : 3000 < n
      · have hR : Hid (R = true) := by unfold Hid; rw [HR.out]; unfold mchB; simp [h3]
        clear HR
        go_enter Tryz.func5, Tryz.ntmps5
        go_wp2
        go_ret
        exact ⟨by rw [hR.out]; rfl, rfl⟩
      · have hR : Hid (R = false) := by unfold Hid; rw [HR.out]; unfold mchB; simp [h2, h3]
        clear HR
        go_enter Tryz.func5, Tryz.ntmps5
        go_wp2
        go_ret
        exact ⟨by rw [hR.out]; rfl, rfl⟩
  · have h3 : ¬ 3000 < n := by omega
    have hR : Hid (R = false) := by unfold Hid; rw [HR.out]; unfold mchB; simp [h1, h3]
    clear HR
    go_enter Tryz.func5, Tryz.ntmps5
    go_wp2
    go_ret
    exact ⟨by rw [hR.out]; rfl, rfl⟩

end Go.Proofs.YthnhcphkpffkfaaGreat

namespace Go.Proofs.YthnhcphkpffkfaaGreat
open Go.RowKit

theorem neq_point (a b x y : Int) (w : World) : (binOp .neq 25 (.agg #[.int .i64 a, .int .i64 b]) (.agg #[.int .i64 x, .int .i64 y])).run Tryz.prog w = .ok (.bool (!((a == x) && (b == y)))) w := by
  have h : ∀ p q : Int, (p == q) = decide (p = q) := fun p q => by rw [Bool.eq_iff_iff]; simp
  by_cases h1 : a = x <;> by_cases h2 : b = y <;> simp [go_sem, h, h1, h2]
theorem neq_size (a b x y : Int) (w : World) : (binOp .neq 27 (.agg #[.int .i64 a, .int .i64 b]) (.agg #[.int .i64 x, .int .i64 y])).run Tryz.prog w = .ok (.bool (!((a == x) && (b == y)))) w := by
  have h : ∀ p q : Int, (p == q) = decide (p = q) := fun p q => by rw [Bool.eq_iff_iff]; simp
  by_cases h1 : a = x <;> by_cases h2 : b = y <;> simp [go_sem, h, h1, h2]
theorem Mrk.below {α : Type} {t : TypeId} {k : Nat} {f : α → List Int} {x : α} {lo : Nat} {w w' : World} {g cap : Nat} {l : List α} (h : Mrk t k f x lo w g cap l) (hb : Below w.heap.size w w') : Mrk t k f x lo w' g cap l := OwK.below h hb
theorem Mrk.at {α : Type} {t : TypeId} {k : Nat} {f : α → List Int} {x : α} {lo : Nat} {w : World} {g cap : Nat} {l : List α} (h : Mrk t k f x lo w g cap l) (he : Enc k f) : lo ≤ g ∧ g < w.heap.size ∧ l.length + 1 ≤ cap ∧ (∀ i (hi : i < l.length) j, j < k → w.cell? ⟨g, i * k + j, none⟩ = some (.int .i64 ((f l[i]).getD j 0))) ∧ ∀ j, j < k → w.cell? ⟨g, l.length * k + j, none⟩ = some (.int .i64 ((f x).getD j 0)) := by
  have h' : w.ownsRow lo t k (.slice (some ⟨g, 0, none⟩) (l.length + 1) cap) (l.length + 1) (flatK f (l ++ [x])) := by
    have := h
    unfold Mrk OwK at this
    rwa [List.length_append, List.length_singleton] at this
  obtain ⟨_, _, e, hc, _⟩ := row_val h'
  injection e with _ _ e
  subst e
  have hl := row_lt h' g rfl
  have key : ∀ i (hi : i < (l ++ [x]).length) j, j < k → w.cell? ⟨g, i * k + j, none⟩ = some (.int .i64 ((f (l ++ [x])[i]).getD j 0)) := fun i hi j hj => by
    have hi' : i < l.length + 1 := by simpa using hi
    have h1 : i * k + j < (l.length + 1) * k := by
      have : (i + 1) * k ≤ (l.length + 1) * k := Nat.mul_le_mul_right k (by omega)
      rw [Nat.add_mul] at this
      omega
    rw [own_cell h' _ h1]
    exact flatK_at he _ i hi j hj
  refine ⟨hl.1, hl.2, hc, fun i hi j hj => ?_, fun j hj => ?_⟩
  · have := key i (by simp; omega) j hj
    rwa [List.getElem_append_left hi] at this
  · have := key l.length (by simp) j hj
    have e : (l ++ [x])[l.length]'(by simp) = x := by simp
    rwa [e] at this
theorem Mrk.ks {α : Type} {t : TypeId} {k : Nat} {f : α → List Int} {x : α} {lo : Nat} {w : World} {g cap : Nat} {l : List α} (h : Mrk t k f x lo w g cap l) (he : Enc k f) : KS k f w (.slice (some ⟨g, 0, none⟩) l.length cap) l := by
  obtain ⟨_, h2, h3, h4, _⟩ := h.at he
  exact ⟨_, cap, rfl, by omega, fun _ => ⟨g, 0, rfl, h2, fun i hi j hj => by rw [Nat.zero_add]; exact h4 i hi j hj⟩⟩
theorem KS.is {w : World} {v : Value} {l : List Int} (h : KS 1 fI w v l) : IS w v l := by
  obtain ⟨oa, cap, e, hc, hg⟩ := h
  refine ⟨oa, cap, e, hc, fun hp => ?_⟩
  obtain ⟨g, o, e1, g1, g2⟩ := hg hp
  refine ⟨g, o, e1, g1, fun i hi => ?_⟩
  have := g2 i hi 0 (by omega)
  rwa [Nat.mul_one, Nat.add_zero] at this

set_option maxHeartbeats 2000000 in
theorem sizes_any (l : List Sz) (v : Value) (w : World) (hv : KS 2 fZ w v l) (hn : NoNil v) (hl : l.length ≤ 2000000) :
    Calls Tryz.prog 7 #[v] w fun e w' => ∃ g cap, e = .returned (.slice (some ⟨g, 0, none⟩) l.length cap) ∧ Hid (Mrk 27 2 fZ ⟨777, 0⟩ w.heap.size w' g cap l ∧ Below w.heap.size w w') := by
  obtain ⟨oa, cap, rfl, hc, _⟩ := id hv
  obtain ⟨i0, hi, hz0, hz1, hz2⟩ := info_parts info_size
  have HV : Hid (KS 2 fZ w (.slice oa l.length cap) l ∧ NoNil (.slice oa l.length cap)) := ⟨hv, hn⟩
  clear hv hn
  go_enter Tryz.func7, Tryz.ntmps7
  go_wp2_with (at_builtin; refine app_firstK encZ (by decide) (zv := .agg #[.int .i64 0, .int .i64 0]) (by8 := 16) rfl _ _ rfl i0 Tryz.underlying23 hi hz0 hz1 hz2 rfl rfl l oa cap rfl HV.out.1 HV.out.2 hl (by omega) ?_)
  intro v1 w1 H1
  have hc3 : Hid (l.length + 1 ≤ maxLen) := by unfold Hid maxLen; omega
  have hc4 : Hid ((l.length + 1) * 16 ≤ 140737488355328) := by unfold Hid; omega
  have HA : Hid (∀ o, (w1.alloc o).ownsRow w.heap.size 27 2 v1 l.length (flatK fZ l) ∧ Below w.heap.size w (w1.alloc o)) := fun o => ⟨row_below H1.out.1 ((Below.refl _ _).alloc (Nat.le_refl _) _), H1.out.2.alloc H1.out.2.size _⟩
  go_wp2_with (at_builtin; refine wpList_append_own _ rfl _ _ 23 rfl w.heap.size 27 i0 (.agg #[.int .i64 0, .int .i64 0]) 2 16 Tryz.underlying23 hi hz0 hz1 hz2 rfl (by decide) v1 l.length (flatK fZ l) rfl (HA.out _).1 _ 1 1 [.int .i64 777, .int .i64 0] rfl rfl (cell_two _ _ _ _ _ rfl) (one2 _ _) hc3.out hc4.out (HA.out _).2.size ?_)
  intro v2 w2 hown hgrow hnil
  have hown2 : OwK 27 2 fZ w.heap.size w2 v2 (l ++ [⟨777, 0⟩]) := OwK.snoc rfl hown
  have hb2 := app_below (HA.out _).2 (HA.out _).1 (Nat.le_refl _) hgrow
  obtain ⟨o2, c2, e2, hc2, hg2⟩ := row_val hown2
  rw [List.length_append, List.length_singleton] at e2 hc2 hg2
  subst e2
  obtain ⟨g, rfl, hg3, hg4⟩ := hg2 (by simp)
  have HF : Hid (Mrk 27 2 fZ ⟨777, 0⟩ w.heap.size w2 g c2 l ∧ Below w.heap.size w w2) := ⟨hown2, hb2⟩
  have hcc : l.length ≤ c2 := by omega
  have hcc2 : (l.length : Int) ≤ c2 := by omega
  clear hown hgrow hnil hown2 hb2 hg2 hg3 hg4 hi hz0 hz1 hz2 HA H1 HV
  go_wp2
  go_ret
  exact ⟨_, _, rfl, HF⟩

set_option maxHeartbeats 4000000 in
theorem keptInts_any (lo g cap : Nat) (l : List Int) (v : Value) (w : World) (hx : Mrk 3 1 fI 777 lo w g cap l) (hv : IS w v l) (hl : l.length ≤ 2000000) :
    Calls Tryz.prog 13 #[.slice (some ⟨g, 0, none⟩) l.length cap, v] w fun e w' => e = .returned (.bool true) ∧ Below w.heap.size w w' := by
  have HC : Hid (Calls Tryz.prog 48 #[.slice (some ⟨g, 0, none⟩) l.length cap, v] w fun e w' => e = .returned (.bool (decide (l = l))) ∧ Below w.heap.size w w') := alike_any l l _ v w (hx.ks encI).is hv hl
  rw [decide_eq_true rfl] at HC
  obtain ⟨oa, ca, rfl, _, _⟩ := hv
  obtain ⟨_, hg, hcap, _, hm⟩ := hx.at encI
  have HM : Hid (w.cell? ⟨g, l.length, none⟩ = some (.int .i64 777)) := by have := hm 0 (by omega); rwa [Nat.mul_one, Nat.add_zero] at this
  clear hm hx
  have hwl : IntKind.i64.wrap ((l.length : Int) + 1) = (l.length : Int) + 1 := by rw [IntKind.wrap_i64]; omega
  have hc1 : (l.length : Int) + 1 ≤ cap := by omega
  go_enter Tryz.func13, Tryz.ntmps13
  go_wp2_with fail
  refine HC.out.mono ?_
  rintro e w1 ⟨rfl, hb⟩
  have x0 : w1.cell? ⟨g, l.length, none⟩ = some (.int .i64 777) := (hb.cell (p := ⟨g, l.length, none⟩) hg).trans HM.out
  have HB : Hid (Below w.heap.size w w1) := hb
  clear hb HM HC
  go_wp2
  go_ret
  exact ⟨rfl, HB.out⟩

set_option maxHeartbeats 4000000 in
theorem keptSizes_any (lo g cap : Nat) (l : List Sz) (v : Value) (w : World) (hx : Mrk 27 2 fZ ⟨777, 0⟩ lo w g cap l) (hv : KS 2 fZ w v l) (hl : l.length ≤ 2000000) :
    Calls Tryz.prog 14 #[.slice (some ⟨g, 0, none⟩) l.length cap, v] w fun e w' => e = .returned (.bool true) ∧ Below w.heap.size w w' := by
  obtain ⟨oa, ca, rfl, _, ga⟩ := hv
  have HG : Hid (0 < l.length → ∃ g o, oa = some ⟨g, o, none⟩ ∧ g < w.heap.size ∧ ∀ i (h : i < l.length) j, j < 2 → w.cell? ⟨g, o + i * 2 + j, none⟩ = some (.int .i64 ((fZ l[i]).getD j 0))) := ga
  obtain ⟨_, hg, hcap, hat, hm⟩ := hx.at encZ
  have HX : Hid (∀ i (hi : i < l.length) j, j < 2 → w.cell? ⟨g, i * 2 + j, none⟩ = some (.int .i64 ((fZ l[i]).getD j 0))) := hat
  have HM : Hid (w.cell? ⟨g, l.length * 2, none⟩ = some (.int .i64 777)) := hm 0 (by omega)
  clear hm hx hat ga
  have hwl : IntKind.i64.wrap ((l.length : Int) + 1) = (l.length : Int) + 1 := by rw [IntKind.wrap_i64]; omega
  have hc1 : (l.length : Int) + 1 ≤ cap := by omega
  go_enter Tryz.func14, Tryz.ntmps14
  go_wp2_with fail
  go_loopw [5] (fun i wr => ∃ k : Nat, k ≤ l.length ∧ i = .int .i64 k ∧ Hid (Below w.heap.size w wr)) (fun i _ => l.length - (intOf i).toNat)
  case atStart => exact ⟨0, Nat.zero_le _, rfl, Below.refl _ _⟩
  case round =>
    obtain ⟨k, hk, rfl, HK⟩ := hrel
    by_cases hlt : k < l.length
    · have ik : (k : Int) < l.length := by omega
      obtain ⟨g2, o2, rfl, hg2, hat2⟩ := HG.out (by omega)
      have x0 : wr.cell? ⟨g, k * 2, none⟩ = some (.int .i64 l[k].w) := (HK.out.cell (p := ⟨g, k * 2, none⟩) hg).trans (HX.out k hlt 0 (by omega))
      have x1 : wr.cell? ⟨g, k * 2 + 1, none⟩ = some (.int .i64 l[k].h) := (HK.out.cell (p := ⟨g, k * 2 + 1, none⟩) hg).trans (HX.out k hlt 1 (by omega))
      have y0 : wr.cell? ⟨g2, o2 + k * 2, none⟩ = some (.int .i64 l[k].w) := (HK.out.cell (p := ⟨g2, o2 + k * 2, none⟩) hg2).trans (hat2 k hlt 0 (by omega))
      have y1 : wr.cell? ⟨g2, o2 + k * 2 + 1, none⟩ = some (.int .i64 l[k].h) := (HK.out.cell (p := ⟨g2, o2 + k * 2 + 1, none⟩) hg2).trans (hat2 k hlt 1 (by omega))
      have HW : Hid (∀ m, Below w.heap.size w (wr.drewN m)) := fun m => below_drewK HK.out
      have hne : ∀ W, (binOp .neq 27 (.agg #[.int .i64 l[k].w, .int .i64 l[k].h]) (.agg #[.int .i64 l[k].w, .int .i64 l[k].h])).run Tryz.prog W = .ok (.bool false) W := fun W => by rw [neq_size]; simp
      clear hat2 HK
      generalize l[k] = q at *
      go_wp2_with fail
      go_quiet (fail)
      go_wp2
      exact ⟨⟨k + 1, by omega, by go_num, HW.out _⟩, by simp [intOf]; omega⟩
    · obtain rfl : k = l.length := by omega
      have HF : Hid (Below w.heap.size w wr) := HK.out
      have x0 : wr.cell? ⟨g, l.length * 2, none⟩ = some (.int .i64 777) := (HK.out.cell (p := ⟨g, l.length * 2, none⟩) hg).trans HM.out
      clear HK
      go_wp2
      go_ret
      exact ⟨rfl, HF.out⟩

end Go.Proofs.YthnhcphkpffkfaaGreat
