/-
  Lists of one's own: the statements' own, kept; lists laid behind no list.
-/
import Derived.Test.YtchjmmchflbfcaaXS
namespace Go.Proofs.Ytchjmmchflbfcaa
open Go.RowKit

theorem cell_bk3 {w : World} {b : Nat} {x y z : Value} {t : TypeId} (h : w.heap[b]? = some (.cells #[x, y, z] t)) : ∀ (j : Nat) (u : Value), [x, y, z][j]? = some u → w.cell? ((⟨b, 0, none⟩ : Addr).add j) = some u := by
  intro j u hj
  rw [addr_plus, Nat.zero_add, Bk.cell h]
  simpa using hj
theorem one3 (a b c : Int) : ∀ u ∈ [Value.int .i64 a, .int .i64 b, .int .i64 c], u.oneCell' = true := by
  intro u hu
  simp at hu
  rcases hu with rfl | rfl | rfl <;> rfl

/-- Numbers that a call made; their block lies from lo up to hi. -/
def RwI (lo hi : Nat) (W : World) (v : Value) (xs : List Int) : Prop := OwI lo W v xs ∧ ∀ g, v.ownBlock = some g → g < hi
theorem RwI.below {lo hi : Nat} {W W' : World} {v : Value} {xs : List Int} (h : RwI lo hi W v xs) (hb : Below W.heap.size W W') : RwI lo hi W' v xs := ⟨h.1.below hb, h.2⟩
theorem rwi_of {w w' : World} {v : Value} {xs : List Int} (h : OwI w.heap.size w' v xs) : RwI w.heap.size w'.heap.size w' v xs := ⟨h, fun g hg => (row_lt h g hg).2⟩
theorem RwI.kept {lo hi lo2 hi2 : Nat} {W W' : World} {u v : Value} {xs ys : List Int} (h : RwI lo hi W u xs) (k : RwI lo2 hi2 W v ys) (hd : hi ≤ lo2 ∨ hi2 ≤ lo) (hg : W.grownBy W' v.ownBlock) : RwI lo hi W' u xs := by
  refine ⟨World.ownsRow.kept h.1 hg ?_, h.2⟩
  cases e : u.ownBlock with
  | none => exact .inl rfl
  | some g =>
    refine .inr fun c => ?_
    have h1 := h.2 g e
    have h2 := (row_lt h.1 g e).1
    have h3 := k.2 g c.symm
    have h4 := (row_lt k.1 g c.symm).1
    omega
theorem grow_belowI {B : Nat} {w W W' : World} {lo hi : Nat} {v : Value} {ys : List Int} (hb : Below B w W) (k : RwI lo hi W v ys) (hB : B ≤ lo) (hs : B ≤ W.heap.size) (hg : W.grownBy W' v.ownBlock) : Below B w W' :=
  hb.grown hg hs fun g e => Nat.le_trans hB (row_lt k.1 g e).1
theorem neq_track (a b c x y z : Int) (w : World) : (binOp .neq 27 (.agg #[.int .i64 a, .int .i64 b, .int .i64 c]) (.agg #[.int .i64 x, .int .i64 y, .int .i64 z])).run Try.prog w = .ok (.bool (!((a == x) && ((b == y) && (c == z))))) w := by
  have h : ∀ p q : Int, (p == q) = decide (p = q) := fun p q => by rw [Bool.eq_iff_iff]; simp
  by_cases h1 : a = x <;> by_cases h2 : b = y <;> by_cases h3 : c = z <;> simp [go_sem, h, h1, h2, h3]
theorem cell_three (w : World) (x y z : Value) (t : TypeId) (b : Nat) (h : b = w.heap.size) : ∀ (j : Nat) (u : Value), [x, y, z][j]? = some u → (w.alloc (.cells #[x, y, z] t)).cell? ((⟨b, 0, none⟩ : Addr).add j) = some u := by
  subst h
  exact cell_bk3 (Bk.new w #[x, y, z] t)

theorem flatT_ones (l : List Tk) : ∀ u ∈ flatT l, u.oneCell' = true := by
  induction l with
  | nil => intro u hu; cases hu
  | cons r t ih =>
    intro u hu
    rcases List.mem_append.1 (show u ∈ celT r ++ flatT t from hu) with h | h
    · simp [celT] at h
      rcases h with rfl | rfl | rfl <;> rfl
    · exact ih u h
theorem ts_src {w : World} {g o : Nat} {M : List Tk} (h : ∀ i (h : i < M.length), TkAt w g (o + i * 3) M[i]) : ∀ (j : Nat) (u : Value), (flatT M)[j]? = some u → w.cell? ((⟨g, o, none⟩ : Addr).add j) = some u := by
  intro j u hj
  have hl : j < (flatT M).length := (List.getElem?_eq_some_iff.1 hj).1
  rw [flatT_len] at hl
  have hq : j / 3 < M.length := by omega
  obtain ⟨f0, f1, f2⟩ := flatT_at M (j / 3) hq
  obtain ⟨c0, c1, c2⟩ := h (j / 3) hq
  rw [addr_plus]
  rcases (show j = j / 3 * 3 ∨ j = j / 3 * 3 + 1 ∨ j = j / 3 * 3 + 2 by omega) with e | e | e
  · rw [e, f0] at hj; rw [show o + j = o + j / 3 * 3 by omega, c0]; exact hj
  · rw [e, f1] at hj; rw [show o + j = o + j / 3 * 3 + 1 by omega, c1]; exact hj
  · rw [e, f2] at hj; rw [show o + j = o + j / 3 * 3 + 2 by omega, c2]; exact hj
theorem info_track : (Try.prog.info? 27).map (fun i => (i.zero, i.size, i.bytes)) = some (some (.agg #[.int .i64 0, .int .i64 0, .int .i64 0]), 3, 24) := by kernel_rfl
theorem is_src {w : World} {g o : Nat} {M : List Int} (h : ∀ i (h : i < M.length), w.cell? ⟨g, o + i, none⟩ = some (.int .i64 M[i])) : ∀ (j : Nat) (u : Value), (flatI M)[j]? = some u → w.cell? ((⟨g, o, none⟩ : Addr).add j) = some u := by
  intro j u hj
  have hl : j < (flatI M).length := (List.getElem?_eq_some_iff.1 hj).1
  rw [flatI_len] at hl
  rw [flatI_at M j hl] at hj
  rw [addr_plus, h j hl]
  exact hj

/-- A list of bounds laid behind no list. -/
theorem app_firstT {P : Program} {w : World} {ops : Array Oper} {rest : List Oper} {o : Oper} {a : Act} {Q : Exit → Act → World → Prop} (hgd : o.guard = none) (s x : Operand)
    (ho : o.op = .call { callee := .builtin .append, args := #[s, x], argTypes := #[29, 29] })
    (i : TypeInfo) (ht : P.underlying 29 = some (.slice 27)) (hi : P.info? 27 = some i) (hz : i.zero = some (.agg #[.int .i64 0, .int .i64 0, .int .i64 0]))
    (hsize : i.size = 3) (hby : i.bytes = 24) (hs : a.eval s = .slice none 0 0) (L : List Tk) (oa : Option Addr) (cap : Nat) (hx : a.eval x = .slice oa L.length cap) (hv : TS w (.slice oa L.length cap) L) (hn : NoNil (.slice oa L.length cap))
    (hl : L.length ≤ 2000000) (h : ∀ v' w', Hid (w'.ownsRow w.heap.size 27 3 v' L.length (flatT L) ∧ Below w.heap.size w w') → wpList P ops Q rest (a.put o.dst v') w') : wpList P ops Q (o :: rest) a w := by
  have hown : w.ownsRow w.heap.size 27 3 (.slice none 0 0) 0 [] := World.ownsRow_nil _ _ _ _
  cases oa with
  | none =>
    have h0 : L = [] := by
      obtain ⟨oa, cap', e, _, hg⟩ := hv
      cases L with
      | nil => rfl
      | cons r t =>
        obtain ⟨g, o, e2, _⟩ := hg (by simp)
        injection e with e1 _ _
        rw [e2] at e1
        cases e1
    subst h0
    obtain rfl : cap = 0 := hn cap rfl
    refine app_none hgd s x _ ho w.heap.size 27 i 3 ht hi (.slice none 0 0) 0 [] hs hown hx ?_
    rintro _ _ rfl rfl
    exact h _ _ ⟨hown, Below.refl _ _⟩
  | some ad =>
    refine wpList_append_own _ hgd s x _ ho w.heap.size 27 i (.agg #[.int .i64 0, .int .i64 0, .int .i64 0]) 3 24 ht hi hz hsize hby rfl (by decide) (.slice none 0 0) 0 [] hs hown ad L.length cap (flatT L) hx (flatT_len L) ?_ (flatT_ones L) (by unfold maxLen; omega) (by omega) (Nat.le_refl _) ?_
    · intro j u hj
      obtain ⟨oa, cap', e, _, hg⟩ := hv
      have hp : 0 < L.length := by
        cases L with
        | nil => simp [flatT] at hj
        | cons r t => simp
      obtain ⟨g, o, e2, _, hat⟩ := hg hp
      injection e with e1 _ _
      rw [e2] at e1
      injection e1 with e1
      subst e1
      exact ts_src hat j u hj
    · intro v' w' h2 h3 _
      rw [Nat.zero_add, List.nil_append] at h2
      exact h v' w' ⟨h2, (Below.refl _ w).grown h3 (Nat.le_refl _) (fun g e => by cases e)⟩

/-- A list of numbers laid behind no list. -/
theorem app_firstI {P : Program} {w : World} {ops : Array Oper} {rest : List Oper} {o : Oper} {a : Act} {Q : Exit → Act → World → Prop} (hgd : o.guard = none) (s x : Operand)
    (ho : o.op = .call { callee := .builtin .append, args := #[s, x], argTypes := #[22, 22] })
    (i : TypeInfo) (ht : P.underlying 22 = some (.slice 3)) (hi : P.info? 3 = some i) (hz : i.zero = some (.int .i64 0))
    (hsize : i.size = 1) (hby : i.bytes = 8) (hs : a.eval s = .slice none 0 0) (L : List Int) (oa : Option Addr) (cap : Nat) (hx : a.eval x = .slice oa L.length cap) (hv : IS w (.slice oa L.length cap) L) (hn : NoNil (.slice oa L.length cap))
    (hl : L.length ≤ 2000000) (h : ∀ v' w', Hid (OwI w.heap.size w' v' L ∧ Below w.heap.size w w') → wpList P ops Q rest (a.put o.dst v') w') : wpList P ops Q (o :: rest) a w := by
  have hown : w.ownsRow w.heap.size 3 1 (.slice none 0 0) 0 [] := World.ownsRow_nil _ _ _ _
  cases oa with
  | none =>
    have h0 : L = [] := by
      obtain ⟨oa, cap', e, _, hg⟩ := hv
      cases L with
      | nil => rfl
      | cons r t =>
        obtain ⟨g, o, e2, _⟩ := hg (by simp)
        injection e with e1 _ _
        rw [e2] at e1
        cases e1
    subst h0
    obtain rfl : cap = 0 := hn cap rfl
    refine app_none hgd s x _ ho w.heap.size 3 i 1 ht hi (.slice none 0 0) 0 [] hs hown hx ?_
    rintro _ _ rfl rfl
    exact h _ _ ⟨hown, Below.refl _ _⟩
  | some ad =>
    refine wpList_append_own _ hgd s x _ ho w.heap.size 3 i (.int .i64 0) 1 8 ht hi hz hsize hby rfl (by decide) (.slice none 0 0) 0 [] hs hown ad L.length cap (flatI L) hx (by rw [flatI_len, Nat.mul_one]) ?_ (oneI L) (by unfold maxLen; omega) (by omega) (Nat.le_refl _) ?_
    · intro j u hj
      obtain ⟨oa, cap', e, _, hg⟩ := hv
      have hp : 0 < L.length := by
        cases L with
        | nil => simp [flatI] at hj
        | cons r t => simp
      obtain ⟨g, o, e2, _, hat⟩ := hg hp
      injection e with e1 _ _
      rw [e2] at e1
      injection e1 with e1
      subst e1
      exact is_src hat j u hj
    · intro v' w' h2 h3 _
      rw [Nat.zero_add, List.nil_append] at h2
      exact h v' w' ⟨h2, (Below.refl _ w).grown h3 (Nat.le_refl _) (fun g e => by cases e)⟩

def mkK : Tk := ⟨77, 0, 0⟩
/-- Tracks of one's own, one more behind them, in the block g. -/
def Inn (lo : Nat) (W : World) (g cap : Nat) (T : List Tk) : Prop := W.ownsRow lo 27 3 (.slice (some ⟨g, 0, none⟩) (T.length + 1) cap) (T.length + 1) (flatT (T ++ [mkK]))
theorem Inn.below {lo : Nat} {W W' : World} {g cap : Nat} {T : List Tk} (h : Inn lo W g cap T) (hb : Below W.heap.size W W') : Inn lo W' g cap T := row_below h hb
theorem Inn.lt {lo : Nat} {W : World} {g cap : Nat} {T : List Tk} (h : Inn lo W g cap T) : lo ≤ g ∧ g < W.heap.size ∧ T.length + 1 ≤ cap := by
  obtain ⟨_, _, e, hc, _⟩ := row_val h
  injection e with _ _ e
  subst e
  have := row_lt h g rfl
  exact ⟨this.1, this.2, hc⟩
theorem Inn.at {lo : Nat} {W : World} {g cap : Nat} {T : List Tk} (h : Inn lo W g cap T) : (∀ i (hi : i < T.length), TkAt W g (i * 3) T[i]) ∧ TkAt W g (T.length * 3) mkK := by
  have key : ∀ i (hi : i < (T ++ [mkK]).length), TkAt W g (i * 3) (T ++ [mkK])[i] := fun i hi => by
    obtain ⟨f0, f1, f2⟩ := flatT_at (T ++ [mkK]) i hi
    have hl : i < T.length + 1 := by simpa using hi
    refine ⟨?_, ?_, ?_⟩
    · rw [own_cell h (i * 3) (by omega)]; exact f0
    · rw [own_cell h (i * 3 + 1) (by omega)]; exact f1
    · rw [own_cell h (i * 3 + 2) (by omega)]; exact f2
  refine ⟨fun i hi => ?_, ?_⟩
  · have := key i (by simp; omega)
    rwa [List.getElem_append_left hi] at this
  · have := key T.length (by simp)
    simpa using this
theorem Inn.ts {lo : Nat} {W : World} {g cap : Nat} {T : List Tk} (h : Inn lo W g cap T) : TS W (.slice (some ⟨g, 0, none⟩) T.length cap) T := by
  have h1 := h.lt
  exact ⟨_, cap, rfl, by omega, fun _ => ⟨g, 0, rfl, h1.2.1, fun i hi => by rw [Nat.zero_add]; exact h.at.1 i hi⟩⟩
theorem Inn.kept {lo lo2 hi2 : Nat} {W W' : World} {g cap : Nat} {T : List Tk} {v : Value} {ys : List Int} (h : Inn lo W g cap T) (k : RwI lo2 hi2 W v ys) (hd : g < lo2) (hg : W.grownBy W' v.ownBlock) : Inn lo W' g cap T := by
  refine World.ownsRow.kept h hg (.inr fun c => ?_)
  have h4 := (row_lt k.1 g c.symm).1
  omega

set_option maxHeartbeats 2000000 in
theorem own_any (T : List Tk) (v : Value) (w : World) (hv : TS w v T) (hn : NoNil v) (hl : T.length ≤ 5000) :
    Calls Try.prog 16 #[v] w fun e w' => ∃ g cap, e = .returned (.slice (some ⟨g, 0, none⟩) (T.length + 1) cap) ∧ Hid (Inn w.heap.size w' g cap T ∧ Below w.heap.size w w') := by
  obtain ⟨oa, cap, rfl, hc, _⟩ := id hv
  obtain ⟨i0, hi, hz0, hz1, hz2⟩ := info_parts info_track
  have HV : Hid (TS w (.slice oa T.length cap) T ∧ NoNil (.slice oa T.length cap)) := ⟨hv, hn⟩
  clear hv hn
  go_enter Try.func16, Try.ntmps16
  go_wp2_with (at_builtin; refine app_firstT rfl _ _ rfl i0 Try.underlying29 hi hz0 hz1 hz2 rfl T oa cap rfl HV.out.1 HV.out.2 (by omega) ?_)
  intro v1 w1 H1
  have hc3 : Hid (T.length + 1 ≤ maxLen) := by unfold Hid maxLen; omega
  have hc4 : Hid ((T.length + 1) * 24 ≤ 140737488355328) := by unfold Hid; omega
  have HA : Hid (∀ o, (w1.alloc o).ownsRow w.heap.size 27 3 v1 T.length (flatT T) ∧ Below w.heap.size w (w1.alloc o)) := fun o => ⟨row_below H1.out.1 ((Below.refl _ _).alloc (Nat.le_refl _) _), H1.out.2.alloc H1.out.2.size _⟩
  go_wp2_with (at_builtin; refine wpList_append_own _ rfl _ _ 29 rfl w.heap.size 27 i0 (.agg #[.int .i64 0, .int .i64 0, .int .i64 0]) 3 24 Try.underlying29 hi hz0 hz1 hz2 rfl (by decide) v1 T.length (flatT T) rfl (HA.out _).1 _ 1 1 [.int .i64 77, .int .i64 0, .int .i64 0] rfl rfl (cell_three _ _ _ _ _ _ rfl) (one3 _ _ _) hc3.out hc4.out (HA.out _).2.size ?_)
  intro v2 w2 hown hgrow hnil
  have hown2 : w2.ownsRow w.heap.size 27 3 v2 (T.length + 1) (flatT (T ++ [mkK])) := by rw [flatT_app]; exact hown
  have hb2 := app_below (HA.out _).2 (HA.out _).1 (Nat.le_refl _) hgrow
  obtain ⟨o2, c2, rfl, hc2, hg2⟩ := row_val hown2
  obtain ⟨g, rfl, hg3, hg4⟩ := hg2 (by omega)
  have HF : Hid (Inn w.heap.size w2 g c2 T ∧ Below w.heap.size w w2) := ⟨hown2, hb2⟩
  clear hown hgrow hnil hown2 hb2 hg2 hg3 hg4 hi hz0 hz1 hz2 HA H1 HV
  go_wp2
  go_ret
  exact ⟨_, _, rfl, HF⟩

set_option maxRecDepth 10000 in
set_option maxHeartbeats 4000000 in
theorem kept_any (lo g cap : Nat) (T : List Tk) (v : Value) (w : World) (hx : Inn lo w g cap T) (hv : TS w v T) (hl : T.length ≤ 5000) :
    Calls Try.prog 21 #[.slice (some ⟨g, 0, none⟩) (T.length + 1) cap, v] w fun e w' => e = .returned (.bool true) ∧ Below w.heap.size w w' := by
  obtain ⟨oa, ca, rfl, hc, hg⟩ := hv
  have HG : Hid (0 < T.length → ∃ g o, oa = some ⟨g, o, none⟩ ∧ g < w.heap.size ∧ ∀ i (h : i < T.length), TkAt w g (o + i * 3) T[i]) := hg
  obtain ⟨hX, hM⟩ := hx.at
  have HX : Hid (∀ i (h : i < T.length), TkAt w g (i * 3) T[i]) := hX
  obtain ⟨_, hgl, hcap⟩ := hx.lt
  obtain ⟨m0, m1, m2⟩ := hM
  simp only [mkK] at m0 m1 m2
  have hwl : IntKind.i64.wrap ((T.length : Int) + 1) = (T.length : Int) + 1 := by rw [IntKind.wrap_i64]; omega
  clear hg hx hX
  go_enter Try.func21, Try.ntmps21
  go_wp2_with fail
  go_loopw [5] (fun i wr => ∃ k : Nat, i = .int .i64 k ∧ k ≤ T.length ∧ Hid (Below w.heap.size w wr)) (fun i _ => T.length - (intOf i).toNat)
  case atStart => exact ⟨0, rfl, Nat.zero_le _, Below.refl _ _⟩
  case round =>
    obtain ⟨k, rfl, hk, HQ⟩ := hrel
    by_cases hlt : k < T.length
    · have ik : (k : Int) < T.length := by omega
      have ik2 : (k : Int) < (T.length : Int) + 1 := by omega
      obtain ⟨g2, o, rfl, hgl2, hat⟩ := HG.out (by omega)
      obtain ⟨x0, x1, x2⟩ := (hat k hlt).below HQ.out hgl2
      obtain ⟨y0, y1, y2⟩ := (HX.out k hlt).below HQ.out hgl
      have HW : Hid (∀ m, Below w.heap.size w (wr.drewN m)) := fun m => below_drewN HQ.out
      have hne : ∀ W, (binOp .neq 27 (.agg #[.int .i64 T[k].mn, .int .i64 T[k].mx, .int .i64 T[k].gr]) (.agg #[.int .i64 T[k].mn, .int .i64 T[k].mx, .int .i64 T[k].gr])).run Try.prog W = .ok (.bool false) W := fun W => by rw [neq_track]; simp
      clear hat HQ
      generalize T[k] = q at *
      go_wp2_with fail
      go_quiet (fail)
      go_wp2
      exact ⟨⟨k + 1, by go_num, by omega, HW.out _⟩, by simp [intOf]; omega⟩
    · obtain rfl : k = T.length := by omega
      have HF : Hid (Below w.heap.size w wr) := HQ.out
      clear HQ
      go_wp2
      go_ret
      exact ⟨rfl, HF.out⟩

end Go.Proofs.Ytchjmmchflbfcaa
