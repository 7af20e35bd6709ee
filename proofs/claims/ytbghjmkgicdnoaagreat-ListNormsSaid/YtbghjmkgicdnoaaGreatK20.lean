/-
  Texts of this claim, one behind the other: what each is about stands ahead of it.
-/
import Derived.Test.YtbghjmkgicdnoaaGreatK19
import Derived.Test.YtbghjmkgicdnoaaGreatK2
import Derived.Test.YtbghjmkgicdnoaaGreatK17
import Derived.Laws.CopyOwn
/-
  Contracts of the document's answer for layer 2: May, Asked, two, empty, has, edge, edges.
-/
namespace Go.Proofs.YtbghjmkgicdnoaaGreat
open Go.RowKit

/-- Numbers as cells. -/
def flatI (xs : List Int) : List Value := xs.map fun n => .int .i64 n
theorem flatI_len (xs : List Int) : (flatI xs).length = xs.length := by simp [flatI]
theorem flatI_at (xs : List Int) (k : Nat) (h : k < xs.length) : (flatI xs)[k]? = some (.int .i64 xs[k]) := by simp [flatI, h]
theorem flatI_app (xs ys : List Int) : flatI (xs ++ ys) = flatI xs ++ flatI ys := by simp [flatI]
theorem info_i64d : (Tryz.prog.info? 3).map (fun i => (i.zero, i.size, i.bytes)) = some (some (.int .i64 0), 1, 8) := by kernel_rfl

set_option maxHeartbeats 1000000 in
theorem dmay_any (x y n m : Int) (w : World) : Calls Tryz.prog 77 #[.agg #[.int .i64 x, .int .i64 y, .int .i64 n, .int .i64 m]] w fun e w' => e = .returned (.bool (mayB x y n m)) ∧ Below w.heap.size w w' := by
  have cs : n < 0 ∨ (¬ n < 0 ∧ m < 0) ∨ (¬ n < 0 ∧ ¬ m < 0 ∧ x < -16384) ∨ (¬ n < 0 ∧ ¬ m < 0 ∧ ¬ x < -16384 ∧ y < -16384) ∨ (¬ n < 0 ∧ ¬ m < 0 ∧ ¬ x < -16384 ∧ ¬ y < -16384 ∧ 16384 < x) ∨ (¬ n < 0 ∧ ¬ m < 0 ∧ ¬ x < -16384 ∧ ¬ y < -16384 ∧ ¬ 16384 < x ∧ 16384 < y) ∨ (¬ n < 0 ∧ ¬ m < 0 ∧ ¬ x < -16384 ∧ ¬ y < -16384 ∧ ¬ 16384 < x ∧ ¬ 16384 < y) := by omega
  rcases cs with h1 | ⟨h1, h2⟩ | ⟨h1, h2, h3⟩ | ⟨h1, h2, h3, h4⟩ | ⟨h1, h2, h3, h4, h5⟩ | ⟨h1, h2, h3, h4, h5, h6⟩ | ⟨h1, h2, h3, h4, h5, h6⟩
  iterate 6
    · have hm : Hid (mayB x y n m = false) := by
        unfold Hid
        rw [Bool.eq_false_iff]
        intro h
        have := may_iff.1 h
        omega
      go_enter Tryz.func77, Tryz.ntmps77
      go_wp2
      go_ret
      exact ⟨by rw [hm.out]; rfl, (Below.refl _ w).alloc (Nat.le_refl _) _⟩
  by_cases c1 : n ≤ 16384 - x
  · by_cases c2 : m ≤ 16384 - y
    · have hm : Hid (mayB x y n m = true) := may_iff.2 (by omega)
      go_enter Tryz.func77, Tryz.ntmps77
      go_wp2
      go_ret
      exact ⟨by rw [hm.out]; rfl, (Below.refl _ w).alloc (Nat.le_refl _) _⟩
    · have hm : Hid (mayB x y n m = false) := by
        unfold Hid
        rw [Bool.eq_false_iff]
        intro h
        have := may_iff.1 h
        omega
      go_enter Tryz.func77, Tryz.ntmps77
      go_wp2
      go_ret
      exact ⟨by rw [hm.out]; rfl, (Below.refl _ w).alloc (Nat.le_refl _) _⟩
  · have hm : Hid (mayB x y n m = false) := by
      unfold Hid
      rw [Bool.eq_false_iff]
      intro h
      have := may_iff.1 h
      omega
    go_enter Tryz.func77, Tryz.ntmps77
    go_wp2
    go_ret
    exact ⟨by rw [hm.out]; rfl, (Below.refl _ w).alloc (Nat.le_refl _) _⟩

set_option maxHeartbeats 1000000 in
theorem asked_any (rs : List Rc) (v : Value) (w : World) (hv : LsR w v rs) :
    Calls Tryz.prog 55 #[v] w fun e w' => e = .returned (.int .i64 (lisE rs)) ∧ Below w.heap.size w w' := by
  obtain ⟨oa, cap, rfl, hc, hg⟩ := hv
  have HG : Hid (0 < rs.length → ∃ g o, oa = some ⟨g, o, none⟩ ∧ g < w.heap.size ∧ ∀ i (h : i < rs.length), RcAt w g (o + i * 4) rs[i]) := hg
  clear hg
  unfold lisE
  by_cases hm : 1024 < rs.length
  · rw [if_pos hm]
    go_enter Tryz.func55, Tryz.ntmps55
    go_wp2
    go_ret
    exact ⟨rfl, Below.refl _ _⟩
  rw [if_neg hm]
  obtain ⟨R, hR⟩ : ∃ R : Int, (if rs.all (fun r => mayB r.x r.y r.w r.h) = true then 0 else 5) = R := ⟨_, rfl⟩
  rw [hR]
  have HF : Hid ((rs.all (fun r => mayB r.x r.y r.w r.h) = false → R = 5) ∧ (rs.all (fun r => mayB r.x r.y r.w r.h) = true → R = 0)) := ⟨fun h => by rw [← hR, h]; rfl, fun h => by rw [← hR, h]; rfl⟩
  clear hR
  go_enter Tryz.func55, Tryz.ntmps55
  go_wp2_with fail
  go_loopw [3] (fun i wr => ∃ k : Nat, k ≤ rs.length ∧ i = .int .i64 k ∧ Hid ((rs.take k).all (fun r => mayB r.x r.y r.w r.h) = true ∧ Below w.heap.size w wr)) (fun i _ => rs.length - (intOf i).toNat)
  case atStart => exact ⟨0, Nat.zero_le _, rfl, rfl, Below.refl _ _⟩
  case round =>
    obtain ⟨k, hk, rfl, HL⟩ := hrel
    by_cases hlt : k < rs.length
    · obtain ⟨g, o, rfl, hg, hat⟩ := HG.out (by omega)
      have hx := (hat k hlt).kept (w' := wr) fun j => HL.out.2.cell (p := ⟨g, j, none⟩) hg
      have HT : Hid ((rs.take (k + 1)).all (fun r => mayB r.x r.y r.w r.h) = mayB rs[k].x rs[k].y rs[k].w rs[k].h ∧ (mayB rs[k].x rs[k].y rs[k].w rs[k].h = false → R = 5)) := by
        refine ⟨?_, fun h => HF.out.1 ?_⟩
        · rw [(List.take_append_getElem hlt).symm, List.all_append, HL.out.1]; simp
        · rw [List.all_eq_false]; exact ⟨rs[k], List.getElem_mem hlt, by rw [h]; simp⟩
      have HM : Hid (∀ w, Calls Tryz.prog 77 #[.agg #[.int .i64 rs[k].x, .int .i64 rs[k].y, .int .i64 rs[k].w, .int .i64 rs[k].h]] w fun e w' => e = .returned (.bool (mayB rs[k].x rs[k].y rs[k].w rs[k].h)) ∧ Below w.heap.size w w') := fun w => dmay_any _ _ _ _ w
      have ik : (k : Int) < rs.length := by omega
      generalize mayB rs[k].x rs[k].y rs[k].w rs[k].h = b at *
      generalize rs[k] = x at *
      obtain ⟨x0, x1, x2, x3⟩ := hx
      clear hat
      cases b
      · go_wp2_with fail
        refine (HM.out _).mono ?_
        rintro e w1 ⟨rfl, hb⟩
        have H1 : Hid (R = 5 ∧ Below w.heap.size w w1) := ⟨HT.out.2 (by first | rfl | trivial), HL.out.2.trans (hb.mono HL.out.2.size)⟩
        clear hb
        go_wp2
        go_ret
        exact ⟨by rw [H1.out.1]; rfl, H1.out.2⟩
      · go_wp2_with fail
        refine (HM.out _).mono ?_
        rintro e w1 ⟨rfl, hb⟩
        have H1 : Hid ((rs.take (k + 1)).all (fun r => mayB r.x r.y r.w r.h) = true ∧ Below w.heap.size w w1) := ⟨HT.out.1, HL.out.2.trans (hb.mono HL.out.2.size)⟩
        clear hb HL HT
        go_wp2
        exact ⟨⟨k + 1, by omega, by go_num, H1.out⟩, by simp [intOf]; omega⟩
    · obtain rfl : k = rs.length := by omega
      have HE : Hid (R = 0 ∧ Below w.heap.size w wr) := ⟨HF.out.2 (by have := HL.out.1; rwa [List.take_length] at this), HL.out.2⟩
      clear HL
      go_wp2
      go_ret
      exact ⟨by rw [HE.out.1]; rfl, HE.out.2⟩

set_option maxHeartbeats 1000000 in
theorem dempty_any (r : Rc) (w : World) : Calls Tryz.prog 91 #[.agg #[.int .i64 r.x, .int .i64 r.y, .int .i64 r.w, .int .i64 r.h]] w fun e w' => e = .returned (.bool (emD r)) ∧ Below w.heap.size w w' := by
  obtain ⟨x, y, n, m⟩ := r
  unfold emD
  simp only []
  cases h1 : (n == 0)
  · cases h2 : (m == 0)
    · go_enter Tryz.func91, Tryz.ntmps91
      go_wp2
      go_ret
      exact ⟨rfl, (Below.refl _ w).alloc (Nat.le_refl _) _⟩
    · go_enter Tryz.func91, Tryz.ntmps91
      go_wp2
      go_ret
      exact ⟨rfl, (Below.refl _ w).alloc (Nat.le_refl _) _⟩
  · go_enter Tryz.func91, Tryz.ntmps91
    go_wp2
    go_ret
    exact ⟨rfl, (Below.refl _ w).alloc (Nat.le_refl _) _⟩

theorem hsB_parts (r : Rc) (x y : Int) : (hsB r x y = true ∧ r.x ≤ x ∧ x < r.x + r.w ∧ r.y ≤ y ∧ y < r.y + r.h) ∨ (hsB r x y = false ∧ (¬ r.x ≤ x ∨ (r.x ≤ x ∧ ¬ x < r.x + r.w) ∨ (r.x ≤ x ∧ x < r.x + r.w ∧ ¬ r.y ≤ y) ∨ (r.x ≤ x ∧ x < r.x + r.w ∧ r.y ≤ y ∧ ¬ y < r.y + r.h))) := by
  cases h : hsB r x y
  · refine .inr ⟨rfl, ?_⟩
    have : ¬ (r.x ≤ x ∧ x < r.x + r.w ∧ r.y ≤ y ∧ y < r.y + r.h) := fun c => by rw [(hsB_iff r x y).2 c] at h; cases h
    omega
  · exact .inl ⟨rfl, (hsB_iff r x y).1 h⟩

set_option maxHeartbeats 2000000 in
theorem dhas_any (rs : List Rc) (v : Value) (x y : Int) (w : World) (hv : LsR w v rs) (hm : Mays rs) (hl : rs.length ≤ 1000000) :
    Calls Tryz.prog 101 #[v, .int .i64 x, .int .i64 y] w fun e w' => e = .returned (.bool (hsD rs x y)) ∧ Below w.heap.size w w' := by
  obtain ⟨oa, cap, rfl, hc, hg⟩ := hv
  have HG : Hid (0 < rs.length → ∃ g o, oa = some ⟨g, o, none⟩ ∧ g < w.heap.size ∧ ∀ i (h : i < rs.length), RcAt w g (o + i * 4) rs[i]) := hg
  have HM : Hid (Mays rs) := hm
  clear hg hm
  go_enter Tryz.func101, Tryz.ntmps101
  go_wp2_with fail
  go_loopw [7] (fun i wr => ∃ k : Nat, i = .int .i64 k ∧ k ≤ rs.length ∧ Hid (hsD (rs.take k) x y = false ∧ Below w.heap.size w wr)) (fun i _ => rs.length - (intOf i).toNat)
  case atStart => exact ⟨0, rfl, Nat.zero_le _, rfl, Below.refl _ _⟩
  case round =>
    obtain ⟨k, rfl, hk, HR⟩ := hrel
    by_cases hlt : k < rs.length
    · have ik : (k : Int) < rs.length := by omega
      obtain ⟨g, o, rfl, hg, hat⟩ := HG.out (by omega)
      have hx := (hat k hlt).kept (w' := wr) fun j => HR.out.2.cell (p := ⟨g, j, none⟩) hg
      have hbd := may_bd (HM.out _ (List.getElem_mem hlt))
      have HT : Hid (hsD (rs.take (k + 1)) x y = hsB rs[k] x y ∧ (hsB rs[k] x y = true → hsD rs x y = true)) := by
        refine ⟨?_, fun h => List.any_eq_true.2 ⟨_, List.getElem_mem hlt, h⟩⟩
        have h0 := HR.out.1
        unfold hsD at h0 ⊢
        rw [(List.take_append_getElem hlt).symm, List.any_append, h0]
        simp
      generalize rs[k] = r at *
      obtain ⟨x0, x1, x2, x3⟩ := hx
      clear hat
      rcases hsB_parts r x y with ⟨hq, c1, c2, c3, c4⟩ | ⟨hq, c1 | ⟨c1, c2⟩ | ⟨c1, c2, c3⟩ | ⟨c1, c2, c3, c4⟩⟩
      · have H1 : Hid (hsD rs x y = true ∧ ∀ o, Below w.heap.size w (wr.alloc o)) := ⟨HT.out.2 hq, fun o => HR.out.2.alloc HR.out.2.size o⟩
        clear HR HT hq
        go_wp2
        go_ret
        exact ⟨by rw [H1.out.1]; rfl, H1.out.2 _⟩
      all_goals
        have H1 : Hid (hsD (rs.take (k + 1)) x y = false ∧ ∀ o, Below w.heap.size w (wr.alloc o)) := ⟨by rw [HT.out.1, hq], fun o => HR.out.2.alloc HR.out.2.size o⟩
        clear HR HT hq
        go_wp2
        exact ⟨⟨k + 1, by go_num, by omega, H1.out.1, H1.out.2 _⟩, by simp [intOf]; omega⟩
    · obtain rfl : k = rs.length := by omega
      have HF : Hid (hsD rs x y = false ∧ Below w.heap.size w wr) := by
        have h := HR.out
        rwa [List.take_length] at h
      clear HR
      go_wp2
      go_ret
      exact ⟨by rw [HF.out.1]; rfl, HF.out.2⟩

end Go.Proofs.YtbghjmkgicdnoaaGreat

/-
  Contracts of the document's answer for layer 2: edge, edges.
-/
namespace Go.Proofs.YtbghjmkgicdnoaaGreat
open Go.RowKit

/-- Blocks that hold no numbers lie as they lay. -/
def Oth (w w' : World) : Prop := ∀ b vs t, t ≠ 3 → Bk w b vs t → Bk w' b vs t
theorem Oth.refl (w : World) : Oth w w := fun _ _ _ _ h => h
theorem Oth.trans {a b c : World} (h : Oth a b) (k : Oth b c) : Oth a c := fun x vs t ht hb => k x vs t ht (h x vs t ht hb)
theorem Oth.below {a b : World} (h : Below a.heap.size a b) : Oth a b := fun _ _ _ _ hb => hb.below h
theorem Oth.grown {W W' : World} {base size n : Nat} {u : Value} {xs : List Value} (hr : W.ownsRow base 3 size u n xs) (hg : W.grownBy W' u.ownBlock) : Oth W W' := by
  intro b vs t ht h
  refine h.grown hg ?_
  intro hb
  obtain ⟨_, hr⟩ := hr
  rcases hr with ⟨rfl, _⟩ | ⟨g, cap, cur, rfl, _, hc, _⟩
  · cases hb
  · simp [Value.ownBlock] at hb
    subst hb
    unfold Bk at h
    rw [h] at hc
    injection hc with hc
    injection hc with _ h2
    exact ht h2
theorem Bk.typ {w : World} {g : Nat} {cs ds : Array Value} {t t' : TypeId} (h : Bk w g cs t) (k : Bk w g ds t') : t = t' := by
  unfold Bk at h k
  rw [h] at k
  injection k with k
  injection k
theorem Oth.but {w w' : World} {g : Nat} {cs : Array Value} (hg : Bk w g cs 3) (h : ∀ b, b ≠ g → w'.heap[b]? = w.heap[b]?) : Oth w w' := by
  intro b vs t ht hb
  have : b ≠ g := by
    rintro rfl
    exact ht (hb.typ hg)
  exact (h b this).trans hb
theorem Oth.set {w : World} {g : Nat} {cs : Array Value} (hg : Bk w g cs 3) (o : Nat) (v : Value) : Oth w (w.setCell ⟨g, o, none⟩ v) := by
  intro b vs t ht hb
  refine hb.other _ _ ?_
  rintro rfl
  exact ht (hb.typ hg)
/-- A copy within a row that is known whole, in a region; what lies elsewhere stays. -/
theorem step_copy_mine {P : Program} {ops : Array Oper} {o : Oper} {a : Act} {w : World} {K : Act → World → Prop} {Q : Exit → Act → World → Prop} {E : Prop} (hgd : o.guard = none) (d s : Operand) (dT sT : TypeId)
    (ho : o.op = .call { callee := .builtin .copy, args := #[d, s], argTypes := #[dT, sT] }) (elem : TypeId) (hu : P.underlying dT = some (.slice elem)) (hsz : (P.info? elem).map (·.size) = some 1)
    (dp sp : Option Addr) (dLen dCap sLen sCap : Nat) (hd : a.eval d = .slice dp dLen dCap) (hs : a.eval s = .slice sp sLen sCap)
    (g off : Nat) (cur : List Value) (t : TypeId) (hg : w.heap[g]? = some (.cells cur.toArray t (0, 0))) (cs : List Value) (hn : cs.length = Nat.min sLen dLen)
    (hpos : 0 < cs.length → dp = some ⟨g, off, none⟩ ∧ ∃ ad, sp = some ad ∧ ∀ j v, cs[j]? = some v → w.cell? (ad.add j) = some v)
    (hfit : off + cs.length ≤ cur.length) (h1 : ∀ v ∈ cs, v.oneCell' = true) (B : Nat) (w0 : World) (hb : Below B w0 w) (hBg : B ≤ g)
    (h : ∀ w', Hid (w'.heap[g]? = some (.cells (splice cur off cs).toArray t (0, 0)) ∧ Below B w0 w' ∧ ∀ b, b ≠ g → w'.heap[b]? = w.heap[b]?) → K (a.put o.dst (goInt cs.length)) w') :
    if Region.wanted o (yielded ops a.tmps) = true then Oper.wp P o a w K Q else E := by
  have hw : Region.wanted o (yielded ops a.tmps) = true := by simp [Region.wanted, hgd]
  rw [if_pos hw]
  by_cases h0 : cs.length = 0
  · obtain rfl : cs = [] := List.eq_nil_of_length_eq_zero h0
    have hrun := run_copy_none (P := P) w dT sT o.type elem dp sp dLen dCap sLen sCap hu hsz (by simpa using hn.symm)
    unfold Oper.wp
    simp [execOp, ho, resolve, invoke, builtin, hd, hs, hrun, Result.andThen]
    exact h w ⟨by simpa [splice] using hg, hb, fun _ _ => rfl⟩
  · obtain ⟨rfl, ad, rfl, hsrc⟩ := hpos (by omega)
    have hrun := run_copy_row (P := P) w dT sT o.type elem g off dLen dCap ad sLen sCap cur.toArray t cs hu hsz hg hn hsrc (by simpa using hfit) h1
    unfold Oper.wp
    simp [execOp, ho, resolve, invoke, builtin, hd, hs, hrun, Result.andThen]
    exact h _ ⟨by simpa [splice] using setRow_heap w g _ _ t _ hg, below_setRow hb hBg _, fun b hb => setRow_other w g b _ hb⟩
theorem insU_at (n : Int) : ∀ (xs : List Int) (k : Nat), (∀ j (h : j < xs.length), j < k → xs[j] < n) → k ≤ xs.length → (∀ (h : k < xs.length), n < xs[k]) → insU n xs = xs.take k ++ n :: xs.drop k
  | [], k, _, hk, _ => by simp [insU]
  | m :: t, 0, _, _, h => by
    have := h (by simp)
    rw [insU, if_pos (by simpa using this)]
    simp
  | m :: t, k + 1, h1, hk, h2 => by
    have h0 := h1 0 (by simp) (by omega)
    simp at h0
    rw [insU, if_neg (by omega), if_neg (by omega), insU_at n t k (fun j hj hjk => by have := h1 (j + 1) (by simpa using hj) (by omega); simpa using this) (by simpa using hk) (fun h => by have := h2 (by simpa using h); simpa using this)]
    simp
theorem insU_same (n : Int) : ∀ (xs : List Int) (k : Nat), (∀ j (h : j < xs.length), j < k → xs[j] < n) → (h : k < xs.length) → xs[k] = n → insU n xs = xs
  | m :: t, 0, _, _, h => by
    simp at h
    rw [insU, if_neg (by omega), if_pos h.symm]
  | m :: t, k + 1, h1, hk, h2 => by
    have h0 := h1 0 (by simp) (by omega)
    simp at h0
    rw [insU, if_neg (by omega), if_neg (by omega), insU_same n t k (fun j hj hjk => by have := h1 (j + 1) (by simpa using hj) (by omega); simpa using this) (by simpa using hk) (by simpa using h2)]
theorem one1 (a : Int) : ∀ u ∈ [Value.int .i64 a], u.oneCell' = true := by
  intro u hu
  simp at hu
  subst hu
  rfl
theorem oneI (xs : List Int) : ∀ u ∈ flatI xs, u.oneCell' = true := by
  intro u hu
  unfold flatI at hu
  obtain ⟨n, _, rfl⟩ := List.mem_map.1 hu
  rfl
theorem cell_one (w : World) (x : Value) (t : TypeId) : ∀ (j : Nat) (u : Value), [x][j]? = some u → (w.alloc (.cells #[x] t)).cell? ((⟨w.heap.size, 0, none⟩ : Addr).add j) = some u := by
  intro j u hj
  match j, hj with
  | 0, hj => simp at hj; subst hj; simp [Addr.add]
/-- The row behind the copy and the store. -/
theorem splice_row {xs : List Int} {n : Int} {cur : List Value} {k : Nat} (hk : k ≤ xs.length) (h : cur.take (xs.length + 1) = flatI xs ++ [.int .i64 0]) :
    ((splice cur (k + 1) (flatI (xs.drop k))).set k (.int .i64 n)).take (xs.length + 1) = flatI (xs.take k ++ n :: xs.drop k) := by
  have hlen : xs.length + 1 ≤ cur.length := by
    have := congrArg List.length h
    rw [List.length_take, List.length_append, flatI_len] at this
    simp at this
    omega
  have e1 : cur.take k = flatI (xs.take k) := by
    have : (cur.take (xs.length + 1)).take k = cur.take k := by rw [List.take_take]; congr 1; omega
    rw [← this, h, List.take_append_of_le_length (by rw [flatI_len]; exact hk)]
    simp [flatI]
  have e2 : ∃ z, cur.take (k + 1) = flatI (xs.take k) ++ [z] := by
    refine ⟨cur[k]'(by omega), ?_⟩
    rw [← e1, List.take_append_getElem]
  obtain ⟨z, e2⟩ := e2
  unfold splice
  rw [e2]
  have e3 : ((flatI (xs.take k) ++ [z]) ++ (flatI (xs.drop k) ++ cur.drop (k + 1 + (flatI (xs.drop k)).length))).set k (.int .i64 n) = (flatI (xs.take k) ++ .int .i64 n :: flatI (xs.drop k)) ++ cur.drop (k + 1 + (flatI (xs.drop k)).length) := by
    have hl : (flatI (xs.take k)).length = k := by rw [flatI_len, List.length_take]; omega
    rw [List.append_assoc, List.set_append_right _ _ (by rw [hl]; exact Nat.le_refl _), hl, Nat.sub_self]
    simp
  rw [e3, List.take_append_of_le_length (by simp [flatI_len]; omega), List.take_of_length_le (by simp [flatI_len]; omega)]
  simp [flatI]

theorem int_size : (Tryz.prog.info? 3).map (·.size) = some 1 := by kernel_rfl
theorem splice_len {xs : List Int} {cur : List Value} {k : Nat} (hk : k ≤ xs.length) (hl : xs.length + 1 ≤ cur.length) : (splice cur (k + 1) (flatI (xs.drop k))).length = cur.length :=
  length_splice _ _ _ (by rw [flatI_len, List.length_drop]; omega)
theorem edge_end {w' : World} {base g cap : Nat} {xs : List Int} {n : Int} {cur : List Value} {k : Nat} (hk : k ≤ xs.length) (hB : Bk w' g (splice cur (k + 1) (flatI (xs.drop k))).toArray 3)
    (hcl : cur.length = cap) (hn : xs.length + 1 ≤ cap) (hm : cap ≤ maxLen) (ht : cur.take (xs.length + 1) = flatI xs ++ [.int .i64 0]) (hg : base ≤ g) :
    (w'.setCell ⟨g, k, none⟩ (.int .i64 n)).ownsRow base 3 1 (.slice (some ⟨g, 0, none⟩) (xs.length + 1) cap) (xs.take k ++ n :: xs.drop k).length (flatI (xs.take k ++ n :: xs.drop k)) := by
  have hl : (xs.take k ++ n :: xs.drop k).length = xs.length + 1 := by simp; omega
  rw [hl]
  refine ⟨by rw [flatI_len, hl]; omega, .inr ⟨g, cap, _, rfl, hg, hB.put k (.int .i64 n), hn, hm, ?_, ?_⟩⟩
  · rw [Array.size_setIfInBounds, List.size_toArray, splice_len hk (by omega)]; omega
  · rw [Array.toList_setIfInBounds, Nat.mul_one]
    exact splice_row hk ht
theorem edge_src {w4 : World} {g : Nat} {xs : List Int} {cur : List Value} {k : Nat} (hB : Bk w4 g cur.toArray 3) (ht : cur.take (xs.length + 1) = flatI xs ++ [.int .i64 0]) :
    ∀ j v, (flatI (xs.drop k))[j]? = some v → w4.cell? ((⟨g, k, none⟩ : Addr).add j) = some v := by
  intro j v hj
  have h1 : (⟨g, k, none⟩ : Addr).add j = ⟨g, k + j, none⟩ := by simp [Addr.add]
  rw [h1, hB.cell]
  have hlt : k + j < xs.length := by
    have := (List.getElem?_eq_some_iff.1 hj).1
    rw [flatI_len, List.length_drop] at this
    omega
  have h2 : (cur.take (xs.length + 1))[k + j]? = cur[k + j]? := by rw [List.getElem?_take_of_lt (by omega)]
  rw [List.getElem?_toArray, ← h2, ht, List.getElem?_append_left (by rw [flatI_len]; exact hlt), flatI_at xs _ hlt, ← hj]
  simp [flatI, hlt]

set_option maxRecDepth 10000 in
set_option maxHeartbeats 4000000 in
theorem edge_any (w0 : World) (xs : List Int) (v : Value) (n : Int) (w : World) (hb : Below w0.heap.size w0 w) (hr : w.ownsRow w0.heap.size 3 1 v xs.length (flatI xs)) (hl : xs.length ≤ 1000000) :
    Calls Tryz.prog 92 #[v, .int .i64 n] w fun e w' => ∃ u, e = .returned u ∧ w'.ownsRow w0.heap.size 3 1 u (insU n xs).length (flatI (insU n xs)) ∧ Below w0.heap.size w0 w' ∧ Oth w w' := by
  obtain ⟨oa, cap, rfl, hc, hg⟩ := row_val hr
  have HR : Hid (w.ownsRow w0.heap.size 3 1 (.slice oa xs.length cap) xs.length (flatI xs) ∧ Below w0.heap.size w0 w) := ⟨hr, hb⟩
  have HG : Hid (0 < xs.length → ∃ g, oa = some ⟨g, 0, none⟩ ∧ g < w.heap.size ∧ ∀ i (h : i < xs.length), w.cell? ⟨g, i, none⟩ = some (.int .i64 xs[i])) := fun h => by
    obtain ⟨g, rfl, _, hgs⟩ := hg h
    exact ⟨g, rfl, hgs, fun i hi => by rw [own_cell hr i (by omega), flatI_at xs i hi]⟩
  obtain ⟨i0, hi, hz0, hz1, hz2⟩ := info_parts info_i64d
  have HI : Hid (Tryz.prog.info? 3 = some i0 ∧ i0.zero = some (.int .i64 0) ∧ i0.size = 1 ∧ i0.bytes = 8) := ⟨hi, hz0, hz1, hz2⟩
  clear hg hb hr hi hz0 hz1 hz2
  go_enter Tryz.func92, Tryz.ntmps92
  go_wp2_with fail
  go_loopw [5] (fun i wr => ∃ k : Nat, i = .int .i64 k ∧ k ≤ xs.length ∧ Hid (∀ j (h : j < xs.length), j < k → xs[j] < n) ∧ wr = w) (fun i _ => xs.length - (intOf i).toNat)
  case atStart => exact ⟨0, rfl, Nat.zero_le _, fun j h h0 => absurd h0 (Nat.not_lt_zero j), rfl⟩
  case round =>
    obtain ⟨k, rfl, hk, HK, rfl⟩ := hrel
    have far : k < xs.length ∨ k = xs.length := by omega
    have main : (∃ hlt : k < xs.length, xs[k] < n) ∨ (∃ hlt : k < xs.length, xs[k] = n) ∨ ((∃ hlt : k < xs.length, n < xs[k]) ∨ k = xs.length) := by
      rcases far with h | h
      · rcases Int.lt_trichotomy xs[k] n with c | c | c
        · exact .inl ⟨h, c⟩
        · exact .inr (.inl ⟨h, c⟩)
        · exact .inr (.inr (.inl ⟨h, c⟩))
      · exact .inr (.inr (.inr h))
    clear far
    rcases main with ⟨hlt, c⟩ | ⟨hlt, c⟩ | hend
    · obtain ⟨g, rfl, hg, hat⟩ := HG.out (by omega)
      have hx := hat k hlt
      have ik : (k : Int) < xs.length := by omega
      have HK2 : Hid (∀ j (h : j < xs.length), j < k + 1 → xs[j] < n) := fun j h h0 => by
        by_cases e : j = k
        · subst e; exact c
        · exact HK.out j h (by omega)
      clear hat HK
      generalize xs[k] = z at *
      go_wp2
      exact ⟨⟨k + 1, by go_num, by omega, HK2, trivial⟩, by simp [intOf]; omega⟩
    · obtain ⟨g, rfl, hg, hat⟩ := HG.out (by omega)
      have hx := hat k hlt
      have ik : (k : Int) < xs.length := by omega
      have HE : Hid (insU n xs = xs) := insU_same n xs k HK.out hlt c
      rw [c] at hx
      clear hat HK c
      go_wp2
      go_ret
      exact ⟨_, rfl, by rw [HE.out]; exact HR.out.1, HR.out.2, Oth.refl _⟩
    · have HE : Hid (insU n xs = xs.take k ++ n :: xs.drop k) := insU_at n xs k HK.out hk fun h => by
        rcases hend with ⟨_, c⟩ | c
        · exact c
        · omega
      have hc3 : Hid (xs.length + 1 ≤ maxLen) := by unfold Hid maxLen; omega
      have hc4 : Hid ((xs.length + 1) * 8 ≤ 140737488355328) := by unfold Hid; omega
      have HA : Hid (∀ o, (wr.alloc o).ownsRow w0.heap.size 3 1 (.slice oa xs.length cap) xs.length (flatI xs) ∧ Below w0.heap.size w0 (wr.alloc o)) := fun o => ⟨row_below HR.out.1 ((Below.refl _ _).alloc (Nat.le_refl _) _), HR.out.2.alloc HR.out.2.size _⟩
      clear HK
      obtain ⟨hi, hz0, hz1, hz2⟩ := HI.out
      rcases hend with ⟨hlt, c⟩ | hkl
      · obtain ⟨g, rfl, hg, hat⟩ := HG.out (by omega)
        have hx := hat k hlt
        have ik : (k : Int) < xs.length := by omega
        have c2 : ¬ xs[k] < n := by omega
        have c3 : ¬ xs[k] = n := by omega
        clear hat c
        generalize xs[k] = z at *
        go_wp2_with (at_builtin; refine wpList_append_own _ rfl _ _ 93 rfl w0.heap.size 3 i0 (.int .i64 0) 1 8 Tryz.underlying93 hi hz0 hz1 hz2 rfl (by decide) (.slice (some ⟨g, 0, none⟩) xs.length cap) xs.length (flatI xs) rfl (HA.out _).1 _ 1 1 [.int .i64 0] rfl rfl (cell_one _ _ _) (one1 _) hc3.out hc4.out (HA.out _).2.size ?_)
        intro v' w4 hown' hgrow hnil
        have hb4 := app_below (HA.out _).2 (HA.out _).1 (Nat.le_refl _) hgrow
        have hO4 : Oth wr w4 := (Oth.below ((Below.refl _ _).alloc (Nat.le_refl _) _)).trans (Oth.grown (HA.out _).1 hgrow)
        clear hgrow hnil hi hz0 hz1 hz2 HG hx HI HR HA hc3 hc4 c2 c3 ik hlt
        obtain ⟨hl', ⟨_, h0⟩ | ⟨g', cap', cur, rfl, hbg, hcur, hn', hm', hs', ht'⟩⟩ := hown'
        · omega
        have HC : Hid (w4.heap[g']? = some (.cells cur 3 (0, 0)) ∧ cur.size = cap' * 1 ∧ cur.toList.take ((xs.length + 1) * 1) = flatI xs ++ [.int .i64 0] ∧ cap' ≤ maxLen ∧ Below w0.heap.size w0 w4 ∧ w0.heap.size ≤ g') := ⟨hcur, hs', ht', hm', hb4, hbg⟩
        have HO : Hid (Oth wr w4) := hO4
        clear hcur hs' ht' hm' hb4 hbg hl' hO4
        have ic : (k : Int) + 1 ≤ (xs.length : Int) + 1 := by omega
        have ic2 : (k : Int) + 1 ≤ cap' := by omega
        by_cases hcp : k + 1 = cap'
        · go_wp2_with fail
          refine R4.wp_region_lit 7 0 1 (fun _ _ => undef) (fun _ => .cells #[] 0) [] (by kernel_rfl) (by kernel_rfl) rfl ?_ rfl ?_
          · intro k hk
            omega
          apply Exists.intro
          refine ⟨fun bs ne => ?_, ?_, ?_⟩
          · simp only [List.take_succ_cons, List.take_zero]
            repeat (go_big_quiet_step (fail))
            exact wpQuiet_nil rfl
          · intro i h1 h2
            omega
          intro bl wr' hbl _ _
          simp only [R4.layL]
          refine wpAny_one 7 (by kernel_rfl) rfl ?_
          intro K hK
          have hw4 : Below w0.heap.size w0 wr' := HC.out.2.2.2.2.1.trans (hbl.mono HC.out.2.2.2.2.1.size)
          have hB4 : Bk wr' g' cur.toList.toArray 3 := by rw [Array.toArray_toList]; exact Bk.below HC.out.1 hbl
          have HO4 : Hid (Oth wr wr') := HO.out.trans (Oth.below hbl)
          clear hbl
          have ht4 := HC.out.2.2.1
          rw [Nat.mul_one] at ht4
          have hcl : cur.toList.length = cap' := by have := HC.out.2.1; rw [Array.length_toList]; omega
          refine step_copy_mine rfl _ _ 93 93 rfl 3 Tryz.underlying93 int_size (some ⟨g', 0, none⟩) (some ⟨g', k, none⟩) 0 0 (xs.length + 1 - k) (cap' - k) (by rfl) (by rfl) g' (k + 1) cur.toList 3 hB4 (flatI (xs.drop k)) (by rw [flatI_len, List.length_drop]; simp only [Nat.min_def]; split <;> omega) (fun hp => ⟨by exfalso; rw [flatI_len, List.length_drop] at hp; omega, ⟨g', k, none⟩, rfl, edge_src hB4 ht4⟩) (by rw [flatI_len, List.length_drop]; omega) (oneI _) w0.heap.size w0 hw4 HC.out.2.2.2.2.2 ?_
          intro w5 H5'
          have HO5 : Hid (Oth wr w5) := HO4.out.trans (Oth.but hB4 H5'.out.2.2)
          have H5 : Hid (w5.heap[g']? = some (.cells (splice cur.toList (k + 1) (flatI (xs.drop k))).toArray 3 (0, 0))) := H5'.out.1
          have hb5 := H5'.out.2.1
          clear hw4 hB4 H5'
          have HZ : Hid (w5.heap[g']? = some (.cells (splice cur.toList (k + 1) (flatI (xs.drop k))).toArray 3 (0, 0)) ∧ Below w0.heap.size w0 w5 ∧ cur.toList.take (xs.length + 1) = flatI xs ++ [.int .i64 0] ∧ cur.toList.length = cap') := ⟨H5.out, hb5, ht4, hcl⟩
          have hcell : ∃ z, w5.cell? ⟨g', k, none⟩ = some z := by
            refine ⟨(splice cur.toList (k + 1) (flatI (xs.drop k)))[k]'(by rw [splice_len hk (by omega)]; omega), ?_⟩
            rw [Bk.cell H5.out]
            simp
          obtain ⟨z5, hz5⟩ := hcell
          have hf5 := Bk.frozen H5.out k
          clear H5 hb5 ht4 hcl
          refine hK _ _ ?_
          clear hK K
          refine wpAny_done (by kernel_rfl) ?_ _
          go_wp2
          go_ret
          have q := HZ.out
          exact ⟨_, rfl, by rw [HE.out]; exact edge_end hk q.1 q.2.2.2 (by omega) HC.out.2.2.2.1 q.2.2.1 HC.out.2.2.2.2.2, q.2.1.setCell (p := ⟨g', k, none⟩) HC.out.2.2.2.2.2 _, HO5.out.trans (Oth.set q.1 _ _)⟩
        · go_wp2_with fail
          refine R4.wp_region_lit 7 0 1 (fun _ _ => undef) (fun _ => .cells #[] 0) [] (by kernel_rfl) (by kernel_rfl) rfl ?_ rfl ?_
          · intro k hk
            omega
          apply Exists.intro
          refine ⟨fun bs ne => ?_, ?_, ?_⟩
          · simp only [List.take_succ_cons, List.take_zero]
            repeat (go_big_quiet_step (fail))
            exact wpQuiet_nil rfl
          · intro i h1 h2
            omega
          intro bl wr' hbl _ _
          simp only [R4.layL]
          refine wpAny_one 7 (by kernel_rfl) rfl ?_
          intro K hK
          have hw4 : Below w0.heap.size w0 wr' := HC.out.2.2.2.2.1.trans (hbl.mono HC.out.2.2.2.2.1.size)
          have hB4 : Bk wr' g' cur.toList.toArray 3 := by rw [Array.toArray_toList]; exact Bk.below HC.out.1 hbl
          have HO4 : Hid (Oth wr wr') := HO.out.trans (Oth.below hbl)
          clear hbl
          have ht4 := HC.out.2.2.1
          rw [Nat.mul_one] at ht4
          have hcl : cur.toList.length = cap' := by have := HC.out.2.1; rw [Array.length_toList]; omega
          refine step_copy_mine rfl _ _ 93 93 rfl 3 Tryz.underlying93 int_size (some ⟨g', k + 1, none⟩) (some ⟨g', k, none⟩) (xs.length - k) (cap' - (k + 1)) (xs.length + 1 - k) (cap' - k) (by rfl) (by rfl) g' (k + 1) cur.toList 3 hB4 (flatI (xs.drop k)) (by rw [flatI_len, List.length_drop]; simp only [Nat.min_def]; split <;> omega) (fun hp => ⟨rfl, ⟨g', k, none⟩, rfl, edge_src hB4 ht4⟩) (by rw [flatI_len, List.length_drop]; omega) (oneI _) w0.heap.size w0 hw4 HC.out.2.2.2.2.2 ?_
          intro w5 H5'
          have HO5 : Hid (Oth wr w5) := HO4.out.trans (Oth.but hB4 H5'.out.2.2)
          have H5 : Hid (w5.heap[g']? = some (.cells (splice cur.toList (k + 1) (flatI (xs.drop k))).toArray 3 (0, 0))) := H5'.out.1
          have hb5 := H5'.out.2.1
          clear hw4 hB4 H5'
          have HZ : Hid (w5.heap[g']? = some (.cells (splice cur.toList (k + 1) (flatI (xs.drop k))).toArray 3 (0, 0)) ∧ Below w0.heap.size w0 w5 ∧ cur.toList.take (xs.length + 1) = flatI xs ++ [.int .i64 0] ∧ cur.toList.length = cap') := ⟨H5.out, hb5, ht4, hcl⟩
          have hcell : ∃ z, w5.cell? ⟨g', k, none⟩ = some z := by
            refine ⟨(splice cur.toList (k + 1) (flatI (xs.drop k)))[k]'(by rw [splice_len hk (by omega)]; omega), ?_⟩
            rw [Bk.cell H5.out]
            simp
          obtain ⟨z5, hz5⟩ := hcell
          have hf5 := Bk.frozen H5.out k
          clear H5 hb5 ht4 hcl
          refine hK _ _ ?_
          clear hK K
          refine wpAny_done (by kernel_rfl) ?_ _
          go_wp2
          go_ret
          have q := HZ.out
          exact ⟨_, rfl, by rw [HE.out]; exact edge_end hk q.1 q.2.2.2 (by omega) HC.out.2.2.2.1 q.2.2.1 HC.out.2.2.2.2.2, q.2.1.setCell (p := ⟨g', k, none⟩) HC.out.2.2.2.2.2 _, HO5.out.trans (Oth.set q.1 _ _)⟩
      · have ik : ¬ (k : Int) < xs.length := by omega
        clear hkl
        go_wp2_with (at_builtin; refine wpList_append_own _ rfl _ _ 93 rfl w0.heap.size 3 i0 (.int .i64 0) 1 8 Tryz.underlying93 hi hz0 hz1 hz2 rfl (by decide) (.slice oa xs.length cap) xs.length (flatI xs) rfl (HA.out _).1 _ 1 1 [.int .i64 0] rfl rfl (cell_one _ _ _) (one1 _) hc3.out hc4.out (HA.out _).2.size ?_)
        intro v' w4 hown' hgrow hnil
        have hb4 := app_below (HA.out _).2 (HA.out _).1 (Nat.le_refl _) hgrow
        have hO4 : Oth wr w4 := (Oth.below ((Below.refl _ _).alloc (Nat.le_refl _) _)).trans (Oth.grown (HA.out _).1 hgrow)
        clear hgrow hnil hi hz0 hz1 hz2 HG HI HR HA hc3 hc4 ik
        obtain ⟨hl', ⟨_, h0⟩ | ⟨g', cap', cur, rfl, hbg, hcur, hn', hm', hs', ht'⟩⟩ := hown'
        · omega
        have HC : Hid (w4.heap[g']? = some (.cells cur 3 (0, 0)) ∧ cur.size = cap' * 1 ∧ cur.toList.take ((xs.length + 1) * 1) = flatI xs ++ [.int .i64 0] ∧ cap' ≤ maxLen ∧ Below w0.heap.size w0 w4 ∧ w0.heap.size ≤ g') := ⟨hcur, hs', ht', hm', hb4, hbg⟩
        have HO : Hid (Oth wr w4) := hO4
        clear hcur hs' ht' hm' hb4 hbg hl' hO4
        have ic : (k : Int) + 1 ≤ (xs.length : Int) + 1 := by omega
        have ic2 : (k : Int) + 1 ≤ cap' := by omega
        by_cases hcp : k + 1 = cap'
        · go_wp2_with fail
          refine R4.wp_region_lit 7 0 1 (fun _ _ => undef) (fun _ => .cells #[] 0) [] (by kernel_rfl) (by kernel_rfl) rfl ?_ rfl ?_
          · intro k hk
            omega
          apply Exists.intro
          refine ⟨fun bs ne => ?_, ?_, ?_⟩
          · simp only [List.take_succ_cons, List.take_zero]
            repeat (go_big_quiet_step (fail))
            exact wpQuiet_nil rfl
          · intro i h1 h2
            omega
          intro bl wr' hbl _ _
          simp only [R4.layL]
          refine wpAny_one 7 (by kernel_rfl) rfl ?_
          intro K hK
          have hw4 : Below w0.heap.size w0 wr' := HC.out.2.2.2.2.1.trans (hbl.mono HC.out.2.2.2.2.1.size)
          have hB4 : Bk wr' g' cur.toList.toArray 3 := by rw [Array.toArray_toList]; exact Bk.below HC.out.1 hbl
          have HO4 : Hid (Oth wr wr') := HO.out.trans (Oth.below hbl)
          clear hbl
          have ht4 := HC.out.2.2.1
          rw [Nat.mul_one] at ht4
          have hcl : cur.toList.length = cap' := by have := HC.out.2.1; rw [Array.length_toList]; omega
          refine step_copy_mine rfl _ _ 93 93 rfl 3 Tryz.underlying93 int_size (some ⟨g', 0, none⟩) (some ⟨g', k, none⟩) 0 0 (xs.length + 1 - k) (cap' - k) (by rfl) (by rfl) g' (k + 1) cur.toList 3 hB4 (flatI (xs.drop k)) (by rw [flatI_len, List.length_drop]; simp only [Nat.min_def]; split <;> omega) (fun hp => ⟨by exfalso; rw [flatI_len, List.length_drop] at hp; omega, ⟨g', k, none⟩, rfl, edge_src hB4 ht4⟩) (by rw [flatI_len, List.length_drop]; omega) (oneI _) w0.heap.size w0 hw4 HC.out.2.2.2.2.2 ?_
          intro w5 H5'
          have HO5 : Hid (Oth wr w5) := HO4.out.trans (Oth.but hB4 H5'.out.2.2)
          have H5 : Hid (w5.heap[g']? = some (.cells (splice cur.toList (k + 1) (flatI (xs.drop k))).toArray 3 (0, 0))) := H5'.out.1
          have hb5 := H5'.out.2.1
          clear hw4 hB4 H5'
          have HZ : Hid (w5.heap[g']? = some (.cells (splice cur.toList (k + 1) (flatI (xs.drop k))).toArray 3 (0, 0)) ∧ Below w0.heap.size w0 w5 ∧ cur.toList.take (xs.length + 1) = flatI xs ++ [.int .i64 0] ∧ cur.toList.length = cap') := ⟨H5.out, hb5, ht4, hcl⟩
          have hcell : ∃ z, w5.cell? ⟨g', k, none⟩ = some z := by
            refine ⟨(splice cur.toList (k + 1) (flatI (xs.drop k)))[k]'(by rw [splice_len hk (by omega)]; omega), ?_⟩
            rw [Bk.cell H5.out]
            simp
          obtain ⟨z5, hz5⟩ := hcell
          have hf5 := Bk.frozen H5.out k
          clear H5 hb5 ht4 hcl
          refine hK _ _ ?_
          clear hK K
          refine wpAny_done (by kernel_rfl) ?_ _
          go_wp2
          go_ret
          have q := HZ.out
          exact ⟨_, rfl, by rw [HE.out]; exact edge_end hk q.1 q.2.2.2 (by omega) HC.out.2.2.2.1 q.2.2.1 HC.out.2.2.2.2.2, q.2.1.setCell (p := ⟨g', k, none⟩) HC.out.2.2.2.2.2 _, HO5.out.trans (Oth.set q.1 _ _)⟩
        · go_wp2_with fail
          refine R4.wp_region_lit 7 0 1 (fun _ _ => undef) (fun _ => .cells #[] 0) [] (by kernel_rfl) (by kernel_rfl) rfl ?_ rfl ?_
          · intro k hk
            omega
          apply Exists.intro
          refine ⟨fun bs ne => ?_, ?_, ?_⟩
          · simp only [List.take_succ_cons, List.take_zero]
            repeat (go_big_quiet_step (fail))
            exact wpQuiet_nil rfl
          · intro i h1 h2
            omega
          intro bl wr' hbl _ _
          simp only [R4.layL]
          refine wpAny_one 7 (by kernel_rfl) rfl ?_
          intro K hK
          have hw4 : Below w0.heap.size w0 wr' := HC.out.2.2.2.2.1.trans (hbl.mono HC.out.2.2.2.2.1.size)
          have hB4 : Bk wr' g' cur.toList.toArray 3 := by rw [Array.toArray_toList]; exact Bk.below HC.out.1 hbl
          have HO4 : Hid (Oth wr wr') := HO.out.trans (Oth.below hbl)
          clear hbl
          have ht4 := HC.out.2.2.1
          rw [Nat.mul_one] at ht4
          have hcl : cur.toList.length = cap' := by have := HC.out.2.1; rw [Array.length_toList]; omega
          refine step_copy_mine rfl _ _ 93 93 rfl 3 Tryz.underlying93 int_size (some ⟨g', k + 1, none⟩) (some ⟨g', k, none⟩) (xs.length - k) (cap' - (k + 1)) (xs.length + 1 - k) (cap' - k) (by rfl) (by rfl) g' (k + 1) cur.toList 3 hB4 (flatI (xs.drop k)) (by rw [flatI_len, List.length_drop]; simp only [Nat.min_def]; split <;> omega) (fun hp => ⟨rfl, ⟨g', k, none⟩, rfl, edge_src hB4 ht4⟩) (by rw [flatI_len, List.length_drop]; omega) (oneI _) w0.heap.size w0 hw4 HC.out.2.2.2.2.2 ?_
          intro w5 H5'
          have HO5 : Hid (Oth wr w5) := HO4.out.trans (Oth.but hB4 H5'.out.2.2)
          have H5 : Hid (w5.heap[g']? = some (.cells (splice cur.toList (k + 1) (flatI (xs.drop k))).toArray 3 (0, 0))) := H5'.out.1
          have hb5 := H5'.out.2.1
          clear hw4 hB4 H5'
          have HZ : Hid (w5.heap[g']? = some (.cells (splice cur.toList (k + 1) (flatI (xs.drop k))).toArray 3 (0, 0)) ∧ Below w0.heap.size w0 w5 ∧ cur.toList.take (xs.length + 1) = flatI xs ++ [.int .i64 0] ∧ cur.toList.length = cap') := ⟨H5.out, hb5, ht4, hcl⟩
          have hcell : ∃ z, w5.cell? ⟨g', k, none⟩ = some z := by
            refine ⟨(splice cur.toList (k + 1) (flatI (xs.drop k)))[k]'(by rw [splice_len hk (by omega)]; omega), ?_⟩
            rw [Bk.cell H5.out]
            simp
          obtain ⟨z5, hz5⟩ := hcell
          have hf5 := Bk.frozen H5.out k
          clear H5 hb5 ht4 hcl
          refine hK _ _ ?_
          clear hK K
          refine wpAny_done (by kernel_rfl) ?_ _
          go_wp2
          go_ret
          have q := HZ.out
          exact ⟨_, rfl, by rw [HE.out]; exact edge_end hk q.1 q.2.2.2 (by omega) HC.out.2.2.2.1 q.2.2.1 HC.out.2.2.2.2.2, q.2.1.setCell (p := ⟨g', k, none⟩) HC.out.2.2.2.2.2 _, HO5.out.trans (Oth.set q.1 _ _)⟩

end Go.Proofs.YtbghjmkgicdnoaaGreat
