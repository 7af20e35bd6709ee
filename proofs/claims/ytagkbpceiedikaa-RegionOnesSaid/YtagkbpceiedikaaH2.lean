/-
  Contracts of the document's answer for layer 2: May, Asked, two, empty, has, edge, edges.
-/
import Derived.Test.YtagkbpceiedikaaH1
import Derived.Test.YtagkbpceiedikaaGE
import Derived.Test.YtagkbpceiedikaaReg4
import Derived.Laws.CopyOwn
namespace Go.Proofs.Ytagkbpceiedikaa
open Go.RowKit

/-- Numbers as cells. -/
def flatI (xs : List Int) : List Value := xs.map fun n => .int .i64 n
theorem flatI_len (xs : List Int) : (flatI xs).length = xs.length := by simp [flatI]
theorem flatI_at (xs : List Int) (k : Nat) (h : k < xs.length) : (flatI xs)[k]? = some (.int .i64 xs[k]) := by simp [flatI, h]
theorem flatI_app (xs ys : List Int) : flatI (xs ++ ys) = flatI xs ++ flatI ys := by simp [flatI]
theorem info_i64d : (Try.prog.info? 3).map (fun i => (i.zero, i.size, i.bytes)) = some (some (.int .i64 0), 1, 8) := by kernel_rfl

set_option maxHeartbeats 1000000 in
theorem dmay_any (x y n m : Int) (w : World) : Calls Try.prog 64 #[.agg #[.int .i64 x, .int .i64 y, .int .i64 n, .int .i64 m]] w fun e w' => e = .returned (.bool (mayB x y n m)) ∧ Below w.heap.size w w' := by
  have cs : n < 0 ∨ (¬ n < 0 ∧ m < 0) ∨ (¬ n < 0 ∧ ¬ m < 0 ∧ x < -16384) ∨ (¬ n < 0 ∧ ¬ m < 0 ∧ ¬ x < -16384 ∧ y < -16384) ∨ (¬ n < 0 ∧ ¬ m < 0 ∧ ¬ x < -16384 ∧ ¬ y < -16384 ∧ 16384 < x) ∨ (¬ n < 0 ∧ ¬ m < 0 ∧ ¬ x < -16384 ∧ ¬ y < -16384 ∧ ¬ 16384 < x ∧ 16384 < y) ∨ (¬ n < 0 ∧ ¬ m < 0 ∧ ¬ x < -16384 ∧ ¬ y < -16384 ∧ ¬ 16384 < x ∧ ¬ 16384 < y) := by omega
  rcases cs with h1 | ⟨h1, h2⟩ | ⟨h1, h2, h3⟩ | ⟨h1, h2, h3, h4⟩ | ⟨h1, h2, h3, h4, h5⟩ | ⟨h1, h2, h3, h4, h5, h6⟩ | ⟨h1, h2, h3, h4, h5, h6⟩
  iterate 6
    · have hm : Hid (mayB x y n m = false) := by
        unfold Hid
        rw [Bool.eq_false_iff]
        intro h
        have := may_iff.1 h
        omega
      go_enter Try.func64, Try.ntmps64
      go_wp2
      go_ret
      exact ⟨by rw [hm.out]; rfl, (Below.refl _ w).alloc (Nat.le_refl _) _⟩
  by_cases c1 : n ≤ 16384 - x
  · by_cases c2 : m ≤ 16384 - y
    · have hm : Hid (mayB x y n m = true) := may_iff.2 (by omega)
      go_enter Try.func64, Try.ntmps64
      go_wp2
      go_ret
      exact ⟨by rw [hm.out]; rfl, (Below.refl _ w).alloc (Nat.le_refl _) _⟩
    · have hm : Hid (mayB x y n m = false) := by
        unfold Hid
        rw [Bool.eq_false_iff]
        intro h
        have := may_iff.1 h
        omega
      go_enter Try.func64, Try.ntmps64
      go_wp2
      go_ret
      exact ⟨by rw [hm.out]; rfl, (Below.refl _ w).alloc (Nat.le_refl _) _⟩
  · have hm : Hid (mayB x y n m = false) := by
      unfold Hid
      rw [Bool.eq_false_iff]
      intro h
      have := may_iff.1 h
      omega
    go_enter Try.func64, Try.ntmps64
    go_wp2
    go_ret
    exact ⟨by rw [hm.out]; rfl, (Below.refl _ w).alloc (Nat.le_refl _) _⟩

set_option maxHeartbeats 1000000 in
theorem asked_any (rs : List Rc) (v : Value) (w : World) (hv : LsR w v rs) :
    Calls Try.prog 62 #[v] w fun e w' => e = .returned (.int .i64 (lisE rs)) ∧ Below w.heap.size w w' := by
  obtain ⟨oa, cap, rfl, hc, hg⟩ := hv
  have HG : Hid (0 < rs.length → ∃ g o, oa = some ⟨g, o, none⟩ ∧ g < w.heap.size ∧ ∀ i (h : i < rs.length), RcAt w g (o + i * 4) rs[i]) := hg
  clear hg
  unfold lisE
  by_cases hm : 1024 < rs.length
  · rw [if_pos hm]
    go_enter Try.func62, Try.ntmps62
    go_wp2
    go_ret
    exact ⟨rfl, Below.refl _ _⟩
  rw [if_neg hm]
  obtain ⟨R, hR⟩ : ∃ R : Int, (if rs.all (fun r => mayB r.x r.y r.w r.h) = true then 0 else 5) = R := ⟨_, rfl⟩
  rw [hR]
  have HF : Hid ((rs.all (fun r => mayB r.x r.y r.w r.h) = false → R = 5) ∧ (rs.all (fun r => mayB r.x r.y r.w r.h) = true → R = 0)) := ⟨fun h => by rw [← hR, h]; rfl, fun h => by rw [← hR, h]; rfl⟩
  clear hR
  go_enter Try.func62, Try.ntmps62
  go_wp2_with fail
  go_loopw [3] (fun i wr => ∃ k : Nat, k ≤ rs.length ∧ i = .int .i64 k ∧ Hid ((rs.take k).all (fun r => mayB r.x r.y r.w r.h) = true ∧ Below w.heap.size w wr)) (fun i _ => rs.length - (intOf i).toNat)
  case atStart => exact ⟨0, Nat.zero_le _, rfl, rfl, Below.refl _ _⟩
  case round =>
    obtain ⟨k, hk, rfl, HL⟩ := hrel
    by_cases hlt : k < rs.length
    · obtain ⟨g, o, rfl, hg, hat⟩ := HG.out (by omega)
      have hx := (hat k hlt).kept (w' := wr) fun j => HL.out.2.cell (p := ⟨g, j, none⟩) hg
      have HT : Hid ((rs.take (k + 1)).all (fun r => mayB r.x r.y r.w r.h) = mayB rs[k].x rs[k].y rs[k].w rs[k].h ∧ (mayB rs[k].x rs[k].y rs[k].w rs[k].h = false → R = 5)) := by
        refine ⟨?_, fun h => HF.out.1 ?_⟩
        · rw [(List.take_append_getElem hlt).symm, List.all_append, HL.out.1]; simp
        · rw [List.all_eq_false]; exact ⟨rs[k], List.getElem_mem hlt, by rw [h]; simp⟩
      have HM : Hid (∀ w, Calls Try.prog 64 #[.agg #[.int .i64 rs[k].x, .int .i64 rs[k].y, .int .i64 rs[k].w, .int .i64 rs[k].h]] w fun e w' => e = .returned (.bool (mayB rs[k].x rs[k].y rs[k].w rs[k].h)) ∧ Below w.heap.size w w') := fun w => dmay_any _ _ _ _ w
      have ik : (k : Int) < rs.length := by omega
      generalize mayB rs[k].x rs[k].y rs[k].w rs[k].h = b at *
      generalize rs[k] = x at *
      obtain ⟨x0, x1, x2, x3⟩ := hx
      clear hat
      cases b
      · go_wp2_with fail
        refine (HM.out _).mono ?_
        rintro e w1 ⟨rfl, hb⟩
        have H1 : Hid (R = 5 ∧ Below w.heap.size w w1) := ⟨HT.out.2 (by first | rfl | trivial), HL.out.2.trans (hb.mono HL.out.2.size)⟩
        clear hb
        go_wp2
        go_ret
        exact ⟨by rw [H1.out.1]; rfl, H1.out.2⟩
      · go_wp2_with fail
        refine (HM.out _).mono ?_
        rintro e w1 ⟨rfl, hb⟩
        have H1 : Hid ((rs.take (k + 1)).all (fun r => mayB r.x r.y r.w r.h) = true ∧ Below w.heap.size w w1) := ⟨HT.out.1, HL.out.2.trans (hb.mono HL.out.2.size)⟩
        clear hb HL HT
        go_wp2
        exact ⟨⟨k + 1, by omega, by go_num, H1.out⟩, by simp [intOf]; omega⟩
    · obtain rfl : k = rs.length := by omega
      have HE : Hid (R = 0 ∧ Below w.heap.size w wr) := ⟨HF.out.2 (by have := HL.out.1; rwa [List.take_length] at this), HL.out.2⟩
      clear HL
      go_wp2
      go_ret
      exact ⟨by rw [HE.out.1]; rfl, HE.out.2⟩

set_option maxHeartbeats 1000000 in
theorem dempty_any (r : Rc) (w : World) : Calls Try.prog 66 #[.agg #[.int .i64 r.x, .int .i64 r.y, .int .i64 r.w, .int .i64 r.h]] w fun e w' => e = .returned (.bool (emD r)) ∧ Below w.heap.size w w' := by
  obtain ⟨x, y, n, m⟩ := r
  unfold emD
  simp only []
  cases h1 : (n == 0)
  · cases h2 : (m == 0)
    · go_enter Try.func66, Try.ntmps66
      go_wp2
      go_ret
      exact ⟨rfl, (Below.refl _ w).alloc (Nat.le_refl _) _⟩
    · go_enter Try.func66, Try.ntmps66
      go_wp2
      go_ret
      exact ⟨rfl, (Below.refl _ w).alloc (Nat.le_refl _) _⟩
  · go_enter Try.func66, Try.ntmps66
    go_wp2
    go_ret
    exact ⟨rfl, (Below.refl _ w).alloc (Nat.le_refl _) _⟩

theorem hsB_parts (r : Rc) (x y : Int) : (hsB r x y = true ∧ r.x ≤ x ∧ x < r.x + r.w ∧ r.y ≤ y ∧ y < r.y + r.h) ∨ (hsB r x y = false ∧ (¬ r.x ≤ x ∨ (r.x ≤ x ∧ ¬ x < r.x + r.w) ∨ (r.x ≤ x ∧ x < r.x + r.w ∧ ¬ r.y ≤ y) ∨ (r.x ≤ x ∧ x < r.x + r.w ∧ r.y ≤ y ∧ ¬ y < r.y + r.h))) := by
  cases h : hsB r x y
  · refine .inr ⟨rfl, ?_⟩
    have : ¬ (r.x ≤ x ∧ x < r.x + r.w ∧ r.y ≤ y ∧ y < r.y + r.h) := fun c => by rw [(hsB_iff r x y).2 c] at h; cases h
    omega
  · exact .inl ⟨rfl, (hsB_iff r x y).1 h⟩

set_option maxHeartbeats 2000000 in
theorem dhas_any (rs : List Rc) (v : Value) (x y : Int) (w : World) (hv : LsR w v rs) (hm : Mays rs) (hl : rs.length ≤ 1000000) :
    Calls Try.prog 65 #[v, .int .i64 x, .int .i64 y] w fun e w' => e = .returned (.bool (hsD rs x y)) ∧ Below w.heap.size w w' := by
  obtain ⟨oa, cap, rfl, hc, hg⟩ := hv
  have HG : Hid (0 < rs.length → ∃ g o, oa = some ⟨g, o, none⟩ ∧ g < w.heap.size ∧ ∀ i (h : i < rs.length), RcAt w g (o + i * 4) rs[i]) := hg
  have HM : Hid (Mays rs) := hm
  clear hg hm
  go_enter Try.func65, Try.ntmps65
  go_wp2_with fail
  go_loopw [7] (fun i wr => ∃ k : Nat, i = .int .i64 k ∧ k ≤ rs.length ∧ Hid (hsD (rs.take k) x y = false ∧ Below w.heap.size w wr)) (fun i _ => rs.length - (intOf i).toNat)
  case atStart => exact ⟨0, rfl, Nat.zero_le _, rfl, Below.refl _ _⟩
  case round =>
    obtain ⟨k, rfl, hk, HR⟩ := hrel
    by_cases hlt : k < rs.length
    · have ik : (k : Int) < rs.length := by omega
      obtain ⟨g, o, rfl, hg, hat⟩ := HG.out (by omega)
      have hx := (hat k hlt).kept (w' := wr) fun j => HR.out.2.cell (p := ⟨g, j, none⟩) hg
      have hbd := may_bd (HM.out _ (List.getElem_mem hlt))
      have HT : Hid (hsD (rs.take (k + 1)) x y = hsB rs[k] x y ∧ (hsB rs[k] x y = true → hsD rs x y = true)) := by
        refine ⟨?_, fun h => List.any_eq_true.2 ⟨_, List.getElem_mem hlt, h⟩⟩
        have h0 := HR.out.1
        unfold hsD at h0 ⊢
        rw [(List.take_append_getElem hlt).symm, List.any_append, h0]
        simp
      generalize rs[k] = r at *
      obtain ⟨x0, x1, x2, x3⟩ := hx
      clear hat
      rcases hsB_parts r x y with ⟨hq, c1, c2, c3, c4⟩ | ⟨hq, c1 | ⟨c1, c2⟩ | ⟨c1, c2, c3⟩ | ⟨c1, c2, c3, c4⟩⟩
      · have H1 : Hid (hsD rs x y = true ∧ ∀ o, Below w.heap.size w (wr.alloc o)) := ⟨HT.out.2 hq, fun o => HR.out.2.alloc HR.out.2.size o⟩
        clear HR HT hq
        go_wp2
        go_ret
        exact ⟨by rw [H1.out.1]; rfl, H1.out.2 _⟩
      all_goals
        have H1 : Hid (hsD (rs.take (k + 1)) x y = false ∧ ∀ o, Below w.heap.size w (wr.alloc o)) := ⟨by rw [HT.out.1, hq], fun o => HR.out.2.alloc HR.out.2.size o⟩
        clear HR HT hq
        go_wp2
        exact ⟨⟨k + 1, by go_num, by omega, H1.out.1, H1.out.2 _⟩, by simp [intOf]; omega⟩
    · obtain rfl : k = rs.length := by omega
      have HF : Hid (hsD rs x y = false ∧ Below w.heap.size w wr) := by
        have h := HR.out
        rwa [List.take_length] at h
      clear HR
      go_wp2
      go_ret
      exact ⟨by rw [HF.out.1]; rfl, HF.out.2⟩

end Go.Proofs.Ytagkbpceiedikaa
