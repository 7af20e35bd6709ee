/-
  slices.DeleteFunc with the function that fills.
-/
import Derived.Test.YthnhcphkpffkfaaGreatXD
namespace Go.Proofs.YthnhcphkpffkfaaGreat
open Go.RowKit

theorem Sh.elsewhere {w0 : World} {T : List Tk} {tv : Value} {pb sb : Nat} {ov : Value} {sz : List Int} {lf : Int} {w : World} (h : Sh w0 T tv pb sb ov sz lf w) (b o : Nat) (v : Value) (h1 : b ≠ pb) (h2 : b ≠ sb) (h3 : w0.heap.size ≤ b) : Sh w0 T tv pb sb ov sz lf (w.setCell ⟨b, o, none⟩ v) :=
  ⟨h.bel.setCell (p := ⟨b, o, none⟩) h3 _, h.pbk.other _ _ h1, h.siz.other _ _ h2, h.len, h.lop, h.los⟩
theorem Fi.elsewhere {pb sb bs bl bg : Nat} {left g : Int} {w : World} (h : Fi pb sb bs bl bg left g w) (b o : Nat) (v : Value) (h1 : b ≠ bs) (h2 : b ≠ bl) (h3 : b ≠ bg) : Fi pb sb bs bl bg left g (w.setCell ⟨b, o, none⟩ v) :=
  ⟨h.sp.other _ _ h1, h.lp.other _ _ h2, h.gp.other _ _ h3, h.nl, h.ng, h.np⟩
theorem Sh.row {w0 : World} {T : List Tk} {tv : Value} {pb sb : Nat} {ov : Value} {sz : List Int} {lf : Int} (b : Nat) (h1 : b ≠ pb) (h2 : b ≠ sb) (h3 : w0.heap.size ≤ b) : ∀ (vs : List Value) (o : Nat) (w : World), Sh w0 T tv pb sb ov sz lf w → Sh w0 T tv pb sb ov sz lf (w.setCells b o vs)
  | [], _, _, h => h
  | v :: vs, o, _, h => Sh.row b h1 h2 h3 vs (o + 1) _ (h.elsewhere b o v h1 h2 h3)
theorem Fi.row {pb sb bs bl bg : Nat} {left g : Int} (b : Nat) (h1 : b ≠ bs) (h2 : b ≠ bl) (h3 : b ≠ bg) : ∀ (vs : List Value) (o : Nat) (w : World), Fi pb sb bs bl bg left g w → Fi pb sb bs bl bg left g (w.setCells b o vs)
  | [], _, _, h => h
  | v :: vs, o, _, h => Fi.row b h1 h2 h3 vs (o + 1) _ (h.elsewhere b o v h1 h2 h3)
theorem own_row {base g cap n : Nat} {e : TypeId} : ∀ (vs : List Value) (o : Nat) (w : World) (xs : List Value), w.ownsRow base e 1 (.slice (some ⟨g, 0, none⟩) n cap) n xs → ∃ ys, (w.setCells g o vs).ownsRow base e 1 (.slice (some ⟨g, 0, none⟩) n cap) n ys ∧ ys.take o = xs.take o
  | [], _, _, xs, h => ⟨xs, h, rfl⟩
  | v :: vs, o, w, xs, h => by
    obtain ⟨ys, h1, h2⟩ := own_row vs (o + 1) _ _ (own_set h o v)
    refine ⟨ys, h1, ?_⟩
    have e : ys.take o = (ys.take (o + 1)).take o := by rw [List.take_take]; congr 1; omega
    rw [e, h2, List.take_take, show min o (o + 1) = o by omega, List.take_set_of_le (Nat.le_refl o)]
theorem own_cut {base g cap n m : Nat} {e : TypeId} {w : World} {xs : List Value} (h : w.ownsRow base e 1 (.slice (some ⟨g, 0, none⟩) n cap) n xs) (hm : m ≤ n) : w.ownsRow base e 1 (.slice (some ⟨g, 0, none⟩) m cap) m (xs.take m) := by
  obtain ⟨hl, ⟨h, _⟩ | ⟨g', cap', cur, h, hb, hc, h1, h2, h3, h4⟩⟩ := h
  · cases h
  · injection h with e1 _ e3
    injection e1 with e1
    injection e1 with e1 _ _
    subst e1 e3
    refine ⟨by rw [List.length_take]; omega, .inr ⟨g, cap, cur, rfl, hb, hc, by omega, h2, h3, ?_⟩⟩
    rw [← h4, List.take_take]
    congr 1
    omega
/-- Those that are kept of the first ones. -/
def kpt (T : List Tk) (left g : Int) (op : List Nat) (j : Nat) : List Nat := (op.take j).filter fun i => !fuT left g (tkA T i)
theorem kpt_le (T : List Tk) (left g : Int) (op : List Nat) (j : Nat) : (kpt T left g op j).length ≤ j ∧ (kpt T left g op j).length ≤ op.length := by
  unfold kpt
  have := List.length_filter_le (fun i => !fuT left g (tkA T i)) (op.take j)
  rw [List.length_take] at this
  omega
theorem kpt_next (T : List Tk) (left g : Int) (op : List Nat) (j : Nat) (h : j < op.length) : kpt T left g op (j + 1) = kpt T left g op j ++ if fuT left g (tkA T op[j]) = true then [] else [op[j]] := by
  unfold kpt
  rw [← List.take_append_getElem h, List.filter_append, List.filter_cons, List.filter_nil]
  cases fuT left g (tkA T op[j]) <;> rfl
/-- The row while it is gone through. -/
def rowD (T : List Tk) (left g : Int) (op : List Nat) (j : Nat) : List Nat := kpt T left g op j ++ op.drop (kpt T left g op j).length
theorem rowD_len (T : List Tk) (left g : Int) (op : List Nat) (j : Nat) : (rowD T left g op j).length = op.length := by
  have := (kpt_le T left g op j).2
  unfold rowD
  rw [List.length_append, List.length_drop]
  omega
theorem rowD_at (T : List Tk) (left g : Int) (op : List Nat) (j : Nat) (h : j < op.length) : (rowD T left g op j)[j]'(by rw [rowD_len]; exact h) = op[j] := by
  have := (kpt_le T left g op j).1
  unfold rowD
  rw [List.getElem_append_right (by omega)]
  simp only [List.getElem_drop]
  congr 1
  omega
theorem rowD_skip {T : List Tk} {left g : Int} {op : List Nat} {j : Nat} (h : j < op.length) (hf : fuT left g (tkA T op[j]) = true) : rowD T left g op (j + 1) = rowD T left g op j ∧ (kpt T left g op (j + 1)).length = (kpt T left g op j).length := by
  have e := kpt_next T left g op j h
  rw [hf, if_pos rfl, List.append_nil] at e
  unfold rowD
  rw [e]
  exact ⟨rfl, rfl⟩
theorem rowD_keep {T : List Tk} {left g : Int} {op : List Nat} {j : Nat} (h : j < op.length) (hf : fuT left g (tkA T op[j]) = false) : rowD T left g op (j + 1) = (rowD T left g op j).set (kpt T left g op j).length op[j] ∧ (kpt T left g op (j + 1)).length = (kpt T left g op j).length + 1 := by
  have e := kpt_next T left g op j h
  have hl := (kpt_le T left g op j).1
  rw [hf, if_neg (by decide)] at e
  unfold rowD
  rw [e]
  refine ⟨?_, by simp⟩
  rw [List.set_append_right _ _ (Nat.le_refl _), Nat.sub_self, List.length_append, List.append_assoc]
  congr 1
  rw [List.drop_eq_getElem_cons (i := (kpt T left g op j).length) (by omega), List.set_cons_zero]
  rfl
/-- The row as it is first. -/
theorem rowD_first {T : List Tk} {left g : Int} {op : List Nat} {r : Nat} (hr : r < op.length) (h : ∀ i ∈ op.take r, fuT left g (tkA T i) = false) (ht : fuT left g (tkA T op[r]) = true) : kpt T left g op (r + 1) = op.take r ∧ rowD T left g op (r + 1) = op := by
  have e : kpt T left g op (r + 1) = op.take r := by
    rw [kpt_next T left g op r hr, ht, if_pos rfl, List.append_nil]
    unfold kpt
    exact List.filter_eq_self.2 fun i hi => by rw [h i hi]; rfl
  refine ⟨e, ?_⟩
  unfold rowD
  rw [e, List.length_take, show min r op.length = r by omega, List.take_append_drop]
theorem kpt_lt {T : List Tk} {left g : Int} {op : List Nat} {r j : Nat} (hr : r < op.length) (ht : fuT left g (tkA T op[r]) = true) (hj : r < j) (hjl : j ≤ op.length) : (kpt T left g op j).length < j := by
  induction j with
  | zero => omega
  | succ j ih =>
    have e := kpt_next T left g op j (by omega)
    rw [e, List.length_append]
    by_cases c : r = j
    · subst c
      rw [ht, if_pos rfl]
      have := (kpt_le T left g op r).1
      simp
      omega
    · have := ih (by omega) (by omega)
      split <;> simp <;> omega

set_option maxRecDepth 10000 in
set_option maxHeartbeats 4000000 in
theorem delete_any {w0 : World} {T : List Tk} {tv : Value} {pb sb : Nat} {ov : Value} {sz : List Int} {lf : Int} {bs bl bg : Nat} {left g : Int} {op : List Nat} (h : FsC w0 T tv pb sb ov sz lf bs bl bg left g op) (w : World) (hs : Sh w0 T tv pb sb ov sz lf w) (hf : Fi pb sb bs bl bg left g w) (ho : OwI w0.heap.size w ov (natI op)) :
    Calls Tryz.prog 93 #[ov, .func (.func 94) #[] #[.pointer (some ⟨bs, 0, none⟩), .pointer (some ⟨bl, 0, none⟩), .pointer (some ⟨bg, 0, none⟩)]] w fun e w' => ∃ u, e = .returned u ∧ Hid (u.ownBlock = ov.ownBlock ∧ OwI w0.heap.size w' u (natI (op.filter fun i => !fuT left g (tkA T i))) ∧ Stj w0 T tv pb sb ov sz lf left g op op.length w' ∧ Fi pb sb bs bl bg left g w') := by
  have HC : Hid (∀ (j : Nat) (hj : j < op.length) (W : World), Stj w0 T tv pb sb ov sz lf left g op j W → Fi pb sb bs bl bg left g W → Calls Tryz.prog 94 #[.int .i64 op[j], .pointer (some ⟨bs, 0, none⟩), .pointer (some ⟨bl, 0, none⟩), .pointer (some ⟨bg, 0, none⟩)] W fun e w' => e = .returned (.bool (fuT left g (tkA T op[j]))) ∧ Hid (Stj w0 T tv pb sb ov sz lf left g op (j + 1) w' ∧ Fi pb sb bs bl bg left g w' ∧ Ex2 sb pb W w')) := fun j hj W h1 h2 => fs_call h j hj W h1 h2
  have eg := fill1_enters
  have HI := index_any h w hs hf ho
  have HB : Hid (ov.ownBlock ≠ some sb ∧ ov.ownBlock ≠ some pb ∧ ov.ownBlock ≠ some bl ∧ ov.ownBlock ≠ some bg ∧ ov.ownBlock ≠ some bs) := ⟨h.ap.1, own_typ ho hs.pbk (by decide), h.ap.2.1, h.ap.2.2, own_typ ho hf.sp (by decide)⟩
  have HO : Hid (OwI w0.heap.size w ov (natI op)) := ho
  have hol : op.length ≤ 1024 := h.hol
  obtain ⟨oa, cap, e, hc, hg⟩ := ho.is
  rw [natI_len] at e hc
  clear h hs hf ho hg
  subst e
  go_enter Tryz.func93, Tryz.ntmps93
  go_wp2_with fail
  refine HI.mono ?_
  rintro e w1 ⟨r, rfl, H1⟩
  clear HI
  by_cases hr : r < op.length
  · rw [if_pos hr]
    have hr1 : ((r : Int) == -1) = false := beq_eq_false_iff_ne.2 (by omega)
    have hr2 := H1.out.2.2.1 hr
    have Hr2 : Hid (∀ j, r < j → j ≤ op.length → (kpt T left g op j).length < j) := fun j h1 h2 => kpt_lt hr hr2 h1 h2
    have Hf := rowD_first hr H1.out.2.1 hr2
    obtain ⟨ob, hob⟩ : ∃ ob, oa = some ⟨ob, 0, none⟩ := by
      obtain ⟨_, _, e, _, h⟩ := row_val HO.out
      obtain ⟨g', e2, _⟩ := h (by rw [natI_len]; omega)
      injection e with e _ _
      exact ⟨g', e.trans e2⟩
    subst hob
    have hlo : Hid (w0.heap.size ≤ ob) := (row_lt HO.out ob rfl).1
    have HN : Hid (ob ≠ sb ∧ ob ≠ pb ∧ ob ≠ bl ∧ ob ≠ bg ∧ ob ≠ bs) := by
      obtain ⟨h1, h2, h3, h4, h5⟩ := HB.out
      refine ⟨fun e => h1 ?_, fun e => h2 ?_, fun e => h3 ?_, fun e => h4 ?_, fun e => h5 ?_⟩ <;> rw [e] <;> rfl
    have H2 : Hid (Stj w0 T tv pb sb (.slice (some ⟨ob, 0, none⟩) op.length cap) sz lf left g op (r + 1) w1 ∧ Fi pb sb bs bl bg left g w1 ∧ w1.ownsRow w0.heap.size 3 1 (.slice (some ⟨ob, 0, none⟩) op.length cap) op.length (flatI (natI (rowD T left g op (r + 1))))) := by
      refine ⟨H1.out.2.2.2.1, H1.out.2.2.2.2.1, ?_⟩
      rw [Hf.2]
      have := HO.out.ex2 H1.out.2.2.2.2.2 HB.out.1 HB.out.2.1
      unfold OwI at this
      rw [natI_len] at this
      exact this
    have hkr : (kpt T left g op (r + 1)).length = r := by rw [Hf.1, List.length_take]; omega
    have HKr : Hid ((kpt T left g op (r + 1)).length = r) := hkr
    clear H1 hr2 Hf HO HB hkr
    go_wp2_with fail
    go_loopw [5, 6, 7] (fun iv jv _ wr => ∃ i j : Nat, iv = .int .i64 i ∧ jv = .int .i64 j ∧ j ≤ op.length ∧ r < j ∧ Hid ((kpt T left g op j).length = i ∧ Stj w0 T tv pb sb (.slice (some ⟨ob, 0, none⟩) op.length cap) sz lf left g op j wr ∧ Fi pb sb bs bl bg left g wr ∧ wr.ownsRow w0.heap.size 3 1 (.slice (some ⟨ob, 0, none⟩) op.length cap) op.length (flatI (natI (rowD T left g op j))))) (fun _ j _ _ => op.length - (intOf j).toNat)
    case atStart => exact ⟨r, r + 1, rfl, by go_num, by omega, by omega, HKr.out, H2.out⟩
    case round =>
      obtain ⟨i, j, rfl, rfl, hj, hrj, HR⟩ := hrel
      clear H2 HKr
      have hij : i < j := by have := Hr2.out j hrj hj; have := HR.out.1; omega
      by_cases hlt : j < op.length
      · have ij : (j : Int) < op.length := by omega
        have ii : (i : Int) < op.length := by omega
        have y0 : wr.cell? ⟨ob, j, none⟩ = some (.int .i64 op[j]) := by
          rw [own_cell HR.out.2.2.2 j (by omega), flatI_at _ _ (by rw [natI_len, rowD_len]; exact hlt), natI_at _ _ (by rw [rowD_len]; exact hlt), rowD_at T left g op j hlt]
        have hcall := HC.out j hlt wr HR.out.2.1 HR.out.2.2.1
        have HRow : Hid (wr.ownsRow w0.heap.size 3 1 (.slice (some ⟨ob, 0, none⟩) op.length cap) op.length (flatI (natI (rowD T left g op j))) ∧ (kpt T left g op j).length = i) := ⟨HR.out.2.2.2, HR.out.1⟩
        have HSk : Hid (fuT left g (tkA T op[j]) = true → rowD T left g op (j + 1) = rowD T left g op j ∧ (kpt T left g op (j + 1)).length = (kpt T left g op j).length) := fun hb => rowD_skip hlt hb
        have HKp : Hid (fuT left g (tkA T op[j]) = false → rowD T left g op (j + 1) = (rowD T left g op j).set (kpt T left g op j).length op[j] ∧ (kpt T left g op (j + 1)).length = (kpt T left g op j).length + 1) := fun hb => rowD_keep hlt hb
        have HE : Hid (∀ W, Ex2 sb pb wr W → W.ownsRow w0.heap.size 3 1 (.slice (some ⟨ob, 0, none⟩) op.length cap) op.length (flatI (natI (rowD T left g op j)))) := fun W hW => by
          have e : (natI (rowD T left g op j)).length = op.length := by rw [natI_len, rowD_len]
          have h1 : OwI w0.heap.size wr (.slice (some ⟨ob, 0, none⟩) op.length cap) (natI (rowD T left g op j)) := by unfold OwI; rw [e]; exact HRow.out.1
          have h2 := h1.ex2 hW (fun e => HN.out.1 (by simpa [Value.ownBlock] using e)) (fun e => HN.out.2.1 (by simpa [Value.ownBlock] using e))
          unfold OwI at h2
          rw [e] at h2
          exact h2
        have HZ : Hid ((fun W : World => W.setCell ⟨ob, i, none⟩ (.int .i64 op[j])) = fun W => W.setCell ⟨ob, i, none⟩ (.int .i64 op[j])) := rfl
        have HK2 : Hid (flatI (natI ((rowD T left g op j).set i op[j])) = (flatI (natI (rowD T left g op j))).set i (.int .i64 op[j])) := by
          unfold Hid natI
          rw [List.map_set, flatI_set]
        clear HR HZ
        generalize hb : fuT left g (tkA T op[j]) = bb at *
        generalize op[j] = z at *
        go_wp2_with fail
        refine hcall.mono ?_
        rintro e w2 ⟨rfl, H3⟩
        have HW := HE.out w2 H3.out.2.2
        clear hcall hb HE
        cases bb
        · have hk := HKp.out rfl
          have c0 : ∃ q, w2.cell? ⟨ob, i, none⟩ = some q := ⟨_, (own_cell HW i (by omega)).trans (flatI_at _ _ (by rw [natI_len, rowD_len]; omega))⟩
          obtain ⟨q, c0⟩ := c0
          have f0 := own_frozen HW i
          have HN2 : Hid ((kpt T left g op (j + 1)).length = i + 1 ∧ Stj w0 T tv pb sb (.slice (some ⟨ob, 0, none⟩) op.length cap) sz lf left g op (j + 1) (w2.setCell ⟨ob, i, none⟩ (.int .i64 z)) ∧ Fi pb sb bs bl bg left g (w2.setCell ⟨ob, i, none⟩ (.int .i64 z)) ∧ (w2.setCell ⟨ob, i, none⟩ (.int .i64 z)).ownsRow w0.heap.size 3 1 (.slice (some ⟨ob, 0, none⟩) op.length cap) op.length (flatI (natI (rowD T left g op (j + 1))))) := by
            obtain ⟨n1, n2, n3, n4, n5⟩ := HN.out
            refine ⟨by rw [hk.2, HRow.out.2], H3.out.1.elsewhere ob i _ n2 n1 hlo.out, H3.out.2.1.elsewhere ob i _ n5 n3 n4, ?_⟩
            rw [hk.1, HRow.out.2, HK2.out]
            exact own_set HW i _
          clear hk H3 HW HKp HSk HRow HK2
          go_wp2
          exact ⟨⟨i + 1, j + 1, by go_num, by go_num, by omega, by omega, HN2⟩, by simp [intOf]; omega⟩
        · have hk := HSk.out rfl
          have HN2 : Hid ((kpt T left g op (j + 1)).length = i ∧ Stj w0 T tv pb sb (.slice (some ⟨ob, 0, none⟩) op.length cap) sz lf left g op (j + 1) w2 ∧ Fi pb sb bs bl bg left g w2 ∧ w2.ownsRow w0.heap.size 3 1 (.slice (some ⟨ob, 0, none⟩) op.length cap) op.length (flatI (natI (rowD T left g op (j + 1))))) := by
            refine ⟨by rw [hk.2, HRow.out.2], H3.out.1, H3.out.2.1, ?_⟩
            rw [hk.1]
            exact HW
          clear hk H3 HW HKp HSk HRow HK2
          go_wp2
          exact ⟨⟨i, j + 1, rfl, by go_num, by omega, by omega, HN2⟩, by simp [intOf]; omega⟩
      · obtain rfl : j = op.length := by omega
        have ij : ¬ ((op.length : Nat) : Int) < op.length := by omega
        have ii : (i : Int) ≤ op.length := by omega
        have ic : i ≤ cap := by omega
        have hcl : ∀ ty, (Builtin.clear_ #[22] ty #[.slice (some ⟨ob, i, none⟩) (op.length - i) (cap - i)]).run Tryz.prog wr = .ok (.tuple #[]) (wr.setCells ob i (List.replicate (op.length - i) (.int .i64 0))) := fun ty =>
          Lib.run_clear_slice wr _ _ ty _ Tryz.underlying22 (fun w => rfl) rfl rfl ob i _ _ (by omega) (fun t ht => by
            rw [own_cell HR.out.2.2.2 (i + t) (by omega), flatI_at _ _ (by rw [natI_len, rowD_len]; omega)]; rfl) (fun t ht => own_frozen HR.out.2.2.2 (i + t))
        have HF : Hid ((Value.slice (some ⟨ob, 0, none⟩) i cap).ownBlock = (Value.slice (some ⟨ob, 0, none⟩) op.length cap).ownBlock ∧ OwI w0.heap.size (wr.setCells ob i (List.replicate (op.length - i) (.int .i64 0))) (.slice (some ⟨ob, 0, none⟩) i cap) (natI (op.filter fun i => !fuT left g (tkA T i))) ∧ Stj w0 T tv pb sb (.slice (some ⟨ob, 0, none⟩) op.length cap) sz lf left g op op.length (wr.setCells ob i (List.replicate (op.length - i) (.int .i64 0))) ∧ Fi pb sb bs bl bg left g (wr.setCells ob i (List.replicate (op.length - i) (.int .i64 0)))) := by
          obtain ⟨n1, n2, n3, n4, n5⟩ := HN.out
          obtain ⟨k1, k2, k3, k4⟩ := HR.out
          refine ⟨rfl, ?_, Sh.row ob n2 n1 hlo.out _ i _ k2, Fi.row ob n5 n3 n4 _ i _ k3⟩
          obtain ⟨ys, o1, o2⟩ := own_row (List.replicate (op.length - i) (.int .i64 0)) i wr _ k4
          have o3 := own_cut o1 (m := i) (by omega)
          have e1 : kpt T left g op op.length = op.filter fun i => !fuT left g (tkA T i) := by unfold kpt; rw [List.take_length]
          unfold OwI
          rw [natI_len, ← e1, k1]
          rw [o2] at o3
          have e2 : (flatI (natI (rowD T left g op op.length))).take i = flatI (natI (kpt T left g op op.length)) := by
            unfold flatI natI rowD
            rw [List.map_append, List.map_append, List.take_append_of_le_length (by simp; omega), List.take_of_length_le (by simp; omega)]
          rw [e2] at o3
          exact o3
        clear HR
        go_wp2
        go_ret
        exact ⟨_, rfl, HF⟩
  · rw [if_neg hr]
    have HF : Hid ((Value.slice oa op.length cap).ownBlock = (Value.slice oa op.length cap).ownBlock ∧ OwI w0.heap.size w1 (.slice oa op.length cap) (natI (op.filter fun i => !fuT left g (tkA T i))) ∧ Stj w0 T tv pb sb (.slice oa op.length cap) sz lf left g op op.length w1 ∧ Fi pb sb bs bl bg left g w1) := by
      obtain ⟨h1, h2, _, h4, h5, h6⟩ := H1.out
      obtain rfl : r = op.length := by omega
      have e : (op.filter fun i => !fuT left g (tkA T i)) = op := List.filter_eq_self.2 fun i hi => by rw [h2 i (by rw [List.take_length]; exact hi)]; rfl
      rw [e]
      refine ⟨rfl, HO.out.ex2 h6 HB.out.1 HB.out.2.1, ?_, h5⟩
      unfold Stj at h4 ⊢
      rw [List.take_of_length_le (Nat.le_succ _)] at h4
      rw [List.take_length]
      exact h4
    clear H1
    go_wp2
    go_ret
    exact ⟨_, rfl, rfl, HF.out.2⟩

end Go.Proofs.YthnhcphkpffkfaaGreat
