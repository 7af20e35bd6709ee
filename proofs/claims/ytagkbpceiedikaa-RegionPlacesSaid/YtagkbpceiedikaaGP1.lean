/-
  The statements' own covered, for RegionPlaces.
-/
import Derived.Test.YtagkbpceiedikaaGX
namespace Go.Proofs.Ytagkbpceiedikaa
open Go.RowKit Go.Sort Go.Shelf

set_option maxRecDepth 10000 in
set_option maxHeartbeats 4000000 in
theorem covered_any (rs : List Rc) (v : Value) (px py : Int) (w : World) (hv : LsR w v rs) (hs : I64s rs) (hl : rs.length ≤ 1000000) :
    Calls Try.prog 38 #[v, .agg #[.int .i64 px, .int .i64 py]] w fun e w' => e = .returned (.bool (hasC rs px py)) ∧ Below w.heap.size w w' := by
  obtain ⟨oa, cap, rfl, hc, hg⟩ := hv
  have HG : Hid (0 < rs.length → ∃ g o, oa = some ⟨g, o, none⟩ ∧ g < w.heap.size ∧ ∀ i (h : i < rs.length), RcAt w g (o + i * 4) rs[i]) := hg
  have HS : Hid (I64s rs) := hs
  have HL : Hid (Below w.heap.size w (w.alloc (.cells #[.int .i64 px, .int .i64 py] 31)) ∧ Bk (w.alloc (.cells #[.int .i64 px, .int .i64 py] 31)) w.heap.size #[.int .i64 px, .int .i64 py] 31) := ⟨(Below.refl _ _).alloc (Nat.le_refl _) _, Bk.new _ _ _⟩
  clear hg hs
  go_enter Try.func38, Try.ntmps38
  go_wp2_with fail
  generalize (w.alloc (.cells #[.int .i64 px, .int .i64 py] 31)) = w0 at *
  obtain ⟨n, Hn⟩ : ∃ n, Hid (n = w.heap.size) := ⟨_, rfl⟩
  have HL2 : Hid (Below n w w0 ∧ Bk w0 n #[.int .i64 px, .int .i64 py] 31) := by rw [Hn.out]; exact HL.out
  rw [← Hn.out]
  clear HL
  go_loopw [5] (fun i wr => ∃ k : Nat, i = .int .i64 k ∧ k ≤ rs.length ∧ Hid (hasC (rs.take k) px py = false ∧ Below n w wr ∧ Bk wr n #[.int .i64 px, .int .i64 py] 31)) (fun i _ => rs.length - (intOf i).toNat)
  case atStart => exact ⟨0, rfl, Nat.zero_le _, rfl, HL2.out⟩
  case round =>
    obtain ⟨k, rfl, hk, HR⟩ := hrel
    clear HL2
    by_cases hlt : k < rs.length
    · have ik : (k : Int) < rs.length := by omega
      obtain ⟨g, o, rfl, hg, hat⟩ := HG.out (by omega)
      have hx := (hat k hlt).kept (w' := wr) fun j => HR.out.2.1.cell (p := ⟨g, j, none⟩) (by rw [Hn.out]; exact hg)
      obtain ⟨y0, y1⟩ := HR.out.2.2.at2
      have hbl := HR.out.2.2.lt
      have hgr : g < wr.heap.size := Nat.lt_of_lt_of_le hg (by have q := HR.out.2.1; rw [Hn.out] at q; exact q.size)
      obtain ⟨i1, i2⟩ := HS.out _ (List.getElem_mem hlt)
      have HH : Hid (∀ W, Calls Try.prog 60 #[.agg #[.int .i64 rs[k].x, .int .i64 rs[k].y, .int .i64 rs[k].w, .int .i64 rs[k].h], .agg #[.int .i64 px, .int .i64 py]] W fun e w' => e = .returned (.bool (hasB rs[k].x rs[k].y rs[k].w rs[k].h px py)) ∧ Below W.heap.size W w') := fun W => has_any _ _ _ _ _ _ W i1 i2
      have HT : Hid (hasC (rs.take (k + 1)) px py = hasB rs[k].x rs[k].y rs[k].w rs[k].h px py ∧ (hasB rs[k].x rs[k].y rs[k].w rs[k].h px py = true → hasC rs px py = true)) := by
        refine ⟨?_, fun h => List.any_eq_true.2 ⟨_, List.getElem_mem hlt, h⟩⟩
        have h0 := HR.out.1
        unfold hasC at h0 ⊢
        rw [(List.take_append_getElem hlt).symm, List.any_append, h0]
        simp
      generalize rs[k] = x at *
      obtain ⟨x0, x1, x2, x3⟩ := hx
      clear hat i1 i2
      cases hq : hasB x.x x.y x.w x.h px py
      · rw [hq] at HH HT
        go_wp2_with fail
        have d0 := fun t : Gw wr => (t.below.cell (p := ⟨g, o + k * 4, none⟩) hgr).trans x0
        have d1 := fun t : Gw wr => (t.below.cell (p := ⟨g, o + k * 4 + 1, none⟩) hgr).trans x1
        have d2 := fun t : Gw wr => (t.below.cell (p := ⟨g, o + k * 4 + 2, none⟩) hgr).trans x2
        have d3 := fun t : Gw wr => (t.below.cell (p := ⟨g, o + k * 4 + 3, none⟩) hgr).trans x3
        have d4 := fun t : Gw wr => (t.below.cell (p := ⟨n, 0, none⟩) hbl).trans y0
        have d5 := fun t : Gw wr => (t.below.cell (p := ⟨n, 1, none⟩) hbl).trans y1
        have hne : Nonempty (Gw wr) := ⟨⟨wr, Below.refl _ _⟩⟩
        clear x0 x1 x2 x3 y0 y1
        refine wp_region_gw (by kernel_rfl) (by kernel_rfl) ?_
        repeat (go_big_quiet_step (first | (go_at_call 60; exact gw_call (HH.out _))))
        refine wpQuiet_nil ?_
        rintro w1 ⟨t, rfl⟩
        have hb := t.below
        clear d0 d1 d2 d3 d4 d5
        have H1 : Hid (hasC (rs.take (k + 1)) px py = false ∧ Below n w t.wd ∧ Bk t.wd n #[.int .i64 px, .int .i64 py] 31) := ⟨HT.out.1, HR.out.2.1.trans (hb.mono (by rw [Hn.out]; have := HR.out.2.1; rw [Hn.out] at this; exact this.size)), HR.out.2.2.below hb⟩
        clear hb HR
        go_wp2
        exact ⟨⟨k + 1, by go_num, by omega, H1.out⟩, by simp [intOf]; omega⟩
      · rw [hq] at HH HT
        go_wp2_with fail
        have d0 := fun t : Gw wr => (t.below.cell (p := ⟨g, o + k * 4, none⟩) hgr).trans x0
        have d1 := fun t : Gw wr => (t.below.cell (p := ⟨g, o + k * 4 + 1, none⟩) hgr).trans x1
        have d2 := fun t : Gw wr => (t.below.cell (p := ⟨g, o + k * 4 + 2, none⟩) hgr).trans x2
        have d3 := fun t : Gw wr => (t.below.cell (p := ⟨g, o + k * 4 + 3, none⟩) hgr).trans x3
        have d4 := fun t : Gw wr => (t.below.cell (p := ⟨n, 0, none⟩) hbl).trans y0
        have d5 := fun t : Gw wr => (t.below.cell (p := ⟨n, 1, none⟩) hbl).trans y1
        have hne : Nonempty (Gw wr) := ⟨⟨wr, Below.refl _ _⟩⟩
        clear x0 x1 x2 x3 y0 y1
        refine wp_region_gw (by kernel_rfl) (by kernel_rfl) ?_
        repeat (go_big_quiet_step (first | (go_at_call 60; exact gw_call (HH.out _))))
        refine wpQuiet_nil ?_
        rintro w1 ⟨t, rfl⟩
        have hb := t.below
        clear d0 d1 d2 d3 d4 d5
        have H1 : Hid (hasC rs px py = true ∧ Below w.heap.size w t.wd) := ⟨HT.out.2 (by first | trivial | rfl), by have := HR.out.2.1; rw [Hn.out] at this; exact bel_tr this hb⟩
        clear hb HR
        go_wp2
        go_ret
        exact ⟨by rw [H1.out.1]; rfl, H1.out.2⟩
    · obtain rfl : k = rs.length := by omega
      have HF : Hid (hasC rs px py = false ∧ Below w.heap.size w wr) := by
        have h := HR.out
        rw [List.take_length] at h
        refine ⟨h.1, ?_⟩
        have q := h.2.1
        rw [Hn.out] at q
        exact q
      clear HR
      go_wp2
      go_ret
      exact ⟨by rw [HF.out.1]; rfl, HF.out.2⟩

end Go.Proofs.Ytagkbpceiedikaa
