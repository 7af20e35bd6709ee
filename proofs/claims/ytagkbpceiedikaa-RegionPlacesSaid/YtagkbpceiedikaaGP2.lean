/-
  The statements' own corners, for RegionPlaces: some points, each of two numbers.
-/
import Derived.Test.YtagkbpceiedikaaGP1
namespace Go.Proofs.Ytagkbpceiedikaa
open Go.RowKit Go.Sort Go.Shelf

theorem info_point : (Try.prog.info? 31).map (fun i => (i.zero, i.size, i.bytes)) = some (some (.agg #[.int .i64 0, .int .i64 0]), 2, 16) := by kernel_rfl
theorem add_at (g j : Nat) : (⟨g, 0, none⟩ : Addr).add j = ⟨g, j, none⟩ := by
  rw [addr_add]; simp
theorem four_at (x0 x1 x2 x3 : Int) (k : Nat) (hk : k < 4) : ∃ z, (#[.int .i64 x0, .int .i64 x1, .int .i64 x2, .int .i64 x3] : Array Value)[k]? = some (.int .i64 z) := by
  match k, hk with
  | 0, _ => exact ⟨_, rfl⟩
  | 1, _ => exact ⟨_, rfl⟩
  | 2, _ => exact ⟨_, rfl⟩
  | 3, _ => exact ⟨_, rfl⟩
/-- A block of another type than a row's lies as it lay, when the row grows. -/
theorem Bk.grownT {W W' : World} {b : Nat} {vs : Array Value} {t : TypeId} (h : Bk W b vs t) {base : Nat} {e : TypeId} {size n : Nat} {u : Value} {xs : List Value} (hr : W.ownsRow base e size u n xs) (he : e ≠ t) (hg : W.grownBy W' u.ownBlock) : Bk W' b vs t := by
  refine h.grown hg ?_
  intro hb
  obtain ⟨_, hr⟩ := hr
  rcases hr with ⟨rfl, _⟩ | ⟨g, cap, cur, rfl, _, hc, _⟩
  · cases hb
  · simp [Value.ownBlock] at hb
    subst hb
    unfold Bk at h
    rw [h] at hc
    injection hc with hc
    injection hc with _ h2
    exact he h2.symm
theorem three_new (wr : World) (o1 : Obj) (X Y : Array Value) (t : TypeId) : Bk (((wr.alloc o1).alloc (.cells X t)).alloc (.cells Y t)) (wr.heap.size + 1) X t ∧ Bk (((wr.alloc o1).alloc (.cells X t)).alloc (.cells Y t)) (wr.heap.size + 1 + 1) Y t := by
  have h1 := Bk.new (wr.alloc o1) X t
  have h2 := Bk.new ((wr.alloc o1).alloc (.cells X t)) Y t
  have e1 : (wr.alloc o1).heap.size = wr.heap.size + 1 := by simp
  have e2 : ((wr.alloc o1).alloc (.cells X t)).heap.size = wr.heap.size + 1 + 1 := by simp
  rw [e2] at h2
  refine ⟨?_, h2⟩
  rw [← e1]
  exact h1.below ((Below.refl _ _).alloc (Nat.le_refl _) _)
theorem cell_bk2 {w : World} {g : Nat} {x y : Value} {t : TypeId} (h : w.heap[g]? = some (.cells #[x, y] t)) : ∀ (j : Nat) (u : Value), [x, y][j]? = some u → w.cell? ((⟨g, 0, none⟩ : Addr).add j) = some u := by
  intro j u hj
  obtain ⟨c, _, _⟩ := heap_cells h
  rw [add_at, c j]
  simpa using hj
/-- The points gathered so far, beside the two rows of numbers. -/
def CnI (w : World) (gx gy : Nat) (X Y : Array Value) (ps : List Sp) (v : Value) (wr : World) : Prop :=
  wr.ownsRow w.heap.size 31 2 v ps.length (flatS ps) ∧ Below w.heap.size w wr ∧ Bk wr gx X 3 ∧ Bk wr gy Y 3

set_option maxRecDepth 10000 in
set_option maxHeartbeats 8000000 in
theorem corners_any (L : List Rc) (v : Value) (w : World) (hv : LsR w v L) (hm : ∀ r ∈ L, mayB r.x r.y r.w r.h = true) (hl : L.length ≤ 20) :
    Calls Try.prog 37 #[v] w fun e w' => ∃ u ps, e = .returned u ∧ ps.length ≤ 320 ∧ w'.ownsRow w.heap.size 31 2 u ps.length (flatS ps) ∧ Below w.heap.size w w' := by
  obtain ⟨oa, cap, rfl, hc, hg⟩ := hv
  have HG : Hid (0 < L.length → ∃ g o, oa = some ⟨g, o, none⟩ ∧ g < w.heap.size ∧ ∀ i (h : i < L.length), RcAt w g (o + i * 4) L[i]) := hg
  have HM : Hid (∀ r ∈ L, mayB r.x r.y r.w r.h = true) := hm
  obtain ⟨i0, hi, hz0, hz1, hz2⟩ := info_parts info_point
  have HI : Hid (Try.prog.info? 31 = some i0 ∧ i0.zero = some (.agg #[.int .i64 0, .int .i64 0]) ∧ i0.size = 2 ∧ i0.bytes = 16) := ⟨hi, hz0, hz1, hz2⟩
  clear hg hm hi hz0 hz1 hz2
  go_enter Try.func37, Try.ntmps37
  go_wp2_with fail
  go_loopw [3, 4] (fun v i wr => ∃ (k : Nat) (ps : List Sp), i = .int .i64 k ∧ k ≤ L.length ∧ ps.length ≤ k * 16 ∧ Hid (wr.ownsRow w.heap.size 31 2 v ps.length (flatS ps) ∧ Below w.heap.size w wr)) (fun _ i _ => L.length - (intOf i).toNat)
  case atStart => exact ⟨0, [], rfl, Nat.zero_le _, Nat.le_refl _, World.ownsRow_nil _ _ _ _, Below.refl _ _⟩
  case round =>
    obtain ⟨k, ps, rfl, hk, hps, HR⟩ := hrel
    by_cases hlt : k < L.length
    · obtain ⟨g, o, rfl, hg, hat⟩ := HG.out (by omega)
      have hx := (hat k hlt).kept (w' := wr) fun j => HR.out.2.cell (p := ⟨g, j, none⟩) hg
      have hbd := may_bd (HM.out _ (List.getElem_mem hlt))
      have hgr : g < wr.heap.size := Nat.lt_of_lt_of_le hg HR.out.2.size
      have ik : (k : Int) < L.length := by omega
      have ik2 : (k : Int) < 20 := by omega
      generalize L[k] = r at *
      obtain ⟨x0, x1, x2, x3⟩ := hx
      clear hat
      have HA : Hid (∀ o1 o2 o3, (((wr.alloc o1).alloc o2).alloc o3).ownsRow w.heap.size 31 2 u3 ps.length (flatS ps) ∧ Below w.heap.size w (((wr.alloc o1).alloc o2).alloc o3)) := fun o1 o2 o3 => by
        have hb : Below wr.heap.size wr (((wr.alloc o1).alloc o2).alloc o3) := (((Below.refl _ wr).alloc (Nat.le_refl _) o1).alloc (by simp) o2).alloc (by simp; omega) o3
        exact ⟨row_below HR.out.1 hb, HR.out.2.trans (hb.mono HR.out.2.size)⟩
      have HL3 : Hid (CnI w (wr.heap.size + 1) (wr.heap.size + 1 + 1) #[.int .i64 (r.x - 1), .int .i64 r.x, .int .i64 (r.x + r.w - 1), .int .i64 (r.x + r.w)] #[.int .i64 (r.y - 1), .int .i64 r.y, .int .i64 (r.y + r.h - 1), .int .i64 (r.y + r.h)] ps u3 (((wr.alloc (.cells #[.int .i64 r.x, .int .i64 r.y, .int .i64 r.w, .int .i64 r.h] 35)).alloc (.cells #[.int .i64 (r.x - 1), .int .i64 r.x, .int .i64 (r.x + r.w - 1), .int .i64 (r.x + r.w)] 3)).alloc (.cells #[.int .i64 (r.y - 1), .int .i64 r.y, .int .i64 (r.y + r.h - 1), .int .i64 (r.y + r.h)] 3))) :=
        ⟨(HA.out _ _ _).1, (HA.out _ _ _).2, (three_new _ _ _ _ _).1, (three_new _ _ _ _ _).2⟩
      clear HR HA
      go_wp2_with fail
      generalize (((wr.alloc (.cells #[.int .i64 r.x, .int .i64 r.y, .int .i64 r.w, .int .i64 r.h] 35)).alloc (.cells #[.int .i64 (r.x - 1), .int .i64 r.x, .int .i64 (r.x + r.w - 1), .int .i64 (r.x + r.w)] 3)).alloc (.cells #[.int .i64 (r.y - 1), .int .i64 r.y, .int .i64 (r.y + r.h - 1), .int .i64 (r.y + r.h)] 3)) = W3 at *
      generalize r.x - 1 = xa at *
      generalize r.x + r.w - 1 = xc at *
      generalize r.x + r.w = xd at *
      generalize r.y - 1 = ya at *
      generalize r.y + r.h - 1 = yc at *
      generalize r.y + r.h = yd at *
      obtain ⟨gy, hgy⟩ : ∃ gy, gy = wr.heap.size + 1 + 1 := ⟨_, rfl⟩
      rw [← hgy] at HL3 ⊢
      clear hgy
      obtain ⟨gx, hgx⟩ : ∃ gx, gx = wr.heap.size + 1 := ⟨_, rfl⟩
      rw [← hgx] at HL3 ⊢
      clear hgx x0 x1 x2 x3 hbd
      obtain ⟨X, hX⟩ : ∃ X : Array Value, X = #[.int .i64 xa, .int .i64 r.x, .int .i64 xc, .int .i64 xd] := ⟨_, rfl⟩
      obtain ⟨Y, hY⟩ : ∃ Y : Array Value, Y = #[.int .i64 ya, .int .i64 r.y, .int .i64 yc, .int .i64 yd] := ⟨_, rfl⟩
      have HX : Hid (∀ k, k < 4 → ∃ z, X[k]? = some (.int .i64 z)) := fun k hk => by rw [hX]; exact four_at _ _ _ _ k hk
      have HY : Hid (∀ k, k < 4 → ∃ z, Y[k]? = some (.int .i64 z)) := fun k hk => by rw [hY]; exact four_at _ _ _ _ k hk
      rw [← hX, ← hY] at HL3
      clear hX hY
      go_loopw [3, 8] (fun v i wr => ∃ (m : Nat) (qs : List Sp), i = .int .i64 m ∧ m ≤ 4 ∧ qs.length ≤ k * 16 + m * 4 ∧ Hid (CnI w gx gy X Y qs v wr)) (fun _ i _ => 4 - (intOf i).toNat)
      case atStart => exact ⟨0, ps, rfl, by omega, by omega, HL3⟩
      case round =>
        obtain ⟨m, qs, rfl, hm, hqs, HQ⟩ := hrel
        by_cases hm4 : m < 4
        · have im : (m : Int) < 4 := by omega
          go_wp2_with fail
          go_loopw [3, 9] (fun v i wr => ∃ (j : Nat) (ts : List Sp), i = .int .i64 j ∧ j ≤ 4 ∧ ts.length ≤ k * 16 + m * 4 + j ∧ Hid (CnI w gx gy X Y ts v wr)) (fun _ i _ => 4 - (intOf i).toNat)
          case atStart => exact ⟨0, qs, rfl, by omega, by omega, HQ⟩
          case round =>
            obtain ⟨j, ts, rfl, hj, hts, HT⟩ := hrel
            by_cases hj4 : j < 4
            · have ij : (j : Int) < 4 := by omega
              obtain ⟨zx, ezx⟩ := HX.out m hm4
              obtain ⟨zy, ezy⟩ := HY.out j hj4
              obtain ⟨ot, ct, hvt, _, _⟩ := row_val HT.out.1
              subst hvt
              have cx : wr.cell? ⟨gx, m, none⟩ = some (.int .i64 zx) := by rw [HT.out.2.2.1.cell]; exact ezx
              have cy : wr.cell? ⟨gy, j, none⟩ = some (.int .i64 zy) := by rw [HT.out.2.2.2.cell]; exact ezy
              have lx : gx < wr.heap.size := HT.out.2.2.1.lt
              have ly : gy < wr.heap.size := HT.out.2.2.2.lt
              clear ezx ezy
              go_wp2_with fail
              refine R4.wp_region_lit 10 1 2 (fun _ b => .slice (some ⟨b, 0, none⟩) 1 1) (fun _ => .cells #[.int .i64 zx, .int .i64 zy] 31) [88] (by kernel_rfl) (by kernel_rfl) rfl ?_ rfl ?_
              · intro k hk
                have hc : k = 0 := by omega
                subst hc; rfl
              apply Exists.intro
              refine ⟨fun bs ne => ?_, ?_, ?_⟩
              · have d0 := fun t : Gb wr bs => (t.below.cell (p := ⟨gx, m, none⟩) lx).trans cx
                have d1 := fun t : Gb wr bs => (t.below.cell (p := ⟨gy, j, none⟩) ly).trans cy
                simp only [List.take_succ_cons, List.take_zero]
                repeat (go_big_quiet_step (fail))
                exact wpQuiet_nil rfl
              · intro i h1 h2
                have hc : i = 10 := by omega
                subst hc
                exact ⟨_, rfl, rfl, fun _ => by kernel_rfl⟩
              intro bl wx hbl hlo _
              obtain ⟨q1, q2⟩ := hlo 10 (by omega) (by omega)
              simp only [R4.layL]
              generalize bl 10 = g0 at *
              clear hlo cx cy lx ly
              have o5 := row_below HT.out.1 hbl
              have b5 := HT.out.2.1.trans (hbl.mono HT.out.2.1.size)
              have bx5 := HT.out.2.2.1.below hbl
              have by5 := HT.out.2.2.2.below hbl
              obtain ⟨hi, hz0, hz1, hz2⟩ := HI.out
              refine wpAny_one 11 (by kernel_rfl) rfl ?_
              intro K hK
              refine step_append_lies wx (by rfl) _ _ 50 (by rfl) w.heap.size 31 i0 (.agg #[.int .i64 0, .int .i64 0]) 2 16 Try.underlying50 hi hz0 hz1 hz2 rfl (by decide) (.slice ot ts.length ct) ts.length (flatS ts) (by rfl) o5 ⟨g0, 0, none⟩ 1 1 [.int .i64 zx, .int .i64 zy] (by rfl) rfl (cell_bk2 q2) (one2 _ _) (by decide) (by unfold maxLen; omega) (by omega) b5.size wx.heap.size rfl ?_
              intro h0 cap0 X1 hown hgrow _ _
              have HRel : Hid (∃ (j' : Nat) (ts' : List Sp), Value.int .i64 ((j : Int) + 1) = .int .i64 j' ∧ j' ≤ 4 ∧ ts'.length ≤ k * 16 + m * 4 + j' ∧ Hid (CnI w gx gy X Y ts' (.slice (some ⟨h0, 0, none⟩) (ts.length + 1) cap0) X1)) := by
                refine ⟨j + 1, ts ++ [(zx, zy)], by go_num, by omega, by simp; omega, ?_, app_below b5 o5 (Nat.le_refl _) hgrow, bx5.grownT o5 (by decide) hgrow, by5.grownT o5 (by decide) hgrow⟩
                rw [flatS_app, List.length_append]
                exact hown
              clear hown hgrow o5 b5 q1 q2 hbl hi hz0 hz1 hz2 bx5 by5
              refine hK _ _ ?_
              clear hK K
              refine wpAny_one 12 (by kernel_rfl) rfl ?_
              intro K hK
              go_simp
              refine hK _ _ ?_
              clear hK K
              refine wpAny_done (by kernel_rfl) ?_ _
              go_wp2
              go_roundw
              case rel => exact HRel.out
              case measure => simp [intOf]; omega
            · obtain rfl : j = 4 := by omega
              go_wp2
              go_roundw
              case rel => exact ⟨m + 1, ts, by go_num, by omega, by omega, HT⟩
              case measure => simp [intOf]; omega
        · obtain rfl : m = 4 := by omega
          have H2 : Hid (wr.ownsRow w.heap.size 31 2 u3 qs.length (flatS qs) ∧ Below w.heap.size w wr) := ⟨HQ.out.1, HQ.out.2.1⟩
          go_wp2
          go_roundw
          case rel => exact ⟨k + 1, qs, by go_num, by omega, by omega, H2⟩
          case measure => simp [intOf]; omega
    · obtain rfl : k = L.length := by omega
      have HF : Hid (ps.length ≤ 320 ∧ wr.ownsRow w.heap.size 31 2 u3 ps.length (flatS ps) ∧ Below w.heap.size w wr) := ⟨by omega, HR.out⟩
      clear HR
      go_wp2
      go_ret
      exact ⟨_, ps, rfl, HF.out⟩

end Go.Proofs.Ytagkbpceiedikaa
