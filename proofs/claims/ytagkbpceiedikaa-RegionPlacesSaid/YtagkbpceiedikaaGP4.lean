/-
  The walk of the statement RegionPlaces, where all goes well.
-/
import Derived.Test.YtagkbpceiedikaaGP3
namespace Go.Proofs.Ytagkbpceiedikaa
open Go.RowKit Go.Shelf

theorem len_le' {n m : Nat} (h : n ≤ 32) (h2 : m ≤ n * n) : m ≤ 1024 := Nat.le_trans h2 (Nat.mul_le_mul h h)

/-- A row behind a row. -/
theorem app_row {P : Program} {w : World} {ops : Array Oper} {rest : List Oper} {o : Oper} {a : Act} {Q : Exit → Act → World → Prop} (hgd : o.guard = none) (s x : Operand) (t : TypeId)
    (ho : o.op = .call { callee := .builtin .append, args := #[s, x], argTypes := #[t, t] })
    (base : Nat) (e : TypeId) (i : TypeInfo) (z : Value) (size bytes : Nat) (ht : P.underlying t = some (.slice e)) (hi : P.info? e = some i) (hz : i.zero = some z)
    (hsize : i.size = size) (hby : i.bytes = bytes) (hzs : z.cells.size = size) (hsz : 0 < size)
    (v : Value) (n : Nat) (xs : List Value) (hs : a.eval s = v) (hown : w.ownsRow base e size v n xs)
    (base2 : Nat) (u : Value) (m : Nat) (ys : List Value) (hx : a.eval x = u) (hsrc : w.ownsRow base2 e size u m ys) (h1 : ∀ u ∈ ys, u.oneCell' = true)
    (h63 : n + m ≤ maxLen) (hbytes : (n + m) * bytes ≤ 140737488355328) (hbase : base ≤ w.heap.size) (w0 : World) (hb : Below w0.heap.size w0 w) (hB : w0.heap.size ≤ base)
    (h : ∀ v' w', Hid (w'.ownsRow base e size v' (n + m) (xs ++ ys)) → Hid (Below w0.heap.size w0 w') → wpList P ops Q rest (a.put o.dst v') w') : wpList P ops Q (o :: rest) a w := by
  obtain ⟨hl, ⟨rfl, rfl⟩ | ⟨g, cap, cur, rfl, _⟩⟩ := id hsrc
  · obtain rfl : ys = [] := List.length_eq_zero_iff.1 (by omega)
    refine app_none hgd s x t ho base e i size ht hi v n xs hs hown hx ?_
    rintro _ _ rfl rfl
    exact h _ _ (show World.ownsRow _ _ _ _ _ _ _ by simpa using hown) hb
  · refine wpList_append_own _ hgd s x t ho base e i z size bytes ht hi hz hsize hby hzs hsz v n xs hs hown ⟨g, 0, none⟩ m cap ys hx hl ?_ h1 h63 hbytes hbase ?_
    · intro j q hj
      have hlt := (List.getElem?_eq_some_iff.1 hj).1
      rw [add_at, own_cell hsrc j (by omega)]
      exact hj
    · intro v' w' h2 h3 _
      exact h v' w' h2 (app_below hb hown hB h3)

set_option maxRecDepth 20000 in
set_option maxHeartbeats 40000000 in
theorem places_ok (a b : List Rc) (va vb : Value) (px py : Int) (w : World) (ha : Lsx w va a) (hb : Lsx w vb b) (la : a.length ≤ 16) (lb : b.length ≤ 16) :
    Calls Try.prog 6 #[va, vb, .agg #[.int .i64 px, .int .i64 py]] w fun e w' => e = .returned (.bool true) ∧ Below w.heap.size w w' := by
  have nJ : (formF false (a ++ b) []).length ≤ 1024 := len_le' (n := (a ++ b).length + ([] : List Rc).length) (by simp; omega) (form_count _ _ _)
  have nM : (formF true a b).length ≤ 1024 := len_le' (n := a.length + b.length) (by omega) (form_count _ _ _)
  have nL : (formF false a b).length ≤ 1024 := len_le' (n := a.length + b.length) (by omega) (form_count _ _ _)
  have nO : (formF false a []).length ≤ 1024 := len_le' (n := a.length + ([] : List Rc).length) (by simp; omega) (form_count _ _ _)
  have cJ := chk_form _ _ _ nJ
  have cM := chk_form _ _ _ nM
  have cL := chk_form _ _ _ nL
  have cO := chk_form _ _ _ nO
  have HJ : Hid (∀ W, Lsx W va a → Lsx W vb b → Calls Try.prog 12 #[va, vb] W fun e w' => ∃ u, e = .returned (.tuple #[u, .int .i64 0]) ∧ Lsx w' u (formF false (a ++ b) []) ∧ Below W.heap.size W w') := fun W h1 h2 => join_ok h1 h2 rfl nJ
  have HM : Hid (∀ W, Lsx W va a → Lsx W vb b → Calls Try.prog 21 #[va, vb] W fun e w' => ∃ u, e = .returned (.tuple #[u, .int .i64 0]) ∧ Lsx w' u (formF true a b) ∧ Below W.heap.size W w') := fun W h1 h2 => meet_ok h1 h2 rfl nM
  have HL : Hid (∀ W, Lsx W va a → Lsx W vb b → Calls Try.prog 22 #[va, vb] W fun e w' => ∃ u, e = .returned (.tuple #[u, .int .i64 0]) ∧ Lsx w' u (formF false a b) ∧ Below W.heap.size W w') := fun W h1 h2 => less_ok h1 h2 rfl nL
  have HO : Hid (∀ W, Lsx W va a → Calls Try.prog 11 #[va] W fun e w' => ∃ u, e = .returned (.tuple #[u, .int .i64 0]) ∧ Lsx w' u (formF false a []) ∧ Below W.heap.size W w') := fun W h1 => of_ok h1 rfl nO
  have HCov : Hid (∀ x y, hasC (formF false (a ++ b) []) x y = (hasC a x y || hasC b x y) ∧ hasC (formF true a b) x y = (hasC a x y && hasC b x y) ∧ hasC (formF false a b) x y = (hasC a x y && !hasC b x y) ∧ hasC (formF false a []) x y = hasC a x y) := fun x y => ⟨pl_join a b x y, pl_meet2 a b x y, pl_less a b x y, pl_of a x y⟩
  have HCk : Hid (∀ v F W, Lsx W v F → chkE F = 0 → Calls Try.prog 13 #[v] W fun e w' => e = .returned (.int .i64 0) ∧ Below W.heap.size W w') := fun v F W h e => check_ok h e
  have HZ : Hid (chkE (formF false (a ++ b) []) = 0 ∧ chkE (formF true a b) = 0 ∧ chkE (formF false a b) = 0 ∧ chkE (formF false a []) = 0) := ⟨cJ, cM, cL, cO⟩
  clear cJ cM cL cO nJ nM nL nO
  generalize formF false (a ++ b) [] = J at *
  generalize formF true a b = M at *
  generalize formF false a b = L at *
  generalize formF false a [] = O at *
  have H0 : Hid (Lsx (w.alloc (.cells #[.int .i64 px, .int .i64 py] 31)) va a ∧ Lsx (w.alloc (.cells #[.int .i64 px, .int .i64 py] 31)) vb b ∧ Below w.heap.size w (w.alloc (.cells #[.int .i64 px, .int .i64 py] 31)) ∧ Bk (w.alloc (.cells #[.int .i64 px, .int .i64 py] 31)) w.heap.size #[.int .i64 px, .int .i64 py] 31) := by
    have q : Below w.heap.size w (w.alloc (.cells #[.int .i64 px, .int .i64 py] 31)) := (Below.refl _ _).alloc (Nat.le_refl _) _
    exact ⟨ha.below q, hb.below q, q, Bk.new _ _ _⟩
  obtain ⟨oa, ca, rfl, _, _⟩ := id ha.1
  obtain ⟨ob, cb, rfl, _, _⟩ := id hb.1
  have qa : ¬ (16 : Int) < a.length := by omega
  have qb : ¬ (16 : Int) < b.length := by omega
  obtain ⟨i0, hi, hz0, hz1, hz2⟩ := info_parts info_point
  have HI : Hid (Try.prog.info? 31 = some i0 ∧ i0.zero = some (.agg #[.int .i64 0, .int .i64 0]) ∧ i0.size = 2 ∧ i0.bytes = 16) := ⟨hi, hz0, hz1, hz2⟩
  clear ha hb hi hz0 hz1 hz2
  go_enter Try.func6, Try.ntmps6
  go_wp2_with fail
  refine (alive_any _).mono ?_
  rintro e w1 ⟨rfl, hb1⟩
  have H1 : Hid (Lsx w1 (.slice oa a.length ca) a ∧ Lsx w1 (.slice ob b.length cb) b ∧ Below w.heap.size w w1 ∧ Bk w1 w.heap.size #[.int .i64 px, .int .i64 py] 31) := ⟨H0.out.1.below hb1, H0.out.2.1.below hb1, H0.out.2.2.1.trans (hb1.mono H0.out.2.2.1.size), H0.out.2.2.2.below hb1⟩
  clear hb1 H0
  go_wp2_with fail
  refine (HJ.out _ H1.out.1 H1.out.2.1).mono ?_
  rintro e w2 ⟨vj, rfl, hj2, hb2⟩
  have H2 : Hid (Lsx w2 (.slice oa a.length ca) a ∧ Lsx w2 (.slice ob b.length cb) b ∧ Below w.heap.size w w2 ∧ Bk w2 w.heap.size #[.int .i64 px, .int .i64 py] 31 ∧ Lsx w2 vj J) := ⟨H1.out.1.below hb2, H1.out.2.1.below hb2, H1.out.2.2.1.trans (hb2.mono H1.out.2.2.1.size), H1.out.2.2.2.below hb2, hj2⟩
  clear hb2 hj2 H1
  go_wp2_with fail
  refine (HM.out _ H2.out.1 H2.out.2.1).mono ?_
  rintro e w3 ⟨vm, rfl, hm3, hb3⟩
  have H3 : Hid (Lsx w3 (.slice oa a.length ca) a ∧ Lsx w3 (.slice ob b.length cb) b ∧ Below w.heap.size w w3 ∧ Bk w3 w.heap.size #[.int .i64 px, .int .i64 py] 31 ∧ Lsx w3 vj J ∧ Lsx w3 vm M) := ⟨H2.out.1.below hb3, H2.out.2.1.below hb3, H2.out.2.2.1.trans (hb3.mono H2.out.2.2.1.size), H2.out.2.2.2.1.below hb3, H2.out.2.2.2.2.below hb3, hm3⟩
  clear hb3 hm3 H2
  go_wp2_with fail
  refine (HL.out _ H3.out.1 H3.out.2.1).mono ?_
  rintro e w4 ⟨vl, rfl, hl4, hb4⟩
  have H4 : Hid (Lsx w4 (.slice oa a.length ca) a ∧ Lsx w4 (.slice ob b.length cb) b ∧ Below w.heap.size w w4 ∧ Bk w4 w.heap.size #[.int .i64 px, .int .i64 py] 31 ∧ Lsx w4 vj J ∧ Lsx w4 vm M ∧ Lsx w4 vl L) := ⟨H3.out.1.below hb4, H3.out.2.1.below hb4, H3.out.2.2.1.trans (hb4.mono H3.out.2.2.1.size), H3.out.2.2.2.1.below hb4, H3.out.2.2.2.2.1.below hb4, H3.out.2.2.2.2.2.below hb4, hl4⟩
  clear hb4 hl4 H3
  go_wp2_with fail
  refine (HO.out _ H4.out.1).mono ?_
  rintro e w5 ⟨vo, rfl, ho5, hb5⟩
  have H5 : Hid (Pl a b J M L O (.slice oa a.length ca) (.slice ob b.length cb) vj vm vl vo w5 ∧ Below w.heap.size w w5 ∧ Bk w5 w.heap.size #[.int .i64 px, .int .i64 py] 31) := ⟨⟨H4.out.1.below hb5, H4.out.2.1.below hb5, H4.out.2.2.2.2.1.below hb5, H4.out.2.2.2.2.2.1.below hb5, H4.out.2.2.2.2.2.2.below hb5, ho5⟩, H4.out.2.2.1.trans (hb5.mono H4.out.2.2.1.size), H4.out.2.2.2.1.below hb5⟩
  clear hb5 ho5 H4 HJ HM HL HO
  go_wp2_with fail
  refine (HCk.out _ _ _ H5.out.1.j HZ.out.1).mono ?_
  rintro e w6 ⟨rfl, hb6⟩
  have H6 : Hid (Pl a b J M L O (.slice oa a.length ca) (.slice ob b.length cb) vj vm vl vo w6 ∧ Below w.heap.size w w6 ∧ Bk w6 w.heap.size #[.int .i64 px, .int .i64 py] 31) := ⟨H5.out.1.below hb6, H5.out.2.1.trans (hb6.mono H5.out.2.1.size), H5.out.2.2.below hb6⟩
  clear hb6 H5
  go_wp2_with fail
  refine (HCk.out _ _ _ H6.out.1.m HZ.out.2.1).mono ?_
  rintro e w7 ⟨rfl, hb7⟩
  have H7 : Hid (Pl a b J M L O (.slice oa a.length ca) (.slice ob b.length cb) vj vm vl vo w7 ∧ Below w.heap.size w w7 ∧ Bk w7 w.heap.size #[.int .i64 px, .int .i64 py] 31) := ⟨H6.out.1.below hb7, H6.out.2.1.trans (hb7.mono H6.out.2.1.size), H6.out.2.2.below hb7⟩
  clear hb7 H6
  go_wp2_with fail
  refine (HCk.out _ _ _ H7.out.1.l HZ.out.2.2.1).mono ?_
  rintro e w8 ⟨rfl, hb8⟩
  have H8 : Hid (Pl a b J M L O (.slice oa a.length ca) (.slice ob b.length cb) vj vm vl vo w8 ∧ Below w.heap.size w w8 ∧ Bk w8 w.heap.size #[.int .i64 px, .int .i64 py] 31) := ⟨H7.out.1.below hb8, H7.out.2.1.trans (hb8.mono H7.out.2.1.size), H7.out.2.2.below hb8⟩
  clear hb8 H7
  go_wp2_with fail
  refine (HCk.out _ _ _ H8.out.1.o HZ.out.2.2.2).mono ?_
  rintro e w9 ⟨rfl, hb9⟩
  have H9 : Hid (Pl a b J M L O (.slice oa a.length ca) (.slice ob b.length cb) vj vm vl vo w9 ∧ Below w.heap.size w w9 ∧ Bk w9 w.heap.size #[.int .i64 px, .int .i64 py] 31) := ⟨H8.out.1.below hb9, H8.out.2.1.trans (hb9.mono H8.out.2.1.size), H8.out.2.2.below hb9⟩
  clear hb9 H8 HCk HZ
  go_wp2_with fail
  refine (corn_ok H9.out.1.a la).mono ?_
  rintro e w10 ⟨u1, ps1, rfl, hl1, ho1, hb10⟩
  have H10 : Hid (Below w9.heap.size w9 w10 ∧ w10.ownsRow w9.heap.size 31 2 u1 ps1.length (flatS ps1)) := ⟨hb10, ho1⟩
  clear hb10 ho1
  go_wp2_with fail
  refine (corn_ok (H9.out.1.below H10.out.1).b lb).mono ?_
  rintro e w11 ⟨u2, ps2, rfl, hl2, ho2, hb11⟩
  have H11 : Hid (Below w9.heap.size w9 w11 ∧ w11.ownsRow w9.heap.size 31 2 u1 ps1.length (flatS ps1)) := ⟨H10.out.1.trans (hb11.mono H10.out.1.size), row_below H10.out.2 hb11⟩
  have H12 : Hid (w11.ownsRow w10.heap.size 31 2 u2 ps2.length (flatS ps2)) := ho2
  clear hb11 ho2 H10
  obtain ⟨hi, hz0, hz1, hz2⟩ := HI.out
  have hc3 : Hid (ps1.length + ps2.length ≤ maxLen) := by unfold Hid maxLen; omega
  have hc4 : Hid ((ps1.length + ps2.length) * 16 ≤ 140737488355328) := by unfold Hid; omega
  go_wp2_with (at_builtin; refine app_row rfl _ _ 50 rfl w9.heap.size 31 i0 (.agg #[.int .i64 0, .int .i64 0]) 2 16 Try.underlying50 hi hz0 hz1 hz2 rfl (by decide) u1 ps1.length (flatS ps1) rfl H11.out.2 w10.heap.size u2 ps2.length (flatS ps2) rfl H12.out (ones_S _) hc3.out hc4.out H11.out.1.size w9 H11.out.1 (Nat.le_refl _) ?_)
  intro v3 w12 hr3 hB3
  have H13 : Hid (w12.ownsRow w9.heap.size 31 2 v3 (ps1 ++ ps2).length (flatS (ps1 ++ ps2)) ∧ Below w9.heap.size w9 w12 ∧ (ps1 ++ ps2).length ≤ 640) := ⟨by rw [flatS_app, List.length_append]; exact hr3.out, hB3.out, by simp; omega⟩
  have HBx : Hid (Bk w12 w.heap.size #[.int .i64 px, .int .i64 py] 31) := H9.out.2.2.below hB3.out
  clear hr3 hB3 hc3 hc4 H11 H12 hl1 hl2
  generalize ps1 ++ ps2 = ps at *
  obtain ⟨y0, y1⟩ := HBx.out.at2
  have hc3 : Hid (ps.length + 1 ≤ maxLen) := by have := H13.out.2.2; unfold Hid maxLen; omega
  have hc4 : Hid ((ps.length + 1) * 16 ≤ 140737488355328) := by have := H13.out.2.2; unfold Hid; omega
  have HA : Hid (∀ o, (w12.alloc o).ownsRow w9.heap.size 31 2 v3 ps.length (flatS ps) ∧ Below w9.heap.size w9 (w12.alloc o)) := fun o => ⟨row_below H13.out.1 ((Below.refl _ _).alloc (Nat.le_refl _) _), H13.out.2.1.alloc H13.out.2.1.size _⟩
  go_wp2_with (at_builtin; refine wpList_append_own _ rfl _ _ 50 rfl w9.heap.size 31 i0 (.agg #[.int .i64 0, .int .i64 0]) 2 16 Try.underlying50 hi hz0 hz1 hz2 rfl (by decide) v3 ps.length (flatS ps) rfl (HA.out _).1 _ 1 1 [.int .i64 px, .int .i64 py] rfl rfl (cell_two _ _ _ _) (one2 _ _) hc3.out hc4.out (HA.out _).2.size ?_)
  intro v4 w13 hown4 hgrow4 _
  have hb13 := app_below (HA.out _).2 (HA.out _).1 (Nat.le_refl _) hgrow4
  have hown5 : w13.ownsRow w9.heap.size 31 2 v4 (ps ++ [(px, py)]).length (flatS (ps ++ [(px, py)])) := by rw [flatS_app, List.length_append]; exact hown4
  have hpl : (ps ++ [(px, py)]).length ≤ 641 := by have := H13.out.2.2; simp; omega
  clear hown4 hgrow4 hi hz0 hz1 hz2 hc3 hc4 HA H13 HBx y0 y1
  have hpp : 0 < (ps ++ [(px, py)]).length := by simp
  generalize ps ++ [(px, py)] = qs at *
  obtain ⟨oat, cat, rfl, hcat, hgat⟩ := row_val hown5
  obtain ⟨ga, rfl, hga1, hga2⟩ := hgat hpp
  have H14 : Hid (Below w9.heap.size w9 w13 ∧ (∀ k (h : k < qs.length), w13.cell? ⟨ga, k * 2, none⟩ = some (.int .i64 qs[k].1) ∧ w13.cell? ⟨ga, k * 2 + 1, none⟩ = some (.int .i64 qs[k].2)) ∧ ga < w13.heap.size) := by
    refine ⟨hb13, fun k hk => ?_, hga2⟩
    have q := flatS_at qs k hk
    rw [own_cell hown5 (k * 2) (by omega), own_cell hown5 (k * 2 + 1) (by omega)]
    exact q
  clear hb13 hown5 hgat hpp hga1 hga2
  go_wp2_with fail
  go_loopw [17] (fun i wr => ∃ k : Nat, i = .int .i64 k ∧ k ≤ qs.length ∧ Hid (Below w13.heap.size w13 wr)) (fun i _ => qs.length - (intOf i).toNat)
  case atStart => exact ⟨0, rfl, Nat.zero_le _, Below.refl _ _⟩
  case round =>
    obtain ⟨k, rfl, hk, HR⟩ := hrel
    by_cases hlt : k < qs.length
    · have ik : (k : Int) < qs.length := by omega
      have HX : Hid (∀ W, Below w13.heap.size w13 W → W.cell? ⟨ga, k * 2, none⟩ = some (.int .i64 qs[k].1) ∧ W.cell? ⟨ga, k * 2 + 1, none⟩ = some (.int .i64 qs[k].2)) := fun W h => ⟨(h.cell (p := ⟨ga, k * 2, none⟩) H14.out.2.2).trans (H14.out.2.1 k hlt).1, (h.cell (p := ⟨ga, k * 2 + 1, none⟩) H14.out.2.2).trans (H14.out.2.1 k hlt).2⟩
      generalize qs[k] = q at *
      obtain ⟨x, y⟩ := q
      have HX2 : Hid (∀ W, Below w13.heap.size w13 W → W.cell? ⟨ga, k * 2, none⟩ = some (.int .i64 x) ∧ W.cell? ⟨ga, k * 2 + 1, none⟩ = some (.int .i64 y)) := HX.out
      clear HX
      have HW : Hid (∀ W, Below w13.heap.size w13 W → Pl a b J M L O (.slice oa a.length ca) (.slice ob b.length cb) vj vm vl vo W) := fun W h => H9.out.1.below (H14.out.1.trans (h.mono H14.out.1.size))
      have HQ := HCov.out x y
      have HS : Hid (∀ W, Below w13.heap.size w13 W → Calls Try.prog 29 #[.slice oa a.length ca, .agg #[.int .i64 x, .int .i64 y]] W fun e w' => e = .returned (.tuple #[.bool (hasC a x y), .int .i64 0]) ∧ Below W.heap.size W w') := fun W h => has_ok (HW.out W h).a x y
      have HN : Hid (∀ v l (B : Bool) W, Lsx W v l → hasC l x y = B → Calls Try.prog 38 #[v, .agg #[.int .i64 x, .int .i64 y]] W fun e w' => e = .returned (.bool B) ∧ Below W.heap.size W w') := fun v l B W h e => cov_ok h x y B e
      obtain ⟨one, h1⟩ : ∃ one, hasC a x y = one := ⟨_, rfl⟩
      obtain ⟨two, h2⟩ : ∃ two, hasC b x y = two := ⟨_, rfl⟩
      rw [h1, h2] at HQ
      rw [h1] at HS
      have HE : Hid (hasC a x y = one ∧ hasC b x y = two ∧ hasC J x y = (one || two) ∧ hasC M x y = (one && two) ∧ hasC L x y = (one && !two) ∧ hasC O x y = one) := ⟨h1, h2, HQ⟩
      clear HQ h1 h2
      cases one <;> cases two
      all_goals
        obtain ⟨c0, c1⟩ := HX2.out _ HR.out
        go_wp2_with fail
        refine (HN.out _ _ _ _ (HW.out _ HR.out).a HE.out.1).mono ?_
        rintro e v21 ⟨rfl, hb⟩
        have HR21 : Hid (Below w13.heap.size w13 v21) := HR.out.trans (hb.mono HR.out.size)
        clear hb c0 c1
        obtain ⟨c0, c1⟩ := HX2.out _ HR21.out
        go_wp2_with fail
        refine (HN.out _ _ _ _ (HW.out _ HR21.out).b HE.out.2.1).mono ?_
        rintro e v22 ⟨rfl, hb⟩
        have HR22 : Hid (Below w13.heap.size w13 v22) := HR21.out.trans (hb.mono HR21.out.size)
        clear hb c0 c1
        obtain ⟨c0, c1⟩ := HX2.out _ HR22.out
        go_wp2_with fail
        refine (HN.out _ _ _ _ (HW.out _ HR22.out).j HE.out.2.2.1).mono ?_
        rintro e v23 ⟨rfl, hb⟩
        have HR23 : Hid (Below w13.heap.size w13 v23) := HR22.out.trans (hb.mono HR22.out.size)
        clear hb c0 c1
        obtain ⟨c0, c1⟩ := HX2.out _ HR23.out
        go_wp2_with fail
        refine (HN.out _ _ _ _ (HW.out _ HR23.out).m HE.out.2.2.2.1).mono ?_
        rintro e v24 ⟨rfl, hb⟩
        have HR24 : Hid (Below w13.heap.size w13 v24) := HR23.out.trans (hb.mono HR23.out.size)
        clear hb c0 c1
        obtain ⟨c0, c1⟩ := HX2.out _ HR24.out
        go_wp2_with fail
        refine (HN.out _ _ _ _ (HW.out _ HR24.out).l HE.out.2.2.2.2.1).mono ?_
        rintro e v25 ⟨rfl, hb⟩
        have HR25 : Hid (Below w13.heap.size w13 v25) := HR24.out.trans (hb.mono HR24.out.size)
        clear hb c0 c1
        obtain ⟨c0, c1⟩ := HX2.out _ HR25.out
        go_wp2_with fail
        refine (HN.out _ _ _ _ (HW.out _ HR25.out).o HE.out.2.2.2.2.2).mono ?_
        rintro e v26 ⟨rfl, hb⟩
        have HR26 : Hid (Below w13.heap.size w13 v26) := HR25.out.trans (hb.mono HR25.out.size)
        clear hb c0 c1
        obtain ⟨c0, c1⟩ := HX2.out _ HR26.out
        go_wp2_with fail
        refine (HS.out _ HR26.out).mono ?_
        rintro e v27 ⟨rfl, hb⟩
        have HR27 : Hid (Below w13.heap.size w13 v27) := HR26.out.trans (hb.mono HR26.out.size)
        clear hb c0 c1
        go_wp2
        exact ⟨⟨k + 1, by go_num, by omega, HR27⟩, by simp [intOf]; omega⟩
    · have ik : ¬ (k : Int) < qs.length := by omega
      have HF : Hid (Below w.heap.size w wr) := by
        have q := H9.out.2.1
        have r := H14.out.1
        have t := q.trans (r.mono q.size)
        exact t.trans (HR.out.mono t.size)
      clear HR
      go_wp2
      go_ret
      exact ⟨rfl, HF.out⟩

end Go.Proofs.Ytagkbpceiedikaa
