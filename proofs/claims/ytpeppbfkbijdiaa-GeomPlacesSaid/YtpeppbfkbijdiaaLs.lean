/-
  Contract of package geom: what one rectangle has and another one has not, as pieces in new memory.
-/
import Derived.Test.YtpeppbfkbijdiaaAr
import Derived.Test.YtpeppbfkbijdiaaPlain3
import Derived.Test.YtpeppbfkbijdiaaI
namespace Go.Proofs.Ytpeppbfkbijdiaa
open Go.RowKit

theorem info_rect : (Try.prog.info? 29).map (fun i => (i.zero, i.size, i.bytes)) = some (some (.agg #[.int .i64 0, .int .i64 0, .int .i64 0, .int .i64 0]), 4, 32) := by kernel_rfl
theorem idx0 (a0 a1 a2 a3 a4 a5 a6 a7 a8 a9 a10 a11 a12 a13 a14 a15 : Value) (w : World) : (Instr.index 63 (.agg #[a0, a1, a2, a3, a4, a5, a6, a7, a8, a9, a10, a11, a12, a13, a14, a15]) (.int .i64 0)).run Try.prog w = .ok (.agg #[a0, a1, a2, a3]) w := by kernel_rfl
theorem idx1 (a0 a1 a2 a3 a4 a5 a6 a7 a8 a9 a10 a11 a12 a13 a14 a15 : Value) (w : World) : (Instr.index 63 (.agg #[a0, a1, a2, a3, a4, a5, a6, a7, a8, a9, a10, a11, a12, a13, a14, a15]) (.int .i64 1)).run Try.prog w = .ok (.agg #[a4, a5, a6, a7]) w := by kernel_rfl
theorem idx2 (a0 a1 a2 a3 a4 a5 a6 a7 a8 a9 a10 a11 a12 a13 a14 a15 : Value) (w : World) : (Instr.index 63 (.agg #[a0, a1, a2, a3, a4, a5, a6, a7, a8, a9, a10, a11, a12, a13, a14, a15]) (.int .i64 2)).run Try.prog w = .ok (.agg #[a8, a9, a10, a11]) w := by kernel_rfl
theorem idx3 (a0 a1 a2 a3 a4 a5 a6 a7 a8 a9 a10 a11 a12 a13 a14 a15 : Value) (w : World) : (Instr.index 63 (.agg #[a0, a1, a2, a3, a4, a5, a6, a7, a8, a9, a10, a11, a12, a13, a14, a15]) (.int .i64 3)).run Try.prog w = .ok (.agg #[a12, a13, a14, a15]) w := by kernel_rfl

theorem ownsRow_lit' {base : Nat} {e : TypeId} {size : Nat} (w : World) (cs : Array Value) (n b : Nat) (h : b = w.heap.size) (hb : base ≤ w.heap.size) (hm : n ≤ maxLen) (hs : cs.size = n * size) :
    (w.alloc (.cells cs e)).ownsRow base e size (.slice (some ⟨b, 0, none⟩) n n) n cs.toList := by
  subst h
  exact World.ownsRow_lit w cs n hb hm hs
theorem cell_four (w : World) (x y n m : Value) (t : TypeId) (b : Nat) (h : b = w.heap.size) : ∀ (j : Nat) (u : Value), [x, y, n, m][j]? = some u → (w.alloc (.cells #[x, y, n, m] t)).cell? ((⟨b, 0, none⟩ : Addr).add j) = some u := by
  intro j u hj
  subst h
  match j, hj with
  | 0, hj => simp at hj; subst hj; simp [Addr.add]
  | 1, hj => simp at hj; subst hj; simp [Addr.add]
  | 2, hj => simp at hj; subst hj; simp [Addr.add]
  | 3, hj => simp at hj; subst hj; simp [Addr.add]
/-- The pieces gathered by the first k rounds. -/
def got (o0 o1 o2 o3 : Rc) (k : Nat) : List Rc := (([o0, o1, o2, o3] : List Rc).take k).filter keepB
theorem got_le (o0 o1 o2 o3 : Rc) (k : Nat) : (got o0 o1 o2 o3 k).length ≤ 4 := by
  have h := List.length_filter_le keepB (([o0, o1, o2, o3] : List Rc).take k)
  have h2 : (([o0, o1, o2, o3] : List Rc).take k).length ≤ 4 := by rw [List.length_take]; exact Nat.min_le_right _ _
  exact Nat.le_trans h h2

theorem got_y0 (o0 o1 o2 o3 : Rc) (h : keepB o0 = true) : got o0 o1 o2 o3 1 = got o0 o1 o2 o3 0 ++ [o0] := by
  unfold got
  rw [show ([o0, o1, o2, o3] : List Rc).take 1 = ([o0, o1, o2, o3] : List Rc).take 0 ++ [o0] from rfl, List.filter_append, List.filter_cons, if_pos h, List.filter_nil]
theorem got_n0 (o0 o1 o2 o3 : Rc) (h : keepB o0 = false) : got o0 o1 o2 o3 1 = got o0 o1 o2 o3 0 := by
  unfold got
  rw [show ([o0, o1, o2, o3] : List Rc).take 1 = ([o0, o1, o2, o3] : List Rc).take 0 ++ [o0] from rfl, List.filter_append, List.filter_cons, if_neg (by rw [h]; simp), List.filter_nil, List.append_nil]
theorem got_y1 (o0 o1 o2 o3 : Rc) (h : keepB o1 = true) : got o0 o1 o2 o3 2 = got o0 o1 o2 o3 1 ++ [o1] := by
  unfold got
  rw [show ([o0, o1, o2, o3] : List Rc).take 2 = ([o0, o1, o2, o3] : List Rc).take 1 ++ [o1] from rfl, List.filter_append, List.filter_cons, if_pos h, List.filter_nil]
theorem got_n1 (o0 o1 o2 o3 : Rc) (h : keepB o1 = false) : got o0 o1 o2 o3 2 = got o0 o1 o2 o3 1 := by
  unfold got
  rw [show ([o0, o1, o2, o3] : List Rc).take 2 = ([o0, o1, o2, o3] : List Rc).take 1 ++ [o1] from rfl, List.filter_append, List.filter_cons, if_neg (by rw [h]; simp), List.filter_nil, List.append_nil]
theorem got_y2 (o0 o1 o2 o3 : Rc) (h : keepB o2 = true) : got o0 o1 o2 o3 3 = got o0 o1 o2 o3 2 ++ [o2] := by
  unfold got
  rw [show ([o0, o1, o2, o3] : List Rc).take 3 = ([o0, o1, o2, o3] : List Rc).take 2 ++ [o2] from rfl, List.filter_append, List.filter_cons, if_pos h, List.filter_nil]
theorem got_n2 (o0 o1 o2 o3 : Rc) (h : keepB o2 = false) : got o0 o1 o2 o3 3 = got o0 o1 o2 o3 2 := by
  unfold got
  rw [show ([o0, o1, o2, o3] : List Rc).take 3 = ([o0, o1, o2, o3] : List Rc).take 2 ++ [o2] from rfl, List.filter_append, List.filter_cons, if_neg (by rw [h]; simp), List.filter_nil, List.append_nil]
theorem got_y3 (o0 o1 o2 o3 : Rc) (h : keepB o3 = true) : got o0 o1 o2 o3 4 = got o0 o1 o2 o3 3 ++ [o3] := by
  unfold got
  rw [show ([o0, o1, o2, o3] : List Rc).take 4 = ([o0, o1, o2, o3] : List Rc).take 3 ++ [o3] from rfl, List.filter_append, List.filter_cons, if_pos h, List.filter_nil]
theorem got_n3 (o0 o1 o2 o3 : Rc) (h : keepB o3 = false) : got o0 o1 o2 o3 4 = got o0 o1 o2 o3 3 := by
  unfold got
  rw [show ([o0, o1, o2, o3] : List Rc).take 4 = ([o0, o1, o2, o3] : List Rc).take 3 ++ [o3] from rfl, List.filter_append, List.filter_cons, if_neg (by rw [h]; simp), List.filter_nil, List.append_nil]

set_option maxHeartbeats 4000000 in
theorem less_any (ax ay aw ah bx by' bw bh : Int) (w : World) (hax : I64 ax) (hay : I64 ay) (hbx : I64 bx) (hby : I64 by') :
    Calls Try.prog 28 #[.agg #[.int .i64 ax, .int .i64 ay, .int .i64 aw, .int .i64 ah], .agg #[.int .i64 bx, .int .i64 by', .int .i64 bw, .int .i64 bh]] w fun e w' =>
      ∃ v, e = .returned (.tuple #[v, .int .i64 (lesE ax ay aw ah bx by' bw bh)]) ∧ w'.ownsRow w.heap.size 29 4 v (lesL ax ay aw ah bx by' bw bh).length (flat (lesL ax ay aw ah bx by' bw bh)) ∧ Below w.heap.size w w' := by
  have hka := chk_ne ax ay aw ah
  have hkb := chk_ne bx by' bw bh
  have cs : mayB ax ay aw ah = false ∨ (mayB ax ay aw ah = true ∧ mayB bx by' bw bh = false) ∨ (mayB ax ay aw ah = true ∧ mayB bx by' bw bh = true ∧ emptyB ax ay aw ah = true) ∨ (mayB ax ay aw ah = true ∧ mayB bx by' bw bh = true ∧ emptyB ax ay aw ah = false ∧ eqB (meetR ax ay aw ah bx by' bw bh) 0 0 0 0 = true) ∨ (mayB ax ay aw ah = true ∧ mayB bx by' bw bh = true ∧ emptyB ax ay aw ah = false ∧ eqB (meetR ax ay aw ah bx by' bw bh) 0 0 0 0 = false) := by
    cases mayB ax ay aw ah <;> cases mayB bx by' bw bh <;> cases emptyB ax ay aw ah <;> cases eqB (meetR ax ay aw ah bx by' bw bh) 0 0 0 0 <;> simp
  rcases cs with h1 | ⟨h1, h2⟩ | ⟨h1, h2, h3⟩ | ⟨h1, h2, h3, h4⟩ | ⟨h1, h2, h3, h4⟩
  · rw [show lesL ax ay aw ah bx by' bw bh = [] by simp [lesL, h1], show lesE ax ay aw ah bx by' bw bh = 5 by simp [lesE, h1]]
    go_enter Try.func28, Try.ntmps28
    go_wp2_with fail
    obtain ⟨A, B, L⟩ := boxes_rr w ax ay aw ah bx by' bw bh 29 29
    refine (check_any _ _ _ _ _ hax hay).mono ?_
    rintro e w1 ⟨rfl, hb⟩
    replace L := L.trans (hb.mono L.size)
    clear A B hb
    go_wp2
    go_ret2
    exact ⟨_, rfl, World.ownsRow_nil _ _ _ _, L⟩
  · rw [show lesL ax ay aw ah bx by' bw bh = [] by simp [lesL, h2], show lesE ax ay aw ah bx by' bw bh = 5 by simp [lesE, h2]]
    go_enter Try.func28, Try.ntmps28
    go_wp2_with fail
    obtain ⟨A, B, L⟩ := boxes_rr w ax ay aw ah bx by' bw bh 29 29
    refine (check_any _ _ _ _ _ hax hay).mono ?_
    rintro e w1 ⟨rfl, hb⟩
    replace B := B.below hb
    replace L := L.trans (hb.mono L.size)
    clear A hb
    obtain ⟨e0, e1, e2, e3⟩ := id B
    go_wp2_with fail
    clear e0 e1 e2 e3
    refine (check_any _ _ _ _ _ hbx hby).mono ?_
    rintro e w2 ⟨rfl, hb⟩
    replace L := L.trans (hb.mono L.size)
    clear B hb
    go_wp2
    go_ret2
    exact ⟨_, rfl, World.ownsRow_nil _ _ _ _, L⟩
  all_goals
    rw [show lesE ax ay aw ah bx by' bw bh = 0 by simp [lesE, h1, h2]]
    go_enter Try.func28, Try.ntmps28
    go_wp2_with fail
    obtain ⟨A, B, L⟩ := boxes_rr w ax ay aw ah bx by' bw bh 29 29
    refine (check_any _ _ _ _ _ hax hay).mono ?_
    rintro e w1 ⟨rfl, hb⟩
    replace A := A.below hb
    replace B := B.below hb
    replace L := L.trans (hb.mono L.size)
    clear hb
    obtain ⟨e0, e1, e2, e3⟩ := id B
    go_wp2_with fail
    clear e0 e1 e2 e3
    refine (check_any _ _ _ _ _ hbx hby).mono ?_
    rintro e w2 ⟨rfl, hb⟩
    replace A := A.below hb
    replace B := B.below hb
    replace L := L.trans (hb.mono L.size)
    clear hb
    obtain ⟨d0, d1, d2, d3⟩ := id A
    go_wp2_with fail
    clear d0 d1 d2 d3
    refine (empty_any _ _ _ _ _ hax hay).mono ?_
    rintro e w3 ⟨rfl, hb⟩
    replace A := A.below hb
    replace B := B.below hb
    replace L := L.trans (hb.mono L.size)
    clear hb
  · go_wp2
    go_ret2
    refine ⟨_, rfl, ?_, L⟩
    rw [show lesL ax ay aw ah bx by' bw bh = [] by simp [lesL, h3]]
    exact World.ownsRow_nil _ _ _ _
  all_goals
    obtain ⟨d0, d1, d2, d3⟩ := id A
    obtain ⟨e0, e1, e2, e3⟩ := id B
    go_wp2_with fail
    clear d0 d1 d2 d3 e0 e1 e2 e3
    refine (meet_any _ _ _ _ _ _ _ _ _ hax hay hbx hby).mono ?_
    rintro e w4 ⟨rfl, hb⟩
    replace A := A.below hb
    replace B := B.below hb
    replace L := L.trans (hb.mono L.size)
    clear hb
    have la := A.lt
    obtain ⟨d0, d1, d2, d3⟩ := id A
    have hq := eql_rect
    unfold eqB at h4
  · go_wp2
    go_ret2
    refine ⟨_, rfl, ?_, (L.alloc L.size _).alloc (by have := L.size; simp; omega) _⟩
    rw [show lesL ax ay aw ah bx by' bw bh = [⟨ax, ay, aw, ah⟩] by simp only [lesL, eqB, h1, h2, h3, h4]; simp]
    have hz := L.size
    exact ownsRow_lit' (w4.alloc _) #[.int .i64 ax, .int .i64 ay, .int .i64 aw, .int .i64 ah] 1 _ (by simp) (by simp; omega) (by unfold maxLen; omega) rfl
  · have hL : lesL ax ay aw ah bx by' bw bh = (pcs ax ay aw ah (meetR ax ay aw ah bx by' bw bh).x (meetR ax ay aw ah bx by' bw bh).y (meetR ax ay aw ah bx by' bw bh).w (meetR ax ay aw ah bx by' bw bh).h).filter keepB := by simp only [lesL, eqB, h1, h2, h3, h4]; simp
    obtain ⟨m1, m2, m3, m4, m5, m6, m7, m8⟩ := meet_bd (bx := bx) (by' := by') (bw := bw) (bh := bh) h3
    obtain ⟨a1, a2, a3, a4, a5, a6, a7, a8, a9, a10⟩ := bounds_of h3
    go_wp2_with fail
    clear d0 d1 d2 d3
    refine (around_any _ _ _ _ _ _ _ _ _ a1 a2 a3 a4 m1 m2 m3 m4 (by omega) a6 (by omega) a8 m5 m6 m7 m8).mono ?_
    rintro e w5 ⟨rfl, hb⟩
    replace L := (L.alloc L.size _).trans (hb.mono (by have := L.size; simp; omega))
    clear A B hb la hq h4
    unfold pcs at hL
    generalize btw ax ay (ax + aw) (meetR ax ay aw ah bx by' bw bh).y = o0 at *
    generalize btw ax (meetR ax ay aw ah bx by' bw bh).y (meetR ax ay aw ah bx by' bw bh).x ((meetR ax ay aw ah bx by' bw bh).y + (meetR ax ay aw ah bx by' bw bh).h) = o1 at *
    generalize btw ((meetR ax ay aw ah bx by' bw bh).x + (meetR ax ay aw ah bx by' bw bh).w) (meetR ax ay aw ah bx by' bw bh).y (ax + aw) ((meetR ax ay aw ah bx by' bw bh).y + (meetR ax ay aw ah bx by' bw bh).h) = o2 at *
    generalize btw ax ((meetR ax ay aw ah bx by' bw bh).y + (meetR ax ay aw ah bx by' bw bh).h) (ax + aw) (ay + ah) = o3 at *
    have HL : Hid (lesL ax ay aw ah bx by' bw bh = [o0, o1, o2, o3].filter keepB) := hL
    clear hL hka hkb h1 h2 h3 m1 m2 m3 m4 m5 m6 m7 m8 a1 a2 a3 a4 a5 a6 a7 a8 a9 a10 hax hay hbx hby
    obtain ⟨i0, hi, hz0, hz1, hz2⟩ := info_parts info_rect
    go_wp2_with fail
    go_loopw [7, 31] (fun v i wr => ∃ k : Nat, k ≤ 4 ∧ i = .int .i64 k ∧ wr.ownsRow w.heap.size 29 4 v (got o0 o1 o2 o3 k).length (flat (got o0 o1 o2 o3 k)) ∧ Below w.heap.size w wr) (fun _ i _ => 4 - (intOf i).toNat)
    case atStart => exact ⟨0, Nat.zero_le _, rfl, World.ownsRow_nil _ _ _ _, L⟩
    case round =>
      obtain ⟨k, hk, rfl, hown, hL⟩ := hrel
      have hq := neq_rect
      have hs := hL.size
      have hc : k = 0 ∨ k = 1 ∨ k = 2 ∨ k = 3 ∨ k = 4 := by omega
      clear L
      rcases hc with rfl | rfl | rfl | rfl | rfl
      · have hx := idx0
        cases hkp : keepB o0
        · have HK : Hid (keepB o0 = false) := hkp
          unfold keepB eqB at hkp
          go_wp2
          go_roundw
          case rel => exact ⟨1, by omega, rfl, by rw [got_n0 _ _ _ _ HK.out]; exact hown.alloc _, hL.alloc hs _⟩
          case measure => simp [intOf]
        · have HK : Hid (keepB o0 = true) := hkp
          unfold keepB eqB at hkp
          go_wp2_with (at_builtin; refine wpList_append_own _ rfl _ _ 43 rfl w.heap.size 29 i0 (.agg #[.int .i64 0, .int .i64 0, .int .i64 0, .int .i64 0]) 4 32 Try.underlying43 hi hz0 hz1 hz2 rfl (by decide) _ _ _ rfl ((hown.alloc _).alloc _) ⟨wr.heap.size + 1, 0, none⟩ 1 1 [.int .i64 o0.x, .int .i64 o0.y, .int .i64 o0.w, .int .i64 o0.h] rfl rfl ?c1 ?c2 ?c3 ?c4 ?c5 ?_)
          case c1 => exact cell_four _ _ _ _ _ _ _ (by simp)
          case c2 => intro u hu; simp at hu; rcases hu with rfl | rfl | rfl | rfl <;> rfl
          case c3 => have := got_le o0 o1 o2 o3 0; unfold maxLen; omega
          case c4 => have := got_le o0 o1 o2 o3 0; omega
          case c5 => simp; omega
          intro v' w1 hown' hgrow _
          have hn := got_y0 o0 o1 o2 o3 HK.out
          have R : w1.ownsRow w.heap.size 29 4 v' (got o0 o1 o2 o3 1).length (flat (got o0 o1 o2 o3 1)) := by rw [hn, List.length_append, flat_append, flat_one]; exact hown'
          have R2 : Below w.heap.size w w1 := ((hL.alloc hs _).alloc (by simp; omega) _).grown hgrow (by simp; omega) (fun b hb => (hown.lt b hb).1)
          clear hown' hgrow hown hn hkp hL hs
          go_wp2
          go_roundw
          case rel => exact ⟨1, by omega, rfl, R, R2⟩
          case measure => simp [intOf]
      · have hx := idx1
        cases hkp : keepB o1
        · have HK : Hid (keepB o1 = false) := hkp
          unfold keepB eqB at hkp
          go_wp2
          go_roundw
          case rel => exact ⟨2, by omega, rfl, by rw [got_n1 _ _ _ _ HK.out]; exact hown.alloc _, hL.alloc hs _⟩
          case measure => simp [intOf]
        · have HK : Hid (keepB o1 = true) := hkp
          unfold keepB eqB at hkp
          go_wp2_with (at_builtin; refine wpList_append_own _ rfl _ _ 43 rfl w.heap.size 29 i0 (.agg #[.int .i64 0, .int .i64 0, .int .i64 0, .int .i64 0]) 4 32 Try.underlying43 hi hz0 hz1 hz2 rfl (by decide) _ _ _ rfl ((hown.alloc _).alloc _) ⟨wr.heap.size + 1, 0, none⟩ 1 1 [.int .i64 o1.x, .int .i64 o1.y, .int .i64 o1.w, .int .i64 o1.h] rfl rfl ?c1 ?c2 ?c3 ?c4 ?c5 ?_)
          case c1 => exact cell_four _ _ _ _ _ _ _ (by simp)
          case c2 => intro u hu; simp at hu; rcases hu with rfl | rfl | rfl | rfl <;> rfl
          case c3 => have := got_le o0 o1 o2 o3 1; unfold maxLen; omega
          case c4 => have := got_le o0 o1 o2 o3 1; omega
          case c5 => simp; omega
          intro v' w1 hown' hgrow _
          have hn := got_y1 o0 o1 o2 o3 HK.out
          have R : w1.ownsRow w.heap.size 29 4 v' (got o0 o1 o2 o3 2).length (flat (got o0 o1 o2 o3 2)) := by rw [hn, List.length_append, flat_append, flat_one]; exact hown'
          have R2 : Below w.heap.size w w1 := ((hL.alloc hs _).alloc (by simp; omega) _).grown hgrow (by simp; omega) (fun b hb => (hown.lt b hb).1)
          clear hown' hgrow hown hn hkp hL hs
          go_wp2
          go_roundw
          case rel => exact ⟨2, by omega, rfl, R, R2⟩
          case measure => simp [intOf]
      · have hx := idx2
        cases hkp : keepB o2
        · have HK : Hid (keepB o2 = false) := hkp
          unfold keepB eqB at hkp
          go_wp2
          go_roundw
          case rel => exact ⟨3, by omega, rfl, by rw [got_n2 _ _ _ _ HK.out]; exact hown.alloc _, hL.alloc hs _⟩
          case measure => simp [intOf]
        · have HK : Hid (keepB o2 = true) := hkp
          unfold keepB eqB at hkp
          go_wp2_with (at_builtin; refine wpList_append_own _ rfl _ _ 43 rfl w.heap.size 29 i0 (.agg #[.int .i64 0, .int .i64 0, .int .i64 0, .int .i64 0]) 4 32 Try.underlying43 hi hz0 hz1 hz2 rfl (by decide) _ _ _ rfl ((hown.alloc _).alloc _) ⟨wr.heap.size + 1, 0, none⟩ 1 1 [.int .i64 o2.x, .int .i64 o2.y, .int .i64 o2.w, .int .i64 o2.h] rfl rfl ?c1 ?c2 ?c3 ?c4 ?c5 ?_)
          case c1 => exact cell_four _ _ _ _ _ _ _ (by simp)
          case c2 => intro u hu; simp at hu; rcases hu with rfl | rfl | rfl | rfl <;> rfl
          case c3 => have := got_le o0 o1 o2 o3 2; unfold maxLen; omega
          case c4 => have := got_le o0 o1 o2 o3 2; omega
          case c5 => simp; omega
          intro v' w1 hown' hgrow _
          have hn := got_y2 o0 o1 o2 o3 HK.out
          have R : w1.ownsRow w.heap.size 29 4 v' (got o0 o1 o2 o3 3).length (flat (got o0 o1 o2 o3 3)) := by rw [hn, List.length_append, flat_append, flat_one]; exact hown'
          have R2 : Below w.heap.size w w1 := ((hL.alloc hs _).alloc (by simp; omega) _).grown hgrow (by simp; omega) (fun b hb => (hown.lt b hb).1)
          clear hown' hgrow hown hn hkp hL hs
          go_wp2
          go_roundw
          case rel => exact ⟨3, by omega, rfl, R, R2⟩
          case measure => simp [intOf]
      · have hx := idx3
        cases hkp : keepB o3
        · have HK : Hid (keepB o3 = false) := hkp
          unfold keepB eqB at hkp
          go_wp2
          go_roundw
          case rel => exact ⟨4, by omega, rfl, by rw [got_n3 _ _ _ _ HK.out]; exact hown.alloc _, hL.alloc hs _⟩
          case measure => simp [intOf]
        · have HK : Hid (keepB o3 = true) := hkp
          unfold keepB eqB at hkp
          go_wp2_with (at_builtin; refine wpList_append_own _ rfl _ _ 43 rfl w.heap.size 29 i0 (.agg #[.int .i64 0, .int .i64 0, .int .i64 0, .int .i64 0]) 4 32 Try.underlying43 hi hz0 hz1 hz2 rfl (by decide) _ _ _ rfl ((hown.alloc _).alloc _) ⟨wr.heap.size + 1, 0, none⟩ 1 1 [.int .i64 o3.x, .int .i64 o3.y, .int .i64 o3.w, .int .i64 o3.h] rfl rfl ?c1 ?c2 ?c3 ?c4 ?c5 ?_)
          case c1 => exact cell_four _ _ _ _ _ _ _ (by simp)
          case c2 => intro u hu; simp at hu; rcases hu with rfl | rfl | rfl | rfl <;> rfl
          case c3 => have := got_le o0 o1 o2 o3 3; unfold maxLen; omega
          case c4 => have := got_le o0 o1 o2 o3 3; omega
          case c5 => simp; omega
          intro v' w1 hown' hgrow _
          have hn := got_y3 o0 o1 o2 o3 HK.out
          have R : w1.ownsRow w.heap.size 29 4 v' (got o0 o1 o2 o3 4).length (flat (got o0 o1 o2 o3 4)) := by rw [hn, List.length_append, flat_append, flat_one]; exact hown'
          have R2 : Below w.heap.size w w1 := ((hL.alloc hs _).alloc (by simp; omega) _).grown hgrow (by simp; omega) (fun b hb => (hown.lt b hb).1)
          clear hown' hgrow hown hn hkp hL hs
          go_wp2
          go_roundw
          case rel => exact ⟨4, by omega, rfl, R, R2⟩
          case measure => simp [intOf]
      · go_wp2
        go_ret2
        refine ⟨_, rfl, ?_, hL⟩
        rw [HL.out]
        exact hown

end Go.Proofs.Ytpeppbfkbijdiaa
