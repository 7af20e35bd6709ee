/-
  Texts of this claim, one behind the other: what each is about stands ahead of it.
-/
import Derived.Test.YtapachlhdgehjaaGreatDoorK25
import Derived.Test.YtapachlhdgehjaaGreatDoorK0
import Derived.Test.YtapachlhdgehjaaGreatDoorK22
import Derived.Test.YtapachlhdgehjaaGreatDoorK1
import Derived.Test.YtapachlhdgehjaaGreatDoorK16
import Derived.Test.YtapachlhdgehjaaGreatDoorK4
import Derived.BigQuiet
import Derived.Deep.Onto
import Derived.Deep.QuietTactic
/-
  Contract of package geom: what one rectangle has and another one has not, as pieces in new memory.
-/
namespace Go.Proofs.YtapachlhdgehjaaGreatDoor
open Go.RowKit

theorem info_rectL : (Tryz.prog.info? 52).map (fun i => (i.zero, i.size, i.bytes)) = some (some (.agg #[.int .i64 0, .int .i64 0, .int .i64 0, .int .i64 0]), 4, 32) := by kernel_rfl
theorem idx0 (a0 a1 a2 a3 a4 a5 a6 a7 a8 a9 a10 a11 a12 a13 a14 a15 : Value) (w : World) : (Instr.index 245 (.agg #[a0, a1, a2, a3, a4, a5, a6, a7, a8, a9, a10, a11, a12, a13, a14, a15]) (.int .i64 0)).run Tryz.prog w = .ok (.agg #[a0, a1, a2, a3]) w := by kernel_rfl
theorem idx1 (a0 a1 a2 a3 a4 a5 a6 a7 a8 a9 a10 a11 a12 a13 a14 a15 : Value) (w : World) : (Instr.index 245 (.agg #[a0, a1, a2, a3, a4, a5, a6, a7, a8, a9, a10, a11, a12, a13, a14, a15]) (.int .i64 1)).run Tryz.prog w = .ok (.agg #[a4, a5, a6, a7]) w := by kernel_rfl
theorem idx2 (a0 a1 a2 a3 a4 a5 a6 a7 a8 a9 a10 a11 a12 a13 a14 a15 : Value) (w : World) : (Instr.index 245 (.agg #[a0, a1, a2, a3, a4, a5, a6, a7, a8, a9, a10, a11, a12, a13, a14, a15]) (.int .i64 2)).run Tryz.prog w = .ok (.agg #[a8, a9, a10, a11]) w := by kernel_rfl
theorem idx3 (a0 a1 a2 a3 a4 a5 a6 a7 a8 a9 a10 a11 a12 a13 a14 a15 : Value) (w : World) : (Instr.index 245 (.agg #[a0, a1, a2, a3, a4, a5, a6, a7, a8, a9, a10, a11, a12, a13, a14, a15]) (.int .i64 3)).run Tryz.prog w = .ok (.agg #[a12, a13, a14, a15]) w := by kernel_rfl

theorem ownsRow_lit' {base : Nat} {e : TypeId} {size : Nat} (w : World) (cs : Array Value) (n b : Nat) (h : b = w.heap.size) (hb : base ≤ w.heap.size) (hm : n ≤ maxLen) (hs : cs.size = n * size) :
    (w.alloc (.cells cs e)).ownsRow base e size (.slice (some ⟨b, 0, none⟩) n n) n cs.toList := by
  subst h
  exact World.ownsRow_lit w cs n hb hm hs
theorem cell_four (w : World) (x y n m : Value) (t : TypeId) (b : Nat) (h : b = w.heap.size) : ∀ (j : Nat) (u : Value), [x, y, n, m][j]? = some u → (w.alloc (.cells #[x, y, n, m] t)).cell? ((⟨b, 0, none⟩ : Addr).add j) = some u := by
  intro j u hj
  subst h
  match j, hj with
  | 0, hj => simp at hj; subst hj; simp [Addr.add]
  | 1, hj => simp at hj; subst hj; simp [Addr.add]
  | 2, hj => simp at hj; subst hj; simp [Addr.add]
  | 3, hj => simp at hj; subst hj; simp [Addr.add]
def got (o0 o1 o2 o3 : Rc) (k : Nat) : List Rc := (([o0, o1, o2, o3] : List Rc).take k).filter keepB
theorem got_le (o0 o1 o2 o3 : Rc) (k : Nat) : (got o0 o1 o2 o3 k).length ≤ 4 := by
  have h := List.length_filter_le keepB (([o0, o1, o2, o3] : List Rc).take k)
  have h2 : (([o0, o1, o2, o3] : List Rc).take k).length ≤ 4 := by rw [List.length_take]; exact Nat.min_le_right _ _
  exact Nat.le_trans h h2

theorem got_y0 (o0 o1 o2 o3 : Rc) (h : keepB o0 = true) : got o0 o1 o2 o3 1 = got o0 o1 o2 o3 0 ++ [o0] := by
  unfold got
  rw [show ([o0, o1, o2, o3] : List Rc).take 1 = ([o0, o1, o2, o3] : List Rc).take 0 ++ [o0] from rfl, List.filter_append, List.filter_cons, if_pos h, List.filter_nil]
theorem got_n0 (o0 o1 o2 o3 : Rc) (h : keepB o0 = false) : got o0 o1 o2 o3 1 = got o0 o1 o2 o3 0 := by
  unfold got
  rw [show ([o0, o1, o2, o3] : List Rc).take 1 = ([o0, o1, o2, o3] : List Rc).take 0 ++ [o0] from rfl, List.filter_append, List.filter_cons, if_neg (by rw [h]; simp), List.filter_nil, List.append_nil]
theorem got_y1 (o0 o1 o2 o3 : Rc) (h : keepB o1 = true) : got o0 o1 o2 o3 2 = got o0 o1 o2 o3 1 ++ [o1] := by
  unfold got
  rw [show ([o0, o1, o2, o3] : List Rc).take 2 = ([o0, o1, o2, o3] : List Rc).take 1 ++ [o1] from rfl, List.filter_append, List.filter_cons, if_pos h, List.filter_nil]
theorem got_n1 (o0 o1 o2 o3 : Rc) (h : keepB o1 = false) : got o0 o1 o2 o3 2 = got o0 o1 o2 o3 1 := by
  unfold got
  rw [show ([o0, o1, o2, o3] : List Rc).take 2 = ([o0, o1, o2, o3] : List Rc).take 1 ++ [o1] from rfl, List.filter_append, List.filter_cons, if_neg (by rw [h]; simp), List.filter_nil, List.append_nil]
theorem got_y2 (o0 o1 o2 o3 : Rc) (h : keepB o2 = true) : got o0 o1 o2 o3 3 = got o0 o1 o2 o3 2 ++ [o2] := by
  unfold got
  rw [show ([o0, o1, o2, o3] : List Rc).take 3 = ([o0, o1, o2, o3] : List Rc).take 2 ++ [o2] from rfl, List.filter_append, List.filter_cons, if_pos h, List.filter_nil]
theorem got_n2 (o0 o1 o2 o3 : Rc) (h : keepB o2 = false) : got o0 o1 o2 o3 3 = got o0 o1 o2 o3 2 := by
  unfold got
  rw [show ([o0, o1, o2, o3] : List Rc).take 3 = ([o0, o1, o2, o3] : List Rc).take 2 ++ [o2] from rfl, List.filter_append, List.filter_cons, if_neg (by rw [h]; simp), List.filter_nil, List.append_nil]
theorem got_y3 (o0 o1 o2 o3 : Rc) (h : keepB o3 = true) : got o0 o1 o2 o3 4 = got o0 o1 o2 o3 3 ++ [o3] := by
  unfold got
  rw [show ([o0, o1, o2, o3] : List Rc).take 4 = ([o0, o1, o2, o3] : List Rc).take 3 ++ [o3] from rfl, List.filter_append, List.filter_cons, if_pos h, List.filter_nil]
theorem got_n3 (o0 o1 o2 o3 : Rc) (h : keepB o3 = false) : got o0 o1 o2 o3 4 = got o0 o1 o2 o3 3 := by
  unfold got
  rw [show ([o0, o1, o2, o3] : List Rc).take 4 = ([o0, o1, o2, o3] : List Rc).take 3 ++ [o3] from rfl, List.filter_append, List.filter_cons, if_neg (by rw [h]; simp), List.filter_nil, List.append_nil]

set_option maxHeartbeats 4000000 in
theorem less_any (ax ay aw ah bx by' bw bh : Int) (w : World) (hax : I64 ax) (hay : I64 ay) (hbx : I64 bx) (hby : I64 by') :
    Calls Tryz.prog 127 #[.agg #[.int .i64 ax, .int .i64 ay, .int .i64 aw, .int .i64 ah], .agg #[.int .i64 bx, .int .i64 by', .int .i64 bw, .int .i64 bh]] w fun e w' =>
      ∃ v, e = .returned (.tuple #[v, .int .i64 (lesE ax ay aw ah bx by' bw bh)]) ∧ w'.ownsRow w.heap.size 52 4 v (lesL ax ay aw ah bx by' bw bh).length (flat (lesL ax ay aw ah bx by' bw bh)) ∧ Below w.heap.size w w' := by
  have hka := chk_ne ax ay aw ah
  have hkb := chk_ne bx by' bw bh
  have cs : mayB ax ay aw ah = false ∨ (mayB ax ay aw ah = true ∧ mayB bx by' bw bh = false) ∨ (mayB ax ay aw ah = true ∧ mayB bx by' bw bh = true ∧ emptyB ax ay aw ah = true) ∨ (mayB ax ay aw ah = true ∧ mayB bx by' bw bh = true ∧ emptyB ax ay aw ah = false ∧ eqB (meetR ax ay aw ah bx by' bw bh) 0 0 0 0 = true) ∨ (mayB ax ay aw ah = true ∧ mayB bx by' bw bh = true ∧ emptyB ax ay aw ah = false ∧ eqB (meetR ax ay aw ah bx by' bw bh) 0 0 0 0 = false) := by
    cases mayB ax ay aw ah <;> cases mayB bx by' bw bh <;> cases emptyB ax ay aw ah <;> cases eqB (meetR ax ay aw ah bx by' bw bh) 0 0 0 0 <;> simp
  rcases cs with h1 | ⟨h1, h2⟩ | ⟨h1, h2, h3⟩ | ⟨h1, h2, h3, h4⟩ | ⟨h1, h2, h3, h4⟩
  · rw [show lesL ax ay aw ah bx by' bw bh = [] by simp [lesL, h1], show lesE ax ay aw ah bx by' bw bh = 5 by simp [lesE, h1]]
    go_enter Tryz.func127, Tryz.ntmps127
    go_wp2_with fail
    obtain ⟨A, B, L⟩ := boxes_rr w ax ay aw ah bx by' bw bh 52 52
    refine (check_any _ _ _ _ _ hax hay).mono ?_
    rintro e w1 ⟨rfl, hb⟩
    replace L := L.trans (hb.mono L.size)
    clear A B hb
    go_wp2
    go_ret2
    exact ⟨_, rfl, World.ownsRow_nil _ _ _ _, L⟩
  · rw [show lesL ax ay aw ah bx by' bw bh = [] by simp [lesL, h2], show lesE ax ay aw ah bx by' bw bh = 5 by simp [lesE, h2]]
    go_enter Tryz.func127, Tryz.ntmps127
    go_wp2_with fail
    obtain ⟨A, B, L⟩ := boxes_rr w ax ay aw ah bx by' bw bh 52 52
    refine (check_any _ _ _ _ _ hax hay).mono ?_
    rintro e w1 ⟨rfl, hb⟩
    replace B := B.below hb
    replace L := L.trans (hb.mono L.size)
    clear A hb
    obtain ⟨e0, e1, e2, e3⟩ := id B
    go_wp2_with fail
    clear e0 e1 e2 e3
    refine (check_any _ _ _ _ _ hbx hby).mono ?_
    rintro e w2 ⟨rfl, hb⟩
    replace L := L.trans (hb.mono L.size)
    clear B hb
    go_wp2
    go_ret2
    exact ⟨_, rfl, World.ownsRow_nil _ _ _ _, L⟩
  all_goals
    rw [show lesE ax ay aw ah bx by' bw bh = 0 by simp [lesE, h1, h2]]
    go_enter Tryz.func127, Tryz.ntmps127
    go_wp2_with fail
    obtain ⟨A, B, L⟩ := boxes_rr w ax ay aw ah bx by' bw bh 52 52
    refine (check_any _ _ _ _ _ hax hay).mono ?_
    rintro e w1 ⟨rfl, hb⟩
    replace A := A.below hb
    replace B := B.below hb
    replace L := L.trans (hb.mono L.size)
    clear hb
    obtain ⟨e0, e1, e2, e3⟩ := id B
    go_wp2_with fail
    clear e0 e1 e2 e3
    refine (check_any _ _ _ _ _ hbx hby).mono ?_
    rintro e w2 ⟨rfl, hb⟩
    replace A := A.below hb
    replace B := B.below hb
    replace L := L.trans (hb.mono L.size)
    clear hb
    obtain ⟨d0, d1, d2, d3⟩ := id A
    go_wp2_with fail
    clear d0 d1 d2 d3
    refine (empty_any _ _ _ _ _ hax hay).mono ?_
    rintro e w3 ⟨rfl, hb⟩
    replace A := A.below hb
    replace B := B.below hb
    replace L := L.trans (hb.mono L.size)
    clear hb
  · go_wp2
    go_ret2
    refine ⟨_, rfl, ?_, L⟩
    rw [show lesL ax ay aw ah bx by' bw bh = [] by simp [lesL, h3]]
    exact World.ownsRow_nil _ _ _ _
  all_goals
    obtain ⟨d0, d1, d2, d3⟩ := id A
    obtain ⟨e0, e1, e2, e3⟩ := id B
    go_wp2_with fail
    clear d0 d1 d2 d3 e0 e1 e2 e3
    refine (meet_any _ _ _ _ _ _ _ _ _ hax hay hbx hby).mono ?_
    rintro e w4 ⟨rfl, hb⟩
    replace A := A.below hb
    replace B := B.below hb
    replace L := L.trans (hb.mono L.size)
    clear hb
    have la := A.lt
    obtain ⟨d0, d1, d2, d3⟩ := id A
    have hq := eql_rect
    unfold eqB at h4
  · go_wp2
    go_ret2
    refine ⟨_, rfl, ?_, (L.alloc L.size _).alloc (by have := L.size; simp; omega) _⟩
    rw [show lesL ax ay aw ah bx by' bw bh = [⟨ax, ay, aw, ah⟩] by simp only [lesL, eqB, h1, h2, h3, h4]; simp]
    have hz := L.size
    exact ownsRow_lit' (w4.alloc _) #[.int .i64 ax, .int .i64 ay, .int .i64 aw, .int .i64 ah] 1 _ (by simp) (by simp; omega) (by unfold maxLen; omega) rfl
  · have hL : lesL ax ay aw ah bx by' bw bh = (pcR ax ay aw ah (meetR ax ay aw ah bx by' bw bh).x (meetR ax ay aw ah bx by' bw bh).y (meetR ax ay aw ah bx by' bw bh).w (meetR ax ay aw ah bx by' bw bh).h).filter keepB := by simp only [lesL, eqB, h1, h2, h3, h4]; simp
    obtain ⟨m1, m2, m3, m4, m5, m6, m7, m8⟩ := meet_bd (bx := bx) (by' := by') (bw := bw) (bh := bh) h3
    obtain ⟨a1, a2, a3, a4, a5, a6, a7, a8, a9, a10⟩ := bounds_of h3
    go_wp2_with fail
    clear d0 d1 d2 d3
    refine (around_any _ _ _ _ _ _ _ _ _ a1 a2 a3 a4 m1 m2 m3 m4 (by omega) a6 (by omega) a8 m5 m6 m7 m8).mono ?_
    rintro e w5 ⟨rfl, hb⟩
    replace L := (L.alloc L.size _).trans (hb.mono (by have := L.size; simp; omega))
    clear A B hb la hq h4
    unfold pcR at hL
    generalize btw ax ay (ax + aw) (meetR ax ay aw ah bx by' bw bh).y = o0 at *
    generalize btw ax (meetR ax ay aw ah bx by' bw bh).y (meetR ax ay aw ah bx by' bw bh).x ((meetR ax ay aw ah bx by' bw bh).y + (meetR ax ay aw ah bx by' bw bh).h) = o1 at *
    generalize btw ((meetR ax ay aw ah bx by' bw bh).x + (meetR ax ay aw ah bx by' bw bh).w) (meetR ax ay aw ah bx by' bw bh).y (ax + aw) ((meetR ax ay aw ah bx by' bw bh).y + (meetR ax ay aw ah bx by' bw bh).h) = o2 at *
    generalize btw ax ((meetR ax ay aw ah bx by' bw bh).y + (meetR ax ay aw ah bx by' bw bh).h) (ax + aw) (ay + ah) = o3 at *
    have HL : Hid (lesL ax ay aw ah bx by' bw bh = [o0, o1, o2, o3].filter keepB) := hL
    clear hL hka hkb h1 h2 h3 m1 m2 m3 m4 m5 m6 m7 m8 a1 a2 a3 a4 a5 a6 a7 a8 a9 a10 hax hay hbx hby
    obtain ⟨i0, hi, hz0, hz1, hz2⟩ := info_parts info_rectL
    go_wp2_with fail
    go_loopw [7, 31] (fun v i wr => ∃ k : Nat, k ≤ 4 ∧ i = .int .i64 k ∧ wr.ownsRow w.heap.size 52 4 v (got o0 o1 o2 o3 k).length (flat (got o0 o1 o2 o3 k)) ∧ Below w.heap.size w wr) (fun _ i _ => 4 - (intOf i).toNat)
    case atStart => exact ⟨0, Nat.zero_le _, rfl, World.ownsRow_nil _ _ _ _, L⟩
    case round =>
      obtain ⟨k, hk, rfl, hown, hL⟩ := hrel
      have hq := neq_rect
      have hs := hL.size
      have hc : k = 0 ∨ k = 1 ∨ k = 2 ∨ k = 3 ∨ k = 4 := by omega
      clear L
      rcases hc with rfl | rfl | rfl | rfl | rfl
      · have hx := idx0
        cases hkp : keepB o0
        · have HK : Hid (keepB o0 = false) := hkp
          unfold keepB eqB at hkp
          go_wp2
          go_roundw
          case rel => exact ⟨1, by omega, rfl, by rw [got_n0 _ _ _ _ HK.out]; exact hown.alloc _, hL.alloc hs _⟩
          case measure => simp [intOf]
        · have HK : Hid (keepB o0 = true) := hkp
          unfold keepB eqB at hkp
          go_wp2_with (at_builtin; refine wpList_append_own _ rfl _ _ 67 rfl w.heap.size 52 i0 (.agg #[.int .i64 0, .int .i64 0, .int .i64 0, .int .i64 0]) 4 32 Tryz.underlying67 hi hz0 hz1 hz2 rfl (by decide) _ _ _ rfl ((hown.alloc _).alloc _) ⟨wr.heap.size + 1, 0, none⟩ 1 1 [.int .i64 o0.x, .int .i64 o0.y, .int .i64 o0.w, .int .i64 o0.h] rfl rfl ?c1 ?c2 ?c3 ?c4 ?c5 ?_)
          case c1 => exact cell_four _ _ _ _ _ _ _ (by simp)
          case c2 => intro u hu; simp at hu; rcases hu with rfl | rfl | rfl | rfl <;> rfl
          case c3 => have := got_le o0 o1 o2 o3 0; unfold maxLen; omega
          case c4 => have := got_le o0 o1 o2 o3 0; omega
          case c5 => simp; omega
          intro v' w1 hown' hgrow _
          have hn := got_y0 o0 o1 o2 o3 HK.out
          have R : w1.ownsRow w.heap.size 52 4 v' (got o0 o1 o2 o3 1).length (flat (got o0 o1 o2 o3 1)) := by rw [hn, List.length_append, flat_append, flat_one]; exact hown'
          have R2 : Below w.heap.size w w1 := ((hL.alloc hs _).alloc (by simp; omega) _).grown hgrow (by simp; omega) (fun b hb => (hown.lt b hb).1)
          clear hown' hgrow hown hn hkp hL hs
          go_wp2
          go_roundw
          case rel => exact ⟨1, by omega, rfl, R, R2⟩
          case measure => simp [intOf]
      · have hx := idx1
        cases hkp : keepB o1
        · have HK : Hid (keepB o1 = false) := hkp
          unfold keepB eqB at hkp
          go_wp2
          go_roundw
          case rel => exact ⟨2, by omega, rfl, by rw [got_n1 _ _ _ _ HK.out]; exact hown.alloc _, hL.alloc hs _⟩
          case measure => simp [intOf]
        · have HK : Hid (keepB o1 = true) := hkp
          unfold keepB eqB at hkp
          go_wp2_with (at_builtin; refine wpList_append_own _ rfl _ _ 67 rfl w.heap.size 52 i0 (.agg #[.int .i64 0, .int .i64 0, .int .i64 0, .int .i64 0]) 4 32 Tryz.underlying67 hi hz0 hz1 hz2 rfl (by decide) _ _ _ rfl ((hown.alloc _).alloc _) ⟨wr.heap.size + 1, 0, none⟩ 1 1 [.int .i64 o1.x, .int .i64 o1.y, .int .i64 o1.w, .int .i64 o1.h] rfl rfl ?c1 ?c2 ?c3 ?c4 ?c5 ?_)
          case c1 => exact cell_four _ _ _ _ _ _ _ (by simp)
          case c2 => intro u hu; simp at hu; rcases hu with rfl | rfl | rfl | rfl <;> rfl
          case c3 => have := got_le o0 o1 o2 o3 1; unfold maxLen; omega
          case c4 => have := got_le o0 o1 o2 o3 1; omega
          case c5 => simp; omega
          intro v' w1 hown' hgrow _
          have hn := got_y1 o0 o1 o2 o3 HK.out
          have R : w1.ownsRow w.heap.size 52 4 v' (got o0 o1 o2 o3 2).length (flat (got o0 o1 o2 o3 2)) := by rw [hn, List.length_append, flat_append, flat_one]; exact hown'
          have R2 : Below w.heap.size w w1 := ((hL.alloc hs _).alloc (by simp; omega) _).grown hgrow (by simp; omega) (fun b hb => (hown.lt b hb).1)
          clear hown' hgrow hown hn hkp hL hs
          go_wp2
          go_roundw
          case rel => exact ⟨2, by omega, rfl, R, R2⟩
          case measure => simp [intOf]
      · have hx := idx2
        cases hkp : keepB o2
        · have HK : Hid (keepB o2 = false) := hkp
          unfold keepB eqB at hkp
          go_wp2
          go_roundw
          case rel => exact ⟨3, by omega, rfl, by rw [got_n2 _ _ _ _ HK.out]; exact hown.alloc _, hL.alloc hs _⟩
          case measure => simp [intOf]
        · have HK : Hid (keepB o2 = true) := hkp
          unfold keepB eqB at hkp
          go_wp2_with (at_builtin; refine wpList_append_own _ rfl _ _ 67 rfl w.heap.size 52 i0 (.agg #[.int .i64 0, .int .i64 0, .int .i64 0, .int .i64 0]) 4 32 Tryz.underlying67 hi hz0 hz1 hz2 rfl (by decide) _ _ _ rfl ((hown.alloc _).alloc _) ⟨wr.heap.size + 1, 0, none⟩ 1 1 [.int .i64 o2.x, .int .i64 o2.y, .int .i64 o2.w, .int .i64 o2.h] rfl rfl ?c1 ?c2 ?c3 ?c4 ?c5 ?_)
          case c1 => exact cell_four _ _ _ _ _ _ _ (by simp)
          case c2 => intro u hu; simp at hu; rcases hu with rfl | rfl | rfl | rfl <;> rfl
          case c3 => have := got_le o0 o1 o2 o3 2; unfold maxLen; omega
          case c4 => have := got_le o0 o1 o2 o3 2; omega
          case c5 => simp; omega
          intro v' w1 hown' hgrow _
          have hn := got_y2 o0 o1 o2 o3 HK.out
          have R : w1.ownsRow w.heap.size 52 4 v' (got o0 o1 o2 o3 3).length (flat (got o0 o1 o2 o3 3)) := by rw [hn, List.length_append, flat_append, flat_one]; exact hown'
          have R2 : Below w.heap.size w w1 := ((hL.alloc hs _).alloc (by simp; omega) _).grown hgrow (by simp; omega) (fun b hb => (hown.lt b hb).1)
          clear hown' hgrow hown hn hkp hL hs
          go_wp2
          go_roundw
          case rel => exact ⟨3, by omega, rfl, R, R2⟩
          case measure => simp [intOf]
      · have hx := idx3
        cases hkp : keepB o3
        · have HK : Hid (keepB o3 = false) := hkp
          unfold keepB eqB at hkp
          go_wp2
          go_roundw
          case rel => exact ⟨4, by omega, rfl, by rw [got_n3 _ _ _ _ HK.out]; exact hown.alloc _, hL.alloc hs _⟩
          case measure => simp [intOf]
        · have HK : Hid (keepB o3 = true) := hkp
          unfold keepB eqB at hkp
          go_wp2_with (at_builtin; refine wpList_append_own _ rfl _ _ 67 rfl w.heap.size 52 i0 (.agg #[.int .i64 0, .int .i64 0, .int .i64 0, .int .i64 0]) 4 32 Tryz.underlying67 hi hz0 hz1 hz2 rfl (by decide) _ _ _ rfl ((hown.alloc _).alloc _) ⟨wr.heap.size + 1, 0, none⟩ 1 1 [.int .i64 o3.x, .int .i64 o3.y, .int .i64 o3.w, .int .i64 o3.h] rfl rfl ?c1 ?c2 ?c3 ?c4 ?c5 ?_)
          case c1 => exact cell_four _ _ _ _ _ _ _ (by simp)
          case c2 => intro u hu; simp at hu; rcases hu with rfl | rfl | rfl | rfl <;> rfl
          case c3 => have := got_le o0 o1 o2 o3 3; unfold maxLen; omega
          case c4 => have := got_le o0 o1 o2 o3 3; omega
          case c5 => simp; omega
          intro v' w1 hown' hgrow _
          have hn := got_y3 o0 o1 o2 o3 HK.out
          have R : w1.ownsRow w.heap.size 52 4 v' (got o0 o1 o2 o3 4).length (flat (got o0 o1 o2 o3 4)) := by rw [hn, List.length_append, flat_append, flat_one]; exact hown'
          have R2 : Below w.heap.size w w1 := ((hL.alloc hs _).alloc (by simp; omega) _).grown hgrow (by simp; omega) (fun b hb => (hown.lt b hb).1)
          clear hown' hgrow hown hn hkp hL hs
          go_wp2
          go_roundw
          case rel => exact ⟨4, by omega, rfl, R, R2⟩
          case measure => simp [intOf]
      · go_wp2
        go_ret2
        refine ⟨_, rfl, ?_, hL⟩
        rw [HL.out]
        exact hown

end Go.Proofs.YtapachlhdgehjaaGreatDoor

/-
  Contracts of package geom: a rectangle inset, moved; a size within it.
-/
namespace Go.Proofs.YtapachlhdgehjaaGreatDoor
open Go.RowKit

theorem i64_bd {x : Int} (h1 : -1000000 ≤ x) (h2 : x ≤ 1000000) : I64 x := ⟨by omega, by omega⟩

set_option maxHeartbeats 400000 in
theorem sized_any (x y n m : Int) (w : World) (hx : I64 x) (hy : I64 y) :
    Calls Tryz.prog 160 #[.agg #[.int .i64 x, .int .i64 y, .int .i64 n, .int .i64 m]] w fun e w' => e = .returned (.tuple #[.agg #[.int .i64 (szR ⟨x, y, n, m⟩).x, .int .i64 (szR ⟨x, y, n, m⟩).y, .int .i64 (szR ⟨x, y, n, m⟩).w, .int .i64 (szR ⟨x, y, n, m⟩).h], .int .i64 (szE ⟨x, y, n, m⟩)]) ∧ Below w.heap.size w w' := by
  have hk := chk_ne x y n m
  cases h1 : mayB x y n m
  · rw [show szR ⟨x, y, n, m⟩ = zr by simp [szR, h1], show szE ⟨x, y, n, m⟩ = 9 by simp [szE, h1]]
    go_enter Tryz.func160, Tryz.ntmps160
    go_wp2_with fail
    refine (check_any _ _ _ _ _ hx hy).mono ?_
    rintro e w1 ⟨rfl, hb⟩
    have F := ((fr1 w _ _ _).below hb).2
    obtain ⟨d0, d1, d2, d3⟩ := (At4.new' (w.alloc _) (w.heap.size + 1) 0 0 0 0 52 (by simp)).below hb
    have L := (((Below.refl w.heap.size w).alloc (Nat.le_refl _) _).alloc (by simp) _).trans (hb.mono (by simp; omega))
    clear hb
    go_wp2
    exact bodyPost_ret (v := .tuple #[.agg #[.int .i64 0, .int .i64 0, .int .i64 0, .int .i64 0], .int .i64 9]) (by simp [results, Tryz.results160, go_sem, d0, d1, d2, d3]) rfl ⟨rfl, set4_below L (by omega) _ _ _ _⟩
  · rw [show szR ⟨x, y, n, m⟩ = ⟨x, y, n, m⟩ by simp [szR, h1], show szE ⟨x, y, n, m⟩ = 0 by simp [szE, h1]]
    go_enter Tryz.func160, Tryz.ntmps160
    go_wp2_with fail
    refine (check_any _ _ _ _ _ hx hy).mono ?_
    rintro e w1 ⟨rfl, hb⟩
    have F := ((fr1 w _ _ _).below hb).2
    obtain ⟨d0, d1, d2, d3⟩ := (At4.new' (w.alloc _) (w.heap.size + 1) 0 0 0 0 52 (by simp)).below hb
    obtain ⟨e0, e1, e2, e3⟩ := ((At4.new w x y n m 52).alloc _).below hb
    have L := (((Below.refl w.heap.size w).alloc (Nat.le_refl _) _).alloc (by simp) _).trans (hb.mono (by simp; omega))
    clear hb
    go_wp2
    exact bodyPost_ret (v := .tuple #[.agg #[.int .i64 x, .int .i64 y, .int .i64 n, .int .i64 m], .int .i64 0]) (by simp [results, Tryz.results160, go_sem, d0, d1, d2, d3]) rfl ⟨rfl, set4_below L (by omega) _ _ _ _⟩

set_option maxHeartbeats 1000000 in
theorem inset_any (x y n m k : Int) (w : World) (hx : I64 x) (hy : I64 y) :
    Calls Tryz.prog 126 #[.agg #[.int .i64 x, .int .i64 y, .int .i64 n, .int .i64 m], .int .i64 k] w fun e w' => e = .returned (.tuple #[.agg #[.int .i64 (insR x y n m k).x, .int .i64 (insR x y n m k).y, .int .i64 (insR x y n m k).w, .int .i64 (insR x y n m k).h], .int .i64 (insE x y n m k)]) ∧ Below w.heap.size w w' := by
  have hk := chk_ne x y n m
  have cs : mayB x y n m = false ∨ (mayB x y n m = true ∧ witB k (-16384) 16384 = false) ∨ (mayB x y n m = true ∧ witB k (-16384) 16384 = true ∧ emptyB x y n m = true) ∨ (mayB x y n m = true ∧ witB k (-16384) 16384 = true ∧ emptyB x y n m = false) := by
    cases mayB x y n m <;> cases witB k (-16384) 16384 <;> cases emptyB x y n m <;> simp
  rcases cs with h1 | ⟨h1, h2⟩ | ⟨h1, h2, h3⟩ | ⟨h1, h2, h3⟩
  · rw [show insR x y n m k = zr by simp [insR, h1], show insE x y n m k = 5 by simp [insE, h1]]
    go_enter Tryz.func126, Tryz.ntmps126
    go_wp2_with fail
    refine (check_any _ _ _ _ _ hx hy).mono ?_
    rintro e w1 ⟨rfl, hb⟩
    have F := (fr1 w _ _ _).below hb
    have C := (At4.new' (w.alloc _) (w.heap.size + 1) 0 0 0 0 52 (by simp)).below hb
    have A := ((At4.new w x y n m 52).alloc _).below hb
    have L := (((Below.refl w.heap.size w).alloc (Nat.le_refl _) _).alloc (by simp) _).trans (hb.mono (by simp; omega))
    clear hb
    replace F := F.2
    obtain ⟨d0, d1, d2, d3⟩ := id C
    go_wp2
    exact bodyPost_ret (v := .tuple #[.agg #[.int .i64 0, .int .i64 0, .int .i64 0, .int .i64 0], .int .i64 5]) (by simp [results, Tryz.results126, go_sem, d0, d1, d2, d3]) rfl ⟨rfl, set4_below L (by omega) _ _ _ _⟩
  · rw [show insR x y n m k = zr by simp [insR, h2], show insE x y n m k = 2 by simp [insE, h1, h2]]
    go_enter Tryz.func126, Tryz.ntmps126
    go_wp2_with fail
    refine (check_any _ _ _ _ _ hx hy).mono ?_
    rintro e w1 ⟨rfl, hb⟩
    have F := (fr1 w _ _ _).below hb
    have C := (At4.new' (w.alloc _) (w.heap.size + 1) 0 0 0 0 52 (by simp)).below hb
    have A := ((At4.new w x y n m 52).alloc _).below hb
    have L := (((Below.refl w.heap.size w).alloc (Nat.le_refl _) _).alloc (by simp) _).trans (hb.mono (by simp; omega))
    clear hb
    replace F := F.2
    obtain ⟨d0, d1, d2, d3⟩ := id C
    go_wp2_with (go_at_call 159; refine (within_any _ _ _ _).mono ?_; rintro e w' ⟨rfl, rfl⟩)
    exact bodyPost_ret (v := .tuple #[.agg #[.int .i64 0, .int .i64 0, .int .i64 0, .int .i64 0], .int .i64 2]) (by simp [results, Tryz.results126, go_sem, d0, d1, d2, d3]) rfl ⟨rfl, set4_below L (by omega) _ _ _ _⟩
  · rw [show insR x y n m k = zr by simp [insR, h3], show insE x y n m k = 0 by simp [insE, h1, h2, h3]]
    go_enter Tryz.func126, Tryz.ntmps126
    go_wp2_with fail
    refine (check_any _ _ _ _ _ hx hy).mono ?_
    rintro e w1 ⟨rfl, hb⟩
    have F := (fr1 w _ _ _).below hb
    have C := (At4.new' (w.alloc _) (w.heap.size + 1) 0 0 0 0 52 (by simp)).below hb
    have A := ((At4.new w x y n m 52).alloc _).below hb
    have L := (((Below.refl w.heap.size w).alloc (Nat.le_refl _) _).alloc (by simp) _).trans (hb.mono (by simp; omega))
    clear hb
    obtain ⟨e0, e1, e2, e3⟩ := id A
    go_wp2_with (go_at_call 159; refine (within_any _ _ _ _).mono ?_; rintro e w' ⟨rfl, rfl⟩)
    clear e0 e1 e2 e3
    refine (empty_any _ _ _ _ _ hx hy).mono ?_
    rintro e w2 ⟨rfl, hb⟩
    replace F := F.below hb
    replace C := C.below hb
    replace L := L.trans (hb.mono L.size)
    clear hb
    replace F := F.2
    obtain ⟨d0, d1, d2, d3⟩ := id C
    go_wp2
    exact bodyPost_ret (v := .tuple #[.agg #[.int .i64 0, .int .i64 0, .int .i64 0, .int .i64 0], .int .i64 0]) (by simp [results, Tryz.results126, go_sem, d0, d1, d2, d3]) rfl ⟨rfl, set4_below L (by omega) _ _ _ _⟩
  · rw [show insR x y n m k = szR (btw (x + k) (y + k) (x + n - k) (y + m - k)) by simp [insR, h1, h2, h3], show insE x y n m k = szE (btw (x + k) (y + k) (x + n - k) (y + m - k)) by simp [insE, h1, h2, h3]]
    obtain ⟨a1, a2, a3, a4, a5, a6, a7, a8, a9, a10⟩ := bounds_of h3
    obtain ⟨b1, b2⟩ := wit_iff.1 h2
    go_enter Tryz.func126, Tryz.ntmps126
    go_wp2_with fail
    refine (check_any _ _ _ _ _ hx hy).mono ?_
    rintro e w1 ⟨rfl, hb⟩
    have F := (fr1 w _ _ _).below hb
    have C := (At4.new' (w.alloc _) (w.heap.size + 1) 0 0 0 0 52 (by simp)).below hb
    have A := ((At4.new w x y n m 52).alloc _).below hb
    have L := (((Below.refl w.heap.size w).alloc (Nat.le_refl _) _).alloc (by simp) _).trans (hb.mono (by simp; omega))
    clear hb
    obtain ⟨e0, e1, e2, e3⟩ := id A
    go_wp2_with (go_at_call 159; refine (within_any _ _ _ _).mono ?_; rintro e w' ⟨rfl, rfl⟩)
    clear e0 e1 e2 e3
    refine (empty_any _ _ _ _ _ hx hy).mono ?_
    rintro e w2 ⟨rfl, hb⟩
    replace F := F.below hb
    replace A := A.below hb
    replace C := C.below hb
    replace L := L.trans (hb.mono L.size)
    clear hb
    obtain ⟨e0, e1, e2, e3⟩ := id A
    go_wp2_with fail
    clear e0 e1 e2 e3
    refine (end_any _ _ _ _ _ (by omega) (by omega) (by omega) (by omega) (by omega) (by omega) (by omega) (by omega)).mono ?_
    rintro e w3 ⟨rfl, hb⟩
    replace F := F.below hb
    replace A := A.below hb
    replace C := C.below hb
    replace L := L.trans (hb.mono L.size)
    clear hb
    have la := A.lt
    obtain ⟨e0, e1, e2, e3⟩ := id A
    go_wp2_with fail
    clear e0 e1 e2 e3 la
    refine (between_any _ _ _ _ _ (by omega) (by omega) (by omega) (by omega) (by omega) (by omega) (by omega) (by omega)).mono ?_
    rintro e w4 ⟨rfl, hb⟩
    replace F := (F.alloc _).below hb
    replace C := (C.alloc _).below hb
    replace L := (L.alloc L.size _).trans (hb.mono (by have := L.size; simp; omega))
    clear A hb
    go_wp2_with fail
    obtain ⟨g1, g2, g3, g4⟩ := btw_bd (x + k) (y + k) (x + n - k) (y + m - k) 100000 (by omega) (by omega) (by omega) (by omega) (by omega)
    refine (sized_any _ _ _ _ _ (i64_bd (by omega) (by omega)) (i64_bd (by omega) (by omega))).mono ?_
    rintro e w5 ⟨rfl, hb⟩
    replace F := (F.below hb).2
    replace C := C.below hb
    replace L := L.trans (hb.mono L.size)
    clear hb
    obtain ⟨d0, d1, d2, d3⟩ := id C
    go_wp2
    exact bodyPost_ret (v := .tuple #[.agg #[.int .i64 _, .int .i64 _, .int .i64 _, .int .i64 _], .int .i64 _]) (by simp [results, Tryz.results126, go_sem, d0, d1, d2, d3]) rfl ⟨rfl, set4_below L (by omega) _ _ _ _⟩

end Go.Proofs.YtapachlhdgehjaaGreatDoor

/-
  Package cells: border, boxRune.
-/
namespace Go.Proofs.YtapachlhdgehjaaGreatDoor
open Go.RowKit

def boxT : List Int := [0, 9474, 9474, 9474, 9472, 9484, 9488, 9474, 9472, 9492, 9496, 9474, 9472, 9472, 9472, 9633]
theorem edgN_at (p q n : Int) : edgN (p - q) n = (if p = q then 1 else 0) + (if p = q + n - 1 then 2 else 0) := by
  unfold edgN
  congr 1
  · by_cases h : p = q
    · rw [if_pos h, if_pos (by omega)]
    · rw [if_neg h, if_neg (by omega)]
  · by_cases h : p = q + n - 1
    · rw [if_pos h, if_pos (by omega)]
    · rw [if_neg h, if_neg (by omega)]
theorem box_frm {r : Rc} {px py : Int} (h : edgB r px py = true) (h1 : r.x ≤ px) (h2 : px < r.x + r.w) (h3 : r.y ≤ py) (h4 : py < r.y + r.h) : boxT.getD ((edgN (py - r.y) r.h).toNat * 4 + (edgN (px - r.x) r.w).toNat) 0 = frmR r px py := by
  unfold frmR
  rw [h, if_neg (show ¬ true = false by decide), edgN_at, edgN_at]
  have h' : px = r.x ∨ py = r.y ∨ px = r.x + r.w - 1 ∨ py = r.y + r.h - 1 := by
    unfold edgB at h
    simpa using h
  by_cases a1 : py = r.y <;> by_cases a2 : py = r.y + r.h - 1 <;> by_cases a3 : px = r.x <;> by_cases a4 : px = r.x + r.w - 1
  · rw [if_pos a1, if_pos a2, if_pos a3, if_pos a4, if_pos ⟨by omega, by omega⟩]
    rfl
  · rw [if_pos a1, if_pos a2, if_pos a3, if_neg a4, if_neg (by omega), if_neg (by omega), if_pos (by omega)]
    rfl
  · rw [if_pos a1, if_pos a2, if_neg a3, if_pos a4, if_neg (by omega), if_neg (by omega), if_pos (by omega)]
    rfl
  · rw [if_pos a1, if_pos a2, if_neg a3, if_neg a4, if_neg (by omega), if_neg (by omega), if_pos (by omega)]
    rfl
  · rw [if_pos a1, if_neg a2, if_pos a3, if_pos a4, if_neg (by omega), if_pos (by omega)]
    rfl
  · rw [if_pos a1, if_neg a2, if_pos a3, if_neg a4, if_neg (by omega), if_neg (by omega), if_neg (by omega), if_pos ⟨by omega, by omega⟩]
    rfl
  · rw [if_pos a1, if_neg a2, if_neg a3, if_pos a4, if_neg (by omega), if_neg (by omega), if_neg (by omega), if_neg (by omega), if_pos ⟨by omega, by omega⟩]
    rfl
  · rw [if_pos a1, if_neg a2, if_neg a3, if_neg a4, if_neg (by omega), if_neg (by omega), if_neg (by omega), if_neg (by omega), if_neg (by omega), if_neg (by omega), if_neg (by omega), if_pos (by omega)]
    rfl
  · rw [if_neg a1, if_pos a2, if_pos a3, if_pos a4, if_neg (by omega), if_pos (by omega)]
    rfl
  · rw [if_neg a1, if_pos a2, if_pos a3, if_neg a4, if_neg (by omega), if_neg (by omega), if_neg (by omega), if_neg (by omega), if_neg (by omega), if_pos ⟨by omega, by omega⟩]
    rfl
  · rw [if_neg a1, if_pos a2, if_neg a3, if_pos a4, if_neg (by omega), if_neg (by omega), if_neg (by omega), if_neg (by omega), if_neg (by omega), if_neg (by omega), if_pos ⟨by omega, by omega⟩]
    rfl
  · rw [if_neg a1, if_pos a2, if_neg a3, if_neg a4, if_neg (by omega), if_neg (by omega), if_neg (by omega), if_neg (by omega), if_neg (by omega), if_neg (by omega), if_neg (by omega), if_pos (by omega)]
    rfl
  · rw [if_neg a1, if_neg a2, if_pos a3, if_pos a4, if_neg (by omega), if_pos (by omega)]
    rfl
  · rw [if_neg a1, if_neg a2, if_pos a3, if_neg a4, if_neg (by omega), if_neg (by omega), if_neg (by omega), if_neg (by omega), if_neg (by omega), if_neg (by omega), if_neg (by omega), if_neg (by omega)]
    rfl
  · rw [if_neg a1, if_neg a2, if_neg a3, if_pos a4, if_neg (by omega), if_neg (by omega), if_neg (by omega), if_neg (by omega), if_neg (by omega), if_neg (by omega), if_neg (by omega), if_neg (by omega)]
    rfl
  · exfalso; omega

end Go.Proofs.YtapachlhdgehjaaGreatDoor

/-
  Package cells: border, boxRune.
-/
namespace Go.Proofs.YtapachlhdgehjaaGreatDoor
open Go.RowKit

def bordL (r : Rc) : List Rc := lesL r.x r.y r.w r.h (insR r.x r.y r.w r.h 1).x (insR r.x r.y r.w r.h 1).y (insR r.x r.y r.w r.h 1).w (insR r.x r.y r.w r.h 1).h
theorem border_any (r : Rc) (w : World) (hx : I64 r.x) (hy : I64 r.y) (hi : I64 (insR r.x r.y r.w r.h 1).x) (hj : I64 (insR r.x r.y r.w r.h 1).y) :
    Calls Tryz.prog 94 #[.agg #[.int .i64 r.x, .int .i64 r.y, .int .i64 r.w, .int .i64 r.h]] w fun e w' =>
      ∃ v, e = .returned v ∧ w'.ownsRow w.heap.size 52 4 v (bordL r).length (flat (bordL r)) ∧ Below w.heap.size w w' := by
  have hq : insR r.x r.y r.w r.h 1 = ⟨(insR r.x r.y r.w r.h 1).x, (insR r.x r.y r.w r.h 1).y, (insR r.x r.y r.w r.h 1).w, (insR r.x r.y r.w r.h 1).h⟩ := rfl
  obtain ⟨x, y, n, m⟩ := r
  simp only at hx hy hi hj ⊢
  have H1 := inset_any x y n m 1
  have H2 := less_any x y n m (insR x y n m 1).x (insR x y n m 1).y (insR x y n m 1).w (insR x y n m 1).h
  have hl : bordL ⟨x, y, n, m⟩ = lesL x y n m (insR x y n m 1).x (insR x y n m 1).y (insR x y n m 1).w (insR x y n m 1).h := rfl
  rw [hl]
  clear hl hq
  generalize lesL x y n m (insR x y n m 1).x (insR x y n m 1).y (insR x y n m 1).w (insR x y n m 1).h = l at *
  generalize lesE x y n m (insR x y n m 1).x (insR x y n m 1).y (insR x y n m 1).w (insR x y n m 1).h = le at *
  generalize (insR x y n m 1).x = i0 at *
  generalize (insR x y n m 1).y = i1 at *
  generalize (insR x y n m 1).w = i2 at *
  generalize (insR x y n m 1).h = i3 at *
  generalize insE x y n m 1 = ie at *
  replace H1 := fun w => H1 w hx hy
  replace H2 := fun w => H2 w hx hy hi hj
  have G1 : Hid (∀ w, Calls Tryz.prog 126 #[.agg #[.int .i64 x, .int .i64 y, .int .i64 n, .int .i64 m], .int .i64 1] w fun e w' => e = .returned (.tuple #[.agg #[.int .i64 i0, .int .i64 i1, .int .i64 i2, .int .i64 i3], .int .i64 ie]) ∧ Below w.heap.size w w') := H1
  have G2 : Hid (∀ w, Calls Tryz.prog 127 #[.agg #[.int .i64 x, .int .i64 y, .int .i64 n, .int .i64 m], .agg #[.int .i64 i0, .int .i64 i1, .int .i64 i2, .int .i64 i3]] w fun e w' => ∃ v, e = .returned (.tuple #[v, .int .i64 le]) ∧ w'.ownsRow w.heap.size 52 4 v l.length (flat l) ∧ Below w.heap.size w w') := H2
  clear H1 H2 hx hy hi hj
  go_enter Tryz.func94, Tryz.ntmps94
  have A := At4.new w x y n m 52
  have L := (Below.refl w.heap.size w).alloc (Nat.le_refl _) (.cells #[.int .i64 x, .int .i64 y, .int .i64 n, .int .i64 m] 52)
  obtain ⟨d0, d1, d2, d3⟩ := id A
  go_wp2_with fail
  clear d0 d1 d2 d3
  refine (G1.out _).mono ?_
  rintro e w1 ⟨rfl, hb⟩
  replace A := A.below hb
  replace L := L.trans (hb.mono L.size)
  clear hb
  have B := At4.new w1 i0 i1 i2 i3 52
  replace A := A.alloc (.cells #[.int .i64 i0, .int .i64 i1, .int .i64 i2, .int .i64 i3] 52)
  replace L := L.alloc L.size (.cells #[.int .i64 i0, .int .i64 i1, .int .i64 i2, .int .i64 i3] 52)
  obtain ⟨d0, d1, d2, d3⟩ := id A
  obtain ⟨e0, e1, e2, e3⟩ := id B
  go_wp2_with fail
  clear d0 d1 d2 d3 e0 e1 e2 e3
  refine (G2.out _).mono ?_
  rintro e w2 ⟨v, rfl, hv, hb⟩
  replace hv := hv.mono (base' := w.heap.size) L.size
  replace L := L.trans (hb.mono L.size)
  have HV : Hid (w2.ownsRow w.heap.size 52 4 v l.length (flat l) ∧ Below w.heap.size w w2) := ⟨hv, L⟩
  clear hb hv L A B
  go_wp2
  go_ret
  exact ⟨_, rfl, HV.out.1, HV.out.2⟩

def BoxM (w : World) : Prop := ∀ i j : Nat, i < 4 → j < 4 → w.cell? ⟨1, i * 4 + j, none⟩ = some (.int .i32 (boxT.getD (i * 4 + j) 0))
theorem edg_nat (k n : Int) : ∃ i : Nat, i < 4 ∧ edgN k n = i := by
  obtain ⟨h1, h2⟩ := edgN_bd k n
  exact ⟨(edgN k n).toNat, by omega, by omega⟩
theorem BoxM.bl {w : World} (h : BoxM w) : 1 < w.heap.size := by
  have h0 := h 0 0 (by omega) (by omega)
  rcases Nat.lt_or_ge 1 w.heap.size with h1 | h1
  · exact h1
  · rw [World.cell?, Array.getElem?_eq_none h1] at h0
    cases h0
set_option maxHeartbeats 1000000 in
theorem boxRune_any (r : Rc) (px py : Int) (w : World) (hB : BoxM w) (h1 : -100000 ≤ r.x ∧ r.x ≤ 100000) (h2 : -100000 ≤ r.y ∧ r.y ≤ 100000) (h3 : -100000 ≤ r.w ∧ r.w ≤ 100000) (h4 : -100000 ≤ r.h ∧ r.h ≤ 100000) (h5 : -100000 ≤ px ∧ px ≤ 100000) (h6 : -100000 ≤ py ∧ py ≤ 100000) :
    Calls Tryz.prog 95 #[.agg #[.int .i64 r.x, .int .i64 r.y, .int .i64 r.w, .int .i64 r.h], .agg #[.int .i64 px, .int .i64 py]] w fun e w' =>
      e = .returned (.int .i32 (boxT.getD ((edgN (py - r.y) r.h).toNat * 4 + (edgN (px - r.x) r.w).toNat) 0)) ∧ Below w.heap.size w w' := by
  obtain ⟨x, y, n, m⟩ := r
  simp only at h1 h2 h3 h4 ⊢
  have G1 := fun w => edgesC_any (py - y) m w h4
  have G2 := fun w => edgesC_any (px - x) n w h3
  obtain ⟨i, hi, ei⟩ := edg_nat (py - y) m
  obtain ⟨j, hj, ej⟩ := edg_nat (px - x) n
  rw [ei] at G1 ⊢
  rw [ej] at G2 ⊢
  clear ei ej
  have w1 : IntKind.i64.wrap (py - y) = py - y := by rw [IntKind.wrap_i64]; omega
  have w2 : IntKind.i64.wrap (px - x) = px - x := by rw [IntKind.wrap_i64]; omega
  have K1 : Hid (∀ w, Calls Tryz.prog 128 #[.int .i64 (py - y), .int .i64 m] w fun e w' => e = .returned (.int .i64 i) ∧ w' = w) := G1
  have K2 : Hid (∀ w, Calls Tryz.prog 128 #[.int .i64 (px - x), .int .i64 n] w fun e w' => e = .returned (.int .i64 j) ∧ w' = w) := G2
  have hb0 := hB.bl
  have hc := hB i j hi hj
  have ht : Hid (boxT.getD (((i : Nat) : Int).toNat * 4 + ((j : Nat) : Int).toNat) 0 = boxT.getD (i * 4 + j) 0) := rfl
  rw [ht.out]
  generalize boxT.getD (i * 4 + j) 0 = rv at *
  clear G1 G2 h1 h2 h3 h4 h5 h6 hB ht
  go_enter Tryz.func95, Tryz.ntmps95
  go_wp2_with fail
  have A := (At4.new w x y n m 52).alloc (.cells #[.int .i64 px, .int .i64 py] 50)
  have B := At2.new' (w.alloc (.cells #[.int .i64 x, .int .i64 y, .int .i64 n, .int .i64 m] 52)) (w.heap.size + 1) px py 50 (by simp)
  have L := ((Below.refl w.heap.size w).alloc (Nat.le_refl _) (.cells #[.int .i64 x, .int .i64 y, .int .i64 n, .int .i64 m] 52)).alloc (by simp) (.cells #[.int .i64 px, .int .i64 py] 50)
  replace hc := (L.cell (p := ⟨1, i * 4 + j, none⟩) hb0).trans hc
  generalize (w.alloc (.cells #[.int .i64 x, .int .i64 y, .int .i64 n, .int .i64 m] 52)).alloc (.cells #[.int .i64 px, .int .i64 py] 50) = W at *
  obtain ⟨d0, d1, d2, d3⟩ := id A
  obtain ⟨e0, e1⟩ := id B
  have HL : Hid (Below w.heap.size w W) := L
  clear A B L
  go_quiet (first
    | (go_at_call_of 128 (Value.int .i64 (py - y)); exact Calls.quiet_of_same (K1.out _))
    | (go_at_call_of 128 (Value.int .i64 (px - x)); exact Calls.quiet_of_same (K2.out _)))
  go_wp2
  go_ret
  have h := HL.out
  exact ⟨rfl, ⟨h.os, h.tape, h.output, h.size, h.block⟩⟩

end Go.Proofs.YtapachlhdgehjaaGreatDoor
