/-
  Contracts of package region: what two rows have together; the rectangles that have places, the leftmost first.
-/
import Derived.Test.YtagkbpceiedikaaGF
import Derived.Test.YtagkbpceiedikaaGS
namespace Go.Proofs.Ytagkbpceiedikaa
open Go.RowKit Go.Sort Go.Shelf

theorem shared_any (S C : List Sp) (v u : Value) (w : World) (hv : SpL w v S) (hu : SpL w u C) (hS : S.length ≤ 400000) (hC : C.length ≤ 400000) :
    Calls Try.prog 52 #[v, u] w fun e w' => ∃ z, e = .returned z ∧ SpL w' z (piecesF S (piecesF S C)) ∧ Below w.heap.size w w' := by
  have hl := pieces_len S C
  have H1 : Hid (Calls Try.prog 44 #[v, u] w fun e w' => ∃ z, e = .returned z ∧ SpL w' z (piecesF S C) ∧ Below w.heap.size w w') := pieces_any S C v u w hv hu (by omega) (by omega)
  have H2 : Hid (∀ z w', SpL w' z (piecesF S C) → SpL w' v S → Calls Try.prog 44 #[v, z] w' fun e w'' => ∃ y, e = .returned y ∧ SpL w'' y (piecesF S (piecesF S C)) ∧ Below w'.heap.size w' w'') := fun z w' hz hv' => pieces_any S (piecesF S C) v z w' hv' hz (by omega) (by omega)
  have HV : Hid (SpL w v S) := hv
  clear hv hu hl
  go_enter Try.func52, Try.ntmps52
  go_wp2_with fail
  refine H1.out.mono ?_
  rintro e w1 ⟨z, rfl, hz, hb⟩
  have HZ : Hid (SpL w1 z (piecesF S C) ∧ SpL w1 v S ∧ Below w.heap.size w w1) := ⟨hz, HV.out.below hb, hb⟩
  clear hz hb
  go_wp2_with fail
  refine (H2.out _ _ HZ.out.1 HZ.out.2.1).mono ?_
  rintro e w2 ⟨y, rfl, hy, hb⟩
  have HY : Hid (SpL w2 y (piecesF S (piecesF S C)) ∧ Below w.heap.size w w2) := ⟨hy, HZ.out.2.2.trans (hb.mono HZ.out.2.2.size)⟩
  clear hy hb
  go_wp2
  go_ret
  exact ⟨_, rfl, HY.out.1, HY.out.2⟩

/-- A rectangle as four numbers. -/
abbrev Q4 := Int × Int × Int × Int
def tq (r : Rc) : Q4 := (r.x, r.y, r.w, r.h)
def qt (q : Q4) : Rc := ⟨q.1, q.2.1, q.2.2.1, q.2.2.2⟩
def encQ (q : Q4) : List Value := [.int .i64 q.1, .int .i64 q.2.1, .int .i64 q.2.2.1, .int .i64 q.2.2.2]
def cfQ (p q : Q4) : Int := Lib.compareInt p.1 q.1
theorem ltQ (p q : Q4) : ltOf cfQ p q = decide (p.1 < q.1) := by
  unfold ltOf cfQ Lib.compareInt
  split
  · next h => simp [h]
  · next h =>
    split
    · simp [h]
    · simp [h]
theorem swoQ : SWO (ltOf cfQ) := ⟨fun x => by rw [ltQ]; simp, fun x y z h1 h2 => by rw [ltQ, decide_eq_true_eq] at *; omega, fun x y z h1 h2 => by rw [ltQ, decide_eq_false_iff_not] at *; omega⟩

set_option maxHeartbeats 1000000 in
theorem cmp_clo (x y : Q4) (W : World) : Calls Try.prog 82 #[.agg (encQ x).toArray, .agg (encQ y).toArray] W fun e w' => e = .returned (.int .i64 (cfQ x y)) ∧ ∃ q os', w' = grow (W.drewN q) os' := by
  have hcon := fun W' => AnyG.cmp_Compare_int Try.cmpInt x.1 y.1 W'
  change ∀ W', Calls Try.prog 83 _ _ _ at hcon
  have e : cfQ x y = Lib.compareInt x.1 y.1 := rfl
  rw [e]
  generalize Lib.compareInt x.1 y.1 = r at hcon ⊢
  have e1 : (encQ x).toArray = #[.int .i64 x.1, .int .i64 x.2.1, .int .i64 x.2.2.1, .int .i64 x.2.2.2] := rfl
  have e2 : (encQ y).toArray = #[.int .i64 y.1, .int .i64 y.2.1, .int .i64 y.2.2.1, .int .i64 y.2.2.2] := rfl
  rw [e1, e2]
  go_enter Try.func82, Try.ntmps82
  go_wp2_with (go_at_call 83; refine (hcon _).mono ?_; rintro e w' ⟨rfl, rfl⟩)
  go_ret
  exact ⟨rfl, 0, _, by rw [alloc_eq_grow, alloc_eq_grow, grow_grow]; rfl⟩

theorem holds_own {w : World} {base g cap : Nat} {e : TypeId} {ks : List Rc} (h : w.ownsRow base e 4 (.slice (some ⟨g, 0, none⟩) ks.length cap) ks.length (flat ks)) : HoldsK encQ 4 w g 0 (ks.map tq).toArray := by
  intro j hj
  rw [size_flatK] at hj
  have hj' : j < ks.length * 4 := by simpa using hj
  refine ⟨?_, own_frozen h _⟩
  rw [get_flatK _ _ _ _ hj, Nat.zero_add, own_cell h j hj']
  have hq : j / 4 < ks.length := by omega
  have e0 : (ks.map tq).toArray[j / 4]! = tq ks[j / 4] := by simp [hq]
  rw [e0]
  obtain ⟨f0, f1, f2, f3⟩ := flat_at ks (j / 4) hq
  generalize ks[j / 4] = r at f0 f1 f2 f3 ⊢
  rcases (show j % 4 = 0 ∨ j % 4 = 1 ∨ j % 4 = 2 ∨ j % 4 = 3 by omega) with h | h | h | h
  · rw [h]; rw [show j = j / 4 * 4 by omega, f0]; rfl
  · rw [h]; rw [show j = j / 4 * 4 + 1 by omega, f1]; rfl
  · rw [h]; rw [show j = j / 4 * 4 + 2 by omega, f2]; rfl
  · rw [h]; rw [show j = j / 4 * 4 + 3 by omega, f3]; rfl
theorem sorted_below {B : Nat} {w0 w : World} (h : Below B w0 w) (blk n : Nat) (d : Array Q4) (os : Array Obj) (hb : B ≤ blk) (hB : B ≤ w.heap.size) : Below B w0 (sortWorldK encQ 4 w blk 0 n d os) := by
  have hz : (sortWorldK encQ 4 w blk 0 n d os).heap.size = w.heap.size + os.size := by
    unfold sortWorldK
    rw [size_grow]
    congr 1
    unfold putRowK
    rw [size_putRow]
    rfl
  refine ⟨h.os, h.tape, h.output, by rw [hz]; have := h.size; omega, fun k hk => ?_⟩
  unfold sortWorldK
  rw [heap_grow_old _ _ (by unfold putRowK; rw [size_putRow]; show k < w.heap.size; omega)]
  unfold putRowK putRow mapBlock
  show (w.heap.modify blk _)[k]? = _
  rw [Array.getElem?_modify, if_neg (by omega)]
  exact h.block k hk
theorem sortX_of : ∀ (L : List Rc) (a : Int), (∀ r ∈ L, a ≤ r.x ∧ 0 < r.w) → L.Pairwise (fun r q => r.x ≤ q.x) → SortX a L
  | [], _, _, _ => trivial
  | r :: t, a, h, hp => by
    obtain ⟨h1, h2⟩ := List.pairwise_cons.1 hp
    exact ⟨(h r (by simp)).1, (h r (by simp)).2, sortX_of t r.x (fun q hq => ⟨h1 q hq, (h q (by simp [hq])).2⟩) h2⟩

def SInv (rs : List Rc) (w : World) (k : Nat) (v : Value) (wr : World) : Prop :=
  k ≤ rs.length ∧ wr.ownsRow w.heap.size 35 4 v ((rs.take k).filter keepE).length (flat ((rs.take k).filter keepE)) ∧ Below w.heap.size w wr
theorem cell_fourB (w : World) (x y n m : Value) (t : TypeId) (b : Nat) (h : b = w.heap.size) : ∀ (j : Nat) (u : Value), [x, y, n, m][j]? = some u → (w.alloc (.cells #[x, y, n, m] t)).cell? ((⟨b, 0, none⟩ : Addr).add j) = some u := by
  intro j u hj
  subst h
  match j, hj with
  | 0, hj => simp at hj; subst hj; simp [Addr.add]
  | 1, hj => simp at hj; subst hj; simp [Addr.add]
  | 2, hj => simp at hj; subst hj; simp [Addr.add]
  | 3, hj => simp at hj; subst hj; simp [Addr.add]
theorem one4 (r : Rc) : ∀ u ∈ [Value.int .i64 r.x, .int .i64 r.y, .int .i64 r.w, .int .i64 r.h], u.oneCell' = true := by
  intro u hu
  simp at hu
  rcases hu with rfl | rfl | rfl | rfl <;> rfl

set_option maxRecDepth 10000 in
set_option maxHeartbeats 4000000 in
theorem solid_any (rs : List Rc) (v : Value) (w : World) (hv : LsR w v rs) (hs : ∀ r ∈ rs, I64 r.x ∧ I64 r.y) (hl : rs.length ≤ 1000000) :
    Calls Try.prog 70 #[v] w fun e w' => ∃ (u : Value) (L : List Rc), e = .returned u ∧ LsR w' u L ∧ SortX (-16384) L ∧ (∀ q, q ∈ L ↔ q ∈ rs ∧ keepE q = true) ∧ L.length ≤ rs.length ∧ Below w.heap.size w w' := by
  obtain ⟨oa, cap, rfl, hc, hg⟩ := hv
  have HG : Hid (0 < rs.length → ∃ g o, oa = some ⟨g, o, none⟩ ∧ g < w.heap.size ∧ ∀ i (h : i < rs.length), RcAt w g (o + i * 4) rs[i]) := hg
  have HH : Hid (∀ r ∈ rs, I64 r.x ∧ I64 r.y) := hs
  obtain ⟨i0, hi, hz0, hz1, hz2⟩ := info_parts info_rect
  have HI : Hid (Try.prog.info? 35 = some i0 ∧ i0.zero = some (.agg #[.int .i64 0, .int .i64 0, .int .i64 0, .int .i64 0]) ∧ i0.size = 4 ∧ i0.bytes = 32) := ⟨hi, hz0, hz1, hz2⟩
  clear hg hs hi hz0 hz1 hz2
  go_enter Try.func70, Try.ntmps70
  go_wp2_with fail
  go_loopw [3, 8] (fun v i wr => ∃ k : Nat, i = .int .i64 k ∧ SInv rs w k v wr) (fun _ i _ => rs.length - (intOf i).toNat)
  case atStart => exact ⟨0, rfl, Nat.zero_le _, World.ownsRow_nil _ _ _ _, Below.refl _ _⟩
  case round =>
    obtain ⟨k, rfl, hI⟩ := hrel
    have HV : Hid (SInv rs w k u3 wr) := hI
    obtain ⟨hkl, hown, hBr⟩ := hI
    by_cases hlt : k < rs.length
    · obtain ⟨g, o, rfl, hg, hat⟩ := HG.out (by omega)
      have hx := (hat k hlt).kept (w' := wr) fun j => hBr.cell (p := ⟨g, j, none⟩) hg
      have e1 : rs.take (k + 1) = rs.take k ++ [rs[k]] := (List.take_append_getElem hlt).symm
      obtain ⟨i1, i2⟩ := HH.out _ (List.getElem_mem hlt)
      have HE : Hid (∀ w, Calls Try.prog 67 #[.agg #[.int .i64 rs[k].x, .int .i64 rs[k].y, .int .i64 rs[k].w, .int .i64 rs[k].h]] w fun e w' => e = .returned (.bool (emptyB rs[k].x rs[k].y rs[k].w rs[k].h)) ∧ Below w.heap.size w w') := fun w => empty_any _ _ _ _ w i1 i2
      have hkl2 : ((rs.take k).filter keepE).length ≤ k := by
        have := List.length_filter_le keepE (rs.take k)
        rw [List.length_take] at this
        omega
      have hke : keepE rs[k] = !emptyB rs[k].x rs[k].y rs[k].w rs[k].h := rfl
      generalize rs[k] = x at *
      obtain ⟨ks, hks⟩ : ∃ ks, ks = (rs.take k).filter keepE := ⟨_, rfl⟩
      rw [← hks] at hown hkl2
      have HK : Hid (ks = (rs.take k).filter keepE ∧ rs.take (k + 1) = rs.take k ++ [x] ∧ keepE x = !emptyB x.x x.y x.w x.h) := ⟨hks, e1, hke⟩
      obtain ⟨x0, x1, x2, x3⟩ := hx
      have HW : Hid (∀ W, Below wr.heap.size wr W → W.ownsRow w.heap.size 35 4 u3 ks.length (flat ks) ∧ Below w.heap.size w W) := by
        intro W hb
        have := HV.out.2.1
        rw [← HK.out.1] at this
        exact ⟨row_below this hb, HV.out.2.2.trans (hb.mono HV.out.2.2.size)⟩
      clear hown hBr hat e1 hke hks i1 i2
      have hb0 : Hid (Below wr.heap.size wr (wr.alloc (.cells #[.int .i64 x.x, .int .i64 x.y, .int .i64 x.w, .int .i64 x.h] 35)) ∧ Bk (wr.alloc (.cells #[.int .i64 x.x, .int .i64 x.y, .int .i64 x.w, .int .i64 x.h] 35)) wr.heap.size #[.int .i64 x.x, .int .i64 x.y, .int .i64 x.w, .int .i64 x.h] 35) := ⟨(Below.refl _ wr).alloc (Nat.le_refl _) _, Bk.new _ _ _⟩
      cases hem : emptyB x.x x.y x.w x.h
      · rw [hem] at HE
        go_wp2_with fail
        refine (HE.out _).mono ?_
        rintro e w1 ⟨rfl, hb⟩
        have HB1 : Hid (Below wr.heap.size wr w1 ∧ Bk w1 wr.heap.size #[.int .i64 x.x, .int .i64 x.y, .int .i64 x.w, .int .i64 x.h] 35) := ⟨hb0.out.1.trans (hb.mono hb0.out.1.size), hb0.out.2.below hb⟩
        clear hb x0 x1 x2 x3
        have y0 : w1.cell? ⟨wr.heap.size, 0, none⟩ = some (.int .i64 x.x) := by rw [HB1.out.2.cell]; rfl
        have y1 : w1.cell? ⟨wr.heap.size, 1, none⟩ = some (.int .i64 x.y) := by rw [HB1.out.2.cell]; rfl
        have y2 : w1.cell? ⟨wr.heap.size, 2, none⟩ = some (.int .i64 x.w) := by rw [HB1.out.2.cell]; rfl
        have y3 : w1.cell? ⟨wr.heap.size, 3, none⟩ = some (.int .i64 x.h) := by rw [HB1.out.2.cell]; rfl
        have hc3 : Hid (ks.length + 1 ≤ maxLen) := by unfold Hid maxLen; omega
        have hc4 : Hid ((ks.length + 1) * 32 ≤ 140737488355328) := by unfold Hid; omega
        have HA : Hid (∀ o, (w1.alloc o).ownsRow w.heap.size 35 4 u3 ks.length (flat ks) ∧ Below w.heap.size w (w1.alloc o)) := fun o => HW.out _ (HB1.out.1.alloc HB1.out.1.size o)
        obtain ⟨hi, hz0, hz1, hz2⟩ := HI.out
        go_wp2_with (at_builtin; refine wpList_append_own _ rfl _ _ 23 rfl w.heap.size 35 i0 (.agg #[.int .i64 0, .int .i64 0, .int .i64 0, .int .i64 0]) 4 32 Try.underlying23 hi hz0 hz1 hz2 rfl (by decide) u3 ks.length (flat ks) rfl (HA.out _).1 _ 1 1 [.int .i64 x.x, .int .i64 x.y, .int .i64 x.w, .int .i64 x.h] rfl rfl (cell_fourB _ _ _ _ _ _ _ rfl) (one4 x) hc3.out hc4.out (HA.out _).2.size ?_)
        intro v' w4 hown' hgrow hnil
        have HRel : Hid (∃ k' : Nat, Value.int .i64 ((k : Int) + 1) = .int .i64 k' ∧ SInv rs w k' v' w4) := by
          refine ⟨k + 1, by go_num, by omega, ?_, app_below (HA.out _).2 (HA.out _).1 (Nat.le_refl _) hgrow⟩
          rw [HK.out.2.1, List.filter_append, ← HK.out.1, List.filter_cons, if_pos (by rw [HK.out.2.2, hem]; rfl), List.filter_nil, List.length_append, flat_app]
          exact hown'
        clear hown' hgrow hnil hi hz0 hz1 hz2
        go_wp2
        exact ⟨HRel.out, by simp [intOf]; omega⟩
      · rw [hem] at HE
        go_wp2_with fail
        refine (HE.out _).mono ?_
        rintro e w1 ⟨rfl, hb⟩
        have HB1 : Hid (Below wr.heap.size wr w1) := hb0.out.1.trans (hb.mono hb0.out.1.size)
        have HRel : Hid (∃ k' : Nat, Value.int .i64 ((k : Int) + 1) = .int .i64 k' ∧ SInv rs w k' u3 w1) := by
          refine ⟨k + 1, by go_num, by omega, ?_, (HW.out _ HB1.out).2⟩
          rw [HK.out.2.1, List.filter_append, ← HK.out.1, List.filter_cons, if_neg (by rw [HK.out.2.2, hem]; simp), List.filter_nil, List.append_nil]
          exact (HW.out _ HB1.out).1
        clear hb x0 x1 x2 x3
        go_wp2
        exact ⟨HRel.out, by simp [intOf]; omega⟩
    · obtain rfl : k = rs.length := by omega
      rw [List.take_length] at hown
      obtain ⟨ks, hks⟩ : ∃ ks, ks = rs.filter keepE := ⟨_, rfl⟩
      rw [← hks] at hown
      have HKs : Hid (ks = rs.filter keepE) := hks
      obtain ⟨oa2, cap2, rfl, hcap2, hoa⟩ := row_val hown
      have HO : Hid (wr.ownsRow w.heap.size 35 4 (.slice oa2 ks.length cap2) ks.length (flat ks) ∧ Below w.heap.size w wr) := ⟨hown, hBr⟩
      have hkz : ks.length ≤ rs.length := by rw [hks]; exact List.length_filter_le _ _
      clear hown hBr hks
      by_cases h0 : ks.length = 0
      · have hnone := fun W => AnyF.slices_SortFunc_none Try.sortR oa2 cap2 (.func (.func 82) #[] #[]) W
        change ∀ W, Calls Try.prog 81 _ _ _ at hnone
        have hkn : ks = [] := List.length_eq_zero_iff.1 h0
        have HN : Hid (∃ L : List Rc, LsR wr (.slice oa2 ks.length cap2) L ∧ SortX (-16384) L ∧ (∀ q, q ∈ L ↔ q ∈ rs ∧ keepE q = true) ∧ L.length ≤ rs.length) := by
          refine ⟨[], ⟨oa2, cap2, by rw [hkn], Nat.zero_le _, fun h => absurd h (Nat.lt_irrefl 0)⟩, trivial, fun q => ?_, Nat.zero_le _⟩
          rw [← List.mem_filter, ← HKs.out, hkn]
        rw [h0] at *
        clear hkn h0
        go_wp2_with fail
        refine (hnone _).mono ?_
        rintro e w1 ⟨rfl, rfl⟩
        go_wp2
        go_ret
        obtain ⟨L, l1, l2, l3, l4⟩ := HN.out
        exact ⟨_, L, rfl, l1, l2, l3, l4, HO.out.2⟩
      · obtain ⟨g, rfl, hg1, hg2⟩ := hoa (by omega)
        have eg : ∀ args w, (callFunc 82 args).run Try.prog w = .ok (.enter 82 args) w := enters_of Try.func82 (by kernel_rfl) rfl
        have hds : (ks.map tq).toArray.size = ks.length := by simp
        have hcon := AnyQ.slices_SortFunc Try.sortR 4 Try.isAgg35 Try.sizeOf35 encQ (fun _ => rfl) (fun x v hv => by simp [encQ] at hv; rcases hv with rfl | rfl | rfl | rfl <;> rfl) cfQ swoQ 82 #[] g 0 cap2 (ks.map tq).toArray wr eg (fun _ _ _ _ x y => cmp_clo x y _) (holds_own HO.out.1) hg2 (by rw [hds]; omega)
        change Calls Try.prog 81 _ _ _ at hcon
        rw [hds] at hcon
        have HCon : Hid (Calls Try.prog 81 #[.slice (some ⟨g, 0, none⟩) ks.length cap2, .func (.func 82) #[] #[]] wr fun e w' => e = .returned (.tuple #[]) ∧ ∃ L : List Rc, LsR w' (.slice (some ⟨g, 0, none⟩) ks.length cap2) L ∧ SortX (-16384) L ∧ (∀ q, q ∈ L ↔ q ∈ rs ∧ keepE q = true) ∧ L.length ≤ rs.length ∧ Below w.heap.size w w') := by
          refine hcon.mono ?_
          rintro e w' ⟨he, d', n, os, hp, hso, rfl⟩
          refine ⟨he, d'.toList.map qt, ?_⟩
          obtain ⟨hp1, _, hp3⟩ := hp
          have hd1 : d'.size = ks.length := by rw [hp1, hds]
          have hperm : d'.toList.Perm (ks.map tq) := by
            have a1 : d'.extract 0 ks.length = d' := by rw [← hd1]; exact Array.extract_size
            have a2 : (ks.map tq).toArray.extract 0 ks.length = (ks.map tq).toArray := by rw [← hds]; exact Array.extract_size
            rw [a1, a2] at hp3
            simpa using hp3
          have hmem : ∀ q, q ∈ d'.toList.map qt ↔ q ∈ ks := by
            intro q
            rw [List.mem_map]
            constructor
            · rintro ⟨x, hx, rfl⟩
              obtain ⟨r, hr, rfl⟩ := List.mem_map.1 (hperm.mem_iff.1 hx)
              exact hr
            · intro hq
              exact ⟨tq q, hperm.mem_iff.2 (List.mem_map.2 ⟨q, hq, rfl⟩), rfl⟩
          have hmem2 : ∀ q, q ∈ d'.toList.map qt ↔ q ∈ rs ∧ keepE q = true := fun q => by rw [hmem, HKs.out, List.mem_filter]
          have hlen : (d'.toList.map qt).length = ks.length := by simp [hd1]
          have hH := holdsK_sortWorldK_c encQ 4 wr g 0 (ks.map tq).toArray d' n os (holds_own HO.out.1) hg2 (by rw [hp1])
          refine ⟨⟨_, cap2, by rw [hlen], by rw [hlen]; exact hcap2, fun _ => ⟨g, 0, rfl, ?_, fun i hi => ?_⟩⟩, sortX_of _ _ ?_ ?_, hmem2, by rw [hlen]; exact hkz, sorted_below HO.out.2 g n d' os hg1 HO.out.2.size⟩
          · exact Nat.lt_of_lt_of_le hg2 (size_sortWorldK_c encQ 4 wr g 0 n d' os)
          · have hi' : i < d'.size := by rw [hlen] at hi; omega
            have ed : d'[i]! = d'[i] := by simp [hi']
            have eq : (d'.toList.map qt)[i] = qt d'[i] := by simp
            rw [eq]
            have c0 := (hH.cell hi' (show 0 < 4 by omega)).1
            have c1 := (hH.cell hi' (show 1 < 4 by omega)).1
            have c2 := (hH.cell hi' (show 2 < 4 by omega)).1
            have c3 := (hH.cell hi' (show 3 < 4 by omega)).1
            rw [ed] at c0 c1 c2 c3
            exact ⟨c0, c1, c2, c3⟩
          · intro r hr
            have := (keepE_iff r).1 ((hmem2 r).1 hr).2
            exact ⟨this.1, this.2.1⟩
          · rw [List.pairwise_map, List.pairwise_iff_getElem]
            intro i j hi hj hij
            have hj' : j < d'.size := by simpa using hj
            have hi' : i < d'.size := by omega
            have h := hso i j (Nat.zero_le _) hij (by omega)
            rw [ltQ, decide_eq_false_iff_not] at h
            have e1 : d'[i]! = d'[i] := by simp [hi']
            have e2 : d'[j]! = d'[j] := by simp [hj']
            rw [e1, e2] at h
            simp only [Array.getElem_toList]
            show (d'[i]).1 ≤ (d'[j]).1
            omega
        clear hcon hoa
        go_wp2_with fail
        refine HCon.out.mono ?_
        rintro e w1 ⟨rfl, hL⟩
        have HL : Hid (∃ L : List Rc, LsR w1 (.slice (some ⟨g, 0, none⟩) ks.length cap2) L ∧ SortX (-16384) L ∧ (∀ q, q ∈ L ↔ q ∈ rs ∧ keepE q = true) ∧ L.length ≤ rs.length ∧ Below w.heap.size w w1) := hL
        clear hL
        go_wp2
        go_ret
        obtain ⟨L, l1, l2, l3, l4, l5⟩ := HL.out
        exact ⟨_, L, rfl, l1, l2, l3, l4, l5⟩

end Go.Proofs.Ytagkbpceiedikaa
