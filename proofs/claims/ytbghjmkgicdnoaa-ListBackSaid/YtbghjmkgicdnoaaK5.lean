/-
  Texts of this claim, one behind the other: what each is about stands ahead of it.
-/
import Derived.Test.YtbghjmkgicdnoaaK3
import Derived.Test.YtbghjmkgicdnoaaK4
/-
  Contracts of package region: what two rows have together; the rectangles that have places, the leftmost first.
-/
namespace Go.Proofs.Ytbghjmkgicdnoaa
open Go.RowKit Go.Sort Go.Shelf

/-- A rectangle as four numbers. -/
abbrev Q4 := Int × Int × Int × Int
def tq (r : Rc) : Q4 := (r.x, r.y, r.w, r.h)
def qt (q : Q4) : Rc := ⟨q.1, q.2.1, q.2.2.1, q.2.2.2⟩
def encQ (q : Q4) : List Value := [.int .i64 q.1, .int .i64 q.2.1, .int .i64 q.2.2.1, .int .i64 q.2.2.2]
def cfQ (p q : Q4) : Int := Lib.compareInt p.1 q.1
theorem ltQ (p q : Q4) : ltOf cfQ p q = decide (p.1 < q.1) := by
  unfold ltOf cfQ Lib.compareInt
  split
  · next h => simp [h]
  · next h =>
    split
    · simp [h]
    · simp [h]
theorem swoQ : SWO (ltOf cfQ) := ⟨fun x => by rw [ltQ]; simp, fun x y z h1 h2 => by rw [ltQ, decide_eq_true_eq] at *; omega, fun x y z h1 h2 => by rw [ltQ, decide_eq_false_iff_not] at *; omega⟩

set_option maxHeartbeats 1000000 in
theorem cmp_clo (x y : Q4) (W : World) : Calls Try.prog 90 #[.agg (encQ x).toArray, .agg (encQ y).toArray] W fun e w' => e = .returned (.int .i64 (cfQ x y)) ∧ ∃ q os', w' = grow (W.drewN q) os' := by
  have hcon := fun W' => AnyG.cmp_Compare_int Try.cmpInt x.1 y.1 W'
  change ∀ W', Calls Try.prog 91 _ _ _ at hcon
  have e : cfQ x y = Lib.compareInt x.1 y.1 := rfl
  rw [e]
  generalize Lib.compareInt x.1 y.1 = r at hcon ⊢
  have e1 : (encQ x).toArray = #[.int .i64 x.1, .int .i64 x.2.1, .int .i64 x.2.2.1, .int .i64 x.2.2.2] := rfl
  have e2 : (encQ y).toArray = #[.int .i64 y.1, .int .i64 y.2.1, .int .i64 y.2.2.1, .int .i64 y.2.2.2] := rfl
  rw [e1, e2]
  go_enter Try.func90, Try.ntmps90
  go_wp2_with (go_at_call 91; refine (hcon _).mono ?_; rintro e w' ⟨rfl, rfl⟩)
  go_ret
  exact ⟨rfl, 0, _, by rw [alloc_eq_grow, alloc_eq_grow, grow_grow]; rfl⟩

theorem holds_own {w : World} {base g cap : Nat} {e : TypeId} {ks : List Rc} (h : w.ownsRow base e 4 (.slice (some ⟨g, 0, none⟩) ks.length cap) ks.length (flat ks)) : HoldsK encQ 4 w g 0 (ks.map tq).toArray := by
  intro j hj
  rw [size_flatK] at hj
  have hj' : j < ks.length * 4 := by simpa using hj
  refine ⟨?_, own_frozen h _⟩
  rw [get_flatK _ _ _ _ hj, Nat.zero_add, own_cell h j hj']
  have hq : j / 4 < ks.length := by omega
  have e0 : (ks.map tq).toArray[j / 4]! = tq ks[j / 4] := by simp [hq]
  rw [e0]
  obtain ⟨f0, f1, f2, f3⟩ := flat_at ks (j / 4) hq
  generalize ks[j / 4] = r at f0 f1 f2 f3 ⊢
  rcases (show j % 4 = 0 ∨ j % 4 = 1 ∨ j % 4 = 2 ∨ j % 4 = 3 by omega) with h | h | h | h
  · rw [h]; rw [show j = j / 4 * 4 by omega, f0]; rfl
  · rw [h]; rw [show j = j / 4 * 4 + 1 by omega, f1]; rfl
  · rw [h]; rw [show j = j / 4 * 4 + 2 by omega, f2]; rfl
  · rw [h]; rw [show j = j / 4 * 4 + 3 by omega, f3]; rfl
theorem sorted_below {B : Nat} {w0 w : World} (h : Below B w0 w) (blk n : Nat) (d : Array Q4) (os : Array Obj) (hb : B ≤ blk) (hB : B ≤ w.heap.size) : Below B w0 (sortWorldK encQ 4 w blk 0 n d os) := by
  have hz : (sortWorldK encQ 4 w blk 0 n d os).heap.size = w.heap.size + os.size := by
    unfold sortWorldK
    rw [size_grow]
    congr 1
    unfold putRowK
    rw [size_putRow]
    rfl
  refine ⟨h.os, h.tape, h.output, by rw [hz]; have := h.size; omega, fun k hk => ?_⟩
  unfold sortWorldK
  rw [heap_grow_old _ _ (by unfold putRowK; rw [size_putRow]; show k < w.heap.size; omega)]
  unfold putRowK putRow mapBlock
  show (w.heap.modify blk _)[k]? = _
  rw [Array.getElem?_modify, if_neg (by omega)]
  exact h.block k hk
theorem sortX_of : ∀ (L : List Rc) (a : Int), (∀ r ∈ L, a ≤ r.x ∧ 0 < r.w) → L.Pairwise (fun r q => r.x ≤ q.x) → SortX a L
  | [], _, _, _ => trivial
  | r :: t, a, h, hp => by
    obtain ⟨h1, h2⟩ := List.pairwise_cons.1 hp
    exact ⟨(h r (by simp)).1, (h r (by simp)).2, sortX_of t r.x (fun q hq => ⟨h1 q hq, (h q (by simp [hq])).2⟩) h2⟩

def SInv (rs : List Rc) (w : World) (k : Nat) (v : Value) (wr : World) : Prop :=
  k ≤ rs.length ∧ wr.ownsRow w.heap.size 27 4 v ((rs.take k).filter keepE).length (flat ((rs.take k).filter keepE)) ∧ Below w.heap.size w wr
theorem cell_fourB (w : World) (x y n m : Value) (t : TypeId) (b : Nat) (h : b = w.heap.size) : ∀ (j : Nat) (u : Value), [x, y, n, m][j]? = some u → (w.alloc (.cells #[x, y, n, m] t)).cell? ((⟨b, 0, none⟩ : Addr).add j) = some u := by
  intro j u hj
  subst h
  match j, hj with
  | 0, hj => simp at hj; subst hj; simp [Addr.add]
  | 1, hj => simp at hj; subst hj; simp [Addr.add]
  | 2, hj => simp at hj; subst hj; simp [Addr.add]
  | 3, hj => simp at hj; subst hj; simp [Addr.add]
theorem one4 (r : Rc) : ∀ u ∈ [Value.int .i64 r.x, .int .i64 r.y, .int .i64 r.w, .int .i64 r.h], u.oneCell' = true := by
  intro u hu
  simp at hu
  rcases hu with rfl | rfl | rfl | rfl <;> rfl

set_option maxRecDepth 10000 in
set_option maxHeartbeats 4000000 in
theorem solid_any (rs : List Rc) (v : Value) (w : World) (hv : LsR w v rs) (hs : ∀ r ∈ rs, I64 r.x ∧ I64 r.y) (hl : rs.length ≤ 1000000) :
    Calls Try.prog 80 #[v] w fun e w' => ∃ (u : Value) (L : List Rc), e = .returned u ∧ LsR w' u L ∧ SortX (-16384) L ∧ (∀ q, q ∈ L ↔ q ∈ rs ∧ keepE q = true) ∧ L.length ≤ rs.length ∧ Below w.heap.size w w' := by
  obtain ⟨oa, cap, rfl, hc, hg⟩ := hv
  have HG : Hid (0 < rs.length → ∃ g o, oa = some ⟨g, o, none⟩ ∧ g < w.heap.size ∧ ∀ i (h : i < rs.length), RcAt w g (o + i * 4) rs[i]) := hg
  have HH : Hid (∀ r ∈ rs, I64 r.x ∧ I64 r.y) := hs
  obtain ⟨i0, hi, hz0, hz1, hz2⟩ := info_parts info_rect
  have HI : Hid (Try.prog.info? 27 = some i0 ∧ i0.zero = some (.agg #[.int .i64 0, .int .i64 0, .int .i64 0, .int .i64 0]) ∧ i0.size = 4 ∧ i0.bytes = 32) := ⟨hi, hz0, hz1, hz2⟩
  clear hg hs hi hz0 hz1 hz2
  go_enter Try.func80, Try.ntmps80
  go_wp2_with fail
  go_loopw [3, 8] (fun v i wr => ∃ k : Nat, i = .int .i64 k ∧ SInv rs w k v wr) (fun _ i _ => rs.length - (intOf i).toNat)
  case atStart => exact ⟨0, rfl, Nat.zero_le _, World.ownsRow_nil _ _ _ _, Below.refl _ _⟩
  case round =>
    obtain ⟨k, rfl, hI⟩ := hrel
    have HV : Hid (SInv rs w k u3 wr) := hI
    obtain ⟨hkl, hown, hBr⟩ := hI
    by_cases hlt : k < rs.length
    · obtain ⟨g, o, rfl, hg, hat⟩ := HG.out (by omega)
      have hx := (hat k hlt).kept (w' := wr) fun j => hBr.cell (p := ⟨g, j, none⟩) hg
      have e1 : rs.take (k + 1) = rs.take k ++ [rs[k]] := (List.take_append_getElem hlt).symm
      obtain ⟨i1, i2⟩ := HH.out _ (List.getElem_mem hlt)
      have HE : Hid (∀ w, Calls Try.prog 50 #[.agg #[.int .i64 rs[k].x, .int .i64 rs[k].y, .int .i64 rs[k].w, .int .i64 rs[k].h]] w fun e w' => e = .returned (.bool (emptyB rs[k].x rs[k].y rs[k].w rs[k].h)) ∧ Below w.heap.size w w') := fun w => empty_any _ _ _ _ w i1 i2
      have hkl2 : ((rs.take k).filter keepE).length ≤ k := by
        have := List.length_filter_le keepE (rs.take k)
        rw [List.length_take] at this
        omega
      have hke : keepE rs[k] = !emptyB rs[k].x rs[k].y rs[k].w rs[k].h := rfl
      generalize rs[k] = x at *
      obtain ⟨ks, hks⟩ : ∃ ks, ks = (rs.take k).filter keepE := ⟨_, rfl⟩
      rw [← hks] at hown hkl2
      have HK : Hid (ks = (rs.take k).filter keepE ∧ rs.take (k + 1) = rs.take k ++ [x] ∧ keepE x = !emptyB x.x x.y x.w x.h) := ⟨hks, e1, hke⟩
      obtain ⟨x0, x1, x2, x3⟩ := hx
      have HW : Hid (∀ W, Below wr.heap.size wr W → W.ownsRow w.heap.size 27 4 u3 ks.length (flat ks) ∧ Below w.heap.size w W) := by
        intro W hb
        have := HV.out.2.1
        rw [← HK.out.1] at this
        exact ⟨row_below this hb, HV.out.2.2.trans (hb.mono HV.out.2.2.size)⟩
      clear hown hBr hat e1 hke hks i1 i2
      have hb0 : Hid (Below wr.heap.size wr (wr.alloc (.cells #[.int .i64 x.x, .int .i64 x.y, .int .i64 x.w, .int .i64 x.h] 27)) ∧ Bk (wr.alloc (.cells #[.int .i64 x.x, .int .i64 x.y, .int .i64 x.w, .int .i64 x.h] 27)) wr.heap.size #[.int .i64 x.x, .int .i64 x.y, .int .i64 x.w, .int .i64 x.h] 27) := ⟨(Below.refl _ wr).alloc (Nat.le_refl _) _, Bk.new _ _ _⟩
      cases hem : emptyB x.x x.y x.w x.h
      · rw [hem] at HE
        go_wp2_with fail
        refine (HE.out _).mono ?_
        rintro e w1 ⟨rfl, hb⟩
        have HB1 : Hid (Below wr.heap.size wr w1 ∧ Bk w1 wr.heap.size #[.int .i64 x.x, .int .i64 x.y, .int .i64 x.w, .int .i64 x.h] 27) := ⟨hb0.out.1.trans (hb.mono hb0.out.1.size), hb0.out.2.below hb⟩
        clear hb x0 x1 x2 x3
        have y0 : w1.cell? ⟨wr.heap.size, 0, none⟩ = some (.int .i64 x.x) := by rw [HB1.out.2.cell]; rfl
        have y1 : w1.cell? ⟨wr.heap.size, 1, none⟩ = some (.int .i64 x.y) := by rw [HB1.out.2.cell]; rfl
        have y2 : w1.cell? ⟨wr.heap.size, 2, none⟩ = some (.int .i64 x.w) := by rw [HB1.out.2.cell]; rfl
        have y3 : w1.cell? ⟨wr.heap.size, 3, none⟩ = some (.int .i64 x.h) := by rw [HB1.out.2.cell]; rfl
        have hc3 : Hid (ks.length + 1 ≤ maxLen) := by unfold Hid maxLen; omega
        have hc4 : Hid ((ks.length + 1) * 32 ≤ 140737488355328) := by unfold Hid; omega
        have HA : Hid (∀ o, (w1.alloc o).ownsRow w.heap.size 27 4 u3 ks.length (flat ks) ∧ Below w.heap.size w (w1.alloc o)) := fun o => HW.out _ (HB1.out.1.alloc HB1.out.1.size o)
        obtain ⟨hi, hz0, hz1, hz2⟩ := HI.out
        go_wp2_with (at_builtin; refine wpList_append_own _ rfl _ _ 39 rfl w.heap.size 27 i0 (.agg #[.int .i64 0, .int .i64 0, .int .i64 0, .int .i64 0]) 4 32 Try.underlying39 hi hz0 hz1 hz2 rfl (by decide) u3 ks.length (flat ks) rfl (HA.out _).1 _ 1 1 [.int .i64 x.x, .int .i64 x.y, .int .i64 x.w, .int .i64 x.h] rfl rfl (cell_fourB _ _ _ _ _ _ _ rfl) (one4 x) hc3.out hc4.out (HA.out _).2.size ?_)
        intro v' w4 hown' hgrow hnil
        have HRel : Hid (∃ k' : Nat, Value.int .i64 ((k : Int) + 1) = .int .i64 k' ∧ SInv rs w k' v' w4) := by
          refine ⟨k + 1, by go_num, by omega, ?_, app_below (HA.out _).2 (HA.out _).1 (Nat.le_refl _) hgrow⟩
          rw [HK.out.2.1, List.filter_append, ← HK.out.1, List.filter_cons, if_pos (by rw [HK.out.2.2, hem]; rfl), List.filter_nil, List.length_append, flat_app]
          exact hown'
        clear hown' hgrow hnil hi hz0 hz1 hz2
        go_wp2
        exact ⟨HRel.out, by simp [intOf]; omega⟩
      · rw [hem] at HE
        go_wp2_with fail
        refine (HE.out _).mono ?_
        rintro e w1 ⟨rfl, hb⟩
        have HB1 : Hid (Below wr.heap.size wr w1) := hb0.out.1.trans (hb.mono hb0.out.1.size)
        have HRel : Hid (∃ k' : Nat, Value.int .i64 ((k : Int) + 1) = .int .i64 k' ∧ SInv rs w k' u3 w1) := by
          refine ⟨k + 1, by go_num, by omega, ?_, (HW.out _ HB1.out).2⟩
          rw [HK.out.2.1, List.filter_append, ← HK.out.1, List.filter_cons, if_neg (by rw [HK.out.2.2, hem]; simp), List.filter_nil, List.append_nil]
          exact (HW.out _ HB1.out).1
        clear hb x0 x1 x2 x3
        go_wp2
        exact ⟨HRel.out, by simp [intOf]; omega⟩
    · obtain rfl : k = rs.length := by omega
      rw [List.take_length] at hown
      obtain ⟨ks, hks⟩ : ∃ ks, ks = rs.filter keepE := ⟨_, rfl⟩
      rw [← hks] at hown
      have HKs : Hid (ks = rs.filter keepE) := hks
      obtain ⟨oa2, cap2, rfl, hcap2, hoa⟩ := row_val hown
      have HO : Hid (wr.ownsRow w.heap.size 27 4 (.slice oa2 ks.length cap2) ks.length (flat ks) ∧ Below w.heap.size w wr) := ⟨hown, hBr⟩
      have hkz : ks.length ≤ rs.length := by rw [hks]; exact List.length_filter_le _ _
      clear hown hBr hks
      by_cases h0 : ks.length = 0
      · have hnone := fun W => AnyF.slices_SortFunc_none Try.sortR oa2 cap2 (.func (.func 90) #[] #[]) W
        change ∀ W, Calls Try.prog 89 _ _ _ at hnone
        have hkn : ks = [] := List.length_eq_zero_iff.1 h0
        have HN : Hid (∃ L : List Rc, LsR wr (.slice oa2 ks.length cap2) L ∧ SortX (-16384) L ∧ (∀ q, q ∈ L ↔ q ∈ rs ∧ keepE q = true) ∧ L.length ≤ rs.length) := by
          refine ⟨[], ⟨oa2, cap2, by rw [hkn], Nat.zero_le _, fun h => absurd h (Nat.lt_irrefl 0)⟩, trivial, fun q => ?_, Nat.zero_le _⟩
          rw [← List.mem_filter, ← HKs.out, hkn]
        rw [h0] at *
        clear hkn h0
        go_wp2_with fail
        refine (hnone _).mono ?_
        rintro e w1 ⟨rfl, rfl⟩
        go_wp2
        go_ret
        obtain ⟨L, l1, l2, l3, l4⟩ := HN.out
        exact ⟨_, L, rfl, l1, l2, l3, l4, HO.out.2⟩
      · obtain ⟨g, rfl, hg1, hg2⟩ := hoa (by omega)
        have eg : ∀ args w, (callFunc 90 args).run Try.prog w = .ok (.enter 90 args) w := enters_of Try.func90 (by kernel_rfl) rfl
        have hds : (ks.map tq).toArray.size = ks.length := by simp
        have hcon := AnyQ.slices_SortFunc Try.sortR 4 Try.isAgg27 Try.sizeOf27 encQ (fun _ => rfl) (fun x v hv => by simp [encQ] at hv; rcases hv with rfl | rfl | rfl | rfl <;> rfl) cfQ swoQ 90 #[] g 0 cap2 (ks.map tq).toArray wr eg (fun _ _ _ _ x y => cmp_clo x y _) (holds_own HO.out.1) hg2 (by rw [hds]; omega)
        change Calls Try.prog 89 _ _ _ at hcon
        rw [hds] at hcon
        have HCon : Hid (Calls Try.prog 89 #[.slice (some ⟨g, 0, none⟩) ks.length cap2, .func (.func 90) #[] #[]] wr fun e w' => e = .returned (.tuple #[]) ∧ ∃ L : List Rc, LsR w' (.slice (some ⟨g, 0, none⟩) ks.length cap2) L ∧ SortX (-16384) L ∧ (∀ q, q ∈ L ↔ q ∈ rs ∧ keepE q = true) ∧ L.length ≤ rs.length ∧ Below w.heap.size w w') := by
          refine hcon.mono ?_
          rintro e w' ⟨he, d', n, os, hp, hso, rfl⟩
          refine ⟨he, d'.toList.map qt, ?_⟩
          obtain ⟨hp1, _, hp3⟩ := hp
          have hd1 : d'.size = ks.length := by rw [hp1, hds]
          have hperm : d'.toList.Perm (ks.map tq) := by
            have a1 : d'.extract 0 ks.length = d' := by rw [← hd1]; exact Array.extract_size
            have a2 : (ks.map tq).toArray.extract 0 ks.length = (ks.map tq).toArray := by rw [← hds]; exact Array.extract_size
            rw [a1, a2] at hp3
            simpa using hp3
          have hmem : ∀ q, q ∈ d'.toList.map qt ↔ q ∈ ks := by
            intro q
            rw [List.mem_map]
            constructor
            · rintro ⟨x, hx, rfl⟩
              obtain ⟨r, hr, rfl⟩ := List.mem_map.1 (hperm.mem_iff.1 hx)
              exact hr
            · intro hq
              exact ⟨tq q, hperm.mem_iff.2 (List.mem_map.2 ⟨q, hq, rfl⟩), rfl⟩
          have hmem2 : ∀ q, q ∈ d'.toList.map qt ↔ q ∈ rs ∧ keepE q = true := fun q => by rw [hmem, HKs.out, List.mem_filter]
          have hlen : (d'.toList.map qt).length = ks.length := by simp [hd1]
          have hH := holdsK_sortWorldK_c encQ 4 wr g 0 (ks.map tq).toArray d' n os (holds_own HO.out.1) hg2 (by rw [hp1])
          refine ⟨⟨_, cap2, by rw [hlen], by rw [hlen]; exact hcap2, fun _ => ⟨g, 0, rfl, ?_, fun i hi => ?_⟩⟩, sortX_of _ _ ?_ ?_, hmem2, by rw [hlen]; exact hkz, sorted_below HO.out.2 g n d' os hg1 HO.out.2.size⟩
          · exact Nat.lt_of_lt_of_le hg2 (size_sortWorldK_c encQ 4 wr g 0 n d' os)
          · have hi' : i < d'.size := by rw [hlen] at hi; omega
            have ed : d'[i]! = d'[i] := by simp [hi']
            have eq : (d'.toList.map qt)[i] = qt d'[i] := by simp
            rw [eq]
            have c0 := (hH.cell hi' (show 0 < 4 by omega)).1
            have c1 := (hH.cell hi' (show 1 < 4 by omega)).1
            have c2 := (hH.cell hi' (show 2 < 4 by omega)).1
            have c3 := (hH.cell hi' (show 3 < 4 by omega)).1
            rw [ed] at c0 c1 c2 c3
            exact ⟨c0, c1, c2, c3⟩
          · intro r hr
            have := (keepE_iff r).1 ((hmem2 r).1 hr).2
            exact ⟨this.1, this.2.1⟩
          · rw [List.pairwise_map, List.pairwise_iff_getElem]
            intro i j hi hj hij
            have hj' : j < d'.size := by simpa using hj
            have hi' : i < d'.size := by omega
            have h := hso i j (Nat.zero_le _) hij (by omega)
            rw [ltQ, decide_eq_false_iff_not] at h
            have e1 : d'[i]! = d'[i] := by simp [hi']
            have e2 : d'[j]! = d'[j] := by simp [hj']
            rw [e1, e2] at h
            simp only [Array.getElem_toList]
            show (d'[i]).1 ≤ (d'[j]).1
            omega
        clear hcon hoa
        go_wp2_with fail
        refine HCon.out.mono ?_
        rintro e w1 ⟨rfl, hL⟩
        have HL : Hid (∃ L : List Rc, LsR w1 (.slice (some ⟨g, 0, none⟩) ks.length cap2) L ∧ SortX (-16384) L ∧ (∀ q, q ∈ L ↔ q ∈ rs ∧ keepE q = true) ∧ L.length ≤ rs.length ∧ Below w.heap.size w w1) := hL
        clear hL
        go_wp2
        go_ret
        obtain ⟨L, l1, l2, l3, l4, l5⟩ := HL.out
        exact ⟨_, L, rfl, l1, l2, l3, l4, l5⟩

end Go.Proofs.Ytbghjmkgicdnoaa

/-
  Contracts of package region: the rows at which rectangles begin or end, each once, rising.
-/
namespace Go.Proofs.Ytbghjmkgicdnoaa
open Go.RowKit Go.Sort Go.Shelf

theorem inc_snoc : ∀ {l : List Int} {x : Int}, Inc l → (∀ y ∈ l, y < x) → Inc (l ++ [x])
  | [], _, _, _ => ⟨by simp, trivial⟩
  | a :: t, x, h, hx => by
    refine ⟨fun b hb => ?_, inc_snoc h.2 (fun y hy => hx y (by simp [hy]))⟩
    rcases List.mem_append.1 hb with hb | hb
    · exact h.1 b hb
    · rw [List.mem_singleton] at hb
      rw [hb]
      exact hx a (by simp)
theorem compact_inc (d : Array Int) (hd : ∀ i j, i ≤ j → j < d.size → d[i]! ≤ d[j]!) : ∀ m, m ≤ d.size → Inc (Lib.compactUpTo d m) ∧ (∀ x, x ∈ Lib.compactUpTo d m ↔ ∃ j, j < m ∧ x = d[j]!)
  | 0, _ => ⟨by simp [Lib.compactUpTo, Inc], fun x => by simp [Lib.compactUpTo]⟩
  | m + 1, hm => by
    obtain ⟨i1, i2⟩ := compact_inc d hd m (by omega)
    rw [Lib.compactUpTo_succ]
    cases hk : Lib.keeps d m
    · have hk' : ¬ (m = 0 ∨ d[m]! ≠ d[m - 1]!) := by
        unfold Lib.keeps at hk
        exact of_decide_eq_false hk
      have hm0 : m ≠ 0 := fun h => hk' (.inl h)
      have he : d[m]! = d[m - 1]! := Classical.byContradiction fun h => hk' (.inr h)
      simp only [Bool.false_eq_true, if_false, List.append_nil]
      refine ⟨i1, fun x => ?_⟩
      rw [i2]
      constructor
      · rintro ⟨j, h1, h2⟩; exact ⟨j, by omega, h2⟩
      · rintro ⟨j, h1, h2⟩
        by_cases hj : j = m
        · subst hj; exact ⟨j - 1, by omega, by rw [h2, he]⟩
        · exact ⟨j, by omega, h2⟩
    · have hk' : m = 0 ∨ d[m]! ≠ d[m - 1]! := by
        unfold Lib.keeps at hk
        exact of_decide_eq_true hk
      simp only [if_true]
      refine ⟨inc_snoc i1 fun y hy => ?_, fun x => ?_⟩
      · obtain ⟨j, h1, rfl⟩ := (i2 y).1 hy
        have a1 := hd j (m - 1) (by omega) (by omega)
        have a2 := hd (m - 1) m (by omega) (by omega)
        rcases hk' with h | h
        · omega
        · omega
      · rw [List.mem_append, i2, List.mem_singleton]
        constructor
        · rintro (⟨j, h1, h2⟩ | h)
          · exact ⟨j, by omega, h2⟩
          · exact ⟨m, by omega, h⟩
        · rintro ⟨j, h1, h2⟩
          by_cases hj : j = m
          · subst hj; exact .inr h2
          · exact .inl ⟨j, by omega, h2⟩
theorem sorted_list (zs : List Int) : Inc (Lib.compact (zs.mergeSort fun x y => decide (x ≤ y))) ∧ ∀ x, x ∈ Lib.compact (zs.mergeSort fun x y => decide (x ≤ y)) ↔ x ∈ zs := by
  obtain ⟨s, hs⟩ : ∃ s, s = zs.mergeSort fun x y => decide (x ≤ y) := ⟨_, rfl⟩
  have hp : s.Perm zs := by rw [hs]; exact List.mergeSort_perm _ _
  have hw : s.Pairwise (fun x y => decide (x ≤ y) = true) := by
    rw [hs]
    exact List.pairwise_mergeSort (fun a b c h1 h2 => by rw [decide_eq_true_eq] at *; omega) (fun a b => by simp; omega) _
  rw [← hs]
  have hd : ∀ i j, i ≤ j → j < s.toArray.size → s.toArray[i]! ≤ s.toArray[j]! := by
    intro i j hij hj
    have hj' : j < s.length := by simpa using hj
    have e1 : s.toArray[i]! = s[i] := by simp [show i < s.length by omega]
    have e2 : s.toArray[j]! = s[j] := by simp [hj']
    rw [e1, e2]
    rcases Nat.lt_or_eq_of_le hij with h | h
    · have := (List.pairwise_iff_getElem.1 hw) i j (by omega) hj' h
      exact of_decide_eq_true this
    · subst h; exact Int.le_refl _
  obtain ⟨h1, h2⟩ := compact_inc s.toArray hd s.length (by simp)
  refine ⟨h1, fun x => ?_⟩
  show x ∈ Lib.compactUpTo s.toArray s.length ↔ _
  rw [h2, ← hp.mem_iff]
  constructor
  · rintro ⟨j, hj, rfl⟩
    simp [hj]
  · intro hx
    obtain ⟨j, hj, rfl⟩ := List.getElem_of_mem hx
    exact ⟨j, hj, by simp [hj]⟩

/-- The edges of a list's rectangles, as they come. -/
def ysL : List Rc → List Int
  | [] => []
  | r :: t => r.y :: (r.y + r.h) :: ysL t
theorem ysL_app (l m : List Rc) : ysL (l ++ m) = ysL l ++ ysL m := by
  induction l with
  | nil => rfl
  | cons r t ih => simp [ysL, ih]
theorem ysL_len (l : List Rc) : (ysL l).length = l.length * 2 := by
  induction l with
  | nil => rfl
  | cons r t ih => simp [ysL, ih]; omega
theorem ysL_mem (n : Int) : ∀ l : List Rc, n ∈ ysL l ↔ ∃ r ∈ l, n = r.y ∨ n = r.y + r.h
  | [] => by simp [ysL]
  | r :: t => by
    rw [ysL, List.mem_cons, List.mem_cons, ysL_mem n t]
    constructor
    · rintro (h | h | ⟨q, hq, h⟩)
      · exact ⟨r, by simp, .inl h⟩
      · exact ⟨r, by simp, .inr h⟩
      · exact ⟨q, by simp [hq], h⟩
    · rintro ⟨q, hq, h⟩
      rcases List.mem_cons.1 hq with rfl | hq
      · rcases h with h | h
        · exact .inl h
        · exact .inr (.inl h)
      · exact .inr (.inr ⟨q, hq, h⟩)
/-- A slice that holds numbers. -/
def IsL (w : World) (v : Value) (l : List Int) : Prop := ∃ oa cap, v = .slice oa l.length cap ∧ l.length ≤ cap ∧ (0 < l.length → ∃ g, oa = some ⟨g, 0, none⟩ ∧ g < w.heap.size ∧ ∀ i (h : i < l.length), w.cell? ⟨g, i, none⟩ = some (.int .i64 l[i]))
theorem IsL.below {w w' : World} {v : Value} {l : List Int} (h : IsL w v l) (hb : Below w.heap.size w w') : IsL w' v l := by
  obtain ⟨oa, cap, e, hc, hg⟩ := h
  refine ⟨oa, cap, e, hc, fun hp => ?_⟩
  obtain ⟨g, e1, g1, g2⟩ := hg hp
  exact ⟨g, e1, Nat.lt_of_lt_of_le g1 hb.size, fun i hi => by rw [hb.cell (p := ⟨g, i, none⟩) g1]; exact g2 i hi⟩
theorem info_int : (Try.prog.info? 3).map (fun i => (i.zero, i.size, i.bytes)) = some (some (.int .i64 0), 1, 8) := by kernel_rfl

def EIn (M : List Rc) (acc : List Int) (w : World) (hb : Nat) (va vb : Value) (j : Nat) (v : Value) (wr : World) : Prop :=
  j ≤ M.length ∧ wr.ownsRow w.heap.size 3 1 v (acc ++ ysL (M.take j)).length ((acc ++ ysL (M.take j)).map (Value.int .i64)) ∧ Below w.heap.size w wr ∧ Bk wr hb #[va, vb] 39 ∧ v.ownBlock ≠ some hb
def EOut (A B : List Rc) (w : World) (hb : Nat) (va vb : Value) (k : Nat) (v : Value) (wr : World) : Prop :=
  k ≤ 2 ∧ wr.ownsRow w.heap.size 3 1 v (ysL (([A, B].take k).flatten)).length ((ysL (([A, B].take k).flatten)).map (Value.int .i64)) ∧ Below w.heap.size w wr ∧ Bk wr hb #[va, vb] 39 ∧ v.ownBlock ≠ some hb
theorem below_put {B : Nat} {w0 w : World} (h : Below B w0 w) (blk n : Nat) (d : Array Int) (hb : B ≤ blk) : Below B w0 (putRow (Value.int .i64) (Sort.ahead w n) blk 0 d) := by
  refine ⟨h.os, h.tape, h.output, by rw [size_putRow]; exact h.size, fun k hk => ?_⟩
  unfold putRow mapBlock
  show (w.heap.modify blk _)[k]? = _
  rw [Array.getElem?_modify, if_neg (by omega)]
  exact h.block k hk
theorem below_grow {B : Nat} {w0 w : World} (h : Below B w0 w) (os : Array Obj) (hB : B ≤ w.heap.size) : Below B w0 (grow w os) :=
  ⟨h.os, h.tape, h.output, by rw [size_grow]; have := h.size; omega, fun k hk => (heap_grow_old w os (by omega)).trans (h.block k hk)⟩
theorem holds_ints {w : World} {base g cap : Nat} {e : TypeId} {zs : List Int} (h : w.ownsRow base e 1 (.slice (some ⟨g, 0, none⟩) zs.length cap) zs.length (zs.map (Value.int .i64))) : Holds (Value.int .i64) w g 0 zs.toArray := by
  intro j hj
  have hj' : j < zs.length := by simpa using hj
  refine ⟨?_, own_frozen h _⟩
  rw [Nat.zero_add, own_cell h j (by omega)]
  simp [hj']
theorem one2i (a b : Int) : ∀ u ∈ ([a, b].map (Value.int .i64)), u.oneCell' = true := by
  intro u hu
  simp at hu
  rcases hu with rfl | rfl <;> rfl

set_option maxRecDepth 10000 in
set_option maxHeartbeats 8000000 in
theorem edges_any (A B : List Rc) (va vb : Value) (w : World) (hva : LsR w va A) (hvb : LsR w vb B) (hA : ∀ r ∈ A, keepE r = true) (hB : ∀ r ∈ B, keepE r = true) (hlA : A.length ≤ 400000) (hlB : B.length ≤ 400000) :
    Calls Try.prog 86 #[va, vb] w fun e w' => ∃ (u : Value) (ys : List Int), e = .returned u ∧ IsL w' u ys ∧ Inc ys ∧ (∀ n, n ∈ ys ↔ n ∈ ysL (A ++ B)) ∧ ys.length ≤ 2000000 ∧ Below w.heap.size w w' := by
  obtain ⟨i0, hi, hz0, hz1, hz2⟩ := info_parts info_int
  have HI : Hid (Try.prog.info? 3 = some i0 ∧ i0.zero = some (.int .i64 0) ∧ i0.size = 1 ∧ i0.bytes = 8) := ⟨hi, hz0, hz1, hz2⟩
  obtain ⟨oa, ca, rfl, hca, hga⟩ := hva
  obtain ⟨ob, cb, rfl, hcb, hgb⟩ := hvb
  have HL : Hid (((0 < A.length → ∃ g o, oa = some ⟨g, o, none⟩ ∧ g < w.heap.size ∧ ∀ i (h : i < A.length), RcAt w g (o + i * 4) A[i]) ∧ (0 < B.length → ∃ g o, ob = some ⟨g, o, none⟩ ∧ g < w.heap.size ∧ ∀ i (h : i < B.length), RcAt w g (o + i * 4) B[i])) ∧ (∀ r ∈ A, keepE r = true) ∧ (∀ r ∈ B, keepE r = true)) := ⟨⟨hga, hgb⟩, hA, hB⟩
  clear hi hz0 hz1 hz2 hga hgb hA hB
  go_enter Try.func86, Try.ntmps86
  go_wp2_with fail
  obtain ⟨hb, hhb⟩ : ∃ hb, hb = w.heap.size := ⟨_, rfl⟩
  have HE0 : Hid (EOut A B w hb (.slice oa A.length ca) (.slice ob B.length cb) 0 (.slice none 0 0) (w.alloc (.cells #[.slice oa A.length ca, .slice ob B.length cb] 39))) := by
    rw [hhb]
    exact ⟨by omega, World.ownsRow_nil _ _ _ _, (Below.refl _ w).alloc (Nat.le_refl _) _, Bk.new _ _ _, fun h => by cases h⟩
  obtain ⟨W, hW⟩ : ∃ W, W = w.alloc (.cells #[.slice oa A.length ca, .slice ob B.length cb] 39) := ⟨_, rfl⟩
  rw [← hW] at HE0 ⊢
  rw [← hhb]
  have Hhb : Hid (hb = w.heap.size) := hhb
  clear hW hhb
  go_loopw [5, 14] (fun v i wr => ∃ k : Nat, i = .int .i64 k ∧ EOut A B w hb (.slice oa A.length ca) (.slice ob B.length cb) k v wr) (fun _ i _ => 2 - (intOf i).toNat)
  case atStart => exact ⟨0, rfl, HE0.out⟩
  case round =>
    obtain ⟨k, rfl, hI⟩ := hrel
    have HO : Hid (EOut A B w hb (.slice oa A.length ca) (.slice ob B.length cb) k u5 wr) := hI
    obtain ⟨hk, hown, hBr, hbk, hnb⟩ := hI
    by_cases hlt : k < 2
    · obtain ⟨M, oM, cM, hcell, hM, hMk, hMl, hacc, hal⟩ : ∃ (M : List Rc) (oM : Option Addr) (cM : Nat), wr.cell? ⟨hb, k, none⟩ = some (.slice oM M.length cM) ∧ (0 < M.length → ∃ g o, oM = some ⟨g, o, none⟩ ∧ g < w.heap.size ∧ ∀ i (h : i < M.length), RcAt w g (o + i * 4) M[i]) ∧ (∀ r ∈ M, keepE r = true) ∧ (M.length ≤ 400000 ∧ M.length ≤ cM) ∧ ysL (([A, B].take (k + 1)).flatten) = ysL (([A, B].take k).flatten) ++ ysL M ∧ (ysL (([A, B].take k).flatten)).length ≤ 800000 := by
        rcases (show k = 0 ∨ k = 1 by omega) with rfl | rfl
        · exact ⟨A, oa, ca, by rw [hbk.cell]; rfl, HL.out.1.1, HL.out.2.1, ⟨hlA, hca⟩, by simp [ysL], by simp [ysL]⟩
        · exact ⟨B, ob, cb, by rw [hbk.cell]; rfl, HL.out.1.2, HL.out.2.2, ⟨hlB, hcb⟩, by simp [ysL_app], by simp [ysL_len]; omega⟩
      obtain ⟨acc, hac⟩ : ∃ acc, acc = ysL (([A, B].take k).flatten) := ⟨_, rfl⟩
      rw [← hac] at hown hacc hal
      have HA : Hid (ysL (([A, B].take (k + 1)).flatten) = acc ++ ysL M ∧ (0 < M.length → ∃ g o, oM = some ⟨g, o, none⟩ ∧ g < w.heap.size ∧ ∀ i (h : i < M.length), RcAt w g (o + i * 4) M[i]) ∧ (∀ r ∈ M, keepE r = true)) := ⟨hacc, hM, hMk⟩
      have HE1 : Hid (EIn M acc w hb (.slice oa A.length ca) (.slice ob B.length cb) 0 u5 wr) := ⟨Nat.zero_le _, by simpa [ysL] using hown, hBr, hbk, hnb⟩
      obtain ⟨hMl1, hMl2⟩ := hMl
      clear hac hacc hown hBr hbk hnb hM hMk HO
      go_wp2_with fail
      clear hcell
      generalize decide ((k : Int) < 2) = bk
      go_loopw [5, 20] (fun v i wq => ∃ j : Nat, i = .int .i64 j ∧ EIn M acc w hb (.slice oa A.length ca) (.slice ob B.length cb) j v wq) (fun _ i _ => M.length - (intOf i).toNat)
      case atStart => exact ⟨0, rfl, HE1.out⟩
      case round =>
        obtain ⟨j, rfl, hI⟩ := hrel
        have HQ : Hid (EIn M acc w hb (.slice oa A.length ca) (.slice ob B.length cb) j u5 wr) := hI
        obtain ⟨hjl, hown, hBr, hbk, hnb⟩ := hI
        by_cases hj : j < M.length
        · obtain ⟨g, o, rfl, hg, hat⟩ := HA.out.2.1 (by omega)
          have hx := (hat j hj).kept (w' := wr) fun i => hBr.cell (p := ⟨g, i, none⟩) hg
          have e1 : M.take (j + 1) = M.take j ++ [M[j]] := (List.take_append_getElem hj).symm
          have hkp := (keepE_iff _).1 (HA.out.2.2 _ (List.getElem_mem hj))
          have hl1 : (acc ++ ysL (M.take j)).length ≤ 1600000 := by rw [List.length_append, ysL_len, List.length_take]; omega
          generalize M[j] = x at *
          obtain ⟨ac, hac⟩ : ∃ ac, ac = acc ++ ysL (M.take j) := ⟨_, rfl⟩
          rw [← hac] at hown hl1
          have HN : Hid (acc ++ ysL (M.take (j + 1)) = ac ++ [x.y, x.y + x.h]) := by unfold Hid; rw [e1, ysL_app, ← List.append_assoc, ← hac]; rfl
          have HW : Hid (∀ o o2, ((wr.alloc o).alloc o2).ownsRow w.heap.size 3 1 u5 ac.length (ac.map (Value.int .i64)) ∧ Below w.heap.size w ((wr.alloc o).alloc o2) ∧ Bk ((wr.alloc o).alloc o2) hb #[.slice oa A.length ca, .slice ob B.length cb] 39) := fun o o2 => by
            have hb2 : Below wr.heap.size wr ((wr.alloc o).alloc o2) := ((Below.refl _ wr).alloc (Nat.le_refl _) o).alloc (by simp) o2
            exact ⟨row_below hown hb2, hBr.trans (hb2.mono hBr.size), hbk.below hb2⟩
          have HU : Hid (u5.ownBlock ≠ some hb) := hnb
          have hbl := hbk.lt
          have hc3 : Hid (ac.length + 2 ≤ maxLen) := by unfold Hid maxLen; omega
          have hc4 : Hid ((ac.length + 2) * 8 ≤ 140737488355328) := by unfold Hid; omega
          obtain ⟨x0, x1, x2, x3⟩ := hx
          clear hown hBr hbk hat e1 hac hnb HQ
          obtain ⟨hi, hz0, hz1, hz2⟩ := HI.out
          go_wp2_with (at_builtin; refine wpList_append_own_at _ rfl _ _ 108 rfl w.heap.size 3 i0 (.int .i64 0) 1 8 Try.underlying108 hi hz0 hz1 hz2 rfl (by decide) u5 ac.length (ac.map (Value.int .i64)) rfl (HW.out _ _).1 _ 2 2 ([x.y, x.y + x.h].map (Value.int .i64)) rfl rfl (cell_twoB _ _ _ _ _ (by simp)) (one2i _ _) hc3.out hc4.out (HW.out _ _).2.1.size ?_)
          intro v' w4 hown' hgrow hnil hat4
          have HRel : Hid (∃ j' : Nat, Value.int .i64 ((j : Int) + 1) = .int .i64 j' ∧ EIn M acc w hb (.slice oa A.length ca) (.slice ob B.length cb) j' v' w4) := by
            refine ⟨j + 1, by go_num, by omega, ?_, app_below (HW.out _ _).2.1 (HW.out _ _).1 (Nat.le_refl _) hgrow, (HW.out _ _).2.2.grown hgrow HU.out, ?_⟩
            · rw [HN.out, List.length_append, List.map_append]
              exact hown'
            · rcases hat4 with h | h
              · rw [h]; exact HU.out
              · rw [h]
                intro e
                injection e with e
                omega
          clear hown' hgrow hnil hat4 hi hz0 hz1 hz2
          go_wp2
          go_roundw
          case rel =>
            first
              | exact HRel.out
              | (repeat apply Exists.intro
                 exact ⟨HRel.out, rfl⟩)
          case measure => simp [intOf]; omega
        · obtain rfl : j = M.length := by omega
          rw [List.take_length] at hown
          have HRel : Hid (∃ k' : Nat, Value.int .i64 ((k : Int) + 1) = .int .i64 k' ∧ EOut A B w hb (.slice oa A.length ca) (.slice ob B.length cb) k' u5 wr) := by
            refine ⟨k + 1, by go_num, by omega, ?_, hBr, hbk, hnb⟩
            rw [HA.out.1]
            exact hown
          clear hown hBr hbk hnb HQ
          go_wp2
          exact ⟨HRel.out, by simp [intOf]; omega⟩
    · obtain rfl : k = 2 := by omega
      have e2 : ([A, B].take 2).flatten = A ++ B := by simp
      rw [e2] at hown
      obtain ⟨zs, hzs⟩ : ∃ zs, zs = ysL (A ++ B) := ⟨_, rfl⟩
      rw [← hzs] at hown
      have hzl : zs.length ≤ 1600000 := by rw [hzs, ysL_len, List.length_append]; omega
      have HZ : Hid (zs = ysL (A ++ B)) := hzs
      obtain ⟨oa2, cap2, rfl, hcap2, hoa⟩ := row_val hown
      obtain ⟨s1, s2⟩ := sorted_list zs
      have hcl : (Lib.compact (zs.mergeSort fun x y => decide (x ≤ y))).length ≤ zs.length := by
        have := List.length_filter_le (Lib.keeps (zs.mergeSort fun x y => decide (x ≤ y)).toArray) (List.range (zs.mergeSort fun x y => decide (x ≤ y)).length)
        rw [List.length_range, List.length_mergeSort] at this
        unfold Lib.compact Lib.compactUpTo
        rw [List.length_map, List.length_mergeSort]
        exact this
      by_cases h0 : zs.length = 0
      · have hz0 : zs = [] := List.length_eq_zero_iff.1 h0
        have HB : Hid (Below w.heap.size w wr ∧ ∀ n, n ∈ ysL (A ++ B) → False) := ⟨hBr, fun n hn => by rw [← hzs, hz0] at hn; cases hn⟩
        have H1 : Hid (∀ W, Calls Try.prog 92 #[.slice oa2 0 cap2] W fun e w' => e = .returned (.tuple #[]) ∧ w' = W) := fun W => Any.slices_Sort_int_none Try.lays189 oa2 cap2 W
        have H2 : Hid (∀ W, Calls Try.prog 93 #[.slice oa2 0 cap2] W fun e w' => e = .returned (.slice oa2 0 cap2) ∧ w' = W) := fun W => Any.slices_Compact_int_empty Try.lays20 oa2 cap2 W
        rw [h0]
        clear hown hBr hbk hnb hoa s1 s2 hcl hz0 hzs HO
        go_wp2_with fail
        refine (H1.out _).mono ?_
        rintro e w1 ⟨rfl, rfl⟩
        go_wp2_with fail
        refine (H2.out _).mono ?_
        rintro e w2 ⟨rfl, rfl⟩
        go_wp2
        go_ret
        exact ⟨_, [], rfl, ⟨oa2, cap2, rfl, Nat.zero_le _, fun h => absurd h (Nat.lt_irrefl 0)⟩, trivial, fun n => ⟨(fun h => by cases h), (fun h => absurd h (HB.out.2 n))⟩, by simp, HB.out.1⟩
      · obtain ⟨g, rfl, hg1, hg2⟩ := hoa (by omega)
        have hH := holds_ints hown
        obtain ⟨t, ht⟩ : ∃ t, t = zs.mergeSort fun x y => decide (x ≤ y) := ⟨_, rfl⟩
        have htl : t.length = zs.length := by rw [ht, List.length_mergeSort]
        have hs1 := Any.slices_Sort_int Try.lays189 g 0 cap2 zs wr hH hg2 (by omega)
        change Calls Try.prog 92 _ _ _ at hs1
        rw [← ht] at hs1 s1 s2 hcl
        obtain ⟨c, hc⟩ : ∃ c, c = Lib.compact t := ⟨_, rfl⟩
        have HCon : Hid (∀ n os, Calls Try.prog 93 #[.slice (some ⟨g, 0, none⟩) zs.length cap2] (grow (putRow (Value.int .i64) (Sort.ahead wr n) g 0 t.toArray) os) fun e w' => e = .returned (.slice (some ⟨g, 0, none⟩) c.length cap2) ∧ IsL w' (.slice (some ⟨g, 0, none⟩) c.length cap2) c ∧ Below w.heap.size w w') := by
          intro n os
          have hb1 : Below w.heap.size w (putRow (Value.int .i64) (Sort.ahead wr n) g 0 t.toArray) := below_put hBr g n _ hg1
          have hgs : g < (putRow (Value.int .i64) (Sort.ahead wr n) g 0 t.toArray).heap.size := by rw [size_putRow]; exact hg2
          have hH1 : Holds (Value.int .i64) (putRow (Value.int .i64) (Sort.ahead wr n) g 0 t.toArray) g 0 t.toArray := holds_putRow _ _ _ _ zs.toArray _ hH (by simp [htl])
          have hH2 := holds_grow (Value.int .i64) _ os g 0 t.toArray hgs hH1
          have hcm := Any.slices_Compact_int Try.lays20 g 0 cap2 t _ hH2 (by omega) (by omega)
          change Calls Try.prog 93 _ _ _ at hcm
          rw [htl, ← hc] at hcm
          refine hcm.mono ?_
          rintro e w' ⟨he, q, rfl⟩
          have hlen : c.length ≤ zs.length := by rw [hc]; exact hcl
          have hH3 := holds_putRow (Value.int .i64) (Sort.ahead (grow (putRow (Value.int .i64) (Sort.ahead wr n) g 0 t.toArray) os) q) g 0 t.toArray (c ++ List.replicate (zs.length - c.length) 0).toArray hH2 (by simp [htl]; omega)
          refine ⟨he, ⟨_, cap2, rfl, by omega, fun _ => ⟨g, rfl, ?_, fun i hi => ?_⟩⟩, below_put (below_grow hb1 os hb1.size) g q _ hg1⟩
          · rw [size_putRow]; show g < (grow _ os).heap.size; rw [size_grow]; omega
          · have := (hH3 i (by simp; omega)).1
            rw [Nat.zero_add] at this
            rw [this]
            congr 2
            simp [show i < c.length + (zs.length - c.length) by omega, List.getElem_append_left, hi]
        have HF : Hid (Inc c ∧ (∀ n, n ∈ c ↔ n ∈ ysL (A ++ B)) ∧ c.length ≤ 2000000) := by
          rw [hc]
          refine ⟨s1, fun n => by rw [s2, hzs], by omega⟩
        have HS : Hid (Calls Try.prog 92 #[.slice (some ⟨g, 0, none⟩) zs.length cap2] wr fun e w' => e = .returned (.tuple #[]) ∧ ∃ n os, w' = grow (putRow (Value.int .i64) (Sort.ahead wr n) g 0 t.toArray) os) := hs1
        clear hs1 hH hown hBr hbk hnb hoa s1 s2 hcl hzs HO hc ht
        go_wp2_with fail
        refine HS.out.mono ?_
        rintro e w1 ⟨rfl, n, os, hw1⟩
        have HC1 : Hid (Calls Try.prog 93 #[.slice (some ⟨g, 0, none⟩) zs.length cap2] w1 fun e w' => e = .returned (.slice (some ⟨g, 0, none⟩) c.length cap2) ∧ IsL w' (.slice (some ⟨g, 0, none⟩) c.length cap2) c ∧ Below w.heap.size w w') := by unfold Hid; rw [hw1]; exact HCon.out n os
        clear hw1
        go_wp2_with fail
        refine HC1.out.mono ?_
        rintro e w2 ⟨rfl, hI, hb2⟩
        have HI2 : Hid (IsL w2 (.slice (some ⟨g, 0, none⟩) c.length cap2) c ∧ Below w.heap.size w w2) := ⟨hI, hb2⟩
        clear hI hb2
        go_wp2
        go_ret
        exact ⟨_, c, rfl, HI2.out.1, HF.out.1, HF.out.2.1, HF.out.2.2, HI2.out.2⟩

end Go.Proofs.Ytbghjmkgicdnoaa

/-
  Contracts of package region: whether spans are the same; bands in memory.
-/
namespace Go.Proofs.Ytbghjmkgicdnoaa
open Go.RowKit Go.Sort Go.Shelf

def encS (s : Sp) : List Value := [.int .i64 s.1, .int .i64 s.2]
theorem neq_span (x y : Sp) (w : World) : (binOp .neq 104 (.agg (encS x).toArray) (.agg (encS y).toArray)).run Try.prog w = .ok (.bool (!decide (x = y))) w := by
  have h : ∀ p q : Int, (p == q) = decide (p = q) := fun p q => by rw [Bool.eq_iff_iff]; simp
  obtain ⟨a, b⟩ := x
  obtain ⟨c, d⟩ := y
  by_cases h1 : a = c <;> by_cases h2 : b = d <;> simp [go_sem, encS, h, h1, h2]
theorem allEq_dec {α : Type} [DecidableEq α] : ∀ xs ys : List α, Lib.allEq (fun x y => decide (x = y)) xs ys = decide (xs = ys)
  | [], [] => rfl
  | [], _ :: _ => by simp [Lib.allEq]
  | _ :: _, [] => by simp [Lib.allEq]
  | x :: xs, y :: ys => by
    rw [Lib.allEq, allEq_dec xs ys]
    by_cases h1 : x = y <;> by_cases h2 : xs = ys <;> simp [h1, h2]
theorem eqsp_any (S C : List Sp) (v u : Value) (w : World) (hv : SpL w v S) (hu : SpL w u C) (hS : 0 < S.length) (hC : 0 < C.length) (hS2 : S.length ≤ 1000000) (hC2 : C.length ≤ 1000000) :
    Calls Try.prog 88 #[v, u] w fun e w' => e = .returned (.bool (decide (S = C))) ∧ Below w.heap.size w w' := by
  obtain ⟨oa, ca, rfl, hca, hga⟩ := hv.cells
  obtain ⟨ob, cb, rfl, hcb, hgb⟩ := hu.cells
  obtain ⟨g, rfl, _, hg⟩ := hga hS
  obtain ⟨g', rfl, _, hg'⟩ := hgb hC
  have key : ∀ (l : List Sp) (b : Nat), (∀ i (h : i < l.length), w.cell? ⟨b, i * 2, none⟩ = some (.int .i64 l[i].1) ∧ w.cell? ⟨b, i * 2 + 1, none⟩ = some (.int .i64 l[i].2)) → ∀ j, j < l.length → ∀ i v, (encS l[j]!)[i]? = some v → w.cell? ⟨b, 0 + j * 2 + i, none⟩ = some v := by
    intro l b h j hj i v hi
    have e : l[j]! = l[j] := by simp [hj]
    rw [e] at hi
    obtain ⟨h1, h2⟩ := h j hj
    rw [Nat.zero_add]
    match i, hi with
    | 0, hi => simp [encS] at hi; rw [← hi]; exact h1
    | 1, hi => simp [encS] at hi; rw [← hi]; exact h2
  have h := AnyQ.slices_Equal Try.eqSp 2 Try.isAgg104 Try.sizeOf104 encS (fun _ => rfl) (fun x y => decide (x = y)) ⟨neq_span, GuardAt.agg _ (by kernel_rfl)⟩ g 0 S.length ca g' 0 C.length cb S C w (Nat.le_refl _) (Nat.le_refl _) (by omega) (by omega) (key S g hg) (key C g' hg')
  change Calls Try.prog 88 _ _ _ at h
  rw [List.take_length, List.take_length, allEq_dec] at h
  exact h.mono fun e w' ⟨he, q, hw⟩ => ⟨he, by rw [hw]; exact below_drewN (Below.refl _ w)⟩

theorem runs_len (y : Int) : ∀ (l : List Rc) (acc : List Sp), (runsF y l acc).length ≤ acc.length + l.length
  | [], acc => by simp [runsF]
  | r :: t, acc => by
    rw [runsF]
    split
    · have := runs_len y t acc; simp; omega
    · have h := runs_len y t (runA acc r.x (r.x + r.w))
      have h2 : ∀ (acc : List Sp) (a b : Int), (runA acc a b).length ≤ acc.length + 1 := by
        intro acc a b
        rcases List.eq_nil_or_concat acc with rfl | ⟨i, s, e⟩
        · simp [runA]
        · rw [List.concat_eq_append] at e
          subst e
          rw [runA_snoc]
          split <;> simp
      have := h2 acc r.x (r.x + r.w)
      simp
      omega

/-- A band in memory: its numbers, the slice of its spans. -/
abbrev Bv := Int × Int × Value
def flatV : List Bv → List Value
  | [] => []
  | b :: t => .int .i64 b.1 :: .int .i64 b.2.1 :: b.2.2 :: flatV t
theorem flatV_app (l m : List Bv) : flatV (l ++ m) = flatV l ++ flatV m := by
  induction l with
  | nil => rfl
  | cons s l ih => simp [flatV, ih]
theorem flatV_len (l : List Bv) : (flatV l).length = l.length * 3 := by
  induction l with
  | nil => rfl
  | cons s l ih => simp [flatV, ih]; omega
theorem flatV_at (l : List Bv) (k : Nat) (h : k < l.length) : (flatV l)[k * 3]? = some (.int .i64 l[k].1) ∧ (flatV l)[k * 3 + 1]? = some (.int .i64 l[k].2.1) ∧ (flatV l)[k * 3 + 2]? = some l[k].2.2 := by
  induction l generalizing k with
  | nil => simp at h
  | cons s l ih =>
    cases k with
    | zero => simp [flatV]
    | succ k =>
      have h' : k < l.length := by simpa using h
      obtain ⟨i0, i1, i2⟩ := ih k h'
      have e : ∀ j, (flatV (s :: l))[(k + 1) * 3 + j]? = (flatV l)[k * 3 + j]? := fun j => by
        rw [show (k + 1) * 3 + j = (k * 3 + j) + 1 + 1 + 1 by omega]
        simp [flatV]
      have e0 := e 0
      rw [Nat.add_zero, Nat.add_zero] at e0
      exact ⟨e0.trans i0, (e 1).trans i1, (e 2).trans i2⟩
theorem flatV_set (l : List Bv) (e : Bv) (z : Int) : (flatV (l ++ [e])).set (l.length * 3 + 1) (.int .i64 z) = flatV (l ++ [(e.1, z, e.2.2)]) := by
  induction l with
  | nil => rfl
  | cons q t ih =>
    have h : (q :: t).length * 3 + 1 = (t.length * 3 + 1) + 1 + 1 + 1 := by simp; omega
    rw [h]
    simpa [flatV] using ih
/-- Bands in memory are these bands. -/
def Mt (w : World) : List Bv → List Bd → Prop
  | [], [] => True
  | b :: bt, d :: dt => (b.1 = d.1 ∧ b.2.1 = d.2.1 ∧ SpL w b.2.2 d.2.2) ∧ Mt w bt dt
  | _, _ => False
theorem Mt.len {w : World} : ∀ {bv : List Bv} {l : List Bd}, Mt w bv l → bv.length = l.length
  | [], [], _ => rfl
  | _ :: _, _ :: _, h => by rw [List.length_cons, List.length_cons, Mt.len h.2]
theorem Mt.map {w w' : World} (f : ∀ v l, SpL w v l → SpL w' v l) : ∀ {bv : List Bv} {l : List Bd}, Mt w bv l → Mt w' bv l
  | [], [], _ => trivial
  | _ :: _, _ :: _, h => ⟨⟨h.1.1, h.1.2.1, f _ _ h.1.2.2⟩, Mt.map f h.2⟩
theorem Mt.below {w w' : World} {bv : List Bv} {l : List Bd} (h : Mt w bv l) (hb : Below w.heap.size w w') : Mt w' bv l := h.map fun _ _ k => k.below hb
theorem info_band : (Try.prog.info? 102).map (fun i => (i.zero, i.size, i.bytes)) = some (some (.agg #[.int .i64 0, .int .i64 0, .slice none 0 0]), 3, 40) := by kernel_rfl
theorem cell_threeB (w : World) (x y z : Value) (t : TypeId) (b : Nat) (h : b = w.heap.size) : ∀ (j : Nat) (u : Value), [x, y, z][j]? = some u → (w.alloc (.cells #[x, y, z] t)).cell? ((⟨b, 0, none⟩ : Addr).add j) = some u := by
  intro j u hj
  subst h
  match j, hj with
  | 0, hj => simp at hj; subst hj; simp [Addr.add]
  | 1, hj => simp at hj; subst hj; simp [Addr.add]
  | 2, hj => simp at hj; subst hj; simp [Addr.add]
theorem one3 (a b : Int) (o : Option Addr) (n c : Nat) : ∀ u ∈ [Value.int .i64 a, .int .i64 b, .slice o n c], u.oneCell' = true := by
  intro u hu
  simp at hu
  rcases hu with rfl | rfl | rfl <;> rfl
theorem want_len (k : Bool) (S C : List Sp) : (wantF k S C).length ≤ 2 * S.length + C.length := by
  have h1 := pieces_len S C
  have h2 := pieces_len S (piecesF S C)
  unfold wantF
  cases k <;> simp <;> omega

/-- The function that leaves something of two rows: this program calls one alone. -/
def fnW (k : Bool) : Nat := if k then 60 else 60
def okW (k : Bool) : Bool := !k
theorem want_any (k : Bool) (S C : List Sp) (v u : Value) (w : World) (hv : SpL w v S) (hu : SpL w u C) (hS : S.length ≤ 400000) (hC : C.length ≤ 400000) (hk : okW k = true) :
    Calls Try.prog (fnW k) #[v, u] w fun e w' => ∃ z, e = .returned z ∧ SpL w' z (wantF k S C) ∧ Below w.heap.size w w' := by
  cases k with
  | false => exact pieces_any S C v u w hv hu (by omega) (by omega)
  | true => cases hk

end Go.Proofs.Ytbghjmkgicdnoaa
