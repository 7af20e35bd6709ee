/-
  Contracts of the document's answer for layer 13: lists compared; flat lists.
-/
import Derived.Test.YtbghjmkgicdnoaaGreatK13
import Derived.BigQuiet
namespace Go.Proofs.YtbghjmkgicdnoaaGreat
open Go.RowKit

/-- Two lists of strokes, compared. -/
def samZ : List St → List St → Bool
  | [], [] => true
  | x :: a, y :: b => eqS x y && samZ a b
  | _, _ => false
theorem samZ_iff : ∀ a b : List St, samZ a b = true ↔ a = b
  | [], [] => by simp [samZ]
  | [], _ :: _ => by simp [samZ]
  | _ :: _, [] => by simp [samZ]
  | x :: a, y :: b => by rw [samZ, Bool.and_eq_true, eqS_iff, samZ_iff a b]; simp
theorem samZ_self (a : List St) : samZ a a = true := (samZ_iff a a).2 rfl
theorem samZ_no {a b : List St} (h : a ≠ b) : samZ a b = false := by
  cases e : samZ a b
  · rfl
  · exact absurd ((samZ_iff a b).1 e) h

set_option maxRecDepth 20000 in
set_option maxHeartbeats 4000000 in
theorem zsame_any (a b : List St) (va vb : Value) (w : World) (ha : LsS w va a) (hb : LsS w vb b) (hl : a.length < 1000000) :
    Calls Tryz.prog 13 #[va, vb] w fun e w' => e = .returned (.bool (samZ a b)) ∧ Below w.heap.size w w' := by
  obtain ⟨oa, ca, rfl, hca, hga⟩ := ha
  obtain ⟨ob, cb, rfl, hcb, hgb⟩ := hb
  by_cases hn : a.length = b.length
  case neg =>
    have hn' : ((a.length : Int) == (b.length : Int)) = false := beq_eq_false_iff_ne.2 (by omega)
    rw [samZ_no (fun h => hn (by rw [h]))]
    clear hga hgb hn
    go_enter Tryz.func13, Tryz.ntmps13
    go_wp2
    go_ret
    exact ⟨rfl, Below.refl _ _⟩
  case pos =>
    have HA : Hid (0 < a.length → ∃ g o, oa = some ⟨g, o, none⟩ ∧ g < w.heap.size ∧ ∀ i (h : i < a.length), StAt w g (o + i * 15) a[i]) := hga
    have HB : Hid (0 < b.length → ∃ g o, ob = some ⟨g, o, none⟩ ∧ g < w.heap.size ∧ ∀ i (h : i < b.length), StAt w g (o + i * 15) b[i]) := hgb
    obtain ⟨R, HR⟩ : ∃ R, Hid (samZ a b = R) := ⟨_, rfl⟩
    rw [HR.out]
    have HN : Hid (a.length = b.length) := hn
    obtain ⟨m, hm⟩ : ∃ m, m = b.length := ⟨_, rfl⟩
    have hm2 : a.length = m := by rw [hm]; exact hn
    have HM : Hid (b.length = m ∧ a.length = m) := ⟨hm.symm, hm2⟩
    rw [← hm]
    rw [hm2]
    rw [hm2] at hl
    clear hga hgb hn hm hm2 hca hcb
    go_enter Tryz.func13, Tryz.ntmps13
    go_wp2_with fail
    go_loopw [5] (fun i wr => ∃ k : Nat, k ≤ m ∧ i = .int .i64 k ∧ Hid ((∀ j, j < k → a[j]? = b[j]?) ∧ Below w.heap.size w wr)) (fun i _ => m - (intOf i).toNat)
    case atStart => exact ⟨0, Nat.zero_le _, rfl, fun j hj => absurd hj (Nat.not_lt_zero _), Below.refl _ _⟩
    case round =>
      obtain ⟨k, hk, rfl, HK⟩ := hrel
      by_cases hlt : k < m
      · have ik : (k : Int) < m := by omega
        have hla : k < a.length := by rw [HM.out.2]; exact hlt
        have hlb : k < b.length := by rw [HM.out.1]; exact hlt
        obtain ⟨g, o, rfl, hg, hat⟩ := HA.out (by omega)
        obtain ⟨g', o', rfl, hg', hat'⟩ := HB.out (by omega)
        have hx := (hat k hla).kept (w' := wr) fun j => HK.out.2.cell (p := ⟨g, j, none⟩) hg
        have hy := (hat' k hlb).kept (w' := wr) fun j => HK.out.2.cell (p := ⟨g', j, none⟩) hg'
        have HE : Hid (a[k]? = some a[k] ∧ b[k]? = some b[k]) := ⟨List.getElem?_eq_getElem hla, List.getElem?_eq_getElem hlb⟩
        clear hat hat'
        generalize a[k] = x at *
        generalize b[k] = y at *
        obtain ⟨x0, x1, x2, x3, x4, x5, x6, x7, x8, x9, x10, x11, x12, x13, x14⟩ := hx
        obtain ⟨y0, y1, y2, y3, y4, y5, y6, y7, y8, y9, y10, y11, y12, y13, y14⟩ := hy
        have hq := neq_stroke x y
        cases ht : eqS x y
        · have HF : Hid (R = false ∧ Below w.heap.size w wr) := by
            refine ⟨?_, HK.out.2⟩
            rw [← HR.out]
            refine samZ_no fun e => ?_
            have h1 := HE.out.1
            rw [e, HE.out.2] at h1
            injection h1 with h1
            rw [h1, eqS_self] at ht
            cases ht
          rw [ht] at hq
          clear HK HE ht hla hlb
          go_wp2_with fail
          go_quiet (fail)
          go_wp2
          go_ret
          exact ⟨by rw [HF.out.1]; rfl, below_drewN HF.out.2⟩
        · have HF : Hid ((∀ j, j < k + 1 → a[j]? = b[j]?) ∧ Below w.heap.size w wr) := by
            refine ⟨fun j hj => ?_, HK.out.2⟩
            by_cases hjk : j = k
            · subst hjk; rw [HE.out.1, HE.out.2, (eqS_iff x y).1 ht]
            · exact HK.out.1 j (by omega)
          rw [ht] at hq
          clear HK HE ht hla hlb
          go_wp2_with fail
          go_quiet (fail)
          go_wp2
          go_roundw
          case rel => exact ⟨k + 1, by omega, by go_num, HF.out.1, below_drewN HF.out.2⟩
          case measure => simp [intOf]; omega
      · obtain rfl : k = m := by omega
        have HF : Hid (R = true ∧ Below w.heap.size w wr) := by
          refine ⟨?_, HK.out.2⟩
          rw [← HR.out, samZ_iff]
          refine List.ext_getElem? fun j => ?_
          by_cases hj : j < k
          · exact HK.out.1 j hj
          · rw [List.getElem?_eq_none (by have := HM.out.2; omega), List.getElem?_eq_none (by have := HM.out.1; omega)]
        clear HK
        go_wp2
        go_ret
        exact ⟨by rw [HF.out.1]; rfl, HF.out.2⟩

theorem cell_strokeB (w : World) (s : St) (t : TypeId) (b : Nat) (h : b = w.heap.size) : ∀ (j : Nat) (u : Value), (sCel s)[j]? = some u → (w.alloc (.cells (#[.int .u8 s.k, .int .i64 s.r.x, .int .i64 s.r.y, .int .i64 s.r.w, .int .i64 s.r.h, .int .u8 s.c.r, .int .u8 s.c.g, .int .u8 s.c.b, .int .u8 s.c.a, .int .u8 s.b.r, .int .u8 s.b.g, .int .u8 s.b.b, .int .u8 s.b.a, .string s.t, .int .i64 s.n]) t)).cell? ((⟨b, 0, none⟩ : Addr).add j) = some u := by
  intro j u hj
  subst h
  have e : (⟨w.heap.size, 0, none⟩ : Addr).add j = ⟨w.heap.size, j, none⟩ := by
    simp [Addr.add]
    intro h
    exact h.symm
  rw [e, (Bk.new w (#[.int .u8 s.k, .int .i64 s.r.x, .int .i64 s.r.y, .int .i64 s.r.w, .int .i64 s.r.h, .int .u8 s.c.r, .int .u8 s.c.g, .int .u8 s.c.b, .int .u8 s.c.a, .int .u8 s.b.r, .int .u8 s.b.g, .int .u8 s.b.b, .int .u8 s.b.a, .string s.t, .int .i64 s.n]) t).cell j, ← hj]
  show (sCel s).toArray[j]? = _
  simp
/-- A row that lies elsewhere stays; two rows stay apart. -/
theorem grow_row {lo : Nat} {W W4 : World} {o : Obj} {u v : Value} {e : TypeId} {size m g4 n cap4 : Nat} {xs : List Value} (hv : W.ownsRow lo e size v m xs) (ha : Apt u v) (hgrow : (W.alloc o).grownBy W4 u.ownBlock) (hlies : u.ownBlock = some g4 ∨ g4 = W.heap.size + 1) : W4.ownsRow lo e size v m xs ∧ Apt (.slice (some ⟨g4, 0, none⟩) n cap4) v := by
  have a1 : (W.alloc o).ownsRow lo e size v m xs := row_below hv ((Below.refl _ _).alloc (Nat.le_refl _) _)
  exact ⟨World.ownsRow.kept a1 hgrow ha.ne, Apt.grow ha a1 (by simp) hlies⟩
theorem snocS {lo : Nat} {W : World} {v : Value} {L : List St} {x : St} {k : Nat} (hk : k = L.length) (h : W.ownsRow lo 48 15 v (k + 1) (flatZ L ++ sCel x)) : OwS lo W v (L ++ [x]) := by
  unfold OwS
  rw [List.length_append, List.length_singleton, ← hk, flatZ_app, flatZ_one]
  exact h
theorem snocR {lo : Nat} {W : World} {v : Value} {L : List Rc} {r : Rc} {k : Nat} (hk : k = L.length) (h : W.ownsRow lo 44 4 v (k + 1) (flat L ++ [.int .i64 r.x, .int .i64 r.y, .int .i64 r.w, .int .i64 r.h])) : OwR lo W v (L ++ [r]) := by
  unfold OwR
  rw [List.length_append, List.length_singleton, ← hk, flat_app, flat_one]
  exact h

def fla1 (l : List St) : List St := if chkS l = 0 then (flaL l).map Prod.fst else []
def fla2 (l : List St) : List Rc := if chkS l = 0 then (flaL l).map Prod.snd else []
/-- What is answered: two lists and an error. -/
def AnsF (w : World) (l : List St) (e : Ending) (w' : World) : Prop := ∃ u q, e = .returned (.tuple #[u, q, .int .i64 (chkS l)]) ∧ Hid (OwS w.heap.size w' u (fla1 l) ∧ OwR w.heap.size w' q (fla2 l) ∧ Apt u q ∧ Below w.heap.size w w')

/-- What lies there while a list is made flat. -/
structure FlW (B : Nat) (w2 : World) (A : List (St × Rc)) (k : Nat) (u q : Value) (W : World) : Prop where
  s : OwS B W u (((A.take k).filter fun p => drw p.1).map Prod.fst)
  r : OwR B W q (((A.take k).filter fun p => drw p.1).map Prod.snd)
  a : Apt u q
  b : Below B w2 W
theorem FlW.below {B : Nat} {w2 : World} {A : List (St × Rc)} {k : Nat} {u q : Value} {W W' : World} (h : FlW B w2 A k u q W) (hB : B ≤ W.heap.size) (hb : Below W.heap.size W W') : FlW B w2 A k u q W' := ⟨h.s.below hb, h.r.below hb, h.a, h.b.trans (hb.mono hB)⟩

set_option maxRecDepth 20000 in
set_option maxHeartbeats 8000000 in
theorem zflat_any (l : List St) (v : Value) (w : World) (hv : LsS w v l) (ht : Txs l) :
    Calls Tryz.prog 8 #[v] w fun e w' => AnsF w l e w' := by
  have HC : Hid (Calls Tryz.prog 12 #[v] w fun e w' => e = .returned (.int .i64 (chkS l)) ∧ Below w.heap.size w w') := zcheck_any l v w hv ht
  unfold AnsF
  by_cases h0 : chkS l = 0
  case neg =>
    have HE : Hid (fla1 l = [] ∧ fla2 l = []) := ⟨by unfold fla1; rw [if_neg h0], by unfold fla2; rw [if_neg h0]⟩
    have hne : (chkS l != 0) = true := by simp [h0]
    clear h0 hv ht
    generalize chkS l = ce at *
    go_enter Tryz.func8, Tryz.ntmps8
    go_wp2_with fail
    refine HC.out.mono ?_
    rintro e w1 ⟨rfl, hb⟩
    have H1 : Hid (Below w.heap.size w w1) := hb
    clear hb
    go_wp2
    go_ret3
    refine ⟨_, _, rfl, ?_⟩
    rw [HE.out.1, HE.out.2]
    exact ⟨OwS.nil _ _, OwR.nil _ _, (fun g h => by cases h), H1.out⟩
  case pos =>
    obtain ⟨hl, hcl⟩ := chkS_zero h0
    have HE : Hid (fla1 l = (flaL l).map Prod.fst ∧ fla2 l = (flaL l).map Prod.snd) := ⟨by unfold fla1; rw [if_pos h0], by unfold fla2; rw [if_pos h0]⟩
    have HSh : Hid (∀ W, Below w.heap.size w W → Calls Tryz.prog 24 #[v] W fun e w' => ∃ u, e = .returned u ∧ OwR W.heap.size w' u ((ann [] l).map Prod.snd) ∧ Below W.heap.size W w') := fun W h => zshown_any l v W (hv.below h) hl hcl
    rw [h0] at HC ⊢
    clear h0
    obtain ⟨oa, cap, rfl, hc, hg⟩ := hv
    have HG : Hid (0 < l.length → ∃ g o, oa = some ⟨g, o, none⟩ ∧ g < w.heap.size ∧ ∀ i (h : i < l.length), StAt w g (o + i * 15) l[i]) := hg
    obtain ⟨i0, hi, hz0, hz1, hz2⟩ := info_parts info_rect
    obtain ⟨j0, ki, kz0, kz1, kz2⟩ := info_parts info_strokeZ
    clear hg ht hcl
    go_enter Tryz.func8, Tryz.ntmps8
    go_wp2_with fail
    refine HC.out.mono ?_
    rintro e w1 ⟨rfl, hb1⟩
    have H1 : Hid (Below w.heap.size w w1) := hb1
    clear hb1
    go_wp2_with fail
    refine (HSh.out _ H1.out).mono ?_
    rintro e w2 ⟨us, rfl, hus, hb2⟩
    have H2 : Hid (OwR w1.heap.size w2 us ((ann [] l).map Prod.snd) ∧ Below w.heap.size w w2) := ⟨hus, H1.out.trans (hb2.mono H1.out.size)⟩
    clear hus hb2
    obtain ⟨os, cp, es, hcp, hgs⟩ := row_val H2.out.1
    subst es
    have hAl : ((ann [] l).map Prod.snd).length = l.length := by rw [List.length_map, ann_len]
    rw [hAl] at hcp ⊢
    have HUS : Hid (0 < l.length → ∃ g, os = some ⟨g, 0, none⟩ ∧ g < w2.heap.size ∧ ∀ i p, (ann [] l)[i]? = some p → RcAt w2 g (i * 4) p.2) := fun h => by
      obtain ⟨g, e1, _, hlt⟩ := hgs (by omega)
      refine ⟨g, e1, hlt, fun i p hp => ?_⟩
      obtain ⟨oa', cap', e2, _, hg'⟩ := lsr_own H2.out.1
      obtain ⟨g', o', e3, _, hat⟩ := hg' (by omega)
      injection e2 with e2 _ _
      rw [e1] at e2
      rw [e3] at e2
      injection e2 with e2
      injection e2 with e4 e5 _
      subst e4 e5
      obtain ⟨hi, he⟩ := List.getElem?_eq_some_iff.1 hp
      have := hat i (by rw [List.length_map]; exact hi)
      rw [Nat.zero_add, List.getElem_map, he] at this
      exact this
    have HN : Hid (∀ k (h : k < l.length), ∃ p, (ann [] l)[k]? = some p ∧ p.1 = l[k] ∧ (ann [] l).take (k + 1) = (ann [] l).take k ++ [p]) := fun k h => by
      have h' : k < (ann [] l).length := by rw [ann_len]; exact h
      refine ⟨(ann [] l)[k], List.getElem?_eq_getElem h', ?_, (List.take_append_getElem h').symm⟩
      have := congrArg (fun L : List St => L[k]?) (ann_fst l [])
      simp only [List.getElem?_map, List.getElem?_eq_getElem h', List.getElem?_eq_getElem h, Option.map_some, Option.some.injEq] at this
      exact this
    have HLen : Hid ((ann [] l).length = l.length) := ann_len l []
    have HF : Hid (flaL l = (ann [] l).filter fun p => drw p.1) := rfl
    have HDr : Hid (∀ (s : St) W, Calls Tryz.prog 25 #[(Value.agg #[.int .u8 s.k, .int .i64 s.r.x, .int .i64 s.r.y, .int .i64 s.r.w, .int .i64 s.r.h, .int .u8 s.c.r, .int .u8 s.c.g, .int .u8 s.c.b, .int .u8 s.c.a, .int .u8 s.b.r, .int .u8 s.b.g, .int .u8 s.b.b, .int .u8 s.b.a, .string s.t, .int .i64 s.n])] W fun e w' => e = .returned (.bool (drw s)) ∧ Below W.heap.size W w') := fun s W => zdraws_any s W
    obtain ⟨B, hB⟩ : ∃ B, B = w2.heap.size := ⟨_, rfl⟩
    have HB : Hid (B = w2.heap.size) := hB
    have H0 : Hid (FlW B w2 (ann [] l) 0 (.slice none 0 0) (.slice none 0 0) w2) := ⟨OwS.nil _ _, OwR.nil _ _, (fun g h => by cases h), by rw [hB]; exact Below.refl _ _⟩
    clear hgs HC HSh hB
    generalize ann [] l = A at *
    go_wp2_with fail
    go_loopw [7, 8, 9] (fun u q i wr => ∃ k : Nat, i = .int .i64 k ∧ k ≤ l.length ∧ Hid (FlW B w2 A k u q wr)) (fun _ _ i _ => l.length - (intOf i).toNat)
    case atStart => exact ⟨0, rfl, Nat.zero_le _, H0⟩
    case round =>
      clear H0
      obtain ⟨k, rfl, hk, HK⟩ := hrel
      by_cases hlt : k < l.length
      · have ik : (k : Int) < l.length := by omega
        obtain ⟨g, o, rfl, hg, hat⟩ := HG.out (by omega)
        obtain ⟨g1, rfl, hg1, hat1⟩ := HUS.out (by omega)
        obtain ⟨p, hp1, hp2, hp3⟩ := HN.out k hlt
        have hsz : B ≤ wr.heap.size := by have := HK.out.b.size; rw [HB.out]; exact this
        have hBw : Hid (Below w.heap.size w wr) := by
          have := HK.out.b
          rw [HB.out] at this
          exact H2.out.2.trans (this.mono H2.out.2.size)
        have hgB : g1 < B := by rw [HB.out]; exact hg1
        have hx := (hat k hlt).kept (w' := wr) fun j => hBw.out.cell (p := ⟨g, j, none⟩) hg
        have HX2 : Hid (∀ W, Below w.heap.size w W → StAt W g (o + k * 15) p.1) := fun W h => by rw [hp2]; exact (hat k hlt).kept fun j => h.cell (p := ⟨g, j, none⟩) hg
        have HY2 : Hid (∀ W, Below B w2 W → RcAt W g1 (k * 4) p.2) := fun W h => (hat1 k p hp1).kept fun j => h.cell (p := ⟨g1, j, none⟩) hgB
        have HP : Hid (A.take (k + 1) = A.take k ++ [p]) := hp3
        rw [← hp2] at hx
        clear hat hat1 hp1 hp2 hp3 HUS HN HG
        obtain ⟨x0, x1, x2, x3, x4, x5, x6, x7, x8, x9, x10, x11, x12, x13, x14⟩ := hx
        have hlf : Hid (((A.take k).filter fun p => drw p.1).length ≤ k) := Nat.le_trans (List.length_filter_le _ _) (by rw [List.length_take]; omega)
        go_wp2_with fail
        refine (HDr.out p.1 _).mono ?_
        rintro e w3 ⟨rfl, hb3⟩
        have H3 : Hid (FlW B w2 A k u7 u8 w3 ∧ Below w.heap.size w w3) := ⟨HK.out.below hsz hb3, hBw.out.trans (hb3.mono hBw.out.size)⟩
        have hsz3 : Hid (B ≤ w3.heap.size) := Nat.le_trans hsz hb3.size
        clear hb3 HK hsz x0 x1 x2 x3 x4 x5 x6 x7 x8 x9 x10 x11 x12 x13 x14
        cases hd : drw p.1 with
        | false =>
          have HRel : Hid (FlW B w2 A (k + 1) u7 u8 w3) := by
            obtain ⟨a1, a2, a3, a4⟩ := H3.out.1
            have e : (A.take (k + 1)).filter (fun p => drw p.1) = (A.take k).filter fun p => drw p.1 := by rw [HP.out, List.filter_append]; simp [hd]
            refine ⟨by rw [e]; exact a1, by rw [e]; exact a2, a3, a4⟩
          clear H3 HP
          go_wp2
          go_roundw
          case rel => exact ⟨k + 1, by go_num, by omega, HRel⟩
          case measure => simp [intOf]; omega
        | true =>
          have HFi : Hid ((A.take (k + 1)).filter (fun p => drw p.1) = ((A.take k).filter fun p => drw p.1) ++ [p]) := by unfold Hid; rw [HP.out, List.filter_append]; simp [hd]
          obtain ⟨x0, x1, x2, x3, x4, x5, x6, x7, x8, x9, x10, x11, x12, x13, x14⟩ := HX2.out _ H3.out.2
          obtain ⟨F, hF⟩ : ∃ F, F = (A.take k).filter fun p => drw p.1 := ⟨_, rfl⟩
          obtain ⟨m, hm⟩ : ∃ m, m = F.length := ⟨_, rfl⟩
          have HFm : Hid (F = ((A.take k).filter fun p => drw p.1) ∧ m = F.length) := ⟨hF, hm⟩
          have hmk : m ≤ k := by rw [hm, hF]; exact hlf.out
          have HS3 : Hid (OwS B w3 u7 (F.map Prod.fst) ∧ OwR B w3 u8 (F.map Prod.snd) ∧ Apt u7 u8 ∧ Below B w2 w3) := by rw [hF]; exact ⟨H3.out.1.s, H3.out.1.r, H3.out.1.a, H3.out.1.b⟩
          rw [← hF] at HFi
          clear hF hm
          have HA : Hid (∀ o, (w3.alloc o).ownsRow B 48 15 u7 m (flatZ (F.map Prod.fst)) ∧ B ≤ (w3.alloc o).heap.size) := fun o => by
            have h := HS3.out.1
            unfold OwS at h
            rw [List.length_map, ← HFm.out.2] at h
            exact ⟨row_below h ((Below.refl _ _).alloc (Nat.le_refl _) _), by have := hsz3.out; simp; omega⟩
          have hc3 : Hid (m + 1 ≤ maxLen) := by unfold Hid maxLen; omega
          have hc4 : Hid ((m + 1) * 72 ≤ 140737488355328) := by unfold Hid; omega
          have hc5 : Hid ((m + 1) * 32 ≤ 140737488355328) := by unfold Hid; omega
          obtain ⟨x, hxx⟩ : ∃ x, x = p.1 := ⟨_, rfl⟩
          have HXX : Hid (x = p.1) := hxx
          rw [← hxx] at x0 x1 x2 x3 x4 x5 x6 x7 x8 x9 x10 x11 x12 x13 x14
          clear hxx hd
          go_wp2_with (at_builtin; refine wpList_append_lies _ rfl _ _ 22 rfl B 48 j0 (.agg #[.int .u8 0, .int .i64 0, .int .i64 0, .int .i64 0, .int .i64 0, .int .u8 0, .int .u8 0, .int .u8 0, .int .u8 0, .int .u8 0, .int .u8 0, .int .u8 0, .int .u8 0, .string ByteArray.empty, .int .i64 0]) 15 72 Tryz.underlying22 ki kz0 kz1 kz2 rfl (by decide) u7 m (flatZ (F.map Prod.fst)) rfl (HA.out _).1 _ 1 1 (sCel x) rfl rfl (cell_strokeB _ _ _ _ rfl) (oneZ x) (by decide) hc3.out hc4.out (HA.out _).2 _ rfl ?_)
          intro g4 cap4 w4 hown' hgrow hlies hg4
          have H4 : Hid (OwS B w4 (.slice (some ⟨g4, 0, none⟩) (m + 1) cap4) ((F ++ [p]).map Prod.fst) ∧ OwR B w4 u8 (F.map Prod.snd) ∧ Apt (.slice (some ⟨g4, 0, none⟩) (m + 1) cap4) u8 ∧ Below B w2 w4 ∧ B ≤ w4.heap.size) := by
            obtain ⟨a1, a2, a3, a4⟩ := HS3.out
            obtain ⟨b1, b2⟩ := grow_row (n := m + 1) (cap4 := cap4) a2 a3 hgrow hlies
            have b3 : Below B w2 (w3.alloc (.cells (#[.int .u8 x.k, .int .i64 x.r.x, .int .i64 x.r.y, .int .i64 x.r.w, .int .i64 x.r.h, .int .u8 x.c.r, .int .u8 x.c.g, .int .u8 x.c.b, .int .u8 x.c.a, .int .u8 x.b.r, .int .u8 x.b.g, .int .u8 x.b.b, .int .u8 x.b.a, .string x.t, .int .i64 x.n]) 48)) := a4.alloc hsz3.out _
            have b4 : Below B w2 w4 := b3.grown hgrow (HA.out _).2 (fun g hg => (row_lt (HA.out (.cells (#[.int .u8 x.k, .int .i64 x.r.x, .int .i64 x.r.y, .int .i64 x.r.w, .int .i64 x.r.h, .int .u8 x.c.r, .int .u8 x.c.g, .int .u8 x.c.b, .int .u8 x.c.a, .int .u8 x.b.r, .int .u8 x.b.g, .int .u8 x.b.b, .int .u8 x.b.a, .string x.t, .int .i64 x.n]) 48)).1 g hg).1)
            refine ⟨?_, b1, b2, b4, ?_⟩
            · rw [List.map_append, List.map_singleton, ← HXX.out]
              exact snocS (by rw [List.length_map]; exact HFm.out.2) hown'
            · have := hgrow.size
              have := hsz3.out
              simp at *
              omega
          clear hown' hgrow hlies hg4 HA HS3 H3 x0 x1 x2 x3 x4 x5 x6 x7 x8 x9 x10 x11 x12 x13 x14
          obtain ⟨r, hrr⟩ : ∃ r, r = p.2 := ⟨_, rfl⟩
          have HRR : Hid (r = p.2) := hrr
          obtain ⟨y0, y1, y2, y3⟩ := HY2.out _ H4.out.2.2.2.1
          rw [← hrr] at y0 y1 y2 y3
          clear hrr
          have HA2 : Hid (∀ o, (w4.alloc o).ownsRow B 44 4 u8 m (flat (F.map Prod.snd)) ∧ B ≤ (w4.alloc o).heap.size) := fun o => by
            have h := H4.out.2.1
            unfold OwR at h
            rw [List.length_map, ← HFm.out.2] at h
            exact ⟨row_below h ((Below.refl _ _).alloc (Nat.le_refl _) _), by have := H4.out.2.2.2.2; simp; omega⟩
          go_wp2_with (at_builtin; refine wpList_append_lies _ rfl _ _ 25 rfl B 44 i0 (.agg #[.int .i64 0, .int .i64 0, .int .i64 0, .int .i64 0]) 4 32 Tryz.underlying25 hi hz0 hz1 hz2 rfl (by decide) u8 m (flat (F.map Prod.snd)) rfl (HA2.out _).1 _ 1 1 [.int .i64 r.x, .int .i64 r.y, .int .i64 r.w, .int .i64 r.h] rfl rfl (cell_fourB _ _ _ _ _ _ _ rfl) (one4 r) (by decide) hc3.out hc5.out (HA2.out _).2 _ rfl ?_)
          intro g6 cap6 w6 hown' hgrow hlies hg6
          have HRel : Hid (FlW B w2 A (k + 1) (.slice (some ⟨g4, 0, none⟩) (m + 1) cap4) (.slice (some ⟨g6, 0, none⟩) (m + 1) cap6) w6) := by
            obtain ⟨a1, a2, a3, a4, a5⟩ := H4.out
            obtain ⟨b1, b2⟩ := grow_row (n := m + 1) (cap4 := cap6) a1 a3.turn hgrow hlies
            have b3 : Below B w2 (w4.alloc (.cells #[.int .i64 r.x, .int .i64 r.y, .int .i64 r.w, .int .i64 r.h] 44)) := a4.alloc a5 _
            have b4 : Below B w2 w6 := b3.grown hgrow (HA2.out _).2 (fun g hg => (row_lt (HA2.out (.cells #[.int .i64 r.x, .int .i64 r.y, .int .i64 r.w, .int .i64 r.h] 44)).1 g hg).1)
            refine ⟨by rw [HFi.out]; exact b1, ?_, b2.turn, b4⟩
            rw [HFi.out, List.map_append, List.map_singleton, ← HRR.out]
            exact snocR (by rw [List.length_map]; exact HFm.out.2) hown'
          clear hown' hgrow hlies hg6 HA2 H4 y0 y1 y2 y3
          go_wp2
          go_roundw
          case rel => exact ⟨k + 1, by go_num, by omega, HRel⟩
          case measure => simp [intOf]; omega
      · obtain rfl : k = l.length := by omega
        have HFin : Hid (OwS w.heap.size wr u7 (fla1 l) ∧ OwR w.heap.size wr u8 (fla2 l) ∧ Apt u7 u8 ∧ Below w.heap.size w wr) := by
          obtain ⟨a1, a2, a3, a4⟩ := HK.out
          have hle : w.heap.size ≤ B := by rw [HB.out]; exact H2.out.2.size
          rw [← HLen.out, List.take_length, ← HF.out] at a1 a2
          rw [HE.out.1, HE.out.2]
          rw [HB.out] at a4
          exact ⟨a1.weaken hle, a2.weaken hle, a3, H2.out.2.trans (a4.mono H2.out.2.size)⟩
        clear HK HUS HN HDr
        go_wp2
        go_ret3
        exact ⟨_, _, rfl, HFin⟩

end Go.Proofs.YtbghjmkgicdnoaaGreat
