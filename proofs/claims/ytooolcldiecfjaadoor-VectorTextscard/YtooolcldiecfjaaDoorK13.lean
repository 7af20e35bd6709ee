/-
  Texts of this claim, one behind the other: what each is about stands ahead of it.
-/
import Derived.Test.YtooolcldiecfjaaDoorK3
import Derived.Test.YtooolcldiecfjaaDoorK1
import Derived.BigQuiet
import Derived.Test.YtooolcldiecfjaaDoorK12
/-
  Contracts of the document's answer for layer 13: lists compared.
-/
namespace Go.Proofs.YtooolcldiecfjaaDoor
open Go.RowKit

/-- Two lists of strokes, compared. -/
def samZ : List St → List St → Bool
  | [], [] => true
  | x :: a, y :: b => eqS x y && samZ a b
  | _, _ => false
theorem samZ_iff : ∀ a b : List St, samZ a b = true ↔ a = b
  | [], [] => by simp [samZ]
  | [], _ :: _ => by simp [samZ]
  | _ :: _, [] => by simp [samZ]
  | x :: a, y :: b => by rw [samZ, Bool.and_eq_true, eqS_iff, samZ_iff a b]; simp
theorem samZ_self (a : List St) : samZ a a = true := (samZ_iff a a).2 rfl
theorem samZ_no {a b : List St} (h : a ≠ b) : samZ a b = false := by
  cases e : samZ a b
  · rfl
  · exact absurd ((samZ_iff a b).1 e) h

set_option maxRecDepth 20000 in
set_option maxHeartbeats 4000000 in
theorem zsame_any (a b : List St) (va vb : Value) (w : World) (ha : LsS w va a) (hb : LsS w vb b) (hl : a.length < 1000000) :
    Calls Tryd.prog 10 #[va, vb] w fun e w' => e = .returned (.bool (samZ a b)) ∧ Below w.heap.size w w' := by
  obtain ⟨oa, ca, rfl, hca, hga⟩ := ha
  obtain ⟨ob, cb, rfl, hcb, hgb⟩ := hb
  by_cases hn : a.length = b.length
  case neg =>
    have hn' : ((a.length : Int) == (b.length : Int)) = false := beq_eq_false_iff_ne.2 (by omega)
    rw [samZ_no (fun h => hn (by rw [h]))]
    clear hga hgb hn
    go_enter Tryd.func10, Tryd.ntmps10
    go_wp2
    go_ret
    exact ⟨rfl, Below.refl _ _⟩
  case pos =>
    have HA : Hid (0 < a.length → ∃ g o, oa = some ⟨g, o, none⟩ ∧ g < w.heap.size ∧ ∀ i (h : i < a.length), StAt w g (o + i * 15) a[i]) := hga
    have HB : Hid (0 < b.length → ∃ g o, ob = some ⟨g, o, none⟩ ∧ g < w.heap.size ∧ ∀ i (h : i < b.length), StAt w g (o + i * 15) b[i]) := hgb
    obtain ⟨R, HR⟩ : ∃ R, Hid (samZ a b = R) := ⟨_, rfl⟩
    rw [HR.out]
    have HN : Hid (a.length = b.length) := hn
    obtain ⟨m, hm⟩ : ∃ m, m = b.length := ⟨_, rfl⟩
    have hm2 : a.length = m := by rw [hm]; exact hn
    have HM : Hid (b.length = m ∧ a.length = m) := ⟨hm.symm, hm2⟩
    rw [← hm]
    rw [hm2]
    rw [hm2] at hl
    clear hga hgb hn hm hm2 hca hcb
    go_enter Tryd.func10, Tryd.ntmps10
    go_wp2_with fail
    go_loopw [5] (fun i wr => ∃ k : Nat, k ≤ m ∧ i = .int .i64 k ∧ Hid ((∀ j, j < k → a[j]? = b[j]?) ∧ Below w.heap.size w wr)) (fun i _ => m - (intOf i).toNat)
    case atStart => exact ⟨0, Nat.zero_le _, rfl, fun j hj => absurd hj (Nat.not_lt_zero _), Below.refl _ _⟩
    case round =>
      obtain ⟨k, hk, rfl, HK⟩ := hrel
      by_cases hlt : k < m
      · have ik : (k : Int) < m := by omega
        have hla : k < a.length := by rw [HM.out.2]; exact hlt
        have hlb : k < b.length := by rw [HM.out.1]; exact hlt
        obtain ⟨g, o, rfl, hg, hat⟩ := HA.out (by omega)
        obtain ⟨g', o', rfl, hg', hat'⟩ := HB.out (by omega)
        have hx := (hat k hla).kept (w' := wr) fun j => HK.out.2.cell (p := ⟨g, j, none⟩) hg
        have hy := (hat' k hlb).kept (w' := wr) fun j => HK.out.2.cell (p := ⟨g', j, none⟩) hg'
        have HE : Hid (a[k]? = some a[k] ∧ b[k]? = some b[k]) := ⟨List.getElem?_eq_getElem hla, List.getElem?_eq_getElem hlb⟩
        clear hat hat'
        generalize a[k] = x at *
        generalize b[k] = y at *
        obtain ⟨x0, x1, x2, x3, x4, x5, x6, x7, x8, x9, x10, x11, x12, x13, x14⟩ := hx
        obtain ⟨y0, y1, y2, y3, y4, y5, y6, y7, y8, y9, y10, y11, y12, y13, y14⟩ := hy
        have hq := neq_stroke x y
        cases ht : eqS x y
        · have HF : Hid (R = false ∧ Below w.heap.size w wr) := by
            refine ⟨?_, HK.out.2⟩
            rw [← HR.out]
            refine samZ_no fun e => ?_
            have h1 := HE.out.1
            rw [e, HE.out.2] at h1
            injection h1 with h1
            rw [h1, eqS_self] at ht
            cases ht
          rw [ht] at hq
          clear HK HE ht hla hlb
          go_wp2_with fail
          go_quiet (fail)
          go_wp2
          go_ret
          exact ⟨by rw [HF.out.1]; rfl, below_drewN HF.out.2⟩
        · have HF : Hid ((∀ j, j < k + 1 → a[j]? = b[j]?) ∧ Below w.heap.size w wr) := by
            refine ⟨fun j hj => ?_, HK.out.2⟩
            by_cases hjk : j = k
            · subst hjk; rw [HE.out.1, HE.out.2, (eqS_iff x y).1 ht]
            · exact HK.out.1 j (by omega)
          rw [ht] at hq
          clear HK HE ht hla hlb
          go_wp2_with fail
          go_quiet (fail)
          go_wp2
          go_roundw
          case rel => exact ⟨k + 1, by omega, by go_num, HF.out.1, below_drewN HF.out.2⟩
          case measure => simp [intOf]; omega
      · obtain rfl : k = m := by omega
        have HF : Hid (R = true ∧ Below w.heap.size w wr) := by
          refine ⟨?_, HK.out.2⟩
          rw [← HR.out, samZ_iff]
          refine List.ext_getElem? fun j => ?_
          by_cases hj : j < k
          · exact HK.out.1 j hj
          · rw [List.getElem?_eq_none (by have := HM.out.2; omega), List.getElem?_eq_none (by have := HM.out.1; omega)]
        clear HK
        go_wp2
        go_ret
        exact ⟨by rw [HF.out.1]; rfl, HF.out.2⟩

theorem cell_strokeB (w : World) (s : St) (t : TypeId) (b : Nat) (h : b = w.heap.size) : ∀ (j : Nat) (u : Value), (sCel s)[j]? = some u → (w.alloc (.cells (#[.int .u8 s.k, .int .i64 s.r.x, .int .i64 s.r.y, .int .i64 s.r.w, .int .i64 s.r.h, .int .u8 s.c.r, .int .u8 s.c.g, .int .u8 s.c.b, .int .u8 s.c.a, .int .u8 s.b.r, .int .u8 s.b.g, .int .u8 s.b.b, .int .u8 s.b.a, .string s.t, .int .i64 s.n]) t)).cell? ((⟨b, 0, none⟩ : Addr).add j) = some u := by
  intro j u hj
  subst h
  have e : (⟨w.heap.size, 0, none⟩ : Addr).add j = ⟨w.heap.size, j, none⟩ := by
    simp [Addr.add]
    intro h
    exact h.symm
  rw [e, (Bk.new w (#[.int .u8 s.k, .int .i64 s.r.x, .int .i64 s.r.y, .int .i64 s.r.w, .int .i64 s.r.h, .int .u8 s.c.r, .int .u8 s.c.g, .int .u8 s.c.b, .int .u8 s.c.a, .int .u8 s.b.r, .int .u8 s.b.g, .int .u8 s.b.b, .int .u8 s.b.a, .string s.t, .int .i64 s.n]) t).cell j, ← hj]
  show (sCel s).toArray[j]? = _
  simp

end Go.Proofs.YtooolcldiecfjaaDoor

/-
  Lists of strokes laid behind no list; a mark behind a list of one's own.
-/
namespace Go.Proofs.YtooolcldiecfjaaDoor
open Go.RowKit

def markS : St := ⟨0, zr, ⟨0, 0, 0, 0⟩, ⟨0, 0, 0, 0⟩, ⟨#[]⟩, 77⟩
theorem lss_src {w : World} {g o : Nat} {M : List St} (h : ∀ i (h : i < M.length), StAt w g (o + i * 15) M[i]) : ∀ (j : Nat) (u : Value), (flatZ M)[j]? = some u → w.cell? ((⟨g, o, none⟩ : Addr).add j) = some u := by
  intro j u hj
  have hl : j < (flatZ M).length := (List.getElem?_eq_some_iff.1 hj).1
  rw [flatZ_len] at hl
  have hq : j / 15 < M.length := by omega
  have h1 := flatZ_at M (j / 15) hq (j % 15) (Nat.mod_lt _ (by decide))
  have h2 := stat_iff.1 (h (j / 15) hq) (j % 15) (Nat.mod_lt _ (by decide))
  rw [show j / 15 * 15 + j % 15 = j by omega, hj] at h1
  rw [← h1, Nat.add_assoc, show j / 15 * 15 + j % 15 = j by omega] at h2
  have e : (⟨g, o, none⟩ : Addr).add j = ⟨g, o + j, none⟩ := by unfold Addr.add; split <;> simp_all
  rw [e]
  exact h2
/-- A list that lies somewhere laid behind no list. -/
theorem app_firstS {P : Program} {w : World} {ops : Array Oper} {rest : List Oper} {o : Oper} {a : Act} {Q : Exit → Act → World → Prop} (hgd : o.guard = none) (s x : Operand)
    (ho : o.op = .call { callee := .builtin .append, args := #[s, x], argTypes := #[22, 22] })
    (i : TypeInfo) (ht : P.underlying 22 = some (.slice 32)) (hi : P.info? 32 = some i) (hz : i.zero = some (.agg #[.int .u8 0, .int .i64 0, .int .i64 0, .int .i64 0, .int .i64 0, .int .u8 0, .int .u8 0, .int .u8 0, .int .u8 0, .int .u8 0, .int .u8 0, .int .u8 0, .int .u8 0, .string ByteArray.empty, .int .i64 0]))
    (hsize : i.size = 15) (hby : i.bytes = 72) (hs : a.eval s = .slice none 0 0) (rs : List St) (oa : Option Addr) (cap : Nat) (hx : a.eval x = .slice oa rs.length cap) (hv : LsS w (.slice oa rs.length cap) rs) (hn : NoNil (.slice oa rs.length cap))
    (hl : rs.length ≤ 100000) (h : ∀ v' w', Hid (OwS w.heap.size w' v' rs ∧ Below w.heap.size w w') → wpList P ops Q rest (a.put o.dst v') w') : wpList P ops Q (o :: rest) a w := by
  have hown : w.ownsRow w.heap.size 32 15 (.slice none 0 0) 0 [] := World.ownsRow_nil _ _ _ _
  cases oa with
  | none =>
    have h0 : rs = [] := by
      obtain ⟨oa, cap', e, _, hg⟩ := hv
      cases rs with
      | nil => rfl
      | cons r t =>
        obtain ⟨g, o, e2, _⟩ := hg (by simp)
        injection e with e1 _ _
        rw [e2] at e1
        cases e1
    subst h0
    obtain rfl : cap = 0 := hn cap rfl
    refine app_none hgd s x _ ho w.heap.size 32 i 15 ht hi (.slice none 0 0) 0 [] hs hown hx ?_
    rintro _ _ rfl rfl
    exact h _ _ ⟨hown, Below.refl _ _⟩
  | some ad =>
    refine wpList_append_own _ hgd s x _ ho w.heap.size 32 i (.agg #[.int .u8 0, .int .i64 0, .int .i64 0, .int .i64 0, .int .i64 0, .int .u8 0, .int .u8 0, .int .u8 0, .int .u8 0, .int .u8 0, .int .u8 0, .int .u8 0, .int .u8 0, .string ByteArray.empty, .int .i64 0]) 15 72 ht hi hz hsize hby rfl (by decide) (.slice none 0 0) 0 [] hs hown ad rs.length cap (flatZ rs) hx (flatZ_len rs) ?_ (onesZ rs) (by unfold maxLen; omega) (by omega) (Nat.le_refl _) ?_
    · intro j u hj
      obtain ⟨oa, cap', e, _, hg⟩ := hv
      have hp : 0 < rs.length := by
        cases rs with
        | nil => simp [flatZ] at hj
        | cons r t => simp
      obtain ⟨g, o, e2, _, hat⟩ := hg hp
      injection e with e1 _ _
      rw [e2] at e1
      injection e1 with e1
      subst e1
      exact lss_src hat j u hj
    · intro v' w' h2 h3 _
      rw [Nat.zero_add, List.nil_append] at h2
      exact h v' w' ⟨h2, (Below.refl _ w).grown h3 (Nat.le_refl _) (fun g e => by cases e)⟩
/-- A list of one's own, a mark behind it; its block lies from lo up to hi. -/
def LenS (lo hi : Nat) (W : World) (v : Value) (rs : List St) : Prop := OwS lo W v (rs ++ [markS]) ∧ ∀ g, v.ownBlock = some g → g < hi
theorem LenS.below {lo hi : Nat} {W W' : World} {v : Value} {rs : List St} (h : LenS lo hi W v rs) (hb : Below W.heap.size W W') : LenS lo hi W' v rs := ⟨row_below h.1 hb, h.2⟩
theorem LenS.val {lo hi : Nat} {W : World} {v : Value} {rs : List St} (h : LenS lo hi W v rs) : ∃ g cap, v = .slice (some ⟨g, 0, none⟩) (rs.length + 1) cap ∧ rs.length + 1 ≤ cap ∧ g < W.heap.size ∧ lo ≤ g ∧ g < hi := by
  obtain ⟨oa, cap, e, hc, hg⟩ := row_val h.1
  obtain ⟨g, e1, e2, e3⟩ := hg (by simp)
  subst e1
  subst e
  exact ⟨g, cap, by simp, by simpa using hc, e3, e2, h.2 g rfl⟩
/-- The list without its mark. -/
theorem LenS.lss {lo hi : Nat} {W : World} {g n cap : Nat} {rs : List St} (h : LenS lo hi W (.slice (some ⟨g, 0, none⟩) n cap) rs) : LsS W (.slice (some ⟨g, 0, none⟩) rs.length cap) rs := by
  obtain ⟨oa, cap', e, hc, hg⟩ := h.1.lss
  obtain ⟨g', o, e1, hlt, hat⟩ := hg (by simp)
  injection e with e2 _ e3
  rw [e1] at e2
  injection e2 with e2
  injection e2 with e4 e5 _
  subst e4 e5 e3
  refine ⟨_, cap, rfl, by simp at hc; omega, fun hp => ⟨g, 0, rfl, hlt, fun i hi => ?_⟩⟩
  have q := hat i (by simp; omega)
  rwa [List.getElem_append_left hi] at q
theorem LenS.mark {lo hi : Nat} {W : World} {g n cap : Nat} {rs : List St} (h : LenS lo hi W (.slice (some ⟨g, 0, none⟩) n cap) rs) : StAt W g (rs.length * 15) markS := by
  obtain ⟨oa, cap', e, hc, hg⟩ := h.1.lss
  obtain ⟨g', o, e1, hlt, hat⟩ := hg (by simp)
  injection e with e2 _ e3
  rw [e1] at e2
  injection e2 with e2
  injection e2 with e4 e5 _
  subst e4 e5 e3
  have q := hat rs.length (by simp)
  have e : (rs ++ [markS])[rs.length]'(by simp) = markS := by simp
  rw [e, Nat.zero_add] at q
  exact q

end Go.Proofs.YtooolcldiecfjaaDoor

/-
  The walk of the statement VectorTexts.
-/
namespace Go.Proofs.YtooolcldiecfjaaDoor
open Go.RowKit

theorem snocX {lo : Nat} {W : World} {v : Value} {L : List St} {x : St} (h : W.ownsRow lo 32 15 v (L.length + 1) (flatZ L ++ sCel x)) : OwS lo W v (L ++ [x]) := by
  unfold OwS
  rw [List.length_append, List.length_singleton, flatZ_app, flatZ_one]
  exact h

set_option maxRecDepth 20000 in
set_option maxHeartbeats 16000000 in
theorem vtexts_walk (l : List St) (v : Value) (zw zh : Int) (t : ByteArray) (w : World) (hv : LsS w v l) (hn : NoNil v) (hw : Wfs l) (h1 : I64 zw) (h2 : I64 zh) (T : PwI w) :
    Calls Tryd.prog 3 #[v, .agg #[.int .i64 zw, .int .i64 zh], .string t] w fun e w' => e = .returned (.bool true) ∧ Below w.heap.size w w' := by
  obtain ⟨oa, cap, rfl, hc, _⟩ := id hv
  have B0 : Hid (Below w.heap.size w (w.alloc (.cells #[.int .i64 zw, .int .i64 zh] 24)) ∧ Bk (w.alloc (.cells #[.int .i64 zw, .int .i64 zh] 24)) w.heap.size #[.int .i64 zw, .int .i64 zh] 24) := ⟨(Below.refl _ w).alloc (Nat.le_refl _) _, Bk.new w _ _⟩
  by_cases c1 : 300 < l.length ∧ l.length ≤ 16384
  · have d1 : 300 < (l.length : Int) := by omega
    have d2 : (l.length : Int) ≤ 16384 := by omega
    go_enter Tryd.func3, Tryd.ntmps3
    go_wp2
    go_ret
    exact ⟨rfl, B0.out.1⟩
  by_cases c2 : 17000 < l.length
  · have d1 : 300 < (l.length : Int) := by omega
    have d2 : ¬ ((l.length : Int) ≤ 16384) := by omega
    have d3 : 17000 < (l.length : Int) := by omega
    go_enter Tryd.func3, Tryd.ntmps3
    go_wp2
    go_ret
    exact ⟨rfl, B0.out.1⟩
  have hl17 : l.length ≤ 17000 := by omega
  have hcs : l.length ≤ 300 ∨ 16384 < l.length := by omega
  by_cases c3 : 100000 < t.size
  · have d4 : 100000 < (t.size : Int) := by omega
    have d3 : ¬ (17000 < (l.length : Int)) := by omega
    rcases hcs with q | q
    · have d1 : ¬ (300 < (l.length : Int)) := by omega
      go_enter Tryd.func3, Tryd.ntmps3
      go_wp2
      go_ret
      exact ⟨rfl, B0.out.1⟩
    · have d1 : 300 < (l.length : Int) := by omega
      have d2 : ¬ ((l.length : Int) ≤ 16384) := by omega
      go_enter Tryd.func3, Tryd.ntmps3
      go_wp2
      go_ret
      exact ⟨rfl, B0.out.1⟩
  have ht : t.size ≤ 100000 := by omega
  have d4 : ¬ (100000 < (t.size : Int)) := by omega
  have d3 : ¬ (17000 < (l.length : Int)) := by omega
  obtain ⟨i0, hi, hz0, hz1, hz2⟩ := info_parts info_strokeZ
  obtain ⟨TT, hTT⟩ : ∃ TT : ByteArray, TT = ⟨(texT l zw zh).toArray⟩ := ⟨_, rfl⟩
  obtain ⟨TE, hTE⟩ : ∃ TE, TE = texE l zw zh := ⟨_, rfl⟩
  obtain ⟨P1, hP1⟩ : ∃ P1 : ByteArray, P1 = ⟨(vpA t).1.toArray⟩ := ⟨_, rfl⟩
  obtain ⟨P2, hP2⟩ : ∃ P2 : Int, P2 = ((vpA t).2.1 : Nat) := ⟨_, rfl⟩
  obtain ⟨P3, hP3⟩ : ∃ P3, P3 = (vpA t).2.2 := ⟨_, rfl⟩
  obtain ⟨EE, hEE⟩ : ∃ EE : ByteArray, EE = ⟨(escL t.data.toList).toArray⟩ := ⟨_, rfl⟩
  have HT1 : Hid (∀ W x, LsS W x l → Below w.heap.size w W → Calls Tryd.prog 4 #[x, .agg #[.int .i64 zw, .int .i64 zh]] W fun e w' => e = .returned (.tuple #[.string TT, .int .i64 TE]) ∧ Below W.heap.size W w') := fun W x hx hb => by rw [hTT, hTE]; exact vtext_any l x zw zh W hx hw h1 h2 (T.below hb)
  have HT2 : Hid (∀ W x, LsS W x l → Calls Tryd.prog 5 #[x, .agg #[.int .i64 zw, .int .i64 zh]] W fun e w' => e = .returned (.tuple #[.string TT, .int .i64 TE]) ∧ Below W.heap.size W w') := fun W x hx => by rw [hTT, hTE]; exact rvtext_any l x zw zh W hx hw h1 h2
  have HP1 : Hid (∀ W, Calls Tryd.prog 6 #[.string t] W fun e w' => e = .returned (.tuple #[.string P1, .int .i64 P2, .int .i64 P3]) ∧ Below W.heap.size W w') := fun W => by rw [hP1, hP2, hP3]; exact vplain_any t W (by omega)
  have HP2 : Hid (∀ W, Calls Tryd.prog 7 #[.string t] W fun e w' => e = .returned (.tuple #[.string P1, .int .i64 P2, .int .i64 P3]) ∧ Below W.heap.size W w') := fun W => by rw [hP1, hP2, hP3]; exact rplain_any t W (by omega)
  have HE1 : Hid (∀ W, Calls Tryd.prog 8 #[.string t] W fun e w' => e = .returned (.string EE) ∧ Below W.heap.size W w') := fun W => by rw [hEE]; exact vesc_any t W (by omega)
  have HE2 : Hid (∀ W, Calls Tryd.prog 9 #[.string t] W fun e w' => e = .returned (.string EE) ∧ Below W.heap.size W w') := fun W => by rw [hEE]; exact rescape_any t W (by omega)
  have HSm : Hid (∀ W x y, LsS W x l → LsS W y l → Calls Tryd.prog 10 #[x, y] W fun e w' => e = .returned (.bool true) ∧ Below W.heap.size W w') := fun W x y hx hy => by
    have q := zsame_any l l x y W hx hy (by omega)
    rw [samZ_self] at q
    exact q
  have HV : Hid (LsS (w.alloc (.cells #[.int .i64 zw, .int .i64 zh] 24)) (.slice oa l.length cap) l ∧ NoNil (.slice oa l.length cap) ∧ (∀ W, Below w.heap.size w W → LsS W (.slice oa l.length cap) l)) := ⟨hv.below B0.out.1, hn, fun W hb => hv.below hb⟩
  have HL : Hid (l.length ≤ 17000) := hl17
  clear hTT hTE hP1 hP2 hP3 hEE hv hn hw h1 h2 T c1 c2 c3 ht
  rcases hcs with q | q
  · have d1 : ¬ (300 < (l.length : Int)) := by omega
    have d2 : ¬ (l.length = 1000000) := by omega
    go_enter Tryd.func3, Tryd.ntmps3
    go_wp2_with (at_builtin; refine app_firstS rfl _ _ rfl i0 Tryd.underlying22 hi hz0 hz1 hz2 rfl l oa cap rfl HV.out.1 HV.out.2.1 (by omega) ?_)
    intro v1 w1 H1
    have e00 : (w.alloc (.cells #[.int .i64 zw, .int .i64 zh] 24)).heap.size = w.heap.size + 1 := by simp
    have B1 : Hid (Below w.heap.size w w1 ∧ Bk w1 w.heap.size #[.int .i64 zw, .int .i64 zh] 24) := ⟨B0.out.1.trans (H1.out.2.mono (Nat.le_succ _)), B0.out.2.below (by rw [e00]; exact H1.out.2)⟩
    have H1' : Hid (OwS (w.heap.size + 1) w1 v1 l ∧ w.heap.size + 1 ≤ w1.heap.size) := ⟨H1.out.1, by have := H1.out.2.size; rw [e00] at this; exact this⟩
    clear e00
    clear H1 B0
    obtain ⟨b, hb⟩ : ∃ b, b = w.heap.size := ⟨_, rfl⟩
    have hc3 : Hid (l.length + 1 ≤ maxLen) := by have := HL.out; unfold Hid maxLen; omega
    have hc4 : Hid ((l.length + 1) * 72 ≤ 140737488355328) := by have := HL.out; unfold Hid; omega
    have HA : Hid (∀ o, (w1.alloc o).ownsRow (w.heap.size + 1) 32 15 v1 l.length (flatZ l) ∧ Below w1.heap.size w1 (w1.alloc o) ∧ w.heap.size + 1 ≤ (w1.alloc o).heap.size) := fun o => ⟨row_below H1'.out.1 ((Below.refl _ _).alloc (Nat.le_refl _) _), (Below.refl _ _).alloc (Nat.le_refl _) _, Nat.le_trans H1'.out.2 ((Below.refl _ _).alloc (Nat.le_refl _) _ : Below w1.heap.size w1 _).size⟩
    go_wp2_with (at_builtin; refine wpList_append_own _ rfl _ _ 22 rfl (w.heap.size + 1) 32 i0 (.agg #[.int .u8 0, .int .i64 0, .int .i64 0, .int .i64 0, .int .i64 0, .int .u8 0, .int .u8 0, .int .u8 0, .int .u8 0, .int .u8 0, .int .u8 0, .int .u8 0, .int .u8 0, .string ByteArray.empty, .int .i64 0]) 15 72 Tryd.underlying22 hi hz0 hz1 hz2 rfl (by decide) v1 l.length (flatZ l) rfl (HA.out _).1 _ 1 1 (sCel markS) rfl rfl (cell_strokeB _ markS _ _ rfl) (oneZ markS) hc3.out hc4.out (HA.out _).2.2 ?_)
    intro v2 w2 hown hgrow hnil
    have H2 : Hid (LenS (w.heap.size + 1) w2.heap.size w2 v2 l ∧ Below w.heap.size w w2 ∧ Bk w2 b #[.int .i64 zw, .int .i64 zh] 24) := by
      have h1 : OwS (w.heap.size + 1) w2 v2 (l ++ [markS]) := snocX hown
      have hA := HA.out (.cells (#[.int .u8 markS.k, .int .i64 markS.r.x, .int .i64 markS.r.y, .int .i64 markS.r.w, .int .i64 markS.r.h, .int .u8 markS.c.r, .int .u8 markS.c.g, .int .u8 markS.c.b, .int .u8 markS.c.a, .int .u8 markS.b.r, .int .u8 markS.b.g, .int .u8 markS.b.b, .int .u8 markS.b.a, .string markS.t, .int .i64 markS.n]) 32)
      have hb1 : Below (w.heap.size + 1) w1 w2 := (hA.2.1.mono H1'.out.2).grown hgrow hA.2.2 (fun g hg => (row_lt hA.1 g hg).1)
      refine ⟨⟨h1, fun g hg => (row_lt h1 g hg).2⟩, B1.out.1.trans (hb1.mono (by omega)), ?_⟩
      rw [hb]
      exact (hb1.block w.heap.size (by omega)).trans B1.out.2
    clear hown hgrow hnil hi hz0 hz1 hz2 HA H1' B1 hc3 hc4
    obtain ⟨gx, cx, rfl, hcx, hgx, -⟩ := H2.out.1.val
    obtain ⟨n, hnn⟩ : ∃ n, n = l.length := ⟨_, rfl⟩
    have HN : Hid (n = l.length) := hnn
    have HX1 : Hid (∀ W, LenS (w.heap.size + 1) w2.heap.size W (.slice (some ⟨gx, 0, none⟩) (n + 1) cx) l → LsS W (.slice (some ⟨gx, 0, none⟩) n cx) l) := fun W h => by have q := h.lss; rw [← hnn] at q; exact q
    rw [← hnn] at H2 HV hcx ⊢
    rw [← hnn] at d1 d2 d3 hc
    clear hnn
    have H2b : Hid (∀ W, Below w2.heap.size w2 W → LenS (w.heap.size + 1) w2.heap.size W (.slice (some ⟨gx, 0, none⟩) (n + 1) cx) l ∧ Below w.heap.size w W ∧ Bk W b #[.int .i64 zw, .int .i64 zh] 24) := fun W hb => ⟨H2.out.1.below hb, H2.out.2.1.trans (hb.mono H2.out.2.1.size), H2.out.2.2.below hb⟩
    go_wp2_with fail
    rw [← hb]
    clear hb
    have HTx : Hid (∀ W, Below w2.heap.size w2 W → Calls Tryd.prog 4 #[.slice (some ⟨gx, 0, none⟩) n cx, .agg #[.int .i64 zw, .int .i64 zh]] W fun e w' => e = .returned (.tuple #[.string TT, .int .i64 TE]) ∧ Below W.heap.size W w') := fun W hb => HT1.out W _ (HX1.out _ (H2b.out W hb).1) (H2b.out W hb).2.1
    have ne := gw_ne H2.out.2.1
    have k0 := fun tt : Gw w2 => (H2b.out _ tt.below).2.2.at2.1
    have k1 := fun tt : Gw w2 => (H2b.out _ tt.below).2.2.at2.2
    refine wp_region_gw (by kernel_rfl) (by kernel_rfl) ?_
    repeat (go_big_quiet_step (first
      | (go_at_call 4; exact gw_call (HTx.out _ (Gw.below _)))))
    refine wpQuiet_nil ?_
    rintro _ ⟨tw1, rfl⟩
    have H3 : Hid (Below w2.heap.size w2 tw1.wd) := tw1.below
    clear k0 k1 ne HTx
    generalize tw1.wd = w3 at *
    obtain ⟨k0, k1⟩ := (H2b.out _ H3.out).2.2.at2
    go_wp2_with fail
    refine (HT2.out _ _ (HV.out.2.2 _ (H2b.out _ H3.out).2.1)).mono ?_
    rintro e w4 ⟨rfl, hb4⟩
    have H4 : Hid (Below w2.heap.size w2 w4) := H3.out.trans (hb4.mono H3.out.size)
    clear hb4 H3 k0 k1
    go_wp2_with fail
    refine (HP1.out _).mono ?_
    rintro e w5 ⟨rfl, hb5⟩
    have H5 : Hid (Below w2.heap.size w2 w5) := H4.out.trans (hb5.mono H4.out.size)
    clear hb5 H4
    go_wp2_with fail
    refine (HP2.out _).mono ?_
    rintro e w6 ⟨rfl, hb6⟩
    have H6 : Hid (Below w2.heap.size w2 w6) := H5.out.trans (hb6.mono H5.out.size)
    clear hb6 H5
    go_wp2_with fail
    refine (HE1.out _).mono ?_
    rintro e w7 ⟨rfl, hb7⟩
    have H7 : Hid (Below w2.heap.size w2 w7) := H6.out.trans (hb7.mono H6.out.size)
    clear hb7 H6
    go_wp2_with fail
    refine (HE2.out _).mono ?_
    rintro e w8 ⟨rfl, hb8⟩
    have H8 : Hid (Below w2.heap.size w2 w8) := H7.out.trans (hb8.mono H7.out.size)
    clear hb8 H7
    go_wp2_with fail
    refine (HSm.out _ _ _ (HX1.out _ (H2b.out _ H8.out).1) (HV.out.2.2 _ (H2b.out _ H8.out).2.1)).mono ?_
    rintro e w9 ⟨rfl, hb9⟩
    have H9 : Hid (Below w2.heap.size w2 w9) := H8.out.trans (hb9.mono H8.out.size)
    clear hb9 H8
    have HM := (H2b.out _ H9.out).1.mark
    rw [← HN.out] at HM
    obtain ⟨m0, m1, m2, m3, m4, m5, m6, m7, m8, m9, m10, m11, m12, m13, m14⟩ := HM
    have he := fun W => eql_stroke markS markS W
    rw [eqS_self] at he
    simp only [markS, zr] at m0 m1 m2 m3 m4 m5 m6 m7 m8 m9 m10 m11 m12 m13 m14 he
    have HFin : Hid (Below w.heap.size w w9) := (H2b.out _ H9.out).2.1
    clear HT1 HT2 HP1 HP2 HE1 HE2 HSm HX1 H2b H2 H9 HV HN HL
    go_wp2
    go_ret
    exact ⟨rfl, HFin.out⟩
  · have d1 : 300 < (l.length : Int) := by omega
    have d2 : ¬ ((l.length : Int) ≤ 16384) := by omega
    go_enter Tryd.func3, Tryd.ntmps3
    go_wp2_with (at_builtin; refine app_firstS rfl _ _ rfl i0 Tryd.underlying22 hi hz0 hz1 hz2 rfl l oa cap rfl HV.out.1 HV.out.2.1 (by omega) ?_)
    intro v1 w1 H1
    have e00 : (w.alloc (.cells #[.int .i64 zw, .int .i64 zh] 24)).heap.size = w.heap.size + 1 := by simp
    have B1 : Hid (Below w.heap.size w w1 ∧ Bk w1 w.heap.size #[.int .i64 zw, .int .i64 zh] 24) := ⟨B0.out.1.trans (H1.out.2.mono (Nat.le_succ _)), B0.out.2.below (by rw [e00]; exact H1.out.2)⟩
    have H1' : Hid (OwS (w.heap.size + 1) w1 v1 l ∧ w.heap.size + 1 ≤ w1.heap.size) := ⟨H1.out.1, by have := H1.out.2.size; rw [e00] at this; exact this⟩
    clear e00
    clear H1 B0
    obtain ⟨b, hb⟩ : ∃ b, b = w.heap.size := ⟨_, rfl⟩
    have hc3 : Hid (l.length + 1 ≤ maxLen) := by have := HL.out; unfold Hid maxLen; omega
    have hc4 : Hid ((l.length + 1) * 72 ≤ 140737488355328) := by have := HL.out; unfold Hid; omega
    have HA : Hid (∀ o, (w1.alloc o).ownsRow (w.heap.size + 1) 32 15 v1 l.length (flatZ l) ∧ Below w1.heap.size w1 (w1.alloc o) ∧ w.heap.size + 1 ≤ (w1.alloc o).heap.size) := fun o => ⟨row_below H1'.out.1 ((Below.refl _ _).alloc (Nat.le_refl _) _), (Below.refl _ _).alloc (Nat.le_refl _) _, Nat.le_trans H1'.out.2 ((Below.refl _ _).alloc (Nat.le_refl _) _ : Below w1.heap.size w1 _).size⟩
    go_wp2_with (at_builtin; refine wpList_append_own _ rfl _ _ 22 rfl (w.heap.size + 1) 32 i0 (.agg #[.int .u8 0, .int .i64 0, .int .i64 0, .int .i64 0, .int .i64 0, .int .u8 0, .int .u8 0, .int .u8 0, .int .u8 0, .int .u8 0, .int .u8 0, .int .u8 0, .int .u8 0, .string ByteArray.empty, .int .i64 0]) 15 72 Tryd.underlying22 hi hz0 hz1 hz2 rfl (by decide) v1 l.length (flatZ l) rfl (HA.out _).1 _ 1 1 (sCel markS) rfl rfl (cell_strokeB _ markS _ _ rfl) (oneZ markS) hc3.out hc4.out (HA.out _).2.2 ?_)
    intro v2 w2 hown hgrow hnil
    have H2 : Hid (LenS (w.heap.size + 1) w2.heap.size w2 v2 l ∧ Below w.heap.size w w2 ∧ Bk w2 b #[.int .i64 zw, .int .i64 zh] 24) := by
      have h1 : OwS (w.heap.size + 1) w2 v2 (l ++ [markS]) := snocX hown
      have hA := HA.out (.cells (#[.int .u8 markS.k, .int .i64 markS.r.x, .int .i64 markS.r.y, .int .i64 markS.r.w, .int .i64 markS.r.h, .int .u8 markS.c.r, .int .u8 markS.c.g, .int .u8 markS.c.b, .int .u8 markS.c.a, .int .u8 markS.b.r, .int .u8 markS.b.g, .int .u8 markS.b.b, .int .u8 markS.b.a, .string markS.t, .int .i64 markS.n]) 32)
      have hb1 : Below (w.heap.size + 1) w1 w2 := (hA.2.1.mono H1'.out.2).grown hgrow hA.2.2 (fun g hg => (row_lt hA.1 g hg).1)
      refine ⟨⟨h1, fun g hg => (row_lt h1 g hg).2⟩, B1.out.1.trans (hb1.mono (by omega)), ?_⟩
      rw [hb]
      exact (hb1.block w.heap.size (by omega)).trans B1.out.2
    clear hown hgrow hnil hi hz0 hz1 hz2 HA H1' B1 hc3 hc4
    obtain ⟨gx, cx, rfl, hcx, hgx, -⟩ := H2.out.1.val
    obtain ⟨n, hnn⟩ : ∃ n, n = l.length := ⟨_, rfl⟩
    have HN : Hid (n = l.length) := hnn
    have HX1 : Hid (∀ W, LenS (w.heap.size + 1) w2.heap.size W (.slice (some ⟨gx, 0, none⟩) (n + 1) cx) l → LsS W (.slice (some ⟨gx, 0, none⟩) n cx) l) := fun W h => by have q := h.lss; rw [← hnn] at q; exact q
    rw [← hnn] at H2 HV hcx ⊢
    rw [← hnn] at d1 d2 d3 hc
    clear hnn
    have H2b : Hid (∀ W, Below w2.heap.size w2 W → LenS (w.heap.size + 1) w2.heap.size W (.slice (some ⟨gx, 0, none⟩) (n + 1) cx) l ∧ Below w.heap.size w W ∧ Bk W b #[.int .i64 zw, .int .i64 zh] 24) := fun W hb => ⟨H2.out.1.below hb, H2.out.2.1.trans (hb.mono H2.out.2.1.size), H2.out.2.2.below hb⟩
    go_wp2_with fail
    rw [← hb]
    clear hb
    have HTx : Hid (∀ W, Below w2.heap.size w2 W → Calls Tryd.prog 4 #[.slice (some ⟨gx, 0, none⟩) n cx, .agg #[.int .i64 zw, .int .i64 zh]] W fun e w' => e = .returned (.tuple #[.string TT, .int .i64 TE]) ∧ Below W.heap.size W w') := fun W hb => HT1.out W _ (HX1.out _ (H2b.out W hb).1) (H2b.out W hb).2.1
    have ne := gw_ne H2.out.2.1
    have k0 := fun tt : Gw w2 => (H2b.out _ tt.below).2.2.at2.1
    have k1 := fun tt : Gw w2 => (H2b.out _ tt.below).2.2.at2.2
    refine wp_region_gw (by kernel_rfl) (by kernel_rfl) ?_
    repeat (go_big_quiet_step (first
      | (go_at_call 4; exact gw_call (HTx.out _ (Gw.below _)))))
    refine wpQuiet_nil ?_
    rintro _ ⟨tw1, rfl⟩
    have H3 : Hid (Below w2.heap.size w2 tw1.wd) := tw1.below
    clear k0 k1 ne HTx
    generalize tw1.wd = w3 at *
    obtain ⟨k0, k1⟩ := (H2b.out _ H3.out).2.2.at2
    go_wp2_with fail
    refine (HT2.out _ _ (HV.out.2.2 _ (H2b.out _ H3.out).2.1)).mono ?_
    rintro e w4 ⟨rfl, hb4⟩
    have H4 : Hid (Below w2.heap.size w2 w4) := H3.out.trans (hb4.mono H3.out.size)
    clear hb4 H3 k0 k1
    go_wp2_with fail
    refine (HP1.out _).mono ?_
    rintro e w5 ⟨rfl, hb5⟩
    have H5 : Hid (Below w2.heap.size w2 w5) := H4.out.trans (hb5.mono H4.out.size)
    clear hb5 H4
    go_wp2_with fail
    refine (HP2.out _).mono ?_
    rintro e w6 ⟨rfl, hb6⟩
    have H6 : Hid (Below w2.heap.size w2 w6) := H5.out.trans (hb6.mono H5.out.size)
    clear hb6 H5
    go_wp2_with fail
    refine (HE1.out _).mono ?_
    rintro e w7 ⟨rfl, hb7⟩
    have H7 : Hid (Below w2.heap.size w2 w7) := H6.out.trans (hb7.mono H6.out.size)
    clear hb7 H6
    go_wp2_with fail
    refine (HE2.out _).mono ?_
    rintro e w8 ⟨rfl, hb8⟩
    have H8 : Hid (Below w2.heap.size w2 w8) := H7.out.trans (hb8.mono H7.out.size)
    clear hb8 H7
    go_wp2_with fail
    refine (HSm.out _ _ _ (HX1.out _ (H2b.out _ H8.out).1) (HV.out.2.2 _ (H2b.out _ H8.out).2.1)).mono ?_
    rintro e w9 ⟨rfl, hb9⟩
    have H9 : Hid (Below w2.heap.size w2 w9) := H8.out.trans (hb9.mono H8.out.size)
    clear hb9 H8
    have HM := (H2b.out _ H9.out).1.mark
    rw [← HN.out] at HM
    obtain ⟨m0, m1, m2, m3, m4, m5, m6, m7, m8, m9, m10, m11, m12, m13, m14⟩ := HM
    have he := fun W => eql_stroke markS markS W
    rw [eqS_self] at he
    simp only [markS, zr] at m0 m1 m2 m3 m4 m5 m6 m7 m8 m9 m10 m11 m12 m13 m14 he
    have HFin : Hid (Below w.heap.size w w9) := (H2b.out _ H9.out).2.1
    clear HT1 HT2 HP1 HP2 HE1 HE2 HSm HX1 H2b H2 H9 HV HN HL
    go_wp2
    go_ret
    exact ⟨rfl, HFin.out⟩

end Go.Proofs.YtooolcldiecfjaaDoor
