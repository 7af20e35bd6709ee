/-
  Texts of this claim, one behind the other: what each is about stands ahead of it.
-/
import Derived.Test.YtbghjmkgicdnoaaGreatK27
import Derived.Test.YtbghjmkgicdnoaaGreatK19
import Derived.Test.YtbghjmkgicdnoaaGreatK31
import Derived.Laws.OwnMore
import Derived.WalkMore
import Derived.ScopeJumps
/-
  The walk of ListNorms.
-/
namespace Go.Proofs.YtbghjmkgicdnoaaGreat
open Go.RowKit

/-- What lies there. -/
structure NoS (n0 n1 n2 n3 n4 : Nat) (w w1 : World) (vl vr x a b c d : Value) (l : List St) (r : List Rc) (W : World) : Prop where
  fl : LsS W vl l
  fr : LsR W vr r
  fx : LenS n0 n1 W x l
  fa : OwS n1 W a (norE l)
  fah : ∀ g, a.ownBlock = some g → g < n2
  fb : OwS n2 W b (norE l)
  fc : OwS n3 W c (witG l r)
  fch : ∀ g, c.ownBlock = some g → g < n4
  fd : OwS n4 W d (witG l r)
  fw : Below n0 w W
  fw1 : Below n1 w1 W
theorem NoS.below {n0 n1 n2 n3 n4 : Nat} {w w1 : World} {vl vr x a b c d : Value} {l : List St} {r : List Rc} {W W' : World} (h : NoS n0 n1 n2 n3 n4 w w1 vl vr x a b c d l r W) (h0 : n0 ≤ W.heap.size) (h1 : n1 ≤ W.heap.size) (hb : Below W.heap.size W W') : NoS n0 n1 n2 n3 n4 w w1 vl vr x a b c d l r W' :=
  ⟨h.fl.below hb, h.fr.below hb, h.fx.below hb, h.fa.below hb, h.fah, h.fb.below hb, h.fc.below hb, h.fch, h.fd.below hb, h.fw.trans (hb.mono h0), h.fw1.trans (hb.mono h1)⟩

set_option maxRecDepth 20000 in
set_option maxHeartbeats 8000000 in
theorem norms_walk (CN : LNorm) (CW : LWithin) (l : List St) (r : List Rc) (v vr : Value) (w : World) (hv : LsS w v l) (hn : NoNil v) (hw : Wfs l) (hr : LsR w vr r) (hnr : NoNil vr) (hir : I64s r) :
    Calls Tryz.prog 4 #[v, vr] w fun e w' => e = .returned (.bool true) ∧ Below w.heap.size w w' := by
  have HC : Hid (LNorm ∧ LWithin) := ⟨CN, CW⟩
  have HW : Hid (Wfs l ∧ LsS w v l ∧ NoNil v ∧ LsR w vr r ∧ NoNil vr ∧ I64s r) := ⟨hw, hv, hn, hr, hnr, hir⟩
  obtain ⟨oa, cap, rfl, hc, _⟩ := hv
  obtain ⟨ob, cbr, rfl, hcr, _⟩ := hr
  obtain ⟨n, hnn⟩ : ∃ n, n = l.length := ⟨_, rfl⟩
  obtain ⟨nr, hnrr⟩ : ∃ nr, nr = r.length := ⟨_, rfl⟩
  have HN : Hid (n = l.length ∧ nr = r.length) := ⟨hnn, hnrr⟩
  rw [← hnn] at hc
  rw [← hnrr] at hcr
  rw [← hnn, ← hnrr] at HW ⊢
  clear CN CW hn hw hnn hnr hir hnrr
  have HLo : Hid (∀ b, lonB n = b → Calls Tryz.prog 5 #[.slice oa n cap] w fun e w' => e = .returned (.bool b) ∧ Below w.heap.size w w') := fun b h => by rw [← h]; exact long_any oa n cap w
  have early : (lonB n = true ∨ (lonB n = false ∧ 30 < nr ∧ nr ≤ 1024) ∨ (lonB n = false ∧ ¬ (30 < nr ∧ nr ≤ 1024) ∧ 2000 < nr)) ∨ (lonB n = false ∧ ¬ (30 < nr ∧ nr ≤ 1024) ∧ ¬ 2000 < nr) := by
    cases lonB n
    · by_cases h1 : 30 < nr ∧ nr ≤ 1024
      · exact .inl (.inr (.inl ⟨rfl, h1⟩))
      · by_cases h2 : 2000 < nr
        · exact .inl (.inr (.inr ⟨rfl, h1, h2⟩))
        · exact .inr ⟨rfl, h1, h2⟩
    · exact .inl (.inl rfl)
  rcases early with (h | ⟨h, h1, h2⟩ | ⟨h, h1, h2⟩) | ⟨h, h1, h2⟩
  · have HL := HLo.out true h
    clear h HLo
    go_enter Tryz.func4, Tryz.ntmps4
    go_wp2_with fail
    refine HL.mono ?_
    rintro e w1 ⟨rfl, hbz⟩
    have HBz : Hid (Below w.heap.size w w1) := hbz
    clear hbz
    go_wp2
    go_ret
    exact ⟨rfl, HBz.out⟩
  · have HL := HLo.out false h
    have j1 : (30 : Int) < nr := by omega
    have j2 : (nr : Int) ≤ 1024 := by omega
    clear h HLo h1 h2
    go_enter Tryz.func4, Tryz.ntmps4
    go_wp2_with fail
    refine HL.mono ?_
    rintro e w1 ⟨rfl, hbz⟩
    have HBz : Hid (Below w.heap.size w w1) := hbz
    clear hbz
    go_wp2
    go_ret
    exact ⟨rfl, HBz.out⟩
  · have HL := HLo.out false h
    have j1 : (30 : Int) < nr := by omega
    have j2 : ¬ (nr : Int) ≤ 1024 := by omega
    have j3 : (2000 : Int) < nr := by omega
    clear h HLo h1 h2
    go_enter Tryz.func4, Tryz.ntmps4
    go_wp2_with fail
    refine HL.mono ?_
    rintro e w1 ⟨rfl, hbz⟩
    have HBz : Hid (Below w.heap.size w w1) := hbz
    clear hbz
    go_wp2
    go_ret
    exact ⟨rfl, HBz.out⟩
  have HL : Hid (Calls Tryz.prog 5 #[.slice oa n cap] w fun e w' => e = .returned (.bool false) ∧ Below w.heap.size w w') := HLo.out false h
  have hl : n ≤ 17000 := by
    unfold lonB at h
    simp at h
    omega
  have HL2 : Hid (l.length ≤ 20000) := by have := HN.out.1; unfold Hid; omega
  have j1 : decide ((30 : Int) < nr) = true → (1024 : Int) < nr := fun h => by have := of_decide_eq_true h; omega
  have j3 : ¬ (2000 : Int) < nr := by omega
  obtain ⟨b30, hb30⟩ : ∃ b30, decide ((30 : Int) < nr) = b30 := ⟨_, rfl⟩
  have hz : b30 = false ∨ (b30 = true ∧ ¬ (nr : Int) ≤ 1024) := by
    cases b30
    · exact .inl rfl
    · exact .inr ⟨rfl, by have := j1 hb30; omega⟩
  clear h HLo h1 h2 j1
  go_enter Tryz.func4, Tryz.ntmps4
  go_wp2_with fail
  refine HL.out.mono ?_
  rintro e wa ⟨rfl, hba⟩
  have HA : Hid (Below w.heap.size w wa) := hba
  clear hba HL
  have hcut2 : (30 : Int) < nr ∨ ¬ (30 : Int) < nr := by omega
  have HB30 : Hid ((30 : Int) < nr → ¬ (nr : Int) ≤ 1024) := fun h => by
    rcases hz with h2 | h2
    · rw [← hb30] at h2; exact absurd (decide_eq_true h) (by rw [h2]; simp)
    · have := h2.2; omega
  clear hz hb30
  rcases hcut2 with i1 | i1
  · have i2 := HB30.out i1
    clear HB30
    go_wp2_with fail
    refine (own_any l _ wa (HW.out.2.1.below HA.out) HW.out.2.2.1 HL2.out).mono ?_
    rintro e w1 ⟨x, rfl, hx, hb1⟩
    obtain ⟨gx, cx, rfl, hcx, -⟩ := hx.val
    have H1 : Hid (LsS w1 (.slice oa n cap) l ∧ LsR w1 (.slice ob nr cbr) r ∧ LenS w.heap.size w1.heap.size w1 (.slice (some ⟨gx, 0, none⟩) (l.length + 1) cx) l ∧ Below w.heap.size w w1) := by
      have b1 : Below w.heap.size w w1 := HA.out.trans (hb1.mono HA.out.size)
      exact ⟨HW.out.2.1.below b1, HW.out.2.2.2.1.below b1, ⟨hx.1.weaken HA.out.size, hx.2⟩, b1⟩
    clear hx hb1 HA
    rw [← HN.out.1] at H1 hcx ⊢
    have HX1 : Hid (∀ W, LenS w.heap.size w1.heap.size W (.slice (some ⟨gx, 0, none⟩) (n + 1) cx) l → LsS W (.slice (some ⟨gx, 0, none⟩) n cx) l) := fun W h => by have q := h.lss; rw [← HN.out.1] at q; exact q
    go_wp2_with fail
    refine (HC.out.1 l _ w1 (HX1.out _ H1.out.2.2.1) HW.out.1).mono ?_
    rintro e w2 ⟨a, rfl, ha⟩
    have H2 : Hid (LsS w2 (.slice oa n cap) l ∧ LsR w2 (.slice ob nr cbr) r ∧ LenS w.heap.size w1.heap.size w2 (.slice (some ⟨gx, 0, none⟩) (n + 1) cx) l ∧ Below w.heap.size w w2 ∧ Below w1.heap.size w1 w2 ∧ OwS w1.heap.size w2 a (norE l)) := by
      obtain ⟨r1, r2, r3, r4⟩ := H1.out
      obtain ⟨q1, q2⟩ := ha.out
      exact ⟨r1.below q2, r2.below q2, r3.below q2, r4.trans (q2.mono r4.size), q2, q1⟩
    have HS12 : Hid (w1.heap.size ≤ w2.heap.size) := H2.out.2.2.2.2.1.size
    clear ha H1
    go_wp2_with fail
    refine (znorm_any l _ w2 H2.out.1 HW.out.1.txs).mono ?_
    rintro e w3 ⟨b, rfl, hb⟩
    have H3 : Hid (LsS w3 (.slice oa n cap) l ∧ LsR w3 (.slice ob nr cbr) r ∧ LenS w.heap.size w1.heap.size w3 (.slice (some ⟨gx, 0, none⟩) (n + 1) cx) l ∧ Below w.heap.size w w3 ∧ Below w1.heap.size w1 w3 ∧ OwS w1.heap.size w3 a (norE l) ∧ (∀ g, a.ownBlock = some g → g < w2.heap.size) ∧ OwS w2.heap.size w3 b (norE l) ∧ w2.heap.size ≤ w3.heap.size) := by
      obtain ⟨r1, r2, r3, r4, r5, r6⟩ := H2.out
      obtain ⟨q1, q2⟩ := hb.out
      exact ⟨r1.below q2, r2.below q2, r3.below q2, r4.trans (q2.mono r4.size), r5.trans (q2.mono r5.size), r6.below q2, (fun g hg => (row_lt r6 g hg).2), q1, q2.size⟩
    clear hb H2
    go_wp2_with fail
    refine (HC.out.2 l r _ _ w3 (HX1.out _ H3.out.2.2.1) H3.out.2.1 HW.out.1 HW.out.2.2.2.2.2 HW.out.2.2.2.2.1).mono ?_
    rintro e w4 ⟨c, rfl, hcc⟩
    have H4 : Hid (LsS w4 (.slice oa n cap) l ∧ LsR w4 (.slice ob nr cbr) r ∧ LenS w.heap.size w1.heap.size w4 (.slice (some ⟨gx, 0, none⟩) (n + 1) cx) l ∧ Below w.heap.size w w4 ∧ Below w1.heap.size w1 w4 ∧ OwS w1.heap.size w4 a (norE l) ∧ (∀ g, a.ownBlock = some g → g < w2.heap.size) ∧ OwS w2.heap.size w4 b (norE l) ∧ OwS w3.heap.size w4 c (witG l r) ∧ w2.heap.size ≤ w3.heap.size) := by
      obtain ⟨r1, r2, r3, r4, r5, r6, r7, r8, r9⟩ := H3.out
      obtain ⟨q1, q2⟩ := hcc.out
      exact ⟨r1.below q2, r2.below q2, r3.below q2, r4.trans (q2.mono r4.size), r5.trans (q2.mono r5.size), r6.below q2, r7, r8.below q2, q1, r9⟩
    clear hcc H3
    go_wp2_with fail
    refine (zwithin_any l r _ _ w4 H4.out.1 H4.out.2.1 HW.out.1.txs).mono ?_
    rintro e w5 ⟨d, rfl, hd⟩
    have H5 : Hid (NoS w.heap.size w1.heap.size w2.heap.size w3.heap.size w4.heap.size w w1 (.slice oa n cap) (.slice ob nr cbr) (.slice (some ⟨gx, 0, none⟩) (n + 1) cx) a b c d l r w5) := by
      obtain ⟨r1, r2, r3, r4, r5, r6, r7, r8, r9, _⟩ := H4.out
      obtain ⟨q1, q2⟩ := hd.out
      exact ⟨r1.below q2, r2.below q2, r3.below q2, r6.below q2, r7, r8.below q2, r9.below q2, (fun g hg => (row_lt r9 g hg).2), q1, r4.trans (q2.mono r4.size), r5.trans (q2.mono r5.size)⟩
    have HS : Hid (w.heap.size ≤ w1.heap.size ∧ w2.heap.size ≤ w3.heap.size) := ⟨by
      obtain ⟨_, _, _, _, _, q1, q2⟩ := H4.out.2.2.1.val
      omega, H4.out.2.2.2.2.2.2.2.2.2⟩
    clear hd H4
    have HSa : Hid (∀ W, NoS w.heap.size w1.heap.size w2.heap.size w3.heap.size w4.heap.size w w1 (.slice oa n cap) (.slice ob nr cbr) (.slice (some ⟨gx, 0, none⟩) (n + 1) cx) a b c d l r W → Calls Tryz.prog 13 #[a, b] W fun e w' => e = .returned (.bool true) ∧ Below W.heap.size W w') := fun W h => by
      have q := zsame_any _ _ a b W h.fa.lss h.fb.lss (by have := norE_len HL2.out; omega)
      rw [samZ_self] at q
      exact q
    have HSc : Hid (∀ W, NoS w.heap.size w1.heap.size w2.heap.size w3.heap.size w4.heap.size w w1 (.slice oa n cap) (.slice ob nr cbr) (.slice (some ⟨gx, 0, none⟩) (n + 1) cx) a b c d l r W → Calls Tryz.prog 13 #[c, d] W fun e w' => e = .returned (.bool true) ∧ Below W.heap.size W w') := fun W h => by
      have q := zsame_any _ _ c d W h.fc.lss h.fd.lss (by have := witG_len l r; omega)
      rw [samZ_self] at q
      exact q
    generalize chkS l = E1 at *
    generalize witE l r = E2 at *
    go_wp2_with fail
    refine (HSa.out _ H5.out).mono ?_
    rintro e w6 ⟨rfl, hb6⟩
    have H6 : Hid (NoS w.heap.size w1.heap.size w2.heap.size w3.heap.size w4.heap.size w w1 (.slice oa n cap) (.slice ob nr cbr) (.slice (some ⟨gx, 0, none⟩) (n + 1) cx) a b c d l r w6) := H5.out.below H5.out.fw.size H5.out.fw1.size hb6
    clear hb6 H5
    go_wp2_with fail
    refine (HSc.out _ H6.out).mono ?_
    rintro e w7 ⟨rfl, hb7⟩
    have H7 : Hid (NoS w.heap.size w1.heap.size w2.heap.size w3.heap.size w4.heap.size w w1 (.slice oa n cap) (.slice ob nr cbr) (.slice (some ⟨gx, 0, none⟩) (n + 1) cx) a b c d l r w7) := H6.out.below H6.out.fw.size H6.out.fw1.size hb7
    clear hb7 H6 HSa HSc
    go_wp2_with fail
    refine (spoil_any _ _ a w7 H7.out.fa (norE_len HL2.out)).mono ?_
    rintro e w8 ⟨rfl, hg⟩
    have H8 : Hid (LsS w8 (.slice oa n cap) l ∧ LenS w.heap.size w1.heap.size w8 (.slice (some ⟨gx, 0, none⟩) (n + 1) cx) l ∧ OwS w3.heap.size w8 c (witG l r) ∧ Below w.heap.size w w8) := by
      obtain ⟨f1, f2, f3, f4, f5, f6, f7, f8, f9, f10, f11⟩ := H7.out
      have ha : ∀ g, a.ownBlock = some g → w1.heap.size ≤ g := fun g hg => (row_lt f4 g hg).1
      have b0 : Below w.heap.size w w8 := f10.grown hg f10.size (fun g h => Nat.le_trans HS.out.1 (ha g h))
      refine ⟨HW.out.2.1.below b0, f3.far hg ha, f7.far hg fun g h c => ?_, b0⟩
      have h1 := f5 g c
      have h2 := (row_lt f7 g h).1
      have := HS.out.2
      omega
    have HS3 : Hid (w1.heap.size ≤ w3.heap.size) := Nat.le_trans HS12.out HS.out.2
    clear hg H7
    go_wp2_with fail
    refine (spoil_any _ _ c w8 H8.out.2.2.1 (witG_len l r)).mono ?_
    rintro e w9 ⟨rfl, hg⟩
    have H9 : Hid (LsS w9 (.slice oa n cap) l ∧ LenS w.heap.size w1.heap.size w9 (.slice (some ⟨gx, 0, none⟩) (n + 1) cx) l ∧ Below w.heap.size w w9) := by
      obtain ⟨f1, f2, f3, f4⟩ := H8.out
      have ha : ∀ g, c.ownBlock = some g → w1.heap.size ≤ g := fun g hg => Nat.le_trans HS3.out (row_lt f3 g hg).1
      have b0 : Below w.heap.size w w9 := f4.grown hg f4.size (fun g h => Nat.le_trans HS.out.1 (ha g h))
      exact ⟨HW.out.2.1.below b0, f2.far hg ha, b0⟩
    clear hg H8
    go_wp2_with fail
    refine (kept_any _ _ l _ _ w9 H9.out.2.1 H9.out.1 HL2.out).mono ?_
    rintro e w10 ⟨rfl, hb10⟩
    have HBz : Hid (Below w.heap.size w w10) := H9.out.2.2.trans (hb10.mono H9.out.2.2.size)
    clear hb10
    go_wp2
    go_ret
    exact ⟨rfl, HBz.out⟩
  · clear HB30
    go_wp2_with fail
    refine (own_any l _ wa (HW.out.2.1.below HA.out) HW.out.2.2.1 HL2.out).mono ?_
    rintro e w1 ⟨x, rfl, hx, hb1⟩
    obtain ⟨gx, cx, rfl, hcx, -⟩ := hx.val
    have H1 : Hid (LsS w1 (.slice oa n cap) l ∧ LsR w1 (.slice ob nr cbr) r ∧ LenS w.heap.size w1.heap.size w1 (.slice (some ⟨gx, 0, none⟩) (l.length + 1) cx) l ∧ Below w.heap.size w w1) := by
      have b1 : Below w.heap.size w w1 := HA.out.trans (hb1.mono HA.out.size)
      exact ⟨HW.out.2.1.below b1, HW.out.2.2.2.1.below b1, ⟨hx.1.weaken HA.out.size, hx.2⟩, b1⟩
    clear hx hb1 HA
    rw [← HN.out.1] at H1 hcx ⊢
    have HX1 : Hid (∀ W, LenS w.heap.size w1.heap.size W (.slice (some ⟨gx, 0, none⟩) (n + 1) cx) l → LsS W (.slice (some ⟨gx, 0, none⟩) n cx) l) := fun W h => by have q := h.lss; rw [← HN.out.1] at q; exact q
    go_wp2_with fail
    refine (HC.out.1 l _ w1 (HX1.out _ H1.out.2.2.1) HW.out.1).mono ?_
    rintro e w2 ⟨a, rfl, ha⟩
    have H2 : Hid (LsS w2 (.slice oa n cap) l ∧ LsR w2 (.slice ob nr cbr) r ∧ LenS w.heap.size w1.heap.size w2 (.slice (some ⟨gx, 0, none⟩) (n + 1) cx) l ∧ Below w.heap.size w w2 ∧ Below w1.heap.size w1 w2 ∧ OwS w1.heap.size w2 a (norE l)) := by
      obtain ⟨r1, r2, r3, r4⟩ := H1.out
      obtain ⟨q1, q2⟩ := ha.out
      exact ⟨r1.below q2, r2.below q2, r3.below q2, r4.trans (q2.mono r4.size), q2, q1⟩
    have HS12 : Hid (w1.heap.size ≤ w2.heap.size) := H2.out.2.2.2.2.1.size
    clear ha H1
    go_wp2_with fail
    refine (znorm_any l _ w2 H2.out.1 HW.out.1.txs).mono ?_
    rintro e w3 ⟨b, rfl, hb⟩
    have H3 : Hid (LsS w3 (.slice oa n cap) l ∧ LsR w3 (.slice ob nr cbr) r ∧ LenS w.heap.size w1.heap.size w3 (.slice (some ⟨gx, 0, none⟩) (n + 1) cx) l ∧ Below w.heap.size w w3 ∧ Below w1.heap.size w1 w3 ∧ OwS w1.heap.size w3 a (norE l) ∧ (∀ g, a.ownBlock = some g → g < w2.heap.size) ∧ OwS w2.heap.size w3 b (norE l) ∧ w2.heap.size ≤ w3.heap.size) := by
      obtain ⟨r1, r2, r3, r4, r5, r6⟩ := H2.out
      obtain ⟨q1, q2⟩ := hb.out
      exact ⟨r1.below q2, r2.below q2, r3.below q2, r4.trans (q2.mono r4.size), r5.trans (q2.mono r5.size), r6.below q2, (fun g hg => (row_lt r6 g hg).2), q1, q2.size⟩
    clear hb H2
    go_wp2_with fail
    refine (HC.out.2 l r _ _ w3 (HX1.out _ H3.out.2.2.1) H3.out.2.1 HW.out.1 HW.out.2.2.2.2.2 HW.out.2.2.2.2.1).mono ?_
    rintro e w4 ⟨c, rfl, hcc⟩
    have H4 : Hid (LsS w4 (.slice oa n cap) l ∧ LsR w4 (.slice ob nr cbr) r ∧ LenS w.heap.size w1.heap.size w4 (.slice (some ⟨gx, 0, none⟩) (n + 1) cx) l ∧ Below w.heap.size w w4 ∧ Below w1.heap.size w1 w4 ∧ OwS w1.heap.size w4 a (norE l) ∧ (∀ g, a.ownBlock = some g → g < w2.heap.size) ∧ OwS w2.heap.size w4 b (norE l) ∧ OwS w3.heap.size w4 c (witG l r) ∧ w2.heap.size ≤ w3.heap.size) := by
      obtain ⟨r1, r2, r3, r4, r5, r6, r7, r8, r9⟩ := H3.out
      obtain ⟨q1, q2⟩ := hcc.out
      exact ⟨r1.below q2, r2.below q2, r3.below q2, r4.trans (q2.mono r4.size), r5.trans (q2.mono r5.size), r6.below q2, r7, r8.below q2, q1, r9⟩
    clear hcc H3
    go_wp2_with fail
    refine (zwithin_any l r _ _ w4 H4.out.1 H4.out.2.1 HW.out.1.txs).mono ?_
    rintro e w5 ⟨d, rfl, hd⟩
    have H5 : Hid (NoS w.heap.size w1.heap.size w2.heap.size w3.heap.size w4.heap.size w w1 (.slice oa n cap) (.slice ob nr cbr) (.slice (some ⟨gx, 0, none⟩) (n + 1) cx) a b c d l r w5) := by
      obtain ⟨r1, r2, r3, r4, r5, r6, r7, r8, r9, _⟩ := H4.out
      obtain ⟨q1, q2⟩ := hd.out
      exact ⟨r1.below q2, r2.below q2, r3.below q2, r6.below q2, r7, r8.below q2, r9.below q2, (fun g hg => (row_lt r9 g hg).2), q1, r4.trans (q2.mono r4.size), r5.trans (q2.mono r5.size)⟩
    have HS : Hid (w.heap.size ≤ w1.heap.size ∧ w2.heap.size ≤ w3.heap.size) := ⟨by
      obtain ⟨_, _, _, _, _, q1, q2⟩ := H4.out.2.2.1.val
      omega, H4.out.2.2.2.2.2.2.2.2.2⟩
    clear hd H4
    have HSa : Hid (∀ W, NoS w.heap.size w1.heap.size w2.heap.size w3.heap.size w4.heap.size w w1 (.slice oa n cap) (.slice ob nr cbr) (.slice (some ⟨gx, 0, none⟩) (n + 1) cx) a b c d l r W → Calls Tryz.prog 13 #[a, b] W fun e w' => e = .returned (.bool true) ∧ Below W.heap.size W w') := fun W h => by
      have q := zsame_any _ _ a b W h.fa.lss h.fb.lss (by have := norE_len HL2.out; omega)
      rw [samZ_self] at q
      exact q
    have HSc : Hid (∀ W, NoS w.heap.size w1.heap.size w2.heap.size w3.heap.size w4.heap.size w w1 (.slice oa n cap) (.slice ob nr cbr) (.slice (some ⟨gx, 0, none⟩) (n + 1) cx) a b c d l r W → Calls Tryz.prog 13 #[c, d] W fun e w' => e = .returned (.bool true) ∧ Below W.heap.size W w') := fun W h => by
      have q := zsame_any _ _ c d W h.fc.lss h.fd.lss (by have := witG_len l r; omega)
      rw [samZ_self] at q
      exact q
    generalize chkS l = E1 at *
    generalize witE l r = E2 at *
    go_wp2_with fail
    refine (HSa.out _ H5.out).mono ?_
    rintro e w6 ⟨rfl, hb6⟩
    have H6 : Hid (NoS w.heap.size w1.heap.size w2.heap.size w3.heap.size w4.heap.size w w1 (.slice oa n cap) (.slice ob nr cbr) (.slice (some ⟨gx, 0, none⟩) (n + 1) cx) a b c d l r w6) := H5.out.below H5.out.fw.size H5.out.fw1.size hb6
    clear hb6 H5
    go_wp2_with fail
    refine (HSc.out _ H6.out).mono ?_
    rintro e w7 ⟨rfl, hb7⟩
    have H7 : Hid (NoS w.heap.size w1.heap.size w2.heap.size w3.heap.size w4.heap.size w w1 (.slice oa n cap) (.slice ob nr cbr) (.slice (some ⟨gx, 0, none⟩) (n + 1) cx) a b c d l r w7) := H6.out.below H6.out.fw.size H6.out.fw1.size hb7
    clear hb7 H6 HSa HSc
    go_wp2_with fail
    refine (spoil_any _ _ a w7 H7.out.fa (norE_len HL2.out)).mono ?_
    rintro e w8 ⟨rfl, hg⟩
    have H8 : Hid (LsS w8 (.slice oa n cap) l ∧ LenS w.heap.size w1.heap.size w8 (.slice (some ⟨gx, 0, none⟩) (n + 1) cx) l ∧ OwS w3.heap.size w8 c (witG l r) ∧ Below w.heap.size w w8) := by
      obtain ⟨f1, f2, f3, f4, f5, f6, f7, f8, f9, f10, f11⟩ := H7.out
      have ha : ∀ g, a.ownBlock = some g → w1.heap.size ≤ g := fun g hg => (row_lt f4 g hg).1
      have b0 : Below w.heap.size w w8 := f10.grown hg f10.size (fun g h => Nat.le_trans HS.out.1 (ha g h))
      refine ⟨HW.out.2.1.below b0, f3.far hg ha, f7.far hg fun g h c => ?_, b0⟩
      have h1 := f5 g c
      have h2 := (row_lt f7 g h).1
      have := HS.out.2
      omega
    have HS3 : Hid (w1.heap.size ≤ w3.heap.size) := Nat.le_trans HS12.out HS.out.2
    clear hg H7
    go_wp2_with fail
    refine (spoil_any _ _ c w8 H8.out.2.2.1 (witG_len l r)).mono ?_
    rintro e w9 ⟨rfl, hg⟩
    have H9 : Hid (LsS w9 (.slice oa n cap) l ∧ LenS w.heap.size w1.heap.size w9 (.slice (some ⟨gx, 0, none⟩) (n + 1) cx) l ∧ Below w.heap.size w w9) := by
      obtain ⟨f1, f2, f3, f4⟩ := H8.out
      have ha : ∀ g, c.ownBlock = some g → w1.heap.size ≤ g := fun g hg => Nat.le_trans HS3.out (row_lt f3 g hg).1
      have b0 : Below w.heap.size w w9 := f4.grown hg f4.size (fun g h => Nat.le_trans HS.out.1 (ha g h))
      exact ⟨HW.out.2.1.below b0, f2.far hg ha, b0⟩
    clear hg H8
    go_wp2_with fail
    refine (kept_any _ _ l _ _ w9 H9.out.2.1 H9.out.1 HL2.out).mono ?_
    rintro e w10 ⟨rfl, hb10⟩
    have HBz : Hid (Below w.heap.size w w10) := H9.out.2.2.trans (hb10.mono H9.out.2.2.size)
    clear hb10
    go_wp2
    go_ret
    exact ⟨rfl, HBz.out⟩

end Go.Proofs.YtbghjmkgicdnoaaGreat

/-
  Contracts of package list: a list without idle pairs.
-/
namespace Go.Proofs.YtbghjmkgicdnoaaGreat
open Go.RowKit

/-- Does a stroke close the clip that ends what is ahead of it? -/
def cloB (K : List St) (s : St) : Bool := (s.k == 5) && (match K.getLast? with | some c => c.k == 4 | none => false)

set_option maxRecDepth 10000 in
set_option maxHeartbeats 2000000 in
theorem closes_any (K : List St) (oa : Option Addr) (m cap : Nat) (s : St) (w : World) (hm : m = K.length) (hK : ∀ c, K.getLast? = some c → ∃ g, oa = some ⟨g, 0, none⟩ ∧ g < w.heap.size ∧ w.cell? ⟨g, (m - 1) * 15, none⟩ = some (.int .u8 c.k)) (hmc : m ≤ cap) (hmb : m ≤ 100000) :
    Calls Tryz.prog 66 #[.slice oa m cap, (Value.agg #[.int .u8 s.k, .int .i64 s.r.x, .int .i64 s.r.y, .int .i64 s.r.w, .int .i64 s.r.h, .int .u8 s.c.r, .int .u8 s.c.g, .int .u8 s.c.b, .int .u8 s.c.a, .int .u8 s.b.r, .int .u8 s.b.g, .int .u8 s.b.b, .int .u8 s.b.a, .string s.t, .int .i64 s.n])] w fun e w' => e = .returned (.bool (cloB K s)) ∧ Below w.heap.size w w' := by
  have HL : Hid (∀ c, Below w.heap.size w (w.alloc c)) := fun c => (Below.refl _ w).alloc (Nat.le_refl _) _
  unfold cloB
  by_cases h5 : s.k = 5
  · rcases List.eq_nil_or_concat K with rfl | ⟨L, c, rfl⟩
    · obtain rfl : m = 0 := hm
      have e : ((s.k == 5) && (match ([] : List St).getLast? with | some c => c.k == 4 | none => false)) = false := by simp
      rw [e]
      clear hK e
      go_enter Tryz.func66, Tryz.ntmps66
      go_wp2
      go_ret
      exact ⟨rfl, HL.out _⟩
    · obtain ⟨g, rfl, hg, hc⟩ := hK c (by simp)
      have hm0 : 0 < m := by rw [hm]; simp
      obtain ⟨p, hp⟩ : ∃ p, p = m - 1 := ⟨_, rfl⟩
      have z1 : (m : Int) - 1 = (p : Int) := by omega
      have z2 : (p : Int) < (m : Int) := by omega
      have z3 : p < m := by omega
      have z4 : (0 : Int) < (m : Int) := by omega
      have z5 : p ≤ 100000 := by omega
      have e : ((s.k == 5) && (match (L.concat c).getLast? with | some c => c.k == 4 | none => false)) = (c.k == 4) := by simp [h5]
      rw [e]
      rw [← hp] at hc
      clear hK e hm hp
      go_enter Tryz.func66, Tryz.ntmps66
      go_wp2
      go_ret
      exact ⟨rfl, HL.out _⟩
  · have h5' : (s.k == 5) = false := beq_eq_false_iff_ne.2 h5
    rw [h5', Bool.false_and]
    clear hK h5 hm
    go_enter Tryz.func66, Tryz.ntmps66
    go_wp2
    go_ret
    exact ⟨rfl, HL.out _⟩

theorem flatZ_set : ∀ (M : List St) (m : Nat) (_ : m < M.length) (y : St), flatZ (M.set m y) = (flatZ M).take (m * 15) ++ sCel y ++ (flatZ M).drop (m * 15 + 15)
  | [], m, h, _ => absurd h (Nat.not_lt_zero _)
  | s :: M, 0, _, y => by
    show sCel y ++ flatZ M = _
    rw [Nat.zero_mul, List.take_zero, List.nil_append, Nat.zero_add]
    show sCel y ++ flatZ M = sCel y ++ (sCel s ++ flatZ M).drop 15
    rw [List.drop_left' (sCel_len s)]
  | s :: M, m + 1, h, y => by
    have h' : m < M.length := by simpa using h
    show sCel s ++ flatZ (M.set m y) = (sCel s ++ flatZ M).take ((m + 1) * 15) ++ sCel y ++ (sCel s ++ flatZ M).drop ((m + 1) * 15 + 15)
    rw [flatZ_set M m h' y, List.take_append, List.drop_append, sCel_len]
    rw [List.take_of_length_le (l := sCel s) (by rw [sCel_len]; omega), List.drop_of_length_le (l := sCel s) (by rw [sCel_len]; omega), List.nil_append]
    rw [show (m + 1) * 15 - 15 = m * 15 by omega, show (m + 1) * 15 + 15 - 15 = m * 15 + 15 by omega]
    simp only [List.append_assoc]

theorem take_mid (X Y : List Value) (a b : Nat) (hX : a ≤ X.length) (hY : Y.length = 15) (hab : a + 15 ≤ b) : (X.take a ++ Y ++ X.drop (a + 15)).take b = X.take a ++ Y ++ (X.drop (a + 15)).take (b - (a + 15)) := by
  have hl : (X.take a ++ Y).length = a + 15 := by rw [List.length_append, List.length_take, hY]; omega
  rw [List.take_append, hl, List.take_of_length_le (l := X.take a ++ Y) (by omega)]
/-- A stroke laid behind a part of a row that has more behind it. -/
theorem app_in {P : Program} {w : World} {ops : Array Oper} {rest : List Oper} {o : Oper} {a : Act} {Q : Exit → Act → World → Prop} (hgd : o.guard = none) (s x : Operand)
    (ho : o.op = .call { callee := .builtin .append, args := #[s, x], argTypes := #[22, 22] })
    (i : TypeInfo) (ht : P.underlying 22 = some (.slice 48)) (hi : P.info? 48 = some i) (hsize : i.size = 15)
    (lo g m n cap : Nat) (M : List St) (hs : a.eval s = .slice (some ⟨g, 0, none⟩) m cap) (hown : w.ownsRow lo 48 15 (.slice (some ⟨g, 0, none⟩) n cap) n (flatZ M)) (hM : M.length = n) (hmn : m < n)
    (ad : Addr) (c : Nat) (y : St) (hx : a.eval x = .slice (some ad) 1 c) (hc : ∀ j u, (sCel y)[j]? = some u → w.cell? (ad.add j) = some u)
    (hK : ∀ w', Hid (w'.ownsRow lo 48 15 (.slice (some ⟨g, 0, none⟩) n cap) n (flatZ (M.set m y)) ∧ w.grownBy w' (some g)) → wpList P ops Q rest (a.put o.dst (.slice (some ⟨g, 0, none⟩) (m + 1) cap)) w') : wpList P ops Q (o :: rest) a w := by
  obtain ⟨hl, ⟨h, _⟩ | ⟨g', cap', cur, h, hb, hcu, h1, h2, h3, h4⟩⟩ := hown
  · cases h
  · injection h with e1 _ e3
    injection e1 with e1
    injection e1 with e1 _ _
    subst e1 e3
    have hcur : (cur.toList).length = cap * 15 := by rw [Array.length_toList]; exact h3
    have hr := run_append_room (P := P) w 22 o.type 48 i ht hi g m cap cur hcu ad 1 c (sCel y) (by rw [hsize]; rfl) hc (oneZ y) (by omega) (by rw [hsize, sCel_len]; rw [← Array.length_toList, hcur]; omega)
    rw [hsize, sCel_len] at hr
    refine wpList_plain hgd fun K hK' => ?_
    unfold Oper.wp
    simp [execOp, ho, resolve, invoke, builtin, hs, hx, hr, Result.andThen]
    refine hK' _ _ (hK _ ⟨⟨by rw [flatZ_len, List.length_set, hM], .inr ⟨g, cap, _, rfl, hb, setRow_heap w g cur _ 48 _ hcu, h1, h2, ?_, ?_⟩⟩, ⟨rfl, rfl, rfl, by simp, fun k _ hk => setRow_other w g k _ (fun e => hk (by simp [e]))⟩⟩)
    · simp only [List.size_toArray, List.length_append, List.length_take, List.length_drop, hcur, sCel_len]
      omega
    · show List.take (n * 15) (List.take (m * 15) cur.toList ++ (sCel y ++ List.drop (m * 15 + 15) cur.toList)) = _
      rw [← List.append_assoc, flatZ_set M m (by omega) y, ← h4, take_mid _ _ _ _ (by rw [hcur]; omega) (sCel_len y) (by omega), List.take_take, List.drop_take, show min (m * 15) (n * 15) = m * 15 by omega]

end Go.Proofs.YtbghjmkgicdnoaaGreat
