/-
  Texts of this claim, one behind the other: what each is about stands ahead of it.
-/
import Derived.Test.YtbghjmkgicdnoaaK32
import Derived.Test.YtbghjmkgicdnoaaK18
import Derived.OwnWalk
import Derived.Deep.RegionWith
import Derived.Test.YtbghjmkgicdnoaaK31
import Derived.Test.YtbghjmkgicdnoaaK24
import Derived.Deep.CutRange
import Derived.Deep.DeepCutAuto
import Derived.Test.YtbghjmkgicdnoaaK17
import Derived.Test.YtbghjmkgicdnoaaK29
/-
  Contracts of package list: Within.
-/
namespace Go.Proofs.Ytbghjmkgicdnoaa
open Go.RowKit

/-- A list that lies somewhere laid behind a row of one's own: and where that lies then. -/
theorem app_lieS {P : Program} {w : World} {ops : Array Oper} {rest : List Oper} {o : Oper} {a : Act} {Q : Exit → Act → World → Prop} (hgd : o.guard = none) (s x : Operand)
    (ho : o.op = .call { callee := .builtin .append, args := #[s, x], argTypes := #[36, 36] })
    (i : TypeInfo) (ht : P.underlying 36 = some (.slice 31)) (hi : P.info? 31 = some i) (hz : i.zero = some (.agg #[.int .u8 0, .int .i64 0, .int .i64 0, .int .i64 0, .int .i64 0, .int .u8 0, .int .u8 0, .int .u8 0, .int .u8 0, .int .u8 0, .int .u8 0, .int .u8 0, .int .u8 0, .string ByteArray.empty, .int .i64 0]))
    (hsize : i.size = 15) (hby : i.bytes = 72) (lo : Nat) (u : Value) (qs : List St) (hs : a.eval s = u) (hown : OwS lo w u qs) (hlo : lo ≤ w.heap.size) (rs : List St) (b : Value) (hx : a.eval x = b) (hv : LsS w b rs) (hn : NoNil b)
    (hl : qs.length + rs.length ≤ 100000) (h : ∀ v' w', Hid (OwS lo w' v' (qs ++ rs) ∧ w.grownBy w' u.ownBlock ∧ (v'.ownBlock = u.ownBlock ∨ ∀ g, v'.ownBlock = some g → w.heap.size ≤ g)) → wpList P ops Q rest (a.put o.dst v') w') : wpList P ops Q (o :: rest) a w := by
  obtain ⟨oa, cap, rfl, hc, hg⟩ := hv
  have hsrc : ∀ ad, oa = some ad → ∀ j u', (flatZ rs)[j]? = some u' → w.cell? (ad.add j) = some u' := by
    intro ad had j u' hj
    have hp : 0 < rs.length := by
      cases rs with
      | nil => simp [flatZ] at hj
      | cons r t => simp
    obtain ⟨g, o', e2, _, hat⟩ := hg hp
    rw [e2] at had
    injection had with had
    subst had
    exact lss_src hat j u' hj
  by_cases h0 : rs.length = 0
  · obtain rfl : rs = [] := List.length_eq_zero_iff.1 h0
    cases oa with
    | none =>
      obtain rfl : cap = 0 := hn cap rfl
      refine app_none hgd s x _ ho lo 31 i 15 ht hi u qs.length (flatZ qs) hs hown hx ?_
      rintro _ _ rfl rfl
      refine h _ _ ⟨?_, World.grownBy.refl _ _, .inl rfl⟩
      rw [List.append_nil]
      exact hown
    | some ad =>
      rcases row_val hown with ⟨ou, cu, eu, hcu, _⟩
      cases ou with
      | none =>
        refine wpList_append_own _ hgd s x _ ho lo 31 i _ 15 72 ht hi hz hsize hby rfl (by decide) u qs.length (flatZ qs) hs hown ad 0 cap (flatZ []) hx rfl (hsrc ad rfl) (onesZ []) (by unfold maxLen; omega) (by omega) hlo ?_
        intro v' w' h2 h3 h4
        have hun : u = .slice none 0 0 := by
          obtain ⟨_, ⟨hh, _⟩ | ⟨g', cap', cur, hh, _⟩⟩ := hown
          · exact hh
          · rw [eu] at hh; injection hh with hh; cases hh
        have hv' := h4.2 ⟨hun, rfl⟩
        refine h v' w' ⟨?_, h3, .inl (by rw [hv', hun])⟩
        rw [List.append_nil]
        unfold OwS
        simpa [flatZ] using h2
      | some au =>
        have hau : ∃ g, au = ⟨g, 0, none⟩ := by
          obtain ⟨_, ⟨hh, _⟩ | ⟨g', cap', cur, hh, _⟩⟩ := hown
          · rw [eu] at hh; injection hh with hh; cases hh
          · rw [eu] at hh; injection hh with hh; injection hh with hh; exact ⟨g', hh⟩
        obtain ⟨g, rfl⟩ := hau
        subst eu
        refine wpList_append_fits w hgd s x _ ho lo 31 i 15 ht hi hsize g qs.length cu (flatZ qs) hs hown ad 0 cap (flatZ []) hx rfl (hsrc ad rfl) (onesZ []) (by omega) ?_
        intro w' h2 h3
        refine h _ w' ⟨?_, h3, .inl rfl⟩
        rw [List.append_nil]
        unfold OwS
        simpa [flatZ] using h2
  · obtain ⟨g0, o0, e0, _, _⟩ := hg (by omega)
    subst e0
    refine wpList_append_lies _ hgd s x _ ho lo 31 i _ 15 72 ht hi hz hsize hby rfl (by decide) u qs.length (flatZ qs) hs hown _ rs.length cap (flatZ rs) hx (flatZ_len rs) (hsrc _ rfl) (onesZ rs) (by omega) (by unfold maxLen; omega) (by omega) hlo _ rfl ?_
    intro g cap' w' h2 h3 h4 _
    refine h _ w' ⟨?_, h3, ?_⟩
    · unfold OwS
      rw [List.length_append, flatZ_app]
      exact h2
    · rcases h4 with h4 | h4
      · exact .inl h4.symm
      · right
        intro q hq
        have e : g = q := by injection hq
        omega

end Go.Proofs.Ytbghjmkgicdnoaa

/-
  Contracts of package list: Within.
-/
namespace Go.Proofs.Ytbghjmkgicdnoaa
open Go.RowKit

theorem wit_may {r : List Rc} : ∀ q ∈ witR r, zMa q = true := fun q hq => by
  unfold witR ansL at hq
  split at hq
  · have h := (keepE_iff q).1 (form_keep _ _ _ q hq)
    unfold zMa
    rw [may_iff]
    omega
  · cases hq
theorem cutL_len (l : List St) (q : Rc) : (cutL (ann [] l) q).length ≤ l.length + 2 := by
  unfold cutL
  have := List.length_filter_le (witP q) (ann [] l)
  rw [ann_len] at this
  simp only [List.length_cons, List.length_append, List.length_map, List.length_nil]
  omega
theorem ows_nonil {lo : Nat} {W : World} {v : Value} {l : List St} (h : OwS lo W v l) : NoNil v := fun c hc => by
  obtain ⟨_, ⟨hh, _⟩ | ⟨g', cap', cur, hh, _⟩⟩ := h
  · rw [hh] at hc
    injection hc with _ _ h3
    exact h3.symm
  · rw [hh] at hc
    injection hc with h1
    cases h1
/-- Within's loop: what was told so far, and the row that is cut into, which lies apart. -/
structure WiW (w0 : World) (L : List St) (t i : Value) (W : World) : Prop where
  ft : OwS w0.heap.size W t L
  fi : ∃ M, OwS w0.heap.size W i M
  fa : Apt t i
  fb : Below w0.heap.size w0 W
theorem WiW.below {w0 : World} {L : List St} {t i : Value} {W W' : World} (h : WiW w0 L t i W) (hb : Below W.heap.size W W') : WiW w0 L t i W' :=
  ⟨h.ft.below hb, by obtain ⟨M, hM⟩ := h.fi; exact ⟨M, hM.below hb⟩, h.fa, h.fb.trans (hb.mono h.fb.size)⟩
theorem wi_cut {w0 W W' : World} {L C : List St} {t v0 u : Value} (ht : OwS w0.heap.size W t L) (ha : Apt t v0) (hc : CuW w0 W v0.ownBlock C u W') : OwS w0.heap.size W' t L ∧ Apt t u := by
  refine ⟨ht.far hc.fg (fun g hg h => ha g hg h), fun g hg h => ?_⟩
  rcases hc.fu with h2 | h2
  · rw [h2] at h
    exact ha g hg h
  · have h3 := h2 g h
    have h4 := (row_lt ht g hg).2
    omega

set_option maxRecDepth 20000 in
set_option maxHeartbeats 16000000 in
theorem lwithin_any (l : List St) (r : List Rc) (v vr : Value) (w : World) (hv : LsS w v l) (hr : LsR w vr r) (ht : Txs l) (hxy : Xys l) (hca : ∀ s ∈ l, 0 ≤ s.c.a) (hri : I64s r) :
    Calls Try.prog 16 #[v, vr] w fun e w' => AnsS w (witG l r) (witE l r) e w' := by
  have HC : Hid (Calls Try.prog 10 #[v] w fun e w' => e = .returned (.int .i64 (chkS l)) ∧ Below w.heap.size w w') := lcheck_any l v w hv ht hxy
  unfold AnsS
  by_cases h0 : chkS l = 0
  case neg =>
    have HE : Hid (witG l r = [] ∧ witE l r = chkS l) := by
      have h : witE l r = chkS l := by unfold witE; rw [if_neg h0]
      exact ⟨by unfold witG; rw [if_neg (by rw [h]; exact h0)], h⟩
    rw [HE.out.1, HE.out.2]
    have hne : (chkS l != 0) = true := by simp [h0]
    clear h0 hv ht HE hr hxy hca hri
    generalize chkS l = ce at *
    go_enter Try.func16, Try.ntmps16
    go_wp2_with fail
    refine HC.out.mono ?_
    rintro e w1 ⟨rfl, hb⟩
    have H1 : Hid (Below w.heap.size w w1) := hb
    clear hb
    go_wp2
    go_ret2
    exact ⟨_, rfl, OwS.nil _ _, H1.out⟩
  case pos =>
    obtain ⟨hl, hcl⟩ := chkS_zero h0
    have HOf : Hid (∀ W, Below w.heap.size w W → Calls Try.prog 36 #[vr] W fun e w' => Ans W (witR r) (witF r) e w') := fun W h => of_any r vr W (hr.below h) hri
    rw [h0] at HC
    by_cases h1 : witF r = 0
    case neg =>
      have HE : Hid (witG l r = [] ∧ witE l r = witF r) := by
        have h : witE l r = witF r := by unfold witE; rw [if_pos h0, if_neg h1]
        exact ⟨by unfold witG; rw [if_neg (by rw [h]; exact h1)], h⟩
      rw [HE.out.1, HE.out.2]
      have hne : (witF r != 0) = true := by simp [h1]
      clear h0 hv ht HE hr h1 hxy hca hri
      generalize witF r = ce at *
      generalize witR r = wl at *
      go_enter Try.func16, Try.ntmps16
      go_wp2_with fail
      refine HC.out.mono ?_
      rintro e w1 ⟨rfl, hb⟩
      have H1 : Hid (Below w.heap.size w w1) := hb
      clear hb
      go_wp2_with fail
      refine (HOf.out _ H1.out).mono ?_
      rintro e w2 ⟨u, rfl, hu, hb2⟩
      have H2 : Hid (Below w.heap.size w w2) := H1.out.trans (hb2.mono H1.out.size)
      clear hu hb2
      go_wp2
      go_ret2
      exact ⟨_, rfl, OwS.nil _ _, H2.out⟩
    case pos =>
      have HE : Hid ((16384 < (witA l (witR r)).length → witE l r = 4 ∧ witG l r = []) ∧ (¬ 16384 < (witA l (witR r)).length → witE l r = 0 ∧ witG l r = witA l (witR r))) := by
        refine ⟨fun h => ?_, fun h => ?_⟩
        · have e : witE l r = 4 := by unfold witE; rw [if_pos h0, if_pos h1, if_pos h]
          exact ⟨e, by unfold witG; rw [if_neg (by rw [e]; decide)]⟩
        · have e : witE l r = 0 := by unfold witE; rw [if_pos h0, if_pos h1, if_neg h]
          exact ⟨e, by unfold witG; rw [if_pos e]⟩
      have HPi : Hid (∀ W, Below w.heap.size w W → Calls Try.prog 38 #[v] W fun e w' => ∃ u, e = .returned u ∧ Hid (RowsR w' u ((ann [] l).map fun p => plc p.1 p.2) ∧ Below W.heap.size W w')) := fun W h => lpieces_any l v W (hv.below h) hl hcl hca
      have HWf : Hid (witA l (witR r) = (witR r).flatMap (grpL (ann [] l))) := rfl
      have HMy : Hid (∀ q ∈ witR r, zMa q = true) := wit_may
      have hfl := witR_len r
      rw [h1] at HOf
      have HV : Hid (LsS w v l ∧ clpE 0 l = 0) := ⟨hv, hcl⟩
      clear h0 h1 hr hri hca hxy ht hv hcl
      obtain ⟨j0, ki, kz0, kz1, kz2⟩ := info_parts info_strokeZ
      generalize witG l r = R1 at *
      generalize witE l r = R2 at *
      generalize witR r = FM at *
      go_enter Try.func16, Try.ntmps16
      go_wp2_with fail
      refine HC.out.mono ?_
      rintro e w1 ⟨rfl, hb1⟩
      have H1 : Hid (Below w.heap.size w w1) := hb1
      clear hb1
      go_wp2_with fail
      refine (HOf.out _ H1.out).mono ?_
      rintro e wf ⟨uf, rfl, huf, hbf⟩
      have HF1 : Hid (OwR w1.heap.size wf uf FM ∧ Below w.heap.size w wf) := ⟨huf, H1.out.trans (hbf.mono H1.out.size)⟩
      clear huf hbf H1
      obtain ⟨of, cf, ef, hcf, hgf⟩ := row_val HF1.out.1
      subst ef
      go_wp2_with fail
      refine (HPi.out _ HF1.out.2).mono ?_
      rintro e w2 ⟨va, rfl, H2p⟩
      have HFM : Hid (0 < FM.length → ∃ gf, of = some ⟨gf, 0, none⟩ ∧ gf < w2.heap.size ∧ ∀ k q, FM[k]? = some q → RcAt w2 gf (k * 4) q) := fun h => by
        obtain ⟨gf, e1, _, hlt⟩ := hgf h
        refine ⟨gf, e1, Nat.lt_of_lt_of_le hlt H2p.out.2.size, fun k q hq => ?_⟩
        obtain ⟨hk, he⟩ := List.getElem?_eq_some_iff.1 hq
        obtain ⟨oa', cap', e2, _, hg'⟩ := lsr_own HF1.out.1
        obtain ⟨g', o', e3, _, hat⟩ := hg' h
        injection e2 with e2 _ _
        rw [e1] at e2
        rw [e3] at e2
        injection e2 with e2
        injection e2 with e4 e5 _
        subst e4 e5
        have := hat k hk
        rw [Nat.zero_add, he] at this
        exact this.kept fun j => H2p.out.2.cell (p := ⟨gf, j, none⟩) hlt
      have HBw : Hid (Below w.heap.size w w2) := HF1.out.2.trans (H2p.out.2.mono HF1.out.2.size)
      have HCt : Hid (∀ q, zMa q = true → ∀ v0 W, Below w2.heap.size w2 W → OwS w2.heap.size W v0 [] → Calls Try.prog 42 #[v0, v, va, .agg #[.int .i64 q.x, .int .i64 q.y, .int .i64 q.w, .int .i64 q.h]] W fun e w' => ∃ u, e = .returned u ∧ Hid (CuW w2 W v0.ownBlock (cutL (ann [] l) q) u w')) := fun q hq v0 W h ho => lcut_any l q v0 v va w2 W h (HV.out.1.below HBw.out) H2p.out.1 ho hl HV.out.2 hq
      have HBy : Hid (∀ q u lo W, OwS lo W u (cutL (ann [] l) q) → Calls Try.prog 41 #[u] W fun e w' => ∃ u2, e = .returned u2 ∧ Hid (OwS lo w' u2 (grpL (ann [] l) q) ∧ W.grownBy w' u.ownBlock ∧ u2.ownBlock = u.ownBlock ∧ ∃ M, OwS lo w' u M)) := fun q u lo W h => lbusy_any (cutL (ann [] l) q) u lo W h (Nat.le_trans (cutL_len l q) (by omega))
      have HGL : Hid (∀ q, (grpL (ann [] l) q).length ≤ l.length + 2) := fun q => grp_len l q
      have HI0 : Hid (WiW w2 ((FM.take 0).flatMap (grpL (ann [] l))) (.slice none 0 0) (.slice none 0 0) w2 ∧ ((FM.take 0).flatMap (grpL (ann [] l))).length ≤ 16384) := ⟨⟨OwS.nil _ _, ⟨[], OwS.nil _ _⟩, (fun g h => by cases h), Below.refl _ _⟩, Nat.zero_le _⟩
      clear H2p hgf HOf HF1 HPi HC HV
      generalize hgr : grpL (ann [] l) = grp at *
      clear hgr
      generalize hcl' : cutL (ann [] l) = cu at *
      clear hcl'
      obtain ⟨n, hn⟩ : ∃ n, n = l.length := ⟨_, rfl⟩
      rw [← hn] at hl HGL
      clear hn
      obtain ⟨nf, hnf⟩ : ∃ nf, nf = FM.length := ⟨_, rfl⟩
      have HNf : Hid (nf = FM.length) := hnf
      rw [← hnf] at hfl hcf HFM ⊢
      clear hnf
      go_wp2_with fail
      go_loopw [10, 11, 31] (fun u q i wr => ∃ k : Nat, i = .int .i64 k ∧ k ≤ nf ∧ Hid (WiW w2 ((FM.take k).flatMap grp) u q wr ∧ ((FM.take k).flatMap grp).length ≤ 16384)) (fun _ _ i _ => nf - (intOf i).toNat)
      case atStart => exact ⟨0, rfl, Nat.zero_le _, HI0⟩
      case round =>
        clear HI0
        obtain ⟨k, rfl, hk, HK⟩ := hrel
        by_cases hlt : k < nf
        · have ik : (k : Int) < nf := by omega
          obtain ⟨gf, rfl, hgf, hfat⟩ := HFM.out (by omega)
          have hkF : k < FM.length := by rw [← HNf.out]; exact hlt
          obtain ⟨q, hq⟩ : ∃ q, q = FM[k] := ⟨_, rfl⟩
          have hfq := (hfat k q (by rw [hq]; exact List.getElem?_eq_getElem hkF)).kept (w' := wr) fun j => HK.out.1.fb.cell (p := ⟨gf, j, none⟩) hgf
          have HTk : Hid ((FM.take (k + 1)).flatMap grp = (FM.take k).flatMap grp ++ grp q) := by
            unfold Hid
            rw [← List.take_append_getElem hkF, List.flatMap_append, List.flatMap_singleton, hq]
          have HTi : Hid ((FM.flatMap grp) = (FM.take (k + 1)).flatMap grp ++ (FM.drop (k + 1)).flatMap grp) := by
            unfold Hid
            rw [← List.flatMap_append, List.take_append_drop]
          have HQm : Hid (zMa q = true) := HMy.out q (by rw [hq]; exact List.getElem_mem hkF)
          obtain ⟨PV, hPV⟩ : ∃ PV, PV = (FM.take k).flatMap grp := ⟨_, rfl⟩
          rw [← hPV] at HK HTk
          clear hPV hq hfat
          have hgw : gf < wr.heap.size := Nat.lt_of_lt_of_le hgf HK.out.1.fb.size
          obtain ⟨v0, v1, v2, v3⟩ := hfq
          obtain ⟨bx, hbx⟩ : ∃ bx, bx = wr.heap.size := ⟨_, rfl⟩
          have HB1 : Hid (Bk (wr.alloc (.cells #[.int .i64 q.x, .int .i64 q.y, .int .i64 q.w, .int .i64 q.h] 27)) bx #[.int .i64 q.x, .int .i64 q.y, .int .i64 q.w, .int .i64 q.h] 27 ∧ WiW w2 PV u10 u11 (wr.alloc (.cells #[.int .i64 q.x, .int .i64 q.y, .int .i64 q.w, .int .i64 q.h] 27))) := ⟨by rw [hbx]; exact Bk.new _ _ _, HK.out.1.below ((Below.refl _ _).alloc (Nat.le_refl _) _)⟩
          have HPl : Hid (PV.length ≤ 16384) := HK.out.2
          clear HK
          go_upto_region 12 with fail
          rw [← hbx]
          clear hbx v0 v1 v2 v3
          generalize wr.alloc (.cells #[.int .i64 q.x, .int .i64 q.y, .int .i64 q.w, .int .i64 q.h] 27) = w3 at *
          obtain ⟨c0, c1, c2, c3⟩ := HB1.out.1.at4
          go_cut [11] from 32 to 48 (fun s11 wx => Hid (OwS w2.heap.size wx s11 (cu q) ∧ OwS w2.heap.size wx u10 PV ∧ Apt u10 s11 ∧ Below w2.heap.size w2 wx))
          case first =>
            have HCc : Hid (∀ v0, OwS w2.heap.size w3 v0 [] → Apt u10 v0 → ∀ W, Below w3.heap.size w3 W → Calls Try.prog 42 #[v0, v, va, .agg #[.int .i64 q.x, .int .i64 q.y, .int .i64 q.w, .int .i64 q.h]] W fun e w' => ∃ u, e = .returned u ∧ Hid (OwS w2.heap.size w' u (cu q) ∧ OwS w2.heap.size w' u10 PV ∧ Apt u10 u ∧ Below w2.heap.size w2 w')) := fun v0 h ha W hb =>
              (HCt.out q HQm.out v0 W (HB1.out.2.fb.trans (hb.mono HB1.out.2.fb.size)) (h.below hb)).mono fun e w' ⟨u, he, hc⟩ => by
                obtain ⟨a1, a2⟩ := wi_cut (HB1.out.2.ft.below hb) ha hc.out
                exact ⟨u, he, hc.out.fo, a1, a2, hc.out.fb⟩
            obtain ⟨M, hM⟩ := HB1.out.2.fi
            rcases id hM with ⟨_, ⟨hh, _⟩ | ⟨g', cap', cur, hh, _⟩⟩
            · have HCd := HCc.out (.slice none 0 0) (OwS.nil _ _) (fun g _ h => by cases h)
              clear hM
              subst hh
              clear HCt HBy HTk HTi HCc ki kz0 kz1 kz2 HFM
              go_region_with (go_at_call 42; refine (HCd _ (by repeat (first | exact Below.refl _ _ | refine Below.drew ?_))).mono ?_; rintro e w4 ⟨u, rfl, H4⟩)
              all_goals (go_wp2_with fail; go_meet; exact H4)
            · subst hh
              have hM0 : OwS w2.heap.size w3 (.slice (some ⟨g', 0, none⟩) 0 cap') [] := by
                have h := own_cutN hM (m := 0) (Nat.zero_le _)
                unfold OwS
                simpa [flatZ] using h
              have HCd := HCc.out (.slice (some ⟨g', 0, none⟩) 0 cap') hM0 (fun g hg h => HB1.out.2.fa g hg h)
              generalize M.length = ml at *
              clear hM hM0
              clear HCt HBy HTk HTi HCc ki kz0 kz1 kz2 HFM
              go_region_with (go_at_call 42; refine (HCd _ (by repeat (first | exact Below.refl _ _ | refine Below.drew ?_))).mono ?_; rintro e w4 ⟨u, rfl, H4⟩)
              all_goals (go_wp2_with fail; go_meet; exact H4)
          case rest =>
            have H4 := hcut
            clear hcut HB1 c0 c1 c2 c3 HCt
            generalize wc = w4 at *
            generalize u11 = ui at *
            go_wp2_with fail
            refine (HBy.out q _ _ _ H4.out.1).mono ?_
            rintro e w5 ⟨ub, rfl, H5b⟩
            have H5 : Hid (OwS w2.heap.size w5 ub (grp q) ∧ OwS w2.heap.size w5 u10 PV ∧ Apt u10 ui ∧ (∃ M, OwS w2.heap.size w5 ui M) ∧ Below w2.heap.size w2 w5 ∧ NoNil ub ∧ w2.heap.size ≤ w5.heap.size) := by
              obtain ⟨a1, a2, a3, a4⟩ := H4.out
              obtain ⟨b1, b2, b3, b4⟩ := H5b.out
              have h5 : Below w2.heap.size w2 w5 := a4.grown b2 a4.size (fun g hg => (row_lt a1 g hg).1)
              exact ⟨b1, a2.far b2 (fun g hg h => a3 g hg h), a3, b4, h5, ows_nonil b1, h5.size⟩
            clear H4 H5b HBy
            have hgq := HGL.out q
            have hpl := HPl.out
            have hsum : Hid (PV.length + (grp q).length ≤ 100000) := by unfold Hid; omega
            go_wp2_with (at_builtin; refine app_lieS rfl _ _ rfl j0 Try.underlying36 ki kz0 kz1 kz2 w2.heap.size u10 PV rfl H5.out.2.1 H5.out.2.2.2.2.2.2 (grp q) ub rfl H5.out.1.lss H5.out.2.2.2.2.2.1 hsum.out ?_)
            intro v8 w8 H8
            have H9 : Hid (WiW w2 ((FM.take (k + 1)).flatMap grp) v8 ui w8 ∧ ((FM.take (k + 1)).flatMap grp).length = PV.length + (grp q).length) := by
              obtain ⟨a1, a2, a3, ⟨M, a4⟩, a5, a6, a7⟩ := H5.out
              obtain ⟨b1, b2, b3⟩ := H8.out
              rw [HTk.out]
              refine ⟨⟨b1, ⟨M, a4.far b2 (fun g hg h => a3 g h hg)⟩, fun g hg h => ?_, a5.grown b2 a7 (fun g hg => (row_lt a2 g hg).1)⟩, List.length_append⟩
              rcases b3 with b3 | b3
              · rw [b3] at hg
                exact a3 g hg h
              · have := b3 g hg
                have := (row_lt a4 g h).2
                omega
            obtain ⟨o8, c8, e8, hc8, _⟩ := row_val H9.out.1.ft
            rw [H9.out.2] at e8 hc8
            subst e8
            clear H8 H5 ki kz0 kz1 kz2 HTk
            generalize hnp : PV.length + (grp q).length = np at *
            by_cases hbig : 16384 < np
            · have hbig' : (16384 : Int) < (np : Int) := by omega
              have HEE : Hid (R2 = 4 ∧ R1 = []) := by
                refine HE.out.1 ?_
                rw [HWf.out, HTi.out, List.length_append, H9.out.2]
                omega
              have HFin : Hid (Below w.heap.size w w8) := HBw.out.trans (H9.out.1.fb.mono HBw.out.size)
              clear H9
              go_wp2
              go_ret2
              refine ⟨.slice none 0 0, ?_, ?_⟩
              · rw [HEE.out.1]
                rfl
              · rw [HEE.out.2]
                exact ⟨OwS.nil _ _, HFin.out⟩
            · have hbig' : ¬ (16384 : Int) < (np : Int) := by omega
              have HRel : Hid (WiW w2 ((FM.take (k + 1)).flatMap grp) (.slice o8 np c8) ui w8 ∧ ((FM.take (k + 1)).flatMap grp).length ≤ 16384) := ⟨H9.out.1, by rw [H9.out.2]; omega⟩
              clear H9
              go_wp2
              go_roundw
              case rel =>
                first
                  | exact ⟨k + 1, by go_num, by omega, HRel⟩
                  | exact ⟨_, _, _, ⟨k + 1, by go_num, by omega, HRel⟩, rfl⟩
                  | trace_state
              case measure => simp [intOf]; omega
        · obtain rfl : k = nf := by omega
          have HF : Hid (OwS w.heap.size wr u10 R1 ∧ Below w.heap.size w wr ∧ R2 = 0) := by
            obtain ⟨⟨a1, -, -, a3⟩, a2⟩ := HK.out
            rw [HNf.out, List.take_length] at a1 a2
            obtain ⟨e1, e2⟩ := HE.out.2 (by rw [HWf.out]; omega)
            rw [e2, HWf.out]
            exact ⟨a1.weaken HBw.out.size, HBw.out.trans (a3.mono HBw.out.size), e1⟩
          clear HK
          go_wp2
          go_ret2
          refine ⟨u10, ?_, HF.out.1, HF.out.2.1⟩
          rw [HF.out.2.2]
          rfl

theorem l_within : LWithin := fun l r v vr w hv hr hw hri _ => lwithin_any l r v vr w hv hr hw.txs hw.xys (fun s hs => (hw s hs).2.2.1.2.2.2.1) hri

end Go.Proofs.Ytbghjmkgicdnoaa

/-
  Contracts of package list: Bound.
-/
namespace Go.Proofs.Ytbghjmkgicdnoaa
open Go.RowKit

theorem plA_flat (A : List (St × Rc)) : (A.map fun p => plc p.1 p.2).flatten = plA A := by
  unfold plA
  rw [List.flatMap_def]
theorem plc_may (s : St) (r : Rc) : ∀ x ∈ plc s r, zMa x = true := by
  intro x hx
  have h := plc_ne s r x hx
  unfold zEm at h
  exact may_of h

set_option maxRecDepth 20000 in
set_option maxHeartbeats 8000000 in
theorem lbound_any (l : List St) (v : Value) (w : World) (hv : LsS w v l) (ht : Txs l) (hxy : Xys l) (hca : ∀ s ∈ l, 0 ≤ s.c.a) :
    Calls Try.prog 13 #[v] w fun e w' => Ans w (bouL l) (bouE l) e w' := by
  have HC : Hid (Calls Try.prog 10 #[v] w fun e w' => e = .returned (.int .i64 (chkS l)) ∧ Below w.heap.size w w') := lcheck_any l v w hv ht hxy
  unfold Ans
  by_cases h0 : chkS l = 0
  case neg =>
    have e1 : bouL l = [] := by unfold bouL; rw [if_neg h0]
    have e2 : bouE l = chkS l := by unfold bouE; rw [if_neg h0]
    rw [e1, e2]
    have hne : (chkS l != 0) = true := by simp [h0]
    clear h0 hv ht hxy hca e1 e2
    generalize chkS l = ce at *
    go_enter Try.func13, Try.ntmps13
    go_wp2_with fail
    refine HC.out.mono ?_
    rintro e w1 ⟨rfl, hb⟩
    have H1 : Hid (Below w.heap.size w w1) := hb
    clear hb
    go_wp2
    go_ret2
    exact ⟨_, rfl, World.ownsRow_nil _ _ _ _, H1.out⟩
  case pos =>
    obtain ⟨hl, hcl⟩ := chkS_zero h0
    have e1 : bouL l = ansL (lisE (plA (ann [] l))) (formF false (plA (ann [] l)) []) := by unfold bouL; rw [if_pos h0]
    have e2 : bouE l = ansE (lisE (plA (ann [] l))) (formF false (plA (ann [] l)) []) := by unfold bouE; rw [if_pos h0]
    rw [e1, e2]
    rw [h0] at HC
    have HP : Hid (∀ W, Below w.heap.size w W → Calls Try.prog 38 #[v] W fun e w' => ∃ u, e = .returned u ∧ Hid (RowsR w' u ((ann [] l).map fun p => plc p.1 p.2) ∧ Below W.heap.size W w')) := fun W h => lpieces_any l v W (hv.below h) hl hcl hca
    have hpl := plA_len (ann [] l)
    rw [ann_len] at hpl
    have HCo : Hid (∀ u W, RowsR W u ((ann [] l).map fun p => plc p.1 p.2) → Calls Try.prog 37 #[u] W fun e w' => ∃ u, e = .returned u ∧ Hid (OwR W.heap.size w' u (plA (ann [] l)) ∧ Below W.heap.size W w')) := fun u W h => by
      refine (concR_any _ u W h (by rw [List.length_map, ann_len]; omega) (by rw [plA_flat]; omega)).mono ?_
      rintro e w' ⟨u', rfl, h1, h2⟩
      rw [plA_flat] at h1
      exact ⟨u', rfl, h1, h2⟩
    have hI : I64s (plA (ann [] l)) := fun x hx => by
      unfold plA at hx
      obtain ⟨p, hp, hx⟩ := List.mem_flatMap.1 hx
      have h := plc_ne p.1 p.2 x hx
      have hb := bounds_of h
      exact ⟨i64_near ⟨hb.1, hb.2.1⟩, i64_near ⟨hb.2.2.1, hb.2.2.2.1⟩⟩
    have HOf : Hid (∀ u W, LsR W u (plA (ann [] l)) → Calls Try.prog 36 #[u] W fun e w' => Ans W (ansL (lisE (plA (ann [] l))) (formF false (plA (ann [] l)) [])) (ansE (lisE (plA (ann [] l))) (formF false (plA (ann [] l)) [])) e w') := fun u W h => of_any _ u W h hI
    generalize ansL (lisE (plA (ann [] l))) (formF false (plA (ann [] l)) []) = RL at *
    generalize ansE (lisE (plA (ann [] l))) (formF false (plA (ann [] l)) []) = RE at *
    generalize plA (ann [] l) = PL at *
    generalize (ann [] l).map (fun p => plc p.1 p.2) = PP at *
    clear h0 hv ht hxy hca e1 e2 hcl hI hpl
    go_enter Try.func13, Try.ntmps13
    go_wp2_with fail
    refine HC.out.mono ?_
    rintro e w1 ⟨rfl, hb1⟩
    have H1 : Hid (Below w.heap.size w w1) := hb1
    clear hb1
    go_wp2_with fail
    refine (HP.out _ H1.out).mono ?_
    rintro e w2 ⟨u2, rfl, h2⟩
    have H2 : Hid (RowsR w2 u2 PP ∧ Below w.heap.size w w2) := ⟨h2.out.1, H1.out.trans (h2.out.2.mono H1.out.size)⟩
    clear h2
    go_wp2_with fail
    refine (HCo.out u2 w2 H2.out.1).mono ?_
    rintro e w3 ⟨u3, rfl, h3⟩
    have H3 : Hid (LsR w3 u3 PL ∧ Below w.heap.size w w3) := ⟨lsr_own h3.out.1, H2.out.2.trans (h3.out.2.mono H2.out.2.size)⟩
    clear h3
    go_wp2_with fail
    refine (HOf.out u3 w3 H3.out.1).mono ?_
    rintro e w4 ⟨u4, rfl, h4, hb4⟩
    have HF : Hid (w4.ownsRow w.heap.size 27 4 u4 RL.length (flat RL) ∧ Below w.heap.size w w4) := ⟨row_weaken h4 H3.out.2.size, H3.out.2.trans (hb4.mono H3.out.2.size)⟩
    clear h4 hb4
    go_wp2
    go_ret2
    exact ⟨_, rfl, HF.out⟩

end Go.Proofs.Ytbghjmkgicdnoaa

/-
  Contracts of package list: covers, and the closures of visible.
-/
namespace Go.Proofs.Ytbghjmkgicdnoaa
open Go.RowKit

theorem zma_sum {a : Rc} (h : zMa a = true) : (-9223372036854775808 ≤ a.x + a.w ∧ a.x + a.w ≤ 9223372036854775807) ∧ (-9223372036854775808 ≤ a.y + a.h ∧ a.y + a.h ≤ 9223372036854775807) := by
  unfold zMa at h
  rw [may_iff] at h
  omega

set_option maxRecDepth 10000 in
set_option maxHeartbeats 4000000 in
theorem covers_any (a b : Rc) (w : World) (ha : zMa a = true) (hb : zMa b = true) :
    Calls Try.prog 67 #[.agg #[.int .i64 a.x, .int .i64 a.y, .int .i64 a.w, .int .i64 a.h], .agg #[.int .i64 b.x, .int .i64 b.y, .int .i64 b.w, .int .i64 b.h]] w fun e w' => e = .returned (.bool (covB a b)) ∧ Below w.heap.size w w' := by
  obtain ⟨⟨s1, s2⟩, s3, s4⟩ := zma_sum ha
  obtain ⟨⟨t1, t2⟩, t3, t4⟩ := zma_sum hb
  unfold covB
  obtain ⟨ax, ay, aw, ah⟩ := a
  obtain ⟨bx, yb, bw, bh⟩ := b
  simp only at *
  have HB : Hid (∀ o o' : Obj, Below w.heap.size w ((w.alloc o).alloc o')) := fun o o' => ((Below.refl _ _).alloc (Nat.le_refl _) _).alloc (by simp) _
  clear ha hb
  by_cases h1 : ax ≤ bx
  · rw [decide_eq_true h1]
    by_cases h2 : ay ≤ yb
    · rw [decide_eq_true h2]
      by_cases h3 : bx + bw ≤ ax + aw
      · rw [decide_eq_true h3]
        go_enter Try.func67, Try.ntmps67
        go_wp2
        go_ret
        exact ⟨by simp, HB.out _ _⟩
      · rw [decide_eq_false h3]
        go_enter Try.func67, Try.ntmps67
        go_wp2
        go_ret
        exact ⟨by simp, HB.out _ _⟩
    · rw [decide_eq_false h2]
      go_enter Try.func67, Try.ntmps67
      go_wp2
      go_ret
      exact ⟨by simp, HB.out _ _⟩
  · rw [decide_eq_false h1]
    go_enter Try.func67, Try.ntmps67
    go_wp2
    go_ret
    exact ⟨by simp, HB.out _ _⟩

set_option maxRecDepth 10000 in
set_option maxHeartbeats 2000000 in
theorem vis1_any (x q : Rc) (bx : Nat) (W : World) (h : Bk W bx #[.int .i64 q.x, .int .i64 q.y, .int .i64 q.w, .int .i64 q.h] 27) (hx : zMa x = true) (hq : zMa q = true) :
    Calls Try.prog 66 #[.agg #[.int .i64 x.x, .int .i64 x.y, .int .i64 x.w, .int .i64 x.h], .pointer (some ⟨bx, 0, none⟩)] W fun e w' => e = .returned (.bool (covB x q)) ∧ Below W.heap.size W w' := by
  have HO : Hid (∀ w, Calls Try.prog 67 #[.agg #[.int .i64 x.x, .int .i64 x.y, .int .i64 x.w, .int .i64 x.h], .agg #[.int .i64 q.x, .int .i64 q.y, .int .i64 q.w, .int .i64 q.h]] w fun e w' => e = .returned (.bool (covB x q)) ∧ Below w.heap.size w w') := fun w => covers_any x q w hx hq
  obtain ⟨c0, c1, c2, c3⟩ := h.at4
  have hlt := h.lt
  clear h hx hq
  generalize covB x q = ov at *
  go_enter Try.func66, Try.ntmps66
  go_wp2_with fail
  refine (HO.out _).mono ?_
  rintro e w1 ⟨rfl, hb1⟩
  have HB : Hid (Below W.heap.size W w1) := by
    have h2 : Below W.heap.size W (W.alloc (.cells #[.int .i64 x.x, .int .i64 x.y, .int .i64 x.w, .int .i64 x.h] 27)) := (Below.refl _ W).alloc (Nat.le_refl _) _
    exact h2.trans (hb1.mono h2.size)
  clear hb1
  go_wp2
  go_ret
  exact ⟨rfl, HB.out⟩

set_option maxRecDepth 10000 in
set_option maxHeartbeats 2000000 in
theorem vis2_any (x q : Rc) (bx : Nat) (W : World) (h : Bk W bx #[.int .i64 q.x, .int .i64 q.y, .int .i64 q.w, .int .i64 q.h] 27) (hx : zMa x = true) (hq : zMa q = true) :
    Calls Try.prog 68 #[.agg #[.int .i64 x.x, .int .i64 x.y, .int .i64 x.w, .int .i64 x.h], .pointer (some ⟨bx, 0, none⟩)] W fun e w' => e = .returned (.bool (covB q x)) ∧ Below W.heap.size W w' := by
  have HO : Hid (∀ w, Calls Try.prog 67 #[.agg #[.int .i64 q.x, .int .i64 q.y, .int .i64 q.w, .int .i64 q.h], .agg #[.int .i64 x.x, .int .i64 x.y, .int .i64 x.w, .int .i64 x.h]] w fun e w' => e = .returned (.bool (covB q x)) ∧ Below w.heap.size w w') := fun w => covers_any q x w hq hx
  obtain ⟨c0, c1, c2, c3⟩ := h.at4
  have hlt := h.lt
  clear h hx hq
  generalize covB q x = ov at *
  go_enter Try.func68, Try.ntmps68
  go_wp2_with fail
  refine (HO.out _).mono ?_
  rintro e w1 ⟨rfl, hb1⟩
  have HB : Hid (Below W.heap.size W w1) := by
    have h2 : Below W.heap.size W (W.alloc (.cells #[.int .i64 x.x, .int .i64 x.y, .int .i64 x.w, .int .i64 x.h] 27)) := (Below.refl _ W).alloc (Nat.le_refl _) _
    exact h2.trans (hb1.mono h2.size)
  clear hb1
  go_wp2
  go_ret
  exact ⟨rfl, HB.out⟩
theorem vis1_enters : ∀ args w, (callFunc 66 args).run Try.prog w = .ok (.enter 66 args) w := enters_of Try.func66 (by kernel_rfl) rfl
theorem vis2_enters : ∀ args w, (callFunc 68 args).run Try.prog w = .ok (.enter 68 args) w := enters_of Try.func68 (by kernel_rfl) rfl
theorem viss_any (L : List Rc) (v : Value) (q : Rc) (bx : Nat) (w : World) (hv : LsR w v L) (h : Bk w bx #[.int .i64 q.x, .int .i64 q.y, .int .i64 q.w, .int .i64 q.h] 27) (hL : ∀ x ∈ L, zMa x = true) (hq : zMa q = true) (hl : L.length < 1000000) :
    Calls Try.prog 53 #[v, .func (.func 66) #[] #[.pointer (some ⟨bx, 0, none⟩)]] w fun e w' => e = .returned (.bool (L.any fun f => covB f q)) ∧ Below w.heap.size w w' :=
  contains_fn 66 #[.pointer (some ⟨bx, 0, none⟩)] (fun f => covB f q) L v w hv vis1_enters (fun x hx W hW => by
    have := vis1_any x q bx W (h.below hW) (hL x hx) hq
    simpa using this) hl
theorem visd_any (L : List Rc) (v : Value) (q : Rc) (bx lo : Nat) (w : World) (hv : OwR lo w v L) (h : Bk w bx #[.int .i64 q.x, .int .i64 q.y, .int .i64 q.w, .int .i64 q.h] 27) (hn : v.ownBlock ≠ some bx) (hL : ∀ x ∈ L, zMa x = true) (hq : zMa q = true) (hl : L.length < 1000000) :
    Calls Try.prog 62 #[v, .func (.func 68) #[] #[.pointer (some ⟨bx, 0, none⟩)]] w fun e w' => ∃ u, e = .returned u ∧ Hid (OwR lo w' u (L.filter fun f => !covB q f) ∧ w.grownBy w' v.ownBlock ∧ u.ownBlock = v.ownBlock) :=
  delete_fn 68 #[.pointer (some ⟨bx, 0, none⟩)] (fun f => covB q f) L v lo w hv vis2_enters (fun x hx W hW => by
    have := vis2_any x q bx W (Bk.grown h hW hn) (hL x hx) hq
    simpa using this) hl

end Go.Proofs.Ytbghjmkgicdnoaa
