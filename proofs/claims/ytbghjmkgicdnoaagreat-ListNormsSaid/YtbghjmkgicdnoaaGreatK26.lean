/-
  Contracts of the document's answer for layer 13: Within.
-/
import Derived.Test.YtbghjmkgicdnoaaGreatK24
import Derived.Test.YtbghjmkgicdnoaaGreatK19
import Derived.Test.YtbghjmkgicdnoaaGreatK25
namespace Go.Proofs.YtbghjmkgicdnoaaGreat
open Go.RowKit

def witR (r : List Rc) : List Rc := ansL (lisE r) (formF false r [])
def witF (r : List Rc) : Int := ansE (lisE r) (formF false r [])
def witE (l : List St) (r : List Rc) : Int := if chkS l = 0 then (if witF r = 0 then (if 16384 < (witA l (witR r)).length then 4 else 0) else witF r) else chkS l
def witG (l : List St) (r : List Rc) : List St := if witE l r = 0 then witA l (witR r) else []
theorem witR_len (r : List Rc) : (witR r).length ≤ 1024 := by
  unfold witR ansL
  split
  · next h => exact h.2
  · simp
theorem own_oneS {lo : Nat} {W : World} {b : Nat} {s : St} (h : Bk W b (#[.int .u8 s.k, .int .i64 s.r.x, .int .i64 s.r.y, .int .i64 s.r.w, .int .i64 s.r.h, .int .u8 s.c.r, .int .u8 s.c.g, .int .u8 s.c.b, .int .u8 s.c.a, .int .u8 s.b.r, .int .u8 s.b.g, .int .u8 s.b.b, .int .u8 s.b.a, .string s.t, .int .i64 s.n]) 48) (hb : lo ≤ b) : OwS lo W (.slice (some ⟨b, 0, none⟩) 1 1) [s] :=
  ⟨rfl, .inr ⟨b, 1, _, rfl, hb, h, Nat.le_refl _, by unfold maxLen; omega, by simp, rfl⟩⟩
theorem witP_yes {q : Rc} {p : St × Rc} (h : drw p.1 = false) : witP q p = true := by unfold witP; rw [h]; rfl
theorem witP_ov {q : Rc} {p : St × Rc} (h : drw p.1 = true) : witP q p = (plc p.1 p.2).any fun a => zOv a q := by unfold witP; rw [h]; rfl

def JZK (wr : World) (g oo g1 gf n nf k m cap cp cf : Nat) (sx : St) (sr q : Rc) (ov : Bool) (b : Nat → Bool) (u46 u47 u48 u49 u50 u51 u52 u53 u54 u55 u56 u57 u58 u59 u60 u61 u62 u63 u64 u65 u66 u67 : Value) (x : World) : Prop :=
  (b 0 = true → u46 = .slice (some ⟨g, oo, none⟩) n cap) ∧
  (b 1 = true → u47 = .int .i64 (m : Nat)) ∧
  (b 2 = true → u48 = .pointer (some ⟨g, oo + m * 15, none⟩)) ∧
  (b 3 = true → u49 = (Value.agg #[.int .u8 sx.k, .int .i64 sx.r.x, .int .i64 sx.r.y, .int .i64 sx.r.w, .int .i64 sx.r.h, .int .u8 sx.c.r, .int .u8 sx.c.g, .int .u8 sx.c.b, .int .u8 sx.c.a, .int .u8 sx.b.r, .int .u8 sx.b.g, .int .u8 sx.b.b, .int .u8 sx.b.a, .string sx.t, .int .i64 sx.n])) ∧
  (b 4 = true → u50 = .bool true) ∧
  (b 5 = true → u51 = .bool false) ∧
  (b 6 = true → u52 = .bool false) ∧
  (b 7 = true → u53 = .slice (some ⟨g, oo, none⟩) n cap) ∧
  (b 8 = true → u54 = .int .i64 (m : Nat)) ∧
  (b 9 = true → u55 = .pointer (some ⟨g, oo + m * 15, none⟩)) ∧
  (b 10 = true → u56 = (Value.agg #[.int .u8 sx.k, .int .i64 sx.r.x, .int .i64 sx.r.y, .int .i64 sx.r.w, .int .i64 sx.r.h, .int .u8 sx.c.r, .int .u8 sx.c.g, .int .u8 sx.c.b, .int .u8 sx.c.a, .int .u8 sx.b.r, .int .u8 sx.b.g, .int .u8 sx.b.b, .int .u8 sx.b.a, .string sx.t, .int .i64 sx.n])) ∧
  (b 11 = true → u57 = .slice (some ⟨g1, 0, none⟩) n cp) ∧
  (b 12 = true → u58 = .int .i64 (m : Nat)) ∧
  (b 13 = true → u59 = .pointer (some ⟨g1, m * 4, none⟩)) ∧
  (b 14 = true → u60 = .agg #[.int .i64 sr.x, .int .i64 sr.y, .int .i64 sr.w, .int .i64 sr.h]) ∧
  (b 15 = true → LsR x u61 (plc sx sr)) ∧
  (b 16 = true → u62 = .slice (some ⟨gf, 0, none⟩) nf cf) ∧
  (b 17 = true → u63 = .int .i64 (k : Nat)) ∧
  (b 18 = true → u64 = .pointer (some ⟨gf, k * 4, none⟩)) ∧
  (b 19 = true → u65 = .agg #[.int .i64 q.x, .int .i64 q.y, .int .i64 q.w, .int .i64 q.h]) ∧
  (b 20 = true → u66 = .bool ov) ∧
  (b 21 = true → u67 = .bool ov) ∧
  Below wr.heap.size wr x
theorem JZK.grow {wr : World} {g oo g1 gf n nf k m cap cp cf : Nat} {sx : St} {sr q : Rc} {ov : Bool} {b : Nat → Bool} {u46 u47 u48 u49 u50 u51 u52 u53 u54 u55 u56 u57 u58 u59 u60 u61 u62 u63 u64 u65 u66 u67 : Value} {x x' : World} (h : JZK wr g oo g1 gf n nf k m cap cp cf sx sr q ov b u46 u47 u48 u49 u50 u51 u52 u53 u54 u55 u56 u57 u58 u59 u60 u61 u62 u63 u64 u65 u66 u67 x) (hb : Below x.heap.size x x') : JZK wr g oo g1 gf n nf k m cap cp cf sx sr q ov b u46 u47 u48 u49 u50 u51 u52 u53 u54 u55 u56 u57 u58 u59 u60 u61 u62 u63 u64 u65 u66 u67 x' := by
  obtain ⟨j0, j1, j2, j3, j4, j5, j6, j7, j8, j9, j10, j11, j12, j13, j14, j15, j16, j17, j18, j19, j20, j21, e0⟩ := h
  exact ⟨j0, j1, j2, j3, j4, j5, j6, j7, j8, j9, j10, j11, j12, j13, j14, (fun h => (j15 h).below hb), j16, j17, j18, j19, j20, j21, e0.trans (hb.mono e0.size)⟩

set_option maxRecDepth 20000 in
set_option maxHeartbeats 16000000 in
theorem zwithin_any (l : List St) (r : List Rc) (v vr : Value) (w : World) (hv : LsS w v l) (hr : LsR w vr r) (ht : Txs l) :
    Calls Tryz.prog 21 #[v, vr] w fun e w' => AnsS w (witG l r) (witE l r) e w' := by
  have HC : Hid (Calls Tryz.prog 12 #[v] w fun e w' => e = .returned (.int .i64 (chkS l)) ∧ Below w.heap.size w w') := zcheck_any l v w hv ht
  unfold AnsS
  by_cases h0 : chkS l = 0
  case neg =>
    have HE : Hid (witG l r = [] ∧ witE l r = chkS l) := by
      have h : witE l r = chkS l := by unfold witE; rw [if_neg h0]
      exact ⟨by unfold witG; rw [if_neg (by rw [h]; exact h0)], h⟩
    rw [HE.out.1, HE.out.2]
    have hne : (chkS l != 0) = true := by simp [h0]
    clear h0 hv ht HE hr
    generalize chkS l = ce at *
    go_enter Tryz.func21, Tryz.ntmps21
    go_wp2_with fail
    refine HC.out.mono ?_
    rintro e w1 ⟨rfl, hb⟩
    have H1 : Hid (Below w.heap.size w w1) := hb
    clear hb
    go_wp2
    go_ret2
    exact ⟨_, rfl, OwS.nil _ _, H1.out⟩
  case pos =>
    obtain ⟨hl, hcl⟩ := chkS_zero h0
    have HOf : Hid (∀ W, Below w.heap.size w W → Calls Tryz.prog 30 #[vr] W fun e w' => Ans W (witR r) (witF r) e w') := fun W h => dof_any r vr W (hr.below h)
    rw [h0] at HC
    by_cases h1 : witF r = 0
    case neg =>
      have HE : Hid (witG l r = [] ∧ witE l r = witF r) := by
        have h : witE l r = witF r := by unfold witE; rw [if_pos h0, if_neg h1]
        exact ⟨by unfold witG; rw [if_neg (by rw [h]; exact h1)], h⟩
      rw [HE.out.1, HE.out.2]
      have hne : (witF r != 0) = true := by simp [h1]
      clear h0 hv ht HE hr h1
      generalize witF r = ce at *
      generalize witR r = wl at *
      go_enter Tryz.func21, Tryz.ntmps21
      go_wp2_with fail
      refine HC.out.mono ?_
      rintro e w1 ⟨rfl, hb⟩
      have H1 : Hid (Below w.heap.size w w1) := hb
      clear hb
      go_wp2_with fail
      refine (HOf.out _ H1.out).mono ?_
      rintro e w2 ⟨u, rfl, hu, hb2⟩
      have H2 : Hid (Below w.heap.size w w2) := H1.out.trans (hb2.mono H1.out.size)
      clear hu hb2
      go_wp2
      go_ret2
      exact ⟨_, rfl, OwS.nil _ _, H2.out⟩
    case pos =>
      have HE : Hid ((16384 < (witA l (witR r)).length → witE l r = 4 ∧ witG l r = []) ∧ (¬ 16384 < (witA l (witR r)).length → witE l r = 0 ∧ witG l r = witA l (witR r))) := by
        refine ⟨fun h => ?_, fun h => ?_⟩
        · have e : witE l r = 4 := by unfold witE; rw [if_pos h0, if_pos h1, if_pos h]
          exact ⟨e, by unfold witG; rw [if_neg (by rw [e]; decide)]⟩
        · have e : witE l r = 0 := by unfold witE; rw [if_pos h0, if_pos h1, if_neg h]
          exact ⟨e, by unfold witG; rw [if_pos e]⟩
      have HSh : Hid (∀ W, Below w.heap.size w W → Calls Tryz.prog 24 #[v] W fun e w' => ∃ u, e = .returned u ∧ OwR W.heap.size w' u ((ann [] l).map Prod.snd) ∧ Below W.heap.size W w') := fun W h => zshown_any l v W (hv.below h) hl hcl
      have HWA : Hid (∀ k, witA l ((witR r).take k) = ((witR r).take k).flatMap (grpL (ann [] l))) := fun k => rfl
      have HWf : Hid (witA l (witR r) = (witR r).flatMap (grpL (ann [] l))) := rfl
      have hfl := witR_len r
      rw [h1] at HOf
      clear h0 h1 hr
      obtain ⟨oa, cap, rfl, hc, hg⟩ := hv
      have HG : Hid (0 < l.length → ∃ g o, oa = some ⟨g, o, none⟩ ∧ g < w.heap.size ∧ ∀ i (h : i < l.length), StAt w g (o + i * 15) l[i]) := hg
      have HCl : Hid (clpE 0 l = 0) := hcl
      obtain ⟨j0, ki, kz0, kz1, kz2⟩ := info_parts info_strokeZ
      have HI : Hid (Tryz.prog.info? 48 = some j0 ∧ j0.zero = some (.agg #[.int .u8 0, .int .i64 0, .int .i64 0, .int .i64 0, .int .i64 0, .int .u8 0, .int .u8 0, .int .u8 0, .int .u8 0, .int .u8 0, .int .u8 0, .int .u8 0, .int .u8 0, .string ByteArray.empty, .int .i64 0]) ∧ j0.size = 15 ∧ j0.bytes = 72) := ⟨ki, kz0, kz1, kz2⟩
      clear hg ht hcl ki kz0 kz1 kz2
      generalize witG l r = R1 at *
      generalize witE l r = R2 at *
      generalize witR r = FM at *
      go_enter Tryz.func21, Tryz.ntmps21
      go_wp2_with fail
      refine HC.out.mono ?_
      rintro e w1 ⟨rfl, hb1⟩
      have H1 : Hid (Below w.heap.size w w1) := hb1
      clear hb1
      go_wp2_with fail
      refine (HOf.out _ H1.out).mono ?_
      rintro e wf ⟨uf, rfl, huf, hbf⟩
      have HF1 : Hid (OwR w1.heap.size wf uf FM ∧ Below w.heap.size w wf) := ⟨huf, H1.out.trans (hbf.mono H1.out.size)⟩
      clear huf hbf H1
      obtain ⟨of, cf, ef, hcf, hgf⟩ := row_val HF1.out.1
      subst ef
      go_wp2_with fail
      refine (HSh.out _ HF1.out.2).mono ?_
      rintro e w2 ⟨us, rfl, hus, hb2⟩
      obtain ⟨os, cp, es, hcp, hgs⟩ := row_val hus
      subst es
      have hAl : ((ann [] l).map Prod.snd).length = l.length := by rw [List.length_map, ann_len]
      rw [hAl] at hcp hgs ⊢
      have H2 : Hid (0 < l.length → ∃ g o g1, oa = some ⟨g, o, none⟩ ∧ os = some ⟨g1, 0, none⟩ ∧ ShL w w2.heap.size w2 l (ann [] l) g o g1) := fun h => by
        obtain ⟨g, o, e1, e2, e3⟩ := HG.out h
        obtain ⟨g1, e4, _, _⟩ := hgs h
        refine ⟨g, o, g1, e1, e4, shl_of (cap := cp) e3 e2 HF1.out.2 hb2 ?_ HCl.out⟩
        rw [hAl, e4] at hus
        exact hus
      have HFM : Hid (0 < FM.length → ∃ gf, of = some ⟨gf, 0, none⟩ ∧ gf < w2.heap.size ∧ ∀ k q, FM[k]? = some q → RcAt w2 gf (k * 4) q) := fun h => by
        obtain ⟨gf, e1, _, hlt⟩ := hgf h
        refine ⟨gf, e1, Nat.lt_of_lt_of_le hlt hb2.size, fun k q hq => ?_⟩
        obtain ⟨hk, he⟩ := List.getElem?_eq_some_iff.1 hq
        obtain ⟨oa', cap', e2, _, hg'⟩ := lsr_own HF1.out.1
        obtain ⟨g', o', e3, _, hat⟩ := hg' h
        injection e2 with e2 _ _
        rw [e1] at e2
        rw [e3] at e2
        injection e2 with e2
        injection e2 with e4 e5 _
        subst e4 e5
        have := hat k hk
        rw [Nat.zero_add, he] at this
        exact this.kept fun j => hb2.cell (p := ⟨gf, j, none⟩) hlt
      have HBw : Hid (Below w.heap.size w w2) := HF1.out.2.trans (hb2.mono HF1.out.2.size)
      obtain ⟨B, hB⟩ : ∃ B, B = w2.heap.size := ⟨_, rfl⟩
      have HB : Hid (B = w2.heap.size) := hB
      rw [← hB] at H2
      have HLen : Hid ((ann [] l).length = l.length) := ann_len l []
      have HGL : Hid (∀ q, (grpL (ann [] l) q).length ≤ l.length + 2) := fun q => grp_len l q
      have HGq : Hid (∀ q, grpL (ann [] l) q = busy (cliS q :: (((ann [] l).filter (witP q)).map Prod.fst ++ [opeS]))) := fun q => rfl
      have HI0 : Hid (OwS B w2 (.slice none 0 0) (((FM.take 0).flatMap (grpL (ann [] l)))) ∧ ((FM.take 0).flatMap (grpL (ann [] l))).length ≤ 16384 ∧ Below B w2 w2) := ⟨OwS.nil _ _, Nat.zero_le _, by rw [hB]; exact Below.refl _ _⟩
      clear hus hb2 hgs hAl hB HG HCl HSh HC hgf HOf HF1
      generalize hgr : grpL (ann [] l) = grp at *
      clear hgr
      generalize ann [] l = A at *
      obtain ⟨n, hn⟩ : ∃ n, n = l.length := ⟨_, rfl⟩
      have HNl : Hid (n = l.length) := hn
      rw [← hn] at hl hc hcp H2 HLen HGL ⊢
      clear hn
      obtain ⟨nf, hnf⟩ : ∃ nf, nf = FM.length := ⟨_, rfl⟩
      have HNf : Hid (nf = FM.length) := hnf
      rw [← hnf] at hfl hcf HFM ⊢
      clear hnf
      go_wp2_with fail
      go_loopw [9, 10] (fun u i wr => ∃ k : Nat, i = .int .i64 k ∧ k ≤ nf ∧ Hid (OwS B wr u ((FM.take k).flatMap grp) ∧ ((FM.take k).flatMap grp).length ≤ 16384 ∧ Below B w2 wr)) (fun _ i _ => nf - (intOf i).toNat)
      case atStart => exact ⟨0, rfl, Nat.zero_le _, HI0⟩
      case round =>
        clear HI0
        obtain ⟨k, rfl, hk, HK⟩ := hrel
        by_cases hlt : k < nf
        · have ik : (k : Int) < nf := by omega
          obtain ⟨gf, rfl, hgf, hfat⟩ := HFM.out (by omega)
          have hkF : k < FM.length := by rw [← HNf.out]; exact hlt
          have hfq := hfat k FM[k] (List.getElem?_eq_getElem hkF)
          have HTk : Hid ((FM.take (k + 1)).flatMap grp = (FM.take k).flatMap grp ++ grp FM[k]) := by
            unfold Hid
            rw [← List.take_append_getElem hkF, List.flatMap_append, List.flatMap_singleton]
          have HTi : Hid ((FM.flatMap grp) = (FM.take (k + 1)).flatMap grp ++ (FM.drop (k + 1)).flatMap grp) := by
            unfold Hid
            rw [← List.flatMap_append, List.take_append_drop]
          generalize FM[k] = q at *
          have HQat : Hid (∀ W, Below B w2 W → RcAt W gf (k * 4) q) := fun W h => hfq.kept fun j => h.cell (p := ⟨gf, j, none⟩) (by rw [HB.out]; exact hgf)
          have hsz : Hid (B ≤ wr.heap.size) := by have := HK.out.2.2.size; unfold Hid; rw [HB.out]; exact this
          obtain ⟨z0, z1, z2, z3⟩ := HQat.out _ HK.out.2.2
          obtain ⟨cb, hcb⟩ : ∃ cb, cb = wr.heap.size := ⟨_, rfl⟩
          have HCB : Hid (cb = wr.heap.size) := hcb
          obtain ⟨W0, hW0⟩ : ∃ W0, W0 = wr.alloc (.cells (#[.int .u8 (cliS q).k, .int .i64 (cliS q).r.x, .int .i64 (cliS q).r.y, .int .i64 (cliS q).r.w, .int .i64 (cliS q).r.h, .int .u8 (cliS q).c.r, .int .u8 (cliS q).c.g, .int .u8 (cliS q).c.b, .int .u8 (cliS q).c.a, .int .u8 (cliS q).b.r, .int .u8 (cliS q).b.g, .int .u8 (cliS q).b.b, .int .u8 (cliS q).b.a, .string (cliS q).t, .int .i64 (cliS q).n]) 48) := ⟨_, rfl⟩
          have H0 : Hid (OwS cb W0 (.slice (some ⟨cb, 0, none⟩) 1 1) [cliS q] ∧ Below wr.heap.size wr W0) := by
            rw [hW0]
            exact ⟨own_oneS (by rw [hcb]; exact Bk.new _ _ _) (Nat.le_refl _), (Below.refl _ _).alloc (Nat.le_refl _) _⟩
          have HJ0 : Hid (OwS cb W0 (.slice (some ⟨cb, 0, none⟩) 1 1) (cliS q :: ((A.take 0).filter (witP q)).map Prod.fst) ∧ Below cb wr W0) := ⟨H0.out.1, by rw [hcb]; exact H0.out.2⟩
          clear hkF hfq hfat hgf H0
          have hW0' : wr.alloc (.cells #[.int .u8 4, .int .i64 q.x, .int .i64 q.y, .int .i64 q.w, .int .i64 q.h, .int .u8 0, .int .u8 0, .int .u8 0, .int .u8 0, .int .u8 0, .int .u8 0, .int .u8 0, .int .u8 0, .string ⟨#[]⟩, .int .i64 0] 48) = W0 := hW0.symm
          have HW0 : Hid (wr.alloc (.cells #[.int .u8 4, .int .i64 q.x, .int .i64 q.y, .int .i64 q.w, .int .i64 q.h, .int .u8 0, .int .u8 0, .int .u8 0, .int .u8 0, .int .u8 0, .int .u8 0, .int .u8 0, .int .u8 0, .string ⟨#[]⟩, .int .i64 0] 48) = W0) := hW0'
          clear hW0 hW0'
          go_wp2_with fail
          rw [HW0.out, ← hcb]
          clear hcb HW0 z0 z1 z2 z3
          generalize hwo : wr = wo at *
          clear hwo
          go_loopw [11, 12] (fun u i wi => ∃ m : Nat, i = .int .i64 m ∧ m ≤ n ∧ Hid (OwS cb wi u (cliS q :: ((A.take m).filter (witP q)).map Prod.fst) ∧ Below cb wo wi)) (fun _ i _ => n - (intOf i).toNat)
          case atStart => exact ⟨0, rfl, Nat.zero_le _, HJ0⟩
          case round =>
            clear HJ0
            obtain ⟨m, rfl, hm, HM⟩ := hrel
            by_cases hml : m < n
            · have im : (m : Int) < n := by omega
              obtain ⟨g, oo, g1, rfl, rfl, hSH⟩ := H2.out (by omega)
              have HSH : Hid (ShL w B w2 l A g oo g1) := hSH
              have hmA : m < A.length := by rw [HLen.out]; exact hml
              obtain ⟨p, hp⟩ : ∃ p, A[m]? = some p := ⟨A[m], List.getElem?_eq_getElem hmA⟩
              have HP : Hid (A[m]? = some p ∧ A.take (m + 1) = A.take m ++ [p] ∧ p ∈ A) := by
                obtain ⟨h1, h2⟩ := List.getElem?_eq_some_iff.1 hp
                exact ⟨hp, by rw [← List.take_append_getElem h1, h2], by rw [← h2]; exact List.getElem_mem h1⟩
              obtain ⟨sx, hx⟩ : ∃ sx, sx = p.1 := ⟨_, rfl⟩
              obtain ⟨sr, hr⟩ : ∃ sr, sr = p.2 := ⟨_, rfl⟩
              have HXR : Hid (sx = p.1 ∧ sr = p.2) := ⟨hx, hr⟩
              have HPL : Hid (∀ W, Calls Tryz.prog 29 #[(Value.agg #[.int .u8 sx.k, .int .i64 sx.r.x, .int .i64 sx.r.y, .int .i64 sx.r.w, .int .i64 sx.r.h, .int .u8 sx.c.r, .int .u8 sx.c.g, .int .u8 sx.c.b, .int .u8 sx.c.a, .int .u8 sx.b.r, .int .u8 sx.b.g, .int .u8 sx.b.b, .int .u8 sx.b.a, .string sx.t, .int .i64 sx.n]), .agg #[.int .i64 sr.x, .int .i64 sr.y, .int .i64 sr.w, .int .i64 sr.h]] W fun e w' => AnsP W (plc sx sr) e w') := fun W => by
                rw [hx, hr]
                have h1 := oneE_zero (hSH.k p HP.out.2.2)
                exact zplaces_any p.1 p.2 W h1.2.1 h1.1
              have HBm : Hid (Below B w2 wr ∧ B ≤ wr.heap.size ∧ cb ≤ wr.heap.size ∧ wo.heap.size ≤ wr.heap.size) := by
                have h := HM.out.2
                rw [HCB.out] at h
                exact ⟨HK.out.2.2.trans (h.mono hsz.out), Nat.le_trans hsz.out h.size, by rw [HCB.out]; exact h.size, h.size⟩
              have HAT : Hid (∀ W, Below B w2 W → (StAt W g (oo + m * 15) sx ∧ RcAt W g1 (m * 4) sr) ∧ RcAt W gf (k * 4) q) := fun W h => ⟨by rw [hx, hr]; exact HSH.out.at HP.out.1 h, HQat.out W h⟩
              have HDr : Hid (∀ W, Calls Tryz.prog 25 #[(Value.agg #[.int .u8 sx.k, .int .i64 sx.r.x, .int .i64 sx.r.y, .int .i64 sx.r.w, .int .i64 sx.r.h, .int .u8 sx.c.r, .int .u8 sx.c.g, .int .u8 sx.c.b, .int .u8 sx.c.a, .int .u8 sx.b.r, .int .u8 sx.b.g, .int .u8 sx.b.b, .int .u8 sx.b.a, .string sx.t, .int .i64 sx.n])] W fun e w' => e = .returned (.bool (drw sx)) ∧ Below W.heap.size W w') := fun W => zdraws_any sx W
              have HOvr : Hid (∀ v W, LsR W v (plc sx sr) → Calls Tryz.prog 39 #[v, .agg #[.int .i64 q.x, .int .i64 q.y, .int .i64 q.w, .int .i64 q.h]] W fun e w' => e = .returned (.bool ((plc sx sr).any fun a => zOv a q)) ∧ Below W.heap.size W w') := fun v W h => zover_any (plc sx sr) q v W h (by have := plc_len sx sr; omega)
              have HWP : Hid ((drw sx = false → witP q p = true) ∧ (drw sx = true → witP q p = (plc sx sr).any fun a => zOv a q)) := by
                rw [hx, hr]
                exact ⟨witP_yes, witP_ov⟩
              obtain ⟨bw, hbw⟩ : ∃ bw, bw = witP q p := ⟨_, rfl⟩
              rw [← hbw] at HWP
              have HBWP : Hid (bw = witP q p) := hbw
              clear hSH hmA hp hx hr hbw
              generalize (plc sx sr).any (fun a => zOv a q) = ov at *
              generalize drw sx = dr at *
              go_upto_region 16 with fail
              have HAX : Hid (∀ W, Below wr.heap.size wr W → (StAt W g (oo + m * 15) sx ∧ RcAt W g1 (m * 4) sr) ∧ RcAt W gf (k * 4) q) := fun W h => HAT.out W (HBm.out.1.trans (h.mono HBm.out.2.1))
              go_cut [67] (fun s67 wx => s67 = .bool bw ∧ Hid (Below wr.heap.size wr wx))
              case first =>
                cases dr with
                | false =>
                  obtain rfl : bw = true := HWP.out.1 (by first | rfl | trivial)
                  have qq := fun t : Gw wr => (HAX.out t.wd t.below).1.1
                  have ne := gw_ne (Below.refl 0 wr)
                  have x0 := fun t : Gw wr => (qq t).1
                  have x1 := fun t : Gw wr => (qq t).2.1
                  have x2 := fun t : Gw wr => (qq t).2.2.1
                  have x3 := fun t : Gw wr => (qq t).2.2.2.1
                  have x4 := fun t : Gw wr => (qq t).2.2.2.2.1
                  have x5 := fun t : Gw wr => (qq t).2.2.2.2.2.1
                  have x6 := fun t : Gw wr => (qq t).2.2.2.2.2.2.1
                  have x7 := fun t : Gw wr => (qq t).2.2.2.2.2.2.2.1
                  have x8 := fun t : Gw wr => (qq t).2.2.2.2.2.2.2.2.1
                  have x9 := fun t : Gw wr => (qq t).2.2.2.2.2.2.2.2.2.1
                  have x10 := fun t : Gw wr => (qq t).2.2.2.2.2.2.2.2.2.2.1
                  have x11 := fun t : Gw wr => (qq t).2.2.2.2.2.2.2.2.2.2.2.1
                  have x12 := fun t : Gw wr => (qq t).2.2.2.2.2.2.2.2.2.2.2.2.1
                  have x13 := fun t : Gw wr => (qq t).2.2.2.2.2.2.2.2.2.2.2.2.2.1
                  have x14 := fun t : Gw wr => (qq t).2.2.2.2.2.2.2.2.2.2.2.2.2.2
                  clear qq
                  refine wp_region_gw (by kernel_rfl) (by kernel_rfl) ?_
                  repeat (go_big_quiet_step (first
                    | (go_at_call 25; exact gw_call (HDr.out _))))
                  refine wpQuiet_nil ?_
                  rintro _ ⟨t, rfl⟩
                  have HRel : Hid (Below wr.heap.size wr t.wd) := t.below
                  go_wp2_with fail
                  go_meet
                  exact ⟨rfl, HRel⟩
                | true =>
                  obtain rfl : ov = bw := (HWP.out.2 (by first | rfl | trivial)).symm
                  refine wp_region_inv (I := (fun b a x => ∃ u46 u47 u48 u49 u50 u51 u52 u53 u54 u55 u56 u57 u58 u59 u60 u61 u62 u63 u64 u65 u66 u67, a = ⟨#[.slice (some ⟨g, oo, none⟩) n cap, vr, undef, undef, u4, u5, .int .i64 0, .slice (some ⟨gf, 0, none⟩) nf cf, .slice (some ⟨g1, 0, none⟩) n cp, u9, .int .i64 (k : Nat), u11, .int .i64 (m : Nat), .slice (some ⟨g, oo, none⟩) n cap, .int .i64 0, .int .i64 0, .bool false, undef, .tuple #[.slice (some ⟨gf, 0, none⟩) nf cf, .int .i64 0], vr, .tuple #[.slice (some ⟨gf, 0, none⟩) nf cf, .int .i64 0], .slice (some ⟨gf, 0, none⟩) nf cf, .int .i64 0, .int .i64 0, .bool false, undef, .slice (some ⟨g, oo, none⟩) n cap, .slice (some ⟨g1, 0, none⟩) n cp, .int .i64 (k : Nat), .slice (some ⟨gf, 0, none⟩) nf cf, .int .i64 (nf : Nat), .bool true, u32, u33, .slice (some ⟨gf, 0, none⟩) nf cf, .int .i64 (k : Nat), .pointer (some ⟨gf, k * 4, none⟩), .agg #[.int .i64 q.x, .int .i64 q.y, .int .i64 q.w, .int .i64 q.h], .agg #[.int .u8 4, .int .i64 q.x, .int .i64 q.y, .int .i64 q.w, .int .i64 q.h, .int .u8 0, .int .u8 0, .int .u8 0, .int .u8 0, .int .u8 0, .int .u8 0, .int .u8 0, .int .u8 0, .string ⟨#[]⟩, .int .i64 0], .slice (some ⟨cb, 0, none⟩) 1 1, .int .i64 (m : Nat), .slice (some ⟨g, oo, none⟩) n cap, .int .i64 (n : Nat), .bool true, u44, u45, u46, u47, u48, u49, u50, u51, u52, u53, u54, u55, u56, u57, u58, u59, u60, u61, u62, u63, u64, u65, u66, u67, u68, u69, u70, u71, u72, u73, u74, u75, u76, u77, u78, u79, u80, u81, u82, u83, u84, u85, undef], []⟩ ∧ Hid (JZK wr g oo g1 gf n nf k m cap cp cf sx sr q ov b u46 u47 u48 u49 u50 u51 u52 u53 u54 u55 u56 u57 u58 u59 u60 u61 u62 u63 u64 u65 u66 u67 x))) (by kernel_rfl) (by kernel_rfl) ?_ ?_ ?_
                  · exact ⟨_, _, _, _, _, _, _, _, _, _, _, _, _, _, _, _, _, _, _, _, _, _, rfl, ⟨(fun e => by cases e), (fun e => by cases e), (fun e => by cases e), (fun e => by cases e), (fun e => by cases e), (fun e => by cases e), (fun e => by cases e), (fun e => by cases e), (fun e => by cases e), (fun e => by cases e), (fun e => by cases e), (fun e => by cases e), (fun e => by cases e), (fun e => by cases e), (fun e => by cases e), (fun e => by cases e), (fun e => by cases e), (fun e => by cases e), (fun e => by cases e), (fun e => by cases e), (fun e => by cases e), (fun e => by cases e), (Below.refl _ _).drew⟩⟩
                  · intro b a x i o hI hbi ho hpre K' hK
                    obtain ⟨u46, u47, u48, u49, u50, u51, u52, u53, u54, u55, u56, u57, u58, u59, u60, u61, u62, u63, u64, u65, u66, u67, rfl, HJ⟩ := hI
                    have hi : i < 22 := by have := (Array.getElem?_eq_some_iff.1 ho).1; simpa using this
                    rcases (show i = 0 ∨ i = 1 ∨ i = 2 ∨ i = 3 ∨ i = 4 ∨ i = 5 ∨ i = 6 ∨ i = 7 ∨ i = 8 ∨ i = 9 ∨ i = 10 ∨ i = 11 ∨ i = 12 ∨ i = 13 ∨ i = 14 ∨ i = 15 ∨ i = 16 ∨ i = 17 ∨ i = 18 ∨ i = 19 ∨ i = 20 ∨ i = 21 by omega) with rfl | rfl | rfl | rfl | rfl | rfl | rfl | rfl | rfl | rfl | rfl | rfl | rfl | rfl | rfl | rfl | rfl | rfl | rfl | rfl | rfl | rfl
                    · injection (show some _ = some o from ho) with ho
                      subst ho
                      have HN : Hid (JZK wr g oo g1 gf n nf k m cap cp cf sx sr q ov (fun j => if j = 0 then true else b j) (.slice (some ⟨g, oo, none⟩) n cap) u47 u48 u49 u50 u51 u52 u53 u54 u55 u56 u57 u58 u59 u60 u61 u62 u63 u64 u65 u66 u67 x) := by
                        obtain ⟨j0, j1, j2, j3, j4, j5, j6, j7, j8, j9, j10, j11, j12, j13, j14, j15, j16, j17, j18, j19, j20, j21, e0⟩ := HJ.out
                        exact ⟨fun _ => rfl, j1, j2, j3, j4, j5, j6, j7, j8, j9, j10, j11, j12, j13, j14, j15, j16, j17, j18, j19, j20, j21, e0⟩
                      clear HJ hpre
                      go_simp
                      exact hK _ _ ⟨_, u47, u48, u49, u50, u51, u52, u53, u54, u55, u56, u57, u58, u59, u60, u61, u62, u63, u64, u65, u66, u67, rfl, HN⟩
                    · injection (show some _ = some o from ho) with ho
                      subst ho
                      have HN : Hid (JZK wr g oo g1 gf n nf k m cap cp cf sx sr q ov (fun j => if j = 1 then true else b j) u46 (.int .i64 (m : Nat)) u48 u49 u50 u51 u52 u53 u54 u55 u56 u57 u58 u59 u60 u61 u62 u63 u64 u65 u66 u67 x) := by
                        obtain ⟨j0, j1, j2, j3, j4, j5, j6, j7, j8, j9, j10, j11, j12, j13, j14, j15, j16, j17, j18, j19, j20, j21, e0⟩ := HJ.out
                        exact ⟨j0, fun _ => rfl, j2, j3, j4, j5, j6, j7, j8, j9, j10, j11, j12, j13, j14, j15, j16, j17, j18, j19, j20, j21, e0⟩
                      clear HJ hpre
                      go_simp
                      exact hK _ _ ⟨u46, _, u48, u49, u50, u51, u52, u53, u54, u55, u56, u57, u58, u59, u60, u61, u62, u63, u64, u65, u66, u67, rfl, HN⟩
                    · injection (show some _ = some o from ho) with ho
                      subst ho
                      have p0 : b 0 = true := hpre 0 (by decide +kernel)
                      obtain rfl : u46 = .slice (some ⟨g, oo, none⟩) n cap := by obtain ⟨j0, j1, j2, j3, j4, j5, j6, j7, j8, j9, j10, j11, j12, j13, j14, j15, j16, j17, j18, j19, j20, j21, e0⟩ := HJ.out; exact (j0 p0)
                      have p1 : b 1 = true := hpre 1 (by decide +kernel)
                      obtain rfl : u47 = .int .i64 (m : Nat) := by obtain ⟨j0, j1, j2, j3, j4, j5, j6, j7, j8, j9, j10, j11, j12, j13, j14, j15, j16, j17, j18, j19, j20, j21, e0⟩ := HJ.out; exact (j1 p1)
                      have HN : Hid (JZK wr g oo g1 gf n nf k m cap cp cf sx sr q ov (fun j => if j = 2 then true else b j) (.slice (some ⟨g, oo, none⟩) n cap) (.int .i64 (m : Nat)) (.pointer (some ⟨g, oo + m * 15, none⟩)) u49 u50 u51 u52 u53 u54 u55 u56 u57 u58 u59 u60 u61 u62 u63 u64 u65 u66 u67 x) := by
                        obtain ⟨j0, j1, j2, j3, j4, j5, j6, j7, j8, j9, j10, j11, j12, j13, j14, j15, j16, j17, j18, j19, j20, j21, e0⟩ := HJ.out
                        exact ⟨j0, j1, fun _ => rfl, j3, j4, j5, j6, j7, j8, j9, j10, j11, j12, j13, j14, j15, j16, j17, j18, j19, j20, j21, e0⟩
                      clear HJ hpre
                      go_simp
                      exact hK _ _ ⟨_, _, _, u49, u50, u51, u52, u53, u54, u55, u56, u57, u58, u59, u60, u61, u62, u63, u64, u65, u66, u67, rfl, HN⟩
                    · injection (show some _ = some o from ho) with ho
                      subst ho
                      have p2 : b 2 = true := hpre 2 (by decide +kernel)
                      obtain rfl : u48 = .pointer (some ⟨g, oo + m * 15, none⟩) := by obtain ⟨j0, j1, j2, j3, j4, j5, j6, j7, j8, j9, j10, j11, j12, j13, j14, j15, j16, j17, j18, j19, j20, j21, e0⟩ := HJ.out; exact (j2 p2)
                      obtain ⟨x0, x1, x2, x3, x4, x5, x6, x7, x8, x9, x10, x11, x12, x13, x14⟩ : StAt x g (oo + m * 15) sx := by obtain ⟨j0, j1, j2, j3, j4, j5, j6, j7, j8, j9, j10, j11, j12, j13, j14, j15, j16, j17, j18, j19, j20, j21, e0⟩ := HJ.out; exact (HAX.out _ e0).1.1
                      have HN : Hid (JZK wr g oo g1 gf n nf k m cap cp cf sx sr q ov (fun j => if j = 3 then true else b j) u46 u47 (.pointer (some ⟨g, oo + m * 15, none⟩)) ((Value.agg #[.int .u8 sx.k, .int .i64 sx.r.x, .int .i64 sx.r.y, .int .i64 sx.r.w, .int .i64 sx.r.h, .int .u8 sx.c.r, .int .u8 sx.c.g, .int .u8 sx.c.b, .int .u8 sx.c.a, .int .u8 sx.b.r, .int .u8 sx.b.g, .int .u8 sx.b.b, .int .u8 sx.b.a, .string sx.t, .int .i64 sx.n])) u50 u51 u52 u53 u54 u55 u56 u57 u58 u59 u60 u61 u62 u63 u64 u65 u66 u67 x) := by
                        obtain ⟨j0, j1, j2, j3, j4, j5, j6, j7, j8, j9, j10, j11, j12, j13, j14, j15, j16, j17, j18, j19, j20, j21, e0⟩ := HJ.out
                        exact ⟨j0, j1, j2, fun _ => rfl, j4, j5, j6, j7, j8, j9, j10, j11, j12, j13, j14, j15, j16, j17, j18, j19, j20, j21, e0⟩
                      clear HJ hpre
                      go_simp
                      exact hK _ _ ⟨u46, u47, _, _, u50, u51, u52, u53, u54, u55, u56, u57, u58, u59, u60, u61, u62, u63, u64, u65, u66, u67, rfl, HN⟩
                    · injection (show some _ = some o from ho) with ho
                      subst ho
                      have p3 : b 3 = true := hpre 3 (by decide +kernel)
                      obtain rfl : u49 = (Value.agg #[.int .u8 sx.k, .int .i64 sx.r.x, .int .i64 sx.r.y, .int .i64 sx.r.w, .int .i64 sx.r.h, .int .u8 sx.c.r, .int .u8 sx.c.g, .int .u8 sx.c.b, .int .u8 sx.c.a, .int .u8 sx.b.r, .int .u8 sx.b.g, .int .u8 sx.b.b, .int .u8 sx.b.a, .string sx.t, .int .i64 sx.n]) := by obtain ⟨j0, j1, j2, j3, j4, j5, j6, j7, j8, j9, j10, j11, j12, j13, j14, j15, j16, j17, j18, j19, j20, j21, e0⟩ := HJ.out; exact (j3 p3)
                      have HC1 := HDr.out x
                      have HN : Hid (∀ x', Below x.heap.size x x' → JZK wr g oo g1 gf n nf k m cap cp cf sx sr q ov (fun j => if j = 4 then true else b j) u46 u47 u48 ((Value.agg #[.int .u8 sx.k, .int .i64 sx.r.x, .int .i64 sx.r.y, .int .i64 sx.r.w, .int .i64 sx.r.h, .int .u8 sx.c.r, .int .u8 sx.c.g, .int .u8 sx.c.b, .int .u8 sx.c.a, .int .u8 sx.b.r, .int .u8 sx.b.g, .int .u8 sx.b.b, .int .u8 sx.b.a, .string sx.t, .int .i64 sx.n])) (.bool true) u51 u52 u53 u54 u55 u56 u57 u58 u59 u60 u61 u62 u63 u64 u65 u66 u67 x') := fun x' hb => by
                        obtain ⟨j0, j1, j2, j3, j4, j5, j6, j7, j8, j9, j10, j11, j12, j13, j14, j15, j16, j17, j18, j19, j20, j21, e0⟩ := HJ.out.grow hb
                        exact ⟨j0, j1, j2, j3, (fun _ => rfl), j5, j6, j7, j8, j9, j10, j11, j12, j13, j14, j15, j16, j17, j18, j19, j20, j21, e0⟩
                      clear HJ hpre
                      go_simp
                      refine HC1.mono ?_
                      rintro e x' ⟨rfl, hb⟩
                      exact hK _ _ ⟨u46, u47, u48, _, _, u51, u52, u53, u54, u55, u56, u57, u58, u59, u60, u61, u62, u63, u64, u65, u66, u67, rfl, HN.out x' hb⟩
                    · injection (show some _ = some o from ho) with ho
                      subst ho
                      have p4 : b 4 = true := hpre 4 (by decide +kernel)
                      obtain rfl : u50 = .bool true := by obtain ⟨j0, j1, j2, j3, j4, j5, j6, j7, j8, j9, j10, j11, j12, j13, j14, j15, j16, j17, j18, j19, j20, j21, e0⟩ := HJ.out; exact (j4 p4)
                      have HN : Hid (JZK wr g oo g1 gf n nf k m cap cp cf sx sr q ov (fun j => if j = 5 then true else b j) u46 u47 u48 u49 (.bool true) (.bool false) u52 u53 u54 u55 u56 u57 u58 u59 u60 u61 u62 u63 u64 u65 u66 u67 x) := by
                        obtain ⟨j0, j1, j2, j3, j4, j5, j6, j7, j8, j9, j10, j11, j12, j13, j14, j15, j16, j17, j18, j19, j20, j21, e0⟩ := HJ.out
                        exact ⟨j0, j1, j2, j3, j4, fun _ => rfl, j6, j7, j8, j9, j10, j11, j12, j13, j14, j15, j16, j17, j18, j19, j20, j21, e0⟩
                      clear HJ hpre
                      go_simp
                      exact hK _ _ ⟨u46, u47, u48, u49, _, _, u52, u53, u54, u55, u56, u57, u58, u59, u60, u61, u62, u63, u64, u65, u66, u67, rfl, HN⟩
                    · injection (show some _ = some o from ho) with ho
                      subst ho
                      have p5 : b 5 = true := hpre 5 (by decide +kernel)
                      obtain rfl : u51 = .bool false := by obtain ⟨j0, j1, j2, j3, j4, j5, j6, j7, j8, j9, j10, j11, j12, j13, j14, j15, j16, j17, j18, j19, j20, j21, e0⟩ := HJ.out; exact (j5 p5)
                      have HN : Hid (JZK wr g oo g1 gf n nf k m cap cp cf sx sr q ov (fun j => if j = 6 then true else b j) u46 u47 u48 u49 u50 (.bool false) (.bool false) u53 u54 u55 u56 u57 u58 u59 u60 u61 u62 u63 u64 u65 u66 u67 x) := by
                        obtain ⟨j0, j1, j2, j3, j4, j5, j6, j7, j8, j9, j10, j11, j12, j13, j14, j15, j16, j17, j18, j19, j20, j21, e0⟩ := HJ.out
                        exact ⟨j0, j1, j2, j3, j4, j5, fun _ => rfl, j7, j8, j9, j10, j11, j12, j13, j14, j15, j16, j17, j18, j19, j20, j21, e0⟩
                      clear HJ hpre
                      go_simp
                      exact hK _ _ ⟨u46, u47, u48, u49, u50, _, _, u53, u54, u55, u56, u57, u58, u59, u60, u61, u62, u63, u64, u65, u66, u67, rfl, HN⟩
                    · injection (show some _ = some o from ho) with ho
                      subst ho
                      have p6 : b 6 = true := hpre 6 (by decide +kernel)
                      obtain rfl : u52 = .bool false := by obtain ⟨j0, j1, j2, j3, j4, j5, j6, j7, j8, j9, j10, j11, j12, j13, j14, j15, j16, j17, j18, j19, j20, j21, e0⟩ := HJ.out; exact (j6 p6)
                      have HN : Hid (JZK wr g oo g1 gf n nf k m cap cp cf sx sr q ov (fun j => if j = 7 then true else b j) u46 u47 u48 u49 u50 u51 (.bool false) (.slice (some ⟨g, oo, none⟩) n cap) u54 u55 u56 u57 u58 u59 u60 u61 u62 u63 u64 u65 u66 u67 x) := by
                        obtain ⟨j0, j1, j2, j3, j4, j5, j6, j7, j8, j9, j10, j11, j12, j13, j14, j15, j16, j17, j18, j19, j20, j21, e0⟩ := HJ.out
                        exact ⟨j0, j1, j2, j3, j4, j5, j6, fun _ => rfl, j8, j9, j10, j11, j12, j13, j14, j15, j16, j17, j18, j19, j20, j21, e0⟩
                      clear HJ hpre
                      go_simp
                      exact hK _ _ ⟨u46, u47, u48, u49, u50, u51, _, _, u54, u55, u56, u57, u58, u59, u60, u61, u62, u63, u64, u65, u66, u67, rfl, HN⟩
                    · injection (show some _ = some o from ho) with ho
                      subst ho
                      have p6 : b 6 = true := hpre 6 (by decide +kernel)
                      obtain rfl : u52 = .bool false := by obtain ⟨j0, j1, j2, j3, j4, j5, j6, j7, j8, j9, j10, j11, j12, j13, j14, j15, j16, j17, j18, j19, j20, j21, e0⟩ := HJ.out; exact (j6 p6)
                      have HN : Hid (JZK wr g oo g1 gf n nf k m cap cp cf sx sr q ov (fun j => if j = 8 then true else b j) u46 u47 u48 u49 u50 u51 (.bool false) u53 (.int .i64 (m : Nat)) u55 u56 u57 u58 u59 u60 u61 u62 u63 u64 u65 u66 u67 x) := by
                        obtain ⟨j0, j1, j2, j3, j4, j5, j6, j7, j8, j9, j10, j11, j12, j13, j14, j15, j16, j17, j18, j19, j20, j21, e0⟩ := HJ.out
                        exact ⟨j0, j1, j2, j3, j4, j5, j6, j7, fun _ => rfl, j9, j10, j11, j12, j13, j14, j15, j16, j17, j18, j19, j20, j21, e0⟩
                      clear HJ hpre
                      go_simp
                      exact hK _ _ ⟨u46, u47, u48, u49, u50, u51, _, u53, _, u55, u56, u57, u58, u59, u60, u61, u62, u63, u64, u65, u66, u67, rfl, HN⟩
                    · injection (show some _ = some o from ho) with ho
                      subst ho
                      have p6 : b 6 = true := hpre 6 (by decide +kernel)
                      obtain rfl : u52 = .bool false := by obtain ⟨j0, j1, j2, j3, j4, j5, j6, j7, j8, j9, j10, j11, j12, j13, j14, j15, j16, j17, j18, j19, j20, j21, e0⟩ := HJ.out; exact (j6 p6)
                      have p7 : b 7 = true := hpre 7 (by decide +kernel)
                      obtain rfl : u53 = .slice (some ⟨g, oo, none⟩) n cap := by obtain ⟨j0, j1, j2, j3, j4, j5, j6, j7, j8, j9, j10, j11, j12, j13, j14, j15, j16, j17, j18, j19, j20, j21, e0⟩ := HJ.out; exact (j7 p7)
                      have p8 : b 8 = true := hpre 8 (by decide +kernel)
                      obtain rfl : u54 = .int .i64 (m : Nat) := by obtain ⟨j0, j1, j2, j3, j4, j5, j6, j7, j8, j9, j10, j11, j12, j13, j14, j15, j16, j17, j18, j19, j20, j21, e0⟩ := HJ.out; exact (j8 p8)
                      have HN : Hid (JZK wr g oo g1 gf n nf k m cap cp cf sx sr q ov (fun j => if j = 9 then true else b j) u46 u47 u48 u49 u50 u51 (.bool false) (.slice (some ⟨g, oo, none⟩) n cap) (.int .i64 (m : Nat)) (.pointer (some ⟨g, oo + m * 15, none⟩)) u56 u57 u58 u59 u60 u61 u62 u63 u64 u65 u66 u67 x) := by
                        obtain ⟨j0, j1, j2, j3, j4, j5, j6, j7, j8, j9, j10, j11, j12, j13, j14, j15, j16, j17, j18, j19, j20, j21, e0⟩ := HJ.out
                        exact ⟨j0, j1, j2, j3, j4, j5, j6, j7, j8, fun _ => rfl, j10, j11, j12, j13, j14, j15, j16, j17, j18, j19, j20, j21, e0⟩
                      clear HJ hpre
                      go_simp
                      exact hK _ _ ⟨u46, u47, u48, u49, u50, u51, _, _, _, _, u56, u57, u58, u59, u60, u61, u62, u63, u64, u65, u66, u67, rfl, HN⟩
                    · injection (show some _ = some o from ho) with ho
                      subst ho
                      have p6 : b 6 = true := hpre 6 (by decide +kernel)
                      obtain rfl : u52 = .bool false := by obtain ⟨j0, j1, j2, j3, j4, j5, j6, j7, j8, j9, j10, j11, j12, j13, j14, j15, j16, j17, j18, j19, j20, j21, e0⟩ := HJ.out; exact (j6 p6)
                      have p9 : b 9 = true := hpre 9 (by decide +kernel)
                      obtain rfl : u55 = .pointer (some ⟨g, oo + m * 15, none⟩) := by obtain ⟨j0, j1, j2, j3, j4, j5, j6, j7, j8, j9, j10, j11, j12, j13, j14, j15, j16, j17, j18, j19, j20, j21, e0⟩ := HJ.out; exact (j9 p9)
                      obtain ⟨x0, x1, x2, x3, x4, x5, x6, x7, x8, x9, x10, x11, x12, x13, x14⟩ : StAt x g (oo + m * 15) sx := by obtain ⟨j0, j1, j2, j3, j4, j5, j6, j7, j8, j9, j10, j11, j12, j13, j14, j15, j16, j17, j18, j19, j20, j21, e0⟩ := HJ.out; exact (HAX.out _ e0).1.1
                      have HN : Hid (JZK wr g oo g1 gf n nf k m cap cp cf sx sr q ov (fun j => if j = 10 then true else b j) u46 u47 u48 u49 u50 u51 (.bool false) u53 u54 (.pointer (some ⟨g, oo + m * 15, none⟩)) ((Value.agg #[.int .u8 sx.k, .int .i64 sx.r.x, .int .i64 sx.r.y, .int .i64 sx.r.w, .int .i64 sx.r.h, .int .u8 sx.c.r, .int .u8 sx.c.g, .int .u8 sx.c.b, .int .u8 sx.c.a, .int .u8 sx.b.r, .int .u8 sx.b.g, .int .u8 sx.b.b, .int .u8 sx.b.a, .string sx.t, .int .i64 sx.n])) u57 u58 u59 u60 u61 u62 u63 u64 u65 u66 u67 x) := by
                        obtain ⟨j0, j1, j2, j3, j4, j5, j6, j7, j8, j9, j10, j11, j12, j13, j14, j15, j16, j17, j18, j19, j20, j21, e0⟩ := HJ.out
                        exact ⟨j0, j1, j2, j3, j4, j5, j6, j7, j8, j9, fun _ => rfl, j11, j12, j13, j14, j15, j16, j17, j18, j19, j20, j21, e0⟩
                      clear HJ hpre
                      go_simp
                      exact hK _ _ ⟨u46, u47, u48, u49, u50, u51, _, u53, u54, _, _, u57, u58, u59, u60, u61, u62, u63, u64, u65, u66, u67, rfl, HN⟩
                    · injection (show some _ = some o from ho) with ho
                      subst ho
                      have p6 : b 6 = true := hpre 6 (by decide +kernel)
                      obtain rfl : u52 = .bool false := by obtain ⟨j0, j1, j2, j3, j4, j5, j6, j7, j8, j9, j10, j11, j12, j13, j14, j15, j16, j17, j18, j19, j20, j21, e0⟩ := HJ.out; exact (j6 p6)
                      have HN : Hid (JZK wr g oo g1 gf n nf k m cap cp cf sx sr q ov (fun j => if j = 11 then true else b j) u46 u47 u48 u49 u50 u51 (.bool false) u53 u54 u55 u56 (.slice (some ⟨g1, 0, none⟩) n cp) u58 u59 u60 u61 u62 u63 u64 u65 u66 u67 x) := by
                        obtain ⟨j0, j1, j2, j3, j4, j5, j6, j7, j8, j9, j10, j11, j12, j13, j14, j15, j16, j17, j18, j19, j20, j21, e0⟩ := HJ.out
                        exact ⟨j0, j1, j2, j3, j4, j5, j6, j7, j8, j9, j10, fun _ => rfl, j12, j13, j14, j15, j16, j17, j18, j19, j20, j21, e0⟩
                      clear HJ hpre
                      go_simp
                      exact hK _ _ ⟨u46, u47, u48, u49, u50, u51, _, u53, u54, u55, u56, _, u58, u59, u60, u61, u62, u63, u64, u65, u66, u67, rfl, HN⟩
                    · injection (show some _ = some o from ho) with ho
                      subst ho
                      have p6 : b 6 = true := hpre 6 (by decide +kernel)
                      obtain rfl : u52 = .bool false := by obtain ⟨j0, j1, j2, j3, j4, j5, j6, j7, j8, j9, j10, j11, j12, j13, j14, j15, j16, j17, j18, j19, j20, j21, e0⟩ := HJ.out; exact (j6 p6)
                      have HN : Hid (JZK wr g oo g1 gf n nf k m cap cp cf sx sr q ov (fun j => if j = 12 then true else b j) u46 u47 u48 u49 u50 u51 (.bool false) u53 u54 u55 u56 u57 (.int .i64 (m : Nat)) u59 u60 u61 u62 u63 u64 u65 u66 u67 x) := by
                        obtain ⟨j0, j1, j2, j3, j4, j5, j6, j7, j8, j9, j10, j11, j12, j13, j14, j15, j16, j17, j18, j19, j20, j21, e0⟩ := HJ.out
                        exact ⟨j0, j1, j2, j3, j4, j5, j6, j7, j8, j9, j10, j11, fun _ => rfl, j13, j14, j15, j16, j17, j18, j19, j20, j21, e0⟩
                      clear HJ hpre
                      go_simp
                      exact hK _ _ ⟨u46, u47, u48, u49, u50, u51, _, u53, u54, u55, u56, u57, _, u59, u60, u61, u62, u63, u64, u65, u66, u67, rfl, HN⟩
                    · injection (show some _ = some o from ho) with ho
                      subst ho
                      have p6 : b 6 = true := hpre 6 (by decide +kernel)
                      obtain rfl : u52 = .bool false := by obtain ⟨j0, j1, j2, j3, j4, j5, j6, j7, j8, j9, j10, j11, j12, j13, j14, j15, j16, j17, j18, j19, j20, j21, e0⟩ := HJ.out; exact (j6 p6)
                      have p11 : b 11 = true := hpre 11 (by decide +kernel)
                      obtain rfl : u57 = .slice (some ⟨g1, 0, none⟩) n cp := by obtain ⟨j0, j1, j2, j3, j4, j5, j6, j7, j8, j9, j10, j11, j12, j13, j14, j15, j16, j17, j18, j19, j20, j21, e0⟩ := HJ.out; exact (j11 p11)
                      have p12 : b 12 = true := hpre 12 (by decide +kernel)
                      obtain rfl : u58 = .int .i64 (m : Nat) := by obtain ⟨j0, j1, j2, j3, j4, j5, j6, j7, j8, j9, j10, j11, j12, j13, j14, j15, j16, j17, j18, j19, j20, j21, e0⟩ := HJ.out; exact (j12 p12)
                      have HN : Hid (JZK wr g oo g1 gf n nf k m cap cp cf sx sr q ov (fun j => if j = 13 then true else b j) u46 u47 u48 u49 u50 u51 (.bool false) u53 u54 u55 u56 (.slice (some ⟨g1, 0, none⟩) n cp) (.int .i64 (m : Nat)) (.pointer (some ⟨g1, m * 4, none⟩)) u60 u61 u62 u63 u64 u65 u66 u67 x) := by
                        obtain ⟨j0, j1, j2, j3, j4, j5, j6, j7, j8, j9, j10, j11, j12, j13, j14, j15, j16, j17, j18, j19, j20, j21, e0⟩ := HJ.out
                        exact ⟨j0, j1, j2, j3, j4, j5, j6, j7, j8, j9, j10, j11, j12, fun _ => rfl, j14, j15, j16, j17, j18, j19, j20, j21, e0⟩
                      clear HJ hpre
                      go_simp
                      exact hK _ _ ⟨u46, u47, u48, u49, u50, u51, _, u53, u54, u55, u56, _, _, _, u60, u61, u62, u63, u64, u65, u66, u67, rfl, HN⟩
                    · injection (show some _ = some o from ho) with ho
                      subst ho
                      have p6 : b 6 = true := hpre 6 (by decide +kernel)
                      obtain rfl : u52 = .bool false := by obtain ⟨j0, j1, j2, j3, j4, j5, j6, j7, j8, j9, j10, j11, j12, j13, j14, j15, j16, j17, j18, j19, j20, j21, e0⟩ := HJ.out; exact (j6 p6)
                      have p13 : b 13 = true := hpre 13 (by decide +kernel)
                      obtain rfl : u59 = .pointer (some ⟨g1, m * 4, none⟩) := by obtain ⟨j0, j1, j2, j3, j4, j5, j6, j7, j8, j9, j10, j11, j12, j13, j14, j15, j16, j17, j18, j19, j20, j21, e0⟩ := HJ.out; exact (j13 p13)
                      obtain ⟨y0, y1, y2, y3⟩ : RcAt x g1 (m * 4) sr := by obtain ⟨j0, j1, j2, j3, j4, j5, j6, j7, j8, j9, j10, j11, j12, j13, j14, j15, j16, j17, j18, j19, j20, j21, e0⟩ := HJ.out; exact (HAX.out _ e0).1.2
                      have HN : Hid (JZK wr g oo g1 gf n nf k m cap cp cf sx sr q ov (fun j => if j = 14 then true else b j) u46 u47 u48 u49 u50 u51 (.bool false) u53 u54 u55 u56 u57 u58 (.pointer (some ⟨g1, m * 4, none⟩)) (.agg #[.int .i64 sr.x, .int .i64 sr.y, .int .i64 sr.w, .int .i64 sr.h]) u61 u62 u63 u64 u65 u66 u67 x) := by
                        obtain ⟨j0, j1, j2, j3, j4, j5, j6, j7, j8, j9, j10, j11, j12, j13, j14, j15, j16, j17, j18, j19, j20, j21, e0⟩ := HJ.out
                        exact ⟨j0, j1, j2, j3, j4, j5, j6, j7, j8, j9, j10, j11, j12, j13, fun _ => rfl, j15, j16, j17, j18, j19, j20, j21, e0⟩
                      clear HJ hpre
                      go_simp
                      exact hK _ _ ⟨u46, u47, u48, u49, u50, u51, _, u53, u54, u55, u56, u57, u58, _, _, u61, u62, u63, u64, u65, u66, u67, rfl, HN⟩
                    · injection (show some _ = some o from ho) with ho
                      subst ho
                      have p6 : b 6 = true := hpre 6 (by decide +kernel)
                      obtain rfl : u52 = .bool false := by obtain ⟨j0, j1, j2, j3, j4, j5, j6, j7, j8, j9, j10, j11, j12, j13, j14, j15, j16, j17, j18, j19, j20, j21, e0⟩ := HJ.out; exact (j6 p6)
                      have p10 : b 10 = true := hpre 10 (by decide +kernel)
                      obtain rfl : u56 = (Value.agg #[.int .u8 sx.k, .int .i64 sx.r.x, .int .i64 sx.r.y, .int .i64 sx.r.w, .int .i64 sx.r.h, .int .u8 sx.c.r, .int .u8 sx.c.g, .int .u8 sx.c.b, .int .u8 sx.c.a, .int .u8 sx.b.r, .int .u8 sx.b.g, .int .u8 sx.b.b, .int .u8 sx.b.a, .string sx.t, .int .i64 sx.n]) := by obtain ⟨j0, j1, j2, j3, j4, j5, j6, j7, j8, j9, j10, j11, j12, j13, j14, j15, j16, j17, j18, j19, j20, j21, e0⟩ := HJ.out; exact (j10 p10)
                      have p14 : b 14 = true := hpre 14 (by decide +kernel)
                      obtain rfl : u60 = .agg #[.int .i64 sr.x, .int .i64 sr.y, .int .i64 sr.w, .int .i64 sr.h] := by obtain ⟨j0, j1, j2, j3, j4, j5, j6, j7, j8, j9, j10, j11, j12, j13, j14, j15, j16, j17, j18, j19, j20, j21, e0⟩ := HJ.out; exact (j14 p14)
                      have HN : Hid (∀ v61 x', Below x.heap.size x x' → OwR x.heap.size x' v61 (plc sx sr) → JZK wr g oo g1 gf n nf k m cap cp cf sx sr q ov (fun j => if j = 15 then true else b j) u46 u47 u48 u49 u50 u51 (.bool false) u53 u54 u55 ((Value.agg #[.int .u8 sx.k, .int .i64 sx.r.x, .int .i64 sx.r.y, .int .i64 sx.r.w, .int .i64 sx.r.h, .int .u8 sx.c.r, .int .u8 sx.c.g, .int .u8 sx.c.b, .int .u8 sx.c.a, .int .u8 sx.b.r, .int .u8 sx.b.g, .int .u8 sx.b.b, .int .u8 sx.b.a, .string sx.t, .int .i64 sx.n])) u57 u58 u59 (.agg #[.int .i64 sr.x, .int .i64 sr.y, .int .i64 sr.w, .int .i64 sr.h]) (v61) u62 u63 u64 u65 u66 u67 x') := fun v61 x' hb hv => by
                        obtain ⟨j0, j1, j2, j3, j4, j5, j6, j7, j8, j9, j10, j11, j12, j13, j14, j15, j16, j17, j18, j19, j20, j21, e0⟩ := HJ.out.grow hb
                        exact ⟨j0, j1, j2, j3, j4, j5, j6, j7, j8, j9, j10, j11, j12, j13, j14, (fun _ => lsr_own hv), j16, j17, j18, j19, j20, j21, e0⟩
                      clear HJ hpre
                      go_simp
                      refine (HPL.out _).mono ?_
                      rintro e x' ⟨v61, rfl, hv, hb⟩
                      exact hK _ _ ⟨u46, u47, u48, u49, u50, u51, _, u53, u54, u55, _, u57, u58, u59, _, _, u62, u63, u64, u65, u66, u67, rfl, HN.out v61 x' hb hv⟩
                    · injection (show some _ = some o from ho) with ho
                      subst ho
                      have p6 : b 6 = true := hpre 6 (by decide +kernel)
                      obtain rfl : u52 = .bool false := by obtain ⟨j0, j1, j2, j3, j4, j5, j6, j7, j8, j9, j10, j11, j12, j13, j14, j15, j16, j17, j18, j19, j20, j21, e0⟩ := HJ.out; exact (j6 p6)
                      have HN : Hid (JZK wr g oo g1 gf n nf k m cap cp cf sx sr q ov (fun j => if j = 16 then true else b j) u46 u47 u48 u49 u50 u51 (.bool false) u53 u54 u55 u56 u57 u58 u59 u60 u61 (.slice (some ⟨gf, 0, none⟩) nf cf) u63 u64 u65 u66 u67 x) := by
                        obtain ⟨j0, j1, j2, j3, j4, j5, j6, j7, j8, j9, j10, j11, j12, j13, j14, j15, j16, j17, j18, j19, j20, j21, e0⟩ := HJ.out
                        exact ⟨j0, j1, j2, j3, j4, j5, j6, j7, j8, j9, j10, j11, j12, j13, j14, j15, fun _ => rfl, j17, j18, j19, j20, j21, e0⟩
                      clear HJ hpre
                      go_simp
                      exact hK _ _ ⟨u46, u47, u48, u49, u50, u51, _, u53, u54, u55, u56, u57, u58, u59, u60, u61, _, u63, u64, u65, u66, u67, rfl, HN⟩
                    · injection (show some _ = some o from ho) with ho
                      subst ho
                      have p6 : b 6 = true := hpre 6 (by decide +kernel)
                      obtain rfl : u52 = .bool false := by obtain ⟨j0, j1, j2, j3, j4, j5, j6, j7, j8, j9, j10, j11, j12, j13, j14, j15, j16, j17, j18, j19, j20, j21, e0⟩ := HJ.out; exact (j6 p6)
                      have HN : Hid (JZK wr g oo g1 gf n nf k m cap cp cf sx sr q ov (fun j => if j = 17 then true else b j) u46 u47 u48 u49 u50 u51 (.bool false) u53 u54 u55 u56 u57 u58 u59 u60 u61 u62 (.int .i64 (k : Nat)) u64 u65 u66 u67 x) := by
                        obtain ⟨j0, j1, j2, j3, j4, j5, j6, j7, j8, j9, j10, j11, j12, j13, j14, j15, j16, j17, j18, j19, j20, j21, e0⟩ := HJ.out
                        exact ⟨j0, j1, j2, j3, j4, j5, j6, j7, j8, j9, j10, j11, j12, j13, j14, j15, j16, fun _ => rfl, j18, j19, j20, j21, e0⟩
                      clear HJ hpre
                      go_simp
                      exact hK _ _ ⟨u46, u47, u48, u49, u50, u51, _, u53, u54, u55, u56, u57, u58, u59, u60, u61, u62, _, u64, u65, u66, u67, rfl, HN⟩
                    · injection (show some _ = some o from ho) with ho
                      subst ho
                      have p6 : b 6 = true := hpre 6 (by decide +kernel)
                      obtain rfl : u52 = .bool false := by obtain ⟨j0, j1, j2, j3, j4, j5, j6, j7, j8, j9, j10, j11, j12, j13, j14, j15, j16, j17, j18, j19, j20, j21, e0⟩ := HJ.out; exact (j6 p6)
                      have p16 : b 16 = true := hpre 16 (by decide +kernel)
                      obtain rfl : u62 = .slice (some ⟨gf, 0, none⟩) nf cf := by obtain ⟨j0, j1, j2, j3, j4, j5, j6, j7, j8, j9, j10, j11, j12, j13, j14, j15, j16, j17, j18, j19, j20, j21, e0⟩ := HJ.out; exact (j16 p16)
                      have p17 : b 17 = true := hpre 17 (by decide +kernel)
                      obtain rfl : u63 = .int .i64 (k : Nat) := by obtain ⟨j0, j1, j2, j3, j4, j5, j6, j7, j8, j9, j10, j11, j12, j13, j14, j15, j16, j17, j18, j19, j20, j21, e0⟩ := HJ.out; exact (j17 p17)
                      have HN : Hid (JZK wr g oo g1 gf n nf k m cap cp cf sx sr q ov (fun j => if j = 18 then true else b j) u46 u47 u48 u49 u50 u51 (.bool false) u53 u54 u55 u56 u57 u58 u59 u60 u61 (.slice (some ⟨gf, 0, none⟩) nf cf) (.int .i64 (k : Nat)) (.pointer (some ⟨gf, k * 4, none⟩)) u65 u66 u67 x) := by
                        obtain ⟨j0, j1, j2, j3, j4, j5, j6, j7, j8, j9, j10, j11, j12, j13, j14, j15, j16, j17, j18, j19, j20, j21, e0⟩ := HJ.out
                        exact ⟨j0, j1, j2, j3, j4, j5, j6, j7, j8, j9, j10, j11, j12, j13, j14, j15, j16, j17, fun _ => rfl, j19, j20, j21, e0⟩
                      clear HJ hpre
                      go_simp
                      exact hK _ _ ⟨u46, u47, u48, u49, u50, u51, _, u53, u54, u55, u56, u57, u58, u59, u60, u61, _, _, _, u65, u66, u67, rfl, HN⟩
                    · injection (show some _ = some o from ho) with ho
                      subst ho
                      have p6 : b 6 = true := hpre 6 (by decide +kernel)
                      obtain rfl : u52 = .bool false := by obtain ⟨j0, j1, j2, j3, j4, j5, j6, j7, j8, j9, j10, j11, j12, j13, j14, j15, j16, j17, j18, j19, j20, j21, e0⟩ := HJ.out; exact (j6 p6)
                      have p18 : b 18 = true := hpre 18 (by decide +kernel)
                      obtain rfl : u64 = .pointer (some ⟨gf, k * 4, none⟩) := by obtain ⟨j0, j1, j2, j3, j4, j5, j6, j7, j8, j9, j10, j11, j12, j13, j14, j15, j16, j17, j18, j19, j20, j21, e0⟩ := HJ.out; exact (j18 p18)
                      obtain ⟨z0, z1, z2, z3⟩ : RcAt x gf (k * 4) q := by obtain ⟨j0, j1, j2, j3, j4, j5, j6, j7, j8, j9, j10, j11, j12, j13, j14, j15, j16, j17, j18, j19, j20, j21, e0⟩ := HJ.out; exact (HAX.out _ e0).2
                      have HN : Hid (JZK wr g oo g1 gf n nf k m cap cp cf sx sr q ov (fun j => if j = 19 then true else b j) u46 u47 u48 u49 u50 u51 (.bool false) u53 u54 u55 u56 u57 u58 u59 u60 u61 u62 u63 (.pointer (some ⟨gf, k * 4, none⟩)) (.agg #[.int .i64 q.x, .int .i64 q.y, .int .i64 q.w, .int .i64 q.h]) u66 u67 x) := by
                        obtain ⟨j0, j1, j2, j3, j4, j5, j6, j7, j8, j9, j10, j11, j12, j13, j14, j15, j16, j17, j18, j19, j20, j21, e0⟩ := HJ.out
                        exact ⟨j0, j1, j2, j3, j4, j5, j6, j7, j8, j9, j10, j11, j12, j13, j14, j15, j16, j17, j18, fun _ => rfl, j20, j21, e0⟩
                      clear HJ hpre
                      go_simp
                      exact hK _ _ ⟨u46, u47, u48, u49, u50, u51, _, u53, u54, u55, u56, u57, u58, u59, u60, u61, u62, u63, _, _, u66, u67, rfl, HN⟩
                    · injection (show some _ = some o from ho) with ho
                      subst ho
                      have p6 : b 6 = true := hpre 6 (by decide +kernel)
                      obtain rfl : u52 = .bool false := by obtain ⟨j0, j1, j2, j3, j4, j5, j6, j7, j8, j9, j10, j11, j12, j13, j14, j15, j16, j17, j18, j19, j20, j21, e0⟩ := HJ.out; exact (j6 p6)
                      have p19 : b 19 = true := hpre 19 (by decide +kernel)
                      obtain rfl : u65 = .agg #[.int .i64 q.x, .int .i64 q.y, .int .i64 q.w, .int .i64 q.h] := by obtain ⟨j0, j1, j2, j3, j4, j5, j6, j7, j8, j9, j10, j11, j12, j13, j14, j15, j16, j17, j18, j19, j20, j21, e0⟩ := HJ.out; exact (j19 p19)
                      have p15 : b 15 = true := hpre 15 (by decide +kernel)
                      have HC1 := HOvr.out u61 x (by obtain ⟨j0, j1, j2, j3, j4, j5, j6, j7, j8, j9, j10, j11, j12, j13, j14, j15, j16, j17, j18, j19, j20, j21, e0⟩ := HJ.out; exact j15 p15)
                      have HN : Hid (∀ x', Below x.heap.size x x' → JZK wr g oo g1 gf n nf k m cap cp cf sx sr q ov (fun j => if j = 20 then true else b j) u46 u47 u48 u49 u50 u51 (.bool false) u53 u54 u55 u56 u57 u58 u59 u60 u61 u62 u63 u64 (.agg #[.int .i64 q.x, .int .i64 q.y, .int .i64 q.w, .int .i64 q.h]) (.bool ov) u67 x') := fun x' hb => by
                        obtain ⟨j0, j1, j2, j3, j4, j5, j6, j7, j8, j9, j10, j11, j12, j13, j14, j15, j16, j17, j18, j19, j20, j21, e0⟩ := HJ.out.grow hb
                        exact ⟨j0, j1, j2, j3, j4, j5, j6, j7, j8, j9, j10, j11, j12, j13, j14, j15, j16, j17, j18, j19, (fun _ => rfl), j21, e0⟩
                      clear HJ hpre
                      go_simp
                      refine HC1.mono ?_
                      rintro e x' ⟨rfl, hb⟩
                      exact hK _ _ ⟨u46, u47, u48, u49, u50, u51, _, u53, u54, u55, u56, u57, u58, u59, u60, u61, u62, u63, u64, _, _, u67, rfl, HN.out x' hb⟩
                    · injection (show some _ = some o from ho) with ho
                      subst ho
                      have p6 : b 6 = true := hpre 6 (by decide +kernel)
                      obtain rfl : u52 = .bool false := by obtain ⟨j0, j1, j2, j3, j4, j5, j6, j7, j8, j9, j10, j11, j12, j13, j14, j15, j16, j17, j18, j19, j20, j21, e0⟩ := HJ.out; exact (j6 p6)
                      have p20 : b 20 = true := hpre 20 (by decide +kernel)
                      obtain rfl : u66 = .bool ov := by obtain ⟨j0, j1, j2, j3, j4, j5, j6, j7, j8, j9, j10, j11, j12, j13, j14, j15, j16, j17, j18, j19, j20, j21, e0⟩ := HJ.out; exact (j20 p20)
                      have HN : Hid (JZK wr g oo g1 gf n nf k m cap cp cf sx sr q ov (fun j => if j = 21 then true else b j) u46 u47 u48 u49 u50 u51 (.bool false) u53 u54 u55 u56 u57 u58 u59 u60 u61 u62 u63 u64 u65 (.bool ov) (.bool ov) x) := by
                        obtain ⟨j0, j1, j2, j3, j4, j5, j6, j7, j8, j9, j10, j11, j12, j13, j14, j15, j16, j17, j18, j19, j20, j21, e0⟩ := HJ.out
                        exact ⟨j0, j1, j2, j3, j4, j5, j6, j7, j8, j9, j10, j11, j12, j13, j14, j15, j16, j17, j18, j19, j20, fun _ => rfl, e0⟩
                      clear HJ hpre
                      go_simp
                      exact hK _ _ ⟨u46, u47, u48, u49, u50, u51, _, u53, u54, u55, u56, u57, u58, u59, u60, u61, u62, u63, u64, u65, _, _, rfl, HN⟩
                  · rintro b a x ⟨u46, u47, u48, u49, u50, u51, u52, u53, u54, u55, u56, u57, u58, u59, u60, u61, u62, u63, u64, u65, u66, u67, rfl, HJ⟩ hall
                    have HRel : Hid (u67 = .bool ov ∧ Below wr.heap.size wr x) := by
                      obtain ⟨j0, j1, j2, j3, j4, j5, j6, j7, j8, j9, j10, j11, j12, j13, j14, j15, j16, j17, j18, j19, j20, j21, e0⟩ := HJ.out
                      exact ⟨j21 (hall 21 (by decide)), e0⟩
                    clear HJ hall
                    go_wp2_with fail
                    go_meet
                    exact ⟨HRel.out.1, HRel.out.2⟩
              case rest =>
                obtain ⟨rfl, H3⟩ := hcut
                generalize wc = w3 at *
                have H4 : Hid (OwS cb w3 u11 (cliS q :: ((A.take m).filter (witP q)).map Prod.fst) ∧ Below cb wo w3 ∧ cb ≤ w3.heap.size ∧ Below B w2 w3) := by
                  obtain ⟨a1, a2⟩ := HM.out
                  exact ⟨a1.below H3.out, a2.trans (H3.out.mono HBm.out.2.2.1), Nat.le_trans HBm.out.2.2.1 H3.out.size, HBm.out.1.trans (H3.out.mono HBm.out.2.1)⟩
                clear H3 HPL HOvr HDr HAX HWP
                cases bw with
                | false =>
                  have HRel : Hid (OwS cb w3 u11 (cliS q :: ((A.take (m + 1)).filter (witP q)).map Prod.fst) ∧ Below cb wo w3) := by
                    have e : (A.take (m + 1)).filter (witP q) = (A.take m).filter (witP q) := by rw [HP.out.2.1, List.filter_append]; simp [← HBWP.out]
                    rw [e]
                    exact ⟨H4.out.1, H4.out.2.1⟩
                  clear H4 HM HAT
                  go_wp2
                  go_roundw
                  case rel => exact ⟨m + 1, by go_num, by omega, HRel⟩
                  case measure => simp [intOf]; omega
                | true =>
                  obtain ⟨O, hO⟩ : ∃ O, O = cliS q :: ((A.take m).filter (witP q)).map Prod.fst := ⟨_, rfl⟩
                  obtain ⟨no, hno⟩ : ∃ no, no = O.length := ⟨_, rfl⟩
                  have HOn : Hid (O = cliS q :: ((A.take m).filter (witP q)).map Prod.fst ∧ no = O.length) := ⟨hO, hno⟩
                  have hnok : no ≤ m + 1 := by
                    have h1 := List.length_filter_le (witP q) (A.take m)
                    have h2 : (A.take m).length ≤ m := by rw [List.length_take]; omega
                    rw [hno, hO, List.length_cons, List.length_map]
                    omega
                  have HON : Hid (cliS q :: ((A.take (m + 1)).filter (witP q)).map Prod.fst = O ++ [sx]) := by
                    unfold Hid
                    rw [HP.out.2.1, List.filter_append, hO, HXR.out.1]
                    simp [← HBWP.out]
                  have HA : Hid (∀ o, (w3.alloc o).ownsRow cb 48 15 u11 no (flatZ O) ∧ cb ≤ (w3.alloc o).heap.size) := fun o => by
                    have h := H4.out.1
                    rw [← hO] at h
                    unfold OwS at h
                    rw [← hno] at h
                    exact ⟨row_below h ((Below.refl _ _).alloc (Nat.le_refl _) _), by have := H4.out.2.2.1; simp; omega⟩
                  obtain ⟨x0, x1, x2, x3, x4, x5, x6, x7, x8, x9, x10, x11, x12, x13, x14⟩ := (HAT.out _ H4.out.2.2.2).1.1
                  obtain ⟨ki, kz0, kz1, kz2⟩ := HI.out
                  have hc3 : Hid (no + 1 ≤ maxLen) := by unfold Hid maxLen; omega
                  have hc4 : Hid ((no + 1) * 72 ≤ 140737488355328) := by unfold Hid; omega
                  clear hO hno
                  go_wp2_with (at_builtin; refine wpList_append_lies _ rfl _ _ 22 rfl cb 48 j0 (.agg #[.int .u8 0, .int .i64 0, .int .i64 0, .int .i64 0, .int .i64 0, .int .u8 0, .int .u8 0, .int .u8 0, .int .u8 0, .int .u8 0, .int .u8 0, .int .u8 0, .int .u8 0, .string ByteArray.empty, .int .i64 0]) 15 72 Tryz.underlying22 ki kz0 kz1 kz2 rfl (by decide) u11 no (flatZ O) rfl (HA.out _).1 _ 1 1 (sCel sx) rfl rfl (cell_strokeB _ _ _ _ rfl) (oneZ sx) (by decide) hc3.out hc4.out (HA.out _).2 _ rfl ?_)
                  intro g4 cap4 w6 hown' hgrow hlies hg4
                  have HRel : Hid (OwS cb w6 (.slice (some ⟨g4, 0, none⟩) (no + 1) cap4) (cliS q :: ((A.take (m + 1)).filter (witP q)).map Prod.fst) ∧ Below cb wo w6) := by
                    have b3 : Below cb wo (w3.alloc (.cells (#[.int .u8 sx.k, .int .i64 sx.r.x, .int .i64 sx.r.y, .int .i64 sx.r.w, .int .i64 sx.r.h, .int .u8 sx.c.r, .int .u8 sx.c.g, .int .u8 sx.c.b, .int .u8 sx.c.a, .int .u8 sx.b.r, .int .u8 sx.b.g, .int .u8 sx.b.b, .int .u8 sx.b.a, .string sx.t, .int .i64 sx.n]) 48)) := H4.out.2.1.alloc H4.out.2.2.1 _
                    have b4 : Below cb wo w6 := b3.grown hgrow (HA.out _).2 (fun g hg => (row_lt (HA.out (.cells (#[.int .u8 sx.k, .int .i64 sx.r.x, .int .i64 sx.r.y, .int .i64 sx.r.w, .int .i64 sx.r.h, .int .u8 sx.c.r, .int .u8 sx.c.g, .int .u8 sx.c.b, .int .u8 sx.c.a, .int .u8 sx.b.r, .int .u8 sx.b.g, .int .u8 sx.b.b, .int .u8 sx.b.a, .string sx.t, .int .i64 sx.n]) 48)).1 g hg).1)
                    rw [HON.out]
                    exact ⟨snocS HOn.out.2 hown', b4⟩
                  clear hown' hgrow hlies hg4 HA H4 HM HAT x0 x1 x2 x3 x4 x5 x6 x7 x8 x9 x10 x11 x12 x13 x14 ki kz0 kz1 kz2
                  go_wp2
                  go_roundw
                  case rel => exact ⟨m + 1, by go_num, by omega, HRel⟩
                  case measure => simp [intOf]; omega
            · obtain rfl : m = n := by omega
              obtain ⟨O, hO⟩ : ∃ O, O = cliS q :: (A.filter (witP q)).map Prod.fst := ⟨_, rfl⟩
              obtain ⟨no, hno⟩ : ∃ no, no = O.length := ⟨_, rfl⟩
              have HOn : Hid (O = cliS q :: (A.filter (witP q)).map Prod.fst ∧ no = O.length) := ⟨hO, hno⟩
              have hnok : no ≤ m + 1 := by
                have h1 := List.length_filter_le (witP q) A
                rw [HLen.out] at h1
                rw [hno, hO, List.length_cons, List.length_map]
                omega
              have HMO : Hid (OwS cb wr u11 O ∧ Below cb wo wr ∧ cb ≤ wr.heap.size) := by
                obtain ⟨a1, a2⟩ := HM.out
                rw [← HLen.out, List.take_length, ← hO] at a1
                refine ⟨a1, a2, ?_⟩
                have h := a2.size
                rw [HCB.out]
                exact h
              have HA : Hid (∀ o, (wr.alloc o).ownsRow cb 48 15 u11 no (flatZ O) ∧ cb ≤ (wr.alloc o).heap.size) := fun o => by
                have h := HMO.out.1
                unfold OwS at h
                rw [← hno] at h
                exact ⟨row_below h ((Below.refl _ _).alloc (Nat.le_refl _) _), by have := HMO.out.2.2; simp; omega⟩
              obtain ⟨ki, kz0, kz1, kz2⟩ := HI.out
              have hc3 : Hid (no + 1 ≤ maxLen) := by unfold Hid maxLen; omega
              have hc4 : Hid ((no + 1) * 72 ≤ 140737488355328) := by unfold Hid; omega
              clear hO hno HM
              go_wp2_with (at_builtin; refine wpList_append_lies _ rfl _ _ 22 rfl cb 48 j0 (.agg #[.int .u8 0, .int .i64 0, .int .i64 0, .int .i64 0, .int .i64 0, .int .u8 0, .int .u8 0, .int .u8 0, .int .u8 0, .int .u8 0, .int .u8 0, .int .u8 0, .int .u8 0, .string ByteArray.empty, .int .i64 0]) 15 72 Tryz.underlying22 ki kz0 kz1 kz2 rfl (by decide) u11 no (flatZ O) rfl (HA.out _).1 _ 1 1 (sCel opeS) rfl rfl (cell_strokeB _ opeS _ _ rfl) (oneZ opeS) (by decide) hc3.out hc4.out (HA.out _).2 _ rfl ?_)
              intro g4 cap4 w6 hown' hgrow hlies hg4
              obtain ⟨PV, hPV⟩ : ∃ PV, PV = (FM.take k).flatMap grp := ⟨_, rfl⟩
              obtain ⟨np, hnp⟩ : ∃ np, np = PV.length := ⟨_, rfl⟩
              have HPV : Hid (PV = (FM.take k).flatMap grp ∧ np = PV.length) := ⟨hPV, hnp⟩
              have hnp : np ≤ 16384 := by rw [hnp, hPV]; exact HK.out.2.1
              have H6 : Hid (OwS cb w6 (.slice (some ⟨g4, 0, none⟩) (no + 1) cap4) (O ++ [opeS]) ∧ OwS B w6 u9 PV ∧ Below B w2 w6 ∧ B ≤ w6.heap.size) := by
                have b3 : Below cb wo (wr.alloc (.cells (#[.int .u8 opeS.k, .int .i64 opeS.r.x, .int .i64 opeS.r.y, .int .i64 opeS.r.w, .int .i64 opeS.r.h, .int .u8 opeS.c.r, .int .u8 opeS.c.g, .int .u8 opeS.c.b, .int .u8 opeS.c.a, .int .u8 opeS.b.r, .int .u8 opeS.b.g, .int .u8 opeS.b.b, .int .u8 opeS.b.a, .string opeS.t, .int .i64 opeS.n]) 48)) := HMO.out.2.1.alloc HMO.out.2.2 _
                have b4 : Below cb wo w6 := b3.grown hgrow (HA.out _).2 (fun g hg => (row_lt (HA.out (.cells (#[.int .u8 opeS.k, .int .i64 opeS.r.x, .int .i64 opeS.r.y, .int .i64 opeS.r.w, .int .i64 opeS.r.h, .int .u8 opeS.c.r, .int .u8 opeS.c.g, .int .u8 opeS.c.b, .int .u8 opeS.c.a, .int .u8 opeS.b.r, .int .u8 opeS.b.g, .int .u8 opeS.b.b, .int .u8 opeS.b.a, .string opeS.t, .int .i64 opeS.n]) 48)).1 g hg).1)
                rw [HCB.out] at b4
                rw [hPV]
                exact ⟨snocS HOn.out.2 hown', HK.out.1.below b4, HK.out.2.2.trans (b4.mono hsz.out), Nat.le_trans hsz.out b4.size⟩
              clear hown' hgrow hlies hg4 HA HMO hPV
              have HBz : Hid (Calls Tryz.prog 37 #[.slice (some ⟨g4, 0, none⟩) (no + 1) cap4] w6 fun e w' => ∃ u, e = .returned u ∧ OwS w6.heap.size w' u (grp q) ∧ Below w6.heap.size w6 w') := by
                have h := zbusy_any (O ++ [opeS]) _ w6 H6.out.1.lss (by rw [List.length_append, List.length_singleton, ← HOn.out.2]; omega)
                rw [HGq.out q, ← List.cons_append, ← HOn.out.1]
                exact h
              have hgq : Hid ((grp q).length ≤ m + 2) := HGL.out q
              go_wp2_with fail
              refine HBz.out.mono ?_
              rintro e w7 ⟨ub, rfl, hub, hb7⟩
              obtain ⟨obz, cbz, eub, hcbz, _⟩ := row_val hub
              subst eub
              obtain ⟨ng, hng⟩ : ∃ ng, ng = (grp q).length := ⟨_, rfl⟩
              have hng2 : ng ≤ m + 2 := by rw [hng]; exact hgq.out
              have H7 : Hid (LsS w7 (.slice obz ng cbz) (grp q) ∧ NoNil (.slice obz ng cbz) ∧ w7.ownsRow B 48 15 u9 np (flatZ PV) ∧ Below B w2 w7 ∧ B ≤ w7.heap.size ∧ ng = (grp q).length) := by
                rw [hng]
                refine ⟨hub.lss, own_nil hub, ?_, H6.out.2.2.1.trans (hb7.mono H6.out.2.2.2), Nat.le_trans H6.out.2.2.2 hb7.size, rfl⟩
                have h := H6.out.2.1.below hb7
                unfold OwS at h
                rw [← HPV.out.2] at h
                exact h
              rw [← hng] at hcbz ⊢
              clear hub hb7 hng HBz
              go_wp2_with (at_builtin; refine app_moreS rfl _ _ rfl j0 Tryz.underlying22 ki kz0 kz1 kz2 B u9 PV np HPV.out.2 rfl H7.out.2.2.1 H7.out.2.2.2.2.1 (grp q) obz cbz ng H7.out.2.2.2.2.2 rfl H7.out.1 H7.out.2.1 (by omega) ?_)
              intro v8 w8 H8
              have H9 : Hid (OwS B w8 v8 ((FM.take (k + 1)).flatMap grp) ∧ Below B w2 w8 ∧ ((FM.take (k + 1)).flatMap grp).length = np + ng) := by
                rw [HTk.out, ← HPV.out.1]
                exact ⟨H8.out.1, H7.out.2.2.2.1.grown H8.out.2 H7.out.2.2.2.2.1 (fun g hg => (row_lt H7.out.2.2.1 g hg).1), by rw [List.length_append, ← HPV.out.2, ← H7.out.2.2.2.2.2]⟩
              obtain ⟨o8, c8, e8, hc8, _⟩ := row_val H9.out.1
              rw [H9.out.2.2] at e8 hc8
              subst e8
              clear H8 H7 H6 ki kz0 kz1 kz2
              by_cases hbig : 16384 < np + ng
              · have hbig' : (16384 : Int) < ((np + ng : Nat) : Int) := by omega
                have HEE : Hid (R2 = 4 ∧ R1 = []) := by
                  refine HE.out.1 ?_
                  rw [HWf.out, HTi.out, List.length_append, H9.out.2.2]
                  omega
                have HFin : Hid (Below w.heap.size w w8) := by
                  have h := H9.out.2.1
                  rw [HB.out] at h
                  exact HBw.out.trans (h.mono HBw.out.size)
                clear H9 HK
                go_wp2
                go_ret2
                refine ⟨.slice none 0 0, ?_, ?_⟩
                · rw [HEE.out.1]
                  rfl
                · rw [HEE.out.2]
                  exact ⟨OwS.nil _ _, HFin.out⟩
              · have hbig' : ¬ (16384 : Int) < ((np + ng : Nat) : Int) := by omega
                have HRel : Hid (OwS B w8 (.slice o8 (np + ng) c8) ((FM.take (k + 1)).flatMap grp) ∧ ((FM.take (k + 1)).flatMap grp).length ≤ 16384 ∧ Below B w2 w8) := ⟨H9.out.1, by rw [H9.out.2.2]; omega, H9.out.2.1⟩
                clear H9 HK
                go_wp2
                go_roundw
                case rel => exact ⟨k + 1, by go_num, by omega, HRel⟩
                case measure => simp [intOf]; omega
        · obtain rfl : k = nf := by omega
          have HF : Hid (OwS w.heap.size wr u9 R1 ∧ Below w.heap.size w wr ∧ R2 = 0) := by
            obtain ⟨a1, a2, a3⟩ := HK.out
            rw [HNf.out, List.take_length] at a1 a2
            obtain ⟨e1, e2⟩ := HE.out.2 (by rw [HWf.out]; omega)
            rw [e2, HWf.out]
            rw [HB.out] at a1 a3
            exact ⟨a1.weaken HBw.out.size, HBw.out.trans (a3.mono HBw.out.size), e1⟩
          clear HK
          go_wp2
          go_ret2
          refine ⟨u9, ?_, HF.out.1, HF.out.2.1⟩
          rw [HF.out.2.2]
          rfl

end Go.Proofs.YtbghjmkgicdnoaaGreat
