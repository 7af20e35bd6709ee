/-
  What is left is shared out: settle.
-/
import Derived.Test.YthnhcphkpffkfaaGreatXE
namespace Go.Proofs.YthnhcphkpffkfaaGreat
open Go.RowKit

/-- One gets something. -/
theorem Sh.give {w0 : World} {T : List Tk} {tv : Value} {pb sb : Nat} {ov : Value} {f : Nat → Int → Int} {op : List Nat} {s : List Int × Int} {k : Nat} {w : World} (hk : k < op.length) (h : Sh w0 T tv pb sb ov (fld f (op.take k) s).1 (fld f (op.take k) s).2 w) (ho : OwI w0.heap.size w ov (natI op)) (ha : ov.ownBlock ≠ some sb) :
    Sh w0 T tv pb sb ov (fld f (op.take (k + 1)) s).1 (fld f (op.take (k + 1)) s).2 ((w.setCell ⟨sb, op[k], none⟩ (.int .i64 ((fld f (op.take k) s).1.getD op[k] 0 + f op[k] (fld f (op.take k) s).2))).setCell ⟨pb, 3, none⟩ (.int .i64 ((fld f (op.take k) s).2 - f op[k] (fld f (op.take k) s).2))) ∧
    OwI w0.heap.size ((w.setCell ⟨sb, op[k], none⟩ (.int .i64 ((fld f (op.take k) s).1.getD op[k] 0 + f op[k] (fld f (op.take k) s).2))).setCell ⟨pb, 3, none⟩ (.int .i64 ((fld f (op.take k) s).2 - f op[k] (fld f (op.take k) s).2))) ov (natI op) := by
  have hne := own_typ ho h.pbk (by decide)
  refine ⟨?_, ho.ex2 (((Ex2.refl sb pb w).seta _ _).setb _ _) ha hne⟩
  rw [← List.take_append_getElem hk, fld_snoc]
  exact h.put _ _ _
theorem nod_take {op : List Nat} (h : op.Nodup) {k : Nat} (hk : k < op.length) : op[k] ∉ op.take k := by
  intro hm
  rw [List.mem_take_iff_getElem] at hm
  obtain ⟨j, hj, e⟩ := hm
  have := (List.getElem_inj h).1 e
  omega
def f1 (T : List Tk) (left g : Int) (i : Nat) (x : Int) : Int := hF1 left g (tkA T i) x
def f2 (T : List Tk) (i : Nat) (x : Int) : Int := hF2 (tkA T i) x
theorem div_bd {left g gr : Int} (hl : 0 ≤ left ∧ left ≤ 32768) (hr : 0 ≤ gr ∧ gr ≤ 16384) (hg : 0 < g) : 0 ≤ (left * gr) / g ∧ (left * gr) / g ≤ 536870912 := by
  have := mul_bd hl.1 hl.2 hr.1 hr.2
  exact ⟨Int.ediv_nonneg this.1 (by omega), Int.le_trans (Int.ediv_le_self _ this.1) this.2⟩
theorem set_one {w0 : World} {T : List Tk} {tv : Value} {L : List Ce} {lf : Int} (h : Stat w0 T tv L lf) : fld (f1 T lf (gsum L)) (opn 0 L) (L.map (·.o), lf) = ((L.map (ad1 lf (gsum L))).map (·.o), lf - flrS lf (gsum L) L) := by
  have e := fld_adv (hF1 lf (gsum L)) T L 0 [] lf rfl h.drop
  rw [adv_one] at e
  exact e
theorem set_two {w0 : World} {T : List Tk} {tv : Value} {L : List Ce} {lf : Int} (h : Stat w0 T tv L lf) : (fld (f2 T) (opn 0 L) ((L.map (ad1 lf (gsum L))).map (·.o), lf - flrS lf (gsum L) L)).1 = setl lf L := by
  have e := fld_adv hF2 T (L.map (ad1 lf (gsum L))) 0 [] (lf - flrS lf (gsum L) L) rfl (by rw [ad1_tk]; exact h.drop)
  rw [ad1_opn] at e
  unfold setl
  exact congrArg Prod.fst e
theorem ad_bd {w0 : World} {T : List Tk} {tv : Value} {L : List Ce} {lf : Int} (h : Stat w0 T tv L lf) (hg : 0 < gsum L) : ∀ i ∈ opn 0 L, 0 ≤ ((L.map (ad1 lf (gsum L))).map (·.o)).getD i 0 ∧ ((L.map (ad1 lf (gsum L))).map (·.o)).getD i 0 ≤ 536887296 := fun i hi => by
  obtain ⟨k, hk, e, hp⟩ := opn_mem L 0 i hi
  have e2 : i = k := by omega
  subst e2
  obtain ⟨k1, k2, _⟩ := h.inv.2 L[i] (List.getElem_mem hk)
  obtain ⟨o1, o2, _, o4, o5⟩ := k1
  have e3 : (ad1 lf (gsum L) L[i]).o = L[i].o + (lf * L[i].t.gr) / gsum L := by unfold ad1; rw [if_pos hp]
  rw [getD_at (by simpa using hk), List.getElem_map, List.getElem_map, e3, (k2 hp).2]
  have := div_bd ⟨h.inv.1, h.hl⟩ ⟨o4, o5⟩ hg
  omega
theorem opn_pos {w0 : World} {T : List Tk} {tv : Value} {L : List Ce} {lf : Int} (h : Stat w0 T tv L lf) (hp : 0 < (opn 0 L).length) : 0 < gsum L := by
  rw [opn_len] at hp
  have h1 : gsum L ≠ 0 := fun e => by have := cnt_none h.inv.gro e; omega
  have := gsum_nn h.inv.gro
  omega

theorem row_at {lo : Nat} {w : World} {oa : Option Addr} {cap : Nat} {op : List Nat} (h : OwI lo w (.slice oa op.length cap) (natI op)) {k : Nat} (hk : k < op.length) : ∃ og, oa = some ⟨og, 0, none⟩ ∧ w.cell? ⟨og, k, none⟩ = some (.int .i64 op[k]) := by
  obtain ⟨oa', cap', e, _, hg⟩ := h.is
  obtain ⟨_, _, e3, _, h4⟩ := row_val h
  obtain ⟨g', e4, _⟩ := h4 (by rw [natI_len]; omega)
  obtain ⟨g, o, e1, _, e2⟩ := hg (by rw [natI_len]; omega)
  injection e with q1 _ _
  injection e3 with q2 _ _
  have y := e2 k (by rw [natI_len]; exact hk)
  rw [natI_at op k hk] at y
  rw [q1, e1] at q2
  rw [e4] at q2
  injection q2 with q2
  injection q2 with q2 q3 _
  subst q2 q3
  rw [Nat.zero_add] at y
  exact ⟨g, q1.trans e1, y⟩

set_option maxRecDepth 10000 in
set_option maxHeartbeats 4000000 in
theorem settle_any (w0 : World) (T : List Tk) (tv : Value) (pb sb : Nat) (L : List Ce) (lf : Int) (w : World) (h : Shr w0 T tv pb sb L lf w) (hs : Stat w0 T tv L lf) :
    Calls Tryz.prog 82 #[.pointer (some ⟨pb, 0, none⟩)] w fun e w' => e = .returned (.tuple #[]) ∧ Hid (∃ ov lf', Sh w0 T tv pb sb ov (setl lf L) lf' w') := by
  obtain ⟨ov, h1, h2, h3⟩ := h
  have HS : Hid (Stat w0 T tv L lf) := hs
  have HA : Hid (ov.ownBlock ≠ some sb) := h3
  have HG : Hid (∀ n, Calls Tryz.prog 92 #[.pointer (some ⟨pb, 0, none⟩)] (w.drewN n) fun e w' => e = .returned (.int .i64 (gsum L)) ∧ w' = w.drewN n) := fun n => by
    have := grow_any w0 T tv pb sb ov _ lf (opn 0 L) (w.drewN n) (h1.below (below_drewK (Below.refl _ _))) hs.hT hs.hn hs.ok (h2.below (below_drewK (Below.refl _ _))).is hs.ops.1 hs.ops.2
    rw [hs.grow.1] at this
    exact this
  have HM : Hid (∀ x b W, W.cell? ⟨b, 0, none⟩ = some (.int .i64 1) → Calls Tryz.prog 63 #[.int .i64 x, .slice (some ⟨b, 0, none⟩) 1 1] W fun e w' => e = .returned (.int .i64 (min x 1)) ∧ w' = W) := fun x b W hb => least_any x 1 b W hb
  have hgs := hs.grow.2
  have hlf : 0 ≤ lf ∧ lf ≤ 32768 := ⟨hs.inv.1, hs.hl⟩
  have hol : (opn 0 L).length ≤ 1024 := hs.ops.2
  have HP : Hid (0 < (opn 0 L).length → 0 < gsum L) := fun hp => opn_pos hs hp
  obtain ⟨c0, c1, c2, c3⟩ := h1.reads
  obtain ⟨oa, cap, e, hc, _⟩ := h2.is
  rw [natI_len] at e hc
  subst e
  have HT : Hid (∀ i ∈ opn 0 L, i < T.length ∧ ∃ tg tq cp : Nat, tv = .slice (some ⟨tg, tq, none⟩) T.length cp ∧ tg < w0.heap.size ∧ TkAt w0 tg (tq + i * 3) (tkA T i) ∧ okT (tkA T i)) := fun i hi => by
    have hlt := hs.ops.1 i hi
    obtain ⟨ta, cp, e, _, hg⟩ := hs.hT
    obtain ⟨tg, tq, e1, e2, e3⟩ := hg (by omega)
    subst e1
    refine ⟨hlt, tg, tq, cp, e, e2, ?_, (hs.has i hi).2⟩
    rw [tk_at hlt]
    exact e3 i hlt
  have H0 : Hid (Sh w0 T tv pb sb (.slice oa (opn 0 L).length cap) (L.map (·.o)) lf w ∧ OwI w0.heap.size w (.slice oa (opn 0 L).length cap) (natI (opn 0 L))) := ⟨h1, h2⟩
  have HN : Hid (∀ {k : Nat} (hk : k < (opn 0 L).length) (f : Nat → Int → Int) (s : List Int × Int), (fld f ((opn 0 L).take k) s).1.getD (opn 0 L)[k] 0 = s.1.getD (opn 0 L)[k] 0) := fun hk f s => fld_at f _ _ s (nod_take (opn_nodup L 0) hk)
  have HZ : Hid (∀ i ∈ opn 0 L, 0 ≤ (L.map (·.o)).getD i 0 ∧ (L.map (·.o)).getD i 0 ≤ 16384) := fun i hi => by
    obtain ⟨e, o1, o2, _⟩ := hs.has i hi
    rw [e]
    exact ⟨o1, o2⟩
  clear h1 h2 h3 hs
  go_enter Tryz.func82, Tryz.ntmps82
  go_wp2_with fail
  go_quiet (first | (go_at_call 92; exact Calls.quiet_of_same (HG.out _)))
  go_wp2_with fail
  have HR1 : Hid (fld (f1 T lf (gsum L)) (opn 0 L) (L.map (·.o), lf) = ((L.map (ad1 lf (gsum L))).map (·.o), lf - flrS lf (gsum L) L)) := set_one HS.out
  have HR2 : Hid ((fld (f2 T) (opn 0 L) ((L.map (ad1 lf (gsum L))).map (·.o), lf - flrS lf (gsum L) L)).1 = setl lf L) := set_two HS.out
  have HB2 : Hid (0 < gsum L → (∀ i ∈ opn 0 L, 0 ≤ ((L.map (ad1 lf (gsum L))).map (·.o)).getD i 0 ∧ ((L.map (ad1 lf (gsum L))).map (·.o)).getD i 0 ≤ 536887296) ∧ 0 ≤ lf - flrS lf (gsum L) L ∧ lf - flrS lf (gsum L) L ≤ 1024) := fun hg => by
    refine ⟨ad_bd HS.out hg, ?_⟩
    have h1 := over_in (left := lf) hg
    have h2 := opn_len L 0
    omega
  have H1 : Hid (∀ n, Sh w0 T tv pb sb (.slice oa (opn 0 L).length cap) (fld (f1 T lf (gsum L)) ((opn 0 L).take 0) (L.map (·.o), lf)).1 (fld (f1 T lf (gsum L)) ((opn 0 L).take 0) (L.map (·.o), lf)).2 (w.drewN n) ∧ OwI w0.heap.size (w.drewN n) (.slice oa (opn 0 L).length cap) (natI (opn 0 L))) := fun n => ⟨H0.out.1.below (below_drewK (Below.refl _ _)), H0.out.2.below (below_drewK (Below.refl _ _))⟩
  clear H0 HG c0 c1 c2 c3 HS
  generalize gsum L = gs at *
  generalize opn 0 L = op at *
  generalize L.map (·.o) = sz0 at *
  generalize (L.map (ad1 lf gs)).map (·.o) = sz1 at *
  generalize lf - flrS lf gs L = lf1 at *
  go_loopw [5, 6, 21] (fun _ _ i wr => ∃ k : Nat, i = .int .i64 k ∧ k ≤ op.length ∧ Hid (Sh w0 T tv pb sb (.slice oa op.length cap) (fld (f1 T lf gs) (op.take k) (sz0, lf)).1 (fld (f1 T lf gs) (op.take k) (sz0, lf)).2 wr ∧ OwI w0.heap.size wr (.slice oa op.length cap) (natI op))) (fun _ _ i _ => op.length - (intOf i).toNat)
  case atStart => exact ⟨0, rfl, Nat.zero_le _, H1.out _⟩
  case round =>
    obtain ⟨k, rfl, hk, HK⟩ := hrel
    clear H1
    by_cases hlt : k < op.length
    · have ik : (k : Int) < op.length := by omega
      obtain ⟨hi, tg, tq, cp, rfl, htg, hx, hko⟩ := HT.out op[k] (List.getElem_mem hlt)
      have hg0 := HP.out (by omega)
      have hgv := Sh.give hlt HK.out.1 HK.out.2 HA.out
      obtain ⟨og, rfl, y0⟩ := row_at HK.out.2 hlt
      obtain ⟨c0, c1, c2, c3⟩ := HK.out.1.reads
      have hil : op[k] < (fld (f1 T lf gs) (op.take k) (sz0, lf)).1.length := by rw [HK.out.1.len]; exact hi
      have z0 : wr.cell? ⟨sb, op[k], none⟩ = some (.int .i64 ((fld (f1 T lf gs) (op.take k) (sz0, lf)).1.getD op[k] 0)) := by rw [getD_at hil]; exact HK.out.1.siz.at _ hil
      have hzb := HZ.out op[k] (List.getElem_mem hlt)
      have hfa := HN.out hlt (f1 T lf gs) (sz0, lf)
      have hlb := fld_lf (f1 T lf gs) 536870912 (op.take k) (sz0, lf) fun i hi x => by
        obtain ⟨_, _, _, _, _, _, _, ho⟩ := HT.out i (List.mem_of_mem_take hi)
        exact div_bd hlf ⟨ho.2.2.2.1, ho.2.2.2.2⟩ hg0
      have hlen : (op.take k).length ≤ 1024 := by simp; omega
      rw [hfa] at z0 hgv
      have fa := HK.out.1.siz.frozen op[k]
      have fb := HK.out.1.pbk.frozen 3
      obtain ⟨x0, x1, x2⟩ := hx.below HK.out.1.bel htg
      have nps : ¬ pb = sb := HK.out.1.ne
      have nsp : ¬ sb = pb := fun e => nps e.symm
      have hfd : f1 T lf gs op[k] (fld (f1 T lf gs) (op.take k) (sz0, lf)).2 = (lf * (tkA T op[k]).gr) / gs := rfl
      rw [hfd] at hgv
      have hbx : -549755813888 ≤ (fld (f1 T lf gs) (op.take k) (sz0, lf)).2 ∧ (fld (f1 T lf gs) (op.take k) (sz0, lf)).2 ≤ 32768 := by simp only at hlb; omega
      have hb1 := mul_bd hlf.1 hlf.2 hko.2.2.2.1 hko.2.2.2.2
      have hb2 := div_bd hlf ⟨hko.2.2.2.1, hko.2.2.2.2⟩ hg0
      obtain ⟨d, Hd⟩ : ∃ d, Hid (d = (lf * (tkA T op[k]).gr) / gs) := ⟨(lf * (tkA T op[k]).gr) / gs, by unfold Hid; rfl⟩
      rw [← Hd.out] at hgv hb2
      have ht : Int.tdiv (lf * (tkA T op[k]).gr) gs = d := by rw [Hd.out]; exact Int.tdiv_eq_ediv_of_nonneg hb1.1
      have HGv : Hid _ := hgv
      clear HK hgv hx hko hfa hlb hil hfd Hd
      generalize (fld (f1 T lf gs) (op.take k) (sz0, lf)).2 = x at *
      generalize (tkA T op[k]) = q at *
      have hw1 : IntKind.i64.wrap (lf * q.gr) = lf * q.gr := by rw [IntKind.wrap_i64]; omega
      generalize (sz0.getD op[k] 0) = z at *
      have hw2 : IntKind.i64.wrap d = d := by rw [IntKind.wrap_i64]; omega
      have hw3 : IntKind.i64.wrap (z + d) = z + d := by rw [IntKind.wrap_i64]; omega
      have hw4 : IntKind.i64.wrap (x - d) = x - d := by rw [IntKind.wrap_i64]; omega
      have hg1 : (gs == 0) = false := beq_eq_false_iff_ne.2 (by omega)
      have ii : (op[k] : Int) < T.length := by omega
      generalize hopk : op[k] = i at *
      clear hopk
      go_wp2
      exact ⟨⟨k + 1, by go_num, by omega, HGv⟩, by simp [intOf]; omega⟩
    · obtain rfl : k = op.length := by omega
      have H2 : Hid (Sh w0 T tv pb sb (.slice oa op.length cap) (fld (f2 T) (op.take 0) (sz1, lf1)).1 (fld (f2 T) (op.take 0) (sz1, lf1)).2 wr ∧ OwI w0.heap.size wr (.slice oa op.length cap) (natI op)) := by
        have := HK.out
        rw [List.take_length, HR1.out] at this
        exact this
      obtain ⟨c0, c1, c2, c3⟩ := HK.out.1.reads
      clear HK
      go_wp2_with fail
      go_loopw [8, 9, 61] (fun _ _ i wr => ∃ k : Nat, i = .int .i64 k ∧ k ≤ op.length ∧ Hid (Sh w0 T tv pb sb (.slice oa op.length cap) (fld (f2 T) (op.take k) (sz1, lf1)).1 (fld (f2 T) (op.take k) (sz1, lf1)).2 wr ∧ OwI w0.heap.size wr (.slice oa op.length cap) (natI op))) (fun _ _ i _ => op.length - (intOf i).toNat)
      case atStart => exact ⟨0, rfl, Nat.zero_le _, H2⟩
      case round =>
        obtain ⟨k, rfl, hk, HK⟩ := hrel
        clear H2 c0 c1 c2 c3
        by_cases hlt : k < op.length
        · have ik : (k : Int) < op.length := by omega
          obtain ⟨hi, _⟩ := HT.out op[k] (List.getElem_mem hlt)
          have hg0 := HP.out (by omega)
          have HBl : Hid (∀ o, Below wr.heap.size wr (wr.alloc o)) := fun o => (Below.refl _ _).alloc (Nat.le_refl _) o
          have hgv := Sh.give hlt HK.out.1 HK.out.2 HA.out
          obtain ⟨og, rfl, y0⟩ := row_at HK.out.2 hlt
          obtain ⟨c0, c1, c2, c3⟩ := HK.out.1.reads
          have hil : op[k] < (fld (f2 T) (op.take k) (sz1, lf1)).1.length := by rw [HK.out.1.len]; exact hi
          have z0 : wr.cell? ⟨sb, op[k], none⟩ = some (.int .i64 ((fld (f2 T) (op.take k) (sz1, lf1)).1.getD op[k] 0)) := by rw [getD_at hil]; exact HK.out.1.siz.at _ hil
          obtain ⟨hz1, hz2, hz3⟩ := HB2.out hg0
          have hzb := hz1 op[k] (List.getElem_mem hlt)
          have hfa := HN.out hlt (f2 T) (sz1, lf1)
          have hlb : 0 ≤ (fld (f2 T) (op.take k) (sz1, lf1)).2 ∧ (fld (f2 T) (op.take k) (sz1, lf1)).2 ≤ lf1 := fld_one (op.take k) (sz1, lf1) hz2
          rw [hfa] at z0
          simp only [hfa] at hgv
          have fa := HK.out.1.siz.frozen op[k]
          have fb := HK.out.1.pbk.frozen 3
          have lsb := HK.out.1.siz.lt
          have lpb := HK.out.1.pbk.lt
          have nps : ¬ pb = sb := HK.out.1.ne
          have nsp : ¬ sb = pb := fun e => nps e.symm
          have ns1 : ¬ sb = wr.heap.size := by omega
          have np1 : ¬ pb = wr.heap.size := by omega
          have hfd : f2 T op[k] (fld (f2 T) (op.take k) (sz1, lf1)).2 = min (fld (f2 T) (op.take k) (sz1, lf1)).2 1 := rfl
          simp only [hfd] at hgv
          have HGv : Hid (∀ o, _ ∧ _) := fun o => ⟨hgv.1.below ((Below.refl _ _).alloc (Nat.le_refl _) o), hgv.2.below ((Below.refl _ _).alloc (Nat.le_refl _) o)⟩
          clear HK hgv hfa hil hfd hz1
          generalize (fld (f2 T) (op.take k) (sz1, lf1)).2 = x at *
          obtain ⟨d, Hd⟩ : ∃ d, Hid (d = min x 1) := ⟨_, rfl⟩
          have hd : 0 ≤ d ∧ d ≤ 1 := by have := Hd.out; omega
          rw [← Hd.out] at HGv
          have HMx : Hid (∀ b W, W.cell? ⟨b, 0, none⟩ = some (.int .i64 1) → Calls Tryz.prog 63 #[.int .i64 x, .slice (some ⟨b, 0, none⟩) 1 1] W fun e w' => e = .returned (.int .i64 d) ∧ w' = W) := fun b W hb => by rw [Hd.out]; exact HM.out x b W hb
          generalize (sz1.getD op[k] 0) = z at *
          have hw3 : IntKind.i64.wrap (z + d) = z + d := by rw [IntKind.wrap_i64]; omega
          have hw4 : IntKind.i64.wrap (x - d) = x - d := by rw [IntKind.wrap_i64]; omega
          have ii : (op[k] : Int) < T.length := by omega
          generalize hopk : op[k] = i at *
          clear hopk Hd
          go_wp2_with fail
          refine (HMx.out _ _ (by rw [(Bk.new wr #[.int .i64 1] 3).cell]; rfl)).mono ?_
          rintro e w1 ⟨rfl, rfl⟩
          go_wp2
          exact ⟨⟨k + 1, by go_num, by omega, HGv.out _⟩, by simp [intOf]; omega⟩
        · obtain rfl : k = op.length := by omega
          have HF : Hid (∃ ov lf', Sh w0 T tv pb sb ov (setl lf L) lf' wr) := by
            have := HK.out.1
            rw [List.take_length, HR2.out] at this
            exact ⟨_, _, this⟩
          clear HK
          go_wp2
          go_end0
          exact ⟨rfl, HF⟩

end Go.Proofs.YthnhcphkpffkfaaGreat
