/-
  The document's sharing.
-/
import Derived.Test.YthnhcphkpffkfaaGreatXQ
namespace Go.Proofs.YthnhcphkpffkfaaGreat
open Go.RowKit

theorem les_bd (left g : Int) : ∀ (L : List Ce), (∀ c ∈ L, okT c.t) → 0 ≤ lesS left g L ∧ lesS left g L ≤ L.length * 16384
  | [], _ => by simp [lesS]
  | c :: l, h => by
    have ih := les_bd left g l fun d hd => h d (by simp [hd])
    obtain ⟨h1, h2, h3, _⟩ := h c (by simp)
    rw [lesS, List.length_cons, Int.natCast_add]
    split
    · next hf =>
      unfold fulB at hf
      simp only [Bool.and_eq_true, decide_eq_true_eq] at hf
      have := (lak_of hf.2.1).2
      omega
    · omega
theorem flr_bd {left g : Int} (hl : 0 ≤ left ∧ left ≤ 32768) (hg : 0 < g) : ∀ (L : List Ce), (∀ c ∈ L, okT c.t) → 0 ≤ flrS left g L ∧ flrS left g L ≤ L.length * 536870912
  | [], _ => by simp [flrS]
  | c :: l, h => by
    have ih := flr_bd hl hg l fun d hd => h d (by simp [hd])
    obtain ⟨_, _, _, h4, h5⟩ := h c (by simp)
    have := div_bd hl ⟨h4, h5⟩ hg
    rw [flrS, List.length_cons, Int.natCast_add]
    split <;> omega
theorem gsum_bd : ∀ (L : List Ce), (∀ c ∈ L, okT c.t) → 0 ≤ gsum L ∧ gsum L ≤ L.length * 16384
  | [], _ => by simp [gsum]
  | c :: l, h => by
    have ih := gsum_bd l fun d hd => h d (by simp [hd])
    obtain ⟨_, _, _, h4, h5⟩ := h c (by simp)
    rw [gsum, List.length_cons, Int.natCast_add]
    split <;> omega
theorem Dr.putQ {w0 : World} {go gp n co cp : Nat} {L : List Ce} {w : World} (h : Dr w0 (.slice (some ⟨go, 0, none⟩) n co) (.slice (some ⟨gp, 0, none⟩) n cp) L w) (hn : L.length = n) (hne : go ≠ gp) (l1 : w0.heap.size ≤ go) (k : Nat) (c d : Ce) (hd : L[k]? = some d) (hp : c.p = d.p) :
    Dr w0 (.slice (some ⟨go, 0, none⟩) n co) (.slice (some ⟨gp, 0, none⟩) n cp) (L.set k c) (w.setCell ⟨go, k, none⟩ (.int .i64 c.o)) := by
  obtain ⟨hk, e⟩ := List.getElem?_eq_some_iff.1 hd
  exact h.putO hn hne l1 k hk c (by rw [e]; exact hp)
theorem on_next {ov : Int} {L : List Ce} {k : Nat} (h : k < L.length) : (onE ov (L.take k) ++ L.drop k).set k (if L[k].p = true ∧ 0 < ovR ov (L.take k) then ⟨L[k].t, L[k].p, L[k].o + 1⟩ else L[k]) = onE ov (L.take (k + 1)) ++ L.drop (k + 1) ∧ ovR ov (L.take (k + 1)) = ovR ov (L.take k) - if L[k].p = true ∧ 0 < ovR ov (L.take k) then 1 else 0 := by
  have hl : (onE ov (L.take k)).length = k := by rw [onE_len]; simp; omega
  have hs := onE_snoc (L.take k) ov L[k]
  rw [List.take_append_getElem h] at hs
  rw [hs.1, hs.2]
  refine ⟨?_, rfl⟩
  rw [List.set_append_right _ _ (by omega), hl, Nat.sub_self, List.drop_eq_getElem_cons h, List.set_cons_zero, List.append_assoc]
  rfl
theorem on_at {ov : Int} {L : List Ce} {k : Nat} (h : k < L.length) : (onE ov (L.take k) ++ L.drop k)[k]? = some L[k] ∧ (onE ov (L.take k) ++ L.drop k).length = L.length := by
  have hl : (onE ov (L.take k)).length = k := by rw [onE_len]; simp; omega
  refine ⟨?_, by rw [List.length_append, hl, List.length_drop]; omega⟩
  rw [List.getElem?_append_right (by omega), hl, Nat.sub_self, List.drop_eq_getElem_cons h]
  rfl
theorem end_none {left : Int} {L : List Ce} (h : gsum L = 0) : endR left L = L.map (·.o) := by
  unfold endR
  rw [shr, if_pos h]
theorem end_spread {left : Int} {L : List Ce} (h : gsum L ≠ 0) (ha : L.any (fulB left (gsum L)) = false) : endR left L = (onE (left - flrS left (gsum L) L) (L.map (ad1 left (gsum L)))).map (·.o) := by
  unfold endR
  rw [shr, if_neg h, if_neg (by rw [ha]; decide), onE_sprd]
/-- First: all have their least. -/
theorem ini_take {T : List Tk} {k : Nat} (h : k < T.length) : ini (T.take (k + 1)) = ini (T.take k) ++ [⟨T[k], decide (0 < T[k].gr), T[k].mn⟩] := by
  unfold ini
  rw [← List.take_append_getElem h, List.map_append]
  rfl
theorem ini_tl (T : List Tk) (k : Nat) (h : k ≤ T.length) : (ini (T.take k)).length = k := by rw [ini_len]; simp; omega

set_option maxRecDepth 10000 in
set_option maxHeartbeats 8000000 in
theorem sharing_any (T : List Tk) (room : Int) (tv : Value) (w : World) (hT : TS w tv T) (hn : T.length ≤ 1024) (hk : ∀ t ∈ T, okT t) (hr : 0 ≤ room ∧ room ≤ 16793600) (hroom : room ≤ 32768 ∨ T.length = 0) :
    Calls Tryz.prog 71 #[tv, .int .i64 room] w fun e w' => ∃ v, e = .returned v ∧ Hid (OwI w.heap.size w' v (shaR T room) ∧ Below w.heap.size w w') := by
  have HTS : Hid (TS w tv T) := hT
  have HKo : Hid (∀ t ∈ T, okT t) := hk
  obtain ⟨ta, tc, rfl, htc, hg⟩ := hT
  have HG : Hid (0 < T.length → ∃ g o, ta = some ⟨g, o, none⟩ ∧ g < w.heap.size ∧ ∀ i (h : i < T.length), TkAt w g (o + i * 3) T[i]) := hg
  have hmn := mnS_bd hk
  obtain ⟨R, HR⟩ : ∃ R, Hid (R = shaR T room) := ⟨shaR T room, by unfold Hid; rfl⟩
  rw [← HR.out]
  obtain ⟨i0, hi, hz0, hz1, hz2⟩ := info_parts info_int
  have HI : Hid (Tryz.prog.info? 3 = some i0 ∧ i0.zero = some (.int .i64 0) ∧ i0.size = 1 ∧ i0.bytes = 8) := ⟨hi, hz0, hz1, hz2⟩
  obtain ⟨i1, hi1, hy0, hy1, hy2⟩ := info_parts info_bool
  have HI1 : Hid (Tryz.prog.info? 4 = some i1 ∧ i1.zero = some (.bool false) ∧ i1.size = 1 ∧ i1.bytes = 1) := ⟨hi1, hy0, hy1, hy2⟩
  clear hg hk hi hz0 hz1 hz2 hi1 hy0 hy1 hy2
  go_enter Tryz.func71, Tryz.ntmps71
  go_wp2_with fail
  go_loopw [5, 6, 7, 8] (fun u p l i wr => ∃ (k : Nat) (x : Int), k ≤ T.length ∧ i = .int .i64 k ∧ l = .int .i64 x ∧ Hid (x = room - mnS (T.take k) ∧ Dr w u p (ini (T.take k)) wr)) (fun _ _ _ i _ => T.length - (intOf i).toNat)
  case atStart => exact ⟨0, room, Nat.zero_le _, rfl, rfl, by simp [mnS], Below.refl _ _, OwI.nil _ _, OwP.nil _ _⟩
  case round =>
    obtain ⟨k, x, hkl, rfl, rfl, HK⟩ := hrel
    by_cases hlt : k < T.length
    · as_aux_lemma =>
        have ik : (k : Int) < T.length := by omega
        obtain ⟨tg, tq, rfl, htg, hat⟩ := HG.out (by omega)
        obtain ⟨x0, x1, x2⟩ := (hat k hlt).below HK.out.2.bel htg
        obtain ⟨o1, o2, _, o4, o5⟩ := HKo.out T[k] (List.getElem_mem hlt)
        have hbd := mnS_bd (T := T.take k) fun t ht => HKo.out t (List.mem_of_mem_take ht)
        have hbx : -16777216 ≤ x ∧ x ≤ 16793600 := by
          rw [HK.out.1]
          have : (T.take k).length ≤ 1024 := by simp; omega
          omega
        have ho : wr.ownsRow w.heap.size 3 1 u5 k (flatI ((ini (T.take k)).map (·.o))) := by have h := HK.out.2.oo; unfold OwI at h; rwa [List.length_map, ini_tl T k hkl] at h
        have hp : wr.ownsRow w.heap.size 4 1 u6 k (flatP ((ini (T.take k)).map (·.p))) := by have h := HK.out.2.pp; unfold OwP at h; rwa [List.length_map, ini_tl T k hkl] at h
        have ltg : tg < wr.heap.size := Nat.lt_of_lt_of_le htg HK.out.2.bel.size
        have HA : Hid (∀ o, (wr.alloc o).ownsRow w.heap.size 3 1 u5 k (flatI ((ini (T.take k)).map (·.o))) ∧ w.heap.size ≤ (wr.alloc o).heap.size) := fun o => ⟨row_below ho ((Below.refl _ _).alloc (Nat.le_refl _) _), by have := HK.out.2.bel.size; simp; omega⟩
        have HX : Hid (x - T[k].mn = room - mnS (T.take (k + 1))) := by unfold Hid; rw [← List.take_append_getElem hlt, mnS_snoc, HK.out.1]; omega
        have HIt : Hid (ini (T.take (k + 1)) = ini (T.take k) ++ [⟨T[k], decide (0 < T[k].gr), T[k].mn⟩]) := ini_take hlt
        have HBw : Hid (Below w.heap.size w wr ∧ TkAt w tg (tq + k * 3) T[k] ∧ tg < w.heap.size ∧ wr.ownsRow w.heap.size 3 1 u5 k (flatI ((ini (T.take k)).map (·.o))) ∧ wr.ownsRow w.heap.size 4 1 u6 k (flatP ((ini (T.take k)).map (·.p)))) := ⟨HK.out.2.bel, hat k hlt, htg, ho, hp⟩
        have HLn : Hid ((ini (T.take k)).length = k) := ini_tl T k hkl
        have hc3 : Hid (k + 1 ≤ maxLen) := by unfold Hid maxLen; omega
        have hc4 : Hid ((k + 1) * 8 ≤ 140737488355328) := by unfold Hid; omega
        have hc5 : Hid ((k + 1) * 1 ≤ 140737488355328) := by unfold Hid; omega
        clear HK hat hbd ho hp
        generalize T[k] = q at *
        generalize ini (T.take k) = LI at *
        have hws : IntKind.i64.wrap (x - q.mn) = x - q.mn := by rw [IntKind.wrap_i64]; omega
        obtain ⟨hi, hz0, hz1, hz2⟩ := HI.out
        obtain ⟨hi1, hy0, hy1, hy2⟩ := HI1.out
        go_wp2_with (at_builtin; refine wpList_append_lies _ rfl _ _ 22 rfl w.heap.size 3 i0 (.int .i64 0) 1 8 Tryz.underlying22 hi hz0 hz1 hz2 rfl (by decide) u5 k (flatI (LI.map (·.o))) rfl (HA.out _).1 _ 1 1 [.int .i64 q.mn] rfl rfl (cell_oneB _ _ _ _ rfl) (one1 _) (by decide) hc3.out hc4.out (HA.out _).2 _ rfl ?_)
        intro g4 cap4 w4 hown' hgrow hlies _
        have H4 : Hid (w4.ownsRow w.heap.size 3 1 (.slice (some ⟨g4, 0, none⟩) (k + 1) cap4) (k + 1) (flatI (LI.map (·.o)) ++ [.int .i64 q.mn]) ∧ w4.ownsRow w.heap.size 4 1 u6 k (flatP (LI.map (·.p))) ∧ Below w.heap.size w w4) := by
          obtain ⟨a1, a2, a3, a4, a5⟩ := HBw.out
          have b1 : Below wr.heap.size wr (wr.alloc (.cells #[.int .i64 q.mn] 3)) := (Below.refl _ _).alloc (Nat.le_refl _) _
          have c1 := row_below a5 b1
          have c2 := row_below a4 b1
          refine ⟨hown', ?_, app_below (a1.trans (b1.mono a1.size)) c2 (Nat.le_refl _) hgrow⟩
          refine c1.kept hgrow ?_
          cases hx : u6.ownBlock with
          | none => exact .inl rfl
          | some gx =>
            refine .inr fun e => ?_
            obtain ⟨oc, cc, e1, _, _⟩ := row_val c1
            obtain ⟨od, cd, e2, _, _⟩ := row_val c2
            subst e1 e2
            cases oc with
            | none => cases hx
            | some ac =>
              cases od with
              | none => cases e
              | some ad =>
                obtain ⟨gb, ob, sb⟩ := ac
                obtain ⟨gd, od, sd⟩ := ad
                simp [Value.ownBlock] at hx e
                subst hx
                subst e
                obtain ⟨_, ⟨q, _⟩ | ⟨g1, _, cur1, q1, _, k1, _⟩⟩ := c1
                · cases q
                obtain ⟨_, ⟨q, _⟩ | ⟨g2, _, cur2, q2, _, k2, _⟩⟩ := c2
                · cases q
                injection q1 with q1 _ _
                injection q1 with q1
                injection q1 with q1 _ _
                injection q2 with q2 _ _
                injection q2 with q2
                injection q2 with q2 _ _
                subst q1 q2
                rw [k1] at k2
                injection k2 with k2
                injection k2 with _ k2
                exact absurd k2 (by decide)
        obtain ⟨y0, y1, y2⟩ := HBw.out.2.1.below H4.out.2.2 HBw.out.2.2.1
        have ltg4 : tg < w4.heap.size := Nat.lt_of_lt_of_le HBw.out.2.2.1 H4.out.2.2.size
        have HA2 : Hid (∀ o, (w4.alloc o).ownsRow w.heap.size 4 1 u6 k (flatP (LI.map (·.p))) ∧ w.heap.size ≤ (w4.alloc o).heap.size) := fun o => ⟨row_below H4.out.2.1 ((Below.refl _ _).alloc (Nat.le_refl _) _), by have := H4.out.2.2.size; simp; omega⟩
        clear hown' hgrow hlies x0 x1 x2 HA ltg hi hz0 hz1 hz2
        go_wp2_with (at_builtin; refine wpList_append_lies _ rfl _ _ 109 rfl w.heap.size 4 i1 (.bool false) 1 1 Tryz.underlying109 hi1 hy0 hy1 hy2 rfl (by decide) u6 k (flatP (LI.map (·.p))) rfl (HA2.out _).1 _ 1 1 [.bool (decide (0 < q.gr))] rfl rfl (cell_oneB _ _ _ _ rfl) (oneP _) (by decide) hc3.out hc5.out (HA2.out _).2 _ rfl ?_)
        intro g6 cap6 w6 hown' hgrow hlies _
        have H6 : Hid (Dr w (.slice (some ⟨g4, 0, none⟩) (k + 1) cap4) (.slice (some ⟨g6, 0, none⟩) (k + 1) cap6) (LI ++ [⟨q, decide (0 < q.gr), q.mn⟩]) w6) := by
          obtain ⟨a4, a5, a1⟩ := H4.out
          have b1 : Below w4.heap.size w4 (w4.alloc (.cells #[.bool (decide (0 < q.gr))] 4)) := (Below.refl _ _).alloc (Nat.le_refl _) _
          have c1 := row_below a5 b1
          have c2 := row_below a4 b1
          refine ⟨app_below (a1.trans (b1.mono a1.size)) c1 (Nat.le_refl _) hgrow, ?_, ?_⟩
          · unfold OwI
            rw [List.map_append, List.length_append, List.length_map, HLn.out, flatI_app]
            refine c2.kept hgrow ?_
            refine .inr fun e => ?_
            obtain ⟨oc, cc, e1, _, _⟩ := row_val c1
            subst e1
            cases oc with
            | none => cases e
            | some ac =>
              obtain ⟨gb, ob, sb⟩ := ac
              simp [Value.ownBlock] at e
              subst e
              obtain ⟨_, ⟨q, _⟩ | ⟨g1, _, cur1, q1, _, k1, _⟩⟩ := c1
              · cases q
              obtain ⟨_, ⟨q, _⟩ | ⟨g2, _, cur2, q2, _, k2, _⟩⟩ := c2
              · cases q
              injection q1 with q1 _ _
              injection q1 with q1
              injection q1 with q1 _ _
              injection q2 with q2 _ _
              injection q2 with q2
              injection q2 with q2 _ _
              subst q1 q2
              rw [k1] at k2
              injection k2 with k2
              injection k2 with _ k2
              exact absurd k2 (by decide)
          · unfold OwP
            rw [List.map_append, List.length_append, List.length_map, HLn.out]
            have e : flatP (LI.map (·.p) ++ [(⟨q, decide (0 < q.gr), q.mn⟩ : Ce)].map (·.p)) = flatP (LI.map (·.p)) ++ [.bool (decide (0 < q.gr))] := by unfold flatP; simp
            rw [e]
            exact hown'
        obtain ⟨z0, z1, z2⟩ := HBw.out.2.1.below H6.out.bel HBw.out.2.2.1
        have HN : Hid (x - q.mn = room - mnS (T.take (k + 1)) ∧ Dr w (.slice (some ⟨g4, 0, none⟩) (k + 1) cap4) (.slice (some ⟨g6, 0, none⟩) (k + 1) cap6) (ini (T.take (k + 1))) w6) := ⟨HX.out, by rw [HIt.out]; exact H6.out⟩
        clear hown' hgrow hlies y0 y1 y2 HA2 ltg4 hi1 hy0 hy1 hy2 H4 H6 HX HIt
        go_wp2
        exact ⟨⟨k + 1, x - q.mn, by omega, by go_num, rfl, HN.out⟩, by simp [intOf]; omega⟩
    · obtain rfl : k = T.length := by omega
      have hxe : x = room - mnS T := by have := HK.out.1; rwa [List.take_length] at this
      have HD : Hid (Dr w u5 u6 (ini T) wr) := by have := HK.out.2; rwa [List.take_length] at this
      obtain ⟨oa, co, e5, hco, _⟩ := row_val HD.out.oo
      obtain ⟨pa, cp, e6, hcp, _⟩ := row_val HD.out.pp
      rw [List.length_map, ini_len] at e5 hco e6 hcp
      subst e5 e6
      clear HK
      by_cases hx0 : x ≤ 0
      · have HF : Hid (OwI w.heap.size wr (.slice oa T.length co) R ∧ Below w.heap.size w wr) := by
          refine ⟨?_, HD.out.bel⟩
          rw [HR.out]
          unfold shaR shaC
          rw [if_pos (by omega)]
          exact HD.out.oo
        clear HD hxe
        go_wp2
        go_ret
        exact ⟨_, rfl, HF⟩
      · have H2 : Hid (∃ L, cntP L ≤ T.length ∧ L.map (·.t) = T ∧ ShI x L ∧ (x ≤ 32768 ∨ T.length = 0) ∧ Dr w (.slice oa T.length co) (.slice pa T.length cp) L wr ∧ endR x L = R) := by
          refine ⟨ini T, ini_cnt T, ini_tk T, ini_inv HKo.out (by omega), ?_, HD.out, ?_⟩
          · rcases hroom with h | h
            · have := (mnS_bd HKo.out).1
              exact .inl (by omega)
            · exact .inr h
          · rw [HR.out, sha_end HKo.out room, show max (room - mnS T) 0 = x by omega]
        clear HD hxe hroom hmn HR HTS
        go_wp2_with fail
        go_loopg [7, 9, 10, 11, 12, 13, 14, 15, 16] T.length (fun gg s7 _ _ _ _ _ _ _ _ wr => ∃ lf : Int, s7 = .int .i64 lf ∧ Hid (∃ L, cntP L ≤ gg ∧ L.map (·.t) = T ∧ ShI lf L ∧ (lf ≤ 32768 ∨ T.length = 0) ∧ Dr w (.slice oa T.length co) (.slice pa T.length cp) L wr ∧ endR lf L = R))
        case atStart => exact ⟨x, rfl, H2⟩
        case round =>
          obtain ⟨lf, rfl, HL⟩ := hrel
          clear H2
          obtain ⟨L, hcnt, htk, hinv, hl2, hdr, hend⟩ := HL.out
          have hlen : L.length = T.length := by rw [← htk]; simp
          have HS : Hid (ShI lf L ∧ (lf ≤ 32768 ∨ T.length = 0) ∧ endR lf L = R ∧ L.map (·.t) = T) := ⟨hinv, hl2, hend, htk⟩
          have HOk : Hid (∀ c ∈ L, okT c.t) := fun c hc => (hinv.2 c hc).1
          have HTk : Hid (∀ i (h : i < T.length) (h2 : i < L.length), L[i].t = T[i]) := fun i h h2 => by
            have : T[i] = (L.map (·.t))[i]'(by simpa using h2) := by simp only [htk]
            rw [this, List.getElem_map]
          have HD : Hid (Dr w (.slice oa T.length co) (.slice pa T.length cp) L wr) := hdr
          have hlf0 : 0 ≤ lf := hinv.1
          have HTc : Hid (∀ i (h : i < T.length) (h2 : i < L.length) W, Below w.heap.size w W → ∃ tg tq, ta = some ⟨tg, tq, none⟩ ∧ tg < W.heap.size ∧ TkAt W tg (tq + i * 3) L[i].t) := fun i h h2 W hW => by
            obtain ⟨tg, tq, e, l, a⟩ := HG.out (by omega)
            rw [HTk.out i h h2]
            exact ⟨tg, tq, e, Nat.lt_of_lt_of_le l hW.size, (a i h).below hW l⟩
          clear htk hinv hl2 hend hdr HL
          generalize wr = W2 at *
          go_wp2_with fail
          go_loopw [9, 10] (fun s i wr => ∃ (k : Nat) (x : Int), i = .int .i64 k ∧ s = .int .i64 x ∧ k ≤ T.length ∧ wr = W2 ∧ Hid (x = gsum (L.take k))) (fun _ i _ => T.length - (intOf i).toNat)
          case atStart => exact ⟨0, 0, rfl, rfl, Nat.zero_le _, rfl, by unfold Hid; simp [gsum]⟩
          case round =>
            obtain ⟨k, gx, rfl, rfl, hkl, rfl, HK⟩ := hrel
            by_cases hlt : k < T.length
            · as_aux_lemma =>
                have ik : (k : Int) < T.length := by omega
                have hkL : k < L.length := by omega
                obtain ⟨go, gp, rfl, rfl, a1, a2, _, _, _, _, _, _, _⟩ := HD.out.at hlen hkL
                obtain ⟨tg, tq, rfl, _, x0, x1, x2⟩ := HTc.out k hlt hkL wr HD.out.bel
                obtain ⟨_, _, _, o4, o5⟩ := HOk.out L[k] (List.getElem_mem hkL)
                have hgb := gsum_bd (L.take k) fun c hc => HOk.out c (List.mem_of_mem_take hc)
                have htl : ((L.take k).length : Int) ≤ 1024 := by rw [List.length_take]; omega
                have hgx : 0 ≤ gx ∧ gx ≤ 16777216 := by rw [HK.out]; omega
                have HN : Hid (gsum (L.take (k + 1)) = gx + if L[k].p = true then L[k].t.gr else 0) := by unfold Hid; rw [← List.take_append_getElem hkL, gsum_snoc, HK.out]
                clear hgb htl HK
                generalize L[k] = c at *
                cases hcp : c.p
                · rw [hcp] at a2 HN
                  have HN2 : Hid (gx = gsum (L.take (k + 1))) := by unfold Hid; rw [HN.out]; simp
                  clear HN
                  go_wp2
                  exact ⟨⟨k + 1, gx, by go_num, rfl, by omega, trivial, HN2⟩, by simp [intOf]; omega⟩
                · rw [hcp] at a2 HN
                  have HN2 : Hid (gx + c.t.gr = gsum (L.take (k + 1))) := by unfold Hid; rw [HN.out]; simp
                  have hwg : IntKind.i64.wrap (gx + c.t.gr) = gx + c.t.gr := by rw [IntKind.wrap_i64]; omega
                  clear HN
                  go_wp2
                  exact ⟨⟨k + 1, gx + c.t.gr, by go_num, rfl, by omega, trivial, HN2⟩, by simp [intOf]; omega⟩
            · obtain rfl : k = T.length := by omega
              have hge : gx = gsum L := by have := HK.out; rwa [List.take_of_length_le (by omega)] at this
              have hgb := gsum_bd L HOk.out
              clear HK
              by_cases hg0 : gx = 0
              · as_aux_lemma =>
                  have hgz : (gx == 0) = true := by simpa using hg0
                  have HF : Hid (OwI w.heap.size wr (.slice oa T.length co) R ∧ Below w.heap.size w wr) := by
                    refine ⟨?_, HD.out.bel⟩
                    rw [← HS.out.2.2.1, end_none (by omega)]
                    exact HD.out.oo
                  clear hg0 hge hgb
                  go_wp2
                  go_ret
                  exact ⟨_, rfl, HF⟩
              · have hgz : (gx == 0) = false := by simpa using hg0
                have hgp : 0 < gx ∧ gx ≤ 16777216 := by omega
                have Hge : Hid (gx = gsum L) := hge
                have HNz : Hid (gsum L ≠ 0) := by unfold Hid; omega
                have hTp : 0 < T.length := by
                  refine Nat.pos_of_ne_zero fun h => ?_
                  have : L = [] := List.length_eq_zero_iff.1 (by omega)
                  rw [this] at hge
                  exact hg0 hge
                have hlf : lf ≤ 32768 := by rcases HS.out.2.1 with h | h <;> omega
                clear hg0 hge hgb
                have H4 : Hid (Dr w (.slice oa T.length co) (.slice pa T.length cp) ((L.take 0).map (fil lf gx) ++ L.drop 0) wr) := by unfold Hid; simpa using HD.out
                go_wp2_with fail
                go_loopw [11, 12, 13] (fun ls sm i wr => ∃ (k : Nat) (x : Int) (b : Bool), i = .int .i64 k ∧ ls = .int .i64 x ∧ sm = .bool b ∧ k ≤ T.length ∧ Hid (x = lesS lf gx (L.take k) ∧ b = (L.take k).any (fulB lf gx) ∧ Dr w (.slice oa T.length co) (.slice pa T.length cp) ((L.take k).map (fil lf gx) ++ L.drop k) wr)) (fun _ _ i _ => T.length - (intOf i).toNat)
                case atStart => exact ⟨0, 0, false, rfl, rfl, rfl, Nat.zero_le _, by simp [lesS], by simp, H4.out⟩
                case round =>
                  obtain ⟨k, lx, sb, rfl, rfl, rfl, hkl, HK⟩ := hrel
                  clear H4 HD
                  by_cases hlt : k < T.length
                  · as_aux_lemma =>
                      have ik : (k : Int) < T.length := by omega
                      have hkL : k < L.length := by omega
                      have hml : ((L.take k).map (fil lf gx) ++ L.drop k).length = T.length := by rw [mid_len (by omega)]; exact hlen
                      obtain ⟨go, gp, rfl, rfl, a1, a2, f1, f2, hne, l1, l2, l3, l4⟩ := HK.out.2.2.at hml (k := k) (by omega)
                      rw [mid_at hkL] at a1 a2
                      obtain ⟨tg, tq, rfl, _, x0, x1, x2⟩ := HTc.out k hlt hkL wr HK.out.2.2.bel
                      have hok := HOk.out L[k] (List.getElem_mem hkL)
                      have hlb := les_bd lf gx (L.take k) fun c hc => HOk.out c (List.mem_of_mem_take hc)
                      have htl : ((L.take k).length : Int) ≤ 1024 := by rw [List.length_take]; omega
                      have hlx : 0 ≤ lx ∧ lx ≤ 16777216 := by rw [HK.out.1]; omega
                      have HN : Hid (lesS lf gx (L.take (k + 1)) = lx + (if fulB lf gx L[k] = true then lak L[k].t else 0) ∧ (L.take (k + 1)).any (fulB lf gx) = (sb || fulB lf gx L[k])) := by
                        unfold Hid
                        rw [← List.take_append_getElem hkL, les_snoc, any_snoc, HK.out.1, HK.out.2.1]
                        exact ⟨rfl, rfl⟩
                      have HM : Hid (((L.take k).map (fil lf gx) ++ L.drop k).set k (fil lf gx L[k]) = (L.take (k + 1)).map (fil lf gx) ++ L.drop (k + 1)) := set_mid hkL
                      have HMa : Hid (((L.take k).map (fil lf gx) ++ L.drop k).set k L[k] = (L.take k).map (fil lf gx) ++ L.drop k) := by
                        unfold Hid
                        have := mid_at (f := fil lf gx) hkL
                        conv => lhs; rw [← this]
                        exact List.set_getElem_self _
                      have HFu : Hid (fulB lf gx L[k] = (L[k].p && fuR lf gx L[k].t)) := rfl
                      have HFi : Hid ((fulB lf gx L[k] = true → fil lf gx L[k] = ⟨L[k].t, false, L[k].t.mx⟩) ∧ (fulB lf gx L[k] = false → fil lf gx L[k] = L[k])) := ⟨fun h => by unfold fil; rw [if_pos h], fun h => by unfold fil; rw [h]; rfl⟩
                      have HD : Hid (Dr w (.slice (some ⟨go, 0, none⟩) T.length co) (.slice (some ⟨gp, 0, none⟩) T.length cp) ((L.take k).map (fil lf gx) ++ L.drop k) wr) := HK.out.2.2
                      have HC1 : Hid (∀ W, Calls Tryz.prog 86 #[.agg #[.int .i64 L[k].t.mn, .int .i64 L[k].t.mx, .int .i64 L[k].t.gr], .int .i64 lf, .int .i64 gx] W fun e w' => e = .returned (.bool (fuR lf gx L[k].t)) ∧ Below W.heap.size W w') := fun W => rfull_any _ lf gx hok ⟨hlf0, hlf⟩ ⟨by omega, hgp.2⟩ W
                      have HC2 : Hid (∀ W, Calls Tryz.prog 87 #[.agg #[.int .i64 L[k].t.mn, .int .i64 L[k].t.mx, .int .i64 L[k].t.gr]] W fun e w' => e = .returned (.int .i64 (lak L[k].t)) ∧ Below W.heap.size W w') := fun W => rlacks_any _ hok W
                      have hlkb : -1 ≤ lak L[k].t ∧ lak L[k].t ≤ 16384 := by
                        obtain ⟨h1, h2, h3, _, _⟩ := hok
                        unfold lak
                        split <;> omega
                      have HTk2 : Hid (∀ W, Below w.heap.size w W → TkAt W tg (tq + k * 3) L[k].t) := fun W hW => by
                        obtain ⟨_, _, e, _, h⟩ := HTc.out k hlt hkL W hW
                        injection e with e
                        injection e with e e' _
                        subst e e'
                        exact h
                      have Hml : Hid (((L.take k).map (fil lf gx) ++ L.drop k).length = T.length) := hml
                      have ngo : ¬ tg = go := fun e => by
                        have h1 := HG.out (by omega)
                        obtain ⟨tg', tq', e1, e2, _⟩ := h1
                        injection e1 with e1
                        injection e1 with e1 _ _
                        omega
                      clear HK hml hlb htl hok HG
                      generalize L[k] = c at *
                      generalize (L.take k).map (fil lf gx) ++ L.drop k = LM at *
                      cases hcp : c.p
                      · have hf : fulB lf gx c = false := by rw [HFu.out, hcp]; rfl
                        have HE : Hid (lx = lesS lf gx (L.take (k + 1)) ∧ sb = (L.take (k + 1)).any (fulB lf gx) ∧ Dr w (.slice (some ⟨go, 0, none⟩) T.length co) (.slice (some ⟨gp, 0, none⟩) T.length cp) ((L.take (k + 1)).map (fil lf gx) ++ L.drop (k + 1)) wr) := by
                          refine ⟨by rw [HN.out.1, hf]; simp, by rw [HN.out.2, hf]; simp, ?_⟩
                          rw [← HM.out, HFi.out.2 hf, HMa.out]
                          exact HD.out
                        rw [hcp] at a2
                        clear HN HM HMa HFu HFi HD hf
                        go_wp2
                        exact ⟨⟨k + 1, lx, sb, by go_num, rfl, rfl, by omega, HE.out⟩, by simp [intOf]; omega⟩
                      · rw [hcp] at a2
                        go_wp2_with fail
                        refine (HC1.out _).mono ?_
                        rintro e w5 ⟨rfl, hb5⟩
                        have HD5 : Hid (Dr w (.slice (some ⟨go, 0, none⟩) T.length co) (.slice (some ⟨gp, 0, none⟩) T.length cp) LM w5) := HD.out.below hb5
                        have b1 : w5.cell? ⟨go, k, none⟩ = some (.int .i64 c.o) := (hb5.cell (p := ⟨go, k, none⟩) l3).trans a1
                        have b2 : w5.cell? ⟨gp, k, none⟩ = some (.bool true) := (hb5.cell (p := ⟨gp, k, none⟩) l4).trans a2
                        obtain ⟨y0, y1, y2⟩ := HTk2.out w5 HD5.out.bel
                        have m3 : go < w5.heap.size := Nat.lt_of_lt_of_le l3 hb5.size
                        have m4 : gp < w5.heap.size := Nat.lt_of_lt_of_le l4 hb5.size
                        clear hb5 a1 a2 x0 x1 x2 HC1 HD l3 l4
                        cases hfu : fuR lf gx c.t
                        · have hf : fulB lf gx c = false := by rw [HFu.out, hcp, hfu]; rfl
                          have HE : Hid (lx = lesS lf gx (L.take (k + 1)) ∧ sb = (L.take (k + 1)).any (fulB lf gx) ∧ Dr w (.slice (some ⟨go, 0, none⟩) T.length co) (.slice (some ⟨gp, 0, none⟩) T.length cp) ((L.take (k + 1)).map (fil lf gx) ++ L.drop (k + 1)) w5) := by
                            refine ⟨by rw [HN.out.1, hf]; simp, by rw [HN.out.2, hf]; simp, ?_⟩
                            rw [← HM.out, HFi.out.2 hf, HMa.out]
                            exact HD5.out
                          clear HN HM HMa HFu HFi HD5 hf
                          go_wp2
                          exact ⟨⟨k + 1, lx, sb, by go_num, rfl, rfl, by omega, HE.out⟩, by simp [intOf]; omega⟩
                        · have hf : fulB lf gx c = true := by rw [HFu.out, hcp, hfu]; rfl
                          have HD6 : Hid (Dr w (.slice (some ⟨go, 0, none⟩) T.length co) (.slice (some ⟨gp, 0, none⟩) T.length cp) ((L.take (k + 1)).map (fil lf gx) ++ L.drop (k + 1)) ((w5.setCell ⟨go, k, none⟩ (.int .i64 c.t.mx)).setCell ⟨gp, k, none⟩ (.bool false))) := by
                            have := HD5.out.put Hml.out hne l1 l2 k ⟨c.t, false, c.t.mx⟩
                            rw [← HFi.out.1 hf, HM.out] at this
                            rw [HFi.out.1 hf] at this
                            exact this
                          have hne1 : ¬ go = gp := hne
                          have hne2 : ¬ gp = go := fun e => hne e.symm
                          have g1 : w5.frozen? ⟨go, k, none⟩ = false := own_frozen (by have := HD5.out.oo; unfold OwI at this; rw [List.length_map, Hml.out] at this; exact this) k
                          have g2 : w5.frozen? ⟨gp, k, none⟩ = false := own_frozen (by have := HD5.out.pp; unfold OwP at this; rw [List.length_map, Hml.out] at this; exact this) k
                          have ngp : ¬ tg = gp := fun e => by
                            obtain ⟨z0, _, _⟩ := HTk2.out w5 HD5.out.bel
                            obtain ⟨_, ⟨q, _⟩ | ⟨g9, _, cur, q9, lo9, _⟩⟩ := HD5.out.pp
                            · cases q
                            · injection q9 with q9 _ _
                              injection q9 with q9
                              injection q9 with q9 _ _
                              subst q9
                              subst e
                              obtain ⟨tg', tq', e1, e2, _⟩ := HTc.out k hlt hkL w (Below.refl _ _)
                              injection e1 with e1
                              injection e1 with e1 _ _
                              omega
                          obtain ⟨z0, z1, z2⟩ := HTk2.out _ HD6.out.bel
                          have HL6 : Hid (lesS lf gx (L.take (k + 1)) = lx + lak c.t ∧ (L.take (k + 1)).any (fulB lf gx) = true) := by
                            refine ⟨by rw [HN.out.1, hf]; simp, by rw [HN.out.2, hf]; simp⟩
                          have hwl : IntKind.i64.wrap (lx + lak c.t) = lx + lak c.t := by rw [IntKind.wrap_i64]; omega
                          clear HN HM HMa HFu HFi HD5 hf
                          go_wp2_with fail
                          refine (HC2.out _).mono ?_
                          rintro e w7 ⟨rfl, hb7⟩
                          have HE : Hid (lx + lak c.t = lesS lf gx (L.take (k + 1)) ∧ true = (L.take (k + 1)).any (fulB lf gx) ∧ Dr w (.slice (some ⟨go, 0, none⟩) T.length co) (.slice (some ⟨gp, 0, none⟩) T.length cp) ((L.take (k + 1)).map (fil lf gx) ++ L.drop (k + 1)) w7) := ⟨HL6.out.1.symm, HL6.out.2.symm, HD6.out.below hb7⟩
                          clear hb7 HL6 HD6 y0 y1 y2 z0 z1 z2 b1 b2 g1 g2
                          generalize lak c.t = lk at *
                          go_wp2
                          exact ⟨⟨k + 1, lx + lk, true, by go_num, rfl, rfl, by omega, HE.out⟩, by simp [intOf]; omega⟩
                  · obtain rfl : k = T.length := by omega
                    have HE : Hid (lx = lesS lf (gsum L) L ∧ sb = L.any (fulB lf (gsum L)) ∧ Dr w (.slice oa T.length co) (.slice pa T.length cp) (L.map (fil lf (gsum L))) wr) := by
                      have h := HK.out
                      rw [List.take_of_length_le (by omega), List.drop_of_length_le (by omega), List.append_nil, Hge.out] at h
                      exact h
                    clear HK
                    cases sb
                    · have hnf := none_fil HE.out.2.1.symm
                      have HD5 : Hid (Dr w (.slice oa T.length co) (.slice pa T.length cp) ((L.take 0).map (ad1 lf gx) ++ L.drop 0) wr) := by
                        have := HE.out.2.2
                        rw [hnf.1] at this
                        unfold Hid
                        simpa using this
                      have HAn : Hid (L.any (fulB lf (gsum L)) = false) := HE.out.2.1.symm
                      clear HE hnf
                      go_wp2_with fail
                      go_loopw [14, 15] (fun ov i wr => ∃ (k : Nat) (x : Int), i = .int .i64 k ∧ ov = .int .i64 x ∧ k ≤ T.length ∧ Hid (x = lf - flrS lf gx (L.take k) ∧ Dr w (.slice oa T.length co) (.slice pa T.length cp) ((L.take k).map (ad1 lf gx) ++ L.drop k) wr)) (fun _ i _ => T.length - (intOf i).toNat)
                      case atStart => exact ⟨0, lf, rfl, rfl, Nat.zero_le _, by simp [flrS], HD5.out⟩
                      case round =>
                        obtain ⟨k, vx, rfl, rfl, hkl, HK⟩ := hrel
                        clear HD5
                        by_cases hlt : k < T.length
                        · as_aux_lemma =>
                            have ik : (k : Int) < T.length := by omega
                            have hkL : k < L.length := by omega
                            have hml : ((L.take k).map (ad1 lf gx) ++ L.drop k).length = T.length := by rw [mid_len (by omega)]; exact hlen
                            obtain ⟨go, gp, rfl, rfl, a1, a2, f1, f2, hne, l1, l2, l3, l4⟩ := HK.out.2.at hml (k := k) (by omega)
                            rw [mid_at hkL] at a1 a2
                            obtain ⟨tg, tq, rfl, ltg, x0, x1, x2⟩ := HTc.out k hlt hkL wr HK.out.2.bel
                            have hok := HOk.out L[k] (List.getElem_mem hkL)
                            have hfb := flr_bd ⟨hlf0, hlf⟩ hgp.1 (L.take k) fun c hc => HOk.out c (List.mem_of_mem_take hc)
                            have htl : ((L.take k).length : Int) ≤ 1024 := by rw [List.length_take]; omega
                            have hvx : -549755813888 ≤ vx ∧ vx ≤ 32768 := by rw [HK.out.1]; omega
                            have HN : Hid (flrS lf gx (L.take (k + 1)) = flrS lf gx (L.take k) + if L[k].p = true then (lf * L[k].t.gr) / gx else 0) := by unfold Hid; rw [← List.take_append_getElem hkL, flr_snoc]
                            have HM : Hid (((L.take k).map (ad1 lf gx) ++ L.drop k).set k (ad1 lf gx L[k]) = (L.take (k + 1)).map (ad1 lf gx) ++ L.drop (k + 1)) := set_mid hkL
                            have HMa : Hid (((L.take k).map (ad1 lf gx) ++ L.drop k).set k L[k] = (L.take k).map (ad1 lf gx) ++ L.drop k) := by
                              unfold Hid
                              have := mid_at (f := ad1 lf gx) hkL
                              conv => lhs; rw [← this]
                              exact List.set_getElem_self _
                            have HMp : Hid (((L.take k).map (ad1 lf gx) ++ L.drop k)[k]? = some L[k]) := by unfold Hid; rw [List.getElem?_eq_getElem (by rw [mid_len (by omega)]; exact hkL), mid_at hkL]
                            have HA1 : Hid ((L[k].p = true → ad1 lf gx L[k] = ⟨L[k].t, true, L[k].o + (lf * L[k].t.gr) / gx⟩) ∧ (L[k].p = false → ad1 lf gx L[k] = L[k])) := ⟨fun h => by unfold ad1; rw [if_pos h, h], fun h => by unfold ad1; rw [h]; rfl⟩
                            have HD : Hid (Dr w (.slice (some ⟨go, 0, none⟩) T.length co) (.slice (some ⟨gp, 0, none⟩) T.length cp) ((L.take k).map (ad1 lf gx) ++ L.drop k) wr) := HK.out.2
                            have hob : L[k].p = true → L[k].o = L[k].t.mn := fun h => ((HS.out.1.2 L[k] (List.getElem_mem hkL)).2.1 h).2
                            have HKv : Hid (vx = lf - flrS lf gx (L.take k)) := HK.out.1
                            have Hml : Hid (((L.take k).map (ad1 lf gx) ++ L.drop k).length = T.length) := hml
                            have hdb := div_bd ⟨hlf0, hlf⟩ ⟨hok.2.2.2.1, hok.2.2.2.2⟩ hgp.1
                            have hmb := mul_bd hlf0 hlf hok.2.2.2.1 hok.2.2.2.2
                            have hmn1 := hok.1
                            have hmn2 := hok.2.1
                            have ngo : ¬ tg = go := fun e => by
                              obtain ⟨tg', tq', e1, e2, _⟩ := HTc.out k hlt hkL w (Below.refl _ _)
                              injection e1 with e1
                              injection e1 with e1 _ _
                              omega
                            have HTk2 : Hid (∀ W, Below w.heap.size w W → TkAt W tg (tq + k * 3) L[k].t) := fun W hW => by
                              obtain ⟨_, _, e, _, h⟩ := HTc.out k hlt hkL W hW
                              injection e with e
                              injection e with e e' _
                              subst e e'
                              exact h
                            have HBn : Hid (∀ n, Below wr.heap.size wr (wr.drewN n)) := fun n => below_drewK (Below.refl _ _)
                            clear HK hml hfb htl hok HG
                            generalize L[k] = c at *
                            generalize (L.take k).map (ad1 lf gx) ++ L.drop k = LM at *
                            cases hcp : c.p
                            · have HE : Hid (vx = lf - flrS lf gx (L.take (k + 1)) ∧ Dr w (.slice (some ⟨go, 0, none⟩) T.length co) (.slice (some ⟨gp, 0, none⟩) T.length cp) ((L.take (k + 1)).map (ad1 lf gx) ++ L.drop (k + 1)) wr) := by
                                refine ⟨by rw [HN.out, hcp, HKv.out]; simp, ?_⟩
                                rw [← HM.out, HA1.out.2 hcp, HMa.out]
                                exact HD.out
                              rw [hcp] at a2
                              clear HN HM HMa HA1 HD hob HKv HMp
                              go_wp2
                              exact ⟨⟨k + 1, vx, by go_num, rfl, by omega, HE.out⟩, by simp [intOf]; omega⟩
                            · have ho := hob hcp
                              obtain ⟨d, Hd⟩ : ∃ d, Hid (d = (lf * c.t.gr) / gx) := ⟨(lf * c.t.gr) / gx, by unfold Hid; rfl⟩
                              have ht : Int.tdiv (lf * c.t.gr) gx = d := by rw [Hd.out]; exact Int.tdiv_eq_ediv_of_nonneg hmb.1
                              rw [← Hd.out] at hdb HN
                              have hA := HA1.out.1 hcp
                              rw [← Hd.out] at hA
                              have HD6 : Hid (∀ X, Below wr.heap.size wr X → Dr w (.slice (some ⟨go, 0, none⟩) T.length co) (.slice (some ⟨gp, 0, none⟩) T.length cp) ((L.take (k + 1)).map (ad1 lf gx) ++ L.drop (k + 1)) (X.setCell ⟨go, k, none⟩ (.int .i64 (c.o + d))) ∧ X.frozen? ⟨go, k, none⟩ = false) := fun X hX => by
                                refine ⟨?_, own_frozen (by have := (HD.out.below hX).oo; unfold OwI at this; rw [List.length_map, Hml.out] at this; exact this) k⟩
                                have := (HD.out.below hX).putQ Hml.out hne l1 k ⟨c.t, true, c.o + d⟩ c HMp.out (by rw [hcp])
                                rw [← hA, HM.out] at this
                                rw [hA] at this
                                exact this
                              have HV : Hid (vx - d = lf - flrS lf gx (L.take (k + 1))) := by unfold Hid; rw [HN.out, hcp, HKv.out]; simp; omega
                              have hob2 : 0 ≤ c.o ∧ c.o ≤ 16384 := by omega
                              rw [hcp] at a2
                              clear HN HM HMa HA1 HD hob HKv HMp Hd hA ho
                              have w1 : IntKind.i64.wrap (lf * c.t.gr) = lf * c.t.gr := by rw [IntKind.wrap_i64]; omega
                              have w2 : IntKind.i64.wrap d = d := by rw [IntKind.wrap_i64]; omega
                              have w3 : IntKind.i64.wrap (c.o + d) = c.o + d := by rw [IntKind.wrap_i64]; omega
                              have w4 : IntKind.i64.wrap (vx - d) = vx - d := by rw [IntKind.wrap_i64]; omega
                              go_upto_region 37 with fail
                              refine R4.wp_region_lit 17 0 1 (fun _ _ => undef) (fun _ => .cells #[] 0) [] (by kernel_rfl) (by kernel_rfl) rfl (fun k hk => absurd hk (by omega)) rfl ?_
                              apply Exists.intro
                              refine ⟨fun bs ne => ?_, fun i h1 h2 => absurd h2 (by omega), ?_⟩
                              · have q1 := fun t : Gb wr bs => (t.below.cell (p := ⟨go, k, none⟩) l3).trans a1
                                have q2 := fun t : Gb wr bs => (t.below.cell (p := ⟨tg, tq + k * 3 + 2, none⟩) ltg).trans x2
                                simp only [List.take_succ_cons, List.take_zero]
                                repeat (go_big_quiet_step (fail))
                                exact wpQuiet_nil rfl
                              · intro bl wx hbl _ _
                                simp only [R4.layL]
                                obtain ⟨hd6, ff⟩ := HD6.out wx hbl
                                have b1 : wx.cell? ⟨go, k, none⟩ = some (.int .i64 c.o) := (hbl.cell (p := ⟨go, k, none⟩) l3).trans a1
                                have b2 : wx.cell? ⟨tg, tq + k * 3 + 2, none⟩ = some (.int .i64 c.t.gr) := (hbl.cell (p := ⟨tg, tq + k * 3 + 2, none⟩) ltg).trans x2
                                have HE : Hid (vx - d = lf - flrS lf gx (L.take (k + 1)) ∧ Dr w (.slice (some ⟨go, 0, none⟩) T.length co) (.slice (some ⟨gp, 0, none⟩) T.length cp) ((L.take (k + 1)).map (ad1 lf gx) ++ L.drop (k + 1)) (wx.setCell ⟨go, k, none⟩ (.int .i64 (c.o + d)))) := ⟨HV.out, hd6⟩
                                have ngo2 : ¬ go = tg := fun e => ngo e.symm
                                clear hbl HD6 HV a1 a2 f1 f2 x0 x1 x2 hd6
                                refine wpAny_one 17 (by kernel_rfl) rfl ?_
                                intro K hK
                                go_simp
                                refine hK _ _ ?_
                                clear hK K
                                refine wpAny_done (by kernel_rfl) ?_ _
                                go_wp2
                                exact ⟨⟨k + 1, vx - d, by go_num, rfl, by omega, HE.out⟩, by simp [intOf]; omega⟩
                        · obtain rfl : k = T.length := by omega
                          have HE6 : Hid (vx = lf - flrS lf (gsum L) L ∧ Dr w (.slice oa T.length co) (.slice pa T.length cp) (L.map (ad1 lf gx)) wr) := by
                            have h := HK.out
                            rw [List.take_of_length_le (by omega), List.drop_of_length_le (by omega), List.append_nil] at h
                            exact ⟨by rw [h.1, Hge.out], h.2⟩
                          have hfb := flr_bd ⟨hlf0, hlf⟩ hgp.1 L HOk.out
                          have hvx : -549755813888 ≤ vx ∧ vx ≤ 32768 := by rw [HE6.out.1, ← Hge.out]; omega
                          have HRe : Hid ((onE vx (L.map (ad1 lf gx))).map (·.o) = R) := by
                            unfold Hid
                            rw [HE6.out.1, Hge.out, ← end_spread HNz.out HAn.out, HS.out.2.2.1]
                          have HOb : Hid (∀ i (h : i < (L.map (ad1 lf gx)).length), (L.map (ad1 lf gx))[i].p = true → 0 ≤ (L.map (ad1 lf gx))[i].o ∧ (L.map (ad1 lf gx))[i].o ≤ 536887296) := fun i h hp => by
                            have hi : i < L.length := by simpa using h
                            rw [List.getElem_map] at hp ⊢
                            have hp2 : L[i].p = true := by
                              have ep : (ad1 lf gx L[i]).p = L[i].p := by unfold ad1; split <;> rfl
                              rw [← ep]; exact hp
                            have hc := HS.out.1.2 L[i] (List.getElem_mem hi)
                            obtain ⟨o1, o2, _, o4, o5⟩ := hc.1
                            have e3 : (ad1 lf gx L[i]).o = L[i].o + (lf * L[i].t.gr) / gx := by unfold ad1; rw [if_pos hp2]
                            have := div_bd ⟨hlf0, hlf⟩ ⟨o4, o5⟩ hgp.1
                            rw [e3, (hc.2.1 hp2).2]
                            omega
                          have hl1 : (L.map (ad1 lf gx)).length = T.length := by simpa using hlen
                          have H7 : Hid (Dr w (.slice oa T.length co) (.slice pa T.length cp) (onE vx ((L.map (ad1 lf gx)).take 0) ++ (L.map (ad1 lf gx)).drop 0) wr) := by
                            have := HE6.out.2
                            unfold Hid
                            simpa [onE] using this
                          clear HK HE6 hfb HS HOk HTk HTc HAn HNz Hge HG
                          generalize L.map (ad1 lf gx) = L1 at *
                          go_wp2_with fail
                          go_loopw [14, 16] (fun ov i wr => ∃ (k : Nat) (x : Int), i = .int .i64 k ∧ ov = .int .i64 x ∧ k ≤ T.length ∧ Hid (x = ovR vx (L1.take k) ∧ Dr w (.slice oa T.length co) (.slice pa T.length cp) (onE vx (L1.take k) ++ L1.drop k) wr)) (fun _ i _ => T.length - (intOf i).toNat)
                          case atStart => exact ⟨0, vx, rfl, rfl, Nat.zero_le _, by simp [ovR], H7.out⟩
                          case round =>
                            obtain ⟨k, yx, rfl, rfl, hkl, HK⟩ := hrel
                            clear H7
                            by_cases hlt : k < T.length
                            · as_aux_lemma =>
                                have ik : (k : Int) < T.length := by omega
                                have hkL : k < L1.length := by omega
                                obtain ⟨hat, hml⟩ := on_at (ov := vx) hkL
                                rw [hl1] at hml
                                obtain ⟨go, gp, rfl, rfl, a1, a2, f1, f2, hne, l1, l2, l3, l4⟩ := HK.out.2.at hml (k := k) (by omega)
                                obtain ⟨_, hat2⟩ := List.getElem?_eq_some_iff.1 hat
                                rw [hat2] at a1 a2
                                have hyb := ovR_bd (L1.take k) vx
                                have htl : ((L1.take k).length : Int) ≤ 1024 := by rw [List.length_take]; omega
                                have hyx : -549755814912 ≤ yx ∧ yx ≤ 32768 := by rw [HK.out.1]; omega
                                have hob := HOb.out k hkL
                                have HN : Hid ((onE vx (L1.take k) ++ L1.drop k).set k (if L1[k].p = true ∧ 0 < yx then ⟨L1[k].t, L1[k].p, L1[k].o + 1⟩ else L1[k]) = onE vx (L1.take (k + 1)) ++ L1.drop (k + 1) ∧ ovR vx (L1.take (k + 1)) = yx - if L1[k].p = true ∧ 0 < yx then 1 else 0) := by
                                  rw [HK.out.1]
                                  exact on_next hkL
                                have HD : Hid (Dr w (.slice (some ⟨go, 0, none⟩) T.length co) (.slice (some ⟨gp, 0, none⟩) T.length cp) (onE vx (L1.take k) ++ L1.drop k) wr) := HK.out.2
                                have HMp : Hid ((onE vx (L1.take k) ++ L1.drop k)[k]? = some L1[k]) := hat
                                have HMs : Hid ((onE vx (L1.take k) ++ L1.drop k).set k L1[k] = onE vx (L1.take k) ++ L1.drop k) := by
                                  unfold Hid
                                  conv => lhs; rw [← hat2]
                                  exact List.set_getElem_self _
                                have Hml : Hid ((onE vx (L1.take k) ++ L1.drop k).length = T.length) := hml
                                clear HK hyb htl hat hat2 hml
                                generalize L1[k] = c at *
                                generalize onE vx (L1.take k) ++ L1.drop k = LM at *
                                cases hcp : c.p
                                · have HE : Hid (yx = ovR vx (L1.take (k + 1)) ∧ Dr w (.slice (some ⟨go, 0, none⟩) T.length co) (.slice (some ⟨gp, 0, none⟩) T.length cp) (onE vx (L1.take (k + 1)) ++ L1.drop (k + 1)) wr) := by
                                    have hno : ¬ (c.p = true ∧ 0 < yx) := fun h => by rw [hcp] at h; exact absurd h.1 (by decide)
                                    have h := HN.out
                                    rw [if_neg hno, if_neg hno] at h
                                    refine ⟨by omega, ?_⟩
                                    rw [← h.1, HMs.out]
                                    exact HD.out
                                  rw [hcp] at a2
                                  clear HN HMs HD hob HMp
                                  go_wp2
                                  exact ⟨⟨k + 1, yx, by go_num, rfl, by omega, HE.out⟩, by simp [intOf]; omega⟩
                                · by_cases hy : 0 < yx
                                  · have hyes : c.p = true ∧ 0 < yx := ⟨hcp, hy⟩
                                    have hob2 := hob hcp
                                    have HE : Hid (yx - 1 = ovR vx (L1.take (k + 1)) ∧ Dr w (.slice (some ⟨go, 0, none⟩) T.length co) (.slice (some ⟨gp, 0, none⟩) T.length cp) (onE vx (L1.take (k + 1)) ++ L1.drop (k + 1)) (wr.setCell ⟨go, k, none⟩ (.int .i64 (c.o + 1)))) := by
                                      have h := HN.out
                                      rw [if_pos hyes, if_pos hyes] at h
                                      refine ⟨h.2.symm, ?_⟩
                                      have := HD.out.putQ Hml.out hne l1 k ⟨c.t, c.p, c.o + 1⟩ c HMp.out rfl
                                      rw [h.1] at this
                                      exact this
                                    rw [hcp] at a2
                                    have w1 : IntKind.i64.wrap (c.o + 1) = c.o + 1 := by rw [IntKind.wrap_i64]; omega
                                    have w2 : IntKind.i64.wrap (yx - 1) = yx - 1 := by rw [IntKind.wrap_i64]; omega
                                    clear HN HMs HD hob HMp hyes
                                    go_wp2
                                    exact ⟨⟨k + 1, yx - 1, by go_num, rfl, by omega, HE.out⟩, by simp [intOf]; omega⟩
                                  · have HE : Hid (yx = ovR vx (L1.take (k + 1)) ∧ Dr w (.slice (some ⟨go, 0, none⟩) T.length co) (.slice (some ⟨gp, 0, none⟩) T.length cp) (onE vx (L1.take (k + 1)) ++ L1.drop (k + 1)) wr) := by
                                      have hno : ¬ (c.p = true ∧ 0 < yx) := fun h => hy h.2
                                      have h := HN.out
                                      rw [if_neg hno, if_neg hno] at h
                                      refine ⟨by omega, ?_⟩
                                      rw [← h.1, HMs.out]
                                      exact HD.out
                                    rw [hcp] at a2
                                    clear HN HMs HD hob HMp
                                    go_wp2
                                    exact ⟨⟨k + 1, yx, by go_num, rfl, by omega, HE.out⟩, by simp [intOf]; omega⟩
                            · obtain rfl : k = T.length := by omega
                              have HF : Hid (OwI w.heap.size wr (.slice oa T.length co) R ∧ Below w.heap.size w wr) := by
                                have h := HK.out.2
                                rw [List.take_of_length_le (by omega), List.drop_of_length_le (by omega), List.append_nil] at h
                                refine ⟨?_, h.bel⟩
                                rw [← HRe.out]
                                exact h.oo
                              clear HK
                              go_wp2
                              go_ret
                              exact ⟨_, rfl, HF⟩
                    · as_aux_lemma =>
                        have ha := HE.out.2.1.symm
                        have hlb := les_bd lf (gsum L) L HOk.out
                        have hlx : 0 ≤ lx ∧ lx ≤ 16777216 := by rw [HE.out.1]; omega
                        have hpos : 0 < gsum L := by have := Hge.out; omega
                        have HN : Hid (∃ L', cntP L' ≤ cntP (L.map (fil lf (gsum L))) ∧ L'.map (·.t) = T ∧ ShI (lf - lx) L' ∧ (lf - lx ≤ 32768 ∨ T.length = 0) ∧ Dr w (.slice oa T.length co) (.slice pa T.length cp) L' wr ∧ endR (lf - lx) L' = R) := by
                          refine ⟨L.map (fil lf (gsum L)), Nat.le_refl _, by rw [fil_tk]; exact HS.out.2.2.2, ?_, .inl (by omega), HE.out.2.2, ?_⟩
                          · rw [HE.out.1]
                            exact HS.out.1.fil hpos
                          · rw [HE.out.1, ← end_more HS.out.1.gro ha, HS.out.2.2.1]
                        have Hlt : Hid (cntP (L.map (fil lf (gsum L))) < cntP L) := cnt_lt lf (gsum L) L ha
                        have wl : IntKind.i64.wrap (lf - lx) = lf - lx := by rw [IntKind.wrap_i64]; omega
                        clear HE ha hlb HS HOk HTk HTc Hge HNz HG
                        go_wp2
                        go_roundg (cntP (L.map (fil lf (gsum L))))
                        case measure => have := Hlt.out; omega
                        case rel => exact ⟨lf - lx, rfl, HN⟩

end Go.Proofs.YthnhcphkpffkfaaGreat
