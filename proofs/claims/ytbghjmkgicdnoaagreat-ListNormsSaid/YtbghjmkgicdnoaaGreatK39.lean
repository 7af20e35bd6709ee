/-
  Texts of this claim, one behind the other: what each is about stands ahead of it.
-/
import Derived.Test.YtbghjmkgicdnoaaGreatK38
import Derived.Test.YtbghjmkgicdnoaaGreatK33
import Derived.Test.YtbghjmkgicdnoaaGreatK35
import Derived.Test.YtbghjmkgicdnoaaGreatK36
/-
  Contracts of package list: a list without idle pairs, in its own memory.
-/
namespace Go.Proofs.YtbghjmkgicdnoaaGreat
open Go.RowKit

theorem bz_close {o rest : List St} {s : St} (h : cloB o.reverse s = true) : ∃ c t, o = c :: t ∧ bz St.k o (s :: rest) = bz St.k t rest := by
  unfold cloB at h
  rw [Bool.and_eq_true] at h
  have h5 : s.k = 5 := by simpa using h.1
  cases o with
  | nil => simp at h
  | cons c t =>
    have h4 : c.k = 4 := by simpa using h.2
    exact ⟨c, t, rfl, by rw [bz, if_pos ⟨h5, h4⟩]⟩
theorem bz_keep {o rest : List St} {s : St} (h : cloB o.reverse s = false) : bz St.k o (s :: rest) = bz St.k (s :: o) rest := by
  unfold cloB at h
  cases o with
  | nil => rw [bz]
  | cons c t =>
    rw [bz, if_neg]
    rintro ⟨h5, h4⟩
    simp [h5, h4] at h

/-- What lies there while idle pairs are left out: ahead what is kept, behind what is to come. -/
structure BuW (w : World) (lo g n cap : Nat) (l : List St) (m j : Nat) (M o : List St) (W : World) : Prop where
  fr : W.ownsRow lo 48 15 (.slice (some ⟨g, 0, none⟩) n cap) n (flatZ M)
  fn : M.length = n
  fa : m ≤ j
  fb : j ≤ n
  fk : M.take m = o.reverse
  fe : o.length = m
  fd : M.drop j = l.drop j
  fz : bz St.k o (l.drop j) = busy l
  fw : w.grownBy W (some g)
theorem BuW.below {w : World} {lo g n cap : Nat} {l : List St} {m j : Nat} {M o : List St} {W W' : World} (h : BuW w lo g n cap l m j M o W) (hb : Below W.heap.size W W') : BuW w lo g n cap l m j M o W' :=
  ⟨row_below h.fr hb, h.fn, h.fa, h.fb, h.fk, h.fe, h.fd, h.fz, ob_trans h.fw ⟨hb.os, hb.tape, hb.output, hb.size, fun b hb' _ => hb.block b hb'⟩⟩
theorem BuW.at {w : World} {lo g n cap : Nat} {l : List St} {m j : Nat} {M o : List St} {W : World} (h : BuW w lo g n cap l m j M o W) (i : Nat) (hi : i < M.length) : StAt W g (i * 15) M[i] := by
  rw [stat_iff]
  intro q hq
  have := h.fn
  rw [own_cell h.fr (i * 15 + q) (by omega), flatZ_at M i hi q hq]
theorem drop_step {M l : List St} {j : Nat} (h : M.drop j = l.drop j) : M.drop (j + 1) = l.drop (j + 1) := by
  have : ∀ X : List St, X.drop (j + 1) = (X.drop j).drop 1 := fun X => by rw [List.drop_drop]
  rw [this M, this l, h]
theorem BuW.keep {w : World} {lo g n cap : Nat} {l : List St} {m j : Nat} {M o : List St} {W W' : World} (h : BuW w lo g n cap l m j M o W) (hj : j < n) (hl : j < l.length) (hc : cloB o.reverse l[j] = false) (h1 : W'.ownsRow lo 48 15 (.slice (some ⟨g, 0, none⟩) n cap) n (flatZ (M.set m l[j]))) (h2 : W.grownBy W' (some g)) : BuW w lo g n cap l (m + 1) (j + 1) (M.set m l[j]) (l[j] :: o) W' := by
  have hn := h.fn
  have ha := h.fa
  refine ⟨h1, by rw [List.length_set]; exact hn, by omega, by omega, ?_, by simp [h.fe], ?_, ?_, ob_trans h.fw h2⟩
  · have hm : m < (M.set m l[j]).length := by rw [List.length_set]; omega
    rw [← List.take_append_getElem hm, List.take_set_of_le (Nat.le_refl m), List.getElem_set_self, h.fk, List.reverse_cons]
  · rw [List.drop_set_of_lt (by omega)]
    exact drop_step h.fd
  · have z := h.fz
    rw [List.drop_eq_getElem_cons hl, bz_keep hc] at z
    exact z
theorem BuW.pop {w : World} {lo g n cap : Nat} {l : List St} {m j : Nat} {M o : List St} {W : World} (h : BuW w lo g n cap l m j M o W) (hj : j < n) (hl : j < l.length) (hc : cloB o.reverse l[j] = true) : 0 < m ∧ ∃ t, BuW w lo g n cap l (m - 1) (j + 1) M t W := by
  have hn := h.fn
  have ha := h.fa
  obtain ⟨c, t, e, hz⟩ := bz_close (rest := l.drop (j + 1)) hc
  have hm := h.fe
  rw [e, List.length_cons] at hm
  refine ⟨by omega, t, h.fr, hn, by omega, by omega, ?_, by omega, drop_step h.fd, ?_, h.fw⟩
  · have hk := h.fk
    rw [e, List.reverse_cons] at hk
    have h3 : M.take (m - 1) = (M.take m).take (m - 1) := by rw [List.take_take]; congr 1; omega
    rw [h3, hk]
    exact List.take_left' (by rw [List.length_reverse]; omega)
  · have z := h.fz
    rw [List.drop_eq_getElem_cons hl, hz] at z
    exact z

set_option maxRecDepth 20000 in
set_option maxHeartbeats 8000000 in
theorem lbusy_any (l : List St) (v : Value) (lo : Nat) (w : World) (ho : OwS lo w v l) (hl : l.length ≤ 100000) :
    Calls Tryz.prog 35 #[v] w fun e w' => ∃ u, e = .returned u ∧ Hid (OwS lo w' u (busy l) ∧ w.grownBy w' v.ownBlock ∧ u.ownBlock = v.ownBlock ∧ ∃ M, OwS lo w' v M) := by
  obtain ⟨oa, cap, rfl, hc, hg⟩ := row_val ho
  by_cases h0 : l.length = 0
  · obtain rfl : l = [] := List.length_eq_zero_iff.1 h0
    have HF : Hid (OwS lo w (.slice oa 0 cap) (busy []) ∧ w.grownBy w (Value.slice oa 0 cap).ownBlock) := ⟨ho, World.grownBy.refl _ _⟩
    clear ho hg h0 hl
    rw [List.length_nil] at hc ⊢
    go_enter Tryz.func35, Tryz.ntmps35
    go_wp2
    go_step3
    go_wp2
    go_step3
    go_wp2_with fail
    go_loopw [3, 4] (fun kv jv wr => kv = .slice oa 0 cap ∧ jv = .int .i64 0 ∧ wr = w) (fun _ _ _ => 0)
    case atStart => exact ⟨rfl, rfl, rfl⟩
    case round =>
      obtain ⟨rfl, rfl, rfl⟩ := hrel
      go_wp2
      rw [Exit.noGoto_ret]
      go_ret
      exact ⟨_, rfl, HF.out.1, HF.out.2, rfl, [], HF.out.1⟩
  obtain ⟨g, rfl, hg1, hg2⟩ := hg (by omega)
  obtain ⟨n, hn⟩ : ∃ n, n = l.length := ⟨_, rfl⟩
  have HN : Hid (n = l.length) := hn
  have H0 : Hid (∃ M o, BuW w lo g n cap l 0 0 M o w) := by
    refine ⟨l, [], ?_, hn.symm, Nat.le_refl _, by omega, rfl, rfl, rfl, rfl, World.grownBy.refl _ _⟩
    unfold OwS at ho
    rw [← hn] at ho
    exact ho
  have hn0 : 0 < n := by omega
  rw [← hn] at hc hl ⊢
  clear ho hg h0 hn
  have HCl : Hid (∀ (K : List St) (m : Nat) (s : St) W, m = K.length → (∀ c, K.getLast? = some c → g < W.heap.size ∧ W.cell? ⟨g, (m - 1) * 15, none⟩ = some (.int .u8 c.k)) → m ≤ cap → m ≤ 100000 → Calls Tryz.prog 66 #[.slice (some ⟨g, 0, none⟩) m cap, (Value.agg #[.int .u8 s.k, .int .i64 s.r.x, .int .i64 s.r.y, .int .i64 s.r.w, .int .i64 s.r.h, .int .u8 s.c.r, .int .u8 s.c.g, .int .u8 s.c.b, .int .u8 s.c.a, .int .u8 s.b.r, .int .u8 s.b.g, .int .u8 s.b.b, .int .u8 s.b.a, .string s.t, .int .i64 s.n])] W fun e w' => e = .returned (.bool (cloB K s)) ∧ Below W.heap.size W w') := fun K m s W h1 h2 h3 h4 => closes_any K _ m cap s W h1 (fun c hc => ⟨g, rfl, h2 c hc⟩) h3 h4
  obtain ⟨i0, hi, hz0, hz1, hz2⟩ := info_parts info_strokeZ
  have HI : Hid (Tryz.prog.info? 48 = some i0 ∧ i0.size = 15) := ⟨hi, hz1⟩
  clear hi hz0 hz1 hz2
  go_enter Tryz.func35, Tryz.ntmps35
  go_wp2_with fail
  refine wp_scope_jumps 0 (fun a' w' => ∃ (m j : Nat) (u5 u6 u7 u8 u9 u10 u11 u12 u13 u14 u15 u16 u17 u18 u19 u20 u21 u22 u23 u24 u25 u26 u27 u28 u29 u30 u31 u32 u33 u34 u35 u36 u37 u38 u39 u40 : Value), a' = ⟨#[.slice (some ⟨g, 0, none⟩) n cap, undef, .slice none 0 0, .slice (some ⟨g, 0, none⟩) m cap, .int .i64 j, u5, u6, u7, u8, u9, u10, u11, u12, u13, u14, u15, u16, u17, u18, u19, u20, u21, u22, u23, u24, u25, u26, u27, u28, u29, u30, u31, u32, u33, u34, u35, u36, u37, u38, u39, u40], []⟩ ∧ j ≤ n ∧ Hid (∃ M o, BuW w lo g n cap l m j M o w')) (fun a' _ => n - (intOf (a'.tmps.getD 4 undef)).toNat) rfl ?_ ?_
  · go_wp2_with fail
    go_step3
    go_wp2_with fail
    go_loopw [3, 4] (fun kv jv wr => ∃ m j : Nat, kv = .slice (some ⟨g, 0, none⟩) m cap ∧ jv = .int .i64 j ∧ m ≤ j ∧ 0 ≤ j ∧ j ≤ n ∧ Hid (∃ M o, BuW w lo g n cap l m j M o wr)) (fun _ j _ => n - (intOf j).toNat)
    case atStart => exact ⟨0, 0, rfl, rfl, Nat.le_refl _, Nat.le_refl _, Nat.zero_le _, H0⟩
    case round =>
      obtain ⟨m, j, rfl, rfl, hmj, hj0j, hjn, HK⟩ := hrel
      by_cases hlt : j < n
      · have ij : (j : Int) < n := by omega
        have hll : j < l.length := by rw [← HN.out]; exact hlt
        obtain ⟨M, o, hB⟩ := HK.out
        have hMj : j < M.length := by rw [hB.fn]; exact hlt
        have eMj : M[j] = l[j] := by
          have e := hB.fd
          rw [List.drop_eq_getElem_cons hMj, List.drop_eq_getElem_cons hll] at e
          injection e
        have hx := hB.at j hMj
        rw [eMj] at hx
        have HCx : Hid (Calls Tryz.prog 66 #[.slice (some ⟨g, 0, none⟩) m cap, (Value.agg #[.int .u8 l[j].k, .int .i64 l[j].r.x, .int .i64 l[j].r.y, .int .i64 l[j].r.w, .int .i64 l[j].r.h, .int .u8 l[j].c.r, .int .u8 l[j].c.g, .int .u8 l[j].c.b, .int .u8 l[j].c.a, .int .u8 l[j].b.r, .int .u8 l[j].b.g, .int .u8 l[j].b.b, .int .u8 l[j].b.a, .string l[j].t, .int .i64 l[j].n])] wr fun e w' => e = .returned (.bool (cloB o.reverse l[j])) ∧ Below wr.heap.size wr w') := HCl.out o.reverse m l[j] wr (by rw [List.length_reverse]; exact hB.fe.symm) (fun c hc => by
          refine ⟨(row_lt hB.fr g rfl).2, ?_⟩
          have hm0 : 0 < m := by
            have := hB.fe
            cases o with
            | nil => simp at hc
            | cons a b => simp at this; omega
          have hm1 : m - 1 < M.length := by rw [hB.fn]; omega
          have ec : M[m - 1] = c := by
            have e1 : (M.take m)[m - 1]? = some M[m - 1] := by rw [List.getElem?_take_of_lt (by omega), List.getElem?_eq_getElem hm1]
            rw [hB.fk] at e1
            rw [List.getLast?_eq_getElem?, List.length_reverse, hB.fe] at hc
            rw [hc] at e1
            exact (Option.some.inj e1).symm
          have := (hB.at (m - 1) hm1).1
          rw [ec] at this
          exact this) (by omega) (by omega)
        have HB : Hid (BuW w lo g n cap l m j M o wr) := hB
        clear HK hB hMj eMj
        obtain ⟨xc, hxc⟩ : ∃ xc, xc = l[j] := ⟨_, rfl⟩
        have HXC : Hid (xc = l[j]) := hxc
        rw [← hxc] at hx HCx
        obtain ⟨cb, hcb⟩ : ∃ cb, cloB o.reverse xc = cb := ⟨_, rfl⟩
        have HCB : Hid (cloB o.reverse xc = cb) := hcb
        rw [hcb] at HCx
        clear hxc hcb
        obtain ⟨x0, x1, x2, x3, x4, x5, x6, x7, x8, x9, x10, x11, x12, x13, x14⟩ := hx
        go_wp2_with fail
        refine HCx.out.mono ?_
        rintro e w1 ⟨rfl, hb1⟩
        have H1 : Hid (BuW w lo g n cap l m j M o w1 ∧ StAt w1 g (j * 15) xc) := by
          have h := HB.out.below hb1
          refine ⟨h, ?_⟩
          have hMj : j < M.length := by rw [h.fn]; exact hlt
          have eMj : M[j] = l[j] := by
            have e := h.fd
            rw [List.drop_eq_getElem_cons hMj, List.drop_eq_getElem_cons hll] at e
            injection e
          have q := h.at j hMj
          rw [eMj, ← HXC.out] at q
          exact q
        clear hb1 HB HCx x0 x1 x2 x3 x4 x5 x6 x7 x8 x9 x10 x11 x12 x13 x14
        cases cb with
        | false =>
          obtain ⟨x0, x1, x2, x3, x4, x5, x6, x7, x8, x9, x10, x11, x12, x13, x14⟩ := H1.out.2
          have HA : Hid (∀ q, BuW w lo g n cap l m j M o (w1.alloc q)) := fun q => H1.out.1.below ((Below.refl _ _).alloc (Nat.le_refl _) _)
          have HMl : Hid (M.length = n) := H1.out.1.fn
          obtain ⟨hi, hz1⟩ := HI.out
          go_wp2_with (at_builtin; refine app_in rfl _ _ rfl i0 Tryz.underlying22 hi hz1 lo g m n cap M rfl (HA.out _).fr HMl.out (by omega) _ 1 xc rfl (cell_strokeB _ xc _ _ rfl) ?_)
          intro w4 H4
          have HRel : Hid (∃ M o, BuW w lo g n cap l (m + 1) (j + 1) M o w4) := by
            have e := HXC.out
            refine ⟨_, _, (HA.out _).keep hlt hll (by rw [← e]; exact HCB.out) (by rw [← e]; exact H4.out.1) H4.out.2⟩
          clear H4 HA H1 hi hz1 x0 x1 x2 x3 x4 x5 x6 x7 x8 x9 x10 x11 x12 x13 x14
          go_wp2
          go_roundw
          case rel => exact ⟨m + 1, j + 1, rfl, by go_num, by omega, by omega, by omega, HRel⟩
          case measure => simp [intOf]; omega
        | true =>
          obtain ⟨hm0, t, hP⟩ := H1.out.1.pop hlt hll (by rw [← HXC.out]; exact HCB.out)
          obtain ⟨p, hp⟩ : ∃ p, p = m - 1 := ⟨_, rfl⟩
          have z1 : (m : Int) - 1 = (p : Int) := by omega
          have z2 : (p : Int) ≤ (m : Int) := by omega
          have z3 : p ≤ cap := by omega
          have z5 : p ≤ 100000 := by omega
          have z6 : (p : Int) ≤ (cap : Int) := by omega
          have HRel : Hid (∃ M o, BuW w lo g n cap l p (j + 1) M o w1) := by rw [hp]; exact ⟨_, _, hP⟩
          clear hP H1 HCB HXC hp
          go_wp2_with fail
          go_step3
          exact ⟨rfl, p, j + 1, _, _, _, _, _, _, _, _, _, _, _, _, _, _, _, _, _, _, _, _, _, _, _, _, _, _, _, _, _, _, _, _, _, _, _, _, rfl, by omega, HRel⟩
      · obtain rfl : j = n := by omega
        have ij : ¬ (j : Int) < j := by omega
        have HF : Hid (OwS lo wr (.slice (some ⟨g, 0, none⟩) m cap) (busy l) ∧ w.grownBy wr (some g) ∧ ∃ M, OwS lo wr (.slice (some ⟨g, 0, none⟩) j cap) M) := by
          obtain ⟨M, o, hB⟩ := HK.out
          refine ⟨?_, hB.fw, M, by unfold OwS; rw [hB.fn]; exact hB.fr⟩
          have hz := hB.fz
          rw [List.drop_of_length_le (by rw [HN.out]; exact Nat.le_refl _)] at hz
          have e1 : bz St.k o [] = o.reverse := by cases o <;> rfl
          rw [e1] at hz
          have e2 : busy l = M.take m := by rw [hB.fk, hz]
          have o3 := own_cutN hB.fr (m := m) (by omega)
          have e3 : (flatZ M).take (m * 15) = flatZ (M.take m) := by
            conv => lhs; rw [← List.take_append_drop m M, flatZ_app]
            exact List.take_left' (by rw [flatZ_len, List.length_take, hB.fn]; omega)
          have e4 : (M.take m).length = m := by rw [List.length_take, hB.fn]; omega
          unfold OwS
          rw [e2, e4, ← e3]
          exact o3
        clear HK
        go_wp2
        try simp only [Exit.jump]
        go_ret
        exact ⟨_, rfl, HF.out.1, HF.out.2.1, rfl, HF.out.2.2⟩
  · rintro a' w' ⟨m0, j0, u5, u6, u7, u8, u9, u10, u11, u12, u13, u14, u15, u16, u17, u18, u19, u20, u21, u22, u23, u24, u25, u26, u27, u28, u29, u30, u31, u32, u33, u34, u35, u36, u37, u38, u39, u40, rfl, hj0, HB0⟩
    have hmj0 : m0 ≤ j0 := by obtain ⟨M, o, h⟩ := HB0.out; exact h.fa
    go_wp2_with fail
    go_loopw [3, 4] (fun kv jv wr => ∃ m j : Nat, kv = .slice (some ⟨g, 0, none⟩) m cap ∧ jv = .int .i64 j ∧ m ≤ j ∧ j0 ≤ j ∧ j ≤ n ∧ Hid (∃ M o, BuW w lo g n cap l m j M o wr)) (fun _ j _ => n - (intOf j).toNat)
    case atStart => exact ⟨m0, j0, rfl, rfl, hmj0, Nat.le_refl _, hj0, HB0⟩
    case round =>
      clear HB0
      obtain ⟨m, j, rfl, rfl, hmj, hj0j, hjn, HK⟩ := hrel
      by_cases hlt : j < n
      · have ij : (j : Int) < n := by omega
        have hll : j < l.length := by rw [← HN.out]; exact hlt
        obtain ⟨M, o, hB⟩ := HK.out
        have hMj : j < M.length := by rw [hB.fn]; exact hlt
        have eMj : M[j] = l[j] := by
          have e := hB.fd
          rw [List.drop_eq_getElem_cons hMj, List.drop_eq_getElem_cons hll] at e
          injection e
        have hx := hB.at j hMj
        rw [eMj] at hx
        have HCx : Hid (Calls Tryz.prog 66 #[.slice (some ⟨g, 0, none⟩) m cap, (Value.agg #[.int .u8 l[j].k, .int .i64 l[j].r.x, .int .i64 l[j].r.y, .int .i64 l[j].r.w, .int .i64 l[j].r.h, .int .u8 l[j].c.r, .int .u8 l[j].c.g, .int .u8 l[j].c.b, .int .u8 l[j].c.a, .int .u8 l[j].b.r, .int .u8 l[j].b.g, .int .u8 l[j].b.b, .int .u8 l[j].b.a, .string l[j].t, .int .i64 l[j].n])] wr fun e w' => e = .returned (.bool (cloB o.reverse l[j])) ∧ Below wr.heap.size wr w') := HCl.out o.reverse m l[j] wr (by rw [List.length_reverse]; exact hB.fe.symm) (fun c hc => by
          refine ⟨(row_lt hB.fr g rfl).2, ?_⟩
          have hm0 : 0 < m := by
            have := hB.fe
            cases o with
            | nil => simp at hc
            | cons a b => simp at this; omega
          have hm1 : m - 1 < M.length := by rw [hB.fn]; omega
          have ec : M[m - 1] = c := by
            have e1 : (M.take m)[m - 1]? = some M[m - 1] := by rw [List.getElem?_take_of_lt (by omega), List.getElem?_eq_getElem hm1]
            rw [hB.fk] at e1
            rw [List.getLast?_eq_getElem?, List.length_reverse, hB.fe] at hc
            rw [hc] at e1
            exact (Option.some.inj e1).symm
          have := (hB.at (m - 1) hm1).1
          rw [ec] at this
          exact this) (by omega) (by omega)
        have HB : Hid (BuW w lo g n cap l m j M o wr) := hB
        clear HK hB hMj eMj
        obtain ⟨xc, hxc⟩ : ∃ xc, xc = l[j] := ⟨_, rfl⟩
        have HXC : Hid (xc = l[j]) := hxc
        rw [← hxc] at hx HCx
        obtain ⟨cb, hcb⟩ : ∃ cb, cloB o.reverse xc = cb := ⟨_, rfl⟩
        have HCB : Hid (cloB o.reverse xc = cb) := hcb
        rw [hcb] at HCx
        clear hxc hcb
        obtain ⟨x0, x1, x2, x3, x4, x5, x6, x7, x8, x9, x10, x11, x12, x13, x14⟩ := hx
        go_wp2_with fail
        refine HCx.out.mono ?_
        rintro e w1 ⟨rfl, hb1⟩
        have H1 : Hid (BuW w lo g n cap l m j M o w1 ∧ StAt w1 g (j * 15) xc) := by
          have h := HB.out.below hb1
          refine ⟨h, ?_⟩
          have hMj : j < M.length := by rw [h.fn]; exact hlt
          have eMj : M[j] = l[j] := by
            have e := h.fd
            rw [List.drop_eq_getElem_cons hMj, List.drop_eq_getElem_cons hll] at e
            injection e
          have q := h.at j hMj
          rw [eMj, ← HXC.out] at q
          exact q
        clear hb1 HB HCx x0 x1 x2 x3 x4 x5 x6 x7 x8 x9 x10 x11 x12 x13 x14
        cases cb with
        | false =>
          obtain ⟨x0, x1, x2, x3, x4, x5, x6, x7, x8, x9, x10, x11, x12, x13, x14⟩ := H1.out.2
          have HA : Hid (∀ q, BuW w lo g n cap l m j M o (w1.alloc q)) := fun q => H1.out.1.below ((Below.refl _ _).alloc (Nat.le_refl _) _)
          have HMl : Hid (M.length = n) := H1.out.1.fn
          obtain ⟨hi, hz1⟩ := HI.out
          go_wp2_with (at_builtin; refine app_in rfl _ _ rfl i0 Tryz.underlying22 hi hz1 lo g m n cap M rfl (HA.out _).fr HMl.out (by omega) _ 1 xc rfl (cell_strokeB _ xc _ _ rfl) ?_)
          intro w4 H4
          have HRel : Hid (∃ M o, BuW w lo g n cap l (m + 1) (j + 1) M o w4) := by
            have e := HXC.out
            refine ⟨_, _, (HA.out _).keep hlt hll (by rw [← e]; exact HCB.out) (by rw [← e]; exact H4.out.1) H4.out.2⟩
          clear H4 HA H1 hi hz1 x0 x1 x2 x3 x4 x5 x6 x7 x8 x9 x10 x11 x12 x13 x14
          go_wp2
          go_roundw
          case rel => exact ⟨m + 1, j + 1, rfl, by go_num, by omega, by omega, by omega, HRel⟩
          case measure => simp [intOf]; omega
        | true =>
          obtain ⟨hm0, t, hP⟩ := H1.out.1.pop hlt hll (by rw [← HXC.out]; exact HCB.out)
          obtain ⟨p, hp⟩ : ∃ p, p = m - 1 := ⟨_, rfl⟩
          have z1 : (m : Int) - 1 = (p : Int) := by omega
          have z2 : (p : Int) ≤ (m : Int) := by omega
          have z3 : p ≤ cap := by omega
          have z5 : p ≤ 100000 := by omega
          have z6 : (p : Int) ≤ (cap : Int) := by omega
          have HRel : Hid (∃ M o, BuW w lo g n cap l p (j + 1) M o w1) := by rw [hp]; exact ⟨_, _, hP⟩
          clear hP H1 HCB HXC hp
          go_wp2_with fail
          go_step3
          exact ⟨rfl, ⟨p, j + 1, _, _, _, _, _, _, _, _, _, _, _, _, _, _, _, _, _, _, _, _, _, _, _, _, _, _, _, _, _, _, _, _, _, _, _, _, rfl, by omega, HRel⟩, by simp [intOf]; omega⟩
      · obtain rfl : j = n := by omega
        have ij : ¬ (j : Int) < j := by omega
        have HF : Hid (OwS lo wr (.slice (some ⟨g, 0, none⟩) m cap) (busy l) ∧ w.grownBy wr (some g) ∧ ∃ M, OwS lo wr (.slice (some ⟨g, 0, none⟩) j cap) M) := by
          obtain ⟨M, o, hB⟩ := HK.out
          refine ⟨?_, hB.fw, M, by unfold OwS; rw [hB.fn]; exact hB.fr⟩
          have hz := hB.fz
          rw [List.drop_of_length_le (by rw [HN.out]; exact Nat.le_refl _)] at hz
          have e1 : bz St.k o [] = o.reverse := by cases o <;> rfl
          rw [e1] at hz
          have e2 : busy l = M.take m := by rw [hB.fk, hz]
          have o3 := own_cutN hB.fr (m := m) (by omega)
          have e3 : (flatZ M).take (m * 15) = flatZ (M.take m) := by
            conv => lhs; rw [← List.take_append_drop m M, flatZ_app]
            exact List.take_left' (by rw [flatZ_len, List.length_take, hB.fn]; omega)
          have e4 : (M.take m).length = m := by rw [List.length_take, hB.fn]; omega
          unfold OwS
          rw [e2, e4, ← e3]
          exact o3
        clear HK
        go_wp2
        try simp only [Exit.jump]
        go_ret
        exact ⟨_, rfl, HF.out.1, HF.out.2.1, rfl, HF.out.2.2⟩

end Go.Proofs.YtbghjmkgicdnoaaGreat

/-
  Contracts of package list: a list cut to a rectangle.
-/
namespace Go.Proofs.YtbghjmkgicdnoaaGreat
open Go.RowKit

/-- The strokes of a list that are not wholly outside of a rectangle, a Clip ahead and an Open behind them. -/
def cutL (A : List (St × Rc)) (q : Rc) : List St := cliS q :: ((A.filter (witP q)).map Prod.fst ++ [opeS])
theorem cutL_grp (A : List (St × Rc)) (q : Rc) : busy (cutL A q) = grpL A q := rfl

set_option maxRecDepth 10000 in
set_option maxHeartbeats 2000000 in
theorem cut1_any (x q : Rc) (bx : Nat) (W : World) (h : Bk W bx #[.int .i64 q.x, .int .i64 q.y, .int .i64 q.w, .int .i64 q.h] 44) (hx : I64 x.x) (hy : I64 x.y) (qx : I64 q.x) (qy : I64 q.y) :
    Calls Tryz.prog 68 #[.agg #[.int .i64 x.x, .int .i64 x.y, .int .i64 x.w, .int .i64 x.h], .pointer (some ⟨bx, 0, none⟩)] W fun e w' => e = .returned (.bool (zOv x q)) ∧ Below W.heap.size W w' := by
  have HO : Hid (∀ w, Calls Tryz.prog 69 #[.agg #[.int .i64 x.x, .int .i64 x.y, .int .i64 x.w, .int .i64 x.h], .agg #[.int .i64 q.x, .int .i64 q.y, .int .i64 q.w, .int .i64 q.h]] w fun e w' => e = .returned (.bool (zOv x q)) ∧ Below w.heap.size w w') := fun w => over_any _ _ _ _ _ _ _ _ w hx hy qx qy
  obtain ⟨c0, c1, c2, c3⟩ := h.at4
  have hlt := h.lt
  clear h hx hy qx qy
  generalize zOv x q = ov at *
  go_enter Tryz.func68, Tryz.ntmps68
  go_wp2_with fail
  refine (HO.out _).mono ?_
  rintro e w1 ⟨rfl, hb1⟩
  have HB : Hid (Below W.heap.size W w1) := by
    have h2 : Below W.heap.size W (W.alloc (.cells #[.int .i64 x.x, .int .i64 x.y, .int .i64 x.w, .int .i64 x.h] 44)) := (Below.refl _ W).alloc (Nat.le_refl _) _
    exact h2.trans (hb1.mono h2.size)
  clear hb1
  go_wp2
  go_ret
  exact ⟨rfl, HB.out⟩
theorem cut1_enters : ∀ args w, (callFunc 68 args).run Tryz.prog w = .ok (.enter 68 args) w := enters_of Tryz.func68 (by kernel_rfl) rfl
theorem cuts_any (L : List Rc) (v : Value) (q : Rc) (bx : Nat) (w : World) (hv : LsR w v L) (h : Bk w bx #[.int .i64 q.x, .int .i64 q.y, .int .i64 q.w, .int .i64 q.h] 44) (hL : ∀ x ∈ L, zMa x = true) (hq : zMa q = true) (hl : L.length < 1000000) :
    Calls Tryz.prog 64 #[v, .func (.func 68) #[] #[.pointer (some ⟨bx, 0, none⟩)]] w fun e w' => e = .returned (.bool (L.any fun a => zOv a q)) ∧ Below w.heap.size w w' :=
  contains_fn 68 #[.pointer (some ⟨bx, 0, none⟩)] (fun a => zOv a q) L v w hv cut1_enters (fun x hx W hW => by
    have hb := may_bd (hL x hx)
    have hc := may_bd hq
    have := cut1_any x q bx W (h.below hW) (i64_near ⟨hb.1, hb.2.1⟩) (i64_near ⟨hb.2.2.1, hb.2.2.2.1⟩) (i64_near ⟨hc.1, hc.2.1⟩) (i64_near ⟨hc.2.2.1, hc.2.2.2.1⟩)
    simpa using this) hl

end Go.Proofs.YtbghjmkgicdnoaaGreat

/-
  Contracts of package list: a list cut to a rectangle, told.
-/
namespace Go.Proofs.YtbghjmkgicdnoaaGreat
open Go.RowKit

/-- What lies there while a list is cut: a row of one's own, the rest as it was. -/
structure CuW (w0 w : World) (ob : Option Nat) (L : List St) (u : Value) (W : World) : Prop where
  fo : OwS w0.heap.size W u L
  fb : Below w0.heap.size w0 W
  fg : w.grownBy W ob
  fu : u.ownBlock = ob ∨ ∀ g, u.ownBlock = some g → w.heap.size ≤ g
theorem CuW.below {w0 w : World} {ob : Option Nat} {L : List St} {u : Value} {W W' : World} (h : CuW w0 w ob L u W) (hb : Below W.heap.size W W') : CuW w0 w ob L u W' :=
  ⟨h.fo.below hb, h.fb.trans (hb.mono h.fb.size), grow_trS h.fg ⟨hb.os, hb.tape, hb.output, hb.size, fun b hb' _ => hb.block b hb'⟩ (.inl rfl), h.fu⟩
theorem CuW.grow {w0 w : World} {ob : Option Nat} {L : List St} {u : Value} {W W' : World} {g n cap : Nat} {x : St} (h : CuW w0 w ob L u W) (h1 : OwS w0.heap.size W' (.slice (some ⟨g, 0, none⟩) n cap) (L ++ [x])) (h2 : W.grownBy W' u.ownBlock) (h3 : u.ownBlock = some g ∨ W.heap.size ≤ g) (hle : w.heap.size ≤ W.heap.size) : CuW w0 w ob (L ++ [x]) (.slice (some ⟨g, 0, none⟩) n cap) W' := by
  refine ⟨h1, h.fb.grown h2 h.fb.size (fun q hq => (row_lt h.fo q hq).1), grow_trS h.fg h2 ?_, ?_⟩
  · exact h.fu
  · rcases h3 with h3 | h3
    · rcases h.fu with h4 | h4
      · left; rw [← h4, h3]; rfl
      · right
        intro q hq
        have e : g = q := by injection hq
        rw [← e]
        exact h4 g h3
    · right
      intro q hq
      have e : g = q := by injection hq
      omega
theorem plc_len4 (s : St) (r : Rc) : (plc s r).length ≤ 4 := by
  unfold plc
  split
  · simp
  · split
    · refine Nat.le_trans (List.length_filter_le _ _) ?_
      simp [sidR]
    · simp
theorem Bk.typS {lo : Nat} {W : World} {u : Value} {L : List St} (h : OwS lo W u L) {g : Nat} (hg : u.ownBlock = some g) {vs : Array Value} (hb : Bk W g vs 44) : False := by
  obtain ⟨_, ⟨h, _⟩ | ⟨g', cap', cur, h, _, hc, _⟩⟩ := h
  · rw [h] at hg; cases hg
  · rw [h] at hg
    injection hg with hg
    subst hg
    have e := hc.symm.trans hb
    injection e with e
    injection e with _ e _
    exact absurd e (by decide)
theorem wit_next {A : List (St × Rc)} {q : Rc} {k : Nat} {p : St × Rc} (hk : k < A.length) (hp : A[k]? = some p) : ((A.take (k + 1)).filter (witP q)).map Prod.fst = ((A.take k).filter (witP q)).map Prod.fst ++ if witP q p = true then [p.1] else [] := by
  have e : A[k] = p := by rw [List.getElem?_eq_getElem hk] at hp; exact Option.some.inj hp
  rw [← List.take_append_getElem hk, List.filter_append, List.map_append, e]
  cases h : witP q p <;> simp [h]

set_option maxRecDepth 20000 in
set_option maxHeartbeats 8000000 in
theorem lcut_any (l : List St) (q : Rc) (vt vl va : Value) (w0 w : World) (hb : Below w0.heap.size w0 w) (hvl : LsS w0 vl l) (hva : RowsR w0 va ((ann [] l).map fun p => plc p.1 p.2)) (ho : OwS w0.heap.size w vt []) (hl : l.length ≤ 16384) (hc0 : clpE 0 l = 0) (hq : zMa q = true) :
    Calls Tryz.prog 38 #[vt, vl, va, .agg #[.int .i64 q.x, .int .i64 q.y, .int .i64 q.w, .int .i64 q.h]] w fun e w' => ∃ u, e = .returned u ∧ Hid (CuW w0 w vt.ownBlock (cutL (ann [] l) q) u w') := by
  obtain ⟨oa, cap, rfl, hc, hg⟩ := hvl
  obtain ⟨ob, cb, rfl, hcb, hgb⟩ := hva
  obtain ⟨i0, hi, hz0, hz1, hz2⟩ := info_parts info_strokeZ
  obtain ⟨N, hN⟩ : ∃ N, N = l.length := ⟨_, rfl⟩
  have hAl : ((ann [] l).map fun p => plc p.1 p.2).length = N := by rw [List.length_map, ann_len, hN]
  have HA : Hid (∀ k, k < N → ∃ p g o h1 h2 u, (ann [] l)[k]? = some p ∧ Kd p.1 ∧ oa = some ⟨g, o, none⟩ ∧ g < w0.heap.size ∧ StAt w0 g (o + k * 15) p.1 ∧ ob = some ⟨h1, h2, none⟩ ∧ h1 < w0.heap.size ∧ w0.cell? ⟨h1, h2 + k, none⟩ = some u ∧ LsR w0 u (plc p.1 p.2)) := fun k hk => by
    have hll : k < l.length := by omega
    have h' : k < (ann [] l).length := by rw [ann_len]; exact hll
    have e1 : ((ann [] l)[k]).1 = l[k] := by
      have := congrArg (fun L : List St => L[k]?) (ann_fst l [])
      simp only [List.getElem?_map, List.getElem?_eq_getElem h', List.getElem?_eq_getElem hll, Option.map_some, Option.some.injEq] at this
      exact this
    obtain ⟨g, o, e2, e3, e4⟩ := hg (by omega)
    obtain ⟨h1, h2, f2, f3, f4⟩ := hgb (by omega)
    obtain ⟨u, f5, f6, _⟩ := f4 k (by omega)
    rw [List.getElem_map] at f6
    refine ⟨(ann [] l)[k], g, o, h1, h2, u, List.getElem?_eq_getElem h', ?_, e2, e3, ?_, f2, f3, f5, f6⟩
    · rw [e1]; exact kd_one (clp_ones l 0 hc0 _ (List.getElem_mem hll))
    · rw [e1]; exact e4 k hll
  have HAl : Hid ((ann [] l).length = N) := by unfold Hid; rw [ann_len, hN]
  rw [hAl] at hcb ⊢
  rw [← hN] at hc hl ⊢
  clear hg hgb hc0 hN hAl
  obtain ⟨A, hA⟩ : ∃ A, A = ann [] l := ⟨_, rfl⟩
  rw [← hA] at HA HAl ⊢
  clear hA
  obtain ⟨cu, hcu⟩ : ∃ cu, cu = cutL A q := ⟨_, rfl⟩
  have HCU : Hid (cu = cliS q :: ((A.filter (witP q)).map Prod.fst ++ [opeS])) := hcu
  rw [← hcu]
  clear hcu
  obtain ⟨bq, hbq⟩ : ∃ bq, bq = w.heap.size := ⟨_, rfl⟩
  obtain ⟨obk, hobk⟩ : ∃ obk, obk = vt.ownBlock := ⟨_, rfl⟩
  rw [← hobk]
  have HB0 : Hid (Bk (w.alloc (.cells #[.int .i64 q.x, .int .i64 q.y, .int .i64 q.w, .int .i64 q.h] 44)) bq #[.int .i64 q.x, .int .i64 q.y, .int .i64 q.w, .int .i64 q.h] 44 ∧ CuW w0 w obk [] vt (w.alloc (.cells #[.int .i64 q.x, .int .i64 q.y, .int .i64 q.w, .int .i64 q.h] 44))) := by
    refine ⟨by rw [hbq]; exact Bk.new _ _ _, ?_⟩
    have h : CuW w0 w obk [] vt w := ⟨ho, hb, World.grownBy.refl _ _, .inl hobk.symm⟩
    exact h.below ((Below.refl _ _).alloc (Nat.le_refl _) _)
  have HVT : Hid (∀ g, vt.ownBlock = some g → g ≠ bq) := fun g h => by have := (row_lt ho g h).2; omega
  have HQ : Hid (zMa q = true ∧ bq = w.heap.size) := ⟨hq, hbq⟩
  clear ho hb hobk hq
  go_enter Tryz.func38, Tryz.ntmps38
  go_upto_region 2 with fail
  rw [← hbq]
  clear hbq
  generalize w.alloc (.cells #[.int .i64 q.x, .int .i64 q.y, .int .i64 q.w, .int .i64 q.h] 44) = w1 at *
  obtain ⟨c0, c1, c2, c3⟩ := HB0.out.1.at4
  have HA1 : Hid (∀ o, (w1.alloc o).ownsRow w0.heap.size 48 15 vt 0 (flatZ []) ∧ w0.heap.size ≤ (w1.alloc o).heap.size) := fun o => ⟨row_below HB0.out.2.fo ((Below.refl _ _).alloc (Nat.le_refl _) _), by have := HB0.out.2.fb.size; simp; omega⟩
  go_wp2_with (at_builtin; refine wpList_append_lies _ rfl _ _ 22 rfl w0.heap.size 48 i0 (.agg #[.int .u8 0, .int .i64 0, .int .i64 0, .int .i64 0, .int .i64 0, .int .u8 0, .int .u8 0, .int .u8 0, .int .u8 0, .int .u8 0, .int .u8 0, .int .u8 0, .int .u8 0, .string ByteArray.empty, .int .i64 0]) 15 72 Tryz.underlying22 hi hz0 hz1 hz2 rfl (by decide) vt 0 (flatZ []) rfl (HA1.out _).1 _ 1 1 (sCel (cliS q)) rfl rfl (cell_strokeB _ (cliS q) _ _ rfl) (oneZ (cliS q)) (by decide) (by unfold maxLen; omega) (by omega) (HA1.out _).2 _ rfl ?_)
  intro g2 cap2 w2 hown2 hgrow2 hlies2 hg2
  have H2 : Hid (CuW w0 w obk [cliS q] (.slice (some ⟨g2, 0, none⟩) 1 cap2) w2 ∧ Bk w2 bq #[.int .i64 q.x, .int .i64 q.y, .int .i64 q.w, .int .i64 q.h] 44) := by
    have hle : w.heap.size ≤ w1.heap.size := HB0.out.2.fg.size
    refine ⟨(HB0.out.2.below ((Below.refl _ w1).alloc (Nat.le_refl _) _)).grow (L := []) (x := cliS q) ?_ hgrow2 (by rcases hlies2 with h | h; exact .inl h; exact .inr (by simp; omega)) (by simp; omega), Bk.grown (HB0.out.1.below ((Below.refl _ _).alloc (Nat.le_refl _) _)) hgrow2 (fun h => HVT.out _ h rfl)⟩
    exact snocS (L := []) rfl hown2
  have HSz : Hid (w.heap.size ≤ w2.heap.size) := H2.out.1.fg.size
  clear hown2 hgrow2 hlies2 hg2 HA1 HB0 HVT c0 c1 c2 c3
  have H20 : Hid (CuW w0 w obk (cliS q :: ((A.take 0).filter (witP q)).map Prod.fst) (.slice (some ⟨g2, 0, none⟩) 1 cap2) w2 ∧ Bk w2 bq #[.int .i64 q.x, .int .i64 q.y, .int .i64 q.w, .int .i64 q.h] 44) := by simpa using H2
  clear H2
  go_wp2_with fail
  go_loopw [0, 20] (fun u i wr => ∃ k : Nat, i = .int .i64 k ∧ k ≤ N ∧ Hid (CuW w0 w obk (cliS q :: ((A.take k).filter (witP q)).map Prod.fst) u wr ∧ Bk wr bq #[.int .i64 q.x, .int .i64 q.y, .int .i64 q.w, .int .i64 q.h] 44)) (fun _ i _ => N - (intOf i).toNat)
  case atStart => exact ⟨0, rfl, Nat.zero_le _, H20⟩
  case round =>
    clear H20
    obtain ⟨k, rfl, hk, HK⟩ := hrel
    by_cases hlt : k < N
    · have ik : (k : Int) < N := by omega
      obtain ⟨p, g, o, h1, h2, ur, hp, hkd, rfl, hgl, hst, rfl, hhl, hcell, hlr⟩ := HA.out k hlt
      have hx : StAt wr g (o + k * 15) p.1 := hst.kept fun j => HK.out.1.fb.cell (p := ⟨g, j, none⟩) hgl
      have hgw : g < wr.heap.size := Nat.lt_of_lt_of_le hgl HK.out.1.fb.size
      obtain ⟨oR, cR, eR, hcR, -⟩ := id hlr
      subst eR
      have HW : Hid (((A.take (k + 1)).filter (witP q)).map Prod.fst = ((A.take k).filter (witP q)).map Prod.fst ++ if witP q p = true then [p.1] else []) := wit_next (by rw [HAl.out]; exact hlt) hp
      have HWd : Hid (witP q p = (!drw p.1 || (plc p.1 p.2).any fun a => zOv a q)) := rfl
      have HD : Hid (∀ W, Calls Tryz.prog 23 #[(Value.agg #[.int .u8 p.1.k, .int .i64 p.1.r.x, .int .i64 p.1.r.y, .int .i64 p.1.r.w, .int .i64 p.1.r.h, .int .u8 p.1.c.r, .int .u8 p.1.c.g, .int .u8 p.1.c.b, .int .u8 p.1.c.a, .int .u8 p.1.b.r, .int .u8 p.1.b.g, .int .u8 p.1.b.b, .int .u8 p.1.b.a, .string p.1.t, .int .i64 p.1.n])] W fun e w' => e = .returned (.bool (drw p.1)) ∧ Below W.heap.size W w') := fun W => draws_any p.1 W hkd
      have HR : Hid (∀ W, Below w0.heap.size w0 W → W.cell? ⟨h1, h2 + k, none⟩ = some (.slice oR (plc p.1 p.2).length cR)) := fun W h => (h.cell (p := ⟨h1, h2 + k, none⟩) hhl).trans hcell
      have HCo : Hid (∀ W, Below w0.heap.size w0 W → Bk W bq #[.int .i64 q.x, .int .i64 q.y, .int .i64 q.w, .int .i64 q.h] 44 → Calls Tryz.prog 64 #[.slice oR (plc p.1 p.2).length cR, .func (.func 68) #[] #[.pointer (some ⟨bq, 0, none⟩)]] W fun e w' => e = .returned (.bool ((plc p.1 p.2).any fun a => zOv a q)) ∧ Below W.heap.size W w') := fun W h hB => cuts_any _ _ q bq W (hlr.below h) hB (fun x hx => by have hz := plc_ne p.1 p.2 x hx; unfold zEm at hz; exact may_of hz) HQ.out.1 (by have := plc_len4 p.1 p.2; omega)
      have hfl : Hid ((cliS q :: ((A.take k).filter (witP q)).map Prod.fst).length ≤ k + 1) := by
        unfold Hid
        rw [List.length_cons, List.length_map]
        have := List.length_filter_le (witP q) (A.take k)
        rw [List.length_take] at this
        omega
      clear hst hcell hlr hcR
      generalize (plc p.1 p.2).any (fun a => zOv a q) = ab at *
      generalize (plc p.1 p.2).length = pl at *
      generalize drw p.1 = db at *
      obtain ⟨bx, hbx⟩ : ∃ bx, bx = wr.heap.size := ⟨_, rfl⟩
      obtain ⟨sx, hsx⟩ : ∃ sx, sx = p.1 := ⟨_, rfl⟩
      rw [← hsx] at hx HD HW
      have HBX : Hid (∀ W, Below (wr.alloc (.cells (#[.int .u8 sx.k, .int .i64 sx.r.x, .int .i64 sx.r.y, .int .i64 sx.r.w, .int .i64 sx.r.h, .int .u8 sx.c.r, .int .u8 sx.c.g, .int .u8 sx.c.b, .int .u8 sx.c.a, .int .u8 sx.b.r, .int .u8 sx.b.g, .int .u8 sx.b.b, .int .u8 sx.b.a, .string sx.t, .int .i64 sx.n]) 48)).heap.size (wr.alloc (.cells (#[.int .u8 sx.k, .int .i64 sx.r.x, .int .i64 sx.r.y, .int .i64 sx.r.w, .int .i64 sx.r.h, .int .u8 sx.c.r, .int .u8 sx.c.g, .int .u8 sx.c.b, .int .u8 sx.c.a, .int .u8 sx.b.r, .int .u8 sx.b.g, .int .u8 sx.b.b, .int .u8 sx.b.a, .string sx.t, .int .i64 sx.n]) 48)) W → Bk W bx (#[.int .u8 sx.k, .int .i64 sx.r.x, .int .i64 sx.r.y, .int .i64 sx.r.w, .int .i64 sx.r.h, .int .u8 sx.c.r, .int .u8 sx.c.g, .int .u8 sx.c.b, .int .u8 sx.c.a, .int .u8 sx.b.r, .int .u8 sx.b.g, .int .u8 sx.b.b, .int .u8 sx.b.a, .string sx.t, .int .i64 sx.n]) 48 ∧ Below wr.heap.size wr W) := fun W h => by
        have h2 : Below wr.heap.size wr (wr.alloc (.cells (#[.int .u8 sx.k, .int .i64 sx.r.x, .int .i64 sx.r.y, .int .i64 sx.r.w, .int .i64 sx.r.h, .int .u8 sx.c.r, .int .u8 sx.c.g, .int .u8 sx.c.b, .int .u8 sx.c.a, .int .u8 sx.b.r, .int .u8 sx.b.g, .int .u8 sx.b.b, .int .u8 sx.b.a, .string sx.t, .int .i64 sx.n]) 48)) := (Below.refl _ _).alloc (Nat.le_refl _) _
        refine ⟨?_, h2.trans (h.mono h2.size)⟩
        rw [hbx]
        exact (Bk.new wr _ _).below h
      have HBU : Hid (∀ g, (u0 : Value).ownBlock = some g → g ≠ bx ∧ g ≠ bq) := fun g h => by
        have h3 := (row_lt HK.out.1.fo g h).2
        refine ⟨by omega, fun e => ?_⟩
        rw [e] at h
        have hty := Bk.typS HK.out.1.fo h HK.out.2
        exact hty
      have HXB : Hid (bx = wr.heap.size) := hbx
      clear hsx hp hkd hbx HA
      obtain ⟨x0, x1, x2, x3, x4, x5, x6, x7, x8, x9, x10, x11, x12, x13, x14⟩ := hx
      obtain ⟨L, hL⟩ : ∃ L, L = cliS q :: ((A.take k).filter (witP q)).map Prod.fst := ⟨_, rfl⟩
      have HL : Hid (cliS q :: ((A.take (k + 1)).filter (witP q)).map Prod.fst = L ++ if witP q p = true then [sx] else []) := by
        unfold Hid
        rw [HW.out, hL]
        rfl
      rw [← hL] at HK hfl
      clear hL HW
      go_wp2_with fail
      rw [← HXB.out]
      refine (HD.out _).mono ?_
      rintro e w3 ⟨rfl, hb3⟩
      obtain ⟨hbk3, hb3⟩ := HBX.out _ hb3
      have H3 : Hid (CuW w0 w obk L u0 w3 ∧ Bk w3 bq #[.int .i64 q.x, .int .i64 q.y, .int .i64 q.w, .int .i64 q.h] 44 ∧ Bk w3 bx (#[.int .u8 sx.k, .int .i64 sx.r.x, .int .i64 sx.r.y, .int .i64 sx.r.w, .int .i64 sx.r.h, .int .u8 sx.c.r, .int .u8 sx.c.g, .int .u8 sx.c.b, .int .u8 sx.c.a, .int .u8 sx.b.r, .int .u8 sx.b.g, .int .u8 sx.b.b, .int .u8 sx.b.a, .string sx.t, .int .i64 sx.n]) 48) := ⟨HK.out.1.below hb3, HK.out.2.below hb3, hbk3⟩
      clear hb3 hbk3 HK HBX x0 x1 x2 x3 x4 x5 x6 x7 x8 x9 x10 x11 x12 x13 x14
      cases db with
      | false =>
        have HWt : Hid (witP q p = true) := by unfold Hid; rw [HWd.out]; rfl
        have cc := H3.out.2.2.cell
        have a0 := cc 0
        have a1 := cc 1
        have a2 := cc 2
        have a3 := cc 3
        have a4 := cc 4
        have a5 := cc 5
        have a6 := cc 6
        have a7 := cc 7
        have a8 := cc 8
        have a9 := cc 9
        have a10 := cc 10
        have a11 := cc 11
        have a12 := cc 12
        have a13 := cc 13
        have a14 := cc 14
        clear cc
        simp only [List.getElem?_toArray, List.getElem?_cons_zero, List.getElem?_cons_succ] at a0 a1 a2 a3 a4 a5 a6 a7 a8 a9 a10 a11 a12 a13 a14
        have HA2 : Hid (∀ o, (w3.alloc o).ownsRow w0.heap.size 48 15 u0 L.length (flatZ L) ∧ w0.heap.size ≤ (w3.alloc o).heap.size) := fun o => ⟨row_below H3.out.1.fo ((Below.refl _ _).alloc (Nat.le_refl _) _), by have := H3.out.1.fb.size; simp; omega⟩
        have hc3 : Hid (L.length + 1 ≤ maxLen) := by have := hfl.out; unfold Hid maxLen; omega
        have hc4 : Hid ((L.length + 1) * 72 ≤ 140737488355328) := by have := hfl.out; unfold Hid; omega
        go_wp2_with (at_builtin; refine wpList_append_lies _ rfl _ _ 22 rfl w0.heap.size 48 i0 (.agg #[.int .u8 0, .int .i64 0, .int .i64 0, .int .i64 0, .int .i64 0, .int .u8 0, .int .u8 0, .int .u8 0, .int .u8 0, .int .u8 0, .int .u8 0, .int .u8 0, .int .u8 0, .string ByteArray.empty, .int .i64 0]) 15 72 Tryz.underlying22 hi hz0 hz1 hz2 rfl (by decide) u0 L.length (flatZ L) rfl (HA2.out _).1 _ 1 1 (sCel sx) rfl rfl (cell_strokeB _ sx _ _ rfl) (oneZ sx) (by decide) hc3.out hc4.out (HA2.out _).2 _ rfl ?_)
        intro g5 cap5 w5 hown5 hgrow5 hlies5 hg5
        have HRel : Hid (CuW w0 w obk (cliS q :: ((A.take (k + 1)).filter (witP q)).map Prod.fst) (.slice (some ⟨g5, 0, none⟩) (L.length + 1) cap5) w5 ∧ Bk w5 bq #[.int .i64 q.x, .int .i64 q.y, .int .i64 q.w, .int .i64 q.h] 44) := by
          have hle : w.heap.size ≤ w3.heap.size := H3.out.1.fg.size
          rw [HL.out, HWt.out, if_pos rfl]
          refine ⟨(H3.out.1.below ((Below.refl _ w3).alloc (Nat.le_refl _) _)).grow ?_ hgrow5 (by rcases hlies5 with h | h; exact .inl h; exact .inr (by simp; omega)) (by simp; omega), Bk.grown (H3.out.2.1.below ((Below.refl _ _).alloc (Nat.le_refl _) _)) hgrow5 (fun h => (HBU.out _ h).2 rfl)⟩
          exact snocS rfl hown5
        clear hown5 hgrow5 hlies5 hg5 HA2 H3 a0 a1 a2 a3 a4 a5 a6 a7 a8 a9 a10 a11 a12 a13 a14
        go_wp2
        go_roundw
        case rel => exact ⟨k + 1, by go_num, by omega, HRel⟩
        case measure => simp [intOf]; omega
      | true =>
        have hrc := HR.out w3 H3.out.1.fb
        obtain ⟨b0, b1, b2, b3⟩ := H3.out.2.1.at4
        go_wp2_with fail
        refine (HCo.out w3 H3.out.1.fb H3.out.2.1).mono ?_
        rintro e w4 ⟨rfl, hb4⟩
        have H4 : Hid (CuW w0 w obk L u0 w4 ∧ Bk w4 bq #[.int .i64 q.x, .int .i64 q.y, .int .i64 q.w, .int .i64 q.h] 44 ∧ Bk w4 bx (#[.int .u8 sx.k, .int .i64 sx.r.x, .int .i64 sx.r.y, .int .i64 sx.r.w, .int .i64 sx.r.h, .int .u8 sx.c.r, .int .u8 sx.c.g, .int .u8 sx.c.b, .int .u8 sx.c.a, .int .u8 sx.b.r, .int .u8 sx.b.g, .int .u8 sx.b.b, .int .u8 sx.b.a, .string sx.t, .int .i64 sx.n]) 48) := ⟨H3.out.1.below hb4, H3.out.2.1.below hb4, H3.out.2.2.below hb4⟩
        clear hb4 H3 hrc b0 b1 b2 b3
        cases ab with
        | false =>
          have HRel : Hid (CuW w0 w obk (cliS q :: ((A.take (k + 1)).filter (witP q)).map Prod.fst) u0 w4 ∧ Bk w4 bq #[.int .i64 q.x, .int .i64 q.y, .int .i64 q.w, .int .i64 q.h] 44) := by
            have e : witP q p = false := by rw [HWd.out]; rfl
            rw [HL.out, e, if_neg (by simp), List.append_nil]
            exact ⟨H4.out.1, H4.out.2.1⟩
          clear H4
          go_wp2
          go_roundw
          case rel => exact ⟨k + 1, by go_num, by omega, HRel⟩
          case measure => simp [intOf]; omega
        | true =>
          have HWt : Hid (witP q p = true) := by unfold Hid; rw [HWd.out]; rfl
          have cc := H4.out.2.2.cell
          have a0 := cc 0
          have a1 := cc 1
          have a2 := cc 2
          have a3 := cc 3
          have a4 := cc 4
          have a5 := cc 5
          have a6 := cc 6
          have a7 := cc 7
          have a8 := cc 8
          have a9 := cc 9
          have a10 := cc 10
          have a11 := cc 11
          have a12 := cc 12
          have a13 := cc 13
          have a14 := cc 14
          clear cc
          simp only [List.getElem?_toArray, List.getElem?_cons_zero, List.getElem?_cons_succ] at a0 a1 a2 a3 a4 a5 a6 a7 a8 a9 a10 a11 a12 a13 a14
          have HA2 : Hid (∀ o, (w4.alloc o).ownsRow w0.heap.size 48 15 u0 L.length (flatZ L) ∧ w0.heap.size ≤ (w4.alloc o).heap.size) := fun o => ⟨row_below H4.out.1.fo ((Below.refl _ _).alloc (Nat.le_refl _) _), by have := H4.out.1.fb.size; simp; omega⟩
          have hc3 : Hid (L.length + 1 ≤ maxLen) := by have := hfl.out; unfold Hid maxLen; omega
          have hc4 : Hid ((L.length + 1) * 72 ≤ 140737488355328) := by have := hfl.out; unfold Hid; omega
          go_wp2_with (at_builtin; refine wpList_append_lies _ rfl _ _ 22 rfl w0.heap.size 48 i0 (.agg #[.int .u8 0, .int .i64 0, .int .i64 0, .int .i64 0, .int .i64 0, .int .u8 0, .int .u8 0, .int .u8 0, .int .u8 0, .int .u8 0, .int .u8 0, .int .u8 0, .int .u8 0, .string ByteArray.empty, .int .i64 0]) 15 72 Tryz.underlying22 hi hz0 hz1 hz2 rfl (by decide) u0 L.length (flatZ L) rfl (HA2.out _).1 _ 1 1 (sCel sx) rfl rfl (cell_strokeB _ sx _ _ rfl) (oneZ sx) (by decide) hc3.out hc4.out (HA2.out _).2 _ rfl ?_)
          intro g5 cap5 w5 hown5 hgrow5 hlies5 hg5
          have HRel : Hid (CuW w0 w obk (cliS q :: ((A.take (k + 1)).filter (witP q)).map Prod.fst) (.slice (some ⟨g5, 0, none⟩) (L.length + 1) cap5) w5 ∧ Bk w5 bq #[.int .i64 q.x, .int .i64 q.y, .int .i64 q.w, .int .i64 q.h] 44) := by
            have hle : w.heap.size ≤ w4.heap.size := H4.out.1.fg.size
            rw [HL.out, HWt.out, if_pos rfl]
            refine ⟨(H4.out.1.below ((Below.refl _ w4).alloc (Nat.le_refl _) _)).grow ?_ hgrow5 (by rcases hlies5 with h | h; exact .inl h; exact .inr (by simp; omega)) (by simp; omega), Bk.grown (H4.out.2.1.below ((Below.refl _ _).alloc (Nat.le_refl _) _)) hgrow5 (fun h => (HBU.out _ h).2 rfl)⟩
            exact snocS rfl hown5
          clear hown5 hgrow5 hlies5 hg5 HA2 H4 a0 a1 a2 a3 a4 a5 a6 a7 a8 a9 a10 a11 a12 a13 a14
          go_wp2
          go_roundw
          case rel => exact ⟨k + 1, by go_num, by omega, HRel⟩
          case measure => simp [intOf]; omega
    · obtain rfl : k = N := by omega
      have ik : ¬ (k : Int) < k := by omega
      have e1 : A.take k = A := List.take_of_length_le (by rw [HAl.out]; exact Nat.le_refl _)
      obtain ⟨L, hL⟩ : ∃ L, L = cliS q :: ((A.take k).filter (witP q)).map Prod.fst := ⟨_, rfl⟩
      have HLe : Hid (L ++ [opeS] = cu) := by
        unfold Hid
        rw [hL, e1, HCU.out]
        rfl
      have hfl : Hid (L.length ≤ k + 1) := by
        unfold Hid
        rw [hL, List.length_cons, List.length_map]
        have := List.length_filter_le (witP q) (A.take k)
        rw [List.length_take] at this
        omega
      rw [← hL] at HK
      clear hL e1
      have HA2 : Hid (∀ o, (wr.alloc o).ownsRow w0.heap.size 48 15 u0 L.length (flatZ L) ∧ w0.heap.size ≤ (wr.alloc o).heap.size) := fun o => ⟨row_below HK.out.1.fo ((Below.refl _ _).alloc (Nat.le_refl _) _), by have := HK.out.1.fb.size; simp; omega⟩
      have hc3 : Hid (L.length + 1 ≤ maxLen) := by have := hfl.out; unfold Hid maxLen; omega
      have hc4 : Hid ((L.length + 1) * 72 ≤ 140737488355328) := by have := hfl.out; unfold Hid; omega
      go_wp2_with (at_builtin; refine wpList_append_lies _ rfl _ _ 22 rfl w0.heap.size 48 i0 (.agg #[.int .u8 0, .int .i64 0, .int .i64 0, .int .i64 0, .int .i64 0, .int .u8 0, .int .u8 0, .int .u8 0, .int .u8 0, .int .u8 0, .int .u8 0, .int .u8 0, .int .u8 0, .string ByteArray.empty, .int .i64 0]) 15 72 Tryz.underlying22 hi hz0 hz1 hz2 rfl (by decide) u0 L.length (flatZ L) rfl (HA2.out _).1 _ 1 1 (sCel opeS) rfl rfl (cell_strokeB _ opeS _ _ rfl) (oneZ opeS) (by decide) hc3.out hc4.out (HA2.out _).2 _ rfl ?_)
      intro g5 cap5 w5 hown5 hgrow5 hlies5 hg5
      have HF : Hid (CuW w0 w obk cu (.slice (some ⟨g5, 0, none⟩) (L.length + 1) cap5) w5) := by
        have hle : w.heap.size ≤ wr.heap.size := HK.out.1.fg.size
        rw [← HLe.out]
        refine (HK.out.1.below ((Below.refl _ wr).alloc (Nat.le_refl _) _)).grow ?_ hgrow5 (by rcases hlies5 with h | h; exact .inl h; exact .inr (by simp; omega)) (by simp; omega)
        exact snocS rfl hown5
      clear hown5 hgrow5 hlies5 hg5 HA2 HK
      go_wp2
      go_ret
      exact ⟨_, rfl, HF⟩

end Go.Proofs.YtbghjmkgicdnoaaGreat
