/-
  Contracts of package style: Which.
-/
import Derived.Test.YtobmpjmpffnoiaaDoorSX1
import Derived.Test.YtobmpjmpffnoiaaDoorSX2
namespace Go.Proofs.YtobmpjmpffnoiaaDoor
open Go.RowKit Go.Shelf
attribute [local go_sem] Oper.semAt_some

def thg (fld : Nat) : Bool := decide (fld ≤ 15) && (((ones fld : Nat) : Int) == 1)

set_option maxHeartbeats 400000 in
theorem isThing_any (fld : Nat) (w : World) (h : fld < 256) : Calls Tryd.prog 38 #[.int .u8 (fld : Nat)] w fun e w' => e = .returned (.bool (thg fld)) ∧ w' = w := by
  have hO : Hid (∀ w, Calls Tryd.prog 55 #[.int .u8 (fld : Nat)] w fun e w' => e = .returned (.int .i64 (ones fld : Nat)) ∧ w' = w) := fun w => Any.bits_OnesCount8 Tryd.lays135 _ w (by omega) (by omega)
  unfold thg
  by_cases h1 : fld ≤ 15
  · rw [decide_eq_true h1]
    generalize ones fld = c at *
    go_enter Tryd.func38, Tryd.ntmps38
    go_wp2_with (go_at_call 55; refine (hO.out _).mono ?_; rintro e w1 ⟨rfl, rfl⟩)
    go_ret
    exact ⟨by simp, rfl⟩
  · rw [decide_eq_false h1]
    go_enter Tryd.func38, Tryd.ntmps38
    go_wp2
    go_ret
    exact ⟨rfl, rfl⟩

/-- Does the rule with a number tell a thing? -/
def tells (rs : List Rl) (fld i : Nat) : Bool := match rs[i]? with | some r => bits .and .u8 (r.look.has : Int) (fld : Int) != 0 | none => false
def whN (rs : List Rl) (fld : Nat) (l : List (Nat × Nat)) : Int := match l.find? fun x => tells rs fld x.2 with | some x => x.2 | none => -1

theorem held_lt {rs : List Rl} {kind : Nat} {t : ByteArray} {st : Nat} {l : List Nat} (h : Held rs kind t st l) {x : Nat} (hx : x ∈ l) : x < rs.length := hs_lt _ _ _ _ _ _ ((h.2.1 x).1 hx)
theorem held_len {rs : List Rl} {kind : Nat} {t : ByteArray} {st : Nat} {l : List Nat} (h : Held rs kind t st l) (hl : rs.length < 1000000) : l.length < 1000000 := Nat.lt_of_le_of_lt h.2.2 hl
theorem bwd_mem {l : List Nat} {pre : List (Nat × Nat)} {x : Nat × Nat} (h : pre ++ [x] <+: bwd l l.length) : x.2 ∈ l := by
  have key : ∀ k, k ≤ l.length → ∀ y ∈ bwd l k, y.2 ∈ l := by
    intro k
    induction k with
    | zero => intro _ y hy; cases hy
    | succ k ih =>
      intro hk y hy
      rcases List.mem_cons.1 hy with rfl | hy
      · simp only [List.getD, List.getElem?_eq_getElem (show k < l.length by omega), Option.getD_some]
        exact List.getElem_mem _
      · exact ih (by omega) y hy
  exact key _ (Nat.le_refl _) x (h.subset (by simp))
theorem nums_block {W : World} {ob : Option Addr} {cb : Nat} {l : List Nat} (h : Nums W (.slice ob l.length cb) l) (ow : Nat → Prop) (hno : ∀ k x, ow k → W.cell? ⟨k, 0, none⟩ ≠ some (.int .i64 x)) : ∃ (g : Nat) (o : Obj), (0 < l.length → ob = some ⟨g, 0, none⟩ ∧ W.heap[g]? = some o ∧ ¬ ow g ∧ o.isCells = true ∧ ∀ W' : World, W'.heap[g]? = some o → ∀ i (h : i < l.length), W'.cell? ⟨g, i, none⟩ = some (.int .i64 (l[i] : Nat))) := by
  obtain ⟨oa, cap, e, hg⟩ := h
  cases e
  by_cases hl : 0 < l.length
  · obtain ⟨g, e1, g1, g2⟩ := hg hl
    have h0 := g2 0 hl
    obtain ⟨o, ho⟩ : ∃ o, W.heap[g]? = some o := ⟨_, Array.getElem?_eq_getElem g1⟩
    refine ⟨g, o, fun _ => ⟨e1, ho, fun hw => hno g _ hw h0, ?_, fun W' hW' i hi => ?_⟩⟩
    · unfold World.cell? at h0
      simp only [ho] at h0
      cases o <;> first | rfl | (simp at h0)
    · have := g2 i hi
      unfold World.cell? at this ⊢
      rw [show W'.heap[(⟨g, i, none⟩ : Addr).block]? = W.heap[(⟨g, i, none⟩ : Addr).block]? from hW'.trans ho.symm]
      exact this
  · exact ⟨0, .deferred none, fun h => absurd h hl⟩

set_option maxRecDepth 20000 in
set_option maxHeartbeats 1000000 in
theorem which_ok (rs : List Rl) (v : Value) (kind : Nat) (t : ByteArray) (st fld : Nat) (w : World) (hT : Tab w) (hv : Rules w v rs) (hw : ∀ r ∈ rs, r.cls.size ≤ 9223372036854775807 ∧ r.wf) (ht : t.size < 1000000000) (hl : rs.length < 1000000) (hb : chkR rs = 0) (hf : thg fld = true) :
    Calls Tryd.prog 17 #[v, .int .u8 (kind : Nat), .string t, .int .u8 (st : Nat), .int .u8 (fld : Nat)] w fun e w' => ∃ l, Held rs kind t st l ∧ e = .returned (.tuple #[.int .i64 (whN rs fld (bwd l l.length)), .int .i64 0]) ∧ Below w.heap.size w w' := by
  have hC : Hid (∀ w, Tab w → Rules w v rs → Calls Tryd.prog 15 #[v] w fun e w' => e = .returned (.int .i64 0) ∧ Below w.heap.size w w') := fun w hT hv => by rw [← hb]; exact check_rules rs v w hT hv hw
  have f256 : fld < 256 := by unfold thg at hf; simp at hf; omega
  have hTh : Hid (∀ w, Calls Tryd.prog 38 #[.int .u8 (fld : Nat)] w fun e w' => e = .returned (.bool true) ∧ w' = w) := fun w => by rw [← hf]; exact isThing_any fld w f256
  have hH : Hid (∀ w, Rules w v rs → Calls Tryd.prog 35 #[v, .int .u8 (kind : Nat), .string t, .int .u8 (st : Nat)] w fun e w' => ∃ (u : Value) (l : List Nat), e = .returned u ∧ Nums w' u l ∧ Held rs kind t st l ∧ Below w.heap.size w w') := fun w hv => holding_any rs v kind t st w hv (fun r hr => (hw r hr).2.2.1) ht hl
  have HV : Hid (Rules w v rs ∧ Tab w) := ⟨hv, hT⟩
  obtain ⟨oa, cap, rfl, hc, hg⟩ := id hv
  clear hT hv hw hb hf hg
  refine (callsIn_wide (n := 3)).1 ?_
  refine callsIn_of_wp_marks Tryd.func17 rfl trivial ?_ rfl
  simp only [Tryd.ntmps17, List.size_toArray, List.length_cons, List.length_nil, Nat.reduceAdd, Nat.reduceSub, Array.replicate_succ, Array.replicate_zero, List.push_toArray, List.append_toArray, List.nil_append, List.cons_append]
  gi_wp2_with fail
  obtain ⟨W0, hW0⟩ : ∃ W0, W0 = (((w.alloc (.cells #[.slice oa rs.length cap] 23)).alloc (.cells #[.int .u8 (fld : Nat)] 5)).alloc (.cells #[.int .i64 0] 3)).alloc (.cells #[.int .i64 0] 25) := ⟨_, rfl⟩
  have H0 : Hid (Blk W0 w.heap.size #[.slice oa rs.length cap] 23 ∧ Blk W0 (w.heap.size + 1) #[.int .u8 (fld : Nat)] 5 ∧ Blk W0 (w.heap.size + 1 + 1) #[.int .i64 0] 3 ∧ Blk W0 (w.heap.size + 1 + 1 + 1) #[.int .i64 0] 25 ∧ Below w.heap.size w W0) := by
    have k1 := Blk.new w #[.slice oa rs.length cap] 23
    have k2 := Blk.new (w.alloc (.cells #[.slice oa rs.length cap] 23)) #[.int .u8 (fld : Nat)] 5
    have k3 := Blk.new ((w.alloc (.cells #[.slice oa rs.length cap] 23)).alloc (.cells #[.int .u8 (fld : Nat)] 5)) #[.int .i64 0] 3
    have k4 := Blk.new (((w.alloc (.cells #[.slice oa rs.length cap] 23)).alloc (.cells #[.int .u8 (fld : Nat)] 5)).alloc (.cells #[.int .i64 0] 3)) #[.int .i64 0] 25
    simp only [World.size_alloc] at k2 k3 k4
    rw [hW0]
    exact ⟨((k1.alloc _).alloc _).alloc _, (k2.alloc _).alloc _, k3.alloc _, k4, ((((Below.refl _ w).alloc (Nat.le_refl _) _).alloc (by simp) _).alloc (by simp; omega) _).alloc (by simp; omega) _⟩
  rw [← hW0]
  clear hW0
  refine ⟨trivial, (callsIn_wide.2 (hC.out _ (HV.out.2.below H0.out.2.2.2.2) (HV.out.1.below H0.out.2.2.2.2))).mono ?_⟩
  rintro e w1 ⟨rfl, hb⟩
  have H1 : Hid (Blk w1 w.heap.size #[.slice oa rs.length cap] 23 ∧ Blk w1 (w.heap.size + 1) #[.int .u8 (fld : Nat)] 5 ∧ Blk w1 (w.heap.size + 1 + 1) #[.int .i64 0] 3 ∧ Blk w1 (w.heap.size + 1 + 1 + 1) #[.int .i64 0] 25 ∧ Below w.heap.size w w1) :=
    ⟨H0.out.1.below hb, H0.out.2.1.below hb, H0.out.2.2.1.below hb, H0.out.2.2.2.1.below hb, H0.out.2.2.2.2.trans (hb.mono H0.out.2.2.2.2.size)⟩
  clear hb H0
  have c1 := H1.out.1.at1
  have c2 := H1.out.2.1.at1
  gi_wp2_with fail
  refine ⟨trivial, (callsIn_wide.2 (hTh.out _)).mono ?_⟩
  rintro e w1' ⟨rfl, rfl⟩
  gi_wp2_with fail
  refine ⟨trivial, (callsIn_wide.2 (hH.out _ (HV.out.1.below H1.out.2.2.2.2))).mono ?_⟩
  rintro e w2 ⟨u, l, rfl, hN, hHe, hb⟩
  obtain ⟨ob, cb, rfl, hnum⟩ := id hN
  have H2 : Hid (Blk w2 w.heap.size #[.slice oa rs.length cap] 23 ∧ Blk w2 (w.heap.size + 1) #[.int .u8 (fld : Nat)] 5 ∧ Blk w2 (w.heap.size + 1 + 1) #[.int .i64 0] 3 ∧ Blk w2 (w.heap.size + 1 + 1 + 1) #[.int .i64 0] 25 ∧ Below w.heap.size w w2) :=
    ⟨H1.out.1.below hb, H1.out.2.1.below hb, H1.out.2.2.1.below hb, H1.out.2.2.2.1.below hb, H1.out.2.2.2.2.trans (hb.mono H1.out.2.2.2.2.size)⟩
  have HN : Hid (Nums w2 (.slice ob l.length cb) l ∧ Held rs kind t st l) := ⟨hN, hHe⟩
  clear hb H1 c1 c2 hN hHe hnum
  gi_wp2_with fail
  refine ⟨trivial, (callsIn_wide.2 (backward_any _ _ _ _)).mono ?_⟩
  rintro e w3 ⟨rfl, rfl⟩
  gi_wp2_with fail
  obtain ⟨W, hW⟩ : ∃ W, W = w2.alloc (.cells #[.slice ob l.length cb] 24) := ⟨_, rfl⟩
  have b2 : Below w2.heap.size w2 W := by rw [hW]; exact (Below.refl _ w2).alloc (Nat.le_refl _) _
  have KS : Blk W w2.heap.size #[.slice ob l.length cb] 24 := by rw [hW]; exact Blk.new _ _ _
  have sW : W.heap.size = w2.heap.size + 1 := by rw [hW]; simp
  have s4 : w.heap.size + 1 + 1 + 1 < w2.heap.size := H2.out.2.2.2.1.lt
  have H3 : Hid (Blk W w.heap.size #[.slice oa rs.length cap] 23 ∧ Blk W (w.heap.size + 1) #[.int .u8 (fld : Nat)] 5 ∧ Blk W (w.heap.size + 1 + 1) #[.int .i64 0] 3 ∧ Blk W (w.heap.size + 1 + 1 + 1) #[.int .i64 0] 25 ∧ Below w.heap.size w W) :=
    ⟨H2.out.1.below b2, H2.out.2.1.below b2, H2.out.2.2.1.below b2, H2.out.2.2.2.1.below b2, H2.out.2.2.2.2.trans (b2.mono H2.out.2.2.2.2.size)⟩
  rw [← hW]
  clear hW H2
  obtain ⟨g, obj, hgo⟩ := nums_block (HN.out.1.below b2) (fun _ => False) (fun _ _ hk => hk.elim)
  refine range_d (n := 3) (w := W) rfl (by omega) (gf := 50) (lb := #[.pointer (some ⟨w2.heap.size, 0, none⟩)]) rfl trivial (enters_of Tryd.func50 (by kernel_rfl) rfl) (ob := w2.heap.size) (by omega) (by omega)
    (back_seq 2 w2.heap.size g cb ob l (fun _ => False) W KS obj hgo (fun h => h) (held_len HN.out.2 hl)) (fun h k => h.trans k) (fun W l o o' _ hl hc hw => Kept.put W l o o' hl hc hw) (fun _ => rfl)
    (fun pre V => (pre.find? fun x => tells rs fld x.2) = none ∧ Blk V w.heap.size #[.slice oa rs.length cap] 23 ∧ Blk V (w.heap.size + 1) #[.int .u8 (fld : Nat)] 5 ∧ Blk V (w.heap.size + 1 + 1) #[.int .i64 0] 3 ∧ Blk V (w.heap.size + 1 + 1 + 1) #[.int .i64 0] 25 ∧ Below w.heap.size w V)
    (fun cd pre V => (cd = .ret ∧ ∃ x, (pre.find? fun x => tells rs fld x.2) = some x ∧ whN rs fld pre = (x.2 : Int)) ∧ Blk V (w.heap.size + 1 + 1) #[.int .i64 (whN rs fld pre)] 3 ∧ Blk V (w.heap.size + 1 + 1 + 1) #[.int .i64 0] 25 ∧ Below w.heap.size w V)
    ?hI ?hIx ?hS ?hSx ⟨rfl, H3.out⟩
    (fun x a' _ => a' = { tmps := #[.slice oa rs.length cap, .int .u8 (kind : Nat), .string t, .int .u8 (st : Nat), .int .u8 (fld : Nat), .pointer (some ⟨w.heap.size, 0, none⟩), undef, undef, undef, .pointer (some ⟨w.heap.size + 1, 0, none⟩), .pointer (some ⟨w.heap.size + 1 + 1, 0, none⟩), .pointer (some ⟨w.heap.size + 1 + 1 + 1, 0, none⟩), .int .i64 0, undef, .int .i64 (x.2 : Nat), .slice oa rs.length cap, .int .i64 0, .int .i64 0, .bool false, undef, .int .u8 (fld : Nat), .bool true, .bool false, .slice oa rs.length cap, .int .u8 (kind : Nat), .string t, .int .u8 (st : Nat), .slice ob l.length cb, .func (.func 50) #[] #[.pointer (some ⟨w2.heap.size, 0, none⟩)], .int .i64 (x.1 : Nat), .int .i64 (x.2 : Nat), undef, undef, undef, undef, undef, undef, undef, undef, undef, undef], defers := [] }) (fun x a' => ownFrom_pure _ (fun _ => _)) ?assign ?body ?done ?stop
  case hI => exact OwnFrom.and (ownFrom_pure _ _) (OwnFrom.and (kept_own _ _ _ _) (OwnFrom.and (kept_own _ _ _ _) (OwnFrom.and (kept_own _ _ _ _) (OwnFrom.and (kept_own _ _ _ _) (ownFrom_below (Nat.le_refl _) (by omega))))))
  case hIx => exact fun _ => OwnFrom.and (ownFrom_pure _ _) (OwnFrom.and (kept_own _ _ _ _) (OwnFrom.and (kept_own _ _ _ _) (ownFrom_below (Nat.le_refl _) (by omega))))
  case hS =>
    rintro pre V o v ⟨p, a0, a1, a2, a3, a4⟩
    exact ⟨p, a0.other _ _ (by simp; omega), a1.other _ _ (by simp; omega), a2.other _ _ (by simp; omega), a3.other _ _ (by simp; omega), a4.setCell (p := ⟨w2.heap.size, o, none⟩) (by simp; omega) _⟩
  case hSx =>
    rintro _ pre V o v ⟨p, a2, a3, a4⟩
    exact ⟨p, a2.other _ _ (by simp; omega), a3.other _ _ (by simp; omega), a4.setCell (p := ⟨w2.heap.size, o, none⟩) (by simp; omega) _⟩
  case assign =>
    intro lp pre x V K hi hz hK
    simp only [prE]
    gi_wp2
    exact hK _ _ ((KeepsOthers.refl _).from _) (Kept.refl _ _) hi rfl
  case body =>
    rintro lp pre x a' V HP rfl hlen hz
    have hxl : x.2 < rs.length := held_lt HN.out.2 (bwd_mem hlen)
    have hx' : (x.2 : Int) < (rs.length : Int) := by omega
    obtain ⟨oa', cap', ev, _, hrl⟩ := HV.out.1
    cases ev
    obtain ⟨gr, orr, rfl, hgr, hat⟩ := hrl (by omega)
    have hx3 := ((hat x.2 hxl).kept (w' := V) fun j => HP.2.2.2.2.2.cell (p := ⟨gr, j, none⟩) hgr).2.2.2.1
    have c0 := HP.2.1.at1
    have c1 := HP.2.2.1.at1
    have c2 := HP.2.2.2.1.at1
    have c3 := HP.2.2.2.2.1.at1
    have f2 := HP.2.2.2.1.frozen 0
    have f3 := HP.2.2.2.2.1.frozen 0
    have et : tells rs fld x.2 = (bits .and .u8 (rs[x.2].look.has : Int) (fld : Int) != 0) := by unfold tells; rw [List.getElem?_eq_getElem hxl]
    have HA : Hid ((pre.find? fun x => tells rs fld x.2) = none ∧ Blk V w.heap.size #[.slice (some ⟨gr, orr, none⟩) rs.length cap] 23 ∧ Blk V (w.heap.size + 1) #[.int .u8 (fld : Nat)] 5 ∧ Blk V (w.heap.size + 1 + 1) #[.int .i64 0] 3 ∧ Blk V (w.heap.size + 1 + 1 + 1) #[.int .i64 0] 25 ∧ Below w.heap.size w V) := HP
    have HE : Hid (tells rs fld x.2 = (bits .and .u8 (rs[x.2].look.has : Int) (fld : Int) != 0)) := et
    clear HP hat hrl et
    generalize rs[x.2].look.has = hh at *
    cases hb : (bits .and .u8 (hh : Int) (fld : Int) != 0)
    · gi_wp2_with fail
      gi_region
      all_goals
        gi_wp2
        obtain ⟨p, a0, a1, a2, a3, a4⟩ := HA.out
        exact ⟨(KeepsOthers.drew _).from _, ⟨Nat.le_refl _, fun _ _ _ _ h => h⟩, by rw [List.find?_append, p, Option.none_or]; simp [List.find?, HE.out, hb], a0, a1, a2, a3, a4.drew⟩
    · gi_wp2_with fail
      gi_region
      all_goals
        gi_wp2
        obtain ⟨p, a0, a1, a2, a3, a4⟩ := HA.out
        have q : ((pre ++ [x]).find? fun x => tells rs fld x.2) = some x := by rw [List.find?_append, p, Option.none_or]; simp [List.find?, HE.out, hb]
        have q2 : whN rs fld (pre ++ [x]) = (x.2 : Int) := by unfold whN; rw [q]
        refine ⟨((KeepsOthers.drew V).trans ((KeepsOthers.setCell _ _ _).trans (KeepsOthers.setCell _ _ _))).from _, ⟨rfl, x, q, q2⟩, ?_, ?_, (a4.drew.setCell (p := ⟨w.heap.size + 1 + 1, 0, none⟩) (by simp; omega) _).setCell (p := ⟨w.heap.size + 1 + 1 + 1, 0, none⟩) (by simp; omega) _⟩
        · rw [q2]; exact ((show Blk V.drew _ _ _ from a2).put1 _).other _ _ (by simp)
        · exact ((show Blk V.drew _ _ _ from a3).other _ _ (by simp)).put1 _
  case done =>
    rintro D ys V hD rfl ⟨p, a0, a1, a2, a3, a4⟩ hK
    have c2 := a2.at1
    have c3 := a3.at1
    have f2 := a2.frozen 0
    have f3 := a3.frozen 0
    have q2 : whN rs fld (bwd l l.length) = -1 := by unfold whN; rw [p]
    have HA : Hid (Held rs kind t st l ∧ whN rs fld (bwd l l.length) = -1 ∧ Blk V (w.heap.size + 1 + 1) #[.int .i64 0] 3 ∧ Blk V (w.heap.size + 1 + 1 + 1) #[.int .i64 0] 25 ∧ Below w.heap.size w V) := ⟨HN.out.2, q2, a2, a3, a4⟩
    clear p a0 a1 a2 a3 a4 q2
    gi_wp2
    obtain ⟨h1, q2, a2, a3, a4⟩ := HA.out
    have k2 := (a2.put1 (.int .i64 (-1))).other ⟨w.heap.size + 1 + 1 + 1, 0, none⟩ (.int .i64 0) (by simp)
    have k3 := (a3.other ⟨w.heap.size + 1 + 1, 0, none⟩ (.int .i64 (-1)) (by simp)).put1 (.int .i64 0)
    have hK' := same_set (p := ⟨w.heap.size + 1 + 1 + 1, 0, none⟩) (v := .int .i64 0) (same_set (p := ⟨w.heap.size + 1 + 1, 0, none⟩) (v := .int .i64 (-1)) hK (by simp; omega)) (by simp; omega)
    have e2 := (k2.left hK' (.deferred none)).at1
    have e3 := (k3.left hK' (.deferred none)).at1
    exact leaveD hK' (v := .tuple #[.int .i64 (-1), .int .i64 0]) (by simp [results, Tryd.results17, go_sem, e2, e3]) ⟨l, h1, by rw [q2], below_left ((a4.setCell (p := ⟨w.heap.size + 1 + 1, 0, none⟩) (by simp; omega) _).setCell (p := ⟨w.heap.size + 1 + 1 + 1, 0, none⟩) (by simp; omega) _) (by omega) _⟩
  case stop =>
    rintro D cd pre V hD hp ⟨⟨rfl, x, q, q2⟩, a2, a3, a4⟩ hK
    have q3 : whN rs fld (bwd l l.length) = whN rs fld pre := by
      obtain ⟨r, hr⟩ := hp
      unfold whN
      rw [← hr, List.find?_append, q, Option.some_or]
    have c2 := (a2.left hK (.deferred none)).at1
    have c3 := (a3.left hK (.deferred none)).at1
    have HA : Hid (Held rs kind t st l ∧ whN rs fld (bwd l l.length) = whN rs fld pre ∧ Below w.heap.size w V) := ⟨HN.out.2, q3, a4⟩
    clear q q2 q3 a2 a3 a4
    gi_wp2
    exact leaveD hK (v := .tuple #[.int .i64 (whN rs fld pre), .int .i64 0]) (by simp [results, Tryd.results17, go_sem, c2, c3]) ⟨l, HA.out.1, by rw [HA.out.2.1], below_left HA.out.2.2 (by omega) _⟩

end Go.Proofs.YtobmpjmpffnoiaaDoor
