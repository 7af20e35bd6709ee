/-
  Texts of this claim, one behind the other: what each is about stands ahead of it.
-/
import Derived.Test.YtbghjmkgicdnoaaK23
import Derived.Test.YtbghjmkgicdnoaaK21
import Derived.Test.YtbghjmkgicdnoaaK17
import Derived.Test.YtbghjmkgicdnoaaK19
/-
  Contracts of package list: Moved.
-/
namespace Go.Proofs.Ytbghjmkgicdnoaa
open Go.RowKit

/-- The strokes while they are moved, one by one. -/
def mvL (p q : Int) (l : List St) (k : Nat) : List St := (l.take k).map (movS p q) ++ l.drop k
theorem mvL_len (p q : Int) (l : List St) (k : Nat) (h : k ≤ l.length) : (mvL p q l k).length = l.length := by
  unfold mvL
  rw [List.length_append, List.length_map, List.length_take, List.length_drop]
  omega
theorem mvL_at (p q : Int) (l : List St) (k : Nat) (h : k < l.length) (h' : k < (mvL p q l k).length) : (mvL p q l k)[k] = l[k] := by
  have e : ((l.take k).map (movS p q)).length = k := by rw [List.length_map, List.length_take]; omega
  have e2 : (mvL p q l k)[k]? = some l[k] := by
    unfold mvL
    rw [List.getElem?_append_right (by omega), e, Nat.sub_self, List.getElem?_drop, Nat.add_zero, List.getElem?_eq_getElem h]
  rw [List.getElem?_eq_getElem h'] at e2
  exact Option.some.inj e2
theorem mvL_next (p q : Int) (l : List St) (k : Nat) (h : k < l.length) : (mvL p q l k).set k (movS p q l[k]) = mvL p q l (k + 1) := by
  unfold mvL
  have e : ((l.take k).map (movS p q)).length = k := by rw [List.length_map, List.length_take]; omega
  rw [List.set_append_right _ _ (by omega), e, Nat.sub_self, List.drop_eq_getElem_cons h, List.set_cons_zero, ← List.take_append_getElem h, List.map_append, List.append_assoc]
  rfl

def JM (wr : World) (g n cu k : Nat) (p q : Int) (sx : St) (A : Rc) (F : Int) (b : Nat → Bool) (u9 u10 u29 u30 u31 u32 u33 u34 u35 u36 u37 u38 : Value) (x : World) : Prop :=
  (b 0 = true → u30 = .slice (some ⟨g, 0, none⟩) n cu) ∧
  (b 1 = true → u31 = .int .i64 k) ∧
  (b 2 = true → u32 = .pointer (some ⟨g, k * 15, none⟩)) ∧
  (b 3 = true → u33 = .pointer (some ⟨g, k * 15 + 1, none⟩)) ∧
  (b 4 = true → u34 = .agg #[.int .i64 sx.r.x, .int .i64 sx.r.y, .int .i64 sx.r.w, .int .i64 sx.r.h]) ∧
  (b 5 = true → u35 = .agg #[.int .i64 p, .int .i64 q]) ∧
  (b 6 = true → u36 = .tuple #[.agg #[.int .i64 A.x, .int .i64 A.y, .int .i64 A.w, .int .i64 A.h], .int .i64 F]) ∧
  (b 7 = true → u29 = .tuple #[.agg #[.int .i64 A.x, .int .i64 A.y, .int .i64 A.w, .int .i64 A.h], .int .i64 F]) ∧
  (b 8 = true → u37 = .agg #[.int .i64 A.x, .int .i64 A.y, .int .i64 A.w, .int .i64 A.h]) ∧
  (b 9 = true → u38 = .int .i64 F) ∧
  (b 10 = true → ∃ qb, u9 = .pointer (some ⟨qb, 0, none⟩) ∧ wr.heap.size ≤ qb ∧ (b 11 = false → Bk x qb #[.int .i64 0, .int .i64 0, .int .i64 0, .int .i64 0] 27) ∧ (b 11 = true → Bk x qb #[.int .i64 A.x, .int .i64 A.y, .int .i64 A.w, .int .i64 A.h] 27)) ∧
  (b 11 = true → b 10 = true) ∧
  (b 12 = true → u10 = .int .i64 F) ∧
  Below wr.heap.size wr x

set_option maxRecDepth 20000 in
set_option maxHeartbeats 8000000 in
theorem lmoved_any (l : List St) (p q : Int) (v : Value) (w : World) (hv : LsS w v l) (hn : NoNil v) (ht : Txs l) (hxy : Xys l) (hp : I64 p) (hq : I64 q) :
    Calls Try.prog 18 #[v, .agg #[.int .i64 p, .int .i64 q]] w fun e w' => AnsS w (movG l p q) (movF l p q) e w' := by
  have HC : Hid (∀ W, Below w.heap.size w W → Calls Try.prog 10 #[v] W fun e w' => e = .returned (.int .i64 (chkS l)) ∧ Below W.heap.size W w') := fun W h => lcheck_any l v W (hv.below h) ht hxy
  have HL0 : Hid (∀ c, Below w.heap.size w (w.alloc c)) := fun c => (Below.refl _ w).alloc (Nat.le_refl _) _
  unfold AnsS
  by_cases h0 : chkS l = 0
  case neg =>
    have HE : Hid (movG l p q = [] ∧ movF l p q = chkS l) := ⟨by unfold movG movF; rw [if_neg h0, if_neg h0], by unfold movF; rw [if_neg h0]⟩
    rw [HE.out.1, HE.out.2]
    have hne : (chkS l != 0) = true := by simp [h0]
    clear h0 hv ht HE hn hxy
    generalize chkS l = ce at *
    go_enter Try.func18, Try.ntmps18
    go_wp2_with fail
    refine (HC.out _ (HL0.out _)).mono ?_
    rintro e w1 ⟨rfl, hb⟩
    have H1 : Hid (Below w.heap.size w w1) := (HL0.out _).trans (hb.mono (HL0.out _).size)
    clear hb
    go_wp2
    go_ret2
    exact ⟨_, rfl, OwS.nil _ _, H1.out⟩
  case pos =>
    obtain ⟨hl, hcl⟩ := chkS_zero h0
    have hone := clp_ones l 0 hcl
    have hmay : ∀ s ∈ l, zMa s.r = true := fun s hs => (oneE_zero (hone s hs)).1
    have HE : Hid ((movO p q l = true → movF l p q = 0 ∧ movG l p q = l.map (movS p q)) ∧ (movO p q l = false → movF l p q = 9 ∧ movG l p q = [])) := by
      have hF : movF l p q = if movO p q l = true then 0 else 9 := by unfold movF; rw [if_pos h0]
      refine ⟨fun h => ?_, fun h => ?_⟩
      · rw [h, if_pos rfl] at hF
        refine ⟨hF, ?_⟩
        unfold movG
        rw [if_pos hF]
      · rw [h, if_neg (by simp)] at hF
        refine ⟨hF, ?_⟩
        unfold movG
        rw [if_neg (by rw [hF]; decide)]
    rw [h0] at HC
    obtain ⟨E, hE⟩ : ∃ E, E = movF l p q := ⟨_, rfl⟩
    obtain ⟨G, hG⟩ : ∃ G, G = movG l p q := ⟨_, rfl⟩
    rw [← hE, ← hG] at HE ⊢
    have HCl : Hid (∀ W, Below w.heap.size w W → Calls Try.prog 43 #[v] W fun e w' => ∃ u, e = .returned u ∧ OwS W.heap.size w' u l ∧ Below W.heap.size W w') := fun W h => clone_any l v W (hv.below h) hn (by omega)
    -- what becomes of a stroke
    have HOn : Hid (∀ s ∈ l, (s.k = 5 → movS p q s = s ∧ zMa (movS p q s).r = true) ∧ (s.k ≠ 5 → (zMa (elsR s.r p q) = true → zMa (movS p q s).r = true ∧ movS p q s = ⟨s.k, elsR s.r p q, s.c, s.b, s.t, s.n⟩) ∧ (zMa (elsR s.r p q) = false → zMa (movS p q s).r = false))) := fun s hs => by
      have hm := hmay s hs
      obtain ⟨k1, k2⟩ := els_may hm hp hq
      refine ⟨fun h => ?_, fun h => ?_⟩
      · have e : movS p q s = s := by unfold movS; rw [if_pos h]
        rw [e]
        exact ⟨rfl, hm⟩
      · have e : movS p q s = ⟨s.k, ⟨s.r.x + p, s.r.y + q, s.r.w, s.r.h⟩, s.c, s.b, s.t, s.n⟩ := by unfold movS; rw [if_neg h]
        refine ⟨fun h2 => ?_, fun h2 => ?_⟩
        · rw [e, k2 h2]
          refine ⟨?_, rfl⟩
          rw [k1] at h2
          exact h2
        · rw [e]
          rw [k1] at h2
          exact h2
    obtain ⟨n, hnn⟩ : ∃ n, n = l.length := ⟨_, rfl⟩
    have HN : Hid (n = l.length) := hnn
    obtain ⟨bx, hbx⟩ : ∃ bx, bx = w.heap.size := ⟨_, rfl⟩
    have HA0 : Hid (Bk (w.alloc (.cells #[.int .i64 p, .int .i64 q] 23)) bx #[.int .i64 p, .int .i64 q] 23 ∧ bx = w.heap.size) := ⟨by rw [hbx]; exact Bk.new _ _ _, hbx⟩
    rw [← hnn] at hl
    clear h0 hE hG hv hn ht hxy hp hq hcl hone hmay
    go_enter Try.func18, Try.ntmps18
    go_wp2_with fail
    rw [← hbx]
    refine (HC.out _ (HL0.out _)).mono ?_
    rintro e w1 ⟨rfl, hb1⟩
    have H1 : Hid (Below w.heap.size w w1 ∧ Bk w1 bx #[.int .i64 p, .int .i64 q] 23) := ⟨(HL0.out _).trans (hb1.mono (HL0.out _).size), HA0.out.1.below hb1⟩
    clear hb1 hbx
    go_wp2_with fail
    refine (HCl.out _ H1.out.1).mono ?_
    rintro e w2 ⟨u, rfl, hu, hb2⟩
    obtain ⟨ou, cu, eu, hcu, hgu⟩ := row_val hu
    have HU : Hid (0 < n → ∃ g, ou = some ⟨g, 0, none⟩ ∧ w1.heap.size ≤ g) := fun h => by
      obtain ⟨g, e1, e2, _⟩ := hgu (by rw [← hnn]; exact h)
      exact ⟨g, e1, e2⟩
    have hI0 : OwS w1.heap.size w2 u (mvL p q l 0) := by
      have e : mvL p q l 0 = l := by unfold mvL; simp
      rw [e]; exact hu
    rw [eu] at hI0
    subst eu
    rw [← hnn] at hcu hI0 ⊢
    obtain ⟨B, hB⟩ : ∃ B, B = w1.heap.size := ⟨_, rfl⟩
    have HB : Hid (B = w1.heap.size ∧ bx < B) := ⟨hB, by rw [hB]; exact H1.out.2.lt⟩
    have HI0 : Hid (OwS B w2 (.slice ou n cu) (mvL p q l 0) ∧ (l.take 0).all (fun s => zMa (movS p q s).r) = true ∧ Below B w1 w2) := ⟨by rw [hB]; exact hI0, rfl, by rw [hB]; exact hb2⟩
    have HU2 : Hid (0 < n → ∃ g, ou = some ⟨g, 0, none⟩ ∧ B ≤ g) := by rw [hB]; exact HU
    clear hu hb2 hI0 hgu hB hnn HCl HC HU
    have HEl : Hid (∀ r W, Calls Try.prog 44 #[.agg #[.int .i64 r.x, .int .i64 r.y, .int .i64 r.w, .int .i64 r.h], .agg #[.int .i64 p, .int .i64 q]] W fun e w' => e = .returned (.tuple #[.agg #[.int .i64 (elsA r p q).x, .int .i64 (elsA r p q).y, .int .i64 (elsA r p q).w, .int .i64 (elsA r p q).h], .int .i64 (elsF r p q)]) ∧ Below W.heap.size W w') := fun r W => els_any r p q W
    go_wp2_with fail
    go_loopw [20] (fun i wr => ∃ k : Nat, i = .int .i64 k ∧ k ≤ n ∧ Hid (OwS B wr (.slice ou n cu) (mvL p q l k) ∧ (l.take k).all (fun s => zMa (movS p q s).r) = true ∧ Below B w1 wr)) (fun i _ => n - (intOf i).toNat)
    case atStart => exact ⟨0, rfl, Nat.zero_le _, HI0⟩
    case round =>
      clear HI0
      obtain ⟨k, rfl, hk, HK⟩ := hrel
      by_cases hlt : k < n
      · have ik : (k : Int) < n := by omega
        obtain ⟨g, rfl, hgB⟩ := HU2.out (by omega)
        have hll : k < l.length := by rw [← HN.out]; exact hlt
        have hml : (mvL p q l k).length = n := by rw [mvL_len p q l k (by omega), HN.out]
        have hown : wr.ownsRow B 31 15 (.slice (some ⟨g, 0, none⟩) n cu) n (flatZ (mvL p q l k)) := by
          have h := HK.out.1
          unfold OwS at h
          rw [hml] at h
          exact h
        have hx : StAt wr g (k * 15) l[k] := by
          rw [stat_iff]
          intro j hj
          rw [own_cell hown (k * 15 + j) (by omega), flatZ_at _ k (by rw [hml]; exact hlt) j hj, mvL_at p q l k hll]
        have HT : Hid ((l.take (k + 1)).all (fun s => zMa (movS p q s).r) = zMa (movS p q l[k]).r ∧ (zMa (movS p q l[k]).r = false → movO p q l = false)) := by
          refine ⟨by rw [← List.take_append_getElem hll, List.all_append, HK.out.2.1]; simp, fun h => ?_⟩
          unfold movO
          rw [List.all_eq_false]
          exact ⟨l[k], List.getElem_mem hll, by rw [h]; simp⟩
        have HX : Hid ((l[k].k = 5 → movS p q l[k] = l[k] ∧ zMa (movS p q l[k]).r = true) ∧ (l[k].k ≠ 5 → (zMa (elsR l[k].r p q) = true → zMa (movS p q l[k]).r = true ∧ movS p q l[k] = ⟨l[k].k, elsR l[k].r p q, l[k].c, l[k].b, l[k].t, l[k].n⟩) ∧ (zMa (elsR l[k].r p q) = false → zMa (movS p q l[k]).r = false))) := HOn.out _ (List.getElem_mem hll)
        have HNx : Hid ((mvL p q l k).set k (movS p q l[k]) = mvL p q l (k + 1)) := mvL_next p q l k hll
        have HSame : Hid ((mvL p q l k).set k l[k] = mvL p q l k) := by
          unfold Hid
          have e := mvL_at p q l k hll (by rw [hml]; exact hlt)
          conv => lhs; rw [← e]
          exact List.set_getElem_self _
        have HRow : Hid (∀ r : Rc, ((((flatZ (mvL p q l k)).set (k * 15 + 1) (.int .i64 r.x)).set (k * 15 + 2) (.int .i64 r.y)).set (k * 15 + 3) (.int .i64 r.w)).set (k * 15 + 4) (.int .i64 r.h) = flatZ ((mvL p q l k).set k ⟨l[k].k, r, l[k].c, l[k].b, l[k].t, l[k].n⟩)) := fun r => by
          have h := flatZ_rect (mvL p q l k) k (by rw [hml]; exact hlt) r
          rw [mvL_at p q l k hll] at h
          exact h
        have HO : Hid (wr.ownsRow B 31 15 (.slice (some ⟨g, 0, none⟩) n cu) n (flatZ (mvL p q l k)) ∧ Below B w1 wr ∧ Bk wr bx #[.int .i64 p, .int .i64 q] 23 ∧ B ≤ wr.heap.size ∧ (mvL p q l k).length = n) := by
          have hbw := HK.out.2.2
          rw [HB.out.1] at hbw
          exact ⟨hown, HK.out.2.2, H1.out.2.below hbw, by rw [HB.out.1]; exact hbw.size, hml⟩
        clear HK hown hml
        generalize l[k] = sx at *
        generalize mvL p q l k = M at *
        obtain ⟨x0, x1, x2, x3, x4, -⟩ := hx
        by_cases h5 : sx.k = 5
        · have HRel : Hid (OwS B wr (.slice (some ⟨g, 0, none⟩) n cu) (mvL p q l (k + 1)) ∧ (l.take (k + 1)).all (fun s => zMa (movS p q s).r) = true ∧ Below B w1 wr) := by
            obtain ⟨a1, a2⟩ := HX.out.1 h5
            refine ⟨?_, by rw [HT.out.1]; exact a2, HO.out.2.1⟩
            rw [← HNx.out, a1, HSame.out]
            unfold OwS
            rw [HO.out.2.2.2.2]
            exact HO.out.1
          clear HO HT HX HNx HSame HRow
          go_wp2
          go_roundw
          case rel => exact ⟨k + 1, by go_num, by omega, HRel⟩
          case measure => simp [intOf]; omega
        · have h5' : (sx.k == 5) = false := beq_eq_false_iff_ne.2 h5
          obtain ⟨A, hA⟩ : ∃ A, A = elsA sx.r p q := ⟨_, rfl⟩
          obtain ⟨F, hF⟩ : ∃ F, F = elsF sx.r p q := ⟨_, rfl⟩
          have HAF : Hid (A = elsA sx.r p q ∧ F = elsF sx.r p q) := ⟨hA, hF⟩
          have HCa : Hid (∀ W, Calls Try.prog 44 #[.agg #[.int .i64 sx.r.x, .int .i64 sx.r.y, .int .i64 sx.r.w, .int .i64 sx.r.h], .agg #[.int .i64 p, .int .i64 q]] W fun e w' => e = .returned (.tuple #[.agg #[.int .i64 A.x, .int .i64 A.y, .int .i64 A.w, .int .i64 A.h], .int .i64 F]) ∧ Below W.heap.size W w') := fun W => by rw [hA, hF]; exact HEl.out sx.r W
          have HX2 := HX.out.2 h5
          have HX3 : Hid ((zMa (elsR sx.r p q) = true → zMa (movS p q sx).r = true ∧ movS p q sx = ⟨sx.k, elsR sx.r p q, sx.c, sx.b, sx.t, sx.n⟩) ∧ (zMa (elsR sx.r p q) = false → zMa (movS p q sx).r = false)) := HX2
          have HR4 : Hid (∀ W, Below wr.heap.size wr W → RcAt W g (k * 15 + 1) sx.r ∧ Bk W bx #[.int .i64 p, .int .i64 q] 23) := fun W h => by
            have hgw : g < wr.heap.size := (row_lt HO.out.1 g rfl).2
            refine ⟨⟨(h.cell (p := ⟨g, k * 15 + 1, none⟩) hgw).trans x1, (h.cell (p := ⟨g, k * 15 + 2, none⟩) hgw).trans x2, (h.cell (p := ⟨g, k * 15 + 3, none⟩) hgw).trans x3, (h.cell (p := ⟨g, k * 15 + 4, none⟩) hgw).trans x4⟩, HO.out.2.2.1.below h⟩
          clear HX HX2 hA hF h5 x1 x2 x3 x4
          go_upto_region 9 with fail
          have q1 := (HR4.out _ (Below.refl _ _)).1.1
          have q2 := (HR4.out _ (Below.refl _ _)).1.2.1
          have q3 := (HR4.out _ (Below.refl _ _)).1.2.2.1
          have q4 := (HR4.out _ (Below.refl _ _)).1.2.2.2
          obtain ⟨p1, p2⟩ := (HR4.out _ (Below.refl _ _)).2.at2
          go_cut [9, 10] (fun s9 s10 wx => ∃ b9, s9 = .pointer (some ⟨b9, 0, none⟩) ∧ s10 = .int .i64 F ∧ wr.heap.size ≤ b9 ∧ Hid (Bk wx b9 #[.int .i64 A.x, .int .i64 A.y, .int .i64 A.w, .int .i64 A.h] 27 ∧ Below wr.heap.size wr wx))
          case first =>
            refine wp_region_inv (I := (fun b a x => ∃ u9 u10 u29 u30 u31 u32 u33 u34 u35 u36 u37 u38, a = ⟨#[v, .agg #[.int .i64 p, .int .i64 q], undef, .pointer (some ⟨bx, 0, none⟩), u4, u5, .int .i64 0, .slice (some ⟨g, 0, none⟩) n cu, .int .i64 k, u9, u10, v, .int .i64 0, .int .i64 0, .bool false, undef, v, .slice (some ⟨g, 0, none⟩) n cu, .slice (some ⟨g, 0, none⟩) n cu, .int .i64 n, .int .i64 k, .bool true, .int .i64 k, .slice (some ⟨g, 0, none⟩) n cu, .int .i64 k, .pointer (some ⟨g, k * 15, none⟩), .pointer (some ⟨g, k * 15, none⟩), .int .u8 sx.k, .bool false, u29, u30, u31, u32, u33, u34, u35, u36, u37, u38, u39, u40, u41, u42, u43, u44, u45, u46, u47, undef], []⟩ ∧ Hid (JM wr g n cu k p q sx A F b u9 u10 u29 u30 u31 u32 u33 u34 u35 u36 u37 u38 x))) (by kernel_rfl) (by kernel_rfl) ?_ ?_ ?_
            · exact ⟨u9, u10, u29, u30, u31, u32, u33, u34, u35, u36, u37, u38, rfl, ⟨(fun e => by cases e), (fun e => by cases e), (fun e => by cases e), (fun e => by cases e), (fun e => by cases e), (fun e => by cases e), (fun e => by cases e), (fun e => by cases e), (fun e => by cases e), (fun e => by cases e), (fun e => by cases e), (fun e => by cases e), (fun e => by cases e), (Below.refl _ wr).drew⟩⟩
            · intro b a x i o hI hbi ho hpre K' hK
              obtain ⟨u9, u10, u29, u30, u31, u32, u33, u34, u35, u36, u37, u38, rfl, HJ⟩ := hI
              have hi : i < 13 := by have := (Array.getElem?_eq_some_iff.1 ho).1; simpa using this
              rcases (show i = 0 ∨ i = 1 ∨ i = 2 ∨ i = 3 ∨ i = 4 ∨ i = 5 ∨ i = 6 ∨ i = 7 ∨ i = 8 ∨ i = 9 ∨ i = 10 ∨ i = 11 ∨ i = 12 by omega) with rfl | rfl | rfl | rfl | rfl | rfl | rfl | rfl | rfl | rfl | rfl | rfl | rfl
              · injection (show some _ = some o from ho) with ho
                subst ho
                have HN : Hid (JM wr g n cu k p q sx A F (fun j => if j = 0 then true else b j) u9 u10 u29 (.slice (some ⟨g, 0, none⟩) n cu) u31 u32 u33 u34 u35 u36 u37 u38 x) := by
                  obtain ⟨j0, j1, j2, j3, j4, j5, j6, j7, j8, j9, j10, j11, j12, e0⟩ := HJ.out
                  exact ⟨fun _ => rfl, j1, j2, j3, j4, j5, j6, j7, j8, j9, j10, j11, j12, e0⟩
                clear HJ hpre
                go_simp
                exact hK _ _ ⟨u9, u10, u29, _, u31, u32, u33, u34, u35, u36, u37, u38, rfl, HN⟩
              · injection (show some _ = some o from ho) with ho
                subst ho
                have HN : Hid (JM wr g n cu k p q sx A F (fun j => if j = 1 then true else b j) u9 u10 u29 u30 (.int .i64 k) u32 u33 u34 u35 u36 u37 u38 x) := by
                  obtain ⟨j0, j1, j2, j3, j4, j5, j6, j7, j8, j9, j10, j11, j12, e0⟩ := HJ.out
                  exact ⟨j0, fun _ => rfl, j2, j3, j4, j5, j6, j7, j8, j9, j10, j11, j12, e0⟩
                clear HJ hpre
                go_simp
                exact hK _ _ ⟨u9, u10, u29, u30, _, u32, u33, u34, u35, u36, u37, u38, rfl, HN⟩
              · injection (show some _ = some o from ho) with ho
                subst ho
                have p0 : b 0 = true := hpre 0 (by decide +kernel)
                obtain rfl : u30 = .slice (some ⟨g, 0, none⟩) n cu := by obtain ⟨j0, j1, j2, j3, j4, j5, j6, j7, j8, j9, j10, j11, j12, e0⟩ := HJ.out; exact (j0 p0)
                have p1 : b 1 = true := hpre 1 (by decide +kernel)
                obtain rfl : u31 = .int .i64 k := by obtain ⟨j0, j1, j2, j3, j4, j5, j6, j7, j8, j9, j10, j11, j12, e0⟩ := HJ.out; exact (j1 p1)
                have HN : Hid (JM wr g n cu k p q sx A F (fun j => if j = 2 then true else b j) u9 u10 u29 (.slice (some ⟨g, 0, none⟩) n cu) (.int .i64 k) (.pointer (some ⟨g, k * 15, none⟩)) u33 u34 u35 u36 u37 u38 x) := by
                  obtain ⟨j0, j1, j2, j3, j4, j5, j6, j7, j8, j9, j10, j11, j12, e0⟩ := HJ.out
                  exact ⟨j0, j1, fun _ => rfl, j3, j4, j5, j6, j7, j8, j9, j10, j11, j12, e0⟩
                clear HJ hpre
                go_simp
                exact hK _ _ ⟨u9, u10, u29, _, _, _, u33, u34, u35, u36, u37, u38, rfl, HN⟩
              · injection (show some _ = some o from ho) with ho
                subst ho
                have p2 : b 2 = true := hpre 2 (by decide +kernel)
                obtain rfl : u32 = .pointer (some ⟨g, k * 15, none⟩) := by obtain ⟨j0, j1, j2, j3, j4, j5, j6, j7, j8, j9, j10, j11, j12, e0⟩ := HJ.out; exact (j2 p2)
                have HN : Hid (JM wr g n cu k p q sx A F (fun j => if j = 3 then true else b j) u9 u10 u29 u30 u31 (.pointer (some ⟨g, k * 15, none⟩)) (.pointer (some ⟨g, k * 15 + 1, none⟩)) u34 u35 u36 u37 u38 x) := by
                  obtain ⟨j0, j1, j2, j3, j4, j5, j6, j7, j8, j9, j10, j11, j12, e0⟩ := HJ.out
                  exact ⟨j0, j1, j2, fun _ => rfl, j4, j5, j6, j7, j8, j9, j10, j11, j12, e0⟩
                clear HJ hpre
                go_simp
                exact hK _ _ ⟨u9, u10, u29, u30, u31, _, _, u34, u35, u36, u37, u38, rfl, HN⟩
              · injection (show some _ = some o from ho) with ho
                subst ho
                have p3 : b 3 = true := hpre 3 (by decide +kernel)
                obtain rfl : u33 = .pointer (some ⟨g, k * 15 + 1, none⟩) := by obtain ⟨j0, j1, j2, j3, j4, j5, j6, j7, j8, j9, j10, j11, j12, e0⟩ := HJ.out; exact (j3 p3)
                have hbx : Below wr.heap.size wr x := by obtain ⟨j0, j1, j2, j3, j4, j5, j6, j7, j8, j9, j10, j11, j12, e0⟩ := HJ.out; exact e0
                obtain ⟨r1, r2, r3, r4⟩ := (HR4.out x hbx).1
                have HN : Hid (JM wr g n cu k p q sx A F (fun j => if j = 4 then true else b j) u9 u10 u29 u30 u31 u32 (.pointer (some ⟨g, k * 15 + 1, none⟩)) (.agg #[.int .i64 sx.r.x, .int .i64 sx.r.y, .int .i64 sx.r.w, .int .i64 sx.r.h]) u35 u36 u37 u38 x) := by
                  obtain ⟨j0, j1, j2, j3, j4, j5, j6, j7, j8, j9, j10, j11, j12, e0⟩ := HJ.out
                  exact ⟨j0, j1, j2, j3, fun _ => rfl, j5, j6, j7, j8, j9, j10, j11, j12, e0⟩
                clear HJ hpre
                go_simp
                exact hK _ _ ⟨u9, u10, u29, u30, u31, u32, _, _, u35, u36, u37, u38, rfl, HN⟩
              · injection (show some _ = some o from ho) with ho
                subst ho
                have hbx : Below wr.heap.size wr x := by obtain ⟨j0, j1, j2, j3, j4, j5, j6, j7, j8, j9, j10, j11, j12, e0⟩ := HJ.out; exact e0
                obtain ⟨r1, r2⟩ := (HR4.out x hbx).2.at2
                have HN : Hid (JM wr g n cu k p q sx A F (fun j => if j = 5 then true else b j) u9 u10 u29 u30 u31 u32 u33 u34 (.agg #[.int .i64 p, .int .i64 q]) u36 u37 u38 x) := by
                  obtain ⟨j0, j1, j2, j3, j4, j5, j6, j7, j8, j9, j10, j11, j12, e0⟩ := HJ.out
                  exact ⟨j0, j1, j2, j3, j4, fun _ => rfl, j6, j7, j8, j9, j10, j11, j12, e0⟩
                clear HJ hpre
                go_simp
                exact hK _ _ ⟨u9, u10, u29, u30, u31, u32, u33, u34, _, u36, u37, u38, rfl, HN⟩
              · injection (show some _ = some o from ho) with ho
                subst ho
                have p4 : b 4 = true := hpre 4 (by decide +kernel)
                obtain rfl : u34 = .agg #[.int .i64 sx.r.x, .int .i64 sx.r.y, .int .i64 sx.r.w, .int .i64 sx.r.h] := by obtain ⟨j0, j1, j2, j3, j4, j5, j6, j7, j8, j9, j10, j11, j12, e0⟩ := HJ.out; exact (j4 p4)
                have p5 : b 5 = true := hpre 5 (by decide +kernel)
                obtain rfl : u35 = .agg #[.int .i64 p, .int .i64 q] := by obtain ⟨j0, j1, j2, j3, j4, j5, j6, j7, j8, j9, j10, j11, j12, e0⟩ := HJ.out; exact (j5 p5)
                have HCC := HCa.out x
                have HN : Hid (∀ x', Below x.heap.size x x' → JM wr g n cu k p q sx A F (fun j => if j = 6 then true else b j) u9 u10 u29 u30 u31 u32 u33 (.agg #[.int .i64 sx.r.x, .int .i64 sx.r.y, .int .i64 sx.r.w, .int .i64 sx.r.h]) (.agg #[.int .i64 p, .int .i64 q]) (.tuple #[.agg #[.int .i64 A.x, .int .i64 A.y, .int .i64 A.w, .int .i64 A.h], .int .i64 F]) u37 u38 x') := fun x' hb => by
                  obtain ⟨j0, j1, j2, j3, j4, j5, j6, j7, j8, j9, j10, j11, j12, e0⟩ := HJ.out
                  exact ⟨j0, j1, j2, j3, j4, j5, fun _ => rfl, j7, j8, j9, fun h => (j10 h).imp fun _ t => ⟨t.1, t.2.1, fun c => (t.2.2.1 c).below hb, fun c => (t.2.2.2 c).below hb⟩, j11, j12, e0.trans (hb.mono e0.size)⟩
                clear HJ hpre
                go_simp
                refine HCC.mono ?_
                rintro e x' ⟨rfl, hb⟩
                exact hK _ _ ⟨u9, u10, u29, u30, u31, u32, u33, _, _, _, u37, u38, rfl, HN.out x' hb⟩
              · injection (show some _ = some o from ho) with ho
                subst ho
                have p6 : b 6 = true := hpre 6 (by decide +kernel)
                obtain rfl : u36 = .tuple #[.agg #[.int .i64 A.x, .int .i64 A.y, .int .i64 A.w, .int .i64 A.h], .int .i64 F] := by obtain ⟨j0, j1, j2, j3, j4, j5, j6, j7, j8, j9, j10, j11, j12, e0⟩ := HJ.out; exact (j6 p6)
                have HN : Hid (JM wr g n cu k p q sx A F (fun j => if j = 7 then true else b j) u9 u10 (.tuple #[.agg #[.int .i64 A.x, .int .i64 A.y, .int .i64 A.w, .int .i64 A.h], .int .i64 F]) u30 u31 u32 u33 u34 u35 (.tuple #[.agg #[.int .i64 A.x, .int .i64 A.y, .int .i64 A.w, .int .i64 A.h], .int .i64 F]) u37 u38 x) := by
                  obtain ⟨j0, j1, j2, j3, j4, j5, j6, j7, j8, j9, j10, j11, j12, e0⟩ := HJ.out
                  exact ⟨j0, j1, j2, j3, j4, j5, j6, fun _ => rfl, j8, j9, j10, j11, j12, e0⟩
                clear HJ hpre
                go_simp
                exact hK _ _ ⟨u9, u10, _, u30, u31, u32, u33, u34, u35, _, u37, u38, rfl, HN⟩
              · injection (show some _ = some o from ho) with ho
                subst ho
                have p7 : b 7 = true := hpre 7 (by decide +kernel)
                obtain rfl : u29 = .tuple #[.agg #[.int .i64 A.x, .int .i64 A.y, .int .i64 A.w, .int .i64 A.h], .int .i64 F] := by obtain ⟨j0, j1, j2, j3, j4, j5, j6, j7, j8, j9, j10, j11, j12, e0⟩ := HJ.out; exact (j7 p7)
                have HN : Hid (JM wr g n cu k p q sx A F (fun j => if j = 8 then true else b j) u9 u10 (.tuple #[.agg #[.int .i64 A.x, .int .i64 A.y, .int .i64 A.w, .int .i64 A.h], .int .i64 F]) u30 u31 u32 u33 u34 u35 u36 (.agg #[.int .i64 A.x, .int .i64 A.y, .int .i64 A.w, .int .i64 A.h]) u38 x) := by
                  obtain ⟨j0, j1, j2, j3, j4, j5, j6, j7, j8, j9, j10, j11, j12, e0⟩ := HJ.out
                  exact ⟨j0, j1, j2, j3, j4, j5, j6, j7, fun _ => rfl, j9, j10, j11, j12, e0⟩
                clear HJ hpre
                go_simp
                exact hK _ _ ⟨u9, u10, _, u30, u31, u32, u33, u34, u35, u36, _, u38, rfl, HN⟩
              · injection (show some _ = some o from ho) with ho
                subst ho
                have p7 : b 7 = true := hpre 7 (by decide +kernel)
                obtain rfl : u29 = .tuple #[.agg #[.int .i64 A.x, .int .i64 A.y, .int .i64 A.w, .int .i64 A.h], .int .i64 F] := by obtain ⟨j0, j1, j2, j3, j4, j5, j6, j7, j8, j9, j10, j11, j12, e0⟩ := HJ.out; exact (j7 p7)
                have HN : Hid (JM wr g n cu k p q sx A F (fun j => if j = 9 then true else b j) u9 u10 (.tuple #[.agg #[.int .i64 A.x, .int .i64 A.y, .int .i64 A.w, .int .i64 A.h], .int .i64 F]) u30 u31 u32 u33 u34 u35 u36 u37 (.int .i64 F) x) := by
                  obtain ⟨j0, j1, j2, j3, j4, j5, j6, j7, j8, j9, j10, j11, j12, e0⟩ := HJ.out
                  exact ⟨j0, j1, j2, j3, j4, j5, j6, j7, j8, fun _ => rfl, j10, j11, j12, e0⟩
                clear HJ hpre
                go_simp
                exact hK _ _ ⟨u9, u10, _, u30, u31, u32, u33, u34, u35, u36, u37, _, rfl, HN⟩
              · injection (show some _ = some o from ho) with ho
                subst ho
                have HN : Hid (JM wr g n cu k p q sx A F (fun j => if j = 10 then true else b j) (.pointer (some ⟨x.heap.size, 0, none⟩)) u10 u29 u30 u31 u32 u33 u34 u35 u36 u37 u38 (x.alloc (.cells #[.int .i64 0, .int .i64 0, .int .i64 0, .int .i64 0] 27))) := by
                  obtain ⟨j0, j1, j2, j3, j4, j5, j6, j7, j8, j9, j10, j11, j12, e0⟩ := HJ.out
                  refine ⟨j0, j1, j2, j3, j4, j5, j6, j7, j8, j9, fun _ => ⟨x.heap.size, rfl, e0.size, fun _ => Bk.new _ _ _, fun c => ?_⟩, fun _ => rfl, j12, e0.alloc e0.size _⟩
                  have := j11 c; rw [hbi] at this; cases this
                clear HJ hpre
                go_simp
                exact hK _ _ ⟨_, u10, u29, u30, u31, u32, u33, u34, u35, u36, u37, u38, rfl, HN⟩
              · injection (show some _ = some o from ho) with ho
                subst ho
                have p8 : b 8 = true := hpre 8 (by decide +kernel)
                obtain rfl : u37 = .agg #[.int .i64 A.x, .int .i64 A.y, .int .i64 A.w, .int .i64 A.h] := by obtain ⟨j0, j1, j2, j3, j4, j5, j6, j7, j8, j9, j10, j11, j12, e0⟩ := HJ.out; exact (j8 p8)
                have p10 : b 10 = true := hpre 10 (by decide +kernel)
                obtain ⟨qb, rfl, hq1, z⟩ : ∃ qb, u9 = .pointer (some ⟨qb, 0, none⟩) ∧ wr.heap.size ≤ qb ∧ Bk x qb #[.int .i64 0, .int .i64 0, .int .i64 0, .int .i64 0] 27 := by
                  obtain ⟨j0, j1, j2, j3, j4, j5, j6, j7, j8, j9, j10, j11, j12, e0⟩ := HJ.out
                  obtain ⟨qb, k1, k2, k3, _⟩ := j10 p10
                  exact ⟨qb, k1, k2, k3 hbi⟩
                have z0 : x.cell? ⟨qb, 0, none⟩ = some (.int .i64 0) := by rw [z.cell]; rfl
                have z1 : x.cell? ⟨qb, 1, none⟩ = some (.int .i64 0) := by rw [z.cell]; rfl
                have z2 : x.cell? ⟨qb, 2, none⟩ = some (.int .i64 0) := by rw [z.cell]; rfl
                have z3 : x.cell? ⟨qb, 3, none⟩ = some (.int .i64 0) := by rw [z.cell]; rfl
                have f0 := z.frozen
                have lz := z.lt
                have HN : Hid (JM wr g n cu k p q sx A F (fun j => if j = 11 then true else b j) (.pointer (some ⟨qb, 0, none⟩)) u10 u29 u30 u31 u32 u33 u34 u35 u36 (.agg #[.int .i64 A.x, .int .i64 A.y, .int .i64 A.w, .int .i64 A.h]) u38 ((((x.setCell ⟨qb, 0, none⟩ (.int .i64 A.x)).setCell ⟨qb, 1, none⟩ (.int .i64 A.y)).setCell ⟨qb, 2, none⟩ (.int .i64 A.w)).setCell ⟨qb, 3, none⟩ (.int .i64 A.h))) := by
                  obtain ⟨j0, j1, j2, j3, j4, j5, j6, j7, j8, j9, j10, j11, j12, e0⟩ := HJ.out
                  exact ⟨j0, j1, j2, j3, j4, j5, j6, j7, j8, j9, fun _ => ⟨qb, rfl, hq1, (fun c => by cases c), fun _ => by simpa using ((((z.put 0 (.int .i64 A.x)).put 1 (.int .i64 A.y)).put 2 (.int .i64 A.w)).put 3 (.int .i64 A.h))⟩, fun _ => p10, j12, ((((e0.setCell (p := ⟨qb, 0, none⟩) hq1 (.int .i64 A.x)).setCell (p := ⟨qb, 1, none⟩) hq1 (.int .i64 A.y)).setCell (p := ⟨qb, 2, none⟩) hq1 (.int .i64 A.w)).setCell (p := ⟨qb, 3, none⟩) hq1 (.int .i64 A.h))⟩
                clear HJ hpre z
                go_simp
                exact hK _ _ ⟨_, u10, u29, u30, u31, u32, u33, u34, u35, u36, _, u38, rfl, HN⟩
              · injection (show some _ = some o from ho) with ho
                subst ho
                have p9 : b 9 = true := hpre 9 (by decide +kernel)
                obtain rfl : u38 = .int .i64 F := by obtain ⟨j0, j1, j2, j3, j4, j5, j6, j7, j8, j9, j10, j11, j12, e0⟩ := HJ.out; exact (j9 p9)
                have HN : Hid (JM wr g n cu k p q sx A F (fun j => if j = 12 then true else b j) u9 (.int .i64 F) u29 u30 u31 u32 u33 u34 u35 u36 u37 (.int .i64 F) x) := by
                  obtain ⟨j0, j1, j2, j3, j4, j5, j6, j7, j8, j9, j10, j11, j12, e0⟩ := HJ.out
                  exact ⟨j0, j1, j2, j3, j4, j5, j6, j7, j8, j9, j10, j11, fun _ => rfl, e0⟩
                clear HJ hpre
                go_simp
                exact hK _ _ ⟨u9, _, u29, u30, u31, u32, u33, u34, u35, u36, u37, _, rfl, HN⟩
            · intro b a x hI hall
              obtain ⟨u9, u10, u29, u30, u31, u32, u33, u34, u35, u36, u37, u38, rfl, HJ⟩ := hI
              have hall' : ∀ i, i < 13 → b i = true := fun i hi => hall i (by simpa using hi)
              obtain ⟨j0, j1, j2, j3, j4, j5, j6, j7, j8, j9, j10, j11, j12, e0⟩ := HJ.out
              obtain ⟨q9, rfl, hq9, _, hk9⟩ := j10 (hall' 10 (by omega))
              obtain rfl := j12 (hall' 12 (by omega))
              have HF9 : Hid (Bk x q9 #[.int .i64 A.x, .int .i64 A.y, .int .i64 A.w, .int .i64 A.h] 27 ∧ Below wr.heap.size wr x) := ⟨hk9 (hall' 11 (by omega)), e0⟩
              clear HJ hall hall' hk9 j0 j1 j2 j3 j4 j5 j6 j7 j8 j9 j10 j11 j12 e0
              go_wp2_with fail
              go_meet
              exact ⟨q9, rfl, rfl, hq9, HF9⟩
          case rest =>
          obtain ⟨b9, rfl, rfl, hb9, H9⟩ := hcut
          generalize wc = w9 at *
          clear q1 q2 q3 q4 p1 p2
          have HG9 : Hid (b9 ≠ g) := by
            have h1 := (row_lt HO.out.1 g rfl).2
            unfold Hid
            omega
          have HO9 : Hid (w9.ownsRow B 31 15 (.slice (some ⟨g, 0, none⟩) n cu) n (flatZ M) ∧ Below B w1 w9) := ⟨row_below HO.out.1 H9.out.2, HO.out.2.1.trans (H9.out.2.mono HO.out.2.2.2.1)⟩
          clear HR4 HCa
          cases hz : zMa (elsR sx.r p q) with
          | false =>
            have HEE : Hid (E = 9 ∧ G = [] ∧ F = 9 ∧ Below w.heap.size w w9) := by
              obtain ⟨e1, e2⟩ := HE.out.2 (HT.out.2 (HX3.out.2 hz))
              refine ⟨e1, e2, ?_, ?_⟩
              · rw [HAF.out.2]; unfold elsF; rw [hz]; rfl
              · have h := HO9.out.2
                rw [HB.out.1] at h
                exact H1.out.1.trans (h.mono H1.out.1.size)
            have hF9 := HEE.out.2.2.1
            subst hF9
            clear hz HO9 HO HT HX3 HNx HSame HRow H9
            go_wp2
            go_ret2
            refine ⟨.slice none 0 0, ?_, ?_⟩
            · rw [HEE.out.1]
              rfl
            · rw [HEE.out.2.1]
              exact ⟨OwS.nil _ _, HEE.out.2.2.2⟩
          | true =>
            have HFz : Hid (F = 0 ∧ A = elsR sx.r p q) := by
              obtain ⟨e1, e2⟩ := HAF.out
              refine ⟨by rw [e2]; unfold elsF; rw [hz]; rfl, by rw [e1]; unfold elsA; rw [hz]; rfl⟩
            have hF0 := HFz.out.1
            subst hF0
            have HX4 : Hid (zMa (movS p q sx).r = true ∧ movS p q sx = ⟨sx.k, A, sx.c, sx.b, sx.t, sx.n⟩) := by
              rw [HFz.out.2]
              exact HX3.out.1 hz
            obtain ⟨c0, c1, c2, c3⟩ := H9.out.1.at4
            have hMl : (flatZ M).length = n * 15 := by rw [flatZ_len, HO.out.2.2.2.2]
            have cc : ∀ j, j < 15 → ∃ z, w9.cell? ⟨g, k * 15 + j, none⟩ = some z := fun j hj => ⟨(flatZ M)[k * 15 + j]'(by omega), (own_cell HO9.out.1 (k * 15 + j) (by omega)).trans (List.getElem?_eq_getElem _)⟩
            obtain ⟨z1, y1⟩ := cc 1 (by decide)
            obtain ⟨z2, y2⟩ := cc 2 (by decide)
            obtain ⟨z3, y3⟩ := cc 3 (by decide)
            obtain ⟨z4, y4⟩ := cc 4 (by decide)
            have ff := own_frozen HO9.out.1
            have f1 := ff (k * 15 + 1)
            have f2 := ff (k * 15 + 2)
            have f3 := ff (k * 15 + 3)
            have f4 := ff (k * 15 + 4)
            have HRel : Hid (OwS B ((((w9.setCell ⟨g, k * 15 + 1, none⟩ (.int .i64 A.x)).setCell ⟨g, k * 15 + 2, none⟩ (.int .i64 A.y)).setCell ⟨g, k * 15 + 3, none⟩ (.int .i64 A.w)).setCell ⟨g, k * 15 + 4, none⟩ (.int .i64 A.h)) (.slice (some ⟨g, 0, none⟩) n cu) (mvL p q l (k + 1)) ∧ (l.take (k + 1)).all (fun s => zMa (movS p q s).r) = true ∧ Below B w1 ((((w9.setCell ⟨g, k * 15 + 1, none⟩ (.int .i64 A.x)).setCell ⟨g, k * 15 + 2, none⟩ (.int .i64 A.y)).setCell ⟨g, k * 15 + 3, none⟩ (.int .i64 A.w)).setCell ⟨g, k * 15 + 4, none⟩ (.int .i64 A.h))) := by
              refine ⟨?_, by rw [HT.out.1]; exact HX4.out.1, ?_⟩
              · have h := own_set (own_set (own_set (own_set HO9.out.1 (k * 15 + 1) (.int .i64 A.x)) (k * 15 + 2) (.int .i64 A.y)) (k * 15 + 3) (.int .i64 A.w)) (k * 15 + 4) (.int .i64 A.h)
                rw [HRow.out A, ← HX4.out.2, HNx.out] at h
                unfold OwS
                rw [mvL_len p q l (k + 1) (by rw [← HN.out]; omega), ← HN.out]
                exact h
              · exact (((HO9.out.2.setCell (p := ⟨g, k * 15 + 1, none⟩) hgB _).setCell (p := ⟨g, k * 15 + 2, none⟩) hgB _).setCell (p := ⟨g, k * 15 + 3, none⟩) hgB _).setCell (p := ⟨g, k * 15 + 4, none⟩) hgB _
            clear hz HO9 HO HT HX3 HX4 HNx HSame HRow H9 cc ff hMl HFz HAF
            go_wp2
            go_roundw
            case rel => exact ⟨k + 1, by go_num, by omega, HRel⟩
            case measure => simp [intOf]; omega
      · obtain rfl : k = n := by omega
        have HF : Hid (OwS w.heap.size wr (.slice ou k cu) G ∧ Below w.heap.size w wr ∧ E = 0) := by
          obtain ⟨a1, a2, a3⟩ := HK.out
          have e1 : l.take k = l := List.take_of_length_le (by rw [HN.out]; exact Nat.le_refl _)
          rw [e1] at a2
          obtain ⟨e2, e3⟩ := HE.out.1 a2
          have e4 : mvL p q l k = l.map (movS p q) := by
            unfold mvL
            rw [e1, List.drop_of_length_le (by rw [HN.out]; exact Nat.le_refl _), List.append_nil]
          rw [e4] at a1
          rw [HB.out.1] at a1 a3
          rw [e3]
          exact ⟨a1.weaken H1.out.1.size, H1.out.1.trans (a3.mono H1.out.1.size), e2⟩
        clear HK
        go_wp2
        go_ret2
        refine ⟨_, ?_, HF.out.1, HF.out.2.1⟩
        rw [HF.out.2.2]
        rfl

end Go.Proofs.Ytbghjmkgicdnoaa

/-
  What is asked of package list, and holds: Check, Same, Join, Moved.
-/
namespace Go.Proofs.Ytbghjmkgicdnoaa
open Go.RowKit

theorem Wfs.xys {l : List St} (h : Wfs l) : Xys l := fun s hs => ⟨(h s hs).2.1.1, (h s hs).2.1.2.1⟩
theorem l_check : LCheck := fun l v w hv hw => lcheck_any l v w hv hw.txs hw.xys

-- function 25
theorem l_same : LSame := fun a b va vb w ha hb hl => lsame_any a b va vb w ha hb (by omega)

-- function 19
theorem l_join : LJoin := fun a b va vb w ha hb na nb wa wb la lb => ljoin_any a b va vb w ha hb na nb wa.txs wb.txs wa.xys wb.xys la lb

-- function 18
theorem l_moved : LMoved := fun l p q v w hv hn hw hp hq => lmoved_any l p q v w hv hn hw.txs hw.xys hp hq

end Go.Proofs.Ytbghjmkgicdnoaa
