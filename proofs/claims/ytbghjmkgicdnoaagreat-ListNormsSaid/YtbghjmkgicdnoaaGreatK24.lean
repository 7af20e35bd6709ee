/-
  Contracts of the document's answer for layer 13: Bound.
-/
import Derived.Test.YtbghjmkgicdnoaaGreatK18
import Derived.Test.YtbghjmkgicdnoaaGreatK23
namespace Go.Proofs.YtbghjmkgicdnoaaGreat
open Go.RowKit

def bouL (l : List St) : List Rc := if chkS l = 0 then ansL (lisE (plA (ann [] l))) (formF false (plA (ann [] l)) []) else []
def bouE (l : List St) : Int := if chkS l = 0 then ansE (lisE (plA (ann [] l))) (formF false (plA (ann [] l)) []) else chkS l
theorem plA_snoc (A : List (St × Rc)) (p : St × Rc) : plA (A ++ [p]) = plA A ++ plc p.1 p.2 := by
  unfold plA
  rw [List.flatMap_append, List.flatMap_singleton]
theorem plA_len (A : List (St × Rc)) : (plA A).length ≤ A.length * 4 := by
  induction A with
  | nil => exact Nat.le_refl _
  | cons p A ih =>
    have := plc_len p.1 p.2
    unfold plA at ih ⊢
    rw [List.flatMap_cons, List.length_append, List.length_cons]
    omega

/-- Rectangles that lie somewhere laid behind a row of one's own, at a step of a region that draws its order. -/
theorem step_appR {P : Program} {w : World} {ops : Array Oper} {o : Oper} {a : Act} {K : Act → World → Prop} {Q : Exit → Act → World → Prop} {E : Prop} (hgd : o.guard = none) (s x : Operand)
    (ho : o.op = .call { callee := .builtin .append, args := #[s, x], argTypes := #[25, 25] })
    (i : TypeInfo) (ht : P.underlying 25 = some (.slice 44)) (hi : P.info? 44 = some i) (hz : i.zero = some (.agg #[.int .i64 0, .int .i64 0, .int .i64 0, .int .i64 0]))
    (hsize : i.size = 4) (hby : i.bytes = 32) (lo : Nat) (u : Value) (F : List Rc) (hs : a.eval s = u) (hown : OwR lo w u F) (hlen : F.length ≤ 100000) (hlo : lo ≤ w.heap.size) (rs : List Rc) (vx : Value) (hx : a.eval x = vx) (hv : LsR w vx rs) (hn : NoNil vx) (hl : rs.length ≤ 1000)
    (h : ∀ v' w', OwR lo w' v' (F ++ rs) → w.grownBy w' u.ownBlock → K (a.put o.dst v') w') : if Region.wanted o (yielded ops a.tmps) = true then Oper.wp P o a w K Q else E := by
  have hw : Region.wanted o (yielded ops a.tmps) = true := by simp [Region.wanted, hgd]
  rw [if_pos hw]
  obtain ⟨oa, cap, rfl, hc, hg⟩ := hv
  cases oa with
  | none =>
    have h0 : rs = [] := by
      cases rs with
      | nil => rfl
      | cons r t =>
        obtain ⟨g, o, e2, _⟩ := hg (by simp)
        cases e2
    subst h0
    obtain rfl : cap = 0 := hn cap rfl
    have hrun := run_append_owned_none (P := P) (w := w) lo 25 o.type 44 i 4 ht hi u F.length (flat F) hown
    have hx' : a.eval x = .slice none 0 0 := hx
    unfold Oper.wp
    simp [execOp, ho, resolve, invoke, builtin, hs, hx', hrun, Result.andThen]
    exact h _ _ (by rw [List.append_nil]; exact hown) (World.grownBy.refl _ _)
  | some ad =>
    refine wp_append_own w s x _ ho lo 44 i (.agg #[.int .i64 0, .int .i64 0, .int .i64 0, .int .i64 0]) 4 32 ht hi hz hsize hby rfl (by decide) u F.length (flat F) hs hown ad rs.length cap (flat rs) hx (flat_len rs) ?_ (flat_ones rs) (by unfold maxLen; omega) (by omega) hlo ?_
    · intro j u' hj
      have hp : 0 < rs.length := by
        cases rs with
        | nil => simp [flat] at hj
        | cons r t => simp
      obtain ⟨g, o, e2, _, hat⟩ := hg hp
      injection e2 with e2
      subst e2
      exact lsr_src hat j u' hj
    · intro v' w' h2 h3 _
      refine h v' w' ?_ h3
      unfold OwR
      rw [List.length_append, flat_app]
      exact h2

def JZH (w2 : World) (B g oo g1 n k m cap cp cu : Nat) (ou : Option Addr) (sx : St) (sr : Rc) (F : List Rc) (b : Nat → Bool) (u6 u22 u23 u24 u25 u26 u27 u28 u29 u30 u31 u32 : Value) (x : World) : Prop :=
  (b 0 = true → u22 = .slice ou m cu) ∧
  (b 1 = true → u23 = .slice (some ⟨g, oo, none⟩) n cap) ∧
  (b 2 = true → u24 = .int .i64 (k : Nat)) ∧
  (b 3 = true → u25 = .pointer (some ⟨g, oo + k * 15, none⟩)) ∧
  (b 4 = true → u26 = (Value.agg #[.int .u8 sx.k, .int .i64 sx.r.x, .int .i64 sx.r.y, .int .i64 sx.r.w, .int .i64 sx.r.h, .int .u8 sx.c.r, .int .u8 sx.c.g, .int .u8 sx.c.b, .int .u8 sx.c.a, .int .u8 sx.b.r, .int .u8 sx.b.g, .int .u8 sx.b.b, .int .u8 sx.b.a, .string sx.t, .int .i64 sx.n])) ∧
  (b 5 = true → u27 = .slice (some ⟨g1, 0, none⟩) n cp) ∧
  (b 6 = true → u28 = .int .i64 (k : Nat)) ∧
  (b 7 = true → u29 = .pointer (some ⟨g1, k * 4, none⟩)) ∧
  (b 8 = true → u30 = .agg #[.int .i64 sr.x, .int .i64 sr.y, .int .i64 sr.w, .int .i64 sr.h]) ∧
  (b 9 = true → b 10 = false → LsR x u31 (plc sx sr) ∧ NoNil u31) ∧
  (b 10 = true → OwR B x u32 (F ++ plc sx sr)) ∧
  (b 11 = true → u6 = u32) ∧
  Below B w2 x ∧
  (b 10 = false → OwR B x (.slice ou m cu) F) ∧
  (b 11 = false → u6 = .slice ou m cu) ∧
  (b 11 = true → b 0 = true) ∧
  (b 10 = true → b 0 = true) ∧
  (b 11 = true → b 10 = true)
theorem JZH.grow {w2 : World} {B g oo g1 n k m cap cp cu : Nat} {ou : Option Addr} {sx : St} {sr : Rc} {F : List Rc} {b : Nat → Bool} {u6 u22 u23 u24 u25 u26 u27 u28 u29 u30 u31 u32 : Value} {x x' : World} (h : JZH w2 B g oo g1 n k m cap cp cu ou sx sr F b u6 u22 u23 u24 u25 u26 u27 u28 u29 u30 u31 u32 x) (hb : Below x.heap.size x x') (hB : B ≤ w2.heap.size) : JZH w2 B g oo g1 n k m cap cp cu ou sx sr F b u6 u22 u23 u24 u25 u26 u27 u28 u29 u30 u31 u32 x' := by
  obtain ⟨j0, j1, j2, j3, j4, j5, j6, j7, j8, j9, j10, j11, e0, e1, e2, e3, e4, e5⟩ := h
  exact ⟨j0, j1, j2, j3, j4, j5, j6, j7, j8, (fun h h2 => ⟨(j9 h h2).1.below hb, (j9 h h2).2⟩), (fun h => (j10 h).below hb), j11, e0.trans (hb.mono (Nat.le_trans hB e0.size)), (fun h => (e1 h).below hb), e2, e3, e4, e5⟩

set_option maxRecDepth 20000 in
set_option maxHeartbeats 8000000 in
theorem zbound_any (l : List St) (v : Value) (w : World) (hv : LsS w v l) (ht : Txs l) :
    Calls Tryz.prog 10 #[v] w fun e w' => Ans w (bouL l) (bouE l) e w' := by
  have HC : Hid (Calls Tryz.prog 12 #[v] w fun e w' => e = .returned (.int .i64 (chkS l)) ∧ Below w.heap.size w w') := zcheck_any l v w hv ht
  unfold Ans
  by_cases h0 : chkS l = 0
  case neg =>
    have HE : Hid (bouL l = [] ∧ bouE l = chkS l) := ⟨by unfold bouL; rw [if_neg h0], by unfold bouE; rw [if_neg h0]⟩
    rw [HE.out.1, HE.out.2]
    have hne : (chkS l != 0) = true := by simp [h0]
    clear h0 hv ht HE
    generalize chkS l = ce at *
    go_enter Tryz.func10, Tryz.ntmps10
    go_wp2_with fail
    refine HC.out.mono ?_
    rintro e w1 ⟨rfl, hb⟩
    have H1 : Hid (Below w.heap.size w w1) := hb
    clear hb
    go_wp2
    go_ret2
    exact ⟨_, rfl, World.ownsRow_nil _ _ _ _, H1.out⟩
  case pos =>
    obtain ⟨hl, hcl⟩ := chkS_zero h0
    have HE : Hid (bouL l = ansL (lisE (plA (ann [] l))) (formF false (plA (ann [] l)) []) ∧ bouE l = ansE (lisE (plA (ann [] l))) (formF false (plA (ann [] l)) [])) := ⟨by unfold bouL; rw [if_pos h0], by unfold bouE; rw [if_pos h0]⟩
    have HSh : Hid (∀ W, Below w.heap.size w W → Calls Tryz.prog 24 #[v] W fun e w' => ∃ u, e = .returned u ∧ OwR W.heap.size w' u ((ann [] l).map Prod.snd) ∧ Below W.heap.size W w') := fun W h => zshown_any l v W (hv.below h) hl hcl
    rw [h0] at HC
    clear h0
    obtain ⟨oa, cap, rfl, hc, hg⟩ := hv
    have HG : Hid (0 < l.length → ∃ g o, oa = some ⟨g, o, none⟩ ∧ g < w.heap.size ∧ ∀ i (h : i < l.length), StAt w g (o + i * 15) l[i]) := hg
    have HCl : Hid (clpE 0 l = 0) := hcl
    obtain ⟨i0, hi, hz0, hz1, hz2⟩ := info_parts info_rect
    have HI : Hid (Tryz.prog.info? 44 = some i0 ∧ i0.zero = some (.agg #[.int .i64 0, .int .i64 0, .int .i64 0, .int .i64 0]) ∧ i0.size = 4 ∧ i0.bytes = 32) := ⟨hi, hz0, hz1, hz2⟩
    clear hg ht hcl hi hz0 hz1 hz2
    generalize bouL l = R1 at *
    generalize bouE l = R2 at *
    go_enter Tryz.func10, Tryz.ntmps10
    go_wp2_with fail
    refine HC.out.mono ?_
    rintro e w1 ⟨rfl, hb1⟩
    have H1 : Hid (Below w.heap.size w w1) := hb1
    clear hb1
    go_wp2_with fail
    refine (HSh.out _ H1.out).mono ?_
    rintro e w2 ⟨us, rfl, hus, hb2⟩
    obtain ⟨os, cp, es, hcp, hgs⟩ := row_val hus
    subst es
    have hAl : ((ann [] l).map Prod.snd).length = l.length := by rw [List.length_map, ann_len]
    rw [hAl] at hcp hgs ⊢
    have H2 : Hid (0 < l.length → ∃ g o g1, oa = some ⟨g, o, none⟩ ∧ os = some ⟨g1, 0, none⟩ ∧ ShL w w2.heap.size w2 l (ann [] l) g o g1) := fun h => by
      obtain ⟨g, o, e1, e2, e3⟩ := HG.out h
      obtain ⟨g1, e4, _, _⟩ := hgs h
      refine ⟨g, o, g1, e1, e4, shl_of (cap := cp) e3 e2 H1.out hb2 ?_ HCl.out⟩
      rw [hAl, e4] at hus
      exact hus
    have HBw : Hid (Below w.heap.size w w2) := H1.out.trans (hb2.mono H1.out.size)
    obtain ⟨B, hB⟩ : ∃ B, B = w2.heap.size := ⟨_, rfl⟩
    have HB : Hid (B = w2.heap.size) := hB
    rw [← hB] at H2
    have HLen : Hid ((ann [] l).length = l.length) := ann_len l []
    have HI0 : Hid (OwR B w2 (.slice none 0 0) (plA ((ann [] l).take 0)) ∧ Below B w2 w2) := ⟨OwR.nil _ _, by rw [hB]; exact Below.refl _ _⟩
    clear hus hb2 hgs hAl hB HG HCl HSh HC H1
    generalize ann [] l = A at *
    obtain ⟨n, hn⟩ : ∃ n, n = l.length := ⟨_, rfl⟩
    have HNl : Hid (n = l.length) := hn
    rw [← hn] at hl hc hcp H2 HLen ⊢
    clear hn
    go_wp2_with fail
    go_loopw [6, 7] (fun u i wr => ∃ k : Nat, i = .int .i64 k ∧ k ≤ n ∧ Hid (OwR B wr u (plA (A.take k)) ∧ Below B w2 wr)) (fun _ i _ => n - (intOf i).toNat)
    case atStart => exact ⟨0, rfl, Nat.zero_le _, HI0⟩
    case round =>
      clear HI0
      obtain ⟨k, rfl, hk, HK⟩ := hrel
      by_cases hlt : k < n
      · have ik : (k : Int) < n := by omega
        obtain ⟨g, oo, g1, rfl, rfl, hSH⟩ := H2.out (by omega)
        have HSH : Hid (ShL w B w2 l A g oo g1) := hSH
        have hkA : k < A.length := by rw [HLen.out]; exact hlt
        obtain ⟨p, hp⟩ : ∃ p, A[k]? = some p := ⟨A[k], List.getElem?_eq_getElem hkA⟩
        have HP : Hid (A[k]? = some p ∧ A.take (k + 1) = A.take k ++ [p] ∧ p ∈ A) := by
          obtain ⟨h1, h2⟩ := List.getElem?_eq_some_iff.1 hp
          exact ⟨hp, by rw [← List.take_append_getElem h1, h2], by rw [← h2]; exact List.getElem_mem h1⟩
        obtain ⟨sx, hx⟩ : ∃ sx, sx = p.1 := ⟨_, rfl⟩
        obtain ⟨sr, hr⟩ : ∃ sr, sr = p.2 := ⟨_, rfl⟩
        have HXR : Hid (sx = p.1 ∧ sr = p.2) := ⟨hx, hr⟩
        have HPL : Hid (∀ W, Calls Tryz.prog 29 #[(Value.agg #[.int .u8 sx.k, .int .i64 sx.r.x, .int .i64 sx.r.y, .int .i64 sx.r.w, .int .i64 sx.r.h, .int .u8 sx.c.r, .int .u8 sx.c.g, .int .u8 sx.c.b, .int .u8 sx.c.a, .int .u8 sx.b.r, .int .u8 sx.b.g, .int .u8 sx.b.b, .int .u8 sx.b.a, .string sx.t, .int .i64 sx.n]), .agg #[.int .i64 sr.x, .int .i64 sr.y, .int .i64 sr.w, .int .i64 sr.h]] W fun e w' => AnsP W (plc sx sr) e w') := fun W => by
          rw [hx, hr]
          have h1 := oneE_zero (hSH.k p HP.out.2.2)
          exact zplaces_any p.1 p.2 W h1.2.1 h1.1
        have HAT : Hid (∀ W, Below B w2 W → StAt W g (oo + k * 15) sx ∧ RcAt W g1 (k * 4) sr) := fun W h => by rw [hx, hr]; exact HSH.out.at HP.out.1 h
        have hsz : Hid (B ≤ wr.heap.size) := by have := HK.out.2.size; unfold Hid; rw [HB.out]; exact this
        clear hSH hkA hp hx hr H2
        obtain ⟨ou, cu, eu, hcu, _⟩ := row_val HK.out.1
        subst eu
        obtain ⟨F, hF⟩ : ∃ F, F = plA (A.take k) := ⟨_, rfl⟩
        obtain ⟨m, hm⟩ : ∃ m, m = F.length := ⟨_, rfl⟩
        have HFm : Hid (F = plA (A.take k) ∧ m = F.length) := ⟨hF, hm⟩
        have HSZ : Hid (F.length ≤ 100000 ∧ B ≤ w2.heap.size) := ⟨by
          rw [hF]
          have := plA_len (A.take k)
          rw [List.length_take] at this
          omega, Nat.le_of_eq HB.out⟩
        have HK2 : Hid (OwR B wr (.slice ou m cu) F ∧ Below B w2 wr) := by
          obtain ⟨a1, a2⟩ := HK.out
          rw [hm, hF]
          exact ⟨a1, a2⟩
        have HLN : Hid ((plc sx sr).length ≤ 1000) := by
          have := plc_len sx sr
          unfold Hid
          omega
        rw [← hF, ← hm] at hcu ⊢
        clear hF hm HK
        go_upto_region 9 with fail
        generalize u20 = v20 at *
        generalize u21 = v21 at *
        refine wp_region_inv (I := (fun b a x => ∃ u6 u22 u23 u24 u25 u26 u27 u28 u29 u30 u31 u32, a = ⟨#[.slice (some ⟨g, oo, none⟩) n cap, undef, .slice none 0 0, .int .i64 0, .int .i64 0, .slice (some ⟨g1, 0, none⟩) n cp, u6, .int .i64 (k : Nat), undef, .slice (some ⟨g, oo, none⟩) n cap, .int .i64 0, .int .i64 0, .bool false, undef, .slice (some ⟨g, oo, none⟩) n cap, .slice (some ⟨g1, 0, none⟩) n cp, .int .i64 (k : Nat), .slice (some ⟨g, oo, none⟩) n cap, .int .i64 (n : Nat), .bool true, v20, v21, u22, u23, u24, u25, u26, u27, u28, u29, u30, u31, u32, undef, undef, undef, undef, undef, undef, undef], []⟩ ∧ Hid (JZH w2 B g oo g1 n k m cap cp cu ou sx sr F b u6 u22 u23 u24 u25 u26 u27 u28 u29 u30 u31 u32 x))) (by kernel_rfl) (by kernel_rfl) ?_ ?_ ?_
        · exact ⟨_, _, _, _, _, _, _, _, _, _, _, _, rfl, ⟨(fun e => by cases e), (fun e => by cases e), (fun e => by cases e), (fun e => by cases e), (fun e => by cases e), (fun e => by cases e), (fun e => by cases e), (fun e => by cases e), (fun e => by cases e), (fun e _ => by cases e), (fun e => by cases e), (fun e => by cases e), HK2.out.2.drew, (fun _ => row_below HK2.out.1 (Below.refl _ _).drew), (fun _ => rfl), (fun e => by cases e), (fun e => by cases e), (fun e => by cases e)⟩⟩
        · intro b a x i o hI hbi ho hpre K' hK
          obtain ⟨u6, u22, u23, u24, u25, u26, u27, u28, u29, u30, u31, u32, rfl, HJ⟩ := hI
          have hi : i < 12 := by have := (Array.getElem?_eq_some_iff.1 ho).1; simpa using this
          rcases (show i = 0 ∨ i = 1 ∨ i = 2 ∨ i = 3 ∨ i = 4 ∨ i = 5 ∨ i = 6 ∨ i = 7 ∨ i = 8 ∨ i = 9 ∨ i = 10 ∨ i = 11 by omega) with rfl | rfl | rfl | rfl | rfl | rfl | rfl | rfl | rfl | rfl | rfl | rfl
          · injection (show some _ = some o from ho) with ho
            subst ho
            obtain rfl : u6 = .slice ou m cu := by
              obtain ⟨j0, j1, j2, j3, j4, j5, j6, j7, j8, j9, j10, j11, e0, e1, e2, e3, e4, e5⟩ := HJ.out
              cases h : b 11 with
              | false => exact e2 h
              | true => exact absurd (hbi.symm.trans (e3 h)) (by decide)
            have HN : Hid (JZH w2 B g oo g1 n k m cap cp cu ou sx sr F (fun j => if j = 0 then true else b j) (.slice ou m cu) (.slice ou m cu) u23 u24 u25 u26 u27 u28 u29 u30 u31 u32 x) := by
              obtain ⟨j0, j1, j2, j3, j4, j5, j6, j7, j8, j9, j10, j11, e0, e1, e2, e3, e4, e5⟩ := HJ.out
              exact ⟨(fun _ => rfl), j1, j2, j3, j4, j5, j6, j7, j8, j9, j10, (fun h => absurd (hbi.symm.trans (e3 h)) (by decide)), e0, e1, (fun _ => rfl), (fun h => absurd (hbi.symm.trans (e3 h)) (by decide)), (fun h => absurd (hbi.symm.trans (e4 h)) (by decide)), e5⟩
            clear HJ hpre
            go_simp
            exact hK _ _ ⟨_, _, u23, u24, u25, u26, u27, u28, u29, u30, u31, u32, rfl, HN⟩
          · injection (show some _ = some o from ho) with ho
            subst ho
            have HN : Hid (JZH w2 B g oo g1 n k m cap cp cu ou sx sr F (fun j => if j = 1 then true else b j) u6 u22 (.slice (some ⟨g, oo, none⟩) n cap) u24 u25 u26 u27 u28 u29 u30 u31 u32 x) := by
              obtain ⟨j0, j1, j2, j3, j4, j5, j6, j7, j8, j9, j10, j11, e0, e1, e2, e3, e4, e5⟩ := HJ.out
              exact ⟨j0, fun _ => rfl, j2, j3, j4, j5, j6, j7, j8, j9, j10, j11, e0, e1, e2, e3, e4, e5⟩
            clear HJ hpre
            go_simp
            exact hK _ _ ⟨u6, u22, _, u24, u25, u26, u27, u28, u29, u30, u31, u32, rfl, HN⟩
          · injection (show some _ = some o from ho) with ho
            subst ho
            have HN : Hid (JZH w2 B g oo g1 n k m cap cp cu ou sx sr F (fun j => if j = 2 then true else b j) u6 u22 u23 (.int .i64 (k : Nat)) u25 u26 u27 u28 u29 u30 u31 u32 x) := by
              obtain ⟨j0, j1, j2, j3, j4, j5, j6, j7, j8, j9, j10, j11, e0, e1, e2, e3, e4, e5⟩ := HJ.out
              exact ⟨j0, j1, fun _ => rfl, j3, j4, j5, j6, j7, j8, j9, j10, j11, e0, e1, e2, e3, e4, e5⟩
            clear HJ hpre
            go_simp
            exact hK _ _ ⟨u6, u22, u23, _, u25, u26, u27, u28, u29, u30, u31, u32, rfl, HN⟩
          · injection (show some _ = some o from ho) with ho
            subst ho
            have p1 : b 1 = true := hpre 1 (by decide +kernel)
            obtain rfl : u23 = .slice (some ⟨g, oo, none⟩) n cap := by obtain ⟨j0, j1, j2, j3, j4, j5, j6, j7, j8, j9, j10, j11, e0, e1, e2, e3, e4, e5⟩ := HJ.out; exact (j1 p1)
            have p2 : b 2 = true := hpre 2 (by decide +kernel)
            obtain rfl : u24 = .int .i64 (k : Nat) := by obtain ⟨j0, j1, j2, j3, j4, j5, j6, j7, j8, j9, j10, j11, e0, e1, e2, e3, e4, e5⟩ := HJ.out; exact (j2 p2)
            have HN : Hid (JZH w2 B g oo g1 n k m cap cp cu ou sx sr F (fun j => if j = 3 then true else b j) u6 u22 (.slice (some ⟨g, oo, none⟩) n cap) (.int .i64 (k : Nat)) (.pointer (some ⟨g, oo + k * 15, none⟩)) u26 u27 u28 u29 u30 u31 u32 x) := by
              obtain ⟨j0, j1, j2, j3, j4, j5, j6, j7, j8, j9, j10, j11, e0, e1, e2, e3, e4, e5⟩ := HJ.out
              exact ⟨j0, j1, j2, fun _ => rfl, j4, j5, j6, j7, j8, j9, j10, j11, e0, e1, e2, e3, e4, e5⟩
            clear HJ hpre
            go_simp
            exact hK _ _ ⟨u6, u22, _, _, _, u26, u27, u28, u29, u30, u31, u32, rfl, HN⟩
          · injection (show some _ = some o from ho) with ho
            subst ho
            have p3 : b 3 = true := hpre 3 (by decide +kernel)
            obtain rfl : u25 = .pointer (some ⟨g, oo + k * 15, none⟩) := by obtain ⟨j0, j1, j2, j3, j4, j5, j6, j7, j8, j9, j10, j11, e0, e1, e2, e3, e4, e5⟩ := HJ.out; exact (j3 p3)
            obtain ⟨x0, x1, x2, x3, x4, x5, x6, x7, x8, x9, x10, x11, x12, x13, x14⟩ : StAt x g (oo + k * 15) sx := by obtain ⟨j0, j1, j2, j3, j4, j5, j6, j7, j8, j9, j10, j11, e0, e1, e2, e3, e4, e5⟩ := HJ.out; exact (HAT.out _ e0).1
            have HN : Hid (JZH w2 B g oo g1 n k m cap cp cu ou sx sr F (fun j => if j = 4 then true else b j) u6 u22 u23 u24 (.pointer (some ⟨g, oo + k * 15, none⟩)) ((Value.agg #[.int .u8 sx.k, .int .i64 sx.r.x, .int .i64 sx.r.y, .int .i64 sx.r.w, .int .i64 sx.r.h, .int .u8 sx.c.r, .int .u8 sx.c.g, .int .u8 sx.c.b, .int .u8 sx.c.a, .int .u8 sx.b.r, .int .u8 sx.b.g, .int .u8 sx.b.b, .int .u8 sx.b.a, .string sx.t, .int .i64 sx.n])) u27 u28 u29 u30 u31 u32 x) := by
              obtain ⟨j0, j1, j2, j3, j4, j5, j6, j7, j8, j9, j10, j11, e0, e1, e2, e3, e4, e5⟩ := HJ.out
              exact ⟨j0, j1, j2, j3, fun _ => rfl, j5, j6, j7, j8, j9, j10, j11, e0, e1, e2, e3, e4, e5⟩
            clear HJ hpre
            go_simp
            exact hK _ _ ⟨u6, u22, u23, u24, _, _, u27, u28, u29, u30, u31, u32, rfl, HN⟩
          · injection (show some _ = some o from ho) with ho
            subst ho
            have HN : Hid (JZH w2 B g oo g1 n k m cap cp cu ou sx sr F (fun j => if j = 5 then true else b j) u6 u22 u23 u24 u25 u26 (.slice (some ⟨g1, 0, none⟩) n cp) u28 u29 u30 u31 u32 x) := by
              obtain ⟨j0, j1, j2, j3, j4, j5, j6, j7, j8, j9, j10, j11, e0, e1, e2, e3, e4, e5⟩ := HJ.out
              exact ⟨j0, j1, j2, j3, j4, fun _ => rfl, j6, j7, j8, j9, j10, j11, e0, e1, e2, e3, e4, e5⟩
            clear HJ hpre
            go_simp
            exact hK _ _ ⟨u6, u22, u23, u24, u25, u26, _, u28, u29, u30, u31, u32, rfl, HN⟩
          · injection (show some _ = some o from ho) with ho
            subst ho
            have HN : Hid (JZH w2 B g oo g1 n k m cap cp cu ou sx sr F (fun j => if j = 6 then true else b j) u6 u22 u23 u24 u25 u26 u27 (.int .i64 (k : Nat)) u29 u30 u31 u32 x) := by
              obtain ⟨j0, j1, j2, j3, j4, j5, j6, j7, j8, j9, j10, j11, e0, e1, e2, e3, e4, e5⟩ := HJ.out
              exact ⟨j0, j1, j2, j3, j4, j5, fun _ => rfl, j7, j8, j9, j10, j11, e0, e1, e2, e3, e4, e5⟩
            clear HJ hpre
            go_simp
            exact hK _ _ ⟨u6, u22, u23, u24, u25, u26, u27, _, u29, u30, u31, u32, rfl, HN⟩
          · injection (show some _ = some o from ho) with ho
            subst ho
            have p5 : b 5 = true := hpre 5 (by decide +kernel)
            obtain rfl : u27 = .slice (some ⟨g1, 0, none⟩) n cp := by obtain ⟨j0, j1, j2, j3, j4, j5, j6, j7, j8, j9, j10, j11, e0, e1, e2, e3, e4, e5⟩ := HJ.out; exact (j5 p5)
            have p6 : b 6 = true := hpre 6 (by decide +kernel)
            obtain rfl : u28 = .int .i64 (k : Nat) := by obtain ⟨j0, j1, j2, j3, j4, j5, j6, j7, j8, j9, j10, j11, e0, e1, e2, e3, e4, e5⟩ := HJ.out; exact (j6 p6)
            have HN : Hid (JZH w2 B g oo g1 n k m cap cp cu ou sx sr F (fun j => if j = 7 then true else b j) u6 u22 u23 u24 u25 u26 (.slice (some ⟨g1, 0, none⟩) n cp) (.int .i64 (k : Nat)) (.pointer (some ⟨g1, k * 4, none⟩)) u30 u31 u32 x) := by
              obtain ⟨j0, j1, j2, j3, j4, j5, j6, j7, j8, j9, j10, j11, e0, e1, e2, e3, e4, e5⟩ := HJ.out
              exact ⟨j0, j1, j2, j3, j4, j5, j6, fun _ => rfl, j8, j9, j10, j11, e0, e1, e2, e3, e4, e5⟩
            clear HJ hpre
            go_simp
            exact hK _ _ ⟨u6, u22, u23, u24, u25, u26, _, _, _, u30, u31, u32, rfl, HN⟩
          · injection (show some _ = some o from ho) with ho
            subst ho
            have p7 : b 7 = true := hpre 7 (by decide +kernel)
            obtain rfl : u29 = .pointer (some ⟨g1, k * 4, none⟩) := by obtain ⟨j0, j1, j2, j3, j4, j5, j6, j7, j8, j9, j10, j11, e0, e1, e2, e3, e4, e5⟩ := HJ.out; exact (j7 p7)
            obtain ⟨y0, y1, y2, y3⟩ : RcAt x g1 (k * 4) sr := by obtain ⟨j0, j1, j2, j3, j4, j5, j6, j7, j8, j9, j10, j11, e0, e1, e2, e3, e4, e5⟩ := HJ.out; exact (HAT.out _ e0).2
            have HN : Hid (JZH w2 B g oo g1 n k m cap cp cu ou sx sr F (fun j => if j = 8 then true else b j) u6 u22 u23 u24 u25 u26 u27 u28 (.pointer (some ⟨g1, k * 4, none⟩)) (.agg #[.int .i64 sr.x, .int .i64 sr.y, .int .i64 sr.w, .int .i64 sr.h]) u31 u32 x) := by
              obtain ⟨j0, j1, j2, j3, j4, j5, j6, j7, j8, j9, j10, j11, e0, e1, e2, e3, e4, e5⟩ := HJ.out
              exact ⟨j0, j1, j2, j3, j4, j5, j6, j7, fun _ => rfl, j9, j10, j11, e0, e1, e2, e3, e4, e5⟩
            clear HJ hpre
            go_simp
            exact hK _ _ ⟨u6, u22, u23, u24, u25, u26, u27, u28, _, _, u31, u32, rfl, HN⟩
          · injection (show some _ = some o from ho) with ho
            subst ho
            have p4 : b 4 = true := hpre 4 (by decide +kernel)
            obtain rfl : u26 = (Value.agg #[.int .u8 sx.k, .int .i64 sx.r.x, .int .i64 sx.r.y, .int .i64 sx.r.w, .int .i64 sx.r.h, .int .u8 sx.c.r, .int .u8 sx.c.g, .int .u8 sx.c.b, .int .u8 sx.c.a, .int .u8 sx.b.r, .int .u8 sx.b.g, .int .u8 sx.b.b, .int .u8 sx.b.a, .string sx.t, .int .i64 sx.n]) := by obtain ⟨j0, j1, j2, j3, j4, j5, j6, j7, j8, j9, j10, j11, e0, e1, e2, e3, e4, e5⟩ := HJ.out; exact (j4 p4)
            have p8 : b 8 = true := hpre 8 (by decide +kernel)
            obtain rfl : u30 = .agg #[.int .i64 sr.x, .int .i64 sr.y, .int .i64 sr.w, .int .i64 sr.h] := by obtain ⟨j0, j1, j2, j3, j4, j5, j6, j7, j8, j9, j10, j11, e0, e1, e2, e3, e4, e5⟩ := HJ.out; exact (j8 p8)
            have HN : Hid (∀ v31 x', Below x.heap.size x x' → OwR x.heap.size x' v31 (plc sx sr) → JZH w2 B g oo g1 n k m cap cp cu ou sx sr F (fun j => if j = 9 then true else b j) u6 u22 u23 u24 u25 ((Value.agg #[.int .u8 sx.k, .int .i64 sx.r.x, .int .i64 sx.r.y, .int .i64 sx.r.w, .int .i64 sx.r.h, .int .u8 sx.c.r, .int .u8 sx.c.g, .int .u8 sx.c.b, .int .u8 sx.c.a, .int .u8 sx.b.r, .int .u8 sx.b.g, .int .u8 sx.b.b, .int .u8 sx.b.a, .string sx.t, .int .i64 sx.n])) u27 u28 u29 (.agg #[.int .i64 sr.x, .int .i64 sr.y, .int .i64 sr.w, .int .i64 sr.h]) (v31) u32 x') := fun v31 x' hb hv => by
              obtain ⟨j0, j1, j2, j3, j4, j5, j6, j7, j8, j9, j10, j11, e0, e1, e2, e3, e4, e5⟩ := HJ.out.grow hb HSZ.out.2
              exact ⟨j0, j1, j2, j3, j4, j5, j6, j7, j8, (fun _ _ => ⟨lsr_own hv, own_nil hv⟩), j10, j11, e0, e1, e2, e3, e4, e5⟩
            clear HJ hpre
            go_simp
            refine (HPL.out _).mono ?_
            rintro e x' ⟨v31, rfl, hv, hb⟩
            exact hK _ _ ⟨u6, u22, u23, u24, u25, _, u27, u28, u29, _, _, u32, rfl, HN.out v31 x' hb hv⟩
          · injection (show some _ = some o from ho) with ho
            subst ho
            have p0 : b 0 = true := hpre 0 (by decide +kernel)
            have p9 : b 9 = true := hpre 9 (by decide +kernel)
            obtain rfl : u22 = .slice ou m cu := by obtain ⟨j0, j1, j2, j3, j4, j5, j6, j7, j8, j9, j10, j11, e0, e1, e2, e3, e4, e5⟩ := HJ.out; exact j0 p0
            have HS1 : Hid ((LsR x u31 (plc sx sr) ∧ NoNil u31) ∧ OwR B x (.slice ou m cu) F ∧ Below B w2 x) := by obtain ⟨j0, j1, j2, j3, j4, j5, j6, j7, j8, j9, j10, j11, e0, e1, e2, e3, e4, e5⟩ := HJ.out; exact ⟨j9 p9 hbi, e1 hbi, e0⟩
            have HN : Hid (∀ v32 x', OwR B x' v32 (F ++ plc sx sr) → Below B w2 x' → JZH w2 B g oo g1 n k m cap cp cu ou sx sr F (fun j => if j = 10 then true else b j) u6 (.slice ou m cu) u23 u24 u25 u26 u27 u28 u29 u30 u31 (v32) x') := fun v32 x' ho2 hb2 => by
              obtain ⟨j0, j1, j2, j3, j4, j5, j6, j7, j8, j9, j10, j11, e0, e1, e2, e3, e4, e5⟩ := HJ.out
              exact ⟨j0, j1, j2, j3, j4, j5, j6, j7, j8, (fun _ h => absurd h (by simp)), (fun _ => ho2), (fun h => absurd (hbi.symm.trans (e5 h)) (by decide)), hb2, (fun h => absurd h (by simp)), e2, e3, (fun _ => p0), (fun h => absurd (hbi.symm.trans (e5 h)) (by decide))⟩
            clear HJ hpre
            refine step_appR rfl _ _ rfl i0 Tryz.underlying25 HI.out.1 HI.out.2.1 HI.out.2.2.1 HI.out.2.2.2 B (.slice ou m cu) F rfl HS1.out.2.1 HSZ.out.1 (Nat.le_trans HSZ.out.2 HS1.out.2.2.size) (plc sx sr) u31 rfl HS1.out.1.1 HS1.out.1.2 HLN.out ?_
            intro v32 x' h1 h2
            exact hK _ _ ⟨u6, _, u23, u24, u25, u26, u27, u28, u29, u30, u31, _, rfl, HN.out v32 x' h1 (HS1.out.2.2.grown h2 (Nat.le_trans HSZ.out.2 HS1.out.2.2.size) (fun g hg => (row_lt HS1.out.2.1 g hg).1))⟩
          · injection (show some _ = some o from ho) with ho
            subst ho
            have p10 : b 10 = true := hpre 10 (by decide +kernel)
            have HN : Hid (JZH w2 B g oo g1 n k m cap cp cu ou sx sr F (fun j => if j = 11 then true else b j) (u32) u22 u23 u24 u25 u26 u27 u28 u29 u30 u31 u32 x) := by
              obtain ⟨j0, j1, j2, j3, j4, j5, j6, j7, j8, j9, j10, j11, e0, e1, e2, e3, e4, e5⟩ := HJ.out
              exact ⟨j0, j1, j2, j3, j4, j5, j6, j7, j8, j9, j10, (fun _ => rfl), e0, e1, (fun h => absurd h (by simp)), (fun _ => e4 p10), e4, (fun _ => p10)⟩
            clear HJ hpre
            go_simp
            exact hK _ _ ⟨_, u22, u23, u24, u25, u26, u27, u28, u29, u30, u31, u32, rfl, HN⟩
        · rintro b a x ⟨u6, u22, u23, u24, u25, u26, u27, u28, u29, u30, u31, u32, rfl, HJ⟩ hall
          have HRel : Hid (OwR B x u6 (plA (A.take (k + 1))) ∧ Below B w2 x) := by
            obtain ⟨j0, j1, j2, j3, j4, j5, j6, j7, j8, j9, j10, j11, e0, e1, e2, e3, e4, e5⟩ := HJ.out
            rw [HP.out.2.1, plA_snoc, ← HFm.out.1, ← HXR.out.1, ← HXR.out.2, j11 (hall 11 (by decide))]
            exact ⟨j10 (hall 10 (by decide)), e0⟩
          clear HJ hall HK2
          go_wp2
          go_roundw
          case rel => exact ⟨k + 1, by go_num, by omega, HRel⟩
          case measure => simp [intOf]; omega
      · obtain rfl : k = n := by omega
        have HF : Hid (OwR B wr u6 (plA A) ∧ Below B w2 wr) := by
          obtain ⟨a1, a2⟩ := HK.out
          rw [← HLen.out, List.take_length] at a1
          exact ⟨a1, a2⟩
        clear HK
        go_wp2_with fail
        refine (dof_any (plA A) _ wr (lsr_own HF.out.1)).mono ?_
        rintro e w9 ⟨u, rfl, hu, hb9⟩
        have HFin : Hid (w9.ownsRow w.heap.size 44 4 u R1.length (flat R1) ∧ Below w.heap.size w w9) := by
          rw [HE.out.1]
          have b1 := HF.out.2
          rw [HB.out] at b1
          have b2 : Below w.heap.size w wr := HBw.out.trans (b1.mono HBw.out.size)
          exact ⟨row_weaken hu b2.size, b2.trans (hb9.mono b2.size)⟩
        have HR2 : Hid (R2 = ansE (lisE (plA A)) (formF false (plA A) [])) := HE.out.2
        clear hu hb9 HF
        go_wp2
        go_ret2
        refine ⟨u, ?_, HFin.out⟩
        rw [HR2.out]
        rfl

end Go.Proofs.YtbghjmkgicdnoaaGreat
