/-
  Texts of this claim, one behind the other: what each is about stands ahead of it.
-/
import Derived.Test.YtapachlhdgehjaaGreatDoorK52
/-
  Package cells: runs in memory; runsMayBe of runs that may be.
-/
namespace Go.Proofs.YtapachlhdgehjaaGreatDoor
open Go.RowKit Go.Shelf Go.Lib

def RuAt (w : World) (g p : Nat) (q : Ru × Value) : Prop := w.cell? ⟨g, p, none⟩ = some (.int .i64 q.1.x) ∧ w.cell? ⟨g, p + 1, none⟩ = some (.int .i64 q.1.y) ∧ w.cell? ⟨g, p + 2, none⟩ = some q.2
theorem RuAt.kept {w w' : World} {g p : Nat} {q : Ru × Value} (h : RuAt w g p q) (k : ∀ o, w'.cell? ⟨g, o, none⟩ = w.cell? ⟨g, o, none⟩) : RuAt w' g p q := ⟨(k _).trans h.1, (k _).trans h.2.1, (k _).trans h.2.2⟩
def LsU (w : World) (v : Value) (R : List (Ru × Value)) : Prop := (∀ p ∈ R, LsC w p.2 p.1.cs) ∧ ∃ oa cap, v = .slice oa R.length cap ∧ (0 < R.length → ∃ g o, oa = some ⟨g, o, none⟩ ∧ g < w.heap.size ∧ ∀ i (h : i < R.length), RuAt w g (o + i * 3) R[i])
theorem LsU.below {w w' : World} {v : Value} {R : List (Ru × Value)} (h : LsU w v R) (hb : Below w.heap.size w w') : LsU w' v R := by
  obtain ⟨h1, oa, cap, e, hg⟩ := h
  refine ⟨fun p hp => (h1 p hp).below hb, oa, cap, e, fun hp => ?_⟩
  obtain ⟨g, o, e1, g1, g2⟩ := hg hp
  exact ⟨g, o, e1, Nat.lt_of_lt_of_le g1 hb.size, fun i hi => (g2 i hi).kept fun j => hb.cell (p := ⟨g, j, none⟩) g1⟩
theorem flatU_at : ∀ (R : List (Ru × Value)) (k : Nat) (h : k < R.length), (flatU R)[k * 3]? = some (.int .i64 R[k].1.x) ∧ (flatU R)[k * 3 + 1]? = some (.int .i64 R[k].1.y) ∧ (flatU R)[k * 3 + 2]? = some R[k].2
  | [], k, h => by simp at h
  | p :: t, 0, _ => by
    show ([_, _, _] ++ flatU t)[0 * 3]? = _ ∧ ([_, _, _] ++ flatU t)[0 * 3 + 1]? = _ ∧ ([_, _, _] ++ flatU t)[0 * 3 + 2]? = _
    simp
  | p :: t, k + 1, h => by
    have ih := flatU_at t k (by simpa using h)
    show ([_, _, _] ++ flatU t)[(k + 1) * 3]? = _ ∧ ([_, _, _] ++ flatU t)[(k + 1) * 3 + 1]? = _ ∧ ([_, _, _] ++ flatU t)[(k + 1) * 3 + 2]? = _
    rw [show (k + 1) * 3 = k * 3 + 3 by omega, show k * 3 + 3 + 1 = (k * 3 + 1) + 3 by omega, show k * 3 + 3 + 2 = (k * 3 + 2) + 3 by omega]
    simpa using ih
theorem UnM.lsu {w0 : World} {R : List (Ru × Value)} {u : Value} {w : World} (h : UnM w0 R u w) : LsU w u R := by
  refine ⟨fun p hp => (h.c p hp).lsc, ?_⟩
  obtain ⟨hl, ⟨rfl, e0⟩ | ⟨g, cap, cur, rfl, hb, hc, h1, h2, h3, h4⟩⟩ := id h.o
  · exact ⟨none, 0, by rw [e0], fun hp => by omega⟩
  · refine ⟨_, cap, rfl, fun _ => ⟨g, 0, rfl, (Array.getElem?_eq_some_iff.1 hc).1, fun i hi => ?_⟩⟩
    obtain ⟨f1, f2, f3⟩ := flatU_at R i hi
    rw [Nat.zero_add]
    exact ⟨(own_cell h.o (i * 3) (by omega)).trans f1, (own_cell h.o (i * 3 + 1) (by omega)).trans f2, (own_cell h.o (i * 3 + 2) (by omega)).trans f3⟩

def okRu (q : Ru) : Prop := plB 16384 16384 q.x q.y = true ∧ q.cs ≠ [] ∧ okCs q.cs = true ∧ q.cs.length ≤ 300000

set_option maxRecDepth 20000 in
set_option maxHeartbeats 4000000 in
theorem rbad_any (x y : Int) (ad : Option Addr) (n cap : Nat) (cs : List Ce) (g : Nat) (w : World) (hv : LsC w (.slice ad n cap) cs) (hn : n = cs.length) (hn0 : 0 < n) (hn2 : n ≤ 300000) (ho : okCs cs = true) (hp : plB 16384 16384 x y = true) (hg : Bk w g #[.int .i64 16384, .int .i64 16384] 23) (T : Tabs w) :
    Calls Tryz.prog 79 #[.agg #[.int .i64 x, .int .i64 y, .slice ad n cap], .pointer (some ⟨g, 0, none⟩)] w fun e w' => e = .returned (.bool false) ∧ Below w.heap.size w w' := by
  have H0 : Hid (∀ W, W = w.alloc (.cells #[.int .i64 x, .int .i64 y, .slice ad n cap] 63) → Bk W w.heap.size #[.int .i64 x, .int .i64 y, .slice ad n cap] 63 ∧ Bk W g #[.int .i64 16384, .int .i64 16384] 23 ∧ Below w.heap.size w W) := fun W hW => by
    subst hW
    exact ⟨Bk.new _ _ _, hg.below ((Below.refl _ _).alloc (Nat.le_refl _) _), (Below.refl _ w).alloc (Nat.le_refl _) _⟩
  have HPl : Hid (∀ W, Calls Tryz.prog 80 #[.agg #[.int .i64 16384, .int .i64 16384], .agg #[.int .i64 x, .int .i64 y]] W fun e w' => e = .returned (.bool true) ∧ Below W.heap.size W w') := fun W => by
    have := place_any 16384 16384 x y W
    rw [hp] at this
    exact this
  have HOk : Hid (∀ W, Below w.heap.size w W → Calls Tryz.prog 54 #[.slice ad n cap] W fun e w' => e = .returned (.bool true) ∧ Below W.heap.size W w') := fun W h => by
    have := cellsOk_any cs _ W (hv.below h) (by omega) (T.below h)
    rw [ho] at this
    exact this
  have hnz : ((n : Int) == 0) = false := by simp; omega
  have g0 := (Bk.at2 (H0.out _ rfl).2.1).1
  have g1 := (Bk.at2 (H0.out _ rfl).2.1).2
  clear hv hn ho hp hg T
  go_enter Tryz.func79, Tryz.ntmps79
  go_wp2_with fail
  obtain ⟨W1, hW1⟩ : ∃ W1, W1 = w.alloc (.cells #[.int .i64 x, .int .i64 y, .slice ad n cap] 63) := ⟨_, rfl⟩
  obtain ⟨sb, hsb⟩ : ∃ sb, sb = w.heap.size := ⟨_, rfl⟩
  have H1 : Hid (Bk W1 sb #[.int .i64 x, .int .i64 y, .slice ad n cap] 63 ∧ Below w.heap.size w W1) := by rw [hsb]; exact ⟨(H0.out W1 hW1).1, (H0.out W1 hW1).2.2⟩
  rw [← hW1, ← hsb]
  clear hW1 hsb H0 g0 g1
  refine (HPl.out _).mono ?_
  rintro e W2 ⟨rfl, hb2⟩
  have H2 : Hid (Bk W2 sb #[.int .i64 x, .int .i64 y, .slice ad n cap] 63 ∧ Below w.heap.size w W2) := ⟨H1.out.1.below hb2, H1.out.2.trans (hb2.mono H1.out.2.size)⟩
  clear hb2 H1 HPl
  obtain ⟨r0, r1, r2⟩ := Bk.at3S H2.out.1
  go_wp2_with fail
  refine (HOk.out _ H2.out.2).mono ?_
  rintro e W3 ⟨rfl, hb3⟩
  have H3 : Hid (Below w.heap.size w W3) := H2.out.2.trans (hb3.mono H2.out.2.size)
  clear hb3 H2 HOk r0 r1 r2
  go_wp2
  go_ret
  exact ⟨rfl, H3.out⟩

set_option maxRecDepth 20000 in
set_option maxHeartbeats 4000000 in
theorem ridx_any (F : Nat) (z : Value) (R : List (Ru × Value)) (v : Value) (w : World) (hv : LsU w v R) (eg : ∀ args w, (callFunc F args).run Tryz.prog w = .ok (.enter F args) w)
    (hC : ∀ p ∈ R, ∀ W, Below w.heap.size w W → Calls Tryz.prog F #[.agg #[.int .i64 p.1.x, .int .i64 p.1.y, p.2], z] W fun e w' => e = .returned (.bool false) ∧ Below W.heap.size W w') (hl : R.length < 1000000) :
    Calls Tryz.prog 114 #[v, .func (.func F) #[] #[z]] w fun e w' => e = .returned (.int .i64 (-1)) ∧ Below w.heap.size w w' := by
  obtain ⟨hcs, oa, cap, rfl, hg⟩ := hv
  have HG : Hid (0 < R.length → ∃ g o, oa = some ⟨g, o, none⟩ ∧ g < w.heap.size ∧ ∀ i (h : i < R.length), RuAt w g (o + i * 3) R[i]) := hg
  have HC : Hid (∀ p ∈ R, ∀ W, Below w.heap.size w W → Calls Tryz.prog F #[.agg #[.int .i64 p.1.x, .int .i64 p.1.y, p.2], z] W fun e w' => e = .returned (.bool false) ∧ Below W.heap.size W w') := hC
  clear hg hC hcs
  go_enter Tryz.func114, Tryz.ntmps114
  go_wp2_with fail
  go_loopw [8] (fun i wr => ∃ k : Nat, k ≤ R.length ∧ i = .int .i64 k ∧ Hid (Below w.heap.size w wr)) (fun i _ => R.length - (RowKit.intOf i).toNat)
  case atStart => exact ⟨0, Nat.zero_le _, rfl, Below.refl _ _⟩
  case round =>
    obtain ⟨k, hk, rfl, HK⟩ := hrel
    by_cases hlt : k < R.length
    · have ik : (k : Int) < R.length := by omega
      obtain ⟨g, o, rfl, hg, hat⟩ := HG.out (by omega)
      obtain ⟨x0, x1, x2⟩ := (hat k hlt).kept (w' := wr) fun j => HK.out.cell (p := ⟨g, j, none⟩) hg
      have HX2 : Hid (Calls Tryz.prog F #[.agg #[.int .i64 R[k].1.x, .int .i64 R[k].1.y, R[k].2], z] wr fun e w' => e = .returned (.bool false) ∧ Below wr.heap.size wr w') := HC.out R[k] (List.getElem_mem hlt) wr HK.out
      clear hat
      generalize R[k] = q at *
      obtain ⟨⟨qx, qy, qc⟩, qv⟩ := q
      simp only at x0 x1 x2 HX2
      go_wp2_with fail
      refine HX2.out.mono ?_
      rintro e w1 ⟨rfl, hb1⟩
      have HRel : Hid (Below w.heap.size w w1) := HK.out.trans (hb1.mono HK.out.size)
      clear hb1
      go_wp2
      exact ⟨⟨k + 1, by omega, by go_num, HRel⟩, by simp [RowKit.intOf]; omega⟩
    · obtain rfl : k = R.length := by omega
      have HE2 : Hid (Below w.heap.size w wr) := HK
      clear HK
      go_wp2
      go_ret
      exact ⟨rfl, HE2.out⟩

set_option maxRecDepth 20000 in
set_option maxHeartbeats 4000000 in
theorem runsmay_any (R : List (Ru × Value)) (v : Value) (w : World) (hv : LsU w v R) (ho : ∀ p ∈ R, okRu p.1) (hl : R.length < 1000000) (T : Tabs w) :
    Calls Tryz.prog 50 #[v] w fun e w' => e = .returned (.bool true) ∧ Below w.heap.size w w' := by
  have eg := fun args (w : World) => enters_of (P := Tryz.prog) Tryz.func79 (by kernel_rfl) rfl args w
  have eg2 := fun args (w : World) => enters_of (P := Tryz.prog) Tryz.func114 (by kernel_rfl) rfl args w
  have HI : Hid (∀ W, W = w.alloc (.cells #[.int .i64 16384, .int .i64 16384] 23) → Below w.heap.size w W ∧ Calls Tryz.prog 114 #[v, .func (.func 79) #[] #[.pointer (some ⟨w.heap.size, 0, none⟩)]] W fun e w' => e = .returned (.int .i64 (-1)) ∧ Below W.heap.size W w') := fun W hW => by
    have hb : Below w.heap.size w W := by rw [hW]; exact (Below.refl _ w).alloc (Nat.le_refl _) _
    have hg : Bk W w.heap.size #[.int .i64 16384, .int .i64 16384] 23 := by rw [hW]; exact Bk.new _ _ _
    refine ⟨hb, ridx_any 79 (.pointer (some ⟨w.heap.size, 0, none⟩)) R v W (hv.below hb) eg (fun p hp W' hW' => ?_) hl⟩
    obtain ⟨o1, o2, o3, o4⟩ := ho p hp
    obtain ⟨oa, cap, e, hc, hgg⟩ := hv.1 p hp
    have h1 := (hv.1 p hp).below (hb.trans (hW'.mono hb.size))
    rw [e] at h1 ⊢
    exact rbad_any p.1.x p.1.y oa p.1.cs.length cap p.1.cs w.heap.size W' h1 rfl (by have := List.length_pos_iff.2 o2; omega) o4 o3 o1 (hg.below hW') (T.below (hb.trans (hW'.mono hb.size)))
  have hvf : ∃ oa n cap, v = .slice oa n cap := by
    obtain ⟨_, oa, cap, e, _⟩ := hv
    exact ⟨oa, _, cap, e⟩
  obtain ⟨oa, n, cap, rfl⟩ := hvf
  clear hv ho hl T
  have HCt : Hid (∀ W, W = w.alloc (.cells #[.int .i64 16384, .int .i64 16384] 23) → Calls Tryz.prog 81 #[.slice oa n cap, .func (.func 79) #[] #[.pointer (some ⟨w.heap.size, 0, none⟩)]] W fun e w' => e = .returned (.bool false) ∧ Below w.heap.size w w') := fun W hW => by
    obtain ⟨h1, h2⟩ := HI.out W hW
    have H2 : Hid (Calls Tryz.prog 114 #[.slice oa n cap, .func (.func 79) #[] #[.pointer (some ⟨w.heap.size, 0, none⟩)]] W fun e w' => e = .returned (.int .i64 (-1)) ∧ Below W.heap.size W w') := h2
    have H1 : Hid (Below w.heap.size w W) := h1
    obtain ⟨sb, hsb⟩ : ∃ sb, sb = w.heap.size := ⟨_, rfl⟩
    rw [← hsb] at H2
    rw [← hsb]
    have H1' : Hid (Below sb w W) := by unfold Hid; rw [hsb]; exact H1.out
    clear h1 h2 HI hW H1 eg eg2
    have HS : Hid (sb = w.heap.size) := hsb
    clear hsb
    go_enter Tryz.func81, Tryz.ntmps81
    go_wp2_with fail
    refine H2.out.mono ?_
    rintro e w1 ⟨rfl, hb1⟩
    have H3 : Hid (Below sb w w1) := H1'.out.trans (hb1.mono (by have h1 := H1'.out.size; have h2 := HS.out; omega))
    clear hb1 H1' H2
    go_wp2
    go_ret
    exact ⟨rfl, H3.out⟩
  clear HI eg eg2
  go_enter Tryz.func50, Tryz.ntmps50
  go_wp2_with fail
  refine (HCt.out _ rfl).mono ?_
  rintro e w1 ⟨rfl, hb1⟩
  have H3 : Hid (Below w.heap.size w w1) := hb1
  clear hb1 HCt
  go_wp2
  go_ret
  exact ⟨rfl, H3.out⟩

end Go.Proofs.YtapachlhdgehjaaGreatDoor

/-
  Package cells: Escapes of runs that may be, whose text is not too long.
-/
namespace Go.Proofs.YtapachlhdgehjaaGreatDoor
open Go.RowKit Go.Shelf Go.Lib

def escS (R : List Ru) (st : Co × Co) : Nat → List UInt8 × (Co × Co)
  | 0 => ([], st)
  | k + 1 => ((escS R st k).1 ++ runB (escS R st k).2 (R.getD k ⟨0, 0, []⟩), runT (escS R st k).2 (R.getD k ⟨0, 0, []⟩))
theorem escS_mono (R : List Ru) (st : Co × Co) {k m : Nat} (h : k ≤ m) : (escS R st k).1.length ≤ (escS R st m).1.length := by
  induction m with
  | zero => obtain rfl : k = 0 := by omega
            exact Nat.le_refl _
  | succ m ih =>
    by_cases e : k = m + 1
    · subst e; exact Nat.le_refl _
    · have := ih (by omega)
      simp only [escS, List.length_append]
      omega
theorem seqB_pos (q : UInt8) (ns : List Int) : seqB q ns ≠ [] := by simp [seqB]

set_option maxRecDepth 20000 in
set_option maxHeartbeats 8000000 in
theorem esc_ok (R : List (Ru × Value)) (v : Value) (w : World) (hv : LsU w v R) (ho : ∀ p ∈ R, okRu p.1 ∧ ∀ c ∈ p.1.cs, TeC c) (hl : R.length ≤ 262144) (h0 : 0 < R.length) (hfit : (escS (R.map Prod.fst) (coZ, coZ) R.length).1.length ≤ 1048576) (T : Tabs w) (P : PwC w.heap.size w) :
    Calls Tryz.prog 24 #[v] w fun e w' => e = .returned (.tuple #[.string ⟨(escS (R.map Prod.fst) (coZ, coZ) R.length).1.toArray⟩, .int .i64 0]) ∧ Below w.heap.size w w' := by
  obtain ⟨Q, hQ⟩ : ∃ Q, Q = R.map Prod.fst := ⟨_, rfl⟩
  have HM : Hid (∀ W, Below w.heap.size w W → LsU W v R ∧ Tabs W) := fun W h => ⟨hv.below h, T.below h⟩
  have HMay : Hid (Calls Tryz.prog 50 #[v] w fun e w' => e = .returned (.bool true) ∧ Below w.heap.size w w') := runsmay_any R v w hv (fun p hp => (ho p hp).1) (by omega) T
  have HP : Hid (PwC w.heap.size w) := P
  have HGet : Hid (∀ k (h : k < R.length), Q.getD k ⟨0, 0, []⟩ = (R[k]).1) := fun k h => by rw [hQ]; simp [List.getD, h]
  have HLn : Hid (∀ k, k ≤ R.length → (escS Q (coZ, coZ) k).1.length ≤ 1048576) := fun k hk => by
    have := escS_mono (R.map Prod.fst) (coZ, coZ) hk
    rw [hQ]
    omega
  have HNe : Hid ((escS Q (coZ, coZ) R.length).1 ≠ []) := by
    obtain ⟨m, hm⟩ : ∃ m, R.length = m + 1 := ⟨R.length - 1, by omega⟩
    rw [hm]
    unfold Hid escS runB
    simp [seqB_pos]
  have HOk : Hid (∀ k (h : k < R.length), okRu (R[k]).1 ∧ ∀ c ∈ (R[k]).1.cs, TeC c) := fun k h => ho _ (List.getElem_mem h)
  rw [← hQ]
  obtain ⟨hcs, oa, cap, rfl, hg⟩ := id hv
  have HCs : Hid (∀ p ∈ R, LsC w p.2 p.1.cs) := hcs
  obtain ⟨n, hn⟩ : ∃ n, n = R.length := ⟨_, rfl⟩
  have HG : Hid (0 < n → ∃ g o, oa = some ⟨g, o, none⟩ ∧ g < w.heap.size ∧ ∀ i (h : i < R.length), RuAt w g (o + i * 3) R[i]) := fun h => hg (by omega)
  rw [← hn] at HMay hl HNe ⊢
  have HN : Hid (n = R.length) := hn
  have HRun : Hid (∀ (k : Nat) (b : Nat) (hk : k < R.length) W, IsBd 100 (rsT (escS Q (coZ, coZ) k).2.1 (escS Q (coZ, coZ) k).2.2) w.heap.size b (Lib.byteCells (escS Q (coZ, coZ) k).1) W → Below w.heap.size w W → Calls Tryz.prog 51 #[.pointer (some ⟨b, 0, none⟩), .agg #[.int .i64 (R[k]).1.x, .int .i64 (R[k]).1.y, (R[k]).2]] W fun e w' => e = .returned (.tuple #[]) ∧ TlW w.heap.size b (escS Q (coZ, coZ) (k + 1)).2 (escS Q (coZ, coZ) (k + 1)).1 W w') := fun k b hk W hI hW => by
    obtain ⟨⟨o1, o2, o3, o4⟩, o5⟩ := ho _ (List.getElem_mem hk)
    obtain ⟨ad, cp, e, hc, hgg⟩ := hcs _ (List.getElem_mem hk)
    have h1 := hcs _ (List.getElem_mem hk)
    rw [e] at h1 ⊢
    obtain ⟨p1, p2, p3, p4⟩ := plB_iff.1 o1
    have hgk : Q.getD k ⟨0, 0, []⟩ = (R[k]).1 := by rw [hQ]; simp [List.getD, hk]
    have hf : ((escS Q (coZ, coZ) k).1 ++ runB (escS Q (coZ, coZ) k).2 (R[k]).1).length ≤ 1048576 := by
      have := HLn.out (k + 1) (by omega)
      simp only [escS, hgk] at this
      exact this
    have := trun_any w b (escS Q (coZ, coZ) k).1 (escS Q (coZ, coZ) k).2 (R[k]).1.x (R[k]).1.y (R[k]).1.cs ad _ cp W hI hW h1 rfl o4 o5 ⟨p1, by omega⟩ ⟨p3, by omega⟩ hf (P.on hW)
    rw [show (escS Q (coZ, coZ) (k + 1)) = ((escS Q (coZ, coZ) k).1 ++ runB (escS Q (coZ, coZ) k).2 (R[k]).1, runT (escS Q (coZ, coZ) k).2 (R[k]).1) by simp only [escS, hgk]]
    exact this
  clear hv ho hfit T P hcs hg hn h0 hQ
  go_enter Tryz.func24, Tryz.ntmps24
  go_wp2_with fail
  refine HMay.out.mono ?_
  rintro e W1 ⟨rfl, hb1⟩
  have H1 : Hid (∀ W, W = W1.alloc (.cells #[.pointer none, .slice none 0 0, .int .u8 0, .int .u8 0, .int .u8 0, .int .u8 0, .int .u8 0, .int .u8 0, .int .u8 0, .int .u8 0] 100) → TlW w.heap.size W1.heap.size (escS Q (coZ, coZ) 0).2 (escS Q (coZ, coZ) 0).1 w W) := fun W hW => by
    subst hW
    exact ⟨.inl ⟨hb1.size, _, Bk.new W1 _ _, World.ownsRowF_nil _ _ _ _, by simp [Value.ownBlock]⟩, KpD.of_below (Nat.le_refl _) (hb1.alloc hb1.size _), by simp; have := hb1.size; omega⟩
  clear hb1 HMay HM
  go_wp2_with fail
  obtain ⟨W2, hW2⟩ : ∃ W2, W2 = W1.alloc (.cells #[.pointer none, .slice none 0 0, .int .u8 0, .int .u8 0, .int .u8 0, .int .u8 0, .int .u8 0, .int .u8 0, .int .u8 0, .int .u8 0] 100) := ⟨_, rfl⟩
  obtain ⟨b, hb⟩ : ∃ b, b = W1.heap.size := ⟨_, rfl⟩
  have H2 : Hid (TlW w.heap.size b (escS Q (coZ, coZ) 0).2 (escS Q (coZ, coZ) 0).1 w W2) := by rw [hb]; exact H1.out W2 hW2
  rw [← hW2, ← hb]
  clear hW2 hb H1
  go_loopw [15] (fun i wr => ∃ k : Nat, k ≤ n ∧ i = .int .i64 k ∧ Hid (TlW w.heap.size b (escS Q (coZ, coZ) k).2 (escS Q (coZ, coZ) k).1 w wr)) (fun i _ => n - (RowKit.intOf i).toNat)
  case atStart => exact ⟨0, Nat.zero_le _, rfl, H2⟩
  case round =>
    obtain ⟨k, hk, rfl, HK⟩ := hrel
    clear H2
    by_cases hlt : k < n
    · have ik : (k : Int) < n := by omega
      have hkR : k < R.length := by have := HN.out; omega
      obtain ⟨g, o, rfl, hg, hat⟩ := HG.out (by omega)
      obtain ⟨x0, x1, x2⟩ := (hat k hkR).kept (w' := wr) fun j => HK.out.kp.bw.cell (p := ⟨g, j, none⟩) hg
      obtain ⟨ad, cp, e2, hq1, hq2⟩ := HCs.out _ (List.getElem_mem hkR)
      clear hq1 hq2
      rw [e2] at x2
      have HR1 : Hid (∀ W, IsBd 100 (rsT (escS Q (coZ, coZ) k).2.1 (escS Q (coZ, coZ) k).2.2) w.heap.size b (Lib.byteCells (escS Q (coZ, coZ) k).1) W → Below w.heap.size w W → Calls Tryz.prog 51 #[.pointer (some ⟨b, 0, none⟩), .agg #[.int .i64 (R[k]).1.x, .int .i64 (R[k]).1.y, .slice ad (R[k]).1.cs.length cp]] W fun e w' => e = .returned (.tuple #[]) ∧ TlW w.heap.size b (escS Q (coZ, coZ) (k + 1)).2 (escS Q (coZ, coZ) (k + 1)).1 W w') := fun W h1 h2 => by
        have := HRun.out k b hkR W h1 h2
        rw [e2] at this
        exact this
      have HFu : Hid (∀ W, TlW w.heap.size b (escS Q (coZ, coZ) (k + 1)).2 (escS Q (coZ, coZ) (k + 1)).1 w W → Calls Tryz.prog 52 #[.pointer (some ⟨b, 0, none⟩)] W fun e w' => e = .returned (.bool false) ∧ w' = W) := fun W hW => by
        have h1 := full_any w.heap.size b _ _ W hW.bd
        rw [show decide (1048576 < (escS Q (coZ, coZ) (k + 1)).1.length) = false by have := HLn.out (k + 1) (by omega); simp only [decide_eq_false_iff_not]; omega] at h1
        exact h1
      clear hat e2
      generalize (R[k]).1.x = qx at *
      generalize (R[k]).1.y = qy at *
      generalize (R[k]).1.cs.length = qn at *
      have H3 : Hid (∀ W, W = wr.alloc (.cells #[.int .i64 qx, .int .i64 qy, .slice ad qn cp] 63) → TlW w.heap.size b (escS Q (coZ, coZ) k).2 (escS Q (coZ, coZ) k).1 w W) := fun W hW => by rw [hW]; exact HK.out.bel ((Below.refl _ _).alloc (Nat.le_refl _) _)
      go_wp2_with fail
      refine (HR1.out _ (H3.out _ rfl).bd (H3.out _ rfl).kp.bw).mono ?_
      rintro e W4 ⟨rfl, h4⟩
      have H4 : Hid (TlW w.heap.size b (escS Q (coZ, coZ) (k + 1)).2 (escS Q (coZ, coZ) (k + 1)).1 w W4) := (H3.out _ rfl).then h4
      clear h4 H3 HK x0 x1 x2 HR1
      go_wp2_with fail
      refine (HFu.out _ H4.out).mono ?_
      rintro e W5 ⟨rfl, hW5⟩
      obtain rfl := hW5.symm
      clear HFu
      go_wp2
      exact ⟨⟨k + 1, by omega, by go_num, H4⟩, by simp [RowKit.intOf]; omega⟩
    · obtain rfl : k = n := by omega
      go_wp2_with fail
      refine (dString_any 100 _ w.heap.size b (escS Q (coZ, coZ) k).1 _ HK.out.bd HNe.out).mono ?_
      rintro e W4 ⟨rfl, hb4⟩
      have HF : Hid (Below w.heap.size w W4) := HK.out.kp.bw.trans hb4
      clear hb4 HK
      go_wp2
      go_ret2
      exact ⟨rfl, HF.out⟩

end Go.Proofs.YtapachlhdgehjaaGreatDoor

/-
  Package cells: number.
-/
namespace Go.Proofs.YtapachlhdgehjaaGreatDoor
open Go.RowKit

def bA (q : ByteArray) (d : Nat) : Nat := (q.data.toList.getD d 0).toNat
theorem bA_at {q : ByteArray} {d : Nat} (h : d < q.size) : bA q d = (q[d]).toNat := by
  have h' : d < q.data.toList.length := by simpa using h
  unfold bA
  rw [List.getD_eq_getElem?_getD, List.getElem?_eq_getElem h']
  rfl
def nmF (q : ByteArray) : Nat → Nat → Int → Int × Nat
  | 0, d, n => (n, d)
  | f + 1, d, n => if d < q.size ∧ 48 ≤ bA q d ∧ bA q d ≤ 57 then
      (if 16384 < 10 * n + ((bA q d : Int) - 48) ∨ (1 < d + 1 ∧ bA q 0 = 48) then (0, 0) else nmF q f (d + 1) (10 * n + ((bA q d : Int) - 48)))
    else (n, d)
def nmA (q : ByteArray) : Int × Nat := nmF q (q.size + 1) 0 0

set_option maxRecDepth 20000 in
set_option maxHeartbeats 4000000 in
theorem num_cells (q : ByteArray) (w : World) (hq : q.size ≤ 9223372036854775806) : Calls Tryz.prog 152 #[.string q] w fun e w' => e = .returned (.tuple #[.int .i64 (nmA q).1, .int .i64 (nmA q).2]) ∧ w' = w := by
  obtain ⟨Z, hZ⟩ : ∃ Z, Z = nmA q := ⟨_, rfl⟩
  have HZ : Hid (Z = nmF q (q.size + 1) 0 0) := hZ
  rw [← hZ]
  clear hZ
  go_enter Tryz.func152, Tryz.ntmps152
  go_wp2_with fail
  go_loopw [4, 5] (fun na i wr => ∃ (n : Int) (d f : Nat), na = .int .i64 n ∧ 0 ≤ n ∧ n ≤ 16384 ∧ d ≤ q.size ∧ i = .int .i64 d ∧ wr = w ∧ Hid (Z = nmF q (f + 1) d n ∧ q.size ≤ f + d)) (fun _ i _ => q.size - (RowKit.intOf i).toNat)
  case atStart => exact ⟨0, 0, q.size, rfl, by omega, by omega, Nat.zero_le _, rfl, rfl, HZ.out, by omega⟩
  case round =>
    obtain ⟨n, d, f, rfl, hn0, hn1, hd, rfl, rfl, HK⟩ := hrel
    clear HZ
    by_cases hlt : d < q.size
    · have id_ : (d : Int) < q.size := by omega
      have eb := bA_at hlt
      have e0 : bA q 0 = (q[0]'(by omega)).toNat := bA_at (by omega)
      have hcb := UInt8.toNat_lt q[d]
      by_cases hdg : 48 ≤ (q[d]).toNat ∧ (q[d]).toNat ≤ 57
      · obtain ⟨g1, g2⟩ := hdg
        have HSt : Hid (Z = if 16384 < 10 * n + (((q[d]).toNat : Int) - 48) ∨ (1 < d + 1 ∧ (q[0]'(by omega)).toNat = 48) then (0, 0) else nmF q f (d + 1) (10 * n + (((q[d]).toNat : Int) - 48))) := by
          have := HK.out.1
          rw [nmF, if_pos ⟨hlt, by rw [eb]; exact g1, by rw [eb]; exact g2⟩, eb, e0] at this
          exact this
        have hf := HK.out.2
        clear HK eb e0
        have k1 : (48 : Int) ≤ (q[d]).toNat := by omega
        have k2 : ((q[d]).toNat : Int) ≤ 57 := by omega
        have w1 : IntKind.u8.wrap (((q[d]).toNat : Int) - 48) = ((q[d]).toNat : Int) - 48 := by simp [IntKind.wrap, IntKind.bits, IntKind.signed]; omega
        by_cases hbig : 16384 < 10 * n + (((q[d]).toNat : Int) - 48)
        · have HZ0 : Hid (Z = (0, 0)) := by have := HSt.out; rw [if_pos (.inl hbig)] at this; exact this
          have hT : decide (16384 < 10 * n + (((q[d]).toNat : Int) - 48)) = true := by simp; omega
          clear HSt
          go_wp2
          go_ret2
          exact ⟨by rw [HZ0.out]; rfl, rfl⟩
        · have hT : decide (16384 < 10 * n + (((q[d]).toNat : Int) - 48)) = false := by simp; omega
          by_cases hd0 : d = 0
          · subst hd0
            have HN : Hid (Z = nmF q f (0 + 1) (10 * n + (((q[0]).toNat : Int) - 48))) := by have := HSt.out; rw [if_neg (by omega)] at this; exact this
            clear HSt
            obtain ⟨f', rfl⟩ : ∃ f', f = f' + 1 := ⟨f - 1, by omega⟩
            go_wp2
            exact ⟨⟨_, 0 + 1, f', rfl, by omega, by omega, by omega, by go_num, trivial, HN.out, by omega⟩, by simp [RowKit.intOf]; omega⟩
          · have hd1 : decide ((1 : Int) < (d : Int) + 1) = true := by simp; omega
            by_cases hz : (q[0]'(by omega)).toNat = 48
            · have HZ0 : Hid (Z = (0, 0)) := by have := HSt.out; rw [if_pos (.inr ⟨by omega, hz⟩)] at this; exact this
              clear HSt
              go_wp2
              go_ret2
              exact ⟨by rw [HZ0.out]; rfl, rfl⟩
            · have HN : Hid (Z = nmF q f (d + 1) (10 * n + (((q[d]).toNat : Int) - 48))) := by have := HSt.out; rw [if_neg (by omega)] at this; exact this
              have hz2 : (((q[0]'(by omega)).toNat : Int) == 48) = false := by simp; omega
              clear HSt
              obtain ⟨f', rfl⟩ : ∃ f', f = f' + 1 := ⟨f - 1, by omega⟩
              go_wp2
              exact ⟨⟨_, d + 1, f', rfl, by omega, by omega, by omega, by go_num, trivial, HN.out, by omega⟩, by simp [RowKit.intOf]; omega⟩
      · have HE : Hid (Z = (n, d)) := by
          have := HK.out.1
          rw [nmF, if_neg (by rw [eb]; rintro ⟨_, h1, h2⟩; exact hdg ⟨h1, h2⟩)] at this
          exact this
        clear HK eb e0
        by_cases g1 : 48 ≤ (q[d]).toNat
        · have k1 : (48 : Int) ≤ (q[d]).toNat := by omega
          have k2 : decide (((q[d]).toNat : Int) ≤ 57) = false := by simp; omega
          go_wp2
          go_ret2
          exact ⟨by rw [HE.out]; rfl, rfl⟩
        · have k1 : decide ((48 : Int) ≤ (q[d]).toNat) = false := by simp; omega
          go_wp2
          go_ret2
          exact ⟨by rw [HE.out]; rfl, rfl⟩
    · have HE : Hid (Z = (n, d)) := by
        have := HK.out.1
        rw [nmF, if_neg (by rintro ⟨h, _⟩; exact hlt h)] at this
        exact this
      obtain rfl : d = q.size := by omega
      clear HK
      go_wp2
      go_ret2
      exact ⟨by rw [HE.out]; rfl, rfl⟩

end Go.Proofs.YtapachlhdgehjaaGreatDoor
