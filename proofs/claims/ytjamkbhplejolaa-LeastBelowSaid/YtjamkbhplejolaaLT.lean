/-
  The statement TopLeast: its own keeps and turns, and its walk.
-/
import Derived.Test.YtjamkbhplejolaaLI
import Derived.Test.YtjamkbhplejolaaLP5
namespace Go.Proofs.Ytjamkbhplejolaa
open Go.RowKit

def inB (x : Int) : Bool := decide (0 ≤ x) && decide (x ≤ 1125899906842624)
def kbB (x : Nat → Int) (b : Bn) : Bool := decide (b.f ≤ x b.b - x b.a)
def kepB (xs : List Int) (L : List Bq) : Bool := xs.all inB && (nat L).all (kbB (atF xs))

set_option maxRecDepth 10000 in
set_option maxHeartbeats 4000000 in
theorem keeps_any (xs : List Int) (L : List Bq) (u v : Value) (w : World) (hu : IS w u xs) (hv : BS w v L) (hk : ∀ q ∈ L, okQ xs.length q = true) (hl : xs.length ≤ 4096) (hL : L.length ≤ 4096) :
    Calls Try.prog 26 #[u, v] w fun e w' => e = .returned (.bool (kepB xs L)) ∧ Below w.heap.size w w' := by
  obtain ⟨ox, cx, rfl, hcx, hgx⟩ := is_at hu
  have HX : Hid (0 < xs.length → ∃ g o, ox = some ⟨g, o, none⟩ ∧ g < w.heap.size ∧ ∀ i, i < xs.length → w.cell? ⟨g, o + i, none⟩ = some (.int .i64 (atF xs i))) := hgx
  obtain ⟨oa, cap, rfl, hc, hg⟩ := hv
  have HG : Hid (0 < L.length → ∃ g o, oa = some ⟨g, o, none⟩ ∧ g < w.heap.size ∧ ∀ i (h : i < L.length), BqAt w g (o + i * 3) L[i]) := hg
  have HK : Hid (∀ i (h : i < L.length), ∃ (A B : Nat) (f : Int), A < xs.length ∧ B < xs.length ∧ -1048576 ≤ f ∧ f ≤ 1048576 ∧ L[i] = ⟨(A : Int), (B : Int), f⟩ ∧ (nat L)[i]? = some ⟨A, B, f⟩) := fun i h => bound_at hk h
  have HNl : Hid ((nat L).length = L.length) := nat_len L
  obtain ⟨R, HR⟩ : ∃ R, Hid (R = kepB xs L) := ⟨kepB xs L, by unfold Hid; rfl⟩
  rw [← HR.out]
  have HNo : Hid (∀ k (h : k < xs.length), inB xs[k] = false → R = false) := fun k h hb => by rw [HR.out]; unfold kepB; rw [all_not h hb]; rfl
  clear hu hg hgx hk
  go_enter Try.func26, Try.ntmps26
  go_wp2_with fail
  go_loopw [5] (fun i wr => ∃ k : Nat, k ≤ xs.length ∧ i = .int .i64 k ∧ wr = w ∧ Hid ((xs.take k).all inB = true)) (fun i _ => xs.length - (intOf i).toNat)
  case atStart => exact ⟨0, Nat.zero_le _, rfl, rfl, rfl⟩
  case round =>
    obtain ⟨k, hk, rfl, rfl, HA⟩ := hrel
    by_cases hlt : k < xs.length
    · have ik : (k : Int) < xs.length := by omega
      obtain ⟨g, o, rfl, hg, hat⟩ := HX.out (by omega)
      have x0 := hat k hlt
      have HT : Hid ((inB (atF xs k) = true → (xs.take (k + 1)).all inB = true) ∧ (inB (atF xs k) = false → R = false)) := by
        have e : atF xs k = xs[k] := by simp [atF, hlt]
        rw [e]
        exact ⟨fun h => take_all hlt HA.out h, fun h => HNo.out k hlt h⟩
      clear hat HA
      generalize atF xs k = x at *
      by_cases c1 : x < 0
      · have hR : Hid (R = false) := HT.out.2 (by unfold inB; simp; omega)
        clear HT
        go_wp2
        go_ret
        exact ⟨by rw [hR.out]; rfl, Below.refl _ _⟩
      by_cases c2 : 1125899906842624 < x
      · have hR : Hid (R = false) := HT.out.2 (by unfold inB; simp; omega)
        clear HT
        go_wp2
        go_ret
        exact ⟨by rw [hR.out]; rfl, Below.refl _ _⟩
      · have HA : Hid ((xs.take (k + 1)).all inB = true) := HT.out.1 (by unfold inB; simp; omega)
        clear HT
        go_wp2
        exact ⟨⟨k + 1, by omega, by go_num, trivial, HA.out⟩, by simp [intOf]; omega⟩
    · obtain rfl : k = xs.length := by omega
      have hall : xs.all inB = true := by have := HA.out; rwa [List.take_length] at this
      have HBd : Hid (∀ i, i < xs.length → 0 ≤ atF xs i ∧ atF xs i ≤ 1125899906842624) := fun i hi => by
        have e : atF xs i = xs[i] := by simp [atF, hi]
        rw [e]
        have := List.all_eq_true.1 hall _ (List.getElem_mem hi)
        unfold inB at this
        simp only [Bool.and_eq_true, decide_eq_true_eq] at this
        exact this
      have HR2 : Hid (R = (nat L).all (kbB (atF xs))) := by unfold Hid; rw [HR.out]; unfold kepB; rw [hall]; rfl
      obtain ⟨w0, Hw0⟩ : ∃ w0 : World, Hid (w0 = wr) := ⟨wr, by unfold Hid; rfl⟩
      rw [← Hw0.out] at HX HG
      have H0 : Hid (Below w0.heap.size w0 wr) := by rw [Hw0.out]; exact Below.refl _ _
      clear HA hall HNo HR
      go_wp2_with fail
      go_loopw [6] (fun i wr => ∃ k : Nat, i = .int .i64 k ∧ k ≤ L.length ∧ Hid (((nat L).take k).all (kbB (atF xs)) = true ∧ Below w0.heap.size w0 wr)) (fun i _ => L.length - (intOf i).toNat)
      case atStart => exact ⟨0, rfl, Nat.zero_le _, rfl, H0.out⟩
      case round =>
        obtain ⟨k, rfl, hk, HQ⟩ := hrel
        clear H0
        by_cases hlt : k < L.length
        · have ik : (k : Int) < L.length := by omega
          obtain ⟨g, o, rfl, hgl, hat⟩ := HG.out (by omega)
          obtain ⟨A, B, f, hA, hB, hf1, hf2, hq, hnq⟩ := HK.out k hlt
          obtain ⟨gx, oo, rfl, hgxl, hxat⟩ := HX.out (by omega)
          have hx := (hat k hlt).below HQ.out.2 hgl
          rw [hq] at hx
          obtain ⟨x0, x1, x2⟩ := hx
          simp only at x0 x1 x2
          have y0 : wr.cell? ⟨gx, oo + A, none⟩ = some (.int .i64 (atF xs A)) := (HQ.out.2.cell (p := ⟨gx, oo + A, none⟩) hgxl).trans (hxat A hA)
          have y1 : wr.cell? ⟨gx, oo + B, none⟩ = some (.int .i64 (atF xs B)) := (HQ.out.2.cell (p := ⟨gx, oo + B, none⟩) hgxl).trans (hxat B hB)
          have iA : (A : Int) < xs.length := by omega
          have iB : (B : Int) < xs.length := by omega
          obtain ⟨b1, b2⟩ := HBd.out A hA
          obtain ⟨b3, b4⟩ := HBd.out B hB
          have hnl : k < (nat L).length := by rw [HNl.out]; exact hlt
          have hnq' : (nat L)[k] = ⟨A, B, f⟩ := by
            rw [List.getElem?_eq_getElem hnl] at hnq
            injection hnq
          have HT : Hid ((¬ atF xs B - atF xs A < f → ((nat L).take (k + 1)).all (kbB (atF xs)) = true) ∧ (atF xs B - atF xs A < f → R = false)) := by
            constructor
            · intro h
              refine take_all hnl HQ.out.1 ?_
              rw [hnq']
              unfold kbB
              exact decide_eq_true (by simp only; omega)
            · intro h
              rw [HR2.out]
              refine all_not hnl ?_
              rw [hnq']
              unfold kbB
              exact decide_eq_false (by simp only; omega)
          have HW : Hid (∀ m, Below w0.heap.size w0 (wr.drewN m)) := fun m => below_drewN HQ.out.2
          clear HQ hat hxat hq hnq hnq' hnl
          generalize atF xs A = xa at *
          generalize atF xs B = xb at *
          by_cases ht : xb - xa < f
          · have HE : Hid (R = false) := HT.out.2 ht
            clear HT
            go_wp2_with fail
            go_quiet (fail)
            go_wp2
            go_ret
            exact ⟨by rw [HE.out]; rfl, by rw [Hw0.out] at HW; exact HW.out _⟩
          · have HE : Hid (((nat L).take (k + 1)).all (kbB (atF xs)) = true) := HT.out.1 ht
            clear HT
            go_wp2_with fail
            go_quiet (fail)
            go_wp2
            exact ⟨⟨k + 1, by go_num, by omega, HE.out, HW.out _⟩, by simp [intOf]; omega⟩
        · obtain rfl : k = L.length := by omega
          have HF : Hid (R = true ∧ Below w0.heap.size w0 wr) := by
            have h := HQ.out
            rw [← HNl.out, List.take_length] at h
            exact ⟨by rw [HR2.out]; exact h.1, h.2⟩
          clear HQ
          go_wp2
          go_ret
          exact ⟨by rw [HF.out.1]; rfl, by rw [Hw0.out] at HF; exact HF.out.2⟩

theorem sumI_take (L : List Bn) {R : List Nat} {i k : Nat} {b : Bn} (hi : R[i]? = some k) (hb : L[k]? = some b) : sumI L (R.take (i + 1)) = sumI L (R.take i) + b.f := by
  have hl := (List.getElem?_eq_some_iff.1 hi).1
  rw [← List.take_append_getElem hl, sumI_app]
  rw [List.getElem?_eq_getElem hl] at hi
  injection hi with hi
  rw [hi, sumI, hb, sumI]
  simp
theorem sumI_bd (L : List Bn) (hf : Far L) : ∀ R : List Nat, -((R.length : Int) * 1048576) ≤ sumI L R ∧ sumI L R ≤ (R.length : Int) * 1048576
  | [] => by simp [sumI]
  | i :: t => by
    have := sumI_bd L hf t
    rw [sumI, List.length_cons]
    cases h : L[i]? with
    | none => simp only; omega
    | some b =>
      have := hf b (List.mem_of_getElem? h)
      simp only
      omega

set_option maxRecDepth 10000 in
set_option maxHeartbeats 4000000 in
theorem turns_any (N : Nat) (R : List Nat) (L : List Bq) (u v : Value) (w : World) (hu : IS w u (toI R)) (hv : BS w v L) (hk : ∀ q ∈ L, okQ N q = true) (hN : N ≤ 4096) (hL : L.length ≤ 4096) (hR : Nice N (nat L) R) :
    Calls Try.prog 27 #[u, v] w fun e w' => e = .returned (.bool true) ∧ Below w.heap.size w w' := by
  obtain ⟨ox, cx, e0, hcx, hgx⟩ := hu
  rw [toI_len] at e0 hcx
  subst e0
  obtain ⟨gx, oo, rfl, hgxl, hxat⟩ := hgx (by rw [toI_len]; exact hR.pos)
  obtain ⟨oa, cap, rfl, hc, hg⟩ := hv
  have hRp := hR.pos
  have hLp : 0 < L.length := by
    obtain ⟨b, h, _⟩ := hR.here 0 R[0] (List.getElem?_eq_getElem hRp)
    have := (List.getElem?_eq_some_iff.1 h).1
    rw [nat_len] at this
    omega
  obtain ⟨g, o, rfl, hgl, hat⟩ := hg hLp
  have hp := hR.pos
  have hn := hR.len
  have HC : Hid (∀ i, i < R.length → ∃ (k m A B A' B' : Nat) (f f' : Int), R[i]? = some k ∧ k < L.length ∧ m < L.length ∧ B = A' ∧ -1048576 ≤ f ∧ f ≤ 1048576 ∧ (nat L)[k]? = some ⟨A, B, f⟩ ∧ w.cell? ⟨gx, oo + i, none⟩ = some (.int .i64 k) ∧ w.cell? ⟨gx, oo + (i + 1) % R.length, none⟩ = some (.int .i64 m) ∧ BqAt w g (o + k * 3) ⟨(A : Int), (B : Int), f⟩ ∧ BqAt w g (o + m * 3) ⟨(A' : Int), (B' : Int), f'⟩) := by
    intro i hi
    have hm : (i + 1) % R.length < R.length := Nat.mod_lt _ hp
    have hk1 : R[i]? = some R[i] := List.getElem?_eq_getElem hi
    have hm1 : R[(i + 1) % R.length]? = some R[(i + 1) % R.length] := List.getElem?_eq_getElem hm
    have l1 : R[i] < L.length := by
      obtain ⟨b, h, _⟩ := hR.here _ _ hk1
      have := (List.getElem?_eq_some_iff.1 h).1
      rw [nat_len] at this
      exact this
    have l2 : R[(i + 1) % R.length] < L.length := by
      obtain ⟨b, h, _⟩ := hR.here _ _ hm1
      have := (List.getElem?_eq_some_iff.1 h).1
      rw [nat_len] at this
      exact this
    obtain ⟨A, B, f, _, _, f1, f2, e1, e2⟩ := bound_at hk l1
    obtain ⟨A', B', f', _, _, _, _, e3, e4⟩ := bound_at hk l2
    refine ⟨R[i], R[(i + 1) % R.length], A, B, A', B', f, f', hk1, l1, l2, ?_, f1, f2, e2, ?_, ?_, ?_, ?_⟩
    · exact hR.next i _ _ _ _ hi hk1 hm1 e2 e4
    · have := hxat i (by rw [toI_len]; exact hi)
      rw [toI_at] at this
      exact this
    · have := hxat ((i + 1) % R.length) (by rw [toI_len]; exact hm)
      rw [toI_at] at this
      exact this
    · rw [← e1]; exact hat _ l1
    · rw [← e3]; exact hat _ l2
  have HSb : Hid (∀ i, i ≤ R.length → -4294967296 ≤ sumI (nat L) (R.take i) ∧ sumI (nat L) (R.take i) ≤ 4294967296) := fun i hi => by
    have := sumI_bd (nat L) (nat_far hk) (R.take i)
    rw [List.length_take] at this
    omega
  have HSu : Hid (0 < sumI (nat L) R) := hR.sum
  clear hat hxat hg hgx hk hR
  generalize hq : R.length = p at *
  have Hq : Hid (R.length = p) := hq
  clear hq
  go_enter Try.func27, Try.ntmps27
  go_wp2_with fail
  go_loopw [5, 6] (fun sv i wr => ∃ (j : Nat) (z : Int), i = .int .i64 j ∧ sv = .int .i64 z ∧ j ≤ p ∧ Hid (z = sumI (nat L) (R.take j) ∧ Below w.heap.size w wr)) (fun _ i _ => p - (intOf i).toNat)
  case atStart => exact ⟨0, 0, rfl, rfl, Nat.zero_le _, rfl, Below.refl _ _⟩
  case round =>
    obtain ⟨j, z, rfl, rfl, hj, HQ⟩ := hrel
    by_cases hlt : j < p
    · have ij : (j : Int) < p := by omega
      obtain ⟨k, m, A, B, A', B', f, f', h1, l1, l2, hBA, f1, f2, h2, c1, c2, c3, c4⟩ := HC.out j hlt
      have d1 : wr.cell? ⟨gx, oo + j, none⟩ = some (.int .i64 k) := (HQ.out.2.cell (p := ⟨gx, oo + j, none⟩) hgxl).trans c1
      obtain ⟨r, hr⟩ : ∃ r : Nat, r = (j + 1) % p := ⟨_, rfl⟩
      have d2 : wr.cell? ⟨gx, oo + r, none⟩ = some (.int .i64 m) := by rw [hr]; exact (HQ.out.2.cell (p := ⟨gx, oo + (j + 1) % p, none⟩) hgxl).trans c2
      have hrp : r < p := by rw [hr]; exact Nat.mod_lt _ (by omega)
      have irp : (r : Int) < p := by omega
      have e1 : ((j : Int) + 1).tmod p = r := by
        have : ((j : Int) + 1) = ((j + 1 : Nat) : Int) := rfl
        rw [this, hr]
        exact (Int.ofNat_tmod (j + 1) p).symm
      have e2 : ((j : Int) + 1) % p = r := by
        have : ((j : Int) + 1) = ((j + 1 : Nat) : Int) := rfl
        rw [this, hr]
        rfl
      obtain ⟨x0, x1, x2⟩ := c3.below HQ.out.2 hgl
      obtain ⟨y0, y1, y2⟩ := c4.below HQ.out.2 hgl
      simp only at x0 x1 x2 y0 y1 y2
      subst hBA
      have ik : (k : Int) < L.length := by omega
      have im : (m : Int) < L.length := by omega
      have ik2 : ¬ (L.length : Int) ≤ k := by omega
      have im2 : ¬ (L.length : Int) ≤ m := by omega
      have ik0 : ¬ (k : Int) < 0 := by omega
      have im0 : ¬ (m : Int) < 0 := by omega
      have HS : Hid (z + f = sumI (nat L) (R.take (j + 1))) := by unfold Hid; rw [sumI_take (nat L) h1 h2, HQ.out.1]
      have hzb : -4294967296 ≤ z ∧ z ≤ 4294967296 := by rw [HQ.out.1]; exact HSb.out j hj
      have HW : Hid (∀ m, Below w.heap.size w (wr.drewN m)) := fun m => below_drewN HQ.out.2
      clear HQ c1 c2 c3 c4 h1 h2 hr
      have ip : ¬ (p : Int) = 0 := by omega
      go_wp2_with fail
      go_quiet (fail)
      go_wp2
      exact ⟨⟨j + 1, z + f, by go_num, rfl, by omega, HS.out, HW.out _⟩, by simp [intOf]; omega⟩
    · obtain rfl : j = p := by omega
      have hz : 0 < z := by
        have := HQ.out.1
        rw [List.take_of_length_le (by rw [Hq.out]; exact Nat.le_refl _)] at this
        rw [this]; exact HSu.out
      have HB : Hid (Below w.heap.size w wr) := HQ.out.2
      clear HQ
      go_wp2
      go_ret
      exact ⟨by simp, HB.out⟩

end Go.Proofs.Ytjamkbhplejolaa
