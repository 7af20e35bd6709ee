/-
  Keeps; the document's Keeps.
-/
import Derived.Test.YtjamkbhplejolaaLF3
namespace Go.Proofs.Ytjamkbhplejolaa
open Go.RowKit

/-- The first bound that numbers do not keep. -/
def kpA (x : Nat → Int) : Nat → List Bn → Int
  | _, [] => -1
  | i, b :: t => if x b.b < x b.a + b.f then (i : Int) else kpA x (i + 1) t
def atF (xs : List Int) (k : Nat) : Int := xs.getD k 0
def kpE (xs : List Int) (L : List Bq) : Int := if chkN xs = 0 then chk xs.length L else chkN xs
def kpN (xs : List Int) (L : List Bq) : Int := if kpE xs L = 0 then kpA (atF xs) 0 (nat L) else 0
theorem chkN_zero {xs : List Int} (h : chkN xs = 0) : xs.length ≤ 4096 ∧ ∀ z ∈ xs, -1099511627776 ≤ z ∧ z ≤ 1099511627776 := by
  unfold chkN at h
  split at h
  · omega
  split at h
  · next h2 =>
    refine ⟨by omega, fun z hz => ?_⟩
    have := List.all_eq_true.1 h2 z hz
    unfold nuB at this
    simp only [Bool.and_eq_true, decide_eq_true_eq] at this
    exact this
  · omega
theorem is_at {w : World} {v : Value} {xs : List Int} (h : IS w v xs) : ∃ oa cap, v = .slice oa xs.length cap ∧ xs.length ≤ cap ∧ (0 < xs.length → ∃ g o, oa = some ⟨g, o, none⟩ ∧ g < w.heap.size ∧ ∀ i, i < xs.length → w.cell? ⟨g, o + i, none⟩ = some (.int .i64 (atF xs i))) := by
  obtain ⟨oa, cap, e, hc, hg⟩ := h
  refine ⟨oa, cap, e, hc, fun hp => ?_⟩
  obtain ⟨g, o, e1, h1, h2⟩ := hg hp
  refine ⟨g, o, e1, h1, fun i hi => ?_⟩
  rw [h2 i hi]
  simp [atF, hi]

set_option maxRecDepth 10000 in
set_option maxHeartbeats 4000000 in
theorem Keeps_any (xs : List Int) (L : List Bq) (u v : Value) (w : World) (hu : IS w u xs) (hv : BS w v L) :
    Calls Try.prog 21 #[u, v] w fun e w' => e = .returned (.tuple #[.int .i64 (kpN xs L), .int .i64 (kpE xs L)]) ∧ Below w.heap.size w w' := by
  have HN : Hid (Calls Try.prog 34 #[u] w fun e w' => e = .returned (.int .i64 (chkN xs)) ∧ w' = w) := checkN_any xs u w hu
  have HC : Hid (Calls Try.prog 28 #[.int .i64 xs.length, v] w fun e w' => e = .returned (.int .i64 (chk xs.length L)) ∧ Below w.heap.size w w') := check_any xs.length L v w hv
  unfold kpN kpE
  by_cases h0 : chkN xs = 0
  · rw [if_pos h0]
    rw [h0] at HN
    by_cases h1 : chk xs.length L = 0
    · rw [if_pos h1, h1]
      rw [h1] at HC
      obtain ⟨g1, g2⟩ := chkN_zero h0
      obtain ⟨_, _, h3, h4⟩ := chk_zero h1
      have HK : Hid (∀ i (h : i < L.length), ∃ (A B : Nat) (f : Int), A < xs.length ∧ B < xs.length ∧ -1048576 ≤ f ∧ f ≤ 1048576 ∧ L[i] = ⟨(A : Int), (B : Int), f⟩ ∧ (nat L)[i]? = some ⟨A, B, f⟩) := fun i h => bound_at h4 h
      have HNl : Hid ((nat L).length = L.length) := nat_len L
      have HBd : Hid (∀ i, i < xs.length → -1099511627776 ≤ atF xs i ∧ atF xs i ≤ 1099511627776) := fun i hi => by
        have e : atF xs i = xs[i] := by simp [atF, hi]
        rw [e]; exact g2 _ (List.getElem_mem hi)
      obtain ⟨R, HR⟩ : ∃ R, Hid (R = kpA (atF xs) 0 (nat L)) := ⟨kpA (atF xs) 0 (nat L), by unfold Hid; rfl⟩
      rw [← HR.out]
      have HV : Hid (BS w v L) := hv
      obtain ⟨oa, cap, rfl, hc, _⟩ := hv
      obtain ⟨ox, cx, rfl, hcx, hgx⟩ := is_at hu
      have HX : Hid (0 < xs.length → ∃ g o, ox = some ⟨g, o, none⟩ ∧ g < w.heap.size ∧ ∀ i, i < xs.length → w.cell? ⟨g, o + i, none⟩ = some (.int .i64 (atF xs i))) := hgx
      obtain ⟨oa', cap', e', _, hg⟩ := HV.out
      injection e' with e1 _ e3
      subst e1 e3
      have HG : Hid (0 < L.length → ∃ g o, oa = some ⟨g, o, none⟩ ∧ g < w.heap.size ∧ ∀ i (h : i < L.length), BqAt w g (o + i * 3) L[i]) := hg
      clear h0 h1 g2 h4 hg hgx HV hu
      go_enter Try.func21, Try.ntmps21
      go_wp2_with fail
      refine HN.out.mono ?_
      rintro e w0 ⟨rfl, rfl⟩
      go_wp2_with fail
      refine HC.out.mono ?_
      rintro e w1 ⟨rfl, hb1⟩
      have H1 : Hid (Below w0.heap.size w0 w1) := hb1
      clear hb1 HC HN
      go_wp2_with fail
      go_loopw [24] (fun i wr => ∃ k : Nat, i = .int .i64 k ∧ k ≤ L.length ∧ Hid (kpA (atF xs) k ((nat L).drop k) = R ∧ Below w0.heap.size w0 wr)) (fun i _ => L.length - (intOf i).toNat)
      case atStart => exact ⟨0, rfl, Nat.zero_le _, HR.out.symm, H1.out⟩
      case round =>
        obtain ⟨k, rfl, hk, HQ⟩ := hrel
        by_cases hlt : k < L.length
        · have ik : (k : Int) < L.length := by omega
          obtain ⟨g, o, rfl, hgl, hat⟩ := HG.out (by omega)
          obtain ⟨A, B, f, hA, hB, hf1, hf2, hq, hnq⟩ := HK.out k hlt
          obtain ⟨gx, oo, rfl, hgxl, hxat⟩ := HX.out (by omega)
          have hx := (hat k hlt).below HQ.out.2 hgl
          rw [hq] at hx
          obtain ⟨x0, x1, x2⟩ := hx
          simp only at x0 x1 x2
          have y0 : wr.cell? ⟨gx, oo + A, none⟩ = some (.int .i64 (atF xs A)) := (HQ.out.2.cell (p := ⟨gx, oo + A, none⟩) hgxl).trans (hxat A hA)
          have y1 : wr.cell? ⟨gx, oo + B, none⟩ = some (.int .i64 (atF xs B)) := (HQ.out.2.cell (p := ⟨gx, oo + B, none⟩) hgxl).trans (hxat B hB)
          have iA : (A : Int) < xs.length := by omega
          have iB : (B : Int) < xs.length := by omega
          have lgx : gx < wr.heap.size := Nat.lt_of_lt_of_le hgxl HQ.out.2.size
          have lg : g < wr.heap.size := Nat.lt_of_lt_of_le hgl HQ.out.2.size
          obtain ⟨b1, b2⟩ := HBd.out A hA
          have HT : Hid ((atF xs B < atF xs A + f → R = k) ∧ (¬ atF xs B < atF xs A + f → kpA (atF xs) (k + 1) ((nat L).drop (k + 1)) = R)) := by
            have h := HQ.out.1
            rw [drop_step hnq, kpA] at h
            constructor
            · intro e; simp only at h; rw [if_pos e] at h; exact h.symm
            · intro e; simp only at h; rw [if_neg e] at h; exact h
          have HW : Hid (∀ o m, Below w0.heap.size w0 ((wr.alloc o).drewN m)) := fun o m => below_drewN (HQ.out.2.alloc HQ.out.2.size o)
          clear HQ hat hxat hq hnq
          generalize atF xs A = xa at *
          generalize atF xs B = xb at *
          by_cases ht : xb < xa + f
          · have HE : Hid (R = k) := HT.out.1 ht
            clear HT
            go_wp2_with fail
            go_quiet (fail)
            go_wp2
            go_ret2
            exact ⟨by rw [HE.out]; rfl, HW.out _ _⟩
          · have HE : Hid (kpA (atF xs) (k + 1) ((nat L).drop (k + 1)) = R) := HT.out.2 ht
            clear HT
            go_wp2_with fail
            go_quiet (fail)
            go_wp2
            exact ⟨⟨k + 1, by go_num, by omega, HE.out, HW.out _ _⟩, by simp [intOf]; omega⟩
        · obtain rfl : k = L.length := by omega
          have HF : Hid (R = -1 ∧ Below w0.heap.size w0 wr) := by
            have h := HQ.out
            rw [← HNl.out, List.drop_length, kpA] at h
            exact ⟨h.1.symm, h.2⟩
          clear HQ
          go_wp2
          go_ret2
          exact ⟨by rw [HF.out.1]; rfl, HF.out.2⟩
    · rw [if_neg h1]
      have h9 : (chk xs.length L != 0) = true := by simp [h1]
      generalize chk xs.length L = z at *
      obtain ⟨oa, cap, rfl, hc, _⟩ := hu
      clear hv h0 h1
      go_enter Try.func21, Try.ntmps21
      go_wp2_with fail
      refine HN.out.mono ?_
      rintro e w0 ⟨rfl, rfl⟩
      go_wp2_with fail
      refine HC.out.mono ?_
      rintro e w1 ⟨rfl, hb1⟩
      have H1 : Hid (Below w0.heap.size w0 w1) := hb1
      clear hb1 HC HN
      go_wp2
      go_ret2
      exact ⟨rfl, H1.out⟩
  · rw [if_neg h0, if_neg h0]
    have h9 : (chkN xs != 0) = true := by simp [h0]
    generalize chkN xs = z at *
    clear hv h0 HC hu
    go_enter Try.func21, Try.ntmps21
    go_wp2_with fail
    refine HN.out.mono ?_
    rintro e w0 ⟨rfl, rfl⟩
    go_wp2
    go_ret2
    exact ⟨rfl, Below.refl _ _⟩

end Go.Proofs.Ytjamkbhplejolaa
