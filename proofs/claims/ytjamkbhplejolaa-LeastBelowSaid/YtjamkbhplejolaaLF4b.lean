/-
  The document's Keeps.
-/
import Derived.Test.YtjamkbhplejolaaLF4
namespace Go.Proofs.Ytjamkbhplejolaa
open Go.RowKit

set_option maxRecDepth 10000 in
set_option maxHeartbeats 4000000 in
theorem rKeeps_any (xs : List Int) (L : List Bq) (u v : Value) (w : World) (hu : IS w u xs) (hv : BS w v L) :
    Calls Try.prog 22 #[u, v] w fun e w' => e = .returned (.tuple #[.int .i64 (kpN xs L), .int .i64 (kpE xs L)]) ∧ Below w.heap.size w w' := by
  have HC : Hid (Calls Try.prog 25 #[.int .i64 xs.length, v] w fun e w' => e = .returned (.int .i64 (chk xs.length L)) ∧ Below w.heap.size w w') := rcheck_any xs.length L v w hv
  obtain ⟨ox, cx, rfl, hcx, hgx⟩ := is_at hu
  have HX : Hid (0 < xs.length → ∃ g o, ox = some ⟨g, o, none⟩ ∧ g < w.heap.size ∧ ∀ i, i < xs.length → w.cell? ⟨g, o + i, none⟩ = some (.int .i64 (atF xs i))) := hgx
  clear hgx hu
  by_cases h2 : 4096 < xs.length
  · have HE : Hid (kpN xs L = 0 ∧ kpE xs L = 4) := by
      have e : kpE xs L = 4 := by unfold kpE chkN; rw [if_pos h2]; rfl
      exact ⟨by unfold kpN; rw [e]; rfl, e⟩
    rw [HE.out.1, HE.out.2]
    have i2 : (4096 : Int) < xs.length := by omega
    clear HE
    go_enter Try.func22, Try.ntmps22
    go_wp2
    go_ret2
    exact ⟨rfl, Below.refl _ _⟩
  have i2 : ¬ (4096 : Int) < xs.length := by omega
  have HV : Hid (BS w v L) := hv
  obtain ⟨oa, cap, rfl, hc, hg⟩ := hv
  have HG : Hid (0 < L.length → ∃ g o, oa = some ⟨g, o, none⟩ ∧ g < w.heap.size ∧ ∀ i (h : i < L.length), BqAt w g (o + i * 3) L[i]) := hg
  clear hg
  obtain ⟨RN, HRN⟩ : ∃ R, Hid (R = kpN xs L) := ⟨kpN xs L, by unfold Hid; rfl⟩
  obtain ⟨RE, HRE⟩ : ∃ R, Hid (R = kpE xs L) := ⟨kpE xs L, by unfold Hid; rfl⟩
  rw [← HRN.out, ← HRE.out]
  have HNo : Hid (∀ k (h : k < xs.length), nuB xs[k] = false → RN = 0 ∧ RE = 2) := fun k h hb => by
    have e : chkN xs = 2 := by unfold chkN; rw [if_neg h2, if_neg (by rw [all_not h hb]; decide)]
    have e2 : kpE xs L = 2 := by unfold kpE; rw [e]; rfl
    exact ⟨by rw [HRN.out]; unfold kpN; rw [e2]; rfl, by rw [HRE.out, e2]⟩
  go_enter Try.func22, Try.ntmps22
  go_wp2_with fail
  go_loopw [6] (fun i wr => ∃ k : Nat, k ≤ xs.length ∧ i = .int .i64 k ∧ wr = w ∧ Hid ((xs.take k).all nuB = true)) (fun i _ => xs.length - (intOf i).toNat)
  case atStart => exact ⟨0, Nat.zero_le _, rfl, rfl, rfl⟩
  case round =>
    obtain ⟨k, hk, rfl, rfl, HK⟩ := hrel
    by_cases hlt : k < xs.length
    · have ik : (k : Int) < xs.length := by omega
      obtain ⟨g, o, rfl, hg, hat⟩ := HX.out (by omega)
      have x0 := hat k hlt
      have HT : Hid ((nuB (atF xs k) = true → (xs.take (k + 1)).all nuB = true) ∧ (nuB (atF xs k) = false → RN = 0 ∧ RE = 2)) := by
        have e : atF xs k = xs[k] := by simp [atF, hlt]
        rw [e]
        exact ⟨fun h => take_all hlt HK.out h, fun h => HNo.out k hlt h⟩
      clear hat HK
      generalize atF xs k = x at *
      by_cases c1 : x < -1099511627776
      · have hR : Hid (RN = 0 ∧ RE = 2) := HT.out.2 (by unfold nuB; simp; omega)
        clear HT
        go_wp2
        go_ret2
        exact ⟨by rw [hR.out.1, hR.out.2]; rfl, Below.refl _ _⟩
      by_cases c2 : 1099511627776 < x
      · have hR : Hid (RN = 0 ∧ RE = 2) := HT.out.2 (by unfold nuB; simp; omega)
        clear HT
        go_wp2
        go_ret2
        exact ⟨by rw [hR.out.1, hR.out.2]; rfl, Below.refl _ _⟩
      · have HA : Hid ((xs.take (k + 1)).all nuB = true) := HT.out.1 (by unfold nuB; simp; omega)
        clear HT
        go_wp2
        exact ⟨⟨k + 1, by omega, by go_num, trivial, HA.out⟩, by simp [intOf]; omega⟩
    · obtain rfl : k = xs.length := by omega
      have h0 : chkN xs = 0 := by
        have := HK.out
        rw [List.take_length] at this
        unfold chkN
        rw [if_neg h2, if_pos this]
      have eE : RE = chk xs.length L := by rw [HRE.out]; unfold kpE; rw [if_pos h0]
      by_cases h1 : chk xs.length L = 0
      · rw [h1] at HC
        obtain ⟨g1, g2⟩ := chkN_zero h0
        obtain ⟨_, _, h3, h4⟩ := chk_zero h1
        have HKb : Hid (∀ i (h : i < L.length), ∃ (A B : Nat) (f : Int), A < xs.length ∧ B < xs.length ∧ -1048576 ≤ f ∧ f ≤ 1048576 ∧ L[i] = ⟨(A : Int), (B : Int), f⟩ ∧ (nat L)[i]? = some ⟨A, B, f⟩) := fun i h => bound_at h4 h
        have HNl : Hid ((nat L).length = L.length) := nat_len L
        have HBd : Hid (∀ i, i < xs.length → -1099511627776 ≤ atF xs i ∧ atF xs i ≤ 1099511627776) := fun i hi => by
          have e : atF xs i = xs[i] := by simp [atF, hi]
          rw [e]; exact g2 _ (List.getElem_mem hi)
        have HR : Hid (RN = kpA (atF xs) 0 (nat L) ∧ RE = 0) := ⟨by rw [HRN.out]; unfold kpN; rw [if_pos (by rw [← HRE.out, eE, h1])], by rw [eE, h1]⟩
        clear HK h0 h1 g2 h4 eE HNo
        go_wp2_with fail
        refine HC.out.mono ?_
        rintro e w1 ⟨rfl, hb1⟩
        have H1 : Hid (Below wr.heap.size wr w1) := hb1
        clear hb1 HC
        obtain ⟨w0, Hw0⟩ : ∃ w0 : World, Hid (w0 = wr) := ⟨wr, by unfold Hid; rfl⟩
        rw [← Hw0.out] at H1 HX HG HV
        go_wp2_with fail
        go_loopw [8] (fun i wr => ∃ k : Nat, i = .int .i64 k ∧ k ≤ L.length ∧ Hid (kpA (atF xs) k ((nat L).drop k) = RN ∧ Below w0.heap.size w0 wr)) (fun i _ => L.length - (intOf i).toNat)
        case atStart => exact ⟨0, rfl, Nat.zero_le _, HR.out.1.symm, H1.out⟩
        case round =>
          obtain ⟨k, rfl, hk, HQ⟩ := hrel
          by_cases hlt : k < L.length
          · have ik : (k : Int) < L.length := by omega
            obtain ⟨g, o, rfl, hgl, hat⟩ := HG.out (by omega)
            obtain ⟨A, B, f, hA, hB, hf1, hf2, hq, hnq⟩ := HKb.out k hlt
            obtain ⟨gx, oo, rfl, hgxl, hxat⟩ := HX.out (by omega)
            have hx := (hat k hlt).below HQ.out.2 hgl
            rw [hq] at hx
            obtain ⟨x0, x1, x2⟩ := hx
            simp only at x0 x1 x2
            have y0 : wr.cell? ⟨gx, oo + A, none⟩ = some (.int .i64 (atF xs A)) := (HQ.out.2.cell (p := ⟨gx, oo + A, none⟩) hgxl).trans (hxat A hA)
            have y1 : wr.cell? ⟨gx, oo + B, none⟩ = some (.int .i64 (atF xs B)) := (HQ.out.2.cell (p := ⟨gx, oo + B, none⟩) hgxl).trans (hxat B hB)
            have iA : (A : Int) < xs.length := by omega
            have iB : (B : Int) < xs.length := by omega
            obtain ⟨b1, b2⟩ := HBd.out A hA
            have HT : Hid ((atF xs B < atF xs A + f → RN = k) ∧ (¬ atF xs B < atF xs A + f → kpA (atF xs) (k + 1) ((nat L).drop (k + 1)) = RN)) := by
              have h := HQ.out.1
              rw [drop_step hnq, kpA] at h
              constructor
              · intro e; simp only at h; rw [if_pos e] at h; exact h.symm
              · intro e; simp only at h; rw [if_neg e] at h; exact h
            have HW : Hid (∀ m, Below w0.heap.size w0 (wr.drewN m)) := fun m => below_drewN HQ.out.2
            clear HQ hat hxat hq hnq
            generalize atF xs A = xa at *
            generalize atF xs B = xb at *
            by_cases ht : xb < xa + f
            · have HE : Hid (RN = k) := HT.out.1 ht
              clear HT
              go_wp2_with fail
              go_quiet (fail)
              go_wp2
              go_ret2
              exact ⟨by rw [HE.out, HR.out.2]; rfl, by rw [Hw0.out] at HW; exact HW.out _⟩
            · have HE : Hid (kpA (atF xs) (k + 1) ((nat L).drop (k + 1)) = RN) := HT.out.2 ht
              clear HT
              go_wp2_with fail
              go_quiet (fail)
              go_wp2
              exact ⟨⟨k + 1, by go_num, by omega, HE.out, HW.out _⟩, by simp [intOf]; omega⟩
          · obtain rfl : k = L.length := by omega
            have HF : Hid (RN = -1 ∧ Below w0.heap.size w0 wr) := by
              have h := HQ.out
              rw [← HNl.out, List.drop_length, kpA] at h
              exact ⟨h.1.symm, h.2⟩
            clear HQ
            go_wp2
            go_ret2
            exact ⟨by rw [HF.out.1, HR.out.2]; rfl, by rw [Hw0.out] at HF; exact HF.out.2⟩
      · have h9 : (chk xs.length L != 0) = true := by simp [h1]
        have HR : Hid (RN = 0 ∧ RE = chk xs.length L) := ⟨by rw [HRN.out]; unfold kpN; rw [if_neg (by rw [← HRE.out, eE]; exact h1)], eE⟩
        generalize chk xs.length L = z at *
        clear HK h0 h1 eE HNo
        go_wp2_with fail
        refine HC.out.mono ?_
        rintro e w1 ⟨rfl, hb1⟩
        have H1 : Hid (Below wr.heap.size wr w1) := hb1
        clear hb1 HC
        go_wp2
        go_ret2
        exact ⟨by rw [HR.out.1, HR.out.2]; rfl, H1.out⟩

end Go.Proofs.Ytjamkbhplejolaa
