/-
  The statement VectorOne, walked.
-/
import Derived.Test.YtpbkgdombadbmaaGreatDoorK16
namespace Go.Proofs.YtpbkgdombadbmaaGreatDoor
open Go.RowKit

theorem rd_good {s : ByteArray} (h : rdE s = 0) : (⟨(texT (rdL s) (rdW s) (rdH s)).toArray⟩ : ByteArray) = s ∧ texE (rdL s) (rdW s) (rdH s) = 0 ∧ Wfs (rdL s) ∧ I64 (rdW s) ∧ I64 (rdH s) ∧ rdA s = 0 := by
  have hs : ¬ 65536 < s.size := fun hs => by
    unfold rdE at h
    rw [if_pos hs] at h
    cases h
  rcases hr : vsR s with q | ⟨l, zw, zh⟩
  · exfalso
    unfold rdE at h
    rw [if_neg hs, hr] at h
    cases h
  · have e1 : rdL s = l := by unfold rdL; rw [if_pos h, hr]
    have e2 : rdW s = zw := by unfold rdW; rw [if_pos h, hr]
    have e3 : rdH s = zh := by unfold rdH; rw [if_pos h, hr]
    have e4 : rdA s = 0 := by unfold rdA; rw [if_neg hs, hr]
    obtain ⟨a1, a2, a3, a4⟩ := vsR_text (by omega) hr
    have hk : sizB zw zh = true ∧ chkS l = 0 := by
      unfold rdE at h
      rw [if_neg hs, hr] at h
      cases hz : sizB zw zh with
      | false => simp [hz] at h
      | true => simpa [hz] using h
    have hE : texE l zw zh = 0 := by
      unfold texE
      rw [if_neg (by rw [hk.2]; simp), if_neg (by rw [hk.1]; simp), if_neg (by
        rw [← a1, dl_len]
        exact hs)]
    rw [e1, e2, e3, e4]
    refine ⟨?_, hE, a2, a3, a4, rfl⟩
    unfold texT
    rw [if_pos hE, ← a1]
theorem rd_bad {s : ByteArray} (h : ¬ rdE s = 0) : rdL s = [] ∧ rdW s = 0 ∧ rdH s = 0 ∧ rdA s ≤ s.size := by
  refine ⟨by unfold rdL; rw [if_neg h], by unfold rdW; rw [if_neg h], by unfold rdH; rw [if_neg h], ?_⟩
  unfold rdA
  split
  · exact Nat.zero_le _
  · split
    · next q hq => exact vsR_sz hq
    · exact Nat.zero_le _

set_option maxRecDepth 10000 in
set_option maxHeartbeats 4000000 in
theorem vone_walk (s : ByteArray) (w : World) (hE : EnR w.heap.size w ∧ EtI w) :
    Calls Tryz.prog 4 #[.string s] w fun e w' => e = .returned (.bool true) ∧ Below w.heap.size w w' := by
  have HA : Hid (∀ W, Below w.heap.size w W → Calls Tryz.prog 10 #[] W fun e w' => e = .returned (.bool true) ∧ Below W.heap.size W w') := fun W h => alive16_any W ((hE.1.on h).mono h.size) (hE.2.below h)
  have HR : Hid (∀ W, Below w.heap.size w W → Calls Tryz.prog 11 #[.string s] W fun e w' => RdQ s W e w') := fun W h => vread_any s W ((hE.1.on h).mono h.size) (hE.2.below h)
  by_cases he : rdE s = 0
  · obtain ⟨g1, g2, g3, g4, g5, g6⟩ := rd_good he
    obtain ⟨l, hl⟩ : ∃ l, l = rdL s := ⟨_, rfl⟩
    obtain ⟨zw, hw⟩ : ∃ z, z = rdW s := ⟨_, rfl⟩
    obtain ⟨zh, hh⟩ : ∃ z, z = rdH s := ⟨_, rfl⟩
    rw [← hl, ← hw, ← hh] at g1 g2
    have HR2 : Hid (∀ W, Below w.heap.size w W → Calls Tryz.prog 11 #[.string s] W fun e w' => ∃ u, e = .returned (.tuple #[u, .agg #[.int .i64 zw, .int .i64 zh], .int .i64 0, .int .i64 0]) ∧ OwS W.heap.size w' u l ∧ Below W.heap.size W w') := fun W h => by
      have q := HR.out W h
      unfold RdQ at q
      rw [he, g6, ← hl, ← hw, ← hh] at q
      exact q
    have HT : Hid (∀ W v, LsS W v l → Below w.heap.size w W → Calls Tryz.prog 6 #[v, .agg #[.int .i64 zw, .int .i64 zh]] W fun e w' => e = .returned (.tuple #[.string s, .int .i64 0]) ∧ Below W.heap.size W w') := fun W v h hb => by
      have q := vtext_any l v zw zh W h (by rw [hl]; exact g3) (by rw [hw]; exact g4) (by rw [hh]; exact g5) (hE.1.on hb).here.pw
      rw [g1, g2] at q
      exact q
    clear hE he g1 g2 g3 g4 g5 g6 hl hw hh HR
    go_enter Tryz.func4, Tryz.ntmps4
    go_wp2_with fail
    refine (HA.out _ (Below.refl _ _)).mono ?_
    rintro e w1 ⟨rfl, hb⟩
    have B1 : Hid (Below w.heap.size w w1) := hb
    clear hb HA
    go_wp2_with fail
    refine (HR2.out _ B1.out).mono ?_
    rintro e w2 ⟨u, rfl, hu, hb⟩
    have B2 : Hid (Below w.heap.size w (w2.alloc (.cells #[.int .i64 zw, .int .i64 zh] 23)) ∧ LsS (w2.alloc (.cells #[.int .i64 zw, .int .i64 zh] 23)) u l) := by
      have b1 : Below w2.heap.size w2 (w2.alloc (.cells #[.int .i64 zw, .int .i64 zh] 23)) := (Below.refl _ w2).alloc (Nat.le_refl _) _
      have bb := B1.out.trans (hb.mono B1.out.size)
      exact ⟨bb.trans (b1.mono bb.size), OwS.lss (row_below hu b1 : OwS w1.heap.size _ u l)⟩
    clear hb hu B1 HR2
    go_wp2_with fail
    refine (HT.out _ _ B2.out.2 B2.out.1).mono ?_
    rintro e w3 ⟨rfl, hb⟩
    have B3 : Hid (Below w.heap.size w w3) := B2.out.1.trans (hb.mono B2.out.1.size)
    clear hb B2 HT
    go_wp2
    go_ret
    exact ⟨rfl, B3.out⟩
  · obtain ⟨g1, g2, g3, g4⟩ := rd_bad he
    obtain ⟨c, hc⟩ : ∃ c, c = rdE s := ⟨_, rfl⟩
    obtain ⟨a, ha⟩ : ∃ a, a = rdA s := ⟨_, rfl⟩
    have HR2 : Hid (∀ W, Below w.heap.size w W → Calls Tryz.prog 11 #[.string s] W fun e w' => ∃ oa cap, e = .returned (.tuple #[.slice oa 0 cap, .agg #[.int .i64 0, .int .i64 0], .int .i64 (a : Nat), .int .i64 c]) ∧ Below W.heap.size W w') := fun W h => by
      refine (HR.out W h).mono ?_
      rintro e w' ⟨u, rfl, hu, hb⟩
      rw [g1] at hu
      rw [g2, g3, ← ha, ← hc]
      obtain ⟨oa, cap, rfl, _⟩ := OwS.lss hu
      exact ⟨oa, cap, rfl, hb⟩
    rw [← hc] at he
    rw [← ha] at g4
    have g5 : (a : Int) ≤ s.size := by omega
    clear hE g1 g2 g3 hc ha HR
    go_enter Tryz.func4, Tryz.ntmps4
    go_wp2_with fail
    refine (HA.out _ (Below.refl _ _)).mono ?_
    rintro e w1 ⟨rfl, hb⟩
    have B1 : Hid (Below w.heap.size w w1) := hb
    clear hb HA
    go_wp2_with fail
    refine (HR2.out _ B1.out).mono ?_
    rintro e w2 ⟨oa, cap, rfl, hb⟩
    have B2 : Hid (Below w.heap.size w (w2.alloc (.cells #[.int .i64 0, .int .i64 0] 23))) := by
      have b1 : Below w2.heap.size w2 (w2.alloc (.cells #[.int .i64 0, .int .i64 0] 23)) := (Below.refl _ w2).alloc (Nat.le_refl _) _
      have bb := B1.out.trans (hb.mono B1.out.size)
      exact bb.trans (b1.mono bb.size)
    clear hb B1 HR2
    go_wp2
    go_ret
    exact ⟨rfl, B2.out⟩

end Go.Proofs.YtpbkgdombadbmaaGreatDoor
