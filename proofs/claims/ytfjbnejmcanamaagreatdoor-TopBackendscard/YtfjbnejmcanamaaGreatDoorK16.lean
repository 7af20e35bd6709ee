/-
  Texts of this claim, one behind the other: what each is about stands ahead of it.
-/
import Derived.Test.YtfjbnejmcanamaaGreatDoorK3
import Derived.Test.YtfjbnejmcanamaaGreatDoorK1
import Derived.BigQuiet
import Derived.Test.YtfjbnejmcanamaaGreatDoorK7
import Derived.Test.YtfjbnejmcanamaaGreatDoorK14
/-
  Contracts of the document's answer for layer 13: what is wrong with a stroke.
-/
namespace Go.Proofs.YtfjbnejmcanamaaGreatDoor
open Go.RowKit

theorem ztx_ne {t : ByteArray} (h : t.size ≠ 0) : ¬ (t = ByteArray.empty) ∧ t.toList.isEmpty = false := by
  refine ⟨by rintro rfl; exact h rfl, ?_⟩
  rw [ztx_list]
  cases hd : t.data.toList with
  | nil => exact absurd (congrArg List.length hd) (by rw [Array.length_toList]; exact h)
  | cons _ _ => rfl
theorem ztx_nil {t : ByteArray} (h : t.size = 0) : t = ByteArray.empty := by
  obtain ⟨d⟩ := t
  have : d = #[] := Array.eq_empty_of_size_eq_zero h
  rw [this]; rfl

set_option maxRecDepth 20000 in
set_option maxHeartbeats 4000000 in
theorem one_wroK (s : St) (w : World) (hw : wroK s = true) (ht : s.t.size ≤ 9223372036854775807) :
    Calls Tryz.prog 15 #[(Value.agg #[.int .u8 s.k, .int .i64 s.r.x, .int .i64 s.r.y, .int .i64 s.r.w, .int .i64 s.r.h, .int .u8 s.c.r, .int .u8 s.c.g, .int .u8 s.c.b, .int .u8 s.c.a, .int .u8 s.b.r, .int .u8 s.b.g, .int .u8 s.b.b, .int .u8 s.b.a, .string s.t, .int .i64 s.n])] w fun e w' => e = .returned (.int .i64 2) ∧ Below w.heap.size w w' := by
  have HL : Hid (∀ c d, Below w.heap.size w ((w.alloc c).alloc d)) := fun c d => ((Below.refl _ w).alloc (Nat.le_refl _) _).alloc (by simp) _
  unfold wroK at hw
  simp only [Bool.or_eq_true, decide_eq_true_eq] at hw
  have cs : s.k < 1 ∨ (¬ s.k < 1 ∧ 5 < s.k) ∨ (¬ s.k < 1 ∧ ¬ 5 < s.k ∧ s.n < 0) ∨ (¬ s.k < 1 ∧ ¬ 5 < s.k ∧ ¬ s.n < 0 ∧ 1048576 < s.n) ∨ (¬ s.k < 1 ∧ ¬ 5 < s.k ∧ ¬ s.n < 0 ∧ ¬ 1048576 < s.n ∧ (65536 : Int) < (s.t.size : Int)) := by omega
  clear hw
  have E1 := neq_co0 s.b
  have E2 := neq_co0 s.c
  have E3 := neq_rc0 s.r
  generalize coE s.b = x1 at *
  generalize coE s.c = x2 at *
  generalize zZr s.r = x3 at *
  rcases cs with h1 | ⟨h1, h2⟩ | cs
  iterate 2
    · have k3 : (s.k == 3) = false := beq_eq_false_iff_ne.2 (by omega)
      have k4 : (s.k == 4) = false := beq_eq_false_iff_ne.2 (by omega)
      have k5 : (s.k == 5) = false := beq_eq_false_iff_ne.2 (by omega)
      go_enter Tryz.func15, Tryz.ntmps15
      go_wp2
      go_ret
      exact ⟨rfl, HL.out _ _⟩
  have hk : s.k = 1 ∨ s.k = 2 ∨ s.k = 3 ∨ s.k = 4 ∨ s.k = 5 := by omega
  have cs : s.n < 0 ∨ (¬ s.n < 0 ∧ 1048576 < s.n) ∨ (¬ s.n < 0 ∧ ¬ 1048576 < s.n ∧ (65536 : Int) < (s.t.size : Int)) := by omega
  rcases cs with h3 | ⟨h3, h4⟩ | ⟨h3, h4, h5⟩
  all_goals
    rcases hk with hk | hk | hk | hk | hk
  all_goals
    go_enter Tryz.func15, Tryz.ntmps15
    go_wp2
    go_ret
    exact ⟨rfl, HL.out _ _⟩

theorem wroK_no {s : St} (hw : wroK s = false) : ¬ s.k < 1 ∧ ¬ 5 < s.k ∧ ¬ s.n < 0 ∧ ¬ 1048576 < s.n ∧ ¬ (65536 : Int) < (s.t.size : Int) ∧ (s.k = 1 ∨ s.k = 2 ∨ s.k = 3 ∨ s.k = 4 ∨ s.k = 5) := by
  unfold wroK at hw
  simp only [Bool.or_eq_false_iff, decide_eq_false_iff_not] at hw
  omega
theorem wroF_yes {s : St} (hw : wroF s = true) (hk : s.k = 1 ∨ s.k = 2 ∨ s.k = 3 ∨ s.k = 4 ∨ s.k = 5) : (s.k ≠ 3 ∧ s.t.size ≠ 0) ∨ (s.k ≠ 3 ∧ s.t.size = 0 ∧ coE s.b = false) ∨ ((s.k = 4 ∨ s.k = 5) ∧ s.t.size = 0 ∧ coE s.b = true ∧ coE s.c = false) ∨ (s.k = 5 ∧ s.t.size = 0 ∧ coE s.b = true ∧ coE s.c = true ∧ zZr s.r = false) := by
  unfold wroF at hw
  by_cases hz : s.t.size = 0
  · cases hb : coE s.b <;> cases hc : coE s.c <;> cases hr : zZr s.r <;> rcases hk with k | k | k | k | k <;> simp [k, hz, hb, hc, hr] at hw ⊢
  · rcases hk with k | k | k | k | k <;> simp [k, hz] at hw ⊢
theorem wroF_not {s : St} (hw : wroF s = false) (hk : s.k = 1 ∨ s.k = 2 ∨ s.k = 3 ∨ s.k = 4 ∨ s.k = 5) : ((s.k = 1 ∨ s.k = 2) ∧ s.t.size = 0 ∧ coE s.b = true) ∨ s.k = 3 ∨ (s.k = 4 ∧ s.t.size = 0 ∧ coE s.b = true ∧ coE s.c = true) ∨ (s.k = 5 ∧ s.t.size = 0 ∧ coE s.b = true ∧ coE s.c = true ∧ zZr s.r = true) := by
  unfold wroF at hw
  by_cases hz : s.t.size = 0
  · cases hb : coE s.b <;> cases hc : coE s.c <;> cases hr : zZr s.r <;> rcases hk with k | k | k | k | k <;> simp [k, hz, hb, hc, hr] at hw ⊢
  · rcases hk with k | k | k | k | k <;> simp [k, hz] at hw ⊢

set_option maxRecDepth 20000 in
set_option maxHeartbeats 4000000 in
theorem one_wroF (s : St) (w : World) (hw : wroK s = false) (hf : wroF s = true) :
    Calls Tryz.prog 15 #[(Value.agg #[.int .u8 s.k, .int .i64 s.r.x, .int .i64 s.r.y, .int .i64 s.r.w, .int .i64 s.r.h, .int .u8 s.c.r, .int .u8 s.c.g, .int .u8 s.c.b, .int .u8 s.c.a, .int .u8 s.b.r, .int .u8 s.b.g, .int .u8 s.b.b, .int .u8 s.b.a, .string s.t, .int .i64 s.n])] w fun e w' => e = .returned (.int .i64 2) ∧ Below w.heap.size w w' := by
  have HL : Hid (∀ c d, Below w.heap.size w ((w.alloc c).alloc d)) := fun c d => ((Below.refl _ w).alloc (Nat.le_refl _) _).alloc (by simp) _
  obtain ⟨h1, h2, h3, h4, h5, hk⟩ := wroK_no hw
  have cs := wroF_yes hf hk
  have E1 := neq_co0 s.b
  have E2 := neq_co0 s.c
  have E3 := neq_rc0 s.r
  clear hw hf
  rcases cs with ⟨n3, hz⟩ | ⟨n3, hz, hb⟩ | ⟨hk, hz, hb, hc⟩ | ⟨hk, hz, hb, hc, hr⟩
  · obtain ⟨z1, z2⟩ := ztx_ne hz
    rcases hk with hk | hk | hk | hk | hk
    rotate_left 2
    · exact absurd hk n3
    all_goals
      clear n3
      go_enter Tryz.func15, Tryz.ntmps15
      go_wp2
      go_ret
      exact ⟨rfl, HL.out _ _⟩
  · rw [hb] at E1
    have hz2 := ztx_nil hz
    rcases hk with hk | hk | hk | hk | hk
    rotate_left 2
    · exact absurd hk n3
    all_goals
      clear n3
      go_enter Tryz.func15, Tryz.ntmps15
      go_wp2
      go_ret
      exact ⟨rfl, HL.out _ _⟩
  · rw [hb] at E1
    rw [hc] at E2
    have hz2 := ztx_nil hz
    rcases hk with hk | hk
    all_goals
      go_enter Tryz.func15, Tryz.ntmps15
      go_wp2
      go_ret
      exact ⟨rfl, HL.out _ _⟩
  · rw [hb] at E1
    rw [hc] at E2
    rw [hr] at E3
    have hz2 := ztx_nil hz
    go_enter Tryz.func15, Tryz.ntmps15
    go_wp2
    go_ret
    exact ⟨rfl, HL.out _ _⟩

set_option maxRecDepth 20000 in
set_option maxHeartbeats 4000000 in
theorem one_ok (s : St) (w : World) (hw : wroK s = false) (hf : wroF s = false) :
    Calls Tryz.prog 15 #[(Value.agg #[.int .u8 s.k, .int .i64 s.r.x, .int .i64 s.r.y, .int .i64 s.r.w, .int .i64 s.r.h, .int .u8 s.c.r, .int .u8 s.c.g, .int .u8 s.c.b, .int .u8 s.c.a, .int .u8 s.b.r, .int .u8 s.b.g, .int .u8 s.b.b, .int .u8 s.b.a, .string s.t, .int .i64 s.n])] w fun e w' => e = .returned (.int .i64 (if zMa s.r = true then 0 else 5)) ∧ Below w.heap.size w w' := by
  have HL : Hid (∀ c d, Below w.heap.size w ((w.alloc c).alloc d)) := fun c d => ((Below.refl _ w).alloc (Nat.le_refl _) _).alloc (by simp) _
  have HM : Hid (∀ W, Calls Tryz.prog 31 #[.agg #[.int .i64 s.r.x, .int .i64 s.r.y, .int .i64 s.r.w, .int .i64 s.r.h]] W fun e w' => e = .returned (.bool (zMa s.r)) ∧ Below W.heap.size W w') := fun W => rmay_any _ _ _ _ W
  obtain ⟨h1, h2, h3, h4, h5, hk⟩ := wroK_no hw
  have cs := wroF_not hf hk
  have E1 := neq_co0 s.b
  have E2 := neq_co0 s.c
  have E3 := neq_rc0 s.r
  clear hw hf hk
  generalize zMa s.r = b at *
  rcases cs with ⟨hk, hz, hb⟩ | hk | ⟨hk, hz, hb, hc⟩ | ⟨hk, hz, hb, hc, hr⟩
  · rw [hb] at E1
    have hz2 := ztx_nil hz
    rcases hk with hk | hk
    all_goals
      cases b
    all_goals
      go_enter Tryz.func15, Tryz.ntmps15
      go_wp2_with fail
      refine (HM.out _).mono ?_
      rintro e w1 ⟨rfl, hb1⟩
      have H1 : Hid (Below w.heap.size w w1) := (HL.out _ _).trans (hb1.mono (HL.out _ _).size)
      clear hb1
      go_wp2
      go_ret
      exact ⟨rfl, H1.out⟩
  · cases b
    all_goals
      go_enter Tryz.func15, Tryz.ntmps15
      go_wp2_with fail
      refine (HM.out _).mono ?_
      rintro e w1 ⟨rfl, hb1⟩
      have H1 : Hid (Below w.heap.size w w1) := (HL.out _ _).trans (hb1.mono (HL.out _ _).size)
      clear hb1
      go_wp2
      go_ret
      exact ⟨rfl, H1.out⟩
  · rw [hb] at E1
    rw [hc] at E2
    have hz2 := ztx_nil hz
    cases b
    all_goals
      go_enter Tryz.func15, Tryz.ntmps15
      go_wp2_with fail
      refine (HM.out _).mono ?_
      rintro e w1 ⟨rfl, hb1⟩
      have H1 : Hid (Below w.heap.size w w1) := (HL.out _ _).trans (hb1.mono (HL.out _ _).size)
      clear hb1
      go_wp2
      go_ret
      exact ⟨rfl, H1.out⟩
  · rw [hb] at E1
    rw [hc] at E2
    rw [hr] at E3
    have hz2 := ztx_nil hz
    cases b
    all_goals
      go_enter Tryz.func15, Tryz.ntmps15
      go_wp2_with fail
      refine (HM.out _).mono ?_
      rintro e w1 ⟨rfl, hb1⟩
      have H1 : Hid (Below w.heap.size w w1) := (HL.out _ _).trans (hb1.mono (HL.out _ _).size)
      clear hb1
      go_wp2
      go_ret
      exact ⟨rfl, H1.out⟩

theorem zone_any (s : St) (w : World) (ht : s.t.size ≤ 9223372036854775807) :
    Calls Tryz.prog 15 #[(Value.agg #[.int .u8 s.k, .int .i64 s.r.x, .int .i64 s.r.y, .int .i64 s.r.w, .int .i64 s.r.h, .int .u8 s.c.r, .int .u8 s.c.g, .int .u8 s.c.b, .int .u8 s.c.a, .int .u8 s.b.r, .int .u8 s.b.g, .int .u8 s.b.b, .int .u8 s.b.a, .string s.t, .int .i64 s.n])] w fun e w' => e = .returned (.int .i64 (oneE s)) ∧ Below w.heap.size w w' := by
  unfold oneE
  cases hw : wroK s
  · cases hf : wroF s
    · simpa using one_ok s w hw hf
    · exact one_wroF s w hw hf
  · exact one_wroK s w hw ht

end Go.Proofs.YtfjbnejmcanamaaGreatDoor

/-
  Contracts of the document's answer for layer 13: Check, Draws.
-/
namespace Go.Proofs.YtfjbnejmcanamaaGreatDoor
open Go.RowKit

/-- Texts as long as a machine's may be. -/
def Txs (l : List St) : Prop := ∀ s ∈ l, s.t.size ≤ 9223372036854775807

theorem clp_step {m : Nat} {s : St} {t : List St} {R : Int} (h : clpE m (s :: t) = R) : (oneE s ≠ 0 → R = oneE s) ∧ (oneE s = 0 → s.k = 5 → m = 0 → R = 130) ∧ (oneE s = 0 → ¬ (s.k = 5 ∧ m = 0) → clpE (opn m s) t = R) := by
  unfold clpE at h
  refine ⟨fun h1 => ?_, fun h1 h2 h3 => ?_, fun h1 h2 => ?_⟩
  · rw [if_pos h1] at h; exact h.symm
  · rw [if_neg (by simp [h1]), if_pos ⟨h2, h3⟩] at h; exact h.symm
  · rw [if_neg (by simp [h1]), if_neg h2] at h; exact h

set_option maxRecDepth 20000 in
set_option maxHeartbeats 4000000 in
theorem zcheck_any (l : List St) (v : Value) (w : World) (hv : LsS w v l) (ht : Txs l) :
    Calls Tryz.prog 5 #[v] w fun e w' => e = .returned (.int .i64 (chkS l)) ∧ Below w.heap.size w w' := by
  obtain ⟨oa, cap, rfl, hc, hg⟩ := hv
  have HG : Hid (0 < l.length → ∃ g o, oa = some ⟨g, o, none⟩ ∧ g < w.heap.size ∧ ∀ i (h : i < l.length), StAt w g (o + i * 15) l[i]) := hg
  have HT : Hid (Txs l) := ht
  clear hg ht
  unfold chkS
  by_cases hm : 16384 < l.length
  · rw [if_pos hm]
    go_enter Tryz.func5, Tryz.ntmps5
    go_wp2
    go_ret
    exact ⟨rfl, Below.refl _ _⟩
  rw [if_neg hm]
  obtain ⟨R, hR⟩ : ∃ R : Int, clpE 0 l = R := ⟨_, rfl⟩
  rw [hR]
  go_enter Tryz.func5, Tryz.ntmps5
  go_wp2_with fail
  go_loopw [3, 4] (fun n i wr => ∃ m k : Nat, n = .int .i64 m ∧ m ≤ k ∧ i = .int .i64 k ∧ k ≤ l.length ∧ Hid (clpE m (l.drop k) = R ∧ Below w.heap.size w wr)) (fun _ i _ => l.length - (intOf i).toNat)
  case atStart => exact ⟨0, 0, rfl, Nat.le_refl _, rfl, Nat.zero_le _, hR, Below.refl _ _⟩
  case round =>
    clear hR
    obtain ⟨m, k, rfl, hmk, rfl, hk, HK⟩ := hrel
    by_cases hlt : k < l.length
    · obtain ⟨g, o, rfl, hg, hat⟩ := HG.out (by omega)
      have hx := (hat k hlt).kept (w' := wr) fun j => HK.out.2.cell (p := ⟨g, j, none⟩) hg
      have hst := clp_step (show clpE m (l[k] :: l.drop (k + 1)) = R by rw [← List.drop_eq_getElem_cons hlt]; exact HK.out.1)
      have HR : Hid (∀ w, Calls Tryz.prog 15 #[(Value.agg #[.int .u8 l[k].k, .int .i64 l[k].r.x, .int .i64 l[k].r.y, .int .i64 l[k].r.w, .int .i64 l[k].r.h, .int .u8 l[k].c.r, .int .u8 l[k].c.g, .int .u8 l[k].c.b, .int .u8 l[k].c.a, .int .u8 l[k].b.r, .int .u8 l[k].b.g, .int .u8 l[k].b.b, .int .u8 l[k].b.a, .string l[k].t, .int .i64 l[k].n])] w fun e w' => e = .returned (.int .i64 (oneE l[k])) ∧ Below w.heap.size w w') := fun w => zone_any _ w (HT.out _ (List.getElem_mem hlt))
      have HX : Hid (∀ W, Below wr.heap.size wr W → W.cell? ⟨g, o + k * 15, none⟩ = some (.int .u8 l[k].k) ∧ Below w.heap.size w W) := fun W h => ⟨(h.cell (p := ⟨g, o + k * 15, none⟩) (Nat.lt_of_lt_of_le hg HK.out.2.size)).trans hx.1, HK.out.2.trans (h.mono HK.out.2.size)⟩
      have hcs := oneE_cases l[k]
      have h45 : oneE l[k] = 0 → l[k].k = 1 ∨ l[k].k = 2 ∨ l[k].k = 3 ∨ l[k].k = 4 ∨ l[k].k = 5 := fun h => (oneE_zero h).2.1
      have HS : Hid ((oneE l[k] ≠ 0 → R = oneE l[k]) ∧ (oneE l[k] = 0 → l[k].k = 5 → m = 0 → R = 130) ∧ (oneE l[k] = 0 → ¬ (l[k].k = 5 ∧ m = 0) → clpE (opn m l[k]) (l.drop (k + 1)) = R)) := hst
      have HO : Hid ((l[k].k = 4 → opn m l[k] = m + 1) ∧ (l[k].k = 5 → opn m l[k] = m - 1) ∧ (l[k].k < 4 → opn m l[k] = m)) := by
        unfold Hid opn
        exact ⟨fun h => by rw [if_pos h], fun h => by rw [if_neg (by omega), if_pos h], fun h => by rw [if_neg (by omega), if_neg (by omega)]⟩
      clear hat hst HT
      generalize oneE l[k] = c at *
      generalize l[k] = x at *
      obtain ⟨x0, x1, x2, x3, x4, x5, x6, x7, x8, x9, x10, x11, x12, x13, x14⟩ := hx
      rcases hcs with rfl | rfl | rfl
      · have hk5 := h45 rfl
        clear h45
        go_wp2_with fail
        refine (HR.out _).mono ?_
        rintro e w1 ⟨rfl, hb⟩
        obtain ⟨y0, hB⟩ := HX.out _ hb
        have H1 : Hid (Below w.heap.size w w1) := hB
        clear hb hB x0 x1 x2 x3 x4 x5 x6 x7 x8 x9 x10 x11 x12 x13 x14 HX HR
        have HS2 : Hid (x.k < 4 → clpE m (l.drop (k + 1)) = R) := fun h => by
          have q := HS.out.2.2 (by simp) (fun e => by omega)
          rwa [HO.out.2.2 h] at q
        have HS4 : Hid (x.k = 4 → clpE (m + 1) (l.drop (k + 1)) = R) := fun h => by
          have q := HS.out.2.2 (by simp) (fun e => by omega)
          rwa [HO.out.1 h] at q
        have HS5 : Hid (x.k = 5 → m = 0 → R = 130) := fun h h2 => HS.out.2.1 (by simp) h h2
        have HS6 : Hid (x.k = 5 → m ≠ 0 → clpE (m - 1) (l.drop (k + 1)) = R) := fun h h2 => by
          have q := HS.out.2.2 (by simp) (fun e => h2 e.2)
          rwa [HO.out.2.1 h] at q
        clear HS HO
        rcases hk5 with k1 | k1 | k1 | k1 | k1
        iterate 3
          · have HF := HS2.out (by omega)
            have HF' : Hid (clpE m (l.drop (k + 1)) = R ∧ Below w.heap.size w w1) := ⟨HF, H1.out⟩
            clear HF HS2 HS4 HS5 HS6
            go_wp2
            go_roundw
            case rel => exact ⟨m, k + 1, rfl, by omega, by go_num, by omega, HF'⟩
            case measure => simp [intOf]; omega
        · have HF := HS4.out k1
          have HF' : Hid (clpE (m + 1) (l.drop (k + 1)) = R ∧ Below w.heap.size w w1) := ⟨HF, H1.out⟩
          clear HF HS2 HS4 HS5 HS6
          go_wp2
          go_roundw
          case rel => exact ⟨m + 1, k + 1, by go_num, by omega, by go_num, by omega, HF'⟩
          case measure => simp [intOf]; omega
        · by_cases hm0 : m = 0
          · have e := HS5.out k1 hm0
            subst hm0
            subst e
            clear HS2 HS4 HS5 HS6
            go_wp2
            go_ret
            exact ⟨rfl, H1.out⟩
          · have HF := HS6.out k1 hm0
            obtain ⟨m', rfl⟩ : ∃ m', m = m' + 1 := ⟨m - 1, by omega⟩
            have HF' : Hid (clpE m' (l.drop (k + 1)) = R ∧ Below w.heap.size w w1) := ⟨HF, H1.out⟩
            clear HF HS2 HS4 HS5 HS6 hm0
            go_wp2
            go_roundw
            case rel => exact ⟨m', k + 1, by go_num, by omega, by go_num, by omega, HF'⟩
            case measure => simp [intOf]; omega
      iterate 2
        · have e := HS.out.1 (by decide)
          subst e
          clear h45 HS HO
          go_wp2_with fail
          refine (HR.out _).mono ?_
          rintro e w1 ⟨rfl, hb⟩
          obtain ⟨y0, hB⟩ := HX.out _ hb
          have H1 : Hid (Below w.heap.size w w1) := hB
          clear hb hB
          go_wp2
          go_ret
          exact ⟨rfl, H1.out⟩
    · obtain rfl : k = l.length := by omega
      have hR := HK.out.1
      rw [List.drop_length] at hR
      have H1 : Hid (Below w.heap.size w wr) := HK.out.2
      unfold clpE at hR
      by_cases hm0 : 0 < m
      · rw [if_pos hm0] at hR
        subst hR
        clear HK HT
        go_wp2
        go_ret
        exact ⟨rfl, H1.out⟩
      · rw [if_neg hm0] at hR
        subst hR
        obtain rfl : m = 0 := by omega
        clear HK HT
        go_wp2
        go_ret
        exact ⟨rfl, H1.out⟩

end Go.Proofs.YtfjbnejmcanamaaGreatDoor

/-
  Contracts of the document's answer for layer 13: lists compared.
-/
namespace Go.Proofs.YtfjbnejmcanamaaGreatDoor
open Go.RowKit

/-- Two lists of strokes, compared. -/
def samZ : List St → List St → Bool
  | [], [] => true
  | x :: a, y :: b => eqS x y && samZ a b
  | _, _ => false
theorem samZ_iff : ∀ a b : List St, samZ a b = true ↔ a = b
  | [], [] => by simp [samZ]
  | [], _ :: _ => by simp [samZ]
  | _ :: _, [] => by simp [samZ]
  | x :: a, y :: b => by rw [samZ, Bool.and_eq_true, eqS_iff, samZ_iff a b]; simp
theorem samZ_self (a : List St) : samZ a a = true := (samZ_iff a a).2 rfl
theorem samZ_no {a b : List St} (h : a ≠ b) : samZ a b = false := by
  cases e : samZ a b
  · rfl
  · exact absurd ((samZ_iff a b).1 e) h

theorem cell_strokeB (w : World) (s : St) (t : TypeId) (b : Nat) (h : b = w.heap.size) : ∀ (j : Nat) (u : Value), (sCel s)[j]? = some u → (w.alloc (.cells (#[.int .u8 s.k, .int .i64 s.r.x, .int .i64 s.r.y, .int .i64 s.r.w, .int .i64 s.r.h, .int .u8 s.c.r, .int .u8 s.c.g, .int .u8 s.c.b, .int .u8 s.c.a, .int .u8 s.b.r, .int .u8 s.b.g, .int .u8 s.b.b, .int .u8 s.b.a, .string s.t, .int .i64 s.n]) t)).cell? ((⟨b, 0, none⟩ : Addr).add j) = some u := by
  intro j u hj
  subst h
  have e : (⟨w.heap.size, 0, none⟩ : Addr).add j = ⟨w.heap.size, j, none⟩ := by
    simp [Addr.add]
    intro h
    exact h.symm
  rw [e, (Bk.new w (#[.int .u8 s.k, .int .i64 s.r.x, .int .i64 s.r.y, .int .i64 s.r.w, .int .i64 s.r.h, .int .u8 s.c.r, .int .u8 s.c.g, .int .u8 s.c.b, .int .u8 s.c.a, .int .u8 s.b.r, .int .u8 s.b.g, .int .u8 s.b.b, .int .u8 s.b.a, .string s.t, .int .i64 s.n]) t).cell j, ← hj]
  show (sCel s).toArray[j]? = _
  simp

end Go.Proofs.YtfjbnejmcanamaaGreatDoor

/-
  The statements' own comparing of lists, of screens (stage 16).
-/
namespace Go.Proofs.YtfjbnejmcanamaaGreatDoor
open Go.RowKit

theorem neq_cellS (x : Ce) (w : World) : (binOp .neq 63 (Value.agg #[.int .i32 x.r, .int .u8 x.c.r, .int .u8 x.c.g, .int .u8 x.c.b, .int .u8 x.c.a, .int .u8 x.b.r, .int .u8 x.b.g, .int .u8 x.b.b, .int .u8 x.b.a, .bool x.wd, .bool x.tl]) (Value.agg #[.int .i32 x.r, .int .u8 x.c.r, .int .u8 x.c.g, .int .u8 x.c.b, .int .u8 x.c.a, .int .u8 x.b.r, .int .u8 x.b.g, .int .u8 x.b.b, .int .u8 x.b.a, .bool x.wd, .bool x.tl])).run Tryz.prog w = .ok (.bool false) w := by
  simp [go_sem]

end Go.Proofs.YtfjbnejmcanamaaGreatDoor

/-
  A list drawn on a screen, in plain words: stroke by stroke is place by place.
-/
namespace Go.Proofs.YtfjbnejmcanamaaGreatDoor
open Go.RowKit

/-- The screen behind strokes with their rectangles, place by place. -/
def drwS (a : Nat) (L : List Ce) (A : List (St × Rc)) : List Ce := L.mapIdx fun k c => drwC wrP overC (k % a : Nat) (k / a : Nat) c A
theorem drwS_len (a : Nat) (L : List Ce) (A : List (St × Rc)) : (drwS a L A).length = L.length := by simp [drwS]
theorem drwS_nil (a : Nat) (L : List Ce) : drwS a L [] = L := by
  apply List.ext_getElem (drwS_len _ _ _)
  intro k h1 h2
  simp [drwS, drwC]
/-- The area of a screen in which a stroke shows. -/
def areZ (a b : Nat) (q : Rc) : Rc := zMe q ⟨0, 0, a, b⟩
/-- One stroke. -/
def stpS (a b : Nat) (L : List Ce) (p : St × Rc) : List Ce :=
  if zEm (areZ a b p.2) = true then L else updQ L a (areZ a b p.2).x.toNat (areZ a b p.2).y.toNat (areZ a b p.2).w.toNat (areZ a b p.2).h.toNat (madK p.1 a)
theorem hasE_iff (r : Rc) (px py : Int) (h : zEm r = false) : zHa r px py = true ↔ r.x ≤ px ∧ px < r.x + r.w ∧ r.y ≤ py ∧ py < r.y + r.h := by
  unfold zHa hasB
  rw [show emptyB r.x r.y r.w r.h = false from h]
  simp
theorem hasE_em {r : Rc} {px py : Int} (h : zEm r = true) : zHa r px py = false := by
  unfold zHa hasB
  rw [show emptyB r.x r.y r.w r.h = true from h]
  rfl
/-- Where the area lies. -/
theorem are_in {a b : Nat} {q : Rc} (h : zEm (areZ a b q) = false) : 0 ≤ (areZ a b q).x ∧ 0 < (areZ a b q).w ∧ (areZ a b q).x + (areZ a b q).w ≤ a ∧ 0 ≤ (areZ a b q).y ∧ 0 < (areZ a b q).h ∧ (areZ a b q).y + (areZ a b q).h ≤ b ∧ q.x ≤ (areZ a b q).x ∧ (areZ a b q).x + (areZ a b q).w ≤ q.x + q.w ∧ q.y ≤ (areZ a b q).y ∧ (areZ a b q).y + (areZ a b q).h ≤ q.y + q.h := by
  obtain ⟨-, e2, -, -, e5, -⟩ := (em_iff _).1 h
  unfold areZ zMe meetR at e2 e5 ⊢
  split at e2
  · exact absurd e2 (by decide)
  · next c =>
    rw [if_neg c] at e5
    unfold btw at e2 e5 ⊢
    split at e2
    · exact absurd e2 (by decide)
    · next d =>
      rw [if_neg d] at e5
      simp only [if_neg c, if_neg d]
      dsimp only at d e2 e5 ⊢
      omega
theorem are_has {a b : Nat} (hs : szB a b = true) (q : Rc) {k : Nat} (h : k < a * b) : zHa (areZ a b q) (k % a : Nat) (k / a : Nat) = zHa q (k % a : Nat) (k / a : Nat) := by
  have ha : 0 < a := by
    rcases Nat.eq_zero_or_pos a with e | e
    · rw [e, Nat.zero_mul] at h; omega
    · exact e
  have h1 := Nat.mod_lt k ha
  have h2 : k / a < b := Nat.div_lt_of_lt_mul h
  obtain ⟨s1, s2, s3, s4, -⟩ := szB_iff.1 hs
  unfold areZ
  generalize k % a = c at *
  generalize k / a = r at *
  have e : zHa ⟨0, 0, a, b⟩ (c : Nat) (r : Nat) = true := (hasE_iff _ _ _ ((em_iff _).2 (by simp only; omega))).2 (by simp only; omega)
  rw [has_meet, e, Bool.and_true]
/-- One stroke, place by place. -/
theorem stp_map {a b : Nat} (hs : szB a b = true) {L : List Ce} (hL : L.length = a * b) (p : St × Rc) : stpS a b L p = L.mapIdx fun k c => if zHa p.2 (k % a : Nat) (k / a : Nat) = true then madK p.1 a k c else c := by
  unfold stpS
  cases h : zEm (areZ a b p.2)
  · rw [if_neg (by simp)]
    obtain ⟨r1, r2, r3, r4, r5, r6, -⟩ := are_in h
    apply List.ext_getElem (by rw [updQ_len, List.length_mapIdx])
    intro k h1 h2
    rw [updQ_len, hL] at h1
    simp only [updQ, List.getElem_mapIdx]
    rw [← are_has hs p.2 h1]
    have hi := hasE_iff (areZ a b p.2) (k % a : Nat) (k / a : Nat) h
    generalize k % a = cx at *
    generalize k / a = rx at *
    by_cases c : zHa (areZ a b p.2) (cx : Nat) (rx : Nat) = true
    · have := hi.1 c
      rw [if_pos c, if_pos (by omega)]
    · rw [if_neg c, if_neg]
      intro d
      exact c (hi.2 (by omega))
  · rw [if_pos rfl]
    apply List.ext_getElem (by rw [List.length_mapIdx])
    intro k h1 h2
    rw [hL] at h1
    rw [List.getElem_mapIdx, ← are_has hs p.2 h1, hasE_em h, if_neg (by simp)]
theorem drwS_snoc {a b : Nat} (hs : szB a b = true) {L : List Ce} (hL : L.length = a * b) (A : List (St × Rc)) (p : St × Rc) (hp : drw p.1 = true) : stpS a b (drwS a L A) p = drwS a L (A ++ [p]) := by
  rw [stp_map hs (by rw [drwS_len, hL])]
  apply List.ext_getElem (by rw [List.length_mapIdx, drwS_len, drwS_len])
  intro k h1 h2
  simp only [List.getElem_mapIdx, drwS, drwC, List.foldl_append, List.foldl_cons, List.foldl_nil, hp, Bool.true_and]
  rfl

end Go.Proofs.YtfjbnejmcanamaaGreatDoor

/-
  Package list's own ways in plain words: the lowest clip is all places; pieces that may be empty; what opaque Fills hide, the last stroke first.
-/
namespace Go.Proofs.YtfjbnejmcanamaaGreatDoor

theorem me_nil {a b : Rc} (h : zEm a = true ∨ zEm b = true) : zMe a b = zr := by
  unfold zMe meetR
  unfold zEm at h
  rw [if_pos (by rcases h with h | h <;> rw [h] <;> simp)]
theorem me_btw {a b : Rc} (ha : zEm a = false) (hb : zEm b = false) : zMe a b = btw (max a.x b.x) (max a.y b.y) (min (a.x + a.w) (b.x + b.w)) (min (a.y + a.h) (b.y + b.h)) := by
  unfold zMe meetR
  unfold zEm at ha hb
  rw [ha, hb]
  rfl
theorem em_zr : zEm zr = true := by decide +kernel
theorem em_mk {r : Rc} (h1 : -16384 ≤ r.x) (h2 : -16384 ≤ r.y) (h3 : r.x + r.w ≤ 16384) (h4 : r.y + r.h ≤ 16384) (h5 : 0 < r.w) (h6 : 0 < r.h) : zEm r = false := by
  unfold zEm emptyB
  rw [may_iff.2 ⟨⟨by omega, by omega, by omega⟩, by omega, by omega, by omega⟩]
  simp
  omega
theorem em_bd {r : Rc} (h : zEm r = false) : -16384 ≤ r.x ∧ -16384 ≤ r.y ∧ r.x + r.w ≤ 16384 ∧ r.y + r.h ≤ 16384 ∧ 0 < r.w ∧ 0 < r.h := by
  have := bounds_of h
  omega
theorem me_em {a b : Rc} (h : zEm (zMe a b) = true) : zMe a b = zr := by
  cases ha : zEm a
  · cases hb : zEm b
    · rw [me_btw ha hb] at h ⊢
      obtain ⟨a1, a2, a3, a4, a5, a6⟩ := em_bd ha
      obtain ⟨b1, b2, b3, b4, b5, b6⟩ := em_bd hb
      unfold btw at h ⊢
      split at h
      · next hc => rw [if_pos hc]
      · next hc =>
        rw [em_mk (by simp only; omega) (by simp only; omega) (by simp only; omega) (by simp only; omega) (by simp only; omega) (by simp only; omega)] at h
        cases h
    · exact me_nil (.inr hb)
  · exact me_nil (.inl ha)
theorem me_turn (a b : Rc) : zMe a b = zMe b a := by
  cases ha : zEm a
  · cases hb : zEm b
    · rw [me_btw ha hb, me_btw hb ha]
      congr 1 <;> omega
    · rw [me_nil (.inr hb), me_nil (.inl hb)]
  · rw [me_nil (.inl ha), me_nil (.inr ha)]

/-- All places. -/
def evR : Rc := ⟨-16384, -16384, 32768, 32768⟩
theorem ev_em : zEm evR = false := by decide +kernel
def topP (cs : List Rc) : Rc :=
  match cs with
  | [] => evR
  | c :: _ => c
theorem shR_top {cs : List Rc} {s : St} : shR cs s = zMe s.r (topP cs) := by
  cases cs with
  | nil =>
    show (if zEm s.r = true then zr else s.r) = zMe s.r evR
    cases h : zEm s.r
    · rw [me_btw h ev_em]
      obtain ⟨a1, a2, a3, a4, a5, a6⟩ := em_bd h
      have e1 : max s.r.x evR.x = s.r.x := by unfold evR; simp only; omega
      have e2 : max s.r.y evR.y = s.r.y := by unfold evR; simp only; omega
      have e3 : min (s.r.x + s.r.w) (evR.x + evR.w) = s.r.x + s.r.w := by unfold evR; simp only; omega
      have e4 : min (s.r.y + s.r.h) (evR.y + evR.h) = s.r.y + s.r.h := by unfold evR; simp only; omega
      rw [e1, e2, e3, e4, btw_yes (by omega) (by omega)]
      simp only [Bool.false_eq_true, if_false]
      have f1 : s.r.x + s.r.w - s.r.x = s.r.w := by omega
      have f2 : s.r.y + s.r.h - s.r.y = s.r.h := by omega
      rw [f1, f2]
    · rw [me_nil (.inl h)]
      simp
  | cons c t =>
    show (if zEm (zMe s.r c) = true then zr else zMe s.r c) = zMe s.r c
    cases h : zEm (zMe s.r c)
    · simp
    · rw [me_em h]
      simp
theorem shR_em {cs : List Rc} {s : St} (h : zEm (shR cs s) = false) : zEm s.r = false := by
  cases e : zEm s.r
  · rfl
  · rw [shR_top, me_nil (.inl e), em_zr] at h
    cases h
theorem shR_may (cs : List Rc) (s : St) : zMa (shR cs s) = true := by
  cases e : zEm (shR cs s)
  · unfold zEm at e
    unfold zMa
    exact may_of e
  · rw [shR_top] at e ⊢
    rw [me_em e]
    decide +kernel

/-- What a stroke draws of the rectangle in which it shows, with pieces that are empty. -/
def brdL (f r : Rc) : List Rc := [zMe r ⟨f.x, f.y, f.w, 1⟩, zMe r ⟨f.x, f.y, 1, f.h⟩, zMe r ⟨f.x + f.w - 1, f.y, 1, f.h⟩, zMe r ⟨f.x, f.y + f.h - 1, f.w, 1⟩]
def dwnL (s : St) (r : Rc) : List Rc := if s.k = 1 ∧ 0 < s.c.a ∨ s.k = 3 ∧ s.t.size ≠ 0 then [r] else if s.k = 2 ∧ 0 < s.c.a then brdL s.r r else []
theorem side_btw {f : Rc} (h : zEm f = false) : sidR f = [⟨f.x, f.y, f.w, 1⟩, ⟨f.x, f.y, 1, f.h⟩, ⟨f.x + f.w - 1, f.y, 1, f.h⟩, ⟨f.x, f.y + f.h - 1, f.w, 1⟩] := by
  obtain ⟨a1, a2, a3, a4, a5, a6⟩ := em_bd h
  unfold sidR
  rw [btw_yes (by omega) (by omega), btw_yes (by omega) (by omega), btw_yes (by omega) (by omega), btw_yes (by omega) (by omega)]
  have e1 : f.x + f.w - f.x = f.w := by omega
  have e2 : f.y + 1 - f.y = 1 := by omega
  have e3 : f.x + 1 - f.x = 1 := by omega
  have e4 : f.y + f.h - f.y = f.h := by omega
  have e5 : f.x + f.w - (f.x + f.w - 1) = 1 := by omega
  have e6 : f.y + f.h - (f.y + f.h - 1) = 1 := by omega
  rw [e1, e2, e3, e4, e5, e6]
theorem dwn_plc {s : St} {r : Rc} (hk : s.k = 1 ∨ s.k = 2 ∨ s.k = 3 ∨ s.k = 4 ∨ s.k = 5) (hc : 0 ≤ s.c.a) (hr : zEm r = false → zEm s.r = false) : (dwnL s r).filter (fun q => !zEm q) = plc s r := by
  unfold dwnL plc noP drw
  cases he : zEm r
  · have hs := hr he
    rcases hk with k | k | k | k | k
    · by_cases ha : s.c.a = 0
      · simp [k, ha]
      · have : 0 < s.c.a := by omega
        simp [k, ha, this, he]
    · by_cases ha : s.c.a = 0
      · simp [k, ha]
      · have h0 : 0 < s.c.a := by omega
        have e : brdL s.r r = (sidR s.r).map (fun q => zMe q r) := by
          rw [side_btw hs]
          unfold brdL
          simp only [List.map_cons, List.map_nil]
          rw [me_turn r, me_turn r, me_turn r, me_turn r]
        rw [if_neg (by omega), if_pos ⟨k, h0⟩, e]
        simp [k, ha]
    · by_cases ht : s.t.size = 0
      · simp [k, ht]
      · simp [k, ht, he]
    · simp [k]
    · simp [k]
  · have hb : (brdL s.r r).filter (fun q => !zEm q) = [] := by
      unfold brdL
      rw [me_nil (.inl he), me_nil (.inl he), me_nil (.inl he), me_nil (.inl he)]
      simp [em_zr]
    simp only [Bool.true_or, if_true]
    split
    · simp [he]
    · split
      · exact hb
      · rfl
theorem dwn_len (s : St) (r : Rc) : (dwnL s r).length ≤ 4 := by
  unfold dwnL
  split
  · simp
  · split
    · simp [brdL]
    · simp

end Go.Proofs.YtfjbnejmcanamaaGreatDoor

/-
  What is known of strokes that show, and of their rectangles.
-/
namespace Go.Proofs.YtfjbnejmcanamaaGreatDoor
open Go.RowKit

theorem oneE_text {s : St} (h : oneE s = 0) : s.t.size ≤ 65536 := by
  unfold oneE at h
  split at h
  · cases h
  · next h1 =>
    have : wroK s = false := by
      cases e : wroK s
      · rfl
      · rw [e] at h1; simp at h1
    unfold wroK at this
    simp at this
    omega
theorem clpE_all : ∀ (l : List St) (n : Nat), clpE n l = 0 → ∀ s ∈ l, oneE s = 0
  | [], _, _, s, hs => by cases hs
  | t :: l, n, h, s, hs => by
    obtain ⟨h1, _, h3⟩ := clpE_cons h
    rcases List.mem_cons.1 hs with rfl | hs
    · exact h1
    · exact clpE_all l _ h3 s hs
theorem ann_mem : ∀ (l : List St) (cs : List Rc), ∀ p ∈ ann cs l, p.1 ∈ l ∧ ∃ c, p.2 = shR c p.1
  | [], _, p, hp => by cases hp
  | s :: l, cs, p, hp => by
    rcases List.mem_cons.1 (show p ∈ (s, shR cs s) :: ann (nxC cs s) l from hp) with rfl | hp
    · exact ⟨List.mem_cons_self, cs, rfl⟩
    · obtain ⟨h1, h2⟩ := ann_mem l _ p hp
      exact ⟨List.mem_cons_of_mem _ h1, h2⟩
theorem meet_sub {a b : Rc} (h : zEm (zMe a b) = false) : (a.x ≤ (zMe a b).x ∧ (zMe a b).x + (zMe a b).w ≤ a.x + a.w ∧ a.y ≤ (zMe a b).y ∧ (zMe a b).y + (zMe a b).h ≤ a.y + a.h) ∧ b.x ≤ (zMe a b).x ∧ (zMe a b).x + (zMe a b).w ≤ b.x + b.w ∧ b.y ≤ (zMe a b).y ∧ (zMe a b).y + (zMe a b).h ≤ b.y + b.h := by
  obtain ⟨-, e2, -, -, e5, -⟩ := (em_iff _).1 h
  unfold zMe meetR at e2 e5 ⊢
  split at e2
  · exact absurd e2 (by decide)
  · next c =>
    rw [if_neg c] at e5
    unfold btw at e2 e5 ⊢
    split at e2
    · exact absurd e2 (by decide)
    · next d =>
      rw [if_neg d] at e5
      simp only [if_neg c, if_neg d]
      dsimp only at d e2 e5 ⊢
      omega
theorem shR_sub {cs : List Rc} {s : St} (h : zEm (shR cs s) = false) : s.r.x ≤ (shR cs s).x ∧ (shR cs s).x + (shR cs s).w ≤ s.r.x + s.r.w ∧ s.r.y ≤ (shR cs s).y ∧ (shR cs s).y + (shR cs s).h ≤ s.r.y + s.r.h := by
  unfold shR at h ⊢
  split at h
  · exact absurd h (by decide)
  · next c =>
    rw [if_neg c]
    unfold topR at h ⊢
    split at h
    · exact ⟨Int.le_refl _, Int.le_refl _, Int.le_refl _, Int.le_refl _⟩
    · first | exact (meet_sub h).1 | exact (meet_sub h).2
/-- What is known of a pair. -/
structure PrF (p : St × Rc) : Prop where
  d : drw p.1 = true
  k : p.1.k = 1 ∨ p.1.k = 2 ∨ p.1.k = 3
  r : zMa p.1.r = true
  q : zMa p.2 = true
  t : p.1.t.size ≤ 65536
  i : zEm p.2 = false → p.1.r.x ≤ p.2.x ∧ p.2.x + p.2.w ≤ p.1.r.x + p.1.r.w ∧ p.1.r.y ≤ p.2.y ∧ p.2.y + p.2.h ≤ p.1.r.y + p.1.r.h
theorem fla_facts {l : List St} (h : chkS l = 0) : ∀ p ∈ flaL l, PrF p ∧ p.1 ∈ l := by
  intro p hp
  have h0 : clpE 0 l = 0 := by
    unfold chkS at h
    split at h
    · cases h
    · exact h
  unfold flaL at hp
  obtain ⟨ha, hd⟩ := List.mem_filter.1 hp
  obtain ⟨hm, c, hc⟩ := ann_mem l [] p ha
  have h1 := clpE_all l 0 h0 p.1 hm
  obtain ⟨z1, z2, -⟩ := oneE_zero h1
  have hd' : drw p.1 = true := by simpa using hd
  refine ⟨⟨hd', ?_, z1, by rw [hc]; exact shR_may _ _, oneE_text h1, fun he => by rw [hc] at he ⊢; exact shR_sub he⟩, hm⟩
  unfold drw at hd'
  simp at hd'
  omega

end Go.Proofs.YtfjbnejmcanamaaGreatDoor

/-
  Package cells: draw.
-/
namespace Go.Proofs.YtfjbnejmcanamaaGreatDoor
open Go.RowKit

/-- The tables that drawing reads, wherever the screen's cells alone have changed. -/
def TbD (W : World) : Prop := Tabs W ∧ (∃ mm, W.cell? ⟨4, 0, none⟩ = some (.int .i64 mm)) ∧ ∀ i j : Nat, i < 4 → j < 4 → W.cell? ⟨1, i * 4 + j, none⟩ = some (.int .i32 (([0, 9474, 9474, 9474, 9472, 9484, 9488, 9474, 9472, 9492, 9496, 9474, 9472, 9472, 9472, 9633] : List Int).getD (i * 4 + j) 0))

set_option maxRecDepth 20000 in
set_option maxHeartbeats 4000000 in
theorem draw_any (FR : LFrm) (lo g n cap a b x y m hh : Nat) (L : List Ce) (s : St) (w : World) (h : ScM lo w g n cap L) (hs : szB a b = true) (hN : (n : Int) = a * b) (hm : 0 < m) (hx : x + m ≤ a) (hy : y + hh ≤ b) (hc : s.c.ok ∧ s.b.ok) (hL : WfC L) (hr : zMa s.r = true) (hrx : s.r.x ≤ x) (hry : s.r.y ≤ y) (hrw : (x : Int) + m ≤ s.r.x + s.r.w) (hrh : (y : Int) + hh ≤ s.r.y + s.r.h) (hk : s.k = 1 ∨ s.k = 2 ∨ s.k = 3) (ht : s.t.size ≤ 100000) (HT : ∀ W, w.grownBy W (some g) → TbD W) :
    Calls Tryz.prog 27 #[.agg #[.int .i64 (a : Nat), .int .i64 (b : Nat), .slice (some ⟨g, 0, none⟩) n cap], (Value.agg #[.int .u8 s.k, .int .i64 s.r.x, .int .i64 s.r.y, .int .i64 s.r.w, .int .i64 s.r.h, .int .u8 s.c.r, .int .u8 s.c.g, .int .u8 s.c.b, .int .u8 s.c.a, .int .u8 s.b.r, .int .u8 s.b.g, .int .u8 s.b.b, .int .u8 s.b.a, .string s.t, .int .i64 s.n]), .agg #[.int .i64 (x : Nat), .int .i64 (y : Nat), .int .i64 (m : Nat), .int .i64 (hh : Nat)]] w fun e w' => e = .returned (.tuple #[]) ∧ ScM lo w' g n cap (updQ L a x y m hh (madK s a)) ∧ w.grownBy w' (some g) := by
  have hbd : -16384 ≤ s.r.x ∧ -16384 ≤ s.r.y := by
    obtain ⟨f1, f2, f3, f4, f5, f6, f7, f8⟩ := may_bd hr
    omega
  obtain ⟨V, hV⟩ : ∃ V, V = ((w.alloc (.cells #[.int .i64 (a : Nat), .int .i64 (b : Nat), .slice (some ⟨g, 0, none⟩) n cap] 36)).alloc (.cells (#[.int .u8 s.k, .int .i64 s.r.x, .int .i64 s.r.y, .int .i64 s.r.w, .int .i64 s.r.h, .int .u8 s.c.r, .int .u8 s.c.g, .int .u8 s.c.b, .int .u8 s.c.a, .int .u8 s.b.r, .int .u8 s.b.g, .int .u8 s.b.b, .int .u8 s.b.a, .string s.t, .int .i64 s.n]) 53)).alloc (.cells #[.int .i64 (x : Nat), .int .i64 (y : Nat), .int .i64 (m : Nat), .int .i64 (hh : Nat)] 51) := ⟨_, rfl⟩
  have hb : Below w.heap.size w V := by rw [hV]; exact (((Below.refl _ w).alloc (Nat.le_refl _) _).alloc (by simp) _).alloc (by simp; omega) _
  have hgr : w.grownBy V (some g) := ⟨hb.os, hb.tape, hb.output, hb.size, fun b hb' _ => hb.block b hb'⟩
  have hSc := h.below hb
  have HD : Hid (∀ f, (f = 45 ∧ s.k = 1) ∨ (f = 46 ∧ s.k = 2) ∨ (f = 47 ∧ s.k = 3) → Calls Tryz.prog f #[.agg #[.int .i64 (a : Nat), .int .i64 (b : Nat), .slice (some ⟨g, 0, none⟩) n cap], (Value.agg #[.int .u8 s.k, .int .i64 s.r.x, .int .i64 s.r.y, .int .i64 s.r.w, .int .i64 s.r.h, .int .u8 s.c.r, .int .u8 s.c.g, .int .u8 s.c.b, .int .u8 s.c.a, .int .u8 s.b.r, .int .u8 s.b.g, .int .u8 s.b.b, .int .u8 s.b.a, .string s.t, .int .i64 s.n]), .agg #[.int .i64 (x : Nat), .int .i64 (y : Nat), .int .i64 (m : Nat), .int .i64 (hh : Nat)]] V fun e w' => e = .returned (.tuple #[]) ∧ ScM lo w' g n cap (updQ L a x y m hh (madK s a)) ∧ w.grownBy w' (some g)) := fun f hf => by
    rcases hf with ⟨rfl, k⟩ | ⟨rfl, k⟩ | ⟨rfl, k⟩
    · refine (fillD_any lo g n cap a b x y m hh L s V hSc hs hN hm hx hy hc.1 hL).mono ?_
      rintro e w' ⟨rfl, q1, q2⟩
      exact ⟨rfl, by rw [madK_fill k]; exact q1, ob_transC hgr q2⟩
    · refine (FR lo g n cap a b x y m hh L s V hSc hs hN hm hx hy hc.1 hL hr hrx hry hrw hrh (fun W hW => (HT W (ob_transC hgr hW)).2.2)).mono ?_
      rintro e w' ⟨rfl, q1, q2⟩
      exact ⟨rfl, by rw [madK_frame k]; exact q1, ob_transC hgr q2⟩
    · refine (writeD_any lo g n cap a b x y m hh L s V hSc hs hN hm hx hy hc hL ⟨hbd.1, hrx⟩ ⟨hbd.2, hry⟩ ht (fun W hW => ⟨(HT W (ob_transC hgr hW)).1, (HT W (ob_transC hgr hW)).2.1⟩)).mono ?_
      rintro e w' ⟨rfl, q1, q2⟩
      exact ⟨rfl, by rw [madK_write k]; exact q1, ob_transC hgr q2⟩
  rw [hV] at HD
  clear hSc hgr hb hV h hc hL hr HT FR hbd
  rcases hk with k | k | k
  · have h1 : (s.k == 1) = true := by simp [k]
    have HC := HD.out _ (.inl ⟨rfl, k⟩)
    clear k HD
    go_enter Tryz.func27, Tryz.ntmps27
    go_wp2_with fail
    refine HC.mono ?_
    rintro e w' ⟨rfl, q1, q2⟩
    have HQ : Hid (ScM lo w' g n cap (updQ L a x y m hh (madK s a)) ∧ w.grownBy w' (some g)) := ⟨q1, q2⟩
    clear q1 q2 HC
    go_wp2
    go_end0
    exact ⟨rfl, HQ.out⟩
  · have h1 : (s.k == 1) = false := by simp [k]
    have h2 : (s.k == 2) = true := by simp [k]
    have HC := HD.out _ (.inr (.inl ⟨rfl, k⟩))
    clear k HD
    go_enter Tryz.func27, Tryz.ntmps27
    go_wp2_with fail
    refine HC.mono ?_
    rintro e w' ⟨rfl, q1, q2⟩
    have HQ : Hid (ScM lo w' g n cap (updQ L a x y m hh (madK s a)) ∧ w.grownBy w' (some g)) := ⟨q1, q2⟩
    clear q1 q2 HC
    go_wp2
    go_end0
    exact ⟨rfl, HQ.out⟩
  · have h1 : (s.k == 1) = false := by simp [k]
    have h2 : (s.k == 2) = false := by simp [k]
    have h3 : (s.k == 3) = true := by simp [k]
    have HC := HD.out _ (.inr (.inr ⟨rfl, k⟩))
    clear k HD
    go_enter Tryz.func27, Tryz.ntmps27
    go_wp2_with fail
    refine HC.mono ?_
    rintro e w' ⟨rfl, q1, q2⟩
    have HQ : Hid (ScM lo w' g n cap (updQ L a x y m hh (madK s a)) ∧ w.grownBy w' (some g)) := ⟨q1, q2⟩
    clear q1 q2 HC
    go_wp2
    go_end0
    exact ⟨rfl, HQ.out⟩

end Go.Proofs.YtfjbnejmcanamaaGreatDoor
