/-
  The calls of package flex: Share, Need, Most, Starts, Row.
-/
import Derived.Test.YtchjmmchflbfcaaXG
import Derived.Test.YtchjmmchflbfcaaXP5
namespace Go.Proofs.Ytchjmmchflbfcaa
open Go.RowKit

/-- A list and an error answered, in memory of the call's own. -/
def AnsI (w : World) (xs : List Int) (er : Int) (e : Ending) (w' : World) : Prop := ∃ v, e = .returned (.tuple #[v, .int .i64 er]) ∧ Hid (OwI w.heap.size w' v xs ∧ Below w.heap.size w w')

set_option maxHeartbeats 1000000 in
theorem Share_any (T : List Tk) (room : Int) (tv : Value) (w : World) (hT : TS w tv T) :
    Calls Try.prog 8 #[tv, .int .i64 room] w fun e w' => AnsI w (shL T room) (shE T room) e w' := by
  have HC := check_any T tv w hT
  have HTS : Hid (TS w tv T) := hT
  unfold shL shE
  by_cases h0 : chT T = 0
  · rw [if_pos h0, if_pos h0]
    obtain ⟨hn, hk⟩ := chT_zero h0
    rw [h0] at HC
    cases hr : rmB room
    · have HR := fun W => isRoom_any room W
      rw [hr] at HR
      clear h0 hk hT
      go_enter Try.func8, Try.ntmps8
      go_wp2_with fail
      refine HC.mono ?_
      rintro e w1 ⟨rfl, hb⟩
      have HB : Hid (Below w.heap.size w w1) := hb
      clear HC hb
      go_wp2_with fail
      refine (HR _).mono ?_
      rintro e w2 ⟨rfl, rfl⟩
      go_wp2
      go_ret2
      exact ⟨_, rfl, OwI.nil _ _, HB.out⟩
    · have HR := fun W => isRoom_any room W
      rw [hr] at HR
      have HS : Hid (∀ W, Below w.heap.size w W → Calls Try.prog 26 #[tv, .int .i64 room] W fun e w' => ∃ v, e = .returned v ∧ Hid (OwI W.heap.size w' v (shaR T room) ∧ Below W.heap.size W w')) := fun W hW => share_any T room tv W (HTS.out.below hW) hn hk ((rm_iff room).1 hr)
      clear h0 hk hT hr
      go_enter Try.func8, Try.ntmps8
      go_wp2_with fail
      refine HC.mono ?_
      rintro e w1 ⟨rfl, hb⟩
      have HB : Hid (Below w.heap.size w w1) := hb
      clear HC hb
      go_wp2_with fail
      refine (HR _).mono ?_
      rintro e w2 ⟨rfl, rfl⟩
      go_wp2_with fail
      refine (HS.out _ HB.out).mono ?_
      rintro e w3 ⟨v, rfl, H3⟩
      have HF : Hid (OwI w.heap.size w3 v (shaR T room) ∧ Below w.heap.size w w3) := ⟨H3.out.1.weaken HB.out.size, HB.out.trans (H3.out.2.mono HB.out.size)⟩
      go_wp2
      go_ret2
      exact ⟨_, rfl, HF⟩
  · rw [if_neg h0, if_neg h0]
    obtain ⟨er, Her⟩ : ∃ er, Hid (er = chT T) := ⟨_, rfl⟩
    rw [← Her.out] at HC ⊢
    have hne : (er != 0) = true := by rw [Her.out]; simpa using h0
    clear Her h0 hT
    go_enter Try.func8, Try.ntmps8
    go_wp2_with fail
    refine HC.mono ?_
    rintro e w1 ⟨rfl, hb⟩
    have HB : Hid (Below w.heap.size w w1) := hb
    clear HC hb
    go_wp2
    go_ret2
    exact ⟨_, rfl, OwI.nil _ _, HB.out⟩

set_option maxHeartbeats 1000000 in
theorem Need_any (T : List Tk) (tv : Value) (w : World) (hT : TS w tv T) :
    Calls Try.prog 10 #[tv] w fun e w' => e = .returned (.tuple #[.int .i64 (neN T), .int .i64 (chT T)]) ∧ Below w.heap.size w w' := by
  have HC := check_any T tv w hT
  have HTS : Hid (TS w tv T) := hT
  unfold neN
  by_cases h0 : chT T = 0
  · rw [if_pos h0]
    obtain ⟨hn, hk⟩ := chT_zero h0
    rw [h0] at HC ⊢
    have HS : Hid (∀ W, Below w.heap.size w W → Calls Try.prog 27 #[tv] W fun e w' => e = .returned (.int .i64 (mnS T)) ∧ Below W.heap.size W w') := fun W hW => need_any T tv W (HTS.out.below hW) hn hk
    clear h0 hk hT
    go_enter Try.func10, Try.ntmps10
    go_wp2_with fail
    refine HC.mono ?_
    rintro e w1 ⟨rfl, hb⟩
    have HB : Hid (Below w.heap.size w w1) := hb
    clear HC hb
    go_wp2_with fail
    refine (HS.out _ HB.out).mono ?_
    rintro e w3 ⟨rfl, hb⟩
    have HF : Hid (Below w.heap.size w w3) := HB.out.trans (hb.mono HB.out.size)
    clear hb
    go_wp2
    go_ret2
    exact ⟨rfl, HF.out⟩
  · rw [if_neg h0]
    obtain ⟨er, Her⟩ : ∃ er, Hid (er = chT T) := ⟨_, rfl⟩
    rw [← Her.out] at HC ⊢
    have hne : (er != 0) = true := by rw [Her.out]; simpa using h0
    clear Her h0 hT
    go_enter Try.func10, Try.ntmps10
    go_wp2_with fail
    refine HC.mono ?_
    rintro e w1 ⟨rfl, hb⟩
    have HB : Hid (Below w.heap.size w w1) := hb
    clear HC hb
    go_wp2
    go_ret2
    exact ⟨rfl, HB.out⟩

set_option maxRecDepth 10000 in
set_option maxHeartbeats 4000000 in
theorem Most_any (T : List Tk) (tv : Value) (w : World) (hT : TS w tv T) :
    Calls Try.prog 11 #[tv] w fun e w' => e = .returned (.tuple #[.int .i64 (moN T), .int .i64 (chT T)]) ∧ Below w.heap.size w w' := by
  have HC := check_any T tv w hT
  unfold moN
  by_cases h0 : chT T = 0
  · rw [if_pos h0]
    obtain ⟨hn, hk⟩ := chT_zero h0
    rw [h0] at HC ⊢
    have HTS : Hid (TS w tv T) := hT
    have HS : Hid (∀ W, Below w.heap.size w W → Calls Try.prog 27 #[tv] W fun e w' => e = .returned (.int .i64 (mnS T)) ∧ Below W.heap.size W w') := fun W hW => need_any T tv W (HTS.out.below hW) hn hk
    obtain ⟨oa, cap, rfl, hc, hg⟩ := hT
    have HG : Hid (0 < T.length → ∃ g o, oa = some ⟨g, o, none⟩ ∧ g < w.heap.size ∧ ∀ i (h : i < T.length), TkAt w g (o + i * 3) T[i]) := hg
    have HK : Hid (∀ t ∈ T, okT t) := hk
    have hmn := mnS_bd hk
    obtain ⟨R, HR⟩ : ∃ R : Int, Hid (R = mosI T) := ⟨_, rfl⟩
    rw [← HR.out]
    obtain ⟨mn, Hmn⟩ : ∃ mn : Int, Hid (mn = mnS T) := ⟨_, rfl⟩
    rw [← Hmn.out] at HS
    have hmn2 : 0 ≤ mn ∧ mn ≤ 16777216 := by rw [Hmn.out]; omega
    clear h0 hk hg hmn
    go_enter Try.func11, Try.ntmps11
    go_wp2_with fail
    refine HC.mono ?_
    rintro e w1 ⟨rfl, hb⟩
    have HB : Hid (Below w.heap.size w w1) := hb
    clear HC hb
    go_wp2_with fail
    refine (HS.out _ HB.out).mono ?_
    rintro e w3 ⟨rfl, hb⟩
    have HF : Hid (Below w.heap.size w w3) := HB.out.trans (hb.mono HB.out.size)
    clear hb HB HS
    go_wp2_with fail
    go_loopw [5, 7, 8, 9, 19] (fun s _ _ _ i wr => ∃ (k : Nat) (x : Int), k ≤ T.length ∧ i = .int .i64 k ∧ s = .int .i64 x ∧ Hid (x = mn + exS (T.take k) ∧ anyB (T.take k) = false ∧ Below w.heap.size w wr)) (fun _ _ _ _ i _ => T.length - (intOf i).toNat)
    case atStart => exact ⟨0, mn, Nat.zero_le _, rfl, rfl, by simp [exS], rfl, HF.out⟩
    case round =>
      obtain ⟨k, x, hkl, rfl, rfl, HI⟩ := hrel
      clear HF
      by_cases hlt : k < T.length
      · have ik : (k : Int) < T.length := by omega
        obtain ⟨g, o, rfl, hg, hat⟩ := HG.out (by omega)
        obtain ⟨x0, x1, x2⟩ := (hat k hlt).below HI.out.2.2 hg
        have hkt := HK.out T[k] (List.getElem_mem hlt)
        have hbd := exS_bd (T := T.take k) fun t ht => HK.out t (List.mem_of_mem_take ht)
        have hbx : -33554432 ≤ x ∧ x ≤ 33554432 := by
          rw [HI.out.1]
          have : (T.take k).length ≤ 1024 := by simp; omega
          omega
        have HG1 : Hid (∀ W, Calls Try.prog 28 #[.agg #[.int .i64 T[k].mn, .int .i64 T[k].mx, .int .i64 T[k].gr]] W fun e w' => e = .returned (.bool (decide (0 < T[k].gr))) ∧ Below W.heap.size W w') := fun W => grows_any _ W
        have HG2 : Hid (∀ W, Calls Try.prog 29 #[.agg #[.int .i64 T[k].mn, .int .i64 T[k].mx, .int .i64 T[k].gr]] W fun e w' => e = .returned (.tuple #[.int .i64 (if T[k].mx = 0 then 0 else T[k].mx - T[k].mn), .bool (!(T[k].mx == 0))]) ∧ Below W.heap.size W w') := fun W => lacks_any _ hkt W
        have HN : Hid (exS (T.take (k + 1)) = exS (T.take k) + (if T[k].gr = 0 then 0 else T[k].mx - T[k].mn) ∧ anyB (T.take (k + 1)) = (anyB (T.take k) || (!(T[k].gr == 0) && T[k].mx == 0))) := by
          unfold Hid
          rw [← List.take_append_getElem hlt, exS_snoc, anyB_snoc]
          exact ⟨rfl, rfl⟩
        have HT : Hid (anyB (T.take (k + 1)) = true → R = -1) := fun h => by rw [HR.out]; unfold mosI; rw [if_pos (anyB_take h)]
        have HB : Hid (∀ o W, Below (wr.alloc o).heap.size (wr.alloc o) W → Below w.heap.size w W ∧ Below wr.heap.size wr W) := fun o W h => ⟨(HI.out.2.2.alloc HI.out.2.2.size o).trans (h.mono (by rw [World.size_alloc]; exact Nat.le_succ_of_le HI.out.2.2.size)), ((Below.refl _ wr).alloc (Nat.le_refl _) o).trans (h.mono (by simp))⟩
        have HX : Hid (x = mn + exS (T.take k) ∧ anyB (T.take k) = false) := ⟨HI.out.1, HI.out.2.1⟩
        obtain ⟨o1, o2, o3, o4, o5⟩ := hkt
        clear hat HI hbd
        generalize T[k] = q at *
        go_wp2_with fail
        refine (HG1.out _).mono ?_
        rintro e w4 ⟨rfl, hb4⟩
        have t0 : w4.cell? ⟨wr.heap.size, 0, none⟩ = some (.int .i64 q.mn) := (hb4.cell (p := ⟨wr.heap.size, 0, none⟩) (by simp)).trans (by rw [(Bk.new wr #[.int .i64 q.mn, .int .i64 q.mx, .int .i64 q.gr] 27).cell]; rfl)
        have t1 : w4.cell? ⟨wr.heap.size, 1, none⟩ = some (.int .i64 q.mx) := (hb4.cell (p := ⟨wr.heap.size, 1, none⟩) (by simp)).trans (by rw [(Bk.new wr #[.int .i64 q.mn, .int .i64 q.mx, .int .i64 q.gr] 27).cell]; rfl)
        have t2 : w4.cell? ⟨wr.heap.size, 2, none⟩ = some (.int .i64 q.gr) := (hb4.cell (p := ⟨wr.heap.size, 2, none⟩) (by simp)).trans (by rw [(Bk.new wr #[.int .i64 q.mn, .int .i64 q.mx, .int .i64 q.gr] 27).cell]; rfl)
        have H4 : Hid (Below w.heap.size w w4) := (HB.out _ _ hb4).1
        clear hb4 HB HG1 x0 x1 x2
        by_cases hgr : 0 < q.gr
        · have hg0 : q.gr ≠ 0 := by omega
          have Hg0 : Hid (q.gr ≠ 0 ∧ (q.gr == 0) = false) := ⟨hg0, by simpa using hg0⟩
          clear hg0
          go_wp2_with fail
          refine (HG2.out _).mono ?_
          rintro e w5 ⟨rfl, hb5⟩
          have H5 : Hid (Below w.heap.size w w5) := H4.out.trans (hb5.mono H4.out.size)
          clear hb5 t0 t1 t2
          cases hm : (q.mx == 0)
          · have hm2 : q.mx ≠ 0 := by simpa using hm
            rw [if_neg hm2]
            have HE : Hid (x + (q.mx - q.mn) = mn + exS (T.take (k + 1)) ∧ anyB (T.take (k + 1)) = false) := by
              refine ⟨?_, ?_⟩
              · rw [HN.out.1, if_neg Hg0.out.1, HX.out.1]; omega
              · rw [HN.out.2, HX.out.2, hm]; simp
            have hwx : IntKind.i64.wrap (x + (q.mx - q.mn)) = x + (q.mx - q.mn) := by rw [IntKind.wrap_i64]; omega
            clear HN HT HX hm2 o3
            go_wp2
            exact ⟨⟨k + 1, x + (q.mx - q.mn), by omega, by go_num, rfl, HE.out.1, HE.out.2, H5.out⟩, by simp [intOf]; omega⟩
          · have hm2 : q.mx = 0 := by simpa using hm
            rw [if_pos hm2]
            have hR : Hid (R = -1) := HT.out (by rw [HN.out.2, HX.out.2, hm, Hg0.out.2]; rfl)
            clear hm2
            clear HN HT HX o3
            go_wp2
            go_ret2
            exact ⟨by rw [hR.out]; rfl, H5.out⟩
        · have hg0 : q.gr = 0 := by omega
          have HE : Hid (x = mn + exS (T.take (k + 1)) ∧ anyB (T.take (k + 1)) = false) := by
            refine ⟨?_, ?_⟩
            · rw [HN.out.1, if_pos hg0, HX.out.1]; omega
            · rw [HN.out.2, HX.out.2, hg0]; rfl
          rw [decide_eq_false hgr]
          clear HN HT HX hg0 t0 t1 t2 o3 hgr
          go_wp2
          exact ⟨⟨k + 1, x, by omega, by go_num, rfl, HE.out.1, HE.out.2, H4.out⟩, by simp [intOf]; omega⟩
      · obtain rfl : k = T.length := by omega
        have HE : Hid (x = R ∧ Below w.heap.size w wr) := by
          obtain ⟨h1, h2, h3⟩ := HI.out
          rw [List.take_length] at h1 h2
          refine ⟨?_, h3⟩
          rw [HR.out]
          unfold mosI
          rw [if_neg (by rw [h2]; decide), top_ex, h1, Hmn.out]
        clear HI
        go_wp2
        go_ret2
        exact ⟨by rw [HE.out.1]; rfl, HE.out.2⟩
  · rw [if_neg h0]
    obtain ⟨er, Her⟩ : ∃ er, Hid (er = chT T) := ⟨_, rfl⟩
    rw [← Her.out] at HC ⊢
    have hne : (er != 0) = true := by rw [Her.out]; simpa using h0
    clear Her h0 hT
    go_enter Try.func11, Try.ntmps11
    go_wp2_with fail
    refine HC.mono ?_
    rintro e w1 ⟨rfl, hb⟩
    have HB : Hid (Below w.heap.size w w1) := hb
    clear HC hb
    go_wp2
    go_ret2
    exact ⟨rfl, HB.out⟩

end Go.Proofs.Ytchjmmchflbfcaa
