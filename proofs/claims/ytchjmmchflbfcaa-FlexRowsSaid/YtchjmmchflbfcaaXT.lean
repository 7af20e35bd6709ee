/-
  FlexShares: any tracks in any room: what each has, needed, most; what is handed in stays, what is answered is new memory.
-/
import Derived.Test.YtchjmmchflbfcaaXW
namespace Go.Proofs.Ytchjmmchflbfcaa
open Go.RowKit

/-- A row written over: so many numbers still, all else as it was. -/
def Ovr (W : World) (lo n : Nat) (v : Value) (wr : World) : Prop := W.grownBy wr v.ownBlock ∧ ∃ X : List Int, X.length = n ∧ wr.ownsRow lo 3 1 v n (flatI X)
theorem Ovr.put {W : World} {lo n g cap : Nat} {wr : World} (h : Ovr W lo n (.slice (some ⟨g, 0, none⟩) n cap) wr) (k : Nat) (z : Int) : Ovr W lo n (.slice (some ⟨g, 0, none⟩) n cap) (wr.setCell ⟨g, k, none⟩ (.int .i64 z)) := by
  obtain ⟨h1, X, h2, h3⟩ := h
  refine ⟨grow_tr h1 (grow_set _ _ _ _) (.inl rfl), X.set k z, by simp [h2], ?_⟩
  rw [flatI_set]
  exact own_set h3 k _
theorem Ovr.at {W : World} {lo n g cap : Nat} {wr : World} (h : Ovr W lo n (.slice (some ⟨g, 0, none⟩) n cap) wr) (k : Nat) (hk : k < n) : (∃ z, wr.cell? ⟨g, k, none⟩ = some z) ∧ wr.frozen? ⟨g, k, none⟩ = false := by
  obtain ⟨_, X, h2, h3⟩ := h
  exact ⟨⟨_, (own_cell h3 k (by omega)).trans (flatI_at X k (by omega))⟩, own_frozen h3 k⟩
theorem len_small {T : List Tk} {room : Int} : (shL T room).length ≤ 1024 := by
  unfold shL
  by_cases h : chT T = 0
  · rw [if_pos h]
    split
    · rw [shaR_len (chT_zero h).2]; exact (chT_zero h).1
    · simp
  · rw [if_neg h]; simp

set_option maxRecDepth 10000 in
set_option maxHeartbeats 8000000 in
theorem shares_walk (T : List Tk) (room : Int) (tv : Value) (w : World) (hT : TS w tv T) (hnn : NoNil tv) (hlen : T.length ≤ 9223372036854775807) :
    Calls Try.prog 4 #[tv, .int .i64 room] w fun e w' => e = .returned (.bool true) ∧ Below w.heap.size w w' := by
  have HTS : Hid (TS w tv T) := hT
  have HOw : Hid (T.length ≤ 5000 → Calls Try.prog 16 #[tv] w fun e w' => ∃ g cap, e = .returned (.slice (some ⟨g, 0, none⟩) (T.length + 1) cap) ∧ Hid (Inn w.heap.size w' g cap T ∧ Below w.heap.size w w')) := fun h => own_any T tv w hT hnn h
  obtain ⟨oa, oc, rfl, hoc, _⟩ := hT
  by_cases h5 : 5000 < T.length
  · have i5 : (5000 : Int) < T.length := by omega
    have HB : Hid (Below w.heap.size w w) := Below.refl _ _
    clear HOw
    go_enter Try.func4, Try.ntmps4
    go_wp2
    go_ret
    exact ⟨rfl, HB.out⟩
  have i5 : ¬ (5000 : Int) < T.length := by omega
  have hl5 : T.length ≤ 5000 := by omega
  have HO := HOw.out hl5
  obtain ⟨xs, er, HXE⟩ : ∃ xs er, Hid (xs = shL T room ∧ er = shE T room) := ⟨shL T room, shE T room, rfl, rfl⟩
  have hxl : xs.length ≤ 1024 := by rw [HXE.out.1]; exact len_small
  have A1 : Hid (∀ W v, TS W v T → Calls Try.prog 8 #[v, .int .i64 room] W fun e w' => AnsI W xs er e w') := fun W v h => by rw [HXE.out.1, HXE.out.2]; exact Share_any T room v W h
  have A2 : Hid (∀ W v, TS W v T → Calls Try.prog 17 #[v, .int .i64 room] W fun e w' => AnsI W xs er e w') := fun W v h => by rw [HXE.out.1, HXE.out.2]; exact rShare_any T room v W h
  obtain ⟨nd, mo, ch, HNM⟩ : ∃ nd mo ch, Hid (nd = neN T ∧ mo = moN T ∧ ch = chT T) := ⟨neN T, moN T, chT T, rfl, rfl, rfl⟩
  have A3 : Hid (∀ W v, TS W v T → Calls Try.prog 10 #[v] W fun e w' => e = .returned (.tuple #[.int .i64 nd, .int .i64 ch]) ∧ Below W.heap.size W w') := fun W v h => by rw [HNM.out.1, HNM.out.2.2]; exact Need_any T v W h
  have A4 : Hid (∀ W v, TS W v T → Calls Try.prog 19 #[v] W fun e w' => e = .returned (.tuple #[.int .i64 nd, .int .i64 ch]) ∧ Below W.heap.size W w') := fun W v h => by rw [HNM.out.1, HNM.out.2.2]; exact rNeed_any T v W h
  have A5 : Hid (∀ W v, TS W v T → Calls Try.prog 11 #[v] W fun e w' => e = .returned (.tuple #[.int .i64 mo, .int .i64 ch]) ∧ Below W.heap.size W w') := fun W v h => by rw [HNM.out.2.1, HNM.out.2.2]; exact Most_any T v W h
  have A6 : Hid (∀ W v, TS W v T → Calls Try.prog 20 #[v] W fun e w' => e = .returned (.tuple #[.int .i64 mo, .int .i64 ch]) ∧ Below W.heap.size W w') := fun W v h => by rw [HNM.out.2.1, HNM.out.2.2]; exact rMost_any T v W h
  have A7 : Hid (∀ W v u, IS W v xs → IS W u xs → Calls Try.prog 18 #[v, u] W fun e w' => e = .returned (.bool true) ∧ Below W.heap.size W w') := fun W v u h k => by
    have := same_any xs xs v u W h k (by omega)
    rwa [decide_eq_true rfl] at this
  have A8 : Hid (∀ W g cap v, Inn w.heap.size W g cap T → TS W v T → Calls Try.prog 21 #[.slice (some ⟨g, 0, none⟩) (T.length + 1) cap, v] W fun e w' => e = .returned (.bool true) ∧ Below W.heap.size W w') := fun W g cap v h k => kept_any w.heap.size g cap T v W h k hl5
  clear HOw HXE HNM
  go_enter Try.func4, Try.ntmps4
  go_wp2_with fail
  refine HO.mono ?_
  rintro e w1 ⟨gi, ci, rfl, H1⟩
  have hci : T.length + 1 ≤ ci := H1.out.1.lt.2.2
  have F : Hid (Below w.heap.size w w1 ∧ Inn w.heap.size w1 gi ci T) := ⟨H1.out.2, H1.out.1⟩
  clear H1 HO
  go_wp2_with fail
  refine (A1.out _ _ F.out.2.ts).mono ?_
  rintro e w2 ⟨va, rfl, HV⟩
  replace F : Hid (Below w.heap.size w w2 ∧ Inn w.heap.size w2 gi ci T ∧ RwI w1.heap.size w2.heap.size w2 va xs ∧ gi < w1.heap.size ∧ w.heap.size ≤ w1.heap.size) := ⟨F.out.1.trans (HV.out.2.mono F.out.1.size), F.out.2.below HV.out.2, rwi_of HV.out.1, F.out.2.lt.2.1, F.out.1.size⟩
  clear HV
  go_wp2_with fail
  refine (A1.out _ _ F.out.2.1.ts).mono ?_
  rintro e w3 ⟨vb, rfl, HV⟩
  replace F : Hid (Below w.heap.size w w3 ∧ Inn w.heap.size w3 gi ci T ∧ RwI w1.heap.size w2.heap.size w3 va xs ∧ RwI w2.heap.size w3.heap.size w3 vb xs ∧ gi < w1.heap.size ∧ w.heap.size ≤ w1.heap.size) := ⟨F.out.1.trans (HV.out.2.mono F.out.1.size), F.out.2.1.below HV.out.2, F.out.2.2.1.below HV.out.2, rwi_of HV.out.1, F.out.2.2.2⟩
  have HSz : Hid (w2.heap.size ≤ w3.heap.size) := HV.out.2.size
  clear HV A1
  go_wp2_with fail
  refine (A2.out _ _ (HTS.out.below F.out.1)).mono ?_
  rintro e w4 ⟨vc, rfl, HV⟩
  replace F : Hid (Below w.heap.size w w4 ∧ Inn w.heap.size w4 gi ci T ∧ RwI w1.heap.size w2.heap.size w4 va xs ∧ RwI w2.heap.size w3.heap.size w4 vb xs ∧ RwI w3.heap.size w4.heap.size w4 vc xs ∧ gi < w1.heap.size ∧ w.heap.size ≤ w1.heap.size) := ⟨F.out.1.trans (HV.out.2.mono F.out.1.size), F.out.2.1.below HV.out.2, F.out.2.2.1.below HV.out.2, F.out.2.2.2.1.below HV.out.2, rwi_of HV.out.1, F.out.2.2.2.2⟩
  clear HV A2
  go_wp2_with fail
  refine (A7.out _ _ _ F.out.2.2.1.1.is F.out.2.2.2.2.1.1.is).mono ?_
  rintro e w5 ⟨rfl, hb⟩
  replace F : Hid (Below w.heap.size w w5 ∧ Inn w.heap.size w5 gi ci T ∧ RwI w1.heap.size w2.heap.size w5 va xs ∧ RwI w2.heap.size w3.heap.size w5 vb xs ∧ RwI w3.heap.size w4.heap.size w5 vc xs ∧ gi < w1.heap.size ∧ w.heap.size ≤ w1.heap.size) := ⟨F.out.1.trans (hb.mono F.out.1.size), F.out.2.1.below hb, F.out.2.2.1.below hb, F.out.2.2.2.1.below hb, F.out.2.2.2.2.1.below hb, F.out.2.2.2.2.2⟩
  clear hb
  obtain ⟨aa, ac, e, hac, hag⟩ := row_val F.out.2.2.1.1
  subst e
  have HAg : Hid (0 < xs.length → ∃ g, aa = some ⟨g, 0, none⟩) := fun h => by
    obtain ⟨g, e, _⟩ := hag h
    exact ⟨g, e⟩
  have H0 : Hid (Ovr w5 w1.heap.size xs.length (.slice aa xs.length ac) w5) := ⟨World.grownBy.refl _ _, xs, rfl, F.out.2.2.1.1⟩
  clear hag
  go_wp2_with fail
  go_loopw [12] (fun i wr => ∃ k : Nat, i = .int .i64 k ∧ k ≤ xs.length ∧ Hid (Ovr w5 w1.heap.size xs.length (.slice aa xs.length ac) wr)) (fun i _ => xs.length - (intOf i).toNat)
  case atStart => exact ⟨0, rfl, Nat.zero_le _, H0⟩
  case round =>
    obtain ⟨k, rfl, hk, HR⟩ := hrel
    clear H0
    by_cases hlt : k < xs.length
    · have ik : (k : Int) < xs.length := by omega
      obtain ⟨g, rfl⟩ := HAg.out (by omega)
      obtain ⟨⟨z, c0⟩, f0⟩ := HR.out.at k hlt
      have HN : Hid (Ovr w5 w1.heap.size xs.length (.slice (some ⟨g, 0, none⟩) xs.length ac) (wr.setCell ⟨g, k, none⟩ (.int .i64 77))) := HR.out.put k 77
      clear HR
      go_wp2
      exact ⟨⟨k + 1, by go_num, by omega, HN⟩, by simp [intOf]; omega⟩
    · obtain rfl : k = xs.length := by omega
      generalize wr = w6 at *
      have G : Hid (Below w.heap.size w w6 ∧ Inn w.heap.size w6 gi ci T ∧ IS w6 vb xs ∧ IS w6 vc xs) := by
        obtain ⟨f1, f2, f3, f4, f5, f6, f7⟩ := F.out
        have hg := HR.out.1
        exact ⟨grow_belowI f1 f3 f7 f1.size hg, f2.kept f3 f6 hg, (f4.kept f3 (.inr (Nat.le_refl _)) hg).1.is, (f5.kept f3 (.inr HSz.out) hg).1.is⟩
      clear HR F HSz
      go_wp2_with fail
      refine (A3.out _ _ G.out.2.1.ts).mono ?_
      rintro e w7 ⟨rfl, hb⟩
      replace G : Hid (Below w.heap.size w w7 ∧ Inn w.heap.size w7 gi ci T ∧ IS w7 vb xs ∧ IS w7 vc xs) := ⟨G.out.1.trans (hb.mono G.out.1.size), G.out.2.1.below hb, G.out.2.2.1.below hb, G.out.2.2.2.below hb⟩
      clear hb A3
      go_wp2_with fail
      refine (A4.out _ _ (HTS.out.below G.out.1)).mono ?_
      rintro e w8 ⟨rfl, hb⟩
      replace G : Hid (Below w.heap.size w w8 ∧ Inn w.heap.size w8 gi ci T ∧ IS w8 vb xs ∧ IS w8 vc xs) := ⟨G.out.1.trans (hb.mono G.out.1.size), G.out.2.1.below hb, G.out.2.2.1.below hb, G.out.2.2.2.below hb⟩
      clear hb A4
      go_wp2_with fail
      refine (A5.out _ _ G.out.2.1.ts).mono ?_
      rintro e w9 ⟨rfl, hb⟩
      replace G : Hid (Below w.heap.size w w9 ∧ Inn w.heap.size w9 gi ci T ∧ IS w9 vb xs ∧ IS w9 vc xs) := ⟨G.out.1.trans (hb.mono G.out.1.size), G.out.2.1.below hb, G.out.2.2.1.below hb, G.out.2.2.2.below hb⟩
      clear hb A5
      go_wp2_with fail
      refine (A6.out _ _ (HTS.out.below G.out.1)).mono ?_
      rintro e w10 ⟨rfl, hb⟩
      replace G : Hid (Below w.heap.size w w10 ∧ Inn w.heap.size w10 gi ci T ∧ IS w10 vb xs ∧ IS w10 vc xs) := ⟨G.out.1.trans (hb.mono G.out.1.size), G.out.2.1.below hb, G.out.2.2.1.below hb, G.out.2.2.2.below hb⟩
      clear hb A6
      go_wp2_with fail
      refine (A7.out _ _ _ G.out.2.2.1 G.out.2.2.2).mono ?_
      rintro e w11 ⟨rfl, hb⟩
      replace G : Hid (Below w.heap.size w w11 ∧ Inn w.heap.size w11 gi ci T) := ⟨G.out.1.trans (hb.mono G.out.1.size), G.out.2.1.below hb⟩
      clear hb A7
      go_wp2_with fail
      refine (A8.out _ _ _ _ G.out.2 (HTS.out.below G.out.1)).mono ?_
      rintro e w12 ⟨rfl, hb⟩
      have HF : Hid (Below w.heap.size w w12) := G.out.1.trans (hb.mono G.out.1.size)
      clear hb A8 G
      go_wp2
      go_ret
      exact ⟨rfl, HF.out⟩

end Go.Proofs.Ytchjmmchflbfcaa
