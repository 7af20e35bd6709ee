/-
  The contract of runes.Cut.
-/
import Derived.Test.YtlooemhaoikidaaDoorRN
namespace Go.Proofs.YtlooemhaoikidaaDoor
open Go.RowKit Go.Shelf

theorem grow_to (s : ByteArray) : ∀ f a r q, ∀ x ∈ grow s f a r q, x.to ≤ s.size
  | 0, _, _, _ => by simp [grow]
  | f + 1, a, r, q => by
    intro x hx
    by_cases hq : q < s.size
    · cases h : (mrk (rn s q) && !ctl r)
      · rw [grow_out hq h] at hx
        rcases List.mem_cons.1 hx with rfl | hx
        · exact Nat.le_of_lt hq
        · exact grow_to s f q (rn s q) (q + sz s q) x hx
      · rw [grow_in hq h] at hx
        exact grow_to s f a r (q + sz s q) x hx
    · rw [grow_end hq, List.mem_singleton] at hx
      subst hx
      exact Nat.le_refl _
theorem pcs_to (s : ByteArray) (x : Pc) (hx : x ∈ pcs s) : x.to ≤ s.size := by
  unfold pcs at hx
  split at hx
  · cases hx
  · exact grow_to s _ _ _ _ x hx
theorem fitL_le (n : Nat) : ∀ (l : List Pc) (room : Int) (e : Nat), e ≤ n → (∀ x ∈ l, x.to ≤ n) → fitL l room e ≤ n
  | [], _, _, he, _ => he
  | x :: t, room, e, he, h => by
    rw [fitL]
    split
    · exact he
    · exact fitL_le n t _ _ (h x (by simp)) (fun y hy => h y (by simp [hy]))
theorem fit_le (s : ByteArray) (room : Int) : fitL (pcs s) room 0 ≤ s.size := fitL_le _ _ _ _ (Nat.zero_le _) (pcs_to s)

/-- What Cut answers. -/
def cutS (s : ByteArray) (cells : Int) (mark : ByteArray) : ByteArray :=
  if sumC (pcs s) ≤ max cells 0 then s else if max cells 0 < sumC (pcs mark) then s.extract 0 (fitL (pcs s) (max cells 0) 0) else s.extract 0 (fitL (pcs s) (max cells 0 - sumC (pcs mark)) 0) ++ mark
def cutB (s : ByteArray) (cells : Int) : Bool := decide (max cells 0 < sumC (pcs s))

set_option maxHeartbeats 1000000 in
theorem cut_any (s : ByteArray) (cells : Int) (mark : ByteArray) (w : World) (T : Tabs w) (hs : Short s) (hm : Short mark) (hc : cells ≤ 9223372036854775807) :
    Calls Tryd.prog 18 #[.string s, .int .i64 cells, .string mark] w fun e w' => e = .returned (.tuple #[.string (cutS s cells mark), .bool (cutB s cells)]) ∧ Below w.heap.size w w' := by
  obtain ⟨room, hroom⟩ : ∃ room, room = max cells 0 := ⟨_, rfl⟩
  have hr0 : 0 ≤ room := by omega
  have hr1 : room ≤ 9223372036854775807 := by omega
  have hmx : (if cells < 0 then 0 else cells) = room := by rw [hroom]; omega
  have HR : Hid (room = max cells 0) := hroom
  have HT : Hid (Tabs w) := T
  obtain ⟨x0, x1⟩ := sumC_range (pcs s)
  obtain ⟨y0, y1⟩ := sumC_range (pcs mark)
  have hl1 : (pcs s).length ≤ 1099511627776 := Nat.le_trans (pcs_len s) hs
  have hl2 : (pcs mark).length ≤ 1099511627776 := Nat.le_trans (pcs_len mark) hm
  clear hroom T
  go_enter Tryd.func18, Tryd.ntmps18
  go_wp2_with fail
  refine (cells_any _ _ HT.out hs).mono ?_
  rintro e w1 ⟨rfl, hb⟩
  have HB : Hid (Below w.heap.size w w1) := hb
  clear hb
  by_cases h1 : sumC (pcs s) ≤ room
  · go_wp2
    go_ret2
    have hr := HR.out
    exact ⟨by rw [cutS, cutB, ← hr, if_pos h1, decide_eq_false (by omega)]; rfl, HB.out⟩
  · go_wp2_with fail
    refine (cells_any _ _ (HT.out.below HB.out) hm).mono ?_
    rintro e w2 ⟨rfl, hb⟩
    have HC : Hid (Below w.heap.size w w2) := HB.out.trans (hb.mono HB.out.size)
    clear hb
    by_cases h2 : room < sumC (pcs mark)
    · go_wp2_with fail
      refine (fitting_any _ _ _ (HT.out.below HC.out) hr0 hr1).mono ?_
      rintro e w3 ⟨rfl, hb⟩
      have HD : Hid (Below w.heap.size w w3) := HC.out.trans (hb.mono HC.out.size)
      have hle := fit_le s room
      clear hb
      have HE : Hid (fitL (pcs s) room 0 = fitL (pcs s) room 0) := rfl
      generalize hk : fitL (pcs s) room 0 = k at *
      have HK : Hid (fitL (pcs s) room 0 = k) := hk
      clear hk
      go_wp2
      go_ret2
      have hr := HR.out
      refine ⟨?_, HD.out⟩
      rw [cutS, cutB, ← hr, if_neg (by omega), if_pos h2, decide_eq_true (show room < sumC (pcs s) by omega), HK.out]
      rfl
    · go_wp2_with fail
      refine (fitting_any _ _ _ (HT.out.below HC.out) (by omega) (by omega)).mono ?_
      rintro e w3 ⟨rfl, hb⟩
      have HD : Hid (Below w.heap.size w w3) := HC.out.trans (hb.mono HC.out.size)
      have hle := fit_le s (room - sumC (pcs mark))
      clear hb
      generalize hk : fitL (pcs s) (room - sumC (pcs mark)) 0 = k at *
      have HK : Hid (fitL (pcs s) (room - sumC (pcs mark)) 0 = k) := hk
      clear hk
      go_wp2
      go_ret2
      have hr := HR.out
      refine ⟨?_, HD.out⟩
      rw [cutS, cutB, ← hr, if_neg (by omega), if_neg (by omega), decide_eq_true (show room < sumC (pcs s) by omega), HK.out]
      rfl

end Go.Proofs.YtlooemhaoikidaaDoor
