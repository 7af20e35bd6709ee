/-
  Contracts of the document's answer for layer 3: what fits, a cut text.
-/
import Derived.Test.YtlooemhaoikidaaDoorF6
import Derived.Test.YtlooemhaoikidaaDoorRU
import Derived.Test.YtlooemhaoikidaaDoorRPc
namespace Go.Proofs.YtlooemhaoikidaaDoor
open Go.RowKit Go.Shelf

/-- The document's way: the first piece with which it is too much; there it ends. -/
def ftR : List Pc → Int → Option Nat
  | [], _ => none
  | x :: t, room => if room < width x.r then some x.fr else ftR t (room - width x.r)
theorem ft_fit (N : Nat) : ∀ (l : List Pc) (room : Int) (e : Nat), Ch N e l → lastTo l e = N → fitL l room e = (ftR l room).getD N
  | [], _, e, _, h => by rw [fitL, ftR]; exact h
  | x :: t, room, e, hc, h => by
    obtain ⟨h1, h2, h3, h4⟩ := hc
    rw [fitL, ftR]
    by_cases c : room < width x.r
    · rw [if_pos (by omega), if_pos c]; exact h1.symm
    · rw [if_neg (by omega), if_neg c]
      exact ft_fit N t _ _ h4 h
theorem ft_pcs (s : ByteArray) (room : Int) : (ftR (pcs s) room).getD s.size = fitL (pcs s) room 0 := (ft_fit s.size _ _ _ (pcs_ch s) (pcs_last s)).symm
theorem ft_drop (l : List Pc) (room : Int) (k : Nat) (h : k < l.length) : ftR (l.drop k) room = if room < width l[k].r then some l[k].fr else ftR (l.drop (k + 1)) (room - width l[k].r) := by
  rw [List.drop_eq_getElem_cons h, ftR]
theorem ext_all (s : ByteArray) : s.extract 0 s.size = s := by
  apply ByteArray.ext
  simp

set_option maxRecDepth 10000 in
set_option maxHeartbeats 1000000 in
theorem rfits_any (s : ByteArray) (cells : Int) (w : World) (hs : s.size ≤ 1048576) :
    Calls Tryd.prog 45 #[.string s, .int .i64 cells] w fun e w' => e = .returned (.string (s.extract 0 (fitL (pcs s) cells 0))) ∧ Below w.heap.size w w' := by
  have HP : Hid (∀ w, Calls Tryd.prog 33 #[.string s] w fun e w' => ∃ v, e = .returned v ∧ w'.ownsRow w.heap.size 51 4 v (pcs s).length (flatP (pcs s)) ∧ Below w.heap.size w w') := fun w => rpieces_any s w hs
  have hlen := pcs_len s
  have HX : Hid ((ftR (pcs s) cells).getD s.size = fitL (pcs s) cells 0) := ft_pcs s cells
  have HTo : Hid (∀ x ∈ pcs s, x.fr ≤ s.size) := fun x hx => by
    obtain ⟨k, hk, rfl⟩ := List.getElem_of_mem hx
    have h := pcs_to s _ hx
    have hc := pcs_ch s
    obtain ⟨pre, rest, e⟩ := List.append_of_mem hx
    rw [e] at hc
    obtain ⟨⟨c1, c2, c3, _⟩, _⟩ := ch_split pre _ 0 hc
    omega
  generalize fitL (pcs s) cells 0 = fx at *
  generalize pcs s = l at *
  go_enter Tryd.func45, Tryd.ntmps45
  go_wp2_with fail
  refine (HP.out _).mono ?_
  rintro e w1 ⟨v, rfl, hown, hb⟩
  obtain ⟨ao, cap, rfl, hcap, hR⟩ := row_at hown
  have HR : Hid (RowAt w1 ao l ∧ Below w.heap.size w w1) := ⟨hR, hb⟩
  clear hown hR hb
  go_wp2
  go_loopw [6, 7] (fun n i wr => ∃ k : Nat, k ≤ l.length ∧ i = .int .i64 k ∧ n = .int .i64 (sumC (l.take k)) ∧ ftR l cells = ftR (l.drop k) (cells - sumC (l.take k)) ∧ wr = w1) (fun _ i _ => l.length - (intOf i).toNat)
  case atStart => exact ⟨0, Nat.zero_le _, rfl, by simp [sumC], by simp [sumC], rfl⟩
  case round =>
    obtain ⟨k, hk, rfl, rfl, hft, rfl⟩ := hrel
    by_cases hlt : k < l.length
    · obtain ⟨g, hao, c0, c1, c2, c3⟩ := HR.out.1 k hlt
      subst hao
      have HE : Hid (sumC (l.take (k + 1)) = sumC (l.take k) + width l[k].r) := sum_take l k hlt
      have hb1 := sum_bd (l.take k)
      have hb2 := width_range l[k].r
      have hfr := HTo.out l[k] (List.getElem_mem hlt)
      rw [ft_drop l _ k hlt] at hft
      rw [List.length_take] at hb1
      generalize sumC (l.take k) = m at *
      generalize width l[k].r = d at *
      by_cases hc : cells < m + d
      · rw [if_pos (by omega)] at hft
        have HY : Hid (l[k].fr = fx) := by unfold Hid; rw [← HX.out, hft]; rfl
        generalize l[k].fr = fr at *
        clear c1 c2 hft
        go_wp2
        go_ret
        exact ⟨by rw [← HY.out]; rfl, HR.out.2⟩
      · rw [if_neg (by omega)] at hft
        have HY : Hid (ftR l cells = ftR (l.drop (k + 1)) (cells - (m + d))) := by unfold Hid; rw [hft]; congr 1; omega
        clear c0 c1 c2 hft
        go_wp2
        go_roundw
        case rel => exact ⟨k + 1, by omega, by go_num, by rw [HE.out], by rw [HE.out]; exact HY.out, by first | rfl | trivial⟩
        case measure => simp [intOf]; omega
    · obtain rfl : k = l.length := by omega
      have HY : Hid (fx = s.size) := by unfold Hid; rw [← HX.out, hft, List.drop_length]; rfl
      clear hft
      go_wp2
      go_ret
      exact ⟨by rw [HY.out, ext_all]; rfl, HR.out.2⟩

set_option maxRecDepth 10000 in
set_option maxHeartbeats 1000000 in
theorem rcut_any (s : ByteArray) (cells : Int) (mark : ByteArray) (w : World) (hs : s.size ≤ 1048576) (hm : mark.size ≤ 1048576) (hc : cells ≤ 9223372036854775807) :
    Calls Tryd.prog 19 #[.string s, .int .i64 cells, .string mark] w fun e w' => e = .returned (.tuple #[.string (cutS s cells mark), .bool (cutB s cells)]) ∧ Below w.heap.size w w' := by
  obtain ⟨x0, x1⟩ := sum_bd (pcs s)
  obtain ⟨y0, y1⟩ := sum_bd (pcs mark)
  have hl1 := pcs_len s
  have hl2 := pcs_len mark
  obtain ⟨room, hroom⟩ : ∃ room, room = max cells 0 := ⟨_, rfl⟩
  have HS : Hid (cutS s cells mark = if sumC (pcs s) ≤ room then s else if room < sumC (pcs mark) then s.extract 0 (fitL (pcs s) room 0) else s.extract 0 (fitL (pcs s) (room - sumC (pcs mark)) 0) ++ mark) := by unfold Hid; rw [cutS, hroom]
  have HB : Hid (cutB s cells = decide (room < sumC (pcs s))) := by unfold Hid; rw [cutB, hroom]
  generalize cutS s cells mark = cs at *
  generalize cutB s cells = cb at *
  have C1 : Hid (∀ w, ∃ n : Nat, Calls Tryd.prog 11 #[.string s] w fun e w' => e = .returned (.tuple #[.int .i64 (sumC (pcs s)), .int .i64 n]) ∧ Below w.heap.size w w') := fun w => ⟨_, rcells_any s w hs⟩
  have C2 : Hid (∀ w, ∃ n : Nat, Calls Tryd.prog 11 #[.string mark] w fun e w' => e = .returned (.tuple #[.int .i64 (sumC (pcs mark)), .int .i64 n]) ∧ Below w.heap.size w w') := fun w => ⟨_, rcells_any mark w hm⟩
  have F1 : Hid (∀ w room, Calls Tryd.prog 45 #[.string s, .int .i64 room] w fun e w' => e = .returned (.string (s.extract 0 (fitL (pcs s) room 0))) ∧ Below w.heap.size w w') := fun w room => rfits_any s room w hs
  have hz : ∀ r, (s.extract 0 (fitL (pcs s) r 0)).size ≤ 1048576 := fun r => by rw [ByteArray.size_extract]; omega
  have HZ : Hid (∀ r, (s.extract 0 (fitL (pcs s) r 0)).size ≤ 1048576) := hz
  clear hz
  generalize sumC (pcs s) = n1 at *
  generalize sumC (pcs mark) = n2 at *
  by_cases hneg : cells < 0
  all_goals
    have hrm : room = if cells < 0 then 0 else cells := by split <;> omega
    first | rw [if_pos hneg] at hrm | rw [if_neg hneg] at hrm
    go_enter Tryd.func19, Tryd.ntmps19
    go_wp2_with fail
    obtain ⟨m1, h1⟩ := C1.out w
    refine h1.mono ?_
    clear h1
    rintro e w1 ⟨rfl, hb⟩
    have H1 : Hid (Below w.heap.size w w1) := hb
    clear hb
    go_wp2_with fail
    obtain ⟨m2, h1⟩ := C2.out w1
    refine h1.mono ?_
    clear h1
    rintro e w2 ⟨rfl, hb⟩
    have H2 : Hid (Below w.heap.size w w2) := H1.out.trans (hb.mono H1.out.size)
    clear hb
    by_cases c1 : n1 ≤ room
    · have HV : Hid (cs = s ∧ cb = false) := ⟨by rw [HS.out, if_pos c1], by rw [HB.out, decide_eq_false (by omega)]⟩
      subst hrm
      clear hroom
      go_wp2
      go_ret2
      exact ⟨by rw [HV.out.1, HV.out.2]; rfl, H2.out⟩
    · by_cases c2 : room < n2
      · have HV : Hid (cs = s.extract 0 (fitL (pcs s) room 0) ∧ cb = true) := ⟨by rw [HS.out, if_neg c1, if_pos c2], by rw [HB.out, decide_eq_true (by omega)]⟩
        subst hrm
        clear hroom
        go_wp2_with fail
        refine (F1.out _ _).mono ?_
        rintro e w3 ⟨rfl, hb⟩
        have H3 : Hid (Below w.heap.size w w3) := H2.out.trans (hb.mono H2.out.size)
        clear hb
        go_wp2
        go_ret2
        exact ⟨by rw [HV.out.1, HV.out.2]; first | rfl | (rw [Int.zero_sub]; rfl), H3.out⟩
      · have HV : Hid (cs = s.extract 0 (fitL (pcs s) (room - n2) 0) ++ mark ∧ cb = true) := ⟨by rw [HS.out, if_neg c1, if_neg c2], by rw [HB.out, decide_eq_true (by omega)]⟩
        have hz := HZ.out (room - n2)
        subst hrm
        clear hroom
        go_wp2_with fail
        refine (F1.out _ _).mono ?_
        rintro e w3 ⟨rfl, hb⟩
        have H3 : Hid (Below w.heap.size w w3) := H2.out.trans (hb.mono H2.out.size)
        clear hb
        go_wp2
        go_ret2
        exact ⟨by rw [HV.out.1, HV.out.2]; first | rfl | (rw [Int.zero_sub]; rfl), H3.out⟩

end Go.Proofs.YtlooemhaoikidaaDoor
