/-
  The document's wrappers: Checks, says, Says.
-/
import Derived.Test.YtbnbfgkcndomaabDoorVB
namespace Go.Proofs.YtbnbfgkcndomaabDoor
open Go.RowKit Go.Shelf

theorem ret_u16 {a b : Int} (h : a = b) : Ending.returned (.int .u16 a) = .returned (.int .u16 b) := by rw [h]

set_option maxHeartbeats 1000000 in
theorem rChecks_any (l : List Wr) (v : Value) (w : World) (hT : Tab w) (hv : Wraps w v l) :
    Calls Tryd.prog 10 #[v] w fun e w' => e = .returned (.int .i64 (ckE l)) ∧ Below w.heap.size w w' := by
  obtain ⟨oa, cap, rfl, hc, hg⟩ := hv
  have HG : Hid (0 < l.length → ∃ g o, oa = some ⟨g, o, none⟩ ∧ g < w.heap.size ∧ ∀ i (h : i < l.length), WrAt w g (o + i * 4) l[i]) := hg
  have HH : Hid (Tab w) := hT
  clear hg hT
  unfold ckE
  by_cases hm : 16 < l.length
  · rw [if_pos hm]
    have hm' : (16 : Int) < (l.length : Int) := by omega
    go_enter Tryd.func10, Tryd.ntmps10
    go_wp2
    go_ret
    exact ⟨rfl, Below.refl _ _⟩
  rw [if_neg hm]
  have hm' : ¬ (16 : Int) < (l.length : Int) := by omega
  obtain ⟨R, hR⟩ : ∃ R : Int, (if l.all okW = true then 0 else 70) = R := ⟨_, rfl⟩
  rw [hR]
  have HF : Hid ((l.all okW = false → R = 70) ∧ (l.all okW = true → R = 0)) := ⟨fun h => by rw [← hR, h]; rfl, fun h => by rw [← hR, h]; rfl⟩
  clear hR
  go_enter Tryd.func10, Tryd.ntmps10
  go_wp2_with fail
  go_loopw [3] (fun i wr => ∃ k : Nat, k ≤ l.length ∧ i = .int .i64 k ∧ Hid ((l.take k).all okW = true ∧ Below w.heap.size w wr)) (fun i _ => l.length - (intOf i).toNat)
  case atStart => exact ⟨0, Nat.zero_le _, rfl, rfl, Below.refl _ _⟩
  case round =>
    obtain ⟨k, hk, rfl, HR⟩ := hrel
    by_cases hlt : k < l.length
    · obtain ⟨g, o, rfl, hg, hat⟩ := HG.out (by omega)
      have hx := (hat k hlt).kept (w' := wr) fun j => HR.out.2.cell (p := ⟨g, j, none⟩) hg
      have e1 : l.take (k + 1) = l.take k ++ [l[k]] := (List.take_append_getElem hlt).symm
      have e2 : (l.take (k + 1)).all okW = okW l[k] := by rw [e1, List.all_append, HR.out.1]; simp
      have e3 : okW l[k] = false → R = 70 := fun h => HF.out.1 <| by
        rw [List.all_eq_false]; exact ⟨l[k], List.getElem_mem hlt, by rw [h]; simp⟩
      have HC : Hid (Calls Tryd.prog 7 #[(Value.agg #[.int .u8 (l[k].kind : Nat), .int .u16 (l[k].mask : Nat), .int .i64 l[k].num, .string l[k].text])] wr fun e w' => e = .returned (.int .i64 (if okW l[k] then 0 else 70)) ∧ Below wr.heap.size wr w') := rWCheck_any _ _ (HH.out.below HR.out.2)
      have ik : (k : Int) < (l.length : Int) := by omega
      have HN : Hid ((l.take (k + 1)).all okW = okW l[k] ∧ (okW l[k] = false → R = 70)) := ⟨e2, e3⟩
      clear e1 e2 e3 hat
      generalize okW l[k] = b at *
      generalize l[k] = x at *
      obtain ⟨x0, x1, x2, x3⟩ := hx
      cases b
      · go_wp2_with fail
        refine HC.out.mono ?_
        rintro e w1 ⟨rfl, hb⟩
        have H1 : Hid (Below w.heap.size w w1) := HR.out.2.trans (hb.mono HR.out.2.size)
        have e5 : R = 70 := by first | exact HN.out.2 rfl | exact HN.out.2 trivial
        clear hb
        go_wp2
        go_ret
        exact ⟨by rw [e5]; rfl, H1.out⟩
      · go_wp2_with fail
        refine HC.out.mono ?_
        rintro e w1 ⟨rfl, hb⟩
        have H1 : Hid (Below w.heap.size w w1) := HR.out.2.trans (hb.mono HR.out.2.size)
        clear hb
        go_wp2
        go_roundw
        case rel => exact ⟨k + 1, by omega, by go_num, HN.out.1, H1.out⟩
        case measure => simp [intOf]; omega
    · obtain rfl : k = l.length := by omega
      have ha := HR.out.1
      rw [List.take_length] at ha
      have e5 := HF.out.2 ha
      have ik : ¬ (l.length : Int) < (l.length : Int) := by omega
      clear ha
      go_wp2
      go_ret
      first | exact ⟨by rw [e5]; rfl, HR.out.2⟩ | exact ⟨rfl, HR.out.2⟩

set_option maxHeartbeats 1000000 in
theorem rsays1_any (c : Nat) (x : Wr) (w : World) (hc : c < 64) (hm : x.kind = 1 ∨ x.kind = 2 → x.mask < 64) :
    Calls Tryd.prog 11 #[.int .u16 (c : Nat), (Value.agg #[.int .u8 (x.kind : Nat), .int .u16 (x.mask : Nat), .int .i64 x.num, .string x.text])] w fun e w' => e = .returned (.int .u16 (lefC c x : Nat)) ∧ Below w.heap.size w w' := by
  have L : Hid (Below w.heap.size w (w.alloc (.cells (#[.int .u8 (x.kind : Nat), .int .u16 (x.mask : Nat), .int .i64 x.num, .string x.text]) 24))) := (Below.refl _ w).alloc (Nat.le_refl _) _
  obtain ⟨k, m, n, t⟩ := x
  simp only at hm
  have hk : k = 1 ∨ k = 2 ∨ k = 5 ∨ k = 6 ∨ k = 7 ∨ (k ≠ 1 ∧ k ≠ 2 ∧ k ≠ 5 ∧ k ≠ 6 ∧ k ≠ 7) := by omega
  rcases hk with rfl | rfl | rfl | rfl | rfl | ⟨n1, n2, n5, n6, n7⟩
  · have f := and_fin ⟨c, hc⟩ ⟨m, hm (.inl rfl)⟩
    have e := f.2.1
    have e2 := f.2.2.1
    have e3 := f.2.2.2.1
    simp only at e e2 e3
    clear f
    have e4 : (c : Int) - bits .and .u16 (c : Int) (m : Int) = ((c &&& (63 ^^^ m) : Nat) : Int) := by rw [e, e2]
    have lt : c &&& (63 ^^^ m) < 64 := e3
    clear hc hm
    go_enter Tryd.func11, Tryd.ntmps11
    go_wp2
    go_ret
    exact ⟨rfl, L.out⟩
  · have e := (and_fin ⟨c, hc⟩ ⟨m, hm (.inr rfl)⟩).2.1
    simp only at e
    go_enter Tryd.func11, Tryd.ntmps11
    go_wp2
    go_ret
    exact ⟨by rw [show lefC c ⟨2, m, n, t⟩ = c &&& m from rfl, ← e]; rfl, L.out⟩
  · have e := (or_fin ⟨c, hc⟩).1
    simp only at e
    go_enter Tryd.func11, Tryd.ntmps11
    go_wp2
    go_ret
    exact ⟨by rw [show lefC c ⟨5, m, n, t⟩ = c ||| 4 from rfl, ← e]; rfl, L.out⟩
  · have e := (or_fin ⟨c, hc⟩).2.1
    simp only at e
    go_enter Tryd.func11, Tryd.ntmps11
    go_wp2
    go_ret
    exact ⟨by rw [show lefC c ⟨6, m, n, t⟩ = c ||| 16 from rfl, ← e]; rfl, L.out⟩
  · go_enter Tryd.func11, Tryd.ntmps11
    go_wp2
    go_ret
    exact ⟨rfl, L.out⟩
  · have e : lefC c ⟨k, m, n, t⟩ = c := by simp [lefC, n1, n2, n5, n6, n7]
    have k1 : ((k : Int) == 1) = false := beq_eq_false_iff_ne.2 (by omega)
    have k2 : ((k : Int) == 2) = false := beq_eq_false_iff_ne.2 (by omega)
    have k5 : ((k : Int) == 5) = false := beq_eq_false_iff_ne.2 (by omega)
    have k6 : ((k : Int) == 6) = false := beq_eq_false_iff_ne.2 (by omega)
    have k7 : ((k : Int) == 7) = false := beq_eq_false_iff_ne.2 (by omega)
    rw [e]
    clear n1 n2 n5 n6 n7 e
    go_enter Tryd.func11, Tryd.ntmps11
    go_wp2
    go_ret
    exact ⟨rfl, L.out⟩

set_option maxHeartbeats 1000000 in
theorem rsays_any (c : Nat) (l : List Wr) (v : Value) (w : World) (hT : Tab w) (hv : Wraps w v l) :
    Calls Tryd.prog 5 #[.int .u16 (c : Nat), v] w fun e w' => e = .returned (.tuple #[.int .u16 (saC c l : Nat), .int .i64 (saE c l)]) ∧ Below w.heap.size w w' := by
  by_cases h6 : c < 64
  case neg =>
    have e1 : saE c l = 2 := if_neg h6
    have e2 : saC c l = 0 := by unfold saC; rw [e1]; rfl
    rw [e1, e2]
    have hb3 : (63 : Int) < (c : Int) := by omega
    clear e1 e2 h6 hT hv
    go_enter Tryd.func5, Tryd.ntmps5
    go_wp2
    exact bodyPost_ret (v := .tuple #[.int .u16 0, .int .i64 2]) (by simp [results, Tryd.results5, go_sem]) rfl ⟨rfl, Below.refl _ _⟩
  have hb3 : ¬ (63 : Int) < (c : Int) := by omega
  have hC : Hid (Calls Tryd.prog 10 #[v] w fun e w' => e = .returned (.int .i64 (ckE l)) ∧ Below w.heap.size w w') := rChecks_any l v w hT hv
  have e1 : saE c l = ckE l := if_pos h6
  by_cases hz : ckE l = 0
  case neg =>
    have e2 : saC c l = 0 := by unfold saC; rw [e1, if_neg hz]
    rw [e1, e2]
    have hz1 : (ckE l != 0) = true := by simpa using hz
    generalize ckE l = E at *
    clear e1 e2 h6 hT hz hv
    go_enter Tryd.func5, Tryd.ntmps5
    go_wp2_with fail
    refine hC.out.mono ?_
    rintro e w1 ⟨rfl, hb⟩
    go_wp2
    exact bodyPost_ret (v := .tuple #[.int .u16 0, .int .i64 E]) (by simp [results, Tryd.results5, go_sem]) rfl ⟨rfl, hb⟩
  have e2 : saC c l = sayC c l := by unfold saC; rw [e1, if_pos hz]
  rw [e1, e2, hz]
  have HA : Hid (∀ x ∈ l, okW x = true) := all_of hz
  rw [hz] at hC
  have HS : Hid (∀ k, sayC c (l.take k) < 64) := fun k => say_lt _ c h6 fun x hx => HA.out x (List.mem_of_mem_take hx)
  obtain ⟨oa, cap, rfl, hc', hg⟩ := hv
  have HG : Hid (0 < l.length → ∃ g o, oa = some ⟨g, o, none⟩ ∧ g < w.heap.size ∧ ∀ i (h : i < l.length), WrAt w g (o + i * 4) l[i]) := hg
  have hln : l.length ≤ 16 := by
    unfold ckE at hz
    split at hz
    · omega
    · omega
  clear e1 e2 h6 hT hz hg
  go_enter Tryd.func5, Tryd.ntmps5
  go_wp2_with fail
  refine hC.out.mono ?_
  rintro e w1 ⟨rfl, hb⟩
  have HB : Hid (Below w.heap.size w w1) := hb
  clear hb
  go_wp2_with fail
  go_loopw [0, 7] (fun cv i wr => ∃ k : Nat, k ≤ l.length ∧ i = .int .i64 k ∧ cv = .int .u16 (sayC c (l.take k) : Nat) ∧ Below w.heap.size w wr) (fun _ i _ => l.length - (intOf i).toNat)
  case atStart => exact ⟨0, Nat.zero_le _, rfl, rfl, HB.out⟩
  case round =>
    obtain ⟨k, hk, rfl, rfl, L⟩ := hrel
    by_cases hlt : k < l.length
    · obtain ⟨g, o, rfl, hg, hat⟩ := HG.out (by omega)
      have hx := (hat k hlt).kept (w' := wr) fun j => L.cell (p := ⟨g, j, none⟩) hg
      have e1 : l.take (k + 1) = l.take k ++ [l[k]] := (List.take_append_getElem hlt).symm
      have e2 : sayC c (l.take (k + 1)) = lefC (sayC c (l.take k)) l[k] := by rw [e1, say_snoc]
      have HR : Hid (Calls Tryd.prog 11 #[.int .u16 (sayC c (l.take k) : Nat), (Value.agg #[.int .u8 (l[k].kind : Nat), .int .u16 (l[k].mask : Nat), .int .i64 l[k].num, .string l[k].text])] wr fun e w' => e = .returned (.int .u16 (lefC (sayC c (l.take k)) l[k] : Nat)) ∧ Below wr.heap.size wr w') :=
        rsays1_any _ _ _ (HS.out k) (ok_mask (HA.out _ (List.getElem_mem hlt)))
      have HL : Hid (sayC c (l.take (k + 1)) = lefC (sayC c (l.take k)) l[k] ∧ Below w.heap.size w wr) := ⟨e2, L⟩
      have ik : (k : Int) < (l.length : Int) := by omega
      clear e1 e2 L hat
      generalize lefC (sayC c (l.take k)) l[k] = r at *
      generalize sayC c (l.take k) = q at *
      generalize l[k] = x at *
      obtain ⟨x0, x1, x2, x3⟩ := hx
      go_wp2_with fail
      refine HR.out.mono ?_
      rintro e w2 ⟨rfl, hb⟩
      have H1 : Hid (Below w.heap.size w w2) := HL.out.2.trans (hb.mono HL.out.2.size)
      clear hb
      go_wp2
      go_roundw
      case rel => exact ⟨k + 1, by omega, by go_num, by rw [HL.out.1], H1.out⟩
      case measure => simp [intOf]; omega
    · obtain rfl : k = l.length := by omega
      rw [List.take_length]
      have HL : Hid (Below w.heap.size w wr) := L
      have ik : ¬ (l.length : Int) < (l.length : Int) := by omega
      clear L
      go_wp2
      exact bodyPost_ret (v := .tuple #[.int .u16 (sayC c l : Nat), .int .i64 0]) (by simp [results, Tryd.results5, go_sem]) rfl ⟨rfl, HL.out⟩

end Go.Proofs.YtbnbfgkcndomaabDoor
