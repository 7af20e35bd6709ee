/-
  Contracts of package style: Check.
-/
import Derived.Test.YtobmpjmpffnoiaaDoorSW3
namespace Go.Proofs.YtobmpjmpffnoiaaDoor
open Go.RowKit Go.Shelf

set_option maxHeartbeats 1000000 in
theorem check_rules (rs : List Rl) (v : Value) (w : World) (hT : Tab w) (hv : Rules w v rs) (hs : ∀ r ∈ rs, r.cls.size ≤ 9223372036854775807 ∧ r.wf) :
    Calls Tryd.prog 15 #[v] w fun e w' => e = .returned (.int .i64 (chkR rs)) ∧ Below w.heap.size w w' := by
  obtain ⟨oa, cap, rfl, hc, hg⟩ := hv
  have HG : Hid (0 < rs.length → ∃ g o, oa = some ⟨g, o, none⟩ ∧ g < w.heap.size ∧ ∀ i (h : i < rs.length), RlAt w g (o + i * 14) rs[i]) := hg
  have HH : Hid ((∀ r ∈ rs, r.cls.size ≤ 9223372036854775807 ∧ r.wf) ∧ Tab w) := ⟨hs, hT⟩
  clear hg hs hT
  unfold chkR
  by_cases hm : 256 < rs.length
  · rw [if_pos hm]
    go_enter Tryd.func15, Tryd.ntmps15
    go_wp2
    go_ret
    exact ⟨rfl, Below.refl _ _⟩
  rw [if_neg hm]
  obtain ⟨R, hR⟩ : ∃ R : Int, (if rs.all okR = true then 0 else 50) = R := ⟨_, rfl⟩
  rw [hR]
  have HF : Hid ((rs.all okR = false → R = 50) ∧ (rs.all okR = true → R = 0)) := ⟨fun h => by rw [← hR, h]; rfl, fun h => by rw [← hR, h]; rfl⟩
  clear hR
  go_enter Tryd.func15, Tryd.ntmps15
  go_wp2_with fail
  go_loopw [10] (fun i wr => ∃ k : Nat, k ≤ rs.length ∧ i = .int .i64 k ∧ (rs.take k).all okR = true ∧ Below w.heap.size w wr) (fun i _ => rs.length - (intOf i).toNat)
  case atStart => exact ⟨0, Nat.zero_le _, rfl, rfl, Below.refl _ _⟩
  case round =>
    obtain ⟨k, hk, rfl, ha, L⟩ := hrel
    by_cases hlt : k < rs.length
    · obtain ⟨g, o, rfl, hg, hat⟩ := HG.out (by omega)
      have hx := (hat k hlt).kept (w' := wr) fun j => L.cell (p := ⟨g, j, none⟩) hg
      have e1 : rs.take (k + 1) = rs.take k ++ [rs[k]] := (List.take_append_getElem hlt).symm
      have e2 : (rs.take (k + 1)).all okR = okR rs[k] := by rw [e1, List.all_append, ha]; simp
      have e3 : okR rs[k] = false → R = 50 := fun h => HF.out.1 <| by
        rw [List.all_eq_false]; exact ⟨rs[k], List.getElem_mem hlt, by rw [h]; simp⟩
      have HR : Hid (∀ w, Tab w → Calls Tryd.prog 37 #[(Value.agg #[.int .u8 (rs[k].kind : Nat), .string rs[k].cls, .int .u8 (rs[k].state : Nat), .int .u8 (rs[k].look.has : Nat), .int .u8 rs[k].look.r, .int .u8 rs[k].look.g, .int .u8 rs[k].look.b, .int .u8 rs[k].look.a, .int .u8 rs[k].look.r2, .int .u8 rs[k].look.g2, .int .u8 rs[k].look.b2, .int .u8 rs[k].look.a2, .bool rs[k].look.bd, .int .i64 rs[k].look.pad])] w fun e w' => e = .returned (.bool (okR rs[k])) ∧ Below w.heap.size w w') := fun w hT =>
        ruleMay_any _ w hT (HH.out.1 _ (List.getElem_mem hlt)).1 (HH.out.1 _ (List.getElem_mem hlt)).2
      have L' : Below w.heap.size w (wr.alloc (.cells (#[.int .u8 (rs[k].kind : Nat), .string rs[k].cls, .int .u8 (rs[k].state : Nat), .int .u8 (rs[k].look.has : Nat), .int .u8 rs[k].look.r, .int .u8 rs[k].look.g, .int .u8 rs[k].look.b, .int .u8 rs[k].look.a, .int .u8 rs[k].look.r2, .int .u8 rs[k].look.g2, .int .u8 rs[k].look.b2, .int .u8 rs[k].look.a2, .bool rs[k].look.bd, .int .i64 rs[k].look.pad]) 35)) := L.alloc L.size _
      have HL : Hid ((rs.take (k + 1)).all okR = okR rs[k] ∧ (okR rs[k] = false → R = 50) ∧ Below w.heap.size w (wr.alloc (.cells (#[.int .u8 (rs[k].kind : Nat), .string rs[k].cls, .int .u8 (rs[k].state : Nat), .int .u8 (rs[k].look.has : Nat), .int .u8 rs[k].look.r, .int .u8 rs[k].look.g, .int .u8 rs[k].look.b, .int .u8 rs[k].look.a, .int .u8 rs[k].look.r2, .int .u8 rs[k].look.g2, .int .u8 rs[k].look.b2, .int .u8 rs[k].look.a2, .bool rs[k].look.bd, .int .i64 rs[k].look.pad]) 35))) := ⟨e2, e3, L'⟩
      clear e1 e2 e3 L L' hat ha
      generalize okR rs[k] = b at *
      generalize rs[k] = x at *
      obtain ⟨x0, x1, x2, x3, x4, x5, x6, x7, x8, x9, x10, x11, x12, x13⟩ := hx
      have HE : Hid (b = false → R = 50) := HL.out.2.1
      cases b
      · go_wp2_with fail
        refine (HR.out _ (HH.out.2.below HL.out.2.2)).mono ?_
        rintro e w1 ⟨rfl, hb⟩
        have H1 : Hid (Below w.heap.size w w1) := HL.out.2.2.trans (hb.mono HL.out.2.2.size)
        clear hb
        go_wp2
        go_ret
        have e5 : R = 50 := by first | exact HE.out rfl | exact HE.out trivial
        exact ⟨by rw [e5]; rfl, H1.out⟩
      · go_wp2_with fail
        refine (HR.out _ (HH.out.2.below HL.out.2.2)).mono ?_
        rintro e w1 ⟨rfl, hb⟩
        have H1 : Hid (Below w.heap.size w w1) := HL.out.2.2.trans (hb.mono HL.out.2.2.size)
        clear hb
        go_wp2
        go_roundw
        case rel => exact ⟨k + 1, by omega, by go_num, HL.out.1, H1.out⟩
        case measure => simp [intOf]; omega
    · obtain rfl : k = rs.length := by omega
      rw [List.take_length] at ha
      go_wp2
      go_ret
      have e5 := HF.out.2 ha
      exact ⟨by rw [e5]; rfl, L⟩

end Go.Proofs.YtobmpjmpffnoiaaDoor
