/-
  The document's answer: has a text a blank; may rules be? The document's answer: may a look be?
-/
import Derived.Test.YtobmpjmpffnoiaaDoorSW3
import Derived.Test.YtobmpjmpffnoiaaDoorSW4
import Derived.Lib.IndexLaws
namespace Go.Proofs.YtobmpjmpffnoiaaDoor
open Go.RowKit Go.Shelf

set_option maxRecDepth 100000 in
theorem bit_own : ∀ (q : Fin 256), (bits .and .u8 ((q.val : Nat) : Int) 1 == 1) = tb q.val 0 ∧ (bits .and .u8 ((q.val : Nat) : Int) 2 == 2) = tb q.val 1 ∧ (bits .and .u8 ((q.val : Nat) : Int) 4 == 4) = tb q.val 2 ∧ (bits .and .u8 ((q.val : Nat) : Int) 8 == 8) = tb q.val 3 := by decide +kernel
theorem eql_none (r g b a : Int) (w : World) : (binOp .eql 31 (.agg #[.int .u8 r, .int .u8 g, .int .u8 b, .int .u8 a]) (.agg #[.int .u8 0, .int .u8 0, .int .u8 0, .int .u8 0])).run Tryd.prog w = .ok (.bool (r == 0 && (g == 0 && (b == 0 && a == 0)))) w := by
  simp [go_sem]
  exact chain_if (chain_if (chain_if chain_last))

set_option maxRecDepth 20000 in
set_option maxHeartbeats 8000000 in
theorem rmay_any (k : Lk) (w : World) (h : k.has < 256) :
    Calls Tryd.prog 42 #[(Value.agg #[.int .u8 (k.has : Nat), .int .u8 k.r, .int .u8 k.g, .int .u8 k.b, .int .u8 k.a, .int .u8 k.r2, .int .u8 k.g2, .int .u8 k.b2, .int .u8 k.a2, .bool k.bd, .int .i64 k.pad])] w fun e w' => e = .returned (.bool (okL k)) ∧ Below w.heap.size w w' := by
  obtain ⟨p0, p1, p2, p3⟩ := bit_own ⟨k.has, h⟩
  simp only at p0 p1 p2 p3
  have A := (Blk.new w (#[.int .u8 (k.has : Nat), .int .u8 k.r, .int .u8 k.g, .int .u8 k.b, .int .u8 k.a, .int .u8 k.r2, .int .u8 k.g2, .int .u8 k.b2, .int .u8 k.a2, .bool k.bd, .int .i64 k.pad]) 33)
  by_cases h1 : 15 < k.has
  · have h1' : (15 : Int) < (k.has : Int) := by omega
    have e : okL k = false := by unfold okL; rw [decide_eq_false (by omega)]; simp
    rw [e]
    go_enter Tryd.func42, Tryd.ntmps42
    go_wp2
    go_ret
    exact ⟨rfl, (Below.refl _ w).alloc (Nat.le_refl _) _⟩
  have h1' : ¬ (15 : Int) < (k.has : Int) := by omega
  have h1d : decide ((15 : Int) < (k.has : Int)) = false := decide_eq_false h1'
  by_cases h2 : k.pad < 0
  · have e : okL k = false := by unfold okL; rw [decide_eq_false (show ¬ 0 ≤ k.pad by omega)]; simp
    rw [e]
    go_enter Tryd.func42, Tryd.ntmps42
    go_wp2
    go_ret
    exact ⟨rfl, (Below.refl _ w).alloc (Nat.le_refl _) _⟩
  have h2d : decide (k.pad < 0) = false := decide_eq_false h2
  by_cases h3 : 16384 < k.pad
  · have e : okL k = false := by unfold okL; rw [decide_eq_false (show ¬ k.pad ≤ 16384 by omega)]; simp
    rw [e]
    go_enter Tryd.func42, Tryd.ntmps42
    go_wp2
    go_ret
    exact ⟨rfl, (Below.refl _ w).alloc (Nat.le_refl _) _⟩
  have h3d : decide (16384 < k.pad) = false := decide_eq_false h3
  have E0 := eql_none k.r k.g k.b k.a
  have E1 := eql_none k.r2 k.g2 k.b2 k.a2
  have e : okL k = ((tb k.has 0 || (k.r == 0 && (k.g == 0 && (k.b == 0 && k.a == 0)))) && (tb k.has 1 || (k.r2 == 0 && (k.g2 == 0 && (k.b2 == 0 && k.a2 == 0)))) && (tb k.has 2 || !k.bd) && (tb k.has 3 || k.pad == 0)) := by
    unfold okL
    rw [decide_eq_true (show k.has < 16 by omega), decide_eq_true (show 0 ≤ k.pad by omega), decide_eq_true (show k.pad ≤ 16384 by omega)]
    simp only [Bool.true_and]
  rw [e]
  have q3 : (k.pad == 0) = (k.pad == 0) := rfl
  generalize (k.r == 0 && (k.g == 0 && (k.b == 0 && k.a == 0))) = x0 at *
  generalize (k.r2 == 0 && (k.g2 == 0 && (k.b2 == 0 && k.a2 == 0))) = x1 at *
  generalize hx3 : (k.pad == 0) = x3 at *
  generalize tb k.has 0 = b0 at *
  generalize tb k.has 1 = b1 at *
  generalize tb k.has 2 = b2 at *
  generalize tb k.has 3 = b3 at *
  have HL : Hid (∀ c, Below w.heap.size w ((w.alloc (.cells (#[.int .u8 (k.has : Nat), .int .u8 k.r, .int .u8 k.g, .int .u8 k.b, .int .u8 k.a, .int .u8 k.r2, .int .u8 k.g2, .int .u8 k.b2, .int .u8 k.a2, .bool k.bd, .int .i64 k.pad]) 33)).alloc c)) := fun c => ((Below.refl _ w).alloc (Nat.le_refl _) _).alloc (by simp) _
  clear e q3 A h1 h1' h2 h3
  go_enter Tryd.func42, Tryd.ntmps42
  go_wp2
  all_goals
    exact bodyPost_ret (v := .bool ((b0 || x0) && (b1 || x1) && (b2 || !k.bd) && (b3 || x3))) (by simp [results, Tryd.results42, go_sem, *]) rfl ⟨rfl, by simpa [*] using HL.out _⟩


theorem at_list (c : ByteArray) {k : Nat} (h : k < c.size) : c.data.toList[k]? = some c[k] := by
  rw [Array.getElem?_toList, Array.getElem?_eq_getElem h]; rfl
theorem blank_yes {c : ByteArray} {k : Nat} (h : k < c.size) (hb : (c[k]).toNat = 32) : decide (0 ≤ Lib.indexByte c.data.toList 32) = true := by
  rw [decide_eq_true_iff]
  rcases Int.lt_or_le (Lib.indexByte c.data.toList 32) 0 with h' | h'
  · exfalso
    have := Lib.indexByte_ge c.data.toList 32
    refine Lib.indexByte_none (l := c.data.toList) (c := 32) (by omega) k ?_
    rw [at_list c h]
    congr 1
    exact UInt8.toNat_inj.1 hb
  · exact h'
theorem blank_no {c : ByteArray} (h : ∀ (k : Nat) (h : k < c.size), (c[k]).toNat ≠ 32) : decide (0 ≤ Lib.indexByte c.data.toList 32) = false := by
  rw [decide_eq_false_iff_not]
  intro h'
  obtain ⟨o, ho⟩ : ∃ o : Nat, Lib.indexByte c.data.toList 32 = o := ⟨_, (Int.toNat_of_nonneg h').symm⟩
  have h1 := (Lib.indexByte_some ho).1
  obtain ⟨hlt, he⟩ := List.getElem?_eq_some_iff.1 h1
  have hlt' : o < c.size := by simpa using hlt
  rw [at_list c hlt'] at h1
  injection h1 with h2
  exact h o hlt' (by rw [h2]; rfl)

set_option maxHeartbeats 1000000 in
theorem rblank_any (c : ByteArray) (w : World) (hs : c.size ≤ 9223372036854775807) :
    Calls Tryd.prog 43 #[.string c] w fun e w' => e = .returned (.bool (decide (0 ≤ Lib.indexByte c.data.toList 32))) ∧ w' = w := by
  obtain ⟨b, HB⟩ : ∃ b, Hid (b = decide (0 ≤ Lib.indexByte c.data.toList 32)) := ⟨_, rfl⟩
  rw [← HB.out]
  go_enter Tryd.func43, Tryd.ntmps43
  go_wp2
  go_loopw [3] (fun i wr => ∃ k : Nat, k ≤ c.size ∧ i = .int .i64 k ∧ Hid (∀ (j : Nat) (h : j < c.size), j < k → (c[j]).toNat ≠ 32) ∧ wr = w) (fun i _ => c.size - (intOf i).toNat)
  case atStart => exact ⟨0, Nat.zero_le _, rfl, fun _ _ h => absurd h (by omega), rfl⟩
  case round =>
    obtain ⟨k, hk, rfl, HK, rfl⟩ := hrel
    by_cases hlt : k < c.size
    · by_cases h32 : (c[k]).toNat = 32
      · have hb : b = true := by rw [HB.out]; exact blank_yes hlt h32
        subst hb
        go_wp2
        go_ret
        exact ⟨rfl, rfl⟩
      · have h32' : (((c[k]).toNat : Int) == 32) = false := beq_eq_false_iff_ne.2 (by omega)
        go_wp2
        go_roundw
        case rel =>
          refine ⟨k + 1, by omega, by go_num, fun j hj hj' => ?_, by first | rfl | trivial⟩
          by_cases e : j = k
          · subst e; exact h32
          · exact HK.out j hj (by omega)
        case measure => simp [intOf]; omega
    · have hb : b = false := by rw [HB.out]; exact blank_no fun j hj => HK.out j hj (by omega)
      subst hb
      go_wp2
      go_ret
      exact ⟨rfl, rfl⟩

set_option maxHeartbeats 4000000 in
theorem rcheck_rules (rs : List Rl) (v : Value) (w : World) (hT : Tab w) (hv : Rules w v rs) (hs : ∀ r ∈ rs, r.cls.size ≤ 9223372036854775807 ∧ r.wf) :
    Calls Tryd.prog 23 #[v] w fun e w' => e = .returned (.int .i64 (chkR rs)) ∧ Below w.heap.size w w' := by
  obtain ⟨oa, cap, rfl, hc, hg⟩ := hv
  have HG : Hid (0 < rs.length → ∃ g o, oa = some ⟨g, o, none⟩ ∧ g < w.heap.size ∧ ∀ i (h : i < rs.length), RlAt w g (o + i * 14) rs[i]) := hg
  have HH : Hid ((∀ r ∈ rs, r.cls.size ≤ 9223372036854775807 ∧ r.wf) ∧ Tab w) := ⟨hs, hT⟩
  clear hg hs hT
  unfold chkR
  by_cases hm : 256 < rs.length
  · rw [if_pos hm]
    have hm' : (256 : Int) < (rs.length : Int) := by omega
    go_enter Tryd.func23, Tryd.ntmps23
    go_wp2
    go_ret
    exact ⟨rfl, Below.refl _ _⟩
  rw [if_neg hm]
  have hm' : ¬ (256 : Int) < (rs.length : Int) := by omega
  obtain ⟨R, hR⟩ : ∃ R : Int, (if rs.all okR = true then 0 else 50) = R := ⟨_, rfl⟩
  rw [hR]
  have HF : Hid ((rs.all okR = false → R = 50) ∧ (rs.all okR = true → R = 0)) := ⟨fun h => by rw [← hR, h]; rfl, fun h => by rw [← hR, h]; rfl⟩
  clear hR
  go_enter Tryd.func23, Tryd.ntmps23
  go_wp2_with fail
  go_loopw [3] (fun i wr => ∃ k : Nat, k ≤ rs.length ∧ i = .int .i64 k ∧ Hid ((rs.take k).all okR = true ∧ Below w.heap.size w wr)) (fun i _ => rs.length - (intOf i).toNat)
  case atStart => exact ⟨0, Nat.zero_le _, rfl, rfl, Below.refl _ _⟩
  case round =>
    obtain ⟨k, hk, rfl, HR⟩ := hrel
    by_cases hlt : k < rs.length
    · obtain ⟨g, o, rfl, hg, hat⟩ := HG.out (by omega)
      have hx := (hat k hlt).kept (w' := wr) fun j => HR.out.2.cell (p := ⟨g, j, none⟩) hg
      have e1 : rs.take (k + 1) = rs.take k ++ [rs[k]] := (List.take_append_getElem hlt).symm
      have e2 : (rs.take (k + 1)).all okR = okR rs[k] := by rw [e1, List.all_append, HR.out.1]; simp
      have e3 : okR rs[k] = false → R = 50 := fun h => HF.out.1 <| by
        rw [List.all_eq_false]; exact ⟨rs[k], List.getElem_mem hlt, by rw [h]; simp⟩
      obtain ⟨hsz, hwf⟩ := HH.out.1 _ (List.getElem_mem hlt)
      have ik : (k : Int) < (rs.length : Int) := by omega
      have hM : Hid (∀ w, Calls Tryd.prog 42 #[(Value.agg #[.int .u8 (rs[k].look.has : Nat), .int .u8 rs[k].look.r, .int .u8 rs[k].look.g, .int .u8 rs[k].look.b, .int .u8 rs[k].look.a, .int .u8 rs[k].look.r2, .int .u8 rs[k].look.g2, .int .u8 rs[k].look.b2, .int .u8 rs[k].look.a2, .bool rs[k].look.bd, .int .i64 rs[k].look.pad])] w fun e w' => e = .returned (.bool (okL rs[k].look)) ∧ Below w.heap.size w w') := fun w => rmay_any _ w hwf.2.2
      have hB : Hid (∀ w, Calls Tryd.prog 43 #[.string rs[k].cls] w fun e w' => e = .returned (.bool (decide (0 ≤ Lib.indexByte rs[k].cls.data.toList 32))) ∧ w' = w) := fun w => rblank_any _ w hsz
      have hV : Hid (∀ w, Tab w → Calls Tryd.prog 44 #[.string rs[k].cls] w fun e w' => e = .returned (.bool (Lib.validD rs[k].cls.data.toList)) ∧ Below w.heap.size w w') := fun w hT => Any.utf8_ValidString Tryd.lays196 rs[k].cls w hsz hT
      have eo : okR rs[k] = (decide (rs[k].kind ≤ 10) && (decide (rs[k].cls.size ≤ 64) && !decide (0 ≤ Lib.indexByte rs[k].cls.data.toList 32) && Lib.validD rs[k].cls.data.toList) && decide (rs[k].state ≤ 15) && okL rs[k].look) := rfl
      have HN : Hid ((rs.take (k + 1)).all okR = okR rs[k]) := e2
      rw [eo] at HN e3
      clear e1 e2 eo hat hwf hsz
      generalize decide (0 ≤ Lib.indexByte rs[k].cls.data.toList 32) = b1 at *
      generalize Lib.validD rs[k].cls.data.toList = b2 at *
      generalize okL rs[k].look = b3 at *
      generalize rs[k] = x at *
      obtain ⟨x0, x1, x2, x3, x4, x5, x6, x7, x8, x9, x10, x11, x12, x13⟩ := hx
      have KA := Blk.new wr (#[.int .u8 (x.kind : Nat), .string x.cls, .int .u8 (x.state : Nat), .int .u8 (x.look.has : Nat), .int .u8 x.look.r, .int .u8 x.look.g, .int .u8 x.look.b, .int .u8 x.look.a, .int .u8 x.look.r2, .int .u8 x.look.g2, .int .u8 x.look.b2, .int .u8 x.look.a2, .bool x.look.bd, .int .i64 x.look.pad]) 35
      have HA : Hid (Blk (wr.alloc (.cells (#[.int .u8 (x.kind : Nat), .string x.cls, .int .u8 (x.state : Nat), .int .u8 (x.look.has : Nat), .int .u8 x.look.r, .int .u8 x.look.g, .int .u8 x.look.b, .int .u8 x.look.a, .int .u8 x.look.r2, .int .u8 x.look.g2, .int .u8 x.look.b2, .int .u8 x.look.a2, .bool x.look.bd, .int .i64 x.look.pad]) 35)) wr.heap.size (#[.int .u8 (x.kind : Nat), .string x.cls, .int .u8 (x.state : Nat), .int .u8 (x.look.has : Nat), .int .u8 x.look.r, .int .u8 x.look.g, .int .u8 x.look.b, .int .u8 x.look.a, .int .u8 x.look.r2, .int .u8 x.look.g2, .int .u8 x.look.b2, .int .u8 x.look.a2, .bool x.look.bd, .int .i64 x.look.pad]) 35 ∧ Below w.heap.size w (wr.alloc (.cells (#[.int .u8 (x.kind : Nat), .string x.cls, .int .u8 (x.state : Nat), .int .u8 (x.look.has : Nat), .int .u8 x.look.r, .int .u8 x.look.g, .int .u8 x.look.b, .int .u8 x.look.a, .int .u8 x.look.r2, .int .u8 x.look.g2, .int .u8 x.look.b2, .int .u8 x.look.a2, .bool x.look.bd, .int .i64 x.look.pad]) 35))) := ⟨KA, HR.out.2.alloc HR.out.2.size _⟩
      have HE : Hid ((decide (x.kind ≤ 10) && (decide (x.cls.size ≤ 64) && !b1 && b2) && decide (x.state ≤ 15) && b3) = false → R = 50) := e3
      clear KA e3
      by_cases hk1 : 10 < x.kind
      · have hk2 : (10 : Int) < (x.kind : Int) := by omega
        have e5 : R = 50 := HE.out (by rw [decide_eq_false (by omega)]; rfl)
        go_wp2_with fail
        refine (hM.out _).mono ?_
        rintro e w1 ⟨rfl, h1⟩
        have K1 := HA.out.1.below h1
        have H1 : Hid (Blk w1 wr.heap.size (#[.int .u8 (x.kind : Nat), .string x.cls, .int .u8 (x.state : Nat), .int .u8 (x.look.has : Nat), .int .u8 x.look.r, .int .u8 x.look.g, .int .u8 x.look.b, .int .u8 x.look.a, .int .u8 x.look.r2, .int .u8 x.look.g2, .int .u8 x.look.b2, .int .u8 x.look.a2, .bool x.look.bd, .int .i64 x.look.pad]) 35 ∧ Below w.heap.size w w1) := ⟨K1, HA.out.2.trans (h1.mono HA.out.2.size)⟩
        obtain ⟨a0, a1, a2, a3, a4, a5, a6, a7, a8, a9, a10, a11, a12, a13⟩ := K1.at14
        clear K1 h1
        go_wp2_with fail
        refine (hB.out _).mono ?_
        rintro e w2 ⟨rfl, rfl⟩
        go_wp2
        go_ret
        exact ⟨by rw [e5]; rfl, H1.out.2⟩
      have hk2 : ¬ (10 : Int) < (x.kind : Int) := by omega
      have hk3 : decide ((10 : Int) < (x.kind : Int)) = false := decide_eq_false hk2
      by_cases hs1 : 64 < x.cls.size
      · have hs2 : (64 : Int) < (x.cls.size : Int) := by omega
        have e5 : R = 50 := HE.out (by rw [decide_eq_false (show ¬ x.cls.size ≤ 64 by omega)]; simp)
        go_wp2_with fail
        refine (hM.out _).mono ?_
        rintro e w1 ⟨rfl, h1⟩
        have K1 := HA.out.1.below h1
        have H1 : Hid (Blk w1 wr.heap.size (#[.int .u8 (x.kind : Nat), .string x.cls, .int .u8 (x.state : Nat), .int .u8 (x.look.has : Nat), .int .u8 x.look.r, .int .u8 x.look.g, .int .u8 x.look.b, .int .u8 x.look.a, .int .u8 x.look.r2, .int .u8 x.look.g2, .int .u8 x.look.b2, .int .u8 x.look.a2, .bool x.look.bd, .int .i64 x.look.pad]) 35 ∧ Below w.heap.size w w1) := ⟨K1, HA.out.2.trans (h1.mono HA.out.2.size)⟩
        obtain ⟨a0, a1, a2, a3, a4, a5, a6, a7, a8, a9, a10, a11, a12, a13⟩ := K1.at14
        clear K1 h1
        go_wp2_with fail
        refine (hB.out _).mono ?_
        rintro e w2 ⟨rfl, rfl⟩
        go_wp2
        go_ret
        exact ⟨by rw [e5]; rfl, H1.out.2⟩
      have hs2 : ¬ (64 : Int) < (x.cls.size : Int) := by omega
      have hs3 : decide ((64 : Int) < (x.cls.size : Int)) = false := decide_eq_false hs2
      cases b1
      case true =>
        have e5 : R = 50 := HE.out (by simp)
        go_wp2_with fail
        refine (hM.out _).mono ?_
        rintro e w1 ⟨rfl, h1⟩
        have K1 := HA.out.1.below h1
        have H1 : Hid (Blk w1 wr.heap.size (#[.int .u8 (x.kind : Nat), .string x.cls, .int .u8 (x.state : Nat), .int .u8 (x.look.has : Nat), .int .u8 x.look.r, .int .u8 x.look.g, .int .u8 x.look.b, .int .u8 x.look.a, .int .u8 x.look.r2, .int .u8 x.look.g2, .int .u8 x.look.b2, .int .u8 x.look.a2, .bool x.look.bd, .int .i64 x.look.pad]) 35 ∧ Below w.heap.size w w1) := ⟨K1, HA.out.2.trans (h1.mono HA.out.2.size)⟩
        obtain ⟨a0, a1, a2, a3, a4, a5, a6, a7, a8, a9, a10, a11, a12, a13⟩ := K1.at14
        clear K1 h1
        go_wp2_with fail
        refine (hB.out _).mono ?_
        rintro e w2 ⟨rfl, rfl⟩
        go_wp2
        go_ret
        exact ⟨by rw [e5]; rfl, H1.out.2⟩
      cases b2
      case false =>
        have e5 : R = 50 := HE.out (by simp)
        go_wp2_with fail
        refine (hM.out _).mono ?_
        rintro e w1 ⟨rfl, h1⟩
        have K1 := HA.out.1.below h1
        have H1 : Hid (Blk w1 wr.heap.size (#[.int .u8 (x.kind : Nat), .string x.cls, .int .u8 (x.state : Nat), .int .u8 (x.look.has : Nat), .int .u8 x.look.r, .int .u8 x.look.g, .int .u8 x.look.b, .int .u8 x.look.a, .int .u8 x.look.r2, .int .u8 x.look.g2, .int .u8 x.look.b2, .int .u8 x.look.a2, .bool x.look.bd, .int .i64 x.look.pad]) 35 ∧ Below w.heap.size w w1) := ⟨K1, HA.out.2.trans (h1.mono HA.out.2.size)⟩
        obtain ⟨a0, a1, a2, a3, a4, a5, a6, a7, a8, a9, a10, a11, a12, a13⟩ := K1.at14
        clear K1 h1
        go_wp2_with fail
        refine (hB.out _).mono ?_
        rintro e w2 ⟨rfl, rfl⟩
        go_wp2_with fail
        refine (hV.out _ (HH.out.2.below H1.out.2)).mono ?_
        rintro e w3 ⟨rfl, h3⟩
        have K3 := H1.out.1.below h3
        have H3 : Hid (Below w.heap.size w w3) := H1.out.2.trans (h3.mono H1.out.2.size)
        clear a0 a1 a2 a3 a4 a5 a6 a7 a8 a9 a10 a11 a12 a13
        obtain ⟨a0, a1, a2, a3, a4, a5, a6, a7, a8, a9, a10, a11, a12, a13⟩ := K3.at14
        clear K3 h3
        go_wp2
        go_ret
        exact ⟨by rw [e5]; rfl, H3.out⟩
      by_cases hst : 15 < x.state
      · have hst2 : (15 : Int) < (x.state : Int) := by omega
        have e5 : R = 50 := HE.out (by rw [decide_eq_false (show ¬ x.state ≤ 15 by omega)]; simp)
        go_wp2_with fail
        refine (hM.out _).mono ?_
        rintro e w1 ⟨rfl, h1⟩
        have K1 := HA.out.1.below h1
        have H1 : Hid (Blk w1 wr.heap.size (#[.int .u8 (x.kind : Nat), .string x.cls, .int .u8 (x.state : Nat), .int .u8 (x.look.has : Nat), .int .u8 x.look.r, .int .u8 x.look.g, .int .u8 x.look.b, .int .u8 x.look.a, .int .u8 x.look.r2, .int .u8 x.look.g2, .int .u8 x.look.b2, .int .u8 x.look.a2, .bool x.look.bd, .int .i64 x.look.pad]) 35 ∧ Below w.heap.size w w1) := ⟨K1, HA.out.2.trans (h1.mono HA.out.2.size)⟩
        obtain ⟨a0, a1, a2, a3, a4, a5, a6, a7, a8, a9, a10, a11, a12, a13⟩ := K1.at14
        clear K1 h1
        go_wp2_with fail
        refine (hB.out _).mono ?_
        rintro e w2 ⟨rfl, rfl⟩
        go_wp2_with fail
        refine (hV.out _ (HH.out.2.below H1.out.2)).mono ?_
        rintro e w3 ⟨rfl, h3⟩
        have K3 := H1.out.1.below h3
        have H3 : Hid (Below w.heap.size w w3) := H1.out.2.trans (h3.mono H1.out.2.size)
        clear a0 a1 a2 a3 a4 a5 a6 a7 a8 a9 a10 a11 a12 a13
        obtain ⟨a0, a1, a2, a3, a4, a5, a6, a7, a8, a9, a10, a11, a12, a13⟩ := K3.at14
        clear K3 h3
        go_wp2
        go_ret
        exact ⟨by rw [e5]; rfl, H3.out⟩
      have hst2 : ¬ (15 : Int) < (x.state : Int) := by omega
      have hst3 : decide ((15 : Int) < (x.state : Int)) = false := decide_eq_false hst2
      cases b3
      case false =>
        have e5 : R = 50 := HE.out (by simp)
        go_wp2_with fail
        refine (hM.out _).mono ?_
        rintro e w1 ⟨rfl, h1⟩
        have K1 := HA.out.1.below h1
        have H1 : Hid (Blk w1 wr.heap.size (#[.int .u8 (x.kind : Nat), .string x.cls, .int .u8 (x.state : Nat), .int .u8 (x.look.has : Nat), .int .u8 x.look.r, .int .u8 x.look.g, .int .u8 x.look.b, .int .u8 x.look.a, .int .u8 x.look.r2, .int .u8 x.look.g2, .int .u8 x.look.b2, .int .u8 x.look.a2, .bool x.look.bd, .int .i64 x.look.pad]) 35 ∧ Below w.heap.size w w1) := ⟨K1, HA.out.2.trans (h1.mono HA.out.2.size)⟩
        obtain ⟨a0, a1, a2, a3, a4, a5, a6, a7, a8, a9, a10, a11, a12, a13⟩ := K1.at14
        clear K1 h1
        go_wp2_with fail
        refine (hB.out _).mono ?_
        rintro e w2 ⟨rfl, rfl⟩
        go_wp2_with fail
        refine (hV.out _ (HH.out.2.below H1.out.2)).mono ?_
        rintro e w3 ⟨rfl, h3⟩
        have K3 := H1.out.1.below h3
        have H3 : Hid (Below w.heap.size w w3) := H1.out.2.trans (h3.mono H1.out.2.size)
        clear a0 a1 a2 a3 a4 a5 a6 a7 a8 a9 a10 a11 a12 a13
        obtain ⟨a0, a1, a2, a3, a4, a5, a6, a7, a8, a9, a10, a11, a12, a13⟩ := K3.at14
        clear K3 h3
        go_wp2
        go_ret
        exact ⟨by rw [e5]; rfl, H3.out⟩
      have hN : (rs.take (k + 1)).all okR = true := by
        rw [HN.out, decide_eq_true (show x.kind ≤ 10 by omega), decide_eq_true (show x.cls.size ≤ 64 by omega), decide_eq_true (show x.state ≤ 15 by omega)]; rfl
      have HN' : Hid ((rs.take (k + 1)).all okR = true) := hN
      clear hN
      go_wp2_with fail
      refine (hM.out _).mono ?_
      rintro e w1 ⟨rfl, h1⟩
      have K1 := HA.out.1.below h1
      have H1 : Hid (Blk w1 wr.heap.size (#[.int .u8 (x.kind : Nat), .string x.cls, .int .u8 (x.state : Nat), .int .u8 (x.look.has : Nat), .int .u8 x.look.r, .int .u8 x.look.g, .int .u8 x.look.b, .int .u8 x.look.a, .int .u8 x.look.r2, .int .u8 x.look.g2, .int .u8 x.look.b2, .int .u8 x.look.a2, .bool x.look.bd, .int .i64 x.look.pad]) 35 ∧ Below w.heap.size w w1) := ⟨K1, HA.out.2.trans (h1.mono HA.out.2.size)⟩
      obtain ⟨a0, a1, a2, a3, a4, a5, a6, a7, a8, a9, a10, a11, a12, a13⟩ := K1.at14
      clear K1 h1
      go_wp2_with fail
      refine (hB.out _).mono ?_
      rintro e w2 ⟨rfl, rfl⟩
      go_wp2_with fail
      refine (hV.out _ (HH.out.2.below H1.out.2)).mono ?_
      rintro e w3 ⟨rfl, h3⟩
      have K3 := H1.out.1.below h3
      have H3 : Hid (Below w.heap.size w w3) := H1.out.2.trans (h3.mono H1.out.2.size)
      clear a0 a1 a2 a3 a4 a5 a6 a7 a8 a9 a10 a11 a12 a13
      obtain ⟨a0, a1, a2, a3, a4, a5, a6, a7, a8, a9, a10, a11, a12, a13⟩ := K3.at14
      clear K3 h3
      go_wp2_with fail
      go_roundw
      case rel => exact ⟨k + 1, by omega, by go_num, HN'.out, H3.out⟩
      case measure => simp [intOf]; omega
    · obtain rfl : k = rs.length := by omega
      have ha := HR.out.1
      rw [List.take_length] at ha
      have e5 := HF.out.2 ha
      clear ha
      go_wp2
      go_ret
      exact ⟨by rw [e5]; rfl, HR.out.2⟩

end Go.Proofs.YtobmpjmpffnoiaaDoor
