/-
  The usual rules; many rules that tell nothing.
-/
import Derived.Test.YtobmpjmpffnoiaaDoorSWo
import Derived.Test.YtobmpjmpffnoiaaDoorSW9
namespace Go.Proofs.YtobmpjmpffnoiaaDoor
open Go.RowKit Go.Shelf

/-- The cells of rules, as an array. -/
def cellsA (rs : List Rl) : Array Value := (flR rs).toArray
theorem rules_blk {W : World} {g c : Nat} {rs : List Rl} {t : TypeId} (h : Blk W g (cellsA rs) t) (hc : rs.length ≤ c) : Rules W (.slice (some ⟨g, 0, none⟩) rs.length c) rs := by
  refine ⟨_, c, rfl, hc, fun _ => ⟨g, 0, rfl, h.lt, fun i hi => ?_⟩⟩
  have key : ∀ j (v : Value), (cellsR rs[i])[j]? = some v → W.cell? ⟨g, 0 + i * 14 + j, none⟩ = some v := fun j v hj => by
    rw [h.cell, Nat.zero_add]
    unfold cellsA
    rw [List.getElem?_toArray]
    exact flR_at rs i hi j v hj
  exact ⟨key 0 _ rfl, key 1 _ rfl, key 2 _ rfl, key 3 _ rfl, key 4 _ rfl, key 5 _ rfl, key 6 _ rfl, key 7 _ rfl, key 8 _ rfl, key 9 _ rfl, key 10 _ rfl, key 11 _ rfl, key 12 _ rfl, key 13 _ rfl⟩

def usL : List Rl := [⟨0, ByteArray.empty, 0, ⟨3, 0, 0, 0, 255, 255, 255, 255, 255, false, 0⟩⟩, ⟨2, ByteArray.empty, 0, ⟨12, 0, 0, 0, 0, 0, 0, 0, 0, true, 1⟩⟩, ⟨3, ByteArray.empty, 0, ⟨4, 0, 0, 0, 0, 0, 0, 0, 0, true, 0⟩⟩, ⟨0, ByteArray.empty, 1, ⟨2, 0, 0, 0, 0, 204, 221, 255, 255, false, 0⟩⟩, ⟨0, ByteArray.empty, 4, ⟨2, 0, 0, 0, 0, 153, 187, 255, 255, false, 0⟩⟩, ⟨0, ByteArray.empty, 8, ⟨1, 136, 136, 136, 255, 0, 0, 0, 0, false, 0⟩⟩]

set_option maxRecDepth 20000 in
set_option maxHeartbeats 4000000 in
theorem usual_any (w : World) : Calls Tryd.prog 11 #[] w fun e w' => e = .returned (.slice (some ⟨w.heap.size, 0, none⟩) 6 6) ∧ w' = w.alloc (.cells (cellsA usL) 35) := by
  go_enter Tryd.func11, Tryd.ntmps11
  go_wp2
  go_ret
  exact ⟨rfl, rfl⟩

set_option maxRecDepth 20000 in
set_option maxHeartbeats 4000000 in
theorem rusual_any (w : World) : Calls Tryd.prog 13 #[] w fun e w' => e = .returned (.slice (some ⟨w.heap.size, 0, none⟩) 6 6) ∧ w' = w.alloc (.cells (cellsA usL) 35) := by
  go_enter Tryd.func13, Tryd.ntmps13
  go_wp2
  go_ret
  exact ⟨rfl, rfl⟩

/-- A list of rules that tell nothing. -/
def zR (n : Nat) : List Rl := List.replicate n Rl.zero
theorem make_rules (w : World) : ∃ arr : Array Value, Hid (Rules (w.alloc (.cells arr 35)) (.slice (some ⟨w.heap.size, 0, none⟩) 257 257) (zR 257) ∧ Rules (w.alloc (.cells arr 35)) (.slice (some ⟨w.heap.size, 0, none⟩) 256 257) (zR 256)) ∧ (Instr.makeSlice 23 (.int .i64 257) (.int .i64 257)).run Tryd.prog w = .ok (.slice (some ⟨w.heap.size, 0, none⟩) 257 257) (w.alloc (.cells arr 35)) := by
  obtain ⟨i0, hi, hz0, hz1, hz2⟩ := info_parts info_rule
  have h := run_make (P := Tryd.prog) w 23 35 i0 (Value.agg #[.int .u8 (Rl.zero.kind : Nat), .string Rl.zero.cls, .int .u8 (Rl.zero.state : Nat), .int .u8 (Rl.zero.look.has : Nat), .int .u8 Rl.zero.look.r, .int .u8 Rl.zero.look.g, .int .u8 Rl.zero.look.b, .int .u8 Rl.zero.look.a, .int .u8 Rl.zero.look.r2, .int .u8 Rl.zero.look.g2, .int .u8 Rl.zero.look.b2, .int .u8 Rl.zero.look.a2, .bool Rl.zero.look.bd, .int .i64 Rl.zero.look.pad]) Tryd.underlying23 hi hz0 .i64 .i64 257 257 (by omega) (Int.le_refl _) (by rw [hz2]; decide) (by decide)
  rw [hz1] at h
  refine ⟨_, ?_, h⟩
  have key : ∀ m, m ≤ 257 → Rules (w.alloc (.cells (madeCells (Value.cells (Value.agg #[.int .u8 (Rl.zero.kind : Nat), .string Rl.zero.cls, .int .u8 (Rl.zero.state : Nat), .int .u8 (Rl.zero.look.has : Nat), .int .u8 Rl.zero.look.r, .int .u8 Rl.zero.look.g, .int .u8 Rl.zero.look.b, .int .u8 Rl.zero.look.a, .int .u8 Rl.zero.look.r2, .int .u8 Rl.zero.look.g2, .int .u8 Rl.zero.look.b2, .int .u8 Rl.zero.look.a2, .bool Rl.zero.look.bd, .int .i64 Rl.zero.look.pad])) ((257 : Int).toNat * 14)) 35)) (.slice (some ⟨w.heap.size, 0, none⟩) m 257) (zR m) := by
    intro m hm
    have hb := Blk.new w (madeCells (Value.cells (Value.agg #[.int .u8 (Rl.zero.kind : Nat), .string Rl.zero.cls, .int .u8 (Rl.zero.state : Nat), .int .u8 (Rl.zero.look.has : Nat), .int .u8 Rl.zero.look.r, .int .u8 Rl.zero.look.g, .int .u8 Rl.zero.look.b, .int .u8 Rl.zero.look.a, .int .u8 Rl.zero.look.r2, .int .u8 Rl.zero.look.g2, .int .u8 Rl.zero.look.b2, .int .u8 Rl.zero.look.a2, .bool Rl.zero.look.bd, .int .i64 Rl.zero.look.pad])) ((257 : Int).toNat * 14)) 35
    refine ⟨_, 257, by rw [show (zR m).length = m by simp [zR]], by simpa [zR] using hm, fun _ => ⟨w.heap.size, 0, rfl, hb.lt, fun i hi => ?_⟩⟩
    have hi' : i < m := by simpa [zR] using hi
    have e : (zR m)[i] = Rl.zero := by simp [zR]
    rw [e]
    have key2 : ∀ j (v : Value), j < 14 → (cellsR Rl.zero)[j]? = some v → (w.alloc (.cells (madeCells (Value.cells (Value.agg #[.int .u8 (Rl.zero.kind : Nat), .string Rl.zero.cls, .int .u8 (Rl.zero.state : Nat), .int .u8 (Rl.zero.look.has : Nat), .int .u8 Rl.zero.look.r, .int .u8 Rl.zero.look.g, .int .u8 Rl.zero.look.b, .int .u8 Rl.zero.look.a, .int .u8 Rl.zero.look.r2, .int .u8 Rl.zero.look.g2, .int .u8 Rl.zero.look.b2, .int .u8 Rl.zero.look.a2, .bool Rl.zero.look.bd, .int .i64 Rl.zero.look.pad])) ((257 : Int).toNat * 14)) 35)).cell? ⟨w.heap.size, 0 + i * 14 + j, none⟩ = some v := fun j v hj hv => by
      rw [hb.cell]
      unfold madeCells
      rw [Array.getElem?_map, Array.getElem?_range, if_pos (show 0 + i * 14 + j < (257 : Int).toNat * 14 by show 0 + i * 14 + j < 257 * 14; omega)]
      show some ((Value.cells (Value.agg #[.int .u8 (Rl.zero.kind : Nat), .string Rl.zero.cls, .int .u8 (Rl.zero.state : Nat), .int .u8 (Rl.zero.look.has : Nat), .int .u8 Rl.zero.look.r, .int .u8 Rl.zero.look.g, .int .u8 Rl.zero.look.b, .int .u8 Rl.zero.look.a, .int .u8 Rl.zero.look.r2, .int .u8 Rl.zero.look.g2, .int .u8 Rl.zero.look.b2, .int .u8 Rl.zero.look.a2, .bool Rl.zero.look.bd, .int .i64 Rl.zero.look.pad]))[(0 + i * 14 + j) % 14]!) = some v
      rw [show (0 + i * 14 + j) % 14 = j by omega, ← hv]
      match j, hj with
      | 0, _ => rfl
      | 1, _ => rfl
      | 2, _ => rfl
      | 3, _ => rfl
      | 4, _ => rfl
      | 5, _ => rfl
      | 6, _ => rfl
      | 7, _ => rfl
      | 8, _ => rfl
      | 9, _ => rfl
      | 10, _ => rfl
      | 11, _ => rfl
      | 12, _ => rfl
      | 13, _ => rfl
    exact ⟨key2 0 _ (by omega) rfl, key2 1 _ (by omega) rfl, key2 2 _ (by omega) rfl, key2 3 _ (by omega) rfl, key2 4 _ (by omega) rfl, key2 5 _ (by omega) rfl, key2 6 _ (by omega) rfl, key2 7 _ (by omega) rfl, key2 8 _ (by omega) rfl, key2 9 _ (by omega) rfl, key2 10 _ (by omega) rfl, key2 11 _ (by omega) rfl, key2 12 _ (by omega) rfl, key2 13 _ (by omega) rfl⟩
  exact ⟨key 257 (by omega), key 256 (by omega)⟩

theorem z_ok : okR Rl.zero = true := by decide +kernel
theorem z_len (n : Nat) : (zR n).length = n := List.length_replicate
theorem z_chk : chkR (zR 256) = 0 := by
  unfold chkR
  rw [if_neg (by rw [z_len]; decide), if_pos]
  exact List.all_eq_true.2 fun r hr => by rw [List.eq_of_mem_replicate hr]; exact z_ok
theorem z_many : chkR (zR 257) = 4 := by
  unfold chkR
  rw [if_pos (by rw [z_len]; decide)]
theorem z_wf (n : Nat) : ∀ r ∈ zR n, r.cls.size ≤ 9223372036854775807 ∧ r.wf := by
  intro r hr
  unfold zR at hr
  rw [List.eq_of_mem_replicate hr]
  exact ⟨by decide, by decide, by decide, by decide⟩
theorem z_str (n k : Nat) : str (zR n) k = 0 := by
  unfold str zR
  by_cases h : k < n
  · rw [List.getElem?_eq_getElem (by simpa using h), List.getElem_replicate]
    decide +kernel
  · rw [List.getElem?_eq_none (by simpa using h)]
theorem z_order {f : Nat → Nat} (h : Mrg (str (zR 256)) id f 0 256) : f 255 = 255 := by
  refine srt_unique 256 h.1 (fun i j _ h2 _ => .inr ⟨by rw [z_str, z_str], h2⟩ : Srt (str (zR 256)) id 0 256) (fun k hk => ?_) (fun k hk => ?_) 255 (by omega)
  · obtain ⟨x, _, x2, e⟩ := h.2.inn k (Nat.zero_le _) hk
    exact ⟨x, x2, e⟩
  · obtain ⟨x, _, x2, e⟩ := h.2.bak k (Nat.zero_le _) hk
    exact ⟨x, x2, e⟩

end Go.Proofs.YtobmpjmpffnoiaaDoor
