/-
  Lists of looks and of rules in memory; looks behind one another.
-/
import Derived.Test.YtobmpjmpffnoiaaDoorSW1
namespace Go.Proofs.YtobmpjmpffnoiaaDoor
open Go.RowKit

/-- A look that lies from cell p of block g on; a rule. -/
def LkAt (w : World) (g p : Nat) (k : Lk) : Prop := w.cell? ⟨g, p, none⟩ = some (.int .u8 (k.has : Nat)) ∧ w.cell? ⟨g, p + 1, none⟩ = some (.int .u8 k.r) ∧ w.cell? ⟨g, p + 2, none⟩ = some (.int .u8 k.g) ∧ w.cell? ⟨g, p + 3, none⟩ = some (.int .u8 k.b) ∧ w.cell? ⟨g, p + 4, none⟩ = some (.int .u8 k.a) ∧ w.cell? ⟨g, p + 5, none⟩ = some (.int .u8 k.r2) ∧ w.cell? ⟨g, p + 6, none⟩ = some (.int .u8 k.g2) ∧ w.cell? ⟨g, p + 7, none⟩ = some (.int .u8 k.b2) ∧ w.cell? ⟨g, p + 8, none⟩ = some (.int .u8 k.a2) ∧ w.cell? ⟨g, p + 9, none⟩ = some (.bool k.bd) ∧ w.cell? ⟨g, p + 10, none⟩ = some (.int .i64 k.pad)
def RlAt (w : World) (g p : Nat) (r : Rl) : Prop := w.cell? ⟨g, p, none⟩ = some (.int .u8 (r.kind : Nat)) ∧ w.cell? ⟨g, p + 1, none⟩ = some (.string r.cls) ∧ w.cell? ⟨g, p + 2, none⟩ = some (.int .u8 (r.state : Nat)) ∧ w.cell? ⟨g, p + 3, none⟩ = some (.int .u8 (r.look.has : Nat)) ∧ w.cell? ⟨g, p + 4, none⟩ = some (.int .u8 r.look.r) ∧ w.cell? ⟨g, p + 5, none⟩ = some (.int .u8 r.look.g) ∧ w.cell? ⟨g, p + 6, none⟩ = some (.int .u8 r.look.b) ∧ w.cell? ⟨g, p + 7, none⟩ = some (.int .u8 r.look.a) ∧ w.cell? ⟨g, p + 8, none⟩ = some (.int .u8 r.look.r2) ∧ w.cell? ⟨g, p + 9, none⟩ = some (.int .u8 r.look.g2) ∧ w.cell? ⟨g, p + 10, none⟩ = some (.int .u8 r.look.b2) ∧ w.cell? ⟨g, p + 11, none⟩ = some (.int .u8 r.look.a2) ∧ w.cell? ⟨g, p + 12, none⟩ = some (.bool r.look.bd) ∧ w.cell? ⟨g, p + 13, none⟩ = some (.int .i64 r.look.pad)
theorem LkAt.kept {w w' : World} {g p : Nat} {k : Lk} (h : LkAt w g p k) (hb : ∀ o, w'.cell? ⟨g, o, none⟩ = w.cell? ⟨g, o, none⟩) : LkAt w' g p k := by
  have e := fun j => hb (p + j)
  exact ⟨(e 0).trans h.1, (e 1).trans h.2.1, (e 2).trans h.2.2.1, (e 3).trans h.2.2.2.1, (e 4).trans h.2.2.2.2.1, (e 5).trans h.2.2.2.2.2.1, (e 6).trans h.2.2.2.2.2.2.1, (e 7).trans h.2.2.2.2.2.2.2.1, (e 8).trans h.2.2.2.2.2.2.2.2.1, (e 9).trans h.2.2.2.2.2.2.2.2.2.1, (e 10).trans h.2.2.2.2.2.2.2.2.2.2⟩
theorem RlAt.kept {w w' : World} {g p : Nat} {r : Rl} (h : RlAt w g p r) (hb : ∀ o, w'.cell? ⟨g, o, none⟩ = w.cell? ⟨g, o, none⟩) : RlAt w' g p r := by
  have e := fun j => hb (p + j)
  exact ⟨(e 0).trans h.1, (e 1).trans h.2.1, (e 2).trans h.2.2.1, (e 3).trans h.2.2.2.1, (e 4).trans h.2.2.2.2.1, (e 5).trans h.2.2.2.2.2.1, (e 6).trans h.2.2.2.2.2.2.1, (e 7).trans h.2.2.2.2.2.2.2.1, (e 8).trans h.2.2.2.2.2.2.2.2.1, (e 9).trans h.2.2.2.2.2.2.2.2.2.1, (e 10).trans h.2.2.2.2.2.2.2.2.2.2.1, (e 11).trans h.2.2.2.2.2.2.2.2.2.2.2.1, (e 12).trans h.2.2.2.2.2.2.2.2.2.2.2.2.1, (e 13).trans h.2.2.2.2.2.2.2.2.2.2.2.2.2⟩

def Looks (w : World) (v : Value) (ls : List Lk) : Prop := ∃ oa cap, v = .slice oa ls.length cap ∧ ls.length ≤ cap ∧ (0 < ls.length → ∃ g o, oa = some ⟨g, o, none⟩ ∧ g < w.heap.size ∧ ∀ i (h : i < ls.length), LkAt w g (o + i * 11) ls[i])
def Rules (w : World) (v : Value) (rs : List Rl) : Prop := ∃ oa cap, v = .slice oa rs.length cap ∧ rs.length ≤ cap ∧ (0 < rs.length → ∃ g o, oa = some ⟨g, o, none⟩ ∧ g < w.heap.size ∧ ∀ i (h : i < rs.length), RlAt w g (o + i * 14) rs[i])
theorem Looks.below {w w' : World} {v : Value} {ls : List Lk} (h : Looks w v ls) (hb : Below w.heap.size w w') : Looks w' v ls := by
  obtain ⟨oa, cap, e, hc, hg⟩ := h
  refine ⟨oa, cap, e, hc, fun hp => ?_⟩
  obtain ⟨g, o, e1, g1, g2⟩ := hg hp
  exact ⟨g, o, e1, Nat.lt_of_lt_of_le g1 hb.size, fun i hi => (g2 i hi).kept fun j => hb.cell (p := ⟨g, j, none⟩) g1⟩
theorem Rules.below {w w' : World} {v : Value} {rs : List Rl} (h : Rules w v rs) (hb : Below w.heap.size w w') : Rules w' v rs := by
  obtain ⟨oa, cap, e, hc, hg⟩ := h
  refine ⟨oa, cap, e, hc, fun hp => ?_⟩
  obtain ⟨g, o, e1, g1, g2⟩ := hg hp
  exact ⟨g, o, e1, Nat.lt_of_lt_of_le g1 hb.size, fun i hi => (g2 i hi).kept fun j => hb.cell (p := ⟨g, j, none⟩) g1⟩

theorem Blk.at11 {W : World} {b : Nat} {a0 a1 a2 a3 a4 a5 a6 a7 a8 a9 a10 : Value} {t : TypeId} (h : Blk W b #[a0, a1, a2, a3, a4, a5, a6, a7, a8, a9, a10] t) : W.cell? ⟨b, 0, none⟩ = some a0 ∧ W.cell? ⟨b, 1, none⟩ = some a1 ∧ W.cell? ⟨b, 2, none⟩ = some a2 ∧ W.cell? ⟨b, 3, none⟩ = some a3 ∧ W.cell? ⟨b, 4, none⟩ = some a4 ∧ W.cell? ⟨b, 5, none⟩ = some a5 ∧ W.cell? ⟨b, 6, none⟩ = some a6 ∧ W.cell? ⟨b, 7, none⟩ = some a7 ∧ W.cell? ⟨b, 8, none⟩ = some a8 ∧ W.cell? ⟨b, 9, none⟩ = some a9 ∧ W.cell? ⟨b, 10, none⟩ = some a10 :=
  ⟨h.cell 0, h.cell 1, h.cell 2, h.cell 3, h.cell 4, h.cell 5, h.cell 6, h.cell 7, h.cell 8, h.cell 9, h.cell 10⟩
theorem Blk.put11 {W : World} {b : Nat} {a0 a1 a2 a3 a4 a5 a6 a7 a8 a9 a10 : Value} {t : TypeId} (h : Blk W b #[a0, a1, a2, a3, a4, a5, a6, a7, a8, a9, a10] t) (v0 v1 v2 v3 v4 v5 v6 v7 v8 v9 v10 : Value) :
    Blk (((((((((((W.setCell ⟨b, 0, none⟩ v0).setCell ⟨b, 1, none⟩ v1).setCell ⟨b, 2, none⟩ v2).setCell ⟨b, 3, none⟩ v3).setCell ⟨b, 4, none⟩ v4).setCell ⟨b, 5, none⟩ v5).setCell ⟨b, 6, none⟩ v6).setCell ⟨b, 7, none⟩ v7).setCell ⟨b, 8, none⟩ v8).setCell ⟨b, 9, none⟩ v9).setCell ⟨b, 10, none⟩ v10) b #[v0, v1, v2, v3, v4, v5, v6, v7, v8, v9, v10] t := by
  simpa using ((((((((((h.put 0 v0).put 1 v1).put 2 v2).put 3 v3).put 4 v4).put 5 v5).put 6 v6).put 7 v7).put 8 v8).put 9 v9).put 10 v10
theorem set11_below {B b : Nat} {w w1 : World} (L : Below B w w1) (h : B ≤ b) (v0 v1 v2 v3 v4 v5 v6 v7 v8 v9 v10 : Value) : Below B w (((((((((((w1.setCell ⟨b, 0, none⟩ v0).setCell ⟨b, 1, none⟩ v1).setCell ⟨b, 2, none⟩ v2).setCell ⟨b, 3, none⟩ v3).setCell ⟨b, 4, none⟩ v4).setCell ⟨b, 5, none⟩ v5).setCell ⟨b, 6, none⟩ v6).setCell ⟨b, 7, none⟩ v7).setCell ⟨b, 8, none⟩ v8).setCell ⟨b, 9, none⟩ v9).setCell ⟨b, 10, none⟩ v10) :=
  ((((((((((L.setCell h v0).setCell h v1).setCell h v2).setCell h v3).setCell h v4).setCell h v5).setCell h v6).setCell h v7).setCell h v8).setCell h v9).setCell h v10
theorem Blk.set11 {W : World} {b b' : Nat} {vs : Array Value} {t : TypeId} (h : Blk W b' vs t) (hb : b ≠ b') (v0 v1 v2 v3 v4 v5 v6 v7 v8 v9 v10 : Value) : Blk (((((((((((W.setCell ⟨b, 0, none⟩ v0).setCell ⟨b, 1, none⟩ v1).setCell ⟨b, 2, none⟩ v2).setCell ⟨b, 3, none⟩ v3).setCell ⟨b, 4, none⟩ v4).setCell ⟨b, 5, none⟩ v5).setCell ⟨b, 6, none⟩ v6).setCell ⟨b, 7, none⟩ v7).setCell ⟨b, 8, none⟩ v8).setCell ⟨b, 9, none⟩ v9).setCell ⟨b, 10, none⟩ v10) b' vs t :=
  ((((((((((h.other ⟨b, 0, none⟩ v0 hb).other ⟨b, 1, none⟩ v1 hb).other ⟨b, 2, none⟩ v2 hb).other ⟨b, 3, none⟩ v3 hb).other ⟨b, 4, none⟩ v4 hb).other ⟨b, 5, none⟩ v5 hb).other ⟨b, 6, none⟩ v6 hb).other ⟨b, 7, none⟩ v7 hb).other ⟨b, 8, none⟩ v8 hb).other ⟨b, 9, none⟩ v9 hb).other ⟨b, 10, none⟩ v10 hb

set_option maxHeartbeats 1000000 in
theorem layered_any (ls : List Lk) (v : Value) (w : World) (hv : Looks w v ls) (hl : ls.length < 1000000) (hh : ∀ f ∈ ls, f.has < 256) :
    Calls Tryd.prog 36 #[v] w fun e w' => e = .returned (Value.agg #[.int .u8 ((ly ls).has : Nat), .int .u8 (ly ls).r, .int .u8 (ly ls).g, .int .u8 (ly ls).b, .int .u8 (ly ls).a, .int .u8 (ly ls).r2, .int .u8 (ly ls).g2, .int .u8 (ly ls).b2, .int .u8 (ly ls).a2, .bool (ly ls).bd, .int .i64 (ly ls).pad]) ∧ Below w.heap.size w w' := by
  obtain ⟨oa, cap, rfl, hc, hg⟩ := hv
  have HG : Hid (0 < ls.length → ∃ g o, oa = some ⟨g, o, none⟩ ∧ g < w.heap.size ∧ ∀ i (h : i < ls.length), LkAt w g (o + i * 11) ls[i]) := hg
  have HH : Hid (∀ f ∈ ls, f.has < 256) := hh
  clear hg hh
  go_enter Tryd.func36, Tryd.ntmps36
  go_wp2_with fail
  have z1 := Blk.new w (#[.int .u8 (Lk.zero.has : Nat), .int .u8 Lk.zero.r, .int .u8 Lk.zero.g, .int .u8 Lk.zero.b, .int .u8 Lk.zero.a, .int .u8 Lk.zero.r2, .int .u8 Lk.zero.g2, .int .u8 Lk.zero.b2, .int .u8 Lk.zero.a2, .bool Lk.zero.bd, .int .i64 Lk.zero.pad]) 33
  have z2 := Blk.new (w.alloc (.cells (#[.int .u8 (Lk.zero.has : Nat), .int .u8 Lk.zero.r, .int .u8 Lk.zero.g, .int .u8 Lk.zero.b, .int .u8 Lk.zero.a, .int .u8 Lk.zero.r2, .int .u8 Lk.zero.g2, .int .u8 Lk.zero.b2, .int .u8 Lk.zero.a2, .bool Lk.zero.bd, .int .i64 Lk.zero.pad]) 33)) (#[.int .u8 (Lk.zero.has : Nat), .int .u8 Lk.zero.r, .int .u8 Lk.zero.g, .int .u8 Lk.zero.b, .int .u8 Lk.zero.a, .int .u8 Lk.zero.r2, .int .u8 Lk.zero.g2, .int .u8 Lk.zero.b2, .int .u8 Lk.zero.a2, .bool Lk.zero.bd, .int .i64 Lk.zero.pad]) 33
  rw [World.size_alloc] at z2
  replace z1 := z1.alloc (.cells (#[.int .u8 (Lk.zero.has : Nat), .int .u8 Lk.zero.r, .int .u8 Lk.zero.g, .int .u8 Lk.zero.b, .int .u8 Lk.zero.a, .int .u8 Lk.zero.r2, .int .u8 Lk.zero.g2, .int .u8 Lk.zero.b2, .int .u8 Lk.zero.a2, .bool Lk.zero.bd, .int .i64 Lk.zero.pad]) 33)
  have L0 : Below w.heap.size w ((w.alloc (.cells (#[.int .u8 (Lk.zero.has : Nat), .int .u8 Lk.zero.r, .int .u8 Lk.zero.g, .int .u8 Lk.zero.b, .int .u8 Lk.zero.a, .int .u8 Lk.zero.r2, .int .u8 Lk.zero.g2, .int .u8 Lk.zero.b2, .int .u8 Lk.zero.a2, .bool Lk.zero.bd, .int .i64 Lk.zero.pad]) 33)).alloc (.cells (#[.int .u8 (Lk.zero.has : Nat), .int .u8 Lk.zero.r, .int .u8 Lk.zero.g, .int .u8 Lk.zero.b, .int .u8 Lk.zero.a, .int .u8 Lk.zero.r2, .int .u8 Lk.zero.g2, .int .u8 Lk.zero.b2, .int .u8 Lk.zero.a2, .bool Lk.zero.bd, .int .i64 Lk.zero.pad]) 33)) := ((Below.refl _ w).alloc (Nat.le_refl _) _).alloc (by simp) _
  simp only [Lk.zero] at z1 z2 L0
  go_loopw [4, 9] (fun q i wr => ∃ k : Nat, k ≤ ls.length ∧ i = .int .i64 k ∧ q = .int .u8 (wn (ls.take k) : Nat) ∧ Blk wr (w.heap.size + 1) (#[.int .u8 ((ly (ls.take k)).has : Nat), .int .u8 (ly (ls.take k)).r, .int .u8 (ly (ls.take k)).g, .int .u8 (ly (ls.take k)).b, .int .u8 (ly (ls.take k)).a, .int .u8 (ly (ls.take k)).r2, .int .u8 (ly (ls.take k)).g2, .int .u8 (ly (ls.take k)).b2, .int .u8 (ly (ls.take k)).a2, .bool (ly (ls.take k)).bd, .int .i64 (ly (ls.take k)).pad]) 33 ∧ Blk wr w.heap.size (#[.int .u8 (Lk.zero.has : Nat), .int .u8 Lk.zero.r, .int .u8 Lk.zero.g, .int .u8 Lk.zero.b, .int .u8 Lk.zero.a, .int .u8 Lk.zero.r2, .int .u8 Lk.zero.g2, .int .u8 Lk.zero.b2, .int .u8 Lk.zero.a2, .bool Lk.zero.bd, .int .i64 Lk.zero.pad]) 33 ∧ Below w.heap.size w wr) (fun _ i _ => ls.length - (intOf i).toNat)
  case atStart => exact ⟨0, Nat.zero_le _, rfl, rfl, z2, z1, L0⟩
  case round =>
    obtain ⟨k, hk, rfl, rfl, A, Z, L⟩ := hrel
    clear z1 z2 L0
    by_cases hlt : k < ls.length
    · obtain ⟨g, o, rfl, hg, hat⟩ := HG.out (by omega)
      have hx := (hat k hlt).kept (w' := wr) fun j => L.cell (p := ⟨g, j, none⟩) hg
      have hf : ls[k].has < 256 := HH.out _ (List.getElem_mem hlt)
      have e1 : ls.take (k + 1) = ls.take k ++ [ls[k]] := (List.take_append_getElem hlt).symm
      have E : Hid (ly (ls.take (k + 1)) = tk (ly (ls.take k)) ls[k] (wn (ls.take k)) ∧ wn (ls.take (k + 1)) = wo (wn (ls.take k)) ls[k].has) := by
        rw [e1]; exact ⟨ly_snoc _ _ hf, wn_snoc _ _ hf⟩
      have hT : Hid (∀ w, Calls Tryd.prog 52 #[(Value.agg #[.int .u8 ((ly (ls.take k)).has : Nat), .int .u8 (ly (ls.take k)).r, .int .u8 (ly (ls.take k)).g, .int .u8 (ly (ls.take k)).b, .int .u8 (ly (ls.take k)).a, .int .u8 (ly (ls.take k)).r2, .int .u8 (ly (ls.take k)).g2, .int .u8 (ly (ls.take k)).b2, .int .u8 (ly (ls.take k)).a2, .bool (ly (ls.take k)).bd, .int .i64 (ly (ls.take k)).pad]), (Value.agg #[.int .u8 (ls[k].has : Nat), .int .u8 ls[k].r, .int .u8 ls[k].g, .int .u8 ls[k].b, .int .u8 ls[k].a, .int .u8 ls[k].r2, .int .u8 ls[k].g2, .int .u8 ls[k].b2, .int .u8 ls[k].a2, .bool ls[k].bd, .int .i64 ls[k].pad]), .int .u8 (wn (ls.take k) : Nat)] w fun e w' => e = .returned (Value.agg #[.int .u8 ((tk (ly (ls.take k)) ls[k] (wn (ls.take k))).has : Nat), .int .u8 (tk (ly (ls.take k)) ls[k] (wn (ls.take k))).r, .int .u8 (tk (ly (ls.take k)) ls[k] (wn (ls.take k))).g, .int .u8 (tk (ly (ls.take k)) ls[k] (wn (ls.take k))).b, .int .u8 (tk (ly (ls.take k)) ls[k] (wn (ls.take k))).a, .int .u8 (tk (ly (ls.take k)) ls[k] (wn (ls.take k))).r2, .int .u8 (tk (ly (ls.take k)) ls[k] (wn (ls.take k))).g2, .int .u8 (tk (ly (ls.take k)) ls[k] (wn (ls.take k))).b2, .int .u8 (tk (ly (ls.take k)) ls[k] (wn (ls.take k))).a2, .bool (tk (ly (ls.take k)) ls[k] (wn (ls.take k))).bd, .int .i64 (tk (ly (ls.take k)) ls[k] (wn (ls.take k))).pad]) ∧ Below w.heap.size w w') := fun w =>
        take_any _ _ _ w (wn_lt _) (ly_has _) hf
      have hN := not_q (wn_lt (ls.take k)) hf
      clear hat e1
      generalize tk (ly (ls.take k)) ls[k] (wn (ls.take k)) = y2 at *
      generalize ly (ls.take k) = y at *
      generalize wn (ls.take k) = q at *
      generalize ls[k] = x at *
      obtain ⟨x0, x1, x2, x3, x4, x5, x6, x7, x8, x9, x10⟩ := hx
      have HA : Hid (Blk wr (w.heap.size + 1) (#[.int .u8 (y.has : Nat), .int .u8 y.r, .int .u8 y.g, .int .u8 y.b, .int .u8 y.a, .int .u8 y.r2, .int .u8 y.g2, .int .u8 y.b2, .int .u8 y.a2, .bool y.bd, .int .i64 y.pad]) 33 ∧ Blk wr w.heap.size (#[.int .u8 (Lk.zero.has : Nat), .int .u8 Lk.zero.r, .int .u8 Lk.zero.g, .int .u8 Lk.zero.b, .int .u8 Lk.zero.a, .int .u8 Lk.zero.r2, .int .u8 Lk.zero.g2, .int .u8 Lk.zero.b2, .int .u8 Lk.zero.a2, .bool Lk.zero.bd, .int .i64 Lk.zero.pad]) 33 ∧ Below w.heap.size w wr) := ⟨A, Z, L⟩
      obtain ⟨c0, c1, c2, c3, c4, c5, c6, c7, c8, c9, c10⟩ := A.at11
      have s1 : w.heap.size + 1 < wr.heap.size := A.lt
      clear A Z L
      go_wp2_with fail
      refine (hT.out _).mono ?_
      rintro e w1 ⟨rfl, hb⟩
      have X1 := (Blk.new wr (#[.int .u8 (x.has : Nat), .int .u8 x.r, .int .u8 x.g, .int .u8 x.b, .int .u8 x.a, .int .u8 x.r2, .int .u8 x.g2, .int .u8 x.b2, .int .u8 x.a2, .bool x.bd, .int .i64 x.pad]) 33).below hb
      have A1 := (HA.out.1.alloc (.cells (#[.int .u8 (x.has : Nat), .int .u8 x.r, .int .u8 x.g, .int .u8 x.b, .int .u8 x.a, .int .u8 x.r2, .int .u8 x.g2, .int .u8 x.b2, .int .u8 x.a2, .bool x.bd, .int .i64 x.pad]) 33)).below hb
      have Z1 := (HA.out.2.1.alloc (.cells (#[.int .u8 (x.has : Nat), .int .u8 x.r, .int .u8 x.g, .int .u8 x.b, .int .u8 x.a, .int .u8 x.r2, .int .u8 x.g2, .int .u8 x.b2, .int .u8 x.a2, .bool x.bd, .int .i64 x.pad]) 33)).below hb
      have L1 : Below w.heap.size w w1 := (HA.out.2.2.alloc (by omega) _).trans (hb.mono (by simp; omega))
      have H1 : Hid (Blk w1 (w.heap.size + 1) (#[.int .u8 (y.has : Nat), .int .u8 y.r, .int .u8 y.g, .int .u8 y.b, .int .u8 y.a, .int .u8 y.r2, .int .u8 y.g2, .int .u8 y.b2, .int .u8 y.a2, .bool y.bd, .int .i64 y.pad]) 33 ∧ Blk w1 w.heap.size (#[.int .u8 (Lk.zero.has : Nat), .int .u8 Lk.zero.r, .int .u8 Lk.zero.g, .int .u8 Lk.zero.b, .int .u8 Lk.zero.a, .int .u8 Lk.zero.r2, .int .u8 Lk.zero.g2, .int .u8 Lk.zero.b2, .int .u8 Lk.zero.a2, .bool Lk.zero.bd, .int .i64 Lk.zero.pad]) 33 ∧ Below w.heap.size w w1) := ⟨A1, Z1, L1⟩
      have f1 := fun o => A1.frozen o
      have p0 := X1.at11.1
      obtain ⟨d0, d1, d2, d3, d4, d5, d6, d7, d8, d9, d10⟩ := A1.at11
      have s2 : wr.heap.size < w1.heap.size := X1.lt
      clear hb A1 Z1 L1 X1 c0 c1 c2 c3 c4 c5 c6 c7 c8 c9 c10
      go_wp2_with fail
      go_roundw
      case rel =>
        refine ⟨k + 1, by omega, by go_num, by rw [E.out.2], ?_, H1.out.2.1.set11 (by omega) _ _ _ _ _ _ _ _ _ _ _, set11_below H1.out.2.2 (by omega) _ _ _ _ _ _ _ _ _ _ _⟩
        rw [E.out.1]
        exact H1.out.1.put11 _ _ _ _ _ _ _ _ _ _ _
      case measure => simp [intOf]; omega
    · obtain rfl : k = ls.length := by omega
      rw [List.take_length] at A
      obtain ⟨c0, c1, c2, c3, c4, c5, c6, c7, c8, c9, c10⟩ := A.at11
      obtain ⟨d0, d1, d2, d3, d4, d5, d6, d7, d8, d9, d10⟩ := Z.at11
      have f1 := fun o => Z.frozen o
      have HL : Hid (Below w.heap.size w wr) := L
      clear A Z L
      go_wp2
      exact bodyPost_ret (v := (Value.agg #[.int .u8 ((ly ls).has : Nat), .int .u8 (ly ls).r, .int .u8 (ly ls).g, .int .u8 (ly ls).b, .int .u8 (ly ls).a, .int .u8 (ly ls).r2, .int .u8 (ly ls).g2, .int .u8 (ly ls).b2, .int .u8 (ly ls).a2, .bool (ly ls).bd, .int .i64 (ly ls).pad])) (by simp [results, Tryd.results36, go_sem, *]) rfl ⟨rfl, set11_below HL.out (Nat.le_refl _) _ _ _ _ _ _ _ _ _ _ _⟩

theorem looks_two (W : World) (g : Nat) (a b : Lk) (t : TypeId) (h : Blk W g #[.int .u8 (a.has : Nat), .int .u8 a.r, .int .u8 a.g, .int .u8 a.b, .int .u8 a.a, .int .u8 a.r2, .int .u8 a.g2, .int .u8 a.b2, .int .u8 a.a2, .bool a.bd, .int .i64 a.pad, .int .u8 (b.has : Nat), .int .u8 b.r, .int .u8 b.g, .int .u8 b.b, .int .u8 b.a, .int .u8 b.r2, .int .u8 b.g2, .int .u8 b.b2, .int .u8 b.a2, .bool b.bd, .int .i64 b.pad] t) : Looks W (.slice (some ⟨g, 0, none⟩) 2 2) [a, b] := by
  refine ⟨_, 2, rfl, Nat.le_refl _, fun _ => ⟨g, 0, rfl, h.lt, fun i hi => ?_⟩⟩
  match i, hi with
  | 0, _ => exact ⟨h.cell 0, h.cell 1, h.cell 2, h.cell 3, h.cell 4, h.cell 5, h.cell 6, h.cell 7, h.cell 8, h.cell 9, h.cell 10⟩
  | 1, _ => exact ⟨h.cell 11, h.cell 12, h.cell 13, h.cell 14, h.cell 15, h.cell 16, h.cell 17, h.cell 18, h.cell 19, h.cell 20, h.cell 21⟩
  | n + 2, hi => exact absurd hi (by simp)

set_option maxHeartbeats 1000000 in
theorem under_any (a b : Lk) (w : World) (ha : a.has < 256) (hb : b.has < 256) :
    Calls Tryd.prog 24 #[(Value.agg #[.int .u8 (a.has : Nat), .int .u8 a.r, .int .u8 a.g, .int .u8 a.b, .int .u8 a.a, .int .u8 a.r2, .int .u8 a.g2, .int .u8 a.b2, .int .u8 a.a2, .bool a.bd, .int .i64 a.pad]), (Value.agg #[.int .u8 (b.has : Nat), .int .u8 b.r, .int .u8 b.g, .int .u8 b.b, .int .u8 b.a, .int .u8 b.r2, .int .u8 b.g2, .int .u8 b.b2, .int .u8 b.a2, .bool b.bd, .int .i64 b.pad])] w fun e w' => e = .returned (Value.agg #[.int .u8 ((ly [a, b]).has : Nat), .int .u8 (ly [a, b]).r, .int .u8 (ly [a, b]).g, .int .u8 (ly [a, b]).b, .int .u8 (ly [a, b]).a, .int .u8 (ly [a, b]).r2, .int .u8 (ly [a, b]).g2, .int .u8 (ly [a, b]).b2, .int .u8 (ly [a, b]).a2, .bool (ly [a, b]).bd, .int .i64 (ly [a, b]).pad]) ∧ Below w.heap.size w w' := by
  go_enter Tryd.func24, Tryd.ntmps24
  go_wp2_with fail
  have K := looks_two _ _ a b 33 (Blk.new (((w.alloc (.cells (#[.int .u8 (a.has : Nat), .int .u8 a.r, .int .u8 a.g, .int .u8 a.b, .int .u8 a.a, .int .u8 a.r2, .int .u8 a.g2, .int .u8 a.b2, .int .u8 a.a2, .bool a.bd, .int .i64 a.pad]) 33)).alloc (.cells (#[.int .u8 (b.has : Nat), .int .u8 b.r, .int .u8 b.g, .int .u8 b.b, .int .u8 b.a, .int .u8 b.r2, .int .u8 b.g2, .int .u8 b.b2, .int .u8 b.a2, .bool b.bd, .int .i64 b.pad]) 33)).alloc (.cells (#[.int .u8 (Lk.zero.has : Nat), .int .u8 Lk.zero.r, .int .u8 Lk.zero.g, .int .u8 Lk.zero.b, .int .u8 Lk.zero.a, .int .u8 Lk.zero.r2, .int .u8 Lk.zero.g2, .int .u8 Lk.zero.b2, .int .u8 Lk.zero.a2, .bool Lk.zero.bd, .int .i64 Lk.zero.pad]) 33)) #[.int .u8 (a.has : Nat), .int .u8 a.r, .int .u8 a.g, .int .u8 a.b, .int .u8 a.a, .int .u8 a.r2, .int .u8 a.g2, .int .u8 a.b2, .int .u8 a.a2, .bool a.bd, .int .i64 a.pad, .int .u8 (b.has : Nat), .int .u8 b.r, .int .u8 b.g, .int .u8 b.b, .int .u8 b.a, .int .u8 b.r2, .int .u8 b.g2, .int .u8 b.b2, .int .u8 b.a2, .bool b.bd, .int .i64 b.pad] 33)
  have Z := (Blk.new ((w.alloc (.cells (#[.int .u8 (a.has : Nat), .int .u8 a.r, .int .u8 a.g, .int .u8 a.b, .int .u8 a.a, .int .u8 a.r2, .int .u8 a.g2, .int .u8 a.b2, .int .u8 a.a2, .bool a.bd, .int .i64 a.pad]) 33)).alloc (.cells (#[.int .u8 (b.has : Nat), .int .u8 b.r, .int .u8 b.g, .int .u8 b.b, .int .u8 b.a, .int .u8 b.r2, .int .u8 b.g2, .int .u8 b.b2, .int .u8 b.a2, .bool b.bd, .int .i64 b.pad]) 33)) (#[.int .u8 (Lk.zero.has : Nat), .int .u8 Lk.zero.r, .int .u8 Lk.zero.g, .int .u8 Lk.zero.b, .int .u8 Lk.zero.a, .int .u8 Lk.zero.r2, .int .u8 Lk.zero.g2, .int .u8 Lk.zero.b2, .int .u8 Lk.zero.a2, .bool Lk.zero.bd, .int .i64 Lk.zero.pad]) 33).alloc (.cells #[.int .u8 (a.has : Nat), .int .u8 a.r, .int .u8 a.g, .int .u8 a.b, .int .u8 a.a, .int .u8 a.r2, .int .u8 a.g2, .int .u8 a.b2, .int .u8 a.a2, .bool a.bd, .int .i64 a.pad, .int .u8 (b.has : Nat), .int .u8 b.r, .int .u8 b.g, .int .u8 b.b, .int .u8 b.a, .int .u8 b.r2, .int .u8 b.g2, .int .u8 b.b2, .int .u8 b.a2, .bool b.bd, .int .i64 b.pad] 33)
  have L : Below w.heap.size w ((((w.alloc (.cells (#[.int .u8 (a.has : Nat), .int .u8 a.r, .int .u8 a.g, .int .u8 a.b, .int .u8 a.a, .int .u8 a.r2, .int .u8 a.g2, .int .u8 a.b2, .int .u8 a.a2, .bool a.bd, .int .i64 a.pad]) 33)).alloc (.cells (#[.int .u8 (b.has : Nat), .int .u8 b.r, .int .u8 b.g, .int .u8 b.b, .int .u8 b.a, .int .u8 b.r2, .int .u8 b.g2, .int .u8 b.b2, .int .u8 b.a2, .bool b.bd, .int .i64 b.pad]) 33)).alloc (.cells (#[.int .u8 (Lk.zero.has : Nat), .int .u8 Lk.zero.r, .int .u8 Lk.zero.g, .int .u8 Lk.zero.b, .int .u8 Lk.zero.a, .int .u8 Lk.zero.r2, .int .u8 Lk.zero.g2, .int .u8 Lk.zero.b2, .int .u8 Lk.zero.a2, .bool Lk.zero.bd, .int .i64 Lk.zero.pad]) 33)).alloc (.cells #[.int .u8 (a.has : Nat), .int .u8 a.r, .int .u8 a.g, .int .u8 a.b, .int .u8 a.a, .int .u8 a.r2, .int .u8 a.g2, .int .u8 a.b2, .int .u8 a.a2, .bool a.bd, .int .i64 a.pad, .int .u8 (b.has : Nat), .int .u8 b.r, .int .u8 b.g, .int .u8 b.b, .int .u8 b.a, .int .u8 b.r2, .int .u8 b.g2, .int .u8 b.b2, .int .u8 b.a2, .bool b.bd, .int .i64 b.pad] 33)) :=
    ((((Below.refl _ w).alloc (Nat.le_refl _) _).alloc (by simp) _).alloc (by simp; omega) _).alloc (by simp; omega) _
  simp only [World.size_alloc] at K Z
  refine (layered_any [a, b] _ _ K (by simp) (fun f hf => by simp at hf; rcases hf with rfl | rfl <;> assumption)).mono ?_
  rintro e w1 ⟨rfl, h1⟩
  replace Z := Z.below h1
  replace L := L.trans (h1.mono L.size)
  obtain ⟨d0, d1, d2, d3, d4, d5, d6, d7, d8, d9, d10⟩ := Z.at11
  have f1 := fun o => Z.frozen o
  have HL : Hid (Below w.heap.size w w1) := L
  clear K Z L h1
  go_wp2
  exact bodyPost_ret (v := (Value.agg #[.int .u8 ((ly [a, b]).has : Nat), .int .u8 (ly [a, b]).r, .int .u8 (ly [a, b]).g, .int .u8 (ly [a, b]).b, .int .u8 (ly [a, b]).a, .int .u8 (ly [a, b]).r2, .int .u8 (ly [a, b]).g2, .int .u8 (ly [a, b]).b2, .int .u8 (ly [a, b]).a2, .bool (ly [a, b]).bd, .int .i64 (ly [a, b]).pad])) (by simp [results, Tryd.results24, go_sem, *]) rfl ⟨rfl, set11_below HL.out (by omega) _ _ _ _ _ _ _ _ _ _ _⟩

end Go.Proofs.YtobmpjmpffnoiaaDoor
