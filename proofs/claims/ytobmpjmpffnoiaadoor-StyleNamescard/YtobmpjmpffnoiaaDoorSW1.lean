/-
  Contracts of package style: what a look takes of another one, looks behind one another.
-/
import Derived.Test.YtobmpjmpffnoiaaDoorW3
import Derived.Test.YtobmpjmpffnoiaaDoorReg2
import Derived.Test.YtobmpjmpffnoiaaDoorRF
import Derived.Test.YtobmpjmpffnoiaaDoorSP
import Derived.Deep.RegionWith
import Derived.Deep.DeepCutAuto
namespace Go.Proofs.YtobmpjmpffnoiaaDoor
open Go.RowKit

set_option maxRecDepth 100000 in
theorem and_fin : ∀ (q : Fin 16) (n : Fin 256), bits .and .u8 ((q.val : Nat) : Int) ((n.val : Nat) : Int) = ((q.val &&& n.val : Nat) : Int) := by decide +kernel
theorem and_q {q n : Nat} (hq : q < 16) (hn : n < 256) : bits .and .u8 (q : Int) (n : Int) = ((q &&& n : Nat) : Int) := and_fin ⟨q, hq⟩ ⟨n, hn⟩
set_option maxRecDepth 100000 in
theorem or_fin16 : ∀ (q n : Fin 16), bits .or .u8 ((q.val : Nat) : Int) ((n.val : Nat) : Int) = ((q.val ||| n.val : Nat) : Int) := by decide +kernel
theorem or_q {q n : Nat} (hq : q < 16) (hn : n < 16) : bits .or .u8 (q : Int) (n : Int) = ((q ||| n : Nat) : Int) := or_fin16 ⟨q, hq⟩ ⟨n, hn⟩
set_option maxRecDepth 100000 in
theorem not_fin : ∀ (q : Fin 16) (n : Fin 256), bits .andNot .u8 ((q.val : Nat) : Int) ((n.val : Nat) : Int) = ((wo q.val n.val : Nat) : Int) := by decide +kernel
theorem not_q {q n : Nat} (hq : q < 16) (hn : n < 256) : bits .andNot .u8 (q : Int) (n : Int) = ((wo q n : Nat) : Int) := not_fin ⟨q, hq⟩ ⟨n, hn⟩
theorem bit_fin : ∀ (q : Fin 16), (bits .and .u8 ((q.val : Nat) : Int) 1 != 0) = tb q.val 0 ∧ (bits .and .u8 ((q.val : Nat) : Int) 2 != 0) = tb q.val 1 ∧ (bits .and .u8 ((q.val : Nat) : Int) 4 != 0) = tb q.val 2 ∧ (bits .and .u8 ((q.val : Nat) : Int) 8 != 0) = tb q.val 3 := by decide +kernel
theorem and_le (q n : Nat) (hq : q < 16) : q &&& n < 16 := Nat.lt_of_le_of_lt Nat.and_le_left hq

set_option maxHeartbeats 1000000 in
theorem take_any (k f : Lk) (q : Nat) (w : World) (hq : q < 16) (hk : k.has < 16) (hf : f.has < 256) :
    Calls Tryd.prog 52 #[(Value.agg #[.int .u8 (k.has : Nat), .int .u8 k.r, .int .u8 k.g, .int .u8 k.b, .int .u8 k.a, .int .u8 k.r2, .int .u8 k.g2, .int .u8 k.b2, .int .u8 k.a2, .bool k.bd, .int .i64 k.pad]), (Value.agg #[.int .u8 (f.has : Nat), .int .u8 f.r, .int .u8 f.g, .int .u8 f.b, .int .u8 f.a, .int .u8 f.r2, .int .u8 f.g2, .int .u8 f.b2, .int .u8 f.a2, .bool f.bd, .int .i64 f.pad]), .int .u8 (q : Nat)] w fun e w' => e = .returned (Value.agg #[.int .u8 ((tk k f q).has : Nat), .int .u8 (tk k f q).r, .int .u8 (tk k f q).g, .int .u8 (tk k f q).b, .int .u8 (tk k f q).a, .int .u8 (tk k f q).r2, .int .u8 (tk k f q).g2, .int .u8 (tk k f q).b2, .int .u8 (tk k f q).a2, .bool (tk k f q).bd, .int .i64 (tk k f q).pad]) ∧ Below w.heap.size w w' := by
  have e1 := and_q hq hf
  have e2 := or_q hk (and_le q f.has hq)
  obtain ⟨b0, b1, b2, b3⟩ := bit_fin ⟨q &&& f.has, and_le q f.has hq⟩
  simp only at b0 b1 b2 b3
  simp only [tk]
  generalize q &&& f.has = v at *
  go_enter Tryd.func52, Tryd.ntmps52
  go_wp2
  all_goals
    exact bodyPost_ret (v := .agg #[.int .u8 ((k.has ||| v : Nat) : Int), .int .u8 (bif tb v 0 then f.r else k.r), .int .u8 (bif tb v 0 then f.g else k.g), .int .u8 (bif tb v 0 then f.b else k.b), .int .u8 (bif tb v 0 then f.a else k.a), .int .u8 (bif tb v 1 then f.r2 else k.r2), .int .u8 (bif tb v 1 then f.g2 else k.g2), .int .u8 (bif tb v 1 then f.b2 else k.b2), .int .u8 (bif tb v 1 then f.a2 else k.a2), .bool (bif tb v 2 then f.bd else k.bd), .int .i64 (bif tb v 3 then f.pad else k.pad)]) (by simp [results, Tryd.results52, go_sem, *]) rfl ⟨rfl, (((Below.refl _ w).alloc (Nat.le_refl _) _).alloc (by simp) _).alloc (by simp; omega) _⟩

end Go.Proofs.YtobmpjmpffnoiaaDoor
