/-
  The document's answer: a look with another one beneath: the call.
-/
import Derived.Test.YtobmpjmpffnoiaaDoorSY1
namespace Go.Proofs.YtobmpjmpffnoiaaDoor
open Go.RowKit

set_option maxRecDepth 20000 in
set_option maxHeartbeats 40000000 in
theorem runder_1 (a b : Lk) (w : World) (ha : a.has < 256) (hb : b.has < 256) (c0 : tb a.has 0 = true) :
    Calls Tryd.prog 25 #[(Value.agg #[.int .u8 (a.has : Nat), .int .u8 a.r, .int .u8 a.g, .int .u8 a.b, .int .u8 a.a, .int .u8 a.r2, .int .u8 a.g2, .int .u8 a.b2, .int .u8 a.a2, .bool a.bd, .int .i64 a.pad]), (Value.agg #[.int .u8 (b.has : Nat), .int .u8 b.r, .int .u8 b.g, .int .u8 b.b, .int .u8 b.a, .int .u8 b.r2, .int .u8 b.g2, .int .u8 b.b2, .int .u8 b.a2, .bool b.bd, .int .i64 b.pad])] w fun e w' => e = .returned (Value.agg #[.int .u8 ((un a b).has : Nat), .int .u8 (un a b).r, .int .u8 (un a b).g, .int .u8 (un a b).b, .int .u8 (un a b).a, .int .u8 (un a b).r2, .int .u8 (un a b).g2, .int .u8 (un a b).b2, .int .u8 (un a b).a2, .bool (un a b).bd, .int .i64 (un a b).pad]) ∧ Below w.heap.size w w' := by
  have e0 := or15_fin ⟨a.has, ha⟩ ⟨b.has, hb⟩
  obtain ⟨p0, p1, p2, p3⟩ := bit_fin8 ⟨a.has, ha⟩
  obtain ⟨q0, q1, q2, q3⟩ := bit_fin8 ⟨b.has, hb⟩
  simp only at e0 p0 p1 p2 p3 q0 q1 q2 q3
  simp only [un]
  generalize tb a.has 0 = x0 at *
  generalize tb a.has 1 = x1 at *
  generalize tb a.has 2 = x2 at *
  generalize tb a.has 3 = x3 at *
  generalize tb b.has 0 = y0 at *
  generalize tb b.has 1 = y1 at *
  generalize tb b.has 2 = y2 at *
  generalize tb b.has 3 = y3 at *
  generalize h4 (x0 || y0) (x1 || y1) (x2 || y2) (x3 || y3) = h at *
  subst c0
  go_enter Tryd.func25, Tryd.ntmps25
  go_wp2
  all_goals
    exact bodyPost_ret (v := .agg #[.int .u8 (h : Nat), .int .u8 (bif true then a.r else bif y0 then b.r else 0), .int .u8 (bif true then a.g else bif y0 then b.g else 0), .int .u8 (bif true then a.b else bif y0 then b.b else 0), .int .u8 (bif true then a.a else bif y0 then b.a else 0), .int .u8 (bif x1 then a.r2 else bif y1 then b.r2 else 0), .int .u8 (bif x1 then a.g2 else bif y1 then b.g2 else 0), .int .u8 (bif x1 then a.b2 else bif y1 then b.b2 else 0), .int .u8 (bif x1 then a.a2 else bif y1 then b.a2 else 0), .bool (bif x2 then a.bd else bif y2 then b.bd else false), .int .i64 (bif x3 then a.pad else bif y3 then b.pad else 0)]) (by simp [results, Tryd.results25, go_sem, *]) rfl ⟨rfl, ((((Below.refl _ w).alloc (Nat.le_refl _) _).alloc (by simp) _).alloc (by simp; omega) _).alloc (by simp; omega) _⟩

set_option maxRecDepth 20000 in
set_option maxHeartbeats 40000000 in
theorem runder_2 (a b : Lk) (w : World) (ha : a.has < 256) (hb : b.has < 256) (c0 : tb a.has 0 = false) (c1 : tb b.has 0 = true) :
    Calls Tryd.prog 25 #[(Value.agg #[.int .u8 (a.has : Nat), .int .u8 a.r, .int .u8 a.g, .int .u8 a.b, .int .u8 a.a, .int .u8 a.r2, .int .u8 a.g2, .int .u8 a.b2, .int .u8 a.a2, .bool a.bd, .int .i64 a.pad]), (Value.agg #[.int .u8 (b.has : Nat), .int .u8 b.r, .int .u8 b.g, .int .u8 b.b, .int .u8 b.a, .int .u8 b.r2, .int .u8 b.g2, .int .u8 b.b2, .int .u8 b.a2, .bool b.bd, .int .i64 b.pad])] w fun e w' => e = .returned (Value.agg #[.int .u8 ((un a b).has : Nat), .int .u8 (un a b).r, .int .u8 (un a b).g, .int .u8 (un a b).b, .int .u8 (un a b).a, .int .u8 (un a b).r2, .int .u8 (un a b).g2, .int .u8 (un a b).b2, .int .u8 (un a b).a2, .bool (un a b).bd, .int .i64 (un a b).pad]) ∧ Below w.heap.size w w' := by
  have e0 := or15_fin ⟨a.has, ha⟩ ⟨b.has, hb⟩
  obtain ⟨p0, p1, p2, p3⟩ := bit_fin8 ⟨a.has, ha⟩
  obtain ⟨q0, q1, q2, q3⟩ := bit_fin8 ⟨b.has, hb⟩
  simp only at e0 p0 p1 p2 p3 q0 q1 q2 q3
  simp only [un]
  generalize tb a.has 0 = x0 at *
  generalize tb a.has 1 = x1 at *
  generalize tb a.has 2 = x2 at *
  generalize tb a.has 3 = x3 at *
  generalize tb b.has 0 = y0 at *
  generalize tb b.has 1 = y1 at *
  generalize tb b.has 2 = y2 at *
  generalize tb b.has 3 = y3 at *
  generalize h4 (x0 || y0) (x1 || y1) (x2 || y2) (x3 || y3) = h at *
  subst c0
  subst c1
  go_enter Tryd.func25, Tryd.ntmps25
  go_wp2
  all_goals
    exact bodyPost_ret (v := .agg #[.int .u8 (h : Nat), .int .u8 (bif false then a.r else bif true then b.r else 0), .int .u8 (bif false then a.g else bif true then b.g else 0), .int .u8 (bif false then a.b else bif true then b.b else 0), .int .u8 (bif false then a.a else bif true then b.a else 0), .int .u8 (bif x1 then a.r2 else bif y1 then b.r2 else 0), .int .u8 (bif x1 then a.g2 else bif y1 then b.g2 else 0), .int .u8 (bif x1 then a.b2 else bif y1 then b.b2 else 0), .int .u8 (bif x1 then a.a2 else bif y1 then b.a2 else 0), .bool (bif x2 then a.bd else bif y2 then b.bd else false), .int .i64 (bif x3 then a.pad else bif y3 then b.pad else 0)]) (by simp [results, Tryd.results25, go_sem, *]) rfl ⟨rfl, ((((Below.refl _ w).alloc (Nat.le_refl _) _).alloc (by simp) _).alloc (by simp; omega) _).alloc (by simp; omega) _⟩

set_option maxRecDepth 20000 in
set_option maxHeartbeats 40000000 in
theorem runder_3 (a b : Lk) (w : World) (ha : a.has < 256) (hb : b.has < 256) (c0 : tb a.has 0 = false) (c1 : tb b.has 0 = false) :
    Calls Tryd.prog 25 #[(Value.agg #[.int .u8 (a.has : Nat), .int .u8 a.r, .int .u8 a.g, .int .u8 a.b, .int .u8 a.a, .int .u8 a.r2, .int .u8 a.g2, .int .u8 a.b2, .int .u8 a.a2, .bool a.bd, .int .i64 a.pad]), (Value.agg #[.int .u8 (b.has : Nat), .int .u8 b.r, .int .u8 b.g, .int .u8 b.b, .int .u8 b.a, .int .u8 b.r2, .int .u8 b.g2, .int .u8 b.b2, .int .u8 b.a2, .bool b.bd, .int .i64 b.pad])] w fun e w' => e = .returned (Value.agg #[.int .u8 ((un a b).has : Nat), .int .u8 (un a b).r, .int .u8 (un a b).g, .int .u8 (un a b).b, .int .u8 (un a b).a, .int .u8 (un a b).r2, .int .u8 (un a b).g2, .int .u8 (un a b).b2, .int .u8 (un a b).a2, .bool (un a b).bd, .int .i64 (un a b).pad]) ∧ Below w.heap.size w w' := by
  have e0 := or15_fin ⟨a.has, ha⟩ ⟨b.has, hb⟩
  obtain ⟨p0, p1, p2, p3⟩ := bit_fin8 ⟨a.has, ha⟩
  obtain ⟨q0, q1, q2, q3⟩ := bit_fin8 ⟨b.has, hb⟩
  simp only at e0 p0 p1 p2 p3 q0 q1 q2 q3
  simp only [un]
  generalize tb a.has 0 = x0 at *
  generalize tb a.has 1 = x1 at *
  generalize tb a.has 2 = x2 at *
  generalize tb a.has 3 = x3 at *
  generalize tb b.has 0 = y0 at *
  generalize tb b.has 1 = y1 at *
  generalize tb b.has 2 = y2 at *
  generalize tb b.has 3 = y3 at *
  generalize h4 (x0 || y0) (x1 || y1) (x2 || y2) (x3 || y3) = h at *
  subst c0
  subst c1
  go_enter Tryd.func25, Tryd.ntmps25
  go_wp2
  all_goals
    exact bodyPost_ret (v := .agg #[.int .u8 (h : Nat), .int .u8 (bif false then a.r else bif false then b.r else 0), .int .u8 (bif false then a.g else bif false then b.g else 0), .int .u8 (bif false then a.b else bif false then b.b else 0), .int .u8 (bif false then a.a else bif false then b.a else 0), .int .u8 (bif x1 then a.r2 else bif y1 then b.r2 else 0), .int .u8 (bif x1 then a.g2 else bif y1 then b.g2 else 0), .int .u8 (bif x1 then a.b2 else bif y1 then b.b2 else 0), .int .u8 (bif x1 then a.a2 else bif y1 then b.a2 else 0), .bool (bif x2 then a.bd else bif y2 then b.bd else false), .int .i64 (bif x3 then a.pad else bif y3 then b.pad else 0)]) (by simp [results, Tryd.results25, go_sem, *]) rfl ⟨rfl, ((((Below.refl _ w).alloc (Nat.le_refl _) _).alloc (by simp) _).alloc (by simp; omega) _).alloc (by simp; omega) _⟩

theorem runder_any (a b : Lk) (w : World) (ha : a.has < 256) (hb : b.has < 256) :
    Calls Tryd.prog 25 #[(Value.agg #[.int .u8 (a.has : Nat), .int .u8 a.r, .int .u8 a.g, .int .u8 a.b, .int .u8 a.a, .int .u8 a.r2, .int .u8 a.g2, .int .u8 a.b2, .int .u8 a.a2, .bool a.bd, .int .i64 a.pad]), (Value.agg #[.int .u8 (b.has : Nat), .int .u8 b.r, .int .u8 b.g, .int .u8 b.b, .int .u8 b.a, .int .u8 b.r2, .int .u8 b.g2, .int .u8 b.b2, .int .u8 b.a2, .bool b.bd, .int .i64 b.pad])] w fun e w' => e = .returned (Value.agg #[.int .u8 ((un a b).has : Nat), .int .u8 (un a b).r, .int .u8 (un a b).g, .int .u8 (un a b).b, .int .u8 (un a b).a, .int .u8 (un a b).r2, .int .u8 (un a b).g2, .int .u8 (un a b).b2, .int .u8 (un a b).a2, .bool (un a b).bd, .int .i64 (un a b).pad]) ∧ Below w.heap.size w w' := by
  cases h : tb a.has 0
  · cases h' : tb b.has 0
    · exact runder_3 a b w ha hb h h'
    · exact runder_2 a b w ha hb h h'
  · exact runder_1 a b w ha hb h

end Go.Proofs.YtobmpjmpffnoiaaDoor
