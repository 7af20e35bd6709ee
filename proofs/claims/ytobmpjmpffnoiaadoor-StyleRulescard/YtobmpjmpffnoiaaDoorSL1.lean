/-
  The statements' own: numbers alike; rules lent and kept. Five arguments that came in, one by one.
-/
import Derived.Test.YtobmpjmpffnoiaaDoorRows
import Derived.ProofKit
import Derived.OpenShut
import Derived.Test.YtobmpjmpffnoiaaDoorSWo
import Derived.Test.YtobmpjmpffnoiaaDoorSQ1
import Derived.Laws.AppendOwnNone
namespace Go.Proofs.YtobmpjmpffnoiaaDoor
open Go.RowKit Go.Shelf
section
open Go.ChangeShapes

theorem trodAll_five {H : Type} {enc : TypeId × Value → H} {P : Program} {w : World} {base : Nat} {spare : Nat → Bool} {held : Bool} {t0 t1 t2 t3 t4 : TypeId} {args : Array Value} {ds : List (DataW H)} {ps : List MemPlace} (h : DataW.TrodAll enc P w base spare held [t0, t1, t2, t3, t4] args.toList ds ps) :
    ∃ v0 v1 v2 v3 v4 d0 d1 d2 d3 d4 p0 p1 p2 p3 p4, args = #[v0, v1, v2, v3, v4] ∧ ds = [d0, d1, d2, d3, d4] ∧ ps = p0 ++ p1 ++ p2 ++ p3 ++ p4 ∧ DataW.Trod enc P w base spare held t0 v0 d0 p0 ∧ DataW.Trod enc P w base spare held t1 v1 d1 p1 ∧ DataW.Trod enc P w base spare held t2 v2 d2 p2 ∧ DataW.Trod enc P w base spare held t3 v3 d3 p3 ∧ DataW.Trod enc P w base spare held t4 v4 d4 p4 := by
  obtain ⟨v0, vs0, d0, ds0, p0, q0, hargs, rfl, rfl, h0, r0⟩ := trodAll_cons h
  obtain ⟨v1, vs1, d1, ds1, p1, q1, rfl, rfl, rfl, h1, r1⟩ := trodAll_cons r0
  obtain ⟨v2, vs2, d2, ds2, p2, q2, rfl, rfl, rfl, h2, r2⟩ := trodAll_cons r1
  obtain ⟨v3, vs3, d3, ds3, p3, q3, rfl, rfl, rfl, h3, r3⟩ := trodAll_cons r2
  obtain ⟨v4, vs4, d4, ds4, p4, q4, rfl, rfl, rfl, h4, r4⟩ := trodAll_cons r3
  obtain ⟨rfl, rfl, rfl⟩ := trodAll_nil r4
  exact ⟨v0, v1, v2, v3, v4, d0, d1, d2, d3, d4, p0, p1, p2, p3, p4, by cases args; simp_all, rfl, by simp, h0, h1, h2, h3, h4⟩

end


set_option maxHeartbeats 2000000 in
theorem numbers_any (n A B c d : Nat) (f : Nat → Nat) (w : World) (hA : Row w A 0 n f) (hB : Row w B 0 n f) (hn : n < 1000000) :
    Calls Tryd.prog 21 #[.slice (some ⟨A, 0, none⟩) n c, .slice (some ⟨B, 0, none⟩) n d] w fun e w' => e = .returned (.bool true) ∧ Below w.heap.size w w' := by
  have HR : Hid (Row w A 0 n f ∧ Row w B 0 n f) := ⟨hA, hB⟩
  clear hA hB
  go_enter Tryd.func21, Tryd.ntmps21
  go_wp2_with fail
  go_loopw [5] (fun vi wr => ∃ k : Nat, k ≤ n ∧ vi = .int .i64 k ∧ Hid (Below w.heap.size w wr)) (fun vi _ => n - (intOf vi).toNat)
  case atStart => exact ⟨0, Nat.zero_le _, rfl, Below.refl _ _⟩
  case round =>
    obtain ⟨k, hk, rfl, HL⟩ := hrel
    by_cases hlt : k < n
    · have ik : (k : Int) < (n : Int) := by omega
      have ne := gw_ne HL.out
      have z1 : ∀ t : Gw wr, t.wd.cell? ⟨A, k, none⟩ = some (.int .i64 (f k)) := fun t => by
        have h := HR.out.1.at' k hlt
        rw [Nat.zero_add] at h
        exact ((HL.out.trans (t.below.mono HL.out.size)).cell (p := ⟨A, k, none⟩) HR.out.1.lt).trans h
      have z2 : ∀ t : Gw wr, t.wd.cell? ⟨B, k, none⟩ = some (.int .i64 (f k)) := fun t => by
        have h := HR.out.2.at' k hlt
        rw [Nat.zero_add] at h
        exact ((HL.out.trans (t.below.mono HL.out.size)).cell (p := ⟨B, k, none⟩) HR.out.2.lt).trans h
      go_wp2_with fail
      refine wp_region_gw (by kernel_rfl) (by kernel_rfl) ?_
      repeat (go_big_quiet_step (fail))
      refine wpQuiet_nil ?_
      rintro _ ⟨t, rfl⟩
      go_wp2_with fail
      go_roundw
      case rel => exact ⟨k + 1, by omega, by go_num, HL.out.trans (t.below.mono HL.out.size)⟩
      case measure => simp [intOf]; omega
    · obtain rfl : k = n := by omega
      go_wp2
      go_ret
      exact ⟨rfl, HL.out⟩

set_option maxHeartbeats 2000000 in
theorem numbers_nil (w : World) :
    Calls Tryd.prog 21 #[.slice none 0 0, .slice none 0 0] w fun e w' => e = .returned (.bool true) ∧ Below w.heap.size w w' := by
  go_enter Tryd.func21, Tryd.ntmps21
  go_wp2_with fail
  go_loopw [5] (fun vi wr => wr = w ∧ vi = .int .i64 0) (fun _ _ => 0)
  case atStart => exact ⟨rfl, rfl⟩
  case round =>
    obtain ⟨rfl, rfl⟩ := hrel
    go_wp2
    go_ret
    exact ⟨rfl, Below.refl _ _⟩

def r77 : Rl := ⟨77, ByteArray.empty, 0, Lk.zero⟩
/-- Rules lent, with a mark behind them. -/
def Lent (W : World) (u : Value) (rs : List Rl) : Prop := ∃ G cap, u = .slice (some ⟨G, 0, none⟩) rs.length cap ∧ rs.length + 1 ≤ cap ∧ G < W.heap.size ∧ ∀ i (h : i < (rs ++ [r77]).length), RlAt W G (0 + i * 14) (rs ++ [r77])[i]
theorem Lent.below {W W' : World} {u : Value} {rs : List Rl} (h : Lent W u rs) (hb : Below W.heap.size W W') : Lent W' u rs := by
  obtain ⟨G, cap, e, h1, h2, h3⟩ := h
  exact ⟨G, cap, e, h1, Nat.lt_of_lt_of_le h2 hb.size, fun i hi => (h3 i hi).kept fun j => hb.cell (p := ⟨G, j, none⟩) h2⟩
theorem Lent.rules {W : World} {u : Value} {rs : List Rl} (h : Lent W u rs) : Rules W u rs := by
  obtain ⟨G, cap, e, h1, h2, h3⟩ := h
  refine ⟨_, cap, e, by omega, fun _ => ⟨G, 0, rfl, h2, fun i hi => ?_⟩⟩
  have := h3 i (by simp; omega)
  rwa [List.getElem_append_left hi] at this

theorem cellNew14 (w : World) (r : Rl) (t : TypeId) : ∀ (j : Nat) (u : Value), (cellsR r)[j]? = some u → (w.alloc (.cells (#[.int .u8 (r.kind : Nat), .string r.cls, .int .u8 (r.state : Nat), .int .u8 (r.look.has : Nat), .int .u8 r.look.r, .int .u8 r.look.g, .int .u8 r.look.b, .int .u8 r.look.a, .int .u8 r.look.r2, .int .u8 r.look.g2, .int .u8 r.look.b2, .int .u8 r.look.a2, .bool r.look.bd, .int .i64 r.look.pad]) t)).cell? ((⟨w.heap.size, 0, none⟩ : Addr).add j) = some u := by
  intro j u hj
  have h := (Blk.new w (#[.int .u8 (r.kind : Nat), .string r.cls, .int .u8 (r.state : Nat), .int .u8 (r.look.has : Nat), .int .u8 r.look.r, .int .u8 r.look.g, .int .u8 r.look.b, .int .u8 r.look.a, .int .u8 r.look.r2, .int .u8 r.look.g2, .int .u8 r.look.b2, .int .u8 r.look.a2, .bool r.look.bd, .int .i64 r.look.pad]) t).cell j
  rw [show (⟨w.heap.size, 0, none⟩ : Addr).add j = ⟨w.heap.size, j, none⟩ by simp only [Addr.add, Nat.zero_add]; split <;> simp_all, h, ← hj]
  exact (Array.getElem?_toList ..).symm
theorem one77 : ∀ u ∈ cellsR r77, u.oneCell' = true := fun u hu => flR_one [r77] u (by simpa [flR] using hu)
theorem fl77 (rs : List Rl) : flR (rs ++ [r77]) = flR rs ++ cellsR r77 := by rw [flR_app]; simp [flR]
theorem lent_own {w : World} {base : Nat} {e : TypeId} {G cap : Nat} {rs : List Rl} (hown : w.ownsRow base e 14 (.slice (some ⟨G, 0, none⟩) (rs.length + 1) cap) (rs.length + 1) (flR rs ++ cellsR r77)) (hc : rs.length + 1 ≤ cap) : Lent w (.slice (some ⟨G, 0, none⟩) rs.length cap) rs := by
  have h := rules_own (rs := rs ++ [r77]) (w := w) (base := base) (e := e) (v := .slice (some ⟨G, 0, none⟩) (rs.length + 1) cap) (by rw [fl77]; simpa using hown)
  obtain ⟨oa, c, e1, h1, h2⟩ := h
  obtain ⟨g, o, e2, h3, h4⟩ := h2 (by simp)
  simp only [Value.slice.injEq] at e1
  obtain ⟨e3, _, rfl⟩ := e1
  rw [e2] at e3
  cases e3
  exact ⟨G, _, rfl, hc, h3, h4⟩

set_option maxHeartbeats 4000000 in
theorem lent_any (rs : List Rl) (v : Value) (w : World) (hv : Rules w v rs) (hl : rs.length < 10000) (hn0 : ∀ n c, v = .slice none n c → c = 0) :
    Calls Tryd.prog 16 #[v] w fun e w' => ∃ u, e = .returned u ∧ Lent w' u rs ∧ Below w.heap.size w w' := by
  obtain ⟨oa, cap, rfl, hc, hg⟩ := id hv
  obtain ⟨i0, hi, hz0, hz1, hz2⟩ := info_parts info_rule
  have HI : Hid (Tryd.prog.info? 35 = some i0 ∧ i0.zero = some (Value.agg #[.int .u8 (Rl.zero.kind : Nat), .string Rl.zero.cls, .int .u8 (Rl.zero.state : Nat), .int .u8 (Rl.zero.look.has : Nat), .int .u8 Rl.zero.look.r, .int .u8 Rl.zero.look.g, .int .u8 Rl.zero.look.b, .int .u8 Rl.zero.look.a, .int .u8 Rl.zero.look.r2, .int .u8 Rl.zero.look.g2, .int .u8 Rl.zero.look.b2, .int .u8 Rl.zero.look.a2, .bool Rl.zero.look.bd, .int .i64 Rl.zero.look.pad]) ∧ i0.size = 14 ∧ i0.bytes = 56) := ⟨hi, hz0, hz1, hz2⟩
  have HN : Hid (∀ ad, oa = some ad → ∀ (j : Nat) (u : Value), (flR rs)[j]? = some u → w.cell? (ad.add j) = some u) := fun ad had => by
    by_cases h0 : 0 < rs.length
    · obtain ⟨g, o, e, hg1, hat⟩ := hg h0
      rw [e] at had
      cases had
      exact news_of _ o hat
    · intro j u hu
      have e : rs = [] := List.eq_nil_of_length_eq_zero (by omega)
      subst e
      simp [flR] at hu
  have HE : Hid (oa = none → rs = []) := fun h => by
    by_cases h0 : 0 < rs.length
    · obtain ⟨g, o, e, _⟩ := hg h0
      rw [h] at e; cases e
    · exact List.eq_nil_of_length_eq_zero (by omega)
  have c1 : Hid (0 + rs.length ≤ maxLen) := by unfold Hid maxLen; omega
  have c2 : Hid ((0 + rs.length) * 56 ≤ 140737488355328) := by unfold Hid; omega
  have HLn : Hid ((flR rs).length = rs.length * 14) := flR_len rs
  clear hv hg hi hz0 hz1 hz2
  cases oa with
  | none => 
    have e := HE.out rfl
    subst e
    obtain rfl := hn0 _ _ rfl
    have Hown : Hid (∀ o1, (w.alloc o1).ownsRow w.heap.size 35 14 (.slice none 0 0) 0 []) := fun o1 => World.ownsRow_nil _ _ _ _
    have LX : Hid (Below w.heap.size w w) := Below.refl _ _
    have hc5 : Hid (∀ o1, w.heap.size ≤ (w.alloc o1).heap.size) := fun o1 => by simp
    have c3 : Hid (0 + 1 ≤ maxLen) := by unfold Hid maxLen; omega
    have c4 : Hid ((0 + 1) * 56 ≤ 140737488355328) := by unfold Hid; omega
    go_enter Tryd.func16, Tryd.ntmps16
    go_wp2_with (at_builtin; refine wpList_append_own _ rfl _ _ 23 rfl w.heap.size 35 i0 (Value.agg #[.int .u8 (Rl.zero.kind : Nat), .string Rl.zero.cls, .int .u8 (Rl.zero.state : Nat), .int .u8 (Rl.zero.look.has : Nat), .int .u8 Rl.zero.look.r, .int .u8 Rl.zero.look.g, .int .u8 Rl.zero.look.b, .int .u8 Rl.zero.look.a, .int .u8 Rl.zero.look.r2, .int .u8 Rl.zero.look.g2, .int .u8 Rl.zero.look.b2, .int .u8 Rl.zero.look.a2, .bool Rl.zero.look.bd, .int .i64 Rl.zero.look.pad]) 14 56 Tryd.underlying23 HI.out.1 HI.out.2.1 HI.out.2.2.1 HI.out.2.2.2 rfl (by decide) (.slice none 0 0) 0 [] rfl (Hown.out _) _ 1 1 (cellsR r77) rfl rfl (cellNew14 _ r77 _) one77 c3.out c4.out (hc5.out _) ?_)
    intro v2 w5 hown hgrow hnil
    have L5 : Below w.heap.size w w5 := (LX.out.alloc LX.out.size _).grown hgrow (hc5.out _) (fun g hg => (row_lt (Hown.out (.cells (#[.int .u8 (r77.kind : Nat), .string r77.cls, .int .u8 (r77.state : Nat), .int .u8 (r77.look.has : Nat), .int .u8 r77.look.r, .int .u8 r77.look.g, .int .u8 r77.look.b, .int .u8 r77.look.a, .int .u8 r77.look.r2, .int .u8 r77.look.g2, .int .u8 r77.look.b2, .int .u8 r77.look.a2, .bool r77.look.bd, .int .i64 r77.look.pad]) 35)) g hg).1)
    rcases hown.2 with ⟨_, h0⟩ | ⟨G, c1', cur, rfl, hB, hcu, hcap, _, hsz, htk⟩
    · omega
    · have H5 : Hid (Lent w5 (.slice (some ⟨G, 0, none⟩) ([] : List Rl).length c1') [] ∧ Below w.heap.size w w5) := ⟨lent_own hown hcap, L5⟩
      have hk1 : (([] : List Rl).length : Int) ≤ (c1' : Int) := by first | omega | simp
      clear hown hgrow hnil L5 hcu hsz htk hB
      go_wp2
      go_ret
      exact ⟨_, rfl, H5.out⟩
  | some ad =>
    go_enter Tryd.func16, Tryd.ntmps16
    go_wp2_with (at_builtin; refine wpList_append_own _ rfl _ _ 23 rfl w.heap.size 35 i0 (Value.agg #[.int .u8 (Rl.zero.kind : Nat), .string Rl.zero.cls, .int .u8 (Rl.zero.state : Nat), .int .u8 (Rl.zero.look.has : Nat), .int .u8 Rl.zero.look.r, .int .u8 Rl.zero.look.g, .int .u8 Rl.zero.look.b, .int .u8 Rl.zero.look.a, .int .u8 Rl.zero.look.r2, .int .u8 Rl.zero.look.g2, .int .u8 Rl.zero.look.b2, .int .u8 Rl.zero.look.a2, .bool Rl.zero.look.bd, .int .i64 Rl.zero.look.pad]) 14 56 Tryd.underlying23 HI.out.1 HI.out.2.1 HI.out.2.2.1 HI.out.2.2.2 rfl (by decide) (.slice none 0 0) 0 [] rfl (World.ownsRow_nil _ _ _ _) ad rs.length _ (flR rs) rfl HLn.out (HN.out ad rfl) (flR_one _) c1.out c2.out (Nat.le_refl _) ?_)
    intro v' w4 hown hgrow hnil
    have L4 : Below w.heap.size w w4 := (Below.refl _ w).grown hgrow (Nat.le_refl _) (fun g hg => by cases hg)
    have H4 : Hid (w4.ownsRow w.heap.size 35 14 v' rs.length (flR rs) ∧ Below w.heap.size w w4) := ⟨by simpa using hown, L4⟩
    clear hown hgrow hnil L4
    have Hown : Hid (∀ o1, (w4.alloc o1).ownsRow w.heap.size 35 14 v' rs.length (flR rs)) := fun o1 => row_below H4.out.1 ((Below.refl _ w4).alloc (Nat.le_refl _) o1)
    have LX : Hid (Below w.heap.size w w4) := H4.out.2
    have hc5 : Hid (∀ o1, w.heap.size ≤ (w4.alloc o1).heap.size) := fun o1 => by have := H4.out.2.size; simp; omega
    have c3 : Hid (rs.length + 1 ≤ maxLen) := by unfold Hid maxLen; omega
    have c4 : Hid ((rs.length + 1) * 56 ≤ 140737488355328) := by unfold Hid; omega
    go_wp2_with (at_builtin; refine wpList_append_own _ rfl _ _ 23 rfl w.heap.size 35 i0 (Value.agg #[.int .u8 (Rl.zero.kind : Nat), .string Rl.zero.cls, .int .u8 (Rl.zero.state : Nat), .int .u8 (Rl.zero.look.has : Nat), .int .u8 Rl.zero.look.r, .int .u8 Rl.zero.look.g, .int .u8 Rl.zero.look.b, .int .u8 Rl.zero.look.a, .int .u8 Rl.zero.look.r2, .int .u8 Rl.zero.look.g2, .int .u8 Rl.zero.look.b2, .int .u8 Rl.zero.look.a2, .bool Rl.zero.look.bd, .int .i64 Rl.zero.look.pad]) 14 56 Tryd.underlying23 HI.out.1 HI.out.2.1 HI.out.2.2.1 HI.out.2.2.2 rfl (by decide) v' rs.length (flR rs) rfl (Hown.out _) _ 1 1 (cellsR r77) rfl rfl (cellNew14 _ r77 _) one77 c3.out c4.out (hc5.out _) ?_)
    intro v2 w5 hown hgrow hnil
    have L5 : Below w.heap.size w w5 := (LX.out.alloc LX.out.size _).grown hgrow (hc5.out _) (fun g hg => (row_lt (Hown.out (.cells (#[.int .u8 (r77.kind : Nat), .string r77.cls, .int .u8 (r77.state : Nat), .int .u8 (r77.look.has : Nat), .int .u8 r77.look.r, .int .u8 r77.look.g, .int .u8 r77.look.b, .int .u8 r77.look.a, .int .u8 r77.look.r2, .int .u8 r77.look.g2, .int .u8 r77.look.b2, .int .u8 r77.look.a2, .bool r77.look.bd, .int .i64 r77.look.pad]) 35)) g hg).1)
    rcases hown.2 with ⟨_, h0⟩ | ⟨G, c1', cur, rfl, hB, hcu, hcap, _, hsz, htk⟩
    · omega
    · have H5 : Hid (Lent w5 (.slice (some ⟨G, 0, none⟩) (rs : List Rl).length c1') rs ∧ Below w.heap.size w w5) := ⟨lent_own hown hcap, L5⟩
      have hk1 : ((rs : List Rl).length : Int) ≤ (c1' : Int) := by first | omega | simp
      clear hown hgrow hnil L5 hcu hsz htk hB
      go_wp2
      go_ret
      exact ⟨_, rfl, H5.out⟩

set_option maxHeartbeats 2000000 in
theorem kept_any (rs : List Rl) (u v : Value) (w : World) (hu : Lent w u rs) (hv : Rules w v rs) (hl : rs.length < 10000) :
    Calls Tryd.prog 22 #[u, v] w fun e w' => e = .returned (.bool true) ∧ Below w.heap.size w w' := by
  have hS : Hid (Calls Tryd.prog 12 #[u, v] w fun e w' => e = .returned (.bool true) ∧ Below w.heap.size w w') := same_any rs u v w hu.rules hv (by omega)
  have HU : Hid (Lent w u rs) := hu
  obtain ⟨G, cap, rfl, h1, h2, h3⟩ := hu
  obtain ⟨ob, cb, rfl, _, _⟩ := hv
  clear h3
  obtain ⟨m, zm⟩ : ∃ m : Nat, (rs.length : Int) + 1 = (m : Int) := ⟨rs.length + 1, by omega⟩
  have m1 : (m : Int) ≤ (cap : Int) := by omega
  have m2 : (rs.length : Int) < (m : Int) := by omega
  go_enter Tryd.func22, Tryd.ntmps22
  go_wp2_with fail
  refine hS.out.mono ?_
  rintro e w1 ⟨rfl, hb⟩
  have H1 : Hid (Lent w1 (.slice (some ⟨G, 0, none⟩) rs.length cap) rs ∧ Below w.heap.size w w1) := ⟨HU.out.below hb, hb⟩
  have x0 : w1.cell? ⟨G, rs.length * 14, none⟩ = some (.int .u8 77) := by
    obtain ⟨G', cap', e', _, _, h4⟩ := H1.out.1
    simp only [Value.slice.injEq, Option.some.injEq, Addr.mk.injEq] at e'
    obtain ⟨⟨rfl, _⟩, _, _⟩ := e'
    have h5 := h4 rs.length (by simp)
    rw [List.getElem_concat_length rfl, Nat.zero_add] at h5
    exact h5.1
  clear hb
  go_wp2
  go_ret
  exact ⟨rfl, H1.out.2⟩

open Go.ChangeShapes Go.WideShapes Go.ChangeAt in
theorem open_nil {H : Type} {enc : TypeId × Value → H} {W : World} {b : Nat} {sp : Nat → Bool} {held : Bool} {v : Value} {d : DataW H} {p : List MemPlace}
    (h : DataW.Trod enc Tryd.prog W b sp held 23 v d p) : ∀ n c, v = .slice none n c → c = 0 := by
  rintro n c rfl
  obtain ⟨fuel, hf⟩ := h
  rcases DataW.trod_slice Tryd.underlying23 hf with ⟨he, _⟩ | ⟨a, len', cap', el, rest, m, _, he, _⟩
  · simp [Value.cells] at he
    exact he.2
  · simp [Value.cells] at he

end Go.Proofs.YtobmpjmpffnoiaaDoor
