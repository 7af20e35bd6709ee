/-
  Contracts of package runes: lines: whether a piece fits, a line and a piece, a line that is parted.
-/
import Derived.Test.YtbnbfgkcndomaabGreatDoorRN
namespace Go.Proofs.YtbnbfgkcndomaabGreatDoor
open Go.RowKit Go.Shelf

/-- A line: from, to, its cells, the end of its last blank, its cells up to there. -/
structure Ln where
  fr : Nat
  to : Nat
  c : Int
  k : Nat
  kc : Int
abbrev lnC (l : Ln) : Array Value := #[.int .i64 l.fr, .int .i64 l.to, .int .i64 l.c, .int .i64 l.k, .int .i64 l.kc]
abbrev lnV (l : Ln) : Value := .agg #[.int .i64 l.fr, .int .i64 l.to, .int .i64 l.c, .int .i64 l.k, .int .i64 l.kc]
def fitB (l : Ln) (x : Pc) (room : Int) : Bool := decide (l.fr = l.to) || decide (l.c + width x.r ≤ room)
def withL (l : Ln) (x : Pc) : Ln := ⟨l.fr, x.to, l.c + width x.r, if x.r = 32 then x.to else l.k, if x.r = 32 then l.c + width x.r else l.kc⟩
def stays (l : Ln) (x : Pc) : Ln := if x.r = 32 ∨ l.k = l.fr then l else ⟨l.fr, l.k, l.kc, 0, 0⟩
def goes (l : Ln) (x : Pc) : Ln := if x.r = 32 ∨ l.k = l.fr then ⟨x.fr, x.fr, 0, x.fr, 0⟩ else ⟨l.k, l.to, l.c - l.kc, l.k, 0⟩
/-- Its numbers are in their bounds. -/
def OkL (l : Ln) (n : Nat) : Prop := 0 ≤ l.kc ∧ l.kc ≤ l.c ∧ l.c ≤ 2 * n

theorem Blk.at5 {W : World} {b : Nat} {a0 a1 a2 a3 a4 : Value} {t : TypeId} (h : Blk W b #[a0, a1, a2, a3, a4] t) : W.cell? ⟨b, 0, none⟩ = some a0 ∧ W.cell? ⟨b, 1, none⟩ = some a1 ∧ W.cell? ⟨b, 2, none⟩ = some a2 ∧ W.cell? ⟨b, 3, none⟩ = some a3 ∧ W.cell? ⟨b, 4, none⟩ = some a4 :=
  ⟨h.cell 0, h.cell 1, h.cell 2, h.cell 3, h.cell 4⟩

theorem load_ln (w : World) (b : Nat) (l : Ln) (h : Blk w b (lnC l) 456) : (loadVar 456 ⟨b, 0, none⟩).run Tryz.prog w = .ok (lnV l) w := by
  obtain ⟨c0, c1, c2, c3, c4⟩ := h.at5
  simp [go_sem, c0, c1, c2, c3, c4]
theorem results_ln {fn : Func} {t : Tmp} (h : fn.results = #[.cell t 456]) (tmps : Array Value) (w : World) (b : Nat) (l : Ln) (ht : tmps.getD t undef = .pointer (some ⟨b, 0, none⟩)) (hb : Blk w b (lnC l) 456) :
    (results fn tmps).run Tryz.prog w = .ok (lnV l) w := by
  have h1 := load_ln w b l hb
  simp [results, h, -Array.getD_eq_getD_getElem?, ht, asAddr, h1]
theorem results_lns {fn : Func} {t u : Tmp} (h : fn.results = #[.cell t 456, .cell u 456]) (tmps : Array Value) (w : World) (b c : Nat) (l m : Ln) (ht : tmps.getD t undef = .pointer (some ⟨b, 0, none⟩)) (hu : tmps.getD u undef = .pointer (some ⟨c, 0, none⟩))
    (hb : Blk w b (lnC l) 456) (hc : Blk w c (lnC m) 456) : (results fn tmps).run Tryz.prog w = .ok (.tuple #[lnV l, lnV m]) w := by
  have h1 := load_ln w b l hb
  have h2 := load_ln w c m hc
  simp [results, h, -Array.getD_eq_getD_getElem?, ht, hu, asAddr, Sem.run_bind, h1, h2, Result.andThen]
theorem blk2 (w : World) (o0 o1 : Obj) (vs : Array Value) (t : TypeId) : Blk (((w.alloc o0).alloc o1).alloc (.cells vs t)) (w.heap.size + 1 + 1) vs t := by
  have := Blk.new ((w.alloc o0).alloc o1) vs t
  rwa [World.size_alloc, World.size_alloc] at this
theorem blk3 (w : World) (o0 o1 o2 : Obj) (vs : Array Value) (t : TypeId) : Blk ((((w.alloc o0).alloc o1).alloc o2).alloc (.cells vs t)) (w.heap.size + 1 + 1 + 1) vs t := by
  have := Blk.new (((w.alloc o0).alloc o1).alloc o2) vs t
  rwa [World.size_alloc, World.size_alloc, World.size_alloc] at this
theorem bel3 (w : World) (o0 o1 o2 : Obj) : Below w.heap.size w (((w.alloc o0).alloc o1).alloc o2) := (((Below.refl _ w).alloc (Nat.le_refl _) _).alloc (by simp) _).alloc (by simp; omega) _
theorem bel4 (w : World) (o0 o1 o2 o3 : Obj) : Below w.heap.size w ((((w.alloc o0).alloc o1).alloc o2).alloc o3) := (bel3 w o0 o1 o2).alloc (by simp; omega) _

set_option maxHeartbeats 400000 in
theorem fits_any (l : Ln) (x : Pc) (room : Int) (w : World) (n : Nat) (hl : OkL l n) (hn : n ≤ 1099511627776) :
    Calls Tryz.prog 156 #[lnV l, pcV x.fr x.to x.r (width x.r), .int .i64 room] w fun e w' => e = .returned (.bool (fitB l x room)) ∧ Below w.heap.size w w' := by
  obtain ⟨o1, o2, o3⟩ := hl
  obtain ⟨w0, w1⟩ := width_range x.r
  have Lb : Hid (Below w.heap.size w ((w.alloc (.cells (lnC l) 456)).alloc (.cells #[.int .i64 x.fr, .int .i64 x.to, .int .i32 x.r, .int .i64 (width x.r)] 464))) := ((Below.refl _ w).alloc (Nat.le_refl _) _).alloc (by simp) _
  by_cases h1 : l.fr = l.to
  · have h1' : ((l.fr : Int) == l.to) = true := by simp [h1]
    have H1 : Hid (l.fr = l.to) := h1
    clear h1
    go_enter Tryz.func156, Tryz.ntmps156
    go_wp2
    go_ret
    exact ⟨ret_boolR (by simp [fitB, H1.out]), Lb.out⟩
  · have h1' : ((l.fr : Int) == l.to) = false := by simp; omega
    have H1 : Hid (¬ l.fr = l.to) := h1
    clear h1
    go_enter Tryz.func156, Tryz.ntmps156
    go_wp2
    go_ret
    exact ⟨ret_boolR (by simp [fitB, H1.out]), Lb.out⟩

set_option maxHeartbeats 1000000 in
theorem with_any (l : Ln) (x : Pc) (w : World) (n : Nat) (hl : OkL l n) (hn : n ≤ 1099511627776) :
    Calls Tryz.prog 158 #[lnV l, pcV x.fr x.to x.r (width x.r)] w fun e w' => e = .returned (lnV (withL l x)) ∧ Below w.heap.size w w' := by
  obtain ⟨o1, o2, o3⟩ := hl
  obtain ⟨w0, w1⟩ := width_range x.r
  by_cases h1 : x.r = 32
  · have h1' : ((x.r : Int) == 32) = true := by simp [h1]
    have H1 : Hid (x.r = 32) := h1
    clear h1
    go_enter Tryz.func158, Tryz.ntmps158
    go_wp2
    have e : withL l x = ⟨l.fr, x.to, l.c + width x.r, x.to, l.c + width x.r⟩ := by simp [withL, H1.out]
    refine bodyPost_ret (results_ln rfl _ _ _ ⟨l.fr, x.to, l.c + width x.r, x.to, l.c + width x.r⟩ rfl (blk2 _ _ _ _ _)) rfl ⟨by rw [e], bel3 _ _ _ _⟩
  · have h1' : ((x.r : Int) == 32) = false := by simp; omega
    have H1 : Hid (¬ x.r = 32) := h1
    clear h1
    go_enter Tryz.func158, Tryz.ntmps158
    go_wp2
    have e : withL l x = ⟨l.fr, x.to, l.c + width x.r, l.k, l.kc⟩ := by simp [withL, H1.out]
    refine bodyPost_ret (results_ln rfl _ _ _ ⟨l.fr, x.to, l.c + width x.r, l.k, l.kc⟩ rfl (blk2 _ _ _ _ _)) rfl ⟨by rw [e], bel3 _ _ _ _⟩

set_option maxHeartbeats 1000000 in
theorem parted_any (l : Ln) (x : Pc) (w : World) (n : Nat) (hl : OkL l n) (hn : n ≤ 1099511627776) :
    Calls Tryz.prog 157 #[lnV l, pcV x.fr x.to x.r (width x.r)] w fun e w' => e = .returned (.tuple #[lnV (stays l x), lnV (goes l x)]) ∧ Below w.heap.size w w' := by
  obtain ⟨o1, o2, o3⟩ := hl
  by_cases h1 : x.r = 32
  · have h1' : ((x.r : Int) == 32) = true := by simp [h1]
    have H1 : Hid (x.r = 32) := h1
    clear h1
    go_enter Tryz.func157, Tryz.ntmps157
    go_wp2
    go_region
    go_wp2
    have e1 : stays l x = l := by simp [stays, H1.out]
    have e2 : goes l x = ⟨x.fr, x.fr, 0, x.fr, 0⟩ := by simp [goes, H1.out]
    refine bodyPost_ret (results_lns rfl _ _ _ _ l ⟨x.fr, x.fr, 0, x.fr, 0⟩ rfl rfl ((blk2 w _ _ _ _).alloc _) (blk3 w _ _ _ _ _)) rfl ⟨by rw [e1, e2], (bel4 w _ _ _ _).drew⟩
  · have h1' : ((x.r : Int) == 32) = false := by simp; omega
    have H1 : Hid (¬ x.r = 32) := h1
    clear h1
    by_cases h2 : l.k = l.fr
    · have h2' : ((l.k : Int) == l.fr) = true := by simp; omega
      have H2 : Hid (l.k = l.fr) := h2
      clear h2
      go_enter Tryz.func157, Tryz.ntmps157
      go_wp2
      go_region
      go_wp2
      have e1 : stays l x = l := by simp [stays, H2.out]
      have e2 : goes l x = ⟨x.fr, x.fr, 0, x.fr, 0⟩ := by simp [goes, H2.out]
      refine bodyPost_ret (results_lns rfl _ _ _ _ l ⟨x.fr, x.fr, 0, x.fr, 0⟩ rfl rfl ((blk2 w _ _ _ _).alloc _) (blk3 w _ _ _ _ _)) rfl ⟨by rw [e1, e2], (bel4 w _ _ _ _).drew⟩
    · have h2' : ((l.k : Int) == l.fr) = false := by simp; omega
      have H2 : Hid (¬ l.k = l.fr) := h2
      clear h2
      go_enter Tryz.func157, Tryz.ntmps157
      go_wp2
      go_region
      go_wp2
      have e1 : stays l x = ⟨l.fr, l.k, l.kc, 0, 0⟩ := by simp [stays, H1.out, H2.out]
      have e2 : goes l x = ⟨l.k, l.to, l.c - l.kc, l.k, 0⟩ := by simp [goes, H1.out, H2.out]
      refine bodyPost_ret (results_lns rfl _ _ _ _ ⟨l.fr, l.k, l.kc, 0, 0⟩ ⟨l.k, l.to, l.c - l.kc, l.k, 0⟩ rfl rfl ((((blk2 w _ _ _ _).alloc _).alloc _).alloc _) (((blk3 w _ _ _ _ _).alloc _).alloc _)) rfl ⟨by rw [e1, e2], (((bel4 w _ _ _ _).alloc (by simp; omega) _).alloc (by simp; omega) _).drew⟩

end Go.Proofs.YtbnbfgkcndomaabGreatDoor
