/-
  Contracts of package colour: palettes.
-/
import Derived.Test.YtbppadheejdhcaaDoorCW2
import Derived.Test.YtbppadheejdhcaaDoorDP
namespace Go.Proofs.YtbppadheejdhcaaDoor
open Go.RowKit

/-- Both tables, as they lie. -/
def Pal (w : World) : Prop := (∀ j, j < 16 → w.cell? ⟨0, j, none⟩ = some (.int .u32 (fewN j))) ∧ ∀ j, j < 6 → w.cell? ⟨1, j, none⟩ = some (.int .u8 (levN j))
theorem Pal.below {W w1 : World} (h : Pal W) (hb : Below W.heap.size W w1) : Pal w1 :=
  ⟨fun j hj => (keepAt hb (h.1 0 (by decide)) j).trans (h.1 j hj), fun j hj => (keepAt hb (h.2 0 (by decide)) j).trans (h.2 j hj)⟩
theorem Pal.lt {w : World} (h : Pal w) : 0 < w.heap.size ∧ 1 < w.heap.size := ⟨lt_of_cell (h.1 0 (by decide)), lt_of_cell (h.2 0 (by decide))⟩
theorem Pal.alloc {w : World} (h : Pal w) (o : Obj) : Pal (w.alloc o) := h.below ((Below.refl _ _).alloc (Nat.le_refl _) o)

set_option maxHeartbeats 1000000 in
theorem back_low (n : Nat) (many : Bool) (w : World) (hP : Pal w) (hn : n < 256) (h16 : many = true ∧ n < 16 ∨ many = false) :
    Calls Tryd.prog 10 #[.int .u8 n, .bool many] w fun e w' => e = .returned (Value.agg #[.int .u8 (bk n many).r, .int .u8 (bk n many).g, .int .u8 (bk n many).b, .int .u8 (bk n many).a]) ∧ Below w.heap.size w w' := by
  obtain ⟨l0, l1⟩ := hP.lt
  obtain ⟨q, hq⟩ : ∃ q, q = n % 16 := ⟨_, rfl⟩
  have hq16 : q < 16 := by omega
  have hc := hP.1 q hq16
  have hbd := few_bd ⟨q, hq16⟩
  simp only at hbd
  have e : bk n many = ⟨fewN q / 65536 % 256, fewN q / 256 % 256, fewN q % 256, 255⟩ := by
    have : bk n many = bkM q := by
      rcases h16 with ⟨rfl, h⟩ | rfl
      · show bkM n = _; rw [hq, Nat.mod_eq_of_lt h]
      · rw [hq]; rfl
    rw [this]
    unfold bkM
    rw [if_pos hq16]
  rw [e]
  clear e
  generalize fewN q = x at *
  obtain ⟨x1, x2⟩ := hbd
  clear hP
  rcases h16 with ⟨rfl, h⟩ | rfl
  · have hqn : q = n := by omega
    subst hqn
    clear hq
    go_enter Tryd.func10, Tryd.ntmps10
    go_wp2
    exact bodyPost_ret (v := .agg #[.int .u8 _, .int .u8 _, .int .u8 _, .int .u8 _]) (by simp [results, Tryd.results10, go_sem]; try omega) rfl ⟨rfl, (Below.refl _ w).alloc (Nat.le_refl _) _⟩
  · have hq' : (n : Int) % 16 = (q : Int) := by omega
    clear hq
    go_enter Tryd.func10, Tryd.ntmps10
    go_wp2
    exact bodyPost_ret (v := .agg #[.int .u8 _, .int .u8 _, .int .u8 _, .int .u8 _]) (by simp [results, Tryd.results10, go_sem]; try omega) rfl ⟨rfl, (Below.refl _ w).alloc (Nat.le_refl _) _⟩

set_option maxRecDepth 20000 in
set_option maxHeartbeats 1000000 in
theorem back_grey (n : Nat) (w : World) (hn : n < 256) (h : 232 ≤ n) :
    Calls Tryd.prog 10 #[.int .u8 n, .bool true] w fun e w' => e = .returned (Value.agg #[.int .u8 (bk n true).r, .int .u8 (bk n true).g, .int .u8 (bk n true).b, .int .u8 (bk n true).a]) ∧ Below w.heap.size w w' := by
  rw [show bk n true = ⟨((n : Int) - 232) * 10 + 8, ((n : Int) - 232) * 10 + 8, ((n : Int) - 232) * 10 + 8, 255⟩ by unfold bk; rw [if_pos rfl]; unfold bkM; rw [if_neg (by omega), if_neg (by omega)]]
  go_enter Tryd.func10, Tryd.ntmps10
  go_wp2
  exact bodyPost_ret (v := .agg #[.int .u8 _, .int .u8 _, .int .u8 _, .int .u8 _]) (by simp [results, Tryd.results10, go_sem]; try omega) rfl ⟨rfl, (Below.refl _ w).alloc (Nat.le_refl _) _⟩

set_option maxRecDepth 20000 in
set_option maxHeartbeats 1000000 in
theorem back_cube (n : Nat) (w : World) (hP : Pal w) (h16 : 16 ≤ n) (h : n < 232) :
    Calls Tryd.prog 10 #[.int .u8 n, .bool true] w fun e w' => e = .returned (Value.agg #[.int .u8 (bk n true).r, .int .u8 (bk n true).g, .int .u8 (bk n true).b, .int .u8 (bk n true).a]) ∧ Below w.heap.size w w' := by
  rw [show bk n true = ⟨levN ((n - 16) / 36), levN ((n - 16) / 6 % 6), levN ((n - 16) % 6), 255⟩ by unfold bk; rw [if_pos rfl]; unfold bkM; rw [if_neg (by omega), if_pos h]]
  obtain ⟨q1, hq1⟩ : ∃ q, q = (n - 16) / 36 := ⟨_, rfl⟩
  obtain ⟨q2, hq2⟩ : ∃ q, q = (n - 16) / 6 % 6 := ⟨_, rfl⟩
  obtain ⟨q3, hq3⟩ : ∃ q, q = (n - 16) % 6 := ⟨_, rfl⟩
  rw [← hq1, ← hq2, ← hq3]
  have k1 : q1 < 6 := by omega
  have k2 : q2 < 6 := by omega
  have k3 : q3 < 6 := by omega
  have e1 : ((n : Int) - 16) / 36 = (q1 : Int) := by omega
  have e2 : ((n : Int) - 16) / 6 % 6 = (q2 : Int) := by omega
  have e3 : ((n : Int) - 16) % 6 = (q3 : Int) := by omega
  clear hq1 hq2 hq3
  go_enter Tryd.func10, Tryd.ntmps10
  go_wp2_with fail
  have C := AtC.new w 0 0 0 0 25
  have F := Fr.new w #[.int .u8 0, .int .u8 0, .int .u8 0, .int .u8 0] 25
  have L : Below w.heap.size w (w.alloc (.cells #[.int .u8 0, .int .u8 0, .int .u8 0, .int .u8 0] 25)) := (Below.refl _ w).alloc (Nat.le_refl _) _
  have P := hP.alloc (.cells #[.int .u8 0, .int .u8 0, .int .u8 0, .int .u8 0] 25)
  generalize w.alloc (.cells #[.int .u8 0, .int .u8 0, .int .u8 0, .int .u8 0] 25) = W at *
  have HL : Hid (AtC W w.heap.size ⟨0, 0, 0, 0⟩ ∧ Fr W w.heap.size ∧ Below w.heap.size w W ∧ Pal W) := ⟨C, F, L, P⟩
  clear C F L P hP
  refine wp_region_lit 14 0 1 (fun _ => .cells #[] 0) [] (by kernel_rfl) (by kernel_rfl) rfl (fun k hk => absurd hk (by omega)) rfl (fun i h1 h2 => absurd h2 (by omega)) ?_
  apply Exists.intro
  refine ⟨fun bs ne => ?_, ?_⟩
  · have d1 := fun t : Gb W bs => (HL.out.2.2.2.below t.below).2 q1 k1
    have d2 := fun t : Gb W bs => (HL.out.2.2.2.below t.below).2 q2 k2
    have d3 := fun t : Gb W bs => (HL.out.2.2.2.below t.below).2 q3 k3
    simp only [List.take_succ_cons, List.take_zero]
    repeat (go_big_quiet_step (fail))
    exact wpQuiet_nil rfl
  · intro bl wr hb _ _
    obtain ⟨HC, HF, HD, _⟩ := HL.out
    replace HC := HC.below hb
    replace HF := (HF.below hb).2
    replace HD := HD.trans (hb.mono HD.size)
    obtain ⟨c0, c1, c2, c3⟩ := HC
    simp only [layL]
    refine wpAny_one 14 (by kernel_rfl) rfl ?_
    intro K hK
    go_simp
    refine hK _ _ ?_
    clear hK K
    refine wpAny_done (by kernel_rfl) ?_ _
    go_wp2
    exact bodyPost_ret (v := .agg #[.int .u8 _, .int .u8 _, .int .u8 _, .int .u8 _]) (by simp [results, Tryd.results10, go_sem, c0, c1, c2, c3]) rfl ⟨rfl, set4_below HD (by omega) _ _ _ _⟩

theorem back_any (n : Nat) (many : Bool) (w : World) (hP : Pal w) (hn : n < 256) :
    Calls Tryd.prog 10 #[.int .u8 n, .bool many] w fun e w' => e = .returned (Value.agg #[.int .u8 (bk n many).r, .int .u8 (bk n many).g, .int .u8 (bk n many).b, .int .u8 (bk n many).a]) ∧ Below w.heap.size w w' := by
  cases many
  · exact back_low n false w hP hn (.inr rfl)
  · by_cases h : n < 16
    · exact back_low n true w hP hn (.inl ⟨rfl, h⟩)
    · by_cases h2 : n < 232
      · exact back_cube n w hP (by omega) h2
      · exact back_grey n w hn (by omega)

set_option maxHeartbeats 400000 in
theorem square_any (x y : Int) (w : World) (hx : By x) (hy : By y) :
    Calls Tryd.prog 38 #[.int .u8 x, .int .u8 y] w fun e w' => e = .returned (.int .i64 (sq x y)) ∧ w' = w := by
  obtain ⟨s1, s2⟩ := sq_bd hx hy
  obtain ⟨x1, x2⟩ := hx
  obtain ⟨y1, y2⟩ := hy
  unfold sq at s1 s2
  go_enter Tryd.func38, Tryd.ntmps38
  go_wp2
  go_ret
  exact ⟨rfl, rfl⟩

set_option maxHeartbeats 400000 in
theorem far_any (a b : Co) (w : World) (ha : a.ok) (hb : b.ok) :
    Calls Tryd.prog 32 #[(Value.agg #[.int .u8 a.r, .int .u8 a.g, .int .u8 a.b, .int .u8 a.a]), (Value.agg #[.int .u8 b.r, .int .u8 b.g, .int .u8 b.b, .int .u8 b.a])] w fun e w' => e = .returned (.int .i64 (farI a b)) ∧ Below w.heap.size w w' := by
  obtain ⟨h1, h2⟩ := sq_bd ha.1 hb.1
  obtain ⟨h3, h4⟩ := sq_bd ha.2.1 hb.2.1
  obtain ⟨h5, h6⟩ := sq_bd ha.2.2.1 hb.2.2.1
  have H1 : Hid (∀ w, Calls Tryd.prog 38 #[.int .u8 a.r, .int .u8 b.r] w fun e w' => e = .returned (.int .i64 (sq a.r b.r)) ∧ w' = w) := fun w => square_any _ _ w ha.1 hb.1
  have H2 : Hid (∀ w, Calls Tryd.prog 38 #[.int .u8 a.g, .int .u8 b.g] w fun e w' => e = .returned (.int .i64 (sq a.g b.g)) ∧ w' = w) := fun w => square_any _ _ w ha.2.1 hb.2.1
  have H3 : Hid (∀ w, Calls Tryd.prog 38 #[.int .u8 a.b, .int .u8 b.b] w fun e w' => e = .returned (.int .i64 (sq a.b b.b)) ∧ w' = w) := fun w => square_any _ _ w ha.2.2.1 hb.2.2.1
  clear ha hb
  unfold farI
  generalize sq a.r b.r = u1 at *
  generalize sq a.g b.g = u2 at *
  generalize sq a.b b.b = u3 at *
  go_enter Tryd.func32, Tryd.ntmps32
  go_wp2_with (first
    | (go_at_call_of 38 (Value.int .u8 a.r); refine (H1.out _).mono ?_; rintro e w' ⟨rfl, rfl⟩)
    | (go_at_call_of 38 (Value.int .u8 a.g); refine (H2.out _).mono ?_; rintro e w' ⟨rfl, rfl⟩)
    | (go_at_call_of 38 (Value.int .u8 a.b); refine (H3.out _).mono ?_; rintro e w' ⟨rfl, rfl⟩))
  go_ret
  exact ⟨rfl, ((Below.refl _ w).alloc (Nat.le_refl _) _).alloc (by simp) _⟩

end Go.Proofs.YtbppadheejdhcaaDoor
