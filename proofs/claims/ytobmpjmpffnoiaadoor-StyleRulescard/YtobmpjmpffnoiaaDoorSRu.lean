/-
  The walk of the statement StyleRules: whether rules may be, their order, the look, the rule that tells a thing, as the document answers.
-/
import Derived.Test.YtobmpjmpffnoiaaDoorSB1
import Derived.Test.YtobmpjmpffnoiaaDoorSL1
import Derived.Test.YtobmpjmpffnoiaaDoorSQ8
import Derived.Test.YtobmpjmpffnoiaaDoorSQ9
namespace Go.Proofs.YtobmpjmpffnoiaaDoor
open Go.RowKit Go.Shelf

/-- Rules that were lent, with the mark behind them, in block G. -/
def LentA (W : World) (G : Nat) (rs : List Rl) : Prop := G < W.heap.size ∧ ∀ i (h : i < (rs ++ [r77]).length), RlAt W G (0 + i * 14) (rs ++ [r77])[i]
theorem LentA.below {W W' : World} {G : Nat} {rs : List Rl} (h : LentA W G rs) (hb : Below W.heap.size W W') : LentA W' G rs :=
  ⟨Nat.lt_of_lt_of_le h.1 hb.size, fun i hi => (h.2 i hi).kept fun j => hb.cell (p := ⟨G, j, none⟩) h.1⟩
theorem LentA.set {W : World} {G : Nat} {rs : List Rl} (h : LentA W G rs) (p : Addr) (v : Value) (hp : p.block ≠ G) : LentA (W.setCell p v) G rs :=
  ⟨by simpa [World.setCell] using h.1, fun i hi => (h.2 i hi).kept fun j => World.cell?_setCell_other _ _ _ _ (by intro he; exact hp (by rw [he]))⟩
theorem LentA.lent {W : World} {G cu : Nat} {rs : List Rl} (h : LentA W G rs) (hc : rs.length + 1 ≤ cu) : Lent W (.slice (some ⟨G, 0, none⟩) rs.length cu) rs := ⟨G, cu, rfl, hc, h.1, h.2⟩
/-- Numbers that may be written. -/
def WrB (W : World) (B n : Nat) : Prop := B < W.heap.size ∧ (∀ i, i < n → ∃ x, W.cell? ⟨B, i, none⟩ = some x) ∧ ∀ j, W.frozen? ⟨B, j, none⟩ = false
theorem WrB.set {W : World} {B n : Nat} (h : WrB W B n) (k : Nat) (v : Value) (hk : k < n) : WrB (W.setCell ⟨B, k, none⟩ v) B n := by
  refine ⟨by simpa [World.setCell] using h.1, fun i hi => ?_, fun j => by rw [World.frozen?_setCell]; exact h.2.2 j⟩
  by_cases e : i = k
  · subst e
    obtain ⟨x, hx⟩ := h.2.1 i hi
    exact ⟨v, World.cell?_setCell_same' _ _ _ (by rw [hx]; rfl)⟩
  · obtain ⟨x, hx⟩ := h.2.1 i hi
    exact ⟨x, by rw [World.cell?_setCell_other _ _ _ _ (by intro he; apply e; injection he; omega)]; exact hx⟩
theorem WrB.row {W : World} {B n : Nat} {f : Nat → Nat} (h : Row W B 0 n f) : WrB W B n := ⟨h.lt, fun i hi => ⟨_, by have := h.at' i hi; rwa [Nat.zero_add] at this⟩, h.fr⟩
theorem mrg_unique {s : Nat → Int} {f g : Nat → Nat} {n : Nat} (hf : Mrg s id f 0 n) (hg : Mrg s id g 0 n) : ∀ k, k < n → f k = g k := by
  refine srt_unique n hf.1 hg.1 (fun k hk => ?_) (fun k hk => ?_)
  · obtain ⟨x, _, x2, e⟩ := hf.2.inn k (Nat.zero_le _) hk
    obtain ⟨j, _, j2, e'⟩ := hg.2.bak x (Nat.zero_le _) x2
    exact ⟨j, j2, e.trans e'⟩
  · obtain ⟨x, _, x2, e⟩ := hg.2.inn k (Nat.zero_le _) hk
    obtain ⟨j, _, j2, e'⟩ := hf.2.bak x (Nat.zero_le _) x2
    exact ⟨j, j2, e.trans e'⟩

theorem fld4 {fld : Nat} (hf : fld < 256) (h : thg fld = true) : fld = 1 ∨ fld = 2 ∨ fld = 4 ∨ fld = 8 := by
  have := thg_fin ⟨fld, hf⟩
  simp only at this
  rw [h] at this
  simp at this
  omega

set_option maxRecDepth 20000 in
set_option maxHeartbeats 40000000 in
theorem rules_walk (rs : List Rl) (v : Value) (kind : Nat) (t : ByteArray) (st fld : Nat) (w : World) (hT : Tab w) (hv : Rules w v rs) (hs : ∀ r ∈ rs, r.cls.size ≤ 9223372036854775807 ∧ r.wf) (hl : rs.length ≤ 9223372036854775807) (hn0 : ∀ n c, v = .slice none n c → c = 0) (_hk : kind < 256) (ht : t.size ≤ 9223372036854775807) (hst : st < 256) (hf : fld < 256) :
    Calls Tryd.prog 4 #[v, .int .u8 (kind : Nat), .string t, .int .u8 (st : Nat), .int .u8 (fld : Nat)] w fun e w' => e = .returned (.bool true) ∧ Below w.heap.size w w' := by
  have HV : Hid (Rules w v rs ∧ Tab w) := ⟨hv, hT⟩
  have HS : Hid (∀ r ∈ rs, r.cls.size ≤ 9223372036854775807 ∧ r.wf) := hs
  have HN : Hid (∀ n c, v = .slice none n c → c = 0) := hn0
  obtain ⟨oa, cap, rfl, hc, hg⟩ := id hv
  clear hv hs hg hn0
  go_enter Tryd.func4, Tryd.ntmps4
  go_wp2_with fail
  refine (alive_any _ hT).mono ?_
  rintro e w1 ⟨rfl, L⟩
  by_cases hA : 60 < rs.length ∧ rs.length ≤ 256
  · have h1 : (60 : Int) < rs.length := by omega
    have h2 : (rs.length : Int) ≤ 256 := by omega
    go_wp2
    go_ret
    exact ⟨rfl, L⟩
  by_cases hB : 2000 < rs.length
  · have h1 : (60 : Int) < rs.length := by omega
    have h2 : ¬ (rs.length : Int) ≤ 256 := by omega
    have h3 : (2000 : Int) < rs.length := by omega
    go_wp2
    go_ret
    exact ⟨rfl, L⟩
  by_cases hC : 5000 < t.size
  · have h3 : ¬ (2000 : Int) < rs.length := by omega
    have h4 : (5000 : Int) < t.size := by omega
    by_cases h60 : 60 < rs.length
    · have h1 : (60 : Int) < rs.length := by omega
      have h2 : ¬ (rs.length : Int) ≤ 256 := by omega
      go_wp2
      go_ret
      exact ⟨rfl, L⟩
    · have h1 : ¬ (60 : Int) < rs.length := by omega
      go_wp2
      go_ret
      exact ⟨rfl, L⟩
  have h3 : ¬ (2000 : Int) < rs.length := by omega
  have h4 : ¬ (5000 : Int) < t.size := by omega
  have HL : Hid (Below w.heap.size w w1) := L
  clear L hT
  by_cases hb : chkR rs = 0
  · have h60 : ¬ 60 < rs.length := by
      intro h
      have : 256 < rs.length := by omega
      unfold chkR at hb
      rw [if_pos this] at hb
      simp at hb
    have h1 : ¬ (60 : Int) < rs.length := by omega
    cases hth : thg fld
    · go_wp2_with fail
      refine (lent_any rs _ w1 (HV.out.1.below HL.out) (by omega) HN.out).mono ?_
      rintro e w2 ⟨u, rfl, hLt, hbw2⟩
      obtain ⟨G, cu, rfl, hcu, hG, hatG⟩ := hLt
      have S1 : Hid (Below w.heap.size w w2 ∧ LentA w2 G rs) := ⟨(HL.out.trans (hbw2.mono HL.out.size)), ⟨hG, hatG⟩⟩
      clear hbw2 HL hG hatG
      have hcu' : Hid (rs.length + 1 ≤ cu) := hcu
      clear hcu
      have nG : G < w2.heap.size := S1.out.2.1
      go_wp2_with fail
      refine (order_any rs _ w2 (HV.out.2.below S1.out.1) (S1.out.2.lent hcu'.out).rules HS.out (by omega) hb).mono ?_
      rintro e w3 ⟨B1, f, rfl, hB1, hRow, hM, hbw3⟩
      have HM : Hid (Mrg (str rs) id f 0 rs.length) := hM
      have nB1 : G ≠ B1 := by omega
      have hwB : w.heap.size ≤ B1 := Nat.le_trans S1.out.1.size hB1
      have S2 : Hid (Below w.heap.size w w3 ∧ LentA w3 G rs ∧ Row w3 B1 0 rs.length f) := ⟨(S1.out.1.trans (hbw3.mono S1.out.1.size)), (S1.out.2.below hbw3), hRow⟩
      clear hbw3 S1 hRow hM hB1 nG
      have lB1 : B1 < w3.heap.size := S2.out.2.2.lt
      go_wp2_with fail
      refine (look_ok rs _ kind t st w3 (HV.out.2.below S2.out.1) (S2.out.2.1.lent hcu'.out).rules HS.out (by omega) (by omega) hb).mono ?_
      rintro e w4 ⟨l, hH, rfl, hbw4⟩
      have HH : Hid (Held rs kind t st l) := hH
      obtain ⟨y, HY⟩ : ∃ y, Hid (y = ly (lks rs (bwd l l.length))) := ⟨_, rfl⟩
      rw [← HY.out]
      have lB4 : B1 < w4.heap.size := Nat.lt_of_lt_of_le lB1 hbw4.size
      have S3 : Hid (Below w.heap.size w w4 ∧ LentA w4 G rs ∧ Row w4 B1 0 rs.length f) := ⟨(S2.out.1.trans (hbw4.mono S2.out.1.size)), (S2.out.2.1.below hbw4), (S2.out.2.2.below hbw4)⟩
      clear hbw4 S2 hH lB1
      go_wp2_with fail
      have bA : Below w4.heap.size w4 (w4.alloc (.cells #[.int .u8 (y.has : Nat), .int .u8 y.r, .int .u8 y.g, .int .u8 y.b, .int .u8 y.a, .int .u8 y.r2, .int .u8 y.g2, .int .u8 y.b2, .int .u8 y.a2, .bool y.bd, .int .i64 y.pad] 33)) := (Below.refl _ _).alloc (Nat.le_refl _) _
      have S4 : Hid (Below w.heap.size w (w4.alloc (.cells #[.int .u8 (y.has : Nat), .int .u8 y.r, .int .u8 y.g, .int .u8 y.b, .int .u8 y.a, .int .u8 y.r2, .int .u8 y.g2, .int .u8 y.b2, .int .u8 y.a2, .bool y.bd, .int .i64 y.pad] 33)) ∧ LentA (w4.alloc (.cells #[.int .u8 (y.has : Nat), .int .u8 y.r, .int .u8 y.g, .int .u8 y.b, .int .u8 y.a, .int .u8 y.r2, .int .u8 y.g2, .int .u8 y.b2, .int .u8 y.a2, .bool y.bd, .int .i64 y.pad] 33)) G rs ∧ Row (w4.alloc (.cells #[.int .u8 (y.has : Nat), .int .u8 y.r, .int .u8 y.g, .int .u8 y.b, .int .u8 y.a, .int .u8 y.r2, .int .u8 y.g2, .int .u8 y.b2, .int .u8 y.a2, .bool y.bd, .int .i64 y.pad] 33)) B1 0 rs.length f ∧ Blk (w4.alloc (.cells #[.int .u8 (y.has : Nat), .int .u8 y.r, .int .u8 y.g, .int .u8 y.b, .int .u8 y.a, .int .u8 y.r2, .int .u8 y.g2, .int .u8 y.b2, .int .u8 y.a2, .bool y.bd, .int .i64 y.pad] 33)) w4.heap.size #[.int .u8 (y.has : Nat), .int .u8 y.r, .int .u8 y.g, .int .u8 y.b, .int .u8 y.a, .int .u8 y.r2, .int .u8 y.g2, .int .u8 y.b2, .int .u8 y.a2, .bool y.bd, .int .i64 y.pad] 33) := ⟨(S3.out.1.trans (bA.mono S3.out.1.size)), (S3.out.2.1.below bA), (S3.out.2.2.below bA), (Blk.new w4 #[.int .u8 (y.has : Nat), .int .u8 y.r, .int .u8 y.g, .int .u8 y.b, .int .u8 y.a, .int .u8 y.r2, .int .u8 y.g2, .int .u8 y.b2, .int .u8 y.a2, .bool y.bd, .int .i64 y.pad] 33)⟩
      clear bA S3 
      generalize (w4.alloc (.cells #[.int .u8 (y.has : Nat), .int .u8 y.r, .int .u8 y.g, .int .u8 y.b, .int .u8 y.a, .int .u8 y.r2, .int .u8 y.g2, .int .u8 y.b2, .int .u8 y.a2, .bool y.bd, .int .i64 y.pad] 33)) = w5 at *
      generalize w4.heap.size = kb at *
      have nkb : kb ≠ B1 := by omega
      have lB5 : B1 < w5.heap.size := Nat.lt_trans lB4 S4.out.2.2.2.lt
      clear lB4
      refine (which_arg rs _ kind t st fld w5 (HV.out.2.below S4.out.1) (S4.out.2.1.lent hcu'.out).rules HS.out hb hth hf).mono ?_
      rintro e w6 ⟨rfl, hbw6⟩
      have S5 : Hid (Below w.heap.size w w6 ∧ LentA w6 G rs ∧ Row w6 B1 0 rs.length f ∧ Blk w6 kb #[.int .u8 (y.has : Nat), .int .u8 y.r, .int .u8 y.g, .int .u8 y.b, .int .u8 y.a, .int .u8 y.r2, .int .u8 y.g2, .int .u8 y.b2, .int .u8 y.a2, .bool y.bd, .int .i64 y.pad] 33) := ⟨(S4.out.1.trans (hbw6.mono S4.out.1.size)), (S4.out.2.1.below hbw6), (S4.out.2.2.1.below hbw6), (S4.out.2.2.2.below hbw6)⟩
      clear hbw6 S4 
      go_wp2_with fail
      have lB6 : B1 < w6.heap.size := S5.out.2.2.1.lt
      clear lB5
      refine (order_any rs _ w6 (HV.out.2.below S5.out.1) (S5.out.2.1.lent hcu'.out).rules HS.out (by omega) hb).mono ?_
      rintro e w7 ⟨B2, f2, rfl, hB2, hRow2, hM2, hbw7⟩
      have hRow3 : Row w7 B2 0 rs.length f := hRow2.congr fun i hi => mrg_unique HM.out hM2 i hi
      have nB2 : B1 ≠ B2 := by omega
      have lB7 : B1 < w7.heap.size := Nat.lt_of_lt_of_le lB6 hbw7.size
      have S6 : Hid (Below w.heap.size w w7 ∧ LentA w7 G rs ∧ Row w7 B1 0 rs.length f ∧ Blk w7 kb #[.int .u8 (y.has : Nat), .int .u8 y.r, .int .u8 y.g, .int .u8 y.b, .int .u8 y.a, .int .u8 y.r2, .int .u8 y.g2, .int .u8 y.b2, .int .u8 y.a2, .bool y.bd, .int .i64 y.pad] 33 ∧ Row w7 B2 0 rs.length f) := ⟨(S5.out.1.trans (hbw7.mono S5.out.1.size)), (S5.out.2.1.below hbw7), (S5.out.2.2.1.below hbw7), (S5.out.2.2.2.below hbw7), hRow3⟩
      clear hbw7 S5 hRow2 hRow3 hM2 hB2 lB6
      go_wp2_with fail
      refine (rorder_any rs _ w7 (HV.out.2.below S6.out.1) (HV.out.1.below S6.out.1) HS.out (by omega) hb (chk_15 hb) f HM.out).mono ?_
      rintro e w8 ⟨A, rfl, hA, hRowA, hbw8⟩
      have nA : B1 ≠ A := by omega
      have lB8 : B1 < w8.heap.size := Nat.lt_of_lt_of_le lB7 hbw8.size
      have S7 : Hid (Below w.heap.size w w8 ∧ LentA w8 G rs ∧ Row w8 B1 0 rs.length f ∧ Blk w8 kb #[.int .u8 (y.has : Nat), .int .u8 y.r, .int .u8 y.g, .int .u8 y.b, .int .u8 y.a, .int .u8 y.r2, .int .u8 y.g2, .int .u8 y.b2, .int .u8 y.a2, .bool y.bd, .int .i64 y.pad] 33 ∧ Row w8 B2 0 rs.length f ∧ Row w8 A 0 rs.length f) := ⟨(S6.out.1.trans (hbw8.mono S6.out.1.size)), (S6.out.2.1.below hbw8), (S6.out.2.2.1.below hbw8), (S6.out.2.2.2.1.below hbw8), (S6.out.2.2.2.2.below hbw8), hRowA⟩
      clear hbw8 S6 hRowA hA lB7
      go_wp2_with fail
      refine (rlook_ok rs _ kind t st w8 (HV.out.2.below S7.out.1) (HV.out.1.below S7.out.1) HS.out (by omega) hb (by omega) hst f HM.out l HH.out).mono ?_
      rintro e w9 ⟨rfl, hbw9⟩
      rw [← HY.out]
      have lB9 : B1 < w9.heap.size := Nat.lt_of_lt_of_le lB8 hbw9.size
      have S8 : Hid (Below w.heap.size w w9 ∧ LentA w9 G rs ∧ Row w9 B1 0 rs.length f ∧ Blk w9 kb #[.int .u8 (y.has : Nat), .int .u8 y.r, .int .u8 y.g, .int .u8 y.b, .int .u8 y.a, .int .u8 y.r2, .int .u8 y.g2, .int .u8 y.b2, .int .u8 y.a2, .bool y.bd, .int .i64 y.pad] 33 ∧ Row w9 B2 0 rs.length f ∧ Row w9 A 0 rs.length f) := ⟨(S7.out.1.trans (hbw9.mono S7.out.1.size)), (S7.out.2.1.below hbw9), (S7.out.2.2.1.below hbw9), (S7.out.2.2.2.1.below hbw9), (S7.out.2.2.2.2.1.below hbw9), (S7.out.2.2.2.2.2.below hbw9)⟩
      clear hbw9 S7 lB8
      go_wp2_with fail
      have bA : Below w9.heap.size w9 (w9.alloc (.cells #[.int .u8 (y.has : Nat), .int .u8 y.r, .int .u8 y.g, .int .u8 y.b, .int .u8 y.a, .int .u8 y.r2, .int .u8 y.g2, .int .u8 y.b2, .int .u8 y.a2, .bool y.bd, .int .i64 y.pad] 33)) := (Below.refl _ _).alloc (Nat.le_refl _) _
      have S9 : Hid (Below w.heap.size w (w9.alloc (.cells #[.int .u8 (y.has : Nat), .int .u8 y.r, .int .u8 y.g, .int .u8 y.b, .int .u8 y.a, .int .u8 y.r2, .int .u8 y.g2, .int .u8 y.b2, .int .u8 y.a2, .bool y.bd, .int .i64 y.pad] 33)) ∧ LentA (w9.alloc (.cells #[.int .u8 (y.has : Nat), .int .u8 y.r, .int .u8 y.g, .int .u8 y.b, .int .u8 y.a, .int .u8 y.r2, .int .u8 y.g2, .int .u8 y.b2, .int .u8 y.a2, .bool y.bd, .int .i64 y.pad] 33)) G rs ∧ Row (w9.alloc (.cells #[.int .u8 (y.has : Nat), .int .u8 y.r, .int .u8 y.g, .int .u8 y.b, .int .u8 y.a, .int .u8 y.r2, .int .u8 y.g2, .int .u8 y.b2, .int .u8 y.a2, .bool y.bd, .int .i64 y.pad] 33)) B1 0 rs.length f ∧ Blk (w9.alloc (.cells #[.int .u8 (y.has : Nat), .int .u8 y.r, .int .u8 y.g, .int .u8 y.b, .int .u8 y.a, .int .u8 y.r2, .int .u8 y.g2, .int .u8 y.b2, .int .u8 y.a2, .bool y.bd, .int .i64 y.pad] 33)) kb #[.int .u8 (y.has : Nat), .int .u8 y.r, .int .u8 y.g, .int .u8 y.b, .int .u8 y.a, .int .u8 y.r2, .int .u8 y.g2, .int .u8 y.b2, .int .u8 y.a2, .bool y.bd, .int .i64 y.pad] 33 ∧ Row (w9.alloc (.cells #[.int .u8 (y.has : Nat), .int .u8 y.r, .int .u8 y.g, .int .u8 y.b, .int .u8 y.a, .int .u8 y.r2, .int .u8 y.g2, .int .u8 y.b2, .int .u8 y.a2, .bool y.bd, .int .i64 y.pad] 33)) B2 0 rs.length f ∧ Row (w9.alloc (.cells #[.int .u8 (y.has : Nat), .int .u8 y.r, .int .u8 y.g, .int .u8 y.b, .int .u8 y.a, .int .u8 y.r2, .int .u8 y.g2, .int .u8 y.b2, .int .u8 y.a2, .bool y.bd, .int .i64 y.pad] 33)) A 0 rs.length f ∧ Blk (w9.alloc (.cells #[.int .u8 (y.has : Nat), .int .u8 y.r, .int .u8 y.g, .int .u8 y.b, .int .u8 y.a, .int .u8 y.r2, .int .u8 y.g2, .int .u8 y.b2, .int .u8 y.a2, .bool y.bd, .int .i64 y.pad] 33)) w9.heap.size #[.int .u8 (y.has : Nat), .int .u8 y.r, .int .u8 y.g, .int .u8 y.b, .int .u8 y.a, .int .u8 y.r2, .int .u8 y.g2, .int .u8 y.b2, .int .u8 y.a2, .bool y.bd, .int .i64 y.pad] 33) := ⟨(S8.out.1.trans (bA.mono S8.out.1.size)), (S8.out.2.1.below bA), (S8.out.2.2.1.below bA), (S8.out.2.2.2.1.below bA), (S8.out.2.2.2.2.1.below bA), (S8.out.2.2.2.2.2.below bA), (Blk.new w9 #[.int .u8 (y.has : Nat), .int .u8 y.r, .int .u8 y.g, .int .u8 y.b, .int .u8 y.a, .int .u8 y.r2, .int .u8 y.g2, .int .u8 y.b2, .int .u8 y.a2, .bool y.bd, .int .i64 y.pad] 33)⟩
      clear bA S8 
      generalize (w9.alloc (.cells #[.int .u8 (y.has : Nat), .int .u8 y.r, .int .u8 y.g, .int .u8 y.b, .int .u8 y.a, .int .u8 y.r2, .int .u8 y.g2, .int .u8 y.b2, .int .u8 y.a2, .bool y.bd, .int .i64 y.pad] 33)) = w10 at *
      generalize w9.heap.size = bb at *
      have nbb : bb ≠ B1 := by omega
      clear lB9
      refine (rwhich_arg rs _ kind t st fld w10 (HV.out.2.below S9.out.1) (HV.out.1.below S9.out.1) HS.out (by omega) hb f HM.out hf hth).mono ?_
      rintro e w11 ⟨rfl, hbw11⟩
      have S10 : Hid (Below w.heap.size w w11 ∧ LentA w11 G rs ∧ Row w11 B1 0 rs.length f ∧ Blk w11 kb #[.int .u8 (y.has : Nat), .int .u8 y.r, .int .u8 y.g, .int .u8 y.b, .int .u8 y.a, .int .u8 y.r2, .int .u8 y.g2, .int .u8 y.b2, .int .u8 y.a2, .bool y.bd, .int .i64 y.pad] 33 ∧ Row w11 B2 0 rs.length f ∧ Row w11 A 0 rs.length f ∧ Blk w11 bb #[.int .u8 (y.has : Nat), .int .u8 y.r, .int .u8 y.g, .int .u8 y.b, .int .u8 y.a, .int .u8 y.r2, .int .u8 y.g2, .int .u8 y.b2, .int .u8 y.a2, .bool y.bd, .int .i64 y.pad] 33) := ⟨(S9.out.1.trans (hbw11.mono S9.out.1.size)), (S9.out.2.1.below hbw11), (S9.out.2.2.1.below hbw11), (S9.out.2.2.2.1.below hbw11), (S9.out.2.2.2.2.1.below hbw11), (S9.out.2.2.2.2.2.1.below hbw11), (S9.out.2.2.2.2.2.2.below hbw11)⟩
      clear hbw11 S9 
      go_wp2_with fail
      refine (numbers_any rs.length B1 A rs.length rs.length f w11 S10.out.2.2.1 S10.out.2.2.2.2.2.1 (by omega)).mono ?_
      rintro e w12 ⟨rfl, hbw12⟩
      have S11 : Hid (Below w.heap.size w w12 ∧ LentA w12 G rs ∧ Row w12 B1 0 rs.length f ∧ Blk w12 kb #[.int .u8 (y.has : Nat), .int .u8 y.r, .int .u8 y.g, .int .u8 y.b, .int .u8 y.a, .int .u8 y.r2, .int .u8 y.g2, .int .u8 y.b2, .int .u8 y.a2, .bool y.bd, .int .i64 y.pad] 33 ∧ Row w12 B2 0 rs.length f ∧ Row w12 A 0 rs.length f ∧ Blk w12 bb #[.int .u8 (y.has : Nat), .int .u8 y.r, .int .u8 y.g, .int .u8 y.b, .int .u8 y.a, .int .u8 y.r2, .int .u8 y.g2, .int .u8 y.b2, .int .u8 y.a2, .bool y.bd, .int .i64 y.pad] 33) := ⟨(S10.out.1.trans (hbw12.mono S10.out.1.size)), (S10.out.2.1.below hbw12), (S10.out.2.2.1.below hbw12), (S10.out.2.2.2.1.below hbw12), (S10.out.2.2.2.2.1.below hbw12), (S10.out.2.2.2.2.2.1.below hbw12), (S10.out.2.2.2.2.2.2.below hbw12)⟩
      clear hbw12 S10 
      go_wp2_with fail
      have hd1 : decide ((2000 : Int) < rs.length) = false := decide_eq_false (by omega)
      have hd2 : decide ((5000 : Int) < t.size) = false := decide_eq_false (by omega)
      try simp only [hd1, hd2]
      go_loopw [28] (fun vi wr => ∃ k : Nat, k ≤ rs.length ∧ vi = .int .i64 k ∧ Hid (Below w.heap.size w wr ∧ LentA wr G rs ∧ Blk wr kb #[.int .u8 (y.has : Nat), .int .u8 y.r, .int .u8 y.g, .int .u8 y.b, .int .u8 y.a, .int .u8 y.r2, .int .u8 y.g2, .int .u8 y.b2, .int .u8 y.a2, .bool y.bd, .int .i64 y.pad] 33 ∧ Row wr B2 0 rs.length f ∧ Row wr A 0 rs.length f ∧ Blk wr bb #[.int .u8 (y.has : Nat), .int .u8 y.r, .int .u8 y.g, .int .u8 y.b, .int .u8 y.a, .int .u8 y.r2, .int .u8 y.g2, .int .u8 y.b2, .int .u8 y.a2, .bool y.bd, .int .i64 y.pad] 33 ∧ WrB wr B1 rs.length)) (fun vi _ => rs.length - (intOf vi).toNat)
      case atStart => exact ⟨0, Nat.zero_le _, rfl, S11.out.1, S11.out.2.1, S11.out.2.2.2.1, S11.out.2.2.2.2.1, S11.out.2.2.2.2.2.1, S11.out.2.2.2.2.2.2, WrB.row S11.out.2.2.1⟩
      case round =>
        obtain ⟨k, hk, rfl, HR⟩ := hrel
        clear S11
        by_cases hlt : k < rs.length
        · have ik : (k : Int) < (rs.length : Int) := by omega
          obtain ⟨x, c1⟩ := HR.out.2.2.2.2.2.2.2.1 k hlt
          have f1 := HR.out.2.2.2.2.2.2.2.2 k
          go_wp2_with fail
          go_roundw
          case rel => exact ⟨k + 1, by omega, by go_num, (HR.out.1.setCell (p := ⟨B1, k, none⟩) hwB _), (HR.out.2.1.set ⟨B1, k, none⟩ _ (fun h => nB1 h.symm)), (HR.out.2.2.1.other ⟨B1, k, none⟩ _ (fun h => nkb h.symm)), (row_other HR.out.2.2.2.1 ⟨B1, k, none⟩ _ nB2), (row_other HR.out.2.2.2.2.1 ⟨B1, k, none⟩ _ nA), (HR.out.2.2.2.2.2.1.other ⟨B1, k, none⟩ _ (fun h => nbb h.symm)), HR.out.2.2.2.2.2.2.set k _ hlt⟩
          case measure => simp [intOf]; omega
        · obtain rfl : k = rs.length := by omega
          have S12 : Hid (Below w.heap.size w wr ∧ LentA wr G rs ∧ Blk wr kb #[.int .u8 (y.has : Nat), .int .u8 y.r, .int .u8 y.g, .int .u8 y.b, .int .u8 y.a, .int .u8 y.r2, .int .u8 y.g2, .int .u8 y.b2, .int .u8 y.a2, .bool y.bd, .int .i64 y.pad] 33 ∧ Row wr B2 0 rs.length f ∧ Row wr A 0 rs.length f ∧ Blk wr bb #[.int .u8 (y.has : Nat), .int .u8 y.r, .int .u8 y.g, .int .u8 y.b, .int .u8 y.a, .int .u8 y.r2, .int .u8 y.g2, .int .u8 y.b2, .int .u8 y.a2, .bool y.bd, .int .i64 y.pad] 33) := ⟨HR.out.1, HR.out.2.1, HR.out.2.2.1, HR.out.2.2.2.1, HR.out.2.2.2.2.1, HR.out.2.2.2.2.2.1⟩
          clear HR
          go_wp2_with fail
          refine (numbers_any rs.length B2 A rs.length rs.length f wr S12.out.2.2.2.1 S12.out.2.2.2.2.1 (by omega)).mono ?_
          rintro e w13 ⟨rfl, hbw13⟩
          have S13 : Hid (Below w.heap.size w w13 ∧ LentA w13 G rs ∧ Blk w13 kb #[.int .u8 (y.has : Nat), .int .u8 y.r, .int .u8 y.g, .int .u8 y.b, .int .u8 y.a, .int .u8 y.r2, .int .u8 y.g2, .int .u8 y.b2, .int .u8 y.a2, .bool y.bd, .int .i64 y.pad] 33 ∧ Row w13 B2 0 rs.length f ∧ Row w13 A 0 rs.length f ∧ Blk w13 bb #[.int .u8 (y.has : Nat), .int .u8 y.r, .int .u8 y.g, .int .u8 y.b, .int .u8 y.a, .int .u8 y.r2, .int .u8 y.g2, .int .u8 y.b2, .int .u8 y.a2, .bool y.bd, .int .i64 y.pad] 33) := ⟨(S12.out.1.trans (hbw13.mono S12.out.1.size)), (S12.out.2.1.below hbw13), (S12.out.2.2.1.below hbw13), (S12.out.2.2.2.1.below hbw13), (S12.out.2.2.2.2.1.below hbw13), (S12.out.2.2.2.2.2.below hbw13)⟩
          clear hbw13 S12 
          go_wp2_with fail
          refine (kept_any rs _ _ w13 (S13.out.2.1.lent hcu'.out) (HV.out.1.below S13.out.1) (by omega)).mono ?_
          rintro e w14 ⟨rfl, hbw14⟩
          have S14 : Hid (Below w.heap.size w w14 ∧ LentA w14 G rs ∧ Blk w14 kb #[.int .u8 (y.has : Nat), .int .u8 y.r, .int .u8 y.g, .int .u8 y.b, .int .u8 y.a, .int .u8 y.r2, .int .u8 y.g2, .int .u8 y.b2, .int .u8 y.a2, .bool y.bd, .int .i64 y.pad] 33 ∧ Row w14 B2 0 rs.length f ∧ Row w14 A 0 rs.length f ∧ Blk w14 bb #[.int .u8 (y.has : Nat), .int .u8 y.r, .int .u8 y.g, .int .u8 y.b, .int .u8 y.a, .int .u8 y.r2, .int .u8 y.g2, .int .u8 y.b2, .int .u8 y.a2, .bool y.bd, .int .i64 y.pad] 33) := ⟨(S13.out.1.trans (hbw14.mono S13.out.1.size)), (S13.out.2.1.below hbw14), (S13.out.2.2.1.below hbw14), (S13.out.2.2.2.1.below hbw14), (S13.out.2.2.2.2.1.below hbw14), (S13.out.2.2.2.2.2.below hbw14)⟩
          clear hbw14 S13 
          have EE := fun w => eql_look y y w
          simp only [eqL_refl] at EE
          obtain ⟨k0, k1, k2, k3, k4, k5, k6, k7, k8, k9, k10⟩ := S14.out.2.2.1.at11
          obtain ⟨b0, b1, b2, b3, b4, b5, b6, b7, b8, b9, b10⟩ := S14.out.2.2.2.2.2.at11
          go_wp2_with fail
          clear k0 k1 k2 k3 k4 k5 k6 k7 k8 k9 k10 b0 b1 b2 b3 b4 b5 b6 b7 b8 b9 b10
          refine (check_rules rs _ w14 (HV.out.2.below S14.out.1) (S14.out.2.1.lent hcu'.out).rules HS.out).mono ?_
          rintro e w20 ⟨rfl, hbw20⟩
          have S15 : Hid (Below w.heap.size w w20 ∧ LentA w20 G rs ∧ Blk w20 kb #[.int .u8 (y.has : Nat), .int .u8 y.r, .int .u8 y.g, .int .u8 y.b, .int .u8 y.a, .int .u8 y.r2, .int .u8 y.g2, .int .u8 y.b2, .int .u8 y.a2, .bool y.bd, .int .i64 y.pad] 33 ∧ Row w20 B2 0 rs.length f ∧ Row w20 A 0 rs.length f ∧ Blk w20 bb #[.int .u8 (y.has : Nat), .int .u8 y.r, .int .u8 y.g, .int .u8 y.b, .int .u8 y.a, .int .u8 y.r2, .int .u8 y.g2, .int .u8 y.b2, .int .u8 y.a2, .bool y.bd, .int .i64 y.pad] 33) := ⟨(S14.out.1.trans (hbw20.mono S14.out.1.size)), (S14.out.2.1.below hbw20), (S14.out.2.2.1.below hbw20), (S14.out.2.2.2.1.below hbw20), (S14.out.2.2.2.2.1.below hbw20), (S14.out.2.2.2.2.2.below hbw20)⟩
          clear hbw20 S14 
          go_wp2_with fail
          refine (rcheck_rules rs _ w20 (HV.out.2.below S15.out.1) (HV.out.1.below S15.out.1) HS.out).mono ?_
          rintro e w21 ⟨rfl, hbw21⟩
          have S16 : Hid (Below w.heap.size w w21 ∧ LentA w21 G rs ∧ Blk w21 kb #[.int .u8 (y.has : Nat), .int .u8 y.r, .int .u8 y.g, .int .u8 y.b, .int .u8 y.a, .int .u8 y.r2, .int .u8 y.g2, .int .u8 y.b2, .int .u8 y.a2, .bool y.bd, .int .i64 y.pad] 33 ∧ Row w21 B2 0 rs.length f ∧ Row w21 A 0 rs.length f ∧ Blk w21 bb #[.int .u8 (y.has : Nat), .int .u8 y.r, .int .u8 y.g, .int .u8 y.b, .int .u8 y.a, .int .u8 y.r2, .int .u8 y.g2, .int .u8 y.b2, .int .u8 y.a2, .bool y.bd, .int .i64 y.pad] 33) := ⟨(S15.out.1.trans (hbw21.mono S15.out.1.size)), (S15.out.2.1.below hbw21), (S15.out.2.2.1.below hbw21), (S15.out.2.2.2.1.below hbw21), (S15.out.2.2.2.2.1.below hbw21), (S15.out.2.2.2.2.2.below hbw21)⟩
          clear hbw21 S15 
          go_wp2
          go_ret
          exact ⟨rfl, S16.out.1⟩
    · go_wp2_with fail
      refine (lent_any rs _ w1 (HV.out.1.below HL.out) (by omega) HN.out).mono ?_
      rintro e w2 ⟨u, rfl, hLt, hbw2⟩
      obtain ⟨G, cu, rfl, hcu, hG, hatG⟩ := hLt
      have S1 : Hid (Below w.heap.size w w2 ∧ LentA w2 G rs) := ⟨(HL.out.trans (hbw2.mono HL.out.size)), ⟨hG, hatG⟩⟩
      clear hbw2 HL hG hatG
      have hcu' : Hid (rs.length + 1 ≤ cu) := hcu
      clear hcu
      have nG : G < w2.heap.size := S1.out.2.1
      go_wp2_with fail
      refine (order_any rs _ w2 (HV.out.2.below S1.out.1) (S1.out.2.lent hcu'.out).rules HS.out (by omega) hb).mono ?_
      rintro e w3 ⟨B1, f, rfl, hB1, hRow, hM, hbw3⟩
      have HM : Hid (Mrg (str rs) id f 0 rs.length) := hM
      have nB1 : G ≠ B1 := by omega
      have hwB : w.heap.size ≤ B1 := Nat.le_trans S1.out.1.size hB1
      have S2 : Hid (Below w.heap.size w w3 ∧ LentA w3 G rs ∧ Row w3 B1 0 rs.length f) := ⟨(S1.out.1.trans (hbw3.mono S1.out.1.size)), (S1.out.2.below hbw3), hRow⟩
      clear hbw3 S1 hRow hM hB1 nG
      have lB1 : B1 < w3.heap.size := S2.out.2.2.lt
      go_wp2_with fail
      refine (look_ok rs _ kind t st w3 (HV.out.2.below S2.out.1) (S2.out.2.1.lent hcu'.out).rules HS.out (by omega) (by omega) hb).mono ?_
      rintro e w4 ⟨l, hH, rfl, hbw4⟩
      have HH : Hid (Held rs kind t st l) := hH
      obtain ⟨y, HY⟩ : ∃ y, Hid (y = ly (lks rs (bwd l l.length))) := ⟨_, rfl⟩
      rw [← HY.out]
      have lB4 : B1 < w4.heap.size := Nat.lt_of_lt_of_le lB1 hbw4.size
      have S3 : Hid (Below w.heap.size w w4 ∧ LentA w4 G rs ∧ Row w4 B1 0 rs.length f) := ⟨(S2.out.1.trans (hbw4.mono S2.out.1.size)), (S2.out.2.1.below hbw4), (S2.out.2.2.below hbw4)⟩
      clear hbw4 S2 hH lB1
      go_wp2_with fail
      have bA : Below w4.heap.size w4 (w4.alloc (.cells #[.int .u8 (y.has : Nat), .int .u8 y.r, .int .u8 y.g, .int .u8 y.b, .int .u8 y.a, .int .u8 y.r2, .int .u8 y.g2, .int .u8 y.b2, .int .u8 y.a2, .bool y.bd, .int .i64 y.pad] 33)) := (Below.refl _ _).alloc (Nat.le_refl _) _
      have S4 : Hid (Below w.heap.size w (w4.alloc (.cells #[.int .u8 (y.has : Nat), .int .u8 y.r, .int .u8 y.g, .int .u8 y.b, .int .u8 y.a, .int .u8 y.r2, .int .u8 y.g2, .int .u8 y.b2, .int .u8 y.a2, .bool y.bd, .int .i64 y.pad] 33)) ∧ LentA (w4.alloc (.cells #[.int .u8 (y.has : Nat), .int .u8 y.r, .int .u8 y.g, .int .u8 y.b, .int .u8 y.a, .int .u8 y.r2, .int .u8 y.g2, .int .u8 y.b2, .int .u8 y.a2, .bool y.bd, .int .i64 y.pad] 33)) G rs ∧ Row (w4.alloc (.cells #[.int .u8 (y.has : Nat), .int .u8 y.r, .int .u8 y.g, .int .u8 y.b, .int .u8 y.a, .int .u8 y.r2, .int .u8 y.g2, .int .u8 y.b2, .int .u8 y.a2, .bool y.bd, .int .i64 y.pad] 33)) B1 0 rs.length f ∧ Blk (w4.alloc (.cells #[.int .u8 (y.has : Nat), .int .u8 y.r, .int .u8 y.g, .int .u8 y.b, .int .u8 y.a, .int .u8 y.r2, .int .u8 y.g2, .int .u8 y.b2, .int .u8 y.a2, .bool y.bd, .int .i64 y.pad] 33)) w4.heap.size #[.int .u8 (y.has : Nat), .int .u8 y.r, .int .u8 y.g, .int .u8 y.b, .int .u8 y.a, .int .u8 y.r2, .int .u8 y.g2, .int .u8 y.b2, .int .u8 y.a2, .bool y.bd, .int .i64 y.pad] 33) := ⟨(S3.out.1.trans (bA.mono S3.out.1.size)), (S3.out.2.1.below bA), (S3.out.2.2.below bA), (Blk.new w4 #[.int .u8 (y.has : Nat), .int .u8 y.r, .int .u8 y.g, .int .u8 y.b, .int .u8 y.a, .int .u8 y.r2, .int .u8 y.g2, .int .u8 y.b2, .int .u8 y.a2, .bool y.bd, .int .i64 y.pad] 33)⟩
      clear bA S3 
      generalize (w4.alloc (.cells #[.int .u8 (y.has : Nat), .int .u8 y.r, .int .u8 y.g, .int .u8 y.b, .int .u8 y.a, .int .u8 y.r2, .int .u8 y.g2, .int .u8 y.b2, .int .u8 y.a2, .bool y.bd, .int .i64 y.pad] 33)) = w5 at *
      generalize w4.heap.size = kb at *
      have nkb : kb ≠ B1 := by omega
      have lB5 : B1 < w5.heap.size := Nat.lt_trans lB4 S4.out.2.2.2.lt
      clear lB4
      obtain ⟨q, HQ⟩ : ∃ q, Hid (q = whN rs fld (bwd l l.length)) := ⟨_, rfl⟩
      have CW : Hid (∀ W, Tab W → Rules W (.slice (some ⟨G, 0, none⟩) rs.length cu) rs → Calls Tryd.prog 17 #[(.slice (some ⟨G, 0, none⟩) rs.length cu), .int .u8 (kind : Nat), .string t, .int .u8 (st : Nat), .int .u8 (fld : Nat)] W fun e w' => e = .returned (.tuple #[.int .i64 q, .int .i64 0]) ∧ Below W.heap.size W w') := fun W hT hv => (which_ok rs _ kind t st fld W hT hv HS.out (by omega) (by omega) hb hth).mono fun e w' ⟨m, hm, he, hw⟩ => by
        rw [held_unique hm HH.out, ← HQ.out] at he
        exact ⟨he, hw⟩
      refine (CW.out w5 (HV.out.2.below S4.out.1) (S4.out.2.1.lent hcu'.out).rules).mono ?_
      rintro e w6 ⟨rfl, hbw6⟩
      have S5 : Hid (Below w.heap.size w w6 ∧ LentA w6 G rs ∧ Row w6 B1 0 rs.length f ∧ Blk w6 kb #[.int .u8 (y.has : Nat), .int .u8 y.r, .int .u8 y.g, .int .u8 y.b, .int .u8 y.a, .int .u8 y.r2, .int .u8 y.g2, .int .u8 y.b2, .int .u8 y.a2, .bool y.bd, .int .i64 y.pad] 33) := ⟨(S4.out.1.trans (hbw6.mono S4.out.1.size)), (S4.out.2.1.below hbw6), (S4.out.2.2.1.below hbw6), (S4.out.2.2.2.below hbw6)⟩
      clear hbw6 S4 
      go_wp2_with fail
      have lB6 : B1 < w6.heap.size := S5.out.2.2.1.lt
      clear lB5
      refine (order_any rs _ w6 (HV.out.2.below S5.out.1) (S5.out.2.1.lent hcu'.out).rules HS.out (by omega) hb).mono ?_
      rintro e w7 ⟨B2, f2, rfl, hB2, hRow2, hM2, hbw7⟩
      have hRow3 : Row w7 B2 0 rs.length f := hRow2.congr fun i hi => mrg_unique HM.out hM2 i hi
      have nB2 : B1 ≠ B2 := by omega
      have lB7 : B1 < w7.heap.size := Nat.lt_of_lt_of_le lB6 hbw7.size
      have S6 : Hid (Below w.heap.size w w7 ∧ LentA w7 G rs ∧ Row w7 B1 0 rs.length f ∧ Blk w7 kb #[.int .u8 (y.has : Nat), .int .u8 y.r, .int .u8 y.g, .int .u8 y.b, .int .u8 y.a, .int .u8 y.r2, .int .u8 y.g2, .int .u8 y.b2, .int .u8 y.a2, .bool y.bd, .int .i64 y.pad] 33 ∧ Row w7 B2 0 rs.length f) := ⟨(S5.out.1.trans (hbw7.mono S5.out.1.size)), (S5.out.2.1.below hbw7), (S5.out.2.2.1.below hbw7), (S5.out.2.2.2.below hbw7), hRow3⟩
      clear hbw7 S5 hRow2 hRow3 hM2 hB2 lB6
      go_wp2_with fail
      refine (rorder_any rs _ w7 (HV.out.2.below S6.out.1) (HV.out.1.below S6.out.1) HS.out (by omega) hb (chk_15 hb) f HM.out).mono ?_
      rintro e w8 ⟨A, rfl, hA, hRowA, hbw8⟩
      have nA : B1 ≠ A := by omega
      have lB8 : B1 < w8.heap.size := Nat.lt_of_lt_of_le lB7 hbw8.size
      have S7 : Hid (Below w.heap.size w w8 ∧ LentA w8 G rs ∧ Row w8 B1 0 rs.length f ∧ Blk w8 kb #[.int .u8 (y.has : Nat), .int .u8 y.r, .int .u8 y.g, .int .u8 y.b, .int .u8 y.a, .int .u8 y.r2, .int .u8 y.g2, .int .u8 y.b2, .int .u8 y.a2, .bool y.bd, .int .i64 y.pad] 33 ∧ Row w8 B2 0 rs.length f ∧ Row w8 A 0 rs.length f) := ⟨(S6.out.1.trans (hbw8.mono S6.out.1.size)), (S6.out.2.1.below hbw8), (S6.out.2.2.1.below hbw8), (S6.out.2.2.2.1.below hbw8), (S6.out.2.2.2.2.below hbw8), hRowA⟩
      clear hbw8 S6 hRowA hA lB7
      go_wp2_with fail
      refine (rlook_ok rs _ kind t st w8 (HV.out.2.below S7.out.1) (HV.out.1.below S7.out.1) HS.out (by omega) hb (by omega) hst f HM.out l HH.out).mono ?_
      rintro e w9 ⟨rfl, hbw9⟩
      rw [← HY.out]
      have lB9 : B1 < w9.heap.size := Nat.lt_of_lt_of_le lB8 hbw9.size
      have S8 : Hid (Below w.heap.size w w9 ∧ LentA w9 G rs ∧ Row w9 B1 0 rs.length f ∧ Blk w9 kb #[.int .u8 (y.has : Nat), .int .u8 y.r, .int .u8 y.g, .int .u8 y.b, .int .u8 y.a, .int .u8 y.r2, .int .u8 y.g2, .int .u8 y.b2, .int .u8 y.a2, .bool y.bd, .int .i64 y.pad] 33 ∧ Row w9 B2 0 rs.length f ∧ Row w9 A 0 rs.length f) := ⟨(S7.out.1.trans (hbw9.mono S7.out.1.size)), (S7.out.2.1.below hbw9), (S7.out.2.2.1.below hbw9), (S7.out.2.2.2.1.below hbw9), (S7.out.2.2.2.2.1.below hbw9), (S7.out.2.2.2.2.2.below hbw9)⟩
      clear hbw9 S7 lB8
      go_wp2_with fail
      have bA : Below w9.heap.size w9 (w9.alloc (.cells #[.int .u8 (y.has : Nat), .int .u8 y.r, .int .u8 y.g, .int .u8 y.b, .int .u8 y.a, .int .u8 y.r2, .int .u8 y.g2, .int .u8 y.b2, .int .u8 y.a2, .bool y.bd, .int .i64 y.pad] 33)) := (Below.refl _ _).alloc (Nat.le_refl _) _
      have S9 : Hid (Below w.heap.size w (w9.alloc (.cells #[.int .u8 (y.has : Nat), .int .u8 y.r, .int .u8 y.g, .int .u8 y.b, .int .u8 y.a, .int .u8 y.r2, .int .u8 y.g2, .int .u8 y.b2, .int .u8 y.a2, .bool y.bd, .int .i64 y.pad] 33)) ∧ LentA (w9.alloc (.cells #[.int .u8 (y.has : Nat), .int .u8 y.r, .int .u8 y.g, .int .u8 y.b, .int .u8 y.a, .int .u8 y.r2, .int .u8 y.g2, .int .u8 y.b2, .int .u8 y.a2, .bool y.bd, .int .i64 y.pad] 33)) G rs ∧ Row (w9.alloc (.cells #[.int .u8 (y.has : Nat), .int .u8 y.r, .int .u8 y.g, .int .u8 y.b, .int .u8 y.a, .int .u8 y.r2, .int .u8 y.g2, .int .u8 y.b2, .int .u8 y.a2, .bool y.bd, .int .i64 y.pad] 33)) B1 0 rs.length f ∧ Blk (w9.alloc (.cells #[.int .u8 (y.has : Nat), .int .u8 y.r, .int .u8 y.g, .int .u8 y.b, .int .u8 y.a, .int .u8 y.r2, .int .u8 y.g2, .int .u8 y.b2, .int .u8 y.a2, .bool y.bd, .int .i64 y.pad] 33)) kb #[.int .u8 (y.has : Nat), .int .u8 y.r, .int .u8 y.g, .int .u8 y.b, .int .u8 y.a, .int .u8 y.r2, .int .u8 y.g2, .int .u8 y.b2, .int .u8 y.a2, .bool y.bd, .int .i64 y.pad] 33 ∧ Row (w9.alloc (.cells #[.int .u8 (y.has : Nat), .int .u8 y.r, .int .u8 y.g, .int .u8 y.b, .int .u8 y.a, .int .u8 y.r2, .int .u8 y.g2, .int .u8 y.b2, .int .u8 y.a2, .bool y.bd, .int .i64 y.pad] 33)) B2 0 rs.length f ∧ Row (w9.alloc (.cells #[.int .u8 (y.has : Nat), .int .u8 y.r, .int .u8 y.g, .int .u8 y.b, .int .u8 y.a, .int .u8 y.r2, .int .u8 y.g2, .int .u8 y.b2, .int .u8 y.a2, .bool y.bd, .int .i64 y.pad] 33)) A 0 rs.length f ∧ Blk (w9.alloc (.cells #[.int .u8 (y.has : Nat), .int .u8 y.r, .int .u8 y.g, .int .u8 y.b, .int .u8 y.a, .int .u8 y.r2, .int .u8 y.g2, .int .u8 y.b2, .int .u8 y.a2, .bool y.bd, .int .i64 y.pad] 33)) w9.heap.size #[.int .u8 (y.has : Nat), .int .u8 y.r, .int .u8 y.g, .int .u8 y.b, .int .u8 y.a, .int .u8 y.r2, .int .u8 y.g2, .int .u8 y.b2, .int .u8 y.a2, .bool y.bd, .int .i64 y.pad] 33) := ⟨(S8.out.1.trans (bA.mono S8.out.1.size)), (S8.out.2.1.below bA), (S8.out.2.2.1.below bA), (S8.out.2.2.2.1.below bA), (S8.out.2.2.2.2.1.below bA), (S8.out.2.2.2.2.2.below bA), (Blk.new w9 #[.int .u8 (y.has : Nat), .int .u8 y.r, .int .u8 y.g, .int .u8 y.b, .int .u8 y.a, .int .u8 y.r2, .int .u8 y.g2, .int .u8 y.b2, .int .u8 y.a2, .bool y.bd, .int .i64 y.pad] 33)⟩
      clear bA S8 
      generalize (w9.alloc (.cells #[.int .u8 (y.has : Nat), .int .u8 y.r, .int .u8 y.g, .int .u8 y.b, .int .u8 y.a, .int .u8 y.r2, .int .u8 y.g2, .int .u8 y.b2, .int .u8 y.a2, .bool y.bd, .int .i64 y.pad] 33)) = w10 at *
      generalize w9.heap.size = bb at *
      have nbb : bb ≠ B1 := by omega
      clear lB9
      have CR : Hid (Calls Tryd.prog 20 #[.slice oa rs.length cap, .int .u8 (kind : Nat), .string t, .int .u8 (st : Nat), .int .u8 (fld : Nat)] w10 fun e w' => e = .returned (.tuple #[.int .i64 q, .int .i64 0]) ∧ Below w10.heap.size w10 w') := by
        rw [HQ.out]; exact rwhich_ok rs _ kind t st fld w10 (HV.out.2.below S9.out.1) (HV.out.1.below S9.out.1) HS.out (by omega) hb (by omega) hst f HM.out l HH.out (fld4 hf hth)
      refine (CR.out).mono ?_
      rintro e w11 ⟨rfl, hbw11⟩
      have S10 : Hid (Below w.heap.size w w11 ∧ LentA w11 G rs ∧ Row w11 B1 0 rs.length f ∧ Blk w11 kb #[.int .u8 (y.has : Nat), .int .u8 y.r, .int .u8 y.g, .int .u8 y.b, .int .u8 y.a, .int .u8 y.r2, .int .u8 y.g2, .int .u8 y.b2, .int .u8 y.a2, .bool y.bd, .int .i64 y.pad] 33 ∧ Row w11 B2 0 rs.length f ∧ Row w11 A 0 rs.length f ∧ Blk w11 bb #[.int .u8 (y.has : Nat), .int .u8 y.r, .int .u8 y.g, .int .u8 y.b, .int .u8 y.a, .int .u8 y.r2, .int .u8 y.g2, .int .u8 y.b2, .int .u8 y.a2, .bool y.bd, .int .i64 y.pad] 33) := ⟨(S9.out.1.trans (hbw11.mono S9.out.1.size)), (S9.out.2.1.below hbw11), (S9.out.2.2.1.below hbw11), (S9.out.2.2.2.1.below hbw11), (S9.out.2.2.2.2.1.below hbw11), (S9.out.2.2.2.2.2.1.below hbw11), (S9.out.2.2.2.2.2.2.below hbw11)⟩
      clear hbw11 S9 
      go_wp2_with fail
      refine (numbers_any rs.length B1 A rs.length rs.length f w11 S10.out.2.2.1 S10.out.2.2.2.2.2.1 (by omega)).mono ?_
      rintro e w12 ⟨rfl, hbw12⟩
      have S11 : Hid (Below w.heap.size w w12 ∧ LentA w12 G rs ∧ Row w12 B1 0 rs.length f ∧ Blk w12 kb #[.int .u8 (y.has : Nat), .int .u8 y.r, .int .u8 y.g, .int .u8 y.b, .int .u8 y.a, .int .u8 y.r2, .int .u8 y.g2, .int .u8 y.b2, .int .u8 y.a2, .bool y.bd, .int .i64 y.pad] 33 ∧ Row w12 B2 0 rs.length f ∧ Row w12 A 0 rs.length f ∧ Blk w12 bb #[.int .u8 (y.has : Nat), .int .u8 y.r, .int .u8 y.g, .int .u8 y.b, .int .u8 y.a, .int .u8 y.r2, .int .u8 y.g2, .int .u8 y.b2, .int .u8 y.a2, .bool y.bd, .int .i64 y.pad] 33) := ⟨(S10.out.1.trans (hbw12.mono S10.out.1.size)), (S10.out.2.1.below hbw12), (S10.out.2.2.1.below hbw12), (S10.out.2.2.2.1.below hbw12), (S10.out.2.2.2.2.1.below hbw12), (S10.out.2.2.2.2.2.1.below hbw12), (S10.out.2.2.2.2.2.2.below hbw12)⟩
      clear hbw12 S10 
      go_wp2_with fail
      have hd1 : decide ((2000 : Int) < rs.length) = false := decide_eq_false (by omega)
      have hd2 : decide ((5000 : Int) < t.size) = false := decide_eq_false (by omega)
      try simp only [hd1, hd2]
      go_loopw [28] (fun vi wr => ∃ k : Nat, k ≤ rs.length ∧ vi = .int .i64 k ∧ Hid (Below w.heap.size w wr ∧ LentA wr G rs ∧ Blk wr kb #[.int .u8 (y.has : Nat), .int .u8 y.r, .int .u8 y.g, .int .u8 y.b, .int .u8 y.a, .int .u8 y.r2, .int .u8 y.g2, .int .u8 y.b2, .int .u8 y.a2, .bool y.bd, .int .i64 y.pad] 33 ∧ Row wr B2 0 rs.length f ∧ Row wr A 0 rs.length f ∧ Blk wr bb #[.int .u8 (y.has : Nat), .int .u8 y.r, .int .u8 y.g, .int .u8 y.b, .int .u8 y.a, .int .u8 y.r2, .int .u8 y.g2, .int .u8 y.b2, .int .u8 y.a2, .bool y.bd, .int .i64 y.pad] 33 ∧ WrB wr B1 rs.length)) (fun vi _ => rs.length - (intOf vi).toNat)
      case atStart => exact ⟨0, Nat.zero_le _, rfl, S11.out.1, S11.out.2.1, S11.out.2.2.2.1, S11.out.2.2.2.2.1, S11.out.2.2.2.2.2.1, S11.out.2.2.2.2.2.2, WrB.row S11.out.2.2.1⟩
      case round =>
        obtain ⟨k, hk, rfl, HR⟩ := hrel
        clear S11
        by_cases hlt : k < rs.length
        · have ik : (k : Int) < (rs.length : Int) := by omega
          obtain ⟨x, c1⟩ := HR.out.2.2.2.2.2.2.2.1 k hlt
          have f1 := HR.out.2.2.2.2.2.2.2.2 k
          go_wp2_with fail
          go_roundw
          case rel => exact ⟨k + 1, by omega, by go_num, (HR.out.1.setCell (p := ⟨B1, k, none⟩) hwB _), (HR.out.2.1.set ⟨B1, k, none⟩ _ (fun h => nB1 h.symm)), (HR.out.2.2.1.other ⟨B1, k, none⟩ _ (fun h => nkb h.symm)), (row_other HR.out.2.2.2.1 ⟨B1, k, none⟩ _ nB2), (row_other HR.out.2.2.2.2.1 ⟨B1, k, none⟩ _ nA), (HR.out.2.2.2.2.2.1.other ⟨B1, k, none⟩ _ (fun h => nbb h.symm)), HR.out.2.2.2.2.2.2.set k _ hlt⟩
          case measure => simp [intOf]; omega
        · obtain rfl : k = rs.length := by omega
          have S12 : Hid (Below w.heap.size w wr ∧ LentA wr G rs ∧ Blk wr kb #[.int .u8 (y.has : Nat), .int .u8 y.r, .int .u8 y.g, .int .u8 y.b, .int .u8 y.a, .int .u8 y.r2, .int .u8 y.g2, .int .u8 y.b2, .int .u8 y.a2, .bool y.bd, .int .i64 y.pad] 33 ∧ Row wr B2 0 rs.length f ∧ Row wr A 0 rs.length f ∧ Blk wr bb #[.int .u8 (y.has : Nat), .int .u8 y.r, .int .u8 y.g, .int .u8 y.b, .int .u8 y.a, .int .u8 y.r2, .int .u8 y.g2, .int .u8 y.b2, .int .u8 y.a2, .bool y.bd, .int .i64 y.pad] 33) := ⟨HR.out.1, HR.out.2.1, HR.out.2.2.1, HR.out.2.2.2.1, HR.out.2.2.2.2.1, HR.out.2.2.2.2.2.1⟩
          clear HR
          go_wp2_with fail
          refine (numbers_any rs.length B2 A rs.length rs.length f wr S12.out.2.2.2.1 S12.out.2.2.2.2.1 (by omega)).mono ?_
          rintro e w13 ⟨rfl, hbw13⟩
          have S13 : Hid (Below w.heap.size w w13 ∧ LentA w13 G rs ∧ Blk w13 kb #[.int .u8 (y.has : Nat), .int .u8 y.r, .int .u8 y.g, .int .u8 y.b, .int .u8 y.a, .int .u8 y.r2, .int .u8 y.g2, .int .u8 y.b2, .int .u8 y.a2, .bool y.bd, .int .i64 y.pad] 33 ∧ Row w13 B2 0 rs.length f ∧ Row w13 A 0 rs.length f ∧ Blk w13 bb #[.int .u8 (y.has : Nat), .int .u8 y.r, .int .u8 y.g, .int .u8 y.b, .int .u8 y.a, .int .u8 y.r2, .int .u8 y.g2, .int .u8 y.b2, .int .u8 y.a2, .bool y.bd, .int .i64 y.pad] 33) := ⟨(S12.out.1.trans (hbw13.mono S12.out.1.size)), (S12.out.2.1.below hbw13), (S12.out.2.2.1.below hbw13), (S12.out.2.2.2.1.below hbw13), (S12.out.2.2.2.2.1.below hbw13), (S12.out.2.2.2.2.2.below hbw13)⟩
          clear hbw13 S12 
          go_wp2_with fail
          refine (kept_any rs _ _ w13 (S13.out.2.1.lent hcu'.out) (HV.out.1.below S13.out.1) (by omega)).mono ?_
          rintro e w14 ⟨rfl, hbw14⟩
          have S14 : Hid (Below w.heap.size w w14 ∧ LentA w14 G rs ∧ Blk w14 kb #[.int .u8 (y.has : Nat), .int .u8 y.r, .int .u8 y.g, .int .u8 y.b, .int .u8 y.a, .int .u8 y.r2, .int .u8 y.g2, .int .u8 y.b2, .int .u8 y.a2, .bool y.bd, .int .i64 y.pad] 33 ∧ Row w14 B2 0 rs.length f ∧ Row w14 A 0 rs.length f ∧ Blk w14 bb #[.int .u8 (y.has : Nat), .int .u8 y.r, .int .u8 y.g, .int .u8 y.b, .int .u8 y.a, .int .u8 y.r2, .int .u8 y.g2, .int .u8 y.b2, .int .u8 y.a2, .bool y.bd, .int .i64 y.pad] 33) := ⟨(S13.out.1.trans (hbw14.mono S13.out.1.size)), (S13.out.2.1.below hbw14), (S13.out.2.2.1.below hbw14), (S13.out.2.2.2.1.below hbw14), (S13.out.2.2.2.2.1.below hbw14), (S13.out.2.2.2.2.2.below hbw14)⟩
          clear hbw14 S13 
          have EE := fun w => eql_look y y w
          simp only [eqL_refl] at EE
          obtain ⟨k0, k1, k2, k3, k4, k5, k6, k7, k8, k9, k10⟩ := S14.out.2.2.1.at11
          obtain ⟨b0, b1, b2, b3, b4, b5, b6, b7, b8, b9, b10⟩ := S14.out.2.2.2.2.2.at11
          go_wp2_with fail
          clear k0 k1 k2 k3 k4 k5 k6 k7 k8 k9 k10 b0 b1 b2 b3 b4 b5 b6 b7 b8 b9 b10
          refine (check_rules rs _ w14 (HV.out.2.below S14.out.1) (S14.out.2.1.lent hcu'.out).rules HS.out).mono ?_
          rintro e w20 ⟨rfl, hbw20⟩
          have S15 : Hid (Below w.heap.size w w20 ∧ LentA w20 G rs ∧ Blk w20 kb #[.int .u8 (y.has : Nat), .int .u8 y.r, .int .u8 y.g, .int .u8 y.b, .int .u8 y.a, .int .u8 y.r2, .int .u8 y.g2, .int .u8 y.b2, .int .u8 y.a2, .bool y.bd, .int .i64 y.pad] 33 ∧ Row w20 B2 0 rs.length f ∧ Row w20 A 0 rs.length f ∧ Blk w20 bb #[.int .u8 (y.has : Nat), .int .u8 y.r, .int .u8 y.g, .int .u8 y.b, .int .u8 y.a, .int .u8 y.r2, .int .u8 y.g2, .int .u8 y.b2, .int .u8 y.a2, .bool y.bd, .int .i64 y.pad] 33) := ⟨(S14.out.1.trans (hbw20.mono S14.out.1.size)), (S14.out.2.1.below hbw20), (S14.out.2.2.1.below hbw20), (S14.out.2.2.2.1.below hbw20), (S14.out.2.2.2.2.1.below hbw20), (S14.out.2.2.2.2.2.below hbw20)⟩
          clear hbw20 S14 
          go_wp2_with fail
          refine (rcheck_rules rs _ w20 (HV.out.2.below S15.out.1) (HV.out.1.below S15.out.1) HS.out).mono ?_
          rintro e w21 ⟨rfl, hbw21⟩
          have S16 : Hid (Below w.heap.size w w21 ∧ LentA w21 G rs ∧ Blk w21 kb #[.int .u8 (y.has : Nat), .int .u8 y.r, .int .u8 y.g, .int .u8 y.b, .int .u8 y.a, .int .u8 y.r2, .int .u8 y.g2, .int .u8 y.b2, .int .u8 y.a2, .bool y.bd, .int .i64 y.pad] 33 ∧ Row w21 B2 0 rs.length f ∧ Row w21 A 0 rs.length f ∧ Blk w21 bb #[.int .u8 (y.has : Nat), .int .u8 y.r, .int .u8 y.g, .int .u8 y.b, .int .u8 y.a, .int .u8 y.r2, .int .u8 y.g2, .int .u8 y.b2, .int .u8 y.a2, .bool y.bd, .int .i64 y.pad] 33) := ⟨(S15.out.1.trans (hbw21.mono S15.out.1.size)), (S15.out.2.1.below hbw21), (S15.out.2.2.1.below hbw21), (S15.out.2.2.2.1.below hbw21), (S15.out.2.2.2.2.1.below hbw21), (S15.out.2.2.2.2.2.below hbw21)⟩
          clear hbw21 S15 
          go_wp2
          go_ret
          exact ⟨rfl, S16.out.1⟩
  · have key : Hid (∀ (W : World), Below w.heap.size w W → True) := fun _ _ => trivial
    by_cases h60 : 60 < rs.length
    · have h1 : (60 : Int) < rs.length := by omega
      have h2 : ¬ (rs.length : Int) ≤ 256 := by omega
      go_wp2_with fail
      refine (lent_any rs _ w1 (HV.out.1.below HL.out) (by omega) HN.out).mono ?_
      rintro e w2 ⟨u, rfl, hLt, hbw2⟩
      have S1 : Hid (Below w.heap.size w w2 ∧ Lent w2 u rs) := ⟨(HL.out.trans (hbw2.mono HL.out.size)), hLt⟩
      clear hbw2 HL hLt
      go_wp2_with fail
      refine (order_bad rs u w2 (HV.out.2.below S1.out.1) S1.out.2.rules HS.out hb).mono ?_
      rintro e w3 ⟨rfl, hbw3⟩
      have S2 : Hid (Below w.heap.size w w3 ∧ Lent w3 u rs) := ⟨(S1.out.1.trans (hbw3.mono S1.out.1.size)), (S1.out.2.below hbw3)⟩
      clear hbw3 S1 
      go_wp2_with fail
      refine (look_bad rs u kind t st w3 (HV.out.2.below S2.out.1) S2.out.2.rules HS.out hb).mono ?_
      rintro e w4 ⟨rfl, hbw4⟩
      have S3 : Hid (Below w.heap.size w w4 ∧ Lent w4 u rs) := ⟨(S2.out.1.trans (hbw4.mono S2.out.1.size)), (S2.out.2.below hbw4)⟩
      clear hbw4 S2 
      simp only [Lk.zero]
      go_wp2_with fail
      have bA : Below w4.heap.size w4 (w4.alloc (.cells #[.int .u8 0, .int .u8 0, .int .u8 0, .int .u8 0, .int .u8 0, .int .u8 0, .int .u8 0, .int .u8 0, .int .u8 0, .bool false, .int .i64 0] 33)) := (Below.refl _ _).alloc (Nat.le_refl _) _
      have S4 : Hid (Below w.heap.size w (w4.alloc (.cells #[.int .u8 0, .int .u8 0, .int .u8 0, .int .u8 0, .int .u8 0, .int .u8 0, .int .u8 0, .int .u8 0, .int .u8 0, .bool false, .int .i64 0] 33)) ∧ Lent (w4.alloc (.cells #[.int .u8 0, .int .u8 0, .int .u8 0, .int .u8 0, .int .u8 0, .int .u8 0, .int .u8 0, .int .u8 0, .int .u8 0, .bool false, .int .i64 0] 33)) u rs ∧ Blk (w4.alloc (.cells #[.int .u8 0, .int .u8 0, .int .u8 0, .int .u8 0, .int .u8 0, .int .u8 0, .int .u8 0, .int .u8 0, .int .u8 0, .bool false, .int .i64 0] 33)) w4.heap.size #[.int .u8 0, .int .u8 0, .int .u8 0, .int .u8 0, .int .u8 0, .int .u8 0, .int .u8 0, .int .u8 0, .int .u8 0, .bool false, .int .i64 0] 33) := ⟨(S3.out.1.trans (bA.mono S3.out.1.size)), (S3.out.2.below bA), (Blk.new w4 #[.int .u8 0, .int .u8 0, .int .u8 0, .int .u8 0, .int .u8 0, .int .u8 0, .int .u8 0, .int .u8 0, .int .u8 0, .bool false, .int .i64 0] 33)⟩
      clear bA S3 
      generalize (w4.alloc (.cells #[.int .u8 0, .int .u8 0, .int .u8 0, .int .u8 0, .int .u8 0, .int .u8 0, .int .u8 0, .int .u8 0, .int .u8 0, .bool false, .int .i64 0] 33)) = w5 at *
      generalize w4.heap.size = kb at *
      refine (which_bad rs u kind t st fld w5 (HV.out.2.below S4.out.1) S4.out.2.1.rules HS.out hb).mono ?_
      rintro e w6 ⟨rfl, hbw6⟩
      have S5 : Hid (Below w.heap.size w w6 ∧ Lent w6 u rs ∧ Blk w6 kb #[.int .u8 0, .int .u8 0, .int .u8 0, .int .u8 0, .int .u8 0, .int .u8 0, .int .u8 0, .int .u8 0, .int .u8 0, .bool false, .int .i64 0] 33) := ⟨(S4.out.1.trans (hbw6.mono S4.out.1.size)), (S4.out.2.1.below hbw6), (S4.out.2.2.below hbw6)⟩
      clear hbw6 S4 
      go_wp2_with fail
      refine (order_bad rs u w6 (HV.out.2.below S5.out.1) S5.out.2.1.rules HS.out hb).mono ?_
      rintro e w7 ⟨rfl, hbw7⟩
      have S6 : Hid (Below w.heap.size w w7 ∧ Lent w7 u rs ∧ Blk w7 kb #[.int .u8 0, .int .u8 0, .int .u8 0, .int .u8 0, .int .u8 0, .int .u8 0, .int .u8 0, .int .u8 0, .int .u8 0, .bool false, .int .i64 0] 33) := ⟨(S5.out.1.trans (hbw7.mono S5.out.1.size)), (S5.out.2.1.below hbw7), (S5.out.2.2.below hbw7)⟩
      clear hbw7 S5 
      go_wp2_with fail
      refine (rorder_bad rs _ w7 (HV.out.2.below S6.out.1) (HV.out.1.below S6.out.1) HS.out hb).mono ?_
      rintro e w8 ⟨rfl, hbw8⟩
      have S7 : Hid (Below w.heap.size w w8 ∧ Lent w8 u rs ∧ Blk w8 kb #[.int .u8 0, .int .u8 0, .int .u8 0, .int .u8 0, .int .u8 0, .int .u8 0, .int .u8 0, .int .u8 0, .int .u8 0, .bool false, .int .i64 0] 33) := ⟨(S6.out.1.trans (hbw8.mono S6.out.1.size)), (S6.out.2.1.below hbw8), (S6.out.2.2.below hbw8)⟩
      clear hbw8 S6 
      go_wp2_with fail
      refine (rlook_bad rs _ kind t st w8 (HV.out.2.below S7.out.1) (HV.out.1.below S7.out.1) HS.out hb).mono ?_
      rintro e w9 ⟨rfl, hbw9⟩
      have S8 : Hid (Below w.heap.size w w9 ∧ Lent w9 u rs ∧ Blk w9 kb #[.int .u8 0, .int .u8 0, .int .u8 0, .int .u8 0, .int .u8 0, .int .u8 0, .int .u8 0, .int .u8 0, .int .u8 0, .bool false, .int .i64 0] 33) := ⟨(S7.out.1.trans (hbw9.mono S7.out.1.size)), (S7.out.2.1.below hbw9), (S7.out.2.2.below hbw9)⟩
      clear hbw9 S7 
      simp only [Lk.zero]
      go_wp2_with fail
      have bA : Below w9.heap.size w9 (w9.alloc (.cells #[.int .u8 0, .int .u8 0, .int .u8 0, .int .u8 0, .int .u8 0, .int .u8 0, .int .u8 0, .int .u8 0, .int .u8 0, .bool false, .int .i64 0] 33)) := (Below.refl _ _).alloc (Nat.le_refl _) _
      have S9 : Hid (Below w.heap.size w (w9.alloc (.cells #[.int .u8 0, .int .u8 0, .int .u8 0, .int .u8 0, .int .u8 0, .int .u8 0, .int .u8 0, .int .u8 0, .int .u8 0, .bool false, .int .i64 0] 33)) ∧ Lent (w9.alloc (.cells #[.int .u8 0, .int .u8 0, .int .u8 0, .int .u8 0, .int .u8 0, .int .u8 0, .int .u8 0, .int .u8 0, .int .u8 0, .bool false, .int .i64 0] 33)) u rs ∧ Blk (w9.alloc (.cells #[.int .u8 0, .int .u8 0, .int .u8 0, .int .u8 0, .int .u8 0, .int .u8 0, .int .u8 0, .int .u8 0, .int .u8 0, .bool false, .int .i64 0] 33)) kb #[.int .u8 0, .int .u8 0, .int .u8 0, .int .u8 0, .int .u8 0, .int .u8 0, .int .u8 0, .int .u8 0, .int .u8 0, .bool false, .int .i64 0] 33 ∧ Blk (w9.alloc (.cells #[.int .u8 0, .int .u8 0, .int .u8 0, .int .u8 0, .int .u8 0, .int .u8 0, .int .u8 0, .int .u8 0, .int .u8 0, .bool false, .int .i64 0] 33)) w9.heap.size #[.int .u8 0, .int .u8 0, .int .u8 0, .int .u8 0, .int .u8 0, .int .u8 0, .int .u8 0, .int .u8 0, .int .u8 0, .bool false, .int .i64 0] 33) := ⟨(S8.out.1.trans (bA.mono S8.out.1.size)), (S8.out.2.1.below bA), (S8.out.2.2.below bA), (Blk.new w9 #[.int .u8 0, .int .u8 0, .int .u8 0, .int .u8 0, .int .u8 0, .int .u8 0, .int .u8 0, .int .u8 0, .int .u8 0, .bool false, .int .i64 0] 33)⟩
      clear bA S8 
      generalize (w9.alloc (.cells #[.int .u8 0, .int .u8 0, .int .u8 0, .int .u8 0, .int .u8 0, .int .u8 0, .int .u8 0, .int .u8 0, .int .u8 0, .bool false, .int .i64 0] 33)) = w10 at *
      generalize w9.heap.size = bb at *
      refine (rwhich_bad rs _ kind t st fld w10 (HV.out.2.below S9.out.1) (HV.out.1.below S9.out.1) HS.out hb).mono ?_
      rintro e w11 ⟨rfl, hbw11⟩
      have S10 : Hid (Below w.heap.size w w11 ∧ Lent w11 u rs ∧ Blk w11 kb #[.int .u8 0, .int .u8 0, .int .u8 0, .int .u8 0, .int .u8 0, .int .u8 0, .int .u8 0, .int .u8 0, .int .u8 0, .bool false, .int .i64 0] 33 ∧ Blk w11 bb #[.int .u8 0, .int .u8 0, .int .u8 0, .int .u8 0, .int .u8 0, .int .u8 0, .int .u8 0, .int .u8 0, .int .u8 0, .bool false, .int .i64 0] 33) := ⟨(S9.out.1.trans (hbw11.mono S9.out.1.size)), (S9.out.2.1.below hbw11), (S9.out.2.2.1.below hbw11), (S9.out.2.2.2.below hbw11)⟩
      clear hbw11 S9 
      go_wp2_with fail
      refine (numbers_nil w11).mono ?_
      rintro e w12 ⟨rfl, hbw12⟩
      have S11 : Hid (Below w.heap.size w w12 ∧ Lent w12 u rs ∧ Blk w12 kb #[.int .u8 0, .int .u8 0, .int .u8 0, .int .u8 0, .int .u8 0, .int .u8 0, .int .u8 0, .int .u8 0, .int .u8 0, .bool false, .int .i64 0] 33 ∧ Blk w12 bb #[.int .u8 0, .int .u8 0, .int .u8 0, .int .u8 0, .int .u8 0, .int .u8 0, .int .u8 0, .int .u8 0, .int .u8 0, .bool false, .int .i64 0] 33) := ⟨(S10.out.1.trans (hbw12.mono S10.out.1.size)), (S10.out.2.1.below hbw12), (S10.out.2.2.1.below hbw12), (S10.out.2.2.2.below hbw12)⟩
      clear hbw12 S10 
      go_wp2_with fail
      have hd1 : decide ((2000 : Int) < rs.length) = false := decide_eq_false (by omega)
      have hd2 : decide ((5000 : Int) < t.size) = false := decide_eq_false (by omega)
      try simp only [hd1, hd2]
      try generalize decide ((rs.length : Int) ≤ 256) = g256 at *
      go_loopw [28] (fun vi wr => wr = w12 ∧ vi = .int .i64 0) (fun _ _ => 0)
      case atStart => exact ⟨rfl, rfl⟩
      case round =>
        obtain ⟨rfl, rfl⟩ := hrel
        go_wp2_with fail
        refine (numbers_nil wr).mono ?_
        rintro e w13 ⟨rfl, hbw13⟩
        have S12 : Hid (Below w.heap.size w w13 ∧ Lent w13 u rs ∧ Blk w13 kb #[.int .u8 0, .int .u8 0, .int .u8 0, .int .u8 0, .int .u8 0, .int .u8 0, .int .u8 0, .int .u8 0, .int .u8 0, .bool false, .int .i64 0] 33 ∧ Blk w13 bb #[.int .u8 0, .int .u8 0, .int .u8 0, .int .u8 0, .int .u8 0, .int .u8 0, .int .u8 0, .int .u8 0, .int .u8 0, .bool false, .int .i64 0] 33) := ⟨(S11.out.1.trans (hbw13.mono S11.out.1.size)), (S11.out.2.1.below hbw13), (S11.out.2.2.1.below hbw13), (S11.out.2.2.2.below hbw13)⟩
        clear hbw13 S11 
        go_wp2_with fail
        refine (kept_any rs u _ w13 S12.out.2.1 (HV.out.1.below S12.out.1) (by omega)).mono ?_
        rintro e w14 ⟨rfl, hbw14⟩
        have S13 : Hid (Below w.heap.size w w14 ∧ Lent w14 u rs ∧ Blk w14 kb #[.int .u8 0, .int .u8 0, .int .u8 0, .int .u8 0, .int .u8 0, .int .u8 0, .int .u8 0, .int .u8 0, .int .u8 0, .bool false, .int .i64 0] 33 ∧ Blk w14 bb #[.int .u8 0, .int .u8 0, .int .u8 0, .int .u8 0, .int .u8 0, .int .u8 0, .int .u8 0, .int .u8 0, .int .u8 0, .bool false, .int .i64 0] 33) := ⟨(S12.out.1.trans (hbw14.mono S12.out.1.size)), (S12.out.2.1.below hbw14), (S12.out.2.2.1.below hbw14), (S12.out.2.2.2.below hbw14)⟩
        clear hbw14 S12 
        obtain ⟨k0, k1, k2, k3, k4, k5, k6, k7, k8, k9, k10⟩ := S13.out.2.2.1.at11
        obtain ⟨b0, b1, b2, b3, b4, b5, b6, b7, b8, b9, b10⟩ := S13.out.2.2.2.at11
        go_wp2_with fail
        clear k0 k1 k2 k3 k4 k5 k6 k7 k8 k9 k10 b0 b1 b2 b3 b4 b5 b6 b7 b8 b9 b10
        refine (check_rules rs u w14 (HV.out.2.below S13.out.1) S13.out.2.1.rules HS.out).mono ?_
        rintro e w20 ⟨rfl, hbw20⟩
        have S14 : Hid (Below w.heap.size w w20 ∧ Lent w20 u rs ∧ Blk w20 kb #[.int .u8 0, .int .u8 0, .int .u8 0, .int .u8 0, .int .u8 0, .int .u8 0, .int .u8 0, .int .u8 0, .int .u8 0, .bool false, .int .i64 0] 33 ∧ Blk w20 bb #[.int .u8 0, .int .u8 0, .int .u8 0, .int .u8 0, .int .u8 0, .int .u8 0, .int .u8 0, .int .u8 0, .int .u8 0, .bool false, .int .i64 0] 33) := ⟨(S13.out.1.trans (hbw20.mono S13.out.1.size)), (S13.out.2.1.below hbw20), (S13.out.2.2.1.below hbw20), (S13.out.2.2.2.below hbw20)⟩
        clear hbw20 S13 
        go_wp2_with fail
        refine (rcheck_rules rs _ w20 (HV.out.2.below S14.out.1) (HV.out.1.below S14.out.1) HS.out).mono ?_
        rintro e w21 ⟨rfl, hbw21⟩
        have S15 : Hid (Below w.heap.size w w21 ∧ Lent w21 u rs ∧ Blk w21 kb #[.int .u8 0, .int .u8 0, .int .u8 0, .int .u8 0, .int .u8 0, .int .u8 0, .int .u8 0, .int .u8 0, .int .u8 0, .bool false, .int .i64 0] 33 ∧ Blk w21 bb #[.int .u8 0, .int .u8 0, .int .u8 0, .int .u8 0, .int .u8 0, .int .u8 0, .int .u8 0, .int .u8 0, .int .u8 0, .bool false, .int .i64 0] 33) := ⟨(S14.out.1.trans (hbw21.mono S14.out.1.size)), (S14.out.2.1.below hbw21), (S14.out.2.2.1.below hbw21), (S14.out.2.2.2.below hbw21)⟩
        clear hbw21 S14 
        go_wp2
        go_ret
        exact ⟨rfl, S15.out.1⟩
    · have h1 : ¬ (60 : Int) < rs.length := by omega
      go_wp2_with fail
      refine (lent_any rs _ w1 (HV.out.1.below HL.out) (by omega) HN.out).mono ?_
      rintro e w2 ⟨u, rfl, hLt, hbw2⟩
      have S1 : Hid (Below w.heap.size w w2 ∧ Lent w2 u rs) := ⟨(HL.out.trans (hbw2.mono HL.out.size)), hLt⟩
      clear hbw2 HL hLt
      go_wp2_with fail
      refine (order_bad rs u w2 (HV.out.2.below S1.out.1) S1.out.2.rules HS.out hb).mono ?_
      rintro e w3 ⟨rfl, hbw3⟩
      have S2 : Hid (Below w.heap.size w w3 ∧ Lent w3 u rs) := ⟨(S1.out.1.trans (hbw3.mono S1.out.1.size)), (S1.out.2.below hbw3)⟩
      clear hbw3 S1 
      go_wp2_with fail
      refine (look_bad rs u kind t st w3 (HV.out.2.below S2.out.1) S2.out.2.rules HS.out hb).mono ?_
      rintro e w4 ⟨rfl, hbw4⟩
      have S3 : Hid (Below w.heap.size w w4 ∧ Lent w4 u rs) := ⟨(S2.out.1.trans (hbw4.mono S2.out.1.size)), (S2.out.2.below hbw4)⟩
      clear hbw4 S2 
      simp only [Lk.zero]
      go_wp2_with fail
      have bA : Below w4.heap.size w4 (w4.alloc (.cells #[.int .u8 0, .int .u8 0, .int .u8 0, .int .u8 0, .int .u8 0, .int .u8 0, .int .u8 0, .int .u8 0, .int .u8 0, .bool false, .int .i64 0] 33)) := (Below.refl _ _).alloc (Nat.le_refl _) _
      have S4 : Hid (Below w.heap.size w (w4.alloc (.cells #[.int .u8 0, .int .u8 0, .int .u8 0, .int .u8 0, .int .u8 0, .int .u8 0, .int .u8 0, .int .u8 0, .int .u8 0, .bool false, .int .i64 0] 33)) ∧ Lent (w4.alloc (.cells #[.int .u8 0, .int .u8 0, .int .u8 0, .int .u8 0, .int .u8 0, .int .u8 0, .int .u8 0, .int .u8 0, .int .u8 0, .bool false, .int .i64 0] 33)) u rs ∧ Blk (w4.alloc (.cells #[.int .u8 0, .int .u8 0, .int .u8 0, .int .u8 0, .int .u8 0, .int .u8 0, .int .u8 0, .int .u8 0, .int .u8 0, .bool false, .int .i64 0] 33)) w4.heap.size #[.int .u8 0, .int .u8 0, .int .u8 0, .int .u8 0, .int .u8 0, .int .u8 0, .int .u8 0, .int .u8 0, .int .u8 0, .bool false, .int .i64 0] 33) := ⟨(S3.out.1.trans (bA.mono S3.out.1.size)), (S3.out.2.below bA), (Blk.new w4 #[.int .u8 0, .int .u8 0, .int .u8 0, .int .u8 0, .int .u8 0, .int .u8 0, .int .u8 0, .int .u8 0, .int .u8 0, .bool false, .int .i64 0] 33)⟩
      clear bA S3 
      generalize (w4.alloc (.cells #[.int .u8 0, .int .u8 0, .int .u8 0, .int .u8 0, .int .u8 0, .int .u8 0, .int .u8 0, .int .u8 0, .int .u8 0, .bool false, .int .i64 0] 33)) = w5 at *
      generalize w4.heap.size = kb at *
      refine (which_bad rs u kind t st fld w5 (HV.out.2.below S4.out.1) S4.out.2.1.rules HS.out hb).mono ?_
      rintro e w6 ⟨rfl, hbw6⟩
      have S5 : Hid (Below w.heap.size w w6 ∧ Lent w6 u rs ∧ Blk w6 kb #[.int .u8 0, .int .u8 0, .int .u8 0, .int .u8 0, .int .u8 0, .int .u8 0, .int .u8 0, .int .u8 0, .int .u8 0, .bool false, .int .i64 0] 33) := ⟨(S4.out.1.trans (hbw6.mono S4.out.1.size)), (S4.out.2.1.below hbw6), (S4.out.2.2.below hbw6)⟩
      clear hbw6 S4 
      go_wp2_with fail
      refine (order_bad rs u w6 (HV.out.2.below S5.out.1) S5.out.2.1.rules HS.out hb).mono ?_
      rintro e w7 ⟨rfl, hbw7⟩
      have S6 : Hid (Below w.heap.size w w7 ∧ Lent w7 u rs ∧ Blk w7 kb #[.int .u8 0, .int .u8 0, .int .u8 0, .int .u8 0, .int .u8 0, .int .u8 0, .int .u8 0, .int .u8 0, .int .u8 0, .bool false, .int .i64 0] 33) := ⟨(S5.out.1.trans (hbw7.mono S5.out.1.size)), (S5.out.2.1.below hbw7), (S5.out.2.2.below hbw7)⟩
      clear hbw7 S5 
      go_wp2_with fail
      refine (rorder_bad rs _ w7 (HV.out.2.below S6.out.1) (HV.out.1.below S6.out.1) HS.out hb).mono ?_
      rintro e w8 ⟨rfl, hbw8⟩
      have S7 : Hid (Below w.heap.size w w8 ∧ Lent w8 u rs ∧ Blk w8 kb #[.int .u8 0, .int .u8 0, .int .u8 0, .int .u8 0, .int .u8 0, .int .u8 0, .int .u8 0, .int .u8 0, .int .u8 0, .bool false, .int .i64 0] 33) := ⟨(S6.out.1.trans (hbw8.mono S6.out.1.size)), (S6.out.2.1.below hbw8), (S6.out.2.2.below hbw8)⟩
      clear hbw8 S6 
      go_wp2_with fail
      refine (rlook_bad rs _ kind t st w8 (HV.out.2.below S7.out.1) (HV.out.1.below S7.out.1) HS.out hb).mono ?_
      rintro e w9 ⟨rfl, hbw9⟩
      have S8 : Hid (Below w.heap.size w w9 ∧ Lent w9 u rs ∧ Blk w9 kb #[.int .u8 0, .int .u8 0, .int .u8 0, .int .u8 0, .int .u8 0, .int .u8 0, .int .u8 0, .int .u8 0, .int .u8 0, .bool false, .int .i64 0] 33) := ⟨(S7.out.1.trans (hbw9.mono S7.out.1.size)), (S7.out.2.1.below hbw9), (S7.out.2.2.below hbw9)⟩
      clear hbw9 S7 
      simp only [Lk.zero]
      go_wp2_with fail
      have bA : Below w9.heap.size w9 (w9.alloc (.cells #[.int .u8 0, .int .u8 0, .int .u8 0, .int .u8 0, .int .u8 0, .int .u8 0, .int .u8 0, .int .u8 0, .int .u8 0, .bool false, .int .i64 0] 33)) := (Below.refl _ _).alloc (Nat.le_refl _) _
      have S9 : Hid (Below w.heap.size w (w9.alloc (.cells #[.int .u8 0, .int .u8 0, .int .u8 0, .int .u8 0, .int .u8 0, .int .u8 0, .int .u8 0, .int .u8 0, .int .u8 0, .bool false, .int .i64 0] 33)) ∧ Lent (w9.alloc (.cells #[.int .u8 0, .int .u8 0, .int .u8 0, .int .u8 0, .int .u8 0, .int .u8 0, .int .u8 0, .int .u8 0, .int .u8 0, .bool false, .int .i64 0] 33)) u rs ∧ Blk (w9.alloc (.cells #[.int .u8 0, .int .u8 0, .int .u8 0, .int .u8 0, .int .u8 0, .int .u8 0, .int .u8 0, .int .u8 0, .int .u8 0, .bool false, .int .i64 0] 33)) kb #[.int .u8 0, .int .u8 0, .int .u8 0, .int .u8 0, .int .u8 0, .int .u8 0, .int .u8 0, .int .u8 0, .int .u8 0, .bool false, .int .i64 0] 33 ∧ Blk (w9.alloc (.cells #[.int .u8 0, .int .u8 0, .int .u8 0, .int .u8 0, .int .u8 0, .int .u8 0, .int .u8 0, .int .u8 0, .int .u8 0, .bool false, .int .i64 0] 33)) w9.heap.size #[.int .u8 0, .int .u8 0, .int .u8 0, .int .u8 0, .int .u8 0, .int .u8 0, .int .u8 0, .int .u8 0, .int .u8 0, .bool false, .int .i64 0] 33) := ⟨(S8.out.1.trans (bA.mono S8.out.1.size)), (S8.out.2.1.below bA), (S8.out.2.2.below bA), (Blk.new w9 #[.int .u8 0, .int .u8 0, .int .u8 0, .int .u8 0, .int .u8 0, .int .u8 0, .int .u8 0, .int .u8 0, .int .u8 0, .bool false, .int .i64 0] 33)⟩
      clear bA S8 
      generalize (w9.alloc (.cells #[.int .u8 0, .int .u8 0, .int .u8 0, .int .u8 0, .int .u8 0, .int .u8 0, .int .u8 0, .int .u8 0, .int .u8 0, .bool false, .int .i64 0] 33)) = w10 at *
      generalize w9.heap.size = bb at *
      refine (rwhich_bad rs _ kind t st fld w10 (HV.out.2.below S9.out.1) (HV.out.1.below S9.out.1) HS.out hb).mono ?_
      rintro e w11 ⟨rfl, hbw11⟩
      have S10 : Hid (Below w.heap.size w w11 ∧ Lent w11 u rs ∧ Blk w11 kb #[.int .u8 0, .int .u8 0, .int .u8 0, .int .u8 0, .int .u8 0, .int .u8 0, .int .u8 0, .int .u8 0, .int .u8 0, .bool false, .int .i64 0] 33 ∧ Blk w11 bb #[.int .u8 0, .int .u8 0, .int .u8 0, .int .u8 0, .int .u8 0, .int .u8 0, .int .u8 0, .int .u8 0, .int .u8 0, .bool false, .int .i64 0] 33) := ⟨(S9.out.1.trans (hbw11.mono S9.out.1.size)), (S9.out.2.1.below hbw11), (S9.out.2.2.1.below hbw11), (S9.out.2.2.2.below hbw11)⟩
      clear hbw11 S9 
      go_wp2_with fail
      refine (numbers_nil w11).mono ?_
      rintro e w12 ⟨rfl, hbw12⟩
      have S11 : Hid (Below w.heap.size w w12 ∧ Lent w12 u rs ∧ Blk w12 kb #[.int .u8 0, .int .u8 0, .int .u8 0, .int .u8 0, .int .u8 0, .int .u8 0, .int .u8 0, .int .u8 0, .int .u8 0, .bool false, .int .i64 0] 33 ∧ Blk w12 bb #[.int .u8 0, .int .u8 0, .int .u8 0, .int .u8 0, .int .u8 0, .int .u8 0, .int .u8 0, .int .u8 0, .int .u8 0, .bool false, .int .i64 0] 33) := ⟨(S10.out.1.trans (hbw12.mono S10.out.1.size)), (S10.out.2.1.below hbw12), (S10.out.2.2.1.below hbw12), (S10.out.2.2.2.below hbw12)⟩
      clear hbw12 S10 
      go_wp2_with fail
      have hd1 : decide ((2000 : Int) < rs.length) = false := decide_eq_false (by omega)
      have hd2 : decide ((5000 : Int) < t.size) = false := decide_eq_false (by omega)
      try simp only [hd1, hd2]
      try generalize decide ((rs.length : Int) ≤ 256) = g256 at *
      go_loopw [28] (fun vi wr => wr = w12 ∧ vi = .int .i64 0) (fun _ _ => 0)
      case atStart => exact ⟨rfl, rfl⟩
      case round =>
        obtain ⟨rfl, rfl⟩ := hrel
        go_wp2_with fail
        refine (numbers_nil wr).mono ?_
        rintro e w13 ⟨rfl, hbw13⟩
        have S12 : Hid (Below w.heap.size w w13 ∧ Lent w13 u rs ∧ Blk w13 kb #[.int .u8 0, .int .u8 0, .int .u8 0, .int .u8 0, .int .u8 0, .int .u8 0, .int .u8 0, .int .u8 0, .int .u8 0, .bool false, .int .i64 0] 33 ∧ Blk w13 bb #[.int .u8 0, .int .u8 0, .int .u8 0, .int .u8 0, .int .u8 0, .int .u8 0, .int .u8 0, .int .u8 0, .int .u8 0, .bool false, .int .i64 0] 33) := ⟨(S11.out.1.trans (hbw13.mono S11.out.1.size)), (S11.out.2.1.below hbw13), (S11.out.2.2.1.below hbw13), (S11.out.2.2.2.below hbw13)⟩
        clear hbw13 S11 
        go_wp2_with fail
        refine (kept_any rs u _ w13 S12.out.2.1 (HV.out.1.below S12.out.1) (by omega)).mono ?_
        rintro e w14 ⟨rfl, hbw14⟩
        have S13 : Hid (Below w.heap.size w w14 ∧ Lent w14 u rs ∧ Blk w14 kb #[.int .u8 0, .int .u8 0, .int .u8 0, .int .u8 0, .int .u8 0, .int .u8 0, .int .u8 0, .int .u8 0, .int .u8 0, .bool false, .int .i64 0] 33 ∧ Blk w14 bb #[.int .u8 0, .int .u8 0, .int .u8 0, .int .u8 0, .int .u8 0, .int .u8 0, .int .u8 0, .int .u8 0, .int .u8 0, .bool false, .int .i64 0] 33) := ⟨(S12.out.1.trans (hbw14.mono S12.out.1.size)), (S12.out.2.1.below hbw14), (S12.out.2.2.1.below hbw14), (S12.out.2.2.2.below hbw14)⟩
        clear hbw14 S12 
        obtain ⟨k0, k1, k2, k3, k4, k5, k6, k7, k8, k9, k10⟩ := S13.out.2.2.1.at11
        obtain ⟨b0, b1, b2, b3, b4, b5, b6, b7, b8, b9, b10⟩ := S13.out.2.2.2.at11
        go_wp2_with fail
        clear k0 k1 k2 k3 k4 k5 k6 k7 k8 k9 k10 b0 b1 b2 b3 b4 b5 b6 b7 b8 b9 b10
        refine (check_rules rs u w14 (HV.out.2.below S13.out.1) S13.out.2.1.rules HS.out).mono ?_
        rintro e w20 ⟨rfl, hbw20⟩
        have S14 : Hid (Below w.heap.size w w20 ∧ Lent w20 u rs ∧ Blk w20 kb #[.int .u8 0, .int .u8 0, .int .u8 0, .int .u8 0, .int .u8 0, .int .u8 0, .int .u8 0, .int .u8 0, .int .u8 0, .bool false, .int .i64 0] 33 ∧ Blk w20 bb #[.int .u8 0, .int .u8 0, .int .u8 0, .int .u8 0, .int .u8 0, .int .u8 0, .int .u8 0, .int .u8 0, .int .u8 0, .bool false, .int .i64 0] 33) := ⟨(S13.out.1.trans (hbw20.mono S13.out.1.size)), (S13.out.2.1.below hbw20), (S13.out.2.2.1.below hbw20), (S13.out.2.2.2.below hbw20)⟩
        clear hbw20 S13 
        go_wp2_with fail
        refine (rcheck_rules rs _ w20 (HV.out.2.below S14.out.1) (HV.out.1.below S14.out.1) HS.out).mono ?_
        rintro e w21 ⟨rfl, hbw21⟩
        have S15 : Hid (Below w.heap.size w w21 ∧ Lent w21 u rs ∧ Blk w21 kb #[.int .u8 0, .int .u8 0, .int .u8 0, .int .u8 0, .int .u8 0, .int .u8 0, .int .u8 0, .int .u8 0, .int .u8 0, .bool false, .int .i64 0] 33 ∧ Blk w21 bb #[.int .u8 0, .int .u8 0, .int .u8 0, .int .u8 0, .int .u8 0, .int .u8 0, .int .u8 0, .int .u8 0, .int .u8 0, .bool false, .int .i64 0] 33) := ⟨(S14.out.1.trans (hbw21.mono S14.out.1.size)), (S14.out.2.1.below hbw21), (S14.out.2.2.1.below hbw21), (S14.out.2.2.2.below hbw21)⟩
        clear hbw21 S14 
        go_wp2
        go_ret
        exact ⟨rfl, S15.out.1⟩

end Go.Proofs.YtobmpjmpffnoiaaDoor
