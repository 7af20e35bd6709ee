/-
  The document's answer: Look.
-/
import Derived.Test.YtobmpjmpffnoiaaDoorSQ8
namespace Go.Proofs.YtobmpjmpffnoiaaDoor
open Go.RowKit Go.Shelf

theorem row_other {W : World} {B o n : Nat} {f : Nat → Nat} (h : Row W B o n f) (p : Addr) (v : Value) (hp : p.block ≠ B) : Row (W.setCell p v) B o n f :=
  ⟨by simpa [World.setCell] using h.lt, fun i hi => by
    rw [World.cell?_setCell_other _ _ _ _ (by intro he; exact hp (by rw [he]))]
    exact h.at' i hi, fun j => by rw [World.frozen?_setCell]; exact h.fr j⟩
theorem row_alloc {W : World} {B o n : Nat} {f : Nat → Nat} (h : Row W B o n f) (c : Obj) : Row (W.alloc c) B o n f := h.below ((Below.refl _ W).alloc (Nat.le_refl _) _)

set_option maxRecDepth 20000 in
set_option maxHeartbeats 16000000 in
theorem rlook_ok (rs : List Rl) (v : Value) (kind : Nat) (t : ByteArray) (st : Nat) (w : World) (hT : Tab w) (hv : Rules w v rs) (hs : ∀ r ∈ rs, r.cls.size ≤ 9223372036854775807 ∧ r.wf) (hl : rs.length < 1000) (hb : chkR rs = 0) (ht : t.size < 1000000000) (hst : st < 256) (f : Nat → Nat) (hM : Mrg (str rs) id f 0 rs.length) (l : List Nat) (hH : Held rs kind t st l) :
    Calls Tryd.prog 19 #[v, .int .u8 (kind : Nat), .string t, .int .u8 (st : Nat)] w fun e w' => e = .returned (.tuple #[(Value.agg #[.int .u8 ((ly (lks rs (bwd l l.length))).has : Nat), .int .u8 (ly (lks rs (bwd l l.length))).r, .int .u8 (ly (lks rs (bwd l l.length))).g, .int .u8 (ly (lks rs (bwd l l.length))).b, .int .u8 (ly (lks rs (bwd l l.length))).a, .int .u8 (ly (lks rs (bwd l l.length))).r2, .int .u8 (ly (lks rs (bwd l l.length))).g2, .int .u8 (ly (lks rs (bwd l l.length))).b2, .int .u8 (ly (lks rs (bwd l l.length))).a2, .bool (ly (lks rs (bwd l l.length))).bd, .int .i64 (ly (lks rs (bwd l l.length))).pad]), .int .i64 0]) ∧ Below w.heap.size w w' := by
  have HO : Hid (∀ W, Below w.heap.size w W → Calls Tryd.prog 18 #[v] W fun e w' => ∃ B : Nat, e = .returned (.tuple #[.slice (some ⟨B, 0, none⟩) rs.length rs.length, .int .i64 0]) ∧ W.heap.size ≤ B ∧ Row w' B 0 rs.length f ∧ Below W.heap.size W w') := fun W hW => rorder_any rs v W (hT.below hW) (hv.below hW) hs hl hb (chk_15 hb) f hM
  have HI : Hid (∀ fld B W, Below w.heap.size w W → Row W B 0 rs.length f → Calls Tryd.prog 41 #[v, .slice (some ⟨B, 0, none⟩) rs.length rs.length, .int .u8 (kind : Nat), .string t, .int .u8 (st : Nat), .int .u8 ((fld : Nat) : Int)] W fun e w' => e = .returned (.int .i64 (whN rs fld (bwd l l.length))) ∧ Below W.heap.size W w') := fun fld B W hW hR => by
    rw [← last_plain hM hH]
    exact rwhich_inner rs v B f kind t st fld W (hv.below hW) hR (fun i hi => order_lt hM hi) ht (chk_15 hb) hst hl
  obtain ⟨oa, cap, rfl, hc, hg⟩ := id hv
  obtain ⟨g, o, HG⟩ : ∃ g o, Hid (0 < rs.length → oa = some ⟨g, o, none⟩ ∧ g < w.heap.size ∧ ∀ W, Below w.heap.size w W → ∀ i (h : i < rs.length), RlAt W g (o + i * 14) rs[i]) := by
    by_cases h0 : 0 < rs.length
    · obtain ⟨g, o, h1, h2, h3⟩ := hg h0
      exact ⟨g, o, fun _ => ⟨h1, h2, fun W hW i hi => (h3 i hi).kept fun j => hW.cell (p := ⟨g, j, none⟩) h2⟩⟩
    · exact ⟨0, 0, fun h => absurd h h0⟩
  have HT : ∀ fld i, Bit fld i → Hid ((whN rs fld (bwd l l.length) = -1 ∧ pick (lks rs (bwd l l.length)) i = none) ∨ ∃ (n : Nat) (X : Rl), oa = some ⟨g, o, none⟩ ∧ g < w.heap.size ∧ n < rs.length ∧ whN rs fld (bwd l l.length) = (n : Int) ∧ pick (lks rs (bwd l l.length)) i = some X.look ∧ ∀ W, Below w.heap.size w W → RlAt W g (o + n * 14) X) := fun fld i hB => by
    rcases told_plain hH (fun r hr => (hs r hr).2.2.2) hB with h | ⟨n, hn, _, _, h1, _, h2⟩
    · exact .inl h
    · obtain ⟨e1, e2, e3⟩ := HG.out (by omega)
      exact .inr ⟨n, rs[n], e1, e2, hn, h1, h2, fun W hW => e3 W hW n hn⟩
  have T1 := HT 1 0 (.inl ⟨rfl, rfl⟩)
  have T2 := HT 2 1 (.inr (.inl ⟨rfl, rfl⟩))
  have T4 := HT 4 2 (.inr (.inr (.inl ⟨rfl, rfl⟩)))
  have T8 := HT 8 3 (.inr (.inr (.inr ⟨rfl, rfl⟩)))
  have I1 : Hid (∀ B W, Below w.heap.size w W → Row W B 0 rs.length f → Calls Tryd.prog 41 #[.slice oa rs.length cap, .slice (some ⟨B, 0, none⟩) rs.length rs.length, .int .u8 (kind : Nat), .string t, .int .u8 (st : Nat), .int .u8 1] W fun e w' => e = .returned (.int .i64 (whN rs 1 (bwd l l.length))) ∧ Below W.heap.size W w') := HI.out 1
  have I2 : Hid (∀ B W, Below w.heap.size w W → Row W B 0 rs.length f → Calls Tryd.prog 41 #[.slice oa rs.length cap, .slice (some ⟨B, 0, none⟩) rs.length rs.length, .int .u8 (kind : Nat), .string t, .int .u8 (st : Nat), .int .u8 2] W fun e w' => e = .returned (.int .i64 (whN rs 2 (bwd l l.length))) ∧ Below W.heap.size W w') := HI.out 2
  have I4 : Hid (∀ B W, Below w.heap.size w W → Row W B 0 rs.length f → Calls Tryd.prog 41 #[.slice oa rs.length cap, .slice (some ⟨B, 0, none⟩) rs.length rs.length, .int .u8 (kind : Nat), .string t, .int .u8 (st : Nat), .int .u8 4] W fun e w' => e = .returned (.int .i64 (whN rs 4 (bwd l l.length))) ∧ Below W.heap.size W w') := HI.out 4
  have I8 : Hid (∀ B W, Below w.heap.size w W → Row W B 0 rs.length f → Calls Tryd.prog 41 #[.slice oa rs.length cap, .slice (some ⟨B, 0, none⟩) rs.length rs.length, .int .u8 (kind : Nat), .string t, .int .u8 (st : Nat), .int .u8 8] W fun e w' => e = .returned (.int .i64 (whN rs 8 (bwd l l.length))) ∧ Below W.heap.size W w') := HI.out 8
  have HY : Hid (ly (lks rs (bwd l l.length)) = { has := h4 (pick (lks rs (bwd l l.length)) 0).isSome (pick (lks rs (bwd l l.length)) 1).isSome (pick (lks rs (bwd l l.length)) 2).isSome (pick (lks rs (bwd l l.length)) 3).isSome, r := pk (lks rs (bwd l l.length)) 0 (·.r) 0, g := pk (lks rs (bwd l l.length)) 0 (·.g) 0, b := pk (lks rs (bwd l l.length)) 0 (·.b) 0, a := pk (lks rs (bwd l l.length)) 0 (·.a) 0, r2 := pk (lks rs (bwd l l.length)) 1 (·.r2) 0, g2 := pk (lks rs (bwd l l.length)) 1 (·.g2) 0, b2 := pk (lks rs (bwd l l.length)) 1 (·.b2) 0, a2 := pk (lks rs (bwd l l.length)) 1 (·.a2) 0, bd := pk (lks rs (bwd l l.length)) 2 (·.bd) false, pad := pk (lks rs (bwd l l.length)) 3 (·.pad) 0 }) := rfl
  unfold pk at HY
  clear HI HT HG hT hv hs hb hM hH hg
  generalize whN rs 1 (bwd l l.length) = q1 at *
  generalize whN rs 2 (bwd l l.length) = q2 at *
  generalize whN rs 4 (bwd l l.length) = q4 at *
  generalize whN rs 8 (bwd l l.length) = q8 at *
  generalize ly (lks rs (bwd l l.length)) = y at *
  generalize pick (lks rs (bwd l l.length)) 0 = p1 at *
  generalize pick (lks rs (bwd l l.length)) 1 = p2 at *
  generalize pick (lks rs (bwd l l.length)) 2 = p4 at *
  generalize pick (lks rs (bwd l l.length)) 3 = p8 at *
  go_enter Tryd.func19, Tryd.ntmps19
  go_wp2_with fail
  have KR := Blk.new w (#[.int .u8 (Lk.zero.has : Nat), .int .u8 Lk.zero.r, .int .u8 Lk.zero.g, .int .u8 Lk.zero.b, .int .u8 Lk.zero.a, .int .u8 Lk.zero.r2, .int .u8 Lk.zero.g2, .int .u8 Lk.zero.b2, .int .u8 Lk.zero.a2, .bool Lk.zero.bd, .int .i64 Lk.zero.pad]) 33
  have L0 : Below w.heap.size w (w.alloc (.cells (#[.int .u8 (Lk.zero.has : Nat), .int .u8 Lk.zero.r, .int .u8 Lk.zero.g, .int .u8 Lk.zero.b, .int .u8 Lk.zero.a, .int .u8 Lk.zero.r2, .int .u8 Lk.zero.g2, .int .u8 Lk.zero.b2, .int .u8 Lk.zero.a2, .bool Lk.zero.bd, .int .i64 Lk.zero.pad]) 33)) := (Below.refl _ w).alloc (Nat.le_refl _) _
  simp only [Lk.zero, Int.natCast_zero] at KR L0
  generalize w.alloc (.cells #[.int .u8 0, .int .u8 0, .int .u8 0, .int .u8 0, .int .u8 0, .int .u8 0, .int .u8 0, .int .u8 0, .int .u8 0, .bool false, .int .i64 0] 33) = w0 at *
  refine (HO.out w0 L0).mono ?_
  rintro e w1 ⟨B, rfl, hB, hR, hb1⟩
  have H1 : Hid (Blk w1 w.heap.size #[.int .u8 0, .int .u8 0, .int .u8 0, .int .u8 0, .int .u8 0, .int .u8 0, .int .u8 0, .int .u8 0, .int .u8 0, .bool false, .int .i64 0] 33 ∧ Row w1 B 0 rs.length f ∧ Below w.heap.size w w1) := ⟨KR.below hb1, hR, L0.trans (hb1.mono L0.size)⟩
  clear KR L0 hB hR hb1 HO
  go_wp2_with fail
  have KO := Blk.new w1 #[.int .u8 0, .int .u8 0, .int .u8 0, .int .u8 0, .int .u8 0, .int .u8 0, .int .u8 0, .int .u8 0, .int .u8 0, .bool false, .int .i64 0] 33
  have KR := H1.out.1.alloc (.cells #[.int .u8 0, .int .u8 0, .int .u8 0, .int .u8 0, .int .u8 0, .int .u8 0, .int .u8 0, .int .u8 0, .int .u8 0, .bool false, .int .i64 0] 33)
  have RW := row_alloc H1.out.2.1 (.cells #[.int .u8 0, .int .u8 0, .int .u8 0, .int .u8 0, .int .u8 0, .int .u8 0, .int .u8 0, .int .u8 0, .int .u8 0, .bool false, .int .i64 0] 33)
  have L1 : Below w.heap.size w (w1.alloc (.cells #[.int .u8 0, .int .u8 0, .int .u8 0, .int .u8 0, .int .u8 0, .int .u8 0, .int .u8 0, .int .u8 0, .int .u8 0, .bool false, .int .i64 0] 33)) := H1.out.2.2.alloc H1.out.2.2.size _
  have hOR : w1.heap.size ≠ w.heap.size := by have := H1.out.1.lt; omega
  have hOB : w1.heap.size ≠ B := by have := H1.out.2.1.lt; omega
  have hO : w.heap.size ≤ w1.heap.size := H1.out.2.2.size
  generalize w1.alloc (.cells #[.int .u8 0, .int .u8 0, .int .u8 0, .int .u8 0, .int .u8 0, .int .u8 0, .int .u8 0, .int .u8 0, .int .u8 0, .bool false, .int .i64 0] 33) = W0 at *
  generalize w1.heap.size = O at *
  have H0 : Hid (Blk W0 w.heap.size #[.int .u8 0, .int .u8 0, .int .u8 0, .int .u8 0, .int .u8 0, .int .u8 0, .int .u8 0, .int .u8 0, .int .u8 0, .bool false, .int .i64 0] 33 ∧ Blk W0 O #[.int .u8 0, .int .u8 0, .int .u8 0, .int .u8 0, .int .u8 0, .int .u8 0, .int .u8 0, .int .u8 0, .int .u8 0, .bool false, .int .i64 0] 33 ∧ Row W0 B 0 rs.length f ∧ Below w.heap.size w W0) := ⟨KR, KO, RW, L1⟩
  clear KO KR RW L1 H1
  refine (I1.out B W0 H0.out.2.2.2 H0.out.2.2.1).mono ?_
  rintro e Wa0 ⟨rfl, h⟩
  have Ha0 : Hid (Blk Wa0 w.heap.size #[.int .u8 0, .int .u8 0, .int .u8 0, .int .u8 0, .int .u8 0, .int .u8 0, .int .u8 0, .int .u8 0, .int .u8 0, .bool false, .int .i64 0] 33 ∧ Blk Wa0 O #[.int .u8 0, .int .u8 0, .int .u8 0, .int .u8 0, .int .u8 0, .int .u8 0, .int .u8 0, .int .u8 0, .int .u8 0, .bool false, .int .i64 0] 33 ∧ Row Wa0 B 0 rs.length f ∧ Below w.heap.size w Wa0) := ⟨H0.out.1.below h, H0.out.2.1.below h, H0.out.2.2.1.below h, H0.out.2.2.2.trans (h.mono H0.out.2.2.2.size)⟩
  clear h H0
  rcases T1.out with ⟨e1, e2⟩ | ⟨n, X1, hoa, hg, hn, e1, e2, hat⟩
  · subst e1 e2
    obtain ⟨c0, c1, c2, c3, c4, c5, c6, c7, c8, c9, c10⟩ := Ha0.out.2.1.at11
    go_wp2_with fail
    clear c0 c1 c2 c3 c4 c5 c6 c7 c8 c9 c10
    refine (I2.out B Wa0 Ha0.out.2.2.2 Ha0.out.2.2.1).mono ?_
    rintro e Wan1 ⟨rfl, h⟩
    have Han1 : Hid (Blk Wan1 w.heap.size #[.int .u8 0, .int .u8 0, .int .u8 0, .int .u8 0, .int .u8 0, .int .u8 0, .int .u8 0, .int .u8 0, .int .u8 0, .bool false, .int .i64 0] 33 ∧ Blk Wan1 O #[.int .u8 0, .int .u8 0, .int .u8 0, .int .u8 0, .int .u8 0, .int .u8 0, .int .u8 0, .int .u8 0, .int .u8 0, .bool false, .int .i64 0] 33 ∧ Row Wan1 B 0 rs.length f ∧ Below w.heap.size w Wan1) := ⟨Ha0.out.1.below h, Ha0.out.2.1.below h, Ha0.out.2.2.1.below h, Ha0.out.2.2.2.trans (h.mono Ha0.out.2.2.2.size)⟩
    clear h Ha0
    rcases T2.out with ⟨e1, e2⟩ | ⟨n, X2, hoa, hg, hn, e1, e2, hat⟩
    · subst e1 e2
      obtain ⟨c0, c1, c2, c3, c4, c5, c6, c7, c8, c9, c10⟩ := Han1.out.2.1.at11
      go_wp2_with fail
      clear c0 c1 c2 c3 c4 c5 c6 c7 c8 c9 c10
      refine (I4.out B Wan1 Han1.out.2.2.2 Han1.out.2.2.1).mono ?_
      rintro e Wann2 ⟨rfl, h⟩
      have Hann2 : Hid (Blk Wann2 w.heap.size #[.int .u8 0, .int .u8 0, .int .u8 0, .int .u8 0, .int .u8 0, .int .u8 0, .int .u8 0, .int .u8 0, .int .u8 0, .bool false, .int .i64 0] 33 ∧ Blk Wann2 O #[.int .u8 0, .int .u8 0, .int .u8 0, .int .u8 0, .int .u8 0, .int .u8 0, .int .u8 0, .int .u8 0, .int .u8 0, .bool false, .int .i64 0] 33 ∧ Row Wann2 B 0 rs.length f ∧ Below w.heap.size w Wann2) := ⟨Han1.out.1.below h, Han1.out.2.1.below h, Han1.out.2.2.1.below h, Han1.out.2.2.2.trans (h.mono Han1.out.2.2.2.size)⟩
      clear h Han1
      rcases T4.out with ⟨e1, e2⟩ | ⟨n, X4, hoa, hg, hn, e1, e2, hat⟩
      · subst e1 e2
        obtain ⟨c0, c1, c2, c3, c4, c5, c6, c7, c8, c9, c10⟩ := Hann2.out.2.1.at11
        go_wp2_with fail
        clear c0 c1 c2 c3 c4 c5 c6 c7 c8 c9 c10
        refine (I8.out B Wann2 Hann2.out.2.2.2 Hann2.out.2.2.1).mono ?_
        rintro e Wannn3 ⟨rfl, h⟩
        have Hannn3 : Hid (Blk Wannn3 w.heap.size #[.int .u8 0, .int .u8 0, .int .u8 0, .int .u8 0, .int .u8 0, .int .u8 0, .int .u8 0, .int .u8 0, .int .u8 0, .bool false, .int .i64 0] 33 ∧ Blk Wannn3 O #[.int .u8 0, .int .u8 0, .int .u8 0, .int .u8 0, .int .u8 0, .int .u8 0, .int .u8 0, .int .u8 0, .int .u8 0, .bool false, .int .i64 0] 33 ∧ Row Wannn3 B 0 rs.length f ∧ Below w.heap.size w Wannn3) := ⟨Hann2.out.1.below h, Hann2.out.2.1.below h, Hann2.out.2.2.1.below h, Hann2.out.2.2.2.trans (h.mono Hann2.out.2.2.2.size)⟩
        clear h Hann2
        rcases T8.out with ⟨e1, e2⟩ | ⟨n, X8, hoa, hg, hn, e1, e2, hat⟩
        · subst e1 e2
          obtain ⟨c0, c1, c2, c3, c4, c5, c6, c7, c8, c9, c10⟩ := Hannn3.out.2.1.at11
          obtain ⟨d0, d1, d2, d3, d4, d5, d6, d7, d8, d9, d10⟩ := Hannn3.out.1.at11
          have fR := fun j => Hannn3.out.1.frozen j
          go_wp2
          exact bodyPost_ret (v := .tuple #[.agg #[.int .u8 0, .int .u8 0, .int .u8 0, .int .u8 0, .int .u8 0, .int .u8 0, .int .u8 0, .int .u8 0, .int .u8 0, .bool false, .int .i64 0], .int .i64 0]) (by simp [results, Tryd.results19, go_sem, *]) rfl ⟨by rw [HY.out]; rfl, (set11_below Hannn3.out.2.2.2 (Nat.le_refl _) _ _ _ _ _ _ _ _ _ _ _)⟩
        · subst e1 e2
          cases hoa
          obtain ⟨x0, x1, x2, x3, x4, x5, x6, x7, x8, x9, x10, x11, x12, x13⟩ := hat Wannn3 Hannn3.out.2.2.2
          obtain ⟨c0, c1, c2, c3, c4, c5, c6, c7, c8, c9, c10⟩ := Hannn3.out.2.1.at11
          have fO := fun j => Hannn3.out.2.1.frozen j
          have gO : g ≠ O := by omega
          have in1 : (n : Int) < (rs.length : Int) := by omega
          have ob : bits .or .u8 0 8 = 8 := by decide
          obtain ⟨d0, d1, d2, d3, d4, d5, d6, d7, d8, d9, d10⟩ := Hannn3.out.1.at11
          have fR := fun j => Hannn3.out.1.frozen j
          go_wp2
          exact bodyPost_ret (v := .tuple #[.agg #[.int .u8 8, .int .u8 0, .int .u8 0, .int .u8 0, .int .u8 0, .int .u8 0, .int .u8 0, .int .u8 0, .int .u8 0, .bool false, .int .i64 X8.look.pad], .int .i64 0]) (by simp [results, Tryd.results19, go_sem, *]) rfl ⟨by rw [HY.out]; rfl, (set11_below ((Hannn3.out.2.2.2.setCell (p := ⟨O, 0, none⟩) hO _).setCell (p := ⟨O, 10, none⟩) hO _) (Nat.le_refl _) _ _ _ _ _ _ _ _ _ _ _)⟩
      · subst e1 e2
        cases hoa
        obtain ⟨x0, x1, x2, x3, x4, x5, x6, x7, x8, x9, x10, x11, x12, x13⟩ := hat Wann2 Hann2.out.2.2.2
        obtain ⟨c0, c1, c2, c3, c4, c5, c6, c7, c8, c9, c10⟩ := Hann2.out.2.1.at11
        have fO := fun j => Hann2.out.2.1.frozen j
        have gO : g ≠ O := by omega
        have in1 : (n : Int) < (rs.length : Int) := by omega
        have ob : bits .or .u8 0 4 = 4 := by decide
        go_wp2_with fail
        have zP := ((Hann2.out.2.1.put 0 (.int .u8 4)).put 9 (.bool X4.look.bd))
        have zR := ((Hann2.out.1.other ⟨O, 0, none⟩ (.int .u8 4) hOR).other ⟨O, 9, none⟩ (.bool X4.look.bd) hOR)
        have zW := (row_other (row_other Hann2.out.2.2.1 ⟨O, 0, none⟩ (.int .u8 4) hOB) ⟨O, 9, none⟩ (.bool X4.look.bd) hOB)
        have zL := ((Hann2.out.2.2.2.setCell (p := ⟨O, 0, none⟩) hO (.int .u8 4)).setCell (p := ⟨O, 9, none⟩) hO (.bool X4.look.bd))
        generalize hZ : ((Wann2.setCell ⟨O, 0, none⟩ (.int .u8 4)).setCell ⟨O, 9, none⟩ (.bool X4.look.bd)) = Znn2 at *
        have Gnn2 : Hid (Blk Znn2 w.heap.size #[.int .u8 0, .int .u8 0, .int .u8 0, .int .u8 0, .int .u8 0, .int .u8 0, .int .u8 0, .int .u8 0, .int .u8 0, .bool false, .int .i64 0] 33 ∧ Blk Znn2 O #[.int .u8 4, .int .u8 0, .int .u8 0, .int .u8 0, .int .u8 0, .int .u8 0, .int .u8 0, .int .u8 0, .int .u8 0, .bool X4.look.bd, .int .i64 0] 33 ∧ Row Znn2 B 0 rs.length f ∧ Below w.heap.size w Znn2) := ⟨zR, zP, zW, zL⟩
        clear hZ zP zR zW zL x0 x1 x2 x3 x4 x5 x6 x7 x8 x9 x10 x11 x12 x13 c0 c1 c2 c3 c4 c5 c6 c7 c8 c9 c10 fO ob hat Hann2
        refine (I8.out B Znn2 Gnn2.out.2.2.2 Gnn2.out.2.2.1).mono ?_
        rintro e Wanns3 ⟨rfl, h⟩
        have Hanns3 : Hid (Blk Wanns3 w.heap.size #[.int .u8 0, .int .u8 0, .int .u8 0, .int .u8 0, .int .u8 0, .int .u8 0, .int .u8 0, .int .u8 0, .int .u8 0, .bool false, .int .i64 0] 33 ∧ Blk Wanns3 O #[.int .u8 4, .int .u8 0, .int .u8 0, .int .u8 0, .int .u8 0, .int .u8 0, .int .u8 0, .int .u8 0, .int .u8 0, .bool X4.look.bd, .int .i64 0] 33 ∧ Row Wanns3 B 0 rs.length f ∧ Below w.heap.size w Wanns3) := ⟨Gnn2.out.1.below h, Gnn2.out.2.1.below h, Gnn2.out.2.2.1.below h, Gnn2.out.2.2.2.trans (h.mono Gnn2.out.2.2.2.size)⟩
        clear h Gnn2
        rcases T8.out with ⟨e1, e2⟩ | ⟨n, X8, hoa, hg, hn, e1, e2, hat⟩
        · subst e1 e2
          obtain ⟨c0, c1, c2, c3, c4, c5, c6, c7, c8, c9, c10⟩ := Hanns3.out.2.1.at11
          obtain ⟨d0, d1, d2, d3, d4, d5, d6, d7, d8, d9, d10⟩ := Hanns3.out.1.at11
          have fR := fun j => Hanns3.out.1.frozen j
          go_wp2
          exact bodyPost_ret (v := .tuple #[.agg #[.int .u8 4, .int .u8 0, .int .u8 0, .int .u8 0, .int .u8 0, .int .u8 0, .int .u8 0, .int .u8 0, .int .u8 0, .bool X4.look.bd, .int .i64 0], .int .i64 0]) (by simp [results, Tryd.results19, go_sem, *]) rfl ⟨by rw [HY.out]; rfl, (set11_below Hanns3.out.2.2.2 (Nat.le_refl _) _ _ _ _ _ _ _ _ _ _ _)⟩
        · subst e1 e2
          cases hoa
          obtain ⟨x0, x1, x2, x3, x4, x5, x6, x7, x8, x9, x10, x11, x12, x13⟩ := hat Wanns3 Hanns3.out.2.2.2
          obtain ⟨c0, c1, c2, c3, c4, c5, c6, c7, c8, c9, c10⟩ := Hanns3.out.2.1.at11
          have fO := fun j => Hanns3.out.2.1.frozen j
          have gO : g ≠ O := by omega
          have in1 : (n : Int) < (rs.length : Int) := by omega
          have ob : bits .or .u8 4 8 = 12 := by decide
          obtain ⟨d0, d1, d2, d3, d4, d5, d6, d7, d8, d9, d10⟩ := Hanns3.out.1.at11
          have fR := fun j => Hanns3.out.1.frozen j
          go_wp2
          exact bodyPost_ret (v := .tuple #[.agg #[.int .u8 12, .int .u8 0, .int .u8 0, .int .u8 0, .int .u8 0, .int .u8 0, .int .u8 0, .int .u8 0, .int .u8 0, .bool X4.look.bd, .int .i64 X8.look.pad], .int .i64 0]) (by simp [results, Tryd.results19, go_sem, *]) rfl ⟨by rw [HY.out]; rfl, (set11_below ((Hanns3.out.2.2.2.setCell (p := ⟨O, 0, none⟩) hO _).setCell (p := ⟨O, 10, none⟩) hO _) (Nat.le_refl _) _ _ _ _ _ _ _ _ _ _ _)⟩
    · subst e1 e2
      cases hoa
      obtain ⟨x0, x1, x2, x3, x4, x5, x6, x7, x8, x9, x10, x11, x12, x13⟩ := hat Wan1 Han1.out.2.2.2
      obtain ⟨c0, c1, c2, c3, c4, c5, c6, c7, c8, c9, c10⟩ := Han1.out.2.1.at11
      have fO := fun j => Han1.out.2.1.frozen j
      have gO : g ≠ O := by omega
      have in1 : (n : Int) < (rs.length : Int) := by omega
      have ob : bits .or .u8 0 2 = 2 := by decide
      go_wp2_with fail
      have zP := (((((Han1.out.2.1.put 0 (.int .u8 2)).put 5 (.int .u8 X2.look.r2)).put 6 (.int .u8 X2.look.g2)).put 7 (.int .u8 X2.look.b2)).put 8 (.int .u8 X2.look.a2))
      have zR := (((((Han1.out.1.other ⟨O, 0, none⟩ (.int .u8 2) hOR).other ⟨O, 5, none⟩ (.int .u8 X2.look.r2) hOR).other ⟨O, 6, none⟩ (.int .u8 X2.look.g2) hOR).other ⟨O, 7, none⟩ (.int .u8 X2.look.b2) hOR).other ⟨O, 8, none⟩ (.int .u8 X2.look.a2) hOR)
      have zW := (row_other (row_other (row_other (row_other (row_other Han1.out.2.2.1 ⟨O, 0, none⟩ (.int .u8 2) hOB) ⟨O, 5, none⟩ (.int .u8 X2.look.r2) hOB) ⟨O, 6, none⟩ (.int .u8 X2.look.g2) hOB) ⟨O, 7, none⟩ (.int .u8 X2.look.b2) hOB) ⟨O, 8, none⟩ (.int .u8 X2.look.a2) hOB)
      have zL := (((((Han1.out.2.2.2.setCell (p := ⟨O, 0, none⟩) hO (.int .u8 2)).setCell (p := ⟨O, 5, none⟩) hO (.int .u8 X2.look.r2)).setCell (p := ⟨O, 6, none⟩) hO (.int .u8 X2.look.g2)).setCell (p := ⟨O, 7, none⟩) hO (.int .u8 X2.look.b2)).setCell (p := ⟨O, 8, none⟩) hO (.int .u8 X2.look.a2))
      generalize hZ : (((((Wan1.setCell ⟨O, 0, none⟩ (.int .u8 2)).setCell ⟨O, 5, none⟩ (.int .u8 X2.look.r2)).setCell ⟨O, 6, none⟩ (.int .u8 X2.look.g2)).setCell ⟨O, 7, none⟩ (.int .u8 X2.look.b2)).setCell ⟨O, 8, none⟩ (.int .u8 X2.look.a2)) = Zn1 at *
      have Gn1 : Hid (Blk Zn1 w.heap.size #[.int .u8 0, .int .u8 0, .int .u8 0, .int .u8 0, .int .u8 0, .int .u8 0, .int .u8 0, .int .u8 0, .int .u8 0, .bool false, .int .i64 0] 33 ∧ Blk Zn1 O #[.int .u8 2, .int .u8 0, .int .u8 0, .int .u8 0, .int .u8 0, .int .u8 X2.look.r2, .int .u8 X2.look.g2, .int .u8 X2.look.b2, .int .u8 X2.look.a2, .bool false, .int .i64 0] 33 ∧ Row Zn1 B 0 rs.length f ∧ Below w.heap.size w Zn1) := ⟨zR, zP, zW, zL⟩
      clear hZ zP zR zW zL x0 x1 x2 x3 x4 x5 x6 x7 x8 x9 x10 x11 x12 x13 c0 c1 c2 c3 c4 c5 c6 c7 c8 c9 c10 fO ob hat Han1
      refine (I4.out B Zn1 Gn1.out.2.2.2 Gn1.out.2.2.1).mono ?_
      rintro e Wans2 ⟨rfl, h⟩
      have Hans2 : Hid (Blk Wans2 w.heap.size #[.int .u8 0, .int .u8 0, .int .u8 0, .int .u8 0, .int .u8 0, .int .u8 0, .int .u8 0, .int .u8 0, .int .u8 0, .bool false, .int .i64 0] 33 ∧ Blk Wans2 O #[.int .u8 2, .int .u8 0, .int .u8 0, .int .u8 0, .int .u8 0, .int .u8 X2.look.r2, .int .u8 X2.look.g2, .int .u8 X2.look.b2, .int .u8 X2.look.a2, .bool false, .int .i64 0] 33 ∧ Row Wans2 B 0 rs.length f ∧ Below w.heap.size w Wans2) := ⟨Gn1.out.1.below h, Gn1.out.2.1.below h, Gn1.out.2.2.1.below h, Gn1.out.2.2.2.trans (h.mono Gn1.out.2.2.2.size)⟩
      clear h Gn1
      rcases T4.out with ⟨e1, e2⟩ | ⟨n, X4, hoa, hg, hn, e1, e2, hat⟩
      · subst e1 e2
        obtain ⟨c0, c1, c2, c3, c4, c5, c6, c7, c8, c9, c10⟩ := Hans2.out.2.1.at11
        go_wp2_with fail
        clear c0 c1 c2 c3 c4 c5 c6 c7 c8 c9 c10
        refine (I8.out B Wans2 Hans2.out.2.2.2 Hans2.out.2.2.1).mono ?_
        rintro e Wansn3 ⟨rfl, h⟩
        have Hansn3 : Hid (Blk Wansn3 w.heap.size #[.int .u8 0, .int .u8 0, .int .u8 0, .int .u8 0, .int .u8 0, .int .u8 0, .int .u8 0, .int .u8 0, .int .u8 0, .bool false, .int .i64 0] 33 ∧ Blk Wansn3 O #[.int .u8 2, .int .u8 0, .int .u8 0, .int .u8 0, .int .u8 0, .int .u8 X2.look.r2, .int .u8 X2.look.g2, .int .u8 X2.look.b2, .int .u8 X2.look.a2, .bool false, .int .i64 0] 33 ∧ Row Wansn3 B 0 rs.length f ∧ Below w.heap.size w Wansn3) := ⟨Hans2.out.1.below h, Hans2.out.2.1.below h, Hans2.out.2.2.1.below h, Hans2.out.2.2.2.trans (h.mono Hans2.out.2.2.2.size)⟩
        clear h Hans2
        rcases T8.out with ⟨e1, e2⟩ | ⟨n, X8, hoa, hg, hn, e1, e2, hat⟩
        · subst e1 e2
          obtain ⟨c0, c1, c2, c3, c4, c5, c6, c7, c8, c9, c10⟩ := Hansn3.out.2.1.at11
          obtain ⟨d0, d1, d2, d3, d4, d5, d6, d7, d8, d9, d10⟩ := Hansn3.out.1.at11
          have fR := fun j => Hansn3.out.1.frozen j
          go_wp2
          exact bodyPost_ret (v := .tuple #[.agg #[.int .u8 2, .int .u8 0, .int .u8 0, .int .u8 0, .int .u8 0, .int .u8 X2.look.r2, .int .u8 X2.look.g2, .int .u8 X2.look.b2, .int .u8 X2.look.a2, .bool false, .int .i64 0], .int .i64 0]) (by simp [results, Tryd.results19, go_sem, *]) rfl ⟨by rw [HY.out]; rfl, (set11_below Hansn3.out.2.2.2 (Nat.le_refl _) _ _ _ _ _ _ _ _ _ _ _)⟩
        · subst e1 e2
          cases hoa
          obtain ⟨x0, x1, x2, x3, x4, x5, x6, x7, x8, x9, x10, x11, x12, x13⟩ := hat Wansn3 Hansn3.out.2.2.2
          obtain ⟨c0, c1, c2, c3, c4, c5, c6, c7, c8, c9, c10⟩ := Hansn3.out.2.1.at11
          have fO := fun j => Hansn3.out.2.1.frozen j
          have gO : g ≠ O := by omega
          have in1 : (n : Int) < (rs.length : Int) := by omega
          have ob : bits .or .u8 2 8 = 10 := by decide
          obtain ⟨d0, d1, d2, d3, d4, d5, d6, d7, d8, d9, d10⟩ := Hansn3.out.1.at11
          have fR := fun j => Hansn3.out.1.frozen j
          go_wp2
          exact bodyPost_ret (v := .tuple #[.agg #[.int .u8 10, .int .u8 0, .int .u8 0, .int .u8 0, .int .u8 0, .int .u8 X2.look.r2, .int .u8 X2.look.g2, .int .u8 X2.look.b2, .int .u8 X2.look.a2, .bool false, .int .i64 X8.look.pad], .int .i64 0]) (by simp [results, Tryd.results19, go_sem, *]) rfl ⟨by rw [HY.out]; rfl, (set11_below ((Hansn3.out.2.2.2.setCell (p := ⟨O, 0, none⟩) hO _).setCell (p := ⟨O, 10, none⟩) hO _) (Nat.le_refl _) _ _ _ _ _ _ _ _ _ _ _)⟩
      · subst e1 e2
        cases hoa
        obtain ⟨x0, x1, x2, x3, x4, x5, x6, x7, x8, x9, x10, x11, x12, x13⟩ := hat Wans2 Hans2.out.2.2.2
        obtain ⟨c0, c1, c2, c3, c4, c5, c6, c7, c8, c9, c10⟩ := Hans2.out.2.1.at11
        have fO := fun j => Hans2.out.2.1.frozen j
        have gO : g ≠ O := by omega
        have in1 : (n : Int) < (rs.length : Int) := by omega
        have ob : bits .or .u8 2 4 = 6 := by decide
        go_wp2_with fail
        have zP := ((Hans2.out.2.1.put 0 (.int .u8 6)).put 9 (.bool X4.look.bd))
        have zR := ((Hans2.out.1.other ⟨O, 0, none⟩ (.int .u8 6) hOR).other ⟨O, 9, none⟩ (.bool X4.look.bd) hOR)
        have zW := (row_other (row_other Hans2.out.2.2.1 ⟨O, 0, none⟩ (.int .u8 6) hOB) ⟨O, 9, none⟩ (.bool X4.look.bd) hOB)
        have zL := ((Hans2.out.2.2.2.setCell (p := ⟨O, 0, none⟩) hO (.int .u8 6)).setCell (p := ⟨O, 9, none⟩) hO (.bool X4.look.bd))
        generalize hZ : ((Wans2.setCell ⟨O, 0, none⟩ (.int .u8 6)).setCell ⟨O, 9, none⟩ (.bool X4.look.bd)) = Zns2 at *
        have Gns2 : Hid (Blk Zns2 w.heap.size #[.int .u8 0, .int .u8 0, .int .u8 0, .int .u8 0, .int .u8 0, .int .u8 0, .int .u8 0, .int .u8 0, .int .u8 0, .bool false, .int .i64 0] 33 ∧ Blk Zns2 O #[.int .u8 6, .int .u8 0, .int .u8 0, .int .u8 0, .int .u8 0, .int .u8 X2.look.r2, .int .u8 X2.look.g2, .int .u8 X2.look.b2, .int .u8 X2.look.a2, .bool X4.look.bd, .int .i64 0] 33 ∧ Row Zns2 B 0 rs.length f ∧ Below w.heap.size w Zns2) := ⟨zR, zP, zW, zL⟩
        clear hZ zP zR zW zL x0 x1 x2 x3 x4 x5 x6 x7 x8 x9 x10 x11 x12 x13 c0 c1 c2 c3 c4 c5 c6 c7 c8 c9 c10 fO ob hat Hans2
        refine (I8.out B Zns2 Gns2.out.2.2.2 Gns2.out.2.2.1).mono ?_
        rintro e Wanss3 ⟨rfl, h⟩
        have Hanss3 : Hid (Blk Wanss3 w.heap.size #[.int .u8 0, .int .u8 0, .int .u8 0, .int .u8 0, .int .u8 0, .int .u8 0, .int .u8 0, .int .u8 0, .int .u8 0, .bool false, .int .i64 0] 33 ∧ Blk Wanss3 O #[.int .u8 6, .int .u8 0, .int .u8 0, .int .u8 0, .int .u8 0, .int .u8 X2.look.r2, .int .u8 X2.look.g2, .int .u8 X2.look.b2, .int .u8 X2.look.a2, .bool X4.look.bd, .int .i64 0] 33 ∧ Row Wanss3 B 0 rs.length f ∧ Below w.heap.size w Wanss3) := ⟨Gns2.out.1.below h, Gns2.out.2.1.below h, Gns2.out.2.2.1.below h, Gns2.out.2.2.2.trans (h.mono Gns2.out.2.2.2.size)⟩
        clear h Gns2
        rcases T8.out with ⟨e1, e2⟩ | ⟨n, X8, hoa, hg, hn, e1, e2, hat⟩
        · subst e1 e2
          obtain ⟨c0, c1, c2, c3, c4, c5, c6, c7, c8, c9, c10⟩ := Hanss3.out.2.1.at11
          obtain ⟨d0, d1, d2, d3, d4, d5, d6, d7, d8, d9, d10⟩ := Hanss3.out.1.at11
          have fR := fun j => Hanss3.out.1.frozen j
          go_wp2
          exact bodyPost_ret (v := .tuple #[.agg #[.int .u8 6, .int .u8 0, .int .u8 0, .int .u8 0, .int .u8 0, .int .u8 X2.look.r2, .int .u8 X2.look.g2, .int .u8 X2.look.b2, .int .u8 X2.look.a2, .bool X4.look.bd, .int .i64 0], .int .i64 0]) (by simp [results, Tryd.results19, go_sem, *]) rfl ⟨by rw [HY.out]; rfl, (set11_below Hanss3.out.2.2.2 (Nat.le_refl _) _ _ _ _ _ _ _ _ _ _ _)⟩
        · subst e1 e2
          cases hoa
          obtain ⟨x0, x1, x2, x3, x4, x5, x6, x7, x8, x9, x10, x11, x12, x13⟩ := hat Wanss3 Hanss3.out.2.2.2
          obtain ⟨c0, c1, c2, c3, c4, c5, c6, c7, c8, c9, c10⟩ := Hanss3.out.2.1.at11
          have fO := fun j => Hanss3.out.2.1.frozen j
          have gO : g ≠ O := by omega
          have in1 : (n : Int) < (rs.length : Int) := by omega
          have ob : bits .or .u8 6 8 = 14 := by decide
          obtain ⟨d0, d1, d2, d3, d4, d5, d6, d7, d8, d9, d10⟩ := Hanss3.out.1.at11
          have fR := fun j => Hanss3.out.1.frozen j
          go_wp2
          exact bodyPost_ret (v := .tuple #[.agg #[.int .u8 14, .int .u8 0, .int .u8 0, .int .u8 0, .int .u8 0, .int .u8 X2.look.r2, .int .u8 X2.look.g2, .int .u8 X2.look.b2, .int .u8 X2.look.a2, .bool X4.look.bd, .int .i64 X8.look.pad], .int .i64 0]) (by simp [results, Tryd.results19, go_sem, *]) rfl ⟨by rw [HY.out]; rfl, (set11_below ((Hanss3.out.2.2.2.setCell (p := ⟨O, 0, none⟩) hO _).setCell (p := ⟨O, 10, none⟩) hO _) (Nat.le_refl _) _ _ _ _ _ _ _ _ _ _ _)⟩
  · subst e1 e2
    cases hoa
    obtain ⟨x0, x1, x2, x3, x4, x5, x6, x7, x8, x9, x10, x11, x12, x13⟩ := hat Wa0 Ha0.out.2.2.2
    obtain ⟨c0, c1, c2, c3, c4, c5, c6, c7, c8, c9, c10⟩ := Ha0.out.2.1.at11
    have fO := fun j => Ha0.out.2.1.frozen j
    have gO : g ≠ O := by omega
    have in1 : (n : Int) < (rs.length : Int) := by omega
    have ob : bits .or .u8 0 1 = 1 := by decide
    go_wp2_with fail
    have zP := (((((Ha0.out.2.1.put 0 (.int .u8 1)).put 1 (.int .u8 X1.look.r)).put 2 (.int .u8 X1.look.g)).put 3 (.int .u8 X1.look.b)).put 4 (.int .u8 X1.look.a))
    have zR := (((((Ha0.out.1.other ⟨O, 0, none⟩ (.int .u8 1) hOR).other ⟨O, 1, none⟩ (.int .u8 X1.look.r) hOR).other ⟨O, 2, none⟩ (.int .u8 X1.look.g) hOR).other ⟨O, 3, none⟩ (.int .u8 X1.look.b) hOR).other ⟨O, 4, none⟩ (.int .u8 X1.look.a) hOR)
    have zW := (row_other (row_other (row_other (row_other (row_other Ha0.out.2.2.1 ⟨O, 0, none⟩ (.int .u8 1) hOB) ⟨O, 1, none⟩ (.int .u8 X1.look.r) hOB) ⟨O, 2, none⟩ (.int .u8 X1.look.g) hOB) ⟨O, 3, none⟩ (.int .u8 X1.look.b) hOB) ⟨O, 4, none⟩ (.int .u8 X1.look.a) hOB)
    have zL := (((((Ha0.out.2.2.2.setCell (p := ⟨O, 0, none⟩) hO (.int .u8 1)).setCell (p := ⟨O, 1, none⟩) hO (.int .u8 X1.look.r)).setCell (p := ⟨O, 2, none⟩) hO (.int .u8 X1.look.g)).setCell (p := ⟨O, 3, none⟩) hO (.int .u8 X1.look.b)).setCell (p := ⟨O, 4, none⟩) hO (.int .u8 X1.look.a))
    generalize hZ : (((((Wa0.setCell ⟨O, 0, none⟩ (.int .u8 1)).setCell ⟨O, 1, none⟩ (.int .u8 X1.look.r)).setCell ⟨O, 2, none⟩ (.int .u8 X1.look.g)).setCell ⟨O, 3, none⟩ (.int .u8 X1.look.b)).setCell ⟨O, 4, none⟩ (.int .u8 X1.look.a)) = Z0 at *
    have G0 : Hid (Blk Z0 w.heap.size #[.int .u8 0, .int .u8 0, .int .u8 0, .int .u8 0, .int .u8 0, .int .u8 0, .int .u8 0, .int .u8 0, .int .u8 0, .bool false, .int .i64 0] 33 ∧ Blk Z0 O #[.int .u8 1, .int .u8 X1.look.r, .int .u8 X1.look.g, .int .u8 X1.look.b, .int .u8 X1.look.a, .int .u8 0, .int .u8 0, .int .u8 0, .int .u8 0, .bool false, .int .i64 0] 33 ∧ Row Z0 B 0 rs.length f ∧ Below w.heap.size w Z0) := ⟨zR, zP, zW, zL⟩
    clear hZ zP zR zW zL x0 x1 x2 x3 x4 x5 x6 x7 x8 x9 x10 x11 x12 x13 c0 c1 c2 c3 c4 c5 c6 c7 c8 c9 c10 fO ob hat Ha0
    refine (I2.out B Z0 G0.out.2.2.2 G0.out.2.2.1).mono ?_
    rintro e Was1 ⟨rfl, h⟩
    have Has1 : Hid (Blk Was1 w.heap.size #[.int .u8 0, .int .u8 0, .int .u8 0, .int .u8 0, .int .u8 0, .int .u8 0, .int .u8 0, .int .u8 0, .int .u8 0, .bool false, .int .i64 0] 33 ∧ Blk Was1 O #[.int .u8 1, .int .u8 X1.look.r, .int .u8 X1.look.g, .int .u8 X1.look.b, .int .u8 X1.look.a, .int .u8 0, .int .u8 0, .int .u8 0, .int .u8 0, .bool false, .int .i64 0] 33 ∧ Row Was1 B 0 rs.length f ∧ Below w.heap.size w Was1) := ⟨G0.out.1.below h, G0.out.2.1.below h, G0.out.2.2.1.below h, G0.out.2.2.2.trans (h.mono G0.out.2.2.2.size)⟩
    clear h G0
    rcases T2.out with ⟨e1, e2⟩ | ⟨n, X2, hoa, hg, hn, e1, e2, hat⟩
    · subst e1 e2
      obtain ⟨c0, c1, c2, c3, c4, c5, c6, c7, c8, c9, c10⟩ := Has1.out.2.1.at11
      go_wp2_with fail
      clear c0 c1 c2 c3 c4 c5 c6 c7 c8 c9 c10
      refine (I4.out B Was1 Has1.out.2.2.2 Has1.out.2.2.1).mono ?_
      rintro e Wasn2 ⟨rfl, h⟩
      have Hasn2 : Hid (Blk Wasn2 w.heap.size #[.int .u8 0, .int .u8 0, .int .u8 0, .int .u8 0, .int .u8 0, .int .u8 0, .int .u8 0, .int .u8 0, .int .u8 0, .bool false, .int .i64 0] 33 ∧ Blk Wasn2 O #[.int .u8 1, .int .u8 X1.look.r, .int .u8 X1.look.g, .int .u8 X1.look.b, .int .u8 X1.look.a, .int .u8 0, .int .u8 0, .int .u8 0, .int .u8 0, .bool false, .int .i64 0] 33 ∧ Row Wasn2 B 0 rs.length f ∧ Below w.heap.size w Wasn2) := ⟨Has1.out.1.below h, Has1.out.2.1.below h, Has1.out.2.2.1.below h, Has1.out.2.2.2.trans (h.mono Has1.out.2.2.2.size)⟩
      clear h Has1
      rcases T4.out with ⟨e1, e2⟩ | ⟨n, X4, hoa, hg, hn, e1, e2, hat⟩
      · subst e1 e2
        obtain ⟨c0, c1, c2, c3, c4, c5, c6, c7, c8, c9, c10⟩ := Hasn2.out.2.1.at11
        go_wp2_with fail
        clear c0 c1 c2 c3 c4 c5 c6 c7 c8 c9 c10
        refine (I8.out B Wasn2 Hasn2.out.2.2.2 Hasn2.out.2.2.1).mono ?_
        rintro e Wasnn3 ⟨rfl, h⟩
        have Hasnn3 : Hid (Blk Wasnn3 w.heap.size #[.int .u8 0, .int .u8 0, .int .u8 0, .int .u8 0, .int .u8 0, .int .u8 0, .int .u8 0, .int .u8 0, .int .u8 0, .bool false, .int .i64 0] 33 ∧ Blk Wasnn3 O #[.int .u8 1, .int .u8 X1.look.r, .int .u8 X1.look.g, .int .u8 X1.look.b, .int .u8 X1.look.a, .int .u8 0, .int .u8 0, .int .u8 0, .int .u8 0, .bool false, .int .i64 0] 33 ∧ Row Wasnn3 B 0 rs.length f ∧ Below w.heap.size w Wasnn3) := ⟨Hasn2.out.1.below h, Hasn2.out.2.1.below h, Hasn2.out.2.2.1.below h, Hasn2.out.2.2.2.trans (h.mono Hasn2.out.2.2.2.size)⟩
        clear h Hasn2
        rcases T8.out with ⟨e1, e2⟩ | ⟨n, X8, hoa, hg, hn, e1, e2, hat⟩
        · subst e1 e2
          obtain ⟨c0, c1, c2, c3, c4, c5, c6, c7, c8, c9, c10⟩ := Hasnn3.out.2.1.at11
          obtain ⟨d0, d1, d2, d3, d4, d5, d6, d7, d8, d9, d10⟩ := Hasnn3.out.1.at11
          have fR := fun j => Hasnn3.out.1.frozen j
          go_wp2
          exact bodyPost_ret (v := .tuple #[.agg #[.int .u8 1, .int .u8 X1.look.r, .int .u8 X1.look.g, .int .u8 X1.look.b, .int .u8 X1.look.a, .int .u8 0, .int .u8 0, .int .u8 0, .int .u8 0, .bool false, .int .i64 0], .int .i64 0]) (by simp [results, Tryd.results19, go_sem, *]) rfl ⟨by rw [HY.out]; rfl, (set11_below Hasnn3.out.2.2.2 (Nat.le_refl _) _ _ _ _ _ _ _ _ _ _ _)⟩
        · subst e1 e2
          cases hoa
          obtain ⟨x0, x1, x2, x3, x4, x5, x6, x7, x8, x9, x10, x11, x12, x13⟩ := hat Wasnn3 Hasnn3.out.2.2.2
          obtain ⟨c0, c1, c2, c3, c4, c5, c6, c7, c8, c9, c10⟩ := Hasnn3.out.2.1.at11
          have fO := fun j => Hasnn3.out.2.1.frozen j
          have gO : g ≠ O := by omega
          have in1 : (n : Int) < (rs.length : Int) := by omega
          have ob : bits .or .u8 1 8 = 9 := by decide
          obtain ⟨d0, d1, d2, d3, d4, d5, d6, d7, d8, d9, d10⟩ := Hasnn3.out.1.at11
          have fR := fun j => Hasnn3.out.1.frozen j
          go_wp2
          exact bodyPost_ret (v := .tuple #[.agg #[.int .u8 9, .int .u8 X1.look.r, .int .u8 X1.look.g, .int .u8 X1.look.b, .int .u8 X1.look.a, .int .u8 0, .int .u8 0, .int .u8 0, .int .u8 0, .bool false, .int .i64 X8.look.pad], .int .i64 0]) (by simp [results, Tryd.results19, go_sem, *]) rfl ⟨by rw [HY.out]; rfl, (set11_below ((Hasnn3.out.2.2.2.setCell (p := ⟨O, 0, none⟩) hO _).setCell (p := ⟨O, 10, none⟩) hO _) (Nat.le_refl _) _ _ _ _ _ _ _ _ _ _ _)⟩
      · subst e1 e2
        cases hoa
        obtain ⟨x0, x1, x2, x3, x4, x5, x6, x7, x8, x9, x10, x11, x12, x13⟩ := hat Wasn2 Hasn2.out.2.2.2
        obtain ⟨c0, c1, c2, c3, c4, c5, c6, c7, c8, c9, c10⟩ := Hasn2.out.2.1.at11
        have fO := fun j => Hasn2.out.2.1.frozen j
        have gO : g ≠ O := by omega
        have in1 : (n : Int) < (rs.length : Int) := by omega
        have ob : bits .or .u8 1 4 = 5 := by decide
        go_wp2_with fail
        have zP := ((Hasn2.out.2.1.put 0 (.int .u8 5)).put 9 (.bool X4.look.bd))
        have zR := ((Hasn2.out.1.other ⟨O, 0, none⟩ (.int .u8 5) hOR).other ⟨O, 9, none⟩ (.bool X4.look.bd) hOR)
        have zW := (row_other (row_other Hasn2.out.2.2.1 ⟨O, 0, none⟩ (.int .u8 5) hOB) ⟨O, 9, none⟩ (.bool X4.look.bd) hOB)
        have zL := ((Hasn2.out.2.2.2.setCell (p := ⟨O, 0, none⟩) hO (.int .u8 5)).setCell (p := ⟨O, 9, none⟩) hO (.bool X4.look.bd))
        generalize hZ : ((Wasn2.setCell ⟨O, 0, none⟩ (.int .u8 5)).setCell ⟨O, 9, none⟩ (.bool X4.look.bd)) = Zsn2 at *
        have Gsn2 : Hid (Blk Zsn2 w.heap.size #[.int .u8 0, .int .u8 0, .int .u8 0, .int .u8 0, .int .u8 0, .int .u8 0, .int .u8 0, .int .u8 0, .int .u8 0, .bool false, .int .i64 0] 33 ∧ Blk Zsn2 O #[.int .u8 5, .int .u8 X1.look.r, .int .u8 X1.look.g, .int .u8 X1.look.b, .int .u8 X1.look.a, .int .u8 0, .int .u8 0, .int .u8 0, .int .u8 0, .bool X4.look.bd, .int .i64 0] 33 ∧ Row Zsn2 B 0 rs.length f ∧ Below w.heap.size w Zsn2) := ⟨zR, zP, zW, zL⟩
        clear hZ zP zR zW zL x0 x1 x2 x3 x4 x5 x6 x7 x8 x9 x10 x11 x12 x13 c0 c1 c2 c3 c4 c5 c6 c7 c8 c9 c10 fO ob hat Hasn2
        refine (I8.out B Zsn2 Gsn2.out.2.2.2 Gsn2.out.2.2.1).mono ?_
        rintro e Wasns3 ⟨rfl, h⟩
        have Hasns3 : Hid (Blk Wasns3 w.heap.size #[.int .u8 0, .int .u8 0, .int .u8 0, .int .u8 0, .int .u8 0, .int .u8 0, .int .u8 0, .int .u8 0, .int .u8 0, .bool false, .int .i64 0] 33 ∧ Blk Wasns3 O #[.int .u8 5, .int .u8 X1.look.r, .int .u8 X1.look.g, .int .u8 X1.look.b, .int .u8 X1.look.a, .int .u8 0, .int .u8 0, .int .u8 0, .int .u8 0, .bool X4.look.bd, .int .i64 0] 33 ∧ Row Wasns3 B 0 rs.length f ∧ Below w.heap.size w Wasns3) := ⟨Gsn2.out.1.below h, Gsn2.out.2.1.below h, Gsn2.out.2.2.1.below h, Gsn2.out.2.2.2.trans (h.mono Gsn2.out.2.2.2.size)⟩
        clear h Gsn2
        rcases T8.out with ⟨e1, e2⟩ | ⟨n, X8, hoa, hg, hn, e1, e2, hat⟩
        · subst e1 e2
          obtain ⟨c0, c1, c2, c3, c4, c5, c6, c7, c8, c9, c10⟩ := Hasns3.out.2.1.at11
          obtain ⟨d0, d1, d2, d3, d4, d5, d6, d7, d8, d9, d10⟩ := Hasns3.out.1.at11
          have fR := fun j => Hasns3.out.1.frozen j
          go_wp2
          exact bodyPost_ret (v := .tuple #[.agg #[.int .u8 5, .int .u8 X1.look.r, .int .u8 X1.look.g, .int .u8 X1.look.b, .int .u8 X1.look.a, .int .u8 0, .int .u8 0, .int .u8 0, .int .u8 0, .bool X4.look.bd, .int .i64 0], .int .i64 0]) (by simp [results, Tryd.results19, go_sem, *]) rfl ⟨by rw [HY.out]; rfl, (set11_below Hasns3.out.2.2.2 (Nat.le_refl _) _ _ _ _ _ _ _ _ _ _ _)⟩
        · subst e1 e2
          cases hoa
          obtain ⟨x0, x1, x2, x3, x4, x5, x6, x7, x8, x9, x10, x11, x12, x13⟩ := hat Wasns3 Hasns3.out.2.2.2
          obtain ⟨c0, c1, c2, c3, c4, c5, c6, c7, c8, c9, c10⟩ := Hasns3.out.2.1.at11
          have fO := fun j => Hasns3.out.2.1.frozen j
          have gO : g ≠ O := by omega
          have in1 : (n : Int) < (rs.length : Int) := by omega
          have ob : bits .or .u8 5 8 = 13 := by decide
          obtain ⟨d0, d1, d2, d3, d4, d5, d6, d7, d8, d9, d10⟩ := Hasns3.out.1.at11
          have fR := fun j => Hasns3.out.1.frozen j
          go_wp2
          exact bodyPost_ret (v := .tuple #[.agg #[.int .u8 13, .int .u8 X1.look.r, .int .u8 X1.look.g, .int .u8 X1.look.b, .int .u8 X1.look.a, .int .u8 0, .int .u8 0, .int .u8 0, .int .u8 0, .bool X4.look.bd, .int .i64 X8.look.pad], .int .i64 0]) (by simp [results, Tryd.results19, go_sem, *]) rfl ⟨by rw [HY.out]; rfl, (set11_below ((Hasns3.out.2.2.2.setCell (p := ⟨O, 0, none⟩) hO _).setCell (p := ⟨O, 10, none⟩) hO _) (Nat.le_refl _) _ _ _ _ _ _ _ _ _ _ _)⟩
    · subst e1 e2
      cases hoa
      obtain ⟨x0, x1, x2, x3, x4, x5, x6, x7, x8, x9, x10, x11, x12, x13⟩ := hat Was1 Has1.out.2.2.2
      obtain ⟨c0, c1, c2, c3, c4, c5, c6, c7, c8, c9, c10⟩ := Has1.out.2.1.at11
      have fO := fun j => Has1.out.2.1.frozen j
      have gO : g ≠ O := by omega
      have in1 : (n : Int) < (rs.length : Int) := by omega
      have ob : bits .or .u8 1 2 = 3 := by decide
      go_wp2_with fail
      have zP := (((((Has1.out.2.1.put 0 (.int .u8 3)).put 5 (.int .u8 X2.look.r2)).put 6 (.int .u8 X2.look.g2)).put 7 (.int .u8 X2.look.b2)).put 8 (.int .u8 X2.look.a2))
      have zR := (((((Has1.out.1.other ⟨O, 0, none⟩ (.int .u8 3) hOR).other ⟨O, 5, none⟩ (.int .u8 X2.look.r2) hOR).other ⟨O, 6, none⟩ (.int .u8 X2.look.g2) hOR).other ⟨O, 7, none⟩ (.int .u8 X2.look.b2) hOR).other ⟨O, 8, none⟩ (.int .u8 X2.look.a2) hOR)
      have zW := (row_other (row_other (row_other (row_other (row_other Has1.out.2.2.1 ⟨O, 0, none⟩ (.int .u8 3) hOB) ⟨O, 5, none⟩ (.int .u8 X2.look.r2) hOB) ⟨O, 6, none⟩ (.int .u8 X2.look.g2) hOB) ⟨O, 7, none⟩ (.int .u8 X2.look.b2) hOB) ⟨O, 8, none⟩ (.int .u8 X2.look.a2) hOB)
      have zL := (((((Has1.out.2.2.2.setCell (p := ⟨O, 0, none⟩) hO (.int .u8 3)).setCell (p := ⟨O, 5, none⟩) hO (.int .u8 X2.look.r2)).setCell (p := ⟨O, 6, none⟩) hO (.int .u8 X2.look.g2)).setCell (p := ⟨O, 7, none⟩) hO (.int .u8 X2.look.b2)).setCell (p := ⟨O, 8, none⟩) hO (.int .u8 X2.look.a2))
      generalize hZ : (((((Was1.setCell ⟨O, 0, none⟩ (.int .u8 3)).setCell ⟨O, 5, none⟩ (.int .u8 X2.look.r2)).setCell ⟨O, 6, none⟩ (.int .u8 X2.look.g2)).setCell ⟨O, 7, none⟩ (.int .u8 X2.look.b2)).setCell ⟨O, 8, none⟩ (.int .u8 X2.look.a2)) = Zs1 at *
      have Gs1 : Hid (Blk Zs1 w.heap.size #[.int .u8 0, .int .u8 0, .int .u8 0, .int .u8 0, .int .u8 0, .int .u8 0, .int .u8 0, .int .u8 0, .int .u8 0, .bool false, .int .i64 0] 33 ∧ Blk Zs1 O #[.int .u8 3, .int .u8 X1.look.r, .int .u8 X1.look.g, .int .u8 X1.look.b, .int .u8 X1.look.a, .int .u8 X2.look.r2, .int .u8 X2.look.g2, .int .u8 X2.look.b2, .int .u8 X2.look.a2, .bool false, .int .i64 0] 33 ∧ Row Zs1 B 0 rs.length f ∧ Below w.heap.size w Zs1) := ⟨zR, zP, zW, zL⟩
      clear hZ zP zR zW zL x0 x1 x2 x3 x4 x5 x6 x7 x8 x9 x10 x11 x12 x13 c0 c1 c2 c3 c4 c5 c6 c7 c8 c9 c10 fO ob hat Has1
      refine (I4.out B Zs1 Gs1.out.2.2.2 Gs1.out.2.2.1).mono ?_
      rintro e Wass2 ⟨rfl, h⟩
      have Hass2 : Hid (Blk Wass2 w.heap.size #[.int .u8 0, .int .u8 0, .int .u8 0, .int .u8 0, .int .u8 0, .int .u8 0, .int .u8 0, .int .u8 0, .int .u8 0, .bool false, .int .i64 0] 33 ∧ Blk Wass2 O #[.int .u8 3, .int .u8 X1.look.r, .int .u8 X1.look.g, .int .u8 X1.look.b, .int .u8 X1.look.a, .int .u8 X2.look.r2, .int .u8 X2.look.g2, .int .u8 X2.look.b2, .int .u8 X2.look.a2, .bool false, .int .i64 0] 33 ∧ Row Wass2 B 0 rs.length f ∧ Below w.heap.size w Wass2) := ⟨Gs1.out.1.below h, Gs1.out.2.1.below h, Gs1.out.2.2.1.below h, Gs1.out.2.2.2.trans (h.mono Gs1.out.2.2.2.size)⟩
      clear h Gs1
      rcases T4.out with ⟨e1, e2⟩ | ⟨n, X4, hoa, hg, hn, e1, e2, hat⟩
      · subst e1 e2
        obtain ⟨c0, c1, c2, c3, c4, c5, c6, c7, c8, c9, c10⟩ := Hass2.out.2.1.at11
        go_wp2_with fail
        clear c0 c1 c2 c3 c4 c5 c6 c7 c8 c9 c10
        refine (I8.out B Wass2 Hass2.out.2.2.2 Hass2.out.2.2.1).mono ?_
        rintro e Wassn3 ⟨rfl, h⟩
        have Hassn3 : Hid (Blk Wassn3 w.heap.size #[.int .u8 0, .int .u8 0, .int .u8 0, .int .u8 0, .int .u8 0, .int .u8 0, .int .u8 0, .int .u8 0, .int .u8 0, .bool false, .int .i64 0] 33 ∧ Blk Wassn3 O #[.int .u8 3, .int .u8 X1.look.r, .int .u8 X1.look.g, .int .u8 X1.look.b, .int .u8 X1.look.a, .int .u8 X2.look.r2, .int .u8 X2.look.g2, .int .u8 X2.look.b2, .int .u8 X2.look.a2, .bool false, .int .i64 0] 33 ∧ Row Wassn3 B 0 rs.length f ∧ Below w.heap.size w Wassn3) := ⟨Hass2.out.1.below h, Hass2.out.2.1.below h, Hass2.out.2.2.1.below h, Hass2.out.2.2.2.trans (h.mono Hass2.out.2.2.2.size)⟩
        clear h Hass2
        rcases T8.out with ⟨e1, e2⟩ | ⟨n, X8, hoa, hg, hn, e1, e2, hat⟩
        · subst e1 e2
          obtain ⟨c0, c1, c2, c3, c4, c5, c6, c7, c8, c9, c10⟩ := Hassn3.out.2.1.at11
          obtain ⟨d0, d1, d2, d3, d4, d5, d6, d7, d8, d9, d10⟩ := Hassn3.out.1.at11
          have fR := fun j => Hassn3.out.1.frozen j
          go_wp2
          exact bodyPost_ret (v := .tuple #[.agg #[.int .u8 3, .int .u8 X1.look.r, .int .u8 X1.look.g, .int .u8 X1.look.b, .int .u8 X1.look.a, .int .u8 X2.look.r2, .int .u8 X2.look.g2, .int .u8 X2.look.b2, .int .u8 X2.look.a2, .bool false, .int .i64 0], .int .i64 0]) (by simp [results, Tryd.results19, go_sem, *]) rfl ⟨by rw [HY.out]; rfl, (set11_below Hassn3.out.2.2.2 (Nat.le_refl _) _ _ _ _ _ _ _ _ _ _ _)⟩
        · subst e1 e2
          cases hoa
          obtain ⟨x0, x1, x2, x3, x4, x5, x6, x7, x8, x9, x10, x11, x12, x13⟩ := hat Wassn3 Hassn3.out.2.2.2
          obtain ⟨c0, c1, c2, c3, c4, c5, c6, c7, c8, c9, c10⟩ := Hassn3.out.2.1.at11
          have fO := fun j => Hassn3.out.2.1.frozen j
          have gO : g ≠ O := by omega
          have in1 : (n : Int) < (rs.length : Int) := by omega
          have ob : bits .or .u8 3 8 = 11 := by decide
          obtain ⟨d0, d1, d2, d3, d4, d5, d6, d7, d8, d9, d10⟩ := Hassn3.out.1.at11
          have fR := fun j => Hassn3.out.1.frozen j
          go_wp2
          exact bodyPost_ret (v := .tuple #[.agg #[.int .u8 11, .int .u8 X1.look.r, .int .u8 X1.look.g, .int .u8 X1.look.b, .int .u8 X1.look.a, .int .u8 X2.look.r2, .int .u8 X2.look.g2, .int .u8 X2.look.b2, .int .u8 X2.look.a2, .bool false, .int .i64 X8.look.pad], .int .i64 0]) (by simp [results, Tryd.results19, go_sem, *]) rfl ⟨by rw [HY.out]; rfl, (set11_below ((Hassn3.out.2.2.2.setCell (p := ⟨O, 0, none⟩) hO _).setCell (p := ⟨O, 10, none⟩) hO _) (Nat.le_refl _) _ _ _ _ _ _ _ _ _ _ _)⟩
      · subst e1 e2
        cases hoa
        obtain ⟨x0, x1, x2, x3, x4, x5, x6, x7, x8, x9, x10, x11, x12, x13⟩ := hat Wass2 Hass2.out.2.2.2
        obtain ⟨c0, c1, c2, c3, c4, c5, c6, c7, c8, c9, c10⟩ := Hass2.out.2.1.at11
        have fO := fun j => Hass2.out.2.1.frozen j
        have gO : g ≠ O := by omega
        have in1 : (n : Int) < (rs.length : Int) := by omega
        have ob : bits .or .u8 3 4 = 7 := by decide
        go_wp2_with fail
        have zP := ((Hass2.out.2.1.put 0 (.int .u8 7)).put 9 (.bool X4.look.bd))
        have zR := ((Hass2.out.1.other ⟨O, 0, none⟩ (.int .u8 7) hOR).other ⟨O, 9, none⟩ (.bool X4.look.bd) hOR)
        have zW := (row_other (row_other Hass2.out.2.2.1 ⟨O, 0, none⟩ (.int .u8 7) hOB) ⟨O, 9, none⟩ (.bool X4.look.bd) hOB)
        have zL := ((Hass2.out.2.2.2.setCell (p := ⟨O, 0, none⟩) hO (.int .u8 7)).setCell (p := ⟨O, 9, none⟩) hO (.bool X4.look.bd))
        generalize hZ : ((Wass2.setCell ⟨O, 0, none⟩ (.int .u8 7)).setCell ⟨O, 9, none⟩ (.bool X4.look.bd)) = Zss2 at *
        have Gss2 : Hid (Blk Zss2 w.heap.size #[.int .u8 0, .int .u8 0, .int .u8 0, .int .u8 0, .int .u8 0, .int .u8 0, .int .u8 0, .int .u8 0, .int .u8 0, .bool false, .int .i64 0] 33 ∧ Blk Zss2 O #[.int .u8 7, .int .u8 X1.look.r, .int .u8 X1.look.g, .int .u8 X1.look.b, .int .u8 X1.look.a, .int .u8 X2.look.r2, .int .u8 X2.look.g2, .int .u8 X2.look.b2, .int .u8 X2.look.a2, .bool X4.look.bd, .int .i64 0] 33 ∧ Row Zss2 B 0 rs.length f ∧ Below w.heap.size w Zss2) := ⟨zR, zP, zW, zL⟩
        clear hZ zP zR zW zL x0 x1 x2 x3 x4 x5 x6 x7 x8 x9 x10 x11 x12 x13 c0 c1 c2 c3 c4 c5 c6 c7 c8 c9 c10 fO ob hat Hass2
        refine (I8.out B Zss2 Gss2.out.2.2.2 Gss2.out.2.2.1).mono ?_
        rintro e Wasss3 ⟨rfl, h⟩
        have Hasss3 : Hid (Blk Wasss3 w.heap.size #[.int .u8 0, .int .u8 0, .int .u8 0, .int .u8 0, .int .u8 0, .int .u8 0, .int .u8 0, .int .u8 0, .int .u8 0, .bool false, .int .i64 0] 33 ∧ Blk Wasss3 O #[.int .u8 7, .int .u8 X1.look.r, .int .u8 X1.look.g, .int .u8 X1.look.b, .int .u8 X1.look.a, .int .u8 X2.look.r2, .int .u8 X2.look.g2, .int .u8 X2.look.b2, .int .u8 X2.look.a2, .bool X4.look.bd, .int .i64 0] 33 ∧ Row Wasss3 B 0 rs.length f ∧ Below w.heap.size w Wasss3) := ⟨Gss2.out.1.below h, Gss2.out.2.1.below h, Gss2.out.2.2.1.below h, Gss2.out.2.2.2.trans (h.mono Gss2.out.2.2.2.size)⟩
        clear h Gss2
        rcases T8.out with ⟨e1, e2⟩ | ⟨n, X8, hoa, hg, hn, e1, e2, hat⟩
        · subst e1 e2
          obtain ⟨c0, c1, c2, c3, c4, c5, c6, c7, c8, c9, c10⟩ := Hasss3.out.2.1.at11
          obtain ⟨d0, d1, d2, d3, d4, d5, d6, d7, d8, d9, d10⟩ := Hasss3.out.1.at11
          have fR := fun j => Hasss3.out.1.frozen j
          go_wp2
          exact bodyPost_ret (v := .tuple #[.agg #[.int .u8 7, .int .u8 X1.look.r, .int .u8 X1.look.g, .int .u8 X1.look.b, .int .u8 X1.look.a, .int .u8 X2.look.r2, .int .u8 X2.look.g2, .int .u8 X2.look.b2, .int .u8 X2.look.a2, .bool X4.look.bd, .int .i64 0], .int .i64 0]) (by simp [results, Tryd.results19, go_sem, *]) rfl ⟨by rw [HY.out]; rfl, (set11_below Hasss3.out.2.2.2 (Nat.le_refl _) _ _ _ _ _ _ _ _ _ _ _)⟩
        · subst e1 e2
          cases hoa
          obtain ⟨x0, x1, x2, x3, x4, x5, x6, x7, x8, x9, x10, x11, x12, x13⟩ := hat Wasss3 Hasss3.out.2.2.2
          obtain ⟨c0, c1, c2, c3, c4, c5, c6, c7, c8, c9, c10⟩ := Hasss3.out.2.1.at11
          have fO := fun j => Hasss3.out.2.1.frozen j
          have gO : g ≠ O := by omega
          have in1 : (n : Int) < (rs.length : Int) := by omega
          have ob : bits .or .u8 7 8 = 15 := by decide
          obtain ⟨d0, d1, d2, d3, d4, d5, d6, d7, d8, d9, d10⟩ := Hasss3.out.1.at11
          have fR := fun j => Hasss3.out.1.frozen j
          go_wp2
          exact bodyPost_ret (v := .tuple #[.agg #[.int .u8 15, .int .u8 X1.look.r, .int .u8 X1.look.g, .int .u8 X1.look.b, .int .u8 X1.look.a, .int .u8 X2.look.r2, .int .u8 X2.look.g2, .int .u8 X2.look.b2, .int .u8 X2.look.a2, .bool X4.look.bd, .int .i64 X8.look.pad], .int .i64 0]) (by simp [results, Tryd.results19, go_sem, *]) rfl ⟨by rw [HY.out]; rfl, (set11_below ((Hasss3.out.2.2.2.setCell (p := ⟨O, 0, none⟩) hO _).setCell (p := ⟨O, 10, none⟩) hO _) (Nat.le_refl _) _ _ _ _ _ _ _ _ _ _ _)⟩

end Go.Proofs.YtobmpjmpffnoiaaDoor
