/-
  The document's answer: Which and Look. The document's answer: Look of rules that may not be.
-/
import Derived.Test.YtobmpjmpffnoiaaDoorSQ7
import Derived.Test.YtobmpjmpffnoiaaDoorSPl
namespace Go.Proofs.YtobmpjmpffnoiaaDoor
open Go.RowKit Go.Shelf

set_option maxHeartbeats 2000000 in
theorem rlook_bad (rs : List Rl) (v : Value) (kind : Nat) (t : ByteArray) (st : Nat) (w : World) (hT : Tab w) (hv : Rules w v rs) (hs : ∀ r ∈ rs, r.cls.size ≤ 9223372036854775807 ∧ r.wf) (hb : chkR rs ≠ 0) :
    Calls Tryd.prog 19 #[v, .int .u8 (kind : Nat), .string t, .int .u8 (st : Nat)] w fun e w' => e = .returned (.tuple #[(Value.agg #[.int .u8 (Lk.zero.has : Nat), .int .u8 Lk.zero.r, .int .u8 Lk.zero.g, .int .u8 Lk.zero.b, .int .u8 Lk.zero.a, .int .u8 Lk.zero.r2, .int .u8 Lk.zero.g2, .int .u8 Lk.zero.b2, .int .u8 Lk.zero.a2, .bool Lk.zero.bd, .int .i64 Lk.zero.pad]), .int .i64 (chkR rs)]) ∧ Below w.heap.size w w' := by
  have HO : Hid (∀ W, Below w.heap.size w W → Calls Tryd.prog 18 #[v] W fun e w' => e = .returned (.tuple #[.slice none 0 0, .int .i64 (chkR rs)]) ∧ Below W.heap.size W w') := fun W hW => rorder_bad rs v W (hT.below hW) (hv.below hW) hs hb
  have hb' : (chkR rs == 0) = false := beq_eq_false_iff_ne.2 hb
  obtain ⟨oa, cap, rfl, _, _⟩ := hv
  clear hs hT hb
  generalize chkR rs = e0 at *
  go_enter Tryd.func19, Tryd.ntmps19
  go_wp2_with fail
  have KR := Blk.new w (#[.int .u8 (Lk.zero.has : Nat), .int .u8 Lk.zero.r, .int .u8 Lk.zero.g, .int .u8 Lk.zero.b, .int .u8 Lk.zero.a, .int .u8 Lk.zero.r2, .int .u8 Lk.zero.g2, .int .u8 Lk.zero.b2, .int .u8 Lk.zero.a2, .bool Lk.zero.bd, .int .i64 Lk.zero.pad]) 33
  have L0 : Below w.heap.size w (w.alloc (.cells (#[.int .u8 (Lk.zero.has : Nat), .int .u8 Lk.zero.r, .int .u8 Lk.zero.g, .int .u8 Lk.zero.b, .int .u8 Lk.zero.a, .int .u8 Lk.zero.r2, .int .u8 Lk.zero.g2, .int .u8 Lk.zero.b2, .int .u8 Lk.zero.a2, .bool Lk.zero.bd, .int .i64 Lk.zero.pad]) 33)) := (Below.refl _ w).alloc (Nat.le_refl _) _
  simp only [Lk.zero, Int.natCast_zero] at KR L0
  generalize w.alloc (.cells #[.int .u8 0, .int .u8 0, .int .u8 0, .int .u8 0, .int .u8 0, .int .u8 0, .int .u8 0, .int .u8 0, .int .u8 0, .bool false, .int .i64 0] 33) = w0 at *
  refine (HO.out w0 L0).mono ?_
  rintro e w1 ⟨rfl, hb1⟩
  have K1 := KR.below hb1
  have HL : Hid (Below w.heap.size w w1) := L0.trans (hb1.mono L0.size)
  obtain ⟨d0, d1, d2, d3, d4, d5, d6, d7, d8, d9, d10⟩ := K1.at11
  have fR := fun j => K1.frozen j
  clear KR K1 L0 hb1 HO
  go_wp2
  exact bodyPost_ret (v := .tuple #[(Value.agg #[.int .u8 (Lk.zero.has : Nat), .int .u8 Lk.zero.r, .int .u8 Lk.zero.g, .int .u8 Lk.zero.b, .int .u8 Lk.zero.a, .int .u8 Lk.zero.r2, .int .u8 Lk.zero.g2, .int .u8 Lk.zero.b2, .int .u8 Lk.zero.a2, .bool Lk.zero.bd, .int .i64 Lk.zero.pad]), .int .i64 e0]) (by simp [results, Tryd.results19, go_sem, Lk.zero, *]) rfl ⟨rfl, set11_below HL.out (Nat.le_refl _) _ _ _ _ _ _ _ _ _ _ _⟩


theorem okR_15 {r : Rl} (h : okR r = true) : r.state ≤ 15 := by
  unfold okR at h
  simp only [Bool.and_eq_true, decide_eq_true_eq] at h
  exact h.1.2
theorem chk_15 {rs : List Rl} (h : chkR rs = 0) : ∀ r ∈ rs, r.state ≤ 15 := by
  intro r hr
  unfold chkR at h
  by_cases h1 : 256 < rs.length
  · rw [if_pos h1] at h; simp at h
  · rw [if_neg h1] at h
    by_cases h2 : rs.all okR = true
    · exact okR_15 (List.all_eq_true.1 h2 r hr)
    · rw [if_neg h2] at h; simp at h

/-- The last one of the order that holds and tells a thing is the first one, the strongest first, of those that hold. -/
theorem last_plain {rs : List Rl} {kind : Nat} {t : ByteArray} {st fld : Nat} {f : Nat → Nat} {l : List Nat} (hM : Mrg (str rs) id f 0 rs.length) (hH : Held rs kind t st l) : lastN rs kind t st fld f rs.length = whN rs fld (bwd l l.length) := by
  have hl : l = ((List.range rs.length).map f).filter (hAt rs kind t st) := by
    refine list_unique hH.1 ?_ fun x => ?_
    · refine List.Pairwise.filter _ ?_
      rw [List.pairwise_iff_getElem]
      intro i j hi hj hij
      simp only [List.length_map, List.length_range] at hi hj
      simpa using hM.1 i j (Nat.zero_le _) hij hj
    · rw [hH.2.1 x, hs_mem, List.mem_filter]
      constructor
      · rintro ⟨h1, h2⟩
        obtain ⟨j, _, j2, e⟩ := hM.2.bak x (Nat.zero_le _) h1
        exact ⟨List.mem_map.2 ⟨j, List.mem_range.2 j2, e.symm⟩, h2⟩
      · rintro ⟨h1, h2⟩
        obtain ⟨j, hj, rfl⟩ := List.mem_map.1 h1
        exact ⟨order_lt hM (List.mem_range.1 hj), h2⟩
  have hw : ∀ m : List Nat, whN rs fld (bwd m m.length) = (match m.reverse.find? (tells rs fld) with | some x => (x : Int) | none => -1) := by
    intro m
    have e := bwd_snd m m.length (Nat.le_refl _)
    rw [List.take_length] at e
    rw [← e]
    unfold whN
    have : ((bwd m m.length).map (·.2)).find? (tells rs fld) = ((bwd m m.length).find? fun x => tells rs fld x.2).map (·.2) := find_map_congr (fun x : Nat × Nat => x.2) (fun x => tells rs fld x.2) (tells rs fld) _ fun _ _ => rfl
    rw [this]
    cases (bwd m m.length).find? fun x => tells rs fld x.2 <;> rfl
  rw [hw, hl]
  have key : ∀ k, lastN rs kind t st fld f k = (match (((List.range k).map f).filter (hAt rs kind t st)).reverse.find? (tells rs fld) with | some x => (x : Int) | none => -1) := by
    intro k
    induction k with
    | zero => rfl
    | succ k ih =>
      rw [List.range_succ, List.map_append, List.filter_append, List.reverse_append]
      show (if (hAt rs kind t st (f k) && tells rs fld (f k)) = true then (f k : Int) else lastN rs kind t st fld f k) = _
      cases h1 : hAt rs kind t st (f k)
      · simp [h1, ih]
      · cases h2 : tells rs fld (f k)
        · simp [h1, h2, ih]
        · simp [h1, h2]
  exact key _

set_option maxRecDepth 20000 in
set_option maxHeartbeats 4000000 in
theorem rwhich_ok (rs : List Rl) (v : Value) (kind : Nat) (t : ByteArray) (st fld : Nat) (w : World) (hT : Tab w) (hv : Rules w v rs) (hs : ∀ r ∈ rs, r.cls.size ≤ 9223372036854775807 ∧ r.wf) (hl : rs.length < 1000) (hb : chkR rs = 0) (ht : t.size < 1000000000) (hst : st < 256) (f : Nat → Nat) (hM : Mrg (str rs) id f 0 rs.length) (l : List Nat) (hH : Held rs kind t st l) (hf : fld = 1 ∨ fld = 2 ∨ fld = 4 ∨ fld = 8) :
    Calls Tryd.prog 20 #[v, .int .u8 (kind : Nat), .string t, .int .u8 (st : Nat), .int .u8 (fld : Nat)] w fun e w' => e = .returned (.tuple #[.int .i64 (whN rs fld (bwd l l.length)), .int .i64 0]) ∧ Below w.heap.size w w' := by
  have hO := rorder_any rs v w hT hv hs hl hb (chk_15 hb) f hM
  have hI : Hid (∀ B W, Below w.heap.size w W → Row W B 0 rs.length f → Calls Tryd.prog 41 #[v, .slice (some ⟨B, 0, none⟩) rs.length rs.length, .int .u8 (kind : Nat), .string t, .int .u8 (st : Nat), .int .u8 (fld : Nat)] W fun e w' => e = .returned (.int .i64 (whN rs fld (bwd l l.length))) ∧ Below W.heap.size W w') := fun B W hW hR => by
    rw [← last_plain hM hH]
    exact rwhich_inner rs v B f kind t st fld W (hv.below hW) hR (fun i hi => order_lt hM hi) ht (chk_15 hb) hst hl
  obtain ⟨oa, cap, rfl, _, _⟩ := hv
  clear hs hT hb hM hH
  generalize whN rs fld (bwd l l.length) = q at *
  rcases hf with rfl | rfl | rfl | rfl
  all_goals
    go_enter Tryd.func20, Tryd.ntmps20
    go_wp2_with fail
    refine hO.mono ?_
    rintro e w1 ⟨B, rfl, hB, hR, hb1⟩
    have H1 : Hid (Below w.heap.size w w1 ∧ Row w1 B 0 rs.length f) := ⟨hb1, hR⟩
    clear hO hB hR hb1
    go_wp2_with fail
    refine (hI.out B w1 H1.out.1 H1.out.2).mono ?_
    rintro e w2 ⟨rfl, h2⟩
    have H2 : Hid (Below w.heap.size w w2) := H1.out.1.trans (h2.mono H1.out.1.size)
    clear h2 H1 hI
    go_wp2
    exact bodyPost_ret (v := .tuple #[.int .i64 q, .int .i64 0]) (by simp [results, Tryd.results20, go_sem]) rfl ⟨rfl, H2.out⟩

theorem thg_fin : ∀ q : Fin 256, thg q.val = (q.val == 1 || q.val == 2 || q.val == 4 || q.val == 8) := by decide +kernel

set_option maxHeartbeats 2000000 in
theorem rwhich_bad (rs : List Rl) (v : Value) (kind : Nat) (t : ByteArray) (st fld : Nat) (w : World) (hT : Tab w) (hv : Rules w v rs) (hs : ∀ r ∈ rs, r.cls.size ≤ 9223372036854775807 ∧ r.wf) (hb : chkR rs ≠ 0) :
    Calls Tryd.prog 20 #[v, .int .u8 (kind : Nat), .string t, .int .u8 (st : Nat), .int .u8 (fld : Nat)] w fun e w' => e = .returned (.tuple #[.int .i64 0, .int .i64 (chkR rs)]) ∧ Below w.heap.size w w' := by
  have hO := rorder_bad rs v w hT hv hs hb
  have hb' : (chkR rs == 0) = false := beq_eq_false_iff_ne.2 hb
  obtain ⟨oa, cap, rfl, _, _⟩ := hv
  clear hs hT hb
  generalize chkR rs = e0 at *
  go_enter Tryd.func20, Tryd.ntmps20
  go_wp2_with fail
  refine hO.mono ?_
  rintro e w1 ⟨rfl, hb1⟩
  have H1 : Hid (Below w.heap.size w w1) := hb1
  clear hO hb1
  go_wp2
  exact bodyPost_ret (v := .tuple #[.int .i64 0, .int .i64 e0]) (by simp [results, Tryd.results20, go_sem]) rfl ⟨rfl, H1.out⟩

set_option maxHeartbeats 2000000 in
theorem rwhich_arg (rs : List Rl) (v : Value) (kind : Nat) (t : ByteArray) (st fld : Nat) (w : World) (hT : Tab w) (hv : Rules w v rs) (hs : ∀ r ∈ rs, r.cls.size ≤ 9223372036854775807 ∧ r.wf) (hl : rs.length < 1000) (hb : chkR rs = 0) (f : Nat → Nat) (hM : Mrg (str rs) id f 0 rs.length) (f256 : fld < 256) (hf : thg fld = false) :
    Calls Tryd.prog 20 #[v, .int .u8 (kind : Nat), .string t, .int .u8 (st : Nat), .int .u8 (fld : Nat)] w fun e w' => e = .returned (.tuple #[.int .i64 0, .int .i64 2]) ∧ Below w.heap.size w w' := by
  have hO := rorder_any rs v w hT hv hs hl hb (chk_15 hb) f hM
  obtain ⟨oa, cap, rfl, _, _⟩ := hv
  have h4 : fld ≠ 1 ∧ fld ≠ 2 ∧ fld ≠ 4 ∧ fld ≠ 8 := by
    have := thg_fin ⟨fld, f256⟩
    simp only at this
    rw [hf] at this
    simp at this
    omega
  have q1 : ((fld : Int) != 1) = true := bne_iff_ne.2 (by omega)
  have q2 : ((fld : Int) != 2) = true := bne_iff_ne.2 (by omega)
  have q4 : ((fld : Int) != 4) = true := bne_iff_ne.2 (by omega)
  have q8 : ((fld : Int) != 8) = true := bne_iff_ne.2 (by omega)
  obtain ⟨n1, n2, n4, n8⟩ := h4
  clear hs hT hb hM hf
  go_enter Tryd.func20, Tryd.ntmps20
  go_wp2_with fail
  refine hO.mono ?_
  rintro e w1 ⟨B, rfl, hB, hR, hb1⟩
  have H1 : Hid (Below w.heap.size w w1) := hb1
  clear hO hB hR hb1
  go_wp2
  exact bodyPost_ret (v := .tuple #[.int .i64 0, .int .i64 2]) (by simp [results, Tryd.results20, go_sem]) rfl ⟨rfl, H1.out⟩

end Go.Proofs.YtobmpjmpffnoiaaDoor
