/-
  The statements' own look at what the document fixes: it answers true.
-/
import Derived.Test.YtobmpjmpffnoiaaDoorSX4
import Derived.Test.YtobmpjmpffnoiaaDoorReg3
namespace Go.Proofs.YtobmpjmpffnoiaaDoor
open Go.RowKit Go.Shelf

set_option maxHeartbeats 400000 in
theorem red_any (w : World) : Calls Tryd.prog 29 #[] w fun e w' => e = .returned (.agg #[.int .u8 255, .int .u8 0, .int .u8 0, .int .u8 255]) ∧ Below w.heap.size w w' := by
  go_enter Tryd.func29, Tryd.ntmps29
  go_wp2
  exact bodyPost_ret (v := .agg #[.int .u8 255, .int .u8 0, .int .u8 0, .int .u8 255]) (by simp [results, Tryd.results29, go_sem]) rfl ⟨rfl, (Below.refl _ w).alloc (Nat.le_refl _) _⟩
set_option maxHeartbeats 400000 in
theorem green_any (w : World) : Calls Tryd.prog 30 #[] w fun e w' => e = .returned (.agg #[.int .u8 0, .int .u8 255, .int .u8 0, .int .u8 255]) ∧ Below w.heap.size w w' := by
  go_enter Tryd.func30, Tryd.ntmps30
  go_wp2
  exact bodyPost_ret (v := .agg #[.int .u8 0, .int .u8 255, .int .u8 0, .int .u8 255]) (by simp [results, Tryd.results30, go_sem]) rfl ⟨rfl, (Below.refl _ w).alloc (Nat.le_refl _) _⟩
set_option maxHeartbeats 400000 in
theorem blue_any (w : World) : Calls Tryd.prog 31 #[] w fun e w' => e = .returned (.agg #[.int .u8 0, .int .u8 0, .int .u8 255, .int .u8 255]) ∧ Below w.heap.size w w' := by
  go_enter Tryd.func31, Tryd.ntmps31
  go_wp2
  exact bodyPost_ret (v := .agg #[.int .u8 0, .int .u8 0, .int .u8 255, .int .u8 255]) (by simp [results, Tryd.results31, go_sem]) rfl ⟨rfl, (Below.refl _ w).alloc (Nat.le_refl _) _⟩

/-- The rules of the document's examples. -/
def r5 : List Rl := [⟨0, ByteArray.empty, 0, ⟨1, 255, 0, 0, 255, 0, 0, 0, 0, false, 0⟩⟩, ⟨2, ByteArray.empty, 0, ⟨1, 0, 255, 0, 255, 0, 0, 0, 0, false, 0⟩⟩, ⟨0, ⟨#[98, 105, 103]⟩, 0, ⟨9, 0, 0, 255, 255, 0, 0, 0, 0, false, 2⟩⟩, ⟨0, ByteArray.empty, 1, ⟨2, 0, 0, 0, 0, 255, 255, 255, 255, false, 0⟩⟩, ⟨2, ByteArray.empty, 0, ⟨8, 0, 0, 0, 0, 0, 0, 0, 0, false, 1⟩⟩]
def c5 : Array Value := #[.int .u8 0, .string ByteArray.empty, .int .u8 0, .int .u8 1, .int .u8 255, .int .u8 0, .int .u8 0, .int .u8 255, .int .u8 0, .int .u8 0, .int .u8 0, .int .u8 0, .bool false, .int .i64 0, .int .u8 2, .string ByteArray.empty, .int .u8 0, .int .u8 1, .int .u8 0, .int .u8 255, .int .u8 0, .int .u8 255, .int .u8 0, .int .u8 0, .int .u8 0, .int .u8 0, .bool false, .int .i64 0, .int .u8 0, .string ⟨#[98, 105, 103]⟩, .int .u8 0, .int .u8 9, .int .u8 0, .int .u8 0, .int .u8 255, .int .u8 255, .int .u8 0, .int .u8 0, .int .u8 0, .int .u8 0, .bool false, .int .i64 2, .int .u8 0, .string ByteArray.empty, .int .u8 1, .int .u8 2, .int .u8 0, .int .u8 0, .int .u8 0, .int .u8 0, .int .u8 255, .int .u8 255, .int .u8 255, .int .u8 255, .bool false, .int .i64 0, .int .u8 2, .string ByteArray.empty, .int .u8 0, .int .u8 8, .int .u8 0, .int .u8 0, .int .u8 0, .int .u8 0, .int .u8 0, .int .u8 0, .int .u8 0, .int .u8 0, .bool false, .int .i64 1]
theorem rules_r5 {W : World} {g : Nat} {t : TypeId} (h : Blk W g c5 t) : Rules W (.slice (some ⟨g, 0, none⟩) 5 5) r5 := by
  refine ⟨_, 5, rfl, Nat.le_refl _, fun _ => ⟨g, 0, rfl, h.lt, fun i hi => ?_⟩⟩
  match i, hi with
  | 0, _ => exact ⟨h.cell 0, h.cell 1, h.cell 2, h.cell 3, h.cell 4, h.cell 5, h.cell 6, h.cell 7, h.cell 8, h.cell 9, h.cell 10, h.cell 11, h.cell 12, h.cell 13⟩
  | 1, _ => exact ⟨h.cell 14, h.cell 15, h.cell 16, h.cell 17, h.cell 18, h.cell 19, h.cell 20, h.cell 21, h.cell 22, h.cell 23, h.cell 24, h.cell 25, h.cell 26, h.cell 27⟩
  | 2, _ => exact ⟨h.cell 28, h.cell 29, h.cell 30, h.cell 31, h.cell 32, h.cell 33, h.cell 34, h.cell 35, h.cell 36, h.cell 37, h.cell 38, h.cell 39, h.cell 40, h.cell 41⟩
  | 3, _ => exact ⟨h.cell 42, h.cell 43, h.cell 44, h.cell 45, h.cell 46, h.cell 47, h.cell 48, h.cell 49, h.cell 50, h.cell 51, h.cell 52, h.cell 53, h.cell 54, h.cell 55⟩
  | 4, _ => exact ⟨h.cell 56, h.cell 57, h.cell 58, h.cell 59, h.cell 60, h.cell 61, h.cell 62, h.cell 63, h.cell 64, h.cell 65, h.cell 66, h.cell 67, h.cell 68, h.cell 69⟩
  | n + 5, hi => exact absurd hi (by simp [r5])
theorem chk_r5 : chkR r5 = 0 := by decide +kernel
theorem wf_r5 : ∀ r ∈ r5, r.cls.size ≤ 9223372036854775807 ∧ r.wf := by
  intro r hr
  simp only [r5, List.mem_cons, List.not_mem_nil, or_false] at hr
  rcases hr with rfl | rfl | rfl | rfl | rfl <;> exact ⟨by decide, by decide, by decide, by decide⟩

def wkB (s : Nat → Int) (x y : Nat) : Bool := decide (s x < s y) || (decide (s x = s y) && decide (x < y))
def pwB (s : Nat → Int) : List Nat → Bool
  | [] => true
  | a :: t => t.all (wkB s a) && pwB s t
theorem pw_of {s : Nat → Int} : ∀ {l : List Nat}, pwB s l = true → l.Pairwise (Wk s)
  | [], _ => List.Pairwise.nil
  | a :: t, h => by
    simp only [pwB, Bool.and_eq_true, List.all_eq_true] at h
    refine List.Pairwise.cons (fun x hx => ?_) (pw_of h.2)
    have := h.1 x hx
    unfold wkB at this
    unfold Wk
    simpa using this
theorem list_unique {s : Nat → Int} : ∀ {l m : List Nat}, l.Pairwise (Wk s) → m.Pairwise (Wk s) → (∀ x, x ∈ l ↔ x ∈ m) → l = m
  | [], [], _, _, _ => rfl
  | [], b :: t, _, _, h => absurd ((h b).2 (by simp)) (by simp)
  | a :: t, [], _, _, h => absurd ((h a).1 (by simp)) (by simp)
  | a :: t, b :: u, h1, h2, h => by
    obtain ⟨p1, p2⟩ := List.pairwise_cons.1 h1
    obtain ⟨q1, q2⟩ := List.pairwise_cons.1 h2
    have hab : a = b := by
      rcases List.mem_cons.1 ((h a).1 (by simp)) with e | e
      · exact e
      · rcases List.mem_cons.1 ((h b).2 (by simp)) with e' | e'
        · exact e'.symm
        · exact ((q1 a e).trans (p1 b e')).irrefl.elim
    subst hab
    have : t = u := list_unique p2 q2 fun x => by
      constructor
      · intro hx
        rcases List.mem_cons.1 ((h x).1 (List.mem_cons_of_mem _ hx)) with e | e
        · subst e; exact ((p1 _ hx).irrefl).elim
        · exact e
      · intro hx
        rcases List.mem_cons.1 ((h x).2 (List.mem_cons_of_mem _ hx)) with e | e
        · subst e; exact ((q1 _ hx).irrefl).elim
        · exact e
    rw [this]
theorem held_is {rs : List Rl} {kind : Nat} {t : ByteArray} {st : Nat} {l m : List Nat} (h : Held rs kind t st l) (hm : pwB (str rs) m = true) (he : ∀ x, x ∈ m ↔ x ∈ hs rs kind t st rs.length) : l = m :=
  list_unique h.1 (pw_of hm) fun x => (h.2.1 x).trans (he x).symm

def tSB : ByteArray := ⟨#[115, 109, 97, 108, 108, 32, 98, 105, 103]⟩
def tB : ByteArray := ⟨#[98, 105, 103]⟩
theorem hs1 : hs r5 2 ByteArray.empty 0 5 = [0, 1, 4] := by decide +kernel
theorem hs2 : hs r5 2 tSB 1 5 = [0, 1, 2, 3, 4] := by decide +kernel
theorem hs3 : hs r5 2 tB 0 5 = [0, 1, 2, 4] := by decide +kernel
theorem h1_is {l : List Nat} (h : Held r5 2 ByteArray.empty 0 l) : l = [0, 1, 4] := held_is h (by decide +kernel) (fun x => by rw [show r5.length = 5 from rfl, hs1])
theorem h2_is {l : List Nat} (h : Held r5 2 tSB 1 l) : l = [0, 1, 4, 2, 3] := held_is h (by decide +kernel) (fun x => by rw [show r5.length = 5 from rfl, hs2]; simp; omega)
theorem h3_is {l : List Nat} (h : Held r5 2 tB 0 l) : l = [0, 1, 4, 2] := held_is h (by decide +kernel) (fun x => by rw [show r5.length = 5 from rfl, hs3]; simp; omega)
theorem ly1 : ly (lks r5 (bwd [0, 1, 4] 3)) = ⟨9, 0, 255, 0, 255, 0, 0, 0, 0, false, 1⟩ := by kernel_rfl
theorem ly2 : ly (lks r5 (bwd [0, 1, 4, 2, 3] 5)) = ⟨11, 0, 0, 255, 255, 255, 255, 255, 255, false, 2⟩ := by kernel_rfl
theorem wh3 : whN r5 1 (bwd [0, 1, 4, 2] 4) = 2 := by decide +kernel
theorem ord_is {f : Nat → Nat} (h : Mrg (str r5) id f 0 5) : f 0 = 0 ∧ f 1 = 1 ∧ f 2 = 4 ∧ f 3 = 2 ∧ f 4 = 3 := by
  have e : (List.range 5).map f = [0, 1, 4, 2, 3] := by
    refine list_unique (s := str r5) ?_ (pw_of (by decide +kernel)) fun x => ?_
    · rw [List.pairwise_iff_getElem]
      intro i j hi hj hij
      simp only [List.length_map, List.length_range] at hi hj
      simpa using h.1 i j (Nat.zero_le _) hij hj
    · constructor
      · intro hx
        obtain ⟨i, hi, rfl⟩ := List.mem_map.1 hx
        obtain ⟨j, _, j2, e⟩ := h.2.inn i (Nat.zero_le _) (List.mem_range.1 hi)
        rw [e]
        simp only [id, List.mem_cons, List.not_mem_nil, or_false]
        omega
      · intro hx
        have hx5 : x < 5 := by simp at hx; omega
        obtain ⟨j, _, j2, e⟩ := h.2.bak x (Nat.zero_le _) hx5
        exact List.mem_map.2 ⟨j, List.mem_range.2 j2, e.symm⟩
  have q := fun i : Nat => congrArg (fun l : List Nat => l[i]?) e
  have q0 := q 0
  have q1 := q 1
  have q2 := q 2
  have q3 := q 3
  have q4 := q 4
  simp at q0 q1 q2 q3 q4
  exact ⟨q0, q1, q2, q3, q4⟩
def r1 : List Rl := [⟨11, ByteArray.empty, 0, Lk.zero⟩]
theorem chk_r1 : chkR r1 = 50 := by decide +kernel

set_option maxRecDepth 200000 in
set_option maxHeartbeats 20000000 in
theorem alive_any (w : World) (hT : Tab w) : Calls Tryd.prog 9 #[] w fun e w' => e = .returned (.bool true) ∧ Below w.heap.size w w' := by
  go_enter Tryd.func9, Tryd.ntmps9
  go_wp2_with fail
  have A := Blk.new w #[.int .u8 255, .int .u8 255, .int .u8 255, .int .u8 255] 31
  have L : Below w.heap.size w (w.alloc (.cells #[.int .u8 255, .int .u8 255, .int .u8 255, .int .u8 255] 31)) := (Below.refl _ w).alloc (Nat.le_refl _) _
  generalize w.alloc (.cells #[.int .u8 255, .int .u8 255, .int .u8 255, .int .u8 255] 31) = W at *
  have HW : Hid (Blk W w.heap.size #[.int .u8 255, .int .u8 255, .int .u8 255, .int .u8 255] 31 ∧ Below w.heap.size w W ∧ Tab w) := ⟨A, L, hT⟩
  clear A L hT
  refine R3.wp_region_lit 14 1 1 (fun _ b => .slice (some ⟨b, 0, none⟩) 5 5) (fun _ => .cells c5 35) [29] (by kernel_rfl) (by kernel_rfl) rfl ?_ rfl ?_
  · intro k hk
    have hc : k = 0 := by omega
    subst hc; rfl
  apply Exists.intro
  refine ⟨fun bs ne => ?_, ?_, ?_⟩
  · have d0 := fun t : Gb W bs => (HW.out.1.below t.below).at4.1
    have d1 := fun t : Gb W bs => (HW.out.1.below t.below).at4.2.1
    have d2 := fun t : Gb W bs => (HW.out.1.below t.below).at4.2.2.1
    have d3 := fun t : Gb W bs => (HW.out.1.below t.below).at4.2.2.2
    simp only [List.take_succ_cons, List.take_zero]
    repeat (go_big_quiet_step (first
      | (go_at_call 29; exact gb_call (red_any _))
      | (go_at_call 30; exact gb_call (green_any _))
      | (go_at_call 31; exact gb_call (blue_any _))))
    exact wpQuiet_nil rfl
  · intro i h1 h2
    have hc : i = 14 := by omega
    subst hc
    exact ⟨_, rfl, rfl, fun _ => by kernel_rfl⟩
  intro bl wr0 hbl hlo _
  obtain ⟨q1, q2⟩ := hlo 14 (by omega) (by omega)
  simp only [R3.layL]
  generalize bl 14 = g0 at *
  clear hlo
  have HWh : Hid (Blk wr0 w.heap.size #[.int .u8 255, .int .u8 255, .int .u8 255, .int .u8 255] 31) := HW.out.1.below hbl
  have HG : Hid (Blk wr0 g0 c5 35 ∧ W.heap.size ≤ g0 ∧ Below w.heap.size w wr0 ∧ Tab wr0) := ⟨q2, q1, HW.out.2.1.trans (hbl.mono HW.out.2.1.size), HW.out.2.2.below (HW.out.2.1.trans (hbl.mono HW.out.2.1.size))⟩
  clear q1 q2 hbl
  refine wpAny_one 15 (by kernel_rfl) rfl ?_
  intro K hK
  go_simp
  refine hK _ _ ?_
  clear hK K
  refine wpAny_done (by kernel_rfl) ?_ _
  go_wp2_with fail
  have hR : Hid (∀ w', Below wr0.heap.size wr0 w' → Rules w' (.slice (some ⟨g0, 0, none⟩) 5 5) r5 ∧ Tab w') := fun w' hb => ⟨rules_r5 (HG.out.1.below hb), HG.out.2.2.2.below hb⟩
  refine (order_any r5 _ wr0 (hR.out _ (Below.refl _ _)).2 (hR.out _ (Below.refl _ _)).1 wf_r5 (by decide) chk_r5).mono ?_
  rintro e w1 ⟨B, f, rfl, hB, hRow, hM, hb⟩
  obtain ⟨e0, e1, e2, e3, e4⟩ := ord_is hM
  have k0 := hRow.at' 0 (by decide)
  have k1 := hRow.at' 1 (by decide)
  have k2 := hRow.at' 2 (by decide)
  have k3 := hRow.at' 3 (by decide)
  have k4 := hRow.at' 4 (by decide)
  rw [e0] at k0
  rw [e1] at k1
  rw [e2] at k2
  rw [e3] at k3
  rw [e4] at k4
  have H1 : Hid (Below wr0.heap.size wr0 w1 ∧ B < w1.heap.size ∧ w1.cell? ⟨B, 0 + 0, none⟩ = some (.int .i64 0) ∧ w1.cell? ⟨B, 0 + 1, none⟩ = some (.int .i64 1) ∧ w1.cell? ⟨B, 0 + 2, none⟩ = some (.int .i64 4) ∧ w1.cell? ⟨B, 0 + 3, none⟩ = some (.int .i64 2) ∧ w1.cell? ⟨B, 0 + 4, none⟩ = some (.int .i64 3)) := ⟨hb, hRow.lt, k0, k1, k2, k3, k4⟩
  clear hRow hM hb e0 e1 e2 e3 e4 k0 k1 k2 k3 k4 hB
  rw [show r5.length = 5 from rfl]
  have C1 : Hid (∀ w', Below wr0.heap.size wr0 w' → Calls Tryd.prog 14 #[.slice (some ⟨g0, 0, none⟩) 5 5, .int .u8 2, .string ⟨#[]⟩, .int .u8 0] w' fun e w'' => e = .returned (.tuple #[(Value.agg #[.int .u8 9, .int .u8 0, .int .u8 255, .int .u8 0, .int .u8 255, .int .u8 0, .int .u8 0, .int .u8 0, .int .u8 0, .bool false, .int .i64 1]), .int .i64 0]) ∧ Below w'.heap.size w' w'') := fun w' hb =>
    (look_ok r5 _ 2 ByteArray.empty 0 w' (hR.out _ hb).2 (hR.out _ hb).1 wf_r5 (by decide) (by decide) chk_r5).mono fun e w'' ⟨l, hl, he, hw⟩ => by
      obtain rfl := h1_is hl
      rw [show ([0, 1, 4] : List Nat).length = 3 from rfl, ly1] at he
      exact ⟨he, hw⟩
  have C2 : Hid (∀ w', Below wr0.heap.size wr0 w' → Calls Tryd.prog 14 #[.slice (some ⟨g0, 0, none⟩) 5 5, .int .u8 2, .string ⟨#[115, 109, 97, 108, 108, 32, 98, 105, 103]⟩, .int .u8 1] w' fun e w'' => e = .returned (.tuple #[(Value.agg #[.int .u8 11, .int .u8 0, .int .u8 0, .int .u8 255, .int .u8 255, .int .u8 255, .int .u8 255, .int .u8 255, .int .u8 255, .bool false, .int .i64 2]), .int .i64 0]) ∧ Below w'.heap.size w' w'') := fun w' hb =>
    (look_ok r5 _ 2 tSB 1 w' (hR.out _ hb).2 (hR.out _ hb).1 wf_r5 (by decide) (by decide) chk_r5).mono fun e w'' ⟨l, hl, he, hw⟩ => by
      obtain rfl := h2_is hl
      rw [show ([0, 1, 4, 2, 3] : List Nat).length = 5 from rfl, ly2] at he
      exact ⟨he, hw⟩
  have C3 : Hid (∀ w', Below wr0.heap.size wr0 w' → Calls Tryd.prog 17 #[.slice (some ⟨g0, 0, none⟩) 5 5, .int .u8 2, .string ⟨#[98, 105, 103]⟩, .int .u8 0, .int .u8 1] w' fun e w'' => e = .returned (.tuple #[.int .i64 2, .int .i64 0]) ∧ Below w'.heap.size w' w'') := fun w' hb =>
    (which_ok r5 _ 2 tB 0 1 w' (hR.out _ hb).2 (hR.out _ hb).1 wf_r5 (by decide) (by decide) chk_r5 (by decide +kernel)).mono fun e w'' ⟨l, hl, he, hw⟩ => by
      obtain rfl := h3_is hl
      rw [show ([0, 1, 4, 2] : List Nat).length = 4 from rfl, wh3] at he
      exact ⟨he, hw⟩
  have C4 : Hid (∀ w', Below wr0.heap.size wr0 w' → Calls Tryd.prog 17 #[.slice (some ⟨g0, 0, none⟩) 5 5, .int .u8 1, .string ⟨#[]⟩, .int .u8 0, .int .u8 3] w' fun e w'' => e = .returned (.tuple #[.int .i64 0, .int .i64 2]) ∧ Below w'.heap.size w' w'') := fun w' hb =>
    which_arg r5 _ 1 ByteArray.empty 0 3 w' (hR.out _ hb).2 (hR.out _ hb).1 wf_r5 chk_r5 (by decide +kernel) (by decide)
  go_wp2_with fail
  refine (C1.out _ H1.out.1).mono ?_
  rintro e w2 ⟨rfl, hb⟩
  have H2 : Hid (Below wr0.heap.size wr0 (w2.alloc (.cells #[.int .u8 9, .int .u8 0, .int .u8 255, .int .u8 0, .int .u8 255, .int .u8 0, .int .u8 0, .int .u8 0, .int .u8 0, .bool false, .int .i64 1] 33)) ∧ Below w1.heap.size w1 (w2.alloc (.cells #[.int .u8 9, .int .u8 0, .int .u8 255, .int .u8 0, .int .u8 255, .int .u8 0, .int .u8 0, .int .u8 0, .int .u8 0, .bool false, .int .i64 1] 33)) ∧ Blk (w2.alloc (.cells #[.int .u8 9, .int .u8 0, .int .u8 255, .int .u8 0, .int .u8 255, .int .u8 0, .int .u8 0, .int .u8 0, .int .u8 0, .bool false, .int .i64 1] 33)) w2.heap.size #[.int .u8 9, .int .u8 0, .int .u8 255, .int .u8 0, .int .u8 255, .int .u8 0, .int .u8 0, .int .u8 0, .int .u8 0, .bool false, .int .i64 1] 33) := by
    have h := H1.out.1.trans (hb.mono H1.out.1.size)
    exact ⟨h.alloc h.size _, hb.alloc hb.size _, Blk.new _ _ _⟩
  clear hb
  go_wp2_with fail
  refine (C2.out _ H2.out.1).mono ?_
  rintro e w3 ⟨rfl, hb⟩
  have H3 : Hid (Below wr0.heap.size wr0 (w3.alloc (.cells #[.int .u8 11, .int .u8 0, .int .u8 0, .int .u8 255, .int .u8 255, .int .u8 255, .int .u8 255, .int .u8 255, .int .u8 255, .bool false, .int .i64 2] 33)) ∧ Below w1.heap.size w1 (w3.alloc (.cells #[.int .u8 11, .int .u8 0, .int .u8 0, .int .u8 255, .int .u8 255, .int .u8 255, .int .u8 255, .int .u8 255, .int .u8 255, .bool false, .int .i64 2] 33)) ∧ Blk (w3.alloc (.cells #[.int .u8 11, .int .u8 0, .int .u8 0, .int .u8 255, .int .u8 255, .int .u8 255, .int .u8 255, .int .u8 255, .int .u8 255, .bool false, .int .i64 2] 33)) w2.heap.size #[.int .u8 9, .int .u8 0, .int .u8 255, .int .u8 0, .int .u8 255, .int .u8 0, .int .u8 0, .int .u8 0, .int .u8 0, .bool false, .int .i64 1] 33 ∧ Blk (w3.alloc (.cells #[.int .u8 11, .int .u8 0, .int .u8 0, .int .u8 255, .int .u8 255, .int .u8 255, .int .u8 255, .int .u8 255, .int .u8 255, .bool false, .int .i64 2] 33)) w3.heap.size #[.int .u8 11, .int .u8 0, .int .u8 0, .int .u8 255, .int .u8 255, .int .u8 255, .int .u8 255, .int .u8 255, .int .u8 255, .bool false, .int .i64 2] 33) := by
    have h := H2.out.1.trans (hb.mono H2.out.1.size)
    have h' := H2.out.2.1.trans (hb.mono H2.out.2.1.size)
    exact ⟨h.alloc h.size _, h'.alloc h'.size _, (H2.out.2.2.below hb).alloc _, Blk.new _ _ _⟩
  clear hb
  go_wp2_with fail
  refine (C3.out _ H3.out.1).mono ?_
  rintro e w4 ⟨rfl, hb⟩
  have H4 : Hid (Below wr0.heap.size wr0 w4 ∧ Below w1.heap.size w1 w4 ∧ Blk w4 w2.heap.size #[.int .u8 9, .int .u8 0, .int .u8 255, .int .u8 0, .int .u8 255, .int .u8 0, .int .u8 0, .int .u8 0, .int .u8 0, .bool false, .int .i64 1] 33 ∧ Blk w4 w3.heap.size #[.int .u8 11, .int .u8 0, .int .u8 0, .int .u8 255, .int .u8 255, .int .u8 255, .int .u8 255, .int .u8 255, .int .u8 255, .bool false, .int .i64 2] 33) := ⟨H3.out.1.trans (hb.mono H3.out.1.size), H3.out.2.1.trans (hb.mono H3.out.2.1.size), H3.out.2.2.1.below hb, H3.out.2.2.2.below hb⟩
  clear hb
  go_wp2_with fail
  refine (C4.out _ H4.out.1).mono ?_
  rintro e w5 ⟨rfl, hb⟩
  have H5 : Hid (Below wr0.heap.size wr0 w5 ∧ Below w1.heap.size w1 w5 ∧ Blk w5 w2.heap.size #[.int .u8 9, .int .u8 0, .int .u8 255, .int .u8 0, .int .u8 255, .int .u8 0, .int .u8 0, .int .u8 0, .int .u8 0, .bool false, .int .i64 1] 33 ∧ Blk w5 w3.heap.size #[.int .u8 11, .int .u8 0, .int .u8 0, .int .u8 255, .int .u8 255, .int .u8 255, .int .u8 255, .int .u8 255, .int .u8 255, .bool false, .int .i64 2] 33) := ⟨H4.out.1.trans (hb.mono H4.out.1.size), H4.out.2.1.trans (hb.mono H4.out.2.1.size), H4.out.2.2.1.below hb, H4.out.2.2.2.below hb⟩
  clear hb C1 C2 C3 C4
  obtain ⟨_, hBl, k0, k1, k2, k3, k4⟩ := H1.out
  have hB5 : ∀ o, ∀ t : Gw w5, t.wd.cell? ⟨B, o, none⟩ = w1.cell? ⟨B, o, none⟩ := fun o t => (H5.out.2.1.trans (t.below.mono H5.out.2.1.size)).cell (p := ⟨B, o, none⟩) hBl
  simp only [Nat.zero_add, Nat.add_zero] at k0 k1 k2 k3 k4
  have m0 := fun t : Gw w5 => (hB5 0 t).trans k0
  have m1 := fun t : Gw w5 => (hB5 1 t).trans k1
  have m2 := fun t : Gw w5 => (hB5 2 t).trans k2
  have m3 := fun t : Gw w5 => (hB5 3 t).trans k3
  have m4 := fun t : Gw w5 => (hB5 4 t).trans k4
  have qa := fun t : Gw w5 => (H5.out.2.2.1.below t.below).at11
  have qb := fun t : Gw w5 => (H5.out.2.2.2.below t.below).at11
  have a0 := fun t : Gw w5 => (qa t).1
  have a1 := fun t : Gw w5 => (qa t).2.1
  have a2 := fun t : Gw w5 => (qa t).2.2.1
  have a3 := fun t : Gw w5 => (qa t).2.2.2.1
  have a4 := fun t : Gw w5 => (qa t).2.2.2.2.1
  have a5 := fun t : Gw w5 => (qa t).2.2.2.2.2.1
  have a6 := fun t : Gw w5 => (qa t).2.2.2.2.2.2.1
  have a7 := fun t : Gw w5 => (qa t).2.2.2.2.2.2.2.1
  have a8 := fun t : Gw w5 => (qa t).2.2.2.2.2.2.2.2.1
  have a9 := fun t : Gw w5 => (qa t).2.2.2.2.2.2.2.2.2.1
  have a10 := fun t : Gw w5 => (qa t).2.2.2.2.2.2.2.2.2.2
  have hq1 : ∀ w, (binOp .eql 33 (Value.agg #[.int .u8 9, .int .u8 0, .int .u8 255, .int .u8 0, .int .u8 255, .int .u8 0, .int .u8 0, .int .u8 0, .int .u8 0, .bool false, .int .i64 1]) (Value.agg #[.int .u8 9, .int .u8 0, .int .u8 255, .int .u8 0, .int .u8 255, .int .u8 0, .int .u8 0, .int .u8 0, .int .u8 0, .bool false, .int .i64 1])).run Tryd.prog w = .ok (.bool true) w := fun w => by
    have h := eql_look ⟨9, 0, 255, 0, 255, 0, 0, 0, 0, false, 1⟩ ⟨9, 0, 255, 0, 255, 0, 0, 0, 0, false, 1⟩ w
    rw [eqL_refl] at h
    exact h
  have hq2 : ∀ w, (binOp .eql 33 (Value.agg #[.int .u8 11, .int .u8 0, .int .u8 0, .int .u8 255, .int .u8 255, .int .u8 255, .int .u8 255, .int .u8 255, .int .u8 255, .bool false, .int .i64 2]) (Value.agg #[.int .u8 11, .int .u8 0, .int .u8 0, .int .u8 255, .int .u8 255, .int .u8 255, .int .u8 255, .int .u8 255, .int .u8 255, .bool false, .int .i64 2])).run Tryd.prog w = .ok (.bool true) w := fun w => by
    have h := eql_look ⟨11, 0, 0, 255, 255, 255, 255, 255, 255, false, 2⟩ ⟨11, 0, 0, 255, 255, 255, 255, 255, 255, false, 2⟩ w
    rw [eqL_refl] at h
    exact h
  have L5 : Below w5.heap.size w5 w5 := Below.refl _ _
  have ne := gw_ne L5
  clear qa qb hB5 k0 k1 k2 k3 k4 L5
  go_wp2_with fail
  refine wp_region_gw (by kernel_rfl) (by kernel_rfl) ?_
  repeat (go_big_quiet_step (first
    | (go_at_call 30; exact gw_call (green_any _))))
  refine wpQuiet_nil ?_
  rintro _ ⟨t, rfl⟩
  have H6 : Hid (Blk t.wd w3.heap.size #[.int .u8 11, .int .u8 0, .int .u8 0, .int .u8 255, .int .u8 255, .int .u8 255, .int .u8 255, .int .u8 255, .int .u8 255, .bool false, .int .i64 2] 33 ∧ Below wr0.heap.size wr0 t.wd) := ⟨H5.out.2.2.2.below t.below, H5.out.1.trans (t.below.mono H5.out.1.size)⟩
  clear a0 a1 a2 a3 a4 a5 a6 a7 a8 a9 a10 m0 m1 m2 m3 m4 ne hq1
  generalize t.wd = w6 at *
  obtain ⟨PP, hPP⟩ : ∃ PP : World → Prop, PP = fun w7 => Below wr0.heap.size wr0 w7 ∧ Blk w7 w3.heap.size #[.int .u8 11, .int .u8 0, .int .u8 0, .int .u8 255, .int .u8 255, .int .u8 255, .int .u8 255, .int .u8 255, .int .u8 255, .bool false, .int .i64 2] 33 := ⟨_, rfl⟩
  have hcells : Hid (∀ w7, PP w7 → w7.cell? ⟨w3.heap.size, 0, none⟩ = some (.int .u8 11) ∧ w7.cell? ⟨w3.heap.size, 1, none⟩ = some (.int .u8 0) ∧ w7.cell? ⟨w3.heap.size, 2, none⟩ = some (.int .u8 0) ∧ w7.cell? ⟨w3.heap.size, 3, none⟩ = some (.int .u8 255) ∧ w7.cell? ⟨w3.heap.size, 4, none⟩ = some (.int .u8 255) ∧ w7.cell? ⟨w3.heap.size, 5, none⟩ = some (.int .u8 255) ∧ w7.cell? ⟨w3.heap.size, 6, none⟩ = some (.int .u8 255) ∧ w7.cell? ⟨w3.heap.size, 7, none⟩ = some (.int .u8 255) ∧ w7.cell? ⟨w3.heap.size, 8, none⟩ = some (.int .u8 255) ∧ w7.cell? ⟨w3.heap.size, 9, none⟩ = some (.bool false) ∧ w7.cell? ⟨w3.heap.size, 10, none⟩ = some (.int .i64 2) ∧ w7.cell? ⟨w.heap.size, 0, none⟩ = some (.int .u8 255) ∧ w7.cell? ⟨w.heap.size, 1, none⟩ = some (.int .u8 255) ∧ w7.cell? ⟨w.heap.size, 2, none⟩ = some (.int .u8 255) ∧ w7.cell? ⟨w.heap.size, 3, none⟩ = some (.int .u8 255)) := fun w7 h => by
    rw [hPP] at h
    obtain ⟨y0, y1, y2, y3⟩ := (HWh.out.below h.1).at4
    obtain ⟨x0, x1, x2, x3, x4, x5, x6, x7, x8, x9, x10⟩ := h.2.at11
    exact ⟨x0, x1, x2, x3, x4, x5, x6, x7, x8, x9, x10, y0, y1, y2, y3⟩
  have hdrew : PP w6.drew := by rw [hPP]; exact ⟨H6.out.2.drew, H6.out.1⟩
  have HP6 : Hid (PP w6.drew ∧ PP = fun w7 => Below wr0.heap.size wr0 w7 ∧ Blk w7 w3.heap.size #[.int .u8 11, .int .u8 0, .int .u8 0, .int .u8 255, .int .u8 255, .int .u8 255, .int .u8 255, .int .u8 255, .int .u8 255, .bool false, .int .i64 2] 33) := ⟨hdrew, hPP⟩
  have HBl : Hid (∀ w7, PP w7 → Calls Tryd.prog 31 #[] w7 fun e w' => e = .returned (.agg #[.int .u8 0, .int .u8 0, .int .u8 255, .int .u8 255]) ∧ PP w' ∧ w'.cell? ⟨w3.heap.size, 0, none⟩ = some (.int .u8 11) ∧ w'.cell? ⟨w3.heap.size, 1, none⟩ = some (.int .u8 0) ∧ w'.cell? ⟨w3.heap.size, 2, none⟩ = some (.int .u8 0) ∧ w'.cell? ⟨w3.heap.size, 3, none⟩ = some (.int .u8 255) ∧ w'.cell? ⟨w3.heap.size, 4, none⟩ = some (.int .u8 255) ∧ w'.cell? ⟨w3.heap.size, 5, none⟩ = some (.int .u8 255) ∧ w'.cell? ⟨w3.heap.size, 6, none⟩ = some (.int .u8 255) ∧ w'.cell? ⟨w3.heap.size, 7, none⟩ = some (.int .u8 255) ∧ w'.cell? ⟨w3.heap.size, 8, none⟩ = some (.int .u8 255) ∧ w'.cell? ⟨w3.heap.size, 9, none⟩ = some (.bool false) ∧ w'.cell? ⟨w3.heap.size, 10, none⟩ = some (.int .i64 2) ∧ w'.cell? ⟨w.heap.size, 0, none⟩ = some (.int .u8 255) ∧ w'.cell? ⟨w.heap.size, 1, none⟩ = some (.int .u8 255) ∧ w'.cell? ⟨w.heap.size, 2, none⟩ = some (.int .u8 255) ∧ w'.cell? ⟨w.heap.size, 3, none⟩ = some (.int .u8 255)) := fun w7 h => (blue_any w7).mono fun e w' ⟨he, hb⟩ => by
    have h' : PP w' := by
      rw [hPP] at h ⊢
      exact ⟨h.1.trans (hb.mono h.1.size), h.2.below hb⟩
    exact ⟨he, h', hcells.out w' h'⟩
  have HCk : Hid (∀ w7, PP w7 → Calls Tryd.prog 15 #[.slice (some ⟨w7.heap.size, 0, none⟩) 1 1] (w7.alloc (.cells #[.int .u8 11, .string ⟨#[]⟩, .int .u8 0, .int .u8 0, .int .u8 0, .int .u8 0, .int .u8 0, .int .u8 0, .int .u8 0, .int .u8 0, .int .u8 0, .int .u8 0, .bool false, .int .i64 0] 35)) fun e w' => e = .returned (.int .i64 50) ∧ Below wr0.heap.size wr0 w') := fun w7 h => by
    rw [hPP] at h
    have hb : Below wr0.heap.size wr0 (w7.alloc (.cells #[.int .u8 11, .string ⟨#[]⟩, .int .u8 0, .int .u8 0, .int .u8 0, .int .u8 0, .int .u8 0, .int .u8 0, .int .u8 0, .int .u8 0, .int .u8 0, .int .u8 0, .bool false, .int .i64 0] 35)) := h.1.alloc h.1.size _
    have k := Blk.new w7 #[.int .u8 11, .string ⟨#[]⟩, .int .u8 0, .int .u8 0, .int .u8 0, .int .u8 0, .int .u8 0, .int .u8 0, .int .u8 0, .int .u8 0, .int .u8 0, .int .u8 0, .bool false, .int .i64 0] 35
    have hr : Rules (w7.alloc (.cells #[.int .u8 11, .string ⟨#[]⟩, .int .u8 0, .int .u8 0, .int .u8 0, .int .u8 0, .int .u8 0, .int .u8 0, .int .u8 0, .int .u8 0, .int .u8 0, .int .u8 0, .bool false, .int .i64 0] 35)) (.slice (some ⟨w7.heap.size, 0, none⟩) 1 1) r1 := by
      refine ⟨_, 1, rfl, Nat.le_refl _, fun _ => ⟨w7.heap.size, 0, rfl, k.lt, fun i hi => ?_⟩⟩
      match i, hi with
      | 0, _ => exact ⟨k.cell 0, k.cell 1, k.cell 2, k.cell 3, k.cell 4, k.cell 5, k.cell 6, k.cell 7, k.cell 8, k.cell 9, k.cell 10, k.cell 11, k.cell 12, k.cell 13⟩
      | n + 1, hi => exact absurd hi (by simp [r1])
    have c := check_rules r1 _ _ (HG.out.2.2.2.below hb) hr (by
      intro r hr
      simp only [r1, List.mem_cons, List.not_mem_nil, or_false] at hr
      subst hr
      exact ⟨by decide, by decide, by decide, by decide⟩)
    rw [chk_r1] at c
    exact c.mono fun e w' ⟨he, h2⟩ => ⟨he, hb.trans (h2.mono hb.size)⟩
  obtain ⟨z0, z1, z2, z3, z4, z5, z6, z7, z8, z9, z10, z11, z12, z13, z14⟩ := hcells.out _ HP6.out.1
  clear hPP hdrew hcells
  go_wp2_with fail
  refine wp_region_any (by kernel_rfl) ?_
  change wpAny _ _ _ _ _ _ _ (World.drew _)
  refine wpAny_ready (rs := [0]) (by kernel_rfl) (by simp) ?_
  refine AllReady.cons rfl (fun K hK => ?_) ?_
  · go_simp
    refine hK _ _ ?_
    clear hK K
    refine wpAny_ready (rs := [1]) (by kernel_rfl) (by simp) ?_
    refine AllReady.cons rfl (fun K hK => ?_) ?_
    · go_simp
      refine hK _ _ ?_
      clear hK K
      refine wpAny_ready (rs := [2, 3, 4]) (by kernel_rfl) (by simp) ?_
      refine AllReady.cons rfl (fun K hK => ?_) ?_
      · go_simp
        refine hK _ _ ?_
        clear hK K
        refine wpAny_ready (rs := [3, 4]) (by kernel_rfl) (by simp) ?_
        refine AllReady.cons rfl (fun K hK => ?_) ?_
        · go_simp
          go_wp2_with (go_at_call 31; refine (HBl.out _ HP6.out.1).mono ?_; rintro e w7 ⟨rfl, hp7, y0, y1, y2, y3, y4, y5, y6, y7, y8, y9, y10, y11, y12, y13, y14⟩)
          try (refine hK _ _ ?_)
          try clear hK K
          refine wpAny_ready (rs := [4]) (by kernel_rfl) (by simp) ?_
          refine AllReady.cons rfl (fun K hK => ?_) ?_
          · go_simp
            refine hK _ _ ?_
            clear hK K
            refine wpAny_ready (rs := [5]) (by kernel_rfl) (by simp) ?_
            refine AllReady.cons rfl (fun K hK => ?_) ?_
            · go_simp
              refine hK _ _ ?_
              clear hK K
              refine wpAny_one 6 (by kernel_rfl) rfl ?_
              intro K hK
              go_simp
              refine hK _ _ ?_
              clear hK K
              refine wpAny_one 7 (by kernel_rfl) rfl ?_
              intro K hK
              go_simp
              refine hK _ _ ?_
              clear hK K
              refine wpAny_one 8 (by kernel_rfl) rfl ?_
              intro K hK
              go_simp
              refine hK _ _ ?_
              clear hK K
              refine wpAny_one 9 (by kernel_rfl) rfl ?_
              intro K hK
              go_simp
              refine hK _ _ ?_
              clear hK K
              refine wpAny_one 10 (by kernel_rfl) rfl ?_
              intro K hK
              go_simp
              refine hK _ _ ?_
              clear hK K
              refine wpAny_one 11 (by kernel_rfl) rfl ?_
              intro K hK
              go_simp
              refine hK _ _ ?_
              clear hK K
              refine wpAny_one 12 (by kernel_rfl) rfl ?_
              intro K hK
              go_simp
              refine hK _ _ ?_
              clear hK K
              refine wpAny_one 13 (by kernel_rfl) rfl ?_
              intro K hK
              go_simp
              refine hK _ _ ?_
              clear hK K
              refine wpAny_one 14 (by kernel_rfl) rfl ?_
              intro K hK
              go_simp
              refine hK _ _ ?_
              clear hK K
              refine wpAny_one 15 (by kernel_rfl) rfl ?_
              intro K hK
              go_simp
              go_wp2_with (go_at_call 15; refine (HCk.out _ hp7).mono ?_; rintro e w8 ⟨rfl, hp8⟩)
              try (refine hK _ _ ?_)
              try clear hK K
              refine wpAny_one 16 (by kernel_rfl) rfl ?_
              intro K hK
              go_simp
              refine hK _ _ ?_
              clear hK K
              refine wpAny_one 17 (by kernel_rfl) rfl ?_
              intro K hK
              go_simp
              refine hK _ _ ?_
              clear hK K
              refine wpAny_one 18 (by kernel_rfl) rfl ?_
              intro K hK
              go_simp
              refine hK _ _ ?_
              clear hK K
              refine wpAny_done (by kernel_rfl) ?_ _
              go_wp2
              go_ret
              exact ⟨rfl, HG.out.2.2.1.trans (hp8.mono HG.out.2.2.1.size)⟩
            exact AllReady.nil
          exact AllReady.nil
        refine AllReady.cons rfl (fun K hK => ?_) ?_
        · go_simp
          refine hK _ _ ?_
          clear hK K
          refine wpAny_ready (rs := [3]) (by kernel_rfl) (by simp) ?_
          refine AllReady.cons rfl (fun K hK => ?_) ?_
          · go_simp
            go_wp2_with (go_at_call 31; refine (HBl.out _ HP6.out.1).mono ?_; rintro e w7 ⟨rfl, hp7, y0, y1, y2, y3, y4, y5, y6, y7, y8, y9, y10, y11, y12, y13, y14⟩)
            try (refine hK _ _ ?_)
            try clear hK K
            refine wpAny_ready (rs := [5]) (by kernel_rfl) (by simp) ?_
            refine AllReady.cons rfl (fun K hK => ?_) ?_
            · go_simp
              refine hK _ _ ?_
              clear hK K
              refine wpAny_one 6 (by kernel_rfl) rfl ?_
              intro K hK
              go_simp
              refine hK _ _ ?_
              clear hK K
              refine wpAny_one 7 (by kernel_rfl) rfl ?_
              intro K hK
              go_simp
              refine hK _ _ ?_
              clear hK K
              refine wpAny_one 8 (by kernel_rfl) rfl ?_
              intro K hK
              go_simp
              refine hK _ _ ?_
              clear hK K
              refine wpAny_one 9 (by kernel_rfl) rfl ?_
              intro K hK
              go_simp
              refine hK _ _ ?_
              clear hK K
              refine wpAny_one 10 (by kernel_rfl) rfl ?_
              intro K hK
              go_simp
              refine hK _ _ ?_
              clear hK K
              refine wpAny_one 11 (by kernel_rfl) rfl ?_
              intro K hK
              go_simp
              refine hK _ _ ?_
              clear hK K
              refine wpAny_one 12 (by kernel_rfl) rfl ?_
              intro K hK
              go_simp
              refine hK _ _ ?_
              clear hK K
              refine wpAny_one 13 (by kernel_rfl) rfl ?_
              intro K hK
              go_simp
              refine hK _ _ ?_
              clear hK K
              refine wpAny_one 14 (by kernel_rfl) rfl ?_
              intro K hK
              go_simp
              refine hK _ _ ?_
              clear hK K
              refine wpAny_one 15 (by kernel_rfl) rfl ?_
              intro K hK
              go_simp
              go_wp2_with (go_at_call 15; refine (HCk.out _ hp7).mono ?_; rintro e w8 ⟨rfl, hp8⟩)
              try (refine hK _ _ ?_)
              try clear hK K
              refine wpAny_one 16 (by kernel_rfl) rfl ?_
              intro K hK
              go_simp
              refine hK _ _ ?_
              clear hK K
              refine wpAny_one 17 (by kernel_rfl) rfl ?_
              intro K hK
              go_simp
              refine hK _ _ ?_
              clear hK K
              refine wpAny_one 18 (by kernel_rfl) rfl ?_
              intro K hK
              go_simp
              refine hK _ _ ?_
              clear hK K
              refine wpAny_done (by kernel_rfl) ?_ _
              go_wp2
              go_ret
              exact ⟨rfl, HG.out.2.2.1.trans (hp8.mono HG.out.2.2.1.size)⟩
            exact AllReady.nil
          exact AllReady.nil
        exact AllReady.nil
      refine AllReady.cons rfl (fun K hK => ?_) ?_
      · go_simp
        go_wp2_with (go_at_call 31; refine (HBl.out _ HP6.out.1).mono ?_; rintro e w7 ⟨rfl, hp7, y0, y1, y2, y3, y4, y5, y6, y7, y8, y9, y10, y11, y12, y13, y14⟩)
        try (refine hK _ _ ?_)
        try clear hK K
        refine wpAny_ready (rs := [2, 4]) (by kernel_rfl) (by simp) ?_
        refine AllReady.cons rfl (fun K hK => ?_) ?_
        · go_simp
          refine hK _ _ ?_
          clear hK K
          refine wpAny_ready (rs := [4]) (by kernel_rfl) (by simp) ?_
          refine AllReady.cons rfl (fun K hK => ?_) ?_
          · go_simp
            refine hK _ _ ?_
            clear hK K
            refine wpAny_ready (rs := [5]) (by kernel_rfl) (by simp) ?_
            refine AllReady.cons rfl (fun K hK => ?_) ?_
            · go_simp
              refine hK _ _ ?_
              clear hK K
              refine wpAny_one 6 (by kernel_rfl) rfl ?_
              intro K hK
              go_simp
              refine hK _ _ ?_
              clear hK K
              refine wpAny_one 7 (by kernel_rfl) rfl ?_
              intro K hK
              go_simp
              refine hK _ _ ?_
              clear hK K
              refine wpAny_one 8 (by kernel_rfl) rfl ?_
              intro K hK
              go_simp
              refine hK _ _ ?_
              clear hK K
              refine wpAny_one 9 (by kernel_rfl) rfl ?_
              intro K hK
              go_simp
              refine hK _ _ ?_
              clear hK K
              refine wpAny_one 10 (by kernel_rfl) rfl ?_
              intro K hK
              go_simp
              refine hK _ _ ?_
              clear hK K
              refine wpAny_one 11 (by kernel_rfl) rfl ?_
              intro K hK
              go_simp
              refine hK _ _ ?_
              clear hK K
              refine wpAny_one 12 (by kernel_rfl) rfl ?_
              intro K hK
              go_simp
              refine hK _ _ ?_
              clear hK K
              refine wpAny_one 13 (by kernel_rfl) rfl ?_
              intro K hK
              go_simp
              refine hK _ _ ?_
              clear hK K
              refine wpAny_one 14 (by kernel_rfl) rfl ?_
              intro K hK
              go_simp
              refine hK _ _ ?_
              clear hK K
              refine wpAny_one 15 (by kernel_rfl) rfl ?_
              intro K hK
              go_simp
              go_wp2_with (go_at_call 15; refine (HCk.out _ hp7).mono ?_; rintro e w8 ⟨rfl, hp8⟩)
              try (refine hK _ _ ?_)
              try clear hK K
              refine wpAny_one 16 (by kernel_rfl) rfl ?_
              intro K hK
              go_simp
              refine hK _ _ ?_
              clear hK K
              refine wpAny_one 17 (by kernel_rfl) rfl ?_
              intro K hK
              go_simp
              refine hK _ _ ?_
              clear hK K
              refine wpAny_one 18 (by kernel_rfl) rfl ?_
              intro K hK
              go_simp
              refine hK _ _ ?_
              clear hK K
              refine wpAny_done (by kernel_rfl) ?_ _
              go_wp2
              go_ret
              exact ⟨rfl, HG.out.2.2.1.trans (hp8.mono HG.out.2.2.1.size)⟩
            exact AllReady.nil
          exact AllReady.nil
        refine AllReady.cons rfl (fun K hK => ?_) ?_
        · go_simp
          refine hK _ _ ?_
          clear hK K
          refine wpAny_ready (rs := [2, 5]) (by kernel_rfl) (by simp) ?_
          refine AllReady.cons rfl (fun K hK => ?_) ?_
          · go_simp
            refine hK _ _ ?_
            clear hK K
            refine wpAny_ready (rs := [5]) (by kernel_rfl) (by simp) ?_
            refine AllReady.cons rfl (fun K hK => ?_) ?_
            · go_simp
              refine hK _ _ ?_
              clear hK K
              refine wpAny_one 6 (by kernel_rfl) rfl ?_
              intro K hK
              go_simp
              refine hK _ _ ?_
              clear hK K
              refine wpAny_one 7 (by kernel_rfl) rfl ?_
              intro K hK
              go_simp
              refine hK _ _ ?_
              clear hK K
              refine wpAny_one 8 (by kernel_rfl) rfl ?_
              intro K hK
              go_simp
              refine hK _ _ ?_
              clear hK K
              refine wpAny_one 9 (by kernel_rfl) rfl ?_
              intro K hK
              go_simp
              refine hK _ _ ?_
              clear hK K
              refine wpAny_one 10 (by kernel_rfl) rfl ?_
              intro K hK
              go_simp
              refine hK _ _ ?_
              clear hK K
              refine wpAny_one 11 (by kernel_rfl) rfl ?_
              intro K hK
              go_simp
              refine hK _ _ ?_
              clear hK K
              refine wpAny_one 12 (by kernel_rfl) rfl ?_
              intro K hK
              go_simp
              refine hK _ _ ?_
              clear hK K
              refine wpAny_one 13 (by kernel_rfl) rfl ?_
              intro K hK
              go_simp
              refine hK _ _ ?_
              clear hK K
              refine wpAny_one 14 (by kernel_rfl) rfl ?_
              intro K hK
              go_simp
              refine hK _ _ ?_
              clear hK K
              refine wpAny_one 15 (by kernel_rfl) rfl ?_
              intro K hK
              go_simp
              go_wp2_with (go_at_call 15; refine (HCk.out _ hp7).mono ?_; rintro e w8 ⟨rfl, hp8⟩)
              try (refine hK _ _ ?_)
              try clear hK K
              refine wpAny_one 16 (by kernel_rfl) rfl ?_
              intro K hK
              go_simp
              refine hK _ _ ?_
              clear hK K
              refine wpAny_one 17 (by kernel_rfl) rfl ?_
              intro K hK
              go_simp
              refine hK _ _ ?_
              clear hK K
              refine wpAny_one 18 (by kernel_rfl) rfl ?_
              intro K hK
              go_simp
              refine hK _ _ ?_
              clear hK K
              refine wpAny_done (by kernel_rfl) ?_ _
              go_wp2
              go_ret
              exact ⟨rfl, HG.out.2.2.1.trans (hp8.mono HG.out.2.2.1.size)⟩
            exact AllReady.nil
          refine AllReady.cons rfl (fun K hK => ?_) ?_
          · go_simp
            refine hK _ _ ?_
            clear hK K
            refine wpAny_ready (rs := [2]) (by kernel_rfl) (by simp) ?_
            refine AllReady.cons rfl (fun K hK => ?_) ?_
            · go_simp
              refine hK _ _ ?_
              clear hK K
              refine wpAny_one 6 (by kernel_rfl) rfl ?_
              intro K hK
              go_simp
              refine hK _ _ ?_
              clear hK K
              refine wpAny_one 7 (by kernel_rfl) rfl ?_
              intro K hK
              go_simp
              refine hK _ _ ?_
              clear hK K
              refine wpAny_one 8 (by kernel_rfl) rfl ?_
              intro K hK
              go_simp
              refine hK _ _ ?_
              clear hK K
              refine wpAny_one 9 (by kernel_rfl) rfl ?_
              intro K hK
              go_simp
              refine hK _ _ ?_
              clear hK K
              refine wpAny_one 10 (by kernel_rfl) rfl ?_
              intro K hK
              go_simp
              refine hK _ _ ?_
              clear hK K
              refine wpAny_one 11 (by kernel_rfl) rfl ?_
              intro K hK
              go_simp
              refine hK _ _ ?_
              clear hK K
              refine wpAny_one 12 (by kernel_rfl) rfl ?_
              intro K hK
              go_simp
              refine hK _ _ ?_
              clear hK K
              refine wpAny_one 13 (by kernel_rfl) rfl ?_
              intro K hK
              go_simp
              refine hK _ _ ?_
              clear hK K
              refine wpAny_one 14 (by kernel_rfl) rfl ?_
              intro K hK
              go_simp
              refine hK _ _ ?_
              clear hK K
              refine wpAny_one 15 (by kernel_rfl) rfl ?_
              intro K hK
              go_simp
              go_wp2_with (go_at_call 15; refine (HCk.out _ hp7).mono ?_; rintro e w8 ⟨rfl, hp8⟩)
              try (refine hK _ _ ?_)
              try clear hK K
              refine wpAny_one 16 (by kernel_rfl) rfl ?_
              intro K hK
              go_simp
              refine hK _ _ ?_
              clear hK K
              refine wpAny_one 17 (by kernel_rfl) rfl ?_
              intro K hK
              go_simp
              refine hK _ _ ?_
              clear hK K
              refine wpAny_one 18 (by kernel_rfl) rfl ?_
              intro K hK
              go_simp
              refine hK _ _ ?_
              clear hK K
              refine wpAny_done (by kernel_rfl) ?_ _
              go_wp2
              go_ret
              exact ⟨rfl, HG.out.2.2.1.trans (hp8.mono HG.out.2.2.1.size)⟩
            exact AllReady.nil
          exact AllReady.nil
        exact AllReady.nil
      refine AllReady.cons rfl (fun K hK => ?_) ?_
      · go_simp
        refine hK _ _ ?_
        clear hK K
        refine wpAny_ready (rs := [2, 3]) (by kernel_rfl) (by simp) ?_
        refine AllReady.cons rfl (fun K hK => ?_) ?_
        · go_simp
          refine hK _ _ ?_
          clear hK K
          refine wpAny_ready (rs := [3]) (by kernel_rfl) (by simp) ?_
          refine AllReady.cons rfl (fun K hK => ?_) ?_
          · go_simp
            go_wp2_with (go_at_call 31; refine (HBl.out _ HP6.out.1).mono ?_; rintro e w7 ⟨rfl, hp7, y0, y1, y2, y3, y4, y5, y6, y7, y8, y9, y10, y11, y12, y13, y14⟩)
            try (refine hK _ _ ?_)
            try clear hK K
            refine wpAny_ready (rs := [5]) (by kernel_rfl) (by simp) ?_
            refine AllReady.cons rfl (fun K hK => ?_) ?_
            · go_simp
              refine hK _ _ ?_
              clear hK K
              refine wpAny_one 6 (by kernel_rfl) rfl ?_
              intro K hK
              go_simp
              refine hK _ _ ?_
              clear hK K
              refine wpAny_one 7 (by kernel_rfl) rfl ?_
              intro K hK
              go_simp
              refine hK _ _ ?_
              clear hK K
              refine wpAny_one 8 (by kernel_rfl) rfl ?_
              intro K hK
              go_simp
              refine hK _ _ ?_
              clear hK K
              refine wpAny_one 9 (by kernel_rfl) rfl ?_
              intro K hK
              go_simp
              refine hK _ _ ?_
              clear hK K
              refine wpAny_one 10 (by kernel_rfl) rfl ?_
              intro K hK
              go_simp
              refine hK _ _ ?_
              clear hK K
              refine wpAny_one 11 (by kernel_rfl) rfl ?_
              intro K hK
              go_simp
              refine hK _ _ ?_
              clear hK K
              refine wpAny_one 12 (by kernel_rfl) rfl ?_
              intro K hK
              go_simp
              refine hK _ _ ?_
              clear hK K
              refine wpAny_one 13 (by kernel_rfl) rfl ?_
              intro K hK
              go_simp
              refine hK _ _ ?_
              clear hK K
              refine wpAny_one 14 (by kernel_rfl) rfl ?_
              intro K hK
              go_simp
              refine hK _ _ ?_
              clear hK K
              refine wpAny_one 15 (by kernel_rfl) rfl ?_
              intro K hK
              go_simp
              go_wp2_with (go_at_call 15; refine (HCk.out _ hp7).mono ?_; rintro e w8 ⟨rfl, hp8⟩)
              try (refine hK _ _ ?_)
              try clear hK K
              refine wpAny_one 16 (by kernel_rfl) rfl ?_
              intro K hK
              go_simp
              refine hK _ _ ?_
              clear hK K
              refine wpAny_one 17 (by kernel_rfl) rfl ?_
              intro K hK
              go_simp
              refine hK _ _ ?_
              clear hK K
              refine wpAny_one 18 (by kernel_rfl) rfl ?_
              intro K hK
              go_simp
              refine hK _ _ ?_
              clear hK K
              refine wpAny_done (by kernel_rfl) ?_ _
              go_wp2
              go_ret
              exact ⟨rfl, HG.out.2.2.1.trans (hp8.mono HG.out.2.2.1.size)⟩
            exact AllReady.nil
          exact AllReady.nil
        refine AllReady.cons rfl (fun K hK => ?_) ?_
        · go_simp
          go_wp2_with (go_at_call 31; refine (HBl.out _ HP6.out.1).mono ?_; rintro e w7 ⟨rfl, hp7, y0, y1, y2, y3, y4, y5, y6, y7, y8, y9, y10, y11, y12, y13, y14⟩)
          try (refine hK _ _ ?_)
          try clear hK K
          refine wpAny_ready (rs := [2, 5]) (by kernel_rfl) (by simp) ?_
          refine AllReady.cons rfl (fun K hK => ?_) ?_
          · go_simp
            refine hK _ _ ?_
            clear hK K
            refine wpAny_ready (rs := [5]) (by kernel_rfl) (by simp) ?_
            refine AllReady.cons rfl (fun K hK => ?_) ?_
            · go_simp
              refine hK _ _ ?_
              clear hK K
              refine wpAny_one 6 (by kernel_rfl) rfl ?_
              intro K hK
              go_simp
              refine hK _ _ ?_
              clear hK K
              refine wpAny_one 7 (by kernel_rfl) rfl ?_
              intro K hK
              go_simp
              refine hK _ _ ?_
              clear hK K
              refine wpAny_one 8 (by kernel_rfl) rfl ?_
              intro K hK
              go_simp
              refine hK _ _ ?_
              clear hK K
              refine wpAny_one 9 (by kernel_rfl) rfl ?_
              intro K hK
              go_simp
              refine hK _ _ ?_
              clear hK K
              refine wpAny_one 10 (by kernel_rfl) rfl ?_
              intro K hK
              go_simp
              refine hK _ _ ?_
              clear hK K
              refine wpAny_one 11 (by kernel_rfl) rfl ?_
              intro K hK
              go_simp
              refine hK _ _ ?_
              clear hK K
              refine wpAny_one 12 (by kernel_rfl) rfl ?_
              intro K hK
              go_simp
              refine hK _ _ ?_
              clear hK K
              refine wpAny_one 13 (by kernel_rfl) rfl ?_
              intro K hK
              go_simp
              refine hK _ _ ?_
              clear hK K
              refine wpAny_one 14 (by kernel_rfl) rfl ?_
              intro K hK
              go_simp
              refine hK _ _ ?_
              clear hK K
              refine wpAny_one 15 (by kernel_rfl) rfl ?_
              intro K hK
              go_simp
              go_wp2_with (go_at_call 15; refine (HCk.out _ hp7).mono ?_; rintro e w8 ⟨rfl, hp8⟩)
              try (refine hK _ _ ?_)
              try clear hK K
              refine wpAny_one 16 (by kernel_rfl) rfl ?_
              intro K hK
              go_simp
              refine hK _ _ ?_
              clear hK K
              refine wpAny_one 17 (by kernel_rfl) rfl ?_
              intro K hK
              go_simp
              refine hK _ _ ?_
              clear hK K
              refine wpAny_one 18 (by kernel_rfl) rfl ?_
              intro K hK
              go_simp
              refine hK _ _ ?_
              clear hK K
              refine wpAny_done (by kernel_rfl) ?_ _
              go_wp2
              go_ret
              exact ⟨rfl, HG.out.2.2.1.trans (hp8.mono HG.out.2.2.1.size)⟩
            exact AllReady.nil
          refine AllReady.cons rfl (fun K hK => ?_) ?_
          · go_simp
            refine hK _ _ ?_
            clear hK K
            refine wpAny_ready (rs := [2]) (by kernel_rfl) (by simp) ?_
            refine AllReady.cons rfl (fun K hK => ?_) ?_
            · go_simp
              refine hK _ _ ?_
              clear hK K
              refine wpAny_one 6 (by kernel_rfl) rfl ?_
              intro K hK
              go_simp
              refine hK _ _ ?_
              clear hK K
              refine wpAny_one 7 (by kernel_rfl) rfl ?_
              intro K hK
              go_simp
              refine hK _ _ ?_
              clear hK K
              refine wpAny_one 8 (by kernel_rfl) rfl ?_
              intro K hK
              go_simp
              refine hK _ _ ?_
              clear hK K
              refine wpAny_one 9 (by kernel_rfl) rfl ?_
              intro K hK
              go_simp
              refine hK _ _ ?_
              clear hK K
              refine wpAny_one 10 (by kernel_rfl) rfl ?_
              intro K hK
              go_simp
              refine hK _ _ ?_
              clear hK K
              refine wpAny_one 11 (by kernel_rfl) rfl ?_
              intro K hK
              go_simp
              refine hK _ _ ?_
              clear hK K
              refine wpAny_one 12 (by kernel_rfl) rfl ?_
              intro K hK
              go_simp
              refine hK _ _ ?_
              clear hK K
              refine wpAny_one 13 (by kernel_rfl) rfl ?_
              intro K hK
              go_simp
              refine hK _ _ ?_
              clear hK K
              refine wpAny_one 14 (by kernel_rfl) rfl ?_
              intro K hK
              go_simp
              refine hK _ _ ?_
              clear hK K
              refine wpAny_one 15 (by kernel_rfl) rfl ?_
              intro K hK
              go_simp
              go_wp2_with (go_at_call 15; refine (HCk.out _ hp7).mono ?_; rintro e w8 ⟨rfl, hp8⟩)
              try (refine hK _ _ ?_)
              try clear hK K
              refine wpAny_one 16 (by kernel_rfl) rfl ?_
              intro K hK
              go_simp
              refine hK _ _ ?_
              clear hK K
              refine wpAny_one 17 (by kernel_rfl) rfl ?_
              intro K hK
              go_simp
              refine hK _ _ ?_
              clear hK K
              refine wpAny_one 18 (by kernel_rfl) rfl ?_
              intro K hK
              go_simp
              refine hK _ _ ?_
              clear hK K
              refine wpAny_done (by kernel_rfl) ?_ _
              go_wp2
              go_ret
              exact ⟨rfl, HG.out.2.2.1.trans (hp8.mono HG.out.2.2.1.size)⟩
            exact AllReady.nil
          exact AllReady.nil
        exact AllReady.nil
      exact AllReady.nil
    exact AllReady.nil
  exact AllReady.nil

end Go.Proofs.YtobmpjmpffnoiaaDoor
