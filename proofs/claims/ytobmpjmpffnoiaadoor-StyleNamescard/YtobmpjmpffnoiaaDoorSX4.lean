/-
  Contracts of package style: Which of no thing; Look.
-/
import Derived.Test.YtobmpjmpffnoiaaDoorSX3
namespace Go.Proofs.YtobmpjmpffnoiaaDoor
open Go.RowKit Go.Shelf
attribute [local go_sem] Oper.semAt_some

set_option maxHeartbeats 1000000 in
theorem which_arg (rs : List Rl) (v : Value) (kind : Nat) (t : ByteArray) (st fld : Nat) (w : World) (hT : Tab w) (hv : Rules w v rs) (hw : ∀ r ∈ rs, r.cls.size ≤ 9223372036854775807 ∧ r.wf) (hb : chkR rs = 0) (hf : thg fld = false) (f256 : fld < 256) :
    Calls Tryd.prog 17 #[v, .int .u8 (kind : Nat), .string t, .int .u8 (st : Nat), .int .u8 (fld : Nat)] w fun e w' => e = .returned (.tuple #[.int .i64 0, .int .i64 2]) ∧ Below w.heap.size w w' := by
  have hC : Hid (∀ w, Tab w → Rules w v rs → Calls Tryd.prog 15 #[v] w fun e w' => e = .returned (.int .i64 0) ∧ Below w.heap.size w w') := fun w hT hv => by rw [← hb]; exact check_rules rs v w hT hv hw
  have hTh : Hid (∀ w, Calls Tryd.prog 38 #[.int .u8 (fld : Nat)] w fun e w' => e = .returned (.bool false) ∧ w' = w) := fun w => by rw [← hf]; exact isThing_any fld w f256
  have HV : Hid (Rules w v rs ∧ Tab w) := ⟨hv, hT⟩
  obtain ⟨oa, cap, rfl, hc, hg⟩ := id hv
  clear hT hv hw hb hf hg
  go_enter Tryd.func17, Tryd.ntmps17
  go_wp2_with fail
  obtain ⟨W0, hW0⟩ : ∃ W0, W0 = (((w.alloc (.cells #[.slice oa rs.length cap] 23)).alloc (.cells #[.int .u8 (fld : Nat)] 5)).alloc (.cells #[.int .i64 0] 3)).alloc (.cells #[.int .i64 0] 25) := ⟨_, rfl⟩
  have H0 : Hid (Blk W0 (w.heap.size + 1) #[.int .u8 (fld : Nat)] 5 ∧ Blk W0 (w.heap.size + 1 + 1) #[.int .i64 0] 3 ∧ Blk W0 (w.heap.size + 1 + 1 + 1) #[.int .i64 0] 25 ∧ Below w.heap.size w W0) := by
    have k2 := Blk.new (w.alloc (.cells #[.slice oa rs.length cap] 23)) #[.int .u8 (fld : Nat)] 5
    have k3 := Blk.new ((w.alloc (.cells #[.slice oa rs.length cap] 23)).alloc (.cells #[.int .u8 (fld : Nat)] 5)) #[.int .i64 0] 3
    have k4 := Blk.new (((w.alloc (.cells #[.slice oa rs.length cap] 23)).alloc (.cells #[.int .u8 (fld : Nat)] 5)).alloc (.cells #[.int .i64 0] 3)) #[.int .i64 0] 25
    simp only [World.size_alloc] at k2 k3 k4
    rw [hW0]
    exact ⟨(k2.alloc _).alloc _, k3.alloc _, k4, ((((Below.refl _ w).alloc (Nat.le_refl _) _).alloc (by simp) _).alloc (by simp; omega) _).alloc (by simp; omega) _⟩
  rw [← hW0]
  clear hW0
  refine (hC.out _ (HV.out.2.below H0.out.2.2.2) (HV.out.1.below H0.out.2.2.2)).mono ?_
  rintro e w1 ⟨rfl, hb⟩
  have c2 := (H0.out.1.below hb).at1
  have k3 := H0.out.2.1.below hb
  have k4 := H0.out.2.2.1.below hb
  have c3 := k3.at1
  have c4 := k4.at1
  have f3 := k3.frozen 0
  have f4 := k4.frozen 0
  have H1 : Hid (Blk w1 (w.heap.size + 1 + 1) #[.int .i64 0] 3 ∧ Blk w1 (w.heap.size + 1 + 1 + 1) #[.int .i64 0] 25 ∧ Below w.heap.size w w1) := ⟨k3, k4, H0.out.2.2.2.trans (hb.mono H0.out.2.2.2.size)⟩
  clear hb k3 k4 H0
  go_wp2_with fail
  refine (hTh.out _).mono ?_
  rintro e w2 ⟨rfl, rfl⟩
  go_wp2
  obtain ⟨k3, k4, L⟩ := H1.out
  have e3 := ((k3.put1 (.int .i64 0)).other ⟨w.heap.size + 1 + 1 + 1, 0, none⟩ (.int .i64 2) (by simp)).at1
  have e4 := ((k4.other ⟨w.heap.size + 1 + 1, 0, none⟩ (.int .i64 0) (by simp)).put1 (.int .i64 2)).at1
  exact bodyPost_ret (v := .tuple #[.int .i64 0, .int .i64 2]) (by simp [results, Tryd.results17, go_sem, e3, e4]) rfl ⟨rfl, (L.setCell (p := ⟨w.heap.size + 1 + 1, 0, none⟩) (by simp; omega) _).setCell (p := ⟨w.heap.size + 1 + 1 + 1, 0, none⟩) (by simp; omega) _⟩

/-- The looks of rules with numbers. -/
def lks (rs : List Rl) (l : List (Nat × Nat)) : List Lk := l.map fun x => match rs[x.2]? with | some r => r.look | none => Lk.zero

theorem row_set {base : Nat} {e : TypeId} {size : Nat} {v : Value} {n : Nat} {xs : List Value} {X : World} (h : X.ownsRow base e size v n xs) (p : Addr) (u : Value) (hp : p.block < base) : (X.setCell p u).ownsRow base e size v n xs := by
  obtain ⟨hl, h⟩ := h
  refine ⟨hl, ?_⟩
  rcases h with h | ⟨g, cap, cur, rfl, hb, hc, h1, h2, h3, h4⟩
  · exact .inl h
  · exact .inr ⟨g, cap, cur, rfl, hb, same_set hc (by omega), h1, h2, h3, h4⟩
theorem row_grown {base : Nat} {e : TypeId} {size : Nat} {v : Value} {n : Nat} {xs : List Value} {X Y : World} (h : X.ownsRow base e size v n xs) (hg : X.grownBy Y v.ownBlock) :
    ∀ (k : Nat) (o : Obj), (k < base ∨ o.isCells = false) → X.heap[k]? = some o → Y.heap[k]? = some o := by
  intro k o hk e
  refine (hg.block k (Array.getElem?_eq_some_iff.1 e).1 (fun he => ?_)).trans e
  obtain ⟨hl, h⟩ := h
  rcases h with ⟨rfl, _⟩ | ⟨g, cap, cur, rfl, hb, hc, _⟩
  · cases he
  · simp [Value.ownBlock] at he
    subst he
    rcases hk with hk | hk
    · omega
    · rw [hc] at e
      cases e
      cases hk
theorem keepsB {B : Nat} {W X Y : World} (h : KeepsFrom B W X) (hb : Below X.heap.size X Y) : KeepsFrom B W Y :=
  ⟨Nat.le_trans h.size hb.size, fun k o hk e ho => by have := h.same k o hk e ho; exact (hb.block k (Array.getElem?_eq_some_iff.1 this).1).trans this⟩
theorem KeepsFrom.set' {B : Nat} {W X : World} (h : KeepsFrom B W X) (p : Addr) (v : Value) : KeepsFrom B W (X.setCell p v) := h.trans ((KeepsOthers.setCell X p v).from _)
def flK (l : List Lk) : List Value := l.flatMap fun k => [.int .u8 (k.has : Nat), .int .u8 k.r, .int .u8 k.g, .int .u8 k.b, .int .u8 k.a, .int .u8 k.r2, .int .u8 k.g2, .int .u8 k.b2, .int .u8 k.a2, .bool k.bd, .int .i64 k.pad]
theorem flK_snoc (l : List Lk) (k : Lk) : flK (l ++ [k]) = flK l ++ [.int .u8 (k.has : Nat), .int .u8 k.r, .int .u8 k.g, .int .u8 k.b, .int .u8 k.a, .int .u8 k.r2, .int .u8 k.g2, .int .u8 k.b2, .int .u8 k.a2, .bool k.bd, .int .i64 k.pad] := by
  unfold flK; rw [List.flatMap_append]; simp
theorem flK_len (l : List Lk) : (flK l).length = l.length * 11 := by
  induction l with
  | nil => rfl
  | cons a t ih => show (_ ++ flK t).length = _; rw [List.length_append, ih]; simp; omega
theorem flK_at (l : List Lk) : ∀ (i : Nat) (h : i < l.length), (∀ j (v : Value), [Value.int .u8 (l[i].has : Nat), .int .u8 l[i].r, .int .u8 l[i].g, .int .u8 l[i].b, .int .u8 l[i].a, .int .u8 l[i].r2, .int .u8 l[i].g2, .int .u8 l[i].b2, .int .u8 l[i].a2, .bool l[i].bd, .int .i64 l[i].pad][j]? = some v → (flK l)[i * 11 + j]? = some v) := by
  induction l with
  | nil => intro i h; simp at h
  | cons a t ih =>
    intro i h j v hj
    have e : flK (a :: t) = [.int .u8 (a.has : Nat), .int .u8 a.r, .int .u8 a.g, .int .u8 a.b, .int .u8 a.a, .int .u8 a.r2, .int .u8 a.g2, .int .u8 a.b2, .int .u8 a.a2, .bool a.bd, .int .i64 a.pad] ++ flK t := rfl
    rw [e]
    match i, h with
    | 0, _ =>
      have hj' : j < 11 := by have := (List.getElem?_eq_some_iff.1 hj).1; simpa using this
      rw [Nat.zero_mul, Nat.zero_add, List.getElem?_append_left (by simpa using hj')]
      exact hj
    | i + 1, h =>
      rw [List.getElem?_append_right (by simp; omega)]
      have := ih i (by simpa using h) j v hj
      rw [← this]
      congr 1
      simp; omega
theorem info_look : (Tryd.prog.info? 33).map (fun i => (i.zero, i.size, i.bytes)) = some (some (Value.agg #[.int .u8 (Lk.zero.has : Nat), .int .u8 Lk.zero.r, .int .u8 Lk.zero.g, .int .u8 Lk.zero.b, .int .u8 Lk.zero.a, .int .u8 Lk.zero.r2, .int .u8 Lk.zero.g2, .int .u8 Lk.zero.b2, .int .u8 Lk.zero.a2, .bool Lk.zero.bd, .int .i64 Lk.zero.pad]), 11, 24) := by kernel_rfl
theorem looks_own {w : World} {base : Nat} {e : TypeId} {v : Value} {ls : List Lk} (h : w.ownsRow base e 11 v ls.length (flK ls)) : Looks w v ls := by
  rcases h.2 with ⟨rfl, h0⟩ | ⟨g, cap, cur, rfl, hb, hg, hc, _, _, htk⟩
  · exact ⟨none, 0, by rw [h0], by omega, fun h => absurd h (by omega)⟩
  · refine ⟨_, cap, rfl, hc, fun _ => ⟨g, 0, rfl, (Array.getElem?_eq_some_iff.1 hg).1, fun i hi => ?_⟩⟩
    have hb : Blk w g cur e := hg
    have key : ∀ j (v : Value), [Value.int .u8 (ls[i].has : Nat), .int .u8 ls[i].r, .int .u8 ls[i].g, .int .u8 ls[i].b, .int .u8 ls[i].a, .int .u8 ls[i].r2, .int .u8 ls[i].g2, .int .u8 ls[i].b2, .int .u8 ls[i].a2, .bool ls[i].bd, .int .i64 ls[i].pad][j]? = some v → w.cell? ⟨g, 0 + i * 11 + j, none⟩ = some v := fun j v hj => by
      have hj' : j < 11 := by have := (List.getElem?_eq_some_iff.1 hj).1; simpa using this
      rw [hb.cell, ← Array.getElem?_toList, Nat.zero_add, ← List.getElem?_take_of_lt (j := ls.length * 11) (by omega), htk]
      exact flK_at ls i hi j v hj
    exact ⟨key 0 _ rfl, key 1 _ rfl, key 2 _ rfl, key 3 _ rfl, key 4 _ rfl, key 5 _ rfl, key 6 _ rfl, key 7 _ rfl, key 8 _ rfl, key 9 _ rfl, key 10 _ rfl⟩
theorem app_in {F : Fence} {n : Nat} {P : Program} {w w' : World} {o : Oper} {a : Act} {Q : Exit → Act → World → Prop} {K : Act → World → Prop} {x y : Operand} {t : TypeId} {v u v' : Value} (hop : o.op = Op.call { callee := Callee.builtin Builtin.append, args := #[x, y], argTypes := #[t, t] }) (hs : a.eval x = v) (hx : a.eval y = u)
    (hrun : (Builtin.append_ #[t, t] o.type #[v, u]).run P w = .ok v' w') (hK : K (a.put o.dst v') w') : o.wpIn F n P a w K Q := by
  unfold Oper.wpIn
  refine ⟨?_, ?_⟩
  · simp [Oper.about, hop, resolve, Target.leads, Sem.run_pure]
  · rw [Oper.semAt_plain F _ _ (by rw [hop]; intro c hc'; cases hc')]
    simp [execOp, hop, resolve, invoke, builtin, hs, hx, hrun, Result.andThen]
    exact hK
theorem same11 {W : World} {b D : Nat} {o : Obj} (h : W.heap[D]? = some o) (hb : b ≠ D) (v0 v1 v2 v3 v4 v5 v6 v7 v8 v9 v10 : Value) : (((((((((((W.setCell ⟨b, 0, none⟩ v0).setCell ⟨b, 1, none⟩ v1).setCell ⟨b, 2, none⟩ v2).setCell ⟨b, 3, none⟩ v3).setCell ⟨b, 4, none⟩ v4).setCell ⟨b, 5, none⟩ v5).setCell ⟨b, 6, none⟩ v6).setCell ⟨b, 7, none⟩ v7).setCell ⟨b, 8, none⟩ v8).setCell ⟨b, 9, none⟩ v9).setCell ⟨b, 10, none⟩ v10).heap[D]? = some o :=
  same_set (same_set (same_set (same_set (same_set (same_set (same_set (same_set (same_set (same_set (same_set h hb) hb) hb) hb) hb) hb) hb) hb) hb) hb) hb
theorem bwd_len (l : List Nat) : ∀ k, (bwd l k).length = k
  | 0 => rfl
  | k + 1 => by simp [bwd, bwd_len l k]
theorem cellNew11 (w : World) (k : Lk) (t : TypeId) : ∀ (j : Nat) (u : Value), [Value.int .u8 (k.has : Nat), .int .u8 k.r, .int .u8 k.g, .int .u8 k.b, .int .u8 k.a, .int .u8 k.r2, .int .u8 k.g2, .int .u8 k.b2, .int .u8 k.a2, .bool k.bd, .int .i64 k.pad][j]? = some u → (w.alloc (.cells (#[.int .u8 (k.has : Nat), .int .u8 k.r, .int .u8 k.g, .int .u8 k.b, .int .u8 k.a, .int .u8 k.r2, .int .u8 k.g2, .int .u8 k.b2, .int .u8 k.a2, .bool k.bd, .int .i64 k.pad]) t)).cell? ((⟨w.heap.size, 0, none⟩ : Addr).add j) = some u := by
  intro j u hj
  have h := (Blk.new w (#[.int .u8 (k.has : Nat), .int .u8 k.r, .int .u8 k.g, .int .u8 k.b, .int .u8 k.a, .int .u8 k.r2, .int .u8 k.g2, .int .u8 k.b2, .int .u8 k.a2, .bool k.bd, .int .i64 k.pad]) t).cell j
  rw [show (⟨w.heap.size, 0, none⟩ : Addr).add j = ⟨w.heap.size, j, none⟩ by simp only [Addr.add, Nat.zero_add]; split <;> simp_all, h, ← hj]
  exact (Array.getElem?_toList ..).symm

set_option maxRecDepth 20000 in
set_option maxHeartbeats 1000000 in
theorem look_ok (rs : List Rl) (v : Value) (kind : Nat) (t : ByteArray) (st : Nat) (w : World) (hT : Tab w) (hv : Rules w v rs) (hw : ∀ r ∈ rs, r.cls.size ≤ 9223372036854775807 ∧ r.wf) (ht : t.size < 1000000000) (hl : rs.length < 1000000) (hb : chkR rs = 0) :
    Calls Tryd.prog 14 #[v, .int .u8 (kind : Nat), .string t, .int .u8 (st : Nat)] w fun e w' => ∃ l, Held rs kind t st l ∧ e = .returned (.tuple #[(Value.agg #[.int .u8 ((ly (lks rs (bwd l l.length))).has : Nat), .int .u8 (ly (lks rs (bwd l l.length))).r, .int .u8 (ly (lks rs (bwd l l.length))).g, .int .u8 (ly (lks rs (bwd l l.length))).b, .int .u8 (ly (lks rs (bwd l l.length))).a, .int .u8 (ly (lks rs (bwd l l.length))).r2, .int .u8 (ly (lks rs (bwd l l.length))).g2, .int .u8 (ly (lks rs (bwd l l.length))).b2, .int .u8 (ly (lks rs (bwd l l.length))).a2, .bool (ly (lks rs (bwd l l.length))).bd, .int .i64 (ly (lks rs (bwd l l.length))).pad]), .int .i64 0]) ∧ Below w.heap.size w w' := by
  have hC : Hid (∀ w, Tab w → Rules w v rs → Calls Tryd.prog 15 #[v] w fun e w' => e = .returned (.int .i64 0) ∧ Below w.heap.size w w') := fun w hT hv => by rw [← hb]; exact check_rules rs v w hT hv hw
  have hH : Hid (∀ w, Rules w v rs → Calls Tryd.prog 35 #[v, .int .u8 (kind : Nat), .string t, .int .u8 (st : Nat)] w fun e w' => ∃ (u : Value) (l : List Nat), e = .returned u ∧ Nums w' u l ∧ Held rs kind t st l ∧ Below w.heap.size w w') := fun w hv => holding_any rs v kind t st w hv (fun r hr => (hw r hr).2.2.1) ht hl
  have HV : Hid (Rules w v rs ∧ Tab w ∧ ∀ r ∈ rs, r.cls.size ≤ 9223372036854775807 ∧ r.wf) := ⟨hv, hT, hw⟩
  obtain ⟨oa, cap, rfl, hc, hg⟩ := id hv
  clear hT hv hw hb hg
  refine (callsIn_wide (n := 3)).1 ?_
  refine callsIn_of_wp_marks Tryd.func14 rfl trivial ?_ rfl
  simp only [Tryd.ntmps14, List.size_toArray, List.length_cons, List.length_nil, Nat.reduceAdd, Nat.reduceSub, Array.replicate_succ, Array.replicate_zero, List.push_toArray, List.append_toArray, List.nil_append, List.cons_append]
  gi_wp2_with fail
  obtain ⟨W0, hW0⟩ : ∃ W0, W0 = (w.alloc (.cells #[.slice oa rs.length cap] 23)).alloc (.cells (#[.int .u8 (Lk.zero.has : Nat), .int .u8 Lk.zero.r, .int .u8 Lk.zero.g, .int .u8 Lk.zero.b, .int .u8 Lk.zero.a, .int .u8 Lk.zero.r2, .int .u8 Lk.zero.g2, .int .u8 Lk.zero.b2, .int .u8 Lk.zero.a2, .bool Lk.zero.bd, .int .i64 Lk.zero.pad]) 33) := ⟨_, rfl⟩
  have H0 : Hid (Blk W0 w.heap.size #[.slice oa rs.length cap] 23 ∧ Blk W0 (w.heap.size + 1) (#[.int .u8 (Lk.zero.has : Nat), .int .u8 Lk.zero.r, .int .u8 Lk.zero.g, .int .u8 Lk.zero.b, .int .u8 Lk.zero.a, .int .u8 Lk.zero.r2, .int .u8 Lk.zero.g2, .int .u8 Lk.zero.b2, .int .u8 Lk.zero.a2, .bool Lk.zero.bd, .int .i64 Lk.zero.pad]) 33 ∧ Below w.heap.size w W0) := by
    have k1 := Blk.new w #[.slice oa rs.length cap] 23
    have k2 := Blk.new (w.alloc (.cells #[.slice oa rs.length cap] 23)) (#[.int .u8 (Lk.zero.has : Nat), .int .u8 Lk.zero.r, .int .u8 Lk.zero.g, .int .u8 Lk.zero.b, .int .u8 Lk.zero.a, .int .u8 Lk.zero.r2, .int .u8 Lk.zero.g2, .int .u8 Lk.zero.b2, .int .u8 Lk.zero.a2, .bool Lk.zero.bd, .int .i64 Lk.zero.pad]) 33
    simp only [World.size_alloc] at k2
    rw [hW0]
    exact ⟨k1.alloc _, k2, ((Below.refl _ w).alloc (Nat.le_refl _) _).alloc (by simp) _⟩
  simp only [Lk.zero] at hW0
  rw [show ((w.alloc (.cells #[.slice oa rs.length cap] 23)).alloc (.cells #[.int .u8 0, .int .u8 0, .int .u8 0, .int .u8 0, .int .u8 0, .int .u8 0, .int .u8 0, .int .u8 0, .int .u8 0, .bool false, .int .i64 0] 33)) = W0 from hW0.symm]
  clear hW0
  refine ⟨trivial, (callsIn_wide.2 (hC.out _ (HV.out.2.1.below H0.out.2.2) (HV.out.1.below H0.out.2.2))).mono ?_⟩
  rintro e w1 ⟨rfl, hb⟩
  have H1 : Hid (Blk w1 w.heap.size #[.slice oa rs.length cap] 23 ∧ Blk w1 (w.heap.size + 1) (#[.int .u8 (Lk.zero.has : Nat), .int .u8 Lk.zero.r, .int .u8 Lk.zero.g, .int .u8 Lk.zero.b, .int .u8 Lk.zero.a, .int .u8 Lk.zero.r2, .int .u8 Lk.zero.g2, .int .u8 Lk.zero.b2, .int .u8 Lk.zero.a2, .bool Lk.zero.bd, .int .i64 Lk.zero.pad]) 33 ∧ Below w.heap.size w w1) :=
    ⟨H0.out.1.below hb, H0.out.2.1.below hb, H0.out.2.2.trans (hb.mono H0.out.2.2.size)⟩
  clear hb H0
  have c1 := H1.out.1.at1
  have s1 : w.heap.size < w1.heap.size := H1.out.1.lt
  gi_wp2_with fail
  have L1 : Below w.heap.size w (w1.alloc (.cells #[.slice none 0 0] 56)) := H1.out.2.2.alloc H1.out.2.2.size _
  have H1' : Hid (Blk (w1.alloc (.cells #[.slice none 0 0] 56)) w1.heap.size #[.slice none 0 0] 56 ∧ Blk (w1.alloc (.cells #[.slice none 0 0] 56)) w.heap.size #[.slice oa rs.length cap] 23 ∧ Blk (w1.alloc (.cells #[.slice none 0 0] 56)) (w.heap.size + 1) (#[.int .u8 (Lk.zero.has : Nat), .int .u8 Lk.zero.r, .int .u8 Lk.zero.g, .int .u8 Lk.zero.b, .int .u8 Lk.zero.a, .int .u8 Lk.zero.r2, .int .u8 Lk.zero.g2, .int .u8 Lk.zero.b2, .int .u8 Lk.zero.a2, .bool Lk.zero.bd, .int .i64 Lk.zero.pad]) 33 ∧ Below w.heap.size w (w1.alloc (.cells #[.slice none 0 0] 56))) := ⟨Blk.new _ _ _, H1.out.1.alloc _, H1.out.2.1.alloc _, L1⟩
  have hlb : w.heap.size + 1 < w1.heap.size := H1.out.2.1.lt
  clear c1 L1 H1
  refine ⟨trivial, (callsIn_wide.2 (hH.out _ (HV.out.1.below H1'.out.2.2.2))).mono ?_⟩
  rintro e w2 ⟨u, l, rfl, hN, hHe, hb⟩
  obtain ⟨ob, cb, rfl, hnum⟩ := id hN
  obtain ⟨lb, elb⟩ : ∃ lb, lb = w1.heap.size := ⟨_, rfl⟩
  rw [← elb] at hlb s1 ⊢
  have H2 : Hid (Blk w2 lb #[.slice none 0 0] 56 ∧ Blk w2 w.heap.size #[.slice oa rs.length cap] 23 ∧ Blk w2 (w.heap.size + 1) (#[.int .u8 (Lk.zero.has : Nat), .int .u8 Lk.zero.r, .int .u8 Lk.zero.g, .int .u8 Lk.zero.b, .int .u8 Lk.zero.a, .int .u8 Lk.zero.r2, .int .u8 Lk.zero.g2, .int .u8 Lk.zero.b2, .int .u8 Lk.zero.a2, .bool Lk.zero.bd, .int .i64 Lk.zero.pad]) 33 ∧ Below w.heap.size w w2) := by
    rw [elb]
    exact ⟨H1'.out.1.below hb, H1'.out.2.1.below hb, H1'.out.2.2.1.below hb, H1'.out.2.2.2.trans (hb.mono H1'.out.2.2.2.size)⟩
  have HN : Hid (Nums w2 (.slice ob l.length cb) l ∧ Held rs kind t st l) := ⟨hN, hHe⟩
  clear hb H1' hN hHe hnum elb
  gi_wp2_with fail
  refine ⟨trivial, (callsIn_wide.2 (backward_any _ _ _ _)).mono ?_⟩
  rintro e w3 ⟨rfl, rfl⟩
  gi_wp2_with fail
  obtain ⟨W, hW⟩ : ∃ W, W = w2.alloc (.cells #[.slice ob l.length cb] 24) := ⟨_, rfl⟩
  have b2 : Below w2.heap.size w2 W := by rw [hW]; exact (Below.refl _ w2).alloc (Nat.le_refl _) _
  have KS : Blk W w2.heap.size #[.slice ob l.length cb] 24 := by rw [hW]; exact Blk.new _ _ _
  have sW : W.heap.size = w2.heap.size + 1 := by rw [hW]; simp
  have s4 : lb < w2.heap.size := H2.out.1.lt
  have H3 : Hid (Blk W lb #[.slice none 0 0] 56 ∧ Blk W w.heap.size #[.slice oa rs.length cap] 23 ∧ Blk W (w.heap.size + 1) (#[.int .u8 (Lk.zero.has : Nat), .int .u8 Lk.zero.r, .int .u8 Lk.zero.g, .int .u8 Lk.zero.b, .int .u8 Lk.zero.a, .int .u8 Lk.zero.r2, .int .u8 Lk.zero.g2, .int .u8 Lk.zero.b2, .int .u8 Lk.zero.a2, .bool Lk.zero.bd, .int .i64 Lk.zero.pad]) 33 ∧ Below w.heap.size w W) :=
    ⟨H2.out.1.below b2, H2.out.2.1.below b2, H2.out.2.2.1.below b2, H2.out.2.2.2.trans (b2.mono H2.out.2.2.2.size)⟩
  rw [← hW]
  clear hW H2
  obtain ⟨g, obj, hgo⟩ := nums_block (HN.out.1.below b2) (fun k => k = lb ∨ W.heap.size ≤ k) (fun k x hk hx => by
    rcases hk with rfl | hk
    · rw [H3.out.1.at1] at hx; cases hx
    · have := lt_of_cell hx; omega)
  obtain ⟨i0, hi0, hz0, hz1, hz2⟩ := info_parts info_look
  have HI : Hid (Tryd.prog.info? 33 = some i0 ∧ i0.zero = some (Value.agg #[.int .u8 (Lk.zero.has : Nat), .int .u8 Lk.zero.r, .int .u8 Lk.zero.g, .int .u8 Lk.zero.b, .int .u8 Lk.zero.a, .int .u8 Lk.zero.r2, .int .u8 Lk.zero.g2, .int .u8 Lk.zero.b2, .int .u8 Lk.zero.a2, .bool Lk.zero.bd, .int .i64 Lk.zero.pad]) ∧ i0.size = 11 ∧ i0.bytes = 24) := ⟨hi0, hz0, hz1, hz2⟩
  clear hi0 hz0 hz1 hz2
  refine range_d (n := 3) (w := W) rfl (by omega) (gf := 50) (lb := #[.pointer (some ⟨w2.heap.size, 0, none⟩)]) rfl trivial (enters_of Tryd.func50 (by kernel_rfl) rfl) (ob := w2.heap.size) (by omega) (by omega)
    (back_seq 2 w2.heap.size g cb ob l (fun k => k = lb ∨ W.heap.size ≤ k) W KS obj hgo (by omega) (held_len HN.out.2 hl)) (fun h k => h.trans k) (fun W l o o' _ hl hc hw => Kept.put W l o o' hl hc hw) (fun _ => rfl)
    (fun pre V => ∃ v, Blk V lb #[v] 56 ∧ V.ownsRow W.heap.size 33 11 v pre.length (flK (lks rs pre)) ∧ Blk V w.heap.size #[.slice oa rs.length cap] 23 ∧ Blk V (w.heap.size + 1) (#[.int .u8 (Lk.zero.has : Nat), .int .u8 Lk.zero.r, .int .u8 Lk.zero.g, .int .u8 Lk.zero.b, .int .u8 Lk.zero.a, .int .u8 Lk.zero.r2, .int .u8 Lk.zero.g2, .int .u8 Lk.zero.b2, .int .u8 Lk.zero.a2, .bool Lk.zero.bd, .int .i64 Lk.zero.pad]) 33 ∧ Below w.heap.size w V) (fun _ _ _ => False)
    ?hI (fun _ _ _ _ _ h _ _ => h) ?hS (fun _ _ _ _ _ h => h) ⟨_, H3.out.1, World.ownsRow_nil _ _ _ _, H3.out.2⟩
    (fun x a' _ => a' = { tmps := #[.slice oa rs.length cap, .int .u8 (kind : Nat), .string t, .int .u8 (st : Nat), .pointer (some ⟨w.heap.size, 0, none⟩), undef, undef, undef, .pointer (some ⟨w.heap.size + 1, 0, none⟩), .int .i64 0, .int .i64 0, .pointer (some ⟨lb, 0, none⟩), undef, .int .i64 (x.2 : Nat), .slice oa rs.length cap, .int .i64 0, .int .i64 0, .bool false, undef, undef, .slice oa rs.length cap, .int .u8 (kind : Nat), .string t, .int .u8 (st : Nat), .slice ob l.length cb, .func (.func 50) #[] #[.pointer (some ⟨w2.heap.size, 0, none⟩)], .int .i64 (x.1 : Nat), .int .i64 (x.2 : Nat), undef, undef, undef, undef, undef, undef, undef, undef, undef, undef], defers := [] }) (fun x a' => ownFrom_pure _ (fun _ => _)) ?assign ?body ?done ?stop
  case hI =>
    intro pre X Y row hs hg hr
    obtain ⟨v, h1, h2, h3, h4, h5⟩ := hs
    exact ⟨v, kept_own (β := Unit) _ _ (fun _ => _) _ () X Y row h1 hg hr, row_own (β := Unit) () X Y row h2 hg hr, kept_own (β := Unit) _ _ (fun _ => _) _ () X Y row h3 hg hr, kept_own (β := Unit) _ _ (fun _ => _) _ () X Y row h4 hg hr, ownFrom_below (β := Unit) (Nat.le_refl _) (by omega) () X Y row h5 hg hr⟩
  case hS =>
    rintro pre V o u ⟨v, h1, h2, h3, h4, h5⟩
    exact ⟨v, h1.other _ _ (by simp; omega), row_set h2 _ _ (by simp; omega), h3.other _ _ (by simp; omega), h4.other _ _ (by simp; omega), h5.setCell (p := ⟨w2.heap.size, o, none⟩) (by simp; omega) _⟩
  case assign =>
    intro lp pre x V K hi hz hK
    simp only [prE]
    gi_wp2
    exact hK _ _ ((KeepsOthers.refl _).from _) (Kept.refl _ _) hi rfl
  case body =>
    rintro lp pre x a' V ⟨v, h1, h2, h3, h4, h5⟩ rfl hlen hz
    have hxl : x.2 < rs.length := held_lt HN.out.2 (bwd_mem hlen)
    have hx' : (x.2 : Int) < (rs.length : Int) := by omega
    have hpl : pre.length < 1000000 := by
      have q := hlen.length_le
      rw [List.length_append, List.length_singleton, bwd_len] at q
      have := held_len HN.out.2 hl
      omega
    obtain ⟨oa', cap', ev, _, hrl⟩ := HV.out.1
    cases ev
    obtain ⟨gr, orr, rfl, hgr, hat⟩ := hrl (by omega)
    obtain ⟨_, _, _, x0, x1, x2, x3, x4, x5, x6, x7, x8, x9, x10⟩ := (hat x.2 hxl).kept (w' := V) fun j => h5.cell (p := ⟨gr, j, none⟩) hgr
    have el : lks rs (pre ++ [x]) = lks rs pre ++ [rs[x.2].look] := by unfold lks; rw [List.map_append]; simp [List.getElem?_eq_getElem hxl]
    have HE : Hid (lks rs (pre ++ [x]) = lks rs pre ++ [rs[x.2].look]) := el
    clear el hat hrl
    generalize rs[x.2].look = k at *
    have c0 := h1.at1
    have f0 := h1.frozen 0
    have c1 := h3.at1
    have sV : W.heap.size < V.heap.size := by omega
    have sV2 : lb < V.heap.size := h1.lt
    have sV3 : w.heap.size < V.heap.size := h3.lt
    have sV4 : gr < V.heap.size := by omega
    have hown : (V.drew.alloc (.cells (#[.int .u8 (k.has : Nat), .int .u8 k.r, .int .u8 k.g, .int .u8 k.b, .int .u8 k.a, .int .u8 k.r2, .int .u8 k.g2, .int .u8 k.b2, .int .u8 k.a2, .bool k.bd, .int .i64 k.pad]) 33)).ownsRow W.heap.size 33 11 v pre.length (flK (lks rs pre)) := row_below (show V.drew.ownsRow _ _ _ _ _ _ from h2) ((Below.refl _ V.drew).alloc (Nat.le_refl _) _)
    obtain ⟨hi0, hz0, hz1, hz2⟩ := HI.out
    obtain ⟨v', w3, happ, hown', hgrow, hnil⟩ := run_append_own (P := Tryd.prog) (V.drew.alloc (.cells (#[.int .u8 (k.has : Nat), .int .u8 k.r, .int .u8 k.g, .int .u8 k.b, .int .u8 k.a, .int .u8 k.r2, .int .u8 k.g2, .int .u8 k.b2, .int .u8 k.a2, .bool k.bd, .int .i64 k.pad]) 33)) W.heap.size 56 56 33 i0 (Value.agg #[.int .u8 (Lk.zero.has : Nat), .int .u8 Lk.zero.r, .int .u8 Lk.zero.g, .int .u8 Lk.zero.b, .int .u8 Lk.zero.a, .int .u8 Lk.zero.r2, .int .u8 Lk.zero.g2, .int .u8 Lk.zero.b2, .int .u8 Lk.zero.a2, .bool Lk.zero.bd, .int .i64 Lk.zero.pad]) 11 24 Tryd.underlying56 hi0 hz0 hz1 hz2 rfl (by decide) v pre.length (flK (lks rs pre)) hown ⟨V.drew.heap.size, 0, none⟩ 1 1 _ rfl (cellNew11 V.drew k 33) (by intro u hu; simp at hu; rcases hu with rfl | rfl | rfl | rfl | rfl | rfl | rfl | rfl | rfl | rfl | rfl <;> rfl) (by unfold maxLen; omega) (by omega) (by simp; omega)
    obtain ⟨g', cap2, rfl⟩ := ownsRow_succ hown'
    have HF : Hid (Blk w3 lb #[v] 56 ∧ ownPostG W.heap.size (Kept fun k => k = lb ∨ W.heap.size ≤ k) (fun pre V => ∃ v, Blk V lb #[v] 56 ∧ V.ownsRow W.heap.size 33 11 v pre.length (flK (lks rs pre)) ∧ Blk V w.heap.size #[.slice (some ⟨gr, orr, none⟩) rs.length cap] 23 ∧ Blk V (w.heap.size + 1) (#[.int .u8 (Lk.zero.has : Nat), .int .u8 Lk.zero.r, .int .u8 Lk.zero.g, .int .u8 Lk.zero.b, .int .u8 Lk.zero.a, .int .u8 Lk.zero.r2, .int .u8 Lk.zero.g2, .int .u8 Lk.zero.b2, .int .u8 Lk.zero.a2, .bool Lk.zero.bd, .int .i64 Lk.zero.pad]) 33 ∧ Below w.heap.size w V) (fun _ _ _ => False) (pre ++ [x]) V .normal { tmps := #[], defers := [] } (w3.setCell ⟨lb, 0, none⟩ (.slice (some ⟨g', 0, none⟩) (pre.length + 1) cap2))) := by
      have zb : Below V.drew.heap.size V.drew (V.drew.alloc (.cells (#[.int .u8 (k.has : Nat), .int .u8 k.r, .int .u8 k.g, .int .u8 k.b, .int .u8 k.a, .int .u8 k.r2, .int .u8 k.g2, .int .u8 k.b2, .int .u8 k.a2, .bool k.bd, .int .i64 k.pad]) 33)) := (Below.refl _ V.drew).alloc (Nat.le_refl _) _
      have gr' := row_grown hown hgrow
      have q1 : Blk w3 lb #[v] 56 := gr' _ _ (.inl (by omega)) ((show Blk V.drew _ _ _ from h1).below zb)
      have q3 : Blk w3 w.heap.size #[.slice (some ⟨gr, orr, none⟩) rs.length cap] 23 := gr' _ _ (.inl (by omega)) ((show Blk V.drew _ _ _ from h3).below zb)
      have q4 : Blk w3 (w.heap.size + 1) (#[.int .u8 (Lk.zero.has : Nat), .int .u8 Lk.zero.r, .int .u8 Lk.zero.g, .int .u8 Lk.zero.b, .int .u8 Lk.zero.a, .int .u8 Lk.zero.r2, .int .u8 Lk.zero.g2, .int .u8 Lk.zero.b2, .int .u8 Lk.zero.a2, .bool Lk.zero.bd, .int .i64 Lk.zero.pad]) 33 := gr' _ _ (.inl (by omega)) ((show Blk V.drew _ _ _ from h4).below zb)
      have q5 : Below w.heap.size w w3 := (h5.drew.alloc h5.size _).grown hgrow (h5.drew.alloc h5.size _).size (fun g hg => by have := (row_lt hown g hg).1; omega)
      have kf : KeepsFrom W.heap.size V (V.drew.alloc (.cells (#[.int .u8 (k.has : Nat), .int .u8 k.r, .int .u8 k.g, .int .u8 k.b, .int .u8 k.a, .int .u8 k.r2, .int .u8 k.g2, .int .u8 k.b2, .int .u8 k.a2, .bool k.bd, .int .i64 k.pad]) 33)) := keepsB ((KeepsOthers.drew V).from _) zb
      have kp : Kept (fun k => k = lb ∨ W.heap.size ≤ k) V (V.drew.alloc (.cells (#[.int .u8 (k.has : Nat), .int .u8 k.r, .int .u8 k.g, .int .u8 k.b, .int .u8 k.a, .int .u8 k.r2, .int .u8 k.g2, .int .u8 k.b2, .int .u8 k.a2, .bool k.bd, .int .i64 k.pad]) 33)) := (show Kept _ V V.drew from ⟨Nat.le_refl _, fun _ _ _ _ h => h⟩).trans (Kept.below zb)
      refine ⟨q1, KeepsFrom.set' ⟨Nat.le_trans kf.size hgrow.size, fun k o hk e ho => gr' k o (.inr ho) (kf.same k o hk e ho)⟩ _ _, (kp.trans ⟨hgrow.size, fun k o hk _ e => gr' k o (.inl (by omega)) e⟩).set _ _ _ (.inl rfl), _, q1.put1 _, ?_, q3.other _ _ (by simp; omega), q4.other _ _ (by simp; omega), q5.setCell (p := ⟨lb, 0, none⟩) (by simp; omega) _⟩
      rw [HE.out, flK_snoc, List.length_append]
      exact row_set hown' _ _ (by simp; omega)
    have q1 := HF.out.1.at1
    have q2 := HF.out.1.frozen 0
    clear h1 h2 h3 h4 h5 hown hown' hgrow hnil hi0 hz0 hz1 hz2
    gi_wp2_with fail
    have happ' : (Builtin.append_ #[56, 56] 56 #[v, .slice (some ⟨V.heap.size, 0, none⟩) 1 1]).run Tryd.prog (V.drew.alloc (.cells (#[.int .u8 (k.has : Nat), .int .u8 k.r, .int .u8 k.g, .int .u8 k.b, .int .u8 k.a, .int .u8 k.r2, .int .u8 k.g2, .int .u8 k.b2, .int .u8 k.a2, .bool k.bd, .int .i64 k.pad]) 33)) = .ok (.slice (some ⟨g', 0, none⟩) (pre.length + 1) cap2) w3 := happ
    clear happ
    have hm : Tryd.prog.follows .mixedOrders = true := by kernel_rfl
    refine wpIn_region_any hm ?_
    change wpAnyIn _ _ _ _ _ _ _ _ _ (World.drew _)
    refine wpAnyIn_ready (rs := [0, 1, 2]) (by kernel_rfl) (by simp) ?_
    refine AllReadyIn.cons rfl (fun K hK => ?_) ?_
    · go_simp
      refine hK _ _ ?_
      clear hK K
      refine wpAnyIn_ready (rs := [1, 2]) (by kernel_rfl) (by simp) ?_
      refine AllReadyIn.cons rfl (fun K hK => ?_) ?_
      · go_simp
        refine hK _ _ ?_
        clear hK K
        refine wpAnyIn_ready (rs := [2]) (by kernel_rfl) (by simp) ?_
        refine AllReadyIn.cons rfl (fun K hK => ?_) ?_
        · go_simp
          refine hK _ _ ?_
          clear hK K
          refine wpAnyIn_ready (rs := [3]) (by kernel_rfl) (by simp) ?_
          refine AllReadyIn.cons rfl (fun K hK => ?_) ?_
          · go_simp
            refine hK _ _ ?_
            clear hK K
            refine wpAnyIn_ready (rs := [4]) (by kernel_rfl) (by simp) ?_
            refine AllReadyIn.cons rfl (fun K hK => ?_) ?_
            · go_simp
              refine hK _ _ ?_
              clear hK K
              refine wpAnyIn_ready (rs := [5]) (by kernel_rfl) (by simp) ?_
              refine AllReadyIn.cons rfl (fun K hK => ?_) ?_
              · go_simp
                refine hK _ _ ?_
                clear hK K
                refine wpAnyIn_ready (rs := [6]) (by kernel_rfl) (by simp) ?_
                refine AllReadyIn.cons rfl (fun K hK => ?_) ?_
                · go_simp
                  refine hK _ _ ?_
                  clear hK K
                  refine wpAnyIn_ready (rs := [7]) (by kernel_rfl) (by simp) ?_
                  refine AllReadyIn.cons rfl (fun K hK => ?_) ?_
                  · refine app_in rfl rfl rfl happ' (hK _ _ ?_)
                    clear hK K
                    refine wpAnyIn_ready (rs := [8]) (by kernel_rfl) (by simp) ?_
                    refine AllReadyIn.cons rfl (fun K hK => ?_) ?_
                    · go_simp
                      refine hK _ _ ?_
                      clear hK K
                      refine wpAnyIn_done (by kernel_rfl) ?_ _
                      gi_wp2
                      exact HF.out.2
                    exact AllReadyIn.nil
                  exact AllReadyIn.nil
                exact AllReadyIn.nil
              exact AllReadyIn.nil
            exact AllReadyIn.nil
          exact AllReadyIn.nil
        exact AllReadyIn.nil
      refine AllReadyIn.cons rfl (fun K hK => ?_) ?_
      · go_simp
        refine hK _ _ ?_
        clear hK K
        refine wpAnyIn_ready (rs := [1]) (by kernel_rfl) (by simp) ?_
        refine AllReadyIn.cons rfl (fun K hK => ?_) ?_
        · go_simp
          refine hK _ _ ?_
          clear hK K
          refine wpAnyIn_ready (rs := [3]) (by kernel_rfl) (by simp) ?_
          refine AllReadyIn.cons rfl (fun K hK => ?_) ?_
          · go_simp
            refine hK _ _ ?_
            clear hK K
            refine wpAnyIn_ready (rs := [4]) (by kernel_rfl) (by simp) ?_
            refine AllReadyIn.cons rfl (fun K hK => ?_) ?_
            · go_simp
              refine hK _ _ ?_
              clear hK K
              refine wpAnyIn_ready (rs := [5]) (by kernel_rfl) (by simp) ?_
              refine AllReadyIn.cons rfl (fun K hK => ?_) ?_
              · go_simp
                refine hK _ _ ?_
                clear hK K
                refine wpAnyIn_ready (rs := [6]) (by kernel_rfl) (by simp) ?_
                refine AllReadyIn.cons rfl (fun K hK => ?_) ?_
                · go_simp
                  refine hK _ _ ?_
                  clear hK K
                  refine wpAnyIn_ready (rs := [7]) (by kernel_rfl) (by simp) ?_
                  refine AllReadyIn.cons rfl (fun K hK => ?_) ?_
                  · refine app_in rfl rfl rfl happ' (hK _ _ ?_)
                    clear hK K
                    refine wpAnyIn_ready (rs := [8]) (by kernel_rfl) (by simp) ?_
                    refine AllReadyIn.cons rfl (fun K hK => ?_) ?_
                    · go_simp
                      refine hK _ _ ?_
                      clear hK K
                      refine wpAnyIn_done (by kernel_rfl) ?_ _
                      gi_wp2
                      exact HF.out.2
                    exact AllReadyIn.nil
                  exact AllReadyIn.nil
                exact AllReadyIn.nil
              exact AllReadyIn.nil
            exact AllReadyIn.nil
          exact AllReadyIn.nil
        exact AllReadyIn.nil
      exact AllReadyIn.nil
    refine AllReadyIn.cons rfl (fun K hK => ?_) ?_
    · go_simp
      refine hK _ _ ?_
      clear hK K
      refine wpAnyIn_ready (rs := [0, 2]) (by kernel_rfl) (by simp) ?_
      refine AllReadyIn.cons rfl (fun K hK => ?_) ?_
      · go_simp
        refine hK _ _ ?_
        clear hK K
        refine wpAnyIn_ready (rs := [2]) (by kernel_rfl) (by simp) ?_
        refine AllReadyIn.cons rfl (fun K hK => ?_) ?_
        · go_simp
          refine hK _ _ ?_
          clear hK K
          refine wpAnyIn_ready (rs := [3]) (by kernel_rfl) (by simp) ?_
          refine AllReadyIn.cons rfl (fun K hK => ?_) ?_
          · go_simp
            refine hK _ _ ?_
            clear hK K
            refine wpAnyIn_ready (rs := [4]) (by kernel_rfl) (by simp) ?_
            refine AllReadyIn.cons rfl (fun K hK => ?_) ?_
            · go_simp
              refine hK _ _ ?_
              clear hK K
              refine wpAnyIn_ready (rs := [5]) (by kernel_rfl) (by simp) ?_
              refine AllReadyIn.cons rfl (fun K hK => ?_) ?_
              · go_simp
                refine hK _ _ ?_
                clear hK K
                refine wpAnyIn_ready (rs := [6]) (by kernel_rfl) (by simp) ?_
                refine AllReadyIn.cons rfl (fun K hK => ?_) ?_
                · go_simp
                  refine hK _ _ ?_
                  clear hK K
                  refine wpAnyIn_ready (rs := [7]) (by kernel_rfl) (by simp) ?_
                  refine AllReadyIn.cons rfl (fun K hK => ?_) ?_
                  · refine app_in rfl rfl rfl happ' (hK _ _ ?_)
                    clear hK K
                    refine wpAnyIn_ready (rs := [8]) (by kernel_rfl) (by simp) ?_
                    refine AllReadyIn.cons rfl (fun K hK => ?_) ?_
                    · go_simp
                      refine hK _ _ ?_
                      clear hK K
                      refine wpAnyIn_done (by kernel_rfl) ?_ _
                      gi_wp2
                      exact HF.out.2
                    exact AllReadyIn.nil
                  exact AllReadyIn.nil
                exact AllReadyIn.nil
              exact AllReadyIn.nil
            exact AllReadyIn.nil
          exact AllReadyIn.nil
        exact AllReadyIn.nil
      refine AllReadyIn.cons rfl (fun K hK => ?_) ?_
      · go_simp
        refine hK _ _ ?_
        clear hK K
        refine wpAnyIn_ready (rs := [0, 3]) (by kernel_rfl) (by simp) ?_
        refine AllReadyIn.cons rfl (fun K hK => ?_) ?_
        · go_simp
          refine hK _ _ ?_
          clear hK K
          refine wpAnyIn_ready (rs := [3]) (by kernel_rfl) (by simp) ?_
          refine AllReadyIn.cons rfl (fun K hK => ?_) ?_
          · go_simp
            refine hK _ _ ?_
            clear hK K
            refine wpAnyIn_ready (rs := [4]) (by kernel_rfl) (by simp) ?_
            refine AllReadyIn.cons rfl (fun K hK => ?_) ?_
            · go_simp
              refine hK _ _ ?_
              clear hK K
              refine wpAnyIn_ready (rs := [5]) (by kernel_rfl) (by simp) ?_
              refine AllReadyIn.cons rfl (fun K hK => ?_) ?_
              · go_simp
                refine hK _ _ ?_
                clear hK K
                refine wpAnyIn_ready (rs := [6]) (by kernel_rfl) (by simp) ?_
                refine AllReadyIn.cons rfl (fun K hK => ?_) ?_
                · go_simp
                  refine hK _ _ ?_
                  clear hK K
                  refine wpAnyIn_ready (rs := [7]) (by kernel_rfl) (by simp) ?_
                  refine AllReadyIn.cons rfl (fun K hK => ?_) ?_
                  · refine app_in rfl rfl rfl happ' (hK _ _ ?_)
                    clear hK K
                    refine wpAnyIn_ready (rs := [8]) (by kernel_rfl) (by simp) ?_
                    refine AllReadyIn.cons rfl (fun K hK => ?_) ?_
                    · go_simp
                      refine hK _ _ ?_
                      clear hK K
                      refine wpAnyIn_done (by kernel_rfl) ?_ _
                      gi_wp2
                      exact HF.out.2
                    exact AllReadyIn.nil
                  exact AllReadyIn.nil
                exact AllReadyIn.nil
              exact AllReadyIn.nil
            exact AllReadyIn.nil
          exact AllReadyIn.nil
        refine AllReadyIn.cons rfl (fun K hK => ?_) ?_
        · go_simp
          refine hK _ _ ?_
          clear hK K
          refine wpAnyIn_ready (rs := [0, 4]) (by kernel_rfl) (by simp) ?_
          refine AllReadyIn.cons rfl (fun K hK => ?_) ?_
          · go_simp
            refine hK _ _ ?_
            clear hK K
            refine wpAnyIn_ready (rs := [4]) (by kernel_rfl) (by simp) ?_
            refine AllReadyIn.cons rfl (fun K hK => ?_) ?_
            · go_simp
              refine hK _ _ ?_
              clear hK K
              refine wpAnyIn_ready (rs := [5]) (by kernel_rfl) (by simp) ?_
              refine AllReadyIn.cons rfl (fun K hK => ?_) ?_
              · go_simp
                refine hK _ _ ?_
                clear hK K
                refine wpAnyIn_ready (rs := [6]) (by kernel_rfl) (by simp) ?_
                refine AllReadyIn.cons rfl (fun K hK => ?_) ?_
                · go_simp
                  refine hK _ _ ?_
                  clear hK K
                  refine wpAnyIn_ready (rs := [7]) (by kernel_rfl) (by simp) ?_
                  refine AllReadyIn.cons rfl (fun K hK => ?_) ?_
                  · refine app_in rfl rfl rfl happ' (hK _ _ ?_)
                    clear hK K
                    refine wpAnyIn_ready (rs := [8]) (by kernel_rfl) (by simp) ?_
                    refine AllReadyIn.cons rfl (fun K hK => ?_) ?_
                    · go_simp
                      refine hK _ _ ?_
                      clear hK K
                      refine wpAnyIn_done (by kernel_rfl) ?_ _
                      gi_wp2
                      exact HF.out.2
                    exact AllReadyIn.nil
                  exact AllReadyIn.nil
                exact AllReadyIn.nil
              exact AllReadyIn.nil
            exact AllReadyIn.nil
          refine AllReadyIn.cons rfl (fun K hK => ?_) ?_
          · go_simp
            refine hK _ _ ?_
            clear hK K
            refine wpAnyIn_ready (rs := [0, 5]) (by kernel_rfl) (by simp) ?_
            refine AllReadyIn.cons rfl (fun K hK => ?_) ?_
            · go_simp
              refine hK _ _ ?_
              clear hK K
              refine wpAnyIn_ready (rs := [5]) (by kernel_rfl) (by simp) ?_
              refine AllReadyIn.cons rfl (fun K hK => ?_) ?_
              · go_simp
                refine hK _ _ ?_
                clear hK K
                refine wpAnyIn_ready (rs := [6]) (by kernel_rfl) (by simp) ?_
                refine AllReadyIn.cons rfl (fun K hK => ?_) ?_
                · go_simp
                  refine hK _ _ ?_
                  clear hK K
                  refine wpAnyIn_ready (rs := [7]) (by kernel_rfl) (by simp) ?_
                  refine AllReadyIn.cons rfl (fun K hK => ?_) ?_
                  · refine app_in rfl rfl rfl happ' (hK _ _ ?_)
                    clear hK K
                    refine wpAnyIn_ready (rs := [8]) (by kernel_rfl) (by simp) ?_
                    refine AllReadyIn.cons rfl (fun K hK => ?_) ?_
                    · go_simp
                      refine hK _ _ ?_
                      clear hK K
                      refine wpAnyIn_done (by kernel_rfl) ?_ _
                      gi_wp2
                      exact HF.out.2
                    exact AllReadyIn.nil
                  exact AllReadyIn.nil
                exact AllReadyIn.nil
              exact AllReadyIn.nil
            refine AllReadyIn.cons rfl (fun K hK => ?_) ?_
            · go_simp
              refine hK _ _ ?_
              clear hK K
              refine wpAnyIn_ready (rs := [0, 6]) (by kernel_rfl) (by simp) ?_
              refine AllReadyIn.cons rfl (fun K hK => ?_) ?_
              · go_simp
                refine hK _ _ ?_
                clear hK K
                refine wpAnyIn_ready (rs := [6]) (by kernel_rfl) (by simp) ?_
                refine AllReadyIn.cons rfl (fun K hK => ?_) ?_
                · go_simp
                  refine hK _ _ ?_
                  clear hK K
                  refine wpAnyIn_ready (rs := [7]) (by kernel_rfl) (by simp) ?_
                  refine AllReadyIn.cons rfl (fun K hK => ?_) ?_
                  · refine app_in rfl rfl rfl happ' (hK _ _ ?_)
                    clear hK K
                    refine wpAnyIn_ready (rs := [8]) (by kernel_rfl) (by simp) ?_
                    refine AllReadyIn.cons rfl (fun K hK => ?_) ?_
                    · go_simp
                      refine hK _ _ ?_
                      clear hK K
                      refine wpAnyIn_done (by kernel_rfl) ?_ _
                      gi_wp2
                      exact HF.out.2
                    exact AllReadyIn.nil
                  exact AllReadyIn.nil
                exact AllReadyIn.nil
              refine AllReadyIn.cons rfl (fun K hK => ?_) ?_
              · go_simp
                refine hK _ _ ?_
                clear hK K
                refine wpAnyIn_ready (rs := [0]) (by kernel_rfl) (by simp) ?_
                refine AllReadyIn.cons rfl (fun K hK => ?_) ?_
                · go_simp
                  refine hK _ _ ?_
                  clear hK K
                  refine wpAnyIn_ready (rs := [7]) (by kernel_rfl) (by simp) ?_
                  refine AllReadyIn.cons rfl (fun K hK => ?_) ?_
                  · refine app_in rfl rfl rfl happ' (hK _ _ ?_)
                    clear hK K
                    refine wpAnyIn_ready (rs := [8]) (by kernel_rfl) (by simp) ?_
                    refine AllReadyIn.cons rfl (fun K hK => ?_) ?_
                    · go_simp
                      refine hK _ _ ?_
                      clear hK K
                      refine wpAnyIn_done (by kernel_rfl) ?_ _
                      gi_wp2
                      exact HF.out.2
                    exact AllReadyIn.nil
                  exact AllReadyIn.nil
                exact AllReadyIn.nil
              exact AllReadyIn.nil
            exact AllReadyIn.nil
          exact AllReadyIn.nil
        exact AllReadyIn.nil
      exact AllReadyIn.nil
    refine AllReadyIn.cons rfl (fun K hK => ?_) ?_
    · go_simp
      refine hK _ _ ?_
      clear hK K
      refine wpAnyIn_ready (rs := [0, 1]) (by kernel_rfl) (by simp) ?_
      refine AllReadyIn.cons rfl (fun K hK => ?_) ?_
      · go_simp
        refine hK _ _ ?_
        clear hK K
        refine wpAnyIn_ready (rs := [1]) (by kernel_rfl) (by simp) ?_
        refine AllReadyIn.cons rfl (fun K hK => ?_) ?_
        · go_simp
          refine hK _ _ ?_
          clear hK K
          refine wpAnyIn_ready (rs := [3]) (by kernel_rfl) (by simp) ?_
          refine AllReadyIn.cons rfl (fun K hK => ?_) ?_
          · go_simp
            refine hK _ _ ?_
            clear hK K
            refine wpAnyIn_ready (rs := [4]) (by kernel_rfl) (by simp) ?_
            refine AllReadyIn.cons rfl (fun K hK => ?_) ?_
            · go_simp
              refine hK _ _ ?_
              clear hK K
              refine wpAnyIn_ready (rs := [5]) (by kernel_rfl) (by simp) ?_
              refine AllReadyIn.cons rfl (fun K hK => ?_) ?_
              · go_simp
                refine hK _ _ ?_
                clear hK K
                refine wpAnyIn_ready (rs := [6]) (by kernel_rfl) (by simp) ?_
                refine AllReadyIn.cons rfl (fun K hK => ?_) ?_
                · go_simp
                  refine hK _ _ ?_
                  clear hK K
                  refine wpAnyIn_ready (rs := [7]) (by kernel_rfl) (by simp) ?_
                  refine AllReadyIn.cons rfl (fun K hK => ?_) ?_
                  · refine app_in rfl rfl rfl happ' (hK _ _ ?_)
                    clear hK K
                    refine wpAnyIn_ready (rs := [8]) (by kernel_rfl) (by simp) ?_
                    refine AllReadyIn.cons rfl (fun K hK => ?_) ?_
                    · go_simp
                      refine hK _ _ ?_
                      clear hK K
                      refine wpAnyIn_done (by kernel_rfl) ?_ _
                      gi_wp2
                      exact HF.out.2
                    exact AllReadyIn.nil
                  exact AllReadyIn.nil
                exact AllReadyIn.nil
              exact AllReadyIn.nil
            exact AllReadyIn.nil
          exact AllReadyIn.nil
        exact AllReadyIn.nil
      refine AllReadyIn.cons rfl (fun K hK => ?_) ?_
      · go_simp
        refine hK _ _ ?_
        clear hK K
        refine wpAnyIn_ready (rs := [0, 3]) (by kernel_rfl) (by simp) ?_
        refine AllReadyIn.cons rfl (fun K hK => ?_) ?_
        · go_simp
          refine hK _ _ ?_
          clear hK K
          refine wpAnyIn_ready (rs := [3]) (by kernel_rfl) (by simp) ?_
          refine AllReadyIn.cons rfl (fun K hK => ?_) ?_
          · go_simp
            refine hK _ _ ?_
            clear hK K
            refine wpAnyIn_ready (rs := [4]) (by kernel_rfl) (by simp) ?_
            refine AllReadyIn.cons rfl (fun K hK => ?_) ?_
            · go_simp
              refine hK _ _ ?_
              clear hK K
              refine wpAnyIn_ready (rs := [5]) (by kernel_rfl) (by simp) ?_
              refine AllReadyIn.cons rfl (fun K hK => ?_) ?_
              · go_simp
                refine hK _ _ ?_
                clear hK K
                refine wpAnyIn_ready (rs := [6]) (by kernel_rfl) (by simp) ?_
                refine AllReadyIn.cons rfl (fun K hK => ?_) ?_
                · go_simp
                  refine hK _ _ ?_
                  clear hK K
                  refine wpAnyIn_ready (rs := [7]) (by kernel_rfl) (by simp) ?_
                  refine AllReadyIn.cons rfl (fun K hK => ?_) ?_
                  · refine app_in rfl rfl rfl happ' (hK _ _ ?_)
                    clear hK K
                    refine wpAnyIn_ready (rs := [8]) (by kernel_rfl) (by simp) ?_
                    refine AllReadyIn.cons rfl (fun K hK => ?_) ?_
                    · go_simp
                      refine hK _ _ ?_
                      clear hK K
                      refine wpAnyIn_done (by kernel_rfl) ?_ _
                      gi_wp2
                      exact HF.out.2
                    exact AllReadyIn.nil
                  exact AllReadyIn.nil
                exact AllReadyIn.nil
              exact AllReadyIn.nil
            exact AllReadyIn.nil
          exact AllReadyIn.nil
        refine AllReadyIn.cons rfl (fun K hK => ?_) ?_
        · go_simp
          refine hK _ _ ?_
          clear hK K
          refine wpAnyIn_ready (rs := [0, 4]) (by kernel_rfl) (by simp) ?_
          refine AllReadyIn.cons rfl (fun K hK => ?_) ?_
          · go_simp
            refine hK _ _ ?_
            clear hK K
            refine wpAnyIn_ready (rs := [4]) (by kernel_rfl) (by simp) ?_
            refine AllReadyIn.cons rfl (fun K hK => ?_) ?_
            · go_simp
              refine hK _ _ ?_
              clear hK K
              refine wpAnyIn_ready (rs := [5]) (by kernel_rfl) (by simp) ?_
              refine AllReadyIn.cons rfl (fun K hK => ?_) ?_
              · go_simp
                refine hK _ _ ?_
                clear hK K
                refine wpAnyIn_ready (rs := [6]) (by kernel_rfl) (by simp) ?_
                refine AllReadyIn.cons rfl (fun K hK => ?_) ?_
                · go_simp
                  refine hK _ _ ?_
                  clear hK K
                  refine wpAnyIn_ready (rs := [7]) (by kernel_rfl) (by simp) ?_
                  refine AllReadyIn.cons rfl (fun K hK => ?_) ?_
                  · refine app_in rfl rfl rfl happ' (hK _ _ ?_)
                    clear hK K
                    refine wpAnyIn_ready (rs := [8]) (by kernel_rfl) (by simp) ?_
                    refine AllReadyIn.cons rfl (fun K hK => ?_) ?_
                    · go_simp
                      refine hK _ _ ?_
                      clear hK K
                      refine wpAnyIn_done (by kernel_rfl) ?_ _
                      gi_wp2
                      exact HF.out.2
                    exact AllReadyIn.nil
                  exact AllReadyIn.nil
                exact AllReadyIn.nil
              exact AllReadyIn.nil
            exact AllReadyIn.nil
          refine AllReadyIn.cons rfl (fun K hK => ?_) ?_
          · go_simp
            refine hK _ _ ?_
            clear hK K
            refine wpAnyIn_ready (rs := [0, 5]) (by kernel_rfl) (by simp) ?_
            refine AllReadyIn.cons rfl (fun K hK => ?_) ?_
            · go_simp
              refine hK _ _ ?_
              clear hK K
              refine wpAnyIn_ready (rs := [5]) (by kernel_rfl) (by simp) ?_
              refine AllReadyIn.cons rfl (fun K hK => ?_) ?_
              · go_simp
                refine hK _ _ ?_
                clear hK K
                refine wpAnyIn_ready (rs := [6]) (by kernel_rfl) (by simp) ?_
                refine AllReadyIn.cons rfl (fun K hK => ?_) ?_
                · go_simp
                  refine hK _ _ ?_
                  clear hK K
                  refine wpAnyIn_ready (rs := [7]) (by kernel_rfl) (by simp) ?_
                  refine AllReadyIn.cons rfl (fun K hK => ?_) ?_
                  · refine app_in rfl rfl rfl happ' (hK _ _ ?_)
                    clear hK K
                    refine wpAnyIn_ready (rs := [8]) (by kernel_rfl) (by simp) ?_
                    refine AllReadyIn.cons rfl (fun K hK => ?_) ?_
                    · go_simp
                      refine hK _ _ ?_
                      clear hK K
                      refine wpAnyIn_done (by kernel_rfl) ?_ _
                      gi_wp2
                      exact HF.out.2
                    exact AllReadyIn.nil
                  exact AllReadyIn.nil
                exact AllReadyIn.nil
              exact AllReadyIn.nil
            refine AllReadyIn.cons rfl (fun K hK => ?_) ?_
            · go_simp
              refine hK _ _ ?_
              clear hK K
              refine wpAnyIn_ready (rs := [0, 6]) (by kernel_rfl) (by simp) ?_
              refine AllReadyIn.cons rfl (fun K hK => ?_) ?_
              · go_simp
                refine hK _ _ ?_
                clear hK K
                refine wpAnyIn_ready (rs := [6]) (by kernel_rfl) (by simp) ?_
                refine AllReadyIn.cons rfl (fun K hK => ?_) ?_
                · go_simp
                  refine hK _ _ ?_
                  clear hK K
                  refine wpAnyIn_ready (rs := [7]) (by kernel_rfl) (by simp) ?_
                  refine AllReadyIn.cons rfl (fun K hK => ?_) ?_
                  · refine app_in rfl rfl rfl happ' (hK _ _ ?_)
                    clear hK K
                    refine wpAnyIn_ready (rs := [8]) (by kernel_rfl) (by simp) ?_
                    refine AllReadyIn.cons rfl (fun K hK => ?_) ?_
                    · go_simp
                      refine hK _ _ ?_
                      clear hK K
                      refine wpAnyIn_done (by kernel_rfl) ?_ _
                      gi_wp2
                      exact HF.out.2
                    exact AllReadyIn.nil
                  exact AllReadyIn.nil
                exact AllReadyIn.nil
              refine AllReadyIn.cons rfl (fun K hK => ?_) ?_
              · go_simp
                refine hK _ _ ?_
                clear hK K
                refine wpAnyIn_ready (rs := [0]) (by kernel_rfl) (by simp) ?_
                refine AllReadyIn.cons rfl (fun K hK => ?_) ?_
                · go_simp
                  refine hK _ _ ?_
                  clear hK K
                  refine wpAnyIn_ready (rs := [7]) (by kernel_rfl) (by simp) ?_
                  refine AllReadyIn.cons rfl (fun K hK => ?_) ?_
                  · refine app_in rfl rfl rfl happ' (hK _ _ ?_)
                    clear hK K
                    refine wpAnyIn_ready (rs := [8]) (by kernel_rfl) (by simp) ?_
                    refine AllReadyIn.cons rfl (fun K hK => ?_) ?_
                    · go_simp
                      refine hK _ _ ?_
                      clear hK K
                      refine wpAnyIn_done (by kernel_rfl) ?_ _
                      gi_wp2
                      exact HF.out.2
                    exact AllReadyIn.nil
                  exact AllReadyIn.nil
                exact AllReadyIn.nil
              exact AllReadyIn.nil
            exact AllReadyIn.nil
          exact AllReadyIn.nil
        exact AllReadyIn.nil
      exact AllReadyIn.nil
    exact AllReadyIn.nil
  case done =>
    rintro D ys V hD rfl ⟨v, h1, h2, h3, h4, h5⟩ hK
    have hlen : (lks rs (bwd l l.length)).length = (bwd l l.length).length := by unfold lks; rw [List.length_map]
    have hLk : Hid (Calls Tryd.prog 36 #[v] V fun e w' => e = .returned (Value.agg #[.int .u8 ((ly (lks rs (bwd l l.length))).has : Nat), .int .u8 (ly (lks rs (bwd l l.length))).r, .int .u8 (ly (lks rs (bwd l l.length))).g, .int .u8 (ly (lks rs (bwd l l.length))).b, .int .u8 (ly (lks rs (bwd l l.length))).a, .int .u8 (ly (lks rs (bwd l l.length))).r2, .int .u8 (ly (lks rs (bwd l l.length))).g2, .int .u8 (ly (lks rs (bwd l l.length))).b2, .int .u8 (ly (lks rs (bwd l l.length))).a2, .bool (ly (lks rs (bwd l l.length))).bd, .int .i64 (ly (lks rs (bwd l l.length))).pad]) ∧ Below V.heap.size V w') := by
      refine layered_any _ v V (looks_own (by rw [hlen]; exact h2)) (by rw [hlen, bwd_len]; exact held_len HN.out.2 hl) (fun f hf => ?_)
      obtain ⟨y, _, rfl⟩ := List.mem_map.1 hf
      cases hy : rs[y.2]? with
      | none => exact (by decide : (0 : Nat) < 256)
      | some r => exact (HV.out.2.2 r (List.mem_of_getElem? hy)).2.2.2
    have c1 := h1.at1
    obtain ⟨d0, d1, d2, d3, d4, d5, d6, d7, d8, d9, d10⟩ := h4.at11
    have HB : Hid (Blk V (w.heap.size + 1) (#[.int .u8 (Lk.zero.has : Nat), .int .u8 Lk.zero.r, .int .u8 Lk.zero.g, .int .u8 Lk.zero.b, .int .u8 Lk.zero.a, .int .u8 Lk.zero.r2, .int .u8 Lk.zero.g2, .int .u8 Lk.zero.b2, .int .u8 Lk.zero.a2, .bool Lk.zero.bd, .int .i64 Lk.zero.pad]) 33 ∧ Below w.heap.size w V ∧ V.heap[D]? = some (.deferred (some [])) ∧ Held rs kind t st l) := ⟨h4, h5, hK, HN.out.2⟩
    clear h1 h2 h3 h4 h5 hlen d0 d1 d2 d3 d4 d5 d6 d7 d8 d9 d10
    gi_wp2_with fail
    refine ⟨trivial, (callsIn_wide.2 hLk.out).mono ?_⟩
    rintro e V2 ⟨rfl, hb⟩
    have K2 := HB.out.1.below hb
    obtain ⟨d0, d1, d2, d3, d4, d5, d6, d7, d8, d9, d10⟩ := K2.at11
    have f2 := fun o => K2.frozen o
    have HC : Hid (Blk V2 (w.heap.size + 1) (#[.int .u8 (Lk.zero.has : Nat), .int .u8 Lk.zero.r, .int .u8 Lk.zero.g, .int .u8 Lk.zero.b, .int .u8 Lk.zero.a, .int .u8 Lk.zero.r2, .int .u8 Lk.zero.g2, .int .u8 Lk.zero.b2, .int .u8 Lk.zero.a2, .bool Lk.zero.bd, .int .i64 Lk.zero.pad]) 33 ∧ Below w.heap.size w V2 ∧ V2.heap[D]? = some (.deferred (some []))) := ⟨K2, HB.out.2.1.trans (hb.mono HB.out.2.1.size), (hb.block D (Array.getElem?_eq_some_iff.1 HB.out.2.2.1).1).trans HB.out.2.2.1⟩
    clear hb K2
    gi_wp2
    obtain ⟨K2, L2, hK2⟩ := HC.out
    have K3 := K2.put11 (.int .u8 ((ly (lks rs (bwd l l.length))).has : Nat)) (.int .u8 (ly (lks rs (bwd l l.length))).r) (.int .u8 (ly (lks rs (bwd l l.length))).g) (.int .u8 (ly (lks rs (bwd l l.length))).b) (.int .u8 (ly (lks rs (bwd l l.length))).a) (.int .u8 (ly (lks rs (bwd l l.length))).r2) (.int .u8 (ly (lks rs (bwd l l.length))).g2) (.int .u8 (ly (lks rs (bwd l l.length))).b2) (.int .u8 (ly (lks rs (bwd l l.length))).a2) (.bool (ly (lks rs (bwd l l.length))).bd) (.int .i64 (ly (lks rs (bwd l l.length))).pad)
    have hK3 := same11 (b := w.heap.size + 1) hK2 (by omega) (.int .u8 ((ly (lks rs (bwd l l.length))).has : Nat)) (.int .u8 (ly (lks rs (bwd l l.length))).r) (.int .u8 (ly (lks rs (bwd l l.length))).g) (.int .u8 (ly (lks rs (bwd l l.length))).b) (.int .u8 (ly (lks rs (bwd l l.length))).a) (.int .u8 (ly (lks rs (bwd l l.length))).r2) (.int .u8 (ly (lks rs (bwd l l.length))).g2) (.int .u8 (ly (lks rs (bwd l l.length))).b2) (.int .u8 (ly (lks rs (bwd l l.length))).a2) (.bool (ly (lks rs (bwd l l.length))).bd) (.int .i64 (ly (lks rs (bwd l l.length))).pad)
    obtain ⟨e0, e1, e2, e3, e4, e5, e6, e7, e8, e9, e10⟩ := (K3.left hK3 (.deferred none)).at11
    exact leaveD hK3 (v := .tuple #[(Value.agg #[.int .u8 ((ly (lks rs (bwd l l.length))).has : Nat), .int .u8 (ly (lks rs (bwd l l.length))).r, .int .u8 (ly (lks rs (bwd l l.length))).g, .int .u8 (ly (lks rs (bwd l l.length))).b, .int .u8 (ly (lks rs (bwd l l.length))).a, .int .u8 (ly (lks rs (bwd l l.length))).r2, .int .u8 (ly (lks rs (bwd l l.length))).g2, .int .u8 (ly (lks rs (bwd l l.length))).b2, .int .u8 (ly (lks rs (bwd l l.length))).a2, .bool (ly (lks rs (bwd l l.length))).bd, .int .i64 (ly (lks rs (bwd l l.length))).pad]), .int .i64 0]) (by simp [results, Tryd.results14, go_sem, e0, e1, e2, e3, e4, e5, e6, e7, e8, e9, e10]) ⟨l, HB.out.2.2.2, rfl, below_left (set11_below L2 (by omega) _ _ _ _ _ _ _ _ _ _ _) (by omega) _⟩
  case stop =>
    rintro D cd pre V _ _ h _
    exact h.elim

end Go.Proofs.YtobmpjmpffnoiaaDoor
