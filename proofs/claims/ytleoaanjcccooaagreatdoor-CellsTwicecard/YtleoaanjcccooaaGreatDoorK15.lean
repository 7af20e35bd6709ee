/-
  Texts of this claim, one behind the other: what each is about stands ahead of it.
-/
import Derived.Test.YtleoaanjcccooaaGreatDoorK14
import Derived.Test.YtleoaanjcccooaaGreatDoorK1
import Derived.Lib.RuneBytes
import Derived.Test.YtleoaanjcccooaaGreatDoorK8
import Derived.Test.YtleoaanjcccooaaGreatDoorK9
/-
  A Builder at the head of a block of whatever type: copyCheck, WriteByte, WriteString, WriteRune, Len, String.
-/
namespace Go.Proofs.YtleoaanjcccooaaGreatDoor
open Go.RowKit Go.Shelf Go.Lib

theorem dsizeB : (Tryz.prog.info? 97).map (·.size) = some 2 := by kernel_rfl
theorem dinfoB : (Tryz.prog.info? 5).map (fun i => (i.zero, i.size, i.bytes)) = some (some (.int .u8 0), 1, 1) := by kernel_rfl

/-- A type that opens with a Builder, of n cells. -/
structure TyH (T : TypeId) (n : Nat) : Prop where
  two : 2 ≤ n
  lies : liesAt Tryz.prog Tryz.prog.depth T (n / Tryz.prog.cellsOf T) 0 97 1 = true
  ne : T ≠ 5
/-- A Builder at the head of the block b; behind it lies rs. -/
def BdF (T : TypeId) (rs : List Value) (B b : Nat) (p : Value) (bs : List Value) (w : World) : Prop :=
  B ≤ b ∧ ∃ v, w.heap[b]? = some (.cells (p :: v :: rs).toArray T (0, 0)) ∧ w.ownsRowF B 5 1 v bs.length bs ∧ v.ownBlock ≠ some b
def IsBd (T : TypeId) (rs : List Value) (B b : Nat) (bs : List Value) (w : World) : Prop :=
  BdF T rs B b (.pointer none) bs w ∨ BdF T rs B b (.pointer (some ⟨b, 0, none⟩)) bs w
theorem BdF.cell0 {T : TypeId} {rs : List Value} {B b : Nat} {p : Value} {bs : List Value} {w : World} (h : BdF T rs B b p bs w) : w.cell? ⟨b, 0, none⟩ = some p := by
  obtain ⟨_, v, hb, _⟩ := h
  rw [Lib.cell_of_heap hb]; rfl
theorem BdF.shape {T : TypeId} {rs : List Value} {B b : Nat} {p : Value} {bs : List Value} {w : World} (h : BdF T rs B b p bs w) : w.shape? b = some (T, rs.length + 2) := by
  obtain ⟨_, v, hb, _⟩ := h
  simp [World.shape?, hb]
theorem BdF.frozen0 {T : TypeId} {rs : List Value} {B b : Nat} {p : Value} {bs : List Value} {w : World} (h : BdF T rs B b p bs w) : w.frozen? ⟨b, 0, none⟩ = false := by
  obtain ⟨_, v, hb, _⟩ := h
  exact Lib.frozen_of_heap hb 0
theorem BdF.lt {T : TypeId} {rs : List Value} {B b : Nat} {p : Value} {bs : List Value} {w : World} (h : BdF T rs B b p bs w) : b < w.heap.size := by
  obtain ⟨_, v, hb, _⟩ := h
  exact (Array.getElem?_eq_some_iff.1 hb).1
theorem own_setF {B b o : Nat} {v : Value} {n : Nat} {xs : List Value} {w : World} (h : w.ownsRowF B 5 1 v n xs) (hne : v.ownBlock ≠ some b) (q : Value) : (w.setCell ⟨b, o, none⟩ q).ownsRowF B 5 1 v n xs :=
  h.kept (row := some b) ⟨rfl, rfl, rfl, by simp [World.setCell], fun k _ hk => Below.heap_setCell _ _ _ _ (fun e => hk (by simp [e]))⟩ (Or.inr hne)
theorem BdF.used {T : TypeId} {rs : List Value} {B b : Nat} {p : Value} {bs : List Value} {w : World} (h : BdF T rs B b p bs w) (q : Value) : BdF T rs B b q bs (w.setCell ⟨b, 0, none⟩ q) := by
  obtain ⟨hB, v, hb, hown, hne⟩ := h
  refine ⟨hB, v, ?_, own_setF hown hne q, hne⟩
  simp [World.setCell, Array.getElem?_modify, hb]
theorem BdF.put {T : TypeId} {rs : List Value} {B b : Nat} {p v v' : Value} {bs' : List Value} {w : World} (hB : B ≤ b) (hb : w.heap[b]? = some (.cells (p :: v :: rs).toArray T (0, 0))) (hown : w.ownsRowF B 5 1 v' bs'.length bs') (hT : T ≠ 5) :
    BdF T rs B b p bs' (w.setCell ⟨b, 1, none⟩ v') := by
  have hne := Lib.ownBlock_neF hown hb hT
  refine ⟨hB, v', ?_, own_setF hown hne v', hne⟩
  simp [World.setCell, Array.getElem?_modify, hb]
theorem BdF.below {T : TypeId} {rs : List Value} {B b : Nat} {p : Value} {bs : List Value} {w w' : World} (h : BdF T rs B b p bs w) (hb : Below w.heap.size w w') : BdF T rs B b p bs w' := by
  have hl := h.lt
  obtain ⟨hB, v, hk, hown, hne⟩ := h
  refine ⟨hB, v, (hb.block b hl).trans hk, ?_, hne⟩
  rcases hown.2 with ⟨e, e0⟩ | ⟨g, cap, cur, fz, e, hg, hgg, r⟩
  · exact ⟨hown.1, .inl ⟨e, e0⟩⟩
  · exact ⟨hown.1, .inr ⟨g, cap, cur, fz, e, hg, (hb.block g (Array.getElem?_eq_some_iff.1 hgg).1).trans hgg, r⟩⟩
theorem IsBd.below {T : TypeId} {rs : List Value} {B b : Nat} {bs : List Value} {w w' : World} (h : IsBd T rs B b bs w) (hb : Below w.heap.size w w') : IsBd T rs B b bs w' := h.elim (fun x => .inl (x.below hb)) (fun x => .inr (x.below hb))
theorem IsBd.lt {T : TypeId} {rs : List Value} {B b : Nat} {bs : List Value} {w : World} (h : IsBd T rs B b bs w) : B ≤ b ∧ b < w.heap.size := h.elim (fun x => ⟨x.1, x.lt⟩) (fun x => ⟨x.1, x.lt⟩)

/-- What a call on a Builder leaves: blocks below, all but the Builder's and rows of bytes. -/
structure KpD (B b : Nat) (w w' : World) : Prop where
  bw : Below B w w'
  k : Lib.OthersKept 5 (some b) w w'
theorem KpD.refl (B b : Nat) (w : World) : KpD B b w w := ⟨Below.refl _ _, Lib.OthersKept.refl _ _ _⟩
theorem KpD.trans {B b : Nat} {a c d : World} (h : KpD B b a c) (k : KpD B b c d) : KpD B b a d := ⟨h.bw.trans k.bw, h.k.trans k.k⟩
theorem KpD.of_below {B b : Nat} {w w' : World} (hB : B ≤ w.heap.size) (h : Below w.heap.size w w') : KpD B b w w' :=
  ⟨h.mono hB, fun k o hk _ _ => by rw [h.block k (Array.getElem?_eq_some_iff.1 hk).1]; exact hk⟩
theorem KpD.cell {B b : Nat} {w w' : World} (h : KpD B b w w') {g : Nat} {cs : Array Value} {t : TypeId} {fz : Nat × Nat} (hg : w.heap[g]? = some (.cells cs t fz)) (hne : g ≠ b) (ht : t ≠ 5) : w'.heap[g]? = some (.cells cs t fz) :=
  h.k g _ hg (by simpa using hne) (fun c fz e => by injection e with _ e; exact ht e)

set_option maxHeartbeats 1000000 in
set_option maxRecDepth 100000 in
theorem dcc_used (b : Nat) (w : World) (h0 : w.cell? ⟨b, 0, none⟩ = some (.pointer (some ⟨b, 0, none⟩))) :
    Calls Tryz.prog 83 #[.pointer (some ⟨b, 0, none⟩)] w fun e w' => e = .returned (.tuple #[]) ∧ w' = w := by
  obtain ⟨j, hj, _⟩ := Option.map_eq_some_iff.1 dsizeB
  go_enter Tryz.func83, Tryz.ntmps83
  go_wp2
  rw [Lib.run_neq_ptr_same w _ Tryz.underlying94 hj]
  go_wp2
  go_end0
  exact ⟨rfl, rfl⟩

set_option maxHeartbeats 1000000 in
set_option maxRecDepth 100000 in
theorem dcc_fresh (T : TypeId) (n b : Nat) (w : World) (H : TyH T n) (h0 : w.cell? ⟨b, 0, none⟩ = some (.pointer none)) (hsh : w.shape? b = some (T, n)) (hfz : w.frozen? ⟨b, 0, none⟩ = false) :
    Calls Tryz.prog 83 #[.pointer (some ⟨b, 0, none⟩)] w fun e w' => e = .returned (.tuple #[]) ∧ w' = w.setCell ⟨b, 0, none⟩ (.pointer (some ⟨b, 0, none⟩)) := by
  obtain ⟨j, hj, hjs⟩ := Option.map_eq_some_iff.1 dsizeB
  have hn : 0 < n := Nat.lt_of_lt_of_le (by decide) H.two
  go_enter Tryz.func83, Tryz.ntmps83
  go_wp2
  rw [Lib.run_to_unsafe w ⟨b, 0, none⟩ Tryz.underlying94 Tryz.underlying185 hj (by rw [hjs]; decide) hsh hn]
  simp only [Result.andThen]
  rw [Oper.upon_value]
  go_wp2
  rw [run_callFunc_extern Tryz.func116 (by kernel_rfl) (by kernel_rfl) (by kernel_rfl) (e := Extern.AbiNoEscape.same) (by kernel_rfl)]
  rw [Lib.run_noEscape]
  simp only [Result.andThen]
  rw [Oper.upon_value]
  go_wp2
  rw [Lib.run_from_unsafe w ⟨b, 0, none⟩ Tryz.underlying185 Tryz.underlying94 hj hsh H.lies]
  simp only [Result.andThen]
  rw [Oper.upon_value]
  go_wp2
  go_end0
  exact ⟨rfl, rfl⟩

theorem dcc_any (T : TypeId) (rs : List Value) (B b : Nat) (bs : List Value) (w : World) (H : TyH T (rs.length + 2)) (h : IsBd T rs B b bs w) :
    Calls Tryz.prog 83 #[.pointer (some ⟨b, 0, none⟩)] w fun e w' => e = .returned (.tuple #[]) ∧ BdF T rs B b (.pointer (some ⟨b, 0, none⟩)) bs w' ∧ KpD B b w w' := by
  rcases h with h | h
  · refine (dcc_fresh T _ b w H h.cell0 h.shape h.frozen0).mono fun e w' ⟨h1, h2⟩ => ?_
    subst h1 h2
    exact ⟨rfl, h.used _, (Below.refl B w).setCell (p := ⟨b, 0, none⟩) h.1 _, (Lib.OthersKept.refl _ _ w).setCell ⟨b, 0, none⟩ rfl _⟩
  · refine (dcc_used b w h.cell0).mono fun e w' ⟨h1, h2⟩ => ?_
    subst h1 h2
    exact ⟨rfl, h, KpD.refl _ _ _⟩

set_option maxHeartbeats 2000000 in
set_option maxRecDepth 100000 in
theorem dWriteRune_any (T : TypeId) (rs : List Value) (B b : Nat) (bs : List Value) (r : Int) (hr0 : -2147483648 ≤ r) (hr1 : r ≤ 2147483647) (w : World) (H : TyH T (rs.length + 2)) (h : IsBd T rs B b bs w) (hlen : bs.length + 4 ≤ 140737488355328) (hBw : B ≤ w.heap.size) :
    Calls Tryz.prog 82 #[.pointer (some ⟨b, 0, none⟩), .int .i32 r] w fun e w' => (∃ v, e = .returned v) ∧ BdF T rs B b (.pointer (some ⟨b, 0, none⟩)) (bs ++ Lib.runeCells r) w' ∧ KpD B b w w' := by
  have hk4 := Lib.runeCells_le r
  have hT := H.ne
  go_enter Tryz.func82, Tryz.ntmps82
  go_wp2_with fail
  refine (dcc_any T rs B b bs _ H h).mono ?_
  rintro e w1 ⟨rfl, h1, hk1⟩
  obtain ⟨hB, v, hbk, hown, hne⟩ := h1
  obtain ⟨ao, cap, rfl⟩ : ∃ ao cap, v = .slice ao bs.length cap := by
    rcases hown.2 with ⟨hv, h0⟩ | ⟨g, cap, cur, fz, hv, _⟩
    · exact ⟨none, 0, by rw [hv, h0]⟩
    · exact ⟨_, _, hv⟩
  have c0 : w1.cell? ⟨b, 0, none⟩ = some (.pointer (some ⟨b, 0, none⟩)) := by rw [Lib.cell_of_heap hbk]; rfl
  have c1 : w1.cell? ⟨b, 1, none⟩ = some (.slice ao bs.length cap) := by rw [Lib.cell_of_heap hbk]; rfl
  have hs1 := hk1.bw.size
  have HK1 : Hid (KpD B b w w1) := hk1
  clear hk1 H h
  go_wp2_with fail
  refine (Any.utf8_AppendRune_row Tryz.lays242 dinfoB B _ bs.length bs r hr0 hr1 _ hown hlen (by omega)).mono ?_
  rintro e w2 ⟨v', rfl, hown', o, hgrow⟩
  have hlt : b < w1.heap.size := (Array.getElem?_eq_some_iff.1 hbk).1
  have hb2 : w2.heap[b]? = some (.cells (.pointer (some ⟨b, 0, none⟩) :: .slice ao bs.length cap :: rs).toArray T (0, 0)) :=
    (hgrow.block b (by simp; omega) (fun e => hne e.symm)).trans ((((Below.refl _ w1).alloc (Nat.le_refl _) o).block b hlt).trans hbk)
  have d0 : w2.cell? ⟨b, 0, none⟩ = some (.pointer (some ⟨b, 0, none⟩)) := by rw [Lib.cell_of_heap hb2]; rfl
  have d1 : w2.cell? ⟨b, 1, none⟩ = some (.slice ao bs.length cap) := by rw [Lib.cell_of_heap hb2]; rfl
  have f1 : w2.frozen? ⟨b, 1, none⟩ = false := Lib.frozen_of_heap hb2 1
  obtain ⟨g, cap', rfl⟩ : ∃ g cap', v' = .slice (some ⟨g, 0, none⟩) (bs.length + (Lib.runeCells r).length) cap' := by
    rcases hown'.2 with ⟨_, h0⟩ | ⟨g, cap', cur, fz, hv, _⟩
    · omega
    · exact ⟨g, cap', hv⟩
  have HF : Hid (BdF T rs B b (.pointer (some ⟨b, 0, none⟩)) (bs ++ Lib.runeCells r) (w2.setCell ⟨b, 1, none⟩ (.slice (some ⟨g, 0, none⟩) (bs.length + (Lib.runeCells r).length) cap')) ∧ KpD B b w (w2.setCell ⟨b, 1, none⟩ (.slice (some ⟨g, 0, none⟩) (bs.length + (Lib.runeCells r).length) cap'))) :=
    ⟨BdF.put hB hb2 (bs' := bs ++ Lib.runeCells r) (by rw [List.length_append]; exact hown') hT,
      ((HK1.out.bw.alloc (by omega) _).grown hgrow (by simp; omega) (fun k hk => (hown.lt k hk).1)).setCell (p := ⟨b, 1, none⟩) hB _,
      ((HK1.out.k.alloc _).grown hgrow (Lib.ownsRowF_kind (hown.alloc _))).setCell ⟨b, 1, none⟩ rfl _⟩
  clear hown hown' hgrow HK1 hbk hb2
  go_wp2
  go_ret2
  exact ⟨⟨_, rfl⟩, HF.out⟩

set_option maxHeartbeats 2000000 in
set_option maxRecDepth 100000 in
theorem dWriteByte_any (T : TypeId) (rs : List Value) (B b : Nat) (bs : List Value) (c : Int) (w : World) (H : TyH T (rs.length + 2)) (h : IsBd T rs B b bs w) (hlen : bs.length + 1 ≤ 140737488355328) (hBw : B ≤ w.heap.size) :
    Calls Tryz.prog 47 #[.pointer (some ⟨b, 0, none⟩), .int .u8 c] w fun e w' => (∃ v, e = .returned v) ∧ BdF T rs B b (.pointer (some ⟨b, 0, none⟩)) (bs ++ [.int .u8 c]) w' ∧ KpD B b w w' := by
  obtain ⟨i0, hi, hz0, hz1, hz2⟩ := info_parts dinfoB
  have hT := H.ne
  go_enter Tryz.func47, Tryz.ntmps47
  go_wp2_with fail
  refine (dcc_any T rs B b bs _ H h).mono ?_
  rintro e w1 ⟨rfl, h1, hk1⟩
  obtain ⟨hB, v, hbk, hown, hne⟩ := h1
  have c0 : w1.cell? ⟨b, 0, none⟩ = some (.pointer (some ⟨b, 0, none⟩)) := by rw [Lib.cell_of_heap hbk]; rfl
  have c1 : w1.cell? ⟨b, 1, none⟩ = some v := by rw [Lib.cell_of_heap hbk]; rfl
  have hs1 := hk1.bw.size
  have HK1 : Hid (KpD B b w w1) := hk1
  clear hk1 H h
  go_wp2_with (at_builtin; refine wpList_append_ownF _ rfl _ _ 95 rfl B 5 i0 (.int .u8 0) 1 1 Tryz.underlying95 hi hz0 hz1 hz2 rfl (by decide) _ _ _ rfl (hown.alloc _) ⟨w1.heap.size, 0, none⟩ 1 1 [.int .u8 c] rfl rfl ?c1 ?c2 ?c3 ?c4 ?c5 ?_)
  case c1 =>
    intro j u hj
    match j, hj with
    | 0, hj => simp at hj; subst hj; simp [Addr.add]
  case c2 => intro u hu; simp at hu; subst hu; rfl
  case c3 => unfold maxLen; omega
  case c4 => omega
  case c5 => simp; omega
  intro v' w2 hown' hgrow _
  have hlt : b < w1.heap.size := (Array.getElem?_eq_some_iff.1 hbk).1
  have hb2 : w2.heap[b]? = some (.cells (.pointer (some ⟨b, 0, none⟩) :: v :: rs).toArray T (0, 0)) := by
    rw [hgrow.block b (by simp; omega) (fun e => hne e.symm), Lib.alloc_old w1 _ b hlt]
    exact hbk
  have d0 : w2.cell? ⟨b, 0, none⟩ = some (.pointer (some ⟨b, 0, none⟩)) := by rw [Lib.cell_of_heap hb2]; rfl
  have d1 : w2.cell? ⟨b, 1, none⟩ = some v := by rw [Lib.cell_of_heap hb2]; rfl
  have f1 : w2.frozen? ⟨b, 1, none⟩ = false := Lib.frozen_of_heap hb2 1
  obtain ⟨g, cap, rfl⟩ : ∃ g cap, v' = .slice (some ⟨g, 0, none⟩) (bs.length + 1) cap := by
    rcases hown'.2 with ⟨_, h0⟩ | ⟨g, cap, cur, fz, hv, _⟩
    · omega
    · exact ⟨g, cap, hv⟩
  have HF : Hid (BdF T rs B b (.pointer (some ⟨b, 0, none⟩)) (bs ++ [.int .u8 c]) (w2.setCell ⟨b, 1, none⟩ (.slice (some ⟨g, 0, none⟩) (bs.length + 1) cap)) ∧ KpD B b w (w2.setCell ⟨b, 1, none⟩ (.slice (some ⟨g, 0, none⟩) (bs.length + 1) cap))) :=
    ⟨BdF.put hB hb2 (bs' := bs ++ [.int .u8 c]) (by simpa using hown') hT,
      ((HK1.out.bw.alloc (by omega) _).grown hgrow (by simp; omega) (fun k hk => (hown.lt k hk).1)).setCell (p := ⟨b, 1, none⟩) hB _,
      ((HK1.out.k.alloc _).grown hgrow (Lib.ownsRowF_kind (hown.alloc _))).setCell ⟨b, 1, none⟩ rfl _⟩
  clear hown hown' hgrow HK1 hbk hb2
  go_wp2
  go_ret
  exact ⟨⟨_, rfl⟩, HF.out⟩

set_option maxHeartbeats 2000000 in
set_option maxRecDepth 100000 in
theorem dWriteString_any (T : TypeId) (rs : List Value) (B b : Nat) (bs : List Value) (s : ByteArray) (w : World) (H : TyH T (rs.length + 2)) (h : IsBd T rs B b bs w) (hlen : bs.length + s.size ≤ 140737488355328) (hBw : B ≤ w.heap.size) :
    Calls Tryz.prog 118 #[.pointer (some ⟨b, 0, none⟩), .string s] w fun e w' => (∃ v, e = .returned v) ∧ BdF T rs B b (.pointer (some ⟨b, 0, none⟩)) (bs ++ Lib.strCells s) w' ∧ KpD B b w w' := by
  obtain ⟨i0, hi, hz0, hz1, hz2⟩ := info_parts dinfoB
  have hT := H.ne
  go_enter Tryz.func118, Tryz.ntmps118
  go_wp2_with fail
  refine (dcc_any T rs B b bs _ H h).mono ?_
  rintro e w1 ⟨rfl, h1, hk1⟩
  obtain ⟨hB, v, hbk, hown, hne⟩ := h1
  have c0 : w1.cell? ⟨b, 0, none⟩ = some (.pointer (some ⟨b, 0, none⟩)) := by rw [Lib.cell_of_heap hbk]; rfl
  have c1 : w1.cell? ⟨b, 1, none⟩ = some v := by rw [Lib.cell_of_heap hbk]; rfl
  have hs1 := hk1.bw.size
  have HK1 : Hid (KpD B b w w1) := hk1
  clear hk1 H h
  go_wp2_with (at_builtin; refine Lib.wpList_append_own_stringF _ rfl _ _ 95 9 rfl B 5 i0 Tryz.underlying95 Tryz.underlying9 hi hz0 hz1 hz2 _ _ _ rfl hown s rfl ?c3 ?c4 ?c5 ?_)
  case c3 => unfold maxLen; omega
  case c4 => omega
  case c5 => omega
  intro v' w2 hown' hgrow _
  have hlt : b < w1.heap.size := (Array.getElem?_eq_some_iff.1 hbk).1
  have hb2 : w2.heap[b]? = some (.cells (.pointer (some ⟨b, 0, none⟩) :: v :: rs).toArray T (0, 0)) := by
    rw [hgrow.block b hlt (fun e => hne e.symm)]
    exact hbk
  have d0 : w2.cell? ⟨b, 0, none⟩ = some (.pointer (some ⟨b, 0, none⟩)) := by rw [Lib.cell_of_heap hb2]; rfl
  have d1 : w2.cell? ⟨b, 1, none⟩ = some v := by rw [Lib.cell_of_heap hb2]; rfl
  have f1 : w2.frozen? ⟨b, 1, none⟩ = false := Lib.frozen_of_heap hb2 1
  obtain ⟨ao, n', cap, rfl⟩ : ∃ ao n' cap, v' = .slice ao n' cap := by
    rcases hown'.2 with ⟨hv, _⟩ | ⟨g, cap, cur, fz, hv, _⟩
    · exact ⟨_, _, _, hv⟩
    · exact ⟨_, _, _, hv⟩
  have HF : Hid (BdF T rs B b (.pointer (some ⟨b, 0, none⟩)) (bs ++ Lib.strCells s) (w2.setCell ⟨b, 1, none⟩ (.slice ao n' cap)) ∧ KpD B b w (w2.setCell ⟨b, 1, none⟩ (.slice ao n' cap))) :=
    ⟨BdF.put hB hb2 (bs' := bs ++ Lib.strCells s) (by rw [List.length_append, Lib.strCells_length]; exact hown') hT,
      (HK1.out.bw.grown hgrow (by omega) (fun k hk => (hown.lt k hk).1)).setCell (p := ⟨b, 1, none⟩) hB _,
      (HK1.out.k.grown hgrow (Lib.ownsRowF_kind hown)).setCell ⟨b, 1, none⟩ rfl _⟩
  clear hown hown' hgrow HK1 hbk hb2
  go_wp2
  go_ret2
  exact ⟨⟨_, rfl⟩, HF.out⟩

set_option maxHeartbeats 1000000 in
theorem dLen_any (T : TypeId) (rs : List Value) (B b : Nat) (bs : List Value) (w : World) (h : IsBd T rs B b bs w) :
    Calls Tryz.prog 89 #[.pointer (some ⟨b, 0, none⟩)] w fun e w' => e = .returned (.int .i64 bs.length) ∧ w' = w := by
  obtain ⟨p, hB, v, hbk, hown, hne⟩ : ∃ p, BdF T rs B b p bs w := by
    rcases h with h | h
    · exact ⟨_, h⟩
    · exact ⟨_, h⟩
  obtain ⟨ao, cap, rfl⟩ : ∃ ao cap, v = .slice ao bs.length cap := by
    rcases hown.2 with ⟨hv, h0⟩ | ⟨g, cap, cur, fz, hv, _⟩
    · exact ⟨none, 0, by rw [hv, h0]⟩
    · exact ⟨_, _, hv⟩
  have c1 : w.cell? ⟨b, 1, none⟩ = some (.slice ao bs.length cap) := by rw [Lib.cell_of_heap hbk]; rfl
  clear hown hbk
  go_enter Tryz.func89, Tryz.ntmps89
  go_wp2
  go_ret
  exact ⟨rfl, rfl⟩

theorem dcellsB : Tryz.prog.cellsOf 5 = 1 := by kernel_rfl
set_option maxHeartbeats 1000000 in
set_option maxRecDepth 100000 in
/-- String of a Builder that holds something. -/
theorem dString_any (T : TypeId) (rs : List Value) (B b : Nat) (l : List UInt8) (w : World) (h : IsBd T rs B b (Lib.byteCells l) w) (h0 : l ≠ []) :
    Calls Tryz.prog 48 #[.pointer (some ⟨b, 0, none⟩)] w fun e w' => e = .returned (.string ⟨l.toArray⟩) ∧ Below B w w' := by
  obtain ⟨p, hB, v, hbk, hown, hne⟩ : ∃ p, BdF T rs B b p (Lib.byteCells l) w := by
    rcases h with h | h
    · exact ⟨_, h⟩
    · exact ⟨_, h⟩
  have hl0 : l.length ≠ 0 := by simpa using h0
  rw [Lib.byteCells_length] at hown
  obtain ⟨g, cap, cur, fz, rfl, hbg, hg, hfz, hnc, hcm, hcs, htake⟩ : ∃ g cap cur fz, v = .slice (some ⟨g, 0, none⟩) l.length cap ∧ B ≤ g ∧ w.heap[g]? = some (.cells cur 5 fz) ∧ fz.2 ≤ l.length * 1 ∧ l.length ≤ cap ∧ cap ≤ maxLen ∧ cur.size = cap * 1 ∧ cur.toList.take (l.length * 1) = Lib.byteCells l := by
    rcases hown.2 with ⟨_, hz⟩ | ⟨g, cap, cur, fz, hv, r⟩
    · exact absurd hz hl0
    · exact ⟨g, cap, cur, fz, hv, r⟩
  have c1 : w.drew.cell? ⟨b, 1, none⟩ = some (.slice (some ⟨g, 0, none⟩) l.length cap) := by
    have : w.drew.heap[b]? = some (.cells (p :: .slice (some ⟨g, 0, none⟩) l.length cap :: rs).toArray T (0, 0)) := hbk
    rw [Lib.cell_of_heap this]; rfl
  have hSD : (Builtin.unsafeSliceData_ #[95] 147 #[.slice (some ⟨g, 0, none⟩) l.length cap]).run Tryz.prog w.drew = .ok (.pointer (some ⟨g, 0, none⟩)) w.drew :=
    Lib.run_unsafeSliceData_row _ _ _ _ _ _ (by omega)
  have hUS : (Builtin.unsafeString_ #[147, 3] 9 #[.pointer (some ⟨g, 0, none⟩), .int .i64 l.length]).run Tryz.prog w.drew = .ok (.string ⟨l.toArray⟩) (w.drew.freeze ⟨g, 0, none⟩ l.length) := by
    refine Lib.run_unsafeString_row w.drew 147 3 9 5 Tryz.underlying147 dcellsB g cur.size (by have hg' : w.drew.heap[g]? = some (.cells cur 5 fz) := hg; simp [World.shape?, hg']) l h0 (by omega) (by unfold maxLen at hcm; omega) ?_
    intro j x hx
    have := hown.cells (g := g) rfl j (.int .u8 x.toNat) (by simp [Lib.byteCells, hx])
    exact this
  have HB : Hid (Below B w (w.drew.freeze ⟨g, 0, none⟩ l.length)) := Lib.below_freeze (Below.drew (Below.refl B w)) (p := ⟨g, 0, none⟩) hbg _
  clear hown hbk hg htake hcs hfz
  have mixed : Tryz.prog.follows .mixedOrders = true := by kernel_rfl
  go_enter Tryz.func48, Tryz.ntmps48
  go_wp2
  go_region_o
  all_goals (go_wp2; go_ret; exact ⟨rfl, HB.out⟩)

end Go.Proofs.YtleoaanjcccooaaGreatDoor

/-
  Package cells: At.
-/
namespace Go.Proofs.YtleoaanjcccooaaGreatDoor
open Go.RowKit

theorem cel_size : (Tryz.prog.info? 47).map (·.size) = some 11 := by kernel_rfl
def ceZ : Ce := ⟨0, coZ, coZ, false, false⟩
/-- What At answers: the cell, the error. -/
def atC (a b : Int) (l : List Ce) (x y : Int) : Ce := if scE a b l = 0 ∧ plB a b x y = true then l.getD (y * a + x).toNat ceZ else ceZ
def atE (a b : Int) (l : List Ce) (x y : Int) : Int := if scE a b l = 0 ∧ plB a b x y = true then 0 else 150
theorem sc_two (a b : Int) (l : List Ce) : scE a b l = 0 ∨ scE a b l = 150 := by
  unfold scE
  split
  · exact .inl rfl
  · exact .inr rfl
set_option maxRecDepth 20000 in
set_option maxHeartbeats 2000000 in
theorem at_bad (a b : Int) (l : List Ce) (v : Value) (x y : Int) (w : World) (hv : LsC w v l) (hl : l.length ≤ 9223372036854775806) (hE : scE a b l = 150) (T : Tabs w) :
    Calls Tryz.prog 13 #[.agg #[.int .i64 a, .int .i64 b, v], .agg #[.int .i64 x, .int .i64 y]] w fun e w' => e = .returned (.tuple #[(Value.agg #[.int .i32 ceZ.r, .int .u8 ceZ.c.r, .int .u8 ceZ.c.g, .int .u8 ceZ.c.b, .int .u8 ceZ.c.a, .int .u8 ceZ.b.r, .int .u8 ceZ.b.g, .int .u8 ceZ.b.b, .int .u8 ceZ.b.a, .bool ceZ.wd, .bool ceZ.tl]), .int .i64 150]) ∧ Below w.heap.size w w' := by
  obtain ⟨oa, cap, rfl, hcap, -⟩ := id hv
  have HC : Hid (∀ W, Below w.heap.size w W → Calls Tryz.prog 21 #[.agg #[.int .i64 a, .int .i64 b, .slice oa l.length cap]] W fun e w' => e = .returned (.int .i64 150) ∧ Below W.heap.size W w') := fun W h => by rw [← hE]; exact checkC_any a b l _ W (hv.below h) hl (T.below h)
  have H0 : Hid (Below w.heap.size w (((w.alloc (.cells #[.int .i64 a, .int .i64 b, .slice oa l.length cap] 26)).alloc (.cells #[.int .i64 x, .int .i64 y] 41)).alloc (.cells #[.int .i32 0, .int .u8 0, .int .u8 0, .int .u8 0, .int .u8 0, .int .u8 0, .int .u8 0, .int .u8 0, .int .u8 0, .bool false, .bool false] 47)) ∧ Bk (((w.alloc (.cells #[.int .i64 a, .int .i64 b, .slice oa l.length cap] 26)).alloc (.cells #[.int .i64 x, .int .i64 y] 41)).alloc (.cells #[.int .i32 0, .int .u8 0, .int .u8 0, .int .u8 0, .int .u8 0, .int .u8 0, .int .u8 0, .int .u8 0, .int .u8 0, .bool false, .bool false] 47)) w.heap.size #[.int .i64 a, .int .i64 b, .slice oa l.length cap] 26 ∧ Bk (((w.alloc (.cells #[.int .i64 a, .int .i64 b, .slice oa l.length cap] 26)).alloc (.cells #[.int .i64 x, .int .i64 y] 41)).alloc (.cells #[.int .i32 0, .int .u8 0, .int .u8 0, .int .u8 0, .int .u8 0, .int .u8 0, .int .u8 0, .int .u8 0, .int .u8 0, .bool false, .bool false] 47)) (w.heap.size + 1 + 1) #[.int .i32 0, .int .u8 0, .int .u8 0, .int .u8 0, .int .u8 0, .int .u8 0, .int .u8 0, .int .u8 0, .int .u8 0, .bool false, .bool false] 47) := by
    have k1 := (((Bk.new w #[.int .i64 a, .int .i64 b, .slice oa l.length cap] 26).below ((Below.refl _ _).alloc (Nat.le_refl _) (.cells #[.int .i64 x, .int .i64 y] 41)))).below ((Below.refl _ _).alloc (Nat.le_refl _) (.cells #[.int .i32 0, .int .u8 0, .int .u8 0, .int .u8 0, .int .u8 0, .int .u8 0, .int .u8 0, .int .u8 0, .int .u8 0, .bool false, .bool false] 47))
    have k2 := Bk.new ((w.alloc (.cells #[.int .i64 a, .int .i64 b, .slice oa l.length cap] 26)).alloc (.cells #[.int .i64 x, .int .i64 y] 41)) #[.int .i32 0, .int .u8 0, .int .u8 0, .int .u8 0, .int .u8 0, .int .u8 0, .int .u8 0, .int .u8 0, .int .u8 0, .bool false, .bool false] 47
    simp only [World.size_alloc] at k2
    exact ⟨(((Below.refl w.heap.size w).alloc (Nat.le_refl _) _).alloc (by simp) _).alloc (by simp; omega) _, k1, k2⟩
  clear hv T hE
  go_enter Tryz.func13, Tryz.ntmps13
  go_wp2_with fail
  generalize ((w.alloc (.cells #[.int .i64 a, .int .i64 b, .slice oa l.length cap] 26)).alloc (.cells #[.int .i64 x, .int .i64 y] 41)).alloc (.cells #[.int .i32 0, .int .u8 0, .int .u8 0, .int .u8 0, .int .u8 0, .int .u8 0, .int .u8 0, .int .u8 0, .int .u8 0, .bool false, .bool false] 47) = w1 at *
  refine (HC.out _ H0.out.1).mono ?_
  rintro e w2 ⟨rfl, hb⟩
  have H2 : Hid (Below w.heap.size w w2 ∧ Bk w2 (w.heap.size + 1 + 1) #[.int .i32 0, .int .u8 0, .int .u8 0, .int .u8 0, .int .u8 0, .int .u8 0, .int .u8 0, .int .u8 0, .int .u8 0, .bool false, .bool false] 47) := ⟨H0.out.1.trans (hb.mono H0.out.1.size), H0.out.2.2.below hb⟩
  clear hb H0 HC
  go_wp2_with (refine wpList_store_row rfl 47 (.tmp 4) (.tmp 11) rfl (w.heap.size + 1 + 1) #[.int .i32 0, .int .u8 0, .int .u8 0, .int .u8 0, .int .u8 0, .int .u8 0, .int .u8 0, .int .u8 0, .int .u8 0, .bool false, .bool false] rfl rfl 47 _ H2.out.2 cel_size rfl (by simp [Value.oneCell']) ?_)
  obtain ⟨W3, hW3⟩ : ∃ W3, W3 = w2.setRow (w.heap.size + 1 + 1) #[.int .i32 0, .int .u8 0, .int .u8 0, .int .u8 0, .int .u8 0, .int .u8 0, .int .u8 0, .int .u8 0, .int .u8 0, .bool false, .bool false] := ⟨_, rfl⟩
  have H3 : Hid (Bk W3 (w.heap.size + 1 + 1) #[.int .i32 0, .int .u8 0, .int .u8 0, .int .u8 0, .int .u8 0, .int .u8 0, .int .u8 0, .int .u8 0, .int .u8 0, .bool false, .bool false] 47 ∧ Below w.heap.size w W3) := by rw [hW3]; exact ⟨setRow_heap w2 _ _ _ 47 _ H2.out.2, below_setRow H2.out.1 (by omega) _⟩
  rw [← hW3]
  clear hW3 H2
  have hld : (loadVar 47 ⟨w.heap.size + 1 + 1, 0, none⟩).run Tryz.prog W3 = .ok (.agg #[.int .i32 0, .int .u8 0, .int .u8 0, .int .u8 0, .int .u8 0, .int .u8 0, .int .u8 0, .int .u8 0, .int .u8 0, .bool false, .bool false]) W3 := run_loadVar_row W3 _ 47 47 _ _ _ H3.out.1 Tryz.underlying47 rfl cel_size
  refine bodyPost_ret (v := .tuple #[.agg #[.int .i32 0, .int .u8 0, .int .u8 0, .int .u8 0, .int .u8 0, .int .u8 0, .int .u8 0, .int .u8 0, .int .u8 0, .bool false, .bool false], .int .i64 150]) ?_ rfl ⟨rfl, H3.out.2⟩
  simp [results, Tryz.results13, asAddr, hld]
set_option maxRecDepth 20000 in
set_option maxHeartbeats 2000000 in
theorem at_off (a b : Int) (l : List Ce) (v : Value) (x y : Int) (w : World) (hv : LsC w v l) (hl : l.length ≤ 9223372036854775806) (hE : scE a b l = 0) (hP : plB a b x y = false) (T : Tabs w) :
    Calls Tryz.prog 13 #[.agg #[.int .i64 a, .int .i64 b, v], .agg #[.int .i64 x, .int .i64 y]] w fun e w' => e = .returned (.tuple #[(Value.agg #[.int .i32 ceZ.r, .int .u8 ceZ.c.r, .int .u8 ceZ.c.g, .int .u8 ceZ.c.b, .int .u8 ceZ.c.a, .int .u8 ceZ.b.r, .int .u8 ceZ.b.g, .int .u8 ceZ.b.b, .int .u8 ceZ.b.a, .bool ceZ.wd, .bool ceZ.tl]), .int .i64 150]) ∧ Below w.heap.size w w' := by
  obtain ⟨oa, cap, rfl, hcap, -⟩ := id hv
  have HC : Hid (∀ W, Below w.heap.size w W → Calls Tryz.prog 21 #[.agg #[.int .i64 a, .int .i64 b, .slice oa l.length cap]] W fun e w' => e = .returned (.int .i64 0) ∧ Below W.heap.size W w') := fun W h => by rw [← hE]; exact checkC_any a b l _ W (hv.below h) hl (T.below h)
  have HP : Hid (∀ W, Calls Tryz.prog 40 #[.agg #[.int .i64 a, .int .i64 b], .agg #[.int .i64 x, .int .i64 y]] W fun e w' => e = .returned (.bool false) ∧ Below W.heap.size W w') := fun W => by rw [← hP]; exact place_any a b x y W
  have H0 : Hid (Below w.heap.size w (((w.alloc (.cells #[.int .i64 a, .int .i64 b, .slice oa l.length cap] 26)).alloc (.cells #[.int .i64 x, .int .i64 y] 41)).alloc (.cells #[.int .i32 0, .int .u8 0, .int .u8 0, .int .u8 0, .int .u8 0, .int .u8 0, .int .u8 0, .int .u8 0, .int .u8 0, .bool false, .bool false] 47)) ∧ Bk (((w.alloc (.cells #[.int .i64 a, .int .i64 b, .slice oa l.length cap] 26)).alloc (.cells #[.int .i64 x, .int .i64 y] 41)).alloc (.cells #[.int .i32 0, .int .u8 0, .int .u8 0, .int .u8 0, .int .u8 0, .int .u8 0, .int .u8 0, .int .u8 0, .int .u8 0, .bool false, .bool false] 47)) w.heap.size #[.int .i64 a, .int .i64 b, .slice oa l.length cap] 26 ∧ Bk (((w.alloc (.cells #[.int .i64 a, .int .i64 b, .slice oa l.length cap] 26)).alloc (.cells #[.int .i64 x, .int .i64 y] 41)).alloc (.cells #[.int .i32 0, .int .u8 0, .int .u8 0, .int .u8 0, .int .u8 0, .int .u8 0, .int .u8 0, .int .u8 0, .int .u8 0, .bool false, .bool false] 47)) (w.heap.size + 1) #[.int .i64 x, .int .i64 y] 41 ∧ Bk (((w.alloc (.cells #[.int .i64 a, .int .i64 b, .slice oa l.length cap] 26)).alloc (.cells #[.int .i64 x, .int .i64 y] 41)).alloc (.cells #[.int .i32 0, .int .u8 0, .int .u8 0, .int .u8 0, .int .u8 0, .int .u8 0, .int .u8 0, .int .u8 0, .int .u8 0, .bool false, .bool false] 47)) (w.heap.size + 1 + 1) #[.int .i32 0, .int .u8 0, .int .u8 0, .int .u8 0, .int .u8 0, .int .u8 0, .int .u8 0, .int .u8 0, .int .u8 0, .bool false, .bool false] 47) := by
    have k1 := (((Bk.new w #[.int .i64 a, .int .i64 b, .slice oa l.length cap] 26).below ((Below.refl _ _).alloc (Nat.le_refl _) (.cells #[.int .i64 x, .int .i64 y] 41)))).below ((Below.refl _ _).alloc (Nat.le_refl _) (.cells #[.int .i32 0, .int .u8 0, .int .u8 0, .int .u8 0, .int .u8 0, .int .u8 0, .int .u8 0, .int .u8 0, .int .u8 0, .bool false, .bool false] 47))
    have k3 := (Bk.new (w.alloc (.cells #[.int .i64 a, .int .i64 b, .slice oa l.length cap] 26)) #[.int .i64 x, .int .i64 y] 41).below ((Below.refl _ _).alloc (Nat.le_refl _) (.cells #[.int .i32 0, .int .u8 0, .int .u8 0, .int .u8 0, .int .u8 0, .int .u8 0, .int .u8 0, .int .u8 0, .int .u8 0, .bool false, .bool false] 47))
    have k2 := Bk.new ((w.alloc (.cells #[.int .i64 a, .int .i64 b, .slice oa l.length cap] 26)).alloc (.cells #[.int .i64 x, .int .i64 y] 41)) #[.int .i32 0, .int .u8 0, .int .u8 0, .int .u8 0, .int .u8 0, .int .u8 0, .int .u8 0, .int .u8 0, .int .u8 0, .bool false, .bool false] 47
    simp only [World.size_alloc] at k2 k3
    exact ⟨(((Below.refl w.heap.size w).alloc (Nat.le_refl _) _).alloc (by simp) _).alloc (by simp; omega) _, k1, k3, k2⟩
  clear hv T hE hP
  go_enter Tryz.func13, Tryz.ntmps13
  go_wp2_with fail
  generalize ((w.alloc (.cells #[.int .i64 a, .int .i64 b, .slice oa l.length cap] 26)).alloc (.cells #[.int .i64 x, .int .i64 y] 41)).alloc (.cells #[.int .i32 0, .int .u8 0, .int .u8 0, .int .u8 0, .int .u8 0, .int .u8 0, .int .u8 0, .int .u8 0, .int .u8 0, .bool false, .bool false] 47) = w1 at *
  refine (HC.out _ H0.out.1).mono ?_
  rintro e w2 ⟨rfl, hb⟩
  have H2 : Hid (Below w.heap.size w w2 ∧ Bk w2 w.heap.size #[.int .i64 a, .int .i64 b, .slice oa l.length cap] 26 ∧ Bk w2 (w.heap.size + 1) #[.int .i64 x, .int .i64 y] 41 ∧ Bk w2 (w.heap.size + 1 + 1) #[.int .i32 0, .int .u8 0, .int .u8 0, .int .u8 0, .int .u8 0, .int .u8 0, .int .u8 0, .int .u8 0, .int .u8 0, .bool false, .bool false] 47) := ⟨H0.out.1.trans (hb.mono H0.out.1.size), H0.out.2.1.below hb, H0.out.2.2.1.below hb, H0.out.2.2.2.below hb⟩
  clear hb H0 HC
  obtain ⟨z0, z1, z2⟩ := Bk.at3S H2.out.2.1
  have p0 : w2.cell? ⟨w.heap.size + 1, 0, none⟩ = some (.int .i64 x) := by rw [H2.out.2.2.1.cell]; rfl
  have p1 : w2.cell? ⟨w.heap.size + 1, 1, none⟩ = some (.int .i64 y) := by rw [H2.out.2.2.1.cell]; rfl
  go_wp2_with fail
  refine (HP.out _).mono ?_
  rintro e w3 ⟨rfl, hb⟩
  have H3 : Hid (Below w.heap.size w w3 ∧ Bk w3 w.heap.size #[.int .i64 a, .int .i64 b, .slice oa l.length cap] 26 ∧ Bk w3 (w.heap.size + 1) #[.int .i64 x, .int .i64 y] 41 ∧ Bk w3 (w.heap.size + 1 + 1) #[.int .i32 0, .int .u8 0, .int .u8 0, .int .u8 0, .int .u8 0, .int .u8 0, .int .u8 0, .int .u8 0, .int .u8 0, .bool false, .bool false] 47) := ⟨H2.out.1.trans (hb.mono H2.out.1.size), H2.out.2.1.below hb, H2.out.2.2.1.below hb, H2.out.2.2.2.below hb⟩
  clear hb H2 HP z0 z1 z2 p0 p1
  go_wp2_with (refine wpList_store_row rfl 47 (.tmp 4) (.tmp 18) rfl (w.heap.size + 1 + 1) #[.int .i32 0, .int .u8 0, .int .u8 0, .int .u8 0, .int .u8 0, .int .u8 0, .int .u8 0, .int .u8 0, .int .u8 0, .bool false, .bool false] rfl rfl 47 _ H3.out.2.2.2 cel_size rfl (by simp [Value.oneCell']) ?_)
  obtain ⟨W3, hW3⟩ : ∃ W3, W3 = w3.setRow (w.heap.size + 1 + 1) #[.int .i32 0, .int .u8 0, .int .u8 0, .int .u8 0, .int .u8 0, .int .u8 0, .int .u8 0, .int .u8 0, .int .u8 0, .bool false, .bool false] := ⟨_, rfl⟩
  have H4 : Hid (Bk W3 (w.heap.size + 1 + 1) #[.int .i32 0, .int .u8 0, .int .u8 0, .int .u8 0, .int .u8 0, .int .u8 0, .int .u8 0, .int .u8 0, .int .u8 0, .bool false, .bool false] 47 ∧ Below w.heap.size w W3) := by rw [hW3]; exact ⟨setRow_heap w3 _ _ _ 47 _ H3.out.2.2.2, below_setRow H3.out.1 (by omega) _⟩
  rw [← hW3]
  clear hW3 H3
  have hld : (loadVar 47 ⟨w.heap.size + 1 + 1, 0, none⟩).run Tryz.prog W3 = .ok (.agg #[.int .i32 0, .int .u8 0, .int .u8 0, .int .u8 0, .int .u8 0, .int .u8 0, .int .u8 0, .int .u8 0, .int .u8 0, .bool false, .bool false]) W3 := run_loadVar_row W3 _ 47 47 _ _ _ H4.out.1 Tryz.underlying47 rfl cel_size
  refine bodyPost_ret (v := .tuple #[.agg #[.int .i32 0, .int .u8 0, .int .u8 0, .int .u8 0, .int .u8 0, .int .u8 0, .int .u8 0, .int .u8 0, .int .u8 0, .bool false, .bool false], .int .i64 150]) ?_ rfl ⟨rfl, H4.out.2⟩
  simp [results, Tryz.results13, asAddr, hld]
set_option maxRecDepth 20000 in
set_option maxHeartbeats 2000000 in
theorem at_in (a b : Int) (l : List Ce) (v : Value) (x y : Int) (w : World) (hv : LsC w v l) (hl : l.length ≤ 9223372036854775806) (hE : scE a b l = 0) (hP : plB a b x y = true) (T : Tabs w) (c : Ce) (hc : c = l.getD (y * a + x).toNat ceZ) :
    Calls Tryz.prog 13 #[.agg #[.int .i64 a, .int .i64 b, v], .agg #[.int .i64 x, .int .i64 y]] w fun e w' => e = .returned (.tuple #[(Value.agg #[.int .i32 c.r, .int .u8 c.c.r, .int .u8 c.c.g, .int .u8 c.c.b, .int .u8 c.c.a, .int .u8 c.b.r, .int .u8 c.b.g, .int .u8 c.b.b, .int .u8 c.b.a, .bool c.wd, .bool c.tl]), .int .i64 0]) ∧ Below w.heap.size w w' := by
  obtain ⟨oa, cap, rfl, hcap, hg⟩ := id hv
  have hp : 0 ≤ x ∧ x < a ∧ 0 ≤ y ∧ y < b := by simpa [plB] using hP
  have hsz : szB a b = true ∧ (l.length : Int) = a * b := by
    unfold scE at hE
    split at hE
    · next h => exact ⟨h.1, h.2.1⟩
    · exact absurd hE (by decide)
  obtain ⟨s1, s2, s3, s4, s5⟩ := szB_iff.1 hsz.1
  have m1 : y * a + a ≤ a * b := by
    have : (y + 1) * a ≤ b * a := Int.mul_le_mul_of_nonneg_right (by omega) (by omega)
    rw [Int.add_mul, Int.one_mul, Int.mul_comm b a] at this
    exact this
  have m0 : 0 ≤ y * a := Int.mul_nonneg (by omega) (by omega)
  obtain ⟨p, hpp⟩ : ∃ p : Nat, (p : Int) = y * a := ⟨(y * a).toNat, by omega⟩
  obtain ⟨i, hi⟩ : ∃ i : Nat, (i : Int) = (p : Int) + x := ⟨((p : Int) + x).toNat, by omega⟩
  have hil : i < l.length := by omega
  obtain ⟨g, o, rfl, hgl, hat⟩ := hg (by omega)
  have hci : l[i] = c := by
    rw [hc, ← hpp, ← hi]
    simp [List.getD, hil]
  have HA : Hid (∀ W, Below w.heap.size w W → CeAt W g (o + i * 11) c) := fun W hb => by
    have := hat i hil
    rw [hci] at this
    exact this.kept fun j => hb.cell (p := ⟨g, j, none⟩) hgl
  have HC : Hid (∀ W, Below w.heap.size w W → Calls Tryz.prog 21 #[.agg #[.int .i64 a, .int .i64 b, .slice (some ⟨g, o, none⟩) l.length cap]] W fun e w' => e = .returned (.int .i64 0) ∧ Below W.heap.size W w') := fun W h => by rw [← hE]; exact checkC_any a b l _ W (hv.below h) hl (T.below h)
  have HP : Hid (∀ W, Calls Tryz.prog 40 #[.agg #[.int .i64 a, .int .i64 b], .agg #[.int .i64 x, .int .i64 y]] W fun e w' => e = .returned (.bool true) ∧ Below W.heap.size W w') := fun W => by rw [← hP]; exact place_any a b x y W
  have H0 : Hid (Below w.heap.size w (((w.alloc (.cells #[.int .i64 a, .int .i64 b, .slice (some ⟨g, o, none⟩) l.length cap] 26)).alloc (.cells #[.int .i64 x, .int .i64 y] 41)).alloc (.cells #[.int .i32 0, .int .u8 0, .int .u8 0, .int .u8 0, .int .u8 0, .int .u8 0, .int .u8 0, .int .u8 0, .int .u8 0, .bool false, .bool false] 47)) ∧ Bk (((w.alloc (.cells #[.int .i64 a, .int .i64 b, .slice (some ⟨g, o, none⟩) l.length cap] 26)).alloc (.cells #[.int .i64 x, .int .i64 y] 41)).alloc (.cells #[.int .i32 0, .int .u8 0, .int .u8 0, .int .u8 0, .int .u8 0, .int .u8 0, .int .u8 0, .int .u8 0, .int .u8 0, .bool false, .bool false] 47)) w.heap.size #[.int .i64 a, .int .i64 b, .slice (some ⟨g, o, none⟩) l.length cap] 26 ∧ Bk (((w.alloc (.cells #[.int .i64 a, .int .i64 b, .slice (some ⟨g, o, none⟩) l.length cap] 26)).alloc (.cells #[.int .i64 x, .int .i64 y] 41)).alloc (.cells #[.int .i32 0, .int .u8 0, .int .u8 0, .int .u8 0, .int .u8 0, .int .u8 0, .int .u8 0, .int .u8 0, .int .u8 0, .bool false, .bool false] 47)) (w.heap.size + 1) #[.int .i64 x, .int .i64 y] 41 ∧ Bk (((w.alloc (.cells #[.int .i64 a, .int .i64 b, .slice (some ⟨g, o, none⟩) l.length cap] 26)).alloc (.cells #[.int .i64 x, .int .i64 y] 41)).alloc (.cells #[.int .i32 0, .int .u8 0, .int .u8 0, .int .u8 0, .int .u8 0, .int .u8 0, .int .u8 0, .int .u8 0, .int .u8 0, .bool false, .bool false] 47)) (w.heap.size + 1 + 1) #[.int .i32 0, .int .u8 0, .int .u8 0, .int .u8 0, .int .u8 0, .int .u8 0, .int .u8 0, .int .u8 0, .int .u8 0, .bool false, .bool false] 47) := by
    have k1 := (((Bk.new w #[.int .i64 a, .int .i64 b, .slice (some ⟨g, o, none⟩) l.length cap] 26).below ((Below.refl _ _).alloc (Nat.le_refl _) (.cells #[.int .i64 x, .int .i64 y] 41)))).below ((Below.refl _ _).alloc (Nat.le_refl _) (.cells #[.int .i32 0, .int .u8 0, .int .u8 0, .int .u8 0, .int .u8 0, .int .u8 0, .int .u8 0, .int .u8 0, .int .u8 0, .bool false, .bool false] 47))
    have k3 := (Bk.new (w.alloc (.cells #[.int .i64 a, .int .i64 b, .slice (some ⟨g, o, none⟩) l.length cap] 26)) #[.int .i64 x, .int .i64 y] 41).below ((Below.refl _ _).alloc (Nat.le_refl _) (.cells #[.int .i32 0, .int .u8 0, .int .u8 0, .int .u8 0, .int .u8 0, .int .u8 0, .int .u8 0, .int .u8 0, .int .u8 0, .bool false, .bool false] 47))
    have k2 := Bk.new ((w.alloc (.cells #[.int .i64 a, .int .i64 b, .slice (some ⟨g, o, none⟩) l.length cap] 26)).alloc (.cells #[.int .i64 x, .int .i64 y] 41)) #[.int .i32 0, .int .u8 0, .int .u8 0, .int .u8 0, .int .u8 0, .int .u8 0, .int .u8 0, .int .u8 0, .int .u8 0, .bool false, .bool false] 47
    simp only [World.size_alloc] at k2 k3
    exact ⟨(((Below.refl w.heap.size w).alloc (Nat.le_refl _) _).alloc (by simp) _).alloc (by simp; omega) _, k1, k3, k2⟩
  have g1 : IntKind.i64.wrap (y * a) = (p : Int) := by rw [← hpp, IntKind.wrap_i64]; omega
  have g2 : IntKind.i64.wrap ((p : Int) + x) = (i : Int) := by rw [← hi, IntKind.wrap_i64]; omega
  clear hv T hE hP hp hsz s1 s2 s3 s4 s5 m1 m0 hpp hi hat hci hc hg hcap
  go_enter Tryz.func13, Tryz.ntmps13
  go_wp2_with fail
  generalize ((w.alloc (.cells #[.int .i64 a, .int .i64 b, .slice (some ⟨g, o, none⟩) l.length cap] 26)).alloc (.cells #[.int .i64 x, .int .i64 y] 41)).alloc (.cells #[.int .i32 0, .int .u8 0, .int .u8 0, .int .u8 0, .int .u8 0, .int .u8 0, .int .u8 0, .int .u8 0, .int .u8 0, .bool false, .bool false] 47) = w1 at *
  refine (HC.out _ H0.out.1).mono ?_
  rintro e w2 ⟨rfl, hb⟩
  have H2 : Hid (Below w.heap.size w w2 ∧ Bk w2 w.heap.size #[.int .i64 a, .int .i64 b, .slice (some ⟨g, o, none⟩) l.length cap] 26 ∧ Bk w2 (w.heap.size + 1) #[.int .i64 x, .int .i64 y] 41 ∧ Bk w2 (w.heap.size + 1 + 1) #[.int .i32 0, .int .u8 0, .int .u8 0, .int .u8 0, .int .u8 0, .int .u8 0, .int .u8 0, .int .u8 0, .int .u8 0, .bool false, .bool false] 47) := ⟨H0.out.1.trans (hb.mono H0.out.1.size), H0.out.2.1.below hb, H0.out.2.2.1.below hb, H0.out.2.2.2.below hb⟩
  clear hb H0 HC
  obtain ⟨z0, z1, z2⟩ := Bk.at3S H2.out.2.1
  have p0 : w2.cell? ⟨w.heap.size + 1, 0, none⟩ = some (.int .i64 x) := by rw [H2.out.2.2.1.cell]; rfl
  have p1 : w2.cell? ⟨w.heap.size + 1, 1, none⟩ = some (.int .i64 y) := by rw [H2.out.2.2.1.cell]; rfl
  go_wp2_with fail
  refine (HP.out _).mono ?_
  rintro e w3 ⟨rfl, hb⟩
  have H3 : Hid (Below w.heap.size w w3 ∧ Bk w3 w.heap.size #[.int .i64 a, .int .i64 b, .slice (some ⟨g, o, none⟩) l.length cap] 26 ∧ Bk w3 (w.heap.size + 1) #[.int .i64 x, .int .i64 y] 41 ∧ Bk w3 (w.heap.size + 1 + 1) #[.int .i32 0, .int .u8 0, .int .u8 0, .int .u8 0, .int .u8 0, .int .u8 0, .int .u8 0, .int .u8 0, .int .u8 0, .bool false, .bool false] 47) := ⟨H2.out.1.trans (hb.mono H2.out.1.size), H2.out.2.1.below hb, H2.out.2.2.1.below hb, H2.out.2.2.2.below hb⟩
  clear hb H2 HP z0 z1 z2 p0 p1
  obtain ⟨z0, z1, z2⟩ := Bk.at3S H3.out.2.1
  have p0 : w3.cell? ⟨w.heap.size + 1, 0, none⟩ = some (.int .i64 x) := by rw [H3.out.2.2.1.cell]; rfl
  have p1 : w3.cell? ⟨w.heap.size + 1, 1, none⟩ = some (.int .i64 y) := by rw [H3.out.2.2.1.cell]; rfl
  obtain ⟨c0, c1, c2, c3, c4, c5, c6, c7, c8, c9, c10⟩ := HA.out _ H3.out.1
  go_wp2_with (refine wpList_store_row rfl 47 (.tmp 4) (.tmp 31) rfl (w.heap.size + 1 + 1) (#[.int .i32 c.r, .int .u8 c.c.r, .int .u8 c.c.g, .int .u8 c.c.b, .int .u8 c.c.a, .int .u8 c.b.r, .int .u8 c.b.g, .int .u8 c.b.b, .int .u8 c.b.a, .bool c.wd, .bool c.tl]) rfl rfl 47 _ H3.out.2.2.2 cel_size rfl (by simp [Value.oneCell']) ?_)
  obtain ⟨W3, hW3⟩ : ∃ W3, W3 = w3.setRow (w.heap.size + 1 + 1) (#[.int .i32 c.r, .int .u8 c.c.r, .int .u8 c.c.g, .int .u8 c.c.b, .int .u8 c.c.a, .int .u8 c.b.r, .int .u8 c.b.g, .int .u8 c.b.b, .int .u8 c.b.a, .bool c.wd, .bool c.tl]) := ⟨_, rfl⟩
  have H4 : Hid (Bk W3 (w.heap.size + 1 + 1) (#[.int .i32 c.r, .int .u8 c.c.r, .int .u8 c.c.g, .int .u8 c.c.b, .int .u8 c.c.a, .int .u8 c.b.r, .int .u8 c.b.g, .int .u8 c.b.b, .int .u8 c.b.a, .bool c.wd, .bool c.tl]) 47 ∧ Below w.heap.size w W3) := by rw [hW3]; exact ⟨setRow_heap w3 _ _ _ 47 _ H3.out.2.2.2, below_setRow H3.out.1 (by omega) _⟩
  rw [← hW3]
  clear hW3 H3
  have hld : (loadVar 47 ⟨w.heap.size + 1 + 1, 0, none⟩).run Tryz.prog W3 = .ok (.agg (#[.int .i32 c.r, .int .u8 c.c.r, .int .u8 c.c.g, .int .u8 c.c.b, .int .u8 c.c.a, .int .u8 c.b.r, .int .u8 c.b.g, .int .u8 c.b.b, .int .u8 c.b.a, .bool c.wd, .bool c.tl])) W3 := run_loadVar_row W3 _ 47 47 _ _ _ H4.out.1 Tryz.underlying47 rfl cel_size
  refine bodyPost_ret (v := .tuple #[.agg (#[.int .i32 c.r, .int .u8 c.c.r, .int .u8 c.c.g, .int .u8 c.c.b, .int .u8 c.c.a, .int .u8 c.b.r, .int .u8 c.b.g, .int .u8 c.b.b, .int .u8 c.b.a, .bool c.wd, .bool c.tl]), .int .i64 0]) ?_ rfl ⟨rfl, H4.out.2⟩
  simp [results, Tryz.results13, asAddr, hld]
theorem atS_any (a b : Int) (l : List Ce) (v : Value) (x y : Int) (w : World) (hv : LsC w v l) (hl : l.length ≤ 9223372036854775806) (T : Tabs w) :
    Calls Tryz.prog 13 #[.agg #[.int .i64 a, .int .i64 b, v], .agg #[.int .i64 x, .int .i64 y]] w fun e w' => e = .returned (.tuple #[(Value.agg #[.int .i32 (atC a b l x y).r, .int .u8 (atC a b l x y).c.r, .int .u8 (atC a b l x y).c.g, .int .u8 (atC a b l x y).c.b, .int .u8 (atC a b l x y).c.a, .int .u8 (atC a b l x y).b.r, .int .u8 (atC a b l x y).b.g, .int .u8 (atC a b l x y).b.b, .int .u8 (atC a b l x y).b.a, .bool (atC a b l x y).wd, .bool (atC a b l x y).tl]), .int .i64 (atE a b l x y)]) ∧ Below w.heap.size w w' := by
  unfold atC atE
  rcases sc_two a b l with h | h
  · cases hp : plB a b x y
    · rw [if_neg (fun h => absurd h.2 (by decide)), if_neg (fun h => absurd h.2 (by decide))]
      exact at_off a b l v x y w hv hl h hp T
    · rw [if_pos ⟨h, rfl⟩, if_pos ⟨h, rfl⟩]
      exact at_in a b l v x y w hv hl h hp T _ rfl
  · have h0 : ¬ scE a b l = 0 := by rw [h]; decide
    rw [if_neg (fun h => h0 h.1), if_neg (fun h => h0 h.1)]
    exact at_bad a b l v x y w hv hl h T

end Go.Proofs.YtleoaanjcccooaaGreatDoor

/-
  Package cells: sameRune, sameLook.
-/
namespace Go.Proofs.YtleoaanjcccooaaGreatDoor
open Go.RowKit

/-- The halves of one rune; in the same colours. -/
def smR (x y : Ce) : Bool := x.wd && (y.tl && (x.r == y.r))
theorem smR_any (x y : Ce) (w : World) : Calls Tryz.prog 81 #[(Value.agg #[.int .i32 x.r, .int .u8 x.c.r, .int .u8 x.c.g, .int .u8 x.c.b, .int .u8 x.c.a, .int .u8 x.b.r, .int .u8 x.b.g, .int .u8 x.b.b, .int .u8 x.b.a, .bool x.wd, .bool x.tl]), (Value.agg #[.int .i32 y.r, .int .u8 y.c.r, .int .u8 y.c.g, .int .u8 y.c.b, .int .u8 y.c.a, .int .u8 y.b.r, .int .u8 y.b.g, .int .u8 y.b.b, .int .u8 y.b.a, .bool y.wd, .bool y.tl])] w fun e w' => e = .returned (.bool (smR x y)) ∧ Below w.heap.size w w' := by
  have H0 : Hid (Below w.heap.size w ((w.alloc (.cells (#[.int .i32 x.r, .int .u8 x.c.r, .int .u8 x.c.g, .int .u8 x.c.b, .int .u8 x.c.a, .int .u8 x.b.r, .int .u8 x.b.g, .int .u8 x.b.b, .int .u8 x.b.a, .bool x.wd, .bool x.tl]) 47)).alloc (.cells (#[.int .i32 y.r, .int .u8 y.c.r, .int .u8 y.c.g, .int .u8 y.c.b, .int .u8 y.c.a, .int .u8 y.b.r, .int .u8 y.b.g, .int .u8 y.b.b, .int .u8 y.b.a, .bool y.wd, .bool y.tl]) 47))) := ((Below.refl w.heap.size w).alloc (Nat.le_refl _) _).alloc (by simp) _
  obtain ⟨r, c, b, wd, tl⟩ := x
  obtain ⟨r', c', b', wd', tl'⟩ := y
  simp only at *
  unfold smR
  simp only
  cases wd
  · go_enter Tryz.func81, Tryz.ntmps81
    go_wp2
    go_ret
    exact ⟨rfl, H0.out⟩
  · cases tl'
    · go_enter Tryz.func81, Tryz.ntmps81
      go_wp2
      go_ret
      exact ⟨rfl, H0.out⟩
    · go_enter Tryz.func81, Tryz.ntmps81
      go_wp2
      go_ret
      exact ⟨rfl, H0.out⟩

/-- Two colours are the same. -/
def eqK (a b : Co) : Bool := (a.r == b.r) && ((a.g == b.g) && ((a.b == b.b) && (a.a == b.a)))
theorem eql_col (a b : Co) (w : World) : (binOp .eql 45 (Value.agg #[.int .u8 a.r, .int .u8 a.g, .int .u8 a.b, .int .u8 a.a]) (Value.agg #[.int .u8 b.r, .int .u8 b.g, .int .u8 b.b, .int .u8 b.a])).run Tryz.prog w = .ok (.bool (eqK a b)) w := by
  simp [go_sem]
  exact chainZ (chainZ (chainZ chainY))
def smL (x y : Ce) : Bool := smR x y && (eqK x.c y.c && eqK x.b y.b)
theorem smL_any (x y : Ce) (w : World) : Calls Tryz.prog 88 #[(Value.agg #[.int .i32 x.r, .int .u8 x.c.r, .int .u8 x.c.g, .int .u8 x.c.b, .int .u8 x.c.a, .int .u8 x.b.r, .int .u8 x.b.g, .int .u8 x.b.b, .int .u8 x.b.a, .bool x.wd, .bool x.tl]), (Value.agg #[.int .i32 y.r, .int .u8 y.c.r, .int .u8 y.c.g, .int .u8 y.c.b, .int .u8 y.c.a, .int .u8 y.b.r, .int .u8 y.b.g, .int .u8 y.b.b, .int .u8 y.b.a, .bool y.wd, .bool y.tl])] w fun e w' => e = .returned (.bool (smL x y)) ∧ Below w.heap.size w w' := by
  have H0 : Hid (Below w.heap.size w ((w.alloc (.cells (#[.int .i32 x.r, .int .u8 x.c.r, .int .u8 x.c.g, .int .u8 x.c.b, .int .u8 x.c.a, .int .u8 x.b.r, .int .u8 x.b.g, .int .u8 x.b.b, .int .u8 x.b.a, .bool x.wd, .bool x.tl]) 47)).alloc (.cells (#[.int .i32 y.r, .int .u8 y.c.r, .int .u8 y.c.g, .int .u8 y.c.b, .int .u8 y.c.a, .int .u8 y.b.r, .int .u8 y.b.g, .int .u8 y.b.b, .int .u8 y.b.a, .bool y.wd, .bool y.tl]) 47))) := ((Below.refl w.heap.size w).alloc (Nat.le_refl _) _).alloc (by simp) _
  have HS : Hid (∀ W, Calls Tryz.prog 81 #[(Value.agg #[.int .i32 x.r, .int .u8 x.c.r, .int .u8 x.c.g, .int .u8 x.c.b, .int .u8 x.c.a, .int .u8 x.b.r, .int .u8 x.b.g, .int .u8 x.b.b, .int .u8 x.b.a, .bool x.wd, .bool x.tl]), (Value.agg #[.int .i32 y.r, .int .u8 y.c.r, .int .u8 y.c.g, .int .u8 y.c.b, .int .u8 y.c.a, .int .u8 y.b.r, .int .u8 y.b.g, .int .u8 y.b.b, .int .u8 y.b.a, .bool y.wd, .bool y.tl])] W fun e w' => e = .returned (.bool (smR x y)) ∧ Below W.heap.size W w') := smR_any x y
  have HB : Hid (Bk ((w.alloc (.cells (#[.int .i32 x.r, .int .u8 x.c.r, .int .u8 x.c.g, .int .u8 x.c.b, .int .u8 x.c.a, .int .u8 x.b.r, .int .u8 x.b.g, .int .u8 x.b.b, .int .u8 x.b.a, .bool x.wd, .bool x.tl]) 47)).alloc (.cells (#[.int .i32 y.r, .int .u8 y.c.r, .int .u8 y.c.g, .int .u8 y.c.b, .int .u8 y.c.a, .int .u8 y.b.r, .int .u8 y.b.g, .int .u8 y.b.b, .int .u8 y.b.a, .bool y.wd, .bool y.tl]) 47)) w.heap.size (#[.int .i32 x.r, .int .u8 x.c.r, .int .u8 x.c.g, .int .u8 x.c.b, .int .u8 x.c.a, .int .u8 x.b.r, .int .u8 x.b.g, .int .u8 x.b.b, .int .u8 x.b.a, .bool x.wd, .bool x.tl]) 47 ∧ Bk ((w.alloc (.cells (#[.int .i32 x.r, .int .u8 x.c.r, .int .u8 x.c.g, .int .u8 x.c.b, .int .u8 x.c.a, .int .u8 x.b.r, .int .u8 x.b.g, .int .u8 x.b.b, .int .u8 x.b.a, .bool x.wd, .bool x.tl]) 47)).alloc (.cells (#[.int .i32 y.r, .int .u8 y.c.r, .int .u8 y.c.g, .int .u8 y.c.b, .int .u8 y.c.a, .int .u8 y.b.r, .int .u8 y.b.g, .int .u8 y.b.b, .int .u8 y.b.a, .bool y.wd, .bool y.tl]) 47)) (w.heap.size + 1) (#[.int .i32 y.r, .int .u8 y.c.r, .int .u8 y.c.g, .int .u8 y.c.b, .int .u8 y.c.a, .int .u8 y.b.r, .int .u8 y.b.g, .int .u8 y.b.b, .int .u8 y.b.a, .bool y.wd, .bool y.tl]) 47) := by
    have k1 := (Bk.new w (#[.int .i32 x.r, .int .u8 x.c.r, .int .u8 x.c.g, .int .u8 x.c.b, .int .u8 x.c.a, .int .u8 x.b.r, .int .u8 x.b.g, .int .u8 x.b.b, .int .u8 x.b.a, .bool x.wd, .bool x.tl]) 47).below ((Below.refl _ _).alloc (Nat.le_refl _) (.cells (#[.int .i32 y.r, .int .u8 y.c.r, .int .u8 y.c.g, .int .u8 y.c.b, .int .u8 y.c.a, .int .u8 y.b.r, .int .u8 y.b.g, .int .u8 y.b.b, .int .u8 y.b.a, .bool y.wd, .bool y.tl]) 47))
    have k2 := Bk.new (w.alloc (.cells (#[.int .i32 x.r, .int .u8 x.c.r, .int .u8 x.c.g, .int .u8 x.c.b, .int .u8 x.c.a, .int .u8 x.b.r, .int .u8 x.b.g, .int .u8 x.b.b, .int .u8 x.b.a, .bool x.wd, .bool x.tl]) 47)) (#[.int .i32 y.r, .int .u8 y.c.r, .int .u8 y.c.g, .int .u8 y.c.b, .int .u8 y.c.a, .int .u8 y.b.r, .int .u8 y.b.g, .int .u8 y.b.b, .int .u8 y.b.a, .bool y.wd, .bool y.tl]) 47
    simp only [World.size_alloc] at k2
    exact ⟨k1, k2⟩
  have q1 := eql_col x.c y.c
  have q2 := eql_col x.b y.b
  unfold smL
  generalize smR x y = s0 at *
  generalize eqK x.c y.c = s1 at *
  generalize eqK x.b y.b = s2 at *
  cases s0
  · go_enter Tryz.func88, Tryz.ntmps88
    go_wp2_with fail
    refine (HS.out _).mono ?_
    rintro e w2 ⟨rfl, hb⟩
    have H2 : Hid (Below w.heap.size w w2 ∧ Bk w2 w.heap.size (#[.int .i32 x.r, .int .u8 x.c.r, .int .u8 x.c.g, .int .u8 x.c.b, .int .u8 x.c.a, .int .u8 x.b.r, .int .u8 x.b.g, .int .u8 x.b.b, .int .u8 x.b.a, .bool x.wd, .bool x.tl]) 47 ∧ Bk w2 (w.heap.size + 1) (#[.int .i32 y.r, .int .u8 y.c.r, .int .u8 y.c.g, .int .u8 y.c.b, .int .u8 y.c.a, .int .u8 y.b.r, .int .u8 y.b.g, .int .u8 y.b.b, .int .u8 y.b.a, .bool y.wd, .bool y.tl]) 47) := ⟨H0.out.trans (hb.mono H0.out.size), HB.out.1.below hb, HB.out.2.below hb⟩
    clear hb H0 HB HS
    have cx := H2.out.2.1.cell
    have cy := H2.out.2.2.cell
    have a1 := cx 1
    have a2 := cx 2
    have a3 := cx 3
    have a4 := cx 4
    have a5 := cx 5
    have a6 := cx 6
    have a7 := cx 7
    have a8 := cx 8
    have b1 := cy 1
    have b2 := cy 2
    have b3 := cy 3
    have b4 := cy 4
    have b5 := cy 5
    have b6 := cy 6
    have b7 := cy 7
    have b8 := cy 8
    simp only [List.getElem?_toArray, List.getElem?_cons_zero, List.getElem?_cons_succ] at a1 a2 a3 a4 a5 a6 a7 a8 b1 b2 b3 b4 b5 b6 b7 b8
    clear cx cy
    go_wp2
    go_ret
    exact ⟨rfl, H2.out.1⟩
  · cases s1
    · go_enter Tryz.func88, Tryz.ntmps88
      go_wp2_with fail
      refine (HS.out _).mono ?_
      rintro e w2 ⟨rfl, hb⟩
      have H2 : Hid (Below w.heap.size w w2 ∧ Bk w2 w.heap.size (#[.int .i32 x.r, .int .u8 x.c.r, .int .u8 x.c.g, .int .u8 x.c.b, .int .u8 x.c.a, .int .u8 x.b.r, .int .u8 x.b.g, .int .u8 x.b.b, .int .u8 x.b.a, .bool x.wd, .bool x.tl]) 47 ∧ Bk w2 (w.heap.size + 1) (#[.int .i32 y.r, .int .u8 y.c.r, .int .u8 y.c.g, .int .u8 y.c.b, .int .u8 y.c.a, .int .u8 y.b.r, .int .u8 y.b.g, .int .u8 y.b.b, .int .u8 y.b.a, .bool y.wd, .bool y.tl]) 47) := ⟨H0.out.trans (hb.mono H0.out.size), HB.out.1.below hb, HB.out.2.below hb⟩
      clear hb H0 HB HS
      have cx := H2.out.2.1.cell
      have cy := H2.out.2.2.cell
      have a1 := cx 1
      have a2 := cx 2
      have a3 := cx 3
      have a4 := cx 4
      have a5 := cx 5
      have a6 := cx 6
      have a7 := cx 7
      have a8 := cx 8
      have b1 := cy 1
      have b2 := cy 2
      have b3 := cy 3
      have b4 := cy 4
      have b5 := cy 5
      have b6 := cy 6
      have b7 := cy 7
      have b8 := cy 8
      simp only [List.getElem?_toArray, List.getElem?_cons_zero, List.getElem?_cons_succ] at a1 a2 a3 a4 a5 a6 a7 a8 b1 b2 b3 b4 b5 b6 b7 b8
      clear cx cy
      go_wp2
      go_ret
      exact ⟨rfl, H2.out.1⟩
    · go_enter Tryz.func88, Tryz.ntmps88
      go_wp2_with fail
      refine (HS.out _).mono ?_
      rintro e w2 ⟨rfl, hb⟩
      have H2 : Hid (Below w.heap.size w w2 ∧ Bk w2 w.heap.size (#[.int .i32 x.r, .int .u8 x.c.r, .int .u8 x.c.g, .int .u8 x.c.b, .int .u8 x.c.a, .int .u8 x.b.r, .int .u8 x.b.g, .int .u8 x.b.b, .int .u8 x.b.a, .bool x.wd, .bool x.tl]) 47 ∧ Bk w2 (w.heap.size + 1) (#[.int .i32 y.r, .int .u8 y.c.r, .int .u8 y.c.g, .int .u8 y.c.b, .int .u8 y.c.a, .int .u8 y.b.r, .int .u8 y.b.g, .int .u8 y.b.b, .int .u8 y.b.a, .bool y.wd, .bool y.tl]) 47) := ⟨H0.out.trans (hb.mono H0.out.size), HB.out.1.below hb, HB.out.2.below hb⟩
      clear hb H0 HB HS
      have cx := H2.out.2.1.cell
      have cy := H2.out.2.2.cell
      have a1 := cx 1
      have a2 := cx 2
      have a3 := cx 3
      have a4 := cx 4
      have a5 := cx 5
      have a6 := cx 6
      have a7 := cx 7
      have a8 := cx 8
      have b1 := cy 1
      have b2 := cy 2
      have b3 := cy 3
      have b4 := cy 4
      have b5 := cy 5
      have b6 := cy 6
      have b7 := cy 7
      have b8 := cy 8
      simp only [List.getElem?_toArray, List.getElem?_cons_zero, List.getElem?_cons_succ] at a1 a2 a3 a4 a5 a6 a7 a8 b1 b2 b3 b4 b5 b6 b7 b8
      clear cx cy
      go_wp2
      go_ret
      exact ⟨rfl, H2.out.1⟩

end Go.Proofs.YtleoaanjcccooaaGreatDoor
