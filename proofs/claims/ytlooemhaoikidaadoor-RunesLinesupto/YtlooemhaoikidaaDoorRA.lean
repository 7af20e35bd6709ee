/-
  Contracts: a Builder that takes a rune; runes.At, runes.Clean.
-/
import Derived.Test.YtlooemhaoikidaaDoorRS
import Derived.Test.YtlooemhaoikidaaDoorRI
import Derived.Lib.RuneBytes
import Derived.Shelf.Spec.BytesIndexFunc
namespace Go.Proofs.YtlooemhaoikidaaDoor
open Go.RowKit Go.Shelf Go.Lib

theorem sizeB : (Tryd.prog.info? 60).map (·.size) = some 2 := by kernel_rfl
theorem liesB : liesAt Tryd.prog Tryd.prog.depth 60 (2 / Tryd.prog.cellsOf 60) 0 60 1 = true := by kernel_rfl
theorem infoB : (Tryd.prog.info? 5).map (fun i => (i.zero, i.size, i.bytes)) = some (some (.int .u8 0), 1, 1) := by kernel_rfl

theorem extra169 : Builder.Extra Tryd.prog Tryd.lays169_ren where
  sizeBuilder := by kernel_rfl
  liesBuilder := by kernel_rfl
  t5 := Tryd.underlying5
  a5 := Tryd.isAgg5
  z5 := Tryd.sizeOf5
  v5 := Tryd.zeroValue5
  infoByte := by kernel_rfl
  cellsByte := by kernel_rfl
  sizeByte := by kernel_rfl
  neB5 := by decide

set_option maxHeartbeats 1000000 in
set_option maxRecDepth 100000 in
theorem copyCheck_used (b : Nat) (w : World) (h0 : w.cell? ⟨b, 0, none⟩ = some (.pointer (some ⟨b, 0, none⟩))) :
    Calls Tryd.prog 58 #[.pointer (some ⟨b, 0, none⟩)] w fun e w' => e = .returned (.tuple #[]) ∧ w' = w := by
  obtain ⟨j, hj, _⟩ := Option.map_eq_some_iff.1 sizeB
  go_enter Tryd.func58, Tryd.ntmps58
  go_wp2
  rw [Lib.run_neq_ptr_same w _ Tryd.underlying57 hj]
  go_wp2
  go_end0
  exact ⟨rfl, rfl⟩

set_option maxHeartbeats 1000000 in
set_option maxRecDepth 100000 in
theorem copyCheck_fresh (b : Nat) (w : World) (h0 : w.cell? ⟨b, 0, none⟩ = some (.pointer none)) (hsh : w.shape? b = some (60, 2)) (hfz : w.frozen? ⟨b, 0, none⟩ = false) :
    Calls Tryd.prog 58 #[.pointer (some ⟨b, 0, none⟩)] w fun e w' => e = .returned (.tuple #[]) ∧ w' = w.setCell ⟨b, 0, none⟩ (.pointer (some ⟨b, 0, none⟩)) := by
  obtain ⟨j, hj, hjs⟩ := Option.map_eq_some_iff.1 sizeB
  go_enter Tryd.func58, Tryd.ntmps58
  go_wp2
  rw [Lib.run_to_unsafe w ⟨b, 0, none⟩ Tryd.underlying57 Tryd.underlying96 hj (by rw [hjs]; decide) hsh (Nat.zero_lt_succ 1)]
  simp only [Result.andThen]
  rw [Oper.upon_value]
  go_wp2
  rw [run_callFunc_extern Tryd.func68 (by kernel_rfl) (by kernel_rfl) (by kernel_rfl) (e := Extern.AbiNoEscape.same) (by kernel_rfl)]
  rw [Lib.run_noEscape]
  simp only [Result.andThen]
  rw [Oper.upon_value]
  go_wp2
  rw [Lib.run_from_unsafe w ⟨b, 0, none⟩ Tryd.underlying96 Tryd.underlying57 hj hsh liesB]
  simp only [Result.andThen]
  rw [Oper.upon_value]
  go_wp2
  go_end0
  exact ⟨rfl, rfl⟩

theorem copyCheck_any (B b : Nat) (bs : List Value) (w : World) (h : Lib.IsBuilderF 60 5 B b bs w) :
    Calls Tryd.prog 58 #[.pointer (some ⟨b, 0, none⟩)] w fun e w' => e = .returned (.tuple #[]) ∧ Lib.BuilderAtF 60 5 B b (.pointer (some ⟨b, 0, none⟩)) bs w' ∧ Below B w w' ∧ Lib.OthersKept 5 (some b) w w' := by
  rcases h with h | h
  · refine (copyCheck_fresh b w h.cell0 h.shape h.frozen0).mono fun e w' ⟨h1, h2⟩ => ?_
    subst h1 h2
    exact ⟨rfl, h.used _, (Below.refl B w).setCell (p := ⟨b, 0, none⟩) h.1 _, (Lib.OthersKept.refl _ _ w).setCell ⟨b, 0, none⟩ rfl _⟩
  · refine (copyCheck_used b w h.cell0).mono fun e w' ⟨h1, h2⟩ => ?_
    subst h1 h2
    exact ⟨rfl, h, Below.refl B _, Lib.OthersKept.refl _ _ _⟩

set_option maxHeartbeats 2000000 in
set_option maxRecDepth 100000 in
theorem writeRune_any (B b : Nat) (bs : List Value) (r : Int) (hr0 : -2147483648 ≤ r) (hr1 : r ≤ 2147483647) (w : World) (h : Lib.IsBuilderF 60 5 B b bs w) (hlen : bs.length + 4 ≤ 140737488355328) (hBw : B ≤ w.heap.size) :
    Calls Tryd.prog 42 #[.pointer (some ⟨b, 0, none⟩), .int .i32 r] w fun e w' => (∃ v, e = .returned v) ∧ Lib.BuilderAtF 60 5 B b (.pointer (some ⟨b, 0, none⟩)) (bs ++ Lib.runeCells r) w' ∧ Below B w w' ∧ Lib.OthersKept 5 (some b) w w' := by
  have hk4 := Lib.runeCells_le r
  go_enter Tryd.func42, Tryd.ntmps42
  go_wp2_with fail
  refine (copyCheck_any B b bs _ h).mono ?_
  rintro e w1 ⟨rfl, h1, hb1, hk1⟩
  obtain ⟨hB, v, hbk, hown, hne⟩ := h1
  obtain ⟨ao, cap, rfl⟩ : ∃ ao cap, v = .slice ao bs.length cap := by
    rcases hown.2 with ⟨hv, h0⟩ | ⟨g, cap, cur, fz, hv, _⟩
    · exact ⟨none, 0, by rw [hv, h0]⟩
    · exact ⟨_, _, hv⟩
  have c0 : w1.cell? ⟨b, 0, none⟩ = some (.pointer (some ⟨b, 0, none⟩)) := by rw [Lib.cell_of_heap hbk]; rfl
  have c1 : w1.cell? ⟨b, 1, none⟩ = some (.slice ao bs.length cap) := by rw [Lib.cell_of_heap hbk]; rfl
  go_wp2_with fail
  refine (Any.utf8_AppendRune_row Tryd.lays242 infoB B _ bs.length bs r hr0 hr1 _ hown hlen (by have := hb1.size; omega)).mono ?_
  rintro e w2 ⟨v', rfl, hown', o, hgrow⟩
  have hlt : b < w1.heap.size := (Array.getElem?_eq_some_iff.1 hbk).1
  have hb2 : Blk w2 b #[.pointer (some ⟨b, 0, none⟩), .slice ao bs.length cap] 60 :=
    (hgrow.block b (by simp; omega) (fun e => hne e.symm)).trans ((((Below.refl _ w1).alloc (Nat.le_refl _) o).block b hlt).trans hbk)
  have d0 := hb2.cell 0
  have d1 := hb2.cell 1
  have f1 := hb2.frozen 1
  obtain ⟨g, cap', rfl⟩ : ∃ g cap', v' = .slice (some ⟨g, 0, none⟩) (bs.length + (Lib.runeCells r).length) cap' := by
    rcases hown'.2 with ⟨_, h0⟩ | ⟨g, cap', cur, fz, hv, _⟩
    · omega
    · exact ⟨g, cap', hv⟩
  have HF : Hid (Lib.BuilderAtF 60 5 B b (.pointer (some ⟨b, 0, none⟩)) (bs ++ Lib.runeCells r) (w2.setCell ⟨b, 1, none⟩ (.slice (some ⟨g, 0, none⟩) (bs.length + (Lib.runeCells r).length) cap')) ∧ Below B w (w2.setCell ⟨b, 1, none⟩ (.slice (some ⟨g, 0, none⟩) (bs.length + (Lib.runeCells r).length) cap')) ∧ Lib.OthersKept 5 (some b) w (w2.setCell ⟨b, 1, none⟩ (.slice (some ⟨g, 0, none⟩) (bs.length + (Lib.runeCells r).length) cap'))) :=
    ⟨Lib.BuilderAtF.put (T := 60) (e := 5) hB hb2 (bs' := bs ++ Lib.runeCells r) (by rw [List.length_append]; exact hown') (by decide),
      ((hb1.alloc (by have := hb1.size; omega) _).grown hgrow (by have := hb1.size; simp; omega) (fun k hk => (hown.lt k hk).1)).setCell (p := ⟨b, 1, none⟩) hB _,
      ((hk1.alloc _).grown hgrow (Lib.ownsRowF_kind (hown.alloc _))).setCell ⟨b, 1, none⟩ rfl _⟩
  clear hown hown' hgrow hk1 hb1 hbk hb2 h
  go_wp2
  go_ret2
  exact ⟨⟨_, rfl⟩, HF.out⟩

/-- The tables of the library's decoder. -/
def TabD (w : World) : Prop := Lib.Utf8Tabs 0 1 w
theorem TabD.below {W w1 : World} (h : TabD W) (hb : Below W.heap.size W w1) : TabD w1 := Utf8Tabs_below h hb
theorem decode_any (s : ByteArray) (w : World) (D : TabD w) :
    Calls Tryd.prog 40 #[.string s] w fun e w' => e = .returned (.tuple #[.int .i32 (Lib.decodeGo s).1, .int .i64 (Lib.decodeGo s).2]) ∧ Below w.heap.size w w' := Any.utf8_DecodeRuneInString Tryd.lays197 s w D

/-- The place of the first broken byte, from a place on. -/
def atF (s : ByteArray) : Nat → Nat → Int
  | 0, _ => -1
  | f + 1, q => if q < s.size then (if rn s q = 65533 ∧ sz s q = 1 then q else atF s f (q + sz s q)) else -1
def atA (s : ByteArray) : Int := atF s (s.size + 1) 0

set_option maxHeartbeats 1000000 in
theorem at_any (s : ByteArray) (w : World) (D : TabD w) :
    Calls Tryd.prog 14 #[.string s] w fun e w' => e = .returned (.int .i64 (atA s)) ∧ Below w.heap.size w w' := by
  have HD : Hid (TabD w) := D
  clear D
  go_enter Tryd.func14, Tryd.ntmps14
  go_wp2
  go_loopw [] (fun wr => ∃ (q f : Nat), wr.heap[w.heap.size]? = some (.stringIter s q) ∧ Below w.heap.size w wr ∧ atA s = atF s (f + 1) q ∧ s.size ≤ f + q) (fun wr => s.size - iterPos wr w.heap.size)
  case atStart => exact ⟨0, s.size, World.alloc_heap_new w _, (Below.refl _ w).alloc (Nat.le_refl _) _, rfl, by omega⟩
  case round =>
    obtain ⟨q, f, hit, hbr, heq, hf⟩ := hrel
    by_cases hq : q < s.size
    · have hnx := Lib.run_next_any_at (P := Tryd.prog) wr w.heap.size s q 0 hit hq
      obtain ⟨r', hr'⟩ : ∃ r', r' = (Utf8.decode s q).1 := ⟨_, rfl⟩
      obtain ⟨z', hz'⟩ : ∃ z', z' = (Utf8.decode s q).2 := ⟨_, rfl⟩
      obtain ⟨wI, hwI⟩ : ∃ wI, wI = wr.iterAt w.heap.size s (q + z') := ⟨_, rfl⟩
      rw [← hr', ← hz', ← hwI] at hnx
      have hz1 : 1 ≤ z' := by rw [hz']; exact Lib.width_pos s q
      have HZ : Hid (r' = rn s q ∧ z' = sz s q ∧ iterPos wr w.heap.size = q ∧ 1 ≤ z' ∧ wI.heap[w.heap.size]? = some (.stringIter s (q + z')) ∧ Below w.heap.size w wI ∧ atA s = atF s (f + 1) q) :=
        ⟨hr', hz', iterPos_of hit, hz1, by rw [hwI]; exact Lib.iterAt_heap _ _ _ _ _ hit, by rw [hwI]; exact Lib.below_iterAt hbr (Nat.le_refl _) _ _, heq⟩
      have step : ¬ (r' = 65533 ∧ z' = 1) → atF s (f + 1) q = atF s f (q + z') := fun h => by rw [atF, if_pos hq, if_neg (by rw [show rn s q = r' from hr'.symm, show sz s q = z' from hz'.symm]; exact h), show sz s q = z' from hz'.symm]
      have HS : Hid (¬ (r' = 65533 ∧ z' = 1) → atF s (f + 1) q = atF s f (q + z')) := step
      have hit0 : Hid (r' = 65533 ∧ z' = 1 → atF s (f + 1) q = q) := fun h => by rw [atF, if_pos hq, if_pos (by rw [show rn s q = r' from hr'.symm, show sz s q = z' from hz'.symm]; exact h)]
      have hdg : Hid (Lib.decodeGo (s.extract q s.size) = (r', z')) := by unfold Hid; rw [decodeGo_tail s q hq, hr', hz']
      clear step heq hit hbr hr' hz' hwI
      by_cases h1 : r' = 65533
      · have h1' : ((r' : Int) == 65533) = true := by simp [h1]
        have H1 : Hid (r' = 65533) := h1
        clear h1
        go_wp2_with fail
        refine (decode_any _ _ (HD.out.below HZ.out.2.2.2.2.2.1)).mono ?_
        rintro e w2 ⟨rfl, hb2⟩
        rw [hdg.out]
        have H2 : Hid (w2.heap[w.heap.size]? = some (.stringIter s (q + z')) ∧ Below w.heap.size w w2) := by
          obtain ⟨_, _, _, _, i1, i2, _⟩ := HZ.out
          exact ⟨(hb2.block _ (Array.getElem?_eq_some_iff.1 i1).1).trans i1, i2.trans (hb2.mono i2.size)⟩
        clear hb2
        by_cases h2 : z' = 1
        · have h2' : ((z' : Int) == 1) = true := by simp [h2]
          have H2' : Hid (z' = 1) := h2
          clear h2
          go_wp2
          go_ret
          exact ⟨by rw [HZ.out.2.2.2.2.2.2, hit0.out ⟨H1.out, H2'.out⟩]; rfl, H2.out.2⟩
        · have h2' : ((z' : Int) == 1) = false := by simp; omega
          have H2' : Hid (¬ z' = 1) := h2
          clear h2
          go_wp2
          go_roundw
          case rel =>
            obtain ⟨_, _, _, z1, i1, i2, i3⟩ := HZ.out
            obtain ⟨f', rfl⟩ : ∃ f', f = f' + 1 := ⟨f - 1, by omega⟩
            exact ⟨q + z', f', H2.out.1, H2.out.2, by rw [i3, HS.out (fun h => H2'.out h.2)], by omega⟩
          case measure =>
            obtain ⟨_, _, ip, z1, _⟩ := HZ.out
            rw [ip, iterPos_of H2.out.1]; omega
      · have h1' : ((r' : Int) == 65533) = false := by simp; omega
        have H1 : Hid (¬ r' = 65533) := h1
        clear h1
        go_wp2
        go_roundw
        case rel =>
          obtain ⟨_, _, _, z1, i1, i2, i3⟩ := HZ.out
          obtain ⟨f', rfl⟩ : ∃ f', f = f' + 1 := ⟨f - 1, by omega⟩
          exact ⟨q + z', f', i1, i2, by rw [i3, HS.out (fun h => H1.out h.1)], by omega⟩
        case measure =>
          obtain ⟨_, _, ip, z1, i1, _⟩ := HZ.out
          rw [ip, iterPos_of i1]; omega
    · have hnx := Lib.run_next_end_at (P := Tryd.prog) wr w.heap.size s q 0 hit hq
      have HE : Hid (atA s = -1 ∧ Below w.heap.size w wr) := ⟨by rw [heq, atF, if_neg hq], hbr⟩
      clear heq hbr
      go_wp2
      go_ret
      exact ⟨by rw [HE.out.1]; rfl, HE.out.2⟩

/-- A clean text, from a place on. -/
def keepR (r : Nat) : Bool := decide (r = 10) || !ctl r
def cleanF (s : ByteArray) : Nat → Nat → List UInt8
  | 0, _ => []
  | f + 1, q => if q < s.size then (if keepR (rn s q) then Lib.encodeRune (rn s q) else []) ++ cleanF s f (q + sz s q) else []
def cleanA (s : ByteArray) : ByteArray := ⟨(cleanF s (s.size + 1) 0).toArray⟩

theorem bld_iter {wr wI : World} {B k : Nat} {s : ByteArray} {q q' : Nat} {bs : List Value} (h : Lib.IsBuilderF 60 5 B B bs wr) (hit : wr.heap[k]? = some (.stringIter s q)) (e : wI = wr.iterAt k s q') : Lib.IsBuilderF 60 5 B B bs wI := by
  subst e; exact h.iterAt hit q'

set_option maxHeartbeats 1000000 in
theorem clean_any (s : ByteArray) (w : World) (hs : s.size ≤ 1099511627776) :
    Calls Tryd.prog 16 #[.string s] w fun e w' => e = .returned (.string (cleanA s)) ∧ Below w.heap.size w w' := by
  go_enter Tryd.func16, Tryd.ntmps16
  go_wp2
  go_loopw [] (fun wr => ∃ (q f : Nat) (acc : List UInt8), Lib.IsBuilderF 60 5 w.heap.size w.heap.size (Lib.byteCells acc) wr ∧ wr.heap[w.heap.size + 1]? = some (.stringIter s q) ∧ Below w.heap.size w wr ∧ cleanF s (s.size + 1) 0 = acc ++ cleanF s (f + 1) q ∧ s.size ≤ f + q ∧ acc.length ≤ 4 * q) (fun wr => s.size - iterPos wr (w.heap.size + 1))
  case atStart =>
    refine ⟨0, s.size, [], (Lib.IsBuilderF.of (Lib.fresh_isBuilder 60 5 w)).alloc _, ?_, ((Below.refl _ w).alloc (Nat.le_refl _) _).alloc (by simp) _, rfl, by omega, by simp⟩
    have := World.alloc_heap_new (w.alloc (.cells #[.pointer none, .slice none 0 0] 60)) (.stringIter s 0)
    rwa [World.size_alloc] at this
  case round =>
    obtain ⟨q, f, acc, hI, hit, hbr, heq, hf, hal⟩ := hrel
    by_cases hq : q < s.size
    · have hnx := Lib.run_next_any_at (P := Tryd.prog) wr (w.heap.size + 1) s q 0 hit hq
      obtain ⟨r', hr'⟩ : ∃ r', r' = (Utf8.decode s q).1 := ⟨_, rfl⟩
      obtain ⟨z', hz'⟩ : ∃ z', z' = (Utf8.decode s q).2 := ⟨_, rfl⟩
      obtain ⟨wI, hwI⟩ : ∃ wI, wI = wr.iterAt (w.heap.size + 1) s (q + z') := ⟨_, rfl⟩
      rw [← hr', ← hz', ← hwI] at hnx
      have hz1 : 1 ≤ z' := by rw [hz']; exact Lib.width_pos s q
      have hrl : r' ≤ 1114111 := by rw [hr']; exact Lib.rune_le s q
      have hbI : Below w.heap.size w wI := by rw [hwI]; exact Lib.below_iterAt hbr (by omega) _ _
      have step : cleanF s (f + 1) q = (if keepR r' then Lib.encodeRune r' else []) ++ cleanF s f (q + z') := by
        rw [cleanF, if_pos hq, show rn s q = r' from hr'.symm, show sz s q = z' from hz'.symm]
      have HZ : Hid (iterPos wr (w.heap.size + 1) = q ∧ 1 ≤ z' ∧ wI.heap[w.heap.size + 1]? = some (.stringIter s (q + z')) ∧ Below w.heap.size w wI ∧ cleanF s (s.size + 1) 0 = acc ++ cleanF s (f + 1) q ∧ cleanF s (f + 1) q = (if keepR r' then Lib.encodeRune r' else []) ++ cleanF s f (q + z') ∧ Lib.IsBuilderF 60 5 w.heap.size w.heap.size (Lib.byteCells acc) wI) :=
        ⟨iterPos_of hit, hz1, by rw [hwI]; exact Lib.iterAt_heap _ _ _ _ _ hit, hbI, heq, step, bld_iter hI hit hwI⟩
      have hacc : (Lib.byteCells acc).length + 4 ≤ 140737488355328 := by rw [Lib.byteCells_length]; omega
      have hsI := hbI.size
      clear step heq hit hbr hr' hz' hwI hI hbI
      have HW : Hid (∀ w2, Lib.BuilderAtF 60 5 w.heap.size w.heap.size (.pointer (some ⟨w.heap.size, 0, none⟩)) (Lib.byteCells acc ++ Lib.runeCells r') w2 → Below w.heap.size wI w2 → Lib.OthersKept 5 (some w.heap.size) wI w2 → keepR r' = true →
          ∃ (q f : Nat) (acc : List UInt8), Lib.IsBuilderF 60 5 w.heap.size w.heap.size (Lib.byteCells acc) w2 ∧ w2.heap[w.heap.size + 1]? = some (.stringIter s q) ∧ Below w.heap.size w w2 ∧ cleanF s (s.size + 1) 0 = acc ++ cleanF s (f + 1) q ∧ s.size ≤ f + q ∧ acc.length ≤ 4 * q ∧ q = iterPos w2 (w.heap.size + 1) ∧ iterPos wr (w.heap.size + 1) < q) := by
        intro w2 k1 k2 k3 k4
        obtain ⟨ip, z1, i1, i2, i3, i4, i5⟩ := HZ.out
        obtain ⟨f', rfl⟩ : ∃ f', f = f' + 1 := ⟨f - 1, by omega⟩
        have it2 := k3.iter i1 (by omega)
        refine ⟨q + z', f', acc ++ Lib.encodeRune r', .inr ?_, it2, i2.trans k2, ?_, by omega, ?_, (iterPos_of it2).symm, by omega⟩
        · rw [show Lib.byteCells (acc ++ Lib.encodeRune r') = Lib.byteCells acc ++ Lib.runeCells r' by rw [← Lib.byteCells_encodeRune]; simp [Lib.byteCells]]
          exact k1
        · rw [i3, i4, k4]; simp
        · have := (Lib.runeCells_le r').2
          rw [Lib.runeCells_length] at this
          rw [List.length_append]; omega
      by_cases h1 : r' = 10
      · have h1' : ((r' : Int) == 10) = true := by simp [h1]
        have H1 : Hid (keepR r' = true) := by unfold Hid keepR; simp [h1]
        clear h1
        go_wp2_with fail
        refine (writeRune_any w.heap.size w.heap.size (Lib.byteCells acc) r' (by omega) (by omega) _ HZ.out.2.2.2.2.2.2 hacc hsI).mono ?_
        rintro e w2 ⟨⟨v, rfl⟩, k1, k2, k3⟩
        have HR : Hid (∃ (q f : Nat) (acc : List UInt8), Lib.IsBuilderF 60 5 w.heap.size w.heap.size (Lib.byteCells acc) w2 ∧ w2.heap[w.heap.size + 1]? = some (.stringIter s q) ∧ Below w.heap.size w w2 ∧ cleanF s (s.size + 1) 0 = acc ++ cleanF s (f + 1) q ∧ s.size ≤ f + q ∧ acc.length ≤ 4 * q ∧ q = iterPos w2 (w.heap.size + 1) ∧ iterPos wr (w.heap.size + 1) < q) := HW.out w2 k1 k2 k3 H1.out
        clear k1 k2 k3
        go_wp2
        obtain ⟨q2, f2, acc2, j1, j2, j3, j4, j5, j6, j7, j8⟩ := HR.out
        have ip := HZ.out.1
        go_roundw
        case rel => exact ⟨q2, f2, acc2, j1, j2, j3, j4, j5, j6⟩
        case measure => rw [← j7]; omega
      · have h1' : ((r' : Int) == 10) = false := by simp; omega
        have H1 : Hid (¬ r' = 10) := h1
        clear h1
        go_wp2_with fail
        refine (isControl_any _ _).mono ?_
        rintro e w2 ⟨rfl, rfl⟩
        cases hc : ctl r'
        · have H2 : Hid (keepR r' = true) := by unfold Hid keepR; rw [hc]; simp
          go_wp2_with fail
          refine (writeRune_any w.heap.size w.heap.size (Lib.byteCells acc) r' (by omega) (by omega) _ HZ.out.2.2.2.2.2.2 hacc hsI).mono ?_
          rintro e w2 ⟨⟨v, rfl⟩, k1, k2, k3⟩
          have HR : Hid (∃ (q f : Nat) (acc : List UInt8), Lib.IsBuilderF 60 5 w.heap.size w.heap.size (Lib.byteCells acc) w2 ∧ w2.heap[w.heap.size + 1]? = some (.stringIter s q) ∧ Below w.heap.size w w2 ∧ cleanF s (s.size + 1) 0 = acc ++ cleanF s (f + 1) q ∧ s.size ≤ f + q ∧ acc.length ≤ 4 * q ∧ q = iterPos w2 (w.heap.size + 1) ∧ iterPos wr (w.heap.size + 1) < q) := HW.out w2 k1 k2 k3 H2.out
          clear k1 k2 k3
          go_wp2
          obtain ⟨q2, f2, acc2, j1, j2, j3, j4, j5, j6, j7, j8⟩ := HR.out
          have ip := HZ.out.1
          go_roundw
          case rel => exact ⟨q2, f2, acc2, j1, j2, j3, j4, j5, j6⟩
          case measure => rw [← j7]; omega
        · have H2 : Hid (keepR r' = false) := by unfold Hid keepR; rw [hc]; simp [H1.out]
          go_wp2
          go_roundw
          case rel =>
            obtain ⟨ip, z1, i1, i2, i3, i4, i5⟩ := HZ.out
            obtain ⟨f', rfl⟩ : ∃ f', f = f' + 1 := ⟨f - 1, by omega⟩
            exact ⟨q + z', f', acc, i5, i1, i2, by rw [i3, i4, H2.out]; rfl, by omega, by omega⟩
          case measure =>
            obtain ⟨ip, z1, i1, _⟩ := HZ.out
            rw [ip, iterPos_of i1]; omega
    · have hnx := Lib.run_next_end_at (P := Tryd.prog) wr (w.heap.size + 1) s q 0 hit hq
      have HE : Hid (cleanF s (s.size + 1) 0 = acc ∧ Lib.IsBuilderF 60 5 w.heap.size w.heap.size (Lib.byteCells acc) wr ∧ Below w.heap.size w wr) := ⟨by rw [heq, cleanF, if_neg hq, List.append_nil], hI, hbr⟩
      clear heq hbr hI
      go_wp2_with fail
      refine (Any.Builder_String_any_k Tryd.lays169 extra169 w.heap.size w.heap.size acc wr HE.out.2.1 HE.out.2.2.size).mono ?_
      rintro e w2 ⟨rfl, k1, k2, k3⟩
      have HF : Hid (Below w.heap.size w w2) := HE.out.2.2.trans k2
      clear k1 k2 k3
      go_wp2
      go_ret
      exact ⟨by rw [cleanA, HE.out.1]; rfl, HF.out⟩

end Go.Proofs.YtlooemhaoikidaaDoor
