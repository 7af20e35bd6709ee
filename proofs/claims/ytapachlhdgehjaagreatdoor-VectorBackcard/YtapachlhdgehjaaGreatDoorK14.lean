/-
  Package cells: writeLine.
-/
import Derived.Test.YtapachlhdgehjaaGreatDoorK13
import Derived.Deep.WholeRow
import Derived.Deep.RegionWith
namespace Go.Proofs.YtapachlhdgehjaaGreatDoor
open Go.RowKit

structure WlM (w : World) (lo g n cap o m : Nat) (L : List Ce) (st : St) (p : Int) (line : ByteArray) (G : List Gl) (q : Nat) (wr : World) : Prop where
  i : wr.heap[w.heap.size + 1]? = some (.stringIter line q)
  k : Bk wr w.heap.size (#[.int .u8 st.k, .int .i64 st.r.x, .int .i64 st.r.y, .int .i64 st.r.w, .int .i64 st.r.h, .int .u8 st.c.r, .int .u8 st.c.g, .int .u8 st.c.b, .int .u8 st.c.a, .int .u8 st.b.r, .int .u8 st.b.g, .int .u8 st.b.b, .int .u8 st.b.a, .string st.t, .int .i64 st.n]) 55
  s : ScM lo wr g n cap (updR L o m (wlF G st o p))
  d : w.grownBy wr (some g)
theorem WlM.below {w : World} {lo g n cap o m : Nat} {L : List Ce} {st : St} {p : Int} {line : ByteArray} {G : List Gl} {q : Nat} {wr W : World} (h : WlM w lo g n cap o m L st p line G q wr) (hb : Below wr.heap.size wr W) : WlM w lo g n cap o m L st p line G q W :=
  ⟨(hb.block _ (Array.getElem?_eq_some_iff.1 h.i).1).trans h.i, h.k.below hb, h.s.below hb, ob_transC h.d ⟨hb.os, hb.tape, hb.output, hb.size, fun b h' _ => hb.block b h'⟩⟩
theorem WlM.next {w : World} {lo g n cap o m : Nat} {L : List Ce} {st : St} {p : Int} {line : ByteArray} {G : List Gl} {q q' : Nat} {wr : World} (h : WlM w lo g n cap o m L st p line G q wr) : WlM w lo g n cap o m L st p line G q' (wr.iterAt (w.heap.size + 1) line q') := by
  have e : ∀ b, b ≠ w.heap.size + 1 → (wr.iterAt (w.heap.size + 1) line q').heap[b]? = wr.heap[b]? := fun b hb => Lib.iterAt_other wr _ b line q' (by omega)
  have hg : g ≠ w.heap.size + 1 := fun hg => by
    have h2 := h.s.2
    obtain ⟨_, ⟨h3, _⟩ | ⟨g', cap', cur, h3, hb, hc, _⟩⟩ := h2
    · cases h3
    · injection h3 with h3 _ _
      injection h3 with h3
      injection h3 with h3 _ _
      subst h3
      rw [hg, h.i] at hc
      cases hc
  have d := h.d
  exact ⟨Lib.iterAt_heap _ _ _ _ _ h.i, (e _ (by omega)).trans h.k, h.s.same (e g hg), ⟨d.os, d.tape, d.output, by rw [Lib.iterAt_size]; exact d.size, fun b hb hr => (e b (by omega)).trans (d.block b hb hr)⟩⟩

set_option maxRecDepth 20000 in
set_option maxHeartbeats 4000000 in
theorem wline_any (lo g n cap o m c' B : Nat) (L : List Ce) (line : ByteArray) (p : Int) (st : St) (w : World) (h : ScM lo w g n cap L) (hm : o + m ≤ n) (hB : B = o * 11) (hl : n ≤ 1000000) (hp : -1000000 ≤ p ∧ p ≤ m) (hs : st.c.ok ∧ st.b.ok) (hL : WfC L) (HT : ∀ W, w.grownBy W (some g) → Tabs W) :
    Calls Tryz.prog 98 #[.slice (some ⟨g, B, none⟩) m c', .int .i64 p, .string line, (Value.agg #[.int .u8 st.k, .int .i64 st.r.x, .int .i64 st.r.y, .int .i64 st.r.w, .int .i64 st.r.h, .int .u8 st.c.r, .int .u8 st.c.g, .int .u8 st.c.b, .int .u8 st.c.a, .int .u8 st.b.r, .int .u8 st.b.g, .int .u8 st.b.b, .int .u8 st.b.a, .string st.t, .int .i64 st.n])] w fun e w' => e = .returned (.tuple #[]) ∧ ScM lo w' g n cap (updR L o m (wlF (lnG line) st o p)) ∧ w.grownBy w' (some g) := by
  have HI : Hid (WlM w lo g n cap o m L st p line [] 0 ((w.alloc (.cells (#[.int .u8 st.k, .int .i64 st.r.x, .int .i64 st.r.y, .int .i64 st.r.w, .int .i64 st.r.h, .int .u8 st.c.r, .int .u8 st.c.g, .int .u8 st.c.b, .int .u8 st.c.a, .int .u8 st.b.r, .int .u8 st.b.g, .int .u8 st.b.b, .int .u8 st.b.a, .string st.t, .int .i64 st.n]) 55)).alloc (.stringIter line 0))) := by
    have h1 : Below w.heap.size w ((w.alloc (.cells (#[.int .u8 st.k, .int .i64 st.r.x, .int .i64 st.r.y, .int .i64 st.r.w, .int .i64 st.r.h, .int .u8 st.c.r, .int .u8 st.c.g, .int .u8 st.c.b, .int .u8 st.c.a, .int .u8 st.b.r, .int .u8 st.b.g, .int .u8 st.b.b, .int .u8 st.b.a, .string st.t, .int .i64 st.n]) 55)).alloc (.stringIter line 0)) := ((Below.refl _ w).alloc (Nat.le_refl _) _).alloc (by simp) _
    have k := World.alloc_heap_new (w.alloc (.cells (#[.int .u8 st.k, .int .i64 st.r.x, .int .i64 st.r.y, .int .i64 st.r.w, .int .i64 st.r.h, .int .u8 st.c.r, .int .u8 st.c.g, .int .u8 st.c.b, .int .u8 st.c.a, .int .u8 st.b.r, .int .u8 st.b.g, .int .u8 st.b.b, .int .u8 st.b.a, .string st.t, .int .i64 st.n]) 55)) (.stringIter line 0)
    rw [World.size_alloc] at k
    exact ⟨k, (Bk.new w _ _).below ((Below.refl _ _).alloc (Nat.le_refl _) _), by rw [wl_zero]; exact h.below h1, ⟨h1.os, h1.tape, h1.output, h1.size, fun b hb _ => h1.block b hb⟩⟩
  have HL : Hid (L.length = n ∧ B = o * 11 ∧ (st.c.ok ∧ st.b.ok) ∧ WfC L ∧ (∀ W, w.grownBy W (some g) → Tabs W) ∧ lo ≤ g ∧ g < w.heap.size) := ⟨h.1, hB, hs, hL, HT, h.lt⟩
  clear h hB hs hL HT
  obtain ⟨hp1, hp2⟩ := hp
  go_enter Tryz.func98, Tryz.ntmps98
  go_wp2_with fail
  go_loopw [1] (fun va wr => ∃ (G : List Gl) (q f : Nat), va = .int .i64 (p + (G.length : Int)) ∧ p + (G.length : Int) ≤ m + 2 ∧ lnG line = G ++ lnF line (f + 1) q ∧ line.size ≤ f + q ∧ Hid (WlM w lo g n cap o m L st p line G q wr)) (fun _ wr => line.size - iPos wr (w.heap.size + 1))
  case atStart => exact ⟨[], 0, line.size, by simp, by simp; omega, rfl, by omega, HI⟩
  case round =>
    obtain ⟨G, q, f, rfl, hG1, hG2, hf, HR⟩ := hrel
    clear HI
    have hit := HR.out.i
    by_cases hq : q < line.size
    · have hnx := Lib.run_next_any_at (P := Tryz.prog) wr (w.heap.size + 1) line q 0 hit hq
      obtain ⟨r', hr'⟩ : ∃ r', r' = (Utf8.decode line q).1 := ⟨_, rfl⟩
      obtain ⟨z', hz'⟩ : ∃ z', z' = (Utf8.decode line q).2 := ⟨_, rfl⟩
      obtain ⟨wI, hwI⟩ : ∃ wI, wI = wr.iterAt (w.heap.size + 1) line (q + z') := ⟨_, rfl⟩
      rw [← hr', ← hz', ← hwI] at hnx
      have hz1 : 1 ≤ z' := by rw [hz']; exact Lib.width_pos line q
      have H1 : Hid (WlM w lo g n cap o m L st p line G (q + z') wI ∧ iPos wr (w.heap.size + 1) = q ∧ lnG line = (G ++ glR r') ++ lnF line f (q + z')) := ⟨by rw [hwI]; exact HR.out.next, iPos_of hit, by rw [hG2, lnF_step hq, hr', hz', List.append_assoc]⟩
      clear hit hr' hz' hwI
      generalize ha : p + (G.length : Int) = at1 at *
      by_cases hat : (m : Int) ≤ at1
      · have HF : Hid (ScM lo wI g n cap (updR L o m (wlF (lnG line) st o p)) ∧ w.grownBy wI (some g)) := ⟨by rw [hG2, wl_rest _ _ (by omega)]; exact H1.out.1.s, H1.out.1.d⟩
        clear H1 HR hG2
        go_wp2
        exact bodyPost_ret (v := .tuple #[]) (by simp [results, Tryz.results98, go_sem]) rfl ⟨rfl, HF.out⟩
      · obtain ⟨d1, hd1⟩ : ∃ c, c = shp1 r' := ⟨_, rfl⟩
        obtain ⟨d2, hd2⟩ : ∃ c, c = shp2 r' := ⟨_, rfl⟩
        obtain ⟨wd, hwd⟩ : ∃ n : Nat, (n : Int) = width r' := ⟨(width r').toNat, by have := width_range (r' : Int); omega⟩
        have HSh : Hid (∀ W, Tabs W → Calls Tryz.prog 131 #[.int .i32 r'] W fun e w' => e = .returned (.tuple #[.agg (duoA d1 d2), .int .i64 (wd : Nat)]) ∧ Below W.heap.size W w') := fun W hW => by rw [hd1, hd2, hwd]; exact shape_any r' W hW
        have HD : Hid (d1 = shpN r' 0 ∧ d2 = shpN r' 1 ∧ (glR r').length = wd) := ⟨hd1, hd2, by rw [glR_len, ← hwd]; simp⟩
        have hwd2 : wd ≤ 2 := by have := width_range (r' : Int); omega
        clear hd1 hd2 hwd
        go_wp2_with fail
        refine (HSh.out _ (HL.out.2.2.2.2.1 _ H1.out.1.d)).mono ?_
        rintro e w2 ⟨rfl, hb⟩
        have H1b : Hid (WlM w lo g n cap o m L st p line G (q + z') w2) := H1.out.1.below hb
        clear hb
        go_wp2_with (refine wpList_store_row rfl 211 (.tmp 10) (.tmp 25) rfl w2.heap.size (duoA d1 d2) rfl rfl 211 _ (Bk.new w2 _ 211) duo_size rfl (by simp [Value.oneCell']) ?_)
        /- INNER -/
        rw [World.setRow_alloc_new]
        obtain ⟨bx, hbx⟩ : ∃ b, b = w2.heap.size := ⟨_, rfl⟩
        have H3 : Hid (WlM w lo g n cap o m L st p line (G ++ (glR r').take 0) (q + z') (w2.alloc (.cells (duoA d1 d2) 211)) ∧ Bk (w2.alloc (.cells (duoA d1 d2) 211)) bx (duoA d1 d2) 211) := by
          rw [List.take_zero, List.append_nil, hbx]
          exact ⟨H1b.out.below ((Below.refl _ _).alloc (Nat.le_refl _) _), Bk.new _ _ _⟩
        have HNb : Hid (g ≠ bx ∧ g ≠ w.heap.size) := by
          have h1 := HL.out.2.2.2.2.2.2
          have h2 := H1b.out.d.size
          constructor <;> omega
        rw [← hbx]
        clear hbx H1b
        generalize w2.alloc (.cells (duoA d1 d2) 211) = w3 at *
        go_loopw [1, 28] (fun va vi wr => ∃ j : Nat, vi = .int .i64 (j : Nat) ∧ j ≤ wd ∧ va = .int .i64 (at1 + (j : Int)) ∧ Hid (WlM w lo g n cap o m L st p line (G ++ (glR r').take j) (q + z') wr ∧ Bk wr bx (duoA d1 d2) 211)) (fun _ vi _ => wd - (intOf vi).toNat)
        case atStart => exact ⟨0, rfl, Nat.zero_le _, by simp, H3⟩
        case round =>
          obtain ⟨j, rfl, hj, rfl, HJ⟩ := hrel
          clear H3
          by_cases hlt : j < wd
          · have hji : (j : Int) < (wd : Int) := by omega
            have hjl : j < (glR r').length := by rw [HD.out.2.2]; exact hlt
            obtain ⟨l, hl'⟩ : ∃ l, l = (glR r')[j] := ⟨_, rfl⟩
            have htk : (glR r').take (j + 1) = (glR r').take j ++ [l] := by rw [List.take_add_one, List.getElem?_eq_getElem hjl, hl']; rfl
            have hGl : ((G ++ (glR r').take j).length : Int) = (G.length : Int) + j := by rw [List.length_append, List.length_take, Nat.min_eq_left (by omega)]; omega
            by_cases hin : 0 ≤ at1 + (j : Int) ∧ at1 + (j : Int) < m
            · obtain ⟨kk, hkk⟩ : ∃ kk : Nat, at1 + (j : Int) = (kk : Int) := ⟨(at1 + (j : Int)).toNat, by omega⟩
              have hkm : kk < m := by omega
              have hLn := HL.out.1
              obtain ⟨z, hz⟩ : ∃ z, z = L[o + kk]'(by omega) := ⟨_, rfl⟩
              have c1 : o + kk < (updR L o m (wlF (G ++ (glR r').take j) st o p)).length := by rw [updR_len]; omega
              have c2 : (updR L o m (wlF (G ++ (glR r').take j) st o p))[o + kk] = z := by rw [hz]; exact upd_own L o m _ (o + kk) (by omega) (wl_none (.inr (by omega)))
              have HZ2 : Hid (∃ h : o + kk < (updR L o m (wlF (G ++ (glR r').take j) st o p)).length, (updR L o m (wlF (G ++ (glR r').take j) st o p))[o + kk] = z) := ⟨c1, c2⟩
              obtain ⟨dj, hdj⟩ : ∃ dj, dj = shpN r' j := ⟨_, rfl⟩
              obtain ⟨y, hy⟩ : ∃ y, y = wrtC z dj st := ⟨_, rfl⟩
              have HY : Hid (updR L o m (wlF (G ++ (glR r').take (j + 1)) st o p) = (updR L o m (wlF (G ++ (glR r').take j) st o p)).set (o + kk) y) := by
                have := wl_in (L := L) (G := G ++ (glR r').take j) (l := l) (s := st) (o := o) (m := m) (j := kk) (p := p) (by omega) hkm (by omega)
                unfold Hid
                rw [htk, ← List.append_assoc, ← this, ← hz, hy, hdj, shp_gl hjl, hl']
              have hzb : z.b.ok := by rw [hz]; exact (HL.out.2.2.2.1 _ (List.getElem_mem _)).2
              have HC : Hid (∀ W, Calls Tryz.prog 132 #[(Value.agg #[.int .i32 z.r, .int .u8 z.c.r, .int .u8 z.c.g, .int .u8 z.c.b, .int .u8 z.c.a, .int .u8 z.b.r, .int .u8 z.b.g, .int .u8 z.b.b, .int .u8 z.b.a, .bool z.wd, .bool z.tl]), (Value.agg #[.int .i32 dj.r, .int .u8 dj.c.r, .int .u8 dj.c.g, .int .u8 dj.c.b, .int .u8 dj.c.a, .int .u8 dj.b.r, .int .u8 dj.b.g, .int .u8 dj.b.b, .int .u8 dj.b.a, .bool dj.wd, .bool dj.tl]), (Value.agg #[.int .u8 st.k, .int .i64 st.r.x, .int .i64 st.r.y, .int .i64 st.r.w, .int .i64 st.r.h, .int .u8 st.c.r, .int .u8 st.c.g, .int .u8 st.c.b, .int .u8 st.c.a, .int .u8 st.b.r, .int .u8 st.b.g, .int .u8 st.b.b, .int .u8 st.b.a, .string st.t, .int .i64 st.n])] W fun e w' => e = .returned (Value.agg #[.int .i32 y.r, .int .u8 y.c.r, .int .u8 y.c.g, .int .u8 y.c.b, .int .u8 y.c.a, .int .u8 y.b.r, .int .u8 y.b.g, .int .u8 y.b.b, .int .u8 y.b.a, .bool y.wd, .bool y.tl]) ∧ Below W.heap.size W w') := fun W => by rw [hy]; exact written_any z dj st W hzb HL.out.2.2.1
              have hat' := HJ.out.1.s.look (o + kk) c1 (B + kk * 11) (by have := HL.out.2.1; omega)
              rw [c2] at hat'
              obtain ⟨e0, e1, e2, e3, e4, e5, e6, e7, e8, e9, e10⟩ := hat'
              have sc := HJ.out.1.k.cell
              have y0 : wr.cell? ⟨w.heap.size, 0, none⟩ = some (.int .u8 st.k) := by rw [sc]; rfl
              have y1 : wr.cell? ⟨w.heap.size, 1, none⟩ = some (.int .i64 st.r.x) := by rw [sc]; rfl
              have y2 : wr.cell? ⟨w.heap.size, 2, none⟩ = some (.int .i64 st.r.y) := by rw [sc]; rfl
              have y3 : wr.cell? ⟨w.heap.size, 3, none⟩ = some (.int .i64 st.r.w) := by rw [sc]; rfl
              have y4 : wr.cell? ⟨w.heap.size, 4, none⟩ = some (.int .i64 st.r.h) := by rw [sc]; rfl
              have y5 : wr.cell? ⟨w.heap.size, 5, none⟩ = some (.int .u8 st.c.r) := by rw [sc]; rfl
              have y6 : wr.cell? ⟨w.heap.size, 6, none⟩ = some (.int .u8 st.c.g) := by rw [sc]; rfl
              have y7 : wr.cell? ⟨w.heap.size, 7, none⟩ = some (.int .u8 st.c.b) := by rw [sc]; rfl
              have y8 : wr.cell? ⟨w.heap.size, 8, none⟩ = some (.int .u8 st.c.a) := by rw [sc]; rfl
              have y9 : wr.cell? ⟨w.heap.size, 9, none⟩ = some (.int .u8 st.b.r) := by rw [sc]; rfl
              have y10 : wr.cell? ⟨w.heap.size, 10, none⟩ = some (.int .u8 st.b.g) := by rw [sc]; rfl
              have y11 : wr.cell? ⟨w.heap.size, 11, none⟩ = some (.int .u8 st.b.b) := by rw [sc]; rfl
              have y12 : wr.cell? ⟨w.heap.size, 12, none⟩ = some (.int .u8 st.b.a) := by rw [sc]; rfl
              have y13 : wr.cell? ⟨w.heap.size, 13, none⟩ = some (.string st.t) := by rw [sc]; rfl
              have y14 : wr.cell? ⟨w.heap.size, 14, none⟩ = some (.int .i64 st.n) := by rw [sc]; rfl
              have bl := HJ.out.2.lt
              have gl := HJ.out.1.s.lt.2
              have kl := HJ.out.1.k.lt
              have H4 : Hid (∀ w4, Below wr.heap.size wr w4 → (WlM w lo g n cap o m L st p line (G ++ (glR r').take j) (q + z') w4 ∧ Bk w4 bx (duoA d1 d2) 211) ∧ CeAt w4 g (B + kk * 11) z ∧ ∀ i, w4.frozen? ⟨g, i, none⟩ = false) := fun w4 hb => by
                obtain ⟨d1', d2'⟩ := HZ2.out
                have m1 := HJ.out.1.below hb
                have a := m1.s.look (o + kk) d1' (B + kk * 11) (by have := HL.out.2.1; omega)
                rw [d2'] at a
                exact ⟨⟨m1, HJ.out.2.below hb⟩, a, m1.s.frozen⟩
              have HN : Hid (∀ w4 W, (WlM w lo g n cap o m L st p line (G ++ (glR r').take j) (q + z') w4 ∧ Bk w4 bx (duoA d1 d2) 211) → W = (((((((((((w4).setCell ⟨g, B + kk * 11, none⟩ (.int .i32 y.r)).setCell ⟨g, B + kk * 11 + 1, none⟩ (.int .u8 y.c.r)).setCell ⟨g, B + kk * 11 + 2, none⟩ (.int .u8 y.c.g)).setCell ⟨g, B + kk * 11 + 3, none⟩ (.int .u8 y.c.b)).setCell ⟨g, B + kk * 11 + 4, none⟩ (.int .u8 y.c.a)).setCell ⟨g, B + kk * 11 + 5, none⟩ (.int .u8 y.b.r)).setCell ⟨g, B + kk * 11 + 6, none⟩ (.int .u8 y.b.g)).setCell ⟨g, B + kk * 11 + 7, none⟩ (.int .u8 y.b.b)).setCell ⟨g, B + kk * 11 + 8, none⟩ (.int .u8 y.b.a)).setCell ⟨g, B + kk * 11 + 9, none⟩ (.bool y.wd)).setCell ⟨g, B + kk * 11 + 10, none⟩ (.bool y.tl) → WlM w lo g n cap o m L st p line (G ++ (glR r').take (j + 1)) (q + z') W ∧ Bk W bx (duoA d1 d2) 211) := fun w4 W hM hW => by
                obtain ⟨d1', d2'⟩ := HZ2.out
                have s1 := hM.1.s.put (o + kk) d1' (B + kk * 11) (by have := HL.out.2.1; omega) y
                rw [← HY.out, ← hW] at s1
                have gr : w4.grownBy W (some g) := by rw [hW]; exact ob_putC _ _ _ _
                have il := (Array.getElem?_eq_some_iff.1 hM.1.i).1
                have gi : g ≠ w.heap.size + 1 := by have := HL.out.2.2.2.2.2.2; omega
                exact ⟨⟨(gr.block _ il (fun e => by injection e with e; exact gi e.symm)).trans hM.1.i, (gr.block _ hM.1.k.lt (fun e => by injection e with e; exact HNb.out.2 e.symm)).trans hM.1.k, s1, ob_transC hM.1.d gr⟩, (gr.block _ hM.2.lt (fun e => by injection e with e; exact HNb.out.1 e.symm)).trans hM.2⟩
              have HJb : Hid (Bk wr bx (duoA d1 d2) 211) := HJ.out.2
              have HDj : Hid (dj = shpN r' j) := hdj
              have ik : (kk : Int) < (m : Int) := by omega
              have hat0 : at1 < (m : Int) := hat
              clear hl' htk hGl c1 c2 hz hy hzb sc HY HZ2 hjl hdj hLn hat
              rcases (show j = 0 ∨ j = 1 by omega) with rfl | rfl
              · have hdd : d1 = dj := by rw [HDj.out]; exact HD.out.1
                subst hdd
                have x0 : wr.cell? ⟨bx, 0, none⟩ = some (.int .i32 d1.r) := by rw [HJb.out.cell]; rfl
                have x1 : wr.cell? ⟨bx, 1, none⟩ = some (.int .u8 d1.c.r) := by rw [HJb.out.cell]; rfl
                have x2 : wr.cell? ⟨bx, 2, none⟩ = some (.int .u8 d1.c.g) := by rw [HJb.out.cell]; rfl
                have x3 : wr.cell? ⟨bx, 3, none⟩ = some (.int .u8 d1.c.b) := by rw [HJb.out.cell]; rfl
                have x4 : wr.cell? ⟨bx, 4, none⟩ = some (.int .u8 d1.c.a) := by rw [HJb.out.cell]; rfl
                have x5 : wr.cell? ⟨bx, 5, none⟩ = some (.int .u8 d1.b.r) := by rw [HJb.out.cell]; rfl
                have x6 : wr.cell? ⟨bx, 6, none⟩ = some (.int .u8 d1.b.g) := by rw [HJb.out.cell]; rfl
                have x7 : wr.cell? ⟨bx, 7, none⟩ = some (.int .u8 d1.b.b) := by rw [HJb.out.cell]; rfl
                have x8 : wr.cell? ⟨bx, 8, none⟩ = some (.int .u8 d1.b.a) := by rw [HJb.out.cell]; rfl
                have x9 : wr.cell? ⟨bx, 9, none⟩ = some (.bool d1.wd) := by rw [HJb.out.cell]; rfl
                have x10 : wr.cell? ⟨bx, 10, none⟩ = some (.bool d1.tl) := by rw [HJb.out.cell]; rfl
                clear HJb HDj
                have hk0 : at1 = (kk : Int) := by simpa using hkk
                subst hk0
                clear hkk
                go_wp2_with fail
                go_region_with (go_at_call 132; refine (HC.out _).mono ?_; rintro e w4 ⟨rfl, hb4⟩; obtain ⟨hM4, ⟨t0, t1, t2, t3, t4, t5, t6, t7, t8, t9, t10⟩, ff⟩ := H4.out w4 (((Below.refl wr.heap.size wr).drew).trans hb4); have HM4 : Hid (WlM w lo g n cap o m L st p line (G ++ (glR r').take 0) (q + z') w4 ∧ Bk w4 bx (duoA d1 d2) 211) := hM4; have f0 := ff (B + kk * 11); have f1 := ff (B + kk * 11 + 1); have f2 := ff (B + kk * 11 + 2); have f3 := ff (B + kk * 11 + 3); have f4 := ff (B + kk * 11 + 4); have f5 := ff (B + kk * 11 + 5); have f6 := ff (B + kk * 11 + 6); have f7 := ff (B + kk * 11 + 7); have f8 := ff (B + kk * 11 + 8); have f9 := ff (B + kk * 11 + 9); have f10 := ff (B + kk * 11 + 10); clear hM4 hb4 ff)
                all_goals
                  have HX : Hid (∀ W, W = (((((((((((w4).setCell ⟨g, B + kk * 11, none⟩ (.int .i32 y.r)).setCell ⟨g, B + kk * 11 + 1, none⟩ (.int .u8 y.c.r)).setCell ⟨g, B + kk * 11 + 2, none⟩ (.int .u8 y.c.g)).setCell ⟨g, B + kk * 11 + 3, none⟩ (.int .u8 y.c.b)).setCell ⟨g, B + kk * 11 + 4, none⟩ (.int .u8 y.c.a)).setCell ⟨g, B + kk * 11 + 5, none⟩ (.int .u8 y.b.r)).setCell ⟨g, B + kk * 11 + 6, none⟩ (.int .u8 y.b.g)).setCell ⟨g, B + kk * 11 + 7, none⟩ (.int .u8 y.b.b)).setCell ⟨g, B + kk * 11 + 8, none⟩ (.int .u8 y.b.a)).setCell ⟨g, B + kk * 11 + 9, none⟩ (.bool y.wd)).setCell ⟨g, B + kk * 11 + 10, none⟩ (.bool y.tl) → WlM w lo g n cap o m L st p line (G ++ (glR r').take (0 + 1)) (q + z') W ∧ Bk W bx (duoA d1 d2) 211) := fun W hW => HN.out w4 W HM4.out hW
                  clear HM4 HN H4 HC HJ
                  go_wp2
                  go_roundw
                  case rel =>
                    first
                      | exact ⟨0 + 1, by go_num, by omega, by first | rfl | (congr 1; omega), HX.out _ rfl⟩
                      | ((repeat apply Exists.intro); exact ⟨⟨0 + 1, by go_num, by omega, by first | rfl | (congr 1; omega), HX.out _ rfl⟩, rfl⟩)
                  case measure => simp [intOf]; omega
              · have hdd : d2 = dj := by rw [HDj.out]; exact HD.out.2.1
                subst hdd
                have x0 : wr.cell? ⟨bx, 11, none⟩ = some (.int .i32 d2.r) := by rw [HJb.out.cell]; rfl
                have x1 : wr.cell? ⟨bx, 12, none⟩ = some (.int .u8 d2.c.r) := by rw [HJb.out.cell]; rfl
                have x2 : wr.cell? ⟨bx, 13, none⟩ = some (.int .u8 d2.c.g) := by rw [HJb.out.cell]; rfl
                have x3 : wr.cell? ⟨bx, 14, none⟩ = some (.int .u8 d2.c.b) := by rw [HJb.out.cell]; rfl
                have x4 : wr.cell? ⟨bx, 15, none⟩ = some (.int .u8 d2.c.a) := by rw [HJb.out.cell]; rfl
                have x5 : wr.cell? ⟨bx, 16, none⟩ = some (.int .u8 d2.b.r) := by rw [HJb.out.cell]; rfl
                have x6 : wr.cell? ⟨bx, 17, none⟩ = some (.int .u8 d2.b.g) := by rw [HJb.out.cell]; rfl
                have x7 : wr.cell? ⟨bx, 18, none⟩ = some (.int .u8 d2.b.b) := by rw [HJb.out.cell]; rfl
                have x8 : wr.cell? ⟨bx, 19, none⟩ = some (.int .u8 d2.b.a) := by rw [HJb.out.cell]; rfl
                have x9 : wr.cell? ⟨bx, 20, none⟩ = some (.bool d2.wd) := by rw [HJb.out.cell]; rfl
                have x10 : wr.cell? ⟨bx, 21, none⟩ = some (.bool d2.tl) := by rw [HJb.out.cell]; rfl
                clear HJb HDj
                have hk1 : at1 + 1 = (kk : Int) := by simpa using hkk
                clear hkk
                go_wp2_with fail
                go_region_with (go_at_call 132; refine (HC.out _).mono ?_; rintro e w4 ⟨rfl, hb4⟩; obtain ⟨hM4, ⟨t0, t1, t2, t3, t4, t5, t6, t7, t8, t9, t10⟩, ff⟩ := H4.out w4 (((Below.refl wr.heap.size wr).drew).trans hb4); have HM4 : Hid (WlM w lo g n cap o m L st p line (G ++ (glR r').take 1) (q + z') w4 ∧ Bk w4 bx (duoA d1 d2) 211) := hM4; have f0 := ff (B + kk * 11); have f1 := ff (B + kk * 11 + 1); have f2 := ff (B + kk * 11 + 2); have f3 := ff (B + kk * 11 + 3); have f4 := ff (B + kk * 11 + 4); have f5 := ff (B + kk * 11 + 5); have f6 := ff (B + kk * 11 + 6); have f7 := ff (B + kk * 11 + 7); have f8 := ff (B + kk * 11 + 8); have f9 := ff (B + kk * 11 + 9); have f10 := ff (B + kk * 11 + 10); clear hM4 hb4 ff)
                all_goals
                  have HX : Hid (∀ W, W = (((((((((((w4).setCell ⟨g, B + kk * 11, none⟩ (.int .i32 y.r)).setCell ⟨g, B + kk * 11 + 1, none⟩ (.int .u8 y.c.r)).setCell ⟨g, B + kk * 11 + 2, none⟩ (.int .u8 y.c.g)).setCell ⟨g, B + kk * 11 + 3, none⟩ (.int .u8 y.c.b)).setCell ⟨g, B + kk * 11 + 4, none⟩ (.int .u8 y.c.a)).setCell ⟨g, B + kk * 11 + 5, none⟩ (.int .u8 y.b.r)).setCell ⟨g, B + kk * 11 + 6, none⟩ (.int .u8 y.b.g)).setCell ⟨g, B + kk * 11 + 7, none⟩ (.int .u8 y.b.b)).setCell ⟨g, B + kk * 11 + 8, none⟩ (.int .u8 y.b.a)).setCell ⟨g, B + kk * 11 + 9, none⟩ (.bool y.wd)).setCell ⟨g, B + kk * 11 + 10, none⟩ (.bool y.tl) → WlM w lo g n cap o m L st p line (G ++ (glR r').take (1 + 1)) (q + z') W ∧ Bk W bx (duoA d1 d2) 211) := fun W hW => HN.out w4 W HM4.out hW
                  clear HM4 HN H4 HC HJ
                  go_wp2
                  go_roundw
                  case rel =>
                    first
                      | exact ⟨1 + 1, by go_num, by omega, by first | rfl | (congr 1; omega), HX.out _ rfl⟩
                      | ((repeat apply Exists.intro); exact ⟨⟨1 + 1, by go_num, by omega, by first | rfl | (congr 1; omega), HX.out _ rfl⟩, rfl⟩)
                  case measure => simp [intOf]; omega
            · have HX : Hid (WlM w lo g n cap o m L st p line (G ++ (glR r').take (j + 1)) (q + z') wr ∧ Bk wr bx (duoA d1 d2) 211) := by
                have e := wl_out (L := L) (G := G ++ (glR r').take j) (l := l) (s := st) (o := o) (m := m) (p := p) (by omega)
                have m1 := HJ.out.1
                refine ⟨⟨m1.i, m1.k, ?_, m1.d⟩, HJ.out.2⟩
                rw [htk, ← List.append_assoc, e]
                exact m1.s
              have hat0 : at1 < (m : Int) := hat
              clear hl' htk hGl hjl HJ hat
              by_cases h0 : 0 ≤ at1 + (j : Int)
              · have h1 : ¬ at1 + (j : Int) < m := fun h => hin ⟨h0, h⟩
                clear hin
                go_wp2
                go_roundw
                case rel => exact ⟨j + 1, by go_num, by omega, by congr 1; omega, HX⟩
                case measure => simp [intOf]; omega
              · clear hin
                go_wp2
                go_roundw
                case rel => exact ⟨j + 1, by go_num, by omega, by congr 1; omega, HX⟩
                case measure => simp [intOf]; omega
          · obtain rfl : wd = j := by omega
            obtain ⟨f', hf'⟩ : ∃ f', f = f' + 1 := ⟨f - 1, by omega⟩
            have HX : Hid (WlM w lo g n cap o m L st p line (G ++ glR r') (q + z') wr ∧ lnG line = (G ++ glR r') ++ lnF line (f' + 1) (q + z')) := by
              have e : (glR r').take wd = glR r' := List.take_of_length_le (by rw [HD.out.2.2]; exact Nat.le_refl _)
              have := HJ.out.1
              rw [e] at this
              exact ⟨this, by rw [← hf']; exact H1.out.2.2⟩
            have hGl : ((G ++ glR r').length : Int) = (G.length : Int) + wd := by rw [List.length_append, HD.out.2.2]; omega
            clear HJ
            go_wp2
            go_roundw
            case rel => exact ⟨G ++ glR r', q + z', f', by congr 1; omega, by omega, HX.out.2, by omega, HX.out.1⟩
            case measure => rw [H1.out.2.1, iPos_of HX.out.1.i]; omega
    · have hnx := Lib.run_next_end_at (P := Tryz.prog) wr (w.heap.size + 1) line q 0 hit hq
      have HF : Hid (ScM lo wr g n cap (updR L o m (wlF (lnG line) st o p)) ∧ w.grownBy wr (some g)) := ⟨by rw [hG2, lnF_end hq, List.append_nil]; exact HR.out.s, HR.out.d⟩
      clear HR hit hG2
      go_wp2
      go_end0
      exact ⟨rfl, HF.out⟩

end Go.Proofs.YtapachlhdgehjaaGreatDoor
