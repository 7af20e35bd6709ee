/-
  Package grid: together, tracks, sides.
-/
import Derived.Test.YthnhcphkpffkfaaGreatYW
import Derived.Test.YthnhcphkpffkfaaGreatYH
namespace Go.Proofs.YthnhcphkpffkfaaGreat
open Go.RowKit
attribute [local go_sem] ite_maxK ite_minK

set_option maxRecDepth 10000 in
set_option maxHeartbeats 4000000 in
theorem gsum_any (l : List Int) (gap : Int) (v : Value) (w : World) (hv : IS w v l) (hn : l.length ≤ 1024) (hx : ∀ x ∈ l, 0 ≤ x ∧ x ≤ 16384) (hg : 0 ≤ gap ∧ gap ≤ 16384) :
    Calls Tryz.prog 26 #[v, .int .i64 gap] w fun e w' => e = .returned (.int .i64 (neS l l.length gap)) ∧ w' = w := by
  obtain ⟨oa, cap, rfl, hc, hgg⟩ := hv
  have HG : Hid (0 < l.length → ∃ g o, oa = some ⟨g, o, none⟩ ∧ g < w.heap.size ∧ ∀ i (h : i < l.length), w.cell? ⟨g, o + i, none⟩ = some (.int .i64 l[i])) := hgg
  have HX : Hid (∀ x ∈ l, 0 ≤ x ∧ x ≤ 16384) := hx
  clear hgg hx
  have h1 : 0 ≤ gap * max ((l.length : Int) - 1) 0 := Int.mul_nonneg hg.1 (by omega)
  have h2 : gap * max ((l.length : Int) - 1) 0 ≤ 16384 * 1024 := Int.mul_le_mul hg.2 (by omega) (by omega) (by omega)
  have HNs : Hid (∀ x, x = gap * max ((l.length : Int) - 1) 0 + smL l → neS l l.length gap = x) := fun x hx => by rw [hx, Int.mul_comm]; rfl
  have hw1 : IntKind.i64.wrap ((l.length : Int) - 1) = (l.length : Int) - 1 := by rw [IntKind.wrap_i64]; omega
  have hw2 : IntKind.i64.wrap (gap * max ((l.length : Int) - 1) 0) = gap * max ((l.length : Int) - 1) 0 := by rw [IntKind.wrap_i64]; omega
  go_enter Tryz.func26, Tryz.ntmps26
  go_wp2_with fail
  generalize gap * max ((l.length : Int) - 1) 0 = G at *
  go_loopw [5, 7, 16] (fun s _ i wr => ∃ (j : Nat) (x : Int), j ≤ l.length ∧ i = .int .i64 j ∧ s = .int .i64 x ∧ wr = w ∧ Hid (x = G + smL (l.take j))) (fun _ _ i _ => l.length - (intOf i).toNat)
  case atStart => exact ⟨0, G, Nat.zero_le _, rfl, rfl, rfl, by unfold Hid; simp [smL]⟩
  case round =>
    obtain ⟨j, x, hj, rfl, rfl, rfl, HK⟩ := hrel
    by_cases hlt : j < l.length
    · have ik : (j : Int) < l.length := by omega
      obtain ⟨g, o, rfl, hgl, hat⟩ := HG.out (by omega)
      have x0 := hat j hlt
      have hxb := HX.out l[j] (List.getElem_mem hlt)
      have hsb := smL_bd (l := l.take j) (M := 16384) fun y hy => HX.out y (List.mem_of_mem_take hy)
      have hx1 : 0 ≤ x ∧ x ≤ 33554432 := by
        rw [HK.out]
        have : ((l.take j).length : Int) ≤ 1024 := by simp; omega
        omega
      have HN : Hid (x + l[j] = G + smL (l.take (j + 1))) := by unfold Hid; rw [smL_take hlt, HK.out]; omega
      clear HK hat hsb
      generalize l[j] = y at *
      have hw3 : IntKind.i64.wrap (x + y) = x + y := by rw [IntKind.wrap_i64]; omega
      go_wp2
      exact ⟨⟨j + 1, x + y, by omega, by go_num, rfl, trivial, HN.out⟩, by simp [intOf]; omega⟩
    · obtain rfl : j = l.length := by omega
      have HF : Hid (neS l l.length gap = x) := HNs.out x (by have := HK.out; rwa [List.take_length] at this)
      clear HK HNs
      go_wp2
      go_ret
      exact ⟨by rw [HF.out]; rfl, rfl⟩

/-- The first k tracks of a block. -/
def OkT (f : Nat → Tk) (n k : Nat) (arr : Array Value) : Prop := arr.size = n * 3 ∧ ∀ i, i < k → arr[i * 3]? = some (.int .i64 (f i).mn) ∧ arr[i * 3 + 1]? = some (.int .i64 (f i).mx) ∧ arr[i * 3 + 2]? = some (.int .i64 (f i).gr)
theorem okT_step {f : Nat → Tk} {n k : Nat} {arr : Array Value} (h : OkT f n k arr) (hk : k < n) : OkT f n (k + 1) (((arr.setIfInBounds (k * 3) (.int .i64 (f k).mn)).setIfInBounds (k * 3 + 1) (.int .i64 (f k).mx)).setIfInBounds (k * 3 + 2) (.int .i64 (f k).gr)) := by
  obtain ⟨h1, h2⟩ := h
  refine ⟨by simpa using h1, fun i hi => ?_⟩
  by_cases e : i = k
  · subst e
    simp only [Array.getElem?_setIfInBounds, Array.size_setIfInBounds, h1]
    refine ⟨?_, ?_, ?_⟩
    · rw [if_neg (by omega), if_neg (by omega), if_pos trivial, if_pos (by omega)]
    · rw [if_neg (by omega), if_pos trivial, if_pos (by omega)]
    · rw [if_pos trivial, if_pos (by omega)]
  · obtain ⟨a, b, c⟩ := h2 i (by omega)
    simp only [Array.getElem?_setIfInBounds, Array.size_setIfInBounds, h1]
    refine ⟨?_, ?_, ?_⟩
    · rw [if_neg (by omega), if_neg (by omega), if_neg (by omega)]; exact a
    · rw [if_neg (by omega), if_neg (by omega), if_neg (by omega)]; exact b
    · rw [if_neg (by omega), if_neg (by omega), if_neg (by omega)]; exact c
theorem make_tracks (n : Nat) (hn : n < 1000000) (W : World) : ∃ arr : Array Value, arr.size = n * 3 ∧ (Instr.makeSlice 64 (.int .i64 (n : Nat)) (.int .i64 (n : Nat))).run Tryz.prog W = .ok (.slice (some ⟨W.heap.size, 0, none⟩) n n) (W.alloc (.cells arr 96)) := by
  obtain ⟨i0, hi, hz0, hz1, hz2⟩ := info_parts info_trackY
  have h := run_make (P := Tryz.prog) W 64 96 i0 (.agg #[.int .i64 0, .int .i64 0, .int .i64 0]) Tryz.underlying64 hi hz0 .i64 .i64 (n : Int) (n : Int) (by omega) (Int.le_refl _) (by rw [hz2]; omega) (by omega)
  simp only [Int.toNat_natCast, hz1] at h
  exact ⟨_, size_madeCells _ _, h⟩

set_option maxRecDepth 10000 in
set_option maxHeartbeats 4000000 in
theorem tracks_any (l : List Int) (v : Value) (w : World) (hv : IS w v l) (hn : l.length ≤ 1024) :
    Calls Tryz.prog 29 #[v] w fun e w' => ∃ b, e = .returned (.slice (some ⟨b, 0, none⟩) l.length l.length) ∧ Hid (TS w' (.slice (some ⟨b, 0, none⟩) l.length l.length) (l.map trk) ∧ Below w.heap.size w w') := by
  obtain ⟨oa, cap, rfl, hc, hgg⟩ := hv
  have HG : Hid (0 < l.length → ∃ g o, oa = some ⟨g, o, none⟩ ∧ g < w.heap.size ∧ ∀ i (h : i < l.length), w.cell? ⟨g, o + i, none⟩ = some (.int .i64 l[i])) := hgg
  clear hgg
  obtain ⟨arr, ha, hmk⟩ := make_tracks l.length (by omega) w
  have H0 : Hid (Bk (w.alloc (.cells arr 96)) w.heap.size arr 96 ∧ OkT (fun i => trk (l.getD i 0)) l.length 0 arr ∧ Below w.heap.size w (w.alloc (.cells arr 96))) := ⟨Bk.new _ _ _, ⟨ha, fun i hi => absurd hi (Nat.not_lt_zero i)⟩, (Below.refl _ _).alloc (Nat.le_refl _) _⟩
  clear ha
  go_enter Tryz.func29, Tryz.ntmps29
  go_wp2_with fail
  generalize w.alloc (.cells arr 96) = W0 at *
  obtain ⟨b, Hb⟩ : ∃ b, Hid (b = w.heap.size) := ⟨w.heap.size, by unfold Hid; rfl⟩
  rw [← Hb.out]
  have H1 : Hid (Bk W0 b arr 96 ∧ OkT (fun i => trk (l.getD i 0)) l.length 0 arr ∧ Below w.heap.size w W0) := by rw [Hb.out]; exact H0.out
  clear H0 hmk
  go_loopw [4, 5, 11] (fun _ _ i wr => ∃ k : Nat, k ≤ l.length ∧ i = .int .i64 k ∧ Hid (∃ cs, Bk wr b cs 96 ∧ OkT (fun i => trk (l.getD i 0)) l.length k cs ∧ Below w.heap.size w wr)) (fun _ _ i _ => l.length - (intOf i).toNat)
  case atStart => exact ⟨0, Nat.zero_le _, rfl, arr, H1.out⟩
  case round =>
    obtain ⟨k, hk, rfl, HK⟩ := hrel
    clear H1
    by_cases hlt : k < l.length
    · have ik : (k : Int) < l.length := by omega
      obtain ⟨g, o, rfl, hgl, hat⟩ := HG.out (by omega)
      obtain ⟨cs, a1, a2, a3⟩ := HK.out
      have x0 := (a3.cell (p := ⟨g, o + k, none⟩) hgl).trans (hat k hlt)
      have hgd : l.getD k 0 = l[k] := by rw [List.getD_eq_getElem?_getD, List.getElem?_eq_getElem hlt]; rfl
      obtain ⟨z0, c0⟩ : ∃ z, wr.cell? ⟨b, k * 3, none⟩ = some z := ⟨cs[k * 3]'(by rw [a2.1]; omega), by rw [a1.cell]; simp⟩
      obtain ⟨z1, c1⟩ : ∃ z, wr.cell? ⟨b, k * 3 + 1, none⟩ = some z := ⟨cs[k * 3 + 1]'(by rw [a2.1]; omega), by rw [a1.cell]; simp⟩
      obtain ⟨z2, c2⟩ : ∃ z, wr.cell? ⟨b, k * 3 + 2, none⟩ = some z := ⟨cs[k * 3 + 2]'(by rw [a2.1]; omega), by rw [a1.cell]; simp⟩
      have f0 := a1.frozen (k * 3)
      have f1 := a1.frozen (k * 3 + 1)
      have f2 := a1.frozen (k * 3 + 2)
      have HN : Hid (∃ cs, Bk (((wr.setCell ⟨b, k * 3, none⟩ (.int .i64 l[k])).setCell ⟨b, k * 3 + 1, none⟩ (.int .i64 0)).setCell ⟨b, k * 3 + 2, none⟩ (.int .i64 1)) b cs 96 ∧ OkT (fun i => trk (l.getD i 0)) l.length (k + 1) cs ∧ Below w.heap.size w (((wr.setCell ⟨b, k * 3, none⟩ (.int .i64 l[k])).setCell ⟨b, k * 3 + 1, none⟩ (.int .i64 0)).setCell ⟨b, k * 3 + 2, none⟩ (.int .i64 1))) := by
        have hlo : w.heap.size ≤ b := by rw [Hb.out]; exact Nat.le_refl _
        refine ⟨_, ((a1.put (k * 3) _).put (k * 3 + 1) _).put (k * 3 + 2) _, ?_, ((a3.setCell (p := ⟨b, k * 3, none⟩) hlo _).setCell (p := ⟨b, k * 3 + 1, none⟩) hlo _).setCell (p := ⟨b, k * 3 + 2, none⟩) hlo _⟩
        have := okT_step a2 hlt
        simp only [hgd, trk] at this
        exact this
      clear HK hat a1 a2 a3 hgd
      generalize l[k] = q at *
      go_wp2
      exact ⟨⟨k + 1, by omega, by go_num, HN⟩, by simp [intOf]; omega⟩
    · obtain rfl : k = l.length := by omega
      have HF : Hid (TS wr (.slice (some ⟨b, 0, none⟩) l.length l.length) (l.map trk) ∧ Below w.heap.size w wr) := by
        obtain ⟨cs, a1, a2, a3⟩ := HK.out
        refine ⟨⟨some ⟨b, 0, none⟩, l.length, by rw [List.length_map], by rw [List.length_map]; exact Nat.le_refl _, fun _ => ⟨b, 0, rfl, a1.lt, fun i hi => ?_⟩⟩, a3⟩
        rw [List.length_map] at hi
        obtain ⟨d0, d1, d2⟩ := a2.2 i hi
        have hgd : l.getD i 0 = l[i] := by rw [List.getD_eq_getElem?_getD, List.getElem?_eq_getElem hi]; rfl
        simp only [hgd] at d0 d1 d2
        rw [List.getElem_map, Nat.zero_add]
        exact ⟨by rw [a1.cell]; exact d0, by rw [a1.cell]; exact d1, by rw [a1.cell]; exact d2⟩
      clear HK
      go_wp2
      go_ret
      exact ⟨b, rfl, HF⟩

end Go.Proofs.YthnhcphkpffkfaaGreat

namespace Go.Proofs.YthnhcphkpffkfaaGreat
open Go.RowKit
attribute [local go_sem] ite_maxK ite_minK

def JS1 (w1 : World) (oa : Option Addr) (rl cap pb wg wc' n ud gb : Nat) (z : List Sz) (HL : List Int) (b : Nat → Bool) (u6 u7 u8 u47 u48 u49 u50 u51 u52 u53 : Value) (x : World) : Prop :=
  (b 0 = true → u47 = .slice (some ⟨wg, 0, none⟩) n wc') ∧
  (b 1 = true → u48 = .agg #[.int .i64 (n : Nat), .slice oa rl cap]) ∧
  (b 2 = true → u49 = .int .i64 (ud : Nat)) ∧
  (b 3 = true → b 0 = true ∧ u50 = .slice (some ⟨wg, 0, none⟩) ud wc') ∧
  (b 4 = true → u51 = .agg #[.int .i64 (n : Nat), .slice oa rl cap]) ∧
  (b 5 = true → u52 = .slice (some ⟨gb, 0, none⟩) z.length z.length) ∧
  (b 6 = true → IS x u53 HL) ∧
  (b 7 = true → b 0 = true ∧ u6 = .slice (some ⟨wg, 0, none⟩) ud wc') ∧
  (b 8 = true → b 6 = true ∧ u7 = u53) ∧
  (b 9 = true → u8 = .int .i64 0) ∧
  Bk x pb #[.int .i64 (n : Nat), .slice oa rl cap] 58 ∧
  Below w1.heap.size w1 x ∧
  (b 7 = false → u6 = .slice (some ⟨wg, 0, none⟩) n wc')
theorem JS1.grow {w1 : World} {oa : Option Addr} {rl cap pb wg wc' n ud gb : Nat} {z : List Sz} {HL : List Int} {b : Nat → Bool} {u6 u7 u8 u47 u48 u49 u50 u51 u52 u53 : Value} {x x' : World} (h : JS1 w1 oa rl cap pb wg wc' n ud gb z HL b u6 u7 u8 u47 u48 u49 u50 u51 u52 u53 x) (hb : Below x.heap.size x x') : JS1 w1 oa rl cap pb wg wc' n ud gb z HL b u6 u7 u8 u47 u48 u49 u50 u51 u52 u53 x' := by
  obtain ⟨j0, j1, j2, j3, j4, j5, j6, j7, j8, j9, e0, e1, e2⟩ := h
  exact ⟨j0, j1, j2, j3, j4, j5, (fun h => (j6 h).below hb), j7, j8, j9, e0.below hb, e1.trans (hb.mono e1.size), e2⟩

theorem IS.cut {w : World} {oa : Option Addr} {n cap m : Nat} {xs : List Int} (h : IS w (.slice oa n cap) xs) (hn : xs.length = n) (hm : m ≤ n) : IS w (.slice oa m cap) (xs.take m) := by
  obtain ⟨oa', cap', e, hc, hg⟩ := h
  injection e with e1 _ e3
  subst e1 e3
  have hl : (xs.take m).length = m := by rw [List.length_take]; omega
  refine ⟨oa, cap, by rw [hl], by omega, fun hp => ?_⟩
  obtain ⟨g, o, e1, g1, g2⟩ := hg (by omega)
  exact ⟨g, o, e1, g1, fun i hi => by rw [g2 i (by omega), List.getElem_take]⟩
/-- Numbers while they are copied out of things. -/
def cpK (f : Sz → Int) (z : List Sz) (k : Nat) : List Int := (z.take k).map f ++ List.replicate (z.length - k) 0
theorem copy_next (f : Sz → Int) {z : List Sz} {k : Nat} (h : k < z.length) : (cpK f z k).set k (f z[k]) = cpK f z (k + 1) := by
  unfold cpK
  obtain ⟨m, hm⟩ : ∃ m, z.length - k = m + 1 := ⟨z.length - k - 1, by omega⟩
  have hl : ((z.take k).map f).length = k := by rw [List.length_map, List.length_take]; omega
  rw [List.set_append_right _ _ (by omega), hl, Nat.sub_self, hm, List.replicate_succ, List.set_cons_zero, List.take_succ_eq_append_getElem h, List.map_append, List.append_assoc, show z.length - (k + 1) = m by omega]
  rfl
theorem copy_end (f : Sz → Int) (z : List Sz) : cpK f z z.length = z.map f := by unfold cpK; rw [List.take_length, Nat.sub_self, List.replicate_zero, List.append_nil]
theorem copy_zero (f : Sz → Int) (z : List Sz) : cpK f z 0 = List.replicate z.length 0 := by unfold cpK; simp
theorem copy_len (f : Sz → Int) (z : List Sz) {k : Nat} (h : k ≤ z.length) : (cpK f z k).length = z.length := by
  unfold cpK
  rw [List.length_append, List.length_map, List.length_take, List.length_replicate]
  omega

set_option maxRecDepth 10000 in
set_option maxHeartbeats 8000000 in
theorem sides_any {s : List Int} {z : List Sz} {col gap : Int} (hE : gE1 s z col gap = 0) {lo : Nat} {v zv : Value} {us : List Value} {w : World} (hp : PlM lo w v us (prw (clN col) s)) (hz : KS 2 fZ w zv z) :
    Calls Tryz.prog 25 #[.agg #[.int .i64 (clN col : Nat), v], zv, .int .i64 gap] w fun e w' => ∃ a b, e = .returned (.tuple #[a, b, .int .i64 0]) ∧ Hid (IS w' a ((wsG (clN col) gap (cel (clN col) s) (z.map (·.w))).take (usd (cel (clN col) s))) ∧ IS w' b (hgt (cel (clN col) s) (z.map (·.h))) ∧ Below w.heap.size w w') := by
  obtain ⟨hl1, _, hzb, hcol, hgap, hl, hwi, hhe⟩ := gE1_zero hE
  have hGr := gri_of hwi
  have hn64 := (clN_bd hcol).2
  have h0 := clN_pos col
  have hz1024 : z.length ≤ 1024 := by omega
  have hun : usd (cel (clN col) s) ≤ clN col := usd_le fun c hc => (hGr.cel c hc).1
  have HWi : Hid (∀ tv W, Below w.heap.size w W → IS W tv (z.map (·.w)) → Calls Tryz.prog 51 #[.agg #[.int .i64 (clN col : Nat), v], tv, .int .i64 gap] W fun e w' => ∃ u, e = .returned (.tuple #[u, .int .i64 0]) ∧ Hid (OwI W.heap.size w' u (wsG (clN col) gap (cel (clN col) s) (z.map (·.w))) ∧ Below W.heap.size W w')) := fun tv W hb ht => widths_any hwi (hp.below hb) ht
  have HHe : Hid (∀ tv W, Below w.heap.size w W → IS W tv (z.map (·.h)) → Calls Tryz.prog 52 #[.agg #[.int .i64 (clN col : Nat), v], tv] W fun e w' => ∃ u, e = .returned u ∧ Hid (OwI W.heap.size w' u (hgt (cel (clN col) s) (z.map (·.h))) ∧ Below W.heap.size W w')) := fun tv W hb ht => heights_any h0 hl1 (by rw [List.length_map]; omega) (fun m hm => by obtain ⟨q, hq, rfl⟩ := List.mem_map.1 hm; exact (hzb q hq).2) (hp.below hb) ht
  have HUs : Hid (∀ W, Below w.heap.size w W → Calls Tryz.prog 58 #[.agg #[.int .i64 (clN col : Nat), v]] W fun e w' => e = .returned (.int .i64 (usd (cel (clN col) s) : Nat)) ∧ Below W.heap.size W w') := fun W hb => used_any h0 hl1 (hp.below hb)
  generalize clN col = n at *
  generalize hwl : wsG n gap (cel n s) (z.map (·.w)) = WL at *
  generalize hhl : hgt (cel n s) (z.map (·.h)) = HL at *
  generalize usd (cel n s) = ud at *
  have HWl : Hid (WL.length = n) := by unfold Hid; rw [← hwl, wsG_len]
  obtain ⟨oa, cap, e1, _, _⟩ := row_val hp.own
  subst e1
  obtain ⟨zo, zc, rfl, _, zg⟩ := hz
  have HZ : Hid (0 < z.length → ∃ g o, zo = some ⟨g, o, none⟩ ∧ g < w.heap.size ∧ ∀ i (h : i < z.length) j, j < 2 → w.cell? ⟨g, o + i * 2 + j, none⟩ = some (.int .i64 ((fZ z[i]).getD j 0))) := zg
  generalize (prw n s).length = rl at *
  have hmk := fun W => make_intsA z.length (by omega) W
  have HB0 : Hid (Below w.heap.size w (w.alloc (.cells #[.int .i64 (n : Nat), .slice oa rl cap] 58)) ∧ Bk (w.alloc (.cells #[.int .i64 (n : Nat), .slice oa rl cap] 58)) w.heap.size #[.int .i64 (n : Nat), .slice oa rl cap] 58) := ⟨(Below.refl _ _).alloc (Nat.le_refl _) _, Bk.new _ _ _⟩
  clear hp hwl hhl hGr hwi hhe hzb hE zg hl hl1
  go_enter Tryz.func25, Tryz.ntmps25
  go_upto_region 1 with fail
  generalize w.alloc (.cells #[.int .i64 (n : Nat), .slice oa rl cap] 58) = W0 at *
  obtain ⟨pb, Hpb⟩ : ∃ pb, Hid (pb = w.heap.size) := ⟨_, rfl⟩
  have H0 : Hid (Below w.heap.size w W0 ∧ Bk W0 pb #[.int .i64 (n : Nat), .slice oa rl cap] 58) := by rw [Hpb.out]; exact HB0.out
  rw [← Hpb.out]
  have Hlo : Hid (w.heap.size ≤ pb) := by have := Hpb.out; unfold Hid; omega
  clear HB0 Hpb
  go_cut [9, 10] (fun s9 s10 wx => ∃ ga gb, s9 = .slice (some ⟨ga, 0, none⟩) z.length z.length ∧ s10 = .slice (some ⟨gb, 0, none⟩) z.length z.length ∧ Hid (ga ≠ gb ∧ w.heap.size ≤ ga ∧ w.heap.size ≤ gb ∧ Nb wx ga (List.replicate z.length 0) ∧ Nb wx gb (List.replicate z.length 0) ∧ Below w.heap.size w wx ∧ Bk wx pb #[.int .i64 (n : Nat), .slice oa rl cap] 58))
  case first =>
    have HT : Hid (w.heap.size ≤ W0.heap.size ∧ Nb ((W0.alloc (.cells (flatI (List.replicate z.length 0)).toArray 3)).alloc (.cells (flatI (List.replicate z.length 0)).toArray 3)).drew W0.heap.size (List.replicate z.length 0) ∧ Nb ((W0.alloc (.cells (flatI (List.replicate z.length 0)).toArray 3)).alloc (.cells (flatI (List.replicate z.length 0)).toArray 3)).drew (W0.heap.size + 1) (List.replicate z.length 0) ∧ Below w.heap.size w ((W0.alloc (.cells (flatI (List.replicate z.length 0)).toArray 3)).alloc (.cells (flatI (List.replicate z.length 0)).toArray 3)).drew ∧ Bk ((W0.alloc (.cells (flatI (List.replicate z.length 0)).toArray 3)).alloc (.cells (flatI (List.replicate z.length 0)).toArray 3)).drew pb #[.int .i64 (n : Nat), .slice oa rl cap] 58) := by
      have b0 := H0.out.1
      have b1 := b0.alloc b0.size (.cells (flatI (List.replicate z.length 0)).toArray 3)
      have b2 := b1.alloc b1.size (.cells (flatI (List.replicate z.length 0)).toArray 3)
      refine ⟨b0.size, Bk.drew (Bk.alloc (Bk.newB rfl) _), Bk.drew (Bk.newB (by simp)), b2.drew, Bk.drew (Bk.alloc (Bk.alloc H0.out.2 _) _)⟩
    go_region_with (skip)
    all_goals (go_wp2_with fail; go_meet)
    · exact ⟨W0.heap.size, W0.heap.size + 1, rfl, rfl, by omega, HT.out.1, by have := HT.out.1; omega, HT.out.2.1, HT.out.2.2.1, HT.out.2.2.2⟩
    · exact ⟨W0.heap.size + 1, W0.heap.size, rfl, rfl, by omega, by have := HT.out.1; omega, HT.out.1, HT.out.2.2.1, HT.out.2.1, HT.out.2.2.2⟩
  case rest =>
    obtain ⟨ga, gb, hs9, hs10, HC⟩ := hcut
    subst hs9 hs10
    clear H0 hmk
    have H1 : Hid (Nb wc ga (cpK Sz.w z 0) ∧ Nb wc gb (cpK Sz.h z 0) ∧ Below w.heap.size w wc ∧ Bk wc pb #[.int .i64 (n : Nat), .slice oa rl cap] 58) := by
      rw [copy_zero, copy_zero]
      exact HC.out.2.2.2
    have HD : Hid (ga ≠ gb ∧ w.heap.size ≤ ga ∧ w.heap.size ≤ gb) := ⟨HC.out.1, HC.out.2.1, HC.out.2.2.1⟩
    clear HC
    go_wp2_with fail
    go_loopw [11, 12, 21] (fun _ _ i wr => ∃ k : Nat, k ≤ z.length ∧ i = .int .i64 k ∧ Hid (Nb wr ga (cpK Sz.w z k) ∧ Nb wr gb (cpK Sz.h z k) ∧ Below w.heap.size w wr ∧ Bk wr pb #[.int .i64 (n : Nat), .slice oa rl cap] 58)) (fun _ _ i _ => z.length - (intOf i).toNat)
    case atStart => exact ⟨0, Nat.zero_le _, rfl, H1.out⟩
    case round =>
      obtain ⟨k, hk, rfl, HK⟩ := hrel
      clear H1
      by_cases hlt : k < z.length
      · have ik : (k : Int) < z.length := by omega
        obtain ⟨g, o, rfl, hgl, hat⟩ := HZ.out (by omega)
        obtain ⟨a1, a2, a3, a4⟩ := HK.out
        have x0 : wr.cell? ⟨g, o + k * 2, none⟩ = some (.int .i64 z[k].w) := (a3.cell (p := ⟨g, o + k * 2, none⟩) hgl).trans (hat k hlt 0 (by omega))
        have x1 : wr.cell? ⟨g, o + k * 2 + 1, none⟩ = some (.int .i64 z[k].h) := (a3.cell (p := ⟨g, o + k * 2 + 1, none⟩) hgl).trans (hat k hlt 1 (by omega))
        have lg : g < wr.heap.size := Nat.lt_of_lt_of_le hgl a3.size
        have B1 : Below wr.heap.size wr (wr.alloc (.cells #[.int .i64 z[k].w, .int .i64 z[k].h] 27)) := (Below.refl _ _).alloc (Nat.le_refl _) _
        have HB : Hid (Nb (wr.alloc (.cells #[.int .i64 z[k].w, .int .i64 z[k].h] 27)) ga (cpK Sz.w z k) ∧ Nb (wr.alloc (.cells #[.int .i64 z[k].w, .int .i64 z[k].h] 27)) gb (cpK Sz.h z k) ∧ Below w.heap.size w (wr.alloc (.cells #[.int .i64 z[k].w, .int .i64 z[k].h] 27)) ∧ Bk (wr.alloc (.cells #[.int .i64 z[k].w, .int .i64 z[k].h] 27)) pb #[.int .i64 (n : Nat), .slice oa rl cap] 58 ∧ Bk (wr.alloc (.cells #[.int .i64 z[k].w, .int .i64 z[k].h] 27)) wr.heap.size #[.int .i64 z[k].w, .int .i64 z[k].h] 27) := ⟨a1.below B1, a2.below B1, a3.trans (B1.mono a3.size), a4.below B1, Bk.new _ _ _⟩
        have HS1 := copy_next Sz.w hlt
        have HS2 := copy_next Sz.h hlt
        have HS : Hid ((cpK Sz.w z k).set k z[k].w = cpK Sz.w z (k + 1) ∧ (cpK Sz.h z k).set k z[k].h = cpK Sz.h z (k + 1)) := ⟨HS1, HS2⟩
        have hl1 : k < (cpK Sz.w z k).length := by rw [copy_len _ _ (by omega)]; exact hlt
        have hl2 : k < (cpK Sz.h z k).length := by rw [copy_len _ _ (by omega)]; exact hlt
        clear HK hat a1 a2 a3 a4 B1 HS1 HS2
        generalize z[k].w = zw at *
        generalize z[k].h = zh at *
        go_upto_region 5 with fail
        clear x0 x1 lg
        obtain ⟨sb, Hsb⟩ : ∃ sb, Hid (sb = wr.heap.size) := ⟨_, rfl⟩
        generalize wr.alloc (.cells #[.int .i64 zw, .int .i64 zh] 27) = W1 at *
        rw [← Hsb.out] at HB ⊢
        obtain ⟨y1, c1⟩ : ∃ y, W1.cell? ⟨ga, k, none⟩ = some (.int .i64 y) := ⟨_, HB.out.1.at k hl1⟩
        obtain ⟨y2, c2⟩ : ∃ y, W1.cell? ⟨gb, k, none⟩ = some (.int .i64 y) := ⟨_, HB.out.2.1.at k hl2⟩
        have f1 := HB.out.1.frozen k
        have f2 := HB.out.2.1.frozen k
        have s0 := HB.out.2.2.2.2.at2.1
        have s1 := HB.out.2.2.2.2.at2.2
        have hne : ¬ ga = gb := HD.out.1
        have hne' : ¬ gb = ga := fun e => HD.out.1 e.symm
        have hsa : ¬ sb = ga := fun e => absurd (Bk.typ (e ▸ HB.out.2.2.2.2) HB.out.1) (by decide)
        have hsb : ¬ sb = gb := fun e => absurd (Bk.typ (e ▸ HB.out.2.2.2.2) HB.out.2.1) (by decide)
        clear hl1 hl2
        have HT : Hid (Nb (((W1.setCell ⟨ga, k, none⟩ (.int .i64 zw)).setCell ⟨gb, k, none⟩ (.int .i64 zh)).drew) ga (cpK Sz.w z (k + 1)) ∧ Nb (((W1.setCell ⟨ga, k, none⟩ (.int .i64 zw)).setCell ⟨gb, k, none⟩ (.int .i64 zh)).drew) gb (cpK Sz.h z (k + 1)) ∧ Below w.heap.size w (((W1.setCell ⟨ga, k, none⟩ (.int .i64 zw)).setCell ⟨gb, k, none⟩ (.int .i64 zh)).drew) ∧ Bk (((W1.setCell ⟨ga, k, none⟩ (.int .i64 zw)).setCell ⟨gb, k, none⟩ (.int .i64 zh)).drew) pb #[.int .i64 (n : Nat), .slice oa rl cap] 58) := by
          obtain ⟨a1, a2, a3, a4, a5⟩ := HB.out
          obtain ⟨d1, d2, d3⟩ := HD.out
          have pga : ga ≠ pb := fun e => by subst e; exact absurd (Bk.typ (show Bk W1 ga _ 3 from a1) a4) (by decide)
          have pgb : gb ≠ pb := fun e => by subst e; exact absurd (Bk.typ (show Bk W1 gb _ 3 from a2) a4) (by decide)
          rw [← HS.out.1, ← HS.out.2]
          refine ⟨Bk.drew (Nb.other (a1.put k _) _ _ (fun e => d1 e.symm)), Bk.drew (Nb.put (a2.other _ _ d1) k _), Below.drew ((a3.setCell (p := ⟨ga, k, none⟩) d2 _).setCell (p := ⟨gb, k, none⟩) d3 _), Bk.drew (Bk.other (Bk.other a4 _ _ pga) _ _ pgb)⟩
        clear HB
        go_region_with (skip)
        all_goals
          go_wp2
          exact ⟨⟨k + 1, by omega, by go_num, HT⟩, by simp [intOf]; omega⟩
      · obtain rfl : k = z.length := by omega
        obtain ⟨a1, a2, a3, a4⟩ := HK.out
        rw [copy_end] at a1 a2
        have c0 := a4.at2.1
        have c1 := a4.at2.2
        have hlw : (z.map Sz.w).length = z.length := List.length_map _
        have hlh : (z.map Sz.h).length = z.length := List.length_map _
        have iw := a1.is
        have ih := a2.is
        rw [hlw] at iw
        rw [hlh] at ih
        have HWx := HWi.out (.slice (some ⟨ga, 0, none⟩) z.length z.length) wr a3 iw
        have HP : Hid (IS wr (.slice (some ⟨gb, 0, none⟩) z.length z.length) (z.map Sz.h) ∧ Below w.heap.size w wr ∧ Bk wr pb #[.int .i64 (n : Nat), .slice oa rl cap] 58) := ⟨ih, a3, a4⟩
        clear HK a1 a2 a3 a4 HWi HZ iw ih hlw hlh
        go_wp2_with fail
        refine HWx.mono ?_
        rintro e w1 ⟨u, rfl, H1⟩
        clear HWx c0 c1
        obtain ⟨wo, wc', e1, hwc, _⟩ := H1.out.1.is
        rw [HWl.out] at hwc
        rw [HWl.out] at e1
        subst e1
        obtain ⟨wg, e2⟩ : ∃ wg, wo = some ⟨wg, 0, none⟩ := by
          obtain ⟨_, _, e, _, h⟩ := row_val H1.out.1
          obtain ⟨g', e2, _⟩ := h (by rw [HWl.out]; exact h0)
          injection e with e _ _
          exact ⟨g', e.trans e2⟩
        subst e2
        have HQ : Hid (IS w1 (.slice (some ⟨wg, 0, none⟩) n wc') WL ∧ IS w1 (.slice (some ⟨gb, 0, none⟩) z.length z.length) (z.map Sz.h) ∧ Below w.heap.size w w1 ∧ Bk w1 pb #[.int .i64 (n : Nat), .slice oa rl cap] 58) := ⟨H1.out.1.is, HP.out.1.below H1.out.2, HP.out.2.1.trans (H1.out.2.mono HP.out.2.1.size), HP.out.2.2.below H1.out.2⟩
        clear H1 HP
        go_upto_region 10 with fail
        have hud : ud ≤ wc' := by omega
        have hud1 : (ud : Int) ≤ (wc' : Int) := by omega
        refine wp_region_inv (I := (fun b a x => ∃ u6 u7 u8 u47 u48 u49 u50 u51 u52 u53, a = ⟨#[.agg #[.int .i64 (n : Nat), .slice oa rl cap], .slice zo z.length zc, .int .i64 gap, .pointer (some ⟨pb, 0, none⟩), undef, undef, u6, u7, u8, .slice (some ⟨ga, 0, none⟩) z.length z.length, .slice (some ⟨gb, 0, none⟩) z.length z.length, u11, u12, u13, u14, u15, u16, u17, u18, .slice zo z.length zc, .int .i64 (z.length : Nat), .int .i64 (z.length : Nat), .bool false, u23, u24, u25, u26, u27, u28, u29, u30, u31, u32, u33, u34, u35, u36, .tuple #[.slice (some ⟨wg, 0, none⟩) n wc', .int .i64 0], .agg #[.int .i64 (n : Nat), .slice oa rl cap], .slice (some ⟨ga, 0, none⟩) z.length z.length, .int .i64 gap, .tuple #[.slice (some ⟨wg, 0, none⟩) n wc', .int .i64 0], .slice (some ⟨wg, 0, none⟩) n wc', .int .i64 0, .int .i64 0, .bool false, u46, u47, u48, u49, u50, u51, u52, u53], []⟩ ∧ Hid (JS1 w1 oa rl cap pb wg wc' n ud gb z HL b u6 u7 u8 u47 u48 u49 u50 u51 u52 u53 x))) (by kernel_rfl) (by kernel_rfl) ?_ ?_ ?_
        · exact ⟨_, _, _, u47, u48, u49, u50, u51, u52, u53, rfl, ⟨(fun e => by cases e), (fun e => by cases e), (fun e => by cases e), (fun e => by cases e), (fun e => by cases e), (fun e => by cases e), (fun e => by cases e), (fun e => by cases e), (fun e => by cases e), (fun e => by cases e), HQ.out.2.2.2.drew, (Below.refl _ _).drew, fun _ => rfl⟩⟩
        · intro b a x i o hI hbi ho hpre K' hK
          obtain ⟨u6, u7, u8, u47, u48, u49, u50, u51, u52, u53, rfl, HJ⟩ := hI
          have hi : i < 10 := by have := (Array.getElem?_eq_some_iff.1 ho).1; simpa using this
          rcases (show i = 0 ∨ i = 1 ∨ i = 2 ∨ i = 3 ∨ i = 4 ∨ i = 5 ∨ i = 6 ∨ i = 7 ∨ i = 8 ∨ i = 9 by omega) with rfl | rfl | rfl | rfl | rfl | rfl | rfl | rfl | rfl | rfl
          · injection (show some _ = some o from ho) with ho
            subst ho
            have n7 : b 7 = false := by obtain ⟨j0, j1, j2, j3, j4, j5, j6, j7, j8, j9, e0, e1, e2⟩ := HJ.out; cases e : b 7 with | false => rfl | true => exact absurd (hbi.symm.trans (j7 e).1) (by decide)
            obtain rfl : u6 = .slice (some ⟨wg, 0, none⟩) n wc' := by obtain ⟨j0, j1, j2, j3, j4, j5, j6, j7, j8, j9, e0, e1, e2⟩ := HJ.out; exact e2 n7
            have HN : Hid (JS1 w1 oa rl cap pb wg wc' n ud gb z HL (fun j => if j = 0 then true else b j) (.slice (some ⟨wg, 0, none⟩) n wc') u7 u8 (.slice (some ⟨wg, 0, none⟩) n wc') u48 u49 u50 u51 u52 u53 x) := by
              obtain ⟨j0, j1, j2, j3, j4, j5, j6, j7, j8, j9, e0, e1, e2⟩ := HJ.out
              exact ⟨(fun _ => rfl), j1, j2, (fun h => ⟨rfl, (j3 h).2⟩), j4, j5, j6, (fun h => ⟨rfl, (j7 h).2⟩), j8, j9, e0, e1, (fun _ => rfl)⟩
            clear HJ hpre n7
            go_simp
            exact hK _ _ ⟨_, u7, u8, _, u48, u49, u50, u51, u52, u53, rfl, HN⟩
          · injection (show some _ = some o from ho) with ho
            subst ho
            have c0 : x.cell? ⟨pb, 0, none⟩ = some (.int .i64 (n : Nat)) := by obtain ⟨j0, j1, j2, j3, j4, j5, j6, j7, j8, j9, e0, e1, e2⟩ := HJ.out; exact e0.at2.1
            have c1 : x.cell? ⟨pb, 1, none⟩ = some (.slice oa rl cap) := by obtain ⟨j0, j1, j2, j3, j4, j5, j6, j7, j8, j9, e0, e1, e2⟩ := HJ.out; exact e0.at2.2
            have HN : Hid (JS1 w1 oa rl cap pb wg wc' n ud gb z HL (fun j => if j = 1 then true else b j) u6 u7 u8 u47 (.agg #[.int .i64 (n : Nat), .slice oa rl cap]) u49 u50 u51 u52 u53 x) := by
              obtain ⟨j0, j1, j2, j3, j4, j5, j6, j7, j8, j9, e0, e1, e2⟩ := HJ.out
              exact ⟨j0, fun _ => rfl, j2, j3, j4, j5, j6, j7, j8, j9, e0, e1, e2⟩
            clear HJ hpre
            go_simp
            exact hK _ _ ⟨u6, u7, u8, u47, _, u49, u50, u51, u52, u53, rfl, HN⟩
          · injection (show some _ = some o from ho) with ho
            subst ho
            have p1 : b 1 = true := hpre 1 (by decide +kernel)
            obtain rfl : u48 = .agg #[.int .i64 (n : Nat), .slice oa rl cap] := by obtain ⟨j0, j1, j2, j3, j4, j5, j6, j7, j8, j9, e0, e1, e2⟩ := HJ.out; exact (j1 p1)
            have hb0 : Below w.heap.size w x := by obtain ⟨j0, j1, j2, j3, j4, j5, j6, j7, j8, j9, e0, e1, e2⟩ := HJ.out; exact HQ.out.2.2.1.trans (e1.mono HQ.out.2.2.1.size)
            have HC := HUs.out x hb0
            have HN : Hid (∀ x', Below x.heap.size x x' → JS1 w1 oa rl cap pb wg wc' n ud gb z HL (fun j => if j = 2 then true else b j) u6 u7 u8 u47 (.agg #[.int .i64 (n : Nat), .slice oa rl cap]) (.int .i64 (ud : Nat)) u50 u51 u52 u53 x') := fun x' hb => by
              obtain ⟨j0, j1, j2, j3, j4, j5, j6, j7, j8, j9, e0, e1, e2⟩ := HJ.out.grow hb
              exact ⟨j0, j1, (fun _ => rfl), j3, j4, j5, j6, j7, j8, j9, e0, e1, e2⟩
            clear HJ hpre hb0
            go_simp
            refine HC.mono ?_
            rintro e x' ⟨rfl, hb⟩
            exact hK _ _ ⟨u6, u7, u8, u47, _, _, u50, u51, u52, u53, rfl, HN.out x' hb⟩
          · injection (show some _ = some o from ho) with ho
            subst ho
            have p0 : b 0 = true := hpre 0 (by decide +kernel)
            obtain rfl : u47 = .slice (some ⟨wg, 0, none⟩) n wc' := by obtain ⟨j0, j1, j2, j3, j4, j5, j6, j7, j8, j9, e0, e1, e2⟩ := HJ.out; exact (j0 p0)
            have p2 : b 2 = true := hpre 2 (by decide +kernel)
            obtain rfl : u49 = .int .i64 (ud : Nat) := by obtain ⟨j0, j1, j2, j3, j4, j5, j6, j7, j8, j9, e0, e1, e2⟩ := HJ.out; exact (j2 p2)
            have HN : Hid (JS1 w1 oa rl cap pb wg wc' n ud gb z HL (fun j => if j = 3 then true else b j) u6 u7 u8 (.slice (some ⟨wg, 0, none⟩) n wc') u48 (.int .i64 (ud : Nat)) (.slice (some ⟨wg, 0, none⟩) ud wc') u51 u52 u53 x) := by
              obtain ⟨j0, j1, j2, j3, j4, j5, j6, j7, j8, j9, e0, e1, e2⟩ := HJ.out
              exact ⟨j0, j1, j2, fun _ => ⟨p0, rfl⟩, j4, j5, j6, j7, j8, j9, e0, e1, e2⟩
            clear HJ hpre
            go_simp
            exact hK _ _ ⟨u6, u7, u8, _, u48, _, _, u51, u52, u53, rfl, HN⟩
          · injection (show some _ = some o from ho) with ho
            subst ho
            have c0 : x.cell? ⟨pb, 0, none⟩ = some (.int .i64 (n : Nat)) := by obtain ⟨j0, j1, j2, j3, j4, j5, j6, j7, j8, j9, e0, e1, e2⟩ := HJ.out; exact e0.at2.1
            have c1 : x.cell? ⟨pb, 1, none⟩ = some (.slice oa rl cap) := by obtain ⟨j0, j1, j2, j3, j4, j5, j6, j7, j8, j9, e0, e1, e2⟩ := HJ.out; exact e0.at2.2
            have HN : Hid (JS1 w1 oa rl cap pb wg wc' n ud gb z HL (fun j => if j = 4 then true else b j) u6 u7 u8 u47 u48 u49 u50 (.agg #[.int .i64 (n : Nat), .slice oa rl cap]) u52 u53 x) := by
              obtain ⟨j0, j1, j2, j3, j4, j5, j6, j7, j8, j9, e0, e1, e2⟩ := HJ.out
              exact ⟨j0, j1, j2, j3, fun _ => rfl, j5, j6, j7, j8, j9, e0, e1, e2⟩
            clear HJ hpre
            go_simp
            exact hK _ _ ⟨u6, u7, u8, u47, u48, u49, u50, _, u52, u53, rfl, HN⟩
          · injection (show some _ = some o from ho) with ho
            subst ho
            have HN : Hid (JS1 w1 oa rl cap pb wg wc' n ud gb z HL (fun j => if j = 5 then true else b j) u6 u7 u8 u47 u48 u49 u50 u51 (.slice (some ⟨gb, 0, none⟩) z.length z.length) u53 x) := by
              obtain ⟨j0, j1, j2, j3, j4, j5, j6, j7, j8, j9, e0, e1, e2⟩ := HJ.out
              exact ⟨j0, j1, j2, j3, j4, fun _ => rfl, j6, j7, j8, j9, e0, e1, e2⟩
            clear HJ hpre
            go_simp
            exact hK _ _ ⟨u6, u7, u8, u47, u48, u49, u50, u51, _, u53, rfl, HN⟩
          · injection (show some _ = some o from ho) with ho
            subst ho
            have p4 : b 4 = true := hpre 4 (by decide +kernel)
            obtain rfl : u51 = .agg #[.int .i64 (n : Nat), .slice oa rl cap] := by obtain ⟨j0, j1, j2, j3, j4, j5, j6, j7, j8, j9, e0, e1, e2⟩ := HJ.out; exact (j4 p4)
            have p5 : b 5 = true := hpre 5 (by decide +kernel)
            obtain rfl : u52 = .slice (some ⟨gb, 0, none⟩) z.length z.length := by obtain ⟨j0, j1, j2, j3, j4, j5, j6, j7, j8, j9, e0, e1, e2⟩ := HJ.out; exact (j5 p5)
            have hb1 : Below w1.heap.size w1 x := by obtain ⟨j0, j1, j2, j3, j4, j5, j6, j7, j8, j9, e0, e1, e2⟩ := HJ.out; exact e1
            have HC := HHe.out (.slice (some ⟨gb, 0, none⟩) z.length z.length) x (HQ.out.2.2.1.trans (hb1.mono HQ.out.2.2.1.size)) (HQ.out.2.1.below hb1)
            have HN : Hid (∀ v53 x', Below x.heap.size x x' → IS x' v53 HL → JS1 w1 oa rl cap pb wg wc' n ud gb z HL (fun j => if j = 6 then true else b j) u6 u7 u8 u47 u48 u49 u50 (.agg #[.int .i64 (n : Nat), .slice oa rl cap]) (.slice (some ⟨gb, 0, none⟩) z.length z.length) (v53) x') := fun v53 x' hb hi => by
              obtain ⟨j0, j1, j2, j3, j4, j5, j6, j7, j8, j9, e0, e1, e2⟩ := HJ.out.grow hb
              exact ⟨j0, j1, j2, j3, j4, j5, (fun _ => hi), j7, (fun h => absurd (hbi.symm.trans (j8 h).1) (by decide)), j9, e0, e1, e2⟩
            clear HJ hpre hb1
            go_simp
            refine HC.mono ?_
            rintro e x' ⟨v53, rfl, H⟩
            exact hK _ _ ⟨u6, u7, u8, u47, u48, u49, u50, _, _, _, rfl, HN.out v53 x' H.out.2 H.out.1.is⟩
          · injection (show some _ = some o from ho) with ho
            subst ho
            have p3 : b 3 = true := hpre 3 (by decide +kernel)
            obtain rfl : u50 = .slice (some ⟨wg, 0, none⟩) ud wc' := by obtain ⟨j0, j1, j2, j3, j4, j5, j6, j7, j8, j9, e0, e1, e2⟩ := HJ.out; exact (j3 p3).2
            have p0 : b 0 = true := by obtain ⟨j0, j1, j2, j3, j4, j5, j6, j7, j8, j9, e0, e1, e2⟩ := HJ.out; exact (j3 p3).1
            have HN : Hid (JS1 w1 oa rl cap pb wg wc' n ud gb z HL (fun j => if j = 7 then true else b j) (.slice (some ⟨wg, 0, none⟩) ud wc') u7 u8 u47 u48 u49 (.slice (some ⟨wg, 0, none⟩) ud wc') u51 u52 u53 x) := by
              obtain ⟨j0, j1, j2, j3, j4, j5, j6, j7, j8, j9, e0, e1, e2⟩ := HJ.out
              exact ⟨j0, j1, j2, j3, j4, j5, j6, fun _ => ⟨p0, rfl⟩, j8, j9, e0, e1, (fun c => by cases c)⟩
            clear HJ hpre
            go_simp
            exact hK _ _ ⟨_, u7, u8, u47, u48, u49, _, u51, u52, u53, rfl, HN⟩
          · injection (show some _ = some o from ho) with ho
            subst ho
            have p6 : b 6 = true := hpre 6 (by decide +kernel)
            have HN : Hid (JS1 w1 oa rl cap pb wg wc' n ud gb z HL (fun j => if j = 8 then true else b j) u6 (u53) u8 u47 u48 u49 u50 u51 u52 u53 x) := by
              obtain ⟨j0, j1, j2, j3, j4, j5, j6, j7, j8, j9, e0, e1, e2⟩ := HJ.out
              exact ⟨j0, j1, j2, j3, j4, j5, j6, j7, (fun _ => ⟨p6, rfl⟩), j9, e0, e1, e2⟩
            clear HJ hpre
            go_simp
            exact hK _ _ ⟨u6, _, u8, u47, u48, u49, u50, u51, u52, u53, rfl, HN⟩
          · injection (show some _ = some o from ho) with ho
            subst ho
            have HN : Hid (JS1 w1 oa rl cap pb wg wc' n ud gb z HL (fun j => if j = 9 then true else b j) u6 u7 (.int .i64 0) u47 u48 u49 u50 u51 u52 u53 x) := by
              obtain ⟨j0, j1, j2, j3, j4, j5, j6, j7, j8, j9, e0, e1, e2⟩ := HJ.out
              exact ⟨j0, j1, j2, j3, j4, j5, j6, j7, j8, fun _ => rfl, e0, e1, e2⟩
            clear HJ hpre
            go_simp
            exact hK _ _ ⟨u6, u7, _, u47, u48, u49, u50, u51, u52, u53, rfl, HN⟩
        · intro b a x hI hall
          obtain ⟨u6, u7, u8, u47, u48, u49, u50, u51, u52, u53, rfl, HJ⟩ := hI
          have hall' : ∀ i, i < 10 → b i = true := fun i hi => hall i (by simpa using hi)
          obtain ⟨j0, j1, j2, j3, j4, j5, j6, j7, j8, j9, e0, e1, e2⟩ := HJ.out
          obtain rfl := (j7 (hall' 7 (by omega))).2
          obtain rfl := (j8 (hall' 8 (by omega))).2
          obtain rfl := j9 (hall' 9 (by omega))
          have HF : Hid (IS x (.slice (some ⟨wg, 0, none⟩) ud wc') (WL.take ud) ∧ IS x u7 HL ∧ Below w.heap.size w x) := ⟨(HQ.out.1.below e1).cut HWl.out hun, j6 (hall' 6 (by omega)), HQ.out.2.2.1.trans (e1.mono HQ.out.2.2.1.size)⟩
          clear HJ hall hall' j0 j1 j2 j3 j4 j5 j6 j7 j8 j9 e0 e1 e2
          go_wp2
          go_ret3
          exact ⟨_, _, rfl, HF⟩

end Go.Proofs.YthnhcphkpffkfaaGreat
