/-
  Contract of the document's answer for layer 3: the lines of a text.
-/
import Derived.Test.YtlooemhaoikidaaDoorFQ3
import Derived.Test.YtlooemhaoikidaaDoorFPb
import Derived.Test.YtlooemhaoikidaaDoorRL5
import Derived.Test.YtlooemhaoikidaaDoorF6
namespace Go.Proofs.YtlooemhaoikidaaDoor
open Go.RowKit Go.Shelf

theorem strs_one (l : List ByteArray) : ∀ u ∈ l.map Value.string, u.oneCell' = true := by
  intro u hu
  obtain ⟨x, _, rfl⟩ := List.mem_map.1 hu
  rfl
theorem outB (s : ByteArray) (cells : Int) (hs : s.size ≤ 1048576) : (outL (paras s) (roomOf cells)).length ≤ 1048578 * 3145729 := by
  have h1 := outL_len (roomOf cells) 1048576 (paras s) (fun q hq => by have := paras_size hq; omega)
  have h2 : (paras s).length ≤ 1048578 := by rw [paras_len]; have := count_le s; omega
  exact Nat.le_trans h1 (Nat.mul_le_mul h2 (by omega))
theorem outL_size {s x : ByteArray} {room : Int} (h : x ∈ outL (paras s) room) : x.size ≤ s.size := by
  unfold outL at h
  obtain ⟨l, hl, hx⟩ := List.mem_flatten.1 h
  obtain ⟨p, hp, rfl⟩ := List.mem_map.1 hl
  unfold outP at hx
  obtain ⟨l, _, rfl⟩ := List.mem_map.1 hx
  have := paras_size hp
  rw [ByteArray.size_extract]
  omega
theorem addr_at (g j : Nat) : (⟨g, 0, none⟩ : Addr).add j = ⟨g, j, none⟩ := by
  unfold Addr.add
  split <;> simp_all
theorem row_src {base : Nat} {e : TypeId} {v : Value} {n : Nat} {xs : List Value} {X : World} (h : X.ownsRow base e 1 v n xs) (hn : 0 < n) :
    ∃ g cap, v = .slice (some ⟨g, 0, none⟩) n cap ∧ n ≤ cap ∧ base ≤ g ∧ g < X.heap.size ∧ ∀ (j : Nat) (u : Value), xs[j]? = some u → X.cell? ((⟨g, 0, none⟩ : Addr).add j) = some u := by
  obtain ⟨hl, h⟩ := h
  rcases h with ⟨_, h0⟩ | ⟨g, cap, cur, rfl, hb, hc, h3, _, _, h4⟩
  · omega
  · refine ⟨g, cap, rfl, h3, hb, (Array.getElem?_eq_some_iff.1 hc).1, fun j u hj => ?_⟩
    have hj' : j < n * 1 := by
      have := (List.getElem?_eq_some_iff.1 hj).1
      omega
    rw [addr_at, Blk.cell (show Blk X g cur _ from hc) j, ← Array.getElem?_toList, ← hj, ← h4, List.getElem?_take, if_pos hj']
theorem rpara_out (s : ByteArray) (cells : Int) (w : World) (hs : s.size ≤ 1048576) :
    Calls Tryd.prog 48 #[.string s, .int .i64 cells] w fun e w' => ∃ v, e = .returned v ∧ w'.ownsRow w.heap.size 9 1 v (outP s (roomOf cells)).length ((outP s (roomOf cells)).map Value.string) ∧ Below w.heap.size w w' := by
  have h := rpara_any s cells w hs
  rw [par_out s cells hs] at h
  exact h

/-- A row of texts, read. -/
def Rd (wr : World) (g : Nat) (R : List ByteArray) : Prop := g < wr.heap.size ∧ ∀ (i : Nat) (h : i < R.length), wr.cell? ⟨g, i, none⟩ = some (.string R[i])
theorem Rd.below {W W' : World} {g : Nat} {R : List ByteArray} (h : Rd W g R) (hb : Below W.heap.size W W') : Rd W' g R :=
  ⟨Nat.lt_of_lt_of_le h.1 hb.size, fun i hi => by rw [hb.cell (p := ⟨g, i, none⟩) h.1]; exact h.2 i hi⟩
theorem row_rd {base : Nat} {e : TypeId} {v : Value} {R : List ByteArray} {X : World} (h : X.ownsRow base e 1 v R.length (R.map Value.string)) (hn : 0 < R.length) :
    ∃ g cap, v = .slice (some ⟨g, 0, none⟩) R.length cap ∧ R.length ≤ cap ∧ base ≤ g ∧ Rd X g R := by
  obtain ⟨g, cap, h1, h2, h3, h4, h5⟩ := row_src h hn
  refine ⟨g, cap, h1, h2, h3, h4, fun i hi => ?_⟩
  have := h5 i (.string R[i]) (by simp [hi])
  rwa [addr_at] at this
theorem paras_pos (s : ByteArray) : paras s ≠ [] := by
  unfold paras
  cases h : Lib.countB s nl with
  | zero => simp [Lib.splitB]
  | succ k =>
    rw [Lib.splitB]
    split <;> simp
theorem outL_pos (s : ByteArray) (room : Int) : 0 < (outL (paras s) room).length := by
  cases h : paras s with
  | nil => exact absurd h (paras_pos s)
  | cons p ps =>
    rw [outL_cons, List.length_append]
    have := outP_pos p room
    omega
theorem sumC_pc (x : ByteArray) : 0 ≤ sumC (pcs x) ∧ sumC (pcs x) ≤ 2 * x.size := by
  rw [sum_wsum]
  have h1 := wsum_le (pcs x)
  have h2 := pcs_len x
  have h3 := wsum_nn (pcs x)
  omega
def wids (l : List ByteArray) : Int := l.foldl (fun m x => max m (sumC (pcs x))) 0
theorem wids_snoc (l : List ByteArray) (x : ByteArray) : wids (l ++ [x]) = max (wids l) (sumC (pcs x)) := by simp [wids]

def LInv (s : ByteArray) (room : Int) (R : List ByteArray) (w : World) (p i : Nat) (os : List ByteArray) (v : Value) (wr : World) : Prop :=
  i ≤ s.size + 1 ∧ p ≤ i ∧ (i ≤ s.size → (∀ (j : Nat) (h : j < s.size), p ≤ j → j < i → (s[j]).toNat ≠ 10) ∧ R = os ++ outL (paras (s.extract p s.size)) room) ∧ (s.size < i → R = os) ∧ wr.ownsRow w.heap.size 9 1 v os.length (os.map Value.string) ∧ Below w.heap.size w wr

theorem app_many {w w1 w4 : World} {os xs : List ByteArray} {u v' : Value} (hB : Below w.heap.size w w1) (ar : w1.ownsRow w.heap.size 9 1 u os.length (os.map Value.string))
    (hown' : w4.ownsRow w.heap.size 9 1 v' (os.length + xs.length) (os.map Value.string ++ xs.map Value.string)) (hgrow : w1.grownBy w4 u.ownBlock) :
    Below w.heap.size w w4 ∧ w4.ownsRow w.heap.size 9 1 v' (os ++ xs).length ((os ++ xs).map Value.string) := by
  refine ⟨hB.grown hgrow hB.size (fun g hg => (row_lt ar g hg).1), ?_⟩
  rw [List.length_append, List.map_append]
  exact hown'

set_option maxRecDepth 10000 in
set_option maxHeartbeats 4000000 in
theorem rlines_any (s : ByteArray) (cells : Int) (w : World) (hs : s.size ≤ 1048576) :
    Calls Tryd.prog 21 #[.string s, .int .i64 cells] w fun e w' => ∃ v, e = .returned (.tuple #[v, .int .i64 (widL (paras s) (roomOf cells) 0)]) ∧
      w'.ownsRow w.heap.size 9 1 v (outL (paras s) (roomOf cells)).length ((outL (paras s) (roomOf cells)).map Value.string) ∧ Below w.heap.size w w' := by
  obtain ⟨i0, hi, hz0, hz1, hz2⟩ := info_parts info_string
  have HI : Hid (Tryd.prog.info? 9 = some i0 ∧ i0.zero = some (.string ByteArray.empty) ∧ i0.size = 1 ∧ i0.bytes = 16) := ⟨hi, hz0, hz1, hz2⟩
  clear hi hz0 hz1 hz2
  obtain ⟨R, hR⟩ : ∃ R, R = outL (paras s) (roomOf cells) := ⟨_, rfl⟩
  have hlen : R.length ≤ 1048578 * 3145729 := by rw [hR]; exact outB s cells hs
  have HR0 : Hid (R = outL (paras s) (roomOf cells)) := hR
  obtain ⟨M, HM0⟩ : ∃ M, Hid (M = widL (paras s) (roomOf cells) 0) := ⟨_, rfl⟩
  have HM1 : Hid (M = wids R) := by unfold Hid; rw [HM0.out, HR0.out]; exact wid_max _ _ _
  have hRp : 0 < R.length := by rw [hR]; exact outL_pos s _
  have HX : Hid (∀ x ∈ R, x.size ≤ 1048576) := by
    intro x hx
    rw [hR] at hx
    have := outL_size hx
    omega
  rw [← HM0.out, ← hR]
  clear hR HM0
  have HL0 : Hid (LInv s (roomOf cells) R w 0 0 [] (.slice none 0 0) w) := by
    refine ⟨Nat.zero_le _, Nat.le_refl _, fun _ => ⟨fun j _ _ h => absurd h (Nat.not_lt_zero j), ?_⟩, fun h => absurd h (Nat.not_lt_zero _), World.ownsRow_nil _ _ _ _, Below.refl _ _⟩
    rw [ByteArray.extract_zero_size, HR0.out]; rfl
  go_enter Tryd.func21, Tryd.ntmps21
  go_wp2_with fail
  go_loopw [6, 7, 8] (fun v a b wr => ∃ (p i : Nat) (os : List ByteArray), a = .int .i64 p ∧ b = .int .i64 i ∧ LInv s (roomOf cells) R w p i os v wr) (fun _ _ b _ => s.size + 1 - (intOf b).toNat)
  case atStart => exact ⟨0, 0, [], rfl, rfl, HL0.out⟩
  case round =>
    obtain ⟨p, i, os, rfl, rfl, hI⟩ := hrel
    have HV : Hid (LInv s (roomOf cells) R w p i os u6 wr) := hI
    obtain ⟨h1, h2, h3, h4, hown, hBr⟩ := hI
    have HO : Hid (wr.ownsRow w.heap.size 9 1 u6 os.length (os.map Value.string) ∧ Below w.heap.size w wr) := ⟨hown, hBr⟩
    by_cases hlt : i < s.size
    · have hq := (h3 (Nat.le_of_lt hlt)).2
      have hno : Hid (∀ (j : Nat) (h : j < s.size), p ≤ j → j < i → (s[j]).toNat ≠ 10) := (h3 (Nat.le_of_lt hlt)).1
      by_cases h10 : (s[i]).toNat = 10
      · rw [paras_found h2 hlt h10 hno.out, outL_cons] at hq
        have HQ : Hid (R = os ++ (outP (s.extract p i) (roomOf cells) ++ outL (paras (s.extract (i + 1) s.size)) (roomOf cells))) := hq
        clear h3 h4 hown hBr hq
        go_wp2_with fail
        refine (rpara_out (s.extract p i) cells wr (by rw [ByteArray.size_extract]; omega)).mono ?_
        rintro e w1 ⟨v1, rfl, own1, hb⟩
        obtain ⟨xs, hxs⟩ : ∃ xs, xs = outP (s.extract p i) (roomOf cells) := ⟨_, rfl⟩
        have hxp : 0 < xs.length := by rw [hxs]; exact outP_pos _ _
        rw [← hxs] at own1
        obtain ⟨g, cap, rfl, hcap, hg1, hg2, hcell⟩ := row_src own1 hxp
        have hcl : Hid (∀ (j : Nat) (u : Value), (xs.map Value.string)[j]? = some u → w1.cell? ((⟨g, 0, none⟩ : Addr).add j) = some u) := hcell
        have H1 : Hid (w1.ownsRow w.heap.size 9 1 u6 os.length (os.map Value.string) ∧ Below w.heap.size w w1) := ⟨row_below HO.out.1 hb, HO.out.2.trans (hb.mono HO.out.2.size)⟩
        have hll : os.length + xs.length ≤ R.length := by
          rw [HQ.out, ← hxs]
          simp only [List.length_append]
          omega
        have hc3 : Hid (os.length + xs.length ≤ maxLen) := by unfold Hid maxLen; omega
        have hc4 : Hid ((os.length + xs.length) * 16 ≤ 140737488355328) := by unfold Hid; omega
        have hc5 : Hid (w.heap.size ≤ w1.heap.size) := H1.out.2.size
        obtain ⟨hi, hz0, hz1, hz2⟩ := HI.out
        have HXs : Hid (xs = outP (s.extract p i) (roomOf cells)) := hxs
        clear hb own1 hcell hxs hxp hll
        go_wp2_with (at_builtin; refine wpList_append_own _ rfl _ _ 31 rfl w.heap.size 9 i0 (.string ByteArray.empty) 1 16 Tryd.underlying31 hi hz0 hz1 hz2 rfl (by decide) u6 os.length (os.map Value.string) rfl H1.out.1 _ xs.length cap (xs.map Value.string) rfl (by simp) hcl.out (strs_one xs) hc3.out hc4.out hc5.out ?_)
        intro v' w4 hown' hgrow hnil
        have H4 : Hid (Below w.heap.size w w4 ∧ w4.ownsRow w.heap.size 9 1 v' (os ++ xs).length ((os ++ xs).map Value.string)) := app_many H1.out.2 H1.out.1 hown' hgrow
        clear hown' hgrow hnil hi hz0 hz1 hz2
        go_wp2
        refine ⟨⟨i + 1, i + 1, os ++ xs, by go_num, by go_num, ?_⟩, by simp [intOf]; omega⟩
        refine ⟨by omega, Nat.le_refl _, fun _ => ⟨fun j _ h1 h2 => by omega, by rw [HQ.out, HXs.out, List.append_assoc]⟩, fun h => by omega, H4.out.2, H4.out.1⟩
      · clear h3 h4 hown hBr
        have e1 : ((i : Int) == (s.size : Int)) = false := by simp; omega
        have e2 : (((s[i]).toNat : Int) == 10) = false := by simp; omega
        go_wp2
        refine ⟨⟨p, i + 1, os, rfl, by go_num, ?_⟩, by simp [intOf]; omega⟩
        refine ⟨by omega, by omega, fun _ => ⟨fun j hj a b => ?_, hq⟩, fun h => by omega, HO.out.1, HO.out.2⟩
        rcases Nat.lt_or_eq_of_le (Nat.le_of_lt_succ b) with h | rfl
        · exact hno.out j hj a h
        · exact h10
    · by_cases hle : i ≤ s.size
      · obtain rfl : i = s.size := by omega
        have hq := (h3 (Nat.le_refl _)).2
        have hno : Hid (∀ (j : Nat) (h : j < s.size), p ≤ j → j < s.size → (s[j]).toNat ≠ 10) := (h3 (Nat.le_refl _)).1
        rw [paras_none (fun j hj a => hno.out j hj a hj), outL_cons] at hq
        have HQ : Hid (R = os ++ outP (s.extract p s.size) (roomOf cells)) := by unfold Hid; rw [hq]; simp [outL]
        clear h3 h4 hown hBr hq
        go_wp2_with fail
        refine (rpara_out (s.extract p s.size) cells wr (by rw [ByteArray.size_extract]; omega)).mono ?_
        rintro e w1 ⟨v1, rfl, own1, hb⟩
        obtain ⟨xs, hxs⟩ : ∃ xs, xs = outP (s.extract p s.size) (roomOf cells) := ⟨_, rfl⟩
        have hxp : 0 < xs.length := by rw [hxs]; exact outP_pos _ _
        rw [← hxs] at own1
        obtain ⟨g, cap, rfl, hcap, hg1, hg2, hcell⟩ := row_src own1 hxp
        have hcl : Hid (∀ (j : Nat) (u : Value), (xs.map Value.string)[j]? = some u → w1.cell? ((⟨g, 0, none⟩ : Addr).add j) = some u) := hcell
        have H1 : Hid (w1.ownsRow w.heap.size 9 1 u6 os.length (os.map Value.string) ∧ Below w.heap.size w w1) := ⟨row_below HO.out.1 hb, HO.out.2.trans (hb.mono HO.out.2.size)⟩
        have hll : os.length + xs.length ≤ R.length := by
          rw [HQ.out, ← hxs]
          simp only [List.length_append]
          omega
        have hc3 : Hid (os.length + xs.length ≤ maxLen) := by unfold Hid maxLen; omega
        have hc4 : Hid ((os.length + xs.length) * 16 ≤ 140737488355328) := by unfold Hid; omega
        have hc5 : Hid (w.heap.size ≤ w1.heap.size) := H1.out.2.size
        obtain ⟨hi, hz0, hz1, hz2⟩ := HI.out
        have HXs : Hid (xs = outP (s.extract p s.size) (roomOf cells)) := hxs
        clear hb own1 hcell hxs hxp hll
        go_wp2_with (at_builtin; refine wpList_append_own _ rfl _ _ 31 rfl w.heap.size 9 i0 (.string ByteArray.empty) 1 16 Tryd.underlying31 hi hz0 hz1 hz2 rfl (by decide) u6 os.length (os.map Value.string) rfl H1.out.1 _ xs.length cap (xs.map Value.string) rfl (by simp) hcl.out (strs_one xs) hc3.out hc4.out hc5.out ?_)
        intro v' w4 hown' hgrow hnil
        have H4 : Hid (Below w.heap.size w w4 ∧ w4.ownsRow w.heap.size 9 1 v' (os ++ xs).length ((os ++ xs).map Value.string)) := app_many H1.out.2 H1.out.1 hown' hgrow
        clear hown' hgrow hnil hi hz0 hz1 hz2
        go_wp2
        refine ⟨⟨s.size + 1, s.size + 1, os ++ xs, by go_num, by go_num, ?_⟩, by simp [intOf]⟩
        refine ⟨Nat.le_refl _, Nat.le_refl _, fun h => by omega, fun _ => by rw [HQ.out, HXs.out], H4.out.2, H4.out.1⟩
      · obtain rfl : i = s.size + 1 := by omega
        obtain rfl : R = os := h4 (by omega)
        clear h3 h4 hown hBr
        have HB : Hid (wr.ownsRow w.heap.size 9 1 u6 R.length (R.map Value.string) ∧ Below w.heap.size w wr) := HO.out
        obtain ⟨g, cap, rfl, hcap, hg, hRd⟩ := row_rd HB.out.1 hRp
        clear hg
        have HRd : Hid (Rd wr g R) := hRd
        clear hRd HV
        go_wp2_with fail
        obtain ⟨wo, hwo⟩ : ∃ wo : World, wo = wr := ⟨_, rfl⟩
        go_loopw [9, 10] (fun m b wq => ∃ k : Nat, b = .int .i64 k ∧ k ≤ R.length ∧ m = .int .i64 (wids (R.take k)) ∧ (wq.ownsRow w.heap.size 9 1 (.slice (some ⟨g, 0, none⟩) R.length cap) R.length (R.map Value.string) ∧ Below w.heap.size w wq) ∧ Rd wq g R) (fun _ b _ => R.length - (intOf b).toNat)
        case atStart => exact ⟨0, rfl, Nat.zero_le _, rfl, HB.out, HRd.out⟩
        case round =>
          obtain ⟨k, rfl, hk, rfl, hO, hRd⟩ := hrel
          by_cases hlt : k < R.length
          · have htk : R.take (k + 1) = R.take k ++ [R[k]] := List.take_succ_eq_append_getElem hlt
            have hxs := HX.out R[k] (List.getElem_mem hlt)
            have hc := hRd.2 k hlt
            obtain ⟨x, hx⟩ : ∃ x, x = R[k] := ⟨_, rfl⟩
            rw [← hx] at hxs hc htk
            have hpc := sumC_pc x
            have HN : Hid (wids (R.take (k + 1)) = max (wids (R.take k)) (sumC (pcs x))) := by unfold Hid; rw [htk, wids_snoc]
            have HC : Hid (∀ w, Calls Tryd.prog 11 #[.string x] w fun e w' => e = .returned (.tuple #[.int .i64 (sumC (pcs x)), .int .i64 (pcs x).length]) ∧ Below w.heap.size w w') := fun w => rcells_any x w hxs
            have HP : Hid ((wr.ownsRow w.heap.size 9 1 (.slice (some ⟨g, 0, none⟩) R.length cap) R.length (R.map Value.string) ∧ Below w.heap.size w wr) ∧ Rd wr g R) := ⟨hO, hRd⟩
            clear hO hRd hx htk HRd HB
            generalize sumC (pcs x) = y at *
            generalize (pcs x).length = n at *
            generalize wids (R.take k) = m at *
            by_cases hgt : m < y
            all_goals
              go_wp2_with fail
              refine (HC.out _).mono ?_
              rintro e w1 ⟨rfl, hb⟩
              have HQ : Hid ((w1.ownsRow w.heap.size 9 1 (.slice (some ⟨g, 0, none⟩) R.length cap) R.length (R.map Value.string) ∧ Below w.heap.size w w1) ∧ Rd w1 g R) := ⟨⟨row_below HP.out.1.1 hb, HP.out.1.2.trans (hb.mono HP.out.1.2.size)⟩, HP.out.2.below hb⟩
              clear hb hc
              have HRel : Hid (∀ z, z = max m y → ∃ k' : Nat, Value.int .i64 ((k : Int) + 1) = .int .i64 k' ∧ k' ≤ R.length ∧ Value.int .i64 z = .int .i64 (wids (R.take k')) ∧ (w1.ownsRow w.heap.size 9 1 (.slice (some ⟨g, 0, none⟩) R.length cap) R.length (R.map Value.string) ∧ Below w.heap.size w w1) ∧ Rd w1 g R) := by
                intro z hz
                exact ⟨k + 1, by go_num, by omega, by rw [hz, HN.out], HQ.out.1, HQ.out.2⟩
              go_wp2
              go_roundw
              case rel =>
                repeat apply Exists.intro
                first | exact ⟨HRel.out y (by omega), rfl⟩ | exact ⟨HRel.out m (by omega), rfl⟩
              case measure => simp [intOf]; omega
          · obtain rfl : k = R.length := by omega
            rw [List.take_length]
            go_wp2
            go_ret2
            exact ⟨_, by rw [HM1.out]; rfl, hO.1, hO.2⟩

set_option maxHeartbeats 2000000 in
theorem texts_rd (l : List ByteArray) (g g' cap cap' : Nat) (w : World) (hg : Rd w g l) (hg' : Rd w g' l) (hl : l.length < 9223372036854775807) :
    Calls Tryd.prog 22 #[.slice (some ⟨g, 0, none⟩) l.length cap, .slice (some ⟨g', 0, none⟩) l.length cap'] w fun e w' => e = .returned (.bool true) ∧ Below w.heap.size w w' := by
  have HR : Hid ((Rd w g l ∧ Rd w g' l) ∧ Below w.heap.size w w) := ⟨⟨hg, hg'⟩, Below.refl _ _⟩
  clear hg hg'
  go_enter Tryd.func22, Tryd.ntmps22
  go_wp2_with fail
  go_loopw [5] (fun a wr => ∃ i : Nat, a = .int .i64 i ∧ i ≤ l.length ∧ (Rd wr g l ∧ Rd wr g' l) ∧ Below w.heap.size w wr) (fun a _ => l.length - (intOf a).toNat)
  case atStart => exact ⟨0, rfl, Nat.zero_le _, HR.out⟩
  case round =>
    obtain ⟨i, rfl, hi, hrd, hbl⟩ := hrel
    have HB : Hid ((Rd wr.drew g l ∧ Rd wr.drew g' l) ∧ Below w.heap.size w wr.drew) := by
      have h : Below wr.heap.size wr wr.drew := (Below.refl _ _).drew
      exact ⟨⟨hrd.1.below h, hrd.2.below h⟩, hbl.trans (h.mono hbl.size)⟩
    by_cases hlt : i < l.length
    · have c1 := hrd.1.2 i hlt
      have c2 := hrd.2.2 i hlt
      generalize l[i] = x at c1 c2
      clear hrd hbl
      go_wp2_with fail
      go_region
      go_wp2
      go_roundw
      case rel => exact ⟨i + 1, by go_num, by omega, HB.out⟩
      case measure => simp [intOf]; omega
    · go_wp2
      go_ret
      exact ⟨rfl, hbl⟩

theorem Rd.other {W : World} {g g' : Nat} {R : List ByteArray} (h : Rd W g' R) (o : Nat) (v : Value) (hg : g ≠ g') : Rd (W.setCell ⟨g, o, none⟩ v) g' R := by
  have e : (W.setCell ⟨g, o, none⟩ v).heap[g']? = W.heap[g']? := Below.heap_setCell _ _ _ g' (fun e => hg e.symm)
  refine ⟨Nat.lt_of_lt_of_le h.1 (KeepsWalks.setCell W _ v).size, fun i hi => ?_⟩
  have := h.2 i hi
  simp only [World.cell?] at this ⊢
  rw [e]
  exact this
theorem row_blk {base : Nat} {e : TypeId} {v : Value} {n : Nat} {xs : List Value} {X : World} (h : X.ownsRow base e 1 v n xs) (hn : 0 < n) :
    ∃ g cap cs, v = .slice (some ⟨g, 0, none⟩) n cap ∧ n ≤ cap ∧ base ≤ g ∧ Blk X g cs e ∧ n ≤ cs.size := by
  obtain ⟨hl, h⟩ := h
  rcases h with ⟨_, h0⟩ | ⟨g, cap, cur, rfl, hb, hc, h3, _, h5, h4⟩
  · omega
  · exact ⟨g, cap, cur, rfl, h3, hb, hc, by omega⟩

end Go.Proofs.YtlooemhaoikidaaDoor
