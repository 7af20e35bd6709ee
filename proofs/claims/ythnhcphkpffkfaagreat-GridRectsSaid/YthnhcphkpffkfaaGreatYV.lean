/-
  Package grid: used, heights.
-/
import Derived.Test.YthnhcphkpffkfaaGreatYC
import Derived.Test.YthnhcphkpffkfaaGreatYG
import Derived.Test.YthnhcphkpffkfaaGreatXI
namespace Go.Proofs.YthnhcphkpffkfaaGreat
open Go.RowKit
attribute [local go_sem] ite_maxK ite_minK

theorem prw_row_le {n : Nat} (h0 : 0 < n) (l : List Int) : ∀ r ∈ prw n l, r.length ≤ l.length := ptR_row_le n h0 l l.length (Nat.le_refl _)
theorem each_prw {n : Nat} (h0 : 0 < n) {l : List Int} (hl : l.length ≤ 1024) {v : Value} {us : List Value} {F : Nat} {caps : Array Value} {I : Nat → World → Prop}
    (eg : ∀ args w, (callFunc F args).run Tryz.prog w = .ok (.enter F args) w) (rows : ∀ k W, I k W → RsM W v us (prw n l)) (bel : ∀ k W W', I k W → Below W.heap.size W W' → I k W')
    (call : ∀ k (hk : k < (cel n l).length) W, I k W → Calls Tryz.prog F (#[.int .i64 ((cel n l)[k].y : Nat), .agg #[.int .i64 (k : Nat), .int .i64 ((cel n l)[k].x : Nat), .int .i64 (((cel n l)[k].x + (cel n l)[k].k : Nat) : Int)]] ++ caps) W fun e w' => e = .returned (.tuple #[]) ∧ I (k + 1) w')
    (w : World) (h : I 0 w) :
    Calls Tryz.prog 30 #[.agg #[.int .i64 (n : Nat), v], .func (.func F) #[] caps] w fun e w' => e = .returned (.tuple #[]) ∧ Hid (I l.length w') := by
  have hU : Uses (prw n l) v us F caps I := by
    refine ⟨eg, rows, bel, fun r hr j hj W hW => ?_, ?_, fun r hr => ?_⟩
    · obtain ⟨hk, e1, e2⟩ := prw_at h0 l hr hj
      have := call _ hk W hW
      rw [e1] at this
      rw [e2]
      exact this
    · have := prw_len h0 l; omega
    · have := prw_row_le h0 l r hr; omega
  have := each_any hU (n : Nat) w h
  rwa [prw_off h0 l] at this

theorem used1_enters : ∀ args w, (callFunc 77 args).run Tryz.prog w = .ok (.enter 77 args) w := enters_of Tryz.func77 (by kernel_rfl) rfl
set_option maxHeartbeats 2000000 in
theorem used1_any (r t a b : Nat) (x : Int) (g : Nat) (w : World) (hk : Bk w g #[.int .i64 x] 3) :
    Calls Tryz.prog 77 #[.int .i64 (r : Nat), .agg #[.int .i64 (t : Nat), .int .i64 (a : Nat), .int .i64 (b : Nat)], .pointer (some ⟨g, 0, none⟩)] w fun e w' => e = .returned (.tuple #[]) ∧ w' = (w.setCell ⟨g, 0, none⟩ (.int .i64 (max x (b : Nat)))).alloc (.cells #[.int .i64 (t : Nat), .int .i64 (a : Nat), .int .i64 (b : Nat)] 68) := by
  have c0 : w.cell? ⟨g, 0, none⟩ = some (.int .i64 x) := by rw [hk.cell]; rfl
  have f0 := hk.frozen 0
  have hl := hk.lt
  go_enter Tryz.func77, Tryz.ntmps77
  go_wp2
  go_end0
  exact ⟨rfl, rfl⟩

set_option maxHeartbeats 2000000 in
theorem used_any {n : Nat} (h0 : 0 < n) {l : List Int} (hl : l.length ≤ 1024) {lo : Nat} {v : Value} {us : List Value} {w : World} (hp : PlM lo w v us (prw n l)) :
    Calls Tryz.prog 58 #[.agg #[.int .i64 (n : Nat), v]] w fun e w' => e = .returned (.int .i64 (usd (cel n l) : Nat)) ∧ Below w.heap.size w w' := by
  have HE : Hid (∀ (g : Nat) (W : World), w.heap.size ≤ g → Below w.heap.size w W → Bk W g #[.int .i64 0] 3 → Calls Tryz.prog 30 #[.agg #[.int .i64 (n : Nat), v], .func (.func 77) #[] #[.pointer (some ⟨g, 0, none⟩)]] W fun e w' => e = .returned (.tuple #[]) ∧ Hid (Below w.heap.size w w' ∧ Bk w' g #[.int .i64 (usd (cel n l) : Nat)] 3)) := by
    intro g W hg hb hk
    have := each_prw h0 hl (v := v) (us := us) (F := 77) (caps := #[.pointer (some ⟨g, 0, none⟩)]) (I := fun k W => Below w.heap.size w W ∧ Bk W g #[.int .i64 (usd ((cel n l).take k) : Nat)] 3) used1_enters (fun k W h => (hp.below h.1).rs) (fun k W W' h hb => ⟨h.1.trans (hb.mono h.1.size), h.2.below hb⟩) (fun k hk W h => ?_) W ⟨hb, hk⟩
    · refine this.mono ?_
      rintro e w' ⟨rfl, H⟩
      have := H.out
      rw [List.take_of_length_le (by rw [cel_len]; exact Nat.le_refl _)] at this
      exact ⟨rfl, this⟩
    · refine (used1_any _ _ _ _ _ g W h.2).mono ?_
      rintro e w' ⟨rfl, rfl⟩
      have b1 := h.1.setCell (p := ⟨g, 0, none⟩) hg (.int .i64 (max ((usd ((cel n l).take k) : Nat) : Int) (((cel n l)[k].x + (cel n l)[k].k : Nat) : Int)))
      refine ⟨rfl, b1.alloc b1.size _, ?_⟩
      have e : ((usd ((cel n l).take (k + 1)) : Nat) : Int) = max ((usd ((cel n l).take k) : Nat) : Int) (((cel n l)[k].x + (cel n l)[k].k : Nat) : Int) := by
        rw [List.take_succ_eq_append_getElem hk, usd_snoc]
        omega
      rw [e]
      exact (h.2.put 0 _).alloc _
  obtain ⟨oa, cap, e1, _, _⟩ := row_val hp.own
  subst e1
  generalize (prw n l).length = rl at *
  clear hp
  go_enter Tryz.func58, Tryz.ntmps58
  go_wp2_with fail
  have H1 : Hid (w.heap.size ≤ w.heap.size + 1 ∧ Below w.heap.size w ((w.alloc (.cells #[.int .i64 (n : Nat), .slice oa rl cap] 58)).alloc (.cells #[.int .i64 0] 3)) ∧ Bk ((w.alloc (.cells #[.int .i64 (n : Nat), .slice oa rl cap] 58)).alloc (.cells #[.int .i64 0] 3)) (w.heap.size + 1) #[.int .i64 0] 3) := ⟨by omega, ((Below.refl _ _).alloc (Nat.le_refl _) _).alloc (by simp) _, Bk.newB (by simp)⟩
  refine (HE.out _ _ H1.out.1 H1.out.2.1 H1.out.2.2).mono ?_
  rintro e w1 ⟨rfl, H2⟩
  have c0 : w1.cell? ⟨w.heap.size + 1, 0, none⟩ = some (.int .i64 (usd (cel n l) : Nat)) := by rw [H2.out.2.cell]; rfl
  have HB : Hid (Below w.heap.size w w1) := H2.out.1
  clear H1 H2 HE
  go_wp2
  go_ret
  exact ⟨rfl, HB.out⟩

end Go.Proofs.YthnhcphkpffkfaaGreat

namespace Go.Proofs.YthnhcphkpffkfaaGreat
open Go.RowKit
attribute [local go_sem] ite_maxK ite_minK

theorem ext_getD {A B : List Int} (hl : A.length = B.length) (h : ∀ z, A.getD z 0 = B.getD z 0) : A = B := by
  refine List.ext_getElem hl fun i h1 h2 => ?_
  have := h i
  rwa [List.getD_eq_getElem?_getD, List.getD_eq_getElem?_getD, List.getElem?_eq_getElem h1, List.getElem?_eq_getElem h2] at this
theorem pad_getD (h : List Int) (n z : Nat) : (h ++ List.replicate n 0).getD z 0 = h.getD z 0 := by
  rw [List.getD_eq_getElem?_getD, List.getD_eq_getElem?_getD]
  by_cases c : z < h.length
  · rw [List.getElem?_append_left c]
  · rw [List.getElem?_append_right (by omega), List.getElem?_eq_none (by omega : h.length ≤ z)]
    by_cases c2 : z - h.length < n
    · rw [List.getElem?_replicate, if_pos c2]; rfl
    · rw [List.getElem?_replicate, if_neg c2]
theorem set_getD (A : List Int) (y z : Nat) (v : Int) (hy : y < A.length) : (A.set y v).getD z 0 = if z = y then v else A.getD z 0 := by
  rw [List.getD_eq_getElem?_getD, List.getD_eq_getElem?_getD]
  by_cases c : z = y
  · subst c
    rw [if_pos rfl, List.getElem?_set_self hy]; rfl
  · rw [if_neg c, List.getElem?_set_ne (fun e => c e.symm)]
/-- Heights while they are made. -/
def hpd (R : Nat) (n : Nat) (l ms : List Int) (k : Nat) : List Int := hgt (cel n (l.take k)) (ms.take k) ++ List.replicate (R - (hgt (cel n (l.take k)) (ms.take k)).length) 0
theorem prw_hgt {n : Nat} (h0 : 0 < n) {l ms : List Int} (hl : l.length = ms.length) (hm : ∀ m ∈ ms, 0 ≤ m ∧ m ≤ 16384) : (prw n l).length = (hgt (cel n l) ms).length := by
  have h1 := (hgt_facts h0 hl hm l.length (Nat.le_refl _)).1
  rw [List.take_of_length_le (Nat.le_refl _), List.take_of_length_le (l := ms) (by omega)] at h1
  unfold prw
  rw [ptR_len h0 l _ (Nat.le_refl _), h1, List.take_length]
theorem hgt_len_le {n : Nat} (h0 : 0 < n) {l ms : List Int} (hl : l.length = ms.length) (hm : ∀ m ∈ ms, 0 ≤ m ∧ m ≤ 16384) : ∀ k, k ≤ l.length → (hgt (cel n (l.take k)) (ms.take k)).length ≤ (prw n l).length := by
  have step : ∀ k, k < l.length → (hgt (cel n (l.take k)) (ms.take k)).length ≤ (hgt (cel n (l.take (k + 1))) (ms.take (k + 1))).length := fun k hk => by
    rw [hgt_take hl hk, hgS_len]
    · omega
    · rw [(hgt_facts h0 hl hm k (by omega)).1]
      by_cases c : k = 0
      · subst c
        have hw := wdN_bd h0 l[0]
        have e : nxC n 0 0 l[0] = ⟨0, 0, wdN n l[0]⟩ := by unfold nxC; rw [if_neg (by omega)]
        simp only [List.take_zero, celX, celY]
        rw [e]
        simp
      · rw [if_neg c]
        have := nxC_y (n := n) (x := celX n 0 0 (l.take k)) (y := celY n 0 0 (l.take k)) l[k]
        omega
  have up : ∀ d k, k + d = l.length → (hgt (cel n (l.take k)) (ms.take k)).length ≤ (hgt (cel n (l.take l.length)) (ms.take l.length)).length := by
    intro d
    induction d with
    | zero => intro k hk; rw [show k = l.length by omega]; exact Nat.le_refl _
    | succ d ih => intro k hk; exact Nat.le_trans (step k (by omega)) (ih (k + 1) (by omega))
  intro k hk
  have := up (l.length - k) k (by omega)
  rw [prw_hgt h0 hl hm]
  have e1 : l.take l.length = l := List.take_length
  have e2 : ms.take l.length = ms := by rw [hl, List.take_length]
  rwa [e1, e2] at this
theorem hpd_len {n : Nat} (h0 : 0 < n) {l ms : List Int} (hl : l.length = ms.length) (hm : ∀ m ∈ ms, 0 ≤ m ∧ m ≤ 16384) {k : Nat} (hk : k ≤ l.length) : (hpd (prw n l).length n l ms k).length = (prw n l).length := by
  have := hgt_len_le h0 hl hm k hk
  unfold hpd
  rw [List.length_append, List.length_replicate]
  omega
theorem hpd_step {n : Nat} (h0 : 0 < n) {l ms : List Int} (hl : l.length = ms.length) (hm : ∀ m ∈ ms, 0 ≤ m ∧ m ≤ 16384) {k : Nat} (hk : k < (cel n l).length) (hk2 : k < ms.length) : (cel n l)[k].y < (prw n l).length ∧ (hpd (prw n l).length n l ms k).set (cel n l)[k].y (max ((hpd (prw n l).length n l ms k).getD (cel n l)[k].y 0) ms[k]) = hpd (prw n l).length n l ms (k + 1) := by
  have hk' : k < l.length := by omega
  have hy : (cel n l)[k].y < (prw n l).length := by
    rw [prw_hgt h0 hl hm]
    exact ((hgt_all h0 hl hm).2.2 k hk').2
  refine ⟨hy, ?_⟩
  have hyl : (cel n l)[k].y ≤ (hgt (cel n (l.take k)) (ms.take k)).length := by
    rw [(hgt_facts h0 hl hm k (by omega)).1, cel_at_take hk']
    by_cases c : k = 0
    · subst c
      have hw := wdN_bd h0 l[0]
      have e : nxC n 0 0 l[0] = ⟨0, 0, wdN n l[0]⟩ := by unfold nxC; rw [if_neg (by omega)]
      simp only [List.take_zero, celX, celY]
      rw [e]
      simp
    · rw [if_neg c]
      have := nxC_y (n := n) (x := celX n 0 0 (l.take k)) (y := celY n 0 0 (l.take k)) l[k]
      omega
  refine ext_getD ?_ fun z => ?_
  · rw [List.length_set, hpd_len h0 hl hm (by omega), hpd_len h0 hl hm (by omega)]
  · rw [set_getD _ _ _ _ (by rw [hpd_len h0 hl hm (by omega)]; exact hy)]
    unfold hpd
    rw [pad_getD, pad_getD, pad_getD, hgt_take hl hk', ← cel_at_take hk', hgS_at hyl]
theorem hpd_end {n : Nat} (h0 : 0 < n) {l ms : List Int} (hl : l.length = ms.length) (hm : ∀ m ∈ ms, 0 ≤ m ∧ m ≤ 16384) : hpd (prw n l).length n l ms l.length = hgt (cel n l) ms := by
  unfold hpd
  rw [List.take_of_length_le (l := l) (Nat.le_refl _), List.take_of_length_le (l := ms) (by omega), prw_hgt h0 hl hm, Nat.sub_self]
  simp
theorem hpd_zero (R n : Nat) (l ms : List Int) : hpd R n l ms 0 = List.replicate R 0 := by
  unfold hpd
  simp [hgt, hgF, cel, celF]

theorem heights1_enters : ∀ args w, (callFunc 76 args).run Tryz.prog w = .ok (.enter 76 args) w := enters_of Tryz.func76 (by kernel_rfl) rfl
set_option maxRecDepth 10000 in
set_option maxHeartbeats 4000000 in
theorem heights1_any (y t a b R hb tb hg : Nat) (X ms : List Int) (tv : Value) (w : World) (h1 : Bk w hb #[.slice (some ⟨hg, 0, none⟩) R R] 22) (h2 : Bk w tb #[tv] 22) (h3 : Nb w hg X) (hX : X.length = R) (h4 : IS w tv ms) (hy : y < R) (ht : t < ms.length) :
    Calls Tryz.prog 76 #[.int .i64 (y : Nat), .agg #[.int .i64 (t : Nat), .int .i64 (a : Nat), .int .i64 (b : Nat)], .pointer (some ⟨hb, 0, none⟩), .pointer (some ⟨tb, 0, none⟩)] w fun e w' => e = .returned (.tuple #[]) ∧ ∃ x, Below w.heap.size w x ∧ w' = x.setCell ⟨hg, y, none⟩ (.int .i64 (max (X.getD y 0) ms[t])) := by
  obtain ⟨oa, cap, rfl, _, hgg⟩ := h4
  obtain ⟨tg, th, rfl, htl, hat⟩ := hgg (by omega)
  have x0 : Hid (w.cell? ⟨hb, 0, none⟩ = some (.slice (some ⟨hg, 0, none⟩) R R)) := by unfold Hid; rw [h1.cell]; rfl
  have x1 : Hid (w.cell? ⟨tb, 0, none⟩ = some (.slice (some ⟨tg, th, none⟩) ms.length cap)) := by unfold Hid; rw [h2.cell]; rfl
  have x2 : Hid (w.cell? ⟨hg, y, none⟩ = some (.int .i64 (X.getD y 0))) := by
    unfold Hid
    rw [h3.at y (by omega), List.getD_eq_getElem?_getD, List.getElem?_eq_getElem (by omega)]
    rfl
  have x3 : Hid (w.cell? ⟨tg, th + t, none⟩ = some (.int .i64 ms[t])) := hat t ht
  have L : Hid (hb < w.heap.size ∧ tb < w.heap.size ∧ hg < w.heap.size ∧ tg < w.heap.size) := ⟨h1.lt, h2.lt, h3.lt, htl⟩
  have HF : Hid (w.frozen? ⟨hg, y, none⟩ = false) := h3.frozen y
  have HN : Hid (Nb w hg X) := h3
  have iy : (y : Int) < (R : Int) := by omega
  have it : (t : Int) < (ms.length : Int) := by omega
  have hcX : X.length = R := hX
  clear hgg hat h1 h2 h3 hX
  generalize hm : ms[t] = mm at *
  generalize hx : X.getD y 0 = xx at *
  clear hm hx
  go_enter Tryz.func76, Tryz.ntmps76
  go_upto_region 1 with fail
  have B1 : Below w.heap.size w (w.alloc (.cells #[.int .i64 (t : Nat), .int .i64 (a : Nat), .int .i64 (b : Nat)] 68)) := (Below.refl _ _).alloc (Nat.le_refl _) _
  have K1 : Bk (w.alloc (.cells #[.int .i64 (t : Nat), .int .i64 (a : Nat), .int .i64 (b : Nat)] 68)) w.heap.size #[.int .i64 (t : Nat), .int .i64 (a : Nat), .int .i64 (b : Nat)] 68 := Bk.new _ _ _
  generalize w.alloc (.cells #[.int .i64 (t : Nat), .int .i64 (a : Nat), .int .i64 (b : Nat)] 68) = W1 at *
  have HB : Hid (Below w.heap.size w W1 ∧ Bk W1 w.heap.size #[.int .i64 (t : Nat), .int .i64 (a : Nat), .int .i64 (b : Nat)] 68) := ⟨B1, K1⟩
  clear B1 K1
  refine R4.wp_region_lit 13 0 1 (fun _ _ => undef) (fun _ => .cells #[] 0) [] (by kernel_rfl) (by kernel_rfl) rfl (fun k hk => absurd hk (by omega)) rfl ?_
  apply Exists.intro
  refine ⟨fun bs ne => ?_, fun i h1 h2 => absurd h2 (by omega), ?_⟩
  · have hs := HB.out.1
    have d0 := fun t : Gb W1 bs => (t.below.cell (p := ⟨hb, 0, none⟩) (Nat.lt_of_lt_of_le L.out.1 hs.size)).trans ((hs.cell (p := ⟨hb, 0, none⟩) L.out.1).trans x0.out)
    have d1 := fun t : Gb W1 bs => (t.below.cell (p := ⟨tb, 0, none⟩) (Nat.lt_of_lt_of_le L.out.2.1 hs.size)).trans ((hs.cell (p := ⟨tb, 0, none⟩) L.out.2.1).trans x1.out)
    have d2 := fun t : Gb W1 bs => (t.below.cell (p := ⟨hg, y, none⟩) (Nat.lt_of_lt_of_le L.out.2.2.1 hs.size)).trans ((hs.cell (p := ⟨hg, y, none⟩) L.out.2.2.1).trans x2.out)
    have d3 := fun u : Gb W1 bs => (u.below.cell (p := ⟨tg, th + t, none⟩) (Nat.lt_of_lt_of_le L.out.2.2.2 hs.size)).trans ((hs.cell (p := ⟨tg, th + t, none⟩) L.out.2.2.2).trans x3.out)
    have d4 := fun u : Gb W1 bs => (show u.wd.cell? ⟨w.heap.size, 0, none⟩ = some (.int .i64 (t : Nat)) by rw [(HB.out.2.below u.below).cell]; rfl)
    clear hs
    simp only [List.take_succ_cons, List.take_zero]
    repeat (go_big_quiet_step (fail))
    exact wpQuiet_nil rfl
  · intro bl wx hbl _ _
    simp only [R4.layL]
    have hb2 := HB.out.1.trans (hbl.mono HB.out.1.size)
    have HX : Hid (Below w.heap.size w wx) := hb2
    have b1 : wx.cell? ⟨hg, y, none⟩ = some (.int .i64 xx) := (hb2.cell (p := ⟨hg, y, none⟩) L.out.2.2.1).trans x2.out
    have ff : wx.frozen? ⟨hg, y, none⟩ = false := (HN.out.below hb2).frozen y
    clear hbl HB hb2
    refine wpAny_one 13 (by kernel_rfl) rfl ?_
    intro K hK
    go_simp
    refine hK _ _ ?_
    clear hK K
    refine wpAny_done (by kernel_rfl) ?_ _
    go_wp2
    go_end0
    exact ⟨rfl, wx, HX.out, rfl⟩

theorem Nb.lenEq {w : World} {g : Nat} {X Y : List Int} (h : Nb w g X) (e : X = Y) : Nb w g Y := e ▸ h
set_option maxRecDepth 10000 in
set_option maxHeartbeats 4000000 in
theorem heights_any {n : Nat} (h0 : 0 < n) {l ms : List Int} (hl : l.length ≤ 1024) (hml : l.length = ms.length) (hm : ∀ m ∈ ms, 0 ≤ m ∧ m ≤ 16384) {lo : Nat} {v tv : Value} {us : List Value} {w : World} (hp : PlM lo w v us (prw n l)) (ht : IS w tv ms) :
    Calls Tryz.prog 52 #[.agg #[.int .i64 (n : Nat), v], tv] w fun e w' => ∃ u, e = .returned u ∧ Hid (OwI w.heap.size w' u (hgt (cel n l) ms) ∧ Below w.heap.size w w') := by
  have HE : Hid (∀ (hb tb hg : Nat) (W : World), w.heap.size ≤ hg → hb ≠ hg → tb ≠ hg → Below w.heap.size w W → Bk W hb #[.slice (some ⟨hg, 0, none⟩) (prw n l).length (prw n l).length] 22 → Bk W tb #[tv] 22 → Nb W hg (List.replicate (prw n l).length 0) → Calls Tryz.prog 30 #[.agg #[.int .i64 (n : Nat), v], .func (.func 76) #[] #[.pointer (some ⟨hb, 0, none⟩), .pointer (some ⟨tb, 0, none⟩)]] W fun e w' => e = .returned (.tuple #[]) ∧ Hid (Below w.heap.size w w' ∧ Bk w' hb #[.slice (some ⟨hg, 0, none⟩) (prw n l).length (prw n l).length] 22 ∧ Nb w' hg (hgt (cel n l) ms))) := by
    intro hb tb hg W hlo hn1 hn2 hbw k1 k2 k3
    have := each_prw h0 hl (v := v) (us := us) (F := 76) (caps := #[.pointer (some ⟨hb, 0, none⟩), .pointer (some ⟨tb, 0, none⟩)]) (I := fun k W => Below w.heap.size w W ∧ Bk W hb #[.slice (some ⟨hg, 0, none⟩) (prw n l).length (prw n l).length] 22 ∧ Bk W tb #[tv] 22 ∧ (k ≤ l.length → Nb W hg (hpd (prw n l).length n l ms k))) heights1_enters (fun k W h => (hp.below h.1).rs) (fun k W W' h hb => ⟨h.1.trans (hb.mono h.1.size), h.2.1.below hb, h.2.2.1.below hb, fun c => (h.2.2.2 c).below hb⟩) (fun k hk W h => ?_) W ⟨hbw, k1, k2, fun _ => by rw [hpd_zero]; exact k3⟩
    · refine this.mono ?_
      rintro e w' ⟨rfl, H⟩
      obtain ⟨a1, a2, _, a3⟩ := H.out
      have a4 := a3 (Nat.le_refl _)
      rw [hpd_end h0 hml hm] at a4
      exact ⟨rfl, a1, a2, a4⟩
    · have hk' : k < l.length := by rw [cel_len] at hk; exact hk
      obtain ⟨hy, hs⟩ := hpd_step h0 hml hm hk (by omega)
      obtain ⟨a1, a2, a3, a4⟩ := h
      have a5 := a4 (by omega)
      refine (heights1_any (cel n l)[k].y k (cel n l)[k].x ((cel n l)[k].x + (cel n l)[k].k) (prw n l).length hb tb hg (hpd (prw n l).length n l ms k) ms tv W a2 a3 a5 (hpd_len h0 hml hm (by omega)) (ht.below a1) hy (by omega)).mono ?_
      rintro e w' ⟨rfl, x, hx, rfl⟩
      refine ⟨rfl, (a1.trans (hx.mono a1.size)).setCell (p := ⟨hg, _, none⟩) hlo _, (a2.below hx).other _ _ (fun e => hn1 e.symm), (a3.below hx).other _ _ (fun e => hn2 e.symm), fun _ => ?_⟩
      rw [← hs]
      exact (a5.below hx).put _ _
  obtain ⟨oa, cap, e1, _, _⟩ := row_val hp.own
  have hrl : (prw n l).length ≤ 1024 := by have := prw_len h0 l; omega
  have HLn : Hid ((hgt (cel n l) ms).length = (prw n l).length) := (prw_hgt h0 hml hm).symm
  subst e1
  obtain ⟨th, tc, rfl, _, _⟩ := ht
  generalize (prw n l).length = rl at *
  have hmk := fun W => make_intsA rl (by omega) W
  clear hp hm
  go_enter Tryz.func52, Tryz.ntmps52
  go_wp2_with fail
  have H1 : Hid (Below w.heap.size w ((((w.alloc (.cells #[.int .i64 (n : Nat), .slice oa rl cap] 58)).alloc (.cells #[.slice th ms.length tc] 22)).alloc (.cells (flatI (List.replicate rl 0)).toArray 3)).alloc (.cells #[.slice (some ⟨w.heap.size + 1 + 1, 0, none⟩) rl rl] 22)) ∧ Bk ((((w.alloc (.cells #[.int .i64 (n : Nat), .slice oa rl cap] 58)).alloc (.cells #[.slice th ms.length tc] 22)).alloc (.cells (flatI (List.replicate rl 0)).toArray 3)).alloc (.cells #[.slice (some ⟨w.heap.size + 1 + 1, 0, none⟩) rl rl] 22)) (w.heap.size + 1 + 1 + 1) #[.slice (some ⟨w.heap.size + 1 + 1, 0, none⟩) rl rl] 22 ∧ Bk ((((w.alloc (.cells #[.int .i64 (n : Nat), .slice oa rl cap] 58)).alloc (.cells #[.slice th ms.length tc] 22)).alloc (.cells (flatI (List.replicate rl 0)).toArray 3)).alloc (.cells #[.slice (some ⟨w.heap.size + 1 + 1, 0, none⟩) rl rl] 22)) (w.heap.size + 1) #[.slice th ms.length tc] 22 ∧ Nb ((((w.alloc (.cells #[.int .i64 (n : Nat), .slice oa rl cap] 58)).alloc (.cells #[.slice th ms.length tc] 22)).alloc (.cells (flatI (List.replicate rl 0)).toArray 3)).alloc (.cells #[.slice (some ⟨w.heap.size + 1 + 1, 0, none⟩) rl rl] 22)) (w.heap.size + 1 + 1) (List.replicate rl 0)) := by
    refine ⟨((((Below.refl _ _).alloc (Nat.le_refl _) _).alloc (by simp) _).alloc (by simp; omega) _).alloc (by simp; omega) _, Bk.newB (by simp), ((Bk.newB (by simp)).alloc _).alloc _, ?_⟩
    exact Bk.alloc (Bk.newB (by simp)) _
  refine (HE.out (w.heap.size + 1 + 1 + 1) (w.heap.size + 1) (w.heap.size + 1 + 1) _ (by omega) (by omega) (by omega) H1.out.1 H1.out.2.1 H1.out.2.2.1 H1.out.2.2.2).mono ?_
  rintro e w1 ⟨rfl, H2⟩
  have c0 : w1.cell? ⟨w.heap.size + 1 + 1 + 1, 0, none⟩ = some (.slice (some ⟨w.heap.size + 1 + 1, 0, none⟩) rl rl) := by rw [H2.out.2.1.cell]; rfl
  have HF : Hid (OwI w.heap.size w1 (.slice (some ⟨w.heap.size + 1 + 1, 0, none⟩) rl rl) (hgt (cel n l) ms) ∧ Below w.heap.size w w1) := by
    have := H2.out.2.2.own (lo := w.heap.size) (by omega) (by rw [HLn.out]; unfold maxLen; omega)
    rw [HLn.out] at this
    exact ⟨this, H2.out.1⟩
  clear H1 H2 HE hmk
  go_wp2
  go_ret
  exact ⟨_, rfl, HF⟩

end Go.Proofs.YthnhcphkpffkfaaGreat
