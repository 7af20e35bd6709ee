/-
  Contracts of the document's answer for layer 2: kept, spans, alike.
-/
import Derived.Test.YtagkbpceiedikaaH3b
namespace Go.Proofs.Ytagkbpceiedikaa
open Go.RowKit

/-- Spans as numbers. -/
def spI : List Sp → List Int
  | [] => []
  | s :: t => s.1 :: s.2 :: spI t
theorem spI_len : ∀ l : List Sp, (spI l).length = l.length * 2
  | [] => rfl
  | _ :: t => by rw [spI, List.length_cons, List.length_cons, spI_len t, List.length_cons]; omega
theorem spI_app : ∀ l m : List Sp, spI (l ++ m) = spI l ++ spI m
  | [], _ => rfl
  | s :: t, m => by simp [spI, spI_app t m]
theorem spI_inj : ∀ {l m : List Sp}, spI l = spI m → l = m
  | [], [], _ => rfl
  | [], _ :: _, h => by simp [spI] at h
  | _ :: _, [], h => by simp [spI] at h
  | (a, b) :: t, (c, d) :: u, h => by
    simp only [spI, List.cons.injEq] at h
    obtain ⟨rfl, rfl, h3⟩ := h
    rw [spI_inj h3]
theorem spI_at : ∀ (l : List Sp) (k : Nat) (h : k < l.length), (spI l)[k * 2]? = some l[k].1 ∧ (spI l)[k * 2 + 1]? = some l[k].2
  | s :: t, 0, _ => ⟨rfl, rfl⟩
  | s :: t, k + 1, h => by
    obtain ⟨h1, h2⟩ := spI_at t k (by simpa using h)
    have e : (k + 1) * 2 = k * 2 + 1 + 1 := by omega
    rw [e, spI]
    exact ⟨by simpa using h1, by simpa using h2⟩
/-- A slice that holds numbers. -/
def IL (w : World) (v : Value) (xs : List Int) : Prop := ∃ oa cap, v = .slice oa xs.length cap ∧ xs.length ≤ cap ∧ (0 < xs.length → ∃ g cs, oa = some ⟨g, 0, none⟩ ∧ Bk w g cs 3 ∧ ∀ i (h : i < xs.length), cs[i]? = some (.int .i64 xs[i]))
theorem IL.below {w w' : World} {v : Value} {xs : List Int} (h : IL w v xs) (hb : Below w.heap.size w w') : IL w' v xs := by
  obtain ⟨oa, cap, e, hc, hg⟩ := h
  exact ⟨oa, cap, e, hc, fun hp => by obtain ⟨g, cs, e, hk, ha⟩ := hg hp; exact ⟨g, cs, e, hk.below hb, ha⟩⟩
theorem il_nil (w : World) : IL w (.slice none 0 0) [] := ⟨none, 0, rfl, Nat.le_refl _, fun h => absurd h (Nat.lt_irrefl 0)⟩
theorem il_own {w : World} {base : Nat} {v : Value} {xs : List Int} (h : w.ownsRow base 3 1 v xs.length (flatI xs)) : IL w v xs := by
  obtain ⟨hl, ⟨rfl, h0⟩ | ⟨g, cap, cur, rfl, hb, hc, h1, h2, h3, h4⟩⟩ := h
  · obtain rfl : xs = [] := List.length_eq_zero_iff.1 h0
    exact il_nil w
  · refine ⟨_, cap, rfl, h1, fun _ => ⟨g, cur, rfl, hc, fun i hi => ?_⟩⟩
    have e : (cur.toList.take (xs.length * 1))[i]? = cur[i]? := by rw [List.getElem?_take_of_lt (by omega), Array.getElem?_toList]
    rw [← e, h4, flatI_at xs i hi]
theorem IL.cells {w : World} {v : Value} {xs : List Int} (h : IL w v xs) : ∃ oa cap, v = .slice oa xs.length cap ∧ xs.length ≤ cap ∧ (0 < xs.length → ∃ g, oa = some ⟨g, 0, none⟩ ∧ g < w.heap.size ∧ ∀ i (h : i < xs.length), w.cell? ⟨g, i, none⟩ = some (.int .i64 xs[i])) := by
  obtain ⟨oa, cap, e, hc, hg⟩ := h
  exact ⟨oa, cap, e, hc, fun hp => by obtain ⟨g, cs, e, hk, ha⟩ := hg hp; exact ⟨g, e, hk.lt, fun i hi => by rw [hk.cell]; exact ha i hi⟩⟩
theorem Bk.grownO {W W' : World} {b : Nat} {vs : Array Value} {t : TypeId} (h : Bk W b vs t) {base : Nat} {e : TypeId} {size n : Nat} {u : Value} {xs : List Value} (hr : W.ownsRow base e size u n xs) (he : e ≠ t) (hg : W.grownBy W' u.ownBlock) : Bk W' b vs t := by
  refine h.grown hg ?_
  intro hb
  obtain ⟨_, hr⟩ := hr
  rcases hr with ⟨rfl, _⟩ | ⟨g, cap, cur, rfl, _, hc, _⟩
  · cases hb
  · simp [Value.ownBlock] at hb
    subst hb
    exact he (Bk.typ hc h)
theorem IL.grown {w w' : World} {v : Value} {ys : List Int} (h : IL w v ys) {base : Nat} {e : TypeId} {size n : Nat} {u : Value} {xs : List Value} (hr : w.ownsRow base e size u n xs) (he : e ≠ 3) (hg : w.grownBy w' u.ownBlock) : IL w' v ys := by
  obtain ⟨oa, cap, e, hc, hG⟩ := h
  exact ⟨oa, cap, e, hc, fun hp => by obtain ⟨g, cs, e, hk, ha⟩ := hG hp; exact ⟨g, cs, e, hk.grownO hr he hg, ha⟩⟩
theorem IL.other {w : World} {v : Value} {ys : List Int} (h : IL w v ys) {b : Nat} {vs : Array Value} {t : TypeId} (hb : Bk w b vs t) (ht : t ≠ 3) (o : Nat) (x : Value) : IL (w.setCell ⟨b, o, none⟩ x) v ys := by
  obtain ⟨oa, cap, e, hc, hG⟩ := h
  exact ⟨oa, cap, e, hc, fun hp => by
    obtain ⟨g, cs, e, hk, ha⟩ := hG hp
    exact ⟨g, cs, e, hk.other _ _ (by rintro rfl; exact ht (hb.typ hk)), ha⟩⟩

set_option maxHeartbeats 1000000 in
theorem dkept_any (a b : List Rc) (va vb : Value) (what x y : Int) (w : World) (ha : LsR w va a) (hb : LsR w vb b) (ma : Mays a) (mb : Mays b) (la : a.length ≤ 1000000) (lb : b.length ≤ 1000000) :
    Calls Try.prog 74 #[va, vb, .int .i64 what, .int .i64 x, .int .i64 y] w fun e w' => e = .returned (.bool (kpD what (hsD a x y) (hsD b x y))) ∧ Below w.heap.size w w' := by
  have HA : Hid (Calls Try.prog 65 #[va, .int .i64 x, .int .i64 y] w fun e w' => e = .returned (.bool (hsD a x y)) ∧ Below w.heap.size w w') := dhas_any a va x y w ha ma la
  have HB : Hid (∀ W, Below w.heap.size w W → Calls Try.prog 65 #[vb, .int .i64 x, .int .i64 y] W fun e w' => e = .returned (.bool (hsD b x y)) ∧ Below W.heap.size W w') := fun W h => dhas_any b vb x y W (hb.below h) mb lb
  clear ha hb ma mb
  generalize hsD a x y = p at *
  generalize hsD b x y = q at *
  have cs : what = 1 ∨ what = 2 ∨ (¬ what = 1 ∧ ¬ what = 2) := by omega
  have HR : Hid (∀ r : Bool, kpD what p q = r → kpD what p q = r) := fun _ h => h
  rcases cs with rfl | rfl | ⟨c1, c2⟩
  · have hk : Hid (kpD 1 p q = (p || q)) := by unfold Hid kpD; rw [if_pos rfl]
    rw [hk.out]
    clear hk HR
    cases p
    all_goals
      go_enter Try.func74, Try.ntmps74
      go_wp2_with fail
      refine HA.out.mono ?_
      rintro e w1 ⟨rfl, hb1⟩
      have H1 : Hid (Below w.heap.size w w1) := hb1
      clear hb1
      go_wp2_with fail
      refine (HB.out _ H1.out).mono ?_
      rintro e w2 ⟨rfl, hb2⟩
      have H2 : Hid (Below w.heap.size w w2) := H1.out.trans (hb2.mono H1.out.size)
      clear hb2
      go_wp2
      go_ret
      exact ⟨rfl, H2.out⟩
  · have hk : Hid (kpD 2 p q = (p && q)) := by unfold Hid kpD; rw [if_neg (by decide), if_pos rfl]
    rw [hk.out]
    clear hk HR
    cases p
    all_goals
      go_enter Try.func74, Try.ntmps74
      go_wp2_with fail
      refine HA.out.mono ?_
      rintro e w1 ⟨rfl, hb1⟩
      have H1 : Hid (Below w.heap.size w w1) := hb1
      clear hb1
      go_wp2_with fail
      refine (HB.out _ H1.out).mono ?_
      rintro e w2 ⟨rfl, hb2⟩
      have H2 : Hid (Below w.heap.size w w2) := H1.out.trans (hb2.mono H1.out.size)
      clear hb2
      go_wp2
      go_ret
      exact ⟨rfl, H2.out⟩
  · have hk : Hid (kpD what p q = (p && !q)) := by unfold Hid kpD; rw [if_neg c1, if_neg c2]
    rw [hk.out]
    clear hk HR
    cases p
    all_goals
      go_enter Try.func74, Try.ntmps74
      go_wp2_with fail
      refine HA.out.mono ?_
      rintro e w1 ⟨rfl, hb1⟩
      have H1 : Hid (Below w.heap.size w w1) := hb1
      clear hb1
      go_wp2_with fail
      refine (HB.out _ H1.out).mono ?_
      rintro e w2 ⟨rfl, hb2⟩
      have H2 : Hid (Below w.heap.size w w2) := H1.out.trans (hb2.mono H1.out.size)
      clear hb2
      go_wp2
      go_ret
      exact ⟨rfl, H2.out⟩

theorem take_eq {xs ys : List Int} (k : Nat) (hx : k < xs.length) (hy : k < ys.length) (h : xs.take k = ys.take k) (e : xs[k] = ys[k]) : xs.take (k + 1) = ys.take (k + 1) := by
  rw [← List.take_append_getElem hx, ← List.take_append_getElem hy, h, e]
theorem take_ne {xs ys : List Int} (k : Nat) (hx : k < xs.length) (hy : k < ys.length) (e : xs[k] ≠ ys[k]) : xs ≠ ys := by
  rintro rfl
  exact e rfl

set_option maxHeartbeats 1000000 in
theorem alike_any (xs ys : List Int) (v u : Value) (w : World) (hv : IL w v xs) (hu : IL w u ys) (hm : xs.length ≤ 1000000) :
    Calls Try.prog 57 #[v, u] w fun e w' => e = .returned (.bool (decide (xs = ys))) ∧ Below w.heap.size w w' := by
  obtain ⟨oa, ca, rfl, hca, hga⟩ := hv.cells
  obtain ⟨ob, cb, rfl, hcb, hgb⟩ := hu.cells
  have HA : Hid (0 < xs.length → ∃ g, oa = some ⟨g, 0, none⟩ ∧ g < w.heap.size ∧ ∀ i (h : i < xs.length), w.cell? ⟨g, i, none⟩ = some (.int .i64 xs[i])) := hga
  have HB : Hid (0 < ys.length → ∃ g, ob = some ⟨g, 0, none⟩ ∧ g < w.heap.size ∧ ∀ i (h : i < ys.length), w.cell? ⟨g, i, none⟩ = some (.int .i64 ys[i])) := hgb
  clear hga hgb hv hu
  obtain ⟨R, HR⟩ : ∃ R, Hid (R = decide (xs = ys)) := ⟨_, rfl⟩
  rw [← HR.out]
  by_cases hl : xs.length = ys.length
  · rw [← hl]
    have HL0 : Hid (xs.length = ys.length) := hl
    rw [← hl] at hcb
    clear hl
    go_enter Try.func57, Try.ntmps57
    go_wp2_with fail
    go_loopw [5] (fun i wr => ∃ k : Nat, i = .int .i64 k ∧ k ≤ xs.length ∧ Hid (xs.take k = ys.take k ∧ Below w.heap.size w wr)) (fun i _ => xs.length - (intOf i).toNat)
    case atStart => exact ⟨0, rfl, Nat.zero_le _, rfl, Below.refl _ _⟩
    case round =>
      obtain ⟨k, rfl, hk, HK⟩ := hrel
      by_cases hlt : k < xs.length
      · have ik : (k : Int) < xs.length := by omega
        have hk2 : k < ys.length := by rw [← HL0.out]; exact hlt
        obtain ⟨g, rfl, hg, hat⟩ := HA.out (by omega)
        obtain ⟨g2, rfl, hg2, hat2⟩ := HB.out (by omega)
        have x0 : wr.cell? ⟨g, k, none⟩ = some (.int .i64 xs[k]) := (HK.out.2.cell (p := ⟨g, k, none⟩) hg).trans (hat k hlt)
        have y0 : wr.cell? ⟨g2, k, none⟩ = some (.int .i64 ys[k]) := (HK.out.2.cell (p := ⟨g2, k, none⟩) hg2).trans (hat2 k hk2)
        have HT : Hid ((xs[k] = ys[k] → xs.take (k + 1) = ys.take (k + 1)) ∧ (xs[k] ≠ ys[k] → R = false)) := ⟨fun e => take_eq k hlt hk2 HK.out.1 e, fun e => by rw [HR.out]; exact decide_eq_false (take_ne k hlt hk2 e)⟩
        clear hat hat2
        generalize xs[k] = p at *
        generalize ys[k] = q at *
        clear hk2
        have HL : Hid (∀ n, Below w.heap.size w (wr.drewN n)) := fun n => below_drewN HK.out.2
        by_cases c : p = q
        · have H1 : Hid (xs.take (k + 1) = ys.take (k + 1)) := HT.out.1 c
          clear HT HK
          subst c
          go_wp2_with fail
          go_quiet (fail)
          go_wp2
          exact ⟨⟨k + 1, by go_num, by omega, H1.out, HL.out _⟩, by simp [intOf]; omega⟩
        · have H1 : Hid (R = false) := HT.out.2 c
          clear HT HK
          go_wp2_with fail
          go_quiet (fail)
          go_wp2
          go_ret
          exact ⟨by rw [H1.out]; rfl, HL.out _⟩
      · obtain rfl : k = xs.length := by omega
        have HF : Hid (R = true ∧ Below w.heap.size w wr) := by
          refine ⟨?_, HK.out.2⟩
          rw [HR.out]
          refine decide_eq_true ?_
          have h := HK.out.1
          rw [List.take_length] at h
          rw [h, HL0.out, List.take_length]
        clear HK
        go_wp2
        go_ret
        exact ⟨by rw [HF.out.1]; rfl, HF.out.2⟩
  · have hl2 : ¬ (xs.length : Int) = ys.length := by omega
    have HF : Hid (R = false) := by
      unfold Hid
      rw [HR.out]
      refine decide_eq_false ?_
      rintro rfl
      exact hl rfl
    go_enter Try.func57, Try.ntmps57
    go_wp2
    go_ret
    exact ⟨by rw [HF.out]; rfl, Below.refl _ _⟩

end Go.Proofs.Ytagkbpceiedikaa
