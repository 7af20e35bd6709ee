/-
  Texts of this claim, one behind the other: what each is about stands ahead of it.
-/
import Derived.Test.YtbghjmkgicdnoaaGreatK20
/-
  Contracts of the document's answer for layer 2: edges.
-/
namespace Go.Proofs.YtbghjmkgicdnoaaGreat
open Go.RowKit

theorem Bk.at4h {W : World} {b : Nat} {a0 a1 a2 a3 : Value} {t : TypeId} (h : Bk W b #[a0, a1, a2, a3] t) : W.cell? ⟨b, 0, none⟩ = some a0 ∧ W.cell? ⟨b, 1, none⟩ = some a1 ∧ W.cell? ⟨b, 2, none⟩ = some a2 ∧ W.cell? ⟨b, 3, none⟩ = some a3 :=
  ⟨by rw [h.cell]; rfl, by rw [h.cell]; rfl, by rw [h.cell]; rfl, by rw [h.cell]; rfl⟩
theorem drop_cons {l : List Rc} {k : Nat} (h : k < l.length) : l.drop k = l[k] :: l.drop (k + 1) := List.drop_eq_getElem_cons h
/-- Edges gathered so far. -/
def EgI (w0 : World) (down : Bool) (y : Int) (rs : List Rc) (xs : List Int) (k : Nat) (acc : List Int) (v : Value) (wr : World) : Prop :=
  k ≤ rs.length ∧ edF down y (rs.drop k) acc = edF down y rs xs ∧ acc.length ≤ xs.length + 2 * k ∧ wr.ownsRow w0.heap.size 3 1 v acc.length (flatI acc) ∧ Below w0.heap.size w0 wr

set_option maxRecDepth 10000 in
set_option maxHeartbeats 4000000 in
theorem dedges_any (w0 : World) (rs : List Rc) (xs : List Int) (v ut : Value) (down : Bool) (y : Int) (w : World) (hb : Below w0.heap.size w0 w) (hv : LsR w0 v rs) (hm : Mays rs) (hr : w.ownsRow w0.heap.size 3 1 ut xs.length (flatI xs)) (hl : xs.length + 2 * rs.length ≤ 900000) :
    Calls Tryz.prog 78 #[ut, v, .bool down, .int .i64 y] w fun e w' => ∃ u, e = .returned u ∧ w'.ownsRow w0.heap.size 3 1 u (edF down y rs xs).length (flatI (edF down y rs xs)) ∧ Below w0.heap.size w0 w' := by
  obtain ⟨oa, cap, rfl, hc, hg⟩ := hv
  have HG : Hid (0 < rs.length → ∃ g o, oa = some ⟨g, o, none⟩ ∧ g < w0.heap.size ∧ ∀ i (h : i < rs.length), RcAt w0 g (o + i * 4) rs[i]) := hg
  have HM : Hid (Mays rs) := hm
  have H0 : Hid (EgI w0 down y rs xs 0 xs ut w) := ⟨Nat.zero_le _, rfl, Nat.le_refl _, hr, hb⟩
  clear hg hm hr hb
  go_enter Tryz.func78, Tryz.ntmps78
  go_wp2_with fail
  go_loopw [0, 9] (fun v i wr => ∃ (k : Nat) (acc : List Int), i = .int .i64 k ∧ Hid (EgI w0 down y rs xs k acc v wr)) (fun _ i _ => rs.length - (intOf i).toNat)
  case atStart => exact ⟨0, xs, rfl, H0⟩
  case round =>
    obtain ⟨k, acc, rfl, HR⟩ := hrel
    clear H0
    have hk := HR.out.1
    by_cases hlt : k < rs.length
    · obtain ⟨g, o, rfl, hg, hat⟩ := HG.out (by omega)
      have hx := (hat k hlt).kept (w' := wr) fun j => HR.out.2.2.2.2.cell (p := ⟨g, j, none⟩) hg
      have hbd := may_bd (HM.out _ (List.getElem_mem hlt))
      have ik : (k : Int) < rs.length := by omega
      have HD : Hid (edF down y (rs.drop (k + 1)) (edS down y rs[k] acc) = edF down y rs xs) := by
        have h := HR.out.2.1
        rw [drop_cons hlt, edF] at h
        exact h
      generalize rs[k] = r at *
      obtain ⟨x0, x1, x2, x3⟩ := hx
      clear hat
      have hacc : acc.length ≤ 900000 := by have := HR.out.2.2.1; omega
      have HS : Hid (∀ W n (ys : List Int) (u : Value), Below w0.heap.size w0 W → W.ownsRow w0.heap.size 3 1 u ys.length (flatI ys) → ys.length ≤ 900001 → Calls Tryz.prog 92 #[u, .int .i64 n] W fun e w' => ∃ u, e = .returned u ∧ w'.ownsRow w0.heap.size 3 1 u (insU n ys).length (flatI (insU n ys)) ∧ Below w0.heap.size w0 w' ∧ Oth W w') := fun W n ys u h1 h2 h3 => edge_any w0 ys u n W h1 h2 (by omega)
      have HE : Hid (∀ W, Calls Tryz.prog 91 #[.agg #[.int .i64 r.x, .int .i64 r.y, .int .i64 r.w, .int .i64 r.h]] W fun e w' => e = .returned (.bool (emD r)) ∧ Below W.heap.size W w') := fun W => dempty_any r W
      have HA : Hid (∀ o W, Below (wr.alloc o).heap.size (wr.alloc o) W → W.ownsRow w0.heap.size 3 1 u0 acc.length (flatI acc) ∧ Below w0.heap.size w0 W) := fun o W hb => by
        have hb2 : Below wr.heap.size wr W := ((Below.refl _ wr).alloc (Nat.le_refl _) o).trans (hb.mono (by simp))
        exact ⟨row_below HR.out.2.2.2.1 hb2, HR.out.2.2.2.2.trans (hb2.mono HR.out.2.2.2.2.size)⟩
      have hlen := edS_len down y r acc
      have HL : Hid ((edS down y r acc).length ≤ xs.length + 2 * (k + 1)) := by have := HR.out.2.2.1; unfold Hid; omega
      have hwr : w0.heap.size ≤ wr.heap.size := HR.out.2.2.2.2.size
      clear HR hlen
      unfold edS at HD HL
      cases hem : emD r
      · rw [hem, if_neg (by simp)] at HD HL
        rw [hem] at HE
        clear hem
        cases down
        · rw [if_neg (by simp)] at HD HL
          by_cases c1 : r.y ≤ y
          · by_cases c2 : y < r.y + r.h
            · rw [if_pos ⟨c1, c2⟩] at HD HL
              go_wp2_with fail
              refine (HE.out _).mono ?_
              rintro e w1 ⟨rfl, hb1⟩
              have H1 : Hid (w1.ownsRow w0.heap.size 3 1 u0 acc.length (flatI acc) ∧ Below w0.heap.size w0 w1) := HA.out _ _ hb1
              have HB1 : Hid (Bk w1 wr.heap.size #[.int .i64 r.x, .int .i64 r.y, .int .i64 r.w, .int .i64 r.h] 44) := (Bk.new _ _ _).below hb1
              clear hb1
              obtain ⟨y0, y1, y2, y3⟩ := Bk.at4h HB1.out
              have ylt := HB1.out.lt
              go_wp2_with fail
              refine (HS.out _ _ acc _ H1.out.2 H1.out.1 (by omega)).mono ?_
              rintro e w2 ⟨u2, rfl, ho2, hb2, ht2⟩
              have H2 : Hid (w2.ownsRow w0.heap.size 3 1 u2 (insU r.x acc).length (flatI (insU r.x acc)) ∧ Below w0.heap.size w0 w2) := ⟨ho2, hb2⟩
              have HB2 : Hid (Bk w2 wr.heap.size #[.int .i64 r.x, .int .i64 r.y, .int .i64 r.w, .int .i64 r.h] 44) := ht2 _ _ _ (by decide) HB1.out
              clear ho2 hb2 ht2 y0 y1 y2 y3 ylt HB1 H1
              obtain ⟨y0, y1, y2, y3⟩ := Bk.at4h HB2.out
              have ylt := HB2.out.lt
              go_wp2_with fail
              refine (HS.out _ _ (insU r.x acc) _ H2.out.2 H2.out.1 (by have := insU_lenD r.x acc; omega)).mono ?_
              rintro e w3 ⟨u3, rfl, ho3, hb3, ht3⟩
              have H3 : Hid (w3.ownsRow w0.heap.size 3 1 u3 (insU (r.x + r.w) (insU r.x acc)).length (flatI (insU (r.x + r.w) (insU r.x acc))) ∧ Below w0.heap.size w0 w3) := ⟨ho3, hb3⟩
              clear ho3 hb3 ht3 y0 y1 y2 y3 ylt HB2 H2
              go_wp2
              exact ⟨⟨k + 1, _, by go_num, by omega, HD.out, HL.out, H3.out.1, H3.out.2⟩, by simp [intOf]; omega⟩
            · rw [if_neg (fun h => c2 h.2)] at HD HL
              go_wp2_with fail
              refine (HE.out _).mono ?_
              rintro e w1 ⟨rfl, hb1⟩
              have H1 : Hid (w1.ownsRow w0.heap.size 3 1 u0 acc.length (flatI acc) ∧ Below w0.heap.size w0 w1) := HA.out _ _ hb1
              obtain ⟨y0, y1, y2, y3⟩ := Bk.at4h ((Bk.new _ _ _).below hb1)
              clear hb1
              go_wp2
              exact ⟨⟨k + 1, acc, by go_num, by omega, HD.out, HL.out, H1.out.1, H1.out.2⟩, by simp [intOf]; omega⟩
          · rw [if_neg (fun h => c1 h.1)] at HD HL
            go_wp2_with fail
            refine (HE.out _).mono ?_
            rintro e w1 ⟨rfl, hb1⟩
            have H1 : Hid (w1.ownsRow w0.heap.size 3 1 u0 acc.length (flatI acc) ∧ Below w0.heap.size w0 w1) := HA.out _ _ hb1
            obtain ⟨y0, y1, y2, y3⟩ := Bk.at4h ((Bk.new _ _ _).below hb1)
            clear hb1
            go_wp2
            exact ⟨⟨k + 1, acc, by go_num, by omega, HD.out, HL.out, H1.out.1, H1.out.2⟩, by simp [intOf]; omega⟩
        · rw [if_pos rfl] at HD HL
          go_wp2_with fail
          refine (HE.out _).mono ?_
          rintro e w1 ⟨rfl, hb1⟩
          have H1 : Hid (w1.ownsRow w0.heap.size 3 1 u0 acc.length (flatI acc) ∧ Below w0.heap.size w0 w1) := HA.out _ _ hb1
          have HB1 : Hid (Bk w1 wr.heap.size #[.int .i64 r.x, .int .i64 r.y, .int .i64 r.w, .int .i64 r.h] 44) := (Bk.new _ _ _).below hb1
          clear hb1
          obtain ⟨y0, y1, y2, y3⟩ := Bk.at4h HB1.out
          have ylt := HB1.out.lt
          go_wp2_with fail
          refine (HS.out _ _ acc _ H1.out.2 H1.out.1 (by omega)).mono ?_
          rintro e w2 ⟨u2, rfl, ho2, hb2, ht2⟩
          have H2 : Hid (w2.ownsRow w0.heap.size 3 1 u2 (insU r.y acc).length (flatI (insU r.y acc)) ∧ Below w0.heap.size w0 w2) := ⟨ho2, hb2⟩
          have HB2 : Hid (Bk w2 wr.heap.size #[.int .i64 r.x, .int .i64 r.y, .int .i64 r.w, .int .i64 r.h] 44) := ht2 _ _ _ (by decide) HB1.out
          clear ho2 hb2 ht2 y0 y1 y2 y3 ylt HB1 H1
          obtain ⟨y0, y1, y2, y3⟩ := Bk.at4h HB2.out
          have ylt := HB2.out.lt
          go_wp2_with fail
          refine (HS.out _ _ (insU r.y acc) _ H2.out.2 H2.out.1 (by have := insU_lenD r.y acc; omega)).mono ?_
          rintro e w3 ⟨u3, rfl, ho3, hb3, ht3⟩
          have H3 : Hid (w3.ownsRow w0.heap.size 3 1 u3 (insU (r.y + r.h) (insU r.y acc)).length (flatI (insU (r.y + r.h) (insU r.y acc))) ∧ Below w0.heap.size w0 w3) := ⟨ho3, hb3⟩
          clear ho3 hb3 ht3 y0 y1 y2 y3 ylt HB2 H2
          go_wp2
          exact ⟨⟨k + 1, _, by go_num, by omega, HD.out, HL.out, H3.out.1, H3.out.2⟩, by simp [intOf]; omega⟩
      · rw [hem, if_pos rfl] at HD HL
        rw [hem] at HE
        clear hem
        go_wp2_with fail
        refine (HE.out _).mono ?_
        rintro e w1 ⟨rfl, hb1⟩
        have H1 : Hid (w1.ownsRow w0.heap.size 3 1 u0 acc.length (flatI acc) ∧ Below w0.heap.size w0 w1) := HA.out _ _ hb1
        clear hb1
        go_wp2
        exact ⟨⟨k + 1, acc, by go_num, by omega, HD.out, HL.out, H1.out.1, H1.out.2⟩, by simp [intOf]; omega⟩
    · obtain rfl : k = rs.length := by omega
      have HF : Hid (wr.ownsRow w0.heap.size 3 1 u0 (edF down y rs xs).length (flatI (edF down y rs xs)) ∧ Below w0.heap.size w0 wr) := by
        have h := HR.out
        have e := h.2.1
        rw [List.drop_length, edF] at e
        rw [← e]
        exact h.2.2.2
      clear HR
      go_wp2
      go_ret
      exact ⟨_, rfl, HF.out⟩

end Go.Proofs.YtbghjmkgicdnoaaGreat

/-
  Contracts of the document's answer for layer 2: kept, spans, alike.
-/
namespace Go.Proofs.YtbghjmkgicdnoaaGreat
open Go.RowKit

/-- Spans as numbers. -/
def spI : List Sp → List Int
  | [] => []
  | s :: t => s.1 :: s.2 :: spI t
theorem spI_len : ∀ l : List Sp, (spI l).length = l.length * 2
  | [] => rfl
  | _ :: t => by rw [spI, List.length_cons, List.length_cons, spI_len t, List.length_cons]; omega
theorem spI_app : ∀ l m : List Sp, spI (l ++ m) = spI l ++ spI m
  | [], _ => rfl
  | s :: t, m => by simp [spI, spI_app t m]
theorem spI_inj : ∀ {l m : List Sp}, spI l = spI m → l = m
  | [], [], _ => rfl
  | [], _ :: _, h => by simp [spI] at h
  | _ :: _, [], h => by simp [spI] at h
  | (a, b) :: t, (c, d) :: u, h => by
    simp only [spI, List.cons.injEq] at h
    obtain ⟨rfl, rfl, h3⟩ := h
    rw [spI_inj h3]
theorem spI_at : ∀ (l : List Sp) (k : Nat) (h : k < l.length), (spI l)[k * 2]? = some l[k].1 ∧ (spI l)[k * 2 + 1]? = some l[k].2
  | s :: t, 0, _ => ⟨rfl, rfl⟩
  | s :: t, k + 1, h => by
    obtain ⟨h1, h2⟩ := spI_at t k (by simpa using h)
    have e : (k + 1) * 2 = k * 2 + 1 + 1 := by omega
    rw [e, spI]
    exact ⟨by simpa using h1, by simpa using h2⟩
/-- A slice that holds numbers. -/
def IL (w : World) (v : Value) (xs : List Int) : Prop := ∃ oa cap, v = .slice oa xs.length cap ∧ xs.length ≤ cap ∧ (0 < xs.length → ∃ g cs, oa = some ⟨g, 0, none⟩ ∧ Bk w g cs 3 ∧ ∀ i (h : i < xs.length), cs[i]? = some (.int .i64 xs[i]))
theorem IL.below {w w' : World} {v : Value} {xs : List Int} (h : IL w v xs) (hb : Below w.heap.size w w') : IL w' v xs := by
  obtain ⟨oa, cap, e, hc, hg⟩ := h
  exact ⟨oa, cap, e, hc, fun hp => by obtain ⟨g, cs, e, hk, ha⟩ := hg hp; exact ⟨g, cs, e, hk.below hb, ha⟩⟩
theorem il_nil (w : World) : IL w (.slice none 0 0) [] := ⟨none, 0, rfl, Nat.le_refl _, fun h => absurd h (Nat.lt_irrefl 0)⟩
theorem il_own {w : World} {base : Nat} {v : Value} {xs : List Int} (h : w.ownsRow base 3 1 v xs.length (flatI xs)) : IL w v xs := by
  obtain ⟨hl, ⟨rfl, h0⟩ | ⟨g, cap, cur, rfl, hb, hc, h1, h2, h3, h4⟩⟩ := h
  · obtain rfl : xs = [] := List.length_eq_zero_iff.1 h0
    exact il_nil w
  · refine ⟨_, cap, rfl, h1, fun _ => ⟨g, cur, rfl, hc, fun i hi => ?_⟩⟩
    have e : (cur.toList.take (xs.length * 1))[i]? = cur[i]? := by rw [List.getElem?_take_of_lt (by omega), Array.getElem?_toList]
    rw [← e, h4, flatI_at xs i hi]
theorem IL.cells {w : World} {v : Value} {xs : List Int} (h : IL w v xs) : ∃ oa cap, v = .slice oa xs.length cap ∧ xs.length ≤ cap ∧ (0 < xs.length → ∃ g, oa = some ⟨g, 0, none⟩ ∧ g < w.heap.size ∧ ∀ i (h : i < xs.length), w.cell? ⟨g, i, none⟩ = some (.int .i64 xs[i])) := by
  obtain ⟨oa, cap, e, hc, hg⟩ := h
  exact ⟨oa, cap, e, hc, fun hp => by obtain ⟨g, cs, e, hk, ha⟩ := hg hp; exact ⟨g, e, hk.lt, fun i hi => by rw [hk.cell]; exact ha i hi⟩⟩
theorem Bk.grownO {W W' : World} {b : Nat} {vs : Array Value} {t : TypeId} (h : Bk W b vs t) {base : Nat} {e : TypeId} {size n : Nat} {u : Value} {xs : List Value} (hr : W.ownsRow base e size u n xs) (he : e ≠ t) (hg : W.grownBy W' u.ownBlock) : Bk W' b vs t := by
  refine h.grown hg ?_
  intro hb
  obtain ⟨_, hr⟩ := hr
  rcases hr with ⟨rfl, _⟩ | ⟨g, cap, cur, rfl, _, hc, _⟩
  · cases hb
  · simp [Value.ownBlock] at hb
    subst hb
    exact he (Bk.typ hc h)
theorem IL.grown {w w' : World} {v : Value} {ys : List Int} (h : IL w v ys) {base : Nat} {e : TypeId} {size n : Nat} {u : Value} {xs : List Value} (hr : w.ownsRow base e size u n xs) (he : e ≠ 3) (hg : w.grownBy w' u.ownBlock) : IL w' v ys := by
  obtain ⟨oa, cap, e, hc, hG⟩ := h
  exact ⟨oa, cap, e, hc, fun hp => by obtain ⟨g, cs, e, hk, ha⟩ := hG hp; exact ⟨g, cs, e, hk.grownO hr he hg, ha⟩⟩
theorem IL.other {w : World} {v : Value} {ys : List Int} (h : IL w v ys) {b : Nat} {vs : Array Value} {t : TypeId} (hb : Bk w b vs t) (ht : t ≠ 3) (o : Nat) (x : Value) : IL (w.setCell ⟨b, o, none⟩ x) v ys := by
  obtain ⟨oa, cap, e, hc, hG⟩ := h
  exact ⟨oa, cap, e, hc, fun hp => by
    obtain ⟨g, cs, e, hk, ha⟩ := hG hp
    exact ⟨g, cs, e, hk.other _ _ (by rintro rfl; exact ht (hb.typ hk)), ha⟩⟩

set_option maxHeartbeats 1000000 in
theorem dkept_any (a b : List Rc) (va vb : Value) (what x y : Int) (w : World) (ha : LsR w va a) (hb : LsR w vb b) (ma : Mays a) (mb : Mays b) (la : a.length ≤ 1000000) (lb : b.length ≤ 1000000) :
    Calls Tryz.prog 93 #[va, vb, .int .i64 what, .int .i64 x, .int .i64 y] w fun e w' => e = .returned (.bool (kpD what (hsD a x y) (hsD b x y))) ∧ Below w.heap.size w w' := by
  have HA : Hid (Calls Tryz.prog 101 #[va, .int .i64 x, .int .i64 y] w fun e w' => e = .returned (.bool (hsD a x y)) ∧ Below w.heap.size w w') := dhas_any a va x y w ha ma la
  have HB : Hid (∀ W, Below w.heap.size w W → Calls Tryz.prog 101 #[vb, .int .i64 x, .int .i64 y] W fun e w' => e = .returned (.bool (hsD b x y)) ∧ Below W.heap.size W w') := fun W h => dhas_any b vb x y W (hb.below h) mb lb
  clear ha hb ma mb
  generalize hsD a x y = p at *
  generalize hsD b x y = q at *
  have cs : what = 1 ∨ what = 2 ∨ (¬ what = 1 ∧ ¬ what = 2) := by omega
  have HR : Hid (∀ r : Bool, kpD what p q = r → kpD what p q = r) := fun _ h => h
  rcases cs with rfl | rfl | ⟨c1, c2⟩
  · have hk : Hid (kpD 1 p q = (p || q)) := by unfold Hid kpD; rw [if_pos rfl]
    rw [hk.out]
    clear hk HR
    cases p
    all_goals
      go_enter Tryz.func93, Tryz.ntmps93
      go_wp2_with fail
      refine HA.out.mono ?_
      rintro e w1 ⟨rfl, hb1⟩
      have H1 : Hid (Below w.heap.size w w1) := hb1
      clear hb1
      go_wp2_with fail
      refine (HB.out _ H1.out).mono ?_
      rintro e w2 ⟨rfl, hb2⟩
      have H2 : Hid (Below w.heap.size w w2) := H1.out.trans (hb2.mono H1.out.size)
      clear hb2
      go_wp2
      go_ret
      exact ⟨rfl, H2.out⟩
  · have hk : Hid (kpD 2 p q = (p && q)) := by unfold Hid kpD; rw [if_neg (by decide), if_pos rfl]
    rw [hk.out]
    clear hk HR
    cases p
    all_goals
      go_enter Tryz.func93, Tryz.ntmps93
      go_wp2_with fail
      refine HA.out.mono ?_
      rintro e w1 ⟨rfl, hb1⟩
      have H1 : Hid (Below w.heap.size w w1) := hb1
      clear hb1
      go_wp2_with fail
      refine (HB.out _ H1.out).mono ?_
      rintro e w2 ⟨rfl, hb2⟩
      have H2 : Hid (Below w.heap.size w w2) := H1.out.trans (hb2.mono H1.out.size)
      clear hb2
      go_wp2
      go_ret
      exact ⟨rfl, H2.out⟩
  · have hk : Hid (kpD what p q = (p && !q)) := by unfold Hid kpD; rw [if_neg c1, if_neg c2]
    rw [hk.out]
    clear hk HR
    cases p
    all_goals
      go_enter Tryz.func93, Tryz.ntmps93
      go_wp2_with fail
      refine HA.out.mono ?_
      rintro e w1 ⟨rfl, hb1⟩
      have H1 : Hid (Below w.heap.size w w1) := hb1
      clear hb1
      go_wp2_with fail
      refine (HB.out _ H1.out).mono ?_
      rintro e w2 ⟨rfl, hb2⟩
      have H2 : Hid (Below w.heap.size w w2) := H1.out.trans (hb2.mono H1.out.size)
      clear hb2
      go_wp2
      go_ret
      exact ⟨rfl, H2.out⟩

theorem take_eq {xs ys : List Int} (k : Nat) (hx : k < xs.length) (hy : k < ys.length) (h : xs.take k = ys.take k) (e : xs[k] = ys[k]) : xs.take (k + 1) = ys.take (k + 1) := by
  rw [← List.take_append_getElem hx, ← List.take_append_getElem hy, h, e]
theorem take_ne {xs ys : List Int} (k : Nat) (hx : k < xs.length) (hy : k < ys.length) (e : xs[k] ≠ ys[k]) : xs ≠ ys := by
  rintro rfl
  exact e rfl

set_option maxHeartbeats 1000000 in
theorem alike_any (xs ys : List Int) (v u : Value) (w : World) (hv : IL w v xs) (hu : IL w u ys) (hm : xs.length ≤ 1000000) :
    Calls Tryz.prog 80 #[v, u] w fun e w' => e = .returned (.bool (decide (xs = ys))) ∧ Below w.heap.size w w' := by
  obtain ⟨oa, ca, rfl, hca, hga⟩ := hv.cells
  obtain ⟨ob, cb, rfl, hcb, hgb⟩ := hu.cells
  have HA : Hid (0 < xs.length → ∃ g, oa = some ⟨g, 0, none⟩ ∧ g < w.heap.size ∧ ∀ i (h : i < xs.length), w.cell? ⟨g, i, none⟩ = some (.int .i64 xs[i])) := hga
  have HB : Hid (0 < ys.length → ∃ g, ob = some ⟨g, 0, none⟩ ∧ g < w.heap.size ∧ ∀ i (h : i < ys.length), w.cell? ⟨g, i, none⟩ = some (.int .i64 ys[i])) := hgb
  clear hga hgb hv hu
  obtain ⟨R, HR⟩ : ∃ R, Hid (R = decide (xs = ys)) := ⟨_, rfl⟩
  rw [← HR.out]
  by_cases hl : xs.length = ys.length
  · rw [← hl]
    have HL0 : Hid (xs.length = ys.length) := hl
    rw [← hl] at hcb
    clear hl
    go_enter Tryz.func80, Tryz.ntmps80
    go_wp2_with fail
    go_loopw [5] (fun i wr => ∃ k : Nat, i = .int .i64 k ∧ k ≤ xs.length ∧ Hid (xs.take k = ys.take k ∧ Below w.heap.size w wr)) (fun i _ => xs.length - (intOf i).toNat)
    case atStart => exact ⟨0, rfl, Nat.zero_le _, rfl, Below.refl _ _⟩
    case round =>
      obtain ⟨k, rfl, hk, HK⟩ := hrel
      by_cases hlt : k < xs.length
      · have ik : (k : Int) < xs.length := by omega
        have hk2 : k < ys.length := by rw [← HL0.out]; exact hlt
        obtain ⟨g, rfl, hg, hat⟩ := HA.out (by omega)
        obtain ⟨g2, rfl, hg2, hat2⟩ := HB.out (by omega)
        have x0 : wr.cell? ⟨g, k, none⟩ = some (.int .i64 xs[k]) := (HK.out.2.cell (p := ⟨g, k, none⟩) hg).trans (hat k hlt)
        have y0 : wr.cell? ⟨g2, k, none⟩ = some (.int .i64 ys[k]) := (HK.out.2.cell (p := ⟨g2, k, none⟩) hg2).trans (hat2 k hk2)
        have HT : Hid ((xs[k] = ys[k] → xs.take (k + 1) = ys.take (k + 1)) ∧ (xs[k] ≠ ys[k] → R = false)) := ⟨fun e => take_eq k hlt hk2 HK.out.1 e, fun e => by rw [HR.out]; exact decide_eq_false (take_ne k hlt hk2 e)⟩
        clear hat hat2
        generalize xs[k] = p at *
        generalize ys[k] = q at *
        clear hk2
        have HL : Hid (∀ n, Below w.heap.size w (wr.drewN n)) := fun n => below_drewN HK.out.2
        by_cases c : p = q
        · have H1 : Hid (xs.take (k + 1) = ys.take (k + 1)) := HT.out.1 c
          clear HT HK
          subst c
          go_wp2_with fail
          go_quiet (fail)
          go_wp2
          exact ⟨⟨k + 1, by go_num, by omega, H1.out, HL.out _⟩, by simp [intOf]; omega⟩
        · have H1 : Hid (R = false) := HT.out.2 c
          clear HT HK
          go_wp2_with fail
          go_quiet (fail)
          go_wp2
          go_ret
          exact ⟨by rw [H1.out]; rfl, HL.out _⟩
      · obtain rfl : k = xs.length := by omega
        have HF : Hid (R = true ∧ Below w.heap.size w wr) := by
          refine ⟨?_, HK.out.2⟩
          rw [HR.out]
          refine decide_eq_true ?_
          have h := HK.out.1
          rw [List.take_length] at h
          rw [h, HL0.out, List.take_length]
        clear HK
        go_wp2
        go_ret
        exact ⟨by rw [HF.out.1]; rfl, HF.out.2⟩
  · have hl2 : ¬ (xs.length : Int) = ys.length := by omega
    have HF : Hid (R = false) := by
      unfold Hid
      rw [HR.out]
      refine decide_eq_false ?_
      rintro rfl
      exact hl rfl
    go_enter Tryz.func80, Tryz.ntmps80
    go_wp2
    go_ret
    exact ⟨by rw [HF.out]; rfl, Below.refl _ _⟩

end Go.Proofs.YtbghjmkgicdnoaaGreat

/-
  Contracts of the document's answer for layer 2: spans.
-/
namespace Go.Proofs.YtbghjmkgicdnoaaGreat
open Go.RowKit

theorem spF_step (p : Int → Bool) {xs : List Int} {k : Nat} (h : k + 1 < xs.length) (acc : List Sp) : spF p (xs.drop k) acc = spF p (xs.drop (k + 1)) (if p xs[k] = true then runA acc xs[k] xs[k + 1] else acc) := by
  rw [List.drop_eq_getElem_cons (show k < xs.length by omega), List.drop_eq_getElem_cons h, spF]
theorem spF_done (p : Int → Bool) {xs : List Int} {k : Nat} (h : ¬ k + 1 < xs.length) (acc : List Sp) : spF p (xs.drop k) acc = acc := by
  have : (xs.drop k).length ≤ 1 := by rw [List.length_drop]; omega
  match hx : xs.drop k, this with
  | [], _ => rfl
  | [_], _ => rfl
  | _ :: _ :: _, h => simp at h
theorem inc_at : ∀ {xs : List Int}, Inc xs → ∀ {i j : Nat} (_ : i < j) (_ : j < xs.length), xs[i] < xs[j]
  | a :: t, h, 0, j + 1, _, hj => by
    simp
    exact h.1 _ (List.getElem_mem _)
  | a :: t, h, i + 1, j + 1, hij, hj => by
    simp
    exact inc_at h.2 (by omega) (by simpa using hj)
theorem runA_end {init : List Sp} {s : Sp} {x x' : Int} (h : s.2 = x) (hlt : x < x') : runA (init ++ [s]) x x' = init ++ [(s.1, x')] := by
  rw [runA_snoc, if_pos (by omega), Int.max_eq_right (by omega)]
theorem runA_new {init : List Sp} {s : Sp} {x x' : Int} (h : s.2 < x) : runA (init ++ [s]) x x' = (init ++ [s]) ++ [(x, x')] := by
  rw [runA_snoc, if_neg (by omega), List.append_assoc]; rfl
theorem spI_set (init : List Sp) (s : Sp) (z : Int) : (spI (init ++ [s])).set (init.length * 2 + 1) z = spI (init ++ [(s.1, z)]) := by
  rw [spI_app, spI_app, List.set_append_right _ _ (by rw [spI_len]; omega), spI_len]
  have : init.length * 2 + 1 - init.length * 2 = 1 := by omega
  rw [this]
  rfl
theorem flatI_set (xs : List Int) (k : Nat) (z : Int) : (flatI xs).set k (.int .i64 z) = flatI (xs.set k z) := by
  unfold flatI
  rw [List.map_set]
theorem cell_bk {w : World} {g : Nat} {x y : Value} {t : TypeId} (h : w.heap[g]? = some (.cells #[x, y] t)) : ∀ (j : Nat) (u : Value), [x, y][j]? = some u → w.cell? ((⟨g, 0, none⟩ : Addr).add j) = some u := by
  intro j u hj
  obtain ⟨c, _, _⟩ := heap_cells h
  have e : (⟨g, 0, none⟩ : Addr).add j = ⟨g, j, none⟩ := by
    unfold Addr.add
    split <;> simp_all
  rw [e, c j]
  simpa using hj
/-- Spans gathered so far. -/
def SpI (w2 : World) (p : Int → Bool) (xs : List Int) (k : Nat) (acc : List Sp) (v : Value) (wr : World) : Prop :=
  spF p (xs.drop k) acc = spF p xs [] ∧ acc.length ≤ k ∧ (∀ (h : k < xs.length), ∀ s ∈ acc, s.2 ≤ xs[k]) ∧ wr.ownsRow w2.heap.size 3 1 v (spI acc).length (flatI (spI acc)) ∧ Below w2.heap.size w2 wr

set_option maxRecDepth 10000 in
set_option maxHeartbeats 8000000 in
theorem spans_any (a b : List Rc) (va vb : Value) (what y : Int) (w : World) (ha : LsR w va a) (hb : LsR w vb b) (ma : Mays a) (mb : Mays b) (la : a.length ≤ 3000) (lb : b.length ≤ 3000) :
    Calls Tryz.prog 79 #[va, vb, .int .i64 what, .int .i64 y] w fun e w' => ∃ u, e = .returned u ∧ w'.ownsRow w.heap.size 3 1 u (spI (rowW (wK what) (wA what a b) (wB what b) y)).length (flatI (spI (rowW (wK what) (wA what a b) (wB what b) y))) ∧ Below w.heap.size w w' := by
  have HE1 : Hid (Calls Tryz.prog 78 #[.slice none 0 0, va, .bool false, .int .i64 y] w fun e w' => ∃ u, e = .returned u ∧ w'.ownsRow w.heap.size 3 1 u (edF false y a []).length (flatI (edF false y a [])) ∧ Below w.heap.size w w') :=
    dedges_any w a [] va _ false y w (Below.refl _ _) ha ma (World.ownsRow_nil _ _ _ _) (by simp; omega)
  have HE2 : Hid (∀ W u, Below w.heap.size w W → W.ownsRow w.heap.size 3 1 u (edF false y a []).length (flatI (edF false y a [])) → Calls Tryz.prog 78 #[u, vb, .bool false, .int .i64 y] W fun e w' => ∃ u, e = .returned u ∧ w'.ownsRow w.heap.size 3 1 u (edTwo false y a b).length (flatI (edTwo false y a b)) ∧ Below w.heap.size w w') := fun W u h1 h2 =>
    dedges_any w b (edF false y a []) vb u false y W h1 hb mb h2 (by have := ed_len false y a []; simp at this; omega)
  have HK : Hid (∀ W x, Below w.heap.size w W → Calls Tryz.prog 93 #[va, vb, .int .i64 what, .int .i64 x, .int .i64 y] W fun e w' => e = .returned (.bool (kpD what (hsD a x y) (hsD b x y))) ∧ Below W.heap.size W w') := fun W x h => dkept_any a b va vb what x y W (ha.below h) (hb.below h) ma mb (by omega) (by omega)
  have hrow := row_doc ma mb what y
  have hlen := edTwo_len false y a b
  have hinc : Hid (Inc (edTwo false y a b)) := edTwo_inc false y a b
  have HROW : Hid (spF (fun x => kpD what (hsD a x y) (hsD b x y)) (edTwo false y a b) [] = rowW (wK what) (wA what a b) (wB what b) y) := hrow
  generalize rowW (wK what) (wA what a b) (wB what b) y = S at *
  have hxl : (edTwo false y a b).length ≤ 12000 := by omega
  generalize edTwo false y a b = xs at *
  generalize edF false y a [] = xs1 at *
  clear hrow ha hb ma mb hlen
  obtain ⟨i0, hi, hz0, hz1, hz2⟩ := info_parts info_i64d
  have HI : Hid (Tryz.prog.info? 3 = some i0 ∧ i0.zero = some (.int .i64 0) ∧ i0.size = 1 ∧ i0.bytes = 8) := ⟨hi, hz0, hz1, hz2⟩
  clear hi hz0 hz1 hz2
  generalize hP : (fun x => kpD what (hsD a x y) (hsD b x y)) = P at *
  have HP : Hid (∀ x, kpD what (hsD a x y) (hsD b x y) = P x) := fun x => congrFun hP x
  have HK2 : Hid (∀ W x, Below w.heap.size w W → Calls Tryz.prog 93 #[va, vb, .int .i64 what, .int .i64 x, .int .i64 y] W fun e w' => e = .returned (.bool (P x)) ∧ Below W.heap.size W w') := fun W x h => by
    have := HK.out W x h
    rwa [HP.out] at this
  clear hP HP HK la lb
  go_enter Tryz.func79, Tryz.ntmps79
  go_wp2_with fail
  refine HE1.out.mono ?_
  rintro e w1 ⟨u1, rfl, ho1, hb1⟩
  have H1 : Hid (Below w.heap.size w w1 ∧ w1.ownsRow w.heap.size 3 1 u1 xs1.length (flatI xs1)) := ⟨hb1, ho1⟩
  clear ho1 hb1 HE1
  go_wp2_with fail
  refine (HE2.out _ _ H1.out.1 H1.out.2).mono ?_
  rintro e w2 ⟨u2, rfl, ho2, hb2⟩
  have H2 : Hid (Below w.heap.size w w2 ∧ IL w2 u2 xs) := ⟨hb2, il_own ho2⟩
  obtain ⟨ox, cx, rfl, hcx, hgx⟩ := (il_own ho2).cells
  have HX : Hid (0 < xs.length → ∃ g, ox = some ⟨g, 0, none⟩ ∧ g < w2.heap.size ∧ ∀ i (h : i < xs.length), w2.cell? ⟨g, i, none⟩ = some (.int .i64 xs[i])) := hgx
  have HW2 : Hid (w.heap.size ≤ w2.heap.size) := hb2.size
  clear ho2 hb2 HE2 H1 hgx
  go_wp2_with fail
  go_loopw [10, 11] (fun v i wr => ∃ (k : Nat) (acc : List Sp), i = .int .i64 k ∧ k ≤ xs.length ∧ Hid (SpI w2 P xs k acc v wr)) (fun _ i _ => xs.length - (intOf i).toNat)
  case atStart => exact ⟨0, [], rfl, Nat.zero_le _, rfl, Nat.le_refl _, fun _ s hs => absurd hs (by simp), World.ownsRow_nil _ _ _ _, Below.refl _ _⟩
  case round =>
    obtain ⟨k, acc, rfl, hk, HR⟩ := hrel
    by_cases hlt : k + 1 < xs.length
    · obtain ⟨g, rfl, hg, hat⟩ := HX.out (by omega)
      have ik : (k : Int) + 1 < xs.length := by omega
      have ik2 : (k : Int) < xs.length := by omega
      have x0 : wr.cell? ⟨g, k, none⟩ = some (.int .i64 (xs[k]'(by omega))) := (HR.out.2.2.2.2.cell (p := ⟨g, k, none⟩) hg).trans (hat k (by omega))
      have x1 : wr.cell? ⟨g, k + 1, none⟩ = some (.int .i64 xs[k + 1]) := (HR.out.2.2.2.2.cell (p := ⟨g, k + 1, none⟩) hg).trans (hat (k + 1) hlt)
      have HS : Hid (spF P (xs.drop (k + 1)) (if P (xs[k]'(by omega)) = true then runA acc (xs[k]'(by omega)) xs[k + 1] else acc) = spF P xs []) := by
        have h := HR.out.1
        rwa [spF_step P hlt] at h
      have hord : xs[k]'(by omega) < xs[k + 1] := inc_at hinc.out (by omega) hlt
      have HO : Hid (∀ s ∈ acc, s.2 ≤ xs[k]'(by omega)) := HR.out.2.2.1 (by omega)
      have HN : Hid (∀ acc' : List Sp, (∀ s ∈ acc', s.2 ≤ xs[k + 1]) → ∀ (h : k + 1 < xs.length), ∀ s ∈ acc', s.2 ≤ xs[k + 1]) := fun acc' h _ => h
      have hgr : g < wr.heap.size := Nat.lt_of_lt_of_le hg HR.out.2.2.2.2.size
      have hal := HR.out.2.1
      have HBw : Hid (Below w.heap.size w wr) := H2.out.1.trans (HR.out.2.2.2.2.mono HW2.out)
      have HOW : Hid (∀ W, Below wr.heap.size wr W → W.ownsRow w2.heap.size 3 1 u10 (spI acc).length (flatI (spI acc)) ∧ Below w2.heap.size w2 W) := fun W h => ⟨row_below HR.out.2.2.2.1 h, HR.out.2.2.2.2.trans (h.mono HR.out.2.2.2.2.size)⟩
      clear hat HR
      generalize xs[k]'(by omega) = x at *
      generalize xs[k + 1] = x' at *
      cases hp : P x
      · rw [hp, if_neg (by simp)] at HS
        have HC := HK2.out wr x HBw.out
        rw [hp] at HC
        have HC2 : Hid (Calls Tryz.prog 93 #[va, vb, .int .i64 what, .int .i64 x, .int .i64 y] wr fun e w' => e = .returned (.bool false) ∧ Below wr.heap.size wr w') := HC
        clear HC hp
        go_wp2_with fail
        refine HC2.out.mono ?_
        rintro e w3 ⟨rfl, hb3⟩
        have H3 : Hid (w3.ownsRow w2.heap.size 3 1 u10 (spI acc).length (flatI (spI acc)) ∧ Below w2.heap.size w2 w3) := HOW.out _ hb3
        clear hb3
        go_wp2
        exact ⟨⟨k + 1, acc, by go_num, by omega, HS.out, by omega, HN.out _ (fun s hs => by have := HO.out s hs; omega), H3.out.1, H3.out.2⟩, by simp [intOf]; omega⟩
      · rw [hp, if_pos rfl] at HS
        have HC := HK2.out wr x HBw.out
        rw [hp] at HC
        have HC2 : Hid (Calls Tryz.prog 93 #[va, vb, .int .i64 what, .int .i64 x, .int .i64 y] wr fun e w' => e = .returned (.bool true) ∧ Below wr.heap.size wr w') := HC
        clear HC hp
        go_wp2_with fail
        refine HC2.out.mono ?_
        rintro e w3 ⟨rfl, hb3⟩
        have H3 : Hid (∀ W, Below w3.heap.size w3 W → W.ownsRow w2.heap.size 3 1 u10 (spI acc).length (flatI (spI acc)) ∧ Below w2.heap.size w2 W) := fun W h => HOW.out _ (hb3.trans (h.mono hb3.size))
        have y0 : w3.cell? ⟨g, k, none⟩ = some (.int .i64 x) := (hb3.cell (p := ⟨g, k, none⟩) hgr).trans x0
        have y1 : w3.cell? ⟨g, k + 1, none⟩ = some (.int .i64 x') := (hb3.cell (p := ⟨g, k + 1, none⟩) hgr).trans x1
        have hg3 : g < w3.heap.size := Nat.lt_of_lt_of_le hgr hb3.size
        clear hb3 x0 x1 HOW HBw hgr
        obtain ⟨h3o, h3b⟩ := H3.out w3 (Below.refl _ _)
        obtain ⟨oo, co, rfl, hco, hgo⟩ := row_val h3o
        rcases List.eq_nil_or_concat acc with rfl | ⟨init, s, hcc⟩
        · clear h3o h3b hgo
          have es : (spI ([] : List Sp)).length = 0 := rfl
          rw [es] at H3 hco ⊢
          clear es
          go_wp2_with fail
          go_quiet (fail)
          have hbW : Below w3.heap.size w3 (w3.drewN nq) := below_drewN (Below.refl _ _)
          have e0 : (w3.drewN nq).cell? ⟨g, k, none⟩ = some (.int .i64 x) := y0
          have e1 : (w3.drewN nq).cell? ⟨g, k + 1, none⟩ = some (.int .i64 x') := y1
          have eg : g < (w3.drewN nq).heap.size := hg3
          generalize w3.drewN nq = W3 at *
          clear y0 y1 hg3
          have H4 : Hid (∀ W, Below W3.heap.size W3 W → W.ownsRow w2.heap.size 3 1 (.slice oo 0 co) 0 (flatI (spI ([] : List Sp))) ∧ Below w2.heap.size w2 W) := fun W h => H3.out _ (hbW.trans (h.mono hbW.size))
          clear hbW H3
          go_wp2_with fail
          refine R4.wp_region_lit 10 1 2 (fun _ b => .slice (some ⟨b, 0, none⟩) 2 2) (fun _ => .cells #[.int .i64 x, .int .i64 x'] 3) [75] (by kernel_rfl) (by kernel_rfl) rfl ?_ rfl ?_
          · intro k hk
            have hc : k = 0 := by omega
            subst hc; rfl
          apply Exists.intro
          refine ⟨fun bs ne => ?_, ?_, ?_⟩
          · have d0 := fun t : Gb W3 bs => (t.below.cell (p := ⟨g, k, none⟩) eg).trans e0
            have d1 := fun t : Gb W3 bs => (t.below.cell (p := ⟨g, k + 1, none⟩) eg).trans e1
            simp only [List.take_succ_cons, List.take_zero]
            repeat (go_big_quiet_step (fail))
            exact wpQuiet_nil rfl
          · intro i h1 h2
            have hc : i = 10 := by omega
            subst hc
            exact ⟨_, rfl, rfl, fun _ => by kernel_rfl⟩
          intro bl wx hbl hlo _
          obtain ⟨q1, q2⟩ := hlo 10 (by omega) (by omega)
          simp only [R4.layL]
          generalize bl 10 = g0 at *
          clear hlo
          obtain ⟨o5, b5⟩ := H4.out _ hbl
          obtain ⟨hi, hz0, hz1, hz2⟩ := HI.out
          refine wpAny_one 11 (by kernel_rfl) rfl ?_
          intro K hK
          refine step_append_lies wx (by rfl) _ _ 93 (by rfl) w2.heap.size 3 i0 (.int .i64 0) 1 8 Tryz.underlying93 hi hz0 hz1 hz2 rfl (by decide) (.slice oo 0 co) 0 (flatI (spI ([] : List Sp))) (by rfl) o5 ⟨g0, 0, none⟩ 2 2 [.int .i64 x, .int .i64 x'] (by rfl) rfl (cell_bk q2) (one2 _ _) (by decide) (by unfold maxLen; omega) (by omega) b5.size wx.heap.size rfl ?_
          intro h0 cap0 X1 hown hgrow _ _
          have HRel : Hid (∃ (k' : Nat) (acc : List Sp), Value.int .i64 ((k : Int) + 1) = .int .i64 k' ∧ k' ≤ xs.length ∧ Hid (SpI w2 P xs k' acc (.slice (some ⟨h0, 0, none⟩) (0 + 2) cap0) X1)) := by
            refine ⟨k + 1, ([] : List Sp) ++ [(x, x')], by go_num, by omega, HS.out, by simp, HN.out _ ?_, ?_, app_below b5 o5 (Nat.le_refl _) hgrow⟩
            · intro q hq
              rcases List.mem_append.1 hq with hq | hq
              · have := HO.out q hq; omega
              · simp at hq; subst hq; exact Int.le_refl _
            · rw [spI_app, flatI_app, List.length_append]
              exact hown
          clear hown hgrow o5 b5 q1 q2 hbl hi hz0 hz1 hz2
          refine hK _ _ ?_
          clear hK K
          refine wpAny_one 12 (by kernel_rfl) rfl ?_
          intro K hK
          go_simp
          refine hK _ _ ?_
          clear hK K
          refine wpAny_done (by kernel_rfl) ?_ _
          go_wp2
          go_roundw
          case rel => exact HRel.out
          case measure => simp [intOf]; omega
        · rw [List.concat_eq_append] at hcc
          subst hcc
          obtain ⟨m, hm⟩ : ∃ m, m = init.length * 2 + 1 := ⟨_, rfl⟩
          have hl : (spI (init ++ [s])).length = m + 1 := by rw [spI_len, hm]; simp; omega
          have hmk : m + 1 ≤ 2 * k := by simp at hal; omega
          rw [hl] at hco hgo h3o H3
          obtain ⟨g2, rfl, hg2, hg4⟩ := hgo (by omega)
          have hcel : w3.cell? ⟨g2, m, none⟩ = some (.int .i64 s.2) := by
            rw [own_cell h3o m (by omega)]
            have := (spI_at (init ++ [s]) init.length (by simp)).2
            rw [← hm] at this
            unfold flatI
            rw [List.getElem?_map, this]
            simp
          have hfr := own_frozen h3o m
          have HM : Hid (m = init.length * 2 + 1 ∧ (spI (init ++ [s])).length = m + 1) := ⟨hm, hl⟩
          have hso := HO.out s (by simp)
          clear h3o h3b hgo hm hl
          rw [HM.out.2]
          by_cases c : s.2 = x
          · have HRun : Hid (runA (init ++ [s]) x x' = init ++ [(s.1, x')]) := runA_end c hord
            rw [c] at hcel
            have HRel : Hid (∀ W, Below w3.heap.size w3 W → ∃ (k' : Nat) (acc : List Sp), Value.int .i64 ((k : Int) + 1) = .int .i64 k' ∧ k' ≤ xs.length ∧ Hid (SpI w2 P xs k' acc (.slice (some ⟨g2, 0, none⟩) (m + 1) co) (W.setCell ⟨g2, m, none⟩ (.int .i64 x')))) := by
              intro W hb
              obtain ⟨ho, hB⟩ := H3.out W hb
              refine ⟨k + 1, init ++ [(s.1, x')], by go_num, by omega, by rw [← HRun.out]; exact HS.out, by simp at hal ⊢; omega, HN.out _ ?_, ?_, hB.setCell (p := ⟨g2, m, none⟩) (by simpa using hg2) _⟩
              · intro q hq
                rcases List.mem_append.1 hq with hq | hq
                · have := HO.out q (by simp [hq]); omega
                · simp at hq; subst hq; exact Int.le_refl _
              · have := own_set ho m (.int .i64 x')
                rw [flatI_set, HM.out.1, spI_set, ← HM.out.1] at this
                have e : (spI (init ++ [(s.1, x')])).length = m + 1 := by rw [spI_len, HM.out.1]; simp; omega
                rw [e]
                exact this
            have hso' : True := trivial
            clear c hso hso' HM H3 HO HS HRun
            go_wp2_with fail
            go_quiet (fail)
            have HbW : Hid (Below w3.heap.size w3 (w3.drewN nq)) := below_drewN (Below.refl _ _)
            go_wp2
            go_roundw
            case rel => exact HRel.out _ HbW.out
            case measure => simp [intOf]; omega
          · have HRun : Hid (runA (init ++ [s]) x x' = (init ++ [s]) ++ [(x, x')]) := runA_new (by omega)
            go_wp2_with fail
            go_quiet (fail)
            have hbW : Below w3.heap.size w3 (w3.drewN nq) := below_drewN (Below.refl _ _)
            have e0 : (w3.drewN nq).cell? ⟨g, k, none⟩ = some (.int .i64 x) := y0
            have e1 : (w3.drewN nq).cell? ⟨g, k + 1, none⟩ = some (.int .i64 x') := y1
            have eg : g < (w3.drewN nq).heap.size := hg3
            generalize w3.drewN nq = W3 at *
            clear y0 y1 hg3
            have H4 : Hid (∀ W, Below W3.heap.size W3 W → W.ownsRow w2.heap.size 3 1 (.slice (some ⟨g2, 0, none⟩) (m + 1) co) (m + 1) (flatI (spI (init ++ [s]))) ∧ Below w2.heap.size w2 W) := fun W h => H3.out _ (hbW.trans (h.mono hbW.size))
            clear hbW H3
            go_wp2_with fail
            refine R4.wp_region_lit 10 1 2 (fun _ b => .slice (some ⟨b, 0, none⟩) 2 2) (fun _ => .cells #[.int .i64 x, .int .i64 x'] 3) [75] (by kernel_rfl) (by kernel_rfl) rfl ?_ rfl ?_
            · intro k hk
              have hc : k = 0 := by omega
              subst hc; rfl
            apply Exists.intro
            refine ⟨fun bs ne => ?_, ?_, ?_⟩
            · have d0 := fun t : Gb W3 bs => (t.below.cell (p := ⟨g, k, none⟩) eg).trans e0
              have d1 := fun t : Gb W3 bs => (t.below.cell (p := ⟨g, k + 1, none⟩) eg).trans e1
              simp only [List.take_succ_cons, List.take_zero]
              repeat (go_big_quiet_step (fail))
              exact wpQuiet_nil rfl
            · intro i h1 h2
              have hc : i = 10 := by omega
              subst hc
              exact ⟨_, rfl, rfl, fun _ => by kernel_rfl⟩
            intro bl wx hbl hlo _
            obtain ⟨q1, q2⟩ := hlo 10 (by omega) (by omega)
            simp only [R4.layL]
            generalize bl 10 = g0 at *
            clear hlo
            obtain ⟨o5, b5⟩ := H4.out _ hbl
            obtain ⟨hi, hz0, hz1, hz2⟩ := HI.out
            refine wpAny_one 11 (by kernel_rfl) rfl ?_
            intro K hK
            refine step_append_lies wx (by rfl) _ _ 93 (by rfl) w2.heap.size 3 i0 (.int .i64 0) 1 8 Tryz.underlying93 hi hz0 hz1 hz2 rfl (by decide) (.slice (some ⟨g2, 0, none⟩) (m + 1) co) (m + 1) (flatI (spI (init ++ [s]))) (by rfl) o5 ⟨g0, 0, none⟩ 2 2 [.int .i64 x, .int .i64 x'] (by rfl) rfl (cell_bk q2) (one2 _ _) (by decide) (by unfold maxLen; omega) (by omega) b5.size wx.heap.size rfl ?_
            intro h0 cap0 X1 hown hgrow _ _
            have HRel : Hid (∃ (k' : Nat) (acc : List Sp), Value.int .i64 ((k : Int) + 1) = .int .i64 k' ∧ k' ≤ xs.length ∧ Hid (SpI w2 P xs k' acc (.slice (some ⟨h0, 0, none⟩) ((m + 1) + 2) cap0) X1)) := by
              refine ⟨k + 1, (init ++ [s]) ++ [(x, x')], by go_num, by omega, by rw [← HRun.out]; exact HS.out, by simp; simp at hal; omega, HN.out _ ?_, ?_, app_below b5 o5 (Nat.le_refl _) hgrow⟩
              · intro q hq
                rcases List.mem_append.1 hq with hq | hq
                · have := HO.out q hq; omega
                · simp at hq; subst hq; exact Int.le_refl _
              · rw [spI_app, flatI_app, List.length_append]
                exact by rw [HM.out.2]; exact hown
            clear hown hgrow o5 b5 q1 q2 hbl hi hz0 hz1 hz2
            refine hK _ _ ?_
            clear hK K
            refine wpAny_one 12 (by kernel_rfl) rfl ?_
            intro K hK
            go_simp
            refine hK _ _ ?_
            clear hK K
            refine wpAny_done (by kernel_rfl) ?_ _
            go_wp2
            go_roundw
            case rel => exact HRel.out
            case measure => simp [intOf]; omega
    · have HF : Hid (wr.ownsRow w2.heap.size 3 1 u10 (spI S).length (flatI (spI S)) ∧ Below w2.heap.size w2 wr) := by
        have h := HR.out
        have e := h.1
        rw [spF_done P hlt] at e
        rw [← HROW.out, ← e]
        exact h.2.2.2
      have ik : ¬ (k : Int) + 1 < xs.length := by omega
      clear HR
      go_wp2
      go_ret
      exact ⟨_, rfl, row_weaken HF.out.1 HW2.out, H2.out.1.trans (HF.out.2.mono HW2.out)⟩

end Go.Proofs.YtbghjmkgicdnoaaGreat
