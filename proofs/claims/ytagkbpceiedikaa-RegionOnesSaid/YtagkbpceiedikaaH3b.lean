/-
  Contracts of the document's answer for layer 2: edges.
-/
import Derived.Test.YtagkbpceiedikaaH3
namespace Go.Proofs.Ytagkbpceiedikaa
open Go.RowKit

theorem Bk.at4h {W : World} {b : Nat} {a0 a1 a2 a3 : Value} {t : TypeId} (h : Bk W b #[a0, a1, a2, a3] t) : W.cell? ⟨b, 0, none⟩ = some a0 ∧ W.cell? ⟨b, 1, none⟩ = some a1 ∧ W.cell? ⟨b, 2, none⟩ = some a2 ∧ W.cell? ⟨b, 3, none⟩ = some a3 :=
  ⟨by rw [h.cell]; rfl, by rw [h.cell]; rfl, by rw [h.cell]; rfl, by rw [h.cell]; rfl⟩
theorem drop_cons {l : List Rc} {k : Nat} (h : k < l.length) : l.drop k = l[k] :: l.drop (k + 1) := List.drop_eq_getElem_cons h
/-- Edges gathered so far. -/
def EgI (w0 : World) (down : Bool) (y : Int) (rs : List Rc) (xs : List Int) (k : Nat) (acc : List Int) (v : Value) (wr : World) : Prop :=
  k ≤ rs.length ∧ edF down y (rs.drop k) acc = edF down y rs xs ∧ acc.length ≤ xs.length + 2 * k ∧ wr.ownsRow w0.heap.size 3 1 v acc.length (flatI acc) ∧ Below w0.heap.size w0 wr

set_option maxRecDepth 10000 in
set_option maxHeartbeats 4000000 in
theorem dedges_any (w0 : World) (rs : List Rc) (xs : List Int) (v to : Value) (down : Bool) (y : Int) (w : World) (hb : Below w0.heap.size w0 w) (hv : LsR w0 v rs) (hm : Mays rs) (hr : w.ownsRow w0.heap.size 3 1 to xs.length (flatI xs)) (hl : xs.length + 2 * rs.length ≤ 900000) :
    Calls Try.prog 55 #[to, v, .bool down, .int .i64 y] w fun e w' => ∃ u, e = .returned u ∧ w'.ownsRow w0.heap.size 3 1 u (edF down y rs xs).length (flatI (edF down y rs xs)) ∧ Below w0.heap.size w0 w' := by
  obtain ⟨oa, cap, rfl, hc, hg⟩ := hv
  have HG : Hid (0 < rs.length → ∃ g o, oa = some ⟨g, o, none⟩ ∧ g < w0.heap.size ∧ ∀ i (h : i < rs.length), RcAt w0 g (o + i * 4) rs[i]) := hg
  have HM : Hid (Mays rs) := hm
  have H0 : Hid (EgI w0 down y rs xs 0 xs to w) := ⟨Nat.zero_le _, rfl, Nat.le_refl _, hr, hb⟩
  clear hg hm hr hb
  go_enter Try.func55, Try.ntmps55
  go_wp2_with fail
  go_loopw [0, 9] (fun v i wr => ∃ (k : Nat) (acc : List Int), i = .int .i64 k ∧ Hid (EgI w0 down y rs xs k acc v wr)) (fun _ i _ => rs.length - (intOf i).toNat)
  case atStart => exact ⟨0, xs, rfl, H0⟩
  case round =>
    obtain ⟨k, acc, rfl, HR⟩ := hrel
    clear H0
    have hk := HR.out.1
    by_cases hlt : k < rs.length
    · obtain ⟨g, o, rfl, hg, hat⟩ := HG.out (by omega)
      have hx := (hat k hlt).kept (w' := wr) fun j => HR.out.2.2.2.2.cell (p := ⟨g, j, none⟩) hg
      have hbd := may_bd (HM.out _ (List.getElem_mem hlt))
      have ik : (k : Int) < rs.length := by omega
      have HD : Hid (edF down y (rs.drop (k + 1)) (edS down y rs[k] acc) = edF down y rs xs) := by
        have h := HR.out.2.1
        rw [drop_cons hlt, edF] at h
        exact h
      generalize rs[k] = r at *
      obtain ⟨x0, x1, x2, x3⟩ := hx
      clear hat
      have hacc : acc.length ≤ 900000 := by have := HR.out.2.2.1; omega
      have HS : Hid (∀ W n (ys : List Int) (u : Value), Below w0.heap.size w0 W → W.ownsRow w0.heap.size 3 1 u ys.length (flatI ys) → ys.length ≤ 900001 → Calls Try.prog 73 #[u, .int .i64 n] W fun e w' => ∃ u, e = .returned u ∧ w'.ownsRow w0.heap.size 3 1 u (insU n ys).length (flatI (insU n ys)) ∧ Below w0.heap.size w0 w' ∧ Oth W w') := fun W n ys u h1 h2 h3 => edge_any w0 ys u n W h1 h2 (by omega)
      have HE : Hid (∀ W, Calls Try.prog 66 #[.agg #[.int .i64 r.x, .int .i64 r.y, .int .i64 r.w, .int .i64 r.h]] W fun e w' => e = .returned (.bool (emD r)) ∧ Below W.heap.size W w') := fun W => dempty_any r W
      have HA : Hid (∀ o W, Below (wr.alloc o).heap.size (wr.alloc o) W → W.ownsRow w0.heap.size 3 1 u0 acc.length (flatI acc) ∧ Below w0.heap.size w0 W) := fun o W hb => by
        have hb2 : Below wr.heap.size wr W := ((Below.refl _ wr).alloc (Nat.le_refl _) o).trans (hb.mono (by simp))
        exact ⟨row_below HR.out.2.2.2.1 hb2, HR.out.2.2.2.2.trans (hb2.mono HR.out.2.2.2.2.size)⟩
      have hlen := edS_len down y r acc
      have HL : Hid ((edS down y r acc).length ≤ xs.length + 2 * (k + 1)) := by have := HR.out.2.2.1; unfold Hid; omega
      have hwr : w0.heap.size ≤ wr.heap.size := HR.out.2.2.2.2.size
      clear HR hlen
      unfold edS at HD HL
      cases hem : emD r
      · rw [hem, if_neg (by simp)] at HD HL
        rw [hem] at HE
        clear hem
        cases down
        · rw [if_neg (by simp)] at HD HL
          by_cases c1 : r.y ≤ y
          · by_cases c2 : y < r.y + r.h
            · rw [if_pos ⟨c1, c2⟩] at HD HL
              go_wp2_with fail
              refine (HE.out _).mono ?_
              rintro e w1 ⟨rfl, hb1⟩
              have H1 : Hid (w1.ownsRow w0.heap.size 3 1 u0 acc.length (flatI acc) ∧ Below w0.heap.size w0 w1) := HA.out _ _ hb1
              have HB1 : Hid (Bk w1 wr.heap.size #[.int .i64 r.x, .int .i64 r.y, .int .i64 r.w, .int .i64 r.h] 35) := (Bk.new _ _ _).below hb1
              clear hb1
              obtain ⟨y0, y1, y2, y3⟩ := Bk.at4h HB1.out
              have ylt := HB1.out.lt
              go_wp2_with fail
              refine (HS.out _ _ acc _ H1.out.2 H1.out.1 (by omega)).mono ?_
              rintro e w2 ⟨u2, rfl, ho2, hb2, ht2⟩
              have H2 : Hid (w2.ownsRow w0.heap.size 3 1 u2 (insU r.x acc).length (flatI (insU r.x acc)) ∧ Below w0.heap.size w0 w2) := ⟨ho2, hb2⟩
              have HB2 : Hid (Bk w2 wr.heap.size #[.int .i64 r.x, .int .i64 r.y, .int .i64 r.w, .int .i64 r.h] 35) := ht2 _ _ _ (by decide) HB1.out
              clear ho2 hb2 ht2 y0 y1 y2 y3 ylt HB1 H1
              obtain ⟨y0, y1, y2, y3⟩ := Bk.at4h HB2.out
              have ylt := HB2.out.lt
              go_wp2_with fail
              refine (HS.out _ _ (insU r.x acc) _ H2.out.2 H2.out.1 (by have := insU_lenD r.x acc; omega)).mono ?_
              rintro e w3 ⟨u3, rfl, ho3, hb3, ht3⟩
              have H3 : Hid (w3.ownsRow w0.heap.size 3 1 u3 (insU (r.x + r.w) (insU r.x acc)).length (flatI (insU (r.x + r.w) (insU r.x acc))) ∧ Below w0.heap.size w0 w3) := ⟨ho3, hb3⟩
              clear ho3 hb3 ht3 y0 y1 y2 y3 ylt HB2 H2
              go_wp2
              exact ⟨⟨k + 1, _, by go_num, by omega, HD.out, HL.out, H3.out.1, H3.out.2⟩, by simp [intOf]; omega⟩
            · rw [if_neg (fun h => c2 h.2)] at HD HL
              go_wp2_with fail
              refine (HE.out _).mono ?_
              rintro e w1 ⟨rfl, hb1⟩
              have H1 : Hid (w1.ownsRow w0.heap.size 3 1 u0 acc.length (flatI acc) ∧ Below w0.heap.size w0 w1) := HA.out _ _ hb1
              obtain ⟨y0, y1, y2, y3⟩ := Bk.at4h ((Bk.new _ _ _).below hb1)
              clear hb1
              go_wp2
              exact ⟨⟨k + 1, acc, by go_num, by omega, HD.out, HL.out, H1.out.1, H1.out.2⟩, by simp [intOf]; omega⟩
          · rw [if_neg (fun h => c1 h.1)] at HD HL
            go_wp2_with fail
            refine (HE.out _).mono ?_
            rintro e w1 ⟨rfl, hb1⟩
            have H1 : Hid (w1.ownsRow w0.heap.size 3 1 u0 acc.length (flatI acc) ∧ Below w0.heap.size w0 w1) := HA.out _ _ hb1
            obtain ⟨y0, y1, y2, y3⟩ := Bk.at4h ((Bk.new _ _ _).below hb1)
            clear hb1
            go_wp2
            exact ⟨⟨k + 1, acc, by go_num, by omega, HD.out, HL.out, H1.out.1, H1.out.2⟩, by simp [intOf]; omega⟩
        · rw [if_pos rfl] at HD HL
          go_wp2_with fail
          refine (HE.out _).mono ?_
          rintro e w1 ⟨rfl, hb1⟩
          have H1 : Hid (w1.ownsRow w0.heap.size 3 1 u0 acc.length (flatI acc) ∧ Below w0.heap.size w0 w1) := HA.out _ _ hb1
          have HB1 : Hid (Bk w1 wr.heap.size #[.int .i64 r.x, .int .i64 r.y, .int .i64 r.w, .int .i64 r.h] 35) := (Bk.new _ _ _).below hb1
          clear hb1
          obtain ⟨y0, y1, y2, y3⟩ := Bk.at4h HB1.out
          have ylt := HB1.out.lt
          go_wp2_with fail
          refine (HS.out _ _ acc _ H1.out.2 H1.out.1 (by omega)).mono ?_
          rintro e w2 ⟨u2, rfl, ho2, hb2, ht2⟩
          have H2 : Hid (w2.ownsRow w0.heap.size 3 1 u2 (insU r.y acc).length (flatI (insU r.y acc)) ∧ Below w0.heap.size w0 w2) := ⟨ho2, hb2⟩
          have HB2 : Hid (Bk w2 wr.heap.size #[.int .i64 r.x, .int .i64 r.y, .int .i64 r.w, .int .i64 r.h] 35) := ht2 _ _ _ (by decide) HB1.out
          clear ho2 hb2 ht2 y0 y1 y2 y3 ylt HB1 H1
          obtain ⟨y0, y1, y2, y3⟩ := Bk.at4h HB2.out
          have ylt := HB2.out.lt
          go_wp2_with fail
          refine (HS.out _ _ (insU r.y acc) _ H2.out.2 H2.out.1 (by have := insU_lenD r.y acc; omega)).mono ?_
          rintro e w3 ⟨u3, rfl, ho3, hb3, ht3⟩
          have H3 : Hid (w3.ownsRow w0.heap.size 3 1 u3 (insU (r.y + r.h) (insU r.y acc)).length (flatI (insU (r.y + r.h) (insU r.y acc))) ∧ Below w0.heap.size w0 w3) := ⟨ho3, hb3⟩
          clear ho3 hb3 ht3 y0 y1 y2 y3 ylt HB2 H2
          go_wp2
          exact ⟨⟨k + 1, _, by go_num, by omega, HD.out, HL.out, H3.out.1, H3.out.2⟩, by simp [intOf]; omega⟩
      · rw [hem, if_pos rfl] at HD HL
        rw [hem] at HE
        clear hem
        go_wp2_with fail
        refine (HE.out _).mono ?_
        rintro e w1 ⟨rfl, hb1⟩
        have H1 : Hid (w1.ownsRow w0.heap.size 3 1 u0 acc.length (flatI acc) ∧ Below w0.heap.size w0 w1) := HA.out _ _ hb1
        clear hb1
        go_wp2
        exact ⟨⟨k + 1, acc, by go_num, by omega, HD.out, HL.out, H1.out.1, H1.out.2⟩, by simp [intOf]; omega⟩
    · obtain rfl : k = rs.length := by omega
      have HF : Hid (wr.ownsRow w0.heap.size 3 1 u0 (edF down y rs xs).length (flatI (edF down y rs xs)) ∧ Below w0.heap.size w0 wr) := by
        have h := HR.out
        have e := h.2.1
        rw [List.drop_length, edF] at e
        rw [← e]
        exact h.2.2.2
      clear HR
      go_wp2
      go_ret
      exact ⟨_, rfl, HF.out⟩

end Go.Proofs.Ytagkbpceiedikaa
