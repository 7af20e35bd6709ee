/-
  Texts of this claim, one behind the other: what each is about stands ahead of it.
-/
import Derived.Test.YtooolcldiecfjaaDoorK8
import Derived.Test.YtooolcldiecfjaaDoorK9
import Derived.Lib.BufferRead
import Derived.Test.YtooolcldiecfjaaDoorRows
import Derived.Test.YtooolcldiecfjaaDoorK3
import Derived.PinnedBridge
import Derived.Lib.LaidU8T
import Derived.Lib.LaidTab
import Derived.MakeChecks
import Derived.Test.YtooolcldiecfjaaDoorK6
import Derived.Test.YtooolcldiecfjaaDoorK7
import Derived.Test.YtooolcldiecfjaaDoorK1
import Derived.Lib.ItoaNum
/-
  Contracts of package vector: sizeMayBe, Text, Escape.
-/
namespace Go.Proofs.YtooolcldiecfjaaDoor
open Go.RowKit

set_option maxHeartbeats 1000000 in
theorem siz_any (zw zh : Int) (w : World) (h1 : I64 zw) (h2 : I64 zh) :
    Calls Tryd.prog 12 #[.agg #[.int .i64 zw, .int .i64 zh]] w fun e w' => e = .returned (.bool (sizB zw zh)) ∧ Below w.heap.size w w' := by
  have hI1 := h1.1
  have hI2 := h1.2
  have hI3 := h2.1
  have hI4 := h2.2
  have B0 : Hid (Below w.heap.size w (w.alloc (.cells #[.int .i64 zw, .int .i64 zh] 24))) := (Below.refl _ w).alloc (Nat.le_refl _) _
  go_enter Tryd.func12, Tryd.ntmps12
  go_wp2
  all_goals
    go_ret
    refine ⟨ret_bool ?_, B0.out⟩
    simp [sizB]
    try omega

theorem conv_bytes {w : World} {lo : Nat} {v : Value} {l : List UInt8} (h : OwY lo w v l) : (convert 43 9 v).run Tryd.prog w = .ok (.string ⟨l.toArray⟩) w := by
  obtain ⟨hl, ⟨rfl, h0⟩ | ⟨g, cap, cur, rfl, _⟩⟩ := id h
  · obtain rfl : l = [] := List.length_eq_zero_iff.1 h0
    exact Lib.run_convert_nil_bytes w 43 9 5 0 Tryd.underlying43 Tryd.underlying5 Tryd.underlying9
  · exact conv_own l h rfl (fun j hj => byteCells_at l j hj)

theorem xys_of {l : List St} (h : Wfs l) : Xys l := fun s hs => ⟨(h s hs).2.1.1, (h s hs).2.1.2.1⟩
theorem clp_small : ∀ (n : Nat) (l : List St), clpE n l = 0 → ∀ s ∈ l, s.t.size ≤ 65536
  | _, [], _, s, hs => by cases hs
  | n, x :: l, h, s, hs => by
    obtain ⟨h1, _, h3⟩ := clpE_cons h
    rcases List.mem_cons.1 hs with rfl | hs
    · unfold oneE at h1
      split at h1
      · cases h1
      · next hh =>
        have h3 : wroK s = false := by
          cases e : wroK s
          · rfl
          · rw [e] at hh; simp at hh
        unfold wroK at h3
        simp at h3
        omega
    · exact clp_small _ l h3 s hs
theorem chk_small {l : List St} (h : chkS l = 0) : (∀ s ∈ l, s.t.size ≤ 65536) ∧ l.length ≤ 16384 :=
  ⟨clp_small 0 l (chkS_zero h).2, (chkS_zero h).1⟩

/-- The table of the library's numbers, as it lies ahead of a call. -/
def PwI (w : World) : Prop := Lib.TabIs Tryd.prog w "internal/strconv.uint64pow10" .u64 Lib.pow10Tab
theorem PwI.at {w w3 : World} (h : PwI w) (hb : Below w.heap.size w w3) : PwT w3.heap.size w3 :=
  PwT.mono (PwT.on (Lib.tabBelow_of_tabIs h) hb) hb.size
theorem PwI.below {w w3 : World} (h : PwI w) (hb : Below w.heap.size w w3) : PwI w3 := Lib.tabBelow_of_tabIs h w3 hb

set_option maxRecDepth 10000 in
set_option maxHeartbeats 4000000 in
theorem vtext_any (l : List St) (vl : Value) (zw zh : Int) (w : World) (hv : LsS w vl l) (hw : Wfs l) (h1 : I64 zw) (h2 : I64 zh) (T : PwI w) :
    Calls Tryd.prog 4 #[vl, .agg #[.int .i64 zw, .int .i64 zh]] w fun e w' => e = .returned (.tuple #[.string ⟨(texT l zw zh).toArray⟩, .int .i64 (texE l zw zh)]) ∧ Below w.heap.size w w' := by
  have HC : Hid (∀ W, Below w.heap.size w W → Calls Tryd.prog 11 #[vl] W fun e w' => e = .returned (.int .i64 (chkS l)) ∧ Below W.heap.size W w') := fun W hb => lcheck_any l vl W (hv.below hb) hw.txs (xys_of hw)
  have HZ : Hid (∀ W, Calls Tryd.prog 12 #[.agg #[.int .i64 zw, .int .i64 zh]] W fun e w' => e = .returned (.bool (sizB zw zh)) ∧ Below W.heap.size W w') := fun W => siz_any zw zh W h1 h2
  have HS : Hid (∀ W, Below w.heap.size w W → chkS l = 0 → Calls Tryd.prog 13 #[.slice none 0 0, vl, .agg #[.int .i64 zw, .int .i64 zh]] W fun e w' => ∃ v' R, e = .returned v' ∧ Hid (OwY W.heap.size w' v' R ∧ KpY W.heap.size W w' ∧ R.length ≤ 1000000000 ∧ (R = texF l zw zh ∨ (65536 < R.length ∧ 65536 < (texF l zw zh).length)))) := fun W hb h0 => by
    obtain ⟨c1, c2⟩ := chk_small h0
    exact shapes_any W.heap.size zw zh l vl W (Nat.le_refl _) (fun W' hb' => (hv.below hb).below hb') hw (fun s hs => by have := c1 s hs; omega) h1 h2 (T.at hb) (by omega)
  have B0 : Hid (Below w.heap.size w (w.alloc (.cells #[.int .i64 zw, .int .i64 zh] 24)) ∧ (w.alloc (.cells #[.int .i64 zw, .int .i64 zh] 24)).cell? ⟨w.heap.size, 0, none⟩ = some (.int .i64 zw) ∧ (w.alloc (.cells #[.int .i64 zw, .int .i64 zh] 24)).cell? ⟨w.heap.size, 1, none⟩ = some (.int .i64 zh)) := ⟨(Below.refl _ w).alloc (Nat.le_refl _) _, (Bk.new w _ _).at2⟩
  clear hv hw h1 h2 T
  by_cases hc : chkS l = 0
  · have hE : texE l zw zh = if sizB zw zh = false then 9 else if 65536 < (texF l zw zh).length then 3 else 0 := by unfold texE; rw [if_neg (by simp [hc])]
    have HS' : Hid (∀ W, Below w.heap.size w W → Calls Tryd.prog 13 #[.slice none 0 0, vl, .agg #[.int .i64 zw, .int .i64 zh]] W fun e w' => ∃ v' R, e = .returned v' ∧ Hid (OwY W.heap.size w' v' R ∧ KpY W.heap.size W w' ∧ R.length ≤ 1000000000 ∧ (R = texF l zw zh ∨ (65536 < R.length ∧ 65536 < (texF l zw zh).length)))) := fun W hb => HS.out W hb hc
    have HE : Hid (texE l zw zh = if sizB zw zh = false then 9 else if 65536 < (texF l zw zh).length then 3 else 0) := hE
    have HTt : Hid (texT l zw zh = if texE l zw zh = 0 then texF l zw zh else []) := rfl
    rw [hc] at HC
    generalize texE l zw zh = E at *
    generalize texT l zw zh = Tt at *
    clear HS hc hE
    go_enter Tryd.func4, Tryd.ntmps4
    go_wp2_with fail
    refine (HC.out _ B0.out.1).mono ?_
    rintro e w1 ⟨rfl, hb1⟩
    have H1 : Hid (Below w.heap.size w w1) := B0.out.1.trans (hb1.mono B0.out.1.size)
    have c0 : w1.cell? ⟨w.heap.size, 0, none⟩ = some (.int .i64 zw) := (hb1.cell (p := ⟨w.heap.size, 0, none⟩) (by simp)).trans B0.out.2.1
    have c1 : w1.cell? ⟨w.heap.size, 1, none⟩ = some (.int .i64 zh) := (hb1.cell (p := ⟨w.heap.size, 1, none⟩) (by simp)).trans B0.out.2.2
    have hlt : w.heap.size < w1.heap.size := Nat.lt_of_lt_of_le (by simp) hb1.size
    clear hb1 B0 HC
    go_wp2_with fail
    refine (HZ.out _).mono ?_
    rintro e w2 ⟨rfl, hb2⟩
    have H2 : Hid (Below w.heap.size w w2) := H1.out.trans (hb2.mono H1.out.size)
    have d0 : w2.cell? ⟨w.heap.size, 0, none⟩ = some (.int .i64 zw) := (hb2.cell (p := ⟨w.heap.size, 0, none⟩) hlt).trans c0
    have d1 : w2.cell? ⟨w.heap.size, 1, none⟩ = some (.int .i64 zh) := (hb2.cell (p := ⟨w.heap.size, 1, none⟩) hlt).trans c1
    clear hb2 H1 HZ c0 c1 hlt
    cases hz : sizB zw zh with
    | false =>
      rw [hz] at HE
      obtain rfl : E = 9 := HE.out
      obtain rfl : Tt = [] := HTt.out
      go_wp2
      go_ret2
      exact ⟨rfl, H2.out⟩
    | true =>
      rw [hz] at HE
      go_wp2_with fail
      refine (HS'.out _ H2.out).mono ?_
      rintro e w3 ⟨v3, R, rfl, h3⟩
      have hO : w3.ownsRow w2.heap.size 5 1 v3 R.length (Lib.byteCells R) := h3.out.1
      have hcv := conv_bytes h3.out.1
      obtain ⟨ou, cu, rfl, hcu, _⟩ := row_val hO
      have H3 : Hid (Below w.heap.size w w3 ∧ R.length ≤ 1000000000 ∧ (R = texF l zw zh ∨ (65536 < R.length ∧ 65536 < (texF l zw zh).length))) := ⟨H2.out.trans (h3.out.2.1.b.mono H2.out.size), h3.out.2.2⟩
      clear hO h3 H2 HS' d0 d1
      obtain ⟨N, hN⟩ : ∃ N, N = R.length := ⟨_, rfl⟩
      rw [← hN] at hcv hcu H3 ⊢
      by_cases hbig : 65536 < N
      · have hb1 : 65536 < (N : Int) := by omega
        have e3 : E = 3 := by
          rw [HE.out, if_neg (by decide), if_pos]
          rcases H3.out.2.2 with h | h
          · rw [← h]; omega
          · exact h.2
        subst e3
        obtain rfl : Tt = [] := HTt.out
        go_wp2
        go_ret2
        exact ⟨rfl, H3.out.1⟩
      · have hb1 : ¬ (65536 < (N : Int)) := by omega
        have eR : R = texF l zw zh := by
          rcases H3.out.2.2 with h | h
          · exact h
          · omega
        have e0 : E = 0 := by rw [HE.out, if_neg (by decide), if_neg (by rw [← eR]; omega)]
        subst e0
        have eT : Tt = R := by rw [HTt.out, if_pos rfl, eR]
        subst eT
        clear HE HTt eR hN
        go_wp2
        go_ret2
        exact ⟨rfl, H3.out.1⟩
  · have hE : texE l zw zh = chkS l := by unfold texE; rw [if_pos hc]
    have hTt : texT l zw zh = [] := by unfold texT; rw [if_neg (by rw [hE]; exact hc)]
    rw [hE, hTt]
    clear hE hTt HS
    have hc' : ((chkS l) == 0) = false := by rw [beq_eq_false_iff_ne]; exact hc
    generalize chkS l = E at *
    go_enter Tryd.func4, Tryd.ntmps4
    go_wp2_with fail
    refine (HC.out _ B0.out.1).mono ?_
    rintro e w1 ⟨rfl, hb1⟩
    have H1 : Hid (Below w.heap.size w w1) := B0.out.1.trans (hb1.mono B0.out.1.size)
    clear hb1 B0 HC
    go_wp2
    go_ret2
    exact ⟨rfl, H1.out⟩

set_option maxHeartbeats 2000000 in
theorem vesc_any (s : ByteArray) (w : World) (hs : s.size ≤ 35000000000000) :
    Calls Tryd.prog 8 #[.string s] w fun e w' => e = .returned (.string ⟨(escL s.data.toList).toArray⟩) ∧ Below w.heap.size w w' := by
  have HE : Hid (Calls Tryd.prog 22 #[.slice none 0 0, .string s] w fun e w' => ∃ v', e = .returned v' ∧ OwY w.heap.size w' v' (escL s.data.toList) ∧ KpY w.heap.size w w') := by
    have := escd_any w.heap.size (.slice none 0 0) [] s w (OwY.nil _ _) (Nat.le_refl _) (by simp; omega)
    unfold Hid
    simpa using this
  clear hs
  go_enter Tryd.func8, Tryd.ntmps8
  go_wp2_with fail
  refine HE.out.mono ?_
  rintro e w1 ⟨v1, rfl, h1, h2⟩
  have hcv := conv_bytes h1
  have H1 : Hid (Below w.heap.size w w1) := h2.b
  clear h1 h2 HE
  go_wp2
  go_ret
  exact ⟨rfl, H1.out⟩

end Go.Proofs.YtooolcldiecfjaaDoor

/-
  A size that came in, written out; the program's own settings; the table of the library's numbers.
-/
namespace Go.Proofs.YtooolcldiecfjaaDoor
open Go.ChangeShapes Go.WideShapes Go.ChangeAt Go.RowKit Go.Joins

theorem own_w : ownKnob Tryd.prog.godebug = none := by kernel_rfl
theorem laid_w : laidOutB Tryd.prog = true := by kernel_rfl

set_option maxRecDepth 100000 in
theorem open_siz {H : Type} {enc : TypeId × Value → H} {W : World} {base b : Nat} {sp : Nat → Bool} {held : Bool} {v : Value} {d : DataW H} {p : List MemPlace}
    (hv : Value.okWide Tryd.prog W .any base 24 v) (h : DataW.Trod enc Tryd.prog W b sp held 24 v d p) : ∃ x y : Int, v = .agg #[.int .i64 x, .int .i64 y] ∧ I64 x ∧ I64 y := by
  obtain ⟨c0, c1, y0, y1, m, rfl, rfl, rfl, hy0, hy1⟩ := open_agg2 Tryd.underlying24 (by kernel_rfl) cells_s hv h
  obtain ⟨a, e0, rfl, wa⟩ := DataW.trod_int Tryd.underlying3 hy0
  obtain ⟨c, e1, rfl, wc⟩ := DataW.trod_int Tryd.underlying3 hy1
  simp at e0 e1
  subst e0 e1
  exact ⟨a, c, rfl, i64_of wa, i64_of wc⟩

theorem pow_eq : Rows.laid_internal_strconv_uint64pow10 (H := Unit) = Lib.tabData .u64 Lib.pow10Tab := by kernel_rfl
theorem pw_of {W : World} {l : List (String × DataW Unit)} (hm : ("internal/strconv.uint64pow10", Rows.laid_internal_strconv_uint64pow10) ∈ l) (hL : laidMet Tryd.prog l W) : PwI W := by
  have r2 : Lib.VarReads Tryd.prog W "internal/strconv.uint64pow10" (Lib.tabData .u64 Lib.pow10Tab) := pow_eq ▸ Lib.laidMet.reads hL hm
  obtain ⟨g', t, cs, fuel, p, hg, hty, hvar, hd⟩ := r2
  obtain rfl := Option.some.inj ((show Tryd.prog.globalNamed "internal/strconv.uint64pow10" = some 1 by kernel_rfl).symm.trans hg)
  obtain rfl := Option.some.inj ((show (Tryd.prog.globals[1]?).map (·.type) = some 78 by kernel_rfl).symm.trans hty)
  unfold PwI Lib.TabIs
  rw [hvar, ← Lib.cells_of_tab Tryd.underlying78 Tryd.underlying69 (by kernel_rfl) (by kernel_rfl) hd]

end Go.Proofs.YtooolcldiecfjaaDoor

/-
  Contract of package colour: the colour of sixteens.
-/
namespace Go.Proofs.YtooolcldiecfjaaDoor
open Go.RowKit

/-- A block of four parts. -/
def AtP (w : World) (b : Nat) (f : Nat → Int) : Prop := ∀ j, j < 4 → w.cell? ⟨b, j, none⟩ = some (.int .u8 (f j))
theorem AtP.below {W w1 : World} {b : Nat} {f : Nat → Int} (h : AtP W b f) (hb : Below W.heap.size W w1) : AtP w1 b f :=
  fun j hj => (keepAt hb (h 0 (by decide)) j).trans (h j hj)

theorem rd_bd {t : ByteArray} (hs : ∀ (j : Nat) (h : j < t.size), six (t[j]).toNat = true) (each : Nat) : ∀ i j, i ≤ t.size → 0 ≤ rd t each i j ∧ rd t each i j ≤ 255
  | 0, j, _ => by unfold rd; split <;> omega
  | i + 1, j, h => by
    have hi := rd_bd hs each i j (by omega)
    unfold rd
    split
    · have h2 := hs i (by omega)
      have h3 := dig_lt (t[i]).toNat
      rw [dg_at (by omega)]
      unfold six at h2
      simp at h2
      omega
    · exact hi

theorem or16 : ∀ (y d : Fin 16), bits .or .u8 ((y.val : Int) * 16) (d.val : Int) = (y.val : Int) * 16 + (d.val : Int) := by decide +kernel
theorem or_add (x d : Int) (h0 : 0 ≤ d) (h1 : d ≤ 15) : bits .or .u8 (x * 16 % 256) d = x * 16 % 256 + d := by
  have h := or16 ⟨(x % 16).toNat, by omega⟩ ⟨d.toNat, by omega⟩
  simp only at h
  rw [show (((x % 16).toNat : Nat) : Int) = x % 16 by omega, show ((d.toNat : Nat) : Int) = d by omega, show x % 16 * 16 = x * 16 % 256 by omega] at h
  exact h
theorem AtP.put {w : World} {b q : Nat} {f : Nat → Int} (h : AtP w b f) (v : Int) (hq : q < 4) : AtP (w.setCell ⟨b, q, none⟩ (.int .u8 v)) b (fun j => if j = q then v else f j) := by
  intro j hj
  by_cases e : j = q
  · subst e
    have := h j hj
    simp [go_sem, this]
  · rw [World.cell?_setCell_other _ _ _ _ (fun h => e (by cases h; rfl))]
    simp [e, h j hj]
theorem AtP.congr {w : World} {b : Nat} {f g : Nat → Int} (h : AtP w b f) (e : ∀ j, j < 4 → f j = g j) : AtP w b g := fun j hj => by rw [← e j hj]; exact h j hj

theorem or17F : ∀ y : Fin 16, bits .or .u8 (y.val : Int) ((y.val : Int) * 16) = 17 * (y.val : Int) := by decide +kernel
theorem or17 (y : Int) (h0 : 0 ≤ y) (h1 : y ≤ 15) : bits .or .u8 y (y * 16) = 17 * y := by
  have h := or17F ⟨y.toNat, by omega⟩
  simp only at h
  rwa [show ((y.toNat : Nat) : Int) = y by omega] at h

end Go.Proofs.YtooolcldiecfjaaDoor

/-
  Contract of package colour: Parse.
-/
namespace Go.Proofs.YtooolcldiecfjaaDoor
open Go.RowKit

theorem cut_size (s : ByteArray) : (s.extract 1 s.size).size = s.size - 1 := by simp [ByteArray.size_extract]
theorem cut_at (s : ByteArray) (j : Nat) (h : j < (s.extract 1 s.size).size) (h' : j + 1 < s.size) : (s.extract 1 s.size)[j] = s[j + 1] := by
  rw [ByteArray.getElem_extract]
  congr 1
  omega
theorem cut_dg (s : ByteArray) (j : Nat) (h : j + 1 < s.size) : dg (s.extract 1 s.size) j = dg s (j + 1) := by
  have h1 : j < (s.extract 1 s.size).size := by rw [cut_size]; omega
  rw [dg_at h1, dg_at h, cut_at s j h1 h]
theorem cut_six (s : ByteArray) (hb : bel s = s.size) : ∀ (j : Nat) (h : j < (s.extract 1 s.size).size), six ((s.extract 1 s.size)[j]).toNat = true := by
  intro j h
  have h1 : j + 1 < s.size := by rw [cut_size] at h; omega
  rw [cut_at s j h h1]
  exact bel_six h1 (by omega) (by omega)

theorem parC_three {s : ByteArray} (hb : bel s = s.size) (h : s.size = 4) : parC s = ⟨17 * dg s 1, 17 * dg s 2, 17 * dg s 3, 255⟩ := by
  unfold parC
  rw [if_pos (ok_iff.2 ⟨hb, by omega⟩), if_pos (by omega)]
theorem rd_two {t : ByteArray} (hd : ∀ j, j < t.size → 0 ≤ dg t j ∧ dg t j ≤ 15) (h : t.size = 6 ∨ t.size = 8) : rd t 2 t.size 0 = 16 * dg t 0 + dg t 1 ∧ rd t 2 t.size 1 = 16 * dg t 2 + dg t 3 ∧ rd t 2 t.size 2 = 16 * dg t 4 + dg t 5 ∧
    rd t 2 t.size 3 = if t.size = 6 then 255 else 16 * dg t 6 + dg t 7 := by
  have h0 := hd 0 (by omega)
  have h1 := hd 1 (by omega)
  have h2 := hd 2 (by omega)
  have h3 := hd 3 (by omega)
  have h4 := hd 4 (by omega)
  have h5 := hd 5 (by omega)
  rcases h with h | h
  · rw [h]
    simp [rd]
    omega
  · have h6 := hd 6 (by omega)
    have h7 := hd 7 (by omega)
    rw [h]
    simp [rd]
    omega
theorem parC_two {s : ByteArray} (hb : bel s = s.size) (h : s.size = 7 ∨ s.size = 9) :
    parC s = ⟨rd (s.extract 1 s.size) 2 (s.extract 1 s.size).size 0, rd (s.extract 1 s.size) 2 (s.extract 1 s.size).size 1, rd (s.extract 1 s.size) 2 (s.extract 1 s.size).size 2, rd (s.extract 1 s.size) 2 (s.extract 1 s.size).size 3⟩ := by
  have hz := cut_size s
  have hd : ∀ j, j < (s.extract 1 s.size).size → 0 ≤ dg (s.extract 1 s.size) j ∧ dg (s.extract 1 s.size) j ≤ 15 := fun j hj => by
    rw [cut_dg s j (by omega)]
    exact dg_bd (by omega) (by omega)
  obtain ⟨e0, e1, e2, e3⟩ := rd_two hd (by omega)
  rw [e0, e1, e2, e3, cut_dg s 0 (by omega), cut_dg s 1 (by omega), cut_dg s 2 (by omega), cut_dg s 3 (by omega), cut_dg s 4 (by omega), cut_dg s 5 (by omega)]
  unfold parC
  rw [if_pos (ok_iff.2 ⟨hb, by omega⟩), if_neg (by omega)]
  rcases h with h | h
  · rw [if_pos (by omega), if_pos (by omega)]
  · rw [if_neg (by omega), if_neg (by omega), cut_dg s 6 (by omega), cut_dg s 7 (by omega)]

end Go.Proofs.YtooolcldiecfjaaDoor

/-
  Contracts of the document's answer for layer 4: a text read.
-/
namespace Go.Proofs.YtooolcldiecfjaaDoor
open Go.RowKit

theorem bel_zero {b : Nat} : belB b 0 = (b == 35) := rfl
theorem bel_pos {b k : Nat} (h0 : k ≠ 0) (h9 : k < 9) : belB b k = decide (0 ≤ dig b) := by
  unfold belB six
  rw [if_neg h0, show decide (k ≤ 8) = true by simp; omega, Bool.true_and]
theorem Belongs.snoc {s : ByteArray} {k : Nat} (h : Belongs s k) (hlt : k < s.size) (hb : belB (s[k]).toNat k = true) : Belongs s (k + 1) :=
  ⟨hlt, fun j hj hj' => by
    by_cases e : j = k
    · subst e; exact hb
    · exact h.2 j hj (by omega)⟩

end Go.Proofs.YtooolcldiecfjaaDoor

/-
  Contracts of the document's answer for layer 4: a text that is a colour's.
-/
namespace Go.Proofs.YtooolcldiecfjaaDoor
open Go.RowKit

theorem info_int : (Tryd.prog.info? 3).map (fun i => (i.zero, i.size, i.bytes)) = some (some (.int .i64 0), 1, 8) := by kernel_rfl
theorem cellNew (w : World) (x : Value) (t : TypeId) : ∀ (j : Nat) (u : Value), [x][j]? = some u → (w.alloc (.cells #[x] t)).cell? ((⟨w.heap.size, 0, none⟩ : Addr).add j) = some u := by
  intro j u hj
  match j, hj with
  | 0, hj =>
    simp at hj
    subst hj
    rw [add_at]
    simp
theorem cellNew2 (w : World) (x y : Value) (t : TypeId) : ∀ (j : Nat) (u : Value), [x, y][j]? = some u → (w.alloc (.cells #[x, y] t)).cell? ((⟨w.heap.size, 0, none⟩ : Addr).add j) = some u := by
  intro j u hj
  match j, hj with
  | 0, hj =>
    simp at hj
    subst hj
    rw [add_at]
    simp
  | 1, hj =>
    simp at hj
    subst hj
    rw [add_at]
    simp
theorem oneInt (x : Int) : ∀ u ∈ [Value.int .i64 x], u.oneCell' = true := by
  intro u hu
  rw [List.mem_singleton] at hu
  subst hu
  rfl
theorem twoInt (x y : Int) : ∀ u ∈ [Value.int .i64 x, Value.int .i64 y], u.oneCell' = true := by
  intro u hu
  simp at hu
  rcases hu with rfl | rfl <;> rfl

/-- The sixteens, as they are gathered. -/
def dl (s : ByteArray) (m : Nat) : Nat → List Value
  | 0 => []
  | k + 1 => dl s m k ++ List.replicate m (.int .i64 (dg s (k + 1)))

end Go.Proofs.YtooolcldiecfjaaDoor

/-
  Contracts of the document's answer for layer 4: any text read; a byte in two small sixteens.
-/
namespace Go.Proofs.YtooolcldiecfjaaDoor
open Go.RowKit

theorem cut16 : ∀ x : Fin 16, (⟨#[48, 49, 50, 51, 52, 53, 54, 55, 56, 57, 97, 98, 99, 100, 101, 102]⟩ : ByteArray).extract x.val (x.val + 1) = ⟨#[bt x.val]⟩ := by decide +kernel

set_option maxHeartbeats 1000000 in
theorem two_any (b : Nat) (w : World) (hb : b < 256) :
    Calls Tryd.prog 38 #[.int .u8 b] w fun e w' => e = .returned (.string ⟨#[bt (b / 16), bt (b % 16)]⟩) ∧ Below w.heap.size w w' := by
  obtain ⟨q, hq⟩ : ∃ q, q = b / 16 := ⟨_, rfl⟩
  obtain ⟨r, hr⟩ : ∃ r, r = b % 16 := ⟨_, rfl⟩
  have hq' : (b : Int) / 16 = (q : Int) := by omega
  have hr' : (b : Int) % 16 = (r : Int) := by omega
  have q16 : q < 16 := by omega
  have r16 : r < 16 := by omega
  have c1 := cut16 ⟨q, q16⟩
  have c2 := cut16 ⟨r, r16⟩
  simp only at c1 c2
  rw [← hq, ← hr]
  clear hq hr
  go_enter Tryd.func38, Tryd.ntmps38
  go_wp2_with fail
  have L := Below.refl w.heap.size w
  have ne := gw_ne L
  refine wp_region_gw (by kernel_rfl) (by kernel_rfl) ?_
  repeat (go_big_quiet_step (fail))
  refine wpQuiet_nil ?_
  rintro _ ⟨t, rfl⟩
  go_wp2
  go_ret
  exact ⟨rfl, t.below⟩

end Go.Proofs.YtooolcldiecfjaaDoor

/-
  Contracts of the document's answer for layer 16: number, sixteen, field.
-/
namespace Go.Proofs.YtooolcldiecfjaaDoor
open Go.RowKit

set_option maxHeartbeats 1000000 in
theorem field_any (a b : ByteArray) (w : World) (ha : a.size ≤ 1000) (hb : b.size ≤ 1000000000) :
    Calls Tryd.prog 16 #[.string a, .string b] w fun e w' => e = .returned (.string (⟨#[32]⟩ ++ a ++ ⟨#[61, 34]⟩ ++ b ++ ⟨#[34]⟩)) ∧ w' = w := by
  go_enter Tryd.func16, Tryd.ntmps16
  go_wp2
  go_ret
  exact ⟨rfl, rfl⟩

theorem enc_dig : ∀ d : Fin 10, Utf8.encode (48 + (d.val : Int)) = ⟨#[UInt8.ofNat (48 + d.val)]⟩ := by decide +kernel
theorem ba_cat (a b : List UInt8) : (⟨a.toArray⟩ ++ ⟨b.toArray⟩ : ByteArray) = ⟨(a ++ b).toArray⟩ := by
  apply ByteArray.ext
  simp

set_option maxHeartbeats 1000000 in
theorem numN_any : ∀ (n : Nat) (w : World), n ≤ 9223372036854775807 →
    Calls Tryd.prog 17 #[.int .i64 n] w fun e w' => e = .returned (.string ⟨(Lib.decDigits n).toArray⟩) ∧ w' = w := by
  intro n
  induction n using Nat.strongRecOn with
  | ind n ih =>
    intro w hn
    have h1 : ¬ ((n : Int) ≤ -10) := by omega
    have h2 : ¬ ((n : Int) < 0) := by omega
    obtain ⟨d, hd⟩ : ∃ d, d = n % 10 := ⟨_, rfl⟩
    have hd10 : d < 10 := by omega
    have h4 : ((n : Int)).tmod 10 = d := by rw [show (10 : Int) = ((10 : Nat) : Int) from rfl, ← Int.ofNat_tmod, hd]
    have he := enc_dig ⟨d, hd10⟩
    simp only at he
    by_cases h10 : n < 10
    · have h3 : ¬ (10 ≤ (n : Int)) := by omega
      have e : Lib.decDigits n = [UInt8.ofNat (48 + d)] := by rw [Lib.decDigits_one h10, hd, Nat.mod_eq_of_lt h10]
      rw [e]
      clear ih e hd
      go_enter Tryd.func17, Tryd.ntmps17
      go_wp2
      go_ret
      exact ⟨rfl, rfl⟩
    · have h3 : 10 ≤ (n : Int) := by omega
      have e : Lib.decDigits n = Lib.decDigits (n / 10) ++ [UInt8.ofNat (48 + d)] := by rw [Lib.decDigits, dif_neg h10, hd]
      obtain ⟨q, hq⟩ : ∃ q, q = n / 10 := ⟨_, rfl⟩
      have h5 : ((n : Int)).tdiv 10 = q := by rw [show (10 : Int) = ((10 : Nat) : Int) from rfl, ← Int.ofNat_tdiv, hq]
      have HQ : Hid (∀ W, Calls Tryd.prog 17 #[.int .i64 q] W fun e w' => e = .returned (.string ⟨(Lib.decDigits q).toArray⟩) ∧ w' = W) := fun W => ih q (by omega) W (by omega)
      have hsz : Hid ((⟨(Lib.decDigits q).toArray⟩ : ByteArray).size ≤ 21) := by
        have := Lib.itoa_length_le (q : Int) (by omega) (by omega)
        rw [Lib.itoa_nonneg] at this
        exact this
      rw [e, ← hq, ← ba_cat]
      obtain ⟨S, hS⟩ : ∃ S : ByteArray, S = ⟨(Lib.decDigits q).toArray⟩ := ⟨_, rfl⟩
      rw [← hS] at HQ hsz ⊢
      have hsz' := hsz.out
      have hqb : q ≤ 9223372036854775807 := by omega
      clear ih e hd hq hS
      go_enter Tryd.func17, Tryd.ntmps17
      go_wp2_with fail
      refine (HQ.out _).mono ?_
      rintro e w1 ⟨rfl, hw⟩
      obtain rfl := hw.symm
      go_wp2
      go_ret
      exact ⟨by rw [UInt8.ofNat_add]; rfl, rfl⟩

set_option maxHeartbeats 1000000 in
theorem rnum_any (n : Int) (w : World) (h : I64 n) :
    Calls Tryd.prog 17 #[.int .i64 n] w fun e w' => e = .returned (.string ⟨(Lib.itoa n).toArray⟩) ∧ w' = w := by
  obtain ⟨h0, h1⟩ := h
  have HN : Hid (∀ (q : Nat) W, q ≤ 9223372036854775807 → Calls Tryd.prog 17 #[.int .i64 q] W fun e w' => e = .returned (.string ⟨(Lib.decDigits q).toArray⟩) ∧ w' = W) := fun q W hq => numN_any q W hq
  by_cases hp : 0 ≤ n
  · obtain ⟨u, rfl⟩ := Int.eq_ofNat_of_zero_le hp
    rw [Lib.itoa_nonneg]
    exact HN.out u w (by omega)
  obtain ⟨u, rfl⟩ : ∃ u : Nat, n = -(u : Int) := ⟨n.natAbs, by omega⟩
  rw [Lib.itoa_neg u (by omega)]
  have hsz : ∀ q : Nat, q ≤ 9223372036854775807 → (⟨(Lib.decDigits q).toArray⟩ : ByteArray).size ≤ 21 := fun q hq => by
    have := Lib.itoa_length_le (q : Int) (by omega) (by omega)
    rw [Lib.itoa_nonneg] at this
    exact this
  by_cases h10 : u < 10
  · have h3 : ¬ (-(u : Int) ≤ -10) := by omega
    have h4 : -(u : Int) < 0 := by omega
    have hz := hsz u (by omega)
    rw [show (45 :: Lib.decDigits u) = [45] ++ Lib.decDigits u from rfl, ← ba_cat]
    have HQ := HN.out u
    obtain ⟨S, hS⟩ : ∃ S : ByteArray, S = ⟨(Lib.decDigits u).toArray⟩ := ⟨_, rfl⟩
    rw [← hS] at hz HQ ⊢
    have HQ' : Hid (∀ W, Calls Tryd.prog 17 #[.int .i64 u] W fun e w' => e = .returned (.string S) ∧ w' = W) := fun W => HQ W (by omega)
    have hnn : - -(u : Int) = u := by omega
    clear hS HQ HN hsz hp
    go_enter Tryd.func17, Tryd.ntmps17
    go_wp2_with fail
    refine (HQ'.out _).mono ?_
    rintro e w1 ⟨rfl, hw⟩
    obtain rfl := hw.symm
    go_wp2
    go_ret
    exact ⟨rfl, rfl⟩
  · have h3 : -(u : Int) ≤ -10 := by omega
    obtain ⟨d, hd⟩ : ∃ d, d = u % 10 := ⟨_, rfl⟩
    obtain ⟨q, hq⟩ : ∃ q, q = u / 10 := ⟨_, rfl⟩
    have h4 : (-(u : Int)).tmod 10 = -(d : Int) := by rw [Int.neg_tmod, show (10 : Int) = ((10 : Nat) : Int) from rfl, ← Int.ofNat_tmod, hd]
    have h5 : (-(u : Int)).tdiv 10 = -(q : Int) := by rw [Int.neg_tdiv, show (10 : Int) = ((10 : Nat) : Int) from rfl, ← Int.ofNat_tdiv, hq]
    have hz := hsz q (by omega)
    have hz2 := hsz d (by omega)
    have e : Lib.decDigits u = Lib.decDigits q ++ Lib.decDigits d := by rw [Lib.decDigits, dif_neg h10, hq, Lib.decDigits_one (show d < 10 by omega), hd]
    rw [e, show (45 :: (Lib.decDigits q ++ Lib.decDigits d)) = [45] ++ Lib.decDigits q ++ Lib.decDigits d from rfl, ← ba_cat, ← ba_cat]
    have HQ := HN.out q
    have HD := HN.out d
    obtain ⟨S, hS⟩ : ∃ S : ByteArray, S = ⟨(Lib.decDigits q).toArray⟩ := ⟨_, rfl⟩
    obtain ⟨D, hD⟩ : ∃ D : ByteArray, D = ⟨(Lib.decDigits d).toArray⟩ := ⟨_, rfl⟩
    rw [← hS] at hz HQ ⊢
    rw [← hD] at hz2 HD ⊢
    have HQ' : Hid (∀ W, Calls Tryd.prog 17 #[.int .i64 q] W fun e w' => e = .returned (.string S) ∧ w' = W) := fun W => HQ W (by omega)
    have HD' : Hid (∀ W, Calls Tryd.prog 17 #[.int .i64 d] W fun e w' => e = .returned (.string D) ∧ w' = W) := fun W => HD W (by omega)
    have hnn : - -(q : Int) = q := by omega
    have hnn2 : - -(d : Int) = d := by omega
    have hq1 : q ≤ 9223372036854775807 := by omega
    have hd1 : d ≤ 9 := by omega
    clear hS hD HQ HD HN hsz hp e hd hq
    go_enter Tryd.func17, Tryd.ntmps17
    go_wp2_with fail
    refine (HQ'.out _).mono ?_
    rintro e w1 ⟨rfl, hw⟩
    obtain rfl := hw.symm
    go_wp2_with fail
    refine (HD'.out _).mono ?_
    rintro e w1 ⟨rfl, hw⟩
    obtain rfl := hw.symm
    go_wp2
    go_ret
    exact ⟨rfl, rfl⟩

end Go.Proofs.YtooolcldiecfjaaDoor

/-
  Contract of the document's answer for layer 4: Text.
-/
namespace Go.Proofs.YtooolcldiecfjaaDoor
open Go.RowKit

theorem at0 (x y : UInt8) (h : 0 < (⟨#[x, y]⟩ : ByteArray).size) : (⟨#[x, y]⟩ : ByteArray)[0] = x := rfl
theorem at1 (x y : UInt8) (h : 1 < (⟨#[x, y]⟩ : ByteArray).size) : (⟨#[x, y]⟩ : ByteArray)[1] = y := rfl
theorem size2 (x y : UInt8) : (⟨#[x, y]⟩ : ByteArray).size = 2 := rfl
theorem tw_bt {x : Nat} (h : x < 256) : ((((bt (x / 16)).toNat : Nat) : Int) == (((bt (x % 16)).toNat : Nat) : Int)) = tw x := by
  rw [bt_nat (by omega), bt_nat (Nat.mod_lt _ (by decide))]
  unfold tw
  rw [Bool.eq_iff_iff]
  simp only [beq_iff_eq]
  omega
theorem ext01 (x y : UInt8) : (⟨#[x, y]⟩ : ByteArray).extract 0 1 = ⟨#[x]⟩ := by
  apply ByteArray.ext
  simp

theorem cat4 (x y z : UInt8) : (⟨#[35]⟩ ++ ⟨#[x]⟩ ++ ⟨#[y]⟩ ++ ⟨#[z]⟩ : ByteArray) = ⟨#[35, x, y, z]⟩ := by
  apply ByteArray.ext
  simp
theorem cat7 (a b c d e f : UInt8) : (⟨#[35]⟩ ++ ⟨#[a, b]⟩ ++ ⟨#[c, d]⟩ ++ ⟨#[e, f]⟩ : ByteArray) = ⟨#[35, a, b, c, d, e, f]⟩ := by
  apply ByteArray.ext
  simp
theorem cat9 (a b c d e f g h : UInt8) : (⟨#[35]⟩ ++ ⟨#[a, b]⟩ ++ ⟨#[c, d]⟩ ++ ⟨#[e, f]⟩ ++ ⟨#[g, h]⟩ : ByteArray) = ⟨#[35, a, b, c, d, e, f, g, h]⟩ := by
  apply ByteArray.ext
  simp
attribute [local go_sem] at0 at1 ext01

set_option maxHeartbeats 2000000 in
theorem rtext_short (r g b : Nat) (w : World) (hr : r < 256) (hg : g < 256) (hb : b < 256) (h1 : tw r = true) (h2 : tw g = true) (h3 : tw b = true) :
    Calls Tryd.prog 28 #[.agg #[.int .u8 r, .int .u8 g, .int .u8 b, .int .u8 255]] w fun e w' => e = .returned (.string ⟨#[35, bt (r / 16), bt (g / 16), bt (b / 16)]⟩) ∧ Below w.heap.size w w' := by
  rw [← tw_bt hr] at h1
  rw [← tw_bt hg] at h2
  rw [← tw_bt hb] at h3
  have H2 : Hid (∀ (x : Nat) w, x < 256 → Calls Tryd.prog 38 #[.int .u8 x] w fun e w' => e = .returned (.string ⟨#[bt (x / 16), bt (x % 16)]⟩) ∧ Below w.heap.size w w') := fun x w hx => two_any x w hx
  go_enter Tryd.func28, Tryd.ntmps28
  go_wp2_with fail
  have A := AtC.new w r g b 255 30
  have L : Below w.heap.size w (w.alloc (.cells #[.int .u8 r, .int .u8 g, .int .u8 b, .int .u8 255] 30)) := (Below.refl _ w).alloc (Nat.le_refl _) _
  generalize w.alloc (.cells #[.int .u8 r, .int .u8 g, .int .u8 b, .int .u8 255] 30) = W at *
  have HA : Hid (AtC W w.heap.size ⟨r, g, b, 255⟩ ∧ Below w.heap.size w W) := ⟨A, L⟩
  have ne := gw_ne L
  have a0 := fun t => (gwC A t).1
  have a1 := fun t => (gwC A t).2.1
  have a2 := fun t => (gwC A t).2.2.1
  clear A L
  refine wp_region_gw (by kernel_rfl) (by kernel_rfl) ?_
  repeat (go_big_quiet_step (first
    | (go_at_call 38; exact gw_call (H2.out _ _ (by assumption)))))
  refine wpQuiet_nil ?_
  rintro _ ⟨t, rfl⟩
  clear a0 a1 a2 ne
  have HB : Hid (AtC t.wd w.heap.size ⟨r, g, b, 255⟩ ∧ Below w.heap.size w t.wd) := ⟨HA.out.1.below t.below, HA.out.2.trans (t.below.mono HA.out.2.size)⟩
  generalize t.wd = W1 at *
  clear HA
  go_wp2_with fail
  have ne := gw_ne HB.out.2
  have a3 := fun t => (gwC HB.out.1 t).2.2.2
  refine wp_region_gw (by kernel_rfl) (by kernel_rfl) ?_
  repeat (go_big_quiet_step (fail))
  refine wpQuiet_nil ?_
  rintro _ ⟨t2, rfl⟩
  clear a3 ne
  have HC : Hid (Below w.heap.size w t2.wd) := HB.out.2.trans (t2.below.mono HB.out.2.size)
  generalize t2.wd = W2 at *
  clear HB
  go_wp2_with fail
  have ne := gw_ne HC.out
  refine wp_region_gw (by kernel_rfl) (by kernel_rfl) ?_
  repeat (go_big_quiet_step (fail))
  refine wpQuiet_nil ?_
  rintro _ ⟨t3, rfl⟩
  go_wp2
  go_ret
  exact ⟨congrArg (fun z => Ending.returned (.string z)) (cat4 _ _ _), HC.out.trans (t3.below.mono HC.out.size)⟩

set_option maxHeartbeats 2000000 in
theorem rtext_six (r g b : Nat) (w : World) (hr : r < 256) (hg : g < 256) (hb : b < 256) (ht : tw r = false ∨ (tw r = true ∧ tw g = false) ∨ (tw r = true ∧ tw g = true ∧ tw b = false)) :
    Calls Tryd.prog 28 #[.agg #[.int .u8 r, .int .u8 g, .int .u8 b, .int .u8 255]] w fun e w' => e = .returned (.string ⟨#[35, bt (r / 16), bt (r % 16), bt (g / 16), bt (g % 16), bt (b / 16), bt (b % 16)]⟩) ∧ Below w.heap.size w w' := by
  rw [← tw_bt hr, ← tw_bt hg, ← tw_bt hb] at ht
  have H2 : Hid (∀ (x : Nat) w, x < 256 → Calls Tryd.prog 38 #[.int .u8 x] w fun e w' => e = .returned (.string ⟨#[bt (x / 16), bt (x % 16)]⟩) ∧ Below w.heap.size w w') := fun x w hx => two_any x w hx
  rcases ht with h1 | ⟨h1, h2⟩ | ⟨h1, h2, h3⟩
  all_goals
    go_enter Tryd.func28, Tryd.ntmps28
    go_wp2_with fail
    have A := AtC.new w r g b 255 30
    have L : Below w.heap.size w (w.alloc (.cells #[.int .u8 r, .int .u8 g, .int .u8 b, .int .u8 255] 30)) := (Below.refl _ w).alloc (Nat.le_refl _) _
    generalize w.alloc (.cells #[.int .u8 r, .int .u8 g, .int .u8 b, .int .u8 255] 30) = W at *
    have HA : Hid (AtC W w.heap.size ⟨r, g, b, 255⟩ ∧ Below w.heap.size w W) := ⟨A, L⟩
    have ne := gw_ne L
    have a0 := fun t => (gwC A t).1
    have a1 := fun t => (gwC A t).2.1
    have a2 := fun t => (gwC A t).2.2.1
    clear A L
    refine wp_region_gw (by kernel_rfl) (by kernel_rfl) ?_
    repeat (go_big_quiet_step (first
      | (go_at_call 38; exact gw_call (H2.out _ _ (by assumption)))))
    refine wpQuiet_nil ?_
    rintro _ ⟨t, rfl⟩
    clear a0 a1 a2 ne
    have HB : Hid (AtC t.wd w.heap.size ⟨r, g, b, 255⟩ ∧ Below w.heap.size w t.wd) := ⟨HA.out.1.below t.below, HA.out.2.trans (t.below.mono HA.out.2.size)⟩
    generalize t.wd = W1 at *
    clear HA
    go_wp2_with fail
    have ne := gw_ne HB.out.2
    have a3 := fun t => (gwC HB.out.1 t).2.2.2
    refine wp_region_gw (by kernel_rfl) (by kernel_rfl) ?_
    repeat (go_big_quiet_step (fail))
    refine wpQuiet_nil ?_
    rintro _ ⟨t2, rfl⟩
    clear ne
    have HC : Hid (AtC t2.wd w.heap.size ⟨r, g, b, 255⟩ ∧ Below w.heap.size w t2.wd) := ⟨HB.out.1.below t2.below, HB.out.2.trans (t2.below.mono HB.out.2.size)⟩
    clear a3
    generalize t2.wd = W2 at *
    clear HB
    obtain ⟨d0, d1, d2, d3⟩ := HC.out.1
    go_wp2
    go_ret
    exact ⟨congrArg (fun z => Ending.returned (.string z)) (cat7 _ _ _ _ _ _), HC.out.2⟩

set_option maxRecDepth 20000 in
set_option maxHeartbeats 2000000 in
theorem rtext_eight (r g b a : Nat) (w : World) (hr : r < 256) (hg : g < 256) (hb : b < 256) (ha : a < 255) :
    Calls Tryd.prog 28 #[.agg #[.int .u8 r, .int .u8 g, .int .u8 b, .int .u8 a]] w fun e w' => e = .returned (.string ⟨#[35, bt (r / 16), bt (r % 16), bt (g / 16), bt (g % 16), bt (b / 16), bt (b % 16), bt (a / 16), bt (a % 16)]⟩) ∧ Below w.heap.size w w' := by
  have h255 : ((a : Int) == 255) = false := by rw [beq_eq_false_iff_ne]; omega
  have ha' : a < 256 := by omega
  have H2 : Hid (∀ (x : Nat) w, x < 256 → Calls Tryd.prog 38 #[.int .u8 x] w fun e w' => e = .returned (.string ⟨#[bt (x / 16), bt (x % 16)]⟩) ∧ Below w.heap.size w w') := fun x w hx => two_any x w hx
  iterate 1
    go_enter Tryd.func28, Tryd.ntmps28
    go_wp2_with fail
    have A := AtC.new w r g b a 30
    have L : Below w.heap.size w (w.alloc (.cells #[.int .u8 r, .int .u8 g, .int .u8 b, .int .u8 a] 30)) := (Below.refl _ w).alloc (Nat.le_refl _) _
    generalize w.alloc (.cells #[.int .u8 r, .int .u8 g, .int .u8 b, .int .u8 a] 30) = W at *
    have HA : Hid (AtC W w.heap.size ⟨r, g, b, a⟩ ∧ Below w.heap.size w W) := ⟨A, L⟩
    have ne := gw_ne L
    have a0 := fun t => (gwC A t).1
    have a1 := fun t => (gwC A t).2.1
    have a2 := fun t => (gwC A t).2.2.1
    clear A L
    refine wp_region_gw (by kernel_rfl) (by kernel_rfl) ?_
    repeat (go_big_quiet_step (first
      | (go_at_call 38; exact gw_call (H2.out _ _ (by assumption)))))
    refine wpQuiet_nil ?_
    rintro _ ⟨t, rfl⟩
    clear a0 a1 a2 ne
    have HB : Hid (AtC t.wd w.heap.size ⟨r, g, b, a⟩ ∧ Below w.heap.size w t.wd) := ⟨HA.out.1.below t.below, HA.out.2.trans (t.below.mono HA.out.2.size)⟩
    generalize t.wd = W1 at *
    clear HA
    go_wp2_with fail
    have ne := gw_ne HB.out.2
    have a3 := fun t => (gwC HB.out.1 t).2.2.2
    refine wp_region_gw (by kernel_rfl) (by kernel_rfl) ?_
    repeat (go_big_quiet_step (fail))
    refine wpQuiet_nil ?_
    rintro _ ⟨t2, rfl⟩
    clear ne
    have HC : Hid (AtC t2.wd w.heap.size ⟨r, g, b, a⟩ ∧ Below w.heap.size w t2.wd) := ⟨HB.out.1.below t2.below, HB.out.2.trans (t2.below.mono HB.out.2.size)⟩
    clear a3
    generalize t2.wd = W2 at *
    clear HB
    obtain ⟨d0, d1, d2, d3⟩ := HC.out.1
    go_wp2_with fail
    refine (H2.out _ _ (by assumption)).mono ?_
    rintro e w3 ⟨rfl, hb3⟩
    have L3 := HC.out.2.trans (hb3.mono HC.out.2.size)
    clear hb3
    go_wp2
    go_ret
    exact ⟨congrArg (fun z => Ending.returned (.string z)) (cat9 _ _ _ _ _ _ _ _), L3⟩

theorem rtext_any (c : Co) (w : World) (hc : c.ok) :
    Calls Tryd.prog 28 #[(Value.agg #[.int .u8 c.r, .int .u8 c.g, .int .u8 c.b, .int .u8 c.a])] w fun e w' => e = .returned (.string (txt c)) ∧ Below w.heap.size w w' := by
  obtain ⟨⟨r1, r2⟩, ⟨g1, g2⟩, ⟨b1, b2⟩, ⟨a1, a2⟩⟩ := hc
  obtain ⟨r, g, b, a⟩ := c
  simp only at r1 r2 g1 g2 b1 b2 a1 a2
  obtain ⟨r, rfl⟩ := Int.eq_ofNat_of_zero_le r1
  obtain ⟨g, rfl⟩ := Int.eq_ofNat_of_zero_le g1
  obtain ⟨b, rfl⟩ := Int.eq_ofNat_of_zero_le b1
  obtain ⟨a, rfl⟩ := Int.eq_ofNat_of_zero_le a1
  unfold txt txtL
  simp only [Int.toNat_natCast]
  have tq : ∀ x : Nat, x < 256 → tw x = true → x / 16 = x % 16 := fun x hx h => by
    unfold tw at h
    rw [sx_inj (by omega) (by omega)] at h
    simpa using h
  by_cases h : a = 255
  · subst h
    by_cases ht : tw r = true ∧ tw g = true ∧ tw b = true
    · rw [if_pos ⟨rfl, ht⟩]
      have h := rtext_short r g b w (by omega) (by omega) (by omega) ht.1 ht.2.1 ht.2.2
      rw [tq r (by omega) ht.1, tq g (by omega) ht.2.1, tq b (by omega) ht.2.2] at h
      exact h
    · rw [if_neg (fun h => ht h.2), if_pos rfl]
      refine rtext_six r g b w (by omega) (by omega) (by omega) ?_
      cases e1 : tw r
      · exact .inl rfl
      · cases e2 : tw g
        · exact .inr (.inl ⟨rfl, rfl⟩)
        · cases e3 : tw b
          · exact .inr (.inr ⟨rfl, rfl, rfl⟩)
          · exact absurd ⟨e1, e2, e3⟩ ht
  · rw [if_neg (fun h' => h h'.1), if_neg h]
    exact rtext_eight r g b a w (by omega) (by omega) (by omega) (by omega)

end Go.Proofs.YtooolcldiecfjaaDoor

/-
  Contracts of the document's answer for layer 16: rect.
-/
namespace Go.Proofs.YtooolcldiecfjaaDoor
open Go.RowKit

def nmS (n : Int) : ByteArray := ⟨(Lib.itoa n).toArray⟩
def fldS (a b : ByteArray) : ByteArray := ⟨#[32]⟩ ++ a ++ ⟨#[61, 34]⟩ ++ b ++ ⟨#[34]⟩
def rcS (r : Rc) : ByteArray := fldS ⟨#[120]⟩ (nmS r.x) ++ fldS ⟨#[121]⟩ (nmS r.y) ++ fldS ⟨#[119]⟩ (nmS r.w) ++ fldS ⟨#[104]⟩ (nmS r.h)
theorem nmS_size {n : Int} (h : I64 n) : (nmS n).size ≤ 21 := Lib.itoa_length_le n h.1 h.2
theorem fldS_size (a b : ByteArray) : (fldS a b).size = a.size + b.size + 4 := by
  unfold fldS
  rw [ByteArray.size_append, ByteArray.size_append, ByteArray.size_append, ByteArray.size_append]
  have e1 : (⟨#[32]⟩ : ByteArray).size = 1 := rfl
  have e2 : (⟨#[61, 34]⟩ : ByteArray).size = 2 := rfl
  have e3 : (⟨#[34]⟩ : ByteArray).size = 1 := rfl
  omega

set_option maxHeartbeats 4000000 in
theorem rrect_any (r : Rc) (w : World) (h0 : I64 r.x) (h1 : I64 r.y) (h2 : I64 r.w) (h3 : I64 r.h) :
    Calls Tryd.prog 29 #[.agg #[.int .i64 r.x, .int .i64 r.y, .int .i64 r.w, .int .i64 r.h]] w fun e w' => e = .returned (.string (rcS r)) ∧ Below w.heap.size w w' := by
  have HN : Hid (∀ (n : Int) W, I64 n → Calls Tryd.prog 17 #[.int .i64 n] W fun e w' => e = .returned (.string (nmS n)) ∧ Below W.heap.size W w') := fun n W h => (rnum_any n W h).mono fun e w' ⟨a, b⟩ => ⟨a, by rw [b]; exact Below.refl _ _⟩
  have HF : Hid (∀ (a : ByteArray) (n : Int) W, a.size ≤ 1000 → I64 n → Calls Tryd.prog 16 #[.string a, .string (nmS n)] W fun e w' => e = .returned (.string (fldS a (nmS n))) ∧ Below W.heap.size W w') := fun a n W h h' => (field_any a (nmS n) W h (by have := nmS_size h'; omega)).mono fun e w' ⟨a, b⟩ => ⟨a, by rw [b]; exact Below.refl _ _⟩
  have s0 : (fldS ⟨#[120]⟩ (nmS r.x)).size ≤ 30 := by rw [fldS_size]; have := nmS_size h0; have e : (⟨#[120]⟩ : ByteArray).size = 1 := rfl; omega
  have s1 : (fldS ⟨#[121]⟩ (nmS r.y)).size ≤ 30 := by rw [fldS_size]; have := nmS_size h1; have e : (⟨#[121]⟩ : ByteArray).size = 1 := rfl; omega
  have s2 : (fldS ⟨#[119]⟩ (nmS r.w)).size ≤ 30 := by rw [fldS_size]; have := nmS_size h2; have e : (⟨#[119]⟩ : ByteArray).size = 1 := rfl; omega
  have s3 : (fldS ⟨#[104]⟩ (nmS r.h)).size ≤ 30 := by rw [fldS_size]; have := nmS_size h3; have e : (⟨#[104]⟩ : ByteArray).size = 1 := rfl; omega
  have HB : Hid (Below w.heap.size w (w.alloc (.cells #[.int .i64 r.x, .int .i64 r.y, .int .i64 r.w, .int .i64 r.h] 28)) ∧ Bk (w.alloc (.cells #[.int .i64 r.x, .int .i64 r.y, .int .i64 r.w, .int .i64 r.h] 28)) w.heap.size #[.int .i64 r.x, .int .i64 r.y, .int .i64 r.w, .int .i64 r.h] 28) := ⟨(Below.refl _ w).alloc (Nat.le_refl _) _, Bk.new _ _ _⟩
  go_enter Tryd.func29, Tryd.ntmps29
  go_wp2_with fail
  generalize w.alloc (.cells #[.int .i64 r.x, .int .i64 r.y, .int .i64 r.w, .int .i64 r.h] 28) = W at *
  have ne := gw_ne HB.out.1
  have c0 := fun t : Gw W => (HB.out.2.below t.below).cell 0
  have c1 := fun t : Gw W => (HB.out.2.below t.below).cell 1
  have c2 := fun t : Gw W => (HB.out.2.below t.below).cell 2
  have c3 := fun t : Gw W => (HB.out.2.below t.below).cell 3
  simp only [List.getElem?_toArray, List.getElem?_cons_zero, List.getElem?_cons_succ] at c0 c1 c2 c3
  refine wp_region_gw (by kernel_rfl) (by kernel_rfl) ?_
  repeat (go_big_quiet_step (first
    | (go_at_call 17; exact gw_call (HN.out _ _ (by assumption)))
    | (go_at_call 16; exact gw_call (HF.out _ _ _ (by decide) (by assumption)))))
  refine wpQuiet_nil ?_
  rintro _ ⟨t, rfl⟩
  have HC : Hid (Below w.heap.size w t.wd) := HB.out.1.trans (t.below.mono HB.out.1.size)
  generalize t.wd = W1 at *
  go_wp2
  go_ret
  exact ⟨rfl, HC.out⟩

end Go.Proofs.YtooolcldiecfjaaDoor

/-
  Contracts of the document's answer for layer 16: stands, sixteen, Escape, sized.
-/
namespace Go.Proofs.YtooolcldiecfjaaDoor
open Go.RowKit

set_option maxRecDepth 20000 in
set_option maxHeartbeats 1000000 in
theorem rstands_any (b : Nat) (w : World) (hb : b < 256) :
    Calls Tryd.prog 20 #[.int .u8 b] w fun e w' => e = .returned (.bool (stD b)) ∧ w' = w := by
  go_enter Tryd.func20, Tryd.ntmps20
  go_wp2
  all_goals
    go_ret
    refine ⟨ret_bool ?_, rfl⟩
    simp [stD]
    try (first | omega | (intros; omega))

set_option maxHeartbeats 1000000 in
theorem rsixteen_any (n : Nat) (w : World) (h : n < 16) :
    Calls Tryd.prog 23 #[.int .i64 n] w fun e w' => e = .returned (.string ⟨#[bt n]⟩) ∧ w' = w := by
  have hc := cut16 ⟨n, h⟩
  simp only at hc
  go_enter Tryd.func23, Tryd.ntmps23
  go_wp2
  go_ret
  exact ⟨rfl, rfl⟩

set_option maxHeartbeats 1000000 in
theorem rsiz_any (zw zh : Int) (w : World) (h1 : I64 zw) (h2 : I64 zh) :
    Calls Tryd.prog 15 #[.agg #[.int .i64 zw, .int .i64 zh]] w fun e w' => e = .returned (.bool (sizB zw zh)) ∧ Below w.heap.size w w' := by
  have hI1 := h1.1
  have hI2 := h1.2
  have hI3 := h2.1
  have hI4 := h2.2
  have B0 : Hid (Below w.heap.size w (w.alloc (.cells #[.int .i64 zw, .int .i64 zh] 24))) := (Below.refl _ w).alloc (Nat.le_refl _) _
  go_enter Tryd.func15, Tryd.ntmps15
  go_wp2
  all_goals
    go_ret
    refine ⟨ret_bool ?_, B0.out⟩
    simp [sizB]
    try omega

theorem vtxt_step {w : World} {ops : Array Oper} {o : Oper} {a : Act} {K : Act → World → Prop} {Q : Exit → Act → World → Prop} {E : Prop} (hgd : o.guard = none) (s x : Operand)
    (ho : o.op = .call { callee := .builtin .append, args := #[s, x], argTypes := #[43, 9] })
    (lo : Nat) (v : Value) (xs : List UInt8) (y : ByteArray) (hs : a.eval s = v) (hown : OwY lo w v xs) (hx : a.eval x = .string y)
    (hlo : lo ≤ w.heap.size) (hl : xs.length + y.size ≤ 140737488355328)
    (h : ∀ v' w', OwY lo w' v' (xs ++ y.data.toList) → KpY lo w w' → K (a.put o.dst v') w') :
    if Region.wanted o (yielded ops a.tmps) = true then Oper.wp Tryd.prog o a w K Q else E := by
  have hw : Region.wanted o (yielded ops a.tmps) = true := by simp [Region.wanted, hgd]
  rw [if_pos hw]
  obtain ⟨i0, hi, hz0, hz1, hz2⟩ := info_byte
  obtain ⟨v', w', hr, h2, h3, _⟩ := Lib.run_append_own_string (P := Tryd.prog) w lo 43 9 o.type 5 i0 Tryd.underlying43 Tryd.underlying9 hi hz0 hz1 hz2 v xs.length (Lib.byteCells xs) hown y (by unfold maxLen; omega) hl hlo
  unfold Oper.wp execOp
  simp only [ho, resolve, invoke, builtin, Sem.run_bind, Sem.run_pure, Result.andThen_ok, List.map_toArray, List.map_cons, List.map_nil, hs, hx, hr]
  refine h v' w' ?_ ((KpY.refl lo w).grown hlo hown h3)
  unfold OwY
  rw [Lib.byteCells_append, List.length_append]
  rw [Lib.strCells_eq] at h2
  exact h2

set_option maxRecDepth 10000 in
set_option maxHeartbeats 4000000 in
theorem rescape_any (s : ByteArray) (w : World) (hs : s.size ≤ 35000000000000) :
    Calls Tryd.prog 9 #[.string s] w fun e w' => e = .returned (.string ⟨(escL s.data.toList).toArray⟩) ∧ Below w.heap.size w w' := by
  have H0 : Hid (EsW w.heap.size w [] s 0 (.slice none 0 0) w) := ⟨by simpa [escL] using OwY.nil _ _, KpY.refl _ _, Nat.le_refl _⟩
  have HS : Hid (∀ (k : Nat) W, k < 256 → Calls Tryd.prog 20 #[.int .u8 k] W fun e w' => e = .returned (.bool (stD k)) ∧ w' = W) := fun k W hk => rstands_any k W hk
  have H16 : Hid (∀ (k : Nat) W, k < 16 → Calls Tryd.prog 23 #[.int .i64 k] W fun e w' => e = .returned (.string ⟨#[bt k]⟩) ∧ w' = W) := fun k W hk => rsixteen_any k W hk
  have hsz : s.size ≤ 9223372036854775807 := by omega
  go_enter Tryd.func9, Tryd.ntmps9
  go_wp2_with fail
  go_loopw [3, 4] (fun u0 i wr => ∃ (u : Value) (k : Nat), u = u0 ∧ k ≤ s.size ∧ i = .int .i64 k ∧ Hid (EsW w.heap.size w [] s k u wr)) (fun _ i _ => s.size - (intOf i).toNat)
  case atStart => exact ⟨_, 0, rfl, Nat.zero_le _, rfl, H0⟩
  case round =>
    obtain ⟨u, k, rfl, hk, rfl, HR⟩ := hrel
    clear H0
    by_cases hlt : k < s.size
    · have hb := UInt8.toNat_lt s[k]
      obtain ⟨XS, hXS⟩ : ∃ XS, XS = escL (s.data.toList.take k) := ⟨_, rfl⟩
      have HX : Hid (∀ W V, OwY w.heap.size W V (XS ++ escB s[k]) → KpY w.heap.size wr W → EsW w.heap.size w [] s (k + 1) V W) := fun W V h1 h2 => by
        have h3 := HR.out.kp.trans h2
        refine ⟨?_, h3, h3.b.size⟩
        rw [List.nil_append, take_next s k hlt, escL_app, ← hXS]
        have e : escL [s[k]] = escB s[k] := by simp [escL]
        rw [e]
        exact h1
      have hlen : Hid (XS.length + 4 ≤ 140737488355328) := by
        unfold Hid
        have h1 := escL_len (s.data.toList.take k)
        have h3 : (s.data.toList.take k).length ≤ k := by simp; omega
        rw [hXS]
        omega
      have HO : Hid (OwY w.heap.size wr u XS ∧ w.heap.size ≤ wr.heap.size) := ⟨by have := HR.out.ow; rw [hXS]; exact this, HR.out.sz⟩
      clear hXS HR
      cases hst : stD (s[k]).toNat with
      | true =>
        have he : escB s[k] = [s[k]] := by unfold escB; rw [if_pos hst]
        rw [he] at HX
        have HY : Hid (∀ W V, W.ownsRow w.heap.size 5 1 V (XS.length + 1) (Lib.byteCells (XS ++ [s[k]])) → KpY w.heap.size wr W → EsW w.heap.size w [] s (k + 1) V W) := fun W V h1 h2 => HX.out W V (by unfold OwY; rw [List.length_append]; exact h1) h2
        have HA : Hid (OwY w.heap.size (wr.alloc (.cells #[.int .u8 (s[k]).toNat] 5)) u XS ∧ KpY w.heap.size wr (wr.alloc (.cells #[.int .u8 (s[k]).toNat] 5)) ∧ w.heap.size ≤ (wr.alloc (.cells #[.int .u8 (s[k]).toNat] 5)).heap.size) := ⟨HO.out.1.below ((Below.refl _ _).alloc (Nat.le_refl _) _), (KpY.refl _ _).alloc HO.out.2 _, by have := HO.out.2; simp; omega⟩
        clear HO HX he
        go_wp2_with (first | (go_at_call 20; refine (HS.out _ _ (by assumption)).mono ?_; rintro e w' ⟨rfl, hw⟩; obtain rfl := hw.symm) | (at_builtin; refine app_lit rfl _ _ rfl w.heap.size u XS [s[k]] rfl HA.out.1 wr.heap.size _ 1 1 #[.int .u8 (s[k]).toNat] 5 rfl rfl (alc_new _ _) rfl HA.out.2.2 (by have := hlen.out; simp; omega) rfl ?_))
        intro v1 w1 h1 h2
        have HF : Hid (EsW w.heap.size w [] s (k + 1) v1 w1) := HY.out _ _ h1 (HA.out.2.1.trans h2)
        clear h1 h2 HY HA
        go_wp2
        go_roundw
        case rel => exact ⟨v1, k + 1, rfl, by omega, by go_num, HF⟩
        case measure => simp [intOf]; omega
      | false =>
        have he : escB s[k] = [38, bt ((s[k]).toNat / 16), bt ((s[k]).toNat % 16), 59] := by unfold escB; rw [if_neg (by simp [hst])]
        rw [he] at HX
        clear he
        go_wp2_with (go_at_call 20; refine (HS.out _ _ (by assumption)).mono ?_; rintro e w' ⟨rfl, hw⟩; obtain rfl := hw.symm)
        have ne : Nonempty (Gb wr []) := ⟨⟨wr, Below.refl _ _, fun p hp => by cases hp⟩⟩
        obtain ⟨q, hq⟩ : ∃ q, q = (s[k]).toNat / 16 := ⟨_, rfl⟩
        obtain ⟨r, hr⟩ : ∃ r, r = (s[k]).toNat % 16 := ⟨_, rfl⟩
        have hq16 : q < 16 := by omega
        have hr16 : r < 16 := by omega
        have ht1 : ((s[k]).toNat : Int).tdiv 16 = q := by rw [show (16 : Int) = ((16 : Nat) : Int) from rfl, ← Int.ofNat_tdiv, hq]
        have ht2 : ((s[k]).toNat : Int).tmod 16 = r := by rw [show (16 : Int) = ((16 : Nat) : Int) from rfl, ← Int.ofNat_tmod, hr]
        rw [← hq, ← hr] at HX
        clear hq hr
        have hbs : ∀ x : Nat, (⟨#[bt x]⟩ : ByteArray).size = 1 := fun _ => rfl
        refine R4.wp_region_lit 16 0 2 (fun _ _ => undef) (fun _ => .cells #[] 0) [] (by kernel_rfl) (by kernel_rfl) rfl (fun k hk => absurd hk (by omega)) rfl ?_
        apply Exists.intro
        refine ⟨fun bs ne => ?_, fun i h1 h2 => absurd h2 (by omega), ?_⟩
        · simp only [List.take_succ_cons, List.take_zero]
          repeat (go_big_quiet_step (first | (go_at_call 23; exact gb_same (H16.out _ _ (by assumption)))))
          exact wpQuiet_nil rfl
        · intro bl wx hbl _ _
          have HX3 : Hid (OwY w.heap.size wx u XS ∧ KpY w.heap.size wr wx ∧ w.heap.size ≤ wx.heap.size) := ⟨HO.out.1.below hbl, KpY.of_below HO.out.2 hbl, Nat.le_trans HO.out.2 hbl.size⟩
          simp only [R4.layL]
          clear hbl
          refine wpAny_one 16 (by kernel_rfl) rfl ?_
          intro K hK
          refine vtxt_step (by rfl) _ _ (by rfl) w.heap.size u XS ⟨#[38, bt q, bt r, 59]⟩ (by rfl) HX3.out.1 (by rfl) HX3.out.2.2 (by have := hlen.out; show _ + 4 ≤ _; omega) ?_
          intro v1 w1 h1 h2
          have HF : Hid (EsW w.heap.size w [] s (k + 1) v1 w1) := HX.out _ _ h1 (HX3.out.2.1.trans h2)
          clear h1 h2 HX HX3 HO
          refine hK _ _ ?_
          clear hK K
          refine wpAny_one 17 (by kernel_rfl) rfl ?_
          intro K hK
          go_simp
          refine hK _ _ ?_
          clear hK K
          refine wpAny_done (by kernel_rfl) ?_ _
          go_wp2
          go_roundw
          case rel => exact ⟨v1, k + 1, rfl, by omega, by go_num, HF⟩
          case measure => simp [intOf]; omega
    · obtain rfl : k = s.size := by omega
      have HO := HR.out.ow
      rw [List.nil_append, vtake_all] at HO
      have hcv := conv_bytes HO
      have H1 : Hid (Below w.heap.size w wr) := HR.out.kp.b
      clear HR HO
      go_wp2
      go_ret
      exact ⟨rfl, H1.out⟩

end Go.Proofs.YtooolcldiecfjaaDoor
