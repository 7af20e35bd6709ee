/-
  Texts of this claim, one behind the other: what each is about stands ahead of it.
-/
import Derived.Test.YtdmhcmngajmghaaGreatDoorK7
import Derived.Test.YtdmhcmngajmghaaGreatDoorK8
import Derived.Lib.BufferRead
import Derived.Test.YtdmhcmngajmghaaGreatDoorRows
import Derived.Test.YtdmhcmngajmghaaGreatDoorK3
import Derived.PinnedBridge
import Derived.Lib.LaidU8T
import Derived.Lib.LaidTab
import Derived.MakeChecks
import Derived.Test.YtdmhcmngajmghaaGreatDoorK5
import Derived.Test.YtdmhcmngajmghaaGreatDoorK6
import Derived.BigQuiet
import Derived.OwnWalk
import Derived.Test.YtdmhcmngajmghaaGreatDoorK1
import Derived.Shelf.LaysM
import Derived.Shelf.LaysC
import Derived.Shelf.Strings.Prefix
import Derived.Shelf.Strings.Cut
import Derived.Shelf.Strings.Shaped
import Derived.Shelf.Strconv.AtoiAll
import Derived.Shelf.Strconv.Itoa3
import Derived.Test.YtdmhcmngajmghaaGreatDoorProg
/-
  Contracts of package vector: sizeMayBe, Text, Escape.
-/
namespace Go.Proofs.YtdmhcmngajmghaaGreatDoor
open Go.RowKit

set_option maxHeartbeats 1000000 in
theorem siz_any (zw zh : Int) (w : World) (h1 : I64 zw) (h2 : I64 zh) :
    Calls Tryz.prog 14 #[.agg #[.int .i64 zw, .int .i64 zh]] w fun e w' => e = .returned (.bool (sizB zw zh)) ∧ Below w.heap.size w w' := by
  have hI1 := h1.1
  have hI2 := h1.2
  have hI3 := h2.1
  have hI4 := h2.2
  have B0 : Hid (Below w.heap.size w (w.alloc (.cells #[.int .i64 zw, .int .i64 zh] 24))) := (Below.refl _ w).alloc (Nat.le_refl _) _
  go_enter Tryz.func14, Tryz.ntmps14
  go_wp2
  all_goals
    go_ret
    refine ⟨ret_bool ?_, B0.out⟩
    simp [sizB]
    try omega

theorem conv_bytes {w : World} {lo : Nat} {v : Value} {l : List UInt8} (h : OwY lo w v l) : (convert 53 9 v).run Tryz.prog w = .ok (.string ⟨l.toArray⟩) w := by
  obtain ⟨hl, ⟨rfl, h0⟩ | ⟨g, cap, cur, rfl, _⟩⟩ := id h
  · obtain rfl : l = [] := List.length_eq_zero_iff.1 h0
    exact Lib.run_convert_nil_bytes w 53 9 5 0 Tryz.underlying53 Tryz.underlying5 Tryz.underlying9
  · exact conv_own l h rfl (fun j hj => byteCells_at l j hj)

theorem xys_of {l : List St} (h : Wfs l) : Xys l := fun s hs => ⟨(h s hs).2.1.1, (h s hs).2.1.2.1⟩
theorem clp_small : ∀ (n : Nat) (l : List St), clpE n l = 0 → ∀ s ∈ l, s.t.size ≤ 65536
  | _, [], _, s, hs => by cases hs
  | n, x :: l, h, s, hs => by
    obtain ⟨h1, _, h3⟩ := clpE_cons h
    rcases List.mem_cons.1 hs with rfl | hs
    · unfold oneE at h1
      split at h1
      · cases h1
      · next hh =>
        have h3 : wroK s = false := by
          cases e : wroK s
          · rfl
          · rw [e] at hh; simp at hh
        unfold wroK at h3
        simp at h3
        omega
    · exact clp_small _ l h3 s hs
theorem chk_small {l : List St} (h : chkS l = 0) : (∀ s ∈ l, s.t.size ≤ 65536) ∧ l.length ≤ 16384 :=
  ⟨clp_small 0 l (chkS_zero h).2, (chkS_zero h).1⟩

/-- The table of the library's numbers, as it lies ahead of a call. -/
def PwI (w : World) : Prop := Lib.TabIs Tryz.prog w "internal/strconv.uint64pow10" .u64 Lib.pow10Tab
theorem PwI.at {w w3 : World} (h : PwI w) (hb : Below w.heap.size w w3) : PwT w3.heap.size w3 :=
  PwT.mono (PwT.on (Lib.tabBelow_of_tabIs h) hb) hb.size
theorem PwI.below {w w3 : World} (h : PwI w) (hb : Below w.heap.size w w3) : PwI w3 := Lib.tabBelow_of_tabIs h w3 hb

set_option maxRecDepth 10000 in
set_option maxHeartbeats 4000000 in
theorem vtext_any (l : List St) (vl : Value) (zw zh : Int) (w : World) (hv : LsS w vl l) (hw : Wfs l) (h1 : I64 zw) (h2 : I64 zh) (T : PwI w) :
    Calls Tryz.prog 5 #[vl, .agg #[.int .i64 zw, .int .i64 zh]] w fun e w' => e = .returned (.tuple #[.string ⟨(texT l zw zh).toArray⟩, .int .i64 (texE l zw zh)]) ∧ Below w.heap.size w w' := by
  have HC : Hid (∀ W, Below w.heap.size w W → Calls Tryz.prog 8 #[vl] W fun e w' => e = .returned (.int .i64 (chkS l)) ∧ Below W.heap.size W w') := fun W hb => lcheck_any l vl W (hv.below hb) hw.txs (xys_of hw)
  have HZ : Hid (∀ W, Calls Tryz.prog 14 #[.agg #[.int .i64 zw, .int .i64 zh]] W fun e w' => e = .returned (.bool (sizB zw zh)) ∧ Below W.heap.size W w') := fun W => siz_any zw zh W h1 h2
  have HS : Hid (∀ W, Below w.heap.size w W → chkS l = 0 → Calls Tryz.prog 15 #[.slice none 0 0, vl, .agg #[.int .i64 zw, .int .i64 zh]] W fun e w' => ∃ v' R, e = .returned v' ∧ Hid (OwY W.heap.size w' v' R ∧ KpY W.heap.size W w' ∧ R.length ≤ 1000000000 ∧ (R = texF l zw zh ∨ (65536 < R.length ∧ 65536 < (texF l zw zh).length)))) := fun W hb h0 => by
    obtain ⟨c1, c2⟩ := chk_small h0
    exact shapes_any W.heap.size zw zh l vl W (Nat.le_refl _) (fun W' hb' => (hv.below hb).below hb') hw (fun s hs => by have := c1 s hs; omega) h1 h2 (T.at hb) (by omega)
  have B0 : Hid (Below w.heap.size w (w.alloc (.cells #[.int .i64 zw, .int .i64 zh] 24)) ∧ (w.alloc (.cells #[.int .i64 zw, .int .i64 zh] 24)).cell? ⟨w.heap.size, 0, none⟩ = some (.int .i64 zw) ∧ (w.alloc (.cells #[.int .i64 zw, .int .i64 zh] 24)).cell? ⟨w.heap.size, 1, none⟩ = some (.int .i64 zh)) := ⟨(Below.refl _ w).alloc (Nat.le_refl _) _, (Bk.new w _ _).at2⟩
  clear hv hw h1 h2 T
  by_cases hc : chkS l = 0
  · have hE : texE l zw zh = if sizB zw zh = false then 9 else if 65536 < (texF l zw zh).length then 3 else 0 := by unfold texE; rw [if_neg (by simp [hc])]
    have HS' : Hid (∀ W, Below w.heap.size w W → Calls Tryz.prog 15 #[.slice none 0 0, vl, .agg #[.int .i64 zw, .int .i64 zh]] W fun e w' => ∃ v' R, e = .returned v' ∧ Hid (OwY W.heap.size w' v' R ∧ KpY W.heap.size W w' ∧ R.length ≤ 1000000000 ∧ (R = texF l zw zh ∨ (65536 < R.length ∧ 65536 < (texF l zw zh).length)))) := fun W hb => HS.out W hb hc
    have HE : Hid (texE l zw zh = if sizB zw zh = false then 9 else if 65536 < (texF l zw zh).length then 3 else 0) := hE
    have HTt : Hid (texT l zw zh = if texE l zw zh = 0 then texF l zw zh else []) := rfl
    rw [hc] at HC
    generalize texE l zw zh = E at *
    generalize texT l zw zh = Tt at *
    clear HS hc hE
    go_enter Tryz.func5, Tryz.ntmps5
    go_wp2_with fail
    refine (HC.out _ B0.out.1).mono ?_
    rintro e w1 ⟨rfl, hb1⟩
    have H1 : Hid (Below w.heap.size w w1) := B0.out.1.trans (hb1.mono B0.out.1.size)
    have c0 : w1.cell? ⟨w.heap.size, 0, none⟩ = some (.int .i64 zw) := (hb1.cell (p := ⟨w.heap.size, 0, none⟩) (by simp)).trans B0.out.2.1
    have c1 : w1.cell? ⟨w.heap.size, 1, none⟩ = some (.int .i64 zh) := (hb1.cell (p := ⟨w.heap.size, 1, none⟩) (by simp)).trans B0.out.2.2
    have hlt : w.heap.size < w1.heap.size := Nat.lt_of_lt_of_le (by simp) hb1.size
    clear hb1 B0 HC
    go_wp2_with fail
    refine (HZ.out _).mono ?_
    rintro e w2 ⟨rfl, hb2⟩
    have H2 : Hid (Below w.heap.size w w2) := H1.out.trans (hb2.mono H1.out.size)
    have d0 : w2.cell? ⟨w.heap.size, 0, none⟩ = some (.int .i64 zw) := (hb2.cell (p := ⟨w.heap.size, 0, none⟩) hlt).trans c0
    have d1 : w2.cell? ⟨w.heap.size, 1, none⟩ = some (.int .i64 zh) := (hb2.cell (p := ⟨w.heap.size, 1, none⟩) hlt).trans c1
    clear hb2 H1 HZ c0 c1 hlt
    cases hz : sizB zw zh with
    | false =>
      rw [hz] at HE
      obtain rfl : E = 9 := HE.out
      obtain rfl : Tt = [] := HTt.out
      go_wp2
      go_ret2
      exact ⟨rfl, H2.out⟩
    | true =>
      rw [hz] at HE
      go_wp2_with fail
      refine (HS'.out _ H2.out).mono ?_
      rintro e w3 ⟨v3, R, rfl, h3⟩
      have hO : w3.ownsRow w2.heap.size 5 1 v3 R.length (Lib.byteCells R) := h3.out.1
      have hcv := conv_bytes h3.out.1
      obtain ⟨ou, cu, rfl, hcu, _⟩ := row_val hO
      have H3 : Hid (Below w.heap.size w w3 ∧ R.length ≤ 1000000000 ∧ (R = texF l zw zh ∨ (65536 < R.length ∧ 65536 < (texF l zw zh).length))) := ⟨H2.out.trans (h3.out.2.1.b.mono H2.out.size), h3.out.2.2⟩
      clear hO h3 H2 HS' d0 d1
      obtain ⟨N, hN⟩ : ∃ N, N = R.length := ⟨_, rfl⟩
      rw [← hN] at hcv hcu H3 ⊢
      by_cases hbig : 65536 < N
      · have hb1 : 65536 < (N : Int) := by omega
        have e3 : E = 3 := by
          rw [HE.out, if_neg (by decide), if_pos]
          rcases H3.out.2.2 with h | h
          · rw [← h]; omega
          · exact h.2
        subst e3
        obtain rfl : Tt = [] := HTt.out
        go_wp2
        go_ret2
        exact ⟨rfl, H3.out.1⟩
      · have hb1 : ¬ (65536 < (N : Int)) := by omega
        have eR : R = texF l zw zh := by
          rcases H3.out.2.2 with h | h
          · exact h
          · omega
        have e0 : E = 0 := by rw [HE.out, if_neg (by decide), if_neg (by rw [← eR]; omega)]
        subst e0
        have eT : Tt = R := by rw [HTt.out, if_pos rfl, eR]
        subst eT
        clear HE HTt eR hN
        go_wp2
        go_ret2
        exact ⟨rfl, H3.out.1⟩
  · have hE : texE l zw zh = chkS l := by unfold texE; rw [if_pos hc]
    have hTt : texT l zw zh = [] := by unfold texT; rw [if_neg (by rw [hE]; exact hc)]
    rw [hE, hTt]
    clear hE hTt HS
    have hc' : ((chkS l) == 0) = false := by rw [beq_eq_false_iff_ne]; exact hc
    generalize chkS l = E at *
    go_enter Tryz.func5, Tryz.ntmps5
    go_wp2_with fail
    refine (HC.out _ B0.out.1).mono ?_
    rintro e w1 ⟨rfl, hb1⟩
    have H1 : Hid (Below w.heap.size w w1) := B0.out.1.trans (hb1.mono B0.out.1.size)
    clear hb1 B0 HC
    go_wp2
    go_ret2
    exact ⟨rfl, H1.out⟩

end Go.Proofs.YtdmhcmngajmghaaGreatDoor

/-
  A size that came in, written out; the program's own settings; the table of the library's numbers.
-/
namespace Go.Proofs.YtdmhcmngajmghaaGreatDoor
open Go.ChangeShapes Go.WideShapes Go.ChangeAt Go.RowKit Go.Joins

theorem own_w : ownKnob Tryz.prog.godebug = none := by kernel_rfl
theorem laid_w : laidOutB Tryz.prog = true := by kernel_rfl

set_option maxRecDepth 100000 in
theorem open_siz {H : Type} {enc : TypeId × Value → H} {W : World} {base b : Nat} {sp : Nat → Bool} {held : Bool} {v : Value} {d : DataW H} {p : List MemPlace}
    (hv : Value.okWide Tryz.prog W .any base 24 v) (h : DataW.Trod enc Tryz.prog W b sp held 24 v d p) : ∃ x y : Int, v = .agg #[.int .i64 x, .int .i64 y] ∧ I64 x ∧ I64 y := by
  obtain ⟨c0, c1, y0, y1, m, rfl, rfl, rfl, hy0, hy1⟩ := open_agg2 Tryz.underlying24 (by kernel_rfl) cells_s hv h
  obtain ⟨a, e0, rfl, wa⟩ := DataW.trod_int Tryz.underlying3 hy0
  obtain ⟨c, e1, rfl, wc⟩ := DataW.trod_int Tryz.underlying3 hy1
  simp at e0 e1
  subst e0 e1
  exact ⟨a, c, rfl, i64_of wa, i64_of wc⟩

theorem pow_eq : Rows.laid_internal_strconv_uint64pow10 (H := Unit) = Lib.tabData .u64 Lib.pow10Tab := by kernel_rfl
theorem pw_of {W : World} {l : List (String × DataW Unit)} (hm : ("internal/strconv.uint64pow10", Rows.laid_internal_strconv_uint64pow10) ∈ l) (hL : laidMet Tryz.prog l W) : PwI W := by
  have r2 : Lib.VarReads Tryz.prog W "internal/strconv.uint64pow10" (Lib.tabData .u64 Lib.pow10Tab) := pow_eq ▸ Lib.laidMet.reads hL hm
  obtain ⟨g', t, cs, fuel, p, hg, hty, hvar, hd⟩ := r2
  obtain rfl := Option.some.inj ((show Tryz.prog.globalNamed "internal/strconv.uint64pow10" = some 5 by kernel_rfl).symm.trans hg)
  obtain rfl := Option.some.inj ((show (Tryz.prog.globals[5]?).map (·.type) = some 217 by kernel_rfl).symm.trans hty)
  unfold PwI Lib.TabIs
  rw [hvar, ← Lib.cells_of_tab Tryz.underlying217 Tryz.underlying124 (by kernel_rfl) (by kernel_rfl) hd]

end Go.Proofs.YtdmhcmngajmghaaGreatDoor

/-
  Contracts of package vector: firstByte, Plain.
-/
namespace Go.Proofs.YtdmhcmngajmghaaGreatDoor
open Go.RowKit

def hexL : List UInt8 := [48, 49, 50, 51, 52, 53, 54, 55, 56, 57, 97, 98, 99, 100, 101, 102]
/-- A small sixteen's worth. -/
def sxI (c : Nat) : Int := Lib.indexByte hexL c.toUInt8
theorem sxI_fin : ∀ c : Fin 256, -1 ≤ sxI c.val ∧ sxI c.val ≤ 15 := by decide +kernel
theorem sxI_bd {c : Nat} (h : c < 256) : -1 ≤ sxI c ∧ sxI c ≤ 15 := sxI_fin ⟨c, h⟩
/-- The byte at a place. -/
def byA (s : ByteArray) (p : Nat) : Nat := if h : p < s.size then (s[p]).toNat else 0
theorem byA_at {s : ByteArray} {p : Nat} (h : p < s.size) : byA s p = (s[p]).toNat := by unfold byA; rw [dif_pos h]
theorem byA_lt (s : ByteArray) (p : Nat) : byA s p < 256 := by
  unfold byA
  split
  · exact UInt8.toNat_lt _
  · decide
theorem byA_ext (s : ByteArray) (p q : Nat) (h : p ≤ s.size) : byA (s.extract p s.size) q = byA s (p + q) := by
  by_cases hq : p + q < s.size
  · have h' : q < (s.extract p s.size).size := by simp; omega
    rw [byA_at hq, byA_at h']
    congr 1
    exact ByteArray.getElem_extract h'
  · have h' : ¬ q < (s.extract p s.size).size := by simp; omega
    unfold byA
    rw [dif_neg hq, dif_neg h']
/-- The first byte of what was escaped, and how many bytes tell it. -/
def fsP (s : ByteArray) (p : Nat) : Nat × Nat :=
  if s.size ≤ p then (0, 0) else if stD (byA s p) = true then (byA s p, 1)
  else if s.size < p + 4 ∨ byA s p ≠ 38 ∨ byA s (p + 3) ≠ 59 ∨ sxI (byA s (p + 1)) < 0 ∨ sxI (byA s (p + 2)) < 0 then (0, 0)
  else if stD (16 * (sxI (byA s (p + 1))).toNat + (sxI (byA s (p + 2))).toNat) = true then (0, 0)
  else (16 * (sxI (byA s (p + 1))).toNat + (sxI (byA s (p + 2))).toNat, 4)
theorem fsP_ext (s : ByteArray) (p : Nat) (h : p ≤ s.size) : fsP (s.extract p s.size) 0 = fsP s p := by
  have hz : (s.extract p s.size).size = s.size - p := by simp
  have a1 : ((s.extract p s.size).size ≤ 0) = (s.size ≤ p) := by rw [hz]; exact propext ⟨fun h => by omega, fun h => by omega⟩
  have a2 : ((s.extract p s.size).size < 0 + 4) = (s.size < p + 4) := by rw [hz]; exact propext ⟨fun h => by omega, fun h => by omega⟩
  unfold fsP
  simp only [a1, a2, byA_ext s p _ h, Nat.zero_add, Nat.add_zero]
theorem fsP_bd (s : ByteArray) (p : Nat) : (fsP s p).1 < 256 ∧ (fsP s p).2 ≤ 4 ∧ ((fsP s p).2 ≠ 0 → p + (fsP s p).2 ≤ s.size) := by
  have b1 := sxI_bd (byA_lt s (p + 1))
  have b2 := sxI_bd (byA_lt s (p + 2))
  have b3 := byA_lt s p
  unfold fsP
  split
  · exact ⟨by decide, by decide, fun h => absurd rfl h⟩
  · split
    · exact ⟨b3, by omega, fun _ => by omega⟩
    · split
      · exact ⟨by decide, by decide, fun h => absurd rfl h⟩
      · split
        · exact ⟨by decide, by decide, fun h => absurd rfl h⟩
        · exact ⟨by show 16 * _ + _ < 256; omega, by omega, fun _ => by omega⟩

theorem bdrw (w : World) : ∀ n, Below w.heap.size w (w.drewN n)
  | 0 => Below.refl _ _
  | n + 1 => (bdrw w n).drew
theorem or_sx : ∀ h k : Fin 16, bits .or .i64 ((h.val : Int) * 16) (k.val : Int) = (16 * h.val + k.val : Nat) := by decide +kernel

set_option maxRecDepth 10000 in
set_option maxHeartbeats 4000000 in
theorem fsb_any (s : ByteArray) (w : World) (h0 : 0 < s.size) (hs : s.size ≤ 9223372036854775807) :
    Calls Tryz.prog 115 #[.string s] w fun e w' => e = .returned (.tuple #[.int .u8 (fsP s 0).1, .int .i64 (fsP s 0).2]) ∧ Below w.heap.size w w' := by
  have HS : Hid (∀ (k : Nat) W, k < 256 → Calls Tryz.prog 75 #[.int .u8 k] W fun e w' => e = .returned (.bool (stD k)) ∧ w' = W) := fun k W hk => stands_any k W hk
  have HI : Hid (∀ (c : Nat) W, Calls Tryz.prog 132 #[.string ⟨#[48, 49, 50, 51, 52, 53, 54, 55, 56, 57, 97, 98, 99, 100, 101, 102]⟩, .int .u8 c] W fun e w' => e = .returned (.int .i64 (sxI c)) ∧ w' = W) := fun c W => Any.strings_IndexByte Tryz.lays137 ⟨#[48, 49, 50, 51, 52, 53, 54, 55, 56, 57, 97, 98, 99, 100, 101, 102]⟩ (c : Int) W
  obtain ⟨F, hF⟩ : ∃ F, F = fsP s 0 := ⟨_, rfl⟩
  have HF : Hid (F = fsP s 0) := hF
  rw [← hF]
  clear hF
  have hb0 := UInt8.toNat_lt s[0]
  have h0' : (0 : Int) < s.size := by omega
  cases hst : stD (s[0]).toNat with
  | true =>
    have e : F = ((s[0]).toNat, 1) := by
      rw [HF.out]
      unfold fsP
      rw [if_neg (by omega), byA_at h0, if_pos hst]
    rw [e]
    clear HF e
    go_enter Tryz.func115, Tryz.ntmps115
    go_wp2_with (go_at_call 75; refine (HS.out _ _ (by assumption)).mono ?_; rintro e w' ⟨rfl, hw⟩; obtain rfl := hw.symm)
    go_ret2
    exact ⟨rfl, by first | exact Below.refl _ _ | exact bdrw w _⟩
  | false =>
    have e : F = if s.size < 4 ∨ (s[0]).toNat ≠ 38 ∨ byA s 3 ≠ 59 ∨ sxI (byA s 1) < 0 ∨ sxI (byA s 2) < 0 then (0, 0) else if stD (16 * (sxI (byA s 1)).toNat + (sxI (byA s 2)).toNat) = true then (0, 0) else (16 * (sxI (byA s 1)).toNat + (sxI (byA s 2)).toNat, 4) := by
      rw [HF.out]
      unfold fsP
      rw [if_neg (by omega), byA_at h0, if_neg (by simp [hst])]
    have HE := show Hid _ from e
    clear HF e
    by_cases h4 : s.size < 4
    · have h4' : (s.size : Int) < 4 := by omega
      obtain rfl : F = (0, 0) := by rw [HE.out, if_pos (.inl h4)]
      go_enter Tryz.func115, Tryz.ntmps115
      go_wp2_with (go_at_call 75; refine (HS.out _ _ (by assumption)).mono ?_; rintro e w' ⟨rfl, hw⟩; obtain rfl := hw.symm)
      go_ret2
      exact ⟨rfl, by first | exact Below.refl _ _ | exact bdrw w _⟩
    have h4' : ¬ ((s.size : Int) < 4) := by omega
    have d4 : decide ((s.size : Int) < 4) = false := decide_eq_false h4'
    have h3' : (3 : Int) < s.size := by omega
    have h2' : (2 : Int) < s.size := by omega
    have h1' : (1 : Int) < s.size := by omega
    have h3 : 3 < s.size := by omega
    have h2 : 2 < s.size := by omega
    have h1 : 1 < s.size := by omega
    rw [byA_at h3, byA_at h2, byA_at h1] at HE
    have hb1 := UInt8.toNat_lt s[1]
    have hb2 := UInt8.toNat_lt s[2]
    by_cases h38 : ¬ (s[0]).toNat = 38
    · have g38 : (((s[0]).toNat : Int) == 38) = false := by rw [beq_eq_false_iff_ne]; omega
      obtain rfl : F = (0, 0) := by rw [HE.out, if_pos (.inr (.inl h38))]
      go_enter Tryz.func115, Tryz.ntmps115
      go_wp2_with (go_at_call 75; refine (HS.out _ _ (by assumption)).mono ?_; rintro e w' ⟨rfl, hw⟩; obtain rfl := hw.symm)
      go_ret2
      exact ⟨rfl, by first | exact Below.refl _ _ | exact bdrw w _⟩
    have g38 : ((s[0]).toNat : Int) = 38 := by omega
    have H38 : Hid (∀ W, Calls Tryz.prog 75 #[.int .u8 38] W fun e w' => e = .returned (.bool false) ∧ w' = W) := fun W => HS.out 38 W (by decide)
    clear hst
    have h38' : (s[0]).toNat = 38 := by omega
    by_cases h59 : ¬ (s[3]).toNat = 59
    · have g59 : (((s[3]).toNat : Int) != 59) = true := by rw [bne_iff_ne]; omega
      obtain rfl : F = (0, 0) := by rw [HE.out, if_pos (.inr (.inr (.inl h59)))]
      go_enter Tryz.func115, Tryz.ntmps115
      go_wp2_with (go_at_call 75; refine (H38.out _).mono ?_; rintro e w' ⟨rfl, hw⟩; obtain rfl := hw.symm)
      go_ret2
      exact ⟨rfl, by first | exact Below.refl _ _ | exact bdrw w _⟩
    have g59 : ((s[3]).toNat : Int) = 59 := by omega
    have h59' : (s[3]).toNat = 59 := by omega
    have bd1 := sxI_bd hb1
    have bd2 := sxI_bd hb2
    by_cases hA0 : sxI (s[1]).toNat < 0
    · obtain rfl : F = (0, 0) := by rw [HE.out, if_pos (.inr (.inr (.inr (.inl hA0))))]
      go_enter Tryz.func115, Tryz.ntmps115
      go_wp2_with (go_at_call 75; refine (H38.out _).mono ?_; rintro e w' ⟨rfl, hw⟩; obtain rfl := hw.symm)
      go_quiet (first | (go_at_call 132; exact Calls.quiet_of_same (HI.out _ _)))
      go_wp2
      go_ret2
      exact ⟨rfl, by first | exact Below.refl _ _ | exact bdrw w _⟩
    by_cases hB0 : sxI (s[2]).toNat < 0
    · obtain rfl : F = (0, 0) := by rw [HE.out, if_pos (.inr (.inr (.inr (.inr hB0))))]
      go_enter Tryz.func115, Tryz.ntmps115
      go_wp2_with (go_at_call 75; refine (H38.out _).mono ?_; rintro e w' ⟨rfl, hw⟩; obtain rfl := hw.symm)
      go_quiet (first | (go_at_call 132; exact Calls.quiet_of_same (HI.out _ _)))
      go_wp2
      go_ret2
      exact ⟨rfl, by first | exact Below.refl _ _ | exact bdrw w _⟩
    obtain ⟨A, hA⟩ : ∃ A : Nat, sxI (s[1]).toNat = A := ⟨(sxI (s[1]).toNat).toNat, (Int.toNat_of_nonneg (by omega)).symm⟩
    obtain ⟨B, hB⟩ : ∃ B : Nat, sxI (s[2]).toNat = B := ⟨(sxI (s[2]).toNat).toNat, (Int.toNat_of_nonneg (by omega)).symm⟩
    rw [hA, hB] at HE
    rw [hA] at bd1
    rw [hB] at bd2
    have hA16 : A < 16 := by omega
    have hB16 : B < 16 := by omega
    have hor := or_sx ⟨A, hA16⟩ ⟨B, hB16⟩
    simp only at hor
    have hn1 : ¬ ((A : Int) < 0) := by omega
    have hn2 : ¬ ((B : Int) < 0) := by omega
    have HV : Hid (∀ W, Calls Tryz.prog 75 #[.int .u8 (16 * (A : Int) + (B : Int))] W fun e w' => e = .returned (.bool (stD (16 * A + B))) ∧ w' = W) := fun W => by
      rw [show 16 * (A : Int) + (B : Int) = ((16 * A + B : Nat) : Int) by omega]
      exact HS.out _ W (by omega)
    have HE2 : Hid (F = if stD (16 * A + B) = true then (0, 0) else (16 * A + B, 4)) := by
      unfold Hid
      have := HE.out
      rw [if_neg (by simp [h38', h59']; omega)] at this
      simpa using this
    clear HE HS
    cases hv : stD (16 * A + B) with
    | true =>
      rw [hv] at HV
      obtain rfl : F = (0, 0) := by rw [HE2.out, if_pos hv]
      clear HE2 hv
      go_enter Tryz.func115, Tryz.ntmps115
      go_wp2_with (go_at_call 75; refine (H38.out _).mono ?_; rintro e w' ⟨rfl, hw⟩; obtain rfl := hw.symm)
      go_quiet (first | (go_at_call 132; exact Calls.quiet_of_same (HI.out _ _)))
      simp only [hA, hB]
      go_wp2_with (go_at_call 75; refine (HV.out _).mono ?_; rintro e w' ⟨rfl, hw⟩; obtain rfl := hw.symm)
      go_ret2
      exact ⟨rfl, bdrw w _⟩
    | false =>
      rw [hv] at HV
      obtain rfl : F = (16 * A + B, 4) := by rw [HE2.out, if_neg (by simp [hv])]
      clear HE2 hv
      go_enter Tryz.func115, Tryz.ntmps115
      go_wp2_with (go_at_call 75; refine (H38.out _).mono ?_; rintro e w' ⟨rfl, hw⟩; obtain rfl := hw.symm)
      go_quiet (first | (go_at_call 132; exact Calls.quiet_of_same (HI.out _ _)))
      simp only [hA, hB]
      go_wp2_with (go_at_call 75; refine (HV.out _).mono ?_; rintro e w' ⟨rfl, hw⟩; obtain rfl := hw.symm)
      go_ret2
      exact ⟨by simp, bdrw w _⟩

end Go.Proofs.YtdmhcmngajmghaaGreatDoor

/-
  Contracts of package vector: Plain.
-/
namespace Go.Proofs.YtdmhcmngajmghaaGreatDoor
open Go.RowKit

/-- What a text was that was escaped, from a place on; how far that is right. -/
def vpF (s : ByteArray) : Nat → Nat → List UInt8 → List UInt8 × Nat × Int
  | 0, _, acc => (acc, 0, 0)
  | f + 1, p, acc => if s.size ≤ p then (acc, 0, 0) else if (fsP s p).2 = 0 then ([], p, 160) else vpF s f (p + (fsP s p).2) (acc ++ [UInt8.ofNat (fsP s p).1])
def vpA (s : ByteArray) : List UInt8 × Nat × Int := vpF s (s.size + 1) 0 []
theorem vpF_step {s : ByteArray} {f p : Nat} {acc : List UInt8} (h : p < s.size) : ((fsP s p).2 = 0 → vpF s (f + 1) p acc = ([], p, 160)) ∧ ((fsP s p).2 ≠ 0 → vpF s (f + 1) p acc = vpF s f (p + (fsP s p).2) (acc ++ [UInt8.ofNat (fsP s p).1])) := by
  exact ⟨fun h0 => by rw [vpF, if_neg (by omega), if_pos h0], fun h0 => by rw [vpF, if_neg (by omega), if_neg h0]⟩
theorem vpF_end {s : ByteArray} {f p : Nat} {acc : List UInt8} (h : s.size ≤ p) : vpF s f p acc = (acc, 0, 0) := by
  cases f with
  | zero => rfl
  | succ f => rw [vpF, if_pos h]

/-- What lies so far of a text that is read. -/
structure VpW (w : World) (s : ByteArray) (p : Nat) (u : Value) (acc : List UInt8) (f : Nat) (wr : World) : Prop where
  ow : OwY w.heap.size wr u acc
  bl : Below w.heap.size w wr
  eq : vpA s = vpF s f p acc
  fu : s.size < f + p
  ln : acc.length ≤ p

set_option maxRecDepth 10000 in
set_option maxHeartbeats 4000000 in
theorem vplain_any (s : ByteArray) (w : World) (hs : s.size ≤ 140000000000000) :
    Calls Tryz.prog 101 #[.string s] w fun e w' => e = .returned (.tuple #[.string ⟨(vpA s).1.toArray⟩, .int .i64 ((vpA s).2.1 : Nat), .int .i64 (vpA s).2.2]) ∧ Below w.heap.size w w' := by
  have H0 : Hid (VpW w s 0 (.slice none 0 0) [] (s.size + 1) w) := ⟨OwY.nil _ _, Below.refl _ _, rfl, by omega, Nat.le_refl _⟩
  have HFb : Hid (∀ (q : ByteArray) W, 0 < q.size → q.size ≤ 9223372036854775807 → Calls Tryz.prog 115 #[.string q] W fun e w' => e = .returned (.tuple #[.int .u8 (fsP q 0).1, .int .i64 (fsP q 0).2]) ∧ Below W.heap.size W w') := fun q W h1 h2 => fsb_any q W h1 h2
  obtain ⟨R, hR⟩ : ∃ R, R = vpA s := ⟨_, rfl⟩
  have HR : Hid (R = vpA s) := hR
  rw [← hR]
  clear hR
  go_enter Tryz.func101, Tryz.ntmps101
  go_wp2_with fail
  go_loopw [5, 6] (fun u0 i wr => ∃ (u : Value) (k f : Nat) (acc : List UInt8), u = u0 ∧ k ≤ s.size ∧ i = .int .i64 k ∧ Hid (VpW w s k u acc f wr)) (fun _ i _ => s.size - (intOf i).toNat)
  case atStart => exact ⟨_, 0, _, [], rfl, Nat.zero_le _, rfl, H0⟩
  case round =>
    obtain ⟨u, k, f, acc, rfl, hk, rfl, HW⟩ := hrel
    clear H0
    by_cases hlt : k < s.size
    · have hz : (s.extract k s.size).size = s.size - k := by simp
      have HQ : Hid (∀ W, Calls Tryz.prog 115 #[.string (s.extract k s.size)] W fun e w' => e = .returned (.tuple #[.int .u8 (fsP s k).1, .int .i64 (fsP s k).2]) ∧ Below W.heap.size W w') := fun W => by
        have := HFb.out (s.extract k s.size) W (by omega) (by omega)
        rw [fsP_ext s k (by omega)] at this
        exact this
      obtain ⟨bd1, bd2, bd3⟩ := fsP_bd s k
      have hst : ((fsP s k).2 = 0 → R = ([], k, 160)) ∧ ((fsP s k).2 ≠ 0 → ∃ f', vpA s = vpF s f' (k + (fsP s k).2) (acc ++ [UInt8.ofNat (fsP s k).1]) ∧ s.size < f' + (k + (fsP s k).2)) := by
        have hf := HW.out.fu
        have he := HW.out.eq
        obtain ⟨f', rfl⟩ : ∃ f', f = f' + 1 := by
          cases f with
          | zero => omega
          | succ f => exact ⟨f, rfl⟩
        obtain ⟨a1, a2⟩ := vpF_step (f := f') (acc := acc) hlt
        refine ⟨fun h => by rw [HR.out, he, a1 h], fun h => ⟨f', by rw [he, a2 h], by omega⟩⟩
      have HO : Hid (OwY w.heap.size wr u acc ∧ Below w.heap.size w wr ∧ acc.length ≤ k) := ⟨HW.out.ow, HW.out.bl, HW.out.ln⟩
      clear HW HFb hz
      generalize (fsP s k).1 = b at *
      generalize (fsP s k).2 = n at *
      by_cases hn : n = 0
      · subst hn
        obtain rfl := hst.1 rfl
        clear hst bd3
        go_wp2_with fail
        refine (HQ.out _).mono ?_
        rintro e w1 ⟨rfl, hb⟩
        have H1 : Hid (Below w.heap.size w w1) := HO.out.2.1.trans (hb.mono HO.out.2.1.size)
        clear hb HO HQ
        go_wp2
        go_ret3
        exact ⟨rfl, H1.out⟩
      · obtain ⟨f', e1, e2⟩ := hst.2 hn
        have hkn := bd3 hn
        have hn' : ((n : Int) == 0) = false := by rw [beq_eq_false_iff_ne]; omega
        have HE : Hid (vpA s = vpF s f' (k + n) (acc ++ [UInt8.ofNat b]) ∧ s.size < f' + (k + n)) := ⟨e1, e2⟩
        clear hst e1 e2 bd3
        go_wp2_with fail
        refine (HQ.out _).mono ?_
        rintro e w1 ⟨rfl, hb⟩
        have HA : Hid (OwY w.heap.size (w1.alloc (.cells #[.int .u8 b] 5)) u acc ∧ Below w.heap.size w (w1.alloc (.cells #[.int .u8 b] 5)) ∧ acc.length ≤ k ∧ w.heap.size ≤ (w1.alloc (.cells #[.int .u8 b] 5)).heap.size) := by
          obtain ⟨q1, q2, q3⟩ := HO.out
          have b2 := hb.alloc (Nat.le_refl _ |> fun h => Nat.le_trans h hb.size) (.cells #[.int .u8 b] 5)
          have b3 := q2.trans (b2.mono q2.size)
          exact ⟨q1.below b2, b3, q3, b3.size⟩
        clear hb HO HQ
        go_wp2_with (at_builtin; refine app_lit rfl _ _ rfl w.heap.size u acc [UInt8.ofNat b] rfl HA.out.1 w1.heap.size _ 1 1 #[.int .u8 b] 5 rfl rfl (alc_new _ _) (by simp [Lib.byteCells]; omega) HA.out.2.2.2 (by have := HA.out.2.2.1; simp; omega) rfl ?_)
        intro v1 w2 h1 h2
        have HF : Hid (VpW w s (k + n) v1 (acc ++ [UInt8.ofNat b]) f' w2) := ⟨by unfold OwY; rw [List.length_append]; exact h1, HA.out.2.1.trans h2.b, HE.out.1, HE.out.2, by have := HA.out.2.2.1; simp; omega⟩
        clear h1 h2 HA HE
        go_wp2
        go_roundw
        case rel => exact ⟨v1, k + n, f', _, rfl, by omega, by go_num, HF⟩
        case measure => simp [intOf]; omega
    · obtain rfl : k = s.size := by omega
      have hE : R = (acc, 0, 0) := by rw [HR.out, HW.out.eq, vpF_end (Nat.le_refl _)]
      subst hE
      have hcv := conv_bytes HW.out.ow
      have H1 : Hid (Below w.heap.size w wr) := HW.out.bl
      clear HW HR
      go_wp2
      go_ret3
      exact ⟨rfl, H1.out⟩

end Go.Proofs.YtdmhcmngajmghaaGreatDoor

/-
  The reader of shapes in memory: what a call leaves but for two blocks; a wrong piece as an error.
-/
namespace Go.Proofs.YtdmhcmngajmghaaGreatDoor
open Go.RowKit

/-- All stays but for two blocks. -/
structure Kp2 (b c : Nat) (w w' : World) : Prop where
  os : w'.os = w.os
  tape : w'.tape = w.tape
  output : w'.output = w.output
  size : w.heap.size ≤ w'.heap.size
  block : ∀ k, k < w.heap.size → k ≠ b → k ≠ c → w'.heap[k]? = w.heap[k]?
theorem Kp2.refl (b c : Nat) (w : World) : Kp2 b c w w := ⟨rfl, rfl, rfl, Nat.le_refl _, fun _ _ _ _ => rfl⟩
theorem Kp2.of_below {b c : Nat} {w w' : World} (h : Below w.heap.size w w') : Kp2 b c w w' := ⟨h.os, h.tape, h.output, h.size, fun k hk _ _ => h.block k hk⟩
theorem Kp2.trans {b c : Nat} {u v w : World} (h : Kp2 b c u v) (k : Kp2 b c v w) : Kp2 b c u w :=
  ⟨k.os.trans h.os, k.tape.trans h.tape, k.output.trans h.output, Nat.le_trans h.size k.size, fun i hi h1 h2 => (k.block i (Nat.lt_of_lt_of_le hi h.size) h1 h2).trans (h.block i hi h1 h2)⟩
theorem Kp2.put (w : World) (b c o : Nat) (v : Value) : Kp2 b c w (w.setCell ⟨b, o, none⟩ v) :=
  ⟨rfl, rfl, rfl, ((Below.refl 0 w).setCell (p := ⟨b, o, none⟩) (Nat.zero_le _) v).size, fun k _ hk _ => Below.heap_setCell _ _ _ k (fun e => hk (by rw [e]))⟩
theorem Kp2.put2 (w : World) (b c o : Nat) (v : Value) : Kp2 b c w (w.setCell ⟨c, o, none⟩ v) :=
  ⟨rfl, rfl, rfl, ((Below.refl 0 w).setCell (p := ⟨c, o, none⟩) (Nat.zero_le _) v).size, fun k _ _ hk => Below.heap_setCell _ _ _ k (fun e => hk (by rw [e]))⟩
theorem Kp2.swap {b c : Nat} {w w' : World} (h : Kp2 b c w w') : Kp2 c b w w' := ⟨h.os, h.tape, h.output, h.size, fun k hk h1 h2 => h.block k hk h2 h1⟩
theorem Kp2.one {b c : Nat} {w w' : World} (h : Kp2 b b w w') : Kp2 b c w w' := ⟨h.os, h.tape, h.output, h.size, fun k hk h1 _ => h.block k hk h1 h1⟩
theorem Kp2.far {b c d : Nat} {w w' : World} (h : Kp2 b c w w') (hc : w.heap.size ≤ c) : Kp2 b d w w' := ⟨h.os, h.tape, h.output, h.size, fun k hk h1 _ => h.block k hk h1 (by omega)⟩
theorem Kp2.bk {b c : Nat} {w w' : World} (h : Kp2 b c w w') {g : Nat} {vs : Array Value} {t : TypeId} (hg : Bk w g vs t) (h1 : g ≠ b) (h2 : g ≠ c) : Bk w' g vs t := (h.block g hg.lt h1 h2).trans hg
theorem Kp2.below {b c B : Nat} {w w' : World} (h : Kp2 b c w w') (hB : B ≤ w.heap.size) (h1 : B ≤ b) (h2 : B ≤ c) : Below B w w' := ⟨h.os, h.tape, h.output, h.size, fun k hk => h.block k (by omega) (by omega) (by omega)⟩
/-- A block of its own in a world that goes on. -/
theorem Kp2.fresh {b c g : Nat} {w w1 w2 : World} (h : Kp2 b c w w1) (k : Kp2 b g w1 w2) (hg : w.heap.size ≤ g) : Kp2 b c w w2 :=
  ⟨k.os.trans h.os, k.tape.trans h.tape, k.output.trans h.output, Nat.le_trans h.size k.size, fun i hi h1 h2 => (k.block i (Nat.lt_of_lt_of_le hi h.size) h1 (by omega)).trans (h.block i hi h1 h2)⟩

/-- The reader: its text, how far it is. -/
def Rd (w : World) (b : Nat) (s : ByteArray) (p : Nat) : Prop := Bk w b #[.string s, .int .i64 p] 79
theorem Rd.below {w w' : World} {b : Nat} {s : ByteArray} {p : Nat} (h : Rd w b s p) (hb : Below w.heap.size w w') : Rd w' b s p := Bk.below h hb
theorem Rd.put {w : World} {b : Nat} {s : ByteArray} {p q : Nat} (h : Rd w b s p) : Rd (w.setCell ⟨b, 1, none⟩ (.int .i64 q)) b s q := Bk.put h 1 (.int .i64 q)

/-- A wrong piece, at a place: an error that wraps a fault. -/
def IsW (lo : Nat) (w : World) (e : Value) (at_ : Nat) : Prop := ∃ g f must, e = .iface 105 (.pointer (some ⟨g, 0, none⟩)) ∧ lo ≤ g ∧ lo ≤ f ∧ Bk w g #[.string must, .pointer (some ⟨f, 0, none⟩)] 107 ∧ Bk w f #[.int .i64 160, .int .i64 at_] 60
theorem IsW.weaken {lo lo2 : Nat} {w : World} {e : Value} {p : Nat} (h : IsW lo w e p) (hl : lo2 ≤ lo) : IsW lo2 w e p := by
  obtain ⟨g, f, m, h1, h2, h3, h4, h5⟩ := h
  exact ⟨g, f, m, h1, Nat.le_trans hl h2, Nat.le_trans hl h3, h4, h5⟩
theorem IsW.keep {lo b c : Nat} {w w' : World} {e : Value} {p : Nat} (h : IsW lo w e p) (k : Kp2 b c w w') (hb : b < lo) (hc : c < lo) : IsW lo w' e p := by
  obtain ⟨g, f, m, h1, h2, h3, h4, h5⟩ := h
  exact ⟨g, f, m, h1, h2, h3, k.bk h4 (by omega) (by omega), k.bk h5 (by omega) (by omega)⟩

set_option maxRecDepth 10000 in
set_option maxHeartbeats 2000000 in
theorem refuse_any (b : Nat) (s : ByteArray) (p o : Nat) (must : ByteArray) (w : World) (h : Rd w b s p) (hp : p ≤ 1000000000) (ho : o ≤ 1000000000) :
    Calls Tryz.prog 33 #[.pointer (some ⟨b, 0, none⟩), .int .i64 o, .string must] w fun e w' => ∃ v, e = .returned v ∧ IsW w.heap.size w' v (p + o) ∧ Below w.heap.size w w' := by
  have c0 := Bk.cell h 0
  have c1 := Bk.cell h 1
  simp only [List.getElem?_toArray, List.getElem?_cons_zero, List.getElem?_cons_succ] at c0 c1
  clear h
  have HF : Hid (∀ W, W = (w.alloc (.cells #[.int .i64 160, .int .i64 ((p : Int) + o)] 60)).alloc (.cells #[.string must, .pointer (some ⟨w.heap.size, 0, none⟩)] 107) → IsW w.heap.size W (.iface 105 (.pointer (some ⟨w.heap.size + 1, 0, none⟩))) (p + o) ∧ Below w.heap.size w W) := fun W hW => by
    have b1 : Below w.heap.size w (w.alloc (.cells #[.int .i64 160, .int .i64 ((p : Int) + o)] 60)) := (Below.refl _ w).alloc (Nat.le_refl _) _
    have e : (w.alloc (.cells #[.int .i64 160, .int .i64 ((p : Int) + o)] 60)).heap.size = w.heap.size + 1 := by simp
    subst hW
    refine ⟨⟨w.heap.size + 1, w.heap.size, must, rfl, by omega, Nat.le_refl _, ?_, ?_⟩, b1.alloc b1.size _⟩
    · have := Bk.new (w.alloc (.cells #[.int .i64 160, .int .i64 ((p : Int) + o)] 60)) #[.string must, .pointer (some ⟨w.heap.size, 0, none⟩)] 107
      rw [e] at this
      exact this
    · have := (Bk.new w #[.int .i64 160, .int .i64 ((p : Int) + o)] 60).below ((Below.refl _ (w.alloc (.cells #[.int .i64 160, .int .i64 ((p : Int) + o)] 60))).alloc (Nat.le_refl _) (.cells #[.string must, .pointer (some ⟨w.heap.size, 0, none⟩)] 107))
      rw [show (((p + o : Nat)) : Int) = (p : Int) + o by omega]
      exact this
  go_enter Tryz.func33, Tryz.ntmps33
  go_wp2
  go_ret
  exact ⟨_, rfl, HF.out _ (by simp)⟩

end Go.Proofs.YtdmhcmngajmghaaGreatDoor

/-
  DERIVED: THE SHELF's CONTRACTS AT THIS DUMP, IN PLAIN WORDS (tools/lay-plain.mjs out of 'YtdmhcmngajmghaaGreatDoorBS2.lean', which tools/lay-shelf.mjs wrote): THE SAME DECLARATIONS UNDER THE SAME NAMES: 'import', 'namespace', 'open', 'def', 'theorem' AND NOTHING ELSE: no command of the shelf's: FOR A HAND-IN. Each laying: the table of numbers ('.._ren') and one theorem, a field a fact of the dump's own or the kernel's comparison; each contract: ONE APPLICATION.
-/
namespace Go.Proofs
open Go.Shelf
def Tryz.lays99_ren : Go.Shelf.Ren := ⟨fun | 99 => 52 | 206 => 81 | n => n, fun | 9 => 9 | 4 => 4 | 3 => 3 | n => n, fun | n => n⟩
theorem Tryz.lays99 : Go.Proofs.Lays.n99 Tryz.prog Tryz.lays99_ren := {
  mixed := by kernel_rfl
  f99 := Tryz.func52.trans (congrArg some (by kernel_rfl))
  f206 := Tryz.func81.trans (congrArg some (by kernel_rfl))
  t3 := Tryz.underlying3
  a3 := Tryz.isAgg3
  z3 := Tryz.sizeOf3
  v3 := Tryz.zeroValue3
  t4 := Tryz.underlying4
  a4 := Tryz.isAgg4
  z4 := Tryz.sizeOf4
  v4 := Tryz.zeroValue4
  t9 := Tryz.underlying9
  a9 := Tryz.isAgg9
  z9 := Tryz.sizeOf9
  v9 := Tryz.zeroValue9 }
def Tryz.laysM145_ren : Go.Shelf.Ren := ⟨fun | 145 => 68 | 220 => 92 | 219 => 108 | 217 => 116 | 225 => 117 | 224 => 118 | 267 => 119 | 266 => 133 | 314 => 134 | n => n, fun | 9 => 9 | 4 => 4 | 59 => 136 | 3 => 3 | 5 => 5 | 46 => 90 | 146 => 122 | 51 => 121 | n => n, fun | 1 => 4 | n => n⟩
theorem Tryz.laysM145 : Go.Proofs.LaysM.n145 Tryz.prog Tryz.laysM145_ren := {
  mixed := by kernel_rfl
  f145 := Tryz.func68.trans (congrArg some (by kernel_rfl))
  f217 := Tryz.func116.trans (congrArg some (by kernel_rfl))
  f219 := Tryz.func108.trans (congrArg some (by kernel_rfl))
  f220 := Tryz.func92.trans (congrArg some (by kernel_rfl))
  f224 := Tryz.func118.trans (congrArg some (by kernel_rfl))
  f225 := Tryz.func117.trans (congrArg some (by kernel_rfl))
  f266 := Tryz.func133.trans (congrArg some (by kernel_rfl))
  f267 := Tryz.func119.trans (congrArg some (by kernel_rfl))
  f314 := Tryz.func134.trans (congrArg some (by kernel_rfl))
  t3 := Tryz.underlying3
  a3 := Tryz.isAgg3
  z3 := Tryz.sizeOf3
  v3 := Tryz.zeroValue3
  t4 := Tryz.underlying4
  a4 := Tryz.isAgg4
  z4 := Tryz.sizeOf4
  v4 := Tryz.zeroValue4
  t5 := Tryz.underlying5
  a5 := Tryz.isAgg5
  z5 := Tryz.sizeOf5
  v5 := Tryz.zeroValue5
  t9 := Tryz.underlying9
  a9 := Tryz.isAgg9
  z9 := Tryz.sizeOf9
  v9 := Tryz.zeroValue9
  t46 := Tryz.underlying90
  a46 := Tryz.isAgg90
  z46 := Tryz.sizeOf90
  v46 := Tryz.zeroValue90
  t51 := Tryz.underlying121
  a51 := Tryz.isAgg121
  z51 := Tryz.sizeOf121
  v51 := Tryz.zeroValue121
  t59 := Tryz.underlying136
  a59 := Tryz.isAgg136
  z59 := Tryz.sizeOf136
  v59 := Tryz.zeroValue136
  t146 := Tryz.underlying122
  a146 := Tryz.isAgg122
  z146 := Tryz.sizeOf122
  v146 := Tryz.zeroValue122
  g1 := by kernel_rfl
  i3 := by kernel_rfl
  i4 := by kernel_rfl
  i5 := by kernel_rfl
  i9 := by kernel_rfl
  i46 := by kernel_rfl
  i51 := by kernel_rfl
  i59 := by kernel_rfl
  i146 := by kernel_rfl
  m1 := by kernel_rfl
  s1_3 := fun w h => Go.Proofs.cell_of_shapedOpen_int (zero := #[.int .i64 0]) (t := 3) h (of_decide_eq_true (by kernel_rfl)) (by kernel_rfl) rfl (by kernel_rfl) (by kernel_rfl) Tryz.underlying3 }
def Tryz.laysC172_ren : Go.Shelf.Ren := ⟨fun | 172 => 97 | 244 => 110 | 245 => 111 | 247 => 124 | 279 => 125 | 280 => 126 | 281 => 127 | 282 => 128 | 287 => 140 | 316 => 141 | 171 => 98 | 205 => 142 | 321 => 146 | 322 => 147 | 243 => 112 | 246 => 129 | 283 => 120 | 284 => 121 | 285 => 122 | 286 => 123 | 129 => 136 | 317 => 135 | 318 => 137 | 319 => 138 | 320 => 139 | 337 => 144 | 338 => 145 | n => n, fun | 9 => 9 | 3 => 3 | 75 => 56 | 76 => 144 | 4 => 4 | 5 => 5 | 167 => 205 | 37 => 53 | 0 => 0 | 85 => 206 | 2 => 2 | 168 => 208 | 53 => 124 | 175 => 221 | 46 => 90 | 210 => 225 | 127 => 214 | 145 => 230 | 143 => 228 | 21 => 21 | 171 => 200 | 173 => 203 | 212 => 217 | 51 => 121 | 20 => 20 | 213 => 218 | 232 => 231 | 233 => 232 | 80 => 233 | n => n, fun | 15 => 6 | 16 => 7 | 17 => 5 | 18 => 8 | 19 => 9 | n => n⟩
theorem Tryz.laysC172 : Go.Proofs.LaysC.n172 Tryz.prog Tryz.laysC172_ren := {
  mixed := by kernel_rfl
  f129 := Tryz.func136.trans (congrArg some (by kernel_rfl))
  f171 := Tryz.func98.trans (congrArg some (by kernel_rfl))
  f172 := Tryz.func97.trans (congrArg some (by kernel_rfl))
  f205 := Tryz.func142.trans (congrArg some (by kernel_rfl))
  f243 := Tryz.func112.trans (congrArg some (by kernel_rfl))
  f244 := Tryz.func110.trans (congrArg some (by kernel_rfl))
  f245 := Tryz.func111.trans (congrArg some (by kernel_rfl))
  f246 := Tryz.func129.trans (congrArg some (by kernel_rfl))
  f247 := Tryz.func124.trans (congrArg some (by kernel_rfl))
  f279 := Tryz.func125.trans (congrArg some (by kernel_rfl))
  f280 := Tryz.func126.trans (congrArg some (by kernel_rfl))
  f281 := Tryz.func127.trans (congrArg some (by kernel_rfl))
  f282 := Tryz.func128.trans (congrArg some (by kernel_rfl))
  f283 := Tryz.func120.trans (congrArg some (by kernel_rfl))
  f284 := Tryz.func121.trans (congrArg some (by kernel_rfl))
  f285 := Tryz.func122.trans (congrArg some (by kernel_rfl))
  f286 := Tryz.func123.trans (congrArg some (by kernel_rfl))
  f287 := Tryz.func140.trans (congrArg some (by kernel_rfl))
  f316 := Tryz.func141.trans (congrArg some (by kernel_rfl))
  f317 := Tryz.func135.trans (congrArg some (by kernel_rfl))
  f318 := Tryz.func137.trans (congrArg some (by kernel_rfl))
  f319 := Tryz.func138.trans (congrArg some (by kernel_rfl))
  f320 := Tryz.func139.trans (congrArg some (by kernel_rfl))
  f321 := Tryz.func146.trans (congrArg some (by kernel_rfl))
  f322 := Tryz.func147.trans (congrArg some (by kernel_rfl))
  f337 := Tryz.func144.trans (congrArg some (by kernel_rfl))
  f338 := Tryz.func145.trans (congrArg some (by kernel_rfl))
  t0 := Tryz.underlying0
  a0 := Tryz.isAgg0
  z0 := Tryz.sizeOf0
  v0 := Tryz.zeroValue0
  t2 := Tryz.underlying2
  a2 := Tryz.isAgg2
  z2 := Tryz.sizeOf2
  v2 := Tryz.zeroValue2
  t3 := Tryz.underlying3
  a3 := Tryz.isAgg3
  z3 := Tryz.sizeOf3
  v3 := Tryz.zeroValue3
  t4 := Tryz.underlying4
  a4 := Tryz.isAgg4
  z4 := Tryz.sizeOf4
  v4 := Tryz.zeroValue4
  t5 := Tryz.underlying5
  a5 := Tryz.isAgg5
  z5 := Tryz.sizeOf5
  v5 := Tryz.zeroValue5
  t9 := Tryz.underlying9
  a9 := Tryz.isAgg9
  z9 := Tryz.sizeOf9
  v9 := Tryz.zeroValue9
  t20 := Tryz.underlying20
  a20 := Tryz.isAgg20
  z20 := Tryz.sizeOf20
  v20 := Tryz.zeroValue20
  t21 := Tryz.underlying21
  a21 := Tryz.isAgg21
  z21 := Tryz.sizeOf21
  v21 := Tryz.zeroValue21
  t37 := Tryz.underlying53
  a37 := Tryz.isAgg53
  z37 := Tryz.sizeOf53
  v37 := Tryz.zeroValue53
  t46 := Tryz.underlying90
  a46 := Tryz.isAgg90
  z46 := Tryz.sizeOf90
  v46 := Tryz.zeroValue90
  t51 := Tryz.underlying121
  a51 := Tryz.isAgg121
  z51 := Tryz.sizeOf121
  v51 := Tryz.zeroValue121
  t53 := Tryz.underlying124
  a53 := Tryz.isAgg124
  z53 := Tryz.sizeOf124
  v53 := Tryz.zeroValue124
  t75 := Tryz.underlying56
  a75 := Tryz.isAgg56
  z75 := Tryz.sizeOf56
  v75 := Tryz.zeroValue56
  t76 := Tryz.underlying144
  a76 := Tryz.isAgg144
  z76 := Tryz.sizeOf144
  v76 := Tryz.zeroValue144
  t85 := Tryz.underlying206
  a85 := Tryz.isAgg206
  z85 := Tryz.sizeOf206
  v85 := Tryz.zeroValue206
  t127 := Tryz.underlying214
  a127 := Tryz.isAgg214
  z127 := Tryz.sizeOf214
  v127 := Tryz.zeroValue214
  t143 := Tryz.underlying228
  a143 := Tryz.isAgg228
  z143 := Tryz.sizeOf228
  v143 := Tryz.zeroValue228
  t145 := Tryz.underlying230
  a145 := Tryz.isAgg230
  z145 := Tryz.sizeOf230
  v145 := Tryz.zeroValue230
  t167 := Tryz.underlying205
  a167 := Tryz.isAgg205
  z167 := Tryz.sizeOf205
  v167 := Tryz.zeroValue205
  t168 := Tryz.underlying208
  a168 := Tryz.isAgg208
  z168 := Tryz.sizeOf208
  v168 := Tryz.zeroValue208
  t171 := Tryz.underlying200
  a171 := Tryz.isAgg200
  z171 := Tryz.sizeOf200
  v171 := Tryz.zeroValue200
  t173 := Tryz.underlying203
  a173 := Tryz.isAgg203
  z173 := Tryz.sizeOf203
  v173 := Tryz.zeroValue203
  t175 := Tryz.underlying221
  a175 := Tryz.isAgg221
  z175 := Tryz.sizeOf221
  v175 := Tryz.zeroValue221
  t210 := Tryz.underlying225
  a210 := Tryz.isAgg225
  z210 := Tryz.sizeOf225
  v210 := Tryz.zeroValue225
  t212 := Tryz.underlying217
  a212 := Tryz.isAgg217
  z212 := Tryz.sizeOf217
  v212 := Tryz.zeroValue217
  t213 := Tryz.underlying218
  a213 := Tryz.isAgg218
  z213 := Tryz.sizeOf218
  t232 := Tryz.underlying231
  a232 := Tryz.isAgg231
  z232 := Tryz.sizeOf231
  v232 := Tryz.zeroValue231
  t233 := Tryz.underlying232
  a233 := Tryz.isAgg232
  z233 := Tryz.sizeOf232
  v233 := Tryz.zeroValue232
  g15 := by kernel_rfl
  g16 := by kernel_rfl
  g17 := by kernel_rfl
  g18 := by kernel_rfl
  g19 := by kernel_rfl
  t80 := Tryz.underlying233
  a80 := Tryz.isAgg233
  z80 := Tryz.sizeOf233
  v80 := Tryz.zeroValue233
  i0 := by kernel_rfl
  i2 := by kernel_rfl
  i3 := by kernel_rfl
  i4 := by kernel_rfl
  i5 := by kernel_rfl
  i9 := by kernel_rfl
  i20 := by kernel_rfl
  i21 := by kernel_rfl
  i37 := by kernel_rfl
  i46 := by kernel_rfl
  i51 := by kernel_rfl
  i53 := by kernel_rfl
  i75 := by kernel_rfl
  i76 := by kernel_rfl
  i80 := by kernel_rfl
  i85 := by kernel_rfl
  i127 := by kernel_rfl
  i143 := by kernel_rfl
  i145 := by kernel_rfl
  i167 := by kernel_rfl
  i168 := by kernel_rfl
  i171 := by kernel_rfl
  i173 := by kernel_rfl
  i175 := by kernel_rfl
  i210 := by kernel_rfl
  i212 := by kernel_rfl
  i232 := by kernel_rfl
  i233 := by kernel_rfl
  m15 := by kernel_rfl
  m16 := by kernel_rfl
  m17 := by kernel_rfl
  m18 := by kernel_rfl
  m19 := by kernel_rfl
  c0 := by kernel_rfl
  c2 := by kernel_rfl
  c3 := by kernel_rfl
  c4 := by kernel_rfl
  c5 := by kernel_rfl
  c9 := by kernel_rfl
  c20 := by kernel_rfl
  c21 := by kernel_rfl
  c37 := by kernel_rfl
  c46 := by kernel_rfl
  c51 := by kernel_rfl
  c53 := by kernel_rfl
  c75 := by kernel_rfl
  c76 := by kernel_rfl
  c80 := by kernel_rfl
  c85 := by kernel_rfl
  c127 := by kernel_rfl
  c143 := by kernel_rfl
  c145 := by kernel_rfl
  c167 := by kernel_rfl
  c168 := by kernel_rfl
  c171 := by kernel_rfl
  c173 := by kernel_rfl
  c175 := by kernel_rfl
  c210 := by kernel_rfl
  c212 := by kernel_rfl
  c213 := by kernel_rfl
  c232 := by kernel_rfl
  c233 := by kernel_rfl }
def Tryz.laysM171_ren : Go.Shelf.Ren := ⟨fun | 171 => 98 | 243 => 112 | 246 => 129 | 283 => 120 | 284 => 121 | 285 => 122 | 286 => 123 | 129 => 136 | 317 => 135 | 318 => 137 | 319 => 138 | 320 => 139 | 337 => 144 | 338 => 145 | n => n, fun | 3 => 3 | 9 => 9 | 2 => 2 | 4 => 4 | 171 => 200 | 0 => 0 | 53 => 124 | 37 => 53 | 5 => 5 | 173 => 203 | 212 => 217 | 51 => 121 | 20 => 20 | 213 => 218 | 46 => 90 | 232 => 231 | 233 => 232 | n => n, fun | 17 => 5 | 18 => 8 | 19 => 9 | n => n⟩
theorem Tryz.laysM171 : Go.Proofs.LaysM.n171 Tryz.prog Tryz.laysM171_ren := {
  mixed := by kernel_rfl
  f129 := Tryz.func136.trans (congrArg some (by kernel_rfl))
  f171 := Tryz.func98.trans (congrArg some (by kernel_rfl))
  f243 := Tryz.func112.trans (congrArg some (by kernel_rfl))
  f246 := Tryz.func129.trans (congrArg some (by kernel_rfl))
  f283 := Tryz.func120.trans (congrArg some (by kernel_rfl))
  f284 := Tryz.func121.trans (congrArg some (by kernel_rfl))
  f285 := Tryz.func122.trans (congrArg some (by kernel_rfl))
  f286 := Tryz.func123.trans (congrArg some (by kernel_rfl))
  f317 := Tryz.func135.trans (congrArg some (by kernel_rfl))
  f318 := Tryz.func137.trans (congrArg some (by kernel_rfl))
  f319 := Tryz.func138.trans (congrArg some (by kernel_rfl))
  f320 := Tryz.func139.trans (congrArg some (by kernel_rfl))
  f337 := Tryz.func144.trans (congrArg some (by kernel_rfl))
  f338 := Tryz.func145.trans (congrArg some (by kernel_rfl))
  t0 := Tryz.underlying0
  a0 := Tryz.isAgg0
  z0 := Tryz.sizeOf0
  v0 := Tryz.zeroValue0
  t2 := Tryz.underlying2
  a2 := Tryz.isAgg2
  z2 := Tryz.sizeOf2
  v2 := Tryz.zeroValue2
  t3 := Tryz.underlying3
  a3 := Tryz.isAgg3
  z3 := Tryz.sizeOf3
  v3 := Tryz.zeroValue3
  t4 := Tryz.underlying4
  a4 := Tryz.isAgg4
  z4 := Tryz.sizeOf4
  v4 := Tryz.zeroValue4
  t5 := Tryz.underlying5
  a5 := Tryz.isAgg5
  z5 := Tryz.sizeOf5
  v5 := Tryz.zeroValue5
  t9 := Tryz.underlying9
  a9 := Tryz.isAgg9
  z9 := Tryz.sizeOf9
  v9 := Tryz.zeroValue9
  t20 := Tryz.underlying20
  a20 := Tryz.isAgg20
  z20 := Tryz.sizeOf20
  v20 := Tryz.zeroValue20
  t37 := Tryz.underlying53
  a37 := Tryz.isAgg53
  z37 := Tryz.sizeOf53
  v37 := Tryz.zeroValue53
  t46 := Tryz.underlying90
  a46 := Tryz.isAgg90
  z46 := Tryz.sizeOf90
  v46 := Tryz.zeroValue90
  t51 := Tryz.underlying121
  a51 := Tryz.isAgg121
  z51 := Tryz.sizeOf121
  v51 := Tryz.zeroValue121
  t53 := Tryz.underlying124
  a53 := Tryz.isAgg124
  z53 := Tryz.sizeOf124
  v53 := Tryz.zeroValue124
  t171 := Tryz.underlying200
  a171 := Tryz.isAgg200
  z171 := Tryz.sizeOf200
  v171 := Tryz.zeroValue200
  t173 := Tryz.underlying203
  a173 := Tryz.isAgg203
  z173 := Tryz.sizeOf203
  v173 := Tryz.zeroValue203
  t212 := Tryz.underlying217
  a212 := Tryz.isAgg217
  z212 := Tryz.sizeOf217
  v212 := Tryz.zeroValue217
  t213 := Tryz.underlying218
  a213 := Tryz.isAgg218
  z213 := Tryz.sizeOf218
  t232 := Tryz.underlying231
  a232 := Tryz.isAgg231
  z232 := Tryz.sizeOf231
  v232 := Tryz.zeroValue231
  t233 := Tryz.underlying232
  a233 := Tryz.isAgg232
  z233 := Tryz.sizeOf232
  v233 := Tryz.zeroValue232
  g17 := by kernel_rfl
  g18 := by kernel_rfl
  g19 := by kernel_rfl
  i0 := by kernel_rfl
  i2 := by kernel_rfl
  i3 := by kernel_rfl
  i4 := by kernel_rfl
  i5 := by kernel_rfl
  i9 := by kernel_rfl
  i20 := by kernel_rfl
  i37 := by kernel_rfl
  i46 := by kernel_rfl
  i51 := by kernel_rfl
  i53 := by kernel_rfl
  i171 := by kernel_rfl
  i173 := by kernel_rfl
  i212 := by kernel_rfl
  i232 := by kernel_rfl
  i233 := by kernel_rfl
  m17 := by kernel_rfl
  m18 := by kernel_rfl
  m19 := by kernel_rfl }
end Go.Proofs

/-
  Contracts of package vector's reader: begins, runOf, fixedSize.
-/
namespace Go.Proofs.YtdmhcmngajmghaaGreatDoor
open Go.RowKit

/-- The rest of a text. -/
def rsL (s : ByteArray) (p : Nat) : List UInt8 := s.data.toList.drop p
theorem rsL_ext (s : ByteArray) (p : Nat) : (s.extract p s.size).data.toList = rsL s p := by
  unfold rsL
  rw [ByteArray.data_extract, Array.toList_extract, List.extract_eq_take_drop]
  exact List.take_of_length_le (by simp)
def bgB (s : ByteArray) (p : Nat) (x : List UInt8) : Bool := Lib.hasPrefix (rsL s p) x

theorem gwRd {W : World} {b : Nat} {s : ByteArray} {p : Nat} (h : Rd W b s p) (t : Gw W) : t.wd.cell? ⟨b, 0, none⟩ = some (.string s) ∧ t.wd.cell? ⟨b, 1, none⟩ = some (.int .i64 p) := by
  have c0 := Bk.cell (h.below t.below) 0
  have c1 := Bk.cell (h.below t.below) 1
  simp only [List.getElem?_toArray, List.getElem?_cons_zero, List.getElem?_cons_succ] at c0 c1
  exact ⟨c0, c1⟩

set_option maxRecDepth 10000 in
set_option maxHeartbeats 2000000 in
theorem begins_any (b : Nat) (s : ByteArray) (p : Nat) (x : ByteArray) (w : World) (h : Rd w b s p) (hp : p ≤ s.size) :
    Calls Tryz.prog 31 #[.pointer (some ⟨b, 0, none⟩), .string x] w fun e w' => e = .returned (.bool (bgB s p x.data.toList)) ∧ Below w.heap.size w w' := by
  have HP : Hid (∀ W, Calls Tryz.prog 52 #[.string (s.extract p s.size), .string x] W fun e w' => e = .returned (.bool (bgB s p x.data.toList)) ∧ w' = W) := fun W => by
    have := Any.strings_HasPrefix Tryz.lays99 (s.extract p s.size) x W
    rw [rsL_ext] at this
    exact this
  have ne : Nonempty (Gw w) := ⟨⟨w, Below.refl _ _⟩⟩
  have c0 := fun t => (gwRd h t).1
  have c1 := fun t => (gwRd h t).2
  have hp' : (p : Int) ≤ s.size := by omega
  clear h
  go_enter Tryz.func31, Tryz.ntmps31
  go_wp2_with fail
  refine wp_region_gw (by kernel_rfl) (by kernel_rfl) ?_
  repeat (go_big_quiet_step (first | (go_at_call 52; exact gw_same (HP.out _))))
  refine wpQuiet_nil ?_
  rintro _ ⟨t, rfl⟩
  have HB : Hid (Below w.heap.size w t.wd) := t.below
  generalize t.wd = W1 at *
  go_wp2
  go_ret
  exact ⟨rfl, HB.out⟩

/-- How many bytes at a text's beginning are such ones. -/
def rnO (P : Nat → Bool) (l : List UInt8) : Nat := (l.takeWhile fun c => P c.toNat).length
theorem rnO_le (P : Nat → Bool) (l : List UInt8) : rnO P l ≤ l.length := by
  unfold rnO
  exact (List.takeWhile_sublist _).length_le
theorem rnO_at {P : Nat → Bool} {q : ByteArray} {k : Nat} (hk : k ≤ q.size) (ha : ∀ j, j < k → P (byA q j) = true) (he : k < q.size → P (byA q k) = false) : rnO P q.data.toList = k := by
  have hl : q.data.toList.length = q.size := by simp
  have key : ∀ (l : List UInt8) (k : Nat), k ≤ l.length → (∀ j (h : j < l.length), j < k → P (l[j]).toNat = true) → (∀ h : k < l.length, P (l[k]).toNat = false) → rnO P l = k := by
    intro l
    induction l with
    | nil => intro k h _ _; simp at h; subst h; rfl
    | cons x t ih =>
      intro k h1 h2 h3
      cases k with
      | zero =>
        have := h3 (by simp)
        unfold rnO
        rw [List.takeWhile_cons]
        simp at this
        simp [this]
      | succ k =>
        have hx := h2 0 (by simp) (by omega)
        have := ih k (by simpa using h1) (fun j hj hjk => by have := h2 (j + 1) (by simpa using hj) (by omega); simpa using this) (fun hk => by have := h3 (by simpa using hk); simpa using this)
        unfold rnO at this ⊢
        rw [List.takeWhile_cons]
        simp at hx
        simp [hx, this]
  have eb : ∀ j (h : j < q.data.toList.length), byA q j = (q.data.toList[j]).toNat := fun j h => by
    rw [byA_at (by omega)]
    congr 1
  exact key _ k (by omega) (fun j h hj => by rw [← eb j h]; exact ha j hj) (fun h => by rw [← eb k h]; exact he (by omega))

set_option maxRecDepth 10000 in
set_option maxHeartbeats 2000000 in
theorem runOf_any (F : Nat) (P : Nat → Bool) (q : ByteArray) (w : World) (hq : q.size ≤ 1000000) (eg : ∀ args w, (callFunc F args).run Tryz.prog w = .ok (.enter F args) w)
    (hC : ∀ c W, c < 256 → Calls Tryz.prog F #[.int .u8 ((c : Nat) : Int)] W fun e w' => e = .returned (.bool (P c)) ∧ w' = W) :
    Calls Tryz.prog 76 #[.string q, .func (.func F) #[] #[]] w fun e w' => e = .returned (.int .i64 (rnO P q.data.toList)) ∧ w' = w := by
  have HC : Hid (∀ c W, c < 256 → Calls Tryz.prog F #[.int .u8 ((c : Nat) : Int)] W fun e w' => e = .returned (.bool (P c)) ∧ w' = W) := hC
  obtain ⟨R, hR⟩ : ∃ R, R = rnO P q.data.toList := ⟨_, rfl⟩
  have HR : Hid (∀ k, k ≤ q.size → (∀ j, j < k → P (byA q j) = true) → (k < q.size → P (byA q k) = false) → R = k) := fun k h1 h2 h3 => by rw [hR]; exact rnO_at h1 h2 h3
  rw [← hR]
  clear hC hR
  go_enter Tryz.func76, Tryz.ntmps76
  go_wp2_with fail
  go_loopw [5] (fun i wr => ∃ k : Nat, k ≤ q.size ∧ i = .int .i64 k ∧ Hid (∀ j, j < k → P (byA q j) = true) ∧ wr = w) (fun i _ => q.size - (intOf i).toNat)
  case atStart => exact ⟨0, Nat.zero_le _, rfl, fun j hj => absurd hj (Nat.not_lt_zero _), rfl⟩
  case round =>
    obtain ⟨k, hk, rfl, HK, rfl⟩ := hrel
    by_cases hlt : k < q.size
    · have hb := UInt8.toNat_lt q[k]
      have eb := byA_at hlt
      cases hp : P (q[k]).toNat with
      | true =>
        have HN : Hid (∀ j, j < k + 1 → P (byA q j) = true) := fun j hj => by
          by_cases e : j = k
          · subst e; rw [eb]; exact hp
          · exact HK.out j (by omega)
        clear HK eb
        go_wp2_with fail
        refine (HC.out _ _ hb).mono ?_
        rintro e w' ⟨rfl, hw⟩
        obtain rfl := hw.symm
        rw [hp]
        go_wp2
        go_roundw
        case rel => exact ⟨k + 1, by omega, by go_num, HN, by first | rfl | trivial⟩
        case measure => simp [intOf]; omega
      | false =>
        have hE : R = k := HR.out k hk HK.out (fun h => by rw [eb]; exact hp)
        subst hE
        clear HK HR eb
        go_wp2_with fail
        refine (HC.out _ _ hb).mono ?_
        rintro e w' ⟨rfl, hw⟩
        obtain rfl := hw.symm
        rw [hp]
        go_wp2
        go_ret
        exact ⟨rfl, rfl⟩
    · obtain rfl : k = q.size := by omega
      have hE : R = q.size := HR.out _ hk HK.out (fun h => absurd h (Nat.lt_irrefl _))
      subst hE
      clear HR HK
      go_wp2
      go_ret
      exact ⟨rfl, rfl⟩

/-- A form's fixed beginning. -/
def fxB (c : Nat) : Bool := decide (c < 65) || decide (90 < c)
set_option maxHeartbeats 1000000 in
theorem fixed1_any (c : Nat) (w : World) (hc : c < 256) :
    Calls Tryz.prog 77 #[.int .u8 ((c : Nat) : Int)] w fun e w' => e = .returned (.bool (fxB c)) ∧ w' = w := by
  go_enter Tryz.func77, Tryz.ntmps77
  go_wp2
  all_goals
    go_ret
    refine ⟨ret_bool ?_, rfl⟩
    simp [fxB]
    try omega
theorem fixed_any (q : ByteArray) (w : World) (hq : q.size ≤ 1000000) :
    Calls Tryz.prog 50 #[.string q] w fun e w' => e = .returned (.int .i64 (rnO fxB q.data.toList)) ∧ w' = w := by
  have HR : Hid (∀ W, Calls Tryz.prog 76 #[.string q, .func (.func 77) #[] #[]] W fun e w' => e = .returned (.int .i64 (rnO fxB q.data.toList)) ∧ w' = W) := fun W => runOf_any _ fxB q W hq (enters_of Tryz.func77 (by kernel_rfl) rfl) fixed1_any
  go_enter Tryz.func50, Tryz.ntmps50
  go_wp2_with fail
  refine (HR.out _).mono ?_
  rintro e w' ⟨rfl, hw⟩
  obtain rfl := hw.symm
  go_wp2
  go_ret
  exact ⟨rfl, rfl⟩

end Go.Proofs.YtdmhcmngajmghaaGreatDoor

/-
  Contracts of package vector's reader: number.
-/
namespace Go.Proofs.YtdmhcmngajmghaaGreatDoor
open Go.RowKit

/-- What the library's variables hold. -/
structure EnI (w : World) : Prop where
  pw : PwI w
  sy : ∃ ev, w.cell? ⟨6, 0, none⟩ = some ev ∧ (ev = .nilIface ∨ ∃ te pe, ev = .iface te pe)
  ra : ∃ ev, w.cell? ⟨7, 0, none⟩ = some ev ∧ (ev = .nilIface ∨ ∃ te pe, ev = .iface te pe)
  ml : ∃ m, w.cell? ⟨4, 0, none⟩ = some (.int .i64 m)
/-- They go on holding it, whatever is done at blocks from B on. -/
def EnR (B : Nat) (w : World) : Prop := ∀ w', Below B w w' → EnI w'
theorem EnR.here {B : Nat} {w : World} (h : EnR B w) : EnI w := h w (Below.refl _ _)
theorem EnR.on {B : Nat} {w w1 : World} (h : EnR B w) (hb : Below B w w1) : EnR B w1 := fun w' hb' => h w' (hb.trans hb')
theorem EnR.mono {B C : Nat} {w : World} (h : EnR B w) (hl : B ≤ C) : EnR C w := fun w' hb => h w' (hb.mono hl)

theorem atoi_ok (q : ByteArray) (n : Int) (w : World) (hq : q.size ≤ 1000000) (h : Lib.atoiAll q.data.toList = .ok n) :
    Calls Tryz.prog 97 #[.string q] w fun e w' => ∃ ev, e = .returned (.tuple #[.int .i64 n, ev]) ∧ ev = .nilIface ∧ Below w.heap.size w w' := by
  refine (Any.strconv_Atoi_ok Tryz.laysC172 q (by omega) n h w).mono ?_
  rintro e w' ⟨rfl, hw⟩
  refine ⟨_, rfl, rfl, ?_⟩
  rcases hw with rfl | ⟨t, rfl⟩
  · exact Below.refl _ _
  · exact Lib.bytesWorld_below _ _ _
theorem atoi_no (q : ByteArray) (w : World) (hq : q.size ≤ 1000000) (hE : EnI w) (h : ∀ n, Lib.atoiAll q.data.toList ≠ .ok n) :
    Calls Tryz.prog 97 #[.string q] w fun e w' => ∃ n p, e = .returned (.tuple #[.int .i64 n, .iface 208 p]) ∧ I64 n ∧ Below w.heap.size w w' := by
  rcases hc : Lib.atoiAll q.data.toList with n | _ | _
  · exact absurd hc (h n)
  · obtain ⟨ev, h1, h2⟩ := hE.sy
    refine (Any.strconv_Atoi_syntax Tryz.laysC172 q (by omega) hc ev w h1 h2).mono ?_
    rintro e w' ⟨N, rfl, _, _, hb⟩
    exact ⟨0, _, rfl, z64, hb⟩
  · obtain ⟨ev, h1, h2⟩ := hE.ra
    refine (Any.strconv_Atoi_range Tryz.laysC172 q (by omega) hc ev w h1 h2).mono ?_
    rintro e w' ⟨N, rfl, _, _, hb⟩
    exact ⟨_, _, rfl, Lib.atoiSat_bounds _, hb⟩
theorem itoaC_any (n : Int) (w : World) (h : I64 n) (hE : EnI w) :
    Calls Tryz.prog 98 #[.int .i64 n] w fun e w' => e = .returned (.string ⟨(Lib.itoa n).toArray⟩) ∧ Below w.heap.size w w' := by
  refine (Any.strconv_Itoa Tryz.laysM171 n h.1 h.2 w hE.pw).mono ?_
  rintro e w' ⟨rfl, k, os, rfl⟩
  exact ⟨rfl, Lib.below_grow _ w (Nat.le_refl _) k os⟩

def dgB (c : Nat) : Bool := decide (48 ≤ c) && decide (c ≤ 57)
set_option maxHeartbeats 1000000 in
theorem isDigit_any (c : Nat) (w : World) (hc : c < 256) :
    Calls Tryz.prog 96 #[.int .u8 ((c : Nat) : Int)] w fun e w' => e = .returned (.bool (dgB c)) ∧ w' = w := by
  go_enter Tryz.func96, Tryz.ntmps96
  go_wp2
  all_goals
    go_ret
    refine ⟨ret_bool ?_, rfl⟩
    simp [dgB]
    try omega

/-- A number at a text's beginning: its sign, its digits, the piece, what it is. -/
def sgN (r : List UInt8) : Nat := if Lib.hasPrefix r [45] = true then 1 else 0
def dgN (r : List UInt8) : Nat := rnO dgB (r.drop (sgN r))
def pcN (r : List UInt8) : List UInt8 := r.take (sgN r + dgN r)
def nuL (r : List UInt8) : Option Int := if 9 < dgN r then none else match Lib.atoiAll (pcN r) with
  | .ok n => if Lib.itoa n = pcN r then some n else none
  | _ => none

theorem ext_drop (Q : ByteArray) (k : Nat) : (Q.extract k Q.size).data.toList = Q.data.toList.drop k := rsL_ext Q k
theorem ext_take (Q : ByteArray) (k : Nat) : (Q.extract 0 k).data.toList = Q.data.toList.take k := by
  rw [ByteArray.data_extract, Array.toList_extract, List.extract_eq_take_drop]
  simp

/-- What number answers. -/
def NuQ (b : Nat) (s : ByteArray) (p : Nat) (w : World) (e : Ending) (w' : World) : Prop :=
  match nuL (rsL s p) with
  | some n => e = .returned (.tuple #[.int .i64 n, .nilIface]) ∧ Rd w' b s (p + (pcN (rsL s p)).length) ∧ Kp2 b b w w'
  | none => ∃ v, e = .returned (.tuple #[.int .i64 0, v]) ∧ IsW w.heap.size w' v p ∧ Rd w' b s p ∧ Kp2 b b w w'

end Go.Proofs.YtdmhcmngajmghaaGreatDoor
