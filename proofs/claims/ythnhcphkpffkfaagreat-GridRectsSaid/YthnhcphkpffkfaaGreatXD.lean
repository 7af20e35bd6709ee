/-
  Those that get their top are struck from those that take part: slices.IndexFunc, slices.DeleteFunc with the function that fills.
-/
import Derived.Test.YthnhcphkpffkfaaGreatXC
import Derived.Lib.SliceRun
import Derived.Shelf.Abstract
namespace Go.Proofs.YthnhcphkpffkfaaGreat
open Go.RowKit

/-- What stays the same while a round fills. -/
structure FsC (w0 : World) (T : List Tk) (tv : Value) (pb sb : Nat) (ov : Value) (sz : List Int) (lf : Int) (bs bl bg : Nat) (left g : Int) (op : List Nat) : Prop where
  hT : TS w0 tv T
  hk : ∀ t ∈ T, okT t
  hop : ∀ i ∈ op, i < T.length
  hnd : op.Nodup
  hol : op.length ≤ 1024
  hl : 0 ≤ left ∧ left ≤ 32768
  hg : 0 ≤ g ∧ g ≤ 16777216
  hs : ∀ i ∈ op, 0 ≤ sz.getD i 0 ∧ sz.getD i 0 ≤ 16384
  hlf : 0 ≤ lf ∧ lf ≤ 32768
  ap : ov.ownBlock ≠ some sb ∧ ov.ownBlock ≠ some bl ∧ ov.ownBlock ≠ some bg
def fF (T : List Tk) (left g : Int) (i : Nat) (x : Int) : Int := hFi left g (tkA T i) x
theorem fF_bd {T : List Tk} (hk : ∀ t ∈ T, okT t) (left g : Int) {i : Nat} (hi : i < T.length) (x : Int) : 0 ≤ fF T left g i x ∧ fF T left g i x ≤ 16384 := by
  unfold fF hFi
  rw [tk_at hi]
  obtain ⟨h1, h2, h3, _, _⟩ := hk T[i] (List.getElem_mem hi)
  split
  · next h =>
    unfold fuT at h
    simp only [Bool.and_eq_true, Bool.not_eq_true', beq_eq_false_iff_ne] at h
    have := h.1
    omega
  · omega
/-- How it stands when so many have been looked at. -/
def Stj (w0 : World) (T : List Tk) (tv : Value) (pb sb : Nat) (ov : Value) (sz : List Int) (lf : Int) (left g : Int) (op : List Nat) (j : Nat) (w : World) : Prop :=
  Sh w0 T tv pb sb ov (fld (fF T left g) (op.take j) (sz, lf)).1 (fld (fF T left g) (op.take j) (sz, lf)).2 w

theorem fs_call {w0 : World} {T : List Tk} {tv : Value} {pb sb : Nat} {ov : Value} {sz : List Int} {lf : Int} {bs bl bg : Nat} {left g : Int} {op : List Nat} (h : FsC w0 T tv pb sb ov sz lf bs bl bg left g op) (j : Nat) (hj : j < op.length) (w : World) (hs : Stj w0 T tv pb sb ov sz lf left g op j w) (hf : Fi pb sb bs bl bg left g w) :
    Calls Tryz.prog 94 #[.int .i64 op[j], .pointer (some ⟨bs, 0, none⟩), .pointer (some ⟨bl, 0, none⟩), .pointer (some ⟨bg, 0, none⟩)] w fun e w' => e = .returned (.bool (fuT left g (tkA T op[j]))) ∧ Hid (Stj w0 T tv pb sb ov sz lf left g op (j + 1) w' ∧ Fi pb sb bs bl bg left g w' ∧ Ex2 sb pb w w') := by
  have hi := h.hop op[j] (List.getElem_mem hj)
  have hnm : op[j] ∉ op.take j := by
    intro hm
    rw [List.mem_take_iff_getElem] at hm
    obtain ⟨k, hk1, e⟩ := hm
    have := (List.getElem_inj h.hnd).1 e
    omega
  have hbd := fld_lf (fF T left g) 16384 (op.take j) (sz, lf) fun i hi => fF_bd h.hk left g (h.hop i (List.mem_of_mem_take hi))
  have hlen : (op.take j).length ≤ 1024 := by have := h.hol; simp; omega
  have hat := fld_at (fF T left g) (op.take j) op[j] (sz, lf) hnm
  have hlf := h.hlf
  have hne : bs ≠ sb := by
    rintro rfl
    exact absurd (Bk.typ hf.sp hs.siz) (by decide)
  refine (fill1_any w0 T tv pb sb ov _ _ bs bl bg left g op[j] w hs hf h.hT hi (h.hk _ (List.getElem_mem hi)) h.hl h.hg (by rw [hat]; exact h.hs _ (List.getElem_mem hj)) (by simp only at hbd; omega)).mono ?_
  rintro e w' ⟨rfl, H⟩
  rw [tk_at hi]
  refine ⟨rfl, ?_, hf.ex2 hne H.out.2, H.out.2⟩
  have := H.out.1
  unfold Stj
  rw [← List.take_append_getElem hj, fld_snoc]
  unfold fF at this ⊢
  rw [tk_at hi]
  exact this
theorem fill1_enters : ∀ args w, (callFunc 94 args).run Tryz.prog w = .ok (.enter 94 args) w := enters_of Tryz.func94 (by kernel_rfl) rfl

set_option maxRecDepth 10000 in
set_option maxHeartbeats 4000000 in
theorem index_any {w0 : World} {T : List Tk} {tv : Value} {pb sb : Nat} {ov : Value} {sz : List Int} {lf : Int} {bs bl bg : Nat} {left g : Int} {op : List Nat} (h : FsC w0 T tv pb sb ov sz lf bs bl bg left g op) (w : World) (hs : Sh w0 T tv pb sb ov sz lf w) (hf : Fi pb sb bs bl bg left g w) (ho : OwI w0.heap.size w ov (natI op)) :
    Calls Tryz.prog 99 #[ov, .func (.func 94) #[] #[.pointer (some ⟨bs, 0, none⟩), .pointer (some ⟨bl, 0, none⟩), .pointer (some ⟨bg, 0, none⟩)]] w fun e w' => ∃ r : Nat, e = .returned (.int .i64 (if r < op.length then (r : Int) else -1)) ∧ Hid (r ≤ op.length ∧ (∀ i ∈ op.take r, fuT left g (tkA T i) = false) ∧ (∀ (_ : r < op.length), fuT left g (tkA T op[r]) = true) ∧ Stj w0 T tv pb sb ov sz lf left g op (r + 1) w' ∧ Fi pb sb bs bl bg left g w' ∧ Ex2 sb pb w w') := by
  have HC : Hid (∀ (j : Nat) (hj : j < op.length) (W : World), Stj w0 T tv pb sb ov sz lf left g op j W → Fi pb sb bs bl bg left g W → Calls Tryz.prog 94 #[.int .i64 op[j], .pointer (some ⟨bs, 0, none⟩), .pointer (some ⟨bl, 0, none⟩), .pointer (some ⟨bg, 0, none⟩)] W fun e w' => e = .returned (.bool (fuT left g (tkA T op[j]))) ∧ Hid (Stj w0 T tv pb sb ov sz lf left g op (j + 1) w' ∧ Fi pb sb bs bl bg left g w' ∧ Ex2 sb pb W w')) := fun j hj W h1 h2 => fs_call h j hj W h1 h2
  have eg := fill1_enters
  have HB : Hid (ov.ownBlock ≠ some sb ∧ ov.ownBlock ≠ some pb) := ⟨h.ap.1, own_typ ho hs.pbk (by decide)⟩
  have HO : Hid (OwI w0.heap.size w ov (natI op)) := ho
  have H0 : Hid (Stj w0 T tv pb sb ov sz lf left g op 0 w ∧ Fi pb sb bs bl bg left g w) := ⟨hs, hf⟩
  have hol : op.length ≤ 1024 := h.hol
  obtain ⟨oa, cap, e, hc, hg⟩ := ho.is
  rw [natI_len] at e hc
  clear h hs hf ho hg
  subst e
  go_enter Tryz.func99, Tryz.ntmps99
  go_wp2_with fail
  go_loopw [5, 8] (fun _ i wr => ∃ k : Nat, k ≤ op.length ∧ i = .int .i64 k ∧ Hid ((∀ i ∈ op.take k, fuT left g (tkA T i) = false) ∧ Stj w0 T tv pb sb (.slice oa op.length cap) sz lf left g op k wr ∧ Fi pb sb bs bl bg left g wr ∧ Ex2 sb pb w wr)) (fun _ i _ => op.length - (intOf i).toNat)
  case atStart => exact ⟨0, Nat.zero_le _, rfl, (fun i hi => by simp at hi), H0.out.1, H0.out.2, Ex2.refl _ _ _⟩
  case round =>
    obtain ⟨k, hk, rfl, HK⟩ := hrel
    by_cases hlt : k < op.length
    · have ik : (k : Int) < op.length := by omega
      have hi1 := (HO.out.ex2 HK.out.2.2.2 HB.out.1 HB.out.2).is
      obtain ⟨og, oo, rfl, y0⟩ : ∃ og oo, oa = some ⟨og, oo, none⟩ ∧ wr.cell? ⟨og, oo + k, none⟩ = some (.int .i64 op[k]) := by
        obtain ⟨oa', cap', e', _, hgg⟩ := hi1
        obtain ⟨og, oo, e1, _, hat⟩ := hgg (by rw [natI_len]; omega)
        injection e' with e2 _ _
        have y0 := hat k (by rw [natI_len]; exact hlt)
        rw [natI_at op k hlt] at y0
        exact ⟨og, oo, e2.trans e1, y0⟩
      have HCk := HC.out k hlt wr HK.out.2.1 HK.out.2.2.1
      have HF : Hid (fuT left g (tkA T op[k]) = false → ∀ i ∈ op.take (k + 1), fuT left g (tkA T i) = false) := fun hq i hi => by
        rw [← List.take_append_getElem hlt] at hi
        rcases List.mem_append.1 hi with hi | hi
        · exact HK.out.1 i hi
        · simp at hi; rw [hi]; exact hq
      have HT : Hid (fuT left g (tkA T op[k]) = true → ∀ (_ : k < op.length), fuT left g (tkA T op[k]) = true) := fun hq _ => hq
      have HX : Hid ((∀ i ∈ op.take k, fuT left g (tkA T i) = false) ∧ Ex2 sb pb w wr) := ⟨HK.out.1, HK.out.2.2.2⟩
      clear hi1 HK H0
      generalize hb : fuT left g (tkA T op[k]) = bb at *
      generalize hz : (op[k] : Int) = z at *
      go_wp2_with fail
      refine HCk.mono ?_
      rintro e w1 ⟨rfl, H1⟩
      have H2 : Hid (Stj w0 T tv pb sb (.slice (some ⟨og, oo, none⟩) op.length cap) sz lf left g op (k + 1) w1 ∧ Fi pb sb bs bl bg left g w1 ∧ Ex2 sb pb w w1) := ⟨H1.out.1, H1.out.2.1, HX.out.2.trans H1.out.2.2⟩
      have HX1 : Hid (∀ i ∈ op.take k, fuT left g (tkA T i) = false) := HX.out.1
      clear H1 HCk HX hz
      cases bb
      · have H3 : Hid (∀ i ∈ op.take (k + 1), fuT left g (tkA T i) = false) := HF.out rfl
        clear HF HT hb
        go_wp2
        exact ⟨⟨k + 1, by omega, by go_num, H3.out, H2.out⟩, by simp [intOf]; omega⟩
      · have H3 : Hid (∀ (_ : k < op.length), fuT left g (tkA T op[k]) = true) := fun _ => hb
        have e : (if k < op.length then (k : Int) else -1) = k := if_pos hlt
        have He : Hid ((if k < op.length then (k : Int) else -1) = k) := e
        clear HF HT hb e
        go_wp2
        go_ret
        exact ⟨k, by rw [He.out]; rfl, by omega, HX1.out, H3.out, H2.out⟩
    · obtain rfl : k = op.length := by omega
      have He : Hid ((if op.length < op.length then ((op.length : Nat) : Int) else -1) = -1) := if_neg (by omega)
      have HF : Hid (op.length ≤ op.length ∧ (∀ i ∈ op.take op.length, fuT left g (tkA T i) = false) ∧ (∀ (_ : op.length < op.length), fuT left g (tkA T op[op.length]) = true) ∧ Stj w0 T tv pb sb (.slice oa op.length cap) sz lf left g op (op.length + 1) wr ∧ Fi pb sb bs bl bg left g wr ∧ Ex2 sb pb w wr) := by
        refine ⟨Nat.le_refl _, HK.out.1, fun h => absurd h (Nat.lt_irrefl _), ?_, HK.out.2.2⟩
        have := HK.out.2.1
        unfold Stj at this ⊢
        rw [List.take_of_length_le (Nat.le_succ _)]
        rw [List.take_length] at this
        exact this
      clear HK
      go_wp2
      go_ret
      exact ⟨op.length, by rw [He.out]; rfl, HF⟩

end Go.Proofs.YthnhcphkpffkfaaGreat
