/-
  Texts of this claim, one behind the other: what each is about stands ahead of it.
-/
import Derived.Test.YtfjbnejmcanamaaGreatDoorK30
import Derived.Test.YtfjbnejmcanamaaGreatDoorK16
import Derived.Test.YtfjbnejmcanamaaGreatDoorK3
/-
  Contracts of package vector's reader: line, walked.
-/
namespace Go.Proofs.YtfjbnejmcanamaaGreatDoor
open Go.RowKit

def szV (v : Value) : Nat := match v with | .string q => q.size | _ => 0

/-- What lies while a line is read. -/
structure LrW (b rb sb : Nat) (s : ByteArray) (R : Nat ⊕ (St × Nat)) (w : World) (fm : ByteArray) (p : Nat) (st : St) (f : Nat) (wr : World) : Prop where
  rd : Rd wr b s p
  sk : Bk wr sb (#[.int .u8 st.k, .int .i64 st.r.x, .int .i64 st.r.y, .int .i64 st.r.w, .int .i64 st.r.h, .int .u8 st.c.r, .int .u8 st.c.g, .int .u8 st.c.b, .int .u8 st.c.a, .int .u8 st.b.r, .int .u8 st.b.g, .int .u8 st.b.b, .int .u8 st.b.a, .string st.t, .int .i64 st.n]) 53
  rs : Bk wr rb (#[.int .u8 zSo.k, .int .i64 zSo.r.x, .int .i64 zSo.r.y, .int .i64 zSo.r.w, .int .i64 zSo.r.h, .int .u8 zSo.c.r, .int .u8 zSo.c.g, .int .u8 zSo.c.b, .int .u8 zSo.c.a, .int .u8 zSo.b.r, .int .u8 zSo.b.g, .int .u8 zSo.b.b, .int .u8 zSo.b.a, .string zSo.t, .int .i64 zSo.n]) 53
  kp : Kp2 b b w wr
  le : p ≤ s.size
  eq : lnL f fm.data.toList s p st = R
  fu : fm.size < f

theorem lnL_bad {f : Nat} {l : List UInt8} {s : ByteArray} {p : Nat} {st : St} (h : bgB s p (l.take (rnO fxB l)) = false) : lnL (f + 1) l s p st = .inl p := by rw [lnL, if_pos h]
theorem lnL_end {f : Nat} {l : List UInt8} {s : ByteArray} {p : Nat} {st : St} (h : bgB s p (l.take (rnO fxB l)) = true) (h2 : l.drop (rnO fxB l) = []) : lnL (f + 1) l s p st = .inr (st, p + rnO fxB l) := by
  rw [lnL, if_neg (by simp [h]), h2]
theorem lnL_go {f : Nat} {l : List UInt8} {s : ByteArray} {p : Nat} {st : St} {c : UInt8} {t : List UInt8} (h : bgB s p (l.take (rnO fxB l)) = true) (h2 : l.drop (rnO fxB l) = c :: t) : lnL (f + 1) l s p st = (match tdL c.toNat (rsL s (p + rnO fxB l)) st with
      | .inl o => .inl (p + rnO fxB l + o)
      | .inr (st', n) => lnL f t s (p + rnO fxB l + n) st') := by
  rw [lnL, if_neg (by simp [h]), h2]
  rfl

theorem lnq_some {b : Nat} {s : ByteArray} {R : Nat ⊕ (St × Nat)} {w w' : World} {e : Ending} {st : St} {q : Nat} (hR : R = .inr (st, q)) (he : e = .returned (.tuple #[(Value.agg #[.int .u8 st.k, .int .i64 st.r.x, .int .i64 st.r.y, .int .i64 st.r.w, .int .i64 st.r.h, .int .u8 st.c.r, .int .u8 st.c.g, .int .u8 st.c.b, .int .u8 st.c.a, .int .u8 st.b.r, .int .u8 st.b.g, .int .u8 st.b.b, .int .u8 st.b.a, .string st.t, .int .i64 st.n]), .nilIface])) (h : Rd w' b s q ∧ q ≤ s.size ∧ Kp2 b b w w') : LnQ b s R w e w' := by
  subst hR
  exact ⟨he, h⟩
theorem lnq_none {b : Nat} {s : ByteArray} {R : Nat ⊕ (St × Nat)} {w w' : World} {e : Ending} {q : Nat} {v : Value} (hR : R = .inl q) (he : e = .returned (.tuple #[(Value.agg #[.int .u8 zSo.k, .int .i64 zSo.r.x, .int .i64 zSo.r.y, .int .i64 zSo.r.w, .int .i64 zSo.r.h, .int .u8 zSo.c.r, .int .u8 zSo.c.g, .int .u8 zSo.c.b, .int .u8 zSo.c.a, .int .u8 zSo.b.r, .int .u8 zSo.b.g, .int .u8 zSo.b.b, .int .u8 zSo.b.a, .string zSo.t, .int .i64 zSo.n]), v])) (h : IsW w.heap.size w' v q ∧ Kp2 b b w w') : LnQ b s R w e w' := by
  subst hR
  exact ⟨v, he, h⟩

set_option maxRecDepth 10000 in
set_option maxHeartbeats 16000000 in
theorem lineR_any (B b : Nat) (s : ByteArray) (p : Nat) (form : ByteArray) (w : World) (h : Rd w b s p) (hp : p ≤ s.size) (hs : s.size ≤ 100000) (hE : EnR B w) (hB : B ≤ b) (hf : form.size ≤ 1000) :
    Calls Tryz.prog 32 #[.pointer (some ⟨b, 0, none⟩), .string form] w fun e w' => LnQ b s (lnL (form.size + 1) form.data.toList s p zSo) w e w' := by
  obtain ⟨R, hR⟩ : ∃ R, R = lnL (form.size + 1) form.data.toList s p zSo := ⟨_, rfl⟩
  rw [← hR]
  have hbl := Bk.lt h
  obtain ⟨rb, hrb⟩ : ∃ rb, rb = w.heap.size := ⟨_, rfl⟩
  obtain ⟨sb, hsb⟩ : ∃ sb, sb = w.heap.size + 1 := ⟨_, rfl⟩
  have HW : Hid (EnR B w ∧ B ≤ b ∧ b < w.heap.size ∧ rb = w.heap.size ∧ sb = w.heap.size + 1) := ⟨hE, hB, hbl, hrb, hsb⟩
  have H0 : Hid (LrW b rb sb s R w form p zSo (form.size + 1) ((w.alloc (.cells (#[.int .u8 zSo.k, .int .i64 zSo.r.x, .int .i64 zSo.r.y, .int .i64 zSo.r.w, .int .i64 zSo.r.h, .int .u8 zSo.c.r, .int .u8 zSo.c.g, .int .u8 zSo.c.b, .int .u8 zSo.c.a, .int .u8 zSo.b.r, .int .u8 zSo.b.g, .int .u8 zSo.b.b, .int .u8 zSo.b.a, .string zSo.t, .int .i64 zSo.n]) 53)).alloc (.cells (#[.int .u8 zSo.k, .int .i64 zSo.r.x, .int .i64 zSo.r.y, .int .i64 zSo.r.w, .int .i64 zSo.r.h, .int .u8 zSo.c.r, .int .u8 zSo.c.g, .int .u8 zSo.c.b, .int .u8 zSo.c.a, .int .u8 zSo.b.r, .int .u8 zSo.b.g, .int .u8 zSo.b.b, .int .u8 zSo.b.a, .string zSo.t, .int .i64 zSo.n]) 53))) := by
    have b1 : Below w.heap.size w (w.alloc (.cells (#[.int .u8 zSo.k, .int .i64 zSo.r.x, .int .i64 zSo.r.y, .int .i64 zSo.r.w, .int .i64 zSo.r.h, .int .u8 zSo.c.r, .int .u8 zSo.c.g, .int .u8 zSo.c.b, .int .u8 zSo.c.a, .int .u8 zSo.b.r, .int .u8 zSo.b.g, .int .u8 zSo.b.b, .int .u8 zSo.b.a, .string zSo.t, .int .i64 zSo.n]) 53)) := (Below.refl _ w).alloc (Nat.le_refl _) _
    have b2 : Below (w.alloc (.cells (#[.int .u8 zSo.k, .int .i64 zSo.r.x, .int .i64 zSo.r.y, .int .i64 zSo.r.w, .int .i64 zSo.r.h, .int .u8 zSo.c.r, .int .u8 zSo.c.g, .int .u8 zSo.c.b, .int .u8 zSo.c.a, .int .u8 zSo.b.r, .int .u8 zSo.b.g, .int .u8 zSo.b.b, .int .u8 zSo.b.a, .string zSo.t, .int .i64 zSo.n]) 53)).heap.size (w.alloc (.cells (#[.int .u8 zSo.k, .int .i64 zSo.r.x, .int .i64 zSo.r.y, .int .i64 zSo.r.w, .int .i64 zSo.r.h, .int .u8 zSo.c.r, .int .u8 zSo.c.g, .int .u8 zSo.c.b, .int .u8 zSo.c.a, .int .u8 zSo.b.r, .int .u8 zSo.b.g, .int .u8 zSo.b.b, .int .u8 zSo.b.a, .string zSo.t, .int .i64 zSo.n]) 53)) ((w.alloc (.cells (#[.int .u8 zSo.k, .int .i64 zSo.r.x, .int .i64 zSo.r.y, .int .i64 zSo.r.w, .int .i64 zSo.r.h, .int .u8 zSo.c.r, .int .u8 zSo.c.g, .int .u8 zSo.c.b, .int .u8 zSo.c.a, .int .u8 zSo.b.r, .int .u8 zSo.b.g, .int .u8 zSo.b.b, .int .u8 zSo.b.a, .string zSo.t, .int .i64 zSo.n]) 53)).alloc (.cells (#[.int .u8 zSo.k, .int .i64 zSo.r.x, .int .i64 zSo.r.y, .int .i64 zSo.r.w, .int .i64 zSo.r.h, .int .u8 zSo.c.r, .int .u8 zSo.c.g, .int .u8 zSo.c.b, .int .u8 zSo.c.a, .int .u8 zSo.b.r, .int .u8 zSo.b.g, .int .u8 zSo.b.b, .int .u8 zSo.b.a, .string zSo.t, .int .i64 zSo.n]) 53)) := (Below.refl _ _).alloc (Nat.le_refl _) _
    have e : (w.alloc (.cells (#[.int .u8 zSo.k, .int .i64 zSo.r.x, .int .i64 zSo.r.y, .int .i64 zSo.r.w, .int .i64 zSo.r.h, .int .u8 zSo.c.r, .int .u8 zSo.c.g, .int .u8 zSo.c.b, .int .u8 zSo.c.a, .int .u8 zSo.b.r, .int .u8 zSo.b.g, .int .u8 zSo.b.b, .int .u8 zSo.b.a, .string zSo.t, .int .i64 zSo.n]) 53)).heap.size = w.heap.size + 1 := by simp
    refine ⟨(h.below b1).below b2, ?_, ?_, Kp2.of_below (b1.trans (b2.mono b1.size)), hp, hR.symm, Nat.lt_succ_self _⟩
    · rw [hsb, ← e]; exact Bk.new _ _ _
    · rw [hrb]; exact (Bk.new w _ _).below b2
  have hn1 : ¬ rb = b := by omega
  have hn2 : ¬ b = rb := by omega
  have hn3 : ¬ sb = b := by omega
  have hn4 : ¬ b = sb := by omega
  have hn5 : ¬ sb = rb := by omega
  have hn6 : ¬ rb = sb := by omega
  clear h hp hE hB hbl hR
  go_enter Tryz.func32, Tryz.ntmps32
  go_wp2_with fail
  rw [← hsb, ← hrb]
  clear hsb hrb
  go_loopw [1] (fun fv wr => ∃ (fm : ByteArray) (p : Nat) (st : St) (f : Nat), fv = .string fm ∧ fm.size ≤ 1000 ∧ Hid (LrW b rb sb s R w fm p st f wr)) (fun fv _ => szV fv)
  case atStart => exact ⟨form, p, zSo, _, rfl, hf, H0⟩
  case round =>
    obtain ⟨fm, p, st, f, rfl, hfm, HR⟩ := hrel
    clear H0
    obtain ⟨f, rfl⟩ : ∃ f', f = f' + 1 := by
      have := HR.out.fu
      cases f with
      | zero => omega
      | succ f => exact ⟨f, rfl⟩
    obtain ⟨k, hk⟩ : ∃ k, k = rnO fxB fm.data.toList := ⟨_, rfl⟩
    have hkz : k ≤ fm.size := by
      have := rnO_le fxB fm.data.toList
      rw [← hk] at this
      simpa using this
    have hkz' : (k : Int) ≤ fm.size := by omega
    have HFx : Hid (∀ W, Calls Tryz.prog 53 #[.string fm] W fun e w' => e = .returned (.int .i64 k) ∧ w' = W) := fun W => by rw [hk]; exact fixed_any fm W (by omega)
    obtain ⟨FX, hFX⟩ : ∃ FX, FX = fm.extract 0 k := ⟨_, rfl⟩
    have hFl : FX.data.toList = fm.data.toList.take k := by rw [hFX, ext_take]
    have hFz : FX.size = k := by rw [hFX]; simp; omega
    have HBg : Hid (Calls Tryz.prog 33 #[.pointer (some ⟨b, 0, none⟩), .string FX] wr fun e w' => e = .returned (.bool (bgB s p (fm.data.toList.take k))) ∧ Below wr.heap.size wr w') := by rw [← hFl]; exact begins_any b s p FX wr HR.out.rd HR.out.le
    have HFX := show Hid _ from hFX
    have HFz := show Hid _ from hFz
    have Hk := show Hid _ from hk
    clear hFX hFl hFz hk
    cases hbg : bgB s p (fm.data.toList.take k) with
    | false =>
      rw [hbg] at HBg
      have HRR : Hid (R = .inl p) := by rw [← HR.out.eq]; exact lnL_bad (by rw [← Hk.out]; exact hbg)
      clear hbg
      go_wp2_with fail
      refine (HFx.out _).mono ?_
      rintro e w' ⟨rfl, hw⟩
      obtain rfl := hw.symm
      go_wp2_with fail
      rw [← HFX.out]
      refine HBg.out.mono ?_
      rintro e w1 ⟨rfl, hb1⟩
      have HQ : Hid (Rd w1 b s p ∧ Bk w1 rb (#[.int .u8 zSo.k, .int .i64 zSo.r.x, .int .i64 zSo.r.y, .int .i64 zSo.r.w, .int .i64 zSo.r.h, .int .u8 zSo.c.r, .int .u8 zSo.c.g, .int .u8 zSo.c.b, .int .u8 zSo.c.a, .int .u8 zSo.b.r, .int .u8 zSo.b.g, .int .u8 zSo.b.b, .int .u8 zSo.b.a, .string zSo.t, .int .i64 zSo.n]) 53 ∧ Kp2 b b w w1 ∧ p ≤ s.size) := ⟨HR.out.rd.below hb1, HR.out.rs.below hb1, HR.out.kp.trans (Kp2.of_below hb1), HR.out.le⟩
      clear hb1 HR HBg HFx
      go_wp2_with fail
      refine (refuse_any b s p 0 FX _ HQ.out.1 (by have := HQ.out.2.2.2; omega) (by decide)).mono ?_
      rintro e w2 ⟨v2, rfl, hv2, hb2⟩
      have HQ2 : Hid (IsW w1.heap.size w2 v2 p ∧ Bk w2 rb (#[.int .u8 zSo.k, .int .i64 zSo.r.x, .int .i64 zSo.r.y, .int .i64 zSo.r.w, .int .i64 zSo.r.h, .int .u8 zSo.c.r, .int .u8 zSo.c.g, .int .u8 zSo.c.b, .int .u8 zSo.c.a, .int .u8 zSo.b.r, .int .u8 zSo.b.g, .int .u8 zSo.b.b, .int .u8 zSo.b.a, .string zSo.t, .int .i64 zSo.n]) 53 ∧ Kp2 b b w w2 ∧ rb < w1.heap.size ∧ w.heap.size ≤ w1.heap.size ∧ b < w1.heap.size) := ⟨by rw [Nat.add_zero] at hv2; exact hv2, HQ.out.2.1.below hb2, HQ.out.2.2.1.trans (Kp2.of_below hb2), HQ.out.2.1.lt, HQ.out.2.2.1.size, Bk.lt HQ.out.1⟩
      clear hv2 hb2 HQ
      go_wp2_with (refine wpList_store_row rfl 53 (.tmp 4) (.tmp 17) rfl rb #[.int .u8 0, .int .i64 0, .int .i64 0, .int .i64 0, .int .i64 0, .int .u8 0, .int .u8 0, .int .u8 0, .int .u8 0, .int .u8 0, .int .u8 0, .int .u8 0, .int .u8 0, .string ⟨#[]⟩, .int .i64 0] rfl rfl 53 _ HQ2.out.2.1 size_st rfl (by simp [Value.oneCell']) ?_)
      obtain ⟨W3, hW3⟩ : ∃ W3, W3 = w2.setRow rb #[.int .u8 0, .int .i64 0, .int .i64 0, .int .i64 0, .int .i64 0, .int .u8 0, .int .u8 0, .int .u8 0, .int .u8 0, .int .u8 0, .int .u8 0, .int .u8 0, .int .u8 0, .string ⟨#[]⟩, .int .i64 0] := ⟨_, rfl⟩
      rw [← hW3]
      have hB3 : Bk W3 rb #[.int .u8 0, .int .i64 0, .int .i64 0, .int .i64 0, .int .i64 0, .int .u8 0, .int .u8 0, .int .u8 0, .int .u8 0, .int .u8 0, .int .u8 0, .int .u8 0, .int .u8 0, .string ⟨#[]⟩, .int .i64 0] 53 := by rw [hW3]; exact setRow_heap _ _ _ _ _ _ HQ2.out.2.1
      have hld : (loadVar 53 ⟨rb, 0, none⟩).run Tryz.prog W3 = .ok (.agg #[.int .u8 0, .int .i64 0, .int .i64 0, .int .i64 0, .int .i64 0, .int .u8 0, .int .u8 0, .int .u8 0, .int .u8 0, .int .u8 0, .int .u8 0, .int .u8 0, .int .u8 0, .string ⟨#[]⟩, .int .i64 0]) W3 := run_loadVar_row W3 rb 53 53 #[.int .u8 0, .int .i64 0, .int .i64 0, .int .i64 0, .int .i64 0, .int .u8 0, .int .u8 0, .int .u8 0, .int .u8 0, .int .u8 0, .int .u8 0, .int .u8 0, .int .u8 0, .string ⟨#[]⟩, .int .i64 0] (0, 0) _ hB3 Tryz.underlying53 rfl size_st
      have hK3 : Kp2 b rb w2 W3 := by rw [hW3]; exact Kp2.row _ _ _ _
      have hK4 : Kp2 rb rb w2 W3 := by rw [hW3]; exact Kp2.row _ _ _ _
      refine bodyPost_ret (v := .tuple #[.agg #[.int .u8 0, .int .i64 0, .int .i64 0, .int .i64 0, .int .i64 0, .int .u8 0, .int .u8 0, .int .u8 0, .int .u8 0, .int .u8 0, .int .u8 0, .int .u8 0, .int .u8 0, .string ⟨#[]⟩, .int .i64 0], v2]) ?_ rfl (lnq_none HRR.out rfl ⟨(HQ2.out.1.keep hK3 HQ2.out.2.2.2.2.2 HQ2.out.2.2.2.1).weaken HQ2.out.2.2.2.2.1, HQ2.out.2.2.1.fresh hK3 (by have := HW.out; omega)⟩)
      simp [results, Tryz.results32, asAddr, hld]
    | true =>
      rw [hbg] at HBg
      have HBt := show Hid _ from hbg
      have hpk : p + k ≤ s.size := by
        have e : (fm.data.toList.take k).length = k := by rw [List.length_take]; simp; omega
        rcases bgB_len hbg with h | h
        · rw [e] at h; exact h
        · rw [h] at e; simp at e; have := HR.out.le; omega
      clear hbg
      obtain ⟨FR, hFR⟩ : ∃ FR, FR = fm.extract FX.size fm.size := ⟨_, rfl⟩
      have hFrl : FR.data.toList = fm.data.toList.drop k := by rw [hFR, ext_drop, HFz.out]
      have hFrz : FR.size = fm.size - k := by rw [hFR]; simp [HFz.out]
      have HFR := show Hid _ from hFR
      have HFrl : Hid (FR.data.toList = fm.data.toList.drop k ∧ FR.size = fm.size - k) := ⟨hFrl, hFrz⟩
      go_wp2_with fail
      refine (HFx.out _).mono ?_
      rintro e w' ⟨rfl, hw⟩
      obtain rfl := hw.symm
      go_wp2_with fail
      rw [← HFX.out]
      refine HBg.out.mono ?_
      rintro e w1 ⟨rfl, hb1⟩
      have HQ : Hid (Rd w1 b s p ∧ Bk w1 rb (#[.int .u8 zSo.k, .int .i64 zSo.r.x, .int .i64 zSo.r.y, .int .i64 zSo.r.w, .int .i64 zSo.r.h, .int .u8 zSo.c.r, .int .u8 zSo.c.g, .int .u8 zSo.c.b, .int .u8 zSo.c.a, .int .u8 zSo.b.r, .int .u8 zSo.b.g, .int .u8 zSo.b.b, .int .u8 zSo.b.a, .string zSo.t, .int .i64 zSo.n]) 53 ∧ Kp2 b b w w1 ∧ Bk w1 sb (#[.int .u8 st.k, .int .i64 st.r.x, .int .i64 st.r.y, .int .i64 st.r.w, .int .i64 st.r.h, .int .u8 st.c.r, .int .u8 st.c.g, .int .u8 st.c.b, .int .u8 st.c.a, .int .u8 st.b.r, .int .u8 st.b.g, .int .u8 st.b.b, .int .u8 st.b.a, .string st.t, .int .i64 st.n]) 53) := ⟨HR.out.rd.below hb1, HR.out.rs.below hb1, HR.out.kp.trans (Kp2.of_below hb1), HR.out.sk.below hb1⟩
      clear hb1 HBg HFx
      obtain ⟨d0, d1, d2⟩ := rd_cells HQ.out.1
      have hpz : (p : Int) ≤ 100000 := by omega
      have hfz : (FX.size : Int) ≤ 1000 := by have := HFz.out; omega
      have hfz2 : (FX.size : Int) ≤ fm.size := by have := HFz.out; omega
      have HQ2 : Hid (∀ W, W = (w1.setCell ⟨b, 1, none⟩ (.int .i64 ((p : Int) + FX.size))) → Rd W b s (p + k) ∧ Bk W rb (#[.int .u8 zSo.k, .int .i64 zSo.r.x, .int .i64 zSo.r.y, .int .i64 zSo.r.w, .int .i64 zSo.r.h, .int .u8 zSo.c.r, .int .u8 zSo.c.g, .int .u8 zSo.c.b, .int .u8 zSo.c.a, .int .u8 zSo.b.r, .int .u8 zSo.b.g, .int .u8 zSo.b.b, .int .u8 zSo.b.a, .string zSo.t, .int .i64 zSo.n]) 53 ∧ Kp2 b b w W ∧ Bk W sb (#[.int .u8 st.k, .int .i64 st.r.x, .int .i64 st.r.y, .int .i64 st.r.w, .int .i64 st.r.h, .int .u8 st.c.r, .int .u8 st.c.g, .int .u8 st.c.b, .int .u8 st.c.a, .int .u8 st.b.r, .int .u8 st.b.g, .int .u8 st.b.b, .int .u8 st.b.a, .string st.t, .int .i64 st.n]) 53) := fun W hW => by
        subst hW
        obtain ⟨q1, q2, q3, q4⟩ := HQ.out
        refine ⟨?_, Bk.other q2 ⟨b, 1, none⟩ _ hn2, q3.trans (Kp2.put _ _ _ _ _), Bk.other q4 ⟨b, 1, none⟩ _ hn4⟩
        have := q1.put (q := p + k)
        rw [show (p : Int) + FX.size = ((p + k : Nat) : Int) by have := HFz.out; omega]
        exact this
      by_cases hem : FR.size = 0
      · have hemp : FR = ⟨#[]⟩ := by apply ByteArray.ext; exact Array.size_eq_zero_iff.1 hem
        have hie : (fm.extract FX.size fm.size).toList.isEmpty = true := by rw [← hFR, hemp, ztx_list]; rfl
        have HRR : Hid (R = .inr (st, p + k)) := by
          rw [← HR.out.eq]
          have q := lnL_end (f := f) (s := s) (p := p) (st := st) (l := fm.data.toList) (by rw [← Hk.out]; exact HBt.out) (by rw [← Hk.out, ← hFrl, hemp])
          rw [← Hk.out] at q
          exact q
        obtain ⟨x0, x1, x2, x3, x4, x5, x6, x7, x8, x9, x10, x11, x12, x13, x14⟩ := bk15 HQ.out.2.2.2
        simp only [Nat.zero_add] at x1 x2 x3 x4 x5 x6 x7 x8 x9 x10 x11 x12 x13 x14
        clear hFR hFrl hFrz HR hem hemp
        go_wp2_with (refine wpList_store_row rfl 53 (.tmp 4) (.tmp 36) rfl rb (#[.int .u8 st.k, .int .i64 st.r.x, .int .i64 st.r.y, .int .i64 st.r.w, .int .i64 st.r.h, .int .u8 st.c.r, .int .u8 st.c.g, .int .u8 st.c.b, .int .u8 st.c.a, .int .u8 st.b.r, .int .u8 st.b.g, .int .u8 st.b.b, .int .u8 st.b.a, .string st.t, .int .i64 st.n]) rfl rfl 53 _ (HQ2.out _ rfl).2.1 size_st rfl (by simp [Value.oneCell']) ?_)
        obtain ⟨W3, hW3⟩ : ∃ W3, W3 = (w1.setCell ⟨b, 1, none⟩ (.int .i64 ((p : Int) + FX.size))).setRow rb (#[.int .u8 st.k, .int .i64 st.r.x, .int .i64 st.r.y, .int .i64 st.r.w, .int .i64 st.r.h, .int .u8 st.c.r, .int .u8 st.c.g, .int .u8 st.c.b, .int .u8 st.c.a, .int .u8 st.b.r, .int .u8 st.b.g, .int .u8 st.b.b, .int .u8 st.b.a, .string st.t, .int .i64 st.n]) := ⟨_, rfl⟩
        rw [← hW3]
        have hB3 : Bk W3 rb (#[.int .u8 st.k, .int .i64 st.r.x, .int .i64 st.r.y, .int .i64 st.r.w, .int .i64 st.r.h, .int .u8 st.c.r, .int .u8 st.c.g, .int .u8 st.c.b, .int .u8 st.c.a, .int .u8 st.b.r, .int .u8 st.b.g, .int .u8 st.b.b, .int .u8 st.b.a, .string st.t, .int .i64 st.n]) 53 := by rw [hW3]; exact setRow_heap _ _ _ _ _ _ (HQ2.out _ rfl).2.1
        have hld : (loadVar 53 ⟨rb, 0, none⟩).run Tryz.prog W3 = .ok (.agg (#[.int .u8 st.k, .int .i64 st.r.x, .int .i64 st.r.y, .int .i64 st.r.w, .int .i64 st.r.h, .int .u8 st.c.r, .int .u8 st.c.g, .int .u8 st.c.b, .int .u8 st.c.a, .int .u8 st.b.r, .int .u8 st.b.g, .int .u8 st.b.b, .int .u8 st.b.a, .string st.t, .int .i64 st.n])) W3 := run_loadVar_row W3 rb 53 53 (#[.int .u8 st.k, .int .i64 st.r.x, .int .i64 st.r.y, .int .i64 st.r.w, .int .i64 st.r.h, .int .u8 st.c.r, .int .u8 st.c.g, .int .u8 st.c.b, .int .u8 st.c.a, .int .u8 st.b.r, .int .u8 st.b.g, .int .u8 st.b.b, .int .u8 st.b.a, .string st.t, .int .i64 st.n]) (0, 0) _ hB3 Tryz.underlying53 rfl size_st
        have hK3 : Kp2 b rb (w1.setCell ⟨b, 1, none⟩ (.int .i64 ((p : Int) + FX.size))) W3 := by rw [hW3]; exact Kp2.row _ _ _ _
        have hK4 : Kp2 rb rb (w1.setCell ⟨b, 1, none⟩ (.int .i64 ((p : Int) + FX.size))) W3 := by rw [hW3]; exact Kp2.row _ _ _ _
        refine bodyPost_ret (v := .tuple #[.agg (#[.int .u8 st.k, .int .i64 st.r.x, .int .i64 st.r.y, .int .i64 st.r.w, .int .i64 st.r.h, .int .u8 st.c.r, .int .u8 st.c.g, .int .u8 st.c.b, .int .u8 st.c.a, .int .u8 st.b.r, .int .u8 st.b.g, .int .u8 st.b.b, .int .u8 st.b.a, .string st.t, .int .i64 st.n]), .nilIface]) ?_ rfl (lnq_some HRR.out rfl ⟨Kp2.bk hK4 (HQ2.out _ rfl).1 hn2 hn2, hpk, (HQ2.out _ rfl).2.2.1.fresh hK3 (by have := HW.out; omega)⟩)
        simp [results, Tryz.results32, asAddr, hld]
      · have hie : (fm.extract FX.size fm.size).toList.isEmpty = false := by
          rw [← hFR, ztx_list]
          cases hl : FR.data.toList with
          | nil => exact absurd (by have : FR.data.toList.length = FR.size := by simp
                                    rw [hl] at this; simpa using this.symm) hem
          | cons _ _ => rfl
        have h0 : 0 < FR.size := by omega
        have h0' : FX.size < fm.size := by have := HFz.out; omega
        have h0'' : (FX.size : Int) < fm.size := by omega
        have hcons : FR.data.toList = FR[0] :: FR.data.toList.drop 1 := by
          cases hl : FR.data.toList with
          | nil => exact absurd (by have : FR.data.toList.length = FR.size := by simp
                                    rw [hl] at this; simpa using this.symm) hem
          | cons c t =>
            have e : FR[0] = c := by
              show FR.data[0] = c
              have e2 := List.getElem_of_eq hl (i := 0) (by rw [hl]; simp)
              simpa using e2
            rw [e]
            rfl
        have HGo : Hid (R = (match tdL (FR[0]).toNat (rsL s (p + k)) st with
            | .inl o => .inl (p + k + o)
            | .inr (st', n) => lnL f (FR.data.toList.drop 1) s (p + k + n) st')) := by
          rw [← HR.out.eq]
          have q := lnL_go (f := f) (s := s) (p := p) (st := st) (l := fm.data.toList) (c := FR[0]) (t := FR.data.toList.drop 1) (by rw [← Hk.out]; exact HBt.out) (by rw [← Hk.out, ← hFrl]; exact hcons)
          rw [← Hk.out] at q
          exact q
        have HSz : Hid (FR.size < f + 1 ∧ fm.size < f + 1 ∧ 0 < FR.size ∧ FR.size ≤ fm.size) := ⟨by have := HR.out.fu; omega, HR.out.fu, h0, by omega⟩
        have HBl : Hid (b < w1.heap.size ∧ rb < w1.heap.size ∧ w.heap.size ≤ w1.heap.size) := ⟨Bk.lt HQ.out.1, HQ.out.2.1.lt, HQ.out.2.2.1.size⟩
        have hpf : 0 < (fm.extract FX.size fm.size).size := by rw [← hFR]; exact h0
        have hcx : FR[0] = (fm.extract FX.size fm.size)[0]'hpf := by simp only [hFR]
        clear hFrl hFrz hcons HR hem
        go_wp2_with fail
        refine (toldR_any B b sb (((fm.extract FX.size fm.size)[0]'hpf).toNat) s (p + k) st _ (HQ2.out _ rfl).1 hpk hs (HW.out.1.on ((HQ2.out _ rfl).2.2.1.below (by have := HW.out; omega) HW.out.2.1 HW.out.2.1)) HW.out.2.1 (HQ2.out _ rfl).2.2.2 hn3 (UInt8.toNat_lt _)).mono ?_
        rw [hcx] at HGo
        obtain ⟨T, hT⟩ : ∃ T, T = tdL (((fm.extract FX.size fm.size)[0]'hpf).toNat) (rsL s (p + k)) st := ⟨_, rfl⟩
        have HT := show Hid _ from hT
        rw [← hT] at HGo ⊢
        clear hcx hT
        obtain ⟨W1, hW1⟩ : ∃ W1, W1 = (w1.setCell ⟨b, 1, none⟩ (.int .i64 ((p : Int) + FX.size))) := ⟨_, rfl⟩
        have HQ3 := HQ2.out W1 hW1
        have hWz : W1.heap.size = w1.heap.size := by rw [hW1]; simp
        have HQ4 : Hid ((Rd W1 b s (p + k) ∧ Bk W1 rb (#[.int .u8 zSo.k, .int .i64 zSo.r.x, .int .i64 zSo.r.y, .int .i64 zSo.r.w, .int .i64 zSo.r.h, .int .u8 zSo.c.r, .int .u8 zSo.c.g, .int .u8 zSo.c.b, .int .u8 zSo.c.a, .int .u8 zSo.b.r, .int .u8 zSo.b.g, .int .u8 zSo.b.b, .int .u8 zSo.b.a, .string zSo.t, .int .i64 zSo.n]) 53 ∧ Kp2 b b w W1 ∧ Bk W1 sb (#[.int .u8 st.k, .int .i64 st.r.x, .int .i64 st.r.y, .int .i64 st.r.w, .int .i64 st.r.h, .int .u8 st.c.r, .int .u8 st.c.g, .int .u8 st.c.b, .int .u8 st.c.a, .int .u8 st.b.r, .int .u8 st.b.g, .int .u8 st.b.b, .int .u8 st.b.a, .string st.t, .int .i64 st.n]) 53) ∧ W1.heap.size = w1.heap.size) := ⟨HQ3, hWz⟩
        rw [← hW1]
        clear hW1 HQ2 HQ3 hWz HQ hFR
        intro e w2 hq
        cases T with
        | inl o =>
          obtain ⟨v, st', rfl, hv, hr2, hs2, hk2⟩ := hq
          obtain ⟨gi, hgi⟩ := isw_iface hv
          have HRR : Hid (R = .inl (p + k + o)) := HGo.out
          have HQ5 : Hid (IsW W1.heap.size w2 v (p + k + o) ∧ Bk w2 rb (#[.int .u8 zSo.k, .int .i64 zSo.r.x, .int .i64 zSo.r.y, .int .i64 zSo.r.w, .int .i64 zSo.r.h, .int .u8 zSo.c.r, .int .u8 zSo.c.g, .int .u8 zSo.c.b, .int .u8 zSo.c.a, .int .u8 zSo.b.r, .int .u8 zSo.b.g, .int .u8 zSo.b.b, .int .u8 zSo.b.a, .string zSo.t, .int .i64 zSo.n]) 53 ∧ Kp2 b b w w2 ∧ b < W1.heap.size ∧ rb < W1.heap.size ∧ w.heap.size ≤ W1.heap.size) := by
            have a1 := HBl.out
            have a2 := HQ4.out.2
            have a3 := HW.out
            exact ⟨hv, Kp2.bk hk2 HQ4.out.1.2.1 hn1 hn6, HQ4.out.1.2.2.1.fresh hk2 (by omega), by omega, by omega, by omega⟩
          clear hv hr2 hs2 hk2 HQ4 HGo HT
          subst hgi
          go_wp2_with (refine wpList_store_row rfl 53 (.tmp 4) (.tmp 43) rfl rb #[.int .u8 0, .int .i64 0, .int .i64 0, .int .i64 0, .int .i64 0, .int .u8 0, .int .u8 0, .int .u8 0, .int .u8 0, .int .u8 0, .int .u8 0, .int .u8 0, .int .u8 0, .string ⟨#[]⟩, .int .i64 0] rfl rfl 53 _ HQ5.out.2.1 size_st rfl (by simp [Value.oneCell']) ?_)
          obtain ⟨W3, hW3⟩ : ∃ W3, W3 = w2.setRow rb #[.int .u8 0, .int .i64 0, .int .i64 0, .int .i64 0, .int .i64 0, .int .u8 0, .int .u8 0, .int .u8 0, .int .u8 0, .int .u8 0, .int .u8 0, .int .u8 0, .int .u8 0, .string ⟨#[]⟩, .int .i64 0] := ⟨_, rfl⟩
          rw [← hW3]
          have hB3 : Bk W3 rb #[.int .u8 0, .int .i64 0, .int .i64 0, .int .i64 0, .int .i64 0, .int .u8 0, .int .u8 0, .int .u8 0, .int .u8 0, .int .u8 0, .int .u8 0, .int .u8 0, .int .u8 0, .string ⟨#[]⟩, .int .i64 0] 53 := by rw [hW3]; exact setRow_heap _ _ _ _ _ _ HQ5.out.2.1
          have hld : (loadVar 53 ⟨rb, 0, none⟩).run Tryz.prog W3 = .ok (.agg #[.int .u8 0, .int .i64 0, .int .i64 0, .int .i64 0, .int .i64 0, .int .u8 0, .int .u8 0, .int .u8 0, .int .u8 0, .int .u8 0, .int .u8 0, .int .u8 0, .int .u8 0, .string ⟨#[]⟩, .int .i64 0]) W3 := run_loadVar_row W3 rb 53 53 #[.int .u8 0, .int .i64 0, .int .i64 0, .int .i64 0, .int .i64 0, .int .u8 0, .int .u8 0, .int .u8 0, .int .u8 0, .int .u8 0, .int .u8 0, .int .u8 0, .int .u8 0, .string ⟨#[]⟩, .int .i64 0] (0, 0) _ hB3 Tryz.underlying53 rfl size_st
          have hK3 : Kp2 b rb w2 W3 := by rw [hW3]; exact Kp2.row _ _ _ _
          have hK4 : Kp2 rb rb w2 W3 := by rw [hW3]; exact Kp2.row _ _ _ _
          refine bodyPost_ret (v := .tuple #[.agg #[.int .u8 0, .int .i64 0, .int .i64 0, .int .i64 0, .int .i64 0, .int .u8 0, .int .u8 0, .int .u8 0, .int .u8 0, .int .u8 0, .int .u8 0, .int .u8 0, .int .u8 0, .string ⟨#[]⟩, .int .i64 0], (.iface 104 (.pointer (some ⟨gi, 0, none⟩)))]) ?_ rfl (lnq_none HRR.out rfl ⟨(HQ5.out.1.keep hK3 HQ5.out.2.2.2.1 HQ5.out.2.2.2.2.1).weaken HQ5.out.2.2.2.2.2, HQ5.out.2.2.1.fresh hK3 (by have := HW.out; omega)⟩)
          simp [results, Tryz.results32, asAddr, hld]
        | inr T2 =>
          obtain ⟨st', n⟩ := T2
          obtain ⟨rfl, hr2, hs2, hk2⟩ := hq
          have hnl : p + k + n ≤ s.size := by
            have := tdL_le HT.out.symm
            rw [rsL_len] at this
            omega
          have HQ5 : Hid (Rd w2 b s (p + k + n) ∧ Bk w2 rb (#[.int .u8 zSo.k, .int .i64 zSo.r.x, .int .i64 zSo.r.y, .int .i64 zSo.r.w, .int .i64 zSo.r.h, .int .u8 zSo.c.r, .int .u8 zSo.c.g, .int .u8 zSo.c.b, .int .u8 zSo.c.a, .int .u8 zSo.b.r, .int .u8 zSo.b.g, .int .u8 zSo.b.b, .int .u8 zSo.b.a, .string zSo.t, .int .i64 zSo.n]) 53 ∧ Kp2 b b w w2 ∧ Bk w2 sb (#[.int .u8 st'.k, .int .i64 st'.r.x, .int .i64 st'.r.y, .int .i64 st'.r.w, .int .i64 st'.r.h, .int .u8 st'.c.r, .int .u8 st'.c.g, .int .u8 st'.c.b, .int .u8 st'.c.a, .int .u8 st'.b.r, .int .u8 st'.b.g, .int .u8 st'.b.b, .int .u8 st'.b.a, .string st'.t, .int .i64 st'.n]) 53) := by
            have a1 := HBl.out
            have a3 := HW.out
            exact ⟨hr2, Kp2.bk hk2 HQ4.out.1.2.1 hn1 hn6, HQ4.out.1.2.2.1.fresh hk2 (by omega), hs2⟩
          have HG2 : Hid (R = lnL f (FR.data.toList.drop 1) s (p + k + n) st') := HGo.out
          clear hr2 hs2 hk2 HQ4 HGo HT
          go_wp2
          have efm : (fm.extract FX.size fm.size).extract 1 (fm.size - FX.size) = FR.extract 1 FR.size := by
            rw [← HFR.out]
            congr 1
            rw [HFrl.out.2, HFz.out]
          rw [efm]
          have hFMl : (FR.extract 1 FR.size).data.toList = FR.data.toList.drop 1 := ext_drop FR 1
          have hFMz : (FR.extract 1 FR.size).size = FR.size - 1 := by simp
          have hz := HSz.out
          refine ⟨⟨FR.extract 1 FR.size, p + k + n, st', f, rfl, by omega, ⟨HQ5.out.1, HQ5.out.2.2.2, HQ5.out.2.1, HQ5.out.2.2.1, hnl, by rw [hFMl]; exact HG2.out.symm, by omega⟩⟩, ?_⟩
          show (FR.extract 1 FR.size).size < fm.size
          omega

end Go.Proofs.YtfjbnejmcanamaaGreatDoor

/-
  Contracts of package vector's reader: stroke.
-/
namespace Go.Proofs.YtfjbnejmcanamaaGreatDoor
open Go.RowKit

/-- A stroke's line, whatever its kind. -/
def skF (s : ByteArray) (p : Nat) : Nat → Nat → Nat ⊕ (St × Nat)
  | 0, _ => .inl p
  | f + 1, k => if bgB s p ((forF k).take (rnO fxB (forF k))) = true then (match lnL ((forF k).length + 1) (forF k) s p zSo with
      | .inl q => .inl q
      | .inr (st, q) => .inr ({ st with k := (k : Int) }, q)) else skF s p f (k + 1)
def skL (s : ByteArray) (p : Nat) : Nat ⊕ (St × Nat) := skF s p 5 1
theorem skF_yes {s : ByteArray} {p f k : Nat} (h : bgB s p ((forF k).take (rnO fxB (forF k))) = true) : skF s p (f + 1) k = (match lnL ((forF k).length + 1) (forF k) s p zSo with
      | .inl q => .inl q
      | .inr (st, q) => .inr ({ st with k := (k : Int) }, q)) := by rw [skF, if_pos h]
theorem skF_no {s : ByteArray} {p f k : Nat} (h : bgB s p ((forF k).take (rnO fxB (forF k))) = false) : skF s p (f + 1) k = skF s p f (k + 1) := by rw [skF, if_neg (by simp [h])]

structure SkW (b rb : Nat) (s : ByteArray) (p : Nat) (R : Nat ⊕ (St × Nat)) (w : World) (k f : Nat) (wr : World) : Prop where
  rd : Rd wr b s p
  rs : Bk wr rb (#[.int .u8 zSo.k, .int .i64 zSo.r.x, .int .i64 zSo.r.y, .int .i64 zSo.r.w, .int .i64 zSo.r.h, .int .u8 zSo.c.r, .int .u8 zSo.c.g, .int .u8 zSo.c.b, .int .u8 zSo.c.a, .int .u8 zSo.b.r, .int .u8 zSo.b.g, .int .u8 zSo.b.b, .int .u8 zSo.b.a, .string zSo.t, .int .i64 zSo.n]) 53
  kp : Kp2 b b w wr
  eq : skF s p f k = R
  fu : k + f = 6

set_option maxRecDepth 10000 in
set_option maxHeartbeats 16000000 in
theorem strokeR_any (B b : Nat) (s : ByteArray) (p : Nat) (w : World) (h : Rd w b s p) (hp : p ≤ s.size) (hs : s.size ≤ 100000) (hE : EnR B w) (hB : B ≤ b) :
    Calls Tryz.prog 34 #[.pointer (some ⟨b, 0, none⟩)] w fun e w' => LnQ b s (skL s p) w e w' := by
  obtain ⟨R, hR⟩ : ∃ R, R = skL s p := ⟨_, rfl⟩
  rw [← hR]
  have hbl := Bk.lt h
  obtain ⟨rb, hrb⟩ : ∃ rb, rb = w.heap.size := ⟨_, rfl⟩
  have HW : Hid (EnR B w ∧ B ≤ b ∧ b < w.heap.size ∧ rb = w.heap.size) := ⟨hE, hB, hbl, hrb⟩
  have H0 : Hid (SkW b rb s p R w 1 5 (w.alloc (.cells (#[.int .u8 zSo.k, .int .i64 zSo.r.x, .int .i64 zSo.r.y, .int .i64 zSo.r.w, .int .i64 zSo.r.h, .int .u8 zSo.c.r, .int .u8 zSo.c.g, .int .u8 zSo.c.b, .int .u8 zSo.c.a, .int .u8 zSo.b.r, .int .u8 zSo.b.g, .int .u8 zSo.b.b, .int .u8 zSo.b.a, .string zSo.t, .int .i64 zSo.n]) 53))) := by
    have b1 : Below w.heap.size w (w.alloc (.cells (#[.int .u8 zSo.k, .int .i64 zSo.r.x, .int .i64 zSo.r.y, .int .i64 zSo.r.w, .int .i64 zSo.r.h, .int .u8 zSo.c.r, .int .u8 zSo.c.g, .int .u8 zSo.c.b, .int .u8 zSo.c.a, .int .u8 zSo.b.r, .int .u8 zSo.b.g, .int .u8 zSo.b.b, .int .u8 zSo.b.a, .string zSo.t, .int .i64 zSo.n]) 53)) := (Below.refl _ w).alloc (Nat.le_refl _) _
    exact ⟨h.below b1, by rw [hrb]; exact Bk.new _ _ _, Kp2.of_below b1, hR.symm, rfl⟩
  have hn1 : ¬ rb = b := by omega
  have hn2 : ¬ b = rb := by omega
  clear h hE hB hbl hR
  go_enter Tryz.func34, Tryz.ntmps34
  go_wp2_with fail
  rw [← hrb]
  clear hrb
  go_loopw [4] (fun kv wr => ∃ (k f : Nat), kv = .int .u8 k ∧ k ≤ 6 ∧ 1 ≤ k ∧ Hid (SkW b rb s p R w k f wr)) (fun kv _ => 6 - (intOf kv).toNat)
  case atStart => exact ⟨1, 5, rfl, by decide, by decide, H0⟩
  case round =>
    obtain ⟨k, f, rfl, hk6, hk1, HR⟩ := hrel
    clear H0
    by_cases h6 : k = 6
    · subst h6
      have HRR : Hid (R = .inl p) := by
        have := HR.out.fu
        obtain rfl : f = 0 := by omega
        exact HR.out.eq.symm
      have HQ : Hid (Rd wr b s p ∧ Bk wr rb (#[.int .u8 zSo.k, .int .i64 zSo.r.x, .int .i64 zSo.r.y, .int .i64 zSo.r.w, .int .i64 zSo.r.h, .int .u8 zSo.c.r, .int .u8 zSo.c.g, .int .u8 zSo.c.b, .int .u8 zSo.c.a, .int .u8 zSo.b.r, .int .u8 zSo.b.g, .int .u8 zSo.b.b, .int .u8 zSo.b.a, .string zSo.t, .int .i64 zSo.n]) 53 ∧ Kp2 b b w wr) := ⟨HR.out.rd, HR.out.rs, HR.out.kp⟩
      clear HR
      go_wp2_with fail
      refine (refuse_any b s p 0 ⟨#[97, 32, 115, 104, 97, 112, 101, 44, 32, 111, 114, 32, 116, 104, 101, 32, 108, 97, 115, 116, 32, 108, 105, 110, 101]⟩ _ HQ.out.1 (by omega) (by decide)).mono ?_
      rintro e w2 ⟨v2, rfl, hv2, hb2⟩
      have HQ2 : Hid (IsW wr.heap.size w2 v2 p ∧ Bk w2 rb (#[.int .u8 zSo.k, .int .i64 zSo.r.x, .int .i64 zSo.r.y, .int .i64 zSo.r.w, .int .i64 zSo.r.h, .int .u8 zSo.c.r, .int .u8 zSo.c.g, .int .u8 zSo.c.b, .int .u8 zSo.c.a, .int .u8 zSo.b.r, .int .u8 zSo.b.g, .int .u8 zSo.b.b, .int .u8 zSo.b.a, .string zSo.t, .int .i64 zSo.n]) 53 ∧ Kp2 b b w w2 ∧ rb < wr.heap.size ∧ w.heap.size ≤ wr.heap.size ∧ b < wr.heap.size) := ⟨by rw [Nat.add_zero] at hv2; exact hv2, HQ.out.2.1.below hb2, HQ.out.2.2.trans (Kp2.of_below hb2), HQ.out.2.1.lt, HQ.out.2.2.size, Bk.lt HQ.out.1⟩
      clear hv2 hb2 HQ
      go_wp2_with (refine wpList_store_row rfl 53 (.tmp 2) (.tmp 34) rfl rb #[.int .u8 0, .int .i64 0, .int .i64 0, .int .i64 0, .int .i64 0, .int .u8 0, .int .u8 0, .int .u8 0, .int .u8 0, .int .u8 0, .int .u8 0, .int .u8 0, .int .u8 0, .string ⟨#[]⟩, .int .i64 0] rfl rfl 53 _ HQ2.out.2.1 size_st rfl (by simp [Value.oneCell']) ?_)
      obtain ⟨W3, hW3⟩ : ∃ W3, W3 = w2.setRow rb #[.int .u8 0, .int .i64 0, .int .i64 0, .int .i64 0, .int .i64 0, .int .u8 0, .int .u8 0, .int .u8 0, .int .u8 0, .int .u8 0, .int .u8 0, .int .u8 0, .int .u8 0, .string ⟨#[]⟩, .int .i64 0] := ⟨_, rfl⟩
      rw [← hW3]
      have hB3 : Bk W3 rb #[.int .u8 0, .int .i64 0, .int .i64 0, .int .i64 0, .int .i64 0, .int .u8 0, .int .u8 0, .int .u8 0, .int .u8 0, .int .u8 0, .int .u8 0, .int .u8 0, .int .u8 0, .string ⟨#[]⟩, .int .i64 0] 53 := by rw [hW3]; exact setRow_heap _ _ _ _ _ _ HQ2.out.2.1
      have hld : (loadVar 53 ⟨rb, 0, none⟩).run Tryz.prog W3 = .ok (.agg #[.int .u8 0, .int .i64 0, .int .i64 0, .int .i64 0, .int .i64 0, .int .u8 0, .int .u8 0, .int .u8 0, .int .u8 0, .int .u8 0, .int .u8 0, .int .u8 0, .int .u8 0, .string ⟨#[]⟩, .int .i64 0]) W3 := run_loadVar_row W3 rb 53 53 #[.int .u8 0, .int .i64 0, .int .i64 0, .int .i64 0, .int .i64 0, .int .u8 0, .int .u8 0, .int .u8 0, .int .u8 0, .int .u8 0, .int .u8 0, .int .u8 0, .int .u8 0, .string ⟨#[]⟩, .int .i64 0] (0, 0) _ hB3 Tryz.underlying53 rfl size_st
      have hK3 : Kp2 b rb w2 W3 := by rw [hW3]; exact Kp2.row _ _ _ _
      have hK4 : Kp2 rb rb w2 W3 := by rw [hW3]; exact Kp2.row _ _ _ _
      refine bodyPost_ret (v := .tuple #[.agg #[.int .u8 0, .int .i64 0, .int .i64 0, .int .i64 0, .int .i64 0, .int .u8 0, .int .u8 0, .int .u8 0, .int .u8 0, .int .u8 0, .int .u8 0, .int .u8 0, .int .u8 0, .string ⟨#[]⟩, .int .i64 0], v2]) ?_ rfl (lnq_none HRR.out rfl ⟨(HQ2.out.1.keep hK3 HQ2.out.2.2.2.2.2 HQ2.out.2.2.2.1).weaken HQ2.out.2.2.2.2.1, HQ2.out.2.2.1.fresh hK3 (by have := HW.out; omega)⟩)
      simp [results, Tryz.results34, asAddr, hld]
    have hk5 : k ≤ 5 := by omega
    have hk5' : (k : Int) ≤ 5 := by omega
    obtain ⟨f, rfl⟩ : ∃ f', f = f' + 1 := by
      have := HR.out.fu
      cases f with
      | zero => omega
      | succ f => exact ⟨f, rfl⟩
    obtain ⟨FO, hFO⟩ : ∃ FO : ByteArray, FO = ⟨(forF k).toArray⟩ := ⟨_, rfl⟩
    have hFl : FO.data.toList = forF k := by rw [hFO]
    have hFz : FO.size ≤ 100 := by
      have e : FO.data.toList.length = FO.size := by simp
      rw [← e, hFl]
      exact forF_len k
    have HFo : Hid (∀ W, Calls Tryz.prog 30 #[.int .u8 k] W fun e w' => e = .returned (.string FO) ∧ w' = W) := fun W => by rw [hFO]; exact vform_any k W (by omega) (by omega)
    obtain ⟨d, hd⟩ : ∃ d, d = rnO fxB (forF k) := ⟨_, rfl⟩
    have HFx : Hid (∀ W, Calls Tryz.prog 53 #[.string FO] W fun e w' => e = .returned (.int .i64 d) ∧ w' = W) := fun W => by rw [hd, ← hFl]; exact fixed_any FO W (by omega)
    have hdl : d ≤ FO.size := by
      have := rnO_le fxB (forF k)
      have e : FO.data.toList.length = FO.size := by simp
      rw [hd, ← e, hFl]
      exact this
    have hdl' : (d : Int) ≤ FO.size := by omega
    obtain ⟨FX, hFX⟩ : ∃ FX, FX = FO.extract 0 d := ⟨_, rfl⟩
    have hXl : FX.data.toList = (forF k).take (rnO fxB (forF k)) := by rw [hFX, ext_take, hFl, hd]
    have HBg : Hid (Calls Tryz.prog 33 #[.pointer (some ⟨b, 0, none⟩), .string FX] wr fun e w' => e = .returned (.bool (bgB s p ((forF k).take (rnO fxB (forF k))))) ∧ Below wr.heap.size wr w') := by rw [← hXl]; exact begins_any b s p FX wr HR.out.rd hp
    have HLi : Hid (∀ W, Rd W b s p → Kp2 b b w W → Calls Tryz.prog 32 #[.pointer (some ⟨b, 0, none⟩), .string FO] W fun e w' => LnQ b s (lnL ((forF k).length + 1) (forF k) s p zSo) W e w') := fun W h1 h2 => by
      have q := lineR_any B b s p FO W h1 hp hs (HW.out.1.on (h2.below (by have := HW.out; omega) HW.out.2.1 HW.out.2.1)) HW.out.2.1 (by omega)
      have e : FO.size = (forF k).length := by rw [← hFl]; simp
      rw [hFl, e] at q
      exact q
    have HFX := show Hid _ from hFX
    clear hFX hXl hFl hFO hd
    cases hbg : bgB s p ((forF k).take (rnO fxB (forF k))) with
    | false =>
      rw [hbg] at HBg
      have HN : Hid (∀ W, Below wr.heap.size wr W → SkW b rb s p R w (k + 1) f W) := fun W hb => ⟨HR.out.rd.below hb, HR.out.rs.below hb, HR.out.kp.trans (Kp2.of_below hb), by rw [← HR.out.eq]; exact (skF_no hbg).symm, by have := HR.out.fu; omega⟩
      clear hbg HLi HR
      go_wp2_with fail
      refine (HFo.out _).mono ?_
      rintro e w' ⟨rfl, hw⟩
      obtain rfl := hw.symm
      go_wp2_with fail
      refine (HFx.out _).mono ?_
      rintro e w' ⟨rfl, hw⟩
      obtain rfl := hw.symm
      go_wp2_with fail
      rw [← HFX.out]
      refine HBg.out.mono ?_
      rintro e w1 ⟨rfl, hb1⟩
      have HF : Hid (SkW b rb s p R w (k + 1) f w1) := HN.out _ hb1
      clear hb1 HN HBg HFo HFx HFX
      go_wp2
      go_roundw
      case rel => exact ⟨k + 1, f, by go_num, by omega, by omega, HF⟩
      case measure => simp [intOf]; omega
    | true =>
      rw [hbg] at HBg
      have HRe : Hid ((match lnL ((forF k).length + 1) (forF k) s p zSo with
      | .inl q => .inl q
      | .inr (st, q) => .inr ({ st with k := (k : Int) }, q)) = R) := by rw [← HR.out.eq]; exact (skF_yes hbg).symm
      have HQ0 : Hid (∀ W, Below wr.heap.size wr W → Rd W b s p ∧ Bk W rb (#[.int .u8 zSo.k, .int .i64 zSo.r.x, .int .i64 zSo.r.y, .int .i64 zSo.r.w, .int .i64 zSo.r.h, .int .u8 zSo.c.r, .int .u8 zSo.c.g, .int .u8 zSo.c.b, .int .u8 zSo.c.a, .int .u8 zSo.b.r, .int .u8 zSo.b.g, .int .u8 zSo.b.b, .int .u8 zSo.b.a, .string zSo.t, .int .i64 zSo.n]) 53 ∧ Kp2 b b w W) := fun W hb => ⟨HR.out.rd.below hb, HR.out.rs.below hb, HR.out.kp.trans (Kp2.of_below hb)⟩
      clear hbg HR
      generalize lnL ((forF k).length + 1) (forF k) s p zSo = L at *
      go_wp2_with fail
      refine (HFo.out _).mono ?_
      rintro e w' ⟨rfl, hw⟩
      obtain rfl := hw.symm
      go_wp2_with fail
      refine (HFx.out _).mono ?_
      rintro e w' ⟨rfl, hw⟩
      obtain rfl := hw.symm
      go_wp2_with fail
      rw [← HFX.out]
      refine HBg.out.mono ?_
      rintro e w1 ⟨rfl, hb1⟩
      have HQ : Hid (Rd w1 b s p ∧ Bk w1 rb (#[.int .u8 zSo.k, .int .i64 zSo.r.x, .int .i64 zSo.r.y, .int .i64 zSo.r.w, .int .i64 zSo.r.h, .int .u8 zSo.c.r, .int .u8 zSo.c.g, .int .u8 zSo.c.b, .int .u8 zSo.c.a, .int .u8 zSo.b.r, .int .u8 zSo.b.g, .int .u8 zSo.b.b, .int .u8 zSo.b.a, .string zSo.t, .int .i64 zSo.n]) 53 ∧ Kp2 b b w w1) := HQ0.out _ hb1
      clear hb1 HQ0 HBg HFo HFx HFX
      go_wp2_with fail
      refine (HLi.out _ HQ.out.1 HQ.out.2.2).mono ?_
      intro e w2 hq
      have HQr : Hid (rb < w1.heap.size ∧ b < w1.heap.size ∧ w.heap.size ≤ w1.heap.size) := ⟨HQ.out.2.1.lt, Bk.lt HQ.out.1, HQ.out.2.2.size⟩
      cases L with
      | inl q =>
        obtain ⟨v, rfl, hv, hk2⟩ := hq
        obtain ⟨gi, hgi⟩ := isw_iface hv
        have HRR : Hid (R = .inl q) := HRe.out.symm
        have HQ5 : Hid (IsW w1.heap.size w2 v q ∧ Bk w2 rb (#[.int .u8 zSo.k, .int .i64 zSo.r.x, .int .i64 zSo.r.y, .int .i64 zSo.r.w, .int .i64 zSo.r.h, .int .u8 zSo.c.r, .int .u8 zSo.c.g, .int .u8 zSo.c.b, .int .u8 zSo.c.a, .int .u8 zSo.b.r, .int .u8 zSo.b.g, .int .u8 zSo.b.b, .int .u8 zSo.b.a, .string zSo.t, .int .i64 zSo.n]) 53 ∧ Kp2 b b w w2) := ⟨hv, Kp2.bk hk2 HQ.out.2.1 hn1 hn1, HQ.out.2.2.trans hk2⟩
        clear hv hk2 HQ HRe HLi
        subst hgi
        have b1 : Below w2.heap.size w2 (w2.alloc (.cells (#[.int .u8 zSo.k, .int .i64 zSo.r.x, .int .i64 zSo.r.y, .int .i64 zSo.r.w, .int .i64 zSo.r.h, .int .u8 zSo.c.r, .int .u8 zSo.c.g, .int .u8 zSo.c.b, .int .u8 zSo.c.a, .int .u8 zSo.b.r, .int .u8 zSo.b.g, .int .u8 zSo.b.b, .int .u8 zSo.b.a, .string zSo.t, .int .i64 zSo.n]) 53)) := (Below.refl _ w2).alloc (Nat.le_refl _) _
        have HQ6 : Hid (IsW w1.heap.size (w2.alloc (.cells (#[.int .u8 zSo.k, .int .i64 zSo.r.x, .int .i64 zSo.r.y, .int .i64 zSo.r.w, .int .i64 zSo.r.h, .int .u8 zSo.c.r, .int .u8 zSo.c.g, .int .u8 zSo.c.b, .int .u8 zSo.c.a, .int .u8 zSo.b.r, .int .u8 zSo.b.g, .int .u8 zSo.b.b, .int .u8 zSo.b.a, .string zSo.t, .int .i64 zSo.n]) 53)) (.iface 104 (.pointer (some ⟨gi, 0, none⟩))) q ∧ Bk (w2.alloc (.cells (#[.int .u8 zSo.k, .int .i64 zSo.r.x, .int .i64 zSo.r.y, .int .i64 zSo.r.w, .int .i64 zSo.r.h, .int .u8 zSo.c.r, .int .u8 zSo.c.g, .int .u8 zSo.c.b, .int .u8 zSo.c.a, .int .u8 zSo.b.r, .int .u8 zSo.b.g, .int .u8 zSo.b.b, .int .u8 zSo.b.a, .string zSo.t, .int .i64 zSo.n]) 53)) rb (#[.int .u8 zSo.k, .int .i64 zSo.r.x, .int .i64 zSo.r.y, .int .i64 zSo.r.w, .int .i64 zSo.r.h, .int .u8 zSo.c.r, .int .u8 zSo.c.g, .int .u8 zSo.c.b, .int .u8 zSo.c.a, .int .u8 zSo.b.r, .int .u8 zSo.b.g, .int .u8 zSo.b.b, .int .u8 zSo.b.a, .string zSo.t, .int .i64 zSo.n]) 53 ∧ Kp2 b b w (w2.alloc (.cells (#[.int .u8 zSo.k, .int .i64 zSo.r.x, .int .i64 zSo.r.y, .int .i64 zSo.r.w, .int .i64 zSo.r.h, .int .u8 zSo.c.r, .int .u8 zSo.c.g, .int .u8 zSo.c.b, .int .u8 zSo.c.a, .int .u8 zSo.b.r, .int .u8 zSo.b.g, .int .u8 zSo.b.b, .int .u8 zSo.b.a, .string zSo.t, .int .i64 zSo.n]) 53))) := ⟨HQ5.out.1.keep (Kp2.of_below (b := b) (c := rb) b1) HQr.out.2.1 HQr.out.1, HQ5.out.2.1.below b1, HQ5.out.2.2.trans (Kp2.of_below b1)⟩
        clear HQ5 b1
        go_wp2_with (refine wpList_store_row rfl 53 (.tmp 2) (.tmp 29) rfl rb #[.int .u8 0, .int .i64 0, .int .i64 0, .int .i64 0, .int .i64 0, .int .u8 0, .int .u8 0, .int .u8 0, .int .u8 0, .int .u8 0, .int .u8 0, .int .u8 0, .int .u8 0, .string ⟨#[]⟩, .int .i64 0] rfl rfl 53 _ HQ6.out.2.1 size_st rfl (by simp [Value.oneCell']) ?_)
        obtain ⟨W3, hW3⟩ : ∃ W3, W3 = (w2.alloc (.cells (#[.int .u8 zSo.k, .int .i64 zSo.r.x, .int .i64 zSo.r.y, .int .i64 zSo.r.w, .int .i64 zSo.r.h, .int .u8 zSo.c.r, .int .u8 zSo.c.g, .int .u8 zSo.c.b, .int .u8 zSo.c.a, .int .u8 zSo.b.r, .int .u8 zSo.b.g, .int .u8 zSo.b.b, .int .u8 zSo.b.a, .string zSo.t, .int .i64 zSo.n]) 53)).setRow rb #[.int .u8 0, .int .i64 0, .int .i64 0, .int .i64 0, .int .i64 0, .int .u8 0, .int .u8 0, .int .u8 0, .int .u8 0, .int .u8 0, .int .u8 0, .int .u8 0, .int .u8 0, .string ⟨#[]⟩, .int .i64 0] := ⟨_, rfl⟩
        rw [← hW3]
        have hB3 : Bk W3 rb #[.int .u8 0, .int .i64 0, .int .i64 0, .int .i64 0, .int .i64 0, .int .u8 0, .int .u8 0, .int .u8 0, .int .u8 0, .int .u8 0, .int .u8 0, .int .u8 0, .int .u8 0, .string ⟨#[]⟩, .int .i64 0] 53 := by rw [hW3]; exact setRow_heap _ _ _ _ _ _ HQ6.out.2.1
        have hld : (loadVar 53 ⟨rb, 0, none⟩).run Tryz.prog W3 = .ok (.agg #[.int .u8 0, .int .i64 0, .int .i64 0, .int .i64 0, .int .i64 0, .int .u8 0, .int .u8 0, .int .u8 0, .int .u8 0, .int .u8 0, .int .u8 0, .int .u8 0, .int .u8 0, .string ⟨#[]⟩, .int .i64 0]) W3 := run_loadVar_row W3 rb 53 53 #[.int .u8 0, .int .i64 0, .int .i64 0, .int .i64 0, .int .i64 0, .int .u8 0, .int .u8 0, .int .u8 0, .int .u8 0, .int .u8 0, .int .u8 0, .int .u8 0, .int .u8 0, .string ⟨#[]⟩, .int .i64 0] (0, 0) _ hB3 Tryz.underlying53 rfl size_st
        have hK3 : Kp2 b rb (w2.alloc (.cells (#[.int .u8 zSo.k, .int .i64 zSo.r.x, .int .i64 zSo.r.y, .int .i64 zSo.r.w, .int .i64 zSo.r.h, .int .u8 zSo.c.r, .int .u8 zSo.c.g, .int .u8 zSo.c.b, .int .u8 zSo.c.a, .int .u8 zSo.b.r, .int .u8 zSo.b.g, .int .u8 zSo.b.b, .int .u8 zSo.b.a, .string zSo.t, .int .i64 zSo.n]) 53)) W3 := by rw [hW3]; exact Kp2.row _ _ _ _
        have hK4 : Kp2 rb rb (w2.alloc (.cells (#[.int .u8 zSo.k, .int .i64 zSo.r.x, .int .i64 zSo.r.y, .int .i64 zSo.r.w, .int .i64 zSo.r.h, .int .u8 zSo.c.r, .int .u8 zSo.c.g, .int .u8 zSo.c.b, .int .u8 zSo.c.a, .int .u8 zSo.b.r, .int .u8 zSo.b.g, .int .u8 zSo.b.b, .int .u8 zSo.b.a, .string zSo.t, .int .i64 zSo.n]) 53)) W3 := by rw [hW3]; exact Kp2.row _ _ _ _
        refine bodyPost_ret (v := .tuple #[.agg #[.int .u8 0, .int .i64 0, .int .i64 0, .int .i64 0, .int .i64 0, .int .u8 0, .int .u8 0, .int .u8 0, .int .u8 0, .int .u8 0, .int .u8 0, .int .u8 0, .int .u8 0, .string ⟨#[]⟩, .int .i64 0], (.iface 104 (.pointer (some ⟨gi, 0, none⟩)))]) ?_ rfl (lnq_none HRR.out rfl ⟨(HQ6.out.1.keep hK3 HQr.out.2.1 HQr.out.1).weaken HQr.out.2.2, HQ6.out.2.2.fresh hK3 (by have := HW.out; omega)⟩)
        simp [results, Tryz.results34, asAddr, hld]
      | inr L2 =>
        obtain ⟨st, q⟩ := L2
        obtain ⟨rfl, hr2, hq2, hk2⟩ := hq
        have HRR : Hid (R = .inr ({ st with k := (k : Int) }, q)) := HRe.out.symm
        have hrbz : rb < w2.heap.size := Nat.lt_of_lt_of_le HQr.out.1 hk2.size
        have hbz : b < w2.heap.size := Nat.lt_of_lt_of_le HQr.out.2.1 hk2.size
        have HQ6 : Hid (Rd (w2.alloc (.cells #[.int .u8 (k : Int), .int .i64 st.r.x, .int .i64 st.r.y, .int .i64 st.r.w, .int .i64 st.r.h, .int .u8 st.c.r, .int .u8 st.c.g, .int .u8 st.c.b, .int .u8 st.c.a, .int .u8 st.b.r, .int .u8 st.b.g, .int .u8 st.b.b, .int .u8 st.b.a, .string st.t, .int .i64 st.n] 53)) b s q ∧ Bk (w2.alloc (.cells #[.int .u8 (k : Int), .int .i64 st.r.x, .int .i64 st.r.y, .int .i64 st.r.w, .int .i64 st.r.h, .int .u8 st.c.r, .int .u8 st.c.g, .int .u8 st.c.b, .int .u8 st.c.a, .int .u8 st.b.r, .int .u8 st.b.g, .int .u8 st.b.b, .int .u8 st.b.a, .string st.t, .int .i64 st.n] 53)) rb (#[.int .u8 zSo.k, .int .i64 zSo.r.x, .int .i64 zSo.r.y, .int .i64 zSo.r.w, .int .i64 zSo.r.h, .int .u8 zSo.c.r, .int .u8 zSo.c.g, .int .u8 zSo.c.b, .int .u8 zSo.c.a, .int .u8 zSo.b.r, .int .u8 zSo.b.g, .int .u8 zSo.b.b, .int .u8 zSo.b.a, .string zSo.t, .int .i64 zSo.n]) 53 ∧ Kp2 b b w (w2.alloc (.cells #[.int .u8 (k : Int), .int .i64 st.r.x, .int .i64 st.r.y, .int .i64 st.r.w, .int .i64 st.r.h, .int .u8 st.c.r, .int .u8 st.c.g, .int .u8 st.c.b, .int .u8 st.c.a, .int .u8 st.b.r, .int .u8 st.b.g, .int .u8 st.b.b, .int .u8 st.b.a, .string st.t, .int .i64 st.n] 53))) := by
          have b1 : Below w2.heap.size w2 (w2.alloc (.cells #[.int .u8 (k : Int), .int .i64 st.r.x, .int .i64 st.r.y, .int .i64 st.r.w, .int .i64 st.r.h, .int .u8 st.c.r, .int .u8 st.c.g, .int .u8 st.c.b, .int .u8 st.c.a, .int .u8 st.b.r, .int .u8 st.b.g, .int .u8 st.b.b, .int .u8 st.b.a, .string st.t, .int .i64 st.n] 53)) := (Below.refl _ w2).alloc (Nat.le_refl _) _
          exact ⟨hr2.below b1, (Kp2.bk hk2 HQ.out.2.1 hn1 hn1).below b1, (HQ.out.2.2.trans hk2).trans (Kp2.of_below b1)⟩
        have hm1 : ¬ w2.heap.size = rb := by omega
        have hm2 : ¬ rb = w2.heap.size := by omega
        clear hr2 hk2 HQ HRe HLi
        go_wp2_with (refine wpList_store_row rfl 53 (.tmp 2) (.tmp 33) rfl rb #[.int .u8 (k : Int), .int .i64 st.r.x, .int .i64 st.r.y, .int .i64 st.r.w, .int .i64 st.r.h, .int .u8 st.c.r, .int .u8 st.c.g, .int .u8 st.c.b, .int .u8 st.c.a, .int .u8 st.b.r, .int .u8 st.b.g, .int .u8 st.b.b, .int .u8 st.b.a, .string st.t, .int .i64 st.n] rfl rfl 53 _ HQ6.out.2.1 size_st rfl (by simp [Value.oneCell']) ?_)
        obtain ⟨W3, hW3⟩ : ∃ W3, W3 = (w2.alloc (.cells #[.int .u8 (k : Int), .int .i64 st.r.x, .int .i64 st.r.y, .int .i64 st.r.w, .int .i64 st.r.h, .int .u8 st.c.r, .int .u8 st.c.g, .int .u8 st.c.b, .int .u8 st.c.a, .int .u8 st.b.r, .int .u8 st.b.g, .int .u8 st.b.b, .int .u8 st.b.a, .string st.t, .int .i64 st.n] 53)).setRow rb #[.int .u8 (k : Int), .int .i64 st.r.x, .int .i64 st.r.y, .int .i64 st.r.w, .int .i64 st.r.h, .int .u8 st.c.r, .int .u8 st.c.g, .int .u8 st.c.b, .int .u8 st.c.a, .int .u8 st.b.r, .int .u8 st.b.g, .int .u8 st.b.b, .int .u8 st.b.a, .string st.t, .int .i64 st.n] := ⟨_, rfl⟩
        rw [← hW3]
        have hB3 : Bk W3 rb #[.int .u8 (k : Int), .int .i64 st.r.x, .int .i64 st.r.y, .int .i64 st.r.w, .int .i64 st.r.h, .int .u8 st.c.r, .int .u8 st.c.g, .int .u8 st.c.b, .int .u8 st.c.a, .int .u8 st.b.r, .int .u8 st.b.g, .int .u8 st.b.b, .int .u8 st.b.a, .string st.t, .int .i64 st.n] 53 := by rw [hW3]; exact setRow_heap _ _ _ _ _ _ HQ6.out.2.1
        have hld : (loadVar 53 ⟨rb, 0, none⟩).run Tryz.prog W3 = .ok (.agg #[.int .u8 (k : Int), .int .i64 st.r.x, .int .i64 st.r.y, .int .i64 st.r.w, .int .i64 st.r.h, .int .u8 st.c.r, .int .u8 st.c.g, .int .u8 st.c.b, .int .u8 st.c.a, .int .u8 st.b.r, .int .u8 st.b.g, .int .u8 st.b.b, .int .u8 st.b.a, .string st.t, .int .i64 st.n]) W3 := run_loadVar_row W3 rb 53 53 #[.int .u8 (k : Int), .int .i64 st.r.x, .int .i64 st.r.y, .int .i64 st.r.w, .int .i64 st.r.h, .int .u8 st.c.r, .int .u8 st.c.g, .int .u8 st.c.b, .int .u8 st.c.a, .int .u8 st.b.r, .int .u8 st.b.g, .int .u8 st.b.b, .int .u8 st.b.a, .string st.t, .int .i64 st.n] (0, 0) _ hB3 Tryz.underlying53 rfl size_st
        have hK3 : Kp2 b rb (w2.alloc (.cells #[.int .u8 (k : Int), .int .i64 st.r.x, .int .i64 st.r.y, .int .i64 st.r.w, .int .i64 st.r.h, .int .u8 st.c.r, .int .u8 st.c.g, .int .u8 st.c.b, .int .u8 st.c.a, .int .u8 st.b.r, .int .u8 st.b.g, .int .u8 st.b.b, .int .u8 st.b.a, .string st.t, .int .i64 st.n] 53)) W3 := by rw [hW3]; exact Kp2.row _ _ _ _
        have hK4 : Kp2 rb rb (w2.alloc (.cells #[.int .u8 (k : Int), .int .i64 st.r.x, .int .i64 st.r.y, .int .i64 st.r.w, .int .i64 st.r.h, .int .u8 st.c.r, .int .u8 st.c.g, .int .u8 st.c.b, .int .u8 st.c.a, .int .u8 st.b.r, .int .u8 st.b.g, .int .u8 st.b.b, .int .u8 st.b.a, .string st.t, .int .i64 st.n] 53)) W3 := by rw [hW3]; exact Kp2.row _ _ _ _
        refine bodyPost_ret (v := .tuple #[.agg #[.int .u8 (k : Int), .int .i64 st.r.x, .int .i64 st.r.y, .int .i64 st.r.w, .int .i64 st.r.h, .int .u8 st.c.r, .int .u8 st.c.g, .int .u8 st.c.b, .int .u8 st.c.a, .int .u8 st.b.r, .int .u8 st.b.g, .int .u8 st.b.b, .int .u8 st.b.a, .string st.t, .int .i64 st.n], .nilIface]) ?_ rfl (lnq_some HRR.out rfl ⟨Kp2.bk hK4 HQ6.out.1 hn2 hn2, hq2, HQ6.out.2.2.fresh hK3 (by have := HW.out; omega)⟩)
        simp [results, Tryz.results34, asAddr, hld]

end Go.Proofs.YtfjbnejmcanamaaGreatDoor

/-
  Lists of strokes laid behind no list; a mark behind a list of one's own.
-/
namespace Go.Proofs.YtfjbnejmcanamaaGreatDoor
open Go.RowKit

def markS : St := ⟨0, zr, ⟨0, 0, 0, 0⟩, ⟨0, 0, 0, 0⟩, ⟨#[]⟩, 77⟩
theorem lss_src {w : World} {g o : Nat} {M : List St} (h : ∀ i (h : i < M.length), StAt w g (o + i * 15) M[i]) : ∀ (j : Nat) (u : Value), (flatZ M)[j]? = some u → w.cell? ((⟨g, o, none⟩ : Addr).add j) = some u := by
  intro j u hj
  have hl : j < (flatZ M).length := (List.getElem?_eq_some_iff.1 hj).1
  rw [flatZ_len] at hl
  have hq : j / 15 < M.length := by omega
  have h1 := flatZ_at M (j / 15) hq (j % 15) (Nat.mod_lt _ (by decide))
  have h2 := stat_iff.1 (h (j / 15) hq) (j % 15) (Nat.mod_lt _ (by decide))
  rw [show j / 15 * 15 + j % 15 = j by omega, hj] at h1
  rw [← h1, Nat.add_assoc, show j / 15 * 15 + j % 15 = j by omega] at h2
  have e : (⟨g, o, none⟩ : Addr).add j = ⟨g, o + j, none⟩ := by unfold Addr.add; split <;> simp_all
  rw [e]
  exact h2
/-- A list that lies somewhere laid behind no list. -/
theorem app_firstS {P : Program} {w : World} {ops : Array Oper} {rest : List Oper} {o : Oper} {a : Act} {Q : Exit → Act → World → Prop} (hgd : o.guard = none) (s x : Operand)
    (ho : o.op = .call { callee := .builtin .append, args := #[s, x], argTypes := #[22, 22] })
    (i : TypeInfo) (ht : P.underlying 22 = some (.slice 53)) (hi : P.info? 53 = some i) (hz : i.zero = some (.agg #[.int .u8 0, .int .i64 0, .int .i64 0, .int .i64 0, .int .i64 0, .int .u8 0, .int .u8 0, .int .u8 0, .int .u8 0, .int .u8 0, .int .u8 0, .int .u8 0, .int .u8 0, .string ByteArray.empty, .int .i64 0]))
    (hsize : i.size = 15) (hby : i.bytes = 72) (hs : a.eval s = .slice none 0 0) (rs : List St) (oa : Option Addr) (cap : Nat) (hx : a.eval x = .slice oa rs.length cap) (hv : LsS w (.slice oa rs.length cap) rs) (hn : NoNil (.slice oa rs.length cap))
    (hl : rs.length ≤ 100000) (h : ∀ v' w', Hid (OwS w.heap.size w' v' rs ∧ Below w.heap.size w w') → wpList P ops Q rest (a.put o.dst v') w') : wpList P ops Q (o :: rest) a w := by
  have hown : w.ownsRow w.heap.size 53 15 (.slice none 0 0) 0 [] := World.ownsRow_nil _ _ _ _
  cases oa with
  | none =>
    have h0 : rs = [] := by
      obtain ⟨oa, cap', e, _, hg⟩ := hv
      cases rs with
      | nil => rfl
      | cons r t =>
        obtain ⟨g, o, e2, _⟩ := hg (by simp)
        injection e with e1 _ _
        rw [e2] at e1
        cases e1
    subst h0
    obtain rfl : cap = 0 := hn cap rfl
    refine app_none hgd s x _ ho w.heap.size 53 i 15 ht hi (.slice none 0 0) 0 [] hs hown hx ?_
    rintro _ _ rfl rfl
    exact h _ _ ⟨hown, Below.refl _ _⟩
  | some ad =>
    refine wpList_append_own _ hgd s x _ ho w.heap.size 53 i (.agg #[.int .u8 0, .int .i64 0, .int .i64 0, .int .i64 0, .int .i64 0, .int .u8 0, .int .u8 0, .int .u8 0, .int .u8 0, .int .u8 0, .int .u8 0, .int .u8 0, .int .u8 0, .string ByteArray.empty, .int .i64 0]) 15 72 ht hi hz hsize hby rfl (by decide) (.slice none 0 0) 0 [] hs hown ad rs.length cap (flatZ rs) hx (flatZ_len rs) ?_ (onesZ rs) (by unfold maxLen; omega) (by omega) (Nat.le_refl _) ?_
    · intro j u hj
      obtain ⟨oa, cap', e, _, hg⟩ := hv
      have hp : 0 < rs.length := by
        cases rs with
        | nil => simp [flatZ] at hj
        | cons r t => simp
      obtain ⟨g, o, e2, _, hat⟩ := hg hp
      injection e with e1 _ _
      rw [e2] at e1
      injection e1 with e1
      subst e1
      exact lss_src hat j u hj
    · intro v' w' h2 h3 _
      rw [Nat.zero_add, List.nil_append] at h2
      exact h v' w' ⟨h2, (Below.refl _ w).grown h3 (Nat.le_refl _) (fun g e => by cases e)⟩
/-- A list of one's own, a mark behind it; its block lies from lo up to hi. -/
def LenS (lo hi : Nat) (W : World) (v : Value) (rs : List St) : Prop := OwS lo W v (rs ++ [markS]) ∧ ∀ g, v.ownBlock = some g → g < hi
theorem LenS.below {lo hi : Nat} {W W' : World} {v : Value} {rs : List St} (h : LenS lo hi W v rs) (hb : Below W.heap.size W W') : LenS lo hi W' v rs := ⟨row_below h.1 hb, h.2⟩
theorem LenS.val {lo hi : Nat} {W : World} {v : Value} {rs : List St} (h : LenS lo hi W v rs) : ∃ g cap, v = .slice (some ⟨g, 0, none⟩) (rs.length + 1) cap ∧ rs.length + 1 ≤ cap ∧ g < W.heap.size ∧ lo ≤ g ∧ g < hi := by
  obtain ⟨oa, cap, e, hc, hg⟩ := row_val h.1
  obtain ⟨g, e1, e2, e3⟩ := hg (by simp)
  subst e1
  subst e
  exact ⟨g, cap, by simp, by simpa using hc, e3, e2, h.2 g rfl⟩
/-- The list without its mark. -/
theorem LenS.lss {lo hi : Nat} {W : World} {g n cap : Nat} {rs : List St} (h : LenS lo hi W (.slice (some ⟨g, 0, none⟩) n cap) rs) : LsS W (.slice (some ⟨g, 0, none⟩) rs.length cap) rs := by
  obtain ⟨oa, cap', e, hc, hg⟩ := h.1.lss
  obtain ⟨g', o, e1, hlt, hat⟩ := hg (by simp)
  injection e with e2 _ e3
  rw [e1] at e2
  injection e2 with e2
  injection e2 with e4 e5 _
  subst e4 e5 e3
  refine ⟨_, cap, rfl, by simp at hc; omega, fun hp => ⟨g, 0, rfl, hlt, fun i hi => ?_⟩⟩
  have q := hat i (by simp; omega)
  rwa [List.getElem_append_left hi] at q
theorem LenS.mark {lo hi : Nat} {W : World} {g n cap : Nat} {rs : List St} (h : LenS lo hi W (.slice (some ⟨g, 0, none⟩) n cap) rs) : StAt W g (rs.length * 15) markS := by
  obtain ⟨oa, cap', e, hc, hg⟩ := h.1.lss
  obtain ⟨g', o, e1, hlt, hat⟩ := hg (by simp)
  injection e with e2 _ e3
  rw [e1] at e2
  injection e2 with e2
  injection e2 with e4 e5 _
  subst e4 e5 e3
  have q := hat rs.length (by simp)
  have e : (rs ++ [markS])[rs.length]'(by simp) = markS := by simp
  rw [e, Nat.zero_add] at q
  exact q

end Go.Proofs.YtfjbnejmcanamaaGreatDoor

/-
  Contracts of package vector's reader: shapes, in plain words.
-/
namespace Go.Proofs.YtfjbnejmcanamaaGreatDoor
open Go.RowKit

/-- The lines of strokes, read from a place on. -/
def vsF (s : ByteArray) : Nat → Nat → List St → Nat ⊕ List St
  | 0, _, acc => .inr acc
  | f + 1, p, acc => if bgB s p lstF = true then (if p + 10 < s.size then .inl (p + 10) else .inr acc) else
    match skL s p with
    | .inl q => .inl q
    | .inr (st, q) => vsF s f q (acc ++ [st])
/-- A whole text of shapes, read. -/
def vsR (s : ByteArray) : Nat ⊕ (List St × Int × Int) :=
  match lnL 22 hedF s 0 zSo with
  | .inl q => .inl q
  | .inr (h, p) => match vsF s (s.size + 1) p [] with
    | .inl q => .inl q
    | .inr l => .inr (l, h.r.w, h.r.h)

theorem vsF_last {s : ByteArray} {f p : Nat} {acc : List St} (h : bgB s p lstF = true) : vsF s (f + 1) p acc = if p + 10 < s.size then .inl (p + 10) else .inr acc := by rw [vsF, if_pos h]
theorem vsF_bad {s : ByteArray} {f p q : Nat} {acc : List St} (h : bgB s p lstF = false) (h2 : skL s p = .inl q) : vsF s (f + 1) p acc = .inl q := by rw [vsF, if_neg (by simp [h]), h2]
theorem vsF_go {s : ByteArray} {f p q : Nat} {acc : List St} {st : St} (h : bgB s p lstF = false) (h2 : skL s p = .inr (st, q)) : vsF s (f + 1) p acc = vsF s f q (acc ++ [st]) := by rw [vsF, if_neg (by simp [h]), h2]

theorem lnL_ge {s : ByteArray} : ∀ (f : Nat) (l : List UInt8) (p : Nat) (st st' : St) (q : Nat), lnL f l s p st = .inr (st', q) → p ≤ q
  | 0, _, _, _, _, _, h => by
    rw [lnL] at h
    injection h with h
    injection h with _ h
    omega
  | f + 1, l, p, st, st', q, h => by
    rw [lnL] at h
    split at h
    · cases h
    · split at h
      · injection h with h; injection h with _ h; omega
      · split at h
        · cases h
        · have := lnL_ge f _ _ _ _ _ h
          omega
theorem lnL_gt {s : ByteArray} {f : Nat} {l : List UInt8} {p : Nat} {st st' : St} {q : Nat} (hk : 0 < rnO fxB l) (h : lnL (f + 1) l s p st = .inr (st', q)) : p < q := by
  rw [lnL] at h
  split at h
  · cases h
  · split at h
    · injection h with h; injection h with _ h; omega
    · split at h
      · cases h
      · have := lnL_ge f _ _ _ _ _ h
        omega
theorem forF_fix (k : Nat) : 0 < rnO fxB (forF k) := by
  unfold forF
  repeat' split
  all_goals decide
theorem skF_gt {s : ByteArray} {p : Nat} : ∀ (f k : Nat) (st : St) (q : Nat), skF s p f k = .inr (st, q) → p < q
  | 0, _, _, _, h => by rw [skF] at h; cases h
  | f + 1, k, st, q, h => by
    rw [skF] at h
    split at h
    · split at h
      · cases h
      · next h2 =>
        injection h with h
        injection h with _ h
        have := lnL_gt (forF_fix k) h2
        omega
    · exact skF_gt f (k + 1) st q h
theorem skL_gt {s : ByteArray} {p q : Nat} {st : St} (h : skL s p = .inr (st, q)) : p < q := skF_gt 5 1 st q h

/-- A row of strokes stays where other blocks are written. -/
theorem own_kp {lo b c : Nat} {w w' : World} {u : Value} {L : List St} (h : OwS lo w u L) (k : Kp2 b c w w') (hb : ∀ g, u.ownBlock = some g → g ≠ b ∧ g ≠ c) : OwS lo w' u L := by
  obtain ⟨hl, h0 | ⟨g, cap, cur, rfl, h1, h2, h3⟩⟩ := h
  · exact ⟨hl, .inl h0⟩
  · obtain ⟨n1, n2⟩ := hb g rfl
    exact ⟨hl, .inr ⟨g, cap, cur, rfl, h1, (k.block g (Array.getElem?_eq_some_iff.1 h2).1 n1 n2).trans h2, h3⟩⟩
theorem own_ne {lo g' : Nat} {w : World} {u : Value} {L : List St} {vs : Array Value} {t : TypeId} (h : OwS lo w u L) (hb : Bk w g' vs t) (ht : t ≠ 53) : ∀ g, u.ownBlock = some g → g ≠ g' := by
  intro g hg e
  subst e
  obtain ⟨_, h0 | ⟨g2, cap, cur, rfl, h1, h2, h3⟩⟩ := h
  · rw [h0.1] at hg; cases hg
  · simp [Value.ownBlock] at hg
    subst hg
    have := hb.symm.trans h2
    injection this with this
    injection this with _ this _
    exact ht this

/-- What shapes answers. -/
def VsQ (R : Nat ⊕ (List St × Int × Int)) (w : World) (e : Ending) (w' : World) : Prop :=
  match R with
  | .inr (l, zw, zh) => ∃ u, e = .returned (.tuple #[u, .agg #[.int .i64 zw, .int .i64 zh], .nilIface]) ∧ OwS w.heap.size w' u l ∧ Below w.heap.size w w'
  | .inl q => ∃ v, e = .returned (.tuple #[.slice none 0 0, .agg #[.int .i64 0, .int .i64 0], v]) ∧ IsW w.heap.size w' v q ∧ Below w.heap.size w w'

end Go.Proofs.YtfjbnejmcanamaaGreatDoor
