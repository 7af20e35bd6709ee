/-
  Texts of this claim, one behind the other: what each is about stands ahead of it.
-/
import Derived.Test.YtapachlhdgehjaaGreatDoorK37
import Derived.Laws.Tables
import Derived.Laws.Rows
/-
  Contracts of package vector's reader: line.
-/
namespace Go.Proofs.YtapachlhdgehjaaGreatDoor
open Go.RowKit

theorem bgB_len {s : ByteArray} {p : Nat} {x : List UInt8} (h : bgB s p x = true) : p + x.length ≤ s.size ∨ x = [] := by
  unfold bgB Lib.hasPrefix at h
  have h1 := (List.isPrefixOf_iff_prefix.1 h).length_le
  have h2 : (rsL s p).length = s.size - p := by unfold rsL; simp
  rcases x with _ | ⟨c, t⟩
  · exact .inr rfl
  · left
    rw [h2] at h1
    simp at h1 ⊢
    omega
theorem rsL_len (s : ByteArray) (p : Nat) : (rsL s p).length = s.size - p := by unfold rsL; simp
theorem pcN_le (r : List UInt8) : (pcN r).length ≤ r.length := by unfold pcN; rw [List.length_take]; omega
theorem pcC_le (r : List UInt8) : (pcC r).length ≤ r.length := by unfold pcC; rw [List.length_take]; omega
theorem tdL_le {c : Nat} {r : List UInt8} {st st' : St} {n : Nat} (h : tdL c r st = .inr (st', n)) : n ≤ r.length := by
  have h1 := pcN_le r
  have h2 := pcC_le r
  have h3 := pcE_len r
  have hn : ∀ (f : Int → St) (m : Nat), m ≤ r.length → (match nuL r with | some n => (Sum.inr (f n, m) : Nat ⊕ (St × Nat)) | none => .inl 0) = .inr (st', n) → n ≤ r.length := fun f m hm h => by
    split at h
    · injection h with h; injection h with _ h; omega
    · cases h
  have hc : ∀ (f : Co → St) (m : Nat), m ≤ r.length → (match coL r with | some n => (Sum.inr (f n, m) : Nat ⊕ (St × Nat)) | none => .inl 0) = .inr (st', n) → n ≤ r.length := fun f m hm h => by
    split at h
    · injection h with h; injection h with _ h; omega
    · cases h
  unfold tdL at h
  by_cases c1 : c = 88
  · rw [if_pos c1] at h; exact hn _ _ h1 h
  rw [if_neg c1] at h
  by_cases c1 : c = 89
  · rw [if_pos c1] at h; exact hn _ _ h1 h
  rw [if_neg c1] at h
  by_cases c1 : c = 87
  · rw [if_pos c1] at h; exact hn _ _ h1 h
  rw [if_neg c1] at h
  by_cases c1 : c = 72
  · rw [if_pos c1] at h; exact hn _ _ h1 h
  rw [if_neg c1] at h
  by_cases c1 : c = 67
  · rw [if_pos c1] at h; exact hc _ _ h2 h
  rw [if_neg c1] at h
  by_cases c1 : c = 66
  · rw [if_pos c1] at h; exact hc _ _ h2 h
  rw [if_neg c1] at h
  by_cases c1 : c = 78
  · rw [if_pos c1] at h; exact hn _ _ h1 h
  rw [if_neg c1] at h
  by_cases c1 : c = 84
  · rw [if_pos c1] at h
    split at h
    · injection h with h; injection h with _ h; omega
    · cases h
  · rw [if_neg c1] at h
    injection h with h; injection h with _ h; omega

def lnL : Nat → List UInt8 → ByteArray → Nat → St → Nat ⊕ (St × Nat)
  | 0, _, _, p, st => .inr (st, p)
  | f + 1, form, s, p, st =>
    if bgB s p (form.take (rnO fxB form)) = false then .inl p else
    match form.drop (rnO fxB form) with
    | [] => .inr (st, p + rnO fxB form)
    | c :: rest => match tdL c.toNat (rsL s (p + rnO fxB form)) st with
      | .inl o => .inl (p + rnO fxB form + o)
      | .inr (st', n) => lnL f rest s (p + rnO fxB form + n) st'

def LnQ (b : Nat) (s : ByteArray) (R : Nat ⊕ (St × Nat)) (w : World) (e : Ending) (w' : World) : Prop :=
  match R with
  | .inr (st', q) => e = .returned (.tuple #[(Value.agg #[.int .u8 st'.k, .int .i64 st'.r.x, .int .i64 st'.r.y, .int .i64 st'.r.w, .int .i64 st'.r.h, .int .u8 st'.c.r, .int .u8 st'.c.g, .int .u8 st'.c.b, .int .u8 st'.c.a, .int .u8 st'.b.r, .int .u8 st'.b.g, .int .u8 st'.b.b, .int .u8 st'.b.a, .string st'.t, .int .i64 st'.n]), .nilIface]) ∧ Rd w' b s q ∧ q ≤ s.size ∧ Kp2 b b w w'
  | .inl q => ∃ v, e = .returned (.tuple #[(Value.agg #[.int .u8 zSo.k, .int .i64 zSo.r.x, .int .i64 zSo.r.y, .int .i64 zSo.r.w, .int .i64 zSo.r.h, .int .u8 zSo.c.r, .int .u8 zSo.c.g, .int .u8 zSo.c.b, .int .u8 zSo.c.a, .int .u8 zSo.b.r, .int .u8 zSo.b.g, .int .u8 zSo.b.b, .int .u8 zSo.b.a, .string zSo.t, .int .i64 zSo.n]), v]) ∧ IsW w.heap.size w' v q ∧ Kp2 b b w w'

theorem size_st : (Tryz.prog.info? 55).map (·.size) = some 15 := by kernel_rfl
theorem Kp2.row (w : World) (b g : Nat) (cs : Array Value) : Kp2 b g w (w.setRow g cs) :=
  ⟨rfl, rfl, rfl, by simp [World.setRow], fun k _ _ hk => setRow_other w g k cs hk⟩

end Go.Proofs.YtapachlhdgehjaaGreatDoor

/-
  Contracts of package vector's reader: line, walked.
-/
namespace Go.Proofs.YtapachlhdgehjaaGreatDoor
open Go.RowKit

def szV (v : Value) : Nat := match v with | .string q => q.size | _ => 0

structure LrW (b rb sb : Nat) (s : ByteArray) (R : Nat ⊕ (St × Nat)) (w : World) (fm : ByteArray) (p : Nat) (st : St) (f : Nat) (wr : World) : Prop where
  rd : Rd wr b s p
  sk : Bk wr sb (#[.int .u8 st.k, .int .i64 st.r.x, .int .i64 st.r.y, .int .i64 st.r.w, .int .i64 st.r.h, .int .u8 st.c.r, .int .u8 st.c.g, .int .u8 st.c.b, .int .u8 st.c.a, .int .u8 st.b.r, .int .u8 st.b.g, .int .u8 st.b.b, .int .u8 st.b.a, .string st.t, .int .i64 st.n]) 55
  rs : Bk wr rb (#[.int .u8 zSo.k, .int .i64 zSo.r.x, .int .i64 zSo.r.y, .int .i64 zSo.r.w, .int .i64 zSo.r.h, .int .u8 zSo.c.r, .int .u8 zSo.c.g, .int .u8 zSo.c.b, .int .u8 zSo.c.a, .int .u8 zSo.b.r, .int .u8 zSo.b.g, .int .u8 zSo.b.b, .int .u8 zSo.b.a, .string zSo.t, .int .i64 zSo.n]) 55
  kp : Kp2 b b w wr
  le : p ≤ s.size
  eq : lnL f fm.data.toList s p st = R
  fu : fm.size < f

theorem lnL_bad {f : Nat} {l : List UInt8} {s : ByteArray} {p : Nat} {st : St} (h : bgB s p (l.take (rnO fxB l)) = false) : lnL (f + 1) l s p st = .inl p := by rw [lnL, if_pos h]
theorem lnL_end {f : Nat} {l : List UInt8} {s : ByteArray} {p : Nat} {st : St} (h : bgB s p (l.take (rnO fxB l)) = true) (h2 : l.drop (rnO fxB l) = []) : lnL (f + 1) l s p st = .inr (st, p + rnO fxB l) := by
  rw [lnL, if_neg (by simp [h]), h2]
theorem lnL_go {f : Nat} {l : List UInt8} {s : ByteArray} {p : Nat} {st : St} {c : UInt8} {t : List UInt8} (h : bgB s p (l.take (rnO fxB l)) = true) (h2 : l.drop (rnO fxB l) = c :: t) : lnL (f + 1) l s p st = (match tdL c.toNat (rsL s (p + rnO fxB l)) st with
      | .inl o => .inl (p + rnO fxB l + o)
      | .inr (st', n) => lnL f t s (p + rnO fxB l + n) st') := by
  rw [lnL, if_neg (by simp [h]), h2]
  first | done | rfl

theorem lnq_some {b : Nat} {s : ByteArray} {R : Nat ⊕ (St × Nat)} {w w' : World} {e : Ending} {st : St} {q : Nat} (hR : R = .inr (st, q)) (he : e = .returned (.tuple #[(Value.agg #[.int .u8 st.k, .int .i64 st.r.x, .int .i64 st.r.y, .int .i64 st.r.w, .int .i64 st.r.h, .int .u8 st.c.r, .int .u8 st.c.g, .int .u8 st.c.b, .int .u8 st.c.a, .int .u8 st.b.r, .int .u8 st.b.g, .int .u8 st.b.b, .int .u8 st.b.a, .string st.t, .int .i64 st.n]), .nilIface])) (h : Rd w' b s q ∧ q ≤ s.size ∧ Kp2 b b w w') : LnQ b s R w e w' := by
  subst hR
  exact ⟨he, h⟩
theorem lnq_none {b : Nat} {s : ByteArray} {R : Nat ⊕ (St × Nat)} {w w' : World} {e : Ending} {q : Nat} {v : Value} (hR : R = .inl q) (he : e = .returned (.tuple #[(Value.agg #[.int .u8 zSo.k, .int .i64 zSo.r.x, .int .i64 zSo.r.y, .int .i64 zSo.r.w, .int .i64 zSo.r.h, .int .u8 zSo.c.r, .int .u8 zSo.c.g, .int .u8 zSo.c.b, .int .u8 zSo.c.a, .int .u8 zSo.b.r, .int .u8 zSo.b.g, .int .u8 zSo.b.b, .int .u8 zSo.b.a, .string zSo.t, .int .i64 zSo.n]), v])) (h : IsW w.heap.size w' v q ∧ Kp2 b b w w') : LnQ b s R w e w' := by
  subst hR
  exact ⟨v, he, h⟩

set_option maxRecDepth 10000 in
set_option maxHeartbeats 16000000 in
theorem lineR_any (B b : Nat) (s : ByteArray) (p : Nat) (form : ByteArray) (w : World) (h : Rd w b s p) (hp : p ≤ s.size) (hs : s.size ≤ 100000) (hE : EnR B w) (hB : B ≤ b) (hf : form.size ≤ 1000) :
    Calls Tryz.prog 67 #[.pointer (some ⟨b, 0, none⟩), .string form] w fun e w' => LnQ b s (lnL (form.size + 1) form.data.toList s p zSo) w e w' := by
  obtain ⟨R, hR⟩ : ∃ R, R = lnL (form.size + 1) form.data.toList s p zSo := ⟨_, rfl⟩
  rw [← hR]
  have hbl := Bk.lt h
  obtain ⟨rb, hrb⟩ : ∃ rb, rb = w.heap.size := ⟨_, rfl⟩
  obtain ⟨sb, hsb⟩ : ∃ sb, sb = w.heap.size + 1 := ⟨_, rfl⟩
  have HW : Hid (EnR B w ∧ B ≤ b ∧ b < w.heap.size ∧ rb = w.heap.size ∧ sb = w.heap.size + 1) := ⟨hE, hB, hbl, hrb, hsb⟩
  have H0 : Hid (LrW b rb sb s R w form p zSo (form.size + 1) ((w.alloc (.cells (#[.int .u8 zSo.k, .int .i64 zSo.r.x, .int .i64 zSo.r.y, .int .i64 zSo.r.w, .int .i64 zSo.r.h, .int .u8 zSo.c.r, .int .u8 zSo.c.g, .int .u8 zSo.c.b, .int .u8 zSo.c.a, .int .u8 zSo.b.r, .int .u8 zSo.b.g, .int .u8 zSo.b.b, .int .u8 zSo.b.a, .string zSo.t, .int .i64 zSo.n]) 55)).alloc (.cells (#[.int .u8 zSo.k, .int .i64 zSo.r.x, .int .i64 zSo.r.y, .int .i64 zSo.r.w, .int .i64 zSo.r.h, .int .u8 zSo.c.r, .int .u8 zSo.c.g, .int .u8 zSo.c.b, .int .u8 zSo.c.a, .int .u8 zSo.b.r, .int .u8 zSo.b.g, .int .u8 zSo.b.b, .int .u8 zSo.b.a, .string zSo.t, .int .i64 zSo.n]) 55))) := by
    have b1 : Below w.heap.size w (w.alloc (.cells (#[.int .u8 zSo.k, .int .i64 zSo.r.x, .int .i64 zSo.r.y, .int .i64 zSo.r.w, .int .i64 zSo.r.h, .int .u8 zSo.c.r, .int .u8 zSo.c.g, .int .u8 zSo.c.b, .int .u8 zSo.c.a, .int .u8 zSo.b.r, .int .u8 zSo.b.g, .int .u8 zSo.b.b, .int .u8 zSo.b.a, .string zSo.t, .int .i64 zSo.n]) 55)) := (Below.refl _ w).alloc (Nat.le_refl _) _
    have b2 : Below (w.alloc (.cells (#[.int .u8 zSo.k, .int .i64 zSo.r.x, .int .i64 zSo.r.y, .int .i64 zSo.r.w, .int .i64 zSo.r.h, .int .u8 zSo.c.r, .int .u8 zSo.c.g, .int .u8 zSo.c.b, .int .u8 zSo.c.a, .int .u8 zSo.b.r, .int .u8 zSo.b.g, .int .u8 zSo.b.b, .int .u8 zSo.b.a, .string zSo.t, .int .i64 zSo.n]) 55)).heap.size (w.alloc (.cells (#[.int .u8 zSo.k, .int .i64 zSo.r.x, .int .i64 zSo.r.y, .int .i64 zSo.r.w, .int .i64 zSo.r.h, .int .u8 zSo.c.r, .int .u8 zSo.c.g, .int .u8 zSo.c.b, .int .u8 zSo.c.a, .int .u8 zSo.b.r, .int .u8 zSo.b.g, .int .u8 zSo.b.b, .int .u8 zSo.b.a, .string zSo.t, .int .i64 zSo.n]) 55)) ((w.alloc (.cells (#[.int .u8 zSo.k, .int .i64 zSo.r.x, .int .i64 zSo.r.y, .int .i64 zSo.r.w, .int .i64 zSo.r.h, .int .u8 zSo.c.r, .int .u8 zSo.c.g, .int .u8 zSo.c.b, .int .u8 zSo.c.a, .int .u8 zSo.b.r, .int .u8 zSo.b.g, .int .u8 zSo.b.b, .int .u8 zSo.b.a, .string zSo.t, .int .i64 zSo.n]) 55)).alloc (.cells (#[.int .u8 zSo.k, .int .i64 zSo.r.x, .int .i64 zSo.r.y, .int .i64 zSo.r.w, .int .i64 zSo.r.h, .int .u8 zSo.c.r, .int .u8 zSo.c.g, .int .u8 zSo.c.b, .int .u8 zSo.c.a, .int .u8 zSo.b.r, .int .u8 zSo.b.g, .int .u8 zSo.b.b, .int .u8 zSo.b.a, .string zSo.t, .int .i64 zSo.n]) 55)) := (Below.refl _ _).alloc (Nat.le_refl _) _
    have e : (w.alloc (.cells (#[.int .u8 zSo.k, .int .i64 zSo.r.x, .int .i64 zSo.r.y, .int .i64 zSo.r.w, .int .i64 zSo.r.h, .int .u8 zSo.c.r, .int .u8 zSo.c.g, .int .u8 zSo.c.b, .int .u8 zSo.c.a, .int .u8 zSo.b.r, .int .u8 zSo.b.g, .int .u8 zSo.b.b, .int .u8 zSo.b.a, .string zSo.t, .int .i64 zSo.n]) 55)).heap.size = w.heap.size + 1 := by simp
    refine ⟨(h.below b1).below b2, ?_, ?_, Kp2.of_below (b1.trans (b2.mono b1.size)), hp, hR.symm, Nat.lt_succ_self _⟩
    · rw [hsb, ← e]; exact Bk.new _ _ _
    · rw [hrb]; exact (Bk.new w _ _).below b2
  have hn1 : ¬ rb = b := by omega
  have hn2 : ¬ b = rb := by omega
  have hn3 : ¬ sb = b := by omega
  have hn4 : ¬ b = sb := by omega
  have hn5 : ¬ sb = rb := by omega
  have hn6 : ¬ rb = sb := by omega
  clear h hp hE hB hbl hR
  go_enter Tryz.func67, Tryz.ntmps67
  go_wp2_with fail
  rw [← hsb, ← hrb]
  clear hsb hrb
  go_loopw [1] (fun fv wr => ∃ (fm : ByteArray) (p : Nat) (st : St) (f : Nat), fv = .string fm ∧ fm.size ≤ 1000 ∧ Hid (LrW b rb sb s R w fm p st f wr)) (fun fv _ => szV fv)
  case atStart => exact ⟨form, p, zSo, _, rfl, hf, H0⟩
  case round =>
    obtain ⟨fm, p, st, f, rfl, hfm, HR⟩ := hrel
    clear H0
    obtain ⟨f, rfl⟩ : ∃ f', f = f' + 1 := by
      have := HR.out.fu
      cases f with
      | zero => omega
      | succ f => exact ⟨f, rfl⟩
    obtain ⟨k, hk⟩ : ∃ k, k = rnO fxB fm.data.toList := ⟨_, rfl⟩
    have hkz : k ≤ fm.size := by
      have := rnO_le fxB fm.data.toList
      rw [← hk] at this
      simpa using this
    have hkz' : (k : Int) ≤ fm.size := by omega
    have HFx : Hid (∀ W, Calls Tryz.prog 102 #[.string fm] W fun e w' => e = .returned (.int .i64 k) ∧ w' = W) := fun W => by rw [hk]; exact fixed_any fm W (by omega)
    obtain ⟨FX, hFX⟩ : ∃ FX, FX = fm.extract 0 k := ⟨_, rfl⟩
    have hFl : FX.data.toList = fm.data.toList.take k := by rw [hFX, ext_take]
    have hFz : FX.size = k := by rw [hFX]; simp; omega
    have HBg : Hid (Calls Tryz.prog 68 #[.pointer (some ⟨b, 0, none⟩), .string FX] wr fun e w' => e = .returned (.bool (bgB s p (fm.data.toList.take k))) ∧ Below wr.heap.size wr w') := by rw [← hFl]; exact begins_any b s p FX wr HR.out.rd HR.out.le
    have HFX := show Hid _ from hFX
    have HFz := show Hid _ from hFz
    have Hk := show Hid _ from hk
    clear hFX hFl hFz hk
    cases hbg : bgB s p (fm.data.toList.take k) with
    | false =>
      rw [hbg] at HBg
      have HRR : Hid (R = .inl p) := by rw [← HR.out.eq]; exact lnL_bad (by rw [← Hk.out]; exact hbg)
      clear hbg
      go_wp2_with fail
      refine (HFx.out _).mono ?_
      rintro e w' ⟨rfl, hw⟩
      obtain rfl := hw.symm
      go_wp2_with fail
      rw [← HFX.out]
      refine HBg.out.mono ?_
      rintro e w1 ⟨rfl, hb1⟩
      have HQ : Hid (Rd w1 b s p ∧ Bk w1 rb (#[.int .u8 zSo.k, .int .i64 zSo.r.x, .int .i64 zSo.r.y, .int .i64 zSo.r.w, .int .i64 zSo.r.h, .int .u8 zSo.c.r, .int .u8 zSo.c.g, .int .u8 zSo.c.b, .int .u8 zSo.c.a, .int .u8 zSo.b.r, .int .u8 zSo.b.g, .int .u8 zSo.b.b, .int .u8 zSo.b.a, .string zSo.t, .int .i64 zSo.n]) 55 ∧ Kp2 b b w w1 ∧ p ≤ s.size) := ⟨HR.out.rd.below hb1, HR.out.rs.below hb1, HR.out.kp.trans (Kp2.of_below hb1), HR.out.le⟩
      clear hb1 HR HBg HFx
      go_wp2_with fail
      refine (refuse_any b s p 0 FX _ HQ.out.1 (by have := HQ.out.2.2.2; omega) (by decide)).mono ?_
      rintro e w2 ⟨v2, rfl, hv2, hb2⟩
      have HQ2 : Hid (IsW w1.heap.size w2 v2 p ∧ Bk w2 rb (#[.int .u8 zSo.k, .int .i64 zSo.r.x, .int .i64 zSo.r.y, .int .i64 zSo.r.w, .int .i64 zSo.r.h, .int .u8 zSo.c.r, .int .u8 zSo.c.g, .int .u8 zSo.c.b, .int .u8 zSo.c.a, .int .u8 zSo.b.r, .int .u8 zSo.b.g, .int .u8 zSo.b.b, .int .u8 zSo.b.a, .string zSo.t, .int .i64 zSo.n]) 55 ∧ Kp2 b b w w2 ∧ rb < w1.heap.size ∧ w.heap.size ≤ w1.heap.size ∧ b < w1.heap.size) := ⟨by rw [Nat.add_zero] at hv2; exact hv2, HQ.out.2.1.below hb2, HQ.out.2.2.1.trans (Kp2.of_below hb2), HQ.out.2.1.lt, HQ.out.2.2.1.size, Bk.lt HQ.out.1⟩
      clear hv2 hb2 HQ
      go_wp2_with (refine wpList_store_row rfl 55 (.tmp 4) (.tmp 17) rfl rb #[.int .u8 0, .int .i64 0, .int .i64 0, .int .i64 0, .int .i64 0, .int .u8 0, .int .u8 0, .int .u8 0, .int .u8 0, .int .u8 0, .int .u8 0, .int .u8 0, .int .u8 0, .string ⟨#[]⟩, .int .i64 0] rfl rfl 55 _ HQ2.out.2.1 size_st rfl (by simp [Value.oneCell']) ?_)
      obtain ⟨W3, hW3⟩ : ∃ W3, W3 = w2.setRow rb #[.int .u8 0, .int .i64 0, .int .i64 0, .int .i64 0, .int .i64 0, .int .u8 0, .int .u8 0, .int .u8 0, .int .u8 0, .int .u8 0, .int .u8 0, .int .u8 0, .int .u8 0, .string ⟨#[]⟩, .int .i64 0] := ⟨_, rfl⟩
      rw [← hW3]
      have hB3 : Bk W3 rb #[.int .u8 0, .int .i64 0, .int .i64 0, .int .i64 0, .int .i64 0, .int .u8 0, .int .u8 0, .int .u8 0, .int .u8 0, .int .u8 0, .int .u8 0, .int .u8 0, .int .u8 0, .string ⟨#[]⟩, .int .i64 0] 55 := by rw [hW3]; exact setRow_heap _ _ _ _ _ _ HQ2.out.2.1
      have hld : (loadVar 55 ⟨rb, 0, none⟩).run Tryz.prog W3 = .ok (.agg #[.int .u8 0, .int .i64 0, .int .i64 0, .int .i64 0, .int .i64 0, .int .u8 0, .int .u8 0, .int .u8 0, .int .u8 0, .int .u8 0, .int .u8 0, .int .u8 0, .int .u8 0, .string ⟨#[]⟩, .int .i64 0]) W3 := run_loadVar_row W3 rb 55 55 #[.int .u8 0, .int .i64 0, .int .i64 0, .int .i64 0, .int .i64 0, .int .u8 0, .int .u8 0, .int .u8 0, .int .u8 0, .int .u8 0, .int .u8 0, .int .u8 0, .int .u8 0, .string ⟨#[]⟩, .int .i64 0] (0, 0) _ hB3 Tryz.underlying55 rfl size_st
      have hK3 : Kp2 b rb w2 W3 := by rw [hW3]; exact Kp2.row _ _ _ _
      have hK4 : Kp2 rb rb w2 W3 := by rw [hW3]; exact Kp2.row _ _ _ _
      refine bodyPost_ret (v := .tuple #[.agg #[.int .u8 0, .int .i64 0, .int .i64 0, .int .i64 0, .int .i64 0, .int .u8 0, .int .u8 0, .int .u8 0, .int .u8 0, .int .u8 0, .int .u8 0, .int .u8 0, .int .u8 0, .string ⟨#[]⟩, .int .i64 0], v2]) ?_ rfl (lnq_none HRR.out rfl ⟨(HQ2.out.1.keep hK3 HQ2.out.2.2.2.2.2 HQ2.out.2.2.2.1).weaken HQ2.out.2.2.2.2.1, HQ2.out.2.2.1.fresh hK3 (by have := HW.out; omega)⟩)
      simp [results, Tryz.results67, asAddr, hld]
    | true =>
      rw [hbg] at HBg
      have HBt := show Hid _ from hbg
      have hpk : p + k ≤ s.size := by
        have e : (fm.data.toList.take k).length = k := by rw [List.length_take]; simp; omega
        rcases bgB_len hbg with h | h
        · rw [e] at h; exact h
        · rw [h] at e; simp at e; have := HR.out.le; omega
      clear hbg
      obtain ⟨FR, hFR⟩ : ∃ FR, FR = fm.extract FX.size fm.size := ⟨_, rfl⟩
      have hFrl : FR.data.toList = fm.data.toList.drop k := by rw [hFR, ext_drop, HFz.out]
      have hFrz : FR.size = fm.size - k := by rw [hFR]; simp [HFz.out]
      have HFR := show Hid _ from hFR
      have HFrl : Hid (FR.data.toList = fm.data.toList.drop k ∧ FR.size = fm.size - k) := ⟨hFrl, hFrz⟩
      go_wp2_with fail
      refine (HFx.out _).mono ?_
      rintro e w' ⟨rfl, hw⟩
      obtain rfl := hw.symm
      go_wp2_with fail
      rw [← HFX.out]
      refine HBg.out.mono ?_
      rintro e w1 ⟨rfl, hb1⟩
      have HQ : Hid (Rd w1 b s p ∧ Bk w1 rb (#[.int .u8 zSo.k, .int .i64 zSo.r.x, .int .i64 zSo.r.y, .int .i64 zSo.r.w, .int .i64 zSo.r.h, .int .u8 zSo.c.r, .int .u8 zSo.c.g, .int .u8 zSo.c.b, .int .u8 zSo.c.a, .int .u8 zSo.b.r, .int .u8 zSo.b.g, .int .u8 zSo.b.b, .int .u8 zSo.b.a, .string zSo.t, .int .i64 zSo.n]) 55 ∧ Kp2 b b w w1 ∧ Bk w1 sb (#[.int .u8 st.k, .int .i64 st.r.x, .int .i64 st.r.y, .int .i64 st.r.w, .int .i64 st.r.h, .int .u8 st.c.r, .int .u8 st.c.g, .int .u8 st.c.b, .int .u8 st.c.a, .int .u8 st.b.r, .int .u8 st.b.g, .int .u8 st.b.b, .int .u8 st.b.a, .string st.t, .int .i64 st.n]) 55) := ⟨HR.out.rd.below hb1, HR.out.rs.below hb1, HR.out.kp.trans (Kp2.of_below hb1), HR.out.sk.below hb1⟩
      clear hb1 HBg HFx
      obtain ⟨d0, d1, d2⟩ := rd_cells HQ.out.1
      have hpz : (p : Int) ≤ 100000 := by omega
      have hfz : (FX.size : Int) ≤ 1000 := by have := HFz.out; omega
      have hfz2 : (FX.size : Int) ≤ fm.size := by have := HFz.out; omega
      have HQ2 : Hid (∀ W, W = (w1.setCell ⟨b, 1, none⟩ (.int .i64 ((p : Int) + FX.size))) → Rd W b s (p + k) ∧ Bk W rb (#[.int .u8 zSo.k, .int .i64 zSo.r.x, .int .i64 zSo.r.y, .int .i64 zSo.r.w, .int .i64 zSo.r.h, .int .u8 zSo.c.r, .int .u8 zSo.c.g, .int .u8 zSo.c.b, .int .u8 zSo.c.a, .int .u8 zSo.b.r, .int .u8 zSo.b.g, .int .u8 zSo.b.b, .int .u8 zSo.b.a, .string zSo.t, .int .i64 zSo.n]) 55 ∧ Kp2 b b w W ∧ Bk W sb (#[.int .u8 st.k, .int .i64 st.r.x, .int .i64 st.r.y, .int .i64 st.r.w, .int .i64 st.r.h, .int .u8 st.c.r, .int .u8 st.c.g, .int .u8 st.c.b, .int .u8 st.c.a, .int .u8 st.b.r, .int .u8 st.b.g, .int .u8 st.b.b, .int .u8 st.b.a, .string st.t, .int .i64 st.n]) 55) := fun W hW => by
        subst hW
        obtain ⟨q1, q2, q3, q4⟩ := HQ.out
        refine ⟨?_, Bk.other q2 ⟨b, 1, none⟩ _ hn2, q3.trans (Kp2.put _ _ _ _ _), Bk.other q4 ⟨b, 1, none⟩ _ hn4⟩
        have := q1.put (q := p + k)
        rw [show (p : Int) + FX.size = ((p + k : Nat) : Int) by have := HFz.out; omega]
        exact this
      by_cases hem : FR.size = 0
      · have hemp : FR = ⟨#[]⟩ := by apply ByteArray.ext; exact Array.size_eq_zero_iff.1 hem
        have hie : (fm.extract FX.size fm.size).toList.isEmpty = true := by rw [← hFR, hemp, ztx_list]; rfl
        have HRR : Hid (R = .inr (st, p + k)) := by
          rw [← HR.out.eq]
          have q := lnL_end (f := f) (s := s) (p := p) (st := st) (l := fm.data.toList) (by rw [← Hk.out]; exact HBt.out) (by rw [← Hk.out, ← hFrl, hemp])
          rw [← Hk.out] at q
          exact q
        obtain ⟨x0, x1, x2, x3, x4, x5, x6, x7, x8, x9, x10, x11, x12, x13, x14⟩ := bk15 HQ.out.2.2.2
        simp only [Nat.zero_add] at x1 x2 x3 x4 x5 x6 x7 x8 x9 x10 x11 x12 x13 x14
        clear hFR hFrl hFrz HR hem hemp
        go_wp2_with (refine wpList_store_row rfl 55 (.tmp 4) (.tmp 36) rfl rb (#[.int .u8 st.k, .int .i64 st.r.x, .int .i64 st.r.y, .int .i64 st.r.w, .int .i64 st.r.h, .int .u8 st.c.r, .int .u8 st.c.g, .int .u8 st.c.b, .int .u8 st.c.a, .int .u8 st.b.r, .int .u8 st.b.g, .int .u8 st.b.b, .int .u8 st.b.a, .string st.t, .int .i64 st.n]) rfl rfl 55 _ (HQ2.out _ rfl).2.1 size_st rfl (by simp [Value.oneCell']) ?_)
        obtain ⟨W3, hW3⟩ : ∃ W3, W3 = (w1.setCell ⟨b, 1, none⟩ (.int .i64 ((p : Int) + FX.size))).setRow rb (#[.int .u8 st.k, .int .i64 st.r.x, .int .i64 st.r.y, .int .i64 st.r.w, .int .i64 st.r.h, .int .u8 st.c.r, .int .u8 st.c.g, .int .u8 st.c.b, .int .u8 st.c.a, .int .u8 st.b.r, .int .u8 st.b.g, .int .u8 st.b.b, .int .u8 st.b.a, .string st.t, .int .i64 st.n]) := ⟨_, rfl⟩
        rw [← hW3]
        have hB3 : Bk W3 rb (#[.int .u8 st.k, .int .i64 st.r.x, .int .i64 st.r.y, .int .i64 st.r.w, .int .i64 st.r.h, .int .u8 st.c.r, .int .u8 st.c.g, .int .u8 st.c.b, .int .u8 st.c.a, .int .u8 st.b.r, .int .u8 st.b.g, .int .u8 st.b.b, .int .u8 st.b.a, .string st.t, .int .i64 st.n]) 55 := by rw [hW3]; exact setRow_heap _ _ _ _ _ _ (HQ2.out _ rfl).2.1
        have hld : (loadVar 55 ⟨rb, 0, none⟩).run Tryz.prog W3 = .ok (.agg (#[.int .u8 st.k, .int .i64 st.r.x, .int .i64 st.r.y, .int .i64 st.r.w, .int .i64 st.r.h, .int .u8 st.c.r, .int .u8 st.c.g, .int .u8 st.c.b, .int .u8 st.c.a, .int .u8 st.b.r, .int .u8 st.b.g, .int .u8 st.b.b, .int .u8 st.b.a, .string st.t, .int .i64 st.n])) W3 := run_loadVar_row W3 rb 55 55 (#[.int .u8 st.k, .int .i64 st.r.x, .int .i64 st.r.y, .int .i64 st.r.w, .int .i64 st.r.h, .int .u8 st.c.r, .int .u8 st.c.g, .int .u8 st.c.b, .int .u8 st.c.a, .int .u8 st.b.r, .int .u8 st.b.g, .int .u8 st.b.b, .int .u8 st.b.a, .string st.t, .int .i64 st.n]) (0, 0) _ hB3 Tryz.underlying55 rfl size_st
        have hK3 : Kp2 b rb (w1.setCell ⟨b, 1, none⟩ (.int .i64 ((p : Int) + FX.size))) W3 := by rw [hW3]; exact Kp2.row _ _ _ _
        have hK4 : Kp2 rb rb (w1.setCell ⟨b, 1, none⟩ (.int .i64 ((p : Int) + FX.size))) W3 := by rw [hW3]; exact Kp2.row _ _ _ _
        refine bodyPost_ret (v := .tuple #[.agg (#[.int .u8 st.k, .int .i64 st.r.x, .int .i64 st.r.y, .int .i64 st.r.w, .int .i64 st.r.h, .int .u8 st.c.r, .int .u8 st.c.g, .int .u8 st.c.b, .int .u8 st.c.a, .int .u8 st.b.r, .int .u8 st.b.g, .int .u8 st.b.b, .int .u8 st.b.a, .string st.t, .int .i64 st.n]), .nilIface]) ?_ rfl (lnq_some HRR.out rfl ⟨Kp2.bk hK4 (HQ2.out _ rfl).1 hn2 hn2, hpk, (HQ2.out _ rfl).2.2.1.fresh hK3 (by have := HW.out; omega)⟩)
        simp [results, Tryz.results67, asAddr, hld]
      · have hie : (fm.extract FX.size fm.size).toList.isEmpty = false := by
          rw [← hFR, ztx_list]
          cases hl : FR.data.toList with
          | nil => exact absurd (by have : FR.data.toList.length = FR.size := by simp
                                    rw [hl] at this; simpa using this.symm) hem
          | cons _ _ => rfl
        have h0 : 0 < FR.size := by omega
        have h0' : FX.size < fm.size := by have := HFz.out; omega
        have h0'' : (FX.size : Int) < fm.size := by omega
        have hcons : FR.data.toList = FR[0] :: FR.data.toList.drop 1 := by
          cases hl : FR.data.toList with
          | nil => exact absurd (by have : FR.data.toList.length = FR.size := by simp
                                    rw [hl] at this; simpa using this.symm) hem
          | cons c t =>
            have e : FR[0] = c := by
              show FR.data[0] = c
              have e2 := List.getElem_of_eq hl (i := 0) (by rw [hl]; simp)
              simpa using e2
            rw [e]
            rfl
        have HGo : Hid (R = (match tdL (FR[0]).toNat (rsL s (p + k)) st with
            | .inl o => .inl (p + k + o)
            | .inr (st', n) => lnL f (FR.data.toList.drop 1) s (p + k + n) st')) := by
          rw [← HR.out.eq]
          have q := lnL_go (f := f) (s := s) (p := p) (st := st) (l := fm.data.toList) (c := FR[0]) (t := FR.data.toList.drop 1) (by rw [← Hk.out]; exact HBt.out) (by rw [← Hk.out, ← hFrl]; exact hcons)
          rw [← Hk.out] at q
          exact q
        have HSz : Hid (FR.size < f + 1 ∧ fm.size < f + 1 ∧ 0 < FR.size ∧ FR.size ≤ fm.size) := ⟨by have := HR.out.fu; omega, HR.out.fu, h0, by omega⟩
        have HBl : Hid (b < w1.heap.size ∧ rb < w1.heap.size ∧ w.heap.size ≤ w1.heap.size) := ⟨Bk.lt HQ.out.1, HQ.out.2.1.lt, HQ.out.2.2.1.size⟩
        have hpf : 0 < (fm.extract FX.size fm.size).size := by rw [← hFR]; exact h0
        have hcx : FR[0] = (fm.extract FX.size fm.size)[0]'hpf := by simp only [hFR]
        clear hFrl hFrz hcons HR hem
        go_wp2_with fail
        refine (toldR_any B b sb (((fm.extract FX.size fm.size)[0]'hpf).toNat) s (p + k) st _ (HQ2.out _ rfl).1 hpk hs (HW.out.1.on ((HQ2.out _ rfl).2.2.1.below (by have := HW.out; omega) HW.out.2.1 HW.out.2.1)) HW.out.2.1 (HQ2.out _ rfl).2.2.2 hn3 (UInt8.toNat_lt _)).mono ?_
        rw [hcx] at HGo
        obtain ⟨T, hT⟩ : ∃ T, T = tdL (((fm.extract FX.size fm.size)[0]'hpf).toNat) (rsL s (p + k)) st := ⟨_, rfl⟩
        have HT := show Hid _ from hT
        rw [← hT] at HGo ⊢
        clear hcx hT
        obtain ⟨W1, hW1⟩ : ∃ W1, W1 = (w1.setCell ⟨b, 1, none⟩ (.int .i64 ((p : Int) + FX.size))) := ⟨_, rfl⟩
        have HQ3 := HQ2.out W1 hW1
        have hWz : W1.heap.size = w1.heap.size := by rw [hW1]; simp
        have HQ4 : Hid ((Rd W1 b s (p + k) ∧ Bk W1 rb (#[.int .u8 zSo.k, .int .i64 zSo.r.x, .int .i64 zSo.r.y, .int .i64 zSo.r.w, .int .i64 zSo.r.h, .int .u8 zSo.c.r, .int .u8 zSo.c.g, .int .u8 zSo.c.b, .int .u8 zSo.c.a, .int .u8 zSo.b.r, .int .u8 zSo.b.g, .int .u8 zSo.b.b, .int .u8 zSo.b.a, .string zSo.t, .int .i64 zSo.n]) 55 ∧ Kp2 b b w W1 ∧ Bk W1 sb (#[.int .u8 st.k, .int .i64 st.r.x, .int .i64 st.r.y, .int .i64 st.r.w, .int .i64 st.r.h, .int .u8 st.c.r, .int .u8 st.c.g, .int .u8 st.c.b, .int .u8 st.c.a, .int .u8 st.b.r, .int .u8 st.b.g, .int .u8 st.b.b, .int .u8 st.b.a, .string st.t, .int .i64 st.n]) 55) ∧ W1.heap.size = w1.heap.size) := ⟨HQ3, hWz⟩
        rw [← hW1]
        clear hW1 HQ2 HQ3 hWz HQ hFR
        intro e w2 hq
        cases T with
        | inl o =>
          obtain ⟨v, st', rfl, hv, hr2, hs2, hk2⟩ := hq
          obtain ⟨gi, hgi⟩ := isw_iface hv
          have HRR : Hid (R = .inl (p + k + o)) := HGo.out
          have HQ5 : Hid (IsW W1.heap.size w2 v (p + k + o) ∧ Bk w2 rb (#[.int .u8 zSo.k, .int .i64 zSo.r.x, .int .i64 zSo.r.y, .int .i64 zSo.r.w, .int .i64 zSo.r.h, .int .u8 zSo.c.r, .int .u8 zSo.c.g, .int .u8 zSo.c.b, .int .u8 zSo.c.a, .int .u8 zSo.b.r, .int .u8 zSo.b.g, .int .u8 zSo.b.b, .int .u8 zSo.b.a, .string zSo.t, .int .i64 zSo.n]) 55 ∧ Kp2 b b w w2 ∧ b < W1.heap.size ∧ rb < W1.heap.size ∧ w.heap.size ≤ W1.heap.size) := by
            have a1 := HBl.out
            have a2 := HQ4.out.2
            have a3 := HW.out
            exact ⟨hv, Kp2.bk hk2 HQ4.out.1.2.1 hn1 hn6, HQ4.out.1.2.2.1.fresh hk2 (by omega), by omega, by omega, by omega⟩
          clear hv hr2 hs2 hk2 HQ4 HGo HT
          subst hgi
          go_wp2_with (refine wpList_store_row rfl 55 (.tmp 4) (.tmp 43) rfl rb #[.int .u8 0, .int .i64 0, .int .i64 0, .int .i64 0, .int .i64 0, .int .u8 0, .int .u8 0, .int .u8 0, .int .u8 0, .int .u8 0, .int .u8 0, .int .u8 0, .int .u8 0, .string ⟨#[]⟩, .int .i64 0] rfl rfl 55 _ HQ5.out.2.1 size_st rfl (by simp [Value.oneCell']) ?_)
          obtain ⟨W3, hW3⟩ : ∃ W3, W3 = w2.setRow rb #[.int .u8 0, .int .i64 0, .int .i64 0, .int .i64 0, .int .i64 0, .int .u8 0, .int .u8 0, .int .u8 0, .int .u8 0, .int .u8 0, .int .u8 0, .int .u8 0, .int .u8 0, .string ⟨#[]⟩, .int .i64 0] := ⟨_, rfl⟩
          rw [← hW3]
          have hB3 : Bk W3 rb #[.int .u8 0, .int .i64 0, .int .i64 0, .int .i64 0, .int .i64 0, .int .u8 0, .int .u8 0, .int .u8 0, .int .u8 0, .int .u8 0, .int .u8 0, .int .u8 0, .int .u8 0, .string ⟨#[]⟩, .int .i64 0] 55 := by rw [hW3]; exact setRow_heap _ _ _ _ _ _ HQ5.out.2.1
          have hld : (loadVar 55 ⟨rb, 0, none⟩).run Tryz.prog W3 = .ok (.agg #[.int .u8 0, .int .i64 0, .int .i64 0, .int .i64 0, .int .i64 0, .int .u8 0, .int .u8 0, .int .u8 0, .int .u8 0, .int .u8 0, .int .u8 0, .int .u8 0, .int .u8 0, .string ⟨#[]⟩, .int .i64 0]) W3 := run_loadVar_row W3 rb 55 55 #[.int .u8 0, .int .i64 0, .int .i64 0, .int .i64 0, .int .i64 0, .int .u8 0, .int .u8 0, .int .u8 0, .int .u8 0, .int .u8 0, .int .u8 0, .int .u8 0, .int .u8 0, .string ⟨#[]⟩, .int .i64 0] (0, 0) _ hB3 Tryz.underlying55 rfl size_st
          have hK3 : Kp2 b rb w2 W3 := by rw [hW3]; exact Kp2.row _ _ _ _
          have hK4 : Kp2 rb rb w2 W3 := by rw [hW3]; exact Kp2.row _ _ _ _
          refine bodyPost_ret (v := .tuple #[.agg #[.int .u8 0, .int .i64 0, .int .i64 0, .int .i64 0, .int .i64 0, .int .u8 0, .int .u8 0, .int .u8 0, .int .u8 0, .int .u8 0, .int .u8 0, .int .u8 0, .int .u8 0, .string ⟨#[]⟩, .int .i64 0], (.iface 163 (.pointer (some ⟨gi, 0, none⟩)))]) ?_ rfl (lnq_none HRR.out rfl ⟨(HQ5.out.1.keep hK3 HQ5.out.2.2.2.1 HQ5.out.2.2.2.2.1).weaken HQ5.out.2.2.2.2.2, HQ5.out.2.2.1.fresh hK3 (by have := HW.out; omega)⟩)
          simp [results, Tryz.results67, asAddr, hld]
        | inr T2 =>
          obtain ⟨st', n⟩ := T2
          obtain ⟨rfl, hr2, hs2, hk2⟩ := hq
          have hnl : p + k + n ≤ s.size := by
            have := tdL_le HT.out.symm
            rw [rsL_len] at this
            omega
          have HQ5 : Hid (Rd w2 b s (p + k + n) ∧ Bk w2 rb (#[.int .u8 zSo.k, .int .i64 zSo.r.x, .int .i64 zSo.r.y, .int .i64 zSo.r.w, .int .i64 zSo.r.h, .int .u8 zSo.c.r, .int .u8 zSo.c.g, .int .u8 zSo.c.b, .int .u8 zSo.c.a, .int .u8 zSo.b.r, .int .u8 zSo.b.g, .int .u8 zSo.b.b, .int .u8 zSo.b.a, .string zSo.t, .int .i64 zSo.n]) 55 ∧ Kp2 b b w w2 ∧ Bk w2 sb (#[.int .u8 st'.k, .int .i64 st'.r.x, .int .i64 st'.r.y, .int .i64 st'.r.w, .int .i64 st'.r.h, .int .u8 st'.c.r, .int .u8 st'.c.g, .int .u8 st'.c.b, .int .u8 st'.c.a, .int .u8 st'.b.r, .int .u8 st'.b.g, .int .u8 st'.b.b, .int .u8 st'.b.a, .string st'.t, .int .i64 st'.n]) 55) := by
            have a1 := HBl.out
            have a3 := HW.out
            exact ⟨hr2, Kp2.bk hk2 HQ4.out.1.2.1 hn1 hn6, HQ4.out.1.2.2.1.fresh hk2 (by omega), hs2⟩
          have HG2 : Hid (R = lnL f (FR.data.toList.drop 1) s (p + k + n) st') := HGo.out
          clear hr2 hs2 hk2 HQ4 HGo HT
          go_wp2
          have efm : (fm.extract FX.size fm.size).extract 1 (fm.size - FX.size) = FR.extract 1 FR.size := by
            rw [← HFR.out]
            congr 1
            rw [HFrl.out.2, HFz.out]
          rw [efm]
          have hFMl : (FR.extract 1 FR.size).data.toList = FR.data.toList.drop 1 := ext_drop FR 1
          have hFMz : (FR.extract 1 FR.size).size = FR.size - 1 := by simp
          have hz := HSz.out
          refine ⟨⟨FR.extract 1 FR.size, p + k + n, st', f, rfl, by omega, ⟨HQ5.out.1, HQ5.out.2.2.2, HQ5.out.2.1, HQ5.out.2.2.1, hnl, by rw [hFMl]; exact HG2.out.symm, by omega⟩⟩, ?_⟩
          show (FR.extract 1 FR.size).size < fm.size
          omega

end Go.Proofs.YtapachlhdgehjaaGreatDoor
