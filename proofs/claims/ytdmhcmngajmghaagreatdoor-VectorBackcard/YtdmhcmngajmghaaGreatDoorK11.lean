/-
  Texts of this claim, one behind the other: what each is about stands ahead of it.
-/
import Derived.Test.YtdmhcmngajmghaaGreatDoorK10
/-
  Contracts of package vector's reader: colour, walked.
-/
namespace Go.Proofs.YtdmhcmngajmghaaGreatDoor
open Go.RowKit

/-- A colour at a text's beginning: the piece, what it is. -/
def pcC (r : List UInt8) : List UInt8 := r.take (rnO clB r)
def coL (r : List UInt8) : Option Co := if parE ⟨(pcC r).toArray⟩ = 0 ∧ txt (parC ⟨(pcC r).toArray⟩) = ⟨(pcC r).toArray⟩ then some (parC ⟨(pcC r).toArray⟩) else none
theorem pcC_len (r : List UInt8) : (pcC r).length = rnO clB r := by
  unfold pcC
  rw [List.length_take]
  have := rnO_le clB r
  omega

/-- What colour answers. -/
def CoQ (b : Nat) (s : ByteArray) (p : Nat) (w : World) (e : Ending) (w' : World) : Prop :=
  match coL (rsL s p) with
  | some c => e = .returned (.tuple #[(Value.agg #[.int .u8 c.r, .int .u8 c.g, .int .u8 c.b, .int .u8 c.a]), .nilIface]) ∧ Rd w' b s (p + (pcC (rsL s p)).length) ∧ Kp2 b b w w'
  | none => ∃ v, e = .returned (.tuple #[.agg #[.int .u8 0, .int .u8 0, .int .u8 0, .int .u8 0], v]) ∧ IsW w.heap.size w' v p ∧ Rd w' b s p ∧ Kp2 b b w w'
theorem coq_some {b : Nat} {s : ByteArray} {p : Nat} {w w' : World} {e : Ending} {c : Co} {r : List UInt8} (hr : r = rsL s p) (h : coL r = some c) (he : e = .returned (.tuple #[(Value.agg #[.int .u8 c.r, .int .u8 c.g, .int .u8 c.b, .int .u8 c.a]), .nilIface])) (h1 : Rd w' b s (p + (pcC r).length)) (h2 : Kp2 b b w w') : CoQ b s p w e w' := by
  subst hr
  unfold CoQ
  rw [h]
  exact ⟨he, h1, h2⟩
theorem coq_none {b : Nat} {s : ByteArray} {p : Nat} {w w' : World} {e : Ending} {v : Value} {r : List UInt8} (hr : r = rsL s p) (h : coL r = none) (he : e = .returned (.tuple #[.agg #[.int .u8 0, .int .u8 0, .int .u8 0, .int .u8 0], v])) (h1 : IsW w.heap.size w' v p ∧ Rd w' b s p ∧ Kp2 b b w w') : CoQ b s p w e w' := by
  subst hr
  unfold CoQ
  rw [h]
  exact ⟨v, he, h1⟩

theorem Bk.at4v {W : World} {b : Nat} {a0 a1 a2 a3 : Value} {t : TypeId} (h : Bk W b #[a0, a1, a2, a3] t) : W.cell? ⟨b, 0, none⟩ = some a0 ∧ W.cell? ⟨b, 1, none⟩ = some a1 ∧ W.cell? ⟨b, 2, none⟩ = some a2 ∧ W.cell? ⟨b, 3, none⟩ = some a3 := ⟨h.cell 0, h.cell 1, h.cell 2, h.cell 3⟩

set_option maxRecDepth 10000 in
set_option maxHeartbeats 8000000 in
theorem colourR_any (b : Nat) (s : ByteArray) (p : Nat) (w : World) (h : Rd w b s p) (hp : p ≤ s.size) (hs : s.size ≤ 100000) :
    Calls Tryz.prog 79 #[.pointer (some ⟨b, 0, none⟩)] w fun e w' => CoQ b s p w e w' := by
  obtain ⟨Q, hQ⟩ : ∃ Q, Q = s.extract p s.size := ⟨_, rfl⟩
  have hQl : Q.data.toList = rsL s p := by rw [hQ]; exact rsL_ext s p
  have hQz : Q.size = s.size - p := by rw [hQ]; simp
  obtain ⟨r, hr⟩ : ∃ r, r = rsL s p := ⟨_, rfl⟩
  have HRr : Hid (r = rsL s p) := hr
  rw [← hr] at hQl
  obtain ⟨d, hd⟩ : ∃ d, d = rnO clB r := ⟨_, rfl⟩
  have HRu : Hid (∀ W, Calls Tryz.prog 76 #[.string Q, .func (.func 99) #[] #[]] W fun e w' => e = .returned (.int .i64 d) ∧ w' = W) := fun W => by
    have := runOf_any 99 clB Q W (by omega) (enters_of Tryz.func99 (by kernel_rfl) rfl) isOfColour_any
    rw [hQl, ← hd] at this
    exact this
  have hdl : d ≤ Q.size := by
    have := rnO_le clB r
    have e : r.length = Q.size := by rw [← hQl]; simp
    omega
  have hdl' : (d : Int) ≤ Q.size := by omega
  have hd0 : (d : Int) ≤ 100000 := by omega
  obtain ⟨PC, hPC⟩ : ∃ PC, PC = Q.extract 0 d := ⟨_, rfl⟩
  have hPl : PC.data.toList = pcC r := by rw [hPC, ext_take, hQl, hd]; rfl
  have hPe : (⟨(pcC r).toArray⟩ : ByteArray) = PC := by apply ByteArray.ext; apply Array.ext'; simpa using hPl.symm
  have hPz : PC.size = (pcC r).length := by
    have : PC.data.toList.length = PC.size := by simp
    rw [← this, hPl]
  have hlen := pcC_len r
  rw [← hd] at hlen
  have HPa : Hid (∀ W, Calls Tryz.prog 100 #[.string PC] W fun e w' => e = .returned (.tuple #[(Value.agg #[.int .u8 (parC PC).r, .int .u8 (parC PC).g, .int .u8 (parC PC).b, .int .u8 (parC PC).a]), .int .i64 (parN PC), .int .i64 (parE PC)]) ∧ Below W.heap.size W w') := fun W => parse_any PC W (by omega)
  have HTx : Hid (∀ W, Calls Tryz.prog 48 #[(Value.agg #[.int .u8 (parC PC).r, .int .u8 (parC PC).g, .int .u8 (parC PC).b, .int .u8 (parC PC).a])] W fun e w' => e = .returned (.string (txt (parC PC))) ∧ Below W.heap.size W w') := fun W => text_any (parC PC) W (parC_ok PC)
  have HCo : Hid (coL r = if parE PC = 0 ∧ txt (parC PC) = PC then some (parC PC) else none) := by unfold Hid coL; rw [hPe]
  have HPC := show Hid _ from hPC
  have Hlen : Hid ((pcC r).length = d ∧ PC.size = d) := ⟨hlen, by omega⟩
  have HE : parE PC = 0 ∨ parE PC = 40 := by unfold parE; split <;> simp
  obtain ⟨C, hC⟩ : ∃ C, C = parC PC := ⟨_, rfl⟩
  obtain ⟨E, hEe⟩ : ∃ E, E = parE PC := ⟨_, rfl⟩
  rw [← hC, ← hEe] at HPa HCo
  rw [← hC] at HTx
  rw [← hEe] at HE
  generalize parN PC = N at HPa
  obtain ⟨rb, hrb⟩ : ∃ rb, rb = w.heap.size := ⟨_, rfl⟩
  have hbl := Bk.lt h
  have hne : ¬ b = rb := by omega
  have hne2 : ¬ rb = b := by omega
  have HB0 : Hid (Below w.heap.size w (w.alloc (.cells #[.int .u8 0, .int .u8 0, .int .u8 0, .int .u8 0] 26)) ∧ Bk (w.alloc (.cells #[.int .u8 0, .int .u8 0, .int .u8 0, .int .u8 0] 26)) rb #[.int .u8 0, .int .u8 0, .int .u8 0, .int .u8 0] 26 ∧ Rd (w.alloc (.cells #[.int .u8 0, .int .u8 0, .int .u8 0, .int .u8 0] 26)) b s p) := by
    have q : Below w.heap.size w (w.alloc (.cells #[.int .u8 0, .int .u8 0, .int .u8 0, .int .u8 0] 26)) := (Below.refl _ w).alloc (Nat.le_refl _) _
    exact ⟨q, by rw [hrb]; exact Bk.new _ _ _, h.below q⟩
  have HRb : Hid (rb = w.heap.size ∧ b < w.heap.size) := ⟨hrb, hbl⟩
  have hp' : (p : Int) ≤ s.size := by omega
  clear hPC hPl hPe hPz hlen hQl hQz hr hd hdl hC hEe h
  go_enter Tryz.func79, Tryz.ntmps79
  go_wp2_with fail
  rw [← hrb]
  clear hrb hbl
  generalize w.alloc (.cells #[.int .u8 0, .int .u8 0, .int .u8 0, .int .u8 0] 26) = W0 at *
  have ne : Nonempty (Gw W0) := ⟨⟨W0, Below.refl _ _⟩⟩
  have c0 := fun t => (gwRd HB0.out.2.2 t).1
  have c1 := fun t => (gwRd HB0.out.2.2 t).2
  refine wp_region_gw (by kernel_rfl) (by kernel_rfl) ?_
  repeat (go_big_quiet_step (fail))
  refine wpQuiet_nil ?_
  rintro _ ⟨t, rfl⟩
  rw [← hQ]
  clear hQ
  have HW1 : Hid (Rd t.wd b s p ∧ Bk t.wd rb #[.int .u8 0, .int .u8 0, .int .u8 0, .int .u8 0] 26 ∧ Below w.heap.size w t.wd) := ⟨HB0.out.2.2.below t.below, HB0.out.2.1.below t.below, HB0.out.1.trans (t.below.mono HB0.out.1.size)⟩
  generalize t.wd = w1 at *
  clear c0 c1 ne HB0
  go_wp2_with fail
  refine (HRu.out _).mono ?_
  rintro e w' ⟨rfl, hw⟩
  obtain rfl := hw.symm
  go_wp2_with fail
  rw [← HPC.out]
  refine (HPa.out _).mono ?_
  rintro e w2 ⟨rfl, hb2⟩
  have HW2 : Hid (Rd w2 b s p ∧ Bk w2 rb #[.int .u8 0, .int .u8 0, .int .u8 0, .int .u8 0] 26 ∧ Below w.heap.size w w2) := ⟨HW1.out.1.below hb2, HW1.out.2.1.below hb2, HW1.out.2.2.trans (hb2.mono HW1.out.2.2.size)⟩
  clear hb2 HW1 HRu HPa
  obtain ⟨cb, hcb⟩ : ∃ cb, cb = w2.heap.size := ⟨_, rfl⟩
  have hcb1 : ¬ cb = b := by have := HW2.out.1.lt; omega
  have hcb2 : ¬ cb = rb := by have := HW2.out.2.1.lt; omega
  have HW3 : Hid (Rd (w2.alloc (.cells #[.int .u8 C.r, .int .u8 C.g, .int .u8 C.b, .int .u8 C.a] 26)) b s p ∧ Bk (w2.alloc (.cells #[.int .u8 C.r, .int .u8 C.g, .int .u8 C.b, .int .u8 C.a] 26)) rb #[.int .u8 0, .int .u8 0, .int .u8 0, .int .u8 0] 26 ∧ Below w.heap.size w (w2.alloc (.cells #[.int .u8 C.r, .int .u8 C.g, .int .u8 C.b, .int .u8 C.a] 26)) ∧ Bk (w2.alloc (.cells #[.int .u8 C.r, .int .u8 C.g, .int .u8 C.b, .int .u8 C.a] 26)) cb #[.int .u8 C.r, .int .u8 C.g, .int .u8 C.b, .int .u8 C.a] 26) := by
    have q : Below w2.heap.size w2 (w2.alloc (.cells #[.int .u8 C.r, .int .u8 C.g, .int .u8 C.b, .int .u8 C.a] 26)) := (Below.refl _ w2).alloc (Nat.le_refl _) _
    exact ⟨HW2.out.1.below q, HW2.out.2.1.below q, HW2.out.2.2.trans (q.mono HW2.out.2.2.size), by rw [hcb]; exact Bk.new _ _ _⟩
  obtain ⟨y0, y1, y2, y3⟩ := HW3.out.2.2.2.at4v
  rcases HE with rfl | rfl
  · by_cases ht : txt C = PC
    · have hco : Hid (coL r = some C) := by unfold Hid; rw [HCo.out, if_pos ⟨rfl, ht⟩]
      subst ht
      go_wp2_with fail
      rw [← hcb]
      clear hcb
      generalize w2.alloc (.cells #[.int .u8 C.r, .int .u8 C.g, .int .u8 C.b, .int .u8 C.a] 26) = w3 at *
      refine (HTx.out _).mono ?_
      rintro e w4 ⟨rfl, hb4⟩
      have HW4 : Hid (Rd w4 b s p ∧ Bk w4 rb #[.int .u8 0, .int .u8 0, .int .u8 0, .int .u8 0] 26 ∧ Below w.heap.size w w4 ∧ Bk w4 cb #[.int .u8 C.r, .int .u8 C.g, .int .u8 C.b, .int .u8 C.a] 26) := ⟨HW3.out.1.below hb4, HW3.out.2.1.below hb4, HW3.out.2.2.1.trans (hb4.mono HW3.out.2.2.1.size), HW3.out.2.2.2.below hb4⟩
      clear hb4 HW3 HW2 y0 y1 y2 y3
      obtain ⟨y0, y1, y2, y3⟩ := HW4.out.2.2.2.at4v
      obtain ⟨r0, r1, r2, r3⟩ := HW4.out.2.1.at4v
      have f0 := HW4.out.2.1.frozen 0
      have f1 := HW4.out.2.1.frozen 1
      have f2 := HW4.out.2.1.frozen 2
      have f3 := HW4.out.2.1.frozen 3
      obtain ⟨d0, d1, d2⟩ := rd_cells HW4.out.1
      obtain ⟨TC, hTC⟩ : ∃ TC, TC = txt C := ⟨_, rfl⟩
      have hTz : (TC.size : Int) ≤ 100000 := by have := Hlen.out; rw [hTC]; omega
      have HF : Hid (∀ W, W = ((((w4.setCell ⟨b, 1, none⟩ (.int .i64 ((p : Int) + TC.size))).setCell ⟨rb, 0, none⟩ (.int .u8 C.r)).setCell ⟨rb, 1, none⟩ (.int .u8 C.g)).setCell ⟨rb, 2, none⟩ (.int .u8 C.b)).setCell ⟨rb, 3, none⟩ (.int .u8 C.a) → (Rd W b s (p + (pcC r).length) ∧ Kp2 b b w W) ∧ Bk W rb #[.int .u8 C.r, .int .u8 C.g, .int .u8 C.b, .int .u8 C.a] 26) := fun W hW => by
        subst hW
        obtain ⟨q1, q2, q3, q4⟩ := HW4.out
        have hr := HRb.out
        have hl := Hlen.out
        rw [← hTC] at hl
        have k1 : Kp2 rb rb (w4.setCell ⟨b, 1, none⟩ (.int .i64 ((p : Int) + TC.size))) (((((w4.setCell ⟨b, 1, none⟩ (.int .i64 ((p : Int) + TC.size))).setCell ⟨rb, 0, none⟩ (.int .u8 C.r)).setCell ⟨rb, 1, none⟩ (.int .u8 C.g)).setCell ⟨rb, 2, none⟩ (.int .u8 C.b)).setCell ⟨rb, 3, none⟩ (.int .u8 C.a)) := (((Kp2.put _ _ _ _ _).trans (Kp2.put _ _ _ _ _)).trans (Kp2.put _ _ _ _ _)).trans (Kp2.put _ _ _ _ _)
        refine ⟨⟨?_, (Kp2.of_below (b := b) (c := b) q3).fresh ((Kp2.put w4 b rb _ _).trans k1.one.swap.one.swap) (by omega)⟩, ((((Bk.other q2 ⟨b, 1, none⟩ _ hne).put 0 _).put 1 _).put 2 _).put 3 _⟩
        refine Kp2.bk k1 ?_ hne hne
        have := q1.put (q := p + (pcC r).length)
        rw [show (p : Int) + TC.size = ((p + (pcC r).length : Nat) : Int) by omega]
        exact this
      rw [← hTC]
      clear HW4 hTC
      go_wp2
      obtain ⟨hq, hz⟩ := HF.out _ rfl
      obtain ⟨z0, z1, z2, z3⟩ := hz.at4v
      exact bodyPost_ret (v := .tuple #[(Value.agg #[.int .u8 C.r, .int .u8 C.g, .int .u8 C.b, .int .u8 C.a]), .nilIface]) (by simp [results, Tryz.results79, go_sem, z0, z1, z2, z3]) rfl (coq_some HRr.out hco.out rfl hq.1 hq.2)
    · have hco : Hid (coL r = none) := by unfold Hid; rw [HCo.out, if_neg (fun h => ht h.2)]
      have ePC : ((txt C).toList == PC.toList) = false := by
        rw [beq_eq_false_iff_ne]
        intro h
        exact ht (ztx_inj.1 h)
      have ePC2 : ¬ (txt C).toList = PC.toList := beq_eq_false_iff_ne.1 ePC
      go_wp2_with fail
      rw [← hcb]
      clear hcb
      generalize w2.alloc (.cells #[.int .u8 C.r, .int .u8 C.g, .int .u8 C.b, .int .u8 C.a] 26) = w3 at *
      refine (HTx.out _).mono ?_
      rintro e w4 ⟨rfl, hb4⟩
      have HWQ : Hid (Rd w4 b s p ∧ Bk w4 rb #[.int .u8 0, .int .u8 0, .int .u8 0, .int .u8 0] 26 ∧ Below w.heap.size w w4 ∧ True) := ⟨HW3.out.1.below hb4, HW3.out.2.1.below hb4, HW3.out.2.2.1.trans (hb4.mono HW3.out.2.2.1.size), trivial⟩
      clear hb4 HW3 HW2 y0 y1 y2 y3 HTx
      generalize txt C = TC at *
      go_wp2_with fail
      refine (refuse_any b s p 0 ⟨#[97, 32, 99, 111, 108, 111, 117, 114]⟩ _ HWQ.out.1 (by omega) (by decide)).mono ?_
      rintro e w5 ⟨v5, rfl, hw5, hb5⟩
      have HF0 : Hid (IsW w.heap.size w5 v5 p ∧ Rd w5 b s p ∧ Below w.heap.size w w5 ∧ Bk w5 rb #[.int .u8 0, .int .u8 0, .int .u8 0, .int .u8 0] 26 ∧ IsW (rb + 1) w5 v5 p) := by
        rw [Nat.add_zero] at hw5
        exact ⟨hw5.weaken HWQ.out.2.2.1.size, HWQ.out.1.below hb5, HWQ.out.2.2.1.trans (hb5.mono HWQ.out.2.2.1.size), HWQ.out.2.1.below hb5, hw5.weaken HWQ.out.2.1.lt⟩
      have HF : Hid (∀ W, W = (((w5.setCell ⟨rb, 0, none⟩ (.int .u8 0)).setCell ⟨rb, 1, none⟩ (.int .u8 0)).setCell ⟨rb, 2, none⟩ (.int .u8 0)).setCell ⟨rb, 3, none⟩ (.int .u8 0) → (IsW w.heap.size W v5 p ∧ Rd W b s p ∧ Kp2 b b w W) ∧ Bk W rb #[.int .u8 0, .int .u8 0, .int .u8 0, .int .u8 0] 26) := fun W hW => by
        subst hW
        obtain ⟨q1, q2, q3, q4, q5⟩ := HF0.out
        have k1 : Kp2 rb rb w5 ((((w5.setCell ⟨rb, 0, none⟩ (.int .u8 0)).setCell ⟨rb, 1, none⟩ (.int .u8 0)).setCell ⟨rb, 2, none⟩ (.int .u8 0)).setCell ⟨rb, 3, none⟩ (.int .u8 0)) := (((Kp2.put _ _ _ _ _).trans (Kp2.put _ _ _ _ _)).trans (Kp2.put _ _ _ _ _)).trans (Kp2.put _ _ _ _ _)
        have hr := HRb.out
        refine ⟨⟨(q5.keep k1 (by omega) (by omega)).weaken (by omega), Kp2.bk k1 q2 hne hne, (Kp2.of_below (b := b) (c := b) q3).fresh k1.one.swap.one.swap (by omega)⟩, (((q4.put 0 _).put 1 _).put 2 _).put 3 _⟩
      obtain ⟨r0, r1, r2, r3⟩ := HF0.out.2.2.2.1.at4v
      have f0 := HF0.out.2.2.2.1.frozen 0
      have f1 := HF0.out.2.2.2.1.frozen 1
      have f2 := HF0.out.2.2.2.1.frozen 2
      have f3 := HF0.out.2.2.2.1.frozen 3
      clear hw5 hb5 HWQ HF0
      go_wp2
      obtain ⟨hq, hz⟩ := HF.out _ rfl
      obtain ⟨z0, z1, z2, z3⟩ := hz.at4v
      exact bodyPost_ret (v := .tuple #[.agg #[.int .u8 0, .int .u8 0, .int .u8 0, .int .u8 0], v5]) (by simp [results, Tryz.results79, go_sem, z0, z1, z2, z3]) rfl (coq_none HRr.out hco.out rfl hq)
  · have hco : Hid (coL r = none) := by unfold Hid; rw [HCo.out, if_neg (fun h => absurd h.1 (by decide))]
    go_wp2_with fail
    clear hcb
    generalize w2.alloc (.cells #[.int .u8 C.r, .int .u8 C.g, .int .u8 C.b, .int .u8 C.a] 26) = w3 at *
    have HWQ := HW3
    clear HW3 HW2 y0 y1 y2 y3 HTx
    refine (refuse_any b s p 0 ⟨#[97, 32, 99, 111, 108, 111, 117, 114]⟩ _ HWQ.out.1 (by omega) (by decide)).mono ?_
    rintro e w5 ⟨v5, rfl, hw5, hb5⟩
    have HF0 : Hid (IsW w.heap.size w5 v5 p ∧ Rd w5 b s p ∧ Below w.heap.size w w5 ∧ Bk w5 rb #[.int .u8 0, .int .u8 0, .int .u8 0, .int .u8 0] 26 ∧ IsW (rb + 1) w5 v5 p) := by
      rw [Nat.add_zero] at hw5
      exact ⟨hw5.weaken HWQ.out.2.2.1.size, HWQ.out.1.below hb5, HWQ.out.2.2.1.trans (hb5.mono HWQ.out.2.2.1.size), HWQ.out.2.1.below hb5, hw5.weaken HWQ.out.2.1.lt⟩
    have HF : Hid (∀ W, W = (((w5.setCell ⟨rb, 0, none⟩ (.int .u8 0)).setCell ⟨rb, 1, none⟩ (.int .u8 0)).setCell ⟨rb, 2, none⟩ (.int .u8 0)).setCell ⟨rb, 3, none⟩ (.int .u8 0) → (IsW w.heap.size W v5 p ∧ Rd W b s p ∧ Kp2 b b w W) ∧ Bk W rb #[.int .u8 0, .int .u8 0, .int .u8 0, .int .u8 0] 26) := fun W hW => by
      subst hW
      obtain ⟨q1, q2, q3, q4, q5⟩ := HF0.out
      have k1 : Kp2 rb rb w5 ((((w5.setCell ⟨rb, 0, none⟩ (.int .u8 0)).setCell ⟨rb, 1, none⟩ (.int .u8 0)).setCell ⟨rb, 2, none⟩ (.int .u8 0)).setCell ⟨rb, 3, none⟩ (.int .u8 0)) := (((Kp2.put _ _ _ _ _).trans (Kp2.put _ _ _ _ _)).trans (Kp2.put _ _ _ _ _)).trans (Kp2.put _ _ _ _ _)
      have hr := HRb.out
      refine ⟨⟨(q5.keep k1 (by omega) (by omega)).weaken (by omega), Kp2.bk k1 q2 hne hne, (Kp2.of_below (b := b) (c := b) q3).fresh k1.one.swap.one.swap (by omega)⟩, (((q4.put 0 _).put 1 _).put 2 _).put 3 _⟩
    obtain ⟨r0, r1, r2, r3⟩ := HF0.out.2.2.2.1.at4v
    have f0 := HF0.out.2.2.2.1.frozen 0
    have f1 := HF0.out.2.2.2.1.frozen 1
    have f2 := HF0.out.2.2.2.1.frozen 2
    have f3 := HF0.out.2.2.2.1.frozen 3
    clear hw5 hb5 HWQ HF0
    go_wp2
    obtain ⟨hq, hz⟩ := HF.out _ rfl
    obtain ⟨z0, z1, z2, z3⟩ := hz.at4v
    exact bodyPost_ret (v := .tuple #[.agg #[.int .u8 0, .int .u8 0, .int .u8 0, .int .u8 0], v5]) (by simp [results, Tryz.results79, go_sem, z0, z1, z2, z3]) rfl (coq_none HRr.out hco.out rfl hq)

end Go.Proofs.YtdmhcmngajmghaaGreatDoor

/-
  Contracts of package vector's reader: escaped.
-/
namespace Go.Proofs.YtdmhcmngajmghaaGreatDoor
open Go.RowKit

theorem vpF_err (s : ByteArray) : ∀ (f p : Nat) (acc : List UInt8), p ≤ s.size → ((vpF s f p acc).2.2 = 0 ∨ (vpF s f p acc).2.2 = 160) ∧ (vpF s f p acc).2.1 ≤ s.size
  | 0, p, acc, _ => ⟨.inl rfl, Nat.zero_le _⟩
  | f + 1, p, acc, hp => by
    rw [vpF]
    split
    · exact ⟨.inl rfl, Nat.zero_le _⟩
    · split
      · exact ⟨.inr rfl, hp⟩
      · next h0 => exact vpF_err s f _ _ ((fsP_bd s p).2.2 h0)
theorem vpA_err (s : ByteArray) : ((vpA s).2.2 = 0 ∨ (vpA s).2.2 = 160) ∧ (vpA s).2.1 ≤ s.size := vpF_err s _ 0 [] (Nat.zero_le _)

/-- An escaped text at a text's beginning: the piece. -/
def pcE (r : List UInt8) : List UInt8 := (Lib.cut r [60]).1
theorem pcE_len (r : List UInt8) : (pcE r).length ≤ r.length := by
  unfold pcE Lib.cut
  split
  · simp [List.length_take]
    omega
  · exact Nat.le_refl _
/-- What it was. -/
def esA (r : List UInt8) : List UInt8 × Nat × Int := vpA ⟨(pcE r).toArray⟩

def EsQ (b : Nat) (s : ByteArray) (p : Nat) (w : World) (e : Ending) (w' : World) : Prop :=
  ((esA (rsL s p)).2.2 = 0 → e = .returned (.tuple #[.string ⟨(esA (rsL s p)).1.toArray⟩, .nilIface]) ∧ Rd w' b s (p + (pcE (rsL s p)).length) ∧ Kp2 b b w w') ∧
  (¬ (esA (rsL s p)).2.2 = 0 → ∃ v, e = .returned (.tuple #[.string ⟨#[]⟩, v]) ∧ IsW w.heap.size w' v (p + (esA (rsL s p)).2.1) ∧ Rd w' b s p ∧ Kp2 b b w w')

set_option maxRecDepth 10000 in
set_option maxHeartbeats 8000000 in
theorem escaped_any (B b : Nat) (s : ByteArray) (p : Nat) (w : World) (h : Rd w b s p) (hp : p ≤ s.size) (hs : s.size ≤ 100000) (hE : EnR B w) (hB : B ≤ b) :
    Calls Tryz.prog 80 #[.pointer (some ⟨b, 0, none⟩)] w fun e w' => EsQ b s p w e w' := by
  have hBw : B ≤ w.heap.size := by have := Bk.lt h; omega
  obtain ⟨r, hr⟩ : ∃ r, r = rsL s p := ⟨_, rfl⟩
  have hrl : (pcE r).length ≤ s.size - p := by
    have := pcE_len r
    have e : r.length = s.size - p := by rw [hr]; unfold rsL; simp
    omega
  have HEs : Hid (∀ e w', ((esA r).2.2 = 0 → e = .returned (.tuple #[.string ⟨(esA r).1.toArray⟩, .nilIface]) ∧ Rd w' b s (p + (pcE r).length) ∧ Kp2 b b w w') → (¬ (esA r).2.2 = 0 → ∃ v, e = .returned (.tuple #[.string ⟨#[]⟩, v]) ∧ IsW w.heap.size w' v (p + (esA r).2.1) ∧ Rd w' b s p ∧ Kp2 b b w w') → EsQ b s p w e w') := fun e w' h1 h2 => by
    subst hr
    exact ⟨h1, h2⟩
  obtain ⟨PC, hPC⟩ : ∃ PC : ByteArray, PC = ⟨(pcE r).toArray⟩ := ⟨_, rfl⟩
  have hPz : PC.size = (pcE r).length := by rw [hPC]; simp [ByteArray.size]
  have HCut : Hid (∀ W, Below w.heap.size w W → Calls Tryz.prog 68 #[.string (s.extract p s.size), .string ⟨#[60]⟩] W fun e w' => (e = .returned (.tuple #[.string PC, .string ⟨(Lib.cut r [60]).2.1.toArray⟩, .bool (Lib.cut r [60]).2.2])) ∧ Below W.heap.size W w') := fun W hb => by
    obtain ⟨m, hm⟩ := (hE.on (hb.mono hBw)).here.ml
    have q := Any.strings_Cut { Tryz.laysM145 with } (s.extract p s.size) ⟨#[60]⟩ m W (by simp; omega) hm
    refine q.mono ?_
    rintro e w' ⟨rfl, n, rfl⟩
    refine ⟨?_, bdrw W n⟩
    rw [rsL_ext, ← hr, hPC]
    rfl
  have HPl : Hid (∀ W, Calls Tryz.prog 101 #[.string PC] W fun e w' => e = .returned (.tuple #[.string ⟨(esA r).1.toArray⟩, .int .i64 ((esA r).2.1 : Nat), .int .i64 (esA r).2.2]) ∧ Below W.heap.size W w') := fun W => by
    have := vplain_any PC W (by omega)
    unfold esA
    rw [← hPC]
    exact this
  have HA : ((esA r).2.2 = 0 ∨ (esA r).2.2 = 160) ∧ (esA r).2.1 ≤ PC.size := by
    unfold esA
    rw [← hPC]
    exact vpA_err PC
  have hp' : (p : Int) ≤ s.size := by omega
  have ne : Nonempty (Gw w) := ⟨⟨w, Below.refl _ _⟩⟩
  have c0 := fun t => (gwRd h t).1
  have c1 := fun t => (gwRd h t).2
  have HH : Hid (Rd w b s p) := h
  have Hlen : Hid (PC.size = (pcE r).length ∧ PC.size ≤ 100000) := ⟨hPz, by omega⟩
  have hpz : (PC.size : Int) ≤ 100000 := by omega
  obtain ⟨hA1, hA2⟩ := HA
  generalize (Lib.cut r [60]).2.1 = cr at *
  generalize (Lib.cut r [60]).2.2 = cf at *
  generalize esA r = A at *
  obtain ⟨tx, at_, er⟩ := A
  simp only at HEs HPl hA1 hA2
  clear hPC hPz hr hrl h hE
  go_enter Tryz.func80, Tryz.ntmps80
  go_wp2_with fail
  refine wp_region_gw (by kernel_rfl) (by kernel_rfl) ?_
  repeat (go_big_quiet_step (first | (go_at_call 68; exact gw_call (HCut.out _ (Gw.below _)))))
  refine wpQuiet_nil ?_
  rintro _ ⟨t, rfl⟩
  have HW1 : Hid (Rd t.wd b s p ∧ Below w.heap.size w t.wd) := ⟨HH.out.below t.below, t.below⟩
  generalize t.wd = w1 at *
  clear c0 c1 ne HCut HH
  go_wp2_with fail
  refine (HPl.out _).mono ?_
  rintro e w2 ⟨rfl, hb2⟩
  have HW2 : Hid (Rd w2 b s p ∧ Below w.heap.size w w2) := ⟨HW1.out.1.below hb2, HW1.out.2.trans (hb2.mono HW1.out.2.size)⟩
  clear hb2 HW1 HPl
  rcases hA1 with rfl | rfl
  · obtain ⟨d0, d1, d2⟩ := rd_cells HW2.out.1
    have HF : Hid (∀ W, W = w2.setCell ⟨b, 1, none⟩ (.int .i64 ((p : Int) + PC.size)) → Rd W b s (p + (pcE r).length) ∧ Kp2 b b w W) := fun W hW => by
      subst hW
      refine ⟨?_, (Kp2.of_below HW2.out.2).trans (Kp2.put _ _ _ _ _)⟩
      have := HW2.out.1.put (q := p + (pcE r).length)
      rw [show (p : Int) + PC.size = ((p + (pcE r).length : Nat) : Int) by have := Hlen.out; omega]
      exact this
    clear HW2
    go_wp2
    go_ret2
    exact HEs.out _ _ (fun _ => ⟨rfl, HF.out _ rfl⟩) (fun h => by first | exact absurd rfl h | exact absurd trivial h)
  · obtain ⟨d0, d1, d2⟩ := rd_cells HW2.out.1
    go_wp2_with fail
    refine (refuse_any b s p at_ ⟨#[97, 110, 32, 101, 115, 99, 97, 112, 101, 100, 32, 116, 101, 120, 116]⟩ _ HW2.out.1 (by omega) (by omega)).mono ?_
    rintro e w5 ⟨v5, rfl, hw5, hb5⟩
    have HF : Hid (IsW w.heap.size w5 v5 (p + at_) ∧ Rd w5 b s p ∧ Kp2 b b w w5) := ⟨hw5.weaken HW2.out.2.size, HW2.out.1.below hb5, Kp2.of_below (HW2.out.2.trans (hb5.mono HW2.out.2.size))⟩
    clear hw5 hb5 HW2 d0 d1 d2
    go_wp2
    go_ret2
    exact HEs.out _ _ (fun h => absurd h (by decide)) (fun _ => ⟨_, rfl, HF.out⟩)

end Go.Proofs.YtdmhcmngajmghaaGreatDoor
