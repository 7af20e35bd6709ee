/-
  Wrapped parts in memory: what they can, their kinds and names; None, Can; how many wrappers; Inner.
-/
import Derived.Test.YtbnbfgkcndomaabGreatDoorVU
import Derived.Test.YtbnbfgkcndomaabGreatDoorVA
namespace Go.Proofs.YtbnbfgkcndomaabGreatDoor
open Go.RowKit

/-- What lies within all wrappers: a node's part, a hollow one, a half wrapper. -/
inductive Bs where
  | made (p : Pt) (b : Nat)
  | hol (t : Ty)
  | half
def Bs.val : Bs → Value
  | .made p b => .iface p.t.id (.pointer (some ⟨b, 0, none⟩)) | .hol t => .iface t.id (.pointer none) | .half => .iface 114 (.pointer none)
def Bs.ok (w : World) : Bs → Prop
  | .made p b => PtIn w b p ∧ kindB p.k = true | _ => True
def Bs.can : Bs → Nat
  | .made p _ => p.t.can | .hol t => t.can | .half => 0
def Bs.kind : Bs → Nat
  | .made p _ => p.k | _ => 0
def Bs.name : Bs → ByteArray
  | .made p _ => p.name | _ => ⟨#[]⟩
def Bs.isHalf : Bs → Bool
  | .half => true | _ => false
theorem Bs.can_lt (B : Bs) : B.can < 64 := by
  cases B with
  | made p b => show p.t.can < 64; cases p.t <;> decide
  | hol t => show t.can < 64; cases t <;> decide
  | half => decide
/-- Wrappers, the outermost first. -/
def canL (B : Bs) : List Wr → Nat
  | [] => B.can
  | x :: l => lefC (canL B l) x
def kindL (B : Bs) : List Wr → Nat
  | [] => B.kind
  | _ :: l => if kindL B l = 0 then 9 else kindL B l
def nameL (B : Bs) : List Wr → ByteArray
  | [] => B.name
  | x :: l => if x.kind = 4 then x.text else nameL B l
def popN (k : Nat) : Nat := (k.testBit 0).toNat + (k.testBit 1).toNat + (k.testBit 2).toNat + (k.testBit 3).toNat + (k.testBit 4).toNat + (k.testBit 5).toNat
/-- A part with wrappers about it, in memory. -/
def Pw (w : World) (B : Bs) : List Wr → Value → Prop
  | [], v => v = B.val ∧ B.ok w
  | x :: l, v => ∃ b a iv, v = .iface (cid (canL B (x :: l))) (.pointer (some ⟨b, 0, none⟩)) ∧ PtrC w b (1 + popN (canL B (x :: l))) a ∧ Blk w a #[iv, .int .u8 (x.kind : Nat), .int .u16 (x.mask : Nat), .int .i64 x.num, .string x.text] 119 ∧ canL B (x :: l) < 64 ∧ okW x = true ∧ Pw w B l iv
theorem Bs.ok.below {w w' : World} {B : Bs} (h : B.ok w) (hb : Below w.heap.size w w') : B.ok w' := by
  cases B with
  | made p b => exact ⟨h.1.below hb, h.2⟩
  | hol t => trivial
  | half => trivial
theorem Pw.below {w w' : World} {B : Bs} (hb : Below w.heap.size w w') : ∀ {l : List Wr} {v : Value}, Pw w B l v → Pw w' B l v
  | [], _, h => ⟨h.1, h.2.below hb⟩
  | _ :: _, _, ⟨b, a, iv, e, h1, h2, h3, h4, h5⟩ => ⟨b, a, iv, e, h1.below hb, h2.below hb, h3, h4, h5.below hb⟩
theorem Pw.can_lt {w : World} {B : Bs} : ∀ {l : List Wr} {v : Value}, Pw w B l v → canL B l < 64
  | [], _, _ => B.can_lt
  | _ :: _, _, ⟨_, _, _, _, _, _, h3, _, _⟩ => h3

/-- What an assertion says of a wrapped part. -/
theorem Pw.tf {w : World} {B : Bs} : ∀ {l : List Wr} {v : Value}, Pw w B l v → ∃ i x, v = .iface i x ∧ Tf i ((canL B l).testBit 0) ((canL B l).testBit 1) ((canL B l).testBit 2) ((canL B l).testBit 3) ((canL B l).testBit 4) ((canL B l).testBit 5) (!l.isEmpty || B.isHalf) ∧ Tw i (l.isEmpty && B.isHalf) (!l.isEmpty)
  | [], v, h => by
    obtain ⟨rfl, _⟩ := h
    cases B with
    | made p b =>
      refine ⟨_, _, rfl, ?_, tw_ty p.t⟩
      have := tf_ty p.t
      revert this
      show Tf p.t.id _ _ _ _ _ _ false → Tf p.t.id (p.t.can.testBit 0) (p.t.can.testBit 1) (p.t.can.testBit 2) (p.t.can.testBit 3) (p.t.can.testBit 4) (p.t.can.testBit 5) false
      cases p.t <;> exact id
    | hol t =>
      refine ⟨_, _, rfl, ?_, tw_ty t⟩
      have := tf_ty t
      revert this
      show Tf t.id _ _ _ _ _ _ false → Tf t.id (t.can.testBit 0) (t.can.testBit 1) (t.can.testBit 2) (t.can.testBit 3) (t.can.testBit 4) (t.can.testBit 5) false
      cases t <;> exact id
    | half => exact ⟨_, _, rfl, tf_half, tw_half⟩
  | x :: l, v, ⟨b, a, iv, e, h1, h2, h3, h4, h5⟩ => ⟨_, _, e, tf_can _ h3, tw_can _ h3⟩

theorem Pw.canC {w : World} {B : Bs} {l : List Wr} {v : Value} (h : Pw w B l v) (w1 : World) :
    Calls Tryz.prog 26 #[v] w1 fun e w' => e = .returned (.int .u16 (canL B l : Nat)) ∧ w' = w1 := by
  obtain ⟨i, x, rfl, hf, _⟩ := h.tf
  have := canF hf x w1
  rwa [mk_k _ h.can_lt] at this

theorem Pw.holds7 {w : World} {B : Bs} {l : List Wr} {v : Value} (h : Pw w B l v) (w1 : World) :
    Calls Tryz.prog 22 #[v] w1 fun e w' => e = .returned (.int .u16 (canL B l : Nat)) ∧ w' = w1 := by
  obtain ⟨i, x, rfl, hf, _⟩ := h.tf
  have := holdsF hf x w1
  rwa [mk_k _ h.can_lt] at this

theorem Pw.holdsTop {w : World} {B : Bs} {l : List Wr} {v : Value} (h : Pw w B l v) (w1 : World) :
    Calls Tryz.prog 32 #[v] w1 fun e w' => e = .returned (.int .u16 (canL B l : Nat)) ∧ w' = w1 := by
  obtain ⟨i, x, rfl, hf, _⟩ := h.tf
  have := holdsT hf x w1
  rwa [mk_k _ h.can_lt] at this

/-- A method that changes nothing, and what it answers. -/
def Mth (w : World) (v : Value) (m : String) (R : Value) : Prop :=
  ∃ i x f r, v = .iface i x ∧ (∀ n, (method (n + 1) i x m).run Tryz.prog w = .ok (f, r) w) ∧ (∀ args w', (callFunc f args).run Tryz.prog w' = .ok (.enter f args) w') ∧ Calls Tryz.prog f #[r] w fun e w' => e = .returned R ∧ w' = w

theorem halfKind_any (w : World) : Calls Tryz.prog 196 #[.pointer none] w fun e w' => e = .returned (.int .u8 0) ∧ w' = w := by
  go_enter Tryz.func196, Tryz.ntmps196
  go_wp2
  go_ret
  exact ⟨rfl, rfl⟩
theorem halfName_any (w : World) : Calls Tryz.prog 197 #[.pointer none] w fun e w' => e = .returned (.string ⟨#[]⟩) ∧ w' = w := by
  go_enter Tryz.func197, Tryz.ntmps197
  go_wp2
  go_ret
  exact ⟨rfl, rfl⟩
theorem halfUnwrap_any (w : World) : Calls Tryz.prog 198 #[.pointer none] w fun e w' => e = .returned .nilIface ∧ w' = w := by
  go_enter Tryz.func198, Tryz.ntmps198
  go_wp2
  go_ret
  exact ⟨rfl, rfl⟩

theorem Pw.kindM {w : World} {B : Bs} : ∀ {l : List Wr} {v : Value}, Pw w B l v → Mth w v "Kind" (.int .u8 (kindL B l : Nat))
  | [], v, h => by
    obtain ⟨rfl, ho⟩ := h
    cases B with
    | made p b => exact ⟨_, _, _, _, rfl, fun n => me_Kind p.t n _ w, ent_kf p.t, kf_made p.t b p.k w ho.1.kind.1⟩
    | hol t => exact ⟨_, _, _, _, rfl, fun n => me_Kind t n _ w, ent_kf t, kf_hol t w⟩
    | half => exact ⟨_, _, 196, .pointer none, rfl, fun n => by kernel_rfl, fun _ _ => by kernel_rfl, halfKind_any w⟩
  | x :: l, v, ⟨b, a, iv, e, h1, h2, h3, h4, h5⟩ => by
    obtain ⟨i, y, f, r, rfl, hm, he, hc⟩ := kindM h5
    refine ⟨_, _, 199, .pointer (some ⟨a, 0, none⟩), e, fun n => mw_Kind _ h3 n b a w (h1.2 0 (by omega)), fun _ _ => by kernel_rfl, ?_⟩
    have c0 := h2.cell 0
    have hk : kindL B (x :: l) = if kindL B l = 0 then 9 else kindL B l := rfl
    rw [hk]
    clear hk h1 h2 h3 h4 h5
    generalize kindL B l = K at *
    by_cases h0 : K = 0
    · subst h0
      rw [if_pos rfl]
      go_enter Tryz.func199, Tryz.ntmps199
      go_wp2_with fail
      refine hc.mono ?_
      rintro e w1 ⟨rfl, rfl⟩
      go_wp2
      go_ret
      exact ⟨rfl, rfl⟩
    · rw [if_neg h0]
      have k1 : ((K : Int) != 0) = true := by
        have : (K : Int) ≠ 0 := by omega
        simpa using this
      clear h0
      go_enter Tryz.func199, Tryz.ntmps199
      go_wp2_with fail
      refine hc.mono ?_
      rintro e w1 ⟨rfl, rfl⟩
      go_wp2
      go_ret
      exact ⟨rfl, rfl⟩

theorem Pw.nameM {w : World} {B : Bs} : ∀ {l : List Wr} {v : Value}, Pw w B l v → Mth w v "Name" (.string (nameL B l))
  | [], v, h => by
    obtain ⟨rfl, ho⟩ := h
    cases B with
    | made p b => exact ⟨_, _, _, _, rfl, fun n => me_Name p.t n _ w, ent_nf p.t, nf_made p.t b p.name w ho.1.kind.2⟩
    | hol t => exact ⟨_, _, _, _, rfl, fun n => me_Name t n _ w, ent_nf t, nf_hol t w⟩
    | half => exact ⟨_, _, 197, .pointer none, rfl, fun n => by kernel_rfl, fun _ _ => by kernel_rfl, halfName_any w⟩
  | x :: l, v, ⟨b, a, iv, e, h1, h2, h3, h4, h5⟩ => by
    obtain ⟨i, y, f, r, rfl, hm, he, hc⟩ := nameM h5
    refine ⟨_, _, 200, .pointer (some ⟨a, 0, none⟩), e, fun n => mw_Name _ h3 n b a w (h1.2 0 (by omega)), fun _ _ => by kernel_rfl, ?_⟩
    have c0 := h2.cell 0
    have c1 := h2.cell 1
    have c4 := h2.cell 4
    have hk : nameL B (x :: l) = if x.kind = 4 then x.text else nameL B l := rfl
    rw [hk]
    clear hk h1 h2 h3 h4 h5
    generalize nameL B l = K at *
    obtain ⟨xk, xm, xn, xt⟩ := x
    simp only at c1 c4 ⊢
    by_cases h0 : xk = 4
    · subst h0
      rw [if_pos rfl]
      go_enter Tryz.func200, Tryz.ntmps200
      go_wp2
      go_ret
      exact ⟨rfl, rfl⟩
    · rw [if_neg h0]
      have k1 : ((xk : Int) == 4) = false := beq_eq_false_iff_ne.2 (by omega)
      clear h0
      go_enter Tryz.func200, Tryz.ntmps200
      go_wp2_with fail
      refine hc.mono ?_
      rintro e w1 ⟨rfl, rfl⟩
      go_wp2
      go_ret
      exact ⟨rfl, rfl⟩

theorem Pw.noneC {w : World} {B : Bs} {l : List Wr} {v : Value} (h : Pw w B l v) :
    Calls Tryz.prog 24 #[v] w fun e w' => e = .returned (.bool (decide (kindL B l = 0))) ∧ w' = w := by
  obtain ⟨i, y, f, r, rfl, hm, he, hc⟩ := h.kindM
  clear h
  generalize kindL B l = K at *
  by_cases h0 : K = 0
  · subst h0
    go_enter Tryz.func24, Tryz.ntmps24
    go_wp2_with fail
    refine hc.mono ?_
    rintro e w1 ⟨rfl, rfl⟩
    go_wp2
    go_ret
    exact ⟨rfl, rfl⟩
  · rw [decide_eq_false h0]
    have k1 : ((K : Int) == 0) = false := beq_eq_false_iff_ne.2 (by omega)
    clear h0
    go_enter Tryz.func24, Tryz.ntmps24
    go_wp2_with fail
    refine hc.mono ?_
    rintro e w1 ⟨rfl, rfl⟩
    go_wp2
    go_ret
    exact ⟨rfl, rfl⟩

theorem Pw.wraps {w : World} {B : Bs} : ∀ {l : List Wr} {v : Value}, Pw w B l v → l.length ≤ 1000 →
    Calls Tryz.prog 54 #[v] w fun e w' => e = .returned (.int .i64 (l.length : Nat)) ∧ w' = w
  | [], v, h, _ => by
    obtain ⟨i, y, rfl, _, hw⟩ := h.tf
    have a1 := hw.ah
    have a2 := hw.ac
    clear h hw
    cases hB : B.isHalf
    all_goals
      rw [hB] at a1
      simp only [List.isEmpty_nil, Bool.true_and, Bool.not_true, cond_true, cond_false] at a1 a2
      go_enter Tryz.func54, Tryz.ntmps54
      go_wp2
      go_ret
      exact ⟨rfl, rfl⟩
  | x :: l, v, h, hl => by
    obtain ⟨i, y, hv, _, hw⟩ := h.tf
    obtain ⟨b, a, iv, e, h1, h2, h3, h4, h5⟩ := h
    rw [hv] at e
    obtain ⟨rfl, rfl⟩ : i = cid (canL B (x :: l)) ∧ y = .pointer (some ⟨b, 0, none⟩) := by cases e; exact ⟨rfl, rfl⟩
    subst hv
    have a1 := hw.ah
    have a2 := hw.ac
    simp only [List.isEmpty_cons, Bool.false_and, Bool.not_false, cond_true, cond_false] at a1 a2
    have hi := wraps h5 (by simp at hl; omega)
    have hm := fun n => mw_wrappers _ h3 n b a w (h1.2 0 (by omega))
    have c0 := h2.cell 0
    have hW : Calls Tryz.prog 202 #[.pointer (some ⟨a, 0, none⟩)] w fun e w' => e = .returned (.int .i64 ((x :: l).length : Nat)) ∧ w' = w := by
      clear hw a1 a2 hm e h1 h3 h4 h5 h2
      have hn : l.length ≤ 999 := by simp at hl; omega
      rw [List.length_cons]
      generalize l.length = n at *
      clear hl
      go_enter Tryz.func202, Tryz.ntmps202
      go_wp2_with fail
      refine hi.mono ?_
      rintro e w1 ⟨rfl, rfl⟩
      go_wp2
      go_ret
      exact ⟨ret_int (by go_num), rfl⟩
    clear hw hi c0 e h1 h3 h4 h5 h2
    generalize cid (canL B (x :: l)) = ci at *
    go_enter Tryz.func54, Tryz.ntmps54
    go_wp2_with fail
    refine hW.mono ?_
    rintro e w1 ⟨rfl, rfl⟩
    go_wp2
    go_ret
    exact ⟨rfl, rfl⟩

/-- What Unwrap answers. -/
theorem Pw.unw {w : World} {B : Bs} {x : Wr} {l : List Wr} {v : Value} (h : Pw w B (x :: l) v) :
    ∃ iv, Pw w B l iv ∧ Calls Tryz.prog 59 #[v] w fun e w' => e = .returned iv ∧ w' = w := by
  obtain ⟨i, y, hv, hf, _⟩ := h.tf
  obtain ⟨b, a, iv, e, h1, h2, h3, h4, h5⟩ := h
  refine ⟨iv, h5, ?_⟩
  rw [hv] at e
  obtain ⟨rfl, rfl⟩ : i = cid (canL B (x :: l)) ∧ y = .pointer (some ⟨b, 0, none⟩) := by cases e; exact ⟨rfl, rfl⟩
  subst hv
  have a1 := hf.au
  simp only [List.isEmpty_cons, Bool.not_false, Bool.true_or, cond_true] at a1
  have hm := fun n => mw_Unwrap _ h3 n b a w (h1.2 0 (by omega))
  have c0 := h2.cell 0
  have hW : Calls Tryz.prog 201 #[.pointer (some ⟨a, 0, none⟩)] w fun e w' => e = .returned iv ∧ w' = w := by
    clear hf a1 hm e h1 h3 h4 h5 h2
    go_enter Tryz.func201, Tryz.ntmps201
    go_wp2
    go_ret
    exact ⟨rfl, rfl⟩
  clear hf c0 e h1 h3 h4 h5 h2
  generalize cid (canL B (x :: l)) = ci at *
  go_enter Tryz.func59, Tryz.ntmps59
  go_wp2_with fail
  refine hW.mono ?_
  rintro e w1 ⟨rfl, rfl⟩
  go_wp2
  go_ret
  exact ⟨rfl, rfl⟩
theorem Pw.unw0 {w : World} {B : Bs} {v : Value} (h : Pw w B [] v) : Calls Tryz.prog 59 #[v] w fun e w' => e = .returned .nilIface ∧ w' = w := by
  obtain ⟨i, y, hv, hf, _⟩ := h.tf
  have a1 := hf.au
  obtain ⟨rfl, ho⟩ := h
  cases hB : B.isHalf
  · rw [hv]
    simp only [hB, List.isEmpty_nil, Bool.not_true, Bool.false_or, cond_false] at a1
    clear hv hf ho hB
    go_enter Tryz.func59, Tryz.ntmps59
    go_wp2
    go_ret
    exact ⟨rfl, rfl⟩
  · cases B with
    | made p b => cases hB
    | hol t => cases hB
    | half =>
      have a2 := tf_half.au
      simp only [cond_true] at a2
      have hm : ∀ n, (method (n + 1) 114 (.pointer none) "Unwrap").run Tryz.prog w = .ok (198, .pointer none) w := fun n => by kernel_rfl
      show Calls Tryz.prog 59 #[.iface 114 (.pointer none)] w _
      clear hv hf ho hB a1
      go_enter Tryz.func59, Tryz.ntmps59
      go_wp2_with fail
      refine (halfUnwrap_any _).mono ?_
      rintro e w1 ⟨rfl, rfl⟩
      go_wp2
      go_ret
      exact ⟨rfl, rfl⟩

end Go.Proofs.YtbnbfgkcndomaabGreatDoor
