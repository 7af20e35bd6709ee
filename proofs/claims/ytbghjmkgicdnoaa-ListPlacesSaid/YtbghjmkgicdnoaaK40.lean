/-
  The statements' own at and bad: what shows at a place; whether a rectangle may not be.
-/
import Derived.Test.YtbghjmkgicdnoaaK19
import Derived.Test.YtbghjmkgicdnoaaK39
import Derived.Test.YtbghjmkgicdnoaaK26
import Derived.Laws.Rows
import Derived.Deep.CutRange
import Derived.Deep.DeepCutAuto
namespace Go.Proofs.Ytbghjmkgicdnoaa
open Go.RowKit

theorem info_booY : (Try.prog.info? 4).map (fun i => (i.zero, i.size, i.bytes)) = some (some (.bool false), 1, 1) := by kernel_rfl
/-- Bools that a call made. -/
def OwB (lo : Nat) (w : World) (v : Value) (bs : List Bool) : Prop := w.ownsRow lo 4 1 v bs.length (bs.map Value.bool)
theorem OwB.nil (lo : Nat) (w : World) : OwB lo w (.slice none 0 0) [] := World.ownsRow_nil _ _ _ _
theorem OwB.below {lo : Nat} {w w' : World} {v : Value} {bs : List Bool} (h : OwB lo w v bs) (hb : Below w.heap.size w w') : OwB lo w' v bs := row_below h hb
theorem cell_booB (w : World) (x : Value) (t : TypeId) (b : Nat) (h : b = w.heap.size) : ∀ (j : Nat) (u : Value), ([x] : List Value)[j]? = some u → (w.alloc (.cells #[x] t)).cell? ((⟨b, 0, none⟩ : Addr).add j) = some u := by
  intro j u hj
  subst h
  have e : (⟨w.heap.size, 0, none⟩ : Addr).add j = ⟨w.heap.size, j, none⟩ := by
    simp [Addr.add]
    intro h
    exact h.symm
  rw [e, (Bk.new w #[x] t).cell j, ← hj]
  show ([x] : List Value).toArray[j]? = _
  simp
theorem load_strokeB {w : World} {b : Nat} {s : St} {t : TypeId} (h : Bk w b (#[.int .u8 s.k, .int .i64 s.r.x, .int .i64 s.r.y, .int .i64 s.r.w, .int .i64 s.r.h, .int .u8 s.c.r, .int .u8 s.c.g, .int .u8 s.c.b, .int .u8 s.c.a, .int .u8 s.b.r, .int .u8 s.b.g, .int .u8 s.b.b, .int .u8 s.b.a, .string s.t, .int .i64 s.n]) t) : (Instr.loadAt 31 (.pointer (some ⟨b, 0, none⟩))).run Try.prog w = .ok (Value.agg #[.int .u8 s.k, .int .i64 s.r.x, .int .i64 s.r.y, .int .i64 s.r.w, .int .i64 s.r.h, .int .u8 s.c.r, .int .u8 s.c.g, .int .u8 s.c.b, .int .u8 s.c.a, .int .u8 s.b.r, .int .u8 s.b.g, .int .u8 s.b.b, .int .u8 s.b.a, .string s.t, .int .i64 s.n]) w := by
  show (loadVar 31 ⟨b, 0, none⟩).run Try.prog w = _
  exact run_loadVar_row w b t 31 (#[.int .u8 s.k, .int .i64 s.r.x, .int .i64 s.r.y, .int .i64 s.r.w, .int .i64 s.r.h, .int .u8 s.c.r, .int .u8 s.c.g, .int .u8 s.c.b, .int .u8 s.c.a, .int .u8 s.b.r, .int .u8 s.b.g, .int .u8 s.b.b, .int .u8 s.b.a, .string s.t, .int .i64 s.n]) (0, 0) _ h Try.underlying31 (by rfl) (by kernel_rfl)
theorem wpList_loadY {P : Program} {w : World} {ops : Array Oper} {rest : List Oper} {o : Oper} {a : Act} {Q : Exit → Act → World → Prop} (hg : o.guard = none) (p : Operand) (t : TypeId) (hop : o.op = Op.load t p) (v ptr : Value) (hp : a.eval p = ptr)
    (hrun : (Instr.loadAt t ptr).run P w = .ok v w) (hK : wpList P ops Q rest (a.put o.dst v) w) : wpList P ops Q (o :: rest) a w := by
  refine wpList_plain hg fun K' hK' => ?_
  unfold Oper.wp
  simp [execOp, hop, hp, hrun, Result.andThen]
  exact hK' _ _ hK
/-- What lies there while one looks at a place. -/
structure AtW (w : World) (bx : Nat) (px py : Int) (l : List St) (k : Nat) (cs : List Bool) (i : Bool) (o : List St) (u v : Value) (W : World) : Prop where
  fo : OwS (bx + 1) W u o
  fc : OwB (bx + 1) W v cs.reverse
  fa : Apt u v
  fb : Below w.heap.size w W
  fp : Bk W bx #[.int .i64 px, .int .i64 py] 23
  sz : bx + 1 ≤ W.heap.size
  fd : atS px py cs i o (l.drop k) = atL px py l
  ol : o.length ≤ k
  cl : cs.length ≤ k
theorem AtW.below {w : World} {bx : Nat} {px py : Int} {l : List St} {k : Nat} {cs : List Bool} {i : Bool} {o : List St} {u v : Value} {W W' : World} (h : AtW w bx px py l k cs i o u v W) (hb : Below W.heap.size W W') : AtW w bx px py l k cs i o u v W' :=
  ⟨h.fo.below hb, h.fc.below hb, h.fa, h.fb.trans (hb.mono h.fb.size), h.fp.below hb, Nat.le_trans h.sz hb.size, h.fd, h.ol, h.cl⟩
theorem at_clip {px py : Int} {cs : List Bool} {i : Bool} {o : List St} {s : St} {l R : List St} (h : atS px py cs i o (s :: l) = R) (k : s.k = 4) : atS px py (i :: cs) (i && zHa s.r px py) o l = R := by
  rw [atS, if_pos k] at h
  exact h
theorem at_open {px py : Int} {cs : List Bool} {i : Bool} {o : List St} {s : St} {l R : List St} (h : atS px py cs i o (s :: l) = R) (k : s.k = 5) : (cs = [] → R = []) ∧ ∀ c t, cs = c :: t → atS px py t c o l = R := by
  rw [atS, if_neg (by omega), if_pos k] at h
  refine ⟨fun e => ?_, fun c t e => ?_⟩
  · rw [e] at h; exact h.symm
  · rw [e] at h; exact h
theorem at_draw {px py : Int} {cs : List Bool} {i : Bool} {o : List St} {s : St} {l R : List St} (h : atS px py cs i o (s :: l) = R) (k4 : s.k ≠ 4) (k5 : s.k ≠ 5) : atS px py cs i (atO px py i s o) l = R := by
  rw [atS, if_neg k4, if_neg k5] at h
  exact h

theorem oneBo (b : Bool) : ∀ u ∈ ([.bool b] : List Value), u.oneCell' = true := by
  intro u hu
  rw [List.mem_singleton] at hu
  subst hu
  rfl
theorem at_push {w w2 w4 : World} {bx : Nat} {px py : Int} {l : List St} {k n g4 cap4 : Nat} {cs : List Bool} {i j : Bool} {o : List St} {u v : Value} (hbx : bx = w.heap.size) (hn : n = cs.length) (h : AtW w bx px py l k cs i o u v w2)
    (hown : w4.ownsRow (bx + 1) 4 1 (.slice (some ⟨g4, 0, none⟩) (n + 1) cap4) (n + 1) ((cs.map Value.bool).reverse ++ [.bool i])) (hgrow : (w2.alloc (.cells #[.bool i] 4)).grownBy w4 v.ownBlock) (hlies : v.ownBlock = some g4 ∨ g4 = w2.heap.size + 1)
    (hd : atS px py (i :: cs) j o (l.drop (k + 1)) = atL px py l) : AtW w bx px py l (k + 1) (i :: cs) j o u (.slice (some ⟨g4, 0, none⟩) (n + 1) cap4) w4 := by
  obtain ⟨a1, a2, a3, a4, a5, a6, a7, a8, a9⟩ := h
  obtain ⟨b1, b2⟩ := grow_row (n := n + 1) (cap4 := cap4) a1 a3.turn hgrow hlies
  have hB : Below w.heap.size w (w2.alloc (.cells #[.bool i] 4)) := a4.alloc a4.size _
  have b4 : Below w.heap.size w w4 := hB.grown hgrow hB.size (fun g hg => by have := (row_lt a2 g hg).1; omega)
  refine ⟨b1, ?_, b2.turn, b4, ?_, by have := hgrow.size; simp at this ⊢; omega, hd, by omega, ?_⟩
  · unfold OwB
    rw [List.reverse_cons, List.length_append, List.length_singleton, List.length_reverse, ← hn, List.map_append, List.map_reverse]
    exact hown
  · exact Bk.grown (a5.below ((Below.refl _ _).alloc (Nat.le_refl _) _)) hgrow (fun e => by have := (row_lt a2 bx e).1; omega)
  · rw [List.length_cons]
    omega
theorem at_pop {w w2 : World} {bx : Nat} {px py : Int} {l : List St} {k tl : Nat} {c : Bool} {t : List Bool} {i : Bool} {o : List St} {u v : Value} (htl : tl = t.length) (hd : atS px py t c o (l.drop (k + 1)) = atL px py l) (h : AtW w bx px py l k (c :: t) i o u v w2) :
    ∃ gc cc, v = .slice (some ⟨gc, 0, none⟩) (tl + 1) cc ∧ tl + 1 ≤ cc ∧ w2.cell? ⟨gc, tl, none⟩ = some (.bool c) ∧ AtW w bx px py l (k + 1) t c o u (.slice (some ⟨gc, 0, none⟩) tl cc) w2 := by
  obtain ⟨a1, a2, a3, a4, a5, a6, a7, a8, a9⟩ := h
  have h := a2
  unfold OwB at h
  rw [List.length_reverse, List.length_cons, ← htl, List.reverse_cons, List.map_append] at h
  obtain ⟨oc, cc, rfl, hcc, hg⟩ := row_val h
  obtain ⟨gc, rfl, _, _⟩ := hg (by omega)
  refine ⟨gc, cc, rfl, hcc, ?_, a1, ?_, a3, a4, a5, a6, hd, by omega, ?_⟩
  · rw [own_cell h tl (by omega), List.getElem?_append_right (by rw [List.length_map, List.length_reverse]; omega), List.length_map, List.length_reverse, htl, Nat.sub_self]
    rfl
  · unfold OwB
    rw [List.length_reverse, ← htl]
    exact own_cut h (by rw [List.length_map, List.length_reverse]; omega)
  · rw [List.length_cons] at a9
    omega

set_option maxRecDepth 20000 in
set_option maxHeartbeats 16000000 in
theorem atP_any (l : List St) (v : Value) (px py : Int) (w : World) (hv : LsS w v l) (hw : Wfs l) (hm : ∀ s ∈ l, zMa s.r = true) (hl : l.length ≤ 20000) :
    Calls Try.prog 29 #[v, .agg #[.int .i64 px, .int .i64 py]] w fun e w' => ∃ u, e = .returned u ∧ Hid (OwS w.heap.size w' u (atL px py l) ∧ Below w.heap.size w w') := by
  obtain ⟨oa, cap, rfl, hc, hg⟩ := hv
  have HG : Hid (0 < l.length → ∃ g o, oa = some ⟨g, o, none⟩ ∧ g < w.heap.size ∧ ∀ i (h : i < l.length), StAt w g (o + i * 15) l[i]) := hg
  have HW : Hid (Wfs l ∧ ∀ s ∈ l, zMa s.r = true) := ⟨hw, hm⟩
  obtain ⟨i0, hi, hz0, hz1, hz2⟩ := info_parts info_booY
  have HI : Hid (Try.prog.info? 4 = some i0 ∧ i0.zero = some (.bool false) ∧ i0.size = 1 ∧ i0.bytes = 1) := ⟨hi, hz0, hz1, hz2⟩
  obtain ⟨j0, ki, kz0, kz1, kz2⟩ := info_parts info_strokeZ
  have HJ : Hid (Try.prog.info? 31 = some j0 ∧ j0.zero = some (.agg #[.int .u8 0, .int .i64 0, .int .i64 0, .int .i64 0, .int .i64 0, .int .u8 0, .int .u8 0, .int .u8 0, .int .u8 0, .int .u8 0, .int .u8 0, .int .u8 0, .int .u8 0, .string ByteArray.empty, .int .i64 0]) ∧ j0.size = 15 ∧ j0.bytes = 72) := ⟨ki, kz0, kz1, kz2⟩
  clear hg hw hm hi hz0 hz1 hz2 ki kz0 kz1 kz2
  obtain ⟨bx, hbx⟩ : ∃ bx, bx = w.heap.size := ⟨_, rfl⟩
  have HBX : Hid (bx = w.heap.size) := hbx
  have H0 : Hid (AtW w bx px py l 0 [] true [] (.slice none 0 0) (.slice none 0 0) (w.alloc (.cells #[.int .i64 px, .int .i64 py] 23))) :=
    ⟨OwS.nil _ _, OwB.nil _ _, (fun g h => by cases h), (Below.refl _ _).alloc (Nat.le_refl _) _, by rw [hbx]; exact Bk.new _ _ _, by rw [hbx]; simp, rfl, Nat.le_refl _, Nat.le_refl _⟩
  go_enter Try.func29, Try.ntmps29
  go_wp2_with fail
  rw [← hbx]
  clear hbx
  generalize w.alloc (.cells #[.int .i64 px, .int .i64 py] 23) = W0 at *
  go_loopw [5, 6, 7, 8] (fun u q b n wr => ∃ (k : Nat) (cs : List Bool) (i : Bool) (o : List St), n = .int .i64 k ∧ k ≤ l.length ∧ b = .bool i ∧ Hid (AtW w bx px py l k cs i o u q wr)) (fun _ _ _ i _ => l.length - (intOf i).toNat)
  case atStart => exact ⟨0, [], true, [], rfl, Nat.zero_le _, rfl, H0⟩
  case round =>
    clear H0
    obtain ⟨k, cs, i, o, rfl, hk, rfl, HK⟩ := hrel
    generalize u5 = uo at *
    generalize u6 = uq at *
    by_cases hlt : k < l.length
    · have ik : (k : Int) < l.length := by omega
      obtain ⟨g, oo, rfl, hg, hat⟩ := HG.out (by omega)
      have hx := (hat k hlt).kept (w' := wr) fun j => HK.out.fb.cell (p := ⟨g, j, none⟩) hg
      have hwf := HW.out.1 _ (List.getElem_mem hlt)
      have hma := HW.out.2 _ (List.getElem_mem hlt)
      have HDr : Hid (atS px py cs i o (l[k] :: l.drop (k + 1)) = atL px py l) := by
        have := HK.out.fd
        rw [List.drop_eq_getElem_cons hlt] at this
        exact this
      clear hat
      generalize hse : l[k] = s at *
      clear hse
      have HH0 : Hid (∀ W, Calls Try.prog 30 #[.agg #[.int .i64 s.r.x, .int .i64 s.r.y, .int .i64 s.r.w, .int .i64 s.r.h], .agg #[.int .i64 px, .int .i64 py]] W fun e w' => e = .returned (.bool (zHa s.r px py)) ∧ Below W.heap.size W w') := fun W => has_any _ _ _ _ _ _ W hwf.2.1.1 hwf.2.1.2.1
      have HWa : Hid (0 ≤ s.c.a) := hwf.2.2.1.2.2.2.1
      have HMa : Hid (zMa s.r = true) := hma
      obtain ⟨x0, x1, x2, x3, x4, x5, x6, x7, x8, x9, x10, x11, x12, x13, x14⟩ := hx
      obtain ⟨y0, y1⟩ := HK.out.fp.at2
      obtain ⟨bs, hbs⟩ : ∃ bs, bs = wr.heap.size := ⟨_, rfl⟩
      have S1 : Hid (AtW w bx px py l k cs i o uo uq (wr.alloc (.cells (#[.int .u8 s.k, .int .i64 s.r.x, .int .i64 s.r.y, .int .i64 s.r.w, .int .i64 s.r.h, .int .u8 s.c.r, .int .u8 s.c.g, .int .u8 s.c.b, .int .u8 s.c.a, .int .u8 s.b.r, .int .u8 s.b.g, .int .u8 s.b.b, .int .u8 s.b.a, .string s.t, .int .i64 s.n]) 31)) ∧ Bk (wr.alloc (.cells (#[.int .u8 s.k, .int .i64 s.r.x, .int .i64 s.r.y, .int .i64 s.r.w, .int .i64 s.r.h, .int .u8 s.c.r, .int .u8 s.c.g, .int .u8 s.c.b, .int .u8 s.c.a, .int .u8 s.b.r, .int .u8 s.b.g, .int .u8 s.b.b, .int .u8 s.b.a, .string s.t, .int .i64 s.n]) 31)) bs (#[.int .u8 s.k, .int .i64 s.r.x, .int .i64 s.r.y, .int .i64 s.r.w, .int .i64 s.r.h, .int .u8 s.c.r, .int .u8 s.c.g, .int .u8 s.c.b, .int .u8 s.c.a, .int .u8 s.b.r, .int .u8 s.b.g, .int .u8 s.b.b, .int .u8 s.b.a, .string s.t, .int .i64 s.n]) 31) := ⟨HK.out.below ((Below.refl _ _).alloc (Nat.le_refl _) _), by rw [hbs]; exact Bk.new _ _ _⟩
      clear hwf hma
      go_upto_region 8 with fail
      rw [← hbs]
      clear hbs x0 x1 x2 x3 x4 x5 x6 x7 x8 x9 x10 x11 x12 x13 x14 y0 y1 HK
      generalize wr.alloc (.cells (#[.int .u8 s.k, .int .i64 s.r.x, .int .i64 s.r.y, .int .i64 s.r.w, .int .i64 s.r.h, .int .u8 s.c.r, .int .u8 s.c.g, .int .u8 s.c.b, .int .u8 s.c.a, .int .u8 s.b.r, .int .u8 s.b.g, .int .u8 s.b.b, .int .u8 s.b.a, .string s.t, .int .i64 s.n]) 31) = W1 at *
      obtain ⟨z0, z1, z2, z3, z4, z5, z6, z7, z8, z9, z10, z11, z12, z13, z14⟩ := S1.out.2.at15
      obtain ⟨y0, y1⟩ := S1.out.1.fp.at2
      go_wp2_with fail
      refine (HH0.out _).mono ?_
      rintro e w2 ⟨rfl, hb⟩
      have S2 : Hid (AtW w bx px py l k cs i o uo uq w2 ∧ Bk w2 bs (#[.int .u8 s.k, .int .i64 s.r.x, .int .i64 s.r.y, .int .i64 s.r.w, .int .i64 s.r.h, .int .u8 s.c.r, .int .u8 s.c.g, .int .u8 s.c.b, .int .u8 s.c.a, .int .u8 s.b.r, .int .u8 s.b.g, .int .u8 s.b.b, .int .u8 s.b.a, .string s.t, .int .i64 s.n]) 31) := ⟨S1.out.1.below hb, S1.out.2.below hb⟩
      clear hb S1 HH0 z0 z1 z2 z3 z4 z5 z6 z7 z8 z9 z10 z11 z12 z13 z14 y0 y1
      obtain ⟨h, hh0⟩ : ∃ h, h = zHa s.r px py := ⟨_, rfl⟩
      have HH : Hid (zHa s.r px py = h) := hh0.symm
      rw [← hh0]
      clear hh0
      obtain ⟨m, hm⟩ : ∃ m, m = o.length := ⟨_, rfl⟩
      have hom : Hid (m = o.length) := hm
      have hol : Hid (m ≤ 20000) := by have := S2.out.1.ol; unfold Hid; omega
      clear hm
      by_cases k4 : s.k = 4
      · have HD : Hid (atS px py (i :: cs) (i && zHa s.r px py) o (l.drop (k + 1)) = atL px py l) := at_clip HDr.out k4
        have q4 : (s.k == 4) = true := beq_iff_eq.2 k4
        obtain ⟨n, hn⟩ : ∃ n, n = cs.length := ⟨_, rfl⟩
        have hcn : Hid (n = cs.length) := hn
        have hcl : Hid (n ≤ 20000) := by have := S2.out.1.cl; unfold Hid; omega
        have HA : Hid (∀ o', (w2.alloc o').ownsRow (bx + 1) 4 1 uq n (cs.reverse.map Value.bool) ∧ bx + 1 ≤ (w2.alloc o').heap.size) := fun o' => by
          have h := S2.out.1.fc
          unfold OwB at h
          rw [List.length_reverse, ← hcn.out] at h
          exact ⟨row_below h ((Below.refl _ _).alloc (Nat.le_refl _) _), by have := S2.out.1.sz; simp; omega⟩
        have hc3 : Hid (n + 1 ≤ maxLen) := by have := hcl.out; unfold Hid maxLen; omega
        have hc4 : Hid ((n + 1) * 1 ≤ 140737488355328) := by have := hcl.out; unfold Hid; omega
        obtain ⟨hi, hz0, hz1, hz2⟩ := HI.out
        obtain ⟨z0, z1, z2, z3, z4, z5, z6, z7, z8, z9, z10, z11, z12, z13, z14⟩ := S2.out.2.at15
        clear k4 hn HDr
        cases hib : i
        all_goals
          subst hib
          go_wp2_with (at_builtin; refine wpList_append_lies _ rfl _ _ 67 rfl (bx + 1) 4 i0 (.bool false) 1 1 Try.underlying67 hi hz0 hz1 hz2 rfl (by decide) uq n (cs.reverse.map Value.bool) rfl (HA.out _).1 _ 1 1 [.bool _] rfl rfl (cell_booB _ _ _ _ rfl) (oneBo _) (by decide) hc3.out hc4.out (HA.out _).2 _ rfl ?_)
          intro g4 cap4 w4 hown' hgrow hlies hg4
        · as_aux_lemma =>
          have HRel : Hid (AtW w bx px py l (k + 1) (false :: cs) false o uo (.slice (some ⟨g4, 0, none⟩) (n + 1) cap4) w4) := at_push HBX.out hcn.out S2.out.1 hown' hgrow hlies HD.out
          clear hown' hgrow hlies hg4 HA S2 z0 z1 z2 z3 z4 z5 z6 z7 z8 z9 z10 z11 z12 z13 z14
          go_wp2
          go_roundw
          case rel => exact ⟨k + 1, false :: cs, false, o, by go_num, by omega, rfl, HRel⟩
          case measure => simp [intOf]; omega
        · as_aux_lemma =>
          have HRel : Hid (AtW w bx px py l (k + 1) (true :: cs) h o uo (.slice (some ⟨g4, 0, none⟩) (n + 1) cap4) w4) := at_push HBX.out hcn.out S2.out.1 hown' hgrow hlies (by have := HD.out; rw [HH.out] at this; exact this)
          clear hown' hgrow hlies hg4 HA S2 z0 z1 z2 z3 z4 z5 z6 z7 z8 z9 z10 z11 z12 z13 z14
          go_wp2
          go_roundw
          case rel => exact ⟨k + 1, true :: cs, h, o, by go_num, by omega, rfl, HRel⟩
          case measure => simp [intOf]; omega
      by_cases k5 : s.k = 5
      · have HD := at_open HDr.out k5
        have HD2 : Hid ((cs = [] → atL px py l = []) ∧ ∀ c t, cs = c :: t → atS px py t c o (l.drop (k + 1)) = atL px py l) := HD
        have q4 : (s.k == 4) = false := beq_eq_false_iff_ne.2 k4
        have q5 : (s.k == 5) = true := beq_iff_eq.2 k5
        obtain ⟨z0, z1, z2, z3, z4, z5, z6, z7, z8, z9, z10, z11, z12, z13, z14⟩ := S2.out.2.at15
        clear k4 k5 HD HDr
        cases hcs : cs with
        | nil =>
          subst hcs
          obtain ⟨oc, cc, rfl, hcc, -⟩ := row_val S2.out.1.fc
          have HF : Hid (OwS w.heap.size w2 (.slice none 0 0) (atL px py l) ∧ Below w.heap.size w w2) := ⟨by rw [HD2.out.1 rfl]; exact OwS.nil _ _, S2.out.1.fb⟩
          simp only [List.reverse_nil, List.length_nil] at hcc ⊢
          clear S2
          go_wp2
          go_ret
          exact ⟨_, rfl, HF⟩
        | cons c t =>
          subst hcs
          obtain ⟨tl, htl⟩ : ∃ tl, tl = t.length := ⟨_, rfl⟩
          have HP := at_pop htl (HD2.out.2 c t rfl) S2.out.1
          obtain ⟨gc, cc, rfl, hcc, hcell, hrel⟩ := HP
          have htb : tl ≤ 20000 := by have := S2.out.1.cl; rw [List.length_cons, ← htl] at this; omega
          have HRel : Hid (AtW w bx px py l (k + 1) t c o uo (.slice (some ⟨gc, 0, none⟩) tl cc) w2) := hrel
          have HCl : Hid (gc < w2.heap.size) := by have := (row_lt S2.out.1.fc gc rfl).2; exact this
          clear S2 htl hrel
          go_wp2
          go_roundw
          case rel => exact ⟨k + 1, t, c, o, by go_num, by omega, rfl, HRel⟩
          case measure => simp [intOf]; omega
      have HD : Hid (atS px py cs i (atO px py i s o) (l.drop (k + 1)) = atL px py l) := at_draw HDr.out k4 k5
      clear HDr
      have q4 : (s.k == 4) = false := beq_eq_false_iff_ne.2 k4
      have q5 : (s.k == 5) = false := beq_eq_false_iff_ne.2 k5
      by_cases k1 : s.k = 1
      · have HK : Hid (s.k = 1) := k1
        have q1 : (s.k == 1) = true := beq_iff_eq.2 k1
        clear k1 k4 k5
        · cases hi : i
          · have HV : Hid (atO px py i s o = o) := by unfold Hid atO; rw [hi]; simp
            subst hi
            as_aux_lemma =>
              have HRel : Hid (AtW w bx px py l (k + 1) cs false (atO px py false s o) uo uq w2) := by
                obtain ⟨a1, a2, a3, a4, a5, a6, a7, a8, a9⟩ := S2.out.1
                exact ⟨by rw [HV.out]; exact a1, a2, a3, a4, a5, a6, HD.out, by rw [HV.out]; omega, by omega⟩
              obtain ⟨z0, -, -, -, -, -, -, -, z8, -, -, -, -, z13, -⟩ := S2.out.2.at15
              clear S2
              go_wp2
              go_roundw
              case rel => exact ⟨k + 1, cs, false, _, by go_num, by omega, rfl, HRel⟩
              case measure => simp [intOf]; omega
          · cases hh : h
            · have HV : Hid (atO px py i s o = o) := by unfold Hid atO; rw [hi, HH.out, hh]; simp
              subst hi hh
              as_aux_lemma =>
                have HRel : Hid (AtW w bx px py l (k + 1) cs true (atO px py true s o) uo uq w2) := by
                  obtain ⟨a1, a2, a3, a4, a5, a6, a7, a8, a9⟩ := S2.out.1
                  exact ⟨by rw [HV.out]; exact a1, a2, a3, a4, a5, a6, HD.out, by rw [HV.out]; omega, by omega⟩
                obtain ⟨z0, -, -, -, -, -, -, -, z8, -, -, -, -, z13, -⟩ := S2.out.2.at15
                clear S2
                go_wp2
                go_roundw
                case rel => exact ⟨k + 1, cs, true, _, by go_num, by omega, rfl, HRel⟩
                case measure => simp [intOf]; omega
            · subst hi
              have hh2 : Hid (zHa s.r px py = true) := by rw [HH.out, hh]; rfl
              subst hh
              by_cases h0 : s.c.a = 0
              · have HV : Hid (atO px py true s o = o) := by unfold Hid atO; rw [if_pos HK.out, hh2.out, h0]; simp
                have e0 : (s.c.a == 255) = false := beq_eq_false_iff_ne.2 (by omega)
                have e1 : ¬ 0 < s.c.a := by omega
                clear h0
                as_aux_lemma =>
                  have HRel : Hid (AtW w bx px py l (k + 1) cs true (atO px py true s o) uo uq w2) := by
                    obtain ⟨a1, a2, a3, a4, a5, a6, a7, a8, a9⟩ := S2.out.1
                    exact ⟨by rw [HV.out]; exact a1, a2, a3, a4, a5, a6, HD.out, by rw [HV.out]; omega, by omega⟩
                  obtain ⟨z0, -, -, -, -, -, -, -, z8, -, -, -, -, z13, -⟩ := S2.out.2.at15
                  clear S2
                  go_wp2
                  go_roundw
                  case rel => exact ⟨k + 1, cs, true, _, by go_num, by omega, rfl, HRel⟩
                  case measure => simp [intOf]; omega
              · by_cases h2 : s.c.a = 255
                · have HV : Hid (atO px py true s o = [] ++ [s]) := by unfold Hid atO; rw [if_pos HK.out, hh2.out, h2]; simp
                  have e0 : (s.c.a == 255) = true := beq_iff_eq.2 h2
                  have e1 : 0 < s.c.a := by omega
                  clear h0 h2
                  obtain ⟨z0, -, -, -, -, -, -, -, z8, -, -, -, -, z13, -⟩ := S2.out.2.at15
                  have hld := load_strokeB S2.out.2
                  have HA : Hid (∀ o', (w2.alloc o').ownsRow (bx + 1) 31 15 (.slice none 0 0) 0 (flatZ []) ∧ bx + 1 ≤ (w2.alloc o').heap.size) := fun o' => by
                    have h : OwS (bx + 1) w2 (.slice none 0 0) [] := OwS.nil _ _
                    unfold OwS at h
                    skip
                    exact ⟨row_below h ((Below.refl _ _).alloc (Nat.le_refl _) _), by have := S2.out.1.sz; simp; omega⟩
                  have hc3 : Hid (0 + 1 ≤ maxLen) := by have := hol.out; unfold Hid maxLen; omega
                  have hc4 : Hid ((0 + 1) * 72 ≤ 140737488355328) := by have := hol.out; unfold Hid; omega
                  have HAp : Hid (Apt (.slice none 0 0) uq) := (fun g h => by cases h)
                  obtain ⟨ki, kz0, kz1, kz2⟩ := HJ.out
                  go_wp2_with (first | refine wpList_loadY rfl _ _ rfl _ _ rfl hld ?_ | (at_builtin; refine wpList_append_lies _ rfl _ _ 36 rfl (bx + 1) 31 j0 (.agg #[.int .u8 0, .int .i64 0, .int .i64 0, .int .i64 0, .int .i64 0, .int .u8 0, .int .u8 0, .int .u8 0, .int .u8 0, .int .u8 0, .int .u8 0, .int .u8 0, .int .u8 0, .string ByteArray.empty, .int .i64 0]) 15 72 Try.underlying36 ki kz0 kz1 kz2 rfl (by decide) (.slice none 0 0) 0 (flatZ []) rfl (HA.out _).1 _ 1 1 (sCel s) rfl rfl (cell_strokeB _ _ _ _ rfl) (oneZ s) (by decide) hc3.out hc4.out (HA.out _).2 _ rfl ?_))
                  intro g4 cap4 w4 hown' hgrow hlies hg4
                  as_aux_lemma =>
                    have HRel : Hid (AtW w bx px py l (k + 1) cs true (atO px py true s o) (.slice (some ⟨g4, 0, none⟩) (0 + 1) cap4) uq w4) := by
                      obtain ⟨a1, a2, a3, a4, a5, a6, a7, a8, a9⟩ := S2.out.1
                      obtain ⟨b1, b2⟩ := grow_row (n := 0 + 1) (cap4 := cap4) a2 HAp.out hgrow hlies
                      have hB : Below w.heap.size w (w2.alloc (.cells (#[.int .u8 s.k, .int .i64 s.r.x, .int .i64 s.r.y, .int .i64 s.r.w, .int .i64 s.r.h, .int .u8 s.c.r, .int .u8 s.c.g, .int .u8 s.c.b, .int .u8 s.c.a, .int .u8 s.b.r, .int .u8 s.b.g, .int .u8 s.b.b, .int .u8 s.b.a, .string s.t, .int .i64 s.n]) 31)) := a4.alloc a4.size _
                      have b4 : Below w.heap.size w w4 := hB.grown hgrow hB.size (fun g hg => by have := (row_lt (HA.out (.cells (#[.int .u8 s.k, .int .i64 s.r.x, .int .i64 s.r.y, .int .i64 s.r.w, .int .i64 s.r.h, .int .u8 s.c.r, .int .u8 s.c.g, .int .u8 s.c.b, .int .u8 s.c.a, .int .u8 s.b.r, .int .u8 s.b.g, .int .u8 s.b.b, .int .u8 s.b.a, .string s.t, .int .i64 s.n]) 31)).1 g hg).1; have := HBX.out; omega)
                      refine ⟨?_, b1, b2, b4, ?_, by have := hgrow.size; simp at this ⊢; omega, HD.out, ?_, by omega⟩
                      · rw [HV.out]
                        exact snocS rfl hown'
                      · exact Bk.grown (a5.below ((Below.refl _ _).alloc (Nat.le_refl _) _)) hgrow (fun e => by have := (row_lt (HA.out (.cells (#[.int .u8 s.k, .int .i64 s.r.x, .int .i64 s.r.y, .int .i64 s.r.w, .int .i64 s.r.h, .int .u8 s.c.r, .int .u8 s.c.g, .int .u8 s.c.b, .int .u8 s.c.a, .int .u8 s.b.r, .int .u8 s.b.g, .int .u8 s.b.b, .int .u8 s.b.a, .string s.t, .int .i64 s.n]) 31)).1 bx e).1; omega)
                      · rw [HV.out, List.length_append, List.length_singleton]
                        simp
                    clear hown' hgrow hlies hg4 HA S2 z0 z8 z13 hld
                    go_wp2
                    go_roundw
                    case rel => exact ⟨k + 1, cs, true, _, by go_num, by omega, rfl, HRel⟩
                    case measure => simp [intOf]; omega
                · have HV : Hid (atO px py true s o = o ++ [s]) := by
                    have q0 : 0 < s.c.a := by have := HWa.out; omega
                    have q2 : (s.c.a == 255) = false := beq_eq_false_iff_ne.2 h2
                    unfold Hid atO; rw [if_pos HK.out, hh2.out, q2]; simp [q0]
                  have e0 : (s.c.a == 255) = false := beq_eq_false_iff_ne.2 h2
                  have e1 : 0 < s.c.a := by have := HWa.out; omega
                  clear h0 h2
                  obtain ⟨z0, -, -, -, -, -, -, -, z8, -, -, -, -, z13, -⟩ := S2.out.2.at15
                  have hld := load_strokeB S2.out.2
                  have HA : Hid (∀ o', (w2.alloc o').ownsRow (bx + 1) 31 15 uo m (flatZ o) ∧ bx + 1 ≤ (w2.alloc o').heap.size) := fun o' => by
                    have h : OwS (bx + 1) w2 uo o := S2.out.1.fo
                    unfold OwS at h
                    rw [← hom.out] at h
                    exact ⟨row_below h ((Below.refl _ _).alloc (Nat.le_refl _) _), by have := S2.out.1.sz; simp; omega⟩
                  have hc3 : Hid (m + 1 ≤ maxLen) := by have := hol.out; unfold Hid maxLen; omega
                  have hc4 : Hid ((m + 1) * 72 ≤ 140737488355328) := by have := hol.out; unfold Hid; omega
                  have HAp : Hid (Apt uo uq) := S2.out.1.fa
                  obtain ⟨ki, kz0, kz1, kz2⟩ := HJ.out
                  go_wp2_with (first | refine wpList_loadY rfl _ _ rfl _ _ rfl hld ?_ | (at_builtin; refine wpList_append_lies _ rfl _ _ 36 rfl (bx + 1) 31 j0 (.agg #[.int .u8 0, .int .i64 0, .int .i64 0, .int .i64 0, .int .i64 0, .int .u8 0, .int .u8 0, .int .u8 0, .int .u8 0, .int .u8 0, .int .u8 0, .int .u8 0, .int .u8 0, .string ByteArray.empty, .int .i64 0]) 15 72 Try.underlying36 ki kz0 kz1 kz2 rfl (by decide) uo m (flatZ o) rfl (HA.out _).1 _ 1 1 (sCel s) rfl rfl (cell_strokeB _ _ _ _ rfl) (oneZ s) (by decide) hc3.out hc4.out (HA.out _).2 _ rfl ?_))
                  intro g4 cap4 w4 hown' hgrow hlies hg4
                  as_aux_lemma =>
                    have HRel : Hid (AtW w bx px py l (k + 1) cs true (atO px py true s o) (.slice (some ⟨g4, 0, none⟩) (m + 1) cap4) uq w4) := by
                      obtain ⟨a1, a2, a3, a4, a5, a6, a7, a8, a9⟩ := S2.out.1
                      obtain ⟨b1, b2⟩ := grow_row (n := m + 1) (cap4 := cap4) a2 HAp.out hgrow hlies
                      have hB : Below w.heap.size w (w2.alloc (.cells (#[.int .u8 s.k, .int .i64 s.r.x, .int .i64 s.r.y, .int .i64 s.r.w, .int .i64 s.r.h, .int .u8 s.c.r, .int .u8 s.c.g, .int .u8 s.c.b, .int .u8 s.c.a, .int .u8 s.b.r, .int .u8 s.b.g, .int .u8 s.b.b, .int .u8 s.b.a, .string s.t, .int .i64 s.n]) 31)) := a4.alloc a4.size _
                      have b4 : Below w.heap.size w w4 := hB.grown hgrow hB.size (fun g hg => by have := (row_lt (HA.out (.cells (#[.int .u8 s.k, .int .i64 s.r.x, .int .i64 s.r.y, .int .i64 s.r.w, .int .i64 s.r.h, .int .u8 s.c.r, .int .u8 s.c.g, .int .u8 s.c.b, .int .u8 s.c.a, .int .u8 s.b.r, .int .u8 s.b.g, .int .u8 s.b.b, .int .u8 s.b.a, .string s.t, .int .i64 s.n]) 31)).1 g hg).1; have := HBX.out; omega)
                      refine ⟨?_, b1, b2, b4, ?_, by have := hgrow.size; simp at this ⊢; omega, HD.out, ?_, by omega⟩
                      · rw [HV.out]
                        exact snocS hom.out hown'
                      · exact Bk.grown (a5.below ((Below.refl _ _).alloc (Nat.le_refl _) _)) hgrow (fun e => by have := (row_lt (HA.out (.cells (#[.int .u8 s.k, .int .i64 s.r.x, .int .i64 s.r.y, .int .i64 s.r.w, .int .i64 s.r.h, .int .u8 s.c.r, .int .u8 s.c.g, .int .u8 s.c.b, .int .u8 s.c.a, .int .u8 s.b.r, .int .u8 s.b.g, .int .u8 s.b.b, .int .u8 s.b.a, .string s.t, .int .i64 s.n]) 31)).1 bx e).1; omega)
                      · rw [HV.out, List.length_append, List.length_singleton]
                        have := S2.out.1.ol; omega
                    clear hown' hgrow hlies hg4 HA S2 z0 z8 z13 hld
                    go_wp2
                    go_roundw
                    case rel => exact ⟨k + 1, cs, true, _, by go_num, by omega, rfl, HRel⟩
                    case measure => simp [intOf]; omega
      · by_cases k2 : s.k = 2
        · have HK : Hid (s.k = 2) := k2
          have q1 : (s.k == 1) = false := beq_eq_false_iff_ne.2 k1
          have q2 : (s.k == 2) = true := beq_iff_eq.2 k2
          clear k1 k2 k4 k5
          obtain ⟨z0, z1, z2, z3, z4, z5, z6, z7, z8, z9, z10, z11, z12, z13, z14⟩ := S2.out.2.at15
          obtain ⟨y0, y1⟩ := S2.out.1.fp.at2
          go_upto_region 26 with fail
          go_cut [11] from 12 to 157 (fun s11 wx => s11 = .bool (edgB s.r px py) ∧ wx = w2)
          case first =>
            have HE : Hid (∀ a b c d, (px == s.r.x) = a → (py == s.r.y) = b → (px == s.r.x + s.r.w - 1) = c → (py == s.r.y + s.r.h - 1) = d → edgB s.r px py = (a || (b || (c || d)))) := fun a b c d h1 h2 h3 h4 => by unfold edgB; rw [h1, h2, h3, h4]
            have bb := may_iff.1 HMa.out
            obtain ⟨⟨b1, b2, b3⟩, b4, b5, b6⟩ := bb
            obtain ⟨c1, hc1⟩ : ∃ c, (px == s.r.x) = c := ⟨_, rfl⟩
            obtain ⟨c2, hc2⟩ : ∃ c, (py == s.r.y) = c := ⟨_, rfl⟩
            obtain ⟨c3, hc3⟩ : ∃ c, (px == s.r.x + s.r.w - 1) = c := ⟨_, rfl⟩
            obtain ⟨c4, hc4⟩ : ∃ c, (py == s.r.y + s.r.h - 1) = c := ⟨_, rfl⟩
            have HE2 : Hid (edgB s.r px py = (c1 || (c2 || (c3 || c4)))) := HE.out _ _ _ _ hc1 hc2 hc3 hc4
            clear HE
            cases c1
            · cases c2
              · cases c3
                · cases c4
                  all_goals
                    go_wp2_with fail
                    go_meet
                    exact ⟨by rw [HE2.out]; rfl, rfl⟩
                · go_wp2_with fail
                  go_meet
                  exact ⟨by rw [HE2.out]; rfl, rfl⟩
              · go_wp2_with fail
                go_meet
                exact ⟨by rw [HE2.out]; rfl, rfl⟩
            · go_wp2_with fail
              go_meet
              exact ⟨by rw [HE2.out]; rfl, rfl⟩
          case rest =>
            obtain ⟨rfl, ew⟩ := hcut
            have ew2 := ew.symm
            subst ew2
            clear ew
            clear z0 z1 z2 z3 z4 z5 z6 z7 z8 z9 z10 z11 z12 z13 z14 y0 y1
            cases hi : i
            · have HV : Hid (atO px py i s o = o) := by unfold Hid atO; rw [hi]; simp
              subst hi
              as_aux_lemma =>
                have HRel : Hid (AtW w bx px py l (k + 1) cs false (atO px py false s o) uo uq w2) := by
                  obtain ⟨a1, a2, a3, a4, a5, a6, a7, a8, a9⟩ := S2.out.1
                  exact ⟨by rw [HV.out]; exact a1, a2, a3, a4, a5, a6, HD.out, by rw [HV.out]; omega, by omega⟩
                obtain ⟨z0, -, -, -, -, -, -, -, z8, -, -, -, -, z13, -⟩ := S2.out.2.at15
                clear S2
                go_wp2
                go_roundw
                case rel => exact ⟨k + 1, cs, false, _, by go_num, by omega, rfl, HRel⟩
                case measure => simp [intOf]; omega
            · cases hh : h
              · have HV : Hid (atO px py i s o = o) := by unfold Hid atO; rw [hi, HH.out, hh]; simp
                subst hi hh
                as_aux_lemma =>
                  have HRel : Hid (AtW w bx px py l (k + 1) cs true (atO px py true s o) uo uq w2) := by
                    obtain ⟨a1, a2, a3, a4, a5, a6, a7, a8, a9⟩ := S2.out.1
                    exact ⟨by rw [HV.out]; exact a1, a2, a3, a4, a5, a6, HD.out, by rw [HV.out]; omega, by omega⟩
                  obtain ⟨z0, -, -, -, -, -, -, -, z8, -, -, -, -, z13, -⟩ := S2.out.2.at15
                  clear S2
                  go_wp2
                  go_roundw
                  case rel => exact ⟨k + 1, cs, true, _, by go_num, by omega, rfl, HRel⟩
                  case measure => simp [intOf]; omega
              · subst hi
                have hh2 : Hid (zHa s.r px py = true) := by rw [HH.out, hh]; rfl
                subst hh
                cases he : edgB s.r px py
                · have HV : Hid (atO px py true s o = o) := by unfold Hid atO; rw [if_neg (by have := HK.out; omega), if_pos HK.out, he]; simp
                  clear he
                  as_aux_lemma =>
                    have HRel : Hid (AtW w bx px py l (k + 1) cs true (atO px py true s o) uo uq w2) := by
                      obtain ⟨a1, a2, a3, a4, a5, a6, a7, a8, a9⟩ := S2.out.1
                      exact ⟨by rw [HV.out]; exact a1, a2, a3, a4, a5, a6, HD.out, by rw [HV.out]; omega, by omega⟩
                    obtain ⟨z0, -, -, -, -, -, -, -, z8, -, -, -, -, z13, -⟩ := S2.out.2.at15
                    clear S2
                    go_wp2
                    go_roundw
                    case rel => exact ⟨k + 1, cs, true, _, by go_num, by omega, rfl, HRel⟩
                    case measure => simp [intOf]; omega
                · by_cases h0 : 0 < s.c.a
                  · have HV : Hid (atO px py true s o = o ++ [s]) := by unfold Hid atO; rw [if_neg (by have := HK.out; omega), if_pos HK.out, he, hh2.out]; simp [h0]
                    clear he
                    obtain ⟨z0, -, -, -, -, -, -, -, z8, -, -, -, -, z13, -⟩ := S2.out.2.at15
                    have hld := load_strokeB S2.out.2
                    have HA : Hid (∀ o', (w2.alloc o').ownsRow (bx + 1) 31 15 uo m (flatZ o) ∧ bx + 1 ≤ (w2.alloc o').heap.size) := fun o' => by
                      have h : OwS (bx + 1) w2 uo o := S2.out.1.fo
                      unfold OwS at h
                      rw [← hom.out] at h
                      exact ⟨row_below h ((Below.refl _ _).alloc (Nat.le_refl _) _), by have := S2.out.1.sz; simp; omega⟩
                    have hc3 : Hid (m + 1 ≤ maxLen) := by have := hol.out; unfold Hid maxLen; omega
                    have hc4 : Hid ((m + 1) * 72 ≤ 140737488355328) := by have := hol.out; unfold Hid; omega
                    have HAp : Hid (Apt uo uq) := S2.out.1.fa
                    obtain ⟨ki, kz0, kz1, kz2⟩ := HJ.out
                    go_wp2_with (first | refine wpList_loadY rfl _ _ rfl _ _ rfl hld ?_ | (at_builtin; refine wpList_append_lies _ rfl _ _ 36 rfl (bx + 1) 31 j0 (.agg #[.int .u8 0, .int .i64 0, .int .i64 0, .int .i64 0, .int .i64 0, .int .u8 0, .int .u8 0, .int .u8 0, .int .u8 0, .int .u8 0, .int .u8 0, .int .u8 0, .int .u8 0, .string ByteArray.empty, .int .i64 0]) 15 72 Try.underlying36 ki kz0 kz1 kz2 rfl (by decide) uo m (flatZ o) rfl (HA.out _).1 _ 1 1 (sCel s) rfl rfl (cell_strokeB _ _ _ _ rfl) (oneZ s) (by decide) hc3.out hc4.out (HA.out _).2 _ rfl ?_))
                    intro g4 cap4 w4 hown' hgrow hlies hg4
                    as_aux_lemma =>
                      have HRel : Hid (AtW w bx px py l (k + 1) cs true (atO px py true s o) (.slice (some ⟨g4, 0, none⟩) (m + 1) cap4) uq w4) := by
                        obtain ⟨a1, a2, a3, a4, a5, a6, a7, a8, a9⟩ := S2.out.1
                        obtain ⟨b1, b2⟩ := grow_row (n := m + 1) (cap4 := cap4) a2 HAp.out hgrow hlies
                        have hB : Below w.heap.size w (w2.alloc (.cells (#[.int .u8 s.k, .int .i64 s.r.x, .int .i64 s.r.y, .int .i64 s.r.w, .int .i64 s.r.h, .int .u8 s.c.r, .int .u8 s.c.g, .int .u8 s.c.b, .int .u8 s.c.a, .int .u8 s.b.r, .int .u8 s.b.g, .int .u8 s.b.b, .int .u8 s.b.a, .string s.t, .int .i64 s.n]) 31)) := a4.alloc a4.size _
                        have b4 : Below w.heap.size w w4 := hB.grown hgrow hB.size (fun g hg => by have := (row_lt (HA.out (.cells (#[.int .u8 s.k, .int .i64 s.r.x, .int .i64 s.r.y, .int .i64 s.r.w, .int .i64 s.r.h, .int .u8 s.c.r, .int .u8 s.c.g, .int .u8 s.c.b, .int .u8 s.c.a, .int .u8 s.b.r, .int .u8 s.b.g, .int .u8 s.b.b, .int .u8 s.b.a, .string s.t, .int .i64 s.n]) 31)).1 g hg).1; have := HBX.out; omega)
                        refine ⟨?_, b1, b2, b4, ?_, by have := hgrow.size; simp at this ⊢; omega, HD.out, ?_, by omega⟩
                        · rw [HV.out]
                          exact snocS hom.out hown'
                        · exact Bk.grown (a5.below ((Below.refl _ _).alloc (Nat.le_refl _) _)) hgrow (fun e => by have := (row_lt (HA.out (.cells (#[.int .u8 s.k, .int .i64 s.r.x, .int .i64 s.r.y, .int .i64 s.r.w, .int .i64 s.r.h, .int .u8 s.c.r, .int .u8 s.c.g, .int .u8 s.c.b, .int .u8 s.c.a, .int .u8 s.b.r, .int .u8 s.b.g, .int .u8 s.b.b, .int .u8 s.b.a, .string s.t, .int .i64 s.n]) 31)).1 bx e).1; omega)
                        · rw [HV.out, List.length_append, List.length_singleton]
                          have := S2.out.1.ol; omega
                      clear hown' hgrow hlies hg4 HA S2 z0 z8 z13 hld
                      go_wp2
                      go_roundw
                      case rel => exact ⟨k + 1, cs, true, _, by go_num, by omega, rfl, HRel⟩
                      case measure => simp [intOf]; omega
                  · have HV : Hid (atO px py true s o = o) := by unfold Hid atO; rw [if_neg (by have := HK.out; omega), if_pos HK.out, he]; simp [h0]
                    clear he
                    as_aux_lemma =>
                      have HRel : Hid (AtW w bx px py l (k + 1) cs true (atO px py true s o) uo uq w2) := by
                        obtain ⟨a1, a2, a3, a4, a5, a6, a7, a8, a9⟩ := S2.out.1
                        exact ⟨by rw [HV.out]; exact a1, a2, a3, a4, a5, a6, HD.out, by rw [HV.out]; omega, by omega⟩
                      obtain ⟨z0, -, -, -, -, -, -, -, z8, -, -, -, -, z13, -⟩ := S2.out.2.at15
                      clear S2
                      go_wp2
                      go_roundw
                      case rel => exact ⟨k + 1, cs, true, _, by go_num, by omega, rfl, HRel⟩
                      case measure => simp [intOf]; omega
        · have q1 : (s.k == 1) = false := beq_eq_false_iff_ne.2 k1
          have q2 : (s.k == 2) = false := beq_eq_false_iff_ne.2 k2
          have HK : Hid (s.k ≠ 1 ∧ s.k ≠ 2) := ⟨k1, k2⟩
          clear k1 k2 k4 k5
          cases hi : i
          · have HV : Hid (atO px py i s o = o) := by unfold Hid atO; rw [hi]; simp
            subst hi
            as_aux_lemma =>
              have HRel : Hid (AtW w bx px py l (k + 1) cs false (atO px py false s o) uo uq w2) := by
                obtain ⟨a1, a2, a3, a4, a5, a6, a7, a8, a9⟩ := S2.out.1
                exact ⟨by rw [HV.out]; exact a1, a2, a3, a4, a5, a6, HD.out, by rw [HV.out]; omega, by omega⟩
              obtain ⟨z0, -, -, -, -, -, -, -, z8, -, -, -, -, z13, -⟩ := S2.out.2.at15
              clear S2
              go_wp2
              go_roundw
              case rel => exact ⟨k + 1, cs, false, _, by go_num, by omega, rfl, HRel⟩
              case measure => simp [intOf]; omega
          · cases hh : h
            · have HV : Hid (atO px py i s o = o) := by unfold Hid atO; rw [hi, HH.out, hh]; simp
              subst hi hh
              as_aux_lemma =>
                have HRel : Hid (AtW w bx px py l (k + 1) cs true (atO px py true s o) uo uq w2) := by
                  obtain ⟨a1, a2, a3, a4, a5, a6, a7, a8, a9⟩ := S2.out.1
                  exact ⟨by rw [HV.out]; exact a1, a2, a3, a4, a5, a6, HD.out, by rw [HV.out]; omega, by omega⟩
                obtain ⟨z0, -, -, -, -, -, -, -, z8, -, -, -, -, z13, -⟩ := S2.out.2.at15
                clear S2
                go_wp2
                go_roundw
                case rel => exact ⟨k + 1, cs, true, _, by go_num, by omega, rfl, HRel⟩
                case measure => simp [intOf]; omega
            · subst hi
              have hh2 : Hid (zHa s.r px py = true) := by rw [HH.out, hh]; rfl
              subst hh
              by_cases hz : s.t.size = 0
              · have HV : Hid (atO px py true s o = o) := by unfold Hid atO; rw [if_neg HK.out.1, if_neg HK.out.2, hz]; simp
                have HZ : Hid (s.t = ByteArray.empty) := ztx_nil hz
                have S3 : Hid (AtW w bx px py l k cs true o uo uq w2 ∧ Bk w2 bs (#[.int .u8 s.k, .int .i64 s.r.x, .int .i64 s.r.y, .int .i64 s.r.w, .int .i64 s.r.h, .int .u8 s.c.r, .int .u8 s.c.g, .int .u8 s.c.b, .int .u8 s.c.a, .int .u8 s.b.r, .int .u8 s.b.g, .int .u8 s.b.b, .int .u8 s.b.a, .string s.t, .int .i64 s.n]) 31) := S2
                have hz1 := HZ.out
                clear hz
                as_aux_lemma =>
                  have HRel : Hid (AtW w bx px py l (k + 1) cs true (atO px py true s o) uo uq w2) := by
                    obtain ⟨a1, a2, a3, a4, a5, a6, a7, a8, a9⟩ := S2.out.1
                    exact ⟨by rw [HV.out]; exact a1, a2, a3, a4, a5, a6, HD.out, by rw [HV.out]; omega, by omega⟩
                  obtain ⟨z0, -, -, -, -, -, -, -, z8, -, -, -, -, z13, -⟩ := S2.out.2.at15
                  clear S2 S3
                  rw [hz1] at z13
                  clear hz1
                  go_wp2
                  go_roundw
                  case rel => exact ⟨k + 1, cs, true, _, by go_num, by omega, rfl, HRel⟩
                  case measure => simp [intOf]; omega
              · have HV : Hid (atO px py true s o = o ++ [s]) := by unfold Hid atO; rw [if_neg HK.out.1, if_neg HK.out.2, hh2.out]; simp [hz]
                obtain ⟨y1, y2⟩ := ztx_ne hz
                clear hz
                obtain ⟨z0, -, -, -, -, -, -, -, z8, -, -, -, -, z13, -⟩ := S2.out.2.at15
                have hld := load_strokeB S2.out.2
                have HA : Hid (∀ o', (w2.alloc o').ownsRow (bx + 1) 31 15 uo m (flatZ o) ∧ bx + 1 ≤ (w2.alloc o').heap.size) := fun o' => by
                  have h : OwS (bx + 1) w2 uo o := S2.out.1.fo
                  unfold OwS at h
                  rw [← hom.out] at h
                  exact ⟨row_below h ((Below.refl _ _).alloc (Nat.le_refl _) _), by have := S2.out.1.sz; simp; omega⟩
                have hc3 : Hid (m + 1 ≤ maxLen) := by have := hol.out; unfold Hid maxLen; omega
                have hc4 : Hid ((m + 1) * 72 ≤ 140737488355328) := by have := hol.out; unfold Hid; omega
                have HAp : Hid (Apt uo uq) := S2.out.1.fa
                obtain ⟨ki, kz0, kz1, kz2⟩ := HJ.out
                go_wp2_with (first | refine wpList_loadY rfl _ _ rfl _ _ rfl hld ?_ | (at_builtin; refine wpList_append_lies _ rfl _ _ 36 rfl (bx + 1) 31 j0 (.agg #[.int .u8 0, .int .i64 0, .int .i64 0, .int .i64 0, .int .i64 0, .int .u8 0, .int .u8 0, .int .u8 0, .int .u8 0, .int .u8 0, .int .u8 0, .int .u8 0, .int .u8 0, .string ByteArray.empty, .int .i64 0]) 15 72 Try.underlying36 ki kz0 kz1 kz2 rfl (by decide) uo m (flatZ o) rfl (HA.out _).1 _ 1 1 (sCel s) rfl rfl (cell_strokeB _ _ _ _ rfl) (oneZ s) (by decide) hc3.out hc4.out (HA.out _).2 _ rfl ?_))
                intro g4 cap4 w4 hown' hgrow hlies hg4
                as_aux_lemma =>
                  have HRel : Hid (AtW w bx px py l (k + 1) cs true (atO px py true s o) (.slice (some ⟨g4, 0, none⟩) (m + 1) cap4) uq w4) := by
                    obtain ⟨a1, a2, a3, a4, a5, a6, a7, a8, a9⟩ := S2.out.1
                    obtain ⟨b1, b2⟩ := grow_row (n := m + 1) (cap4 := cap4) a2 HAp.out hgrow hlies
                    have hB : Below w.heap.size w (w2.alloc (.cells (#[.int .u8 s.k, .int .i64 s.r.x, .int .i64 s.r.y, .int .i64 s.r.w, .int .i64 s.r.h, .int .u8 s.c.r, .int .u8 s.c.g, .int .u8 s.c.b, .int .u8 s.c.a, .int .u8 s.b.r, .int .u8 s.b.g, .int .u8 s.b.b, .int .u8 s.b.a, .string s.t, .int .i64 s.n]) 31)) := a4.alloc a4.size _
                    have b4 : Below w.heap.size w w4 := hB.grown hgrow hB.size (fun g hg => by have := (row_lt (HA.out (.cells (#[.int .u8 s.k, .int .i64 s.r.x, .int .i64 s.r.y, .int .i64 s.r.w, .int .i64 s.r.h, .int .u8 s.c.r, .int .u8 s.c.g, .int .u8 s.c.b, .int .u8 s.c.a, .int .u8 s.b.r, .int .u8 s.b.g, .int .u8 s.b.b, .int .u8 s.b.a, .string s.t, .int .i64 s.n]) 31)).1 g hg).1; have := HBX.out; omega)
                    refine ⟨?_, b1, b2, b4, ?_, by have := hgrow.size; simp at this ⊢; omega, HD.out, ?_, by omega⟩
                    · rw [HV.out]
                      exact snocS hom.out hown'
                    · exact Bk.grown (a5.below ((Below.refl _ _).alloc (Nat.le_refl _) _)) hgrow (fun e => by have := (row_lt (HA.out (.cells (#[.int .u8 s.k, .int .i64 s.r.x, .int .i64 s.r.y, .int .i64 s.r.w, .int .i64 s.r.h, .int .u8 s.c.r, .int .u8 s.c.g, .int .u8 s.c.b, .int .u8 s.c.a, .int .u8 s.b.r, .int .u8 s.b.g, .int .u8 s.b.b, .int .u8 s.b.a, .string s.t, .int .i64 s.n]) 31)).1 bx e).1; omega)
                    · rw [HV.out, List.length_append, List.length_singleton]
                      have := S2.out.1.ol; omega
                  clear hown' hgrow hlies hg4 HA S2 z0 z8 z13 hld
                  go_wp2
                  go_roundw
                  case rel => exact ⟨k + 1, cs, true, _, by go_num, by omega, rfl, HRel⟩
                  case measure => simp [intOf]; omega
    · obtain rfl : k = l.length := by omega
      have HF : Hid (OwS w.heap.size wr uo (atL px py l) ∧ Below w.heap.size w wr) := by
        have d := HK.out.fd
        rw [List.drop_length] at d
        have d : o = atL px py l := d
        rw [← d]
        exact ⟨HK.out.fo.weaken (by have := HBX.out; omega), HK.out.fb⟩
      clear HK
      go_wp2
      go_ret
      exact ⟨_, rfl, HF⟩

end Go.Proofs.Ytbghjmkgicdnoaa
