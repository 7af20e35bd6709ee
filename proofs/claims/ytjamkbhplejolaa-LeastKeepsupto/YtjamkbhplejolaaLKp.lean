/-
  The walk of LeastKeeps.
-/
import Derived.Test.YtjamkbhplejolaaLSv
namespace Go.Proofs.Ytjamkbhplejolaa
open Go.RowKit

/-- A list of numbers laid behind no list. -/
theorem app_firstI {P : Program} {w : World} {ops : Array Oper} {rest : List Oper} {o : Oper} {a : Act} {Q : Exit → Act → World → Prop} (hgd : o.guard = none) (s x : Operand)
    (ho : o.op = .call { callee := .builtin .append, args := #[s, x], argTypes := #[26, 26] })
    (i : TypeInfo) (ht : P.underlying 26 = some (.slice 3)) (hi : P.info? 3 = some i) (hz : i.zero = some (.int .i64 0))
    (hsize : i.size = 1) (hby : i.bytes = 8) (hs : a.eval s = .slice none 0 0) (L : List Int) (oa : Option Addr) (cap : Nat) (hx : a.eval x = .slice oa L.length cap) (hv : IS w (.slice oa L.length cap) L) (hn : NoNil (.slice oa L.length cap))
    (hl : L.length ≤ 2000000) (h : ∀ v' w', Hid (OwI w.heap.size w' v' L ∧ Below w.heap.size w w') → wpList P ops Q rest (a.put o.dst v') w') : wpList P ops Q (o :: rest) a w := by
  have hown : w.ownsRow w.heap.size 3 1 (.slice none 0 0) 0 [] := World.ownsRow_nil _ _ _ _
  cases oa with
  | none =>
    have h0 : L = [] := by
      obtain ⟨oa, cap', e, _, hg⟩ := hv
      cases L with
      | nil => rfl
      | cons r t =>
        obtain ⟨g, o, e2, _⟩ := hg (by simp)
        injection e with e1 _ _
        rw [e2] at e1
        cases e1
    subst h0
    obtain rfl : cap = 0 := hn cap rfl
    refine app_none hgd s x _ ho w.heap.size 3 i 1 ht hi (.slice none 0 0) 0 [] hs hown hx ?_
    rintro _ _ rfl rfl
    exact h _ _ ⟨hown, Below.refl _ _⟩
  | some ad =>
    refine wpList_append_own _ hgd s x _ ho w.heap.size 3 i (.int .i64 0) 1 8 ht hi hz hsize hby rfl (by decide) (.slice none 0 0) 0 [] hs hown ad L.length cap (flatI L) hx (by rw [flatI_len, Nat.mul_one]) ?_ (oneI L) (by unfold maxLen; omega) (by omega) (Nat.le_refl _) ?_
    · intro j u hj
      obtain ⟨oa, cap', e, _, hg⟩ := hv
      have hp : 0 < L.length := by
        cases L with
        | nil => simp [flatI] at hj
        | cons r t => simp
      obtain ⟨g, o, e2, _, hat⟩ := hg hp
      injection e with e1 _ _
      rw [e2] at e1
      injection e1 with e1
      subst e1
      exact is_src hat j u hj
    · intro v' w' h2 h3 _
      rw [Nat.zero_add, List.nil_append] at h2
      exact h v' w' ⟨h2, (Below.refl _ w).grown h3 (Nat.le_refl _) (fun g e => by cases e)⟩

set_option maxRecDepth 10000 in
set_option maxHeartbeats 8000000 in
theorem keeps_walk (at' : List Int) (L : List Bq) (most : Int) (u v : Value) (w : World) (hu : IS w u at') (hun : NoNil u) (hv : BS w v L) (hnn : NoNil v) (hl : L.length ≤ 1048576) (hl2 : at'.length ≤ 1048576) :
    Calls Try.prog 4 #[u, v, .int .i64 most] w fun e w' => e = .returned (.bool true) ∧ Below w.heap.size w w' := by
  have HA : Hid (Calls Try.prog 9 #[] w fun e w' => e = .returned (.bool true) ∧ Below w.heap.size w w') := awake_any w
  have HV : Hid (BS w v L ∧ NoNil v ∧ IS w u at' ∧ NoNil u) := ⟨hv, hnn, hu, hun⟩
  obtain ⟨oa, cap, rfl, hc, _⟩ := id hv
  obtain ⟨ox, cx, rfl, hcx, _⟩ := id hu
  have HLg : Hid (∀ W, Calls Try.prog 10 #[.int .i64 at'.length, .slice oa L.length cap] W fun e w' => e = .returned (.bool (larB at'.length L.length)) ∧ w' = W) := fun W => large_any at'.length oa L.length cap W
  have HLe : Hid (∀ W, Below w.heap.size w W → Calls Try.prog 11 #[.slice oa L.length cap] W fun e w' => ∃ u, e = .returned u ∧ Lent W.heap.size w'.heap.size w' u L ∧ Below W.heap.size W w') := fun W h => lent_any L _ W (hv.below h) hnn (by omega)
  have A1 : Hid (∀ W z y, IS W z at' → BS W y L → Calls Try.prog 21 #[z, y] W fun e w' => e = .returned (.tuple #[.int .i64 (kpN at' L), .int .i64 (kpE at' L)]) ∧ Below W.heap.size W w') := fun W z y h k => Keeps_any at' L z y W h k
  have A2 : Hid (∀ W z y, IS W z at' → BS W y L → Calls Try.prog 22 #[z, y] W fun e w' => e = .returned (.tuple #[.int .i64 (kpN at' L), .int .i64 (kpE at' L)]) ∧ Below W.heap.size W w') := fun W z y h k => rKeeps_any at' L z y W h k
  have A3 : Hid (∀ W y, BS W y L → Calls Try.prog 23 #[.int .i64 at'.length, y, .int .i64 most] W fun e w' => AnsI W (moL at'.length L most) (moE at'.length L most) e w') := fun W y h => Most_any at'.length L most y W h
  have A4 : Hid (∀ W y, BS W y L → Calls Try.prog 24 #[.int .i64 at'.length, y, .int .i64 most] W fun e w' => AnsI W (moL at'.length L most) (moE at'.length L most) e w') := fun W y h => rMost_any at'.length L most y W h
  have A7 : Hid (∀ W u y xs, xs.length ≤ 1048576 → IS W u xs → IS W y xs → Calls Try.prog 18 #[u, y] W fun e w' => e = .returned (.bool true) ∧ Below W.heap.size W w') := fun W u y xs hl h k => by
    have q := same_any xs xs u y W h k (by omega)
    rw [decide_eq_true rfl] at q
    exact q
  have A8 : Hid (∀ W lo hi u, Below w.heap.size w W → Lent lo hi W u L → Calls Try.prog 20 #[u, .slice oa L.length cap] W fun e w' => e = .returned (.bool true) ∧ Below W.heap.size W w') := fun W lo hi u h k => keptQ_any lo hi L u _ W k (hv.below h) (by omega)
  have A9 : Hid (∀ W lo hi u xs, xs.length ≤ 4096 → lo ≤ W.heap.size → RwI lo hi W u xs → Calls Try.prog 19 #[u] W fun e w' => e = .returned (.tuple #[]) ∧ W.grownBy w' u.ownBlock) := fun W lo hi u xs hl hlo k => spoil_any lo xs u W k.1 hlo (by omega)
  have HL1 : Hid ((moL at'.length L most).length ≤ 4096) := mo_len at'.length L most
  generalize kpN at' L = kn at *
  generalize kpE at' L = ke at *
  generalize moL at'.length L most = xs at *
  generalize moE at'.length L most = er at *
  obtain ⟨i0, hi, hz0, hz1, hz2⟩ := info_parts info_int
  clear hv hnn hu hun
  cases hlg : larB at'.length L.length
  · rw [hlg] at HLg
    clear hlg
    go_enter Try.func4, Try.ntmps4
    go_wp2_with fail
    refine HA.out.mono ?_
    rintro e w1 ⟨rfl, hb1⟩
    have F1 : Hid (Below w.heap.size w w1) := hb1
    clear hb1
    go_wp2_with fail
    refine (HLg.out _).mono ?_
    rintro e w1' ⟨rfl, rfl⟩
    go_wp2_with fail
    refine (HLe.out _ F1.out).mono ?_
    rintro e w2 ⟨vm, rfl, hm2, hb2⟩
    have F2 : Hid (Below w.heap.size w w2 ∧ Lent w1'.heap.size w2.heap.size w2 vm L) := ⟨bel_tr F1.out hb2, hm2⟩
    have HX2 : Hid (IS w2 (.slice ox at'.length cx) at' ∧ NoNil (.slice ox at'.length cx)) := ⟨HV.out.2.2.1.below F2.out.1, HV.out.2.2.2⟩
    clear hb2 hm2 F1 HLe
    go_wp2_with (at_builtin; refine app_firstI rfl _ _ rfl i0 Try.underlying26 hi hz0 hz1 hz2 rfl at' ox cx rfl HX2.out.1 HX2.out.2 (by omega) ?_)
    intro vp w3 H3
    have F3 : Hid (Below w.heap.size w w3 ∧ Lent w1'.heap.size w2.heap.size w3 vm L ∧ RwI w2.heap.size w3.heap.size w3 vp at' ∧ w.heap.size ≤ w2.heap.size ∧ w2.heap.size ≤ w3.heap.size) := ⟨bel_tr F2.out.1 H3.out.2, F2.out.2.below H3.out.2, rwi_of H3.out.1, F2.out.1.size, H3.out.2.size⟩
    clear H3 F2 HX2 hi hz0 hz1 hz2
    go_wp2_with fail
    refine (A1.out _ _ _ F3.out.2.2.1.1.is F3.out.2.1.bs).mono ?_
    rintro e w4 ⟨rfl, h4⟩
    have F4 : Hid (Below w.heap.size w w4 ∧ Lent w1'.heap.size w2.heap.size w4 vm L ∧ RwI w2.heap.size w3.heap.size w4 vp at' ∧ w.heap.size ≤ w2.heap.size ∧ w2.heap.size ≤ w3.heap.size ∧ w3.heap.size ≤ w4.heap.size) := ⟨bel_tr F3.out.1 h4, F3.out.2.1.below h4, F3.out.2.2.1.below h4, F3.out.2.2.2.1, F3.out.2.2.2.2, h4.size⟩
    clear h4 F3 A1
    go_wp2_with fail
    refine (A2.out _ _ _ (HV.out.2.2.1.below F4.out.1) (HV.out.1.below F4.out.1)).mono ?_
    rintro e w5 ⟨rfl, h5⟩
    have F5 : Hid (Below w.heap.size w w5 ∧ Lent w1'.heap.size w2.heap.size w5 vm L ∧ RwI w2.heap.size w3.heap.size w5 vp at' ∧ w.heap.size ≤ w2.heap.size ∧ w2.heap.size ≤ w3.heap.size ∧ w3.heap.size ≤ w5.heap.size) := ⟨bel_tr F4.out.1 h5, F4.out.2.1.below h5, F4.out.2.2.1.below h5, F4.out.2.2.2.1, F4.out.2.2.2.2.1, Nat.le_trans F4.out.2.2.2.2.2 h5.size⟩
    clear h5 F4 A2
    go_wp2_with fail
    refine (A3.out _ _ F5.out.2.1.bs).mono ?_
    rintro e w6 ⟨va, rfl, H6⟩
    have F6 : Hid (Below w.heap.size w w6 ∧ Lent w1'.heap.size w2.heap.size w6 vm L ∧ RwI w2.heap.size w3.heap.size w6 vp at' ∧ RwI w5.heap.size w6.heap.size w6 va xs ∧ w.heap.size ≤ w2.heap.size ∧ w2.heap.size ≤ w3.heap.size ∧ w3.heap.size ≤ w5.heap.size ∧ w5.heap.size ≤ w6.heap.size) := ⟨bel_tr F5.out.1 H6.out.2, F5.out.2.1.below H6.out.2, F5.out.2.2.1.below H6.out.2, rwi_of H6.out.1, F5.out.2.2.2.1, F5.out.2.2.2.2.1, F5.out.2.2.2.2.2, H6.out.2.size⟩
    clear H6 F5 A3
    go_wp2_with fail
    refine (A4.out _ _ (HV.out.1.below F6.out.1)).mono ?_
    rintro e w7 ⟨vg, rfl, H7⟩
    obtain ⟨f1, f2, f3, f4, f5, f6, f7, f8⟩ := F6.out
    have G0 : Hid (w.heap.size ≤ w2.heap.size ∧ w2.heap.size ≤ w3.heap.size ∧ w3.heap.size ≤ w5.heap.size ∧ w5.heap.size ≤ w6.heap.size ∧ w6.heap.size ≤ w7.heap.size) := ⟨f5, f6, f7, f8, H7.out.2.size⟩
    have F7 : Hid (Below w.heap.size w w7 ∧ Lent w1'.heap.size w2.heap.size w7 vm L ∧ RwI w2.heap.size w3.heap.size w7 vp at' ∧ RwI w5.heap.size w6.heap.size w7 va xs ∧ IS w7 vg xs) := ⟨bel_tr f1 H7.out.2, f2.below H7.out.2, f3.below H7.out.2, f4.below H7.out.2, H7.out.1.is⟩
    clear H7 F6 A4 f1 f2 f3 f4 f5 f6 f7 f8
    generalize w1'.heap.size = s1 at *
    generalize w2.heap.size = s2 at *
    generalize w3.heap.size = s3 at *
    generalize w5.heap.size = s5 at *
    generalize w6.heap.size = s6 at *
    go_wp2_with fail
    refine (A7.out _ _ _ xs (by have := HL1.out; omega) F7.out.2.2.2.1.1.is F7.out.2.2.2.2).mono ?_
    rintro e w8 ⟨rfl, h8⟩
    have F8 : Hid (Below w.heap.size w w8 ∧ Lent s1 s2 w8 vm L ∧ RwI s2 s3 w8 vp at' ∧ RwI s5 s6 w8 va xs ∧ s6 ≤ w8.heap.size) := ⟨bel_tr F7.out.1 h8, F7.out.2.1.below h8, F7.out.2.2.1.below h8, F7.out.2.2.2.1.below h8, Nat.le_trans G0.out.2.2.2.2 h8.size⟩
    clear h8 F7
    obtain ⟨oaa, caa, e1, _, _⟩ := F8.out.2.2.2.1.1.is
    subst e1
    go_wp2_with fail
    refine (A9.out _ s5 s6 _ xs HL1.out (by have := F8.out.2.2.2.2; have := G0.out; omega) F8.out.2.2.2.1).mono ?_
    rintro e w9 ⟨rfl, h9⟩
    have F9 : Hid (Below w.heap.size w w9 ∧ Lent s1 s2 w9 vm L ∧ RwI s2 s3 w9 vp at') := by
      obtain ⟨f1, f2, f3, f4, f5⟩ := F8.out
      have g := G0.out
      exact ⟨grow_belowI f1 f4 (by omega) f1.size h9, f2.kept f4 (by omega) h9, f3.kept f4 (.inl (by omega)) h9⟩
    clear h9 F8
    go_wp2_with fail
    refine (A8.out _ s1 s2 _ F9.out.1 F9.out.2.1).mono ?_
    rintro e w10 ⟨rfl, h10⟩
    have F10 : Hid (Below w.heap.size w w10 ∧ IS w10 vp at') := ⟨bel_tr F9.out.1 h10, (F9.out.2.2.below h10).1.is⟩
    clear h10 F9
    go_wp2_with fail
    refine (A7.out _ _ _ at' hl2 F10.out.2 (HV.out.2.2.1.below F10.out.1)).mono ?_
    rintro e w11 ⟨rfl, h11⟩
    have F11 : Hid (Below w.heap.size w w11) := bel_tr F10.out.1 h11
    clear h11 F10
    go_wp2
    go_ret
    exact ⟨rfl, F11.out⟩
  · rw [hlg] at HLg
    clear hlg
    go_enter Try.func4, Try.ntmps4
    go_wp2_with fail
    refine HA.out.mono ?_
    rintro e w1 ⟨rfl, hb1⟩
    have F1 : Hid (Below w.heap.size w w1) := hb1
    clear hb1
    go_wp2_with fail
    refine (HLg.out _).mono ?_
    rintro e w1' ⟨rfl, rfl⟩
    go_wp2
    go_ret
    exact ⟨rfl, F1.out⟩

end Go.Proofs.Ytjamkbhplejolaa
