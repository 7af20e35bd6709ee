/-
  Texts of this claim, one behind the other: what each is about stands ahead of it.
-/
import Derived.Test.YtcahdmfmcojaoaaGreatDoorK23
import Derived.Test.YtcahdmfmcojaoaaGreatDoorK7
import Derived.Test.YtcahdmfmcojaoaaGreatDoorK11
import Derived.Test.YtcahdmfmcojaoaaGreatDoorK19
/-
  Package cells: Runs of two screens that may be, of one size.
-/
namespace Go.Proofs.YtcahdmfmcojaoaaGreatDoor
open Go.RowKit

def orI (x y : Int) : Int := if x = 0 then y else x
set_option maxHeartbeats 2000000 in
theorem or2_any (x y : Int) (g : Nat) (w : World) (hg : Bk w g #[.int .i64 x, .int .i64 y] 35) : Calls Tryz.prog 54 #[.slice (some ⟨g, 0, none⟩) 2 2] w fun e w' => e = .returned (.int .i64 (orI x y)) ∧ w' = w := by
  have c0 := (Bk.at2 hg).1
  have c1 := (Bk.at2 hg).2
  clear hg
  go_enter Tryz.func54, Tryz.ntmps54
  go_wp2_with fail
  go_loopw [5, 8] (fun _ i wr => ∃ k : Nat, k ≤ 2 ∧ i = .int .i64 k ∧ wr = w ∧ Hid ((0 < k → x = 0) ∧ (1 < k → y = 0))) (fun _ i _ => 2 - (intOf i).toNat)
  case atStart => exact ⟨0, Nat.zero_le _, rfl, rfl, ⟨fun h => absurd h (by omega), fun h => absurd h (by omega)⟩⟩
  case round =>
    obtain ⟨k, hk, rfl, rfl, HK⟩ := hrel
    obtain rfl | rfl | rfl : k = 0 ∨ k = 1 ∨ k = 2 := by omega
    · clear HK
      by_cases e : x = 0
      · subst e
        go_wp2
        exact ⟨⟨1, by omega, by go_num, trivial, ⟨fun _ => trivial, fun h => absurd h (by omega)⟩⟩, by simp [intOf]⟩
      · have c2 : (x != 0) = true := by simpa using e
        have HE : Hid (orI x y = x) := by unfold Hid orI; rw [if_neg e]
        clear e
        go_wp2
        go_ret
        exact ⟨by rw [HE.out]; rfl, rfl⟩
    · have hx := HK.out.1 (by omega)
      subst hx
      clear HK
      by_cases e : y = 0
      · subst e
        go_wp2
        exact ⟨⟨2, by omega, by go_num, trivial, ⟨fun _ => trivial, fun _ => trivial⟩⟩, by simp [intOf]⟩
      · have c2 : (y != 0) = true := by simpa using e
        have HE : Hid (orI 0 y = y) := rfl
        clear e
        go_wp2
        go_ret
        exact ⟨by rw [HE.out]; rfl, rfl⟩
    · have HE : Hid (orI x y = 0) := by unfold Hid orI; rw [if_pos (HK.out.1 (by omega)), HK.out.2 (by omega)]
      clear HK
      go_wp2
      go_ret
      exact ⟨by rw [HE.out]; rfl, rfl⟩

def rowL (a : Nat) (l : List Ce) (y : Nat) : List Ce := (l.drop (y * a)).take a
def rnL (a : Nat) (la lb : List Ce) : Nat → List Ru
  | 0 => []
  | y + 1 => rnL a la lb y ++ unL (rowL a la y) (rowL a lb y) y

theorem eql_size (x y : Int) (w : World) : (binOp .neq 23 (.agg #[.int .i64 x, .int .i64 y]) (.agg #[.int .i64 x, .int .i64 y])).run Tryz.prog w = .ok (.bool false) w := by
  simp [go_sem]

set_option maxRecDepth 20000 in
set_option maxHeartbeats 8000000 in
theorem runs_ok (a b : Nat) (la lb : List Ce) (ga oa ca gb ob cb n : Nat) (w : World) (ha : LsC w (.slice (some ⟨ga, oa, none⟩) n ca) la) (hb : LsC w (.slice (some ⟨gb, ob, none⟩) n cb) lb) (na : n = la.length) (nb : n = lb.length) (sa : scE a b la = 0) (sb : scE a b lb = 0) (h0 : 0 < a) (T : Tabs w) :
    Calls Tryz.prog 20 #[.agg #[.int .i64 (a : Nat), .int .i64 (b : Nat), .slice (some ⟨ga, oa, none⟩) n ca], .agg #[.int .i64 (a : Nat), .int .i64 (b : Nat), .slice (some ⟨gb, ob, none⟩) n cb]] w fun e w' => ∃ u R, e = .returned (.tuple #[u, .int .i64 0]) ∧ Hid (UnM w R u w' ∧ R.map Prod.fst = rnL a la lb b) := by
  have hs : szB a b = true ∧ (n : Int) = a * b := by
    unfold scE at sa
    split at sa
    · rename_i h; rw [na]; exact ⟨h.1, h.2.1⟩
    · cases sa
  obtain ⟨hs, hnm⟩ := hs
  obtain ⟨s1, s2, s3, s4, s5⟩ := szB_iff.1 hs
  have hnb : n ≤ 262144 := by omega
  have hnat : n = a * b := by
    have : ((a * b : Nat) : Int) = (a : Int) * b := by simp
    omega
  have HA : Hid (∀ W, Below w.heap.size w W → LsC W (.slice (some ⟨ga, oa, none⟩) n ca) la ∧ LsC W (.slice (some ⟨gb, ob, none⟩) n cb) lb ∧ Tabs W) := fun W h => ⟨ha.below h, hb.below h, T.below h⟩
  have HC0 : Hid (∀ v W, Below w.heap.size w W → (v = .slice (some ⟨ga, oa, none⟩) n ca ∨ v = .slice (some ⟨gb, ob, none⟩) n cb) → Calls Tryz.prog 23 #[.agg #[.int .i64 (a : Nat), .int .i64 (b : Nat), v]] W fun e w' => e = .returned (.int .i64 0) ∧ Below W.heap.size W w') := fun v W h hv => by
    rcases hv with rfl | rfl
    · have := checkC_any a b la _ W (ha.below h) (by omega) (T.below h)
      rw [sa] at this
      exact this
    · have := checkC_any a b lb _ W (hb.below h) (by omega) (T.below h)
      rw [sb] at this
      exact this
  have hcap : n ≤ ca ∧ n ≤ cb := by
    obtain ⟨_, c1, e1, h1, _⟩ := ha
    obtain ⟨_, c2, e2, h2, _⟩ := hb
    injection e1 with _ _ e1
    injection e2 with _ _ e2
    omega
  have HRa : Hid (∀ (y : Nat) W, y < b → Calls Tryz.prog 28 #[.agg #[.int .i64 (a : Nat), .int .i64 (b : Nat), .slice (some ⟨ga, oa, none⟩) n ca], .int .i64 y] W fun e w' => e = .returned (.slice (some ⟨ga, oa + y * a * 11, none⟩) a (ca - y * a)) ∧ Below W.heap.size W w') := fun y W hy => rowC_any a b y ga oa n ca W hs hnm hcap.1 (by omega) (by omega) (by omega) (y * a) (by simp) a rfl
  have HRb : Hid (∀ (y : Nat) W, y < b → Calls Tryz.prog 28 #[.agg #[.int .i64 (a : Nat), .int .i64 (b : Nat), .slice (some ⟨gb, ob, none⟩) n cb], .int .i64 y] W fun e w' => e = .returned (.slice (some ⟨gb, ob + y * a * 11, none⟩) a (cb - y * a)) ∧ Below W.heap.size W w') := fun y W hy => rowC_any a b y gb ob n cb W hs hnm hcap.2 (by omega) (by omega) (by omega) (y * a) (by simp) a rfl
  have hra : ∀ (y : Nat), y < b → y * a + a ≤ n := fun y hy => by
    rw [hnat]
    calc y * a + a = (y + 1) * a := by rw [Nat.succ_mul]
      _ ≤ b * a := Nat.mul_le_mul_right a hy
      _ = a * b := Nat.mul_comm _ _
  have HSub : Hid (∀ (y : Nat), y < b → LsC w (.slice (some ⟨ga, oa + y * a * 11, none⟩) a (ca - y * a)) (rowL a la y) ∧ LsC w (.slice (some ⟨gb, ob + y * a * 11, none⟩) a (cb - y * a)) (rowL a lb y) ∧ (rowL a la y).length = a ∧ (rowL a lb y).length = a) := fun y hy => by
    have h1 := hra y hy
    have k1 := lsC_sub (k := y * a) (m := y * a + a) ha na (by omega) h1 rfl
    have k2 := lsC_sub (k := y * a) (m := y * a + a) hb nb (by omega) h1 rfl
    rw [Nat.add_sub_cancel_left] at k1 k2
    exact ⟨k1, k2, by simp [rowL]; omega, by simp [rowL]; omega⟩
  have HLa : Hid (∀ W0, Below w.heap.size w W0 → ∀ R : List (Ru × Value), ∀ u W (y : Nat), y < b → UnM W0 R u W → R.length ≤ 600000 → Calls Tryz.prog 55 #[u, .slice (some ⟨ga, oa + y * a * 11, none⟩) a (ca - y * a), .slice (some ⟨gb, ob + y * a * 11, none⟩) a (cb - y * a), .int .i64 y] W fun e w' => ∃ u' R', e = .returned u' ∧ Hid (UnM W0 R' u' w' ∧ R'.map Prod.fst = R.map Prod.fst ++ unL (rowL a la y) (rowL a lb y) y ∧ R'.length ≤ R.length + (rowL a la y).length)) := fun W0 h0 R u W y hy hU hR => by
    obtain ⟨q1, q2, q3, q4⟩ := HSub.out y hy
    exact unl_any W0 R u _ _ _ _ y W hU (q1.below h0) (q2.below h0) (by omega) (by omega) hR
  have HLen : Hid (∀ y : Nat, y < b → (rowL a la y).length = a) := fun y hy => (HSub.out y hy).2.2.1
  have HNb : Hid (∀ y : Nat, y < b → y * a + a ≤ 262144) := fun y hy => by have := hra y hy; omega
  have HB0 : Hid (∀ W, W = (w.alloc (.cells #[.int .i64 (a : Nat), .int .i64 (b : Nat), .slice (some ⟨ga, oa, none⟩) n ca] 26)).alloc (.cells #[.int .i64 (a : Nat), .int .i64 (b : Nat), .slice (some ⟨gb, ob, none⟩) n cb] 26) → Bk W w.heap.size #[.int .i64 (a : Nat), .int .i64 (b : Nat), .slice (some ⟨ga, oa, none⟩) n ca] 26 ∧ Bk W (w.heap.size + 1) #[.int .i64 (a : Nat), .int .i64 (b : Nat), .slice (some ⟨gb, ob, none⟩) n cb] 26 ∧ Below w.heap.size w W) := fun W hW => by
    have k2 := Bk.new (w.alloc (.cells #[.int .i64 (a : Nat), .int .i64 (b : Nat), .slice (some ⟨ga, oa, none⟩) n ca] 26)) #[.int .i64 (a : Nat), .int .i64 (b : Nat), .slice (some ⟨gb, ob, none⟩) n cb] 26
    simp only [World.size_alloc] at k2
    subst hW
    exact ⟨(Bk.new w _ _).below ((Below.refl _ _).alloc (Nat.le_refl _) _), k2, ((Below.refl _ w).alloc (Nat.le_refl _) _).alloc (by simp) _⟩
  have HNm : Hid (∀ y : Nat, y < b → y * a + a ≤ (y + 1) * a ∧ (y + 1) * a ≤ 262144) := fun y hy => by have := hra y hy; rw [Nat.succ_mul]; omega
  have HE := eql_size a b
  clear ha hb na nb sa sb T hs hnm hcap hra HSub hnat s1 s2 s3 s5
  go_enter Tryz.func20, Tryz.ntmps20
  go_wp2_with fail
  obtain ⟨W1, hW1⟩ : ∃ W1, W1 = (w.alloc (.cells #[.int .i64 (a : Nat), .int .i64 (b : Nat), .slice (some ⟨ga, oa, none⟩) n ca] 26)).alloc (.cells #[.int .i64 (a : Nat), .int .i64 (b : Nat), .slice (some ⟨gb, ob, none⟩) n cb] 26) := ⟨_, rfl⟩
  have H1 : Hid (Bk W1 w.heap.size #[.int .i64 (a : Nat), .int .i64 (b : Nat), .slice (some ⟨ga, oa, none⟩) n ca] 26 ∧ Bk W1 (w.heap.size + 1) #[.int .i64 (a : Nat), .int .i64 (b : Nat), .slice (some ⟨gb, ob, none⟩) n cb] 26 ∧ Below w.heap.size w W1) := HB0.out W1 hW1
  rw [← hW1]
  clear hW1 HB0
  obtain ⟨sb, hsb⟩ : ∃ sb, sb = w.heap.size := ⟨_, rfl⟩
  have H2 : Hid (Bk W1 sb #[.int .i64 (a : Nat), .int .i64 (b : Nat), .slice (some ⟨ga, oa, none⟩) n ca] 26 ∧ Bk W1 (sb + 1) #[.int .i64 (a : Nat), .int .i64 (b : Nat), .slice (some ⟨gb, ob, none⟩) n cb] 26 ∧ Below w.heap.size w W1) := by rw [hsb]; exact H1
  rw [← hsb]
  clear H1 hsb
  refine R4.wp_region_lit 4 1 2 (fun _ q => .slice (some ⟨q, 0, none⟩) 2 2) (fun _ => .cells #[.int .i64 0, .int .i64 0] 35) [13] (by kernel_rfl) (by kernel_rfl) rfl (fun k hk => by obtain rfl : k = 0 := (by omega); kernel_rfl) rfl ?_
  apply Exists.intro
  refine ⟨fun bs ne => ?_, ?_, ?_⟩
  · have x0 := fun tt : Gb W1 bs => (Bk.at3S (H2.out.1.below tt.below)).1
    have x1 := fun tt : Gb W1 bs => (Bk.at3S (H2.out.1.below tt.below)).2.1
    have x2 := fun tt : Gb W1 bs => (Bk.at3S (H2.out.1.below tt.below)).2.2
    have y0 := fun tt : Gb W1 bs => (Bk.at3S (H2.out.2.1.below tt.below)).1
    have y1 := fun tt : Gb W1 bs => (Bk.at3S (H2.out.2.1.below tt.below)).2.1
    have y2 := fun tt : Gb W1 bs => (Bk.at3S (H2.out.2.1.below tt.below)).2.2
    simp only [List.take_succ_cons, List.take_zero]
    repeat (go_big_quiet_step (first | (go_at_call 23; exact gb_call (HC0.out _ _ (H2.out.2.2.trans ((Gb.below _).mono H2.out.2.2.size)) (by first | exact .inl rfl | exact .inr rfl)))))
    exact wpQuiet_nil rfl
  · intro i h1 h2
    obtain rfl : i = 4 := by omega
    exact ⟨_, rfl, rfl, fun W => by simp [go_sem]⟩
  · intro bl wx hbl hbl2 _
    have HX : Hid (Bk wx sb #[.int .i64 (a : Nat), .int .i64 (b : Nat), .slice (some ⟨ga, oa, none⟩) n ca] 26 ∧ Bk wx (sb + 1) #[.int .i64 (a : Nat), .int .i64 (b : Nat), .slice (some ⟨gb, ob, none⟩) n cb] 26 ∧ Below w.heap.size w wx) := ⟨H2.out.1.below hbl, H2.out.2.1.below hbl, H2.out.2.2.trans (hbl.mono H2.out.2.2.size)⟩
    have HO : Hid (Bk wx (bl 4) #[.int .i64 0, .int .i64 0] 35) := (hbl2 4 (by omega) (by omega)).2
    simp only [R4.layL]
    clear hbl hbl2 H2
    refine wpAny_one 5 (by kernel_rfl) rfl ?_
    intro K hK
    go_simp
    refine (or2_any 0 0 _ wx HO.out).mono ?_
    rintro e w' ⟨rfl, rfl⟩
    refine hK _ _ ?_
    clear hK K
    refine wpAny_one 6 (by kernel_rfl) rfl ?_
    intro K hK
    go_simp
    refine hK _ _ ?_
    clear hK K HO
    generalize bl 4 = ob4 at *
    refine wpAny_done (by kernel_rfl) ?_ _
    have ho : orI 0 0 = 0 := rfl
    rw [ho]
    clear ho
    obtain ⟨x0, x1, x2⟩ := Bk.at3S HX.out.1
    obtain ⟨y0, y1, y2⟩ := Bk.at3S HX.out.2.1
    go_wp2_with fail
    have HW : Hid (∀ W, Below w'.heap.size w' W → Bk W sb #[.int .i64 (a : Nat), .int .i64 (b : Nat), .slice (some ⟨ga, oa, none⟩) n ca] 26 ∧ Bk W (sb + 1) #[.int .i64 (a : Nat), .int .i64 (b : Nat), .slice (some ⟨gb, ob, none⟩) n cb] 26) := fun W h => ⟨HX.out.1.below h, HX.out.2.1.below h⟩
    have HL2 := show Hid _ from HLa.out w' HX.out.2.2
    have HBw : Hid (Below w.heap.size w w') := HX.out.2.2
    have H0 : Hid (UnM w' [] (.slice none 0 0) w') := ⟨World.ownsRow_nil _ _ _ _, (fun p hp => by cases hp), Below.refl _ _⟩
    clear HX x0 x1 x2 y0 y1 y2 HLa
    rename World => wq
    go_loopw [7, 26] (fun ua i wr => ∃ (u : Value) (R : List (Ru × Value)) (k : Nat), u = ua ∧ k ≤ b ∧ i = .int .i64 k ∧ Hid (UnM wq R u wr ∧ R.map Prod.fst = rnL a la lb k ∧ R.length ≤ k * a)) (fun _ i _ => b - (intOf i).toNat)
    case atStart => exact ⟨_, [], 0, rfl, Nat.zero_le _, rfl, H0.out, rfl, by simp⟩
    case round =>
      obtain ⟨u, R, k, rfl, hk, rfl, HK⟩ := hrel
      clear H0
      by_cases hlt : k < b
      · have ik : (k : Int) < b := by omega
        have H1 : Hid (Bk wr sb #[.int .i64 (a : Nat), .int .i64 (b : Nat), .slice (some ⟨ga, oa, none⟩) n ca] 26 ∧ Bk wr (sb + 1) #[.int .i64 (a : Nat), .int .i64 (b : Nat), .slice (some ⟨gb, ob, none⟩) n cb] 26) := HW.out wr HK.out.1.b
        have HNx := show Hid _ from HNm.out k hlt
        have HLx := show Hid _ from HLen.out k hlt
        go_wp2_with fail
        refine R4.wp_region_lit 8 0 2 (fun _ _ => undef) (fun _ => .cells #[] 0) [] (by kernel_rfl) (by kernel_rfl) rfl (fun k hk => absurd hk (by omega)) rfl ?_
        apply Exists.intro
        refine ⟨fun bs ne => ?_, fun i h1 h2 => absurd h2 (by omega), ?_⟩
        · have x0 := fun tt : Gb wr bs => (Bk.at3S (H1.out.1.below tt.below)).1
          have x1 := fun tt : Gb wr bs => (Bk.at3S (H1.out.1.below tt.below)).2.1
          have x2 := fun tt : Gb wr bs => (Bk.at3S (H1.out.1.below tt.below)).2.2
          have y0 := fun tt : Gb wr bs => (Bk.at3S (H1.out.2.below tt.below)).1
          have y1 := fun tt : Gb wr bs => (Bk.at3S (H1.out.2.below tt.below)).2.1
          have y2 := fun tt : Gb wr bs => (Bk.at3S (H1.out.2.below tt.below)).2.2
          simp only [List.take_succ_cons, List.take_zero]
          iterate 3 (go_big_quiet_step (fail))
          go_big_quiet_step (first | (go_at_call 28; exact gb_call (HRa.out k _ hlt)))
          iterate 2 (go_big_quiet_step (fail))
          go_big_quiet_step (first | (go_at_call 28; exact gb_call (HRb.out k _ hlt)))
          go_big_quiet_step (fail)
          exact wpQuiet_nil rfl
        · intro bl wx hbl _ _
          have HU : Hid (UnM wq R u wx) := HK.out.1.below hbl
          have hRl : R.length ≤ 600000 := by
            have h1 := HK.out.2.2
            have h2 := HNx.out
            omega
          simp only [R4.layL]
          clear hbl
          refine wpAny_one 8 (by kernel_rfl) rfl ?_
          intro K hK
          go_simp
          refine (HL2.out R u wx k hlt HU.out hRl).mono ?_
          rintro e w5 ⟨u5, R5, rfl, H5⟩
          refine hK _ _ ?_
          clear hK K
          refine wpAny_one 9 (by kernel_rfl) rfl ?_
          intro K hK
          go_simp
          refine hK _ _ ?_
          clear hK K
          refine wpAny_done (by kernel_rfl) ?_ _
          have HRel : Hid (UnM wq R5 u5 w5 ∧ R5.map Prod.fst = rnL a la lb (k + 1) ∧ R5.length ≤ (k + 1) * a) := by
            obtain ⟨h1, h2, h3⟩ := H5.out
            refine ⟨h1, by rw [h2, HK.out.2.1]; rfl, ?_⟩
            have h4 := HK.out.2.2
            have h5 := HLx.out
            rw [Nat.succ_mul]
            omega
          clear H5 HK HU H1
          go_wp2
          go_roundw
          case rel => exact ⟨u5, R5, k + 1, rfl, by omega, by go_num, HRel⟩
          case measure => simp [intOf]; omega
      · obtain rfl : k = b := by omega
        have HF : Hid (UnM w R u wr ∧ R.map Prod.fst = rnL a la lb k) := by
          obtain ⟨h1, h2, h3⟩ := HK.out
          exact ⟨⟨row_weaken h1.o HBw.out.size, fun p hp => row_weaken (h1.c p hp) HBw.out.size, HBw.out.trans (h1.b.mono HBw.out.size)⟩, h2⟩
        clear HK
        go_wp2
        go_ret2
        exact ⟨u, R, rfl, HF⟩

end Go.Proofs.YtcahdmfmcojaoaaGreatDoor

/-
  Package cells: Text of a screen that may be, and is not empty.
-/
namespace Go.Proofs.YtcahdmfmcojaoaaGreatDoor
open Go.RowKit Go.Lib

def txtB (a : Nat) (l : List Ce) : Nat → List UInt8
  | 0 => []
  | y + 1 => txtB a l y ++ rowB (rowL a l y) (rowL a l y).length ++ [10]
theorem rowL_le (a : Nat) (l : List Ce) (y : Nat) : (rowL a l y).length ≤ a := by simp [rowL]; omega
theorem txtB_len (a : Nat) (l : List Ce) : ∀ y, (txtB a l y).length ≤ y * (4 * a + 1)
  | 0 => by simp [txtB]
  | y + 1 => by
    have h1 := txtB_len a l y
    have h2 := rowB_len (rowL a l y) (rowL a l y).length
    have h3 := rowL_le a l y
    rw [txtB, List.length_append, List.length_append, Nat.succ_mul]
    simp only [List.length_singleton]
    omega
theorem okr_of {l : List Ce} (h : okCs l = true) : ∀ c ∈ l, 0 ≤ c.r ∧ c.r ≤ 1114111 := fun c hc => by
  have h1 := List.all_eq_true.1 h c hc
  unfold okCe at h1
  rw [Bool.and_eq_true] at h1
  have h2 := h1.1
  unfold vldR at h2
  have := of_decide_eq_true h2
  omega

structure TxW (w : World) (b sb : Nat) (cs : Array Value) (a : Nat) (l : List Ce) (k : Nat) (wr : World) : Prop where
  bd : IsBd 74 [] w.heap.size b (Lib.byteCells (txtB a l k)) wr
  bx : Bk wr sb cs 26
  lo : Below w.heap.size w wr

set_option maxRecDepth 20000 in
set_option maxHeartbeats 8000000 in
theorem text_ok (a b : Nat) (l : List Ce) (g o c n : Nat) (w : World) (hv : LsC w (.slice (some ⟨g, o, none⟩) n c) l) (hn : n = l.length) (hE : scE a b l = 0) (h0 : 0 < a) (hb0 : 0 < b) (T : Tabs w) :
    Calls Tryz.prog 9 #[.agg #[.int .i64 (a : Nat), .int .i64 (b : Nat), .slice (some ⟨g, o, none⟩) n c]] w fun e w' => e = .returned (.tuple #[.string ⟨(txtB a l b).toArray⟩, .int .i64 0]) ∧ Below w.heap.size w w' := by
  have hs : szB a b = true ∧ (n : Int) = a * b ∧ okCs l = true := by
    unfold scE at hE
    split at hE
    · rename_i h; rw [hn]; exact h
    · cases hE
  obtain ⟨hs, hnm, hok⟩ := hs
  obtain ⟨s1, s2, s3, s4, s5⟩ := szB_iff.1 hs
  have hnb : n ≤ 262144 := by omega
  have hnat : n = a * b := by
    have : ((a * b : Nat) : Int) = (a : Int) * b := by simp
    omega
  have hra : ∀ (y : Nat), y < b → y * a + a ≤ n := fun y hy => by
    rw [hnat]
    calc y * a + a = (y + 1) * a := by rw [Nat.succ_mul]
      _ ≤ b * a := Nat.mul_le_mul_right a hy
      _ = a * b := Nat.mul_comm _ _
  have hcap : n ≤ c := by
    obtain ⟨_, c1, e1, h1, _⟩ := hv
    injection e1 with _ _ e1
    omega
  have HC : Hid (∀ W, Below w.heap.size w W → Calls Tryz.prog 23 #[.agg #[.int .i64 (a : Nat), .int .i64 (b : Nat), .slice (some ⟨g, o, none⟩) n c]] W fun e w' => e = .returned (.int .i64 0) ∧ Below W.heap.size W w') := fun W h => by
    have := checkC_any a b l _ W (hv.below h) (by omega) (T.below h)
    rw [hE] at this
    exact this
  have HRa : Hid (∀ (y : Nat) W, y < b → Calls Tryz.prog 28 #[.agg #[.int .i64 (a : Nat), .int .i64 (b : Nat), .slice (some ⟨g, o, none⟩) n c], .int .i64 y] W fun e w' => e = .returned (.slice (some ⟨g, o + y * a * 11, none⟩) a (c - y * a)) ∧ Below W.heap.size W w') := fun y W hy => rowC_any a b y g o n c W hs hnm hcap (by omega) (by omega) (by omega) (y * a) (by simp) a rfl
  have HSub : Hid (∀ (y : Nat), y < b → LsC w (.slice (some ⟨g, o + y * a * 11, none⟩) a (c - y * a)) (rowL a l y)) := fun y hy => by
    have h1 := hra y hy
    have k1 := lsC_sub (k := y * a) (m := y * a + a) hv hn (by omega) h1 rfl
    rw [Nat.add_sub_cancel_left] at k1
    exact k1
  have HWr : Hid (∀ (bb : Nat) (y : Nat) W, y < b → IsBd 74 [] w.heap.size bb (Lib.byteCells (txtB a l y)) W → Below w.heap.size w W → Calls Tryz.prog 27 #[.pointer (some ⟨bb, 0, none⟩), .slice (some ⟨g, o + y * a * 11, none⟩) a (c - y * a)] W fun e w' => e = .returned (.tuple #[]) ∧ WrW w bb (txtB a l y) (rowL a l y) (rowL a l y).length W w') := fun bb y W hy hI hB => by
    refine wrow_any w bb _ _ _ W (HSub.out y hy) (by have := rowL_le a l y; omega) (fun q hq => okr_of hok q (List.mem_of_mem_drop (List.mem_of_mem_take hq))) hB hI ?_
    have h1 := txtB_len a l y
    have h2 := hra y hy
    have h3 : y * (4 * a + 1) = 4 * (y * a) + y := by rw [Nat.mul_add, Nat.mul_one, Nat.mul_left_comm]
    omega
  have HLt : Hid (∀ y : Nat, y < b → (Lib.byteCells (txtB a l y ++ rowB (rowL a l y) (rowL a l y).length)).length + 1 ≤ 140737488355328) := fun y hy => by
    have h1 := txtB_len a l y
    have h2 := hra y hy
    have h3 : y * (4 * a + 1) = 4 * (y * a) + y := by rw [Nat.mul_add, Nat.mul_one, Nat.mul_left_comm]
    have h4 := rowB_len (rowL a l y) (rowL a l y).length
    have h5 := rowL_le a l y
    rw [Lib.byteCells_length, List.length_append]
    omega
  have HNe : Hid (txtB a l b ≠ []) := by
    obtain ⟨b', rfl⟩ : ∃ b', b = b' + 1 := ⟨b - 1, by omega⟩
    unfold Hid txtB
    simp
  have HB0 : Hid (∀ W, W = w.alloc (.cells #[.int .i64 (a : Nat), .int .i64 (b : Nat), .slice (some ⟨g, o, none⟩) n c] 26) → Bk W w.heap.size #[.int .i64 (a : Nat), .int .i64 (b : Nat), .slice (some ⟨g, o, none⟩) n c] 26 ∧ Below w.heap.size w W) := fun W hW => by
    subst hW
    exact ⟨Bk.new w _ _, (Below.refl _ w).alloc (Nat.le_refl _) _⟩
  clear hv hn hE T hs hnm hok hcap hra hnat s1 s2 s3 s5
  go_enter Tryz.func9, Tryz.ntmps9
  go_wp2_with fail
  obtain ⟨W1, hW1⟩ : ∃ W1, W1 = w.alloc (.cells #[.int .i64 (a : Nat), .int .i64 (b : Nat), .slice (some ⟨g, o, none⟩) n c] 26) := ⟨_, rfl⟩
  obtain ⟨sb, hsb⟩ : ∃ sb, sb = w.heap.size := ⟨_, rfl⟩
  have H1 : Hid (Bk W1 sb #[.int .i64 (a : Nat), .int .i64 (b : Nat), .slice (some ⟨g, o, none⟩) n c] 26 ∧ Below w.heap.size w W1) := by rw [hsb]; exact HB0.out W1 hW1
  rw [← hW1, ← hsb]
  clear hW1 HB0 hsb
  refine (HC.out _ H1.out.2).mono ?_
  rintro e W2 ⟨rfl, hb2⟩
  have H2 : Hid (∀ W, W = W2.alloc (.cells #[.pointer none, .slice none 0 0] 74) → TxW w W2.heap.size sb #[.int .i64 (a : Nat), .int .i64 (b : Nat), .slice (some ⟨g, o, none⟩) n c] a l 0 W ∧ sb < W2.heap.size) := fun W hW => by
    have k1 := H1.out.1.below hb2
    have k2 := H1.out.2.trans (hb2.mono H1.out.2.size)
    subst hW
    exact ⟨⟨.inl ⟨k2.size, _, Bk.new W2 _ _, World.ownsRowF_nil _ _ _ _, by simp [Value.ownBlock]⟩, k1.below ((Below.refl _ _).alloc (Nat.le_refl _) _), k2.alloc k2.size _⟩, k1.lt⟩
  obtain ⟨x0, x1, x2⟩ := Bk.at3S (H2.out _ rfl).1.bx
  clear H1 hb2 HC
  go_wp2_with fail
  obtain ⟨W3, hW3⟩ : ∃ W3, W3 = W2.alloc (.cells #[.pointer none, .slice none 0 0] 74) := ⟨_, rfl⟩
  obtain ⟨bb, hbb⟩ : ∃ bb, bb = W2.heap.size := ⟨_, rfl⟩
  have H3 : Hid (TxW w bb sb #[.int .i64 (a : Nat), .int .i64 (b : Nat), .slice (some ⟨g, o, none⟩) n c] a l 0 W3 ∧ sb < bb) := by rw [hbb]; exact H2.out W3 hW3
  rw [← hW3, ← hbb]
  clear hW3 hbb H2 x0 x1 x2
  go_loopw [15] (fun i wr => ∃ k : Nat, k ≤ b ∧ i = .int .i64 k ∧ Hid (TxW w bb sb #[.int .i64 (a : Nat), .int .i64 (b : Nat), .slice (some ⟨g, o, none⟩) n c] a l k wr)) (fun i _ => b - (RowKit.intOf i).toNat)
  case atStart => exact ⟨0, Nat.zero_le _, rfl, H3.out.1⟩
  case round =>
    obtain ⟨k, hk, rfl, HK⟩ := hrel
    by_cases hlt : k < b
    · have ik : (k : Int) < b := by omega
      obtain ⟨x0, x1, x2⟩ := Bk.at3S HK.out.bx
      go_wp2_with fail
      refine (HRa.out k _ hlt).mono ?_
      rintro e W4 ⟨rfl, hb4⟩
      have H4 : Hid (TxW w bb sb #[.int .i64 (a : Nat), .int .i64 (b : Nat), .slice (some ⟨g, o, none⟩) n c] a l k W4) := ⟨HK.out.bd.below hb4, HK.out.bx.below hb4, HK.out.lo.trans (hb4.mono HK.out.lo.size)⟩
      clear hb4 HK x0 x1 x2
      go_wp2_with fail
      refine (HWr.out bb k _ hlt H4.out.bd H4.out.lo).mono ?_
      rintro e W5 ⟨rfl, h5⟩
      have H5 : Hid (IsBd 74 [] w.heap.size bb (Lib.byteCells (txtB a l k ++ rowB (rowL a l k) (rowL a l k).length)) W5 ∧ Bk W5 sb #[.int .i64 (a : Nat), .int .i64 (b : Nat), .slice (some ⟨g, o, none⟩) n c] 26 ∧ Below w.heap.size w W5) := ⟨h5.bd, h5.kp.cell H4.out.bx (by have := H3.out.2; omega) (by decide), h5.lo⟩
      clear h5 H4
      go_wp2_with fail
      refine (dWriteByte_any 74 [] w.heap.size bb _ 10 _ bld_tyh H5.out.1 (HLt.out k hlt) H5.out.2.2.size).mono ?_
      rintro e W6 ⟨⟨u, rfl⟩, h6, k6⟩
      have H6 : Hid (TxW w bb sb #[.int .i64 (a : Nat), .int .i64 (b : Nat), .slice (some ⟨g, o, none⟩) n c] a l (k + 1) W6) := by
        refine ⟨.inr ?_, k6.cell H5.out.2.1 (by have := H3.out.2; omega) (by decide), H5.out.2.2.trans k6.bw⟩
        rw [txtB, show Lib.byteCells (txtB a l k ++ rowB (rowL a l k) (rowL a l k).length ++ [10]) = Lib.byteCells (txtB a l k ++ rowB (rowL a l k) (rowL a l k).length) ++ [.int .u8 10] by simp [Lib.byteCells]]
        exact h6
      clear h6 k6 H5
      go_wp2
      exact ⟨⟨k + 1, by omega, by go_num, H6⟩, by simp [RowKit.intOf]; omega⟩
    · obtain rfl : k = b := by omega
      go_wp2_with fail
      refine (dString_any 74 [] w.heap.size bb (txtB a l k) _ HK.out.bd HNe.out).mono ?_
      rintro e W4 ⟨rfl, hb4⟩
      have HF : Hid (Below w.heap.size w W4) := HK.out.lo.trans hb4
      clear hb4 HK
      go_wp2
      go_ret2
      exact ⟨rfl, HF.out⟩

end Go.Proofs.YtcahdmfmcojaoaaGreatDoor
