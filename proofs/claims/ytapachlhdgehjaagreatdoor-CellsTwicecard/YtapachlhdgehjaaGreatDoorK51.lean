/-
  Texts of this claim, one behind the other: what each is about stands ahead of it.
-/
import Derived.Test.YtapachlhdgehjaaGreatDoorK49
import Derived.Test.YtapachlhdgehjaaGreatDoorK50
import Derived.Lib.ItoaNum
import Derived.Lib.ItoaLen
import Derived.Lib.AppendIntMem
/-
  Package cells: Text of a screen that may be, and is not empty.
-/
namespace Go.Proofs.YtapachlhdgehjaaGreatDoor
open Go.RowKit Go.Lib

def txtB (a : Nat) (l : List Ce) : Nat → List UInt8
  | 0 => []
  | y + 1 => txtB a l y ++ rowB (rowL a l y) (rowL a l y).length ++ [10]
theorem rowL_le (a : Nat) (l : List Ce) (y : Nat) : (rowL a l y).length ≤ a := by simp [rowL]; omega
theorem txtB_len (a : Nat) (l : List Ce) : ∀ y, (txtB a l y).length ≤ y * (4 * a + 1)
  | 0 => by simp [txtB]
  | y + 1 => by
    have h1 := txtB_len a l y
    have h2 := rowB_len (rowL a l y) (rowL a l y).length
    have h3 := rowL_le a l y
    rw [txtB, List.length_append, List.length_append, Nat.succ_mul]
    simp only [List.length_singleton]
    omega
theorem okr_of {l : List Ce} (h : okCs l = true) : ∀ c ∈ l, 0 ≤ c.r ∧ c.r ≤ 1114111 := fun c hc => by
  have h1 := List.all_eq_true.1 h c hc
  unfold okCe at h1
  rw [Bool.and_eq_true] at h1
  have h2 := h1.1
  unfold vldR at h2
  have := of_decide_eq_true h2
  omega

structure TxW (w : World) (b sb : Nat) (cs : Array Value) (a : Nat) (l : List Ce) (k : Nat) (wr : World) : Prop where
  bd : IsBd 91 [] w.heap.size b (Lib.byteCells (txtB a l k)) wr
  bx : Bk wr sb cs 26
  lo : Below w.heap.size w wr

set_option maxRecDepth 20000 in
set_option maxHeartbeats 8000000 in
theorem text_ok (a b : Nat) (l : List Ce) (g o c n : Nat) (w : World) (hv : LsC w (.slice (some ⟨g, o, none⟩) n c) l) (hn : n = l.length) (hE : scE a b l = 0) (h0 : 0 < a) (hb0 : 0 < b) (T : Tabs w) :
    Calls Tryz.prog 22 #[.agg #[.int .i64 (a : Nat), .int .i64 (b : Nat), .slice (some ⟨g, o, none⟩) n c]] w fun e w' => e = .returned (.tuple #[.string ⟨(txtB a l b).toArray⟩, .int .i64 0]) ∧ Below w.heap.size w w' := by
  have hs : szB a b = true ∧ (n : Int) = a * b ∧ okCs l = true := by
    unfold scE at hE
    split at hE
    · rename_i h; rw [hn]; exact h
    · cases hE
  obtain ⟨hs, hnm, hok⟩ := hs
  obtain ⟨s1, s2, s3, s4, s5⟩ := szB_iff.1 hs
  have hnb : n ≤ 262144 := by omega
  have hnat : n = a * b := by
    have : ((a * b : Nat) : Int) = (a : Int) * b := by simp
    omega
  have hra : ∀ (y : Nat), y < b → y * a + a ≤ n := fun y hy => by
    rw [hnat]
    calc y * a + a = (y + 1) * a := by rw [Nat.succ_mul]
      _ ≤ b * a := Nat.mul_le_mul_right a hy
      _ = a * b := Nat.mul_comm _ _
  have hcap : n ≤ c := by
    obtain ⟨_, c1, e1, h1, _⟩ := hv
    injection e1 with _ _ e1
    omega
  have HC : Hid (∀ W, Below w.heap.size w W → Calls Tryz.prog 26 #[.agg #[.int .i64 (a : Nat), .int .i64 (b : Nat), .slice (some ⟨g, o, none⟩) n c]] W fun e w' => e = .returned (.int .i64 0) ∧ Below W.heap.size W w') := fun W h => by
    have := checkC_any a b l _ W (hv.below h) (by omega) (T.below h)
    rw [hE] at this
    exact this
  have HRa : Hid (∀ (y : Nat) W, y < b → Calls Tryz.prog 45 #[.agg #[.int .i64 (a : Nat), .int .i64 (b : Nat), .slice (some ⟨g, o, none⟩) n c], .int .i64 y] W fun e w' => e = .returned (.slice (some ⟨g, o + y * a * 11, none⟩) a (c - y * a)) ∧ Below W.heap.size W w') := fun y W hy => rowC_any a b y g o n c W hs hnm hcap (by omega) (by omega) (by omega) (y * a) (by simp) a rfl
  have HSub : Hid (∀ (y : Nat), y < b → LsC w (.slice (some ⟨g, o + y * a * 11, none⟩) a (c - y * a)) (rowL a l y)) := fun y hy => by
    have h1 := hra y hy
    have k1 := lsC_sub (k := y * a) (m := y * a + a) hv hn (by omega) h1 rfl
    rw [Nat.add_sub_cancel_left] at k1
    exact k1
  have HWr : Hid (∀ (bb : Nat) (y : Nat) W, y < b → IsBd 91 [] w.heap.size bb (Lib.byteCells (txtB a l y)) W → Below w.heap.size w W → Calls Tryz.prog 44 #[.pointer (some ⟨bb, 0, none⟩), .slice (some ⟨g, o + y * a * 11, none⟩) a (c - y * a)] W fun e w' => e = .returned (.tuple #[]) ∧ WrW w bb (txtB a l y) (rowL a l y) (rowL a l y).length W w') := fun bb y W hy hI hB => by
    refine wrow_any w bb _ _ _ W (HSub.out y hy) (by have := rowL_le a l y; omega) (fun q hq => okr_of hok q (List.mem_of_mem_drop (List.mem_of_mem_take hq))) hB hI ?_
    have h1 := txtB_len a l y
    have h2 := hra y hy
    have h3 : y * (4 * a + 1) = 4 * (y * a) + y := by rw [Nat.mul_add, Nat.mul_one, Nat.mul_left_comm]
    omega
  have HLt : Hid (∀ y : Nat, y < b → (Lib.byteCells (txtB a l y ++ rowB (rowL a l y) (rowL a l y).length)).length + 1 ≤ 140737488355328) := fun y hy => by
    have h1 := txtB_len a l y
    have h2 := hra y hy
    have h3 : y * (4 * a + 1) = 4 * (y * a) + y := by rw [Nat.mul_add, Nat.mul_one, Nat.mul_left_comm]
    have h4 := rowB_len (rowL a l y) (rowL a l y).length
    have h5 := rowL_le a l y
    rw [Lib.byteCells_length, List.length_append]
    omega
  have HNe : Hid (txtB a l b ≠ []) := by
    obtain ⟨b', rfl⟩ : ∃ b', b = b' + 1 := ⟨b - 1, by omega⟩
    unfold Hid txtB
    simp
  have HB0 : Hid (∀ W, W = w.alloc (.cells #[.int .i64 (a : Nat), .int .i64 (b : Nat), .slice (some ⟨g, o, none⟩) n c] 26) → Bk W w.heap.size #[.int .i64 (a : Nat), .int .i64 (b : Nat), .slice (some ⟨g, o, none⟩) n c] 26 ∧ Below w.heap.size w W) := fun W hW => by
    subst hW
    exact ⟨Bk.new w _ _, (Below.refl _ w).alloc (Nat.le_refl _) _⟩
  clear hv hn hE T hs hnm hok hcap hra hnat s1 s2 s3 s5
  go_enter Tryz.func22, Tryz.ntmps22
  go_wp2_with fail
  obtain ⟨W1, hW1⟩ : ∃ W1, W1 = w.alloc (.cells #[.int .i64 (a : Nat), .int .i64 (b : Nat), .slice (some ⟨g, o, none⟩) n c] 26) := ⟨_, rfl⟩
  obtain ⟨sb, hsb⟩ : ∃ sb, sb = w.heap.size := ⟨_, rfl⟩
  have H1 : Hid (Bk W1 sb #[.int .i64 (a : Nat), .int .i64 (b : Nat), .slice (some ⟨g, o, none⟩) n c] 26 ∧ Below w.heap.size w W1) := by rw [hsb]; exact HB0.out W1 hW1
  rw [← hW1, ← hsb]
  clear hW1 HB0 hsb
  refine (HC.out _ H1.out.2).mono ?_
  rintro e W2 ⟨rfl, hb2⟩
  have H2 : Hid (∀ W, W = W2.alloc (.cells #[.pointer none, .slice none 0 0] 91) → TxW w W2.heap.size sb #[.int .i64 (a : Nat), .int .i64 (b : Nat), .slice (some ⟨g, o, none⟩) n c] a l 0 W ∧ sb < W2.heap.size) := fun W hW => by
    have k1 := H1.out.1.below hb2
    have k2 := H1.out.2.trans (hb2.mono H1.out.2.size)
    subst hW
    exact ⟨⟨.inl ⟨k2.size, _, Bk.new W2 _ _, World.ownsRowF_nil _ _ _ _, by simp [Value.ownBlock]⟩, k1.below ((Below.refl _ _).alloc (Nat.le_refl _) _), k2.alloc k2.size _⟩, k1.lt⟩
  obtain ⟨x0, x1, x2⟩ := Bk.at3S (H2.out _ rfl).1.bx
  clear H1 hb2 HC
  go_wp2_with fail
  obtain ⟨W3, hW3⟩ : ∃ W3, W3 = W2.alloc (.cells #[.pointer none, .slice none 0 0] 91) := ⟨_, rfl⟩
  obtain ⟨bb, hbb⟩ : ∃ bb, bb = W2.heap.size := ⟨_, rfl⟩
  have H3 : Hid (TxW w bb sb #[.int .i64 (a : Nat), .int .i64 (b : Nat), .slice (some ⟨g, o, none⟩) n c] a l 0 W3 ∧ sb < bb) := by rw [hbb]; exact H2.out W3 hW3
  rw [← hW3, ← hbb]
  clear hW3 hbb H2 x0 x1 x2
  go_loopw [15] (fun i wr => ∃ k : Nat, k ≤ b ∧ i = .int .i64 k ∧ Hid (TxW w bb sb #[.int .i64 (a : Nat), .int .i64 (b : Nat), .slice (some ⟨g, o, none⟩) n c] a l k wr)) (fun i _ => b - (RowKit.intOf i).toNat)
  case atStart => exact ⟨0, Nat.zero_le _, rfl, H3.out.1⟩
  case round =>
    obtain ⟨k, hk, rfl, HK⟩ := hrel
    by_cases hlt : k < b
    · have ik : (k : Int) < b := by omega
      obtain ⟨x0, x1, x2⟩ := Bk.at3S HK.out.bx
      go_wp2_with fail
      refine (HRa.out k _ hlt).mono ?_
      rintro e W4 ⟨rfl, hb4⟩
      have H4 : Hid (TxW w bb sb #[.int .i64 (a : Nat), .int .i64 (b : Nat), .slice (some ⟨g, o, none⟩) n c] a l k W4) := ⟨HK.out.bd.below hb4, HK.out.bx.below hb4, HK.out.lo.trans (hb4.mono HK.out.lo.size)⟩
      clear hb4 HK x0 x1 x2
      go_wp2_with fail
      refine (HWr.out bb k _ hlt H4.out.bd H4.out.lo).mono ?_
      rintro e W5 ⟨rfl, h5⟩
      have H5 : Hid (IsBd 91 [] w.heap.size bb (Lib.byteCells (txtB a l k ++ rowB (rowL a l k) (rowL a l k).length)) W5 ∧ Bk W5 sb #[.int .i64 (a : Nat), .int .i64 (b : Nat), .slice (some ⟨g, o, none⟩) n c] 26 ∧ Below w.heap.size w W5) := ⟨h5.bd, h5.kp.cell H4.out.bx (by have := H3.out.2; omega) (by decide), h5.lo⟩
      clear h5 H4
      go_wp2_with fail
      refine (dWriteByte_any 91 [] w.heap.size bb _ 10 _ bld_tyh H5.out.1 (HLt.out k hlt) H5.out.2.2.size).mono ?_
      rintro e W6 ⟨⟨u, rfl⟩, h6, k6⟩
      have H6 : Hid (TxW w bb sb #[.int .i64 (a : Nat), .int .i64 (b : Nat), .slice (some ⟨g, o, none⟩) n c] a l (k + 1) W6) := by
        refine ⟨.inr ?_, k6.cell H5.out.2.1 (by have := H3.out.2; omega) (by decide), H5.out.2.2.trans k6.bw⟩
        rw [txtB, show Lib.byteCells (txtB a l k ++ rowB (rowL a l k) (rowL a l k).length ++ [10]) = Lib.byteCells (txtB a l k ++ rowB (rowL a l k) (rowL a l k).length) ++ [.int .u8 10] by simp [Lib.byteCells]]
        exact h6
      clear h6 k6 H5
      go_wp2
      exact ⟨⟨k + 1, by omega, by go_num, H6⟩, by simp [RowKit.intOf]; omega⟩
    · obtain rfl : k = b := by omega
      go_wp2_with fail
      refine (dString_any 91 [] w.heap.size bb (txtB a l k) _ HK.out.bd HNe.out).mono ?_
      rintro e W4 ⟨rfl, hb4⟩
      have HF : Hid (Below w.heap.size w W4) := HK.out.lo.trans hb4
      clear hb4 HK
      go_wp2
      go_ret2
      exact ⟨rfl, HF.out⟩

end Go.Proofs.YtapachlhdgehjaaGreatDoor

/-
  Package cells: how a teller writes: sequence, paint.
-/
namespace Go.Proofs.YtapachlhdgehjaaGreatDoor
open Go.RowKit Go.Shelf Go.Lib

def PwC (lo : Nat) (w : World) : Prop := Lib.TabBelow Tryz.prog lo w "internal/strconv.uint64pow10" .u64 Lib.pow10Tab
theorem PwC.on {lo : Nat} {w w1 : World} (h : PwC lo w) (hb : Below lo w w1) : PwC lo w1 := Lib.TabBelow.on h hb
theorem PwC.mono {lo lo2 : Nat} {w : World} (h : PwC lo w) (hl : lo ≤ lo2) : PwC lo2 w := fun w' hb => h w' (hb.mono hl)
theorem itoaD_any (B : Nat) (n : Int) (w : World) (h1 : -9223372036854775808 ≤ n) (h2 : n ≤ 9223372036854775807) (hP : PwC B w) :
    Calls Tryz.prog 116 #[.int .i64 n] w fun e w' => e = .returned (.string ⟨(Lib.itoa n).toArray⟩) ∧ Below w.heap.size w w' := by
  refine (Any.strconv_Itoa Tryz.laysM171 n h1 h2 w (hP w (Below.refl _ _))).mono ?_
  rintro e w' ⟨rfl, k, os, rfl⟩
  exact ⟨rfl, Lib.below_grow _ w (Nat.le_refl _) k os⟩

def rsT (c k : Co) : List Value := [.int .u8 c.r, .int .u8 c.g, .int .u8 c.b, .int .u8 c.a, .int .u8 k.r, .int .u8 k.g, .int .u8 k.b, .int .u8 k.a]
theorem tel_tyh (c k : Co) : TyH 100 ((rsT c k).length + 2) := by
  have e : (rsT c k).length + 2 = 10 := rfl
  rw [e]
  exact ⟨by decide, by kernel_rfl, by decide⟩
def nsB (ns : List Int) : Nat → List UInt8
  | 0 => []
  | k + 1 => nsB ns k ++ [if k = 0 then 91 else 59] ++ Lib.itoa (ns.getD k 0)
def seqB (q : UInt8) (ns : List Int) : List UInt8 := [27] ++ nsB ns ns.length ++ [q]
theorem nsB_len (ns : List Int) (h : ∀ n ∈ ns, -9223372036854775808 ≤ n ∧ n ≤ 9223372036854775807) : ∀ k, k ≤ ns.length → (nsB ns k).length ≤ 22 * k
  | 0, _ => by simp [nsB]
  | k + 1, hk => by
    have h1 := nsB_len ns h k (by omega)
    have h2 := h (ns[k]'(by omega)) (List.getElem_mem _)
    have h3 := Lib.itoa_length_le _ h2.1 h2.2
    have h4 : ns.getD k 0 = ns[k]'(by omega) := by simp [List.getD, show k < ns.length by omega]
    rw [nsB, h4]
    simp only [List.length_append, List.length_singleton]
    omega
theorem seqB_len (q : UInt8) (ns : List Int) (h : ∀ n ∈ ns, -9223372036854775808 ≤ n ∧ n ≤ 9223372036854775807) : (seqB q ns).length ≤ 22 * ns.length + 2 := by
  have := nsB_len ns h ns.length (Nat.le_refl _)
  unfold seqB
  simp
  omega
theorem bcs_app (xs ys : List UInt8) : Lib.byteCells (xs ++ ys) = Lib.byteCells xs ++ Lib.byteCells ys := by simp [Lib.byteCells]

structure SqW (T : TypeId) (rs : List Value) (B b g : Nat) (cs : Array Value) (xs : List UInt8) (w wr : World) : Prop where
  bd : IsBd T rs B b (Lib.byteCells xs) wr
  kp : KpD B b w wr
  gx : Bk wr g cs 3
  lo : B ≤ wr.heap.size
theorem SqW.next {T : TypeId} {rs : List Value} {B b g : Nat} {cs : Array Value} {xs ys : List UInt8} {w wr W : World} (h : SqW T rs B b g cs xs w wr) (hne : g ≠ b) (hb : BdF T rs B b (.pointer (some ⟨b, 0, none⟩)) (Lib.byteCells xs ++ Lib.byteCells ys) W) (hk : KpD B b wr W) : SqW T rs B b g cs (xs ++ ys) w W :=
  ⟨.inr (by rw [bcs_app]; exact hb), h.kp.trans hk, hk.cell h.gx hne (by decide), Nat.le_trans h.lo hk.bw.size⟩
theorem SqW.bel {T : TypeId} {rs : List Value} {B b g : Nat} {cs : Array Value} {xs : List UInt8} {w wr W : World} (h : SqW T rs B b g cs xs w wr) (hb : Below wr.heap.size wr W) : SqW T rs B b g cs xs w W :=
  ⟨h.bd.below hb, h.kp.trans (KpD.of_below h.lo hb), h.gx.below hb, Nat.le_trans h.lo hb.size⟩

set_option maxRecDepth 20000 in
set_option maxHeartbeats 8000000 in
theorem seq_any (rs : List Value) (H : TyH 100 (rs.length + 2)) (B b g : Nat) (xs : List UInt8) (q : UInt8) (ns : List Int) (w : World) (hI : IsBd 100 rs B b (Lib.byteCells xs) w) (hB : B ≤ w.heap.size) (hg : Bk w g (ns.map fun n => Value.int .i64 n).toArray 3) (hne : g ≠ b)
    (hn : ∀ n ∈ ns, -9223372036854775808 ≤ n ∧ n ≤ 9223372036854775807) (hl : ns.length ≤ 1000) (hx : xs.length ≤ 100000000) (P : PwC B w) :
    Calls Tryz.prog 82 #[.pointer (some ⟨b, 0, none⟩), .int .u8 (q.toNat : Int), .slice (some ⟨g, 0, none⟩) ns.length ns.length] w fun e w' => e = .returned (.tuple #[]) ∧ IsBd 100 rs B b (Lib.byteCells (xs ++ seqB q ns)) w' ∧ KpD B b w w' := by
  have H0 : Hid (SqW 100 rs B b g (ns.map fun n => Value.int .i64 n).toArray xs w w) := ⟨hI, KpD.refl _ _ _, hg, hB⟩
  have HN : Hid (∀ k (h : k < ns.length), -9223372036854775808 ≤ ns[k] ∧ ns[k] ≤ 9223372036854775807) := fun k h => hn _ (List.getElem_mem h)
  have HLn : Hid (∀ k, k ≤ ns.length → (xs ++ [27] ++ nsB ns k).length ≤ 100100000) := fun k hk => by
    have := nsB_len ns hn k hk
    simp only [List.length_append, List.length_singleton]
    omega
  have HP : Hid (PwC B w) := P
  have HT : Hid (TyH 100 (rs.length + 2)) := H
  have HNe : Hid (g ≠ b) := hne
  have HC : Hid (∀ W, Bk W g (ns.map fun n => Value.int .i64 n).toArray 3 → ∀ k (h : k < ns.length), W.cell? ⟨g, k, none⟩ = some (.int .i64 ns[k])) := fun W hW k h => by
    rw [hW.cell]
    simp [h]
  have HxL : Hid (xs.length ≤ 100000000) := hx
  clear hI hg hn P H hne hB hx
  obtain ⟨n, hnn⟩ : ∃ n, n = ns.length := ⟨_, rfl⟩
  have HNn : Hid (n = ns.length) := hnn
  rw [← hnn] at hl ⊢
  clear hnn
  go_enter Tryz.func82, Tryz.ntmps82
  go_wp2_with fail
  refine (dWriteByte_any 100 rs B b _ 27 _ HT.out H0.out.bd (by rw [Lib.byteCells_length]; have := HxL.out; omega) H0.out.lo).mono ?_
  rintro e W1 ⟨⟨u, rfl⟩, h1, k1⟩
  have H1 : Hid (SqW 100 rs B b g (ns.map fun n => Value.int .i64 n).toArray (xs ++ [27] ++ nsB ns 0) w W1) := by
    have := H0.out.next (ys := [27]) HNe.out h1 k1
    unfold Hid
    simpa [nsB] using this
  clear h1 k1 H0
  go_wp2_with fail
  go_loopw [14] (fun i wr => ∃ k : Nat, k ≤ n ∧ i = .int .i64 k ∧ Hid (SqW 100 rs B b g (ns.map fun n => Value.int .i64 n).toArray (xs ++ [27] ++ nsB ns k) w wr)) (fun i _ => n - (RowKit.intOf i).toNat)
  case atStart => exact ⟨0, Nat.zero_le _, rfl, H1⟩
  case round =>
    obtain ⟨k, hk, rfl, HK⟩ := hrel
    clear H1
    by_cases hlt : k < n
    · have ik : (k : Int) < n := by omega
      have hk2 : k < ns.length := by have := HNn.out; omega
      have c0 := HC.out wr HK.out.gx k hk2
      have hn1 := HN.out k hk2
      have hle := HLn.out k (by have := HNn.out; omega)
      have HL1 : Hid ((Lib.byteCells (xs ++ [27] ++ nsB ns k)).length ≤ 100100000) := by unfold Hid; rw [Lib.byteCells_length]; exact hle
      have HNx : Hid (nsB ns (k + 1) = nsB ns k ++ [if k = 0 then 91 else 59] ++ Lib.itoa ns[k]) := by
        have h4 : ns.getD k 0 = ns[k] := by simp [List.getD, hk2]
        unfold Hid
        rw [nsB, h4]
      have hil := Lib.itoa_length_le _ hn1.1 hn1.2
      have HIl : Hid (((Lib.itoa ns[k]).toArray).size ≤ 21) := by unfold Hid; simpa using hil
      have HItoa : Hid (∀ W, PwC B W → Calls Tryz.prog 116 #[.int .i64 ns[k]] W fun e w' => e = .returned (.string ⟨(Lib.itoa ns[k]).toArray⟩) ∧ Below W.heap.size W w') := fun W hP => itoaD_any B _ W hn1.1 hn1.2 hP
      have HSt : Hid (∀ z : UInt8, z = (if k = 0 then 91 else 59) → ∀ W, SqW 100 rs B b g (ns.map fun n => Value.int .i64 n).toArray (xs ++ [27] ++ nsB ns k ++ [z]) w W → ∀ W', BdF 100 rs B b (.pointer (some ⟨b, 0, none⟩)) (Lib.byteCells (xs ++ [27] ++ nsB ns k ++ [z]) ++ Lib.strCells ⟨(Lib.itoa ns[k]).toArray⟩) W' → KpD B b W W' → SqW 100 rs B b g (ns.map fun n => Value.int .i64 n).toArray (xs ++ [27] ++ nsB ns (k + 1)) w W') := fun z hz W hW W' hB' hK' => by
        subst hz
        have e : Lib.strCells ⟨(Lib.itoa ns[k]).toArray⟩ = Lib.byteCells (Lib.itoa ns[k]) := by rw [Lib.strCells_eq]
        rw [e] at hB'
        have := hW.next (ys := Lib.itoa ns[k]) HNe.out hB' hK'
        rw [HNx.out]
        simpa using this
      clear hle hil hn1
      generalize ns[k] = m at *
      generalize Lib.itoa m = im at *
      by_cases hk0 : k = 0
      · subst hk0
        go_wp2_with fail
        refine (dWriteByte_any 100 rs B b _ 91 _ HT.out HK.out.bd (by have := HL1.out; omega) HK.out.lo).mono ?_
        rintro e W2 ⟨⟨u2, rfl⟩, h2, k2⟩
        have H2 : Hid (SqW 100 rs B b g (ns.map fun n => Value.int .i64 n).toArray (xs ++ [27] ++ nsB ns 0 ++ [91]) w W2) := HK.out.next (ys := [91]) HNe.out h2 k2
        have HL2 : Hid ((Lib.byteCells (xs ++ [27] ++ nsB ns 0 ++ [91])).length ≤ 100100001) := by
          have := HL1.out
          unfold Hid
          rw [bcs_app, List.length_append]
          simp only [Lib.byteCells_length, List.length_singleton] at *
          omega
        have HSt2 := show Hid _ from HSt.out 91 (by simp)
        clear h2 k2 HK c0 HSt
        go_wp2_with fail
        refine R4.wp_region_lit 5 0 1 (fun _ _ => undef) (fun _ => .cells #[] 0) [] (by kernel_rfl) (by kernel_rfl) rfl (fun k hk => absurd hk (by omega)) rfl ?_
        apply Exists.intro
        refine ⟨fun bs ne => ?_, fun i h1 h2 => absurd h2 (by omega), ?_⟩
        · simp only [List.take_succ_cons, List.take_zero]
          repeat (go_big_quiet_step (first | (go_at_call 116; exact gb_call (HItoa.out _ ((HP.out.on H2.out.kp.bw).on ((Gb.below _).mono H2.out.lo))))))
          exact wpQuiet_nil rfl
        · intro bl wx hbl _ _
          have H3 : Hid (SqW 100 rs B b g (ns.map fun n => Value.int .i64 n).toArray (xs ++ [27] ++ nsB ns 0 ++ [91]) w wx) := H2.out.bel hbl
          have HS3 : Hid (∀ W', BdF 100 rs B b (.pointer (some ⟨b, 0, none⟩)) (Lib.byteCells (xs ++ [27] ++ nsB ns 0 ++ [91]) ++ Lib.strCells ⟨im.toArray⟩) W' → KpD B b wx W' → SqW 100 rs B b g (ns.map fun n => Value.int .i64 n).toArray (xs ++ [27] ++ nsB ns (0 + 1)) w W') := fun W' h1 h2 => HSt2.out wx H3.out W' h1 h2
          simp only [R4.layL]
          clear hbl
          refine wpAny_one 5 (by kernel_rfl) rfl ?_
          intro K hK
          go_simp
          refine (dWriteString_any 100 rs B b _ ⟨im.toArray⟩ _ HT.out H3.out.bd (by have := HL2.out; have h9 := HIl.out; show _ + im.toArray.size ≤ _; omega) H3.out.lo).mono ?_
          rintro e W5 ⟨⟨u5, rfl⟩, h5, k5⟩
          have H5 : Hid (SqW 100 rs B b g (ns.map fun n => Value.int .i64 n).toArray (xs ++ [27] ++ nsB ns (0 + 1)) w W5) := HS3.out W5 h5 k5
          clear h5 k5 HS3 H3 H2
          refine hK _ _ ?_
          clear hK K
          refine wpAny_done (by kernel_rfl) ?_ _
          go_wp2
          exact ⟨⟨0 + 1, by omega, by go_num, H5⟩, by simp [RowKit.intOf]; omega⟩
      · have hz : ((k : Int) == 0) = false := by simp; omega
        go_wp2_with fail
        refine (dWriteByte_any 100 rs B b _ 59 _ HT.out HK.out.bd (by have := HL1.out; omega) HK.out.lo).mono ?_
        rintro e W2 ⟨⟨u2, rfl⟩, h2, k2⟩
        have H2 : Hid (SqW 100 rs B b g (ns.map fun n => Value.int .i64 n).toArray (xs ++ [27] ++ nsB ns k ++ [59]) w W2) := HK.out.next (ys := [59]) HNe.out h2 k2
        have HL2 : Hid ((Lib.byteCells (xs ++ [27] ++ nsB ns k ++ [59])).length ≤ 100100001) := by
          have := HL1.out
          unfold Hid
          rw [bcs_app, List.length_append]
          simp only [Lib.byteCells_length, List.length_singleton] at *
          omega
        have HSt2 := show Hid _ from HSt.out 59 (by simp [hk0])
        clear h2 k2 HK c0 HSt
        go_wp2_with fail
        refine R4.wp_region_lit 5 0 1 (fun _ _ => undef) (fun _ => .cells #[] 0) [] (by kernel_rfl) (by kernel_rfl) rfl (fun k hk => absurd hk (by omega)) rfl ?_
        apply Exists.intro
        refine ⟨fun bs ne => ?_, fun i h1 h2 => absurd h2 (by omega), ?_⟩
        · simp only [List.take_succ_cons, List.take_zero]
          repeat (go_big_quiet_step (first | (go_at_call 116; exact gb_call (HItoa.out _ ((HP.out.on H2.out.kp.bw).on ((Gb.below _).mono H2.out.lo))))))
          exact wpQuiet_nil rfl
        · intro bl wx hbl _ _
          have H3 : Hid (SqW 100 rs B b g (ns.map fun n => Value.int .i64 n).toArray (xs ++ [27] ++ nsB ns k ++ [59]) w wx) := H2.out.bel hbl
          have HS3 : Hid (∀ W', BdF 100 rs B b (.pointer (some ⟨b, 0, none⟩)) (Lib.byteCells (xs ++ [27] ++ nsB ns k ++ [59]) ++ Lib.strCells ⟨im.toArray⟩) W' → KpD B b wx W' → SqW 100 rs B b g (ns.map fun n => Value.int .i64 n).toArray (xs ++ [27] ++ nsB ns (k + 1)) w W') := fun W' h1 h2 => HSt2.out wx H3.out W' h1 h2
          simp only [R4.layL]
          clear hbl
          refine wpAny_one 5 (by kernel_rfl) rfl ?_
          intro K hK
          go_simp
          refine (dWriteString_any 100 rs B b _ ⟨im.toArray⟩ _ HT.out H3.out.bd (by have := HL2.out; have h9 := HIl.out; show _ + im.toArray.size ≤ _; omega) H3.out.lo).mono ?_
          rintro e W5 ⟨⟨u5, rfl⟩, h5, k5⟩
          have H5 : Hid (SqW 100 rs B b g (ns.map fun n => Value.int .i64 n).toArray (xs ++ [27] ++ nsB ns (k + 1)) w W5) := HS3.out W5 h5 k5
          clear h5 k5 HS3 H3 H2
          refine hK _ _ ?_
          clear hK K
          refine wpAny_done (by kernel_rfl) ?_ _
          go_wp2
          exact ⟨⟨k + 1, by omega, by go_num, H5⟩, by simp [RowKit.intOf]; omega⟩
    · obtain rfl : k = n := by omega
      have hle := HLn.out k (by have := HNn.out; omega)
      go_wp2_with fail
      refine (dWriteByte_any 100 rs B b _ q.toNat _ HT.out HK.out.bd (by rw [Lib.byteCells_length]; omega) HK.out.lo).mono ?_
      rintro e W4 ⟨⟨u4, rfl⟩, h4, k4⟩
      have HF : Hid (IsBd 100 rs B b (Lib.byteCells (xs ++ seqB q ns)) W4 ∧ KpD B b w W4) := by
        have h5 := HK.out.next (ys := [q]) HNe.out h4 k4
        refine ⟨?_, h5.kp⟩
        have h6 := h5.bd
        rw [HNn.out] at h6
        unfold seqB
        simpa using h6
      clear h4 k4 HK
      go_wp2
      go_end0
      exact ⟨rfl, HF.out⟩

end Go.Proofs.YtapachlhdgehjaaGreatDoor

/-
  Package cells: how a teller writes: paint, colours, cell.
-/
namespace Go.Proofs.YtapachlhdgehjaaGreatDoor
open Go.RowKit Go.Shelf Go.Lib

theorem eqK_eq {a b : Co} (h : eqK a b = true) : a = b := by
  obtain ⟨a1, a2, a3, a4⟩ := a
  obtain ⟨b1, b2, b3, b4⟩ := b
  simp [eqK] at h
  simp [h]
set_option maxHeartbeats 1000000 in
theorem neq_col (a b : Co) (w : World) : (binOp .neq 38 (Value.agg #[.int .u8 a.r, .int .u8 a.g, .int .u8 a.b, .int .u8 a.a]) (Value.agg #[.int .u8 b.r, .int .u8 b.g, .int .u8 b.b, .int .u8 b.a])).run Tryz.prog w = .ok (.bool (!eqK a b)) w := by
  simp [go_sem]
  exact chainN (chainN (chainN chainM))
theorem bdf_rest {T : TypeId} {rs : List Value} {B b : Nat} {p : Value} {bs : List Value} {w : World} (h : BdF T rs B b p bs w) (i : Nat) (v : Value) : BdF T (rs.set i v) B b p bs (w.setCell ⟨b, i + 2, none⟩ v) := by
  obtain ⟨hB, v0, hb, hown, hne⟩ := h
  refine ⟨hB, v0, ?_, own_setF hown hne v, hne⟩
  simp [World.setCell, Array.getElem?_modify, hb]
theorem isbd_rest {T : TypeId} {rs : List Value} {B b : Nat} {bs : List Value} {w : World} (h : IsBd T rs B b bs w) (i : Nat) (v : Value) : IsBd T (rs.set i v) B b bs (w.setCell ⟨b, i + 2, none⟩ v) := h.elim (fun x => .inl (bdf_rest x i v)) (fun x => .inr (bdf_rest x i v))
theorem KpD.setCell {B b : Nat} (hB : B ≤ b) (w : World) (o : Nat) (v : Value) : KpD B b w (w.setCell ⟨b, o, none⟩ v) := ⟨(Below.refl B w).setCell (p := ⟨b, o, none⟩) hB v, (Lib.OthersKept.refl _ _ w).setCell ⟨b, o, none⟩ rfl v⟩
theorem IsBd.at {T : TypeId} {rs : List Value} {B b : Nat} {bs : List Value} {w : World} (h : IsBd T rs B b bs w) (i : Nat) : w.cell? ⟨b, i + 2, none⟩ = rs[i]? ∧ w.frozen? ⟨b, i + 2, none⟩ = false := by
  rcases h with ⟨_, v, hb, _⟩ | ⟨_, v, hb, _⟩
  · exact ⟨by rw [Lib.cell_of_heap hb]; simp, Lib.frozen_of_heap hb _⟩
  · exact ⟨by rw [Lib.cell_of_heap hb]; simp, Lib.frozen_of_heap hb _⟩
theorem IsBd.fore {B b : Nat} {bs : List Value} {w : World} {c k : Co} (h : IsBd 100 (rsT c k) B b bs w) (d : Co) : IsBd 100 (rsT d k) B b bs ((((w.setCell ⟨b, 2, none⟩ (.int .u8 d.r)).setCell ⟨b, 3, none⟩ (.int .u8 d.g)).setCell ⟨b, 4, none⟩ (.int .u8 d.b)).setCell ⟨b, 5, none⟩ (.int .u8 d.a)) :=
  isbd_rest (isbd_rest (isbd_rest (isbd_rest h 0 (.int .u8 d.r)) 1 (.int .u8 d.g)) 2 (.int .u8 d.b)) 3 (.int .u8 d.a)
theorem IsBd.back {B b : Nat} {bs : List Value} {w : World} {c k : Co} (h : IsBd 100 (rsT c k) B b bs w) (d : Co) : IsBd 100 (rsT c d) B b bs ((((w.setCell ⟨b, 6, none⟩ (.int .u8 d.r)).setCell ⟨b, 7, none⟩ (.int .u8 d.g)).setCell ⟨b, 8, none⟩ (.int .u8 d.b)).setCell ⟨b, 9, none⟩ (.int .u8 d.a)) :=
  isbd_rest (isbd_rest (isbd_rest (isbd_rest h 4 (.int .u8 d.r)) 5 (.int .u8 d.g)) 6 (.int .u8 d.b)) 7 (.int .u8 d.a)
theorem kpb_four {B b : Nat} (hB : B ≤ b) (w : World) (o1 o2 o3 o4 : Nat) (v1 v2 v3 v4 : Value) : KpD B b w ((((w.setCell ⟨b, o1, none⟩ v1).setCell ⟨b, o2, none⟩ v2).setCell ⟨b, o3, none⟩ v3).setCell ⟨b, o4, none⟩ v4) :=
  (((KpD.setCell hB w o1 v1).trans (KpD.setCell hB _ o2 v2)).trans (KpD.setCell hB _ o3 v3)).trans (KpD.setCell hB _ o4 v4)

def pntB (of : Int) (c : Co) : List UInt8 := seqB 109 [of, 2, c.r, c.g, c.b, c.a]
def colB (st : Co × Co) (c : Ce) : List UInt8 := (if eqK c.c st.1 = true then [] else pntB 38 c.c) ++ (if eqK c.b st.2 = true then [] else pntB 48 c.b)
def telC (st : Co × Co) (c : Ce) (way : Int) : List UInt8 := if way = 1 then [] else colB st c ++ (if way = 2 then [14] else if way = 3 then [15] else []) ++ Lib.encodeRune c.r
def stC (st : Co × Co) (c : Ce) (way : Int) : Co × Co := if way = 1 then st else (c.c, c.b)
theorem pntB_len (of : Int) (c : Co) (h : c.ok) (h1 : 0 ≤ of) (h2 : of ≤ 255) : (pntB of c).length ≤ 134 := by
  obtain ⟨⟨a1, a2⟩, ⟨b1, b2⟩, ⟨c1, c2⟩, ⟨d1, d2⟩⟩ := h
  have := seqB_len 109 [of, 2, c.r, c.g, c.b, c.a] (fun n hn => by
    simp only [List.mem_cons, List.not_mem_nil, or_false] at hn
    rcases hn with rfl | rfl | rfl | rfl | rfl | rfl <;> omega)
  simpa [pntB] using this
theorem colB_len (st : Co × Co) (c : Ce) (h1 : c.c.ok) (h2 : c.b.ok) : (colB st c).length ≤ 268 := by
  have a1 := pntB_len 38 c.c h1 (by decide) (by decide)
  have a2 := pntB_len 48 c.b h2 (by decide) (by decide)
  unfold colB
  rw [List.length_append]
  split <;> split <;> simp <;> omega
set_option maxRecDepth 20000 in
set_option maxHeartbeats 8000000 in
theorem paint_any (rs : List Value) (H : TyH 100 (rs.length + 2)) (B b : Nat) (xs : List UInt8) (of : Int) (c : Co) (w : World) (hI : IsBd 100 rs B b (Lib.byteCells xs) w) (hB : B ≤ w.heap.size) (hc : c.ok) (h1 : 0 ≤ of) (h2 : of ≤ 255) (hx : xs.length ≤ 100000000) (P : PwC B w) :
    Calls Tryz.prog 151 #[.pointer (some ⟨b, 0, none⟩), .int .i64 of, (Value.agg #[.int .u8 c.r, .int .u8 c.g, .int .u8 c.b, .int .u8 c.a])] w fun e w' => e = .returned (.tuple #[]) ∧ IsBd 100 rs B b (Lib.byteCells (xs ++ pntB of c)) w' ∧ KpD B b w w' := by
  obtain ⟨⟨r1, r2⟩, ⟨g1, g2⟩, ⟨b1, b2⟩, ⟨a1, a2⟩⟩ := hc
  have HS : Hid (∀ W, W = (w.alloc (.cells #[.int .u8 c.r, .int .u8 c.g, .int .u8 c.b, .int .u8 c.a] 38)).alloc (.cells #[.int .i64 of, .int .i64 2, .int .i64 c.r, .int .i64 c.g, .int .i64 c.b, .int .i64 c.a] 3) → Calls Tryz.prog 82 #[.pointer (some ⟨b, 0, none⟩), .int .u8 109, .slice (some ⟨w.heap.size + 1, 0, none⟩) 6 6] W fun e w' => e = .returned (.tuple #[]) ∧ IsBd 100 rs B b (Lib.byteCells (xs ++ pntB of c)) w' ∧ KpD B b w w') := fun W hW => by
    have k2 := Bk.new (w.alloc (.cells #[.int .u8 c.r, .int .u8 c.g, .int .u8 c.b, .int .u8 c.a] 38)) #[.int .i64 of, .int .i64 2, .int .i64 c.r, .int .i64 c.g, .int .i64 c.b, .int .i64 c.a] 3
    simp only [World.size_alloc] at k2
    have hb : Below w.heap.size w ((w.alloc (.cells #[.int .u8 c.r, .int .u8 c.g, .int .u8 c.b, .int .u8 c.a] 38)).alloc (.cells #[.int .i64 of, .int .i64 2, .int .i64 c.r, .int .i64 c.g, .int .i64 c.b, .int .i64 c.a] 3)) := ((Below.refl _ w).alloc (Nat.le_refl _) _).alloc (by simp) _
    rw [← hW] at k2 hb
    have hl := hI.lt
    refine (seq_any rs H B b (w.heap.size + 1) xs 109 [of, 2, c.r, c.g, c.b, c.a] W (hI.below hb) (Nat.le_trans hB hb.size) k2 (by omega) (fun n hn => ?_) (by simp) hx (P.on (hb.mono hB))).mono ?_
    · simp only [List.mem_cons, List.not_mem_nil, or_false] at hn
      rcases hn with rfl | rfl | rfl | rfl | rfl | rfl <;> omega
    · rintro e w' ⟨rfl, q1, q2⟩
      exact ⟨rfl, q1, (KpD.of_below hB hb).trans q2⟩
  clear hI hB hx P H
  go_enter Tryz.func151, Tryz.ntmps151
  go_wp2_with fail
  refine (HS.out _ rfl).mono ?_
  rintro e w2 ⟨rfl, q1, q2⟩
  have HF : Hid (IsBd 100 rs B b (Lib.byteCells (xs ++ pntB of c)) w2 ∧ KpD B b w w2) := ⟨q1, q2⟩
  clear q1 q2 HS
  go_wp2
  go_end0
  exact ⟨rfl, HF.out⟩

structure TlW (B b : Nat) (st : Co × Co) (xs : List UInt8) (w wr : World) : Prop where
  bd : IsBd 100 (rsT st.1 st.2) B b (Lib.byteCells xs) wr
  kp : KpD B b w wr
  lo : B ≤ wr.heap.size
theorem TlW.bel {B b : Nat} {st : Co × Co} {xs : List UInt8} {w wr W : World} (h : TlW B b st xs w wr) (hb : Below wr.heap.size wr W) : TlW B b st xs w W := ⟨h.bd.below hb, h.kp.trans (KpD.of_below h.lo hb), Nat.le_trans h.lo hb.size⟩
theorem TlW.then {B b : Nat} {st st' : Co × Co} {xs xs' : List UInt8} {w wr W : World} (h : TlW B b st xs w wr) (k : TlW B b st' xs' wr W) : TlW B b st' xs' w W := ⟨k.bd, h.kp.trans k.kp, k.lo⟩

end Go.Proofs.YtapachlhdgehjaaGreatDoor
