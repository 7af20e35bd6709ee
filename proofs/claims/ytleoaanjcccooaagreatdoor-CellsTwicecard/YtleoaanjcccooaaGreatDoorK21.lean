/-
  Texts of this claim, one behind the other: what each is about stands ahead of it.
-/
import Derived.Test.YtleoaanjcccooaaGreatDoorK16
import Derived.Test.YtleoaanjcccooaaGreatDoorK20
import Derived.Lib.ItoaNum
import Derived.Lib.ItoaLen
import Derived.Lib.AppendIntMem
/-
  Package cells: Text of a screen that may be, and is not empty.
-/
namespace Go.Proofs.YtleoaanjcccooaaGreatDoor
open Go.RowKit Go.Lib

/-- The text of a screen: the first rows. -/
def txtB (a : Nat) (l : List Ce) : Nat → List UInt8
  | 0 => []
  | y + 1 => txtB a l y ++ rowB (rowL a l y) (rowL a l y).length ++ [10]
theorem rowL_le (a : Nat) (l : List Ce) (y : Nat) : (rowL a l y).length ≤ a := by simp [rowL]; omega
theorem txtB_len (a : Nat) (l : List Ce) : ∀ y, (txtB a l y).length ≤ y * (4 * a + 1)
  | 0 => by simp [txtB]
  | y + 1 => by
    have h1 := txtB_len a l y
    have h2 := rowB_len (rowL a l y) (rowL a l y).length
    have h3 := rowL_le a l y
    rw [txtB, List.length_append, List.length_append, Nat.succ_mul]
    simp only [List.length_singleton]
    omega
theorem okr_of {l : List Ce} (h : okCs l = true) : ∀ c ∈ l, 0 ≤ c.r ∧ c.r ≤ 1114111 := fun c hc => by
  have h1 := List.all_eq_true.1 h c hc
  unfold okCe at h1
  rw [Bool.and_eq_true] at h1
  have h2 := h1.1
  unfold vldR at h2
  have := of_decide_eq_true h2
  omega

/-- What lies of the text so far. -/
structure TxW (w : World) (b sb : Nat) (cs : Array Value) (a : Nat) (l : List Ce) (k : Nat) (wr : World) : Prop where
  bd : IsBd 97 [] w.heap.size b (Lib.byteCells (txtB a l k)) wr
  bx : Bk wr sb cs 26
  lo : Below w.heap.size w wr

set_option maxRecDepth 20000 in
set_option maxHeartbeats 8000000 in
theorem text_ok (a b : Nat) (l : List Ce) (g o c n : Nat) (w : World) (hv : LsC w (.slice (some ⟨g, o, none⟩) n c) l) (hn : n = l.length) (hE : scE a b l = 0) (h0 : 0 < a) (hb0 : 0 < b) (T : Tabs w) :
    Calls Tryz.prog 17 #[.agg #[.int .i64 (a : Nat), .int .i64 (b : Nat), .slice (some ⟨g, o, none⟩) n c]] w fun e w' => e = .returned (.tuple #[.string ⟨(txtB a l b).toArray⟩, .int .i64 0]) ∧ Below w.heap.size w w' := by
  have hs : szB a b = true ∧ (n : Int) = a * b ∧ okCs l = true := by
    unfold scE at hE
    split at hE
    · rename_i h; rw [hn]; exact h
    · cases hE
  obtain ⟨hs, hnm, hok⟩ := hs
  obtain ⟨s1, s2, s3, s4, s5⟩ := szB_iff.1 hs
  have hnb : n ≤ 262144 := by omega
  have hnat : n = a * b := by
    have : ((a * b : Nat) : Int) = (a : Int) * b := by simp
    omega
  have hra : ∀ (y : Nat), y < b → y * a + a ≤ n := fun y hy => by
    rw [hnat]
    calc y * a + a = (y + 1) * a := by rw [Nat.succ_mul]
      _ ≤ b * a := Nat.mul_le_mul_right a hy
      _ = a * b := Nat.mul_comm _ _
  have hcap : n ≤ c := by
    obtain ⟨_, c1, e1, h1, _⟩ := hv
    injection e1 with _ _ e1
    omega
  have HC : Hid (∀ W, Below w.heap.size w W → Calls Tryz.prog 21 #[.agg #[.int .i64 (a : Nat), .int .i64 (b : Nat), .slice (some ⟨g, o, none⟩) n c]] W fun e w' => e = .returned (.int .i64 0) ∧ Below W.heap.size W w') := fun W h => by
    have := checkC_any a b l _ W (hv.below h) (by omega) (T.below h)
    rw [hE] at this
    exact this
  have HRa : Hid (∀ (y : Nat) W, y < b → Calls Tryz.prog 46 #[.agg #[.int .i64 (a : Nat), .int .i64 (b : Nat), .slice (some ⟨g, o, none⟩) n c], .int .i64 y] W fun e w' => e = .returned (.slice (some ⟨g, o + y * a * 11, none⟩) a (c - y * a)) ∧ Below W.heap.size W w') := fun y W hy => rowC_any a b y g o n c W hs hnm hcap (by omega) (by omega) (by omega) (y * a) (by simp) a rfl
  have HSub : Hid (∀ (y : Nat), y < b → LsC w (.slice (some ⟨g, o + y * a * 11, none⟩) a (c - y * a)) (rowL a l y)) := fun y hy => by
    have h1 := hra y hy
    have k1 := lsC_sub (k := y * a) (m := y * a + a) hv hn (by omega) h1 rfl
    rw [Nat.add_sub_cancel_left] at k1
    exact k1
  have HWr : Hid (∀ (bb : Nat) (y : Nat) W, y < b → IsBd 97 [] w.heap.size bb (Lib.byteCells (txtB a l y)) W → Below w.heap.size w W → Calls Tryz.prog 45 #[.pointer (some ⟨bb, 0, none⟩), .slice (some ⟨g, o + y * a * 11, none⟩) a (c - y * a)] W fun e w' => e = .returned (.tuple #[]) ∧ WrW w bb (txtB a l y) (rowL a l y) (rowL a l y).length W w') := fun bb y W hy hI hB => by
    refine wrow_any w bb _ _ _ W (HSub.out y hy) (by have := rowL_le a l y; omega) (fun q hq => okr_of hok q (List.mem_of_mem_drop (List.mem_of_mem_take hq))) hB hI ?_
    have h1 := txtB_len a l y
    have h2 := hra y hy
    have h3 : y * (4 * a + 1) = 4 * (y * a) + y := by rw [Nat.mul_add, Nat.mul_one, Nat.mul_left_comm]
    omega
  have HLt : Hid (∀ y : Nat, y < b → (Lib.byteCells (txtB a l y ++ rowB (rowL a l y) (rowL a l y).length)).length + 1 ≤ 140737488355328) := fun y hy => by
    have h1 := txtB_len a l y
    have h2 := hra y hy
    have h3 : y * (4 * a + 1) = 4 * (y * a) + y := by rw [Nat.mul_add, Nat.mul_one, Nat.mul_left_comm]
    have h4 := rowB_len (rowL a l y) (rowL a l y).length
    have h5 := rowL_le a l y
    rw [Lib.byteCells_length, List.length_append]
    omega
  have HNe : Hid (txtB a l b ≠ []) := by
    obtain ⟨b', rfl⟩ : ∃ b', b = b' + 1 := ⟨b - 1, by omega⟩
    unfold Hid txtB
    simp
  have HB0 : Hid (∀ W, W = w.alloc (.cells #[.int .i64 (a : Nat), .int .i64 (b : Nat), .slice (some ⟨g, o, none⟩) n c] 26) → Bk W w.heap.size #[.int .i64 (a : Nat), .int .i64 (b : Nat), .slice (some ⟨g, o, none⟩) n c] 26 ∧ Below w.heap.size w W) := fun W hW => by
    subst hW
    exact ⟨Bk.new w _ _, (Below.refl _ w).alloc (Nat.le_refl _) _⟩
  clear hv hn hE T hs hnm hok hcap hra hnat s1 s2 s3 s5
  go_enter Tryz.func17, Tryz.ntmps17
  go_wp2_with fail
  obtain ⟨W1, hW1⟩ : ∃ W1, W1 = w.alloc (.cells #[.int .i64 (a : Nat), .int .i64 (b : Nat), .slice (some ⟨g, o, none⟩) n c] 26) := ⟨_, rfl⟩
  obtain ⟨sb, hsb⟩ : ∃ sb, sb = w.heap.size := ⟨_, rfl⟩
  have H1 : Hid (Bk W1 sb #[.int .i64 (a : Nat), .int .i64 (b : Nat), .slice (some ⟨g, o, none⟩) n c] 26 ∧ Below w.heap.size w W1) := by rw [hsb]; exact HB0.out W1 hW1
  rw [← hW1, ← hsb]
  clear hW1 HB0 hsb
  refine (HC.out _ H1.out.2).mono ?_
  rintro e W2 ⟨rfl, hb2⟩
  have H2 : Hid (∀ W, W = W2.alloc (.cells #[.pointer none, .slice none 0 0] 97) → TxW w W2.heap.size sb #[.int .i64 (a : Nat), .int .i64 (b : Nat), .slice (some ⟨g, o, none⟩) n c] a l 0 W ∧ sb < W2.heap.size) := fun W hW => by
    have k1 := H1.out.1.below hb2
    have k2 := H1.out.2.trans (hb2.mono H1.out.2.size)
    subst hW
    exact ⟨⟨.inl ⟨k2.size, _, Bk.new W2 _ _, World.ownsRowF_nil _ _ _ _, by simp [Value.ownBlock]⟩, k1.below ((Below.refl _ _).alloc (Nat.le_refl _) _), k2.alloc k2.size _⟩, k1.lt⟩
  obtain ⟨x0, x1, x2⟩ := Bk.at3S (H2.out _ rfl).1.bx
  clear H1 hb2 HC
  go_wp2_with fail
  obtain ⟨W3, hW3⟩ : ∃ W3, W3 = W2.alloc (.cells #[.pointer none, .slice none 0 0] 97) := ⟨_, rfl⟩
  obtain ⟨bb, hbb⟩ : ∃ bb, bb = W2.heap.size := ⟨_, rfl⟩
  have H3 : Hid (TxW w bb sb #[.int .i64 (a : Nat), .int .i64 (b : Nat), .slice (some ⟨g, o, none⟩) n c] a l 0 W3 ∧ sb < bb) := by rw [hbb]; exact H2.out W3 hW3
  rw [← hW3, ← hbb]
  clear hW3 hbb H2 x0 x1 x2
  go_loopw [15] (fun i wr => ∃ k : Nat, k ≤ b ∧ i = .int .i64 k ∧ Hid (TxW w bb sb #[.int .i64 (a : Nat), .int .i64 (b : Nat), .slice (some ⟨g, o, none⟩) n c] a l k wr)) (fun i _ => b - (RowKit.intOf i).toNat)
  case atStart => exact ⟨0, Nat.zero_le _, rfl, H3.out.1⟩
  case round =>
    obtain ⟨k, hk, rfl, HK⟩ := hrel
    by_cases hlt : k < b
    · have ik : (k : Int) < b := by omega
      obtain ⟨x0, x1, x2⟩ := Bk.at3S HK.out.bx
      go_wp2_with fail
      refine (HRa.out k _ hlt).mono ?_
      rintro e W4 ⟨rfl, hb4⟩
      have H4 : Hid (TxW w bb sb #[.int .i64 (a : Nat), .int .i64 (b : Nat), .slice (some ⟨g, o, none⟩) n c] a l k W4) := ⟨HK.out.bd.below hb4, HK.out.bx.below hb4, HK.out.lo.trans (hb4.mono HK.out.lo.size)⟩
      clear hb4 HK x0 x1 x2
      go_wp2_with fail
      refine (HWr.out bb k _ hlt H4.out.bd H4.out.lo).mono ?_
      rintro e W5 ⟨rfl, h5⟩
      have H5 : Hid (IsBd 97 [] w.heap.size bb (Lib.byteCells (txtB a l k ++ rowB (rowL a l k) (rowL a l k).length)) W5 ∧ Bk W5 sb #[.int .i64 (a : Nat), .int .i64 (b : Nat), .slice (some ⟨g, o, none⟩) n c] 26 ∧ Below w.heap.size w W5) := ⟨h5.bd, h5.kp.cell H4.out.bx (by have := H3.out.2; omega) (by decide), h5.lo⟩
      clear h5 H4
      go_wp2_with fail
      refine (dWriteByte_any 97 [] w.heap.size bb _ 10 _ bld_tyh H5.out.1 (HLt.out k hlt) H5.out.2.2.size).mono ?_
      rintro e W6 ⟨⟨u, rfl⟩, h6, k6⟩
      have H6 : Hid (TxW w bb sb #[.int .i64 (a : Nat), .int .i64 (b : Nat), .slice (some ⟨g, o, none⟩) n c] a l (k + 1) W6) := by
        refine ⟨.inr ?_, k6.cell H5.out.2.1 (by have := H3.out.2; omega) (by decide), H5.out.2.2.trans k6.bw⟩
        rw [txtB, show Lib.byteCells (txtB a l k ++ rowB (rowL a l k) (rowL a l k).length ++ [10]) = Lib.byteCells (txtB a l k ++ rowB (rowL a l k) (rowL a l k).length) ++ [.int .u8 10] by simp [Lib.byteCells]]
        exact h6
      clear h6 k6 H5
      go_wp2
      exact ⟨⟨k + 1, by omega, by go_num, H6⟩, by simp [RowKit.intOf]; omega⟩
    · obtain rfl : k = b := by omega
      go_wp2_with fail
      refine (dString_any 97 [] w.heap.size bb (txtB a l k) _ HK.out.bd HNe.out).mono ?_
      rintro e W4 ⟨rfl, hb4⟩
      have HF : Hid (Below w.heap.size w W4) := HK.out.lo.trans hb4
      clear hb4 HK
      go_wp2
      go_ret2
      exact ⟨rfl, HF.out⟩

end Go.Proofs.YtleoaanjcccooaaGreatDoor

/-
  Package cells: how a teller writes: sequence, paint.
-/
namespace Go.Proofs.YtleoaanjcccooaaGreatDoor
open Go.RowKit Go.Shelf Go.Lib

/-- The table of the library's numbers. -/
def PwC (lo : Nat) (w : World) : Prop := Lib.TabBelow Tryz.prog lo w "internal/strconv.uint64pow10" .u64 Lib.pow10Tab
theorem PwC.on {lo : Nat} {w w1 : World} (h : PwC lo w) (hb : Below lo w w1) : PwC lo w1 := Lib.TabBelow.on h hb
theorem PwC.mono {lo lo2 : Nat} {w : World} (h : PwC lo w) (hl : lo ≤ lo2) : PwC lo2 w := fun w' hb => h w' (hb.mono hl)
theorem itoaD_any (B : Nat) (n : Int) (w : World) (h1 : -9223372036854775808 ≤ n) (h2 : n ≤ 9223372036854775807) (hP : PwC B w) :
    Calls Tryz.prog 119 #[.int .i64 n] w fun e w' => e = .returned (.string ⟨(Lib.itoa n).toArray⟩) ∧ Below w.heap.size w w' := by
  refine (Any.strconv_Itoa Tryz.laysM171 n h1 h2 w (hP w (Below.refl _ _))).mono ?_
  rintro e w' ⟨rfl, k, os, rfl⟩
  exact ⟨rfl, Lib.below_grow _ w (Nat.le_refl _) k os⟩

/-- The colours that a teller told last, as they lie behind its text. -/
def rsT (c k : Co) : List Value := [.int .u8 c.r, .int .u8 c.g, .int .u8 c.b, .int .u8 c.a, .int .u8 k.r, .int .u8 k.g, .int .u8 k.b, .int .u8 k.a]
theorem tel_tyh (c k : Co) : TyH 108 ((rsT c k).length + 2) := by
  have e : (rsT c k).length + 2 = 10 := rfl
  rw [e]
  exact ⟨by decide, by kernel_rfl, by decide⟩
/-- The numbers of a sequence: the first k; a whole one. -/
def nsB (ns : List Int) : Nat → List UInt8
  | 0 => []
  | k + 1 => nsB ns k ++ [if k = 0 then 91 else 59] ++ Lib.itoa (ns.getD k 0)
def seqB (q : UInt8) (ns : List Int) : List UInt8 := [27] ++ nsB ns ns.length ++ [q]
theorem nsB_len (ns : List Int) (h : ∀ n ∈ ns, -9223372036854775808 ≤ n ∧ n ≤ 9223372036854775807) : ∀ k, k ≤ ns.length → (nsB ns k).length ≤ 22 * k
  | 0, _ => by simp [nsB]
  | k + 1, hk => by
    have h1 := nsB_len ns h k (by omega)
    have h2 := h (ns[k]'(by omega)) (List.getElem_mem _)
    have h3 := Lib.itoa_length_le _ h2.1 h2.2
    have h4 : ns.getD k 0 = ns[k]'(by omega) := by simp [List.getD, show k < ns.length by omega]
    rw [nsB, h4]
    simp only [List.length_append, List.length_singleton]
    omega
theorem seqB_len (q : UInt8) (ns : List Int) (h : ∀ n ∈ ns, -9223372036854775808 ≤ n ∧ n ≤ 9223372036854775807) : (seqB q ns).length ≤ 22 * ns.length + 2 := by
  have := nsB_len ns h ns.length (Nat.le_refl _)
  unfold seqB
  simp
  omega
theorem bcs_app (xs ys : List UInt8) : Lib.byteCells (xs ++ ys) = Lib.byteCells xs ++ Lib.byteCells ys := by simp [Lib.byteCells]

/-- What lies while a sequence is written. -/
structure SqW (T : TypeId) (rs : List Value) (B b g : Nat) (cs : Array Value) (xs : List UInt8) (w wr : World) : Prop where
  bd : IsBd T rs B b (Lib.byteCells xs) wr
  kp : KpD B b w wr
  gx : Bk wr g cs 3
  lo : B ≤ wr.heap.size
theorem SqW.next {T : TypeId} {rs : List Value} {B b g : Nat} {cs : Array Value} {xs ys : List UInt8} {w wr W : World} (h : SqW T rs B b g cs xs w wr) (hne : g ≠ b) (hb : BdF T rs B b (.pointer (some ⟨b, 0, none⟩)) (Lib.byteCells xs ++ Lib.byteCells ys) W) (hk : KpD B b wr W) : SqW T rs B b g cs (xs ++ ys) w W :=
  ⟨.inr (by rw [bcs_app]; exact hb), h.kp.trans hk, hk.cell h.gx hne (by decide), Nat.le_trans h.lo hk.bw.size⟩
theorem SqW.bel {T : TypeId} {rs : List Value} {B b g : Nat} {cs : Array Value} {xs : List UInt8} {w wr W : World} (h : SqW T rs B b g cs xs w wr) (hb : Below wr.heap.size wr W) : SqW T rs B b g cs xs w W :=
  ⟨h.bd.below hb, h.kp.trans (KpD.of_below h.lo hb), h.gx.below hb, Nat.le_trans h.lo hb.size⟩

set_option maxRecDepth 20000 in
set_option maxHeartbeats 8000000 in
theorem seq_any (rs : List Value) (H : TyH 108 (rs.length + 2)) (B b g : Nat) (xs : List UInt8) (q : UInt8) (ns : List Int) (w : World) (hI : IsBd 108 rs B b (Lib.byteCells xs) w) (hB : B ≤ w.heap.size) (hg : Bk w g (ns.map fun n => Value.int .i64 n).toArray 3) (hne : g ≠ b)
    (hn : ∀ n ∈ ns, -9223372036854775808 ≤ n ∧ n ≤ 9223372036854775807) (hl : ns.length ≤ 1000) (hx : xs.length ≤ 100000000) (P : PwC B w) :
    Calls Tryz.prog 86 #[.pointer (some ⟨b, 0, none⟩), .int .u8 (q.toNat : Int), .slice (some ⟨g, 0, none⟩) ns.length ns.length] w fun e w' => e = .returned (.tuple #[]) ∧ IsBd 108 rs B b (Lib.byteCells (xs ++ seqB q ns)) w' ∧ KpD B b w w' := by
  have H0 : Hid (SqW 108 rs B b g (ns.map fun n => Value.int .i64 n).toArray xs w w) := ⟨hI, KpD.refl _ _ _, hg, hB⟩
  have HN : Hid (∀ k (h : k < ns.length), -9223372036854775808 ≤ ns[k] ∧ ns[k] ≤ 9223372036854775807) := fun k h => hn _ (List.getElem_mem h)
  have HLn : Hid (∀ k, k ≤ ns.length → (xs ++ [27] ++ nsB ns k).length ≤ 100100000) := fun k hk => by
    have := nsB_len ns hn k hk
    simp only [List.length_append, List.length_singleton]
    omega
  have HP : Hid (PwC B w) := P
  have HT : Hid (TyH 108 (rs.length + 2)) := H
  have HNe : Hid (g ≠ b) := hne
  have HC : Hid (∀ W, Bk W g (ns.map fun n => Value.int .i64 n).toArray 3 → ∀ k (h : k < ns.length), W.cell? ⟨g, k, none⟩ = some (.int .i64 ns[k])) := fun W hW k h => by
    rw [hW.cell]
    simp [h]
  have HxL : Hid (xs.length ≤ 100000000) := hx
  clear hI hg hn P H hne hB hx
  obtain ⟨n, hnn⟩ : ∃ n, n = ns.length := ⟨_, rfl⟩
  have HNn : Hid (n = ns.length) := hnn
  rw [← hnn] at hl ⊢
  clear hnn
  go_enter Tryz.func86, Tryz.ntmps86
  go_wp2_with fail
  refine (dWriteByte_any 108 rs B b _ 27 _ HT.out H0.out.bd (by rw [Lib.byteCells_length]; have := HxL.out; omega) H0.out.lo).mono ?_
  rintro e W1 ⟨⟨u, rfl⟩, h1, k1⟩
  have H1 : Hid (SqW 108 rs B b g (ns.map fun n => Value.int .i64 n).toArray (xs ++ [27] ++ nsB ns 0) w W1) := by
    have := H0.out.next (ys := [27]) HNe.out h1 k1
    unfold Hid
    simpa [nsB] using this
  clear h1 k1 H0
  go_wp2_with fail
  go_loopw [14] (fun i wr => ∃ k : Nat, k ≤ n ∧ i = .int .i64 k ∧ Hid (SqW 108 rs B b g (ns.map fun n => Value.int .i64 n).toArray (xs ++ [27] ++ nsB ns k) w wr)) (fun i _ => n - (RowKit.intOf i).toNat)
  case atStart => exact ⟨0, Nat.zero_le _, rfl, H1⟩
  case round =>
    obtain ⟨k, hk, rfl, HK⟩ := hrel
    clear H1
    by_cases hlt : k < n
    · have ik : (k : Int) < n := by omega
      have hk2 : k < ns.length := by have := HNn.out; omega
      have c0 := HC.out wr HK.out.gx k hk2
      have hn1 := HN.out k hk2
      have hle := HLn.out k (by have := HNn.out; omega)
      have HL1 : Hid ((Lib.byteCells (xs ++ [27] ++ nsB ns k)).length ≤ 100100000) := by unfold Hid; rw [Lib.byteCells_length]; exact hle
      have HNx : Hid (nsB ns (k + 1) = nsB ns k ++ [if k = 0 then 91 else 59] ++ Lib.itoa ns[k]) := by
        have h4 : ns.getD k 0 = ns[k] := by simp [List.getD, hk2]
        unfold Hid
        rw [nsB, h4]
      have hil := Lib.itoa_length_le _ hn1.1 hn1.2
      have HIl : Hid (((Lib.itoa ns[k]).toArray).size ≤ 21) := by unfold Hid; simpa using hil
      have HItoa : Hid (∀ W, PwC B W → Calls Tryz.prog 119 #[.int .i64 ns[k]] W fun e w' => e = .returned (.string ⟨(Lib.itoa ns[k]).toArray⟩) ∧ Below W.heap.size W w') := fun W hP => itoaD_any B _ W hn1.1 hn1.2 hP
      have HSt : Hid (∀ z : UInt8, z = (if k = 0 then 91 else 59) → ∀ W, SqW 108 rs B b g (ns.map fun n => Value.int .i64 n).toArray (xs ++ [27] ++ nsB ns k ++ [z]) w W → ∀ W', BdF 108 rs B b (.pointer (some ⟨b, 0, none⟩)) (Lib.byteCells (xs ++ [27] ++ nsB ns k ++ [z]) ++ Lib.strCells ⟨(Lib.itoa ns[k]).toArray⟩) W' → KpD B b W W' → SqW 108 rs B b g (ns.map fun n => Value.int .i64 n).toArray (xs ++ [27] ++ nsB ns (k + 1)) w W') := fun z hz W hW W' hB' hK' => by
        subst hz
        have e : Lib.strCells ⟨(Lib.itoa ns[k]).toArray⟩ = Lib.byteCells (Lib.itoa ns[k]) := by rw [Lib.strCells_eq]
        rw [e] at hB'
        have := hW.next (ys := Lib.itoa ns[k]) HNe.out hB' hK'
        rw [HNx.out]
        simpa using this
      clear hle hil hn1
      generalize ns[k] = m at *
      generalize Lib.itoa m = im at *
      by_cases hk0 : k = 0
      · subst hk0
        go_wp2_with fail
        refine (dWriteByte_any 108 rs B b _ 91 _ HT.out HK.out.bd (by have := HL1.out; omega) HK.out.lo).mono ?_
        rintro e W2 ⟨⟨u2, rfl⟩, h2, k2⟩
        have H2 : Hid (SqW 108 rs B b g (ns.map fun n => Value.int .i64 n).toArray (xs ++ [27] ++ nsB ns 0 ++ [91]) w W2) := HK.out.next (ys := [91]) HNe.out h2 k2
        have HL2 : Hid ((Lib.byteCells (xs ++ [27] ++ nsB ns 0 ++ [91])).length ≤ 100100001) := by
          have := HL1.out
          unfold Hid
          rw [bcs_app, List.length_append]
          simp only [Lib.byteCells_length, List.length_singleton] at *
          omega
        have HSt2 := show Hid _ from HSt.out 91 (by simp)
        clear h2 k2 HK c0 HSt
        go_wp2_with fail
        refine R4.wp_region_lit 5 0 1 (fun _ _ => undef) (fun _ => .cells #[] 0) [] (by kernel_rfl) (by kernel_rfl) rfl (fun k hk => absurd hk (by omega)) rfl ?_
        apply Exists.intro
        refine ⟨fun bs ne => ?_, fun i h1 h2 => absurd h2 (by omega), ?_⟩
        · simp only [List.take_succ_cons, List.take_zero]
          repeat (go_big_quiet_step (first | (go_at_call 119; exact gb_call (HItoa.out _ ((HP.out.on H2.out.kp.bw).on ((Gb.below _).mono H2.out.lo))))))
          exact wpQuiet_nil rfl
        · intro bl wx hbl _ _
          have H3 : Hid (SqW 108 rs B b g (ns.map fun n => Value.int .i64 n).toArray (xs ++ [27] ++ nsB ns 0 ++ [91]) w wx) := H2.out.bel hbl
          have HS3 : Hid (∀ W', BdF 108 rs B b (.pointer (some ⟨b, 0, none⟩)) (Lib.byteCells (xs ++ [27] ++ nsB ns 0 ++ [91]) ++ Lib.strCells ⟨im.toArray⟩) W' → KpD B b wx W' → SqW 108 rs B b g (ns.map fun n => Value.int .i64 n).toArray (xs ++ [27] ++ nsB ns (0 + 1)) w W') := fun W' h1 h2 => HSt2.out wx H3.out W' h1 h2
          simp only [R4.layL]
          clear hbl
          refine wpAny_one 5 (by kernel_rfl) rfl ?_
          intro K hK
          go_simp
          refine (dWriteString_any 108 rs B b _ ⟨im.toArray⟩ _ HT.out H3.out.bd (by have := HL2.out; have h9 := HIl.out; show _ + im.toArray.size ≤ _; omega) H3.out.lo).mono ?_
          rintro e W5 ⟨⟨u5, rfl⟩, h5, k5⟩
          have H5 : Hid (SqW 108 rs B b g (ns.map fun n => Value.int .i64 n).toArray (xs ++ [27] ++ nsB ns (0 + 1)) w W5) := HS3.out W5 h5 k5
          clear h5 k5 HS3 H3 H2
          refine hK _ _ ?_
          clear hK K
          refine wpAny_done (by kernel_rfl) ?_ _
          go_wp2
          exact ⟨⟨0 + 1, by omega, by go_num, H5⟩, by simp [RowKit.intOf]; omega⟩
      · have hz : ((k : Int) == 0) = false := by simp; omega
        go_wp2_with fail
        refine (dWriteByte_any 108 rs B b _ 59 _ HT.out HK.out.bd (by have := HL1.out; omega) HK.out.lo).mono ?_
        rintro e W2 ⟨⟨u2, rfl⟩, h2, k2⟩
        have H2 : Hid (SqW 108 rs B b g (ns.map fun n => Value.int .i64 n).toArray (xs ++ [27] ++ nsB ns k ++ [59]) w W2) := HK.out.next (ys := [59]) HNe.out h2 k2
        have HL2 : Hid ((Lib.byteCells (xs ++ [27] ++ nsB ns k ++ [59])).length ≤ 100100001) := by
          have := HL1.out
          unfold Hid
          rw [bcs_app, List.length_append]
          simp only [Lib.byteCells_length, List.length_singleton] at *
          omega
        have HSt2 := show Hid _ from HSt.out 59 (by simp [hk0])
        clear h2 k2 HK c0 HSt
        go_wp2_with fail
        refine R4.wp_region_lit 5 0 1 (fun _ _ => undef) (fun _ => .cells #[] 0) [] (by kernel_rfl) (by kernel_rfl) rfl (fun k hk => absurd hk (by omega)) rfl ?_
        apply Exists.intro
        refine ⟨fun bs ne => ?_, fun i h1 h2 => absurd h2 (by omega), ?_⟩
        · simp only [List.take_succ_cons, List.take_zero]
          repeat (go_big_quiet_step (first | (go_at_call 119; exact gb_call (HItoa.out _ ((HP.out.on H2.out.kp.bw).on ((Gb.below _).mono H2.out.lo))))))
          exact wpQuiet_nil rfl
        · intro bl wx hbl _ _
          have H3 : Hid (SqW 108 rs B b g (ns.map fun n => Value.int .i64 n).toArray (xs ++ [27] ++ nsB ns k ++ [59]) w wx) := H2.out.bel hbl
          have HS3 : Hid (∀ W', BdF 108 rs B b (.pointer (some ⟨b, 0, none⟩)) (Lib.byteCells (xs ++ [27] ++ nsB ns k ++ [59]) ++ Lib.strCells ⟨im.toArray⟩) W' → KpD B b wx W' → SqW 108 rs B b g (ns.map fun n => Value.int .i64 n).toArray (xs ++ [27] ++ nsB ns (k + 1)) w W') := fun W' h1 h2 => HSt2.out wx H3.out W' h1 h2
          simp only [R4.layL]
          clear hbl
          refine wpAny_one 5 (by kernel_rfl) rfl ?_
          intro K hK
          go_simp
          refine (dWriteString_any 108 rs B b _ ⟨im.toArray⟩ _ HT.out H3.out.bd (by have := HL2.out; have h9 := HIl.out; show _ + im.toArray.size ≤ _; omega) H3.out.lo).mono ?_
          rintro e W5 ⟨⟨u5, rfl⟩, h5, k5⟩
          have H5 : Hid (SqW 108 rs B b g (ns.map fun n => Value.int .i64 n).toArray (xs ++ [27] ++ nsB ns (k + 1)) w W5) := HS3.out W5 h5 k5
          clear h5 k5 HS3 H3 H2
          refine hK _ _ ?_
          clear hK K
          refine wpAny_done (by kernel_rfl) ?_ _
          go_wp2
          exact ⟨⟨k + 1, by omega, by go_num, H5⟩, by simp [RowKit.intOf]; omega⟩
    · obtain rfl : k = n := by omega
      have hle := HLn.out k (by have := HNn.out; omega)
      go_wp2_with fail
      refine (dWriteByte_any 108 rs B b _ q.toNat _ HT.out HK.out.bd (by rw [Lib.byteCells_length]; omega) HK.out.lo).mono ?_
      rintro e W4 ⟨⟨u4, rfl⟩, h4, k4⟩
      have HF : Hid (IsBd 108 rs B b (Lib.byteCells (xs ++ seqB q ns)) W4 ∧ KpD B b w W4) := by
        have h5 := HK.out.next (ys := [q]) HNe.out h4 k4
        refine ⟨?_, h5.kp⟩
        have h6 := h5.bd
        rw [HNn.out] at h6
        unfold seqB
        simpa using h6
      clear h4 k4 HK
      go_wp2
      go_end0
      exact ⟨rfl, HF.out⟩

end Go.Proofs.YtleoaanjcccooaaGreatDoor

/-
  Package cells: how a teller writes: paint, colours, cell.
-/
namespace Go.Proofs.YtleoaanjcccooaaGreatDoor
open Go.RowKit Go.Shelf Go.Lib

theorem eqK_eq {a b : Co} (h : eqK a b = true) : a = b := by
  obtain ⟨a1, a2, a3, a4⟩ := a
  obtain ⟨b1, b2, b3, b4⟩ := b
  simp [eqK] at h
  simp [h]
set_option maxHeartbeats 1000000 in
theorem neq_col (a b : Co) (w : World) : (binOp .neq 45 (Value.agg #[.int .u8 a.r, .int .u8 a.g, .int .u8 a.b, .int .u8 a.a]) (Value.agg #[.int .u8 b.r, .int .u8 b.g, .int .u8 b.b, .int .u8 b.a])).run Tryz.prog w = .ok (.bool (!eqK a b)) w := by
  simp [go_sem]
  exact chainN (chainN (chainN chainM))
theorem bdf_rest {T : TypeId} {rs : List Value} {B b : Nat} {p : Value} {bs : List Value} {w : World} (h : BdF T rs B b p bs w) (i : Nat) (v : Value) : BdF T (rs.set i v) B b p bs (w.setCell ⟨b, i + 2, none⟩ v) := by
  obtain ⟨hB, v0, hb, hown, hne⟩ := h
  refine ⟨hB, v0, ?_, own_setF hown hne v, hne⟩
  simp [World.setCell, Array.getElem?_modify, hb]
theorem isbd_rest {T : TypeId} {rs : List Value} {B b : Nat} {bs : List Value} {w : World} (h : IsBd T rs B b bs w) (i : Nat) (v : Value) : IsBd T (rs.set i v) B b bs (w.setCell ⟨b, i + 2, none⟩ v) := h.elim (fun x => .inl (bdf_rest x i v)) (fun x => .inr (bdf_rest x i v))
theorem KpD.setCell {B b : Nat} (hB : B ≤ b) (w : World) (o : Nat) (v : Value) : KpD B b w (w.setCell ⟨b, o, none⟩ v) := ⟨(Below.refl B w).setCell (p := ⟨b, o, none⟩) hB v, (Lib.OthersKept.refl _ _ w).setCell ⟨b, o, none⟩ rfl v⟩
theorem IsBd.at {T : TypeId} {rs : List Value} {B b : Nat} {bs : List Value} {w : World} (h : IsBd T rs B b bs w) (i : Nat) : w.cell? ⟨b, i + 2, none⟩ = rs[i]? ∧ w.frozen? ⟨b, i + 2, none⟩ = false := by
  rcases h with ⟨_, v, hb, _⟩ | ⟨_, v, hb, _⟩
  · exact ⟨by rw [Lib.cell_of_heap hb]; simp, Lib.frozen_of_heap hb _⟩
  · exact ⟨by rw [Lib.cell_of_heap hb]; simp, Lib.frozen_of_heap hb _⟩
theorem IsBd.fore {B b : Nat} {bs : List Value} {w : World} {c k : Co} (h : IsBd 108 (rsT c k) B b bs w) (d : Co) : IsBd 108 (rsT d k) B b bs ((((w.setCell ⟨b, 2, none⟩ (.int .u8 d.r)).setCell ⟨b, 3, none⟩ (.int .u8 d.g)).setCell ⟨b, 4, none⟩ (.int .u8 d.b)).setCell ⟨b, 5, none⟩ (.int .u8 d.a)) :=
  isbd_rest (isbd_rest (isbd_rest (isbd_rest h 0 (.int .u8 d.r)) 1 (.int .u8 d.g)) 2 (.int .u8 d.b)) 3 (.int .u8 d.a)
theorem IsBd.back {B b : Nat} {bs : List Value} {w : World} {c k : Co} (h : IsBd 108 (rsT c k) B b bs w) (d : Co) : IsBd 108 (rsT c d) B b bs ((((w.setCell ⟨b, 6, none⟩ (.int .u8 d.r)).setCell ⟨b, 7, none⟩ (.int .u8 d.g)).setCell ⟨b, 8, none⟩ (.int .u8 d.b)).setCell ⟨b, 9, none⟩ (.int .u8 d.a)) :=
  isbd_rest (isbd_rest (isbd_rest (isbd_rest h 4 (.int .u8 d.r)) 5 (.int .u8 d.g)) 6 (.int .u8 d.b)) 7 (.int .u8 d.a)
theorem kpb_four {B b : Nat} (hB : B ≤ b) (w : World) (o1 o2 o3 o4 : Nat) (v1 v2 v3 v4 : Value) : KpD B b w ((((w.setCell ⟨b, o1, none⟩ v1).setCell ⟨b, o2, none⟩ v2).setCell ⟨b, o3, none⟩ v3).setCell ⟨b, o4, none⟩ v4) :=
  (((KpD.setCell hB w o1 v1).trans (KpD.setCell hB _ o2 v2)).trans (KpD.setCell hB _ o3 v3)).trans (KpD.setCell hB _ o4 v4)

/-- What is told of colours. -/
def pntB (of : Int) (c : Co) : List UInt8 := seqB 109 [of, 2, c.r, c.g, c.b, c.a]
def colB (st : Co × Co) (c : Ce) : List UInt8 := (if eqK c.c st.1 = true then [] else pntB 38 c.c) ++ (if eqK c.b st.2 = true then [] else pntB 48 c.b)
def telC (st : Co × Co) (c : Ce) (way : Int) : List UInt8 := if way = 1 then [] else colB st c ++ (if way = 2 then [14] else if way = 3 then [15] else []) ++ Lib.encodeRune c.r
def stC (st : Co × Co) (c : Ce) (way : Int) : Co × Co := if way = 1 then st else (c.c, c.b)
theorem pntB_len (of : Int) (c : Co) (h : c.ok) (h1 : 0 ≤ of) (h2 : of ≤ 255) : (pntB of c).length ≤ 134 := by
  obtain ⟨⟨a1, a2⟩, ⟨b1, b2⟩, ⟨c1, c2⟩, ⟨d1, d2⟩⟩ := h
  have := seqB_len 109 [of, 2, c.r, c.g, c.b, c.a] (fun n hn => by
    simp only [List.mem_cons, List.not_mem_nil, or_false] at hn
    rcases hn with rfl | rfl | rfl | rfl | rfl | rfl <;> omega)
  simpa [pntB] using this
theorem colB_len (st : Co × Co) (c : Ce) (h1 : c.c.ok) (h2 : c.b.ok) : (colB st c).length ≤ 268 := by
  have a1 := pntB_len 38 c.c h1 (by decide) (by decide)
  have a2 := pntB_len 48 c.b h2 (by decide) (by decide)
  unfold colB
  rw [List.length_append]
  split <;> split <;> simp <;> omega
theorem telC_len (st : Co × Co) (c : Ce) (way : Int) (h1 : c.c.ok) (h2 : c.b.ok) : (telC st c way).length ≤ 273 := by
  have a1 := colB_len st c h1 h2
  have a2 := (Lib.runeCells_le c.r).2
  rw [Lib.runeCells_length] at a2
  unfold telC
  split
  · simp
  · rw [List.length_append, List.length_append]
    split
    · simp; omega
    · split <;> simp <;> omega

set_option maxRecDepth 20000 in
set_option maxHeartbeats 8000000 in
theorem paint_any (rs : List Value) (H : TyH 108 (rs.length + 2)) (B b : Nat) (xs : List UInt8) (of : Int) (c : Co) (w : World) (hI : IsBd 108 rs B b (Lib.byteCells xs) w) (hB : B ≤ w.heap.size) (hc : c.ok) (h1 : 0 ≤ of) (h2 : of ≤ 255) (hx : xs.length ≤ 100000000) (P : PwC B w) :
    Calls Tryz.prog 143 #[.pointer (some ⟨b, 0, none⟩), .int .i64 of, (Value.agg #[.int .u8 c.r, .int .u8 c.g, .int .u8 c.b, .int .u8 c.a])] w fun e w' => e = .returned (.tuple #[]) ∧ IsBd 108 rs B b (Lib.byteCells (xs ++ pntB of c)) w' ∧ KpD B b w w' := by
  obtain ⟨⟨r1, r2⟩, ⟨g1, g2⟩, ⟨b1, b2⟩, ⟨a1, a2⟩⟩ := hc
  have HS : Hid (∀ W, W = (w.alloc (.cells #[.int .u8 c.r, .int .u8 c.g, .int .u8 c.b, .int .u8 c.a] 45)).alloc (.cells #[.int .i64 of, .int .i64 2, .int .i64 c.r, .int .i64 c.g, .int .i64 c.b, .int .i64 c.a] 3) → Calls Tryz.prog 86 #[.pointer (some ⟨b, 0, none⟩), .int .u8 109, .slice (some ⟨w.heap.size + 1, 0, none⟩) 6 6] W fun e w' => e = .returned (.tuple #[]) ∧ IsBd 108 rs B b (Lib.byteCells (xs ++ pntB of c)) w' ∧ KpD B b w w') := fun W hW => by
    have k2 := Bk.new (w.alloc (.cells #[.int .u8 c.r, .int .u8 c.g, .int .u8 c.b, .int .u8 c.a] 45)) #[.int .i64 of, .int .i64 2, .int .i64 c.r, .int .i64 c.g, .int .i64 c.b, .int .i64 c.a] 3
    simp only [World.size_alloc] at k2
    have hb : Below w.heap.size w ((w.alloc (.cells #[.int .u8 c.r, .int .u8 c.g, .int .u8 c.b, .int .u8 c.a] 45)).alloc (.cells #[.int .i64 of, .int .i64 2, .int .i64 c.r, .int .i64 c.g, .int .i64 c.b, .int .i64 c.a] 3)) := ((Below.refl _ w).alloc (Nat.le_refl _) _).alloc (by simp) _
    rw [← hW] at k2 hb
    have hl := hI.lt
    refine (seq_any rs H B b (w.heap.size + 1) xs 109 [of, 2, c.r, c.g, c.b, c.a] W (hI.below hb) (Nat.le_trans hB hb.size) k2 (by omega) (fun n hn => ?_) (by simp) hx (P.on (hb.mono hB))).mono ?_
    · simp only [List.mem_cons, List.not_mem_nil, or_false] at hn
      rcases hn with rfl | rfl | rfl | rfl | rfl | rfl <;> omega
    · rintro e w' ⟨rfl, q1, q2⟩
      exact ⟨rfl, q1, (KpD.of_below hB hb).trans q2⟩
  clear hI hB hx P H
  go_enter Tryz.func143, Tryz.ntmps143
  go_wp2_with fail
  refine (HS.out _ rfl).mono ?_
  rintro e w2 ⟨rfl, q1, q2⟩
  have HF : Hid (IsBd 108 rs B b (Lib.byteCells (xs ++ pntB of c)) w2 ∧ KpD B b w w2) := ⟨q1, q2⟩
  clear q1 q2 HS
  go_wp2
  go_end0
  exact ⟨rfl, HF.out⟩

/-- What lies of a teller. -/
structure TlW (B b : Nat) (st : Co × Co) (xs : List UInt8) (w wr : World) : Prop where
  bd : IsBd 108 (rsT st.1 st.2) B b (Lib.byteCells xs) wr
  kp : KpD B b w wr
  lo : B ≤ wr.heap.size
theorem TlW.bel {B b : Nat} {st : Co × Co} {xs : List UInt8} {w wr W : World} (h : TlW B b st xs w wr) (hb : Below wr.heap.size wr W) : TlW B b st xs w W := ⟨h.bd.below hb, h.kp.trans (KpD.of_below h.lo hb), Nat.le_trans h.lo hb.size⟩
theorem TlW.then {B b : Nat} {st st' : Co × Co} {xs xs' : List UInt8} {w wr W : World} (h : TlW B b st xs w wr) (k : TlW B b st' xs' wr W) : TlW B b st' xs' w W := ⟨k.bd, h.kp.trans k.kp, k.lo⟩

end Go.Proofs.YtleoaanjcccooaaGreatDoor

/-
  Package cells: how a teller writes: colours, cell, full.
-/
namespace Go.Proofs.YtleoaanjcccooaaGreatDoor
open Go.RowKit Go.Shelf Go.Lib

theorem col_at {W : World} {sb : Nat} {c : Ce} (h : Bk W sb (#[.int .i32 c.r, .int .u8 c.c.r, .int .u8 c.c.g, .int .u8 c.c.b, .int .u8 c.c.a, .int .u8 c.b.r, .int .u8 c.b.g, .int .u8 c.b.b, .int .u8 c.b.a, .bool c.wd, .bool c.tl]) 47) : W.cell? ⟨sb, 1, none⟩ = some (.int .u8 c.c.r) ∧ W.cell? ⟨sb, 2, none⟩ = some (.int .u8 c.c.g) ∧ W.cell? ⟨sb, 3, none⟩ = some (.int .u8 c.c.b) ∧ W.cell? ⟨sb, 4, none⟩ = some (.int .u8 c.c.a) ∧ W.cell? ⟨sb, 5, none⟩ = some (.int .u8 c.b.r) ∧ W.cell? ⟨sb, 6, none⟩ = some (.int .u8 c.b.g) ∧ W.cell? ⟨sb, 7, none⟩ = some (.int .u8 c.b.b) ∧ W.cell? ⟨sb, 8, none⟩ = some (.int .u8 c.b.a) := ⟨h.cell 1, h.cell 2, h.cell 3, h.cell 4, h.cell 5, h.cell 6, h.cell 7, h.cell 8⟩
theorem tel_at {B b : Nat} {bs : List Value} {w : World} {c k : Co} (h : IsBd 108 (rsT c k) B b bs w) : (w.cell? ⟨b, 2, none⟩ = some (.int .u8 c.r) ∧ w.cell? ⟨b, 3, none⟩ = some (.int .u8 c.g) ∧ w.cell? ⟨b, 4, none⟩ = some (.int .u8 c.b) ∧ w.cell? ⟨b, 5, none⟩ = some (.int .u8 c.a) ∧ w.cell? ⟨b, 6, none⟩ = some (.int .u8 k.r) ∧ w.cell? ⟨b, 7, none⟩ = some (.int .u8 k.g) ∧ w.cell? ⟨b, 8, none⟩ = some (.int .u8 k.b) ∧ w.cell? ⟨b, 9, none⟩ = some (.int .u8 k.a)) ∧ (w.frozen? ⟨b, 2, none⟩ = false ∧ w.frozen? ⟨b, 3, none⟩ = false ∧ w.frozen? ⟨b, 4, none⟩ = false ∧ w.frozen? ⟨b, 5, none⟩ = false ∧ w.frozen? ⟨b, 6, none⟩ = false ∧ w.frozen? ⟨b, 7, none⟩ = false ∧ w.frozen? ⟨b, 8, none⟩ = false ∧ w.frozen? ⟨b, 9, none⟩ = false) :=
  ⟨⟨(h.at 0).1, (h.at 1).1, (h.at 2).1, (h.at 3).1, (h.at 4).1, (h.at 5).1, (h.at 6).1, (h.at 7).1⟩, (h.at 0).2, (h.at 1).2, (h.at 2).2, (h.at 3).2, (h.at 4).2, (h.at 5).2, (h.at 6).2, (h.at 7).2⟩

set_option maxRecDepth 20000 in
set_option maxHeartbeats 8000000 in
theorem colours_any (B b : Nat) (xs : List UInt8) (s k : Co) (c : Ce) (w : World) (hI : IsBd 108 (rsT s k) B b (Lib.byteCells xs) w) (hB : B ≤ w.heap.size) (h1 : c.c.ok) (h2 : c.b.ok) (hx : xs.length ≤ 99999000) (P : PwC B w) :
    Calls Tryz.prog 120 #[.pointer (some ⟨b, 0, none⟩), (Value.agg #[.int .i32 c.r, .int .u8 c.c.r, .int .u8 c.c.g, .int .u8 c.c.b, .int .u8 c.c.a, .int .u8 c.b.r, .int .u8 c.b.g, .int .u8 c.b.b, .int .u8 c.b.a, .bool c.wd, .bool c.tl])] w fun e w' => e = .returned (.tuple #[]) ∧ TlW B b (c.c, c.b) (xs ++ colB (s, k) c) w w' := by
  have hb := hI.lt
  have H0 : Hid (∀ W, W = w.alloc (.cells (#[.int .i32 c.r, .int .u8 c.c.r, .int .u8 c.c.g, .int .u8 c.c.b, .int .u8 c.c.a, .int .u8 c.b.r, .int .u8 c.b.g, .int .u8 c.b.b, .int .u8 c.b.a, .bool c.wd, .bool c.tl]) 47) → TlW B b (s, k) xs w W ∧ Bk W w.heap.size (#[.int .i32 c.r, .int .u8 c.c.r, .int .u8 c.c.g, .int .u8 c.c.b, .int .u8 c.c.a, .int .u8 c.b.r, .int .u8 c.b.g, .int .u8 c.b.b, .int .u8 c.b.a, .bool c.wd, .bool c.tl]) 47 ∧ b < w.heap.size) := fun W hW => by
    subst hW
    exact ⟨⟨hI.below ((Below.refl _ _).alloc (Nat.le_refl _) _), KpD.of_below hB ((Below.refl _ _).alloc (Nat.le_refl _) _), by simp; omega⟩, Bk.new _ _ _, hb.2⟩
  have HPt : Hid (∀ (s k : Co) (ys : List UInt8) (of : Int) (d : Co) W, TlW B b (s, k) ys w W → d.ok → 0 ≤ of → of ≤ 255 → ys.length ≤ 100000000 → Calls Tryz.prog 143 #[.pointer (some ⟨b, 0, none⟩), .int .i64 of, (Value.agg #[.int .u8 d.r, .int .u8 d.g, .int .u8 d.b, .int .u8 d.a])] W fun e w' => e = .returned (.tuple #[]) ∧ TlW B b (s, k) (ys ++ pntB of d) w w' ∧ KpD B b W w') := fun s k ys of d W hW hd q1 q2 q3 => by
    refine (paint_any (rsT s k) (tel_tyh s k) B b ys of d W hW.bd hW.lo hd q1 q2 q3 (P.on hW.kp.bw)).mono ?_
    rintro e w' ⟨rfl, k1, k2⟩
    exact ⟨rfl, ⟨k1, hW.kp.trans k2, Nat.le_trans hW.lo k2.bw.size⟩, k2⟩
  have hBb : Hid (B ≤ b) := hb.1
  have HO : Hid (c.c.ok ∧ c.b.ok) := ⟨h1, h2⟩
  have HX : Hid (xs.length ≤ 99999000) := hx
  have HCb : Hid (colB (s, k) c = (if eqK c.c s = true then [] else pntB 38 c.c) ++ (if eqK c.b k = true then [] else pntB 48 c.b)) := rfl
  have n1 := neq_col c.c s
  have n2 := neq_col c.b k
  have HE1 : Hid (eqK c.c s = true → c.c = s) := eqK_eq
  have HE2 : Hid (eqK c.b k = true → c.b = k) := eqK_eq
  have HPl : Hid ((pntB 38 c.c).length ≤ 134) := pntB_len 38 c.c h1 (by decide) (by decide)
  obtain ⟨Z, hZ⟩ : ∃ Z, Z = colB (s, k) c := ⟨_, rfl⟩
  rw [← hZ] at HCb ⊢
  clear hI hB h1 h2 hx P hb hZ
  generalize hq1 : eqK c.c s = q1 at *
  generalize hq2 : eqK c.b k = q2 at *
  clear hq1 hq2
  go_enter Tryz.func120, Tryz.ntmps120
  go_wp2_with fail
  obtain ⟨W1, hW1⟩ : ∃ W1, W1 = w.alloc (.cells (#[.int .i32 c.r, .int .u8 c.c.r, .int .u8 c.c.g, .int .u8 c.c.b, .int .u8 c.c.a, .int .u8 c.b.r, .int .u8 c.b.g, .int .u8 c.b.b, .int .u8 c.b.a, .bool c.wd, .bool c.tl]) 47) := ⟨_, rfl⟩
  obtain ⟨sb, hsb⟩ : ∃ sb, sb = w.heap.size := ⟨_, rfl⟩
  have H1 : Hid (TlW B b (s, k) xs w W1 ∧ Bk W1 sb (#[.int .i32 c.r, .int .u8 c.c.r, .int .u8 c.c.g, .int .u8 c.c.b, .int .u8 c.c.a, .int .u8 c.b.r, .int .u8 c.b.g, .int .u8 c.b.b, .int .u8 c.b.a, .bool c.wd, .bool c.tl]) 47 ∧ b < sb) := by rw [hsb]; exact H0.out W1 hW1
  rw [← hW1, ← hsb]
  clear hW1 hsb H0
  obtain ⟨⟨t2, t3, t4, t5, _⟩, f2, f3, f4, f5, _⟩ := tel_at H1.out.1.bd
  obtain ⟨c1, c2, c3, c4, _⟩ := col_at H1.out.2.1
  cases q1
  · simp only [Bool.not_false] at n1
    go_wp2_with fail
    go_quiet (fail)
    have H1' : Hid (TlW B b (s, k) xs w (W1.drewN nq) ∧ Bk (W1.drewN nq) sb (#[.int .i32 c.r, .int .u8 c.c.r, .int .u8 c.c.g, .int .u8 c.c.b, .int .u8 c.c.a, .int .u8 c.b.r, .int .u8 c.b.g, .int .u8 c.b.b, .int .u8 c.b.a, .bool c.wd, .bool c.tl]) 47 ∧ b < sb) := ⟨H1.out.1.bel (below_drewN (Below.refl _ _)), H1.out.2.1.below (below_drewN (Below.refl _ _)), H1.out.2.2⟩
    generalize W1.drewN nq = W2 at *
    clear H1 t2 t3 t4 t5 f2 f3 f4 f5 c1 c2 c3 c4 n1 HE1
    obtain ⟨⟨t2, t3, t4, t5, _⟩, f2, f3, f4, f5, _⟩ := tel_at H1'.out.1.bd
    obtain ⟨c1, c2, c3, c4, _⟩ := col_at H1'.out.2.1
    have H3 : Hid (∀ W, W = (((W2.setCell ⟨b, 2, none⟩ (.int .u8 c.c.r)).setCell ⟨b, 3, none⟩ (.int .u8 c.c.g)).setCell ⟨b, 4, none⟩ (.int .u8 c.c.b)).setCell ⟨b, 5, none⟩ (.int .u8 c.c.a) → TlW B b (c.c, k) xs w W ∧ Bk W sb (#[.int .i32 c.r, .int .u8 c.c.r, .int .u8 c.c.g, .int .u8 c.c.b, .int .u8 c.c.a, .int .u8 c.b.r, .int .u8 c.b.g, .int .u8 c.b.b, .int .u8 c.b.a, .bool c.wd, .bool c.tl]) 47) := fun W hW => by
      have kk := kpb_four hBb.out W2 2 3 4 5 (.int .u8 c.c.r) (.int .u8 c.c.g) (.int .u8 c.c.b) (.int .u8 c.c.a)
      have bb := H1'.out.1.bd.fore c.c
      rw [← hW] at kk bb
      exact ⟨⟨bb, H1'.out.1.kp.trans kk, Nat.le_trans H1'.out.1.lo kk.bw.size⟩, kk.cell H1'.out.2.1 (by have := H1'.out.2.2; omega) (by decide)⟩
    have hlt := H1'.out.2.2
    have hne : sb ≠ b := by omega
    clear H1'
    go_wp2_with fail
    refine (HPt.out c.c k xs 38 c.c _ (H3.out _ rfl).1 HO.out.1 (by decide) (by decide) (by have := HX.out; omega)).mono ?_
    rintro e W4 ⟨rfl, h4, k4⟩
    have H4 : Hid (TlW B b (c.c, k) (xs ++ pntB 38 c.c) w W4 ∧ Bk W4 sb (#[.int .i32 c.r, .int .u8 c.c.r, .int .u8 c.c.g, .int .u8 c.c.b, .int .u8 c.c.a, .int .u8 c.b.r, .int .u8 c.b.g, .int .u8 c.b.b, .int .u8 c.b.a, .bool c.wd, .bool c.tl]) 47) := ⟨h4, k4.cell (H3.out _ rfl).2 hne (by decide)⟩
    clear h4 k4 H3 t2 t3 t4 t5 f2 f3 f4 f5 c1 c2 c3 c4
    obtain ⟨⟨_, _, _, _, t6, t7, t8, t9⟩, _, _, _, _, f6, f7, f8, f9⟩ := tel_at H4.out.1.bd
    obtain ⟨_, _, _, _, c5, c6, c7, c8⟩ := col_at H4.out.2
    cases q2
    · simp only [Bool.not_false] at n2
      go_wp2_with fail
      go_quiet (fail)
      have H6 : Hid (TlW B b (c.c, k) (xs ++ pntB 38 c.c) w (W4.drewN nq) ∧ Bk (W4.drewN nq) sb (#[.int .i32 c.r, .int .u8 c.c.r, .int .u8 c.c.g, .int .u8 c.c.b, .int .u8 c.c.a, .int .u8 c.b.r, .int .u8 c.b.g, .int .u8 c.b.b, .int .u8 c.b.a, .bool c.wd, .bool c.tl]) 47) := ⟨H4.out.1.bel (below_drewN (Below.refl _ _)), H4.out.2.below (below_drewN (Below.refl _ _))⟩
      generalize W4.drewN nq = W6 at *
      clear H4 t6 t7 t8 t9 f6 f7 f8 f9 c5 c6 c7 c8 n2
      obtain ⟨⟨_, _, _, _, t6, t7, t8, t9⟩, _, _, _, _, f6, f7, f8, f9⟩ := tel_at H6.out.1.bd
      obtain ⟨_, _, _, _, c5, c6, c7, c8⟩ := col_at H6.out.2
      have H7 : Hid (∀ W, W = (((W6.setCell ⟨b, 6, none⟩ (.int .u8 c.b.r)).setCell ⟨b, 7, none⟩ (.int .u8 c.b.g)).setCell ⟨b, 8, none⟩ (.int .u8 c.b.b)).setCell ⟨b, 9, none⟩ (.int .u8 c.b.a) → TlW B b (c.c, c.b) (xs ++ pntB 38 c.c) w W) := fun W hW => by
        have kk := kpb_four hBb.out W6 6 7 8 9 (.int .u8 c.b.r) (.int .u8 c.b.g) (.int .u8 c.b.b) (.int .u8 c.b.a)
        have bb := H6.out.1.bd.back c.b
        rw [← hW] at kk bb
        exact ⟨bb, H6.out.1.kp.trans kk, Nat.le_trans H6.out.1.lo kk.bw.size⟩
      clear H6
      go_wp2_with fail
      refine (HPt.out c.c c.b (xs ++ pntB 38 c.c) 48 c.b _ (H7.out _ rfl) HO.out.2 (by decide) (by decide) (by have a1 := HX.out; have a2 := HPl.out; first | omega | (simp only [List.length_append]; omega))).mono ?_
      rintro e W8 ⟨rfl, h8, _⟩
      have H8 : Hid (TlW B b (c.c, c.b) ((xs ++ pntB 38 c.c) ++ pntB 48 c.b) w W8) := h8
      clear h8 H7
      go_wp2
      go_end0
      exact ⟨rfl, by rw [HCb.out]; simpa [List.append_assoc] using H8.out⟩
    · have hk : Hid (c.b = k) := HE2.out (by first | rfl | trivial)
      have H6 : Hid (TlW B b (c.c, c.b) (xs ++ pntB 38 c.c) w W4) := by rw [hk.out]; exact H4.out.1
      simp only [Bool.not_true] at n2
      go_wp2_with fail
      go_quiet (fail)
      have H7 : Hid (TlW B b (c.c, c.b) (xs ++ pntB 38 c.c) w (W4.drewN nq)) := H6.out.bel (below_drewN (Below.refl _ _))
      generalize W4.drewN nq = W6 at *
      clear H6
      go_wp2
      go_end0
      exact ⟨rfl, by rw [HCb.out]; simpa [List.append_assoc] using H7.out⟩
  · have hlt := H1.out.2.2
    have hne : sb ≠ b := by omega
    have hk1 : Hid (c.c = s) := HE1.out (by first | rfl | trivial)
    simp only [Bool.not_true] at n1
    go_wp2_with fail
    go_quiet (fail)
    have H4 : Hid (TlW B b (c.c, k) xs w (W1.drewN nq) ∧ Bk (W1.drewN nq) sb (#[.int .i32 c.r, .int .u8 c.c.r, .int .u8 c.c.g, .int .u8 c.c.b, .int .u8 c.c.a, .int .u8 c.b.r, .int .u8 c.b.g, .int .u8 c.b.b, .int .u8 c.b.a, .bool c.wd, .bool c.tl]) 47) := ⟨by rw [hk1.out]; exact H1.out.1.bel (below_drewN (Below.refl _ _)), H1.out.2.1.below (below_drewN (Below.refl _ _))⟩
    generalize W1.drewN nq = W4 at *
    clear H1 t2 t3 t4 t5 f2 f3 f4 f5 c1 c2 c3 c4 n1 HE1 hk1
    obtain ⟨⟨_, _, _, _, t6, t7, t8, t9⟩, _, _, _, _, f6, f7, f8, f9⟩ := tel_at H4.out.1.bd
    obtain ⟨_, _, _, _, c5, c6, c7, c8⟩ := col_at H4.out.2
    cases q2
    · simp only [Bool.not_false] at n2
      go_wp2_with fail
      go_quiet (fail)
      have H6 : Hid (TlW B b (c.c, k) xs w (W4.drewN nq) ∧ Bk (W4.drewN nq) sb (#[.int .i32 c.r, .int .u8 c.c.r, .int .u8 c.c.g, .int .u8 c.c.b, .int .u8 c.c.a, .int .u8 c.b.r, .int .u8 c.b.g, .int .u8 c.b.b, .int .u8 c.b.a, .bool c.wd, .bool c.tl]) 47) := ⟨H4.out.1.bel (below_drewN (Below.refl _ _)), H4.out.2.below (below_drewN (Below.refl _ _))⟩
      generalize W4.drewN nq = W6 at *
      clear H4 t6 t7 t8 t9 f6 f7 f8 f9 c5 c6 c7 c8 n2
      obtain ⟨⟨_, _, _, _, t6, t7, t8, t9⟩, _, _, _, _, f6, f7, f8, f9⟩ := tel_at H6.out.1.bd
      obtain ⟨_, _, _, _, c5, c6, c7, c8⟩ := col_at H6.out.2
      have H7 : Hid (∀ W, W = (((W6.setCell ⟨b, 6, none⟩ (.int .u8 c.b.r)).setCell ⟨b, 7, none⟩ (.int .u8 c.b.g)).setCell ⟨b, 8, none⟩ (.int .u8 c.b.b)).setCell ⟨b, 9, none⟩ (.int .u8 c.b.a) → TlW B b (c.c, c.b) xs w W) := fun W hW => by
        have kk := kpb_four hBb.out W6 6 7 8 9 (.int .u8 c.b.r) (.int .u8 c.b.g) (.int .u8 c.b.b) (.int .u8 c.b.a)
        have bb := H6.out.1.bd.back c.b
        rw [← hW] at kk bb
        exact ⟨bb, H6.out.1.kp.trans kk, Nat.le_trans H6.out.1.lo kk.bw.size⟩
      clear H6
      go_wp2_with fail
      refine (HPt.out c.c c.b xs 48 c.b _ (H7.out _ rfl) HO.out.2 (by decide) (by decide) (by have a1 := HX.out; have a2 := HPl.out; first | omega | (simp only [List.length_append]; omega))).mono ?_
      rintro e W8 ⟨rfl, h8, _⟩
      have H8 : Hid (TlW B b (c.c, c.b) (xs ++ pntB 48 c.b) w W8) := h8
      clear h8 H7
      go_wp2
      go_end0
      exact ⟨rfl, by rw [HCb.out]; simpa [List.append_assoc] using H8.out⟩
    · have hk : Hid (c.b = k) := HE2.out (by first | rfl | trivial)
      have H6 : Hid (TlW B b (c.c, c.b) xs w W4) := by rw [hk.out]; exact H4.out.1
      simp only [Bool.not_true] at n2
      go_wp2_with fail
      go_quiet (fail)
      have H7 : Hid (TlW B b (c.c, c.b) xs w (W4.drewN nq)) := H6.out.bel (below_drewN (Below.refl _ _))
      generalize W4.drewN nq = W6 at *
      clear H6
      go_wp2
      go_end0
      exact ⟨rfl, by rw [HCb.out]; simpa [List.append_assoc] using H7.out⟩

set_option maxRecDepth 20000 in
set_option maxHeartbeats 8000000 in
theorem tcell_any (B b : Nat) (xs : List UInt8) (st : Co × Co) (c : Ce) (way : Int) (hway : way = 0 ∨ way = 1 ∨ way = 2 ∨ way = 3) (w : World) (hI : IsBd 108 (rsT st.1 st.2) B b (Lib.byteCells xs) w) (hB : B ≤ w.heap.size) (h1 : c.c.ok) (h2 : c.b.ok) (hr : 0 ≤ c.r ∧ c.r ≤ 1114111) (hx : xs.length ≤ 99990000) (P : PwC B w) :
    Calls Tryz.prog 87 #[.pointer (some ⟨b, 0, none⟩), (Value.agg #[.int .i32 c.r, .int .u8 c.c.r, .int .u8 c.c.g, .int .u8 c.c.b, .int .u8 c.c.a, .int .u8 c.b.r, .int .u8 c.b.g, .int .u8 c.b.b, .int .u8 c.b.a, .bool c.wd, .bool c.tl]), .int .i64 way] w fun e w' => e = .returned (.tuple #[]) ∧ TlW B b (stC st c way) (xs ++ telC st c way) w w' := by
  have hb := hI.lt
  have H0 : Hid (∀ W, W = w.alloc (.cells (#[.int .i32 c.r, .int .u8 c.c.r, .int .u8 c.c.g, .int .u8 c.c.b, .int .u8 c.c.a, .int .u8 c.b.r, .int .u8 c.b.g, .int .u8 c.b.b, .int .u8 c.b.a, .bool c.wd, .bool c.tl]) 47) → TlW B b st xs w W ∧ Bk W w.heap.size (#[.int .i32 c.r, .int .u8 c.c.r, .int .u8 c.c.g, .int .u8 c.c.b, .int .u8 c.c.a, .int .u8 c.b.r, .int .u8 c.b.g, .int .u8 c.b.b, .int .u8 c.b.a, .bool c.wd, .bool c.tl]) 47 ∧ b < w.heap.size) := fun W hW => by
    subst hW
    exact ⟨⟨hI.below ((Below.refl _ _).alloc (Nat.le_refl _) _), KpD.of_below hB ((Below.refl _ _).alloc (Nat.le_refl _) _), by simp; omega⟩, Bk.new _ _ _, hb.2⟩
  have HCl : Hid (∀ W, TlW B b st xs w W → Calls Tryz.prog 120 #[.pointer (some ⟨b, 0, none⟩), (Value.agg #[.int .i32 c.r, .int .u8 c.c.r, .int .u8 c.c.g, .int .u8 c.c.b, .int .u8 c.c.a, .int .u8 c.b.r, .int .u8 c.b.g, .int .u8 c.b.b, .int .u8 c.b.a, .bool c.wd, .bool c.tl])] W fun e w' => e = .returned (.tuple #[]) ∧ TlW B b (c.c, c.b) (xs ++ colB st c) W w') := fun W hW => colours_any B b xs st.1 st.2 c W hW.bd hW.lo h1 h2 (by omega) (P.on hW.kp.bw)
  have HLn : Hid ((xs ++ colB st c).length ≤ 99999000) := by
    have := colB_len st c h1 h2
    unfold Hid
    rw [List.length_append]
    omega
  clear hI hB h1 h2 hx P hb
  rcases hway with rfl | rfl | rfl | rfl
  · go_enter Tryz.func87, Tryz.ntmps87
    go_wp2_with fail
    obtain ⟨W1, hW1⟩ : ∃ W1, W1 = w.alloc (.cells (#[.int .i32 c.r, .int .u8 c.c.r, .int .u8 c.c.g, .int .u8 c.c.b, .int .u8 c.c.a, .int .u8 c.b.r, .int .u8 c.b.g, .int .u8 c.b.b, .int .u8 c.b.a, .bool c.wd, .bool c.tl]) 47) := ⟨_, rfl⟩
    obtain ⟨sb, hsb⟩ : ∃ sb, sb = w.heap.size := ⟨_, rfl⟩
    have H1 : Hid (TlW B b st xs w W1 ∧ Bk W1 sb (#[.int .i32 c.r, .int .u8 c.c.r, .int .u8 c.c.g, .int .u8 c.c.b, .int .u8 c.c.a, .int .u8 c.b.r, .int .u8 c.b.g, .int .u8 c.b.b, .int .u8 c.b.a, .bool c.wd, .bool c.tl]) 47 ∧ b < sb) := by rw [hsb]; exact H0.out W1 hW1
    rw [← hW1, ← hsb]
    clear hW1 hsb H0
    have c0 : W1.cell? ⟨sb, 0, none⟩ = some (.int .i32 c.r) := H1.out.2.1.cell 0
    obtain ⟨c1, c2, c3, c4, c5, c6, c7, c8⟩ := col_at H1.out.2.1
    have c9 : W1.cell? ⟨sb, 9, none⟩ = some (.bool c.wd) := H1.out.2.1.cell 9
    have c10 : W1.cell? ⟨sb, 10, none⟩ = some (.bool c.tl) := H1.out.2.1.cell 10
    go_wp2_with fail
    refine (HCl.out W1 H1.out.1).mono ?_
    rintro e W2 ⟨rfl, h2⟩
    have H2 : Hid (TlW B b (c.c, c.b) (xs ++ colB st c) w W2 ∧ Bk W2 sb (#[.int .i32 c.r, .int .u8 c.c.r, .int .u8 c.c.g, .int .u8 c.c.b, .int .u8 c.c.a, .int .u8 c.b.r, .int .u8 c.b.g, .int .u8 c.b.b, .int .u8 c.b.a, .bool c.wd, .bool c.tl]) 47) := ⟨H1.out.1.then h2, h2.kp.cell H1.out.2.1 (by have := H1.out.2.2; omega) (by decide)⟩
    have H2' : Hid (TlW B b (c.c, c.b) (xs ++ colB st c) w W2 ∧ Bk W2 sb (#[.int .i32 c.r, .int .u8 c.c.r, .int .u8 c.c.g, .int .u8 c.c.b, .int .u8 c.c.a, .int .u8 c.b.r, .int .u8 c.b.g, .int .u8 c.b.b, .int .u8 c.b.a, .bool c.wd, .bool c.tl]) 47 ∧ b < sb) := ⟨H2.out.1, H2.out.2, H1.out.2.2⟩
    clear h2 H1 H2 HCl c0 c1 c2 c3 c4 c5 c6 c7 c8 c9 c10
    go_wp2_with fail
    refine R4.wp_region_lit 5 0 1 (fun _ _ => undef) (fun _ => .cells #[] 0) [] (by kernel_rfl) (by kernel_rfl) rfl (fun k hk => absurd hk (by omega)) rfl ?_
    apply Exists.intro
    refine ⟨fun bs ne => ?_, fun i h1 h2 => absurd h2 (by omega), ?_⟩
    · have x0 := fun tt : Gb W2 bs => (show tt.wd.cell? ⟨sb, 0, none⟩ = some (.int .i32 c.r) from (H2'.out.2.1.below tt.below).cell 0)
      simp only [List.take_succ_cons, List.take_zero]
      repeat (go_big_quiet_step (fail))
      exact wpQuiet_nil rfl
    · intro bl wx hbl _ _
      have H9 : Hid (TlW B b (c.c, c.b) (xs ++ colB st c) w wx) := H2'.out.1.bel hbl
      simp only [R4.layL]
      clear hbl
      refine wpAny_one 5 (by kernel_rfl) rfl ?_
      intro K hK
      go_simp
      refine (dWriteRune_any 108 (rsT c.c c.b) B b _ c.r (by omega) (by omega) _ (tel_tyh _ _) H9.out.bd (by rw [Lib.byteCells_length]; have := HLn.out; simp only [List.length_append] at *; first | omega | (simp only [List.length_singleton]; omega)) H9.out.lo).mono ?_
      rintro e W5 ⟨⟨u5, rfl⟩, h5, k5⟩
      have H5 : Hid (TlW B b (c.c, c.b) ((xs ++ colB st c) ++ Lib.encodeRune c.r) w W5) := ⟨.inr (by rw [bcs_app, Lib.byteCells_encodeRune]; exact h5), H9.out.kp.trans k5, Nat.le_trans H9.out.lo k5.bw.size⟩
      clear h5 k5 H9
      refine hK _ _ ?_
      clear hK K
      refine wpAny_done (by kernel_rfl) ?_ _
      go_wp2
      go_end0
      exact ⟨rfl, by simpa [telC, stC, List.append_assoc] using H5.out⟩
  · go_enter Tryz.func87, Tryz.ntmps87
    go_wp2_with fail
    obtain ⟨W1, hW1⟩ : ∃ W1, W1 = w.alloc (.cells (#[.int .i32 c.r, .int .u8 c.c.r, .int .u8 c.c.g, .int .u8 c.c.b, .int .u8 c.c.a, .int .u8 c.b.r, .int .u8 c.b.g, .int .u8 c.b.b, .int .u8 c.b.a, .bool c.wd, .bool c.tl]) 47) := ⟨_, rfl⟩
    obtain ⟨sb, hsb⟩ : ∃ sb, sb = w.heap.size := ⟨_, rfl⟩
    have H1 : Hid (TlW B b st xs w W1 ∧ Bk W1 sb (#[.int .i32 c.r, .int .u8 c.c.r, .int .u8 c.c.g, .int .u8 c.c.b, .int .u8 c.c.a, .int .u8 c.b.r, .int .u8 c.b.g, .int .u8 c.b.b, .int .u8 c.b.a, .bool c.wd, .bool c.tl]) 47 ∧ b < sb) := by rw [hsb]; exact H0.out W1 hW1
    rw [← hW1, ← hsb]
    clear hW1 hsb H0
    have c0 : W1.cell? ⟨sb, 0, none⟩ = some (.int .i32 c.r) := H1.out.2.1.cell 0
    obtain ⟨c1, c2, c3, c4, c5, c6, c7, c8⟩ := col_at H1.out.2.1
    have c9 : W1.cell? ⟨sb, 9, none⟩ = some (.bool c.wd) := H1.out.2.1.cell 9
    have c10 : W1.cell? ⟨sb, 10, none⟩ = some (.bool c.tl) := H1.out.2.1.cell 10
    have HF : Hid (TlW B b st xs w W1) := H1.out.1
    clear H1 c0 c1 c2 c3 c4 c5 c6 c7 c8 c9 c10
    go_wp2
    (try simp only [Exit.inBlock, Exit.then])
    refine bodyPost_ret (results_none rfl _ _ _) rfl ?_
    exact ⟨rfl, by simpa [telC, stC] using HF.out⟩
  · go_enter Tryz.func87, Tryz.ntmps87
    go_wp2_with fail
    obtain ⟨W1, hW1⟩ : ∃ W1, W1 = w.alloc (.cells (#[.int .i32 c.r, .int .u8 c.c.r, .int .u8 c.c.g, .int .u8 c.c.b, .int .u8 c.c.a, .int .u8 c.b.r, .int .u8 c.b.g, .int .u8 c.b.b, .int .u8 c.b.a, .bool c.wd, .bool c.tl]) 47) := ⟨_, rfl⟩
    obtain ⟨sb, hsb⟩ : ∃ sb, sb = w.heap.size := ⟨_, rfl⟩
    have H1 : Hid (TlW B b st xs w W1 ∧ Bk W1 sb (#[.int .i32 c.r, .int .u8 c.c.r, .int .u8 c.c.g, .int .u8 c.c.b, .int .u8 c.c.a, .int .u8 c.b.r, .int .u8 c.b.g, .int .u8 c.b.b, .int .u8 c.b.a, .bool c.wd, .bool c.tl]) 47 ∧ b < sb) := by rw [hsb]; exact H0.out W1 hW1
    rw [← hW1, ← hsb]
    clear hW1 hsb H0
    have c0 : W1.cell? ⟨sb, 0, none⟩ = some (.int .i32 c.r) := H1.out.2.1.cell 0
    obtain ⟨c1, c2, c3, c4, c5, c6, c7, c8⟩ := col_at H1.out.2.1
    have c9 : W1.cell? ⟨sb, 9, none⟩ = some (.bool c.wd) := H1.out.2.1.cell 9
    have c10 : W1.cell? ⟨sb, 10, none⟩ = some (.bool c.tl) := H1.out.2.1.cell 10
    go_wp2_with fail
    refine (HCl.out W1 H1.out.1).mono ?_
    rintro e W2 ⟨rfl, h2⟩
    have H2 : Hid (TlW B b (c.c, c.b) (xs ++ colB st c) w W2 ∧ Bk W2 sb (#[.int .i32 c.r, .int .u8 c.c.r, .int .u8 c.c.g, .int .u8 c.c.b, .int .u8 c.c.a, .int .u8 c.b.r, .int .u8 c.b.g, .int .u8 c.b.b, .int .u8 c.b.a, .bool c.wd, .bool c.tl]) 47) := ⟨H1.out.1.then h2, h2.kp.cell H1.out.2.1 (by have := H1.out.2.2; omega) (by decide)⟩
    have H2' : Hid (TlW B b (c.c, c.b) (xs ++ colB st c) w W2 ∧ Bk W2 sb (#[.int .i32 c.r, .int .u8 c.c.r, .int .u8 c.c.g, .int .u8 c.c.b, .int .u8 c.c.a, .int .u8 c.b.r, .int .u8 c.b.g, .int .u8 c.b.b, .int .u8 c.b.a, .bool c.wd, .bool c.tl]) 47 ∧ b < sb) := ⟨H2.out.1, H2.out.2, H1.out.2.2⟩
    clear h2 H1 H2 HCl c0 c1 c2 c3 c4 c5 c6 c7 c8 c9 c10
    go_wp2_with fail
    refine (dWriteByte_any 108 (rsT c.c c.b) B b _ 14 _ (tel_tyh _ _) H2'.out.1.bd (by rw [Lib.byteCells_length]; have := HLn.out; omega) H2'.out.1.lo).mono ?_
    rintro e W3 ⟨⟨u3, rfl⟩, h3, k3⟩
    have H3 : Hid (TlW B b (c.c, c.b) (xs ++ colB st c ++ [14]) w W3 ∧ Bk W3 sb (#[.int .i32 c.r, .int .u8 c.c.r, .int .u8 c.c.g, .int .u8 c.c.b, .int .u8 c.c.a, .int .u8 c.b.r, .int .u8 c.b.g, .int .u8 c.b.b, .int .u8 c.b.a, .bool c.wd, .bool c.tl]) 47 ∧ b < sb) := ⟨⟨.inr (by rw [bcs_app]; exact h3), H2'.out.1.kp.trans k3, Nat.le_trans H2'.out.1.lo k3.bw.size⟩, k3.cell H2'.out.2.1 (by have := H2'.out.2.2; omega) (by decide), H2'.out.2.2⟩
    clear h3 k3 H2'
    go_wp2_with fail
    refine R4.wp_region_lit 5 0 1 (fun _ _ => undef) (fun _ => .cells #[] 0) [] (by kernel_rfl) (by kernel_rfl) rfl (fun k hk => absurd hk (by omega)) rfl ?_
    apply Exists.intro
    refine ⟨fun bs ne => ?_, fun i h1 h2 => absurd h2 (by omega), ?_⟩
    · have x0 := fun tt : Gb W3 bs => (show tt.wd.cell? ⟨sb, 0, none⟩ = some (.int .i32 c.r) from (H3.out.2.1.below tt.below).cell 0)
      simp only [List.take_succ_cons, List.take_zero]
      repeat (go_big_quiet_step (fail))
      exact wpQuiet_nil rfl
    · intro bl wx hbl _ _
      have H9 : Hid (TlW B b (c.c, c.b) (xs ++ colB st c ++ [14]) w wx) := H3.out.1.bel hbl
      simp only [R4.layL]
      clear hbl
      refine wpAny_one 5 (by kernel_rfl) rfl ?_
      intro K hK
      go_simp
      refine (dWriteRune_any 108 (rsT c.c c.b) B b _ c.r (by omega) (by omega) _ (tel_tyh _ _) H9.out.bd (by rw [Lib.byteCells_length]; have := HLn.out; simp only [List.length_append] at *; first | omega | (simp only [List.length_singleton]; omega)) H9.out.lo).mono ?_
      rintro e W5 ⟨⟨u5, rfl⟩, h5, k5⟩
      have H5 : Hid (TlW B b (c.c, c.b) ((xs ++ colB st c ++ [14]) ++ Lib.encodeRune c.r) w W5) := ⟨.inr (by rw [bcs_app, Lib.byteCells_encodeRune]; exact h5), H9.out.kp.trans k5, Nat.le_trans H9.out.lo k5.bw.size⟩
      clear h5 k5 H9
      refine hK _ _ ?_
      clear hK K
      refine wpAny_done (by kernel_rfl) ?_ _
      go_wp2
      go_end0
      exact ⟨rfl, by simpa [telC, stC, List.append_assoc] using H5.out⟩
  · go_enter Tryz.func87, Tryz.ntmps87
    go_wp2_with fail
    obtain ⟨W1, hW1⟩ : ∃ W1, W1 = w.alloc (.cells (#[.int .i32 c.r, .int .u8 c.c.r, .int .u8 c.c.g, .int .u8 c.c.b, .int .u8 c.c.a, .int .u8 c.b.r, .int .u8 c.b.g, .int .u8 c.b.b, .int .u8 c.b.a, .bool c.wd, .bool c.tl]) 47) := ⟨_, rfl⟩
    obtain ⟨sb, hsb⟩ : ∃ sb, sb = w.heap.size := ⟨_, rfl⟩
    have H1 : Hid (TlW B b st xs w W1 ∧ Bk W1 sb (#[.int .i32 c.r, .int .u8 c.c.r, .int .u8 c.c.g, .int .u8 c.c.b, .int .u8 c.c.a, .int .u8 c.b.r, .int .u8 c.b.g, .int .u8 c.b.b, .int .u8 c.b.a, .bool c.wd, .bool c.tl]) 47 ∧ b < sb) := by rw [hsb]; exact H0.out W1 hW1
    rw [← hW1, ← hsb]
    clear hW1 hsb H0
    have c0 : W1.cell? ⟨sb, 0, none⟩ = some (.int .i32 c.r) := H1.out.2.1.cell 0
    obtain ⟨c1, c2, c3, c4, c5, c6, c7, c8⟩ := col_at H1.out.2.1
    have c9 : W1.cell? ⟨sb, 9, none⟩ = some (.bool c.wd) := H1.out.2.1.cell 9
    have c10 : W1.cell? ⟨sb, 10, none⟩ = some (.bool c.tl) := H1.out.2.1.cell 10
    go_wp2_with fail
    refine (HCl.out W1 H1.out.1).mono ?_
    rintro e W2 ⟨rfl, h2⟩
    have H2 : Hid (TlW B b (c.c, c.b) (xs ++ colB st c) w W2 ∧ Bk W2 sb (#[.int .i32 c.r, .int .u8 c.c.r, .int .u8 c.c.g, .int .u8 c.c.b, .int .u8 c.c.a, .int .u8 c.b.r, .int .u8 c.b.g, .int .u8 c.b.b, .int .u8 c.b.a, .bool c.wd, .bool c.tl]) 47) := ⟨H1.out.1.then h2, h2.kp.cell H1.out.2.1 (by have := H1.out.2.2; omega) (by decide)⟩
    have H2' : Hid (TlW B b (c.c, c.b) (xs ++ colB st c) w W2 ∧ Bk W2 sb (#[.int .i32 c.r, .int .u8 c.c.r, .int .u8 c.c.g, .int .u8 c.c.b, .int .u8 c.c.a, .int .u8 c.b.r, .int .u8 c.b.g, .int .u8 c.b.b, .int .u8 c.b.a, .bool c.wd, .bool c.tl]) 47 ∧ b < sb) := ⟨H2.out.1, H2.out.2, H1.out.2.2⟩
    clear h2 H1 H2 HCl c0 c1 c2 c3 c4 c5 c6 c7 c8 c9 c10
    go_wp2_with fail
    refine (dWriteByte_any 108 (rsT c.c c.b) B b _ 15 _ (tel_tyh _ _) H2'.out.1.bd (by rw [Lib.byteCells_length]; have := HLn.out; omega) H2'.out.1.lo).mono ?_
    rintro e W3 ⟨⟨u3, rfl⟩, h3, k3⟩
    have H3 : Hid (TlW B b (c.c, c.b) (xs ++ colB st c ++ [15]) w W3 ∧ Bk W3 sb (#[.int .i32 c.r, .int .u8 c.c.r, .int .u8 c.c.g, .int .u8 c.c.b, .int .u8 c.c.a, .int .u8 c.b.r, .int .u8 c.b.g, .int .u8 c.b.b, .int .u8 c.b.a, .bool c.wd, .bool c.tl]) 47 ∧ b < sb) := ⟨⟨.inr (by rw [bcs_app]; exact h3), H2'.out.1.kp.trans k3, Nat.le_trans H2'.out.1.lo k3.bw.size⟩, k3.cell H2'.out.2.1 (by have := H2'.out.2.2; omega) (by decide), H2'.out.2.2⟩
    clear h3 k3 H2'
    go_wp2_with fail
    refine R4.wp_region_lit 5 0 1 (fun _ _ => undef) (fun _ => .cells #[] 0) [] (by kernel_rfl) (by kernel_rfl) rfl (fun k hk => absurd hk (by omega)) rfl ?_
    apply Exists.intro
    refine ⟨fun bs ne => ?_, fun i h1 h2 => absurd h2 (by omega), ?_⟩
    · have x0 := fun tt : Gb W3 bs => (show tt.wd.cell? ⟨sb, 0, none⟩ = some (.int .i32 c.r) from (H3.out.2.1.below tt.below).cell 0)
      simp only [List.take_succ_cons, List.take_zero]
      repeat (go_big_quiet_step (fail))
      exact wpQuiet_nil rfl
    · intro bl wx hbl _ _
      have H9 : Hid (TlW B b (c.c, c.b) (xs ++ colB st c ++ [15]) w wx) := H3.out.1.bel hbl
      simp only [R4.layL]
      clear hbl
      refine wpAny_one 5 (by kernel_rfl) rfl ?_
      intro K hK
      go_simp
      refine (dWriteRune_any 108 (rsT c.c c.b) B b _ c.r (by omega) (by omega) _ (tel_tyh _ _) H9.out.bd (by rw [Lib.byteCells_length]; have := HLn.out; simp only [List.length_append] at *; first | omega | (simp only [List.length_singleton]; omega)) H9.out.lo).mono ?_
      rintro e W5 ⟨⟨u5, rfl⟩, h5, k5⟩
      have H5 : Hid (TlW B b (c.c, c.b) ((xs ++ colB st c ++ [15]) ++ Lib.encodeRune c.r) w W5) := ⟨.inr (by rw [bcs_app, Lib.byteCells_encodeRune]; exact h5), H9.out.kp.trans k5, Nat.le_trans H9.out.lo k5.bw.size⟩
      clear h5 k5 H9
      refine hK _ _ ?_
      clear hK K
      refine wpAny_done (by kernel_rfl) ?_ _
      go_wp2
      go_end0
      exact ⟨rfl, by simpa [telC, stC, List.append_assoc] using H5.out⟩

theorem full_any (B b : Nat) (xs : List UInt8) (st : Co × Co) (w : World) (hI : IsBd 108 (rsT st.1 st.2) B b (Lib.byteCells xs) w) :
    Calls Tryz.prog 53 #[.pointer (some ⟨b, 0, none⟩)] w fun e w' => e = .returned (.bool (decide (1048576 < xs.length))) ∧ w' = w := by
  have HL : Hid (Calls Tryz.prog 89 #[.pointer (some ⟨b, 0, none⟩)] w fun e w' => e = .returned (.int .i64 xs.length) ∧ w' = w) := by
    have := dLen_any 108 _ B b _ w hI
    rw [Lib.byteCells_length] at this
    exact this
  clear hI
  go_enter Tryz.func53, Tryz.ntmps53
  go_wp2_with fail
  refine HL.out.mono ?_
  rintro e w2 ⟨rfl, rfl⟩
  clear HL
  go_wp2
  go_ret
  refine ⟨ret_bool ?_, rfl⟩
  simp
  try omega

end Go.Proofs.YtleoaanjcccooaaGreatDoor
