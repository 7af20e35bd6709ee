/-
  The sharing: share.
-/
import Derived.Test.YthnhcphkpffkfaaGreatXF
namespace Go.Proofs.YthnhcphkpffkfaaGreat
open Go.RowKit

theorem make_intsA (n : Nat) (hn : n < 1000000) (W : World) : (Instr.makeSlice 22 (.int .i64 (n : Nat)) (.int .i64 (n : Nat))).run Tryz.prog W = .ok (.slice (some ⟨W.heap.size, 0, none⟩) n n) (W.alloc (.cells (flatI (List.replicate n 0)).toArray 3)) := by
  obtain ⟨arr, rfl, h⟩ := make_ints n hn W
  exact h
def JG1 (w : World) (toa : Option Addr) (tcp n : Nat) (room nd mi lf : Int) (b : Nat → Bool) (u5 u8 u9 u10 u11 u12 u13 u14 u15 u16 u17 u18 u19 : Value) (x : World) : Prop :=
  (b 0 = true → u8 = .slice toa n tcp) ∧
  (b 1 = true → u9 = .slice toa n tcp) ∧
  (b 2 = true → u10 = .int .i64 n) ∧
  (b 3 = true → ∃ g, u11 = .slice (some ⟨g, 0, none⟩) n n ∧ w.heap.size ≤ g ∧ Nb x g (List.replicate n 0)) ∧
  (b 4 = true → u12 = .int .i64 room) ∧
  (b 5 = true → u13 = .int .i64 room) ∧
  (b 6 = true → u14 = .slice toa n tcp) ∧
  (b 7 = true → u15 = .int .i64 nd) ∧
  (b 8 = true → ∃ g, u16 = .slice (some ⟨g, 0, none⟩) 1 1 ∧ Bk x g #[.int .i64 nd] 3) ∧
  (b 9 = true → u17 = .int .i64 mi) ∧
  (b 10 = true → u18 = .int .i64 lf) ∧
  (b 11 = true → b 3 = true ∧ u19 = .agg #[.slice toa n tcp, u11, .slice none 0 0, .int .i64 lf]) ∧
  (b 12 = true → ∃ g, u5 = .pointer (some ⟨g, 0, none⟩) ∧ w.heap.size ≤ g ∧ (b 13 = false → Bk x g #[.slice none 0 0, .slice none 0 0, .slice none 0 0, .int .i64 0] 105) ∧ (b 13 = true → Bk x g #[.slice toa n tcp, u11, .slice none 0 0, .int .i64 lf] 105)) ∧
  (b 13 = true → b 12 = true ∧ b 3 = true) ∧
  Below w.heap.size w x
theorem JG1.bel {w : World} {toa : Option Addr} {tcp n : Nat} {room nd mi lf : Int} {b : Nat → Bool} {u5 u8 u9 u10 u11 u12 u13 u14 u15 u16 u17 u18 u19 : Value} {x : World} (h : JG1 w toa tcp n room nd mi lf b u5 u8 u9 u10 u11 u12 u13 u14 u15 u16 u17 u18 u19 x) : Below w.heap.size w x := by
  obtain ⟨j0, j1, j2, j3, j4, j5, j6, j7, j8, j9, j10, j11, j12, j13, e0⟩ := h
  exact e0
theorem JG1.grow {w : World} {toa : Option Addr} {tcp n : Nat} {room nd mi lf : Int} {b : Nat → Bool} {u5 u8 u9 u10 u11 u12 u13 u14 u15 u16 u17 u18 u19 : Value} {x x' : World} (h : JG1 w toa tcp n room nd mi lf b u5 u8 u9 u10 u11 u12 u13 u14 u15 u16 u17 u18 u19 x) (hb : Below x.heap.size x x') : JG1 w toa tcp n room nd mi lf b u5 u8 u9 u10 u11 u12 u13 u14 u15 u16 u17 u18 u19 x' := by
  obtain ⟨j0, j1, j2, j3, j4, j5, j6, j7, j8, j9, j10, j11, j12, j13, e0⟩ := h
  exact ⟨j0, j1, j2, (fun h => (j3 h).imp fun _ k => ⟨k.1, k.2.1, k.2.2.below hb⟩), j4, j5, j6, j7, (fun h => (j8 h).imp fun _ k => ⟨k.1, k.2.below hb⟩), j9, j10, j11, (fun h => (j12 h).imp fun _ k => ⟨k.1, k.2.1, (fun c => (k.2.2.1 c).below hb), fun c => (k.2.2.2 c).below hb⟩), j13, e0.trans (hb.mono e0.size)⟩

theorem Sh.grown {w0 : World} {T : List Tk} {tv : Value} {pb sb : Nat} {ov : Value} {sz : List Int} {lf : Int} {w w' : World} {row : Option Nat} (h : Sh w0 T tv pb sb ov sz lf w) (hg : w.grownBy w' row) (h1 : row ≠ some pb) (h2 : row ≠ some sb) (h3 : ∀ g, row = some g → w0.heap.size ≤ g) : Sh w0 T tv pb sb ov sz lf w' :=
  ⟨h.bel.grown hg h.bel.size h3, h.pbk.grown hg h1, Bk.grown h.siz hg h2, h.len, h.lop, h.los⟩
/-- What each has while they are gone through first. -/
def szK (T : List Tk) (k : Nat) : List Int := (T.take k).map (·.mn) ++ List.replicate (T.length - k) 0
theorem szK_next {T : List Tk} {k : Nat} (h : k < T.length) : (szK T k).set k T[k].mn = szK T (k + 1) := by
  unfold szK
  obtain ⟨m, hm⟩ : ∃ m, T.length - k = m + 1 := ⟨T.length - k - 1, by omega⟩
  have hl : ((T.take k).map (·.mn)).length = k := by simp; omega
  rw [List.set_append_right _ _ (by omega), hl, Nat.sub_self, hm, List.replicate_succ, List.set_cons_zero, ← List.take_append_getElem h, List.map_append, List.append_assoc, show T.length - (k + 1) = m by omega]
  rfl
theorem szK_len (T : List Tk) (k : Nat) (h : k ≤ T.length) : (szK T k).length = T.length := by unfold szK; simp; omega
theorem szK_end (T : List Tk) : szK T T.length = T.map (·.mn) := by unfold szK; simp
/-- How it stands while they are gone through first. -/
def Fst (w0 : World) (T : List Tk) (tv : Value) (pb sb : Nat) (lf : Int) (k : Nat) (w : World) : Prop := ∃ ov, Sh w0 T tv pb sb ov (szK T k) lf w ∧ OwI w0.heap.size w ov (natI (opn 0 (ini (T.take k)))) ∧ ov.ownBlock ≠ some sb
theorem Sh.size1 {w0 : World} {T : List Tk} {tv : Value} {pb sb : Nat} {ov : Value} {sz : List Int} {lf : Int} {w : World} (h : Sh w0 T tv pb sb ov sz lf w) (i : Nat) (x : Int) : Sh w0 T tv pb sb ov (sz.set i x) lf (w.setCell ⟨sb, i, none⟩ (.int .i64 x)) :=
  ⟨h.bel.setCell (p := ⟨sb, i, none⟩) h.los _, h.pbk.other _ _ (fun e => h.ne e.symm), h.siz.put i x, by simp [h.len], h.lop, h.los⟩
theorem none_fil {left g : Int} : ∀ {L : List Ce}, L.any (fulB left g) = false → L.map (fil left g) = L ∧ lesS left g L = 0
  | [], _ => ⟨rfl, rfl⟩
  | c :: l, h => by
    rw [List.any_cons, Bool.or_eq_false_iff] at h
    obtain ⟨h1, h2⟩ := none_fil h.2
    refine ⟨?_, ?_⟩
    · rw [List.map_cons, h1]
      congr 1
      unfold fil
      rw [h.1]
      rfl
    · rw [lesS, h2, h.1]
      rfl
theorem natI_len' (op : List Nat) {k : Nat} : (natI op ++ natI [k]).length = op.length + 1 := by simp [natI]
theorem natI_app (a b : List Nat) : natI (a ++ b) = natI a ++ natI b := by simp [natI]

set_option maxRecDepth 10000 in
set_option maxHeartbeats 4000000 in
theorem share_any (T : List Tk) (room : Int) (tv : Value) (w : World) (hT : TS w tv T) (hn : T.length ≤ 1024) (hk : ∀ t ∈ T, okT t) (hr : 0 ≤ room ∧ room ≤ 32768) :
    Calls Tryz.prog 64 #[tv, .int .i64 room] w fun e w' => ∃ v, e = .returned v ∧ Hid (OwI w.heap.size w' v (shaR T room) ∧ Below w.heap.size w w') := by
  have HTS : Hid (TS w tv T) := hT
  have HKo : Hid (∀ t ∈ T, okT t) := hk
  have HNd : Hid (∀ x, Below w.heap.size w x → Calls Tryz.prog 79 #[tv] x fun e x' => e = .returned (.int .i64 (mnS T)) ∧ Below x.heap.size x x') := fun x hx => need_any T tv x (hT.below hx) hn hk
  have HLe : Hid (∀ g x, x.cell? ⟨g, 0, none⟩ = some (.int .i64 (mnS T)) → Calls Tryz.prog 63 #[.int .i64 room, .slice (some ⟨g, 0, none⟩) 1 1] x fun e x' => e = .returned (.int .i64 (min room (mnS T))) ∧ x' = x) := fun g x hx => least_any room _ g x hx
  have hnd := mnS_bd hk
  obtain ⟨n, Hn⟩ : ∃ n, Hid (n = T.length) := ⟨_, rfl⟩
  have HTV : Hid (∃ toa tcp, tv = .slice toa n tcp) := by
    obtain ⟨oa, cap, e, _, _⟩ := hT
    exact ⟨oa, cap, by rw [Hn.out]; exact e⟩
  have hn2 : n ≤ 1024 := by rw [Hn.out]; exact hn
  obtain ⟨nd, Hnd⟩ : ∃ nd, Hid (nd = mnS T) := ⟨_, rfl⟩
  obtain ⟨mi, Hmi⟩ : ∃ mi, Hid (mi = min room (mnS T)) := ⟨_, rfl⟩
  obtain ⟨lf, Hlf⟩ : ∃ lf, Hid (lf = room - mi) := ⟨_, rfl⟩
  rw [← Hnd.out] at HNd
  rw [← Hmi.out, ← Hnd.out] at HLe
  have hmi : 0 ≤ mi ∧ mi ≤ room := by have := Hmi.out; omega
  have HLf : Hid (lf = max (room - mnS T) 0) := by unfold Hid; have := Hlf.out; have := Hmi.out; omega
  have hws : IntKind.i64.wrap (room - mi) = lf := by rw [IntKind.wrap_i64]; have := Hlf.out; omega
  clear hT hk hnd Hnd Hmi Hlf
  obtain ⟨toa, tcp, e⟩ := HTV.out
  subst e
  go_enter Tryz.func64, Tryz.ntmps64
  go_upto_region 1 with fail
  go_cut [5] (fun s5 wx => ∃ pb sb, s5 = .pointer (some ⟨pb, 0, none⟩) ∧ Hid (Sh w T (.slice toa n tcp) pb sb (.slice none 0 0) (List.replicate n 0) lf wx))
  case first =>
    refine wp_region_inv (I := (fun b a x => ∃ u5 u8 u9 u10 u11 u12 u13 u14 u15 u16 u17 u18 u19, a = ⟨#[.slice toa n tcp, .int .i64 room, undef, undef, .slice none 0 0, u5, undef, undef, u8, u9, u10, u11, u12, u13, u14, u15, u16, u17, u18, u19, undef, undef, undef, undef, undef, undef, undef, undef, undef, undef, undef, undef, undef, undef, undef, undef, undef, undef, undef, undef, undef, undef, undef, undef, undef, undef], []⟩ ∧ Hid (JG1 w toa tcp n room nd mi lf b u5 u8 u9 u10 u11 u12 u13 u14 u15 u16 u17 u18 u19 x))) (by kernel_rfl) (by kernel_rfl) ?_ ?_ ?_
    · exact ⟨undef, undef, undef, undef, undef, undef, undef, undef, undef, undef, undef, undef, undef, rfl, ⟨(fun e => by cases e), (fun e => by cases e), (fun e => by cases e), (fun e => by cases e), (fun e => by cases e), (fun e => by cases e), (fun e => by cases e), (fun e => by cases e), (fun e => by cases e), (fun e => by cases e), (fun e => by cases e), (fun e => by cases e), (fun e => by cases e), (fun e => by cases e), (Below.refl _ _).drew⟩⟩
    · intro b a x i o hI hbi ho hpre K' hK
      obtain ⟨u5, u8, u9, u10, u11, u12, u13, u14, u15, u16, u17, u18, u19, rfl, HJ⟩ := hI
      have hi : i < 14 := by have := (Array.getElem?_eq_some_iff.1 ho).1; simpa using this
      rcases (show i = 0 ∨ i = 1 ∨ i = 2 ∨ i = 3 ∨ i = 4 ∨ i = 5 ∨ i = 6 ∨ i = 7 ∨ i = 8 ∨ i = 9 ∨ i = 10 ∨ i = 11 ∨ i = 12 ∨ i = 13 by omega) with rfl | rfl | rfl | rfl | rfl | rfl | rfl | rfl | rfl | rfl | rfl | rfl | rfl | rfl
      · injection (show some _ = some o from ho) with ho
        subst ho
        have HN : Hid (JG1 w toa tcp n room nd mi lf (fun j => if j = 0 then true else b j) u5 (.slice toa n tcp) u9 u10 u11 u12 u13 u14 u15 u16 u17 u18 u19 x) := by
          obtain ⟨j0, j1, j2, j3, j4, j5, j6, j7, j8, j9, j10, j11, j12, j13, e0⟩ := HJ.out
          exact ⟨fun _ => rfl, j1, j2, j3, j4, j5, j6, j7, j8, j9, j10, j11, j12, j13, e0⟩
        clear HJ hpre
        go_simp
        exact hK _ _ ⟨u5, _, u9, u10, u11, u12, u13, u14, u15, u16, u17, u18, u19, rfl, HN⟩
      · injection (show some _ = some o from ho) with ho
        subst ho
        have HN : Hid (JG1 w toa tcp n room nd mi lf (fun j => if j = 1 then true else b j) u5 u8 (.slice toa n tcp) u10 u11 u12 u13 u14 u15 u16 u17 u18 u19 x) := by
          obtain ⟨j0, j1, j2, j3, j4, j5, j6, j7, j8, j9, j10, j11, j12, j13, e0⟩ := HJ.out
          exact ⟨j0, fun _ => rfl, j2, j3, j4, j5, j6, j7, j8, j9, j10, j11, j12, j13, e0⟩
        clear HJ hpre
        go_simp
        exact hK _ _ ⟨u5, u8, _, u10, u11, u12, u13, u14, u15, u16, u17, u18, u19, rfl, HN⟩
      · injection (show some _ = some o from ho) with ho
        subst ho
        have p1 : b 1 = true := hpre 1 (by decide +kernel)
        obtain rfl : u9 = .slice toa n tcp := by obtain ⟨j0, j1, j2, j3, j4, j5, j6, j7, j8, j9, j10, j11, j12, j13, e0⟩ := HJ.out; exact (j1 p1)
        have HN : Hid (JG1 w toa tcp n room nd mi lf (fun j => if j = 2 then true else b j) u5 u8 (.slice toa n tcp) (.int .i64 n) u11 u12 u13 u14 u15 u16 u17 u18 u19 x) := by
          obtain ⟨j0, j1, j2, j3, j4, j5, j6, j7, j8, j9, j10, j11, j12, j13, e0⟩ := HJ.out
          exact ⟨j0, j1, fun _ => rfl, j3, j4, j5, j6, j7, j8, j9, j10, j11, j12, j13, e0⟩
        clear HJ hpre
        go_simp
        exact hK _ _ ⟨u5, u8, _, _, u11, u12, u13, u14, u15, u16, u17, u18, u19, rfl, HN⟩
      · injection (show some _ = some o from ho) with ho
        subst ho
        have p2 : b 2 = true := hpre 2 (by decide +kernel)
        obtain rfl : u10 = .int .i64 n := by obtain ⟨j0, j1, j2, j3, j4, j5, j6, j7, j8, j9, j10, j11, j12, j13, e0⟩ := HJ.out; exact (j2 p2)
        have hmk := make_intsA n (by omega) x
        have HN : Hid (JG1 w toa tcp n room nd mi lf (fun j => if j = 3 then true else b j) u5 u8 u9 (.int .i64 n) (.slice (some ⟨x.heap.size, 0, none⟩) n n) u12 u13 u14 u15 u16 u17 u18 u19 (x.alloc (.cells (flatI (List.replicate n 0)).toArray 3))) := by
          obtain ⟨j0, j1, j2, j3, j4, j5, j6, j7, j8, j9, j10, j11, j12, j13, e0⟩ := HJ.out.grow ((Below.refl _ x).alloc (Nat.le_refl _) (.cells (flatI (List.replicate n 0)).toArray 3))
          exact ⟨j0, j1, j2, fun _ => ⟨x.heap.size, rfl, HJ.out.bel.size, Bk.new _ _ _⟩, j4, j5, j6, j7, j8, j9, j10, (fun h => by have := (j11 h).1; rw [hbi] at this; cases this), (fun h => (j12 h).imp fun _ k => ⟨k.1, k.2.1, k.2.2.1, fun c => by have := (j13 c).2; rw [hbi] at this; cases this⟩), (fun h => ⟨(j13 h).1, rfl⟩), e0⟩
        clear HJ hpre
        go_simp
        exact hK _ _ ⟨u5, u8, u9, _, _, u12, u13, u14, u15, u16, u17, u18, u19, rfl, HN⟩
      · injection (show some _ = some o from ho) with ho
        subst ho
        have HN : Hid (JG1 w toa tcp n room nd mi lf (fun j => if j = 4 then true else b j) u5 u8 u9 u10 u11 (.int .i64 room) u13 u14 u15 u16 u17 u18 u19 x) := by
          obtain ⟨j0, j1, j2, j3, j4, j5, j6, j7, j8, j9, j10, j11, j12, j13, e0⟩ := HJ.out
          exact ⟨j0, j1, j2, j3, fun _ => rfl, j5, j6, j7, j8, j9, j10, j11, j12, j13, e0⟩
        clear HJ hpre
        go_simp
        exact hK _ _ ⟨u5, u8, u9, u10, u11, _, u13, u14, u15, u16, u17, u18, u19, rfl, HN⟩
      · injection (show some _ = some o from ho) with ho
        subst ho
        have HN : Hid (JG1 w toa tcp n room nd mi lf (fun j => if j = 5 then true else b j) u5 u8 u9 u10 u11 u12 (.int .i64 room) u14 u15 u16 u17 u18 u19 x) := by
          obtain ⟨j0, j1, j2, j3, j4, j5, j6, j7, j8, j9, j10, j11, j12, j13, e0⟩ := HJ.out
          exact ⟨j0, j1, j2, j3, j4, fun _ => rfl, j6, j7, j8, j9, j10, j11, j12, j13, e0⟩
        clear HJ hpre
        go_simp
        exact hK _ _ ⟨u5, u8, u9, u10, u11, u12, _, u14, u15, u16, u17, u18, u19, rfl, HN⟩
      · injection (show some _ = some o from ho) with ho
        subst ho
        have HN : Hid (JG1 w toa tcp n room nd mi lf (fun j => if j = 6 then true else b j) u5 u8 u9 u10 u11 u12 u13 (.slice toa n tcp) u15 u16 u17 u18 u19 x) := by
          obtain ⟨j0, j1, j2, j3, j4, j5, j6, j7, j8, j9, j10, j11, j12, j13, e0⟩ := HJ.out
          exact ⟨j0, j1, j2, j3, j4, j5, fun _ => rfl, j7, j8, j9, j10, j11, j12, j13, e0⟩
        clear HJ hpre
        go_simp
        exact hK _ _ ⟨u5, u8, u9, u10, u11, u12, u13, _, u15, u16, u17, u18, u19, rfl, HN⟩
      · injection (show some _ = some o from ho) with ho
        subst ho
        have p6 : b 6 = true := hpre 6 (by decide +kernel)
        obtain rfl : u14 = .slice toa n tcp := by obtain ⟨j0, j1, j2, j3, j4, j5, j6, j7, j8, j9, j10, j11, j12, j13, e0⟩ := HJ.out; exact (j6 p6)
        have HC := HNd.out x HJ.out.bel
        have HN : Hid (∀ x', Below x.heap.size x x' → JG1 w toa tcp n room nd mi lf (fun j => if j = 7 then true else b j) u5 u8 u9 u10 u11 u12 u13 (.slice toa n tcp) (.int .i64 nd) u16 u17 u18 u19 x') := fun x' hb => by
          obtain ⟨j0, j1, j2, j3, j4, j5, j6, j7, j8, j9, j10, j11, j12, j13, e0⟩ := HJ.out.grow hb
          exact ⟨j0, j1, j2, j3, j4, j5, j6, fun _ => rfl, j8, j9, j10, j11, j12, j13, e0⟩
        clear HJ hpre
        go_simp
        refine HC.mono ?_
        rintro e x' ⟨rfl, hb⟩
        exact hK _ _ ⟨u5, u8, u9, u10, u11, u12, u13, _, _, u16, u17, u18, u19, rfl, HN.out x' hb⟩
      · injection (show some _ = some o from ho) with ho
        subst ho
        have p7 : b 7 = true := hpre 7 (by decide +kernel)
        obtain rfl : u15 = .int .i64 nd := by obtain ⟨j0, j1, j2, j3, j4, j5, j6, j7, j8, j9, j10, j11, j12, j13, e0⟩ := HJ.out; exact j7 p7
        have HN : Hid (JG1 w toa tcp n room nd mi lf (fun j => if j = 8 then true else b j) u5 u8 u9 u10 u11 u12 u13 u14 (.int .i64 nd) (.slice (some ⟨x.heap.size, 0, none⟩) 1 1) u17 u18 u19 (x.alloc (.cells #[.int .i64 nd] 3))) := by
          obtain ⟨j0, j1, j2, j3, j4, j5, j6, j7, j8, j9, j10, j11, j12, j13, e0⟩ := HJ.out.grow ((Below.refl _ x).alloc (Nat.le_refl _) (.cells #[.int .i64 nd] 3))
          exact ⟨j0, j1, j2, j3, j4, j5, j6, j7, fun _ => ⟨x.heap.size, rfl, Bk.new _ _ _⟩, j9, j10, j11, j12, j13, e0⟩
        clear HJ hpre
        go_simp
        exact hK _ _ ⟨u5, u8, u9, u10, u11, u12, u13, u14, _, _, u17, u18, u19, rfl, HN⟩
      · injection (show some _ = some o from ho) with ho
        subst ho
        have p5 : b 5 = true := hpre 5 (by decide +kernel)
        obtain rfl : u13 = .int .i64 room := by obtain ⟨j0, j1, j2, j3, j4, j5, j6, j7, j8, j9, j10, j11, j12, j13, e0⟩ := HJ.out; exact (j5 p5)
        have p8 : b 8 = true := hpre 8 (by decide +kernel)
        obtain ⟨g, rfl, hg⟩ : ∃ g, u16 = .slice (some ⟨g, 0, none⟩) 1 1 ∧ Bk x g #[.int .i64 nd] 3 := by obtain ⟨j0, j1, j2, j3, j4, j5, j6, j7, j8, j9, j10, j11, j12, j13, e0⟩ := HJ.out; exact j8 p8
        have HC := HLe.out g x (by rw [hg.cell]; rfl)
        have HN : Hid (JG1 w toa tcp n room nd mi lf (fun j => if j = 9 then true else b j) u5 u8 u9 u10 u11 u12 (.int .i64 room) u14 u15 (.slice (some ⟨g, 0, none⟩) 1 1) (.int .i64 mi) u18 u19 x) := by
          obtain ⟨j0, j1, j2, j3, j4, j5, j6, j7, j8, j9, j10, j11, j12, j13, e0⟩ := HJ.out
          exact ⟨j0, j1, j2, j3, j4, j5, j6, j7, j8, fun _ => rfl, j10, j11, j12, j13, e0⟩
        clear HJ hpre hg
        go_simp
        refine HC.mono ?_
        rintro e x' ⟨rfl, rfl⟩
        exact hK _ _ ⟨u5, u8, u9, u10, u11, u12, _, u14, u15, _, _, u18, u19, rfl, HN⟩
      · injection (show some _ = some o from ho) with ho
        subst ho
        have p4 : b 4 = true := hpre 4 (by decide +kernel)
        obtain rfl : u12 = .int .i64 room := by obtain ⟨j0, j1, j2, j3, j4, j5, j6, j7, j8, j9, j10, j11, j12, j13, e0⟩ := HJ.out; exact (j4 p4)
        have p9 : b 9 = true := hpre 9 (by decide +kernel)
        obtain rfl : u17 = .int .i64 mi := by obtain ⟨j0, j1, j2, j3, j4, j5, j6, j7, j8, j9, j10, j11, j12, j13, e0⟩ := HJ.out; exact j9 p9
        have HN : Hid (JG1 w toa tcp n room nd mi lf (fun j => if j = 10 then true else b j) u5 u8 u9 u10 u11 (.int .i64 room) u13 u14 u15 u16 (.int .i64 mi) (.int .i64 lf) u19 x) := by
          obtain ⟨j0, j1, j2, j3, j4, j5, j6, j7, j8, j9, j10, j11, j12, j13, e0⟩ := HJ.out
          exact ⟨j0, j1, j2, j3, j4, j5, j6, j7, j8, j9, fun _ => rfl, j11, j12, j13, e0⟩
        clear HJ hpre
        go_simp
        exact hK _ _ ⟨u5, u8, u9, u10, u11, _, u13, u14, u15, u16, _, _, u19, rfl, HN⟩
      · injection (show some _ = some o from ho) with ho
        subst ho
        have p0 : b 0 = true := hpre 0 (by decide +kernel)
        obtain rfl : u8 = .slice toa n tcp := by obtain ⟨j0, j1, j2, j3, j4, j5, j6, j7, j8, j9, j10, j11, j12, j13, e0⟩ := HJ.out; exact (j0 p0)
        have p3 : b 3 = true := hpre 3 (by decide +kernel)
        have p10 : b 10 = true := hpre 10 (by decide +kernel)
        obtain rfl : u18 = .int .i64 lf := by obtain ⟨j0, j1, j2, j3, j4, j5, j6, j7, j8, j9, j10, j11, j12, j13, e0⟩ := HJ.out; exact j10 p10
        obtain ⟨g, rfl⟩ : ∃ g, u11 = .slice (some ⟨g, 0, none⟩) n n := by obtain ⟨j0, j1, j2, j3, j4, j5, j6, j7, j8, j9, j10, j11, j12, j13, e0⟩ := HJ.out; obtain ⟨g, e, _⟩ := j3 p3; exact ⟨g, e⟩
        have HN : Hid (JG1 w toa tcp n room nd mi lf (fun j => if j = 11 then true else b j) u5 (.slice toa n tcp) u9 u10 (.slice (some ⟨g, 0, none⟩) n n) u12 u13 u14 u15 u16 u17 (.int .i64 lf) (.agg #[.slice toa n tcp, .slice (some ⟨g, 0, none⟩) n n, .slice none 0 0, .int .i64 lf]) x) := by
          obtain ⟨j0, j1, j2, j3, j4, j5, j6, j7, j8, j9, j10, j11, j12, j13, e0⟩ := HJ.out
          exact ⟨j0, j1, j2, j3, j4, j5, j6, j7, j8, j9, j10, fun _ => ⟨p3, rfl⟩, j12, j13, e0⟩
        clear HJ hpre
        go_simp
        exact hK _ _ ⟨u5, _, u9, u10, _, u12, u13, u14, u15, u16, u17, _, _, rfl, HN⟩
      · injection (show some _ = some o from ho) with ho
        subst ho
        have HN : Hid (JG1 w toa tcp n room nd mi lf (fun j => if j = 12 then true else b j) (.pointer (some ⟨x.heap.size, 0, none⟩)) u8 u9 u10 u11 u12 u13 u14 u15 u16 u17 u18 u19 (x.alloc (.cells #[.slice none 0 0, .slice none 0 0, .slice none 0 0, .int .i64 0] 105))) := by
          obtain ⟨j0, j1, j2, j3, j4, j5, j6, j7, j8, j9, j10, j11, j12, j13, e0⟩ := HJ.out.grow ((Below.refl _ x).alloc (Nat.le_refl _) (.cells #[.slice none 0 0, .slice none 0 0, .slice none 0 0, .int .i64 0] 105))
          exact ⟨j0, j1, j2, j3, j4, j5, j6, j7, j8, j9, j10, j11, fun _ => ⟨x.heap.size, rfl, HJ.out.bel.size, (fun _ => Bk.new _ _ _), fun c => by have := (j13 c).1; rw [hbi] at this; cases this⟩, fun h => ⟨rfl, (j13 h).2⟩, e0⟩
        clear HJ hpre
        go_simp
        exact hK _ _ ⟨_, u8, u9, u10, u11, u12, u13, u14, u15, u16, u17, u18, u19, rfl, HN⟩
      · injection (show some _ = some o from ho) with ho
        subst ho
        have p11 : b 11 = true := hpre 11 (by decide +kernel)
        have p12 : b 12 = true := hpre 12 (by decide +kernel)
        obtain ⟨p3, rfl⟩ : b 3 = true ∧ u19 = _ := by obtain ⟨j0, j1, j2, j3, j4, j5, j6, j7, j8, j9, j10, j11, j12, j13, e0⟩ := HJ.out; exact j11 p11
        obtain ⟨g3, rfl, hg3⟩ : ∃ g, u11 = .slice (some ⟨g, 0, none⟩) n n ∧ Nb x g (List.replicate n 0) := by obtain ⟨j0, j1, j2, j3, j4, j5, j6, j7, j8, j9, j10, j11, j12, j13, e0⟩ := HJ.out; obtain ⟨g, e, _, k⟩ := j3 p3; exact ⟨g, e, k⟩
        obtain ⟨g, rfl, hlo, hz⟩ : ∃ g, u5 = .pointer (some ⟨g, 0, none⟩) ∧ w.heap.size ≤ g ∧ Bk x g #[.slice none 0 0, .slice none 0 0, .slice none 0 0, .int .i64 0] 105 := by obtain ⟨j0, j1, j2, j3, j4, j5, j6, j7, j8, j9, j10, j11, j12, j13, e0⟩ := HJ.out; obtain ⟨g, e, l, k, _⟩ := j12 p12; exact ⟨g, e, l, k hbi⟩
        have z0 : x.cell? ⟨g, 0, none⟩ = some (.slice none 0 0) := by rw [hz.cell]; rfl
        have z1 : x.cell? ⟨g, 1, none⟩ = some (.slice none 0 0) := by rw [hz.cell]; rfl
        have z2 : x.cell? ⟨g, 2, none⟩ = some (.slice none 0 0) := by rw [hz.cell]; rfl
        have z3 : x.cell? ⟨g, 3, none⟩ = some (.int .i64 0) := by rw [hz.cell]; rfl
        have f0 := hz.frozen 0
        have f1 := hz.frozen 1
        have f2 := hz.frozen 2
        have f3 := hz.frozen 3
        have HN : Hid (JG1 w toa tcp n room nd mi lf (fun j => if j = 13 then true else b j) (.pointer (some ⟨g, 0, none⟩)) u8 u9 u10 (.slice (some ⟨g3, 0, none⟩) n n) u12 u13 u14 u15 u16 u17 u18 (.agg #[.slice toa n tcp, .slice (some ⟨g3, 0, none⟩) n n, .slice none 0 0, .int .i64 lf]) ((((x.setCell ⟨g, 0, none⟩ (.slice toa n tcp)).setCell ⟨g, 1, none⟩ (.slice (some ⟨g3, 0, none⟩) n n)).setCell ⟨g, 2, none⟩ (.slice none 0 0)).setCell ⟨g, 3, none⟩ (.int .i64 lf))) := by
          obtain ⟨j0, j1, j2, j3, j4, j5, j6, j7, j8, j9, j10, j11, j12, j13, e0⟩ := HJ.out
          have hne : ∀ {h : Nat} {cs : Array Value}, Bk x h cs 3 → g ≠ h := fun k e => by subst e; exact absurd (Bk.typ hz k) (by decide)
          exact ⟨j0, j1, j2, (fun h => (j3 h).imp fun _ k => ⟨k.1, k.2.1, (((k.2.2.other _ _ (hne k.2.2)).other _ _ (hne k.2.2)).other _ _ (hne k.2.2)).other _ _ (hne k.2.2)⟩), j4, j5, j6, j7, (fun h => (j8 h).imp fun _ k => ⟨k.1, (((k.2.other _ _ (hne k.2)).other _ _ (hne k.2)).other _ _ (hne k.2)).other _ _ (hne k.2)⟩), j9, j10, j11, (fun _ => ⟨g, rfl, hlo, (fun c => by cases c), fun _ => (((hz.put 0 _).put 1 _).put 2 _).put 3 _⟩), (fun _ => ⟨p12, p3⟩), (((e0.setCell (p := ⟨g, 0, none⟩) hlo _).setCell (p := ⟨g, 1, none⟩) hlo _).setCell (p := ⟨g, 2, none⟩) hlo _).setCell (p := ⟨g, 3, none⟩) hlo _⟩
        clear HJ hpre hz hg3
        go_simp
        exact hK _ _ ⟨_, u8, u9, u10, _, u12, u13, u14, u15, u16, u17, u18, _, rfl, HN⟩
    · intro b a x hI hall
      obtain ⟨u5, u8, u9, u10, u11, u12, u13, u14, u15, u16, u17, u18, u19, rfl, HJ⟩ := hI
      have hall' : ∀ i, i < 14 → b i = true := fun i hi => hall i (by simpa using hi)
      obtain ⟨j0, j1, j2, j3, j4, j5, j6, j7, j8, j9, j10, j11, j12, j13, e0⟩ := HJ.out
      obtain ⟨g3, rfl, k1, k2⟩ := j3 (hall' 3 (by omega))
      obtain ⟨g5, rfl, k3, _, k4⟩ := j12 (hall' 12 (by omega))
      have HF : Hid (Sh w T (.slice toa n tcp) g5 g3 (.slice none 0 0) (List.replicate n 0) lf x) := by
        have k5 := k4 (hall' 13 (by omega))
        rw [Hn.out] at k5 k2 ⊢
        exact ⟨e0, k5, k2, by simp, k3, k1⟩
      clear HJ hall hall' j0 j1 j2 j3 j4 j5 j6 j7 j8 j9 j10 j11 j12 j13 e0 k1 k2 k3 k4
      go_wp2_with fail
      go_meet
      exact ⟨g5, g3, rfl, HF⟩
  obtain ⟨pb, sb, rfl, H0⟩ := hcut
  have H1 : Hid (Fst w T (.slice toa n tcp) pb sb lf 0 wc) := by
    refine ⟨_, ?_, OwI.nil _ _, fun e => by cases e⟩
    have := H0.out
    rw [Hn.out] at this ⊢
    have e : szK T 0 = List.replicate T.length 0 := by unfold szK; simp
    rw [e]
    exact this
  obtain rfl : n = T.length := Hn.out
  clear H0 HNd HLe HTV hws
  have HG : Hid (0 < T.length → ∃ g o, toa = some ⟨g, o, none⟩ ∧ g < w.heap.size ∧ ∀ i (h : i < T.length), TkAt w g (o + i * 3) T[i]) := by
    obtain ⟨oa, cap, e, _, hg⟩ := HTS.out
    injection e with e1 _ _
    subst e1
    exact hg
  go_wp2_with fail
  go_loopw [6, 7, 22] (fun _ _ i wr => ∃ k : Nat, i = .int .i64 k ∧ k ≤ T.length ∧ Hid (Fst w T (.slice toa T.length tcp) pb sb lf k wr)) (fun _ _ i _ => T.length - (intOf i).toNat)
  case atStart => exact ⟨0, rfl, Nat.zero_le _, H1⟩
  case round =>
    obtain ⟨k, rfl, hkl, HK⟩ := hrel
    clear H1
    by_cases hlt : k < T.length
    · have ik : (k : Int) < T.length := by omega
      obtain ⟨tg, tq, rfl, htg, hat⟩ := HG.out (by omega)
      obtain ⟨ov, h1, h2, h3⟩ := HK.out
      obtain ⟨oc, cc, e, hcc, _⟩ := row_val h2
      rw [natI_len] at e hcc
      subst e
      obtain ⟨m, Hm⟩ : ∃ m, Hid (m = (opn 0 (ini (T.take k))).length) := ⟨_, rfl⟩
      have hm : m ≤ 1024 := by
        rw [Hm.out, opn_len]
        have h1 := ini_cnt (T.take k)
        rw [List.length_take] at h1
        omega
      rw [← Hm.out] at h1 h2 h3
      obtain ⟨c0, c1, c2, c3⟩ := h1.reads
      have hil : k < (szK T k).length := by rw [szK_len T k hkl]; exact hlt
      have z0 : wr.cell? ⟨sb, k, none⟩ = some (.int .i64 (szK T k)[k]) := h1.siz.at k hil
      have fa := h1.siz.frozen k
      obtain ⟨x0, x1, x2⟩ := (hat k hlt).below h1.bel htg
      have ltg : tg < wr.heap.size := Nat.lt_of_lt_of_le htg h1.bel.size
      have lsb := h1.siz.lt
      have lpb := h1.pbk.lt
      have nps : ¬ pb = sb := h1.ne
      have nsp : ¬ sb = pb := fun e => nps e.symm
      have ns1 : ¬ sb = wr.heap.size := by omega
      have np1 : ¬ pb = wr.heap.size := by omega
      have ns2 : ¬ wr.heap.size = sb := by omega
      have np2 : ¬ wr.heap.size = pb := by omega
      have nst : ¬ sb = tg := fun e => by have := h1.los; omega
      have HGr : Hid (∀ W, Calls Tryz.prog 80 #[.agg #[.int .i64 T[k].mn, .int .i64 T[k].mx, .int .i64 T[k].gr]] W fun e w' => e = .returned (.bool (decide (0 < T[k].gr))) ∧ Below W.heap.size W w') := fun W => grows_any _ W
      have HB : Hid (∀ o W, Below ((wr.setCell ⟨sb, k, none⟩ (.int .i64 T[k].mn)).alloc o).heap.size ((wr.setCell ⟨sb, k, none⟩ (.int .i64 T[k].mn)).alloc o) W → Sh w T (.slice (some ⟨tg, tq, none⟩) T.length tcp) pb sb (.slice oc m cc) (szK T (k + 1)) lf W ∧ OwI w.heap.size W (.slice oc m cc) (natI (opn 0 (ini (T.take k))))) := fun o W hW => by
        have a1 := h1.size1 k T[k].mn
        rw [szK_next hlt] at a1
        have a2 := h2.ex2 ((Ex2.refl sb sb wr).seta k (.int .i64 T[k].mn)) h3 h3
        have hb := ((Below.refl _ (wr.setCell ⟨sb, k, none⟩ (.int .i64 T[k].mn))).alloc (Nat.le_refl _) o).trans (hW.mono (by simp))
        exact ⟨a1.below hb, a2.below hb⟩
      have HO : Hid (opn 0 (ini (T.take (k + 1))) = opn 0 (ini (T.take k)) ++ if 0 < T[k].gr then [k] else []) := opn_take hlt
      have Hap : Hid ((Value.slice oc m cc).ownBlock ≠ some sb) := h3
      generalize (szK T k)[k] = z at *
      clear h1 h2 h3 HK hat hil
      generalize T[k] = q at *
      generalize opn 0 (ini (T.take k)) = op at *
      go_wp2_with fail
      refine (HGr.out _).mono ?_
      rintro e w1 ⟨rfl, hb1⟩
      obtain ⟨h1, h2⟩ := HB.out _ _ hb1
      have H12 : Hid (Sh w T (.slice (some ⟨tg, tq, none⟩) T.length tcp) pb sb (.slice oc m cc) (szK T (k + 1)) lf w1 ∧ OwI w.heap.size w1 (.slice oc m cc) (natI op)) := ⟨h1, h2⟩
      clear hb1 HB HGr c0 c1 c2 c3 z0 fa x0 x1 x2 ltg lsb lpb ns1 np1 ns2 np2 nst
      by_cases hgr : 0 < q.gr
      · rw [if_pos hgr] at HO
        obtain ⟨i0, hi, hz0, hz1, hz2⟩ := info_parts info_int
        obtain ⟨c0, c1, c2, c3⟩ := h1.reads
        have hown : w1.ownsRow w.heap.size 3 1 (.slice oc m cc) m (flatI (natI op)) := by
          unfold OwI at h2
          rw [natI_len, ← Hm.out] at h2
          exact h2
        have lpb := h1.pbk.lt
        have np1 : ¬ pb = w1.heap.size := by omega
        have hls : w.heap.size ≤ w1.heap.size := h1.bel.size
        have HA : Hid (∀ o, (w1.alloc o).ownsRow w.heap.size 3 1 (.slice oc m cc) m (flatI (natI op)) ∧ w.heap.size ≤ (w1.alloc o).heap.size) := fun o => ⟨row_below hown ((Below.refl _ _).alloc (Nat.le_refl _) _), by simp; omega⟩
        have hc3 : Hid (m + 1 ≤ maxLen) := by unfold Hid maxLen; omega
        have hc4 : Hid ((m + 1) * 8 ≤ 140737488355328) := by unfold Hid; omega
        clear h1 h2 hown hls
        go_wp2_with (at_builtin; refine wpList_append_lies _ rfl _ _ 22 rfl w.heap.size 3 i0 (.int .i64 0) 1 8 Tryz.underlying22 hi hz0 hz1 hz2 rfl (by decide) (.slice oc m cc) m (flatI (natI op)) rfl (HA.out _).1 _ 1 1 [.int .i64 k] rfl rfl (cell_oneB _ _ _ _ rfl) (one1 _) (by decide) hc3.out hc4.out (HA.out _).2 _ rfl ?_)
        intro g4 cap4 w4 hown' hgrow hlies _
        have hB1 : Below w1.heap.size w1 (w1.alloc (.cells #[.int .i64 k] 3)) := (Below.refl _ _).alloc (Nat.le_refl _) _
        have hS3 := H12.out.1.below hB1
        have hO3 := H12.out.2.below hB1
        have hne := own_typ hO3 hS3.pbk (by decide)
        have hS4 := hS3.grown hgrow hne Hap.out fun g e => (row_lt hO3 g e).1
        have d2 : w4.cell? ⟨pb, 2, none⟩ = some (.slice oc m cc) := hS4.reads.2.2.1
        have fd := hS4.pbk.frozen 2
        have HN : Hid (Fst w T (.slice (some ⟨tg, tq, none⟩) T.length tcp) pb sb lf (k + 1) (w4.setCell ⟨pb, 2, none⟩ (.slice (some ⟨g4, 0, none⟩) (m + 1) cap4))) := by
          have hO4 : OwI w.heap.size w4 (.slice (some ⟨g4, 0, none⟩) (m + 1) cap4) (natI (op ++ [k])) := by
            unfold OwI
            rw [natI_app, natI_len' op, flatI_app]
            rw [← Hm.out]
            exact hown'
          have hne4 := own_typ hO4 hS4.pbk (by decide)
          refine ⟨_, hS4.opens _, ?_, ?_⟩
          · rw [HO.out]
            exact hO4.ex2 ((Ex2.refl pb pb w4).seta 2 _) hne4 hne4
          · rcases hlies with e | e
            · have := Hap.out
              rw [e] at this
              exact this
            · intro c
              simp [Value.ownBlock] at c
              have := H12.out.1.siz.lt
              rw [c] at e
              omega
        clear hown' hgrow hlies hB1 hS3 hO3 hS4 hi hz0 hz1 hz2 hne
        go_wp2
        exact ⟨⟨k + 1, by go_num, by omega, HN⟩, by simp [intOf]; omega⟩
      · rw [if_neg hgr, List.append_nil] at HO
        have HN : Hid (Fst w T (.slice (some ⟨tg, tq, none⟩) T.length tcp) pb sb lf (k + 1) w1) := ⟨_, H12.out.1, by rw [HO.out]; exact H12.out.2, Hap.out⟩
        clear h1 h2 H12
        go_wp2
        exact ⟨⟨k + 1, by go_num, by omega, HN⟩, by simp [intOf]; omega⟩
    · obtain rfl : k = T.length := by omega
      have H2 : Hid (∃ L lf', cntP L ≤ T.length ∧ Stat w T (.slice toa T.length tcp) L lf' ∧ Shr w T (.slice toa T.length tcp) pb sb L lf' wr ∧ endR lf' L = shaR T room) := by
        refine ⟨ini T, lf, ini_cnt T, ⟨HTS.out, ini_tk T, ini_inv HKo.out (by have := HLf.out; omega), ?_, hn⟩, ?_, ?_⟩
        · have := HLf.out
          have := (mnS_bd HKo.out).1
          omega
        · obtain ⟨ov, h1, h2, h3⟩ := HK.out
          rw [szK_end] at h1
          rw [List.take_length] at h2
          refine ⟨ov, ?_, h2, h3⟩
          rw [ini_o]
          exact h1
        · rw [HLf.out]
          exact (sha_end HKo.out room).symm
      clear HK HG HLf HTS HKo
      obtain ⟨R, HR⟩ : ∃ R, Hid (R = shaR T room) := ⟨shaR T room, by unfold Hid; rfl⟩
      rw [← HR.out] at H2
      go_wp2_with fail
      go_loopg [42] T.length (fun gg _ wr => Hid (∃ L lf', cntP L ≤ gg ∧ Stat w T (.slice toa T.length tcp) L lf' ∧ Shr w T (.slice toa T.length tcp) pb sb L lf' wr ∧ endR lf' L = R))
      case atStart => exact H2
      case round =>
        obtain ⟨L, lf', hcnt, hst, hsh, hend⟩ := hrel.out
        have HC := fill_any w T _ pb sb L lf' wr hsh hst
        have HSt : Hid (Stat w T (.slice toa T.length tcp) L lf') := hst
        have HE : Hid (endR lf' L = R) := hend
        clear hst hsh hend H2 hrel
        go_wp2_with fail
        refine HC.mono ?_
        rintro e w1 ⟨rfl, H3⟩
        clear HC
        cases ha : L.any (fulB lf' (gsum L))
        · have HF : Hid (Shr w T (.slice toa T.length tcp) pb sb L lf' w1) := by
            have := H3.out
            rw [(none_fil ha).1, (none_fil ha).2, Int.sub_zero] at this
            exact this
          have HL : Hid (setl lf' L = R) := by
            unfold Hid
            rw [← HE.out, end_last HSt.out.inv.gro ha]
          have HC := settle_any w T _ pb sb L lf' w1 HF.out HSt.out
          clear H3 ha
          go_wp2_with fail
          refine HC.mono ?_
          rintro e w2 ⟨rfl, H4⟩
          clear HC
          obtain ⟨ov, lf2, h4⟩ := H4.out
          obtain ⟨c0, c1, c2, c3⟩ := h4.reads
          have HZ : Hid (OwI w.heap.size w2 (.slice (some ⟨sb, 0, none⟩) T.length T.length) (shaR T room) ∧ Below w.heap.size w w2) := by
            rw [HL.out, HR.out] at h4
            have hl := h4.len
            have := h4.siz.own h4.los (by rw [hl]; unfold maxLen; omega)
            rw [hl] at this
            exact ⟨this, h4.bel⟩
          clear h4 H4
          go_wp2
          go_ret
          exact ⟨_, rfl, HZ⟩
        · have HN : Hid (∃ L' lf'', cntP L' ≤ cntP (L.map (fil lf' (gsum L))) ∧ Stat w T (.slice toa T.length tcp) L' lf'' ∧ Shr w T (.slice toa T.length tcp) pb sb L' lf'' w1 ∧ endR lf'' L' = R) := by
            refine ⟨_, _, Nat.le_refl _, HSt.out.fil ha, H3.out, ?_⟩
            rw [← HE.out, end_more HSt.out.inv.gro ha]
          have hlt := cnt_lt lf' (gsum L) L ha
          have Hlt : Hid (cntP (L.map (fil lf' (gsum L))) < cntP L) := hlt
          clear H3 ha hlt
          go_wp2
          go_roundg (cntP (L.map (fil lf' (gsum L))))
          case measure => have := Hlt.out; omega
          case rel => exact HN

end Go.Proofs.YthnhcphkpffkfaaGreat
