/-
  Package cells: drawWrite.
-/
import Derived.Test.YtapachlhdgehjaaGreatDoorK13
import Derived.Test.YtapachlhdgehjaaGreatDoorK14
import Derived.Test.YtapachlhdgehjaaGreatDoorK9
namespace Go.Proofs.YtapachlhdgehjaaGreatDoor
open Go.RowKit Go.Shelf

theorem cut_less (t : List UInt8) : (Lib.cut t [10]).1.length ≤ t.length ∧ (Lib.cut t [10]).2.1.length ≤ t.length ∧ ((Lib.cut t [10]).2.2 = true → t ≠ [] → (Lib.cut t [10]).2.1.length < t.length) := by
  unfold Lib.cut
  split
  · refine ⟨by simp; try omega, by simp; try omega, fun _ h => ?_⟩
    have : 0 < t.length := List.length_pos_iff.2 h
    simp
    omega
  · exact ⟨Nat.le_refl _, Nat.zero_le _, fun h => by cases h⟩
theorem cut_nil : (Lib.cut [] [10]).2.2 = false := by rfl
theorem cut_any (s : ByteArray) (w : World) (hs : s.size < 4294967281) (hm : ∃ m, w.cell? ⟨6, 0, none⟩ = some (.int .i64 m)) :
    Calls Tryz.prog 97 #[.string s, .string ⟨#[10]⟩] w fun e w' => e = .returned (.tuple #[.string ⟨(Lib.cut s.data.toList [10]).1.toArray⟩, .string ⟨(Lib.cut s.data.toList [10]).2.1.toArray⟩, .bool (Lib.cut s.data.toList [10]).2.2]) ∧ Below w.heap.size w w' := by
  obtain ⟨m, hm⟩ := hm
  refine (Any.strings_Cut Tryz.lays145 s ⟨#[10]⟩ m w hs hm).mono ?_
  rintro e w' ⟨rfl, n, rfl⟩
  exact ⟨rfl, below_drewN (Below.refl _ _)⟩

structure DwM (w : World) (lo g n cap a b x y m hh : Nat) (s : St) (M : List Ce) (wr : World) : Prop where
  c : ScM lo wr g n cap M
  d : w.grownBy wr (some g)
  k0 : Bk wr w.heap.size #[.int .i64 (a : Nat), .int .i64 (b : Nat), .slice (some ⟨g, 0, none⟩) n cap] 26
  k1 : Bk wr (w.heap.size + 1) (#[.int .u8 s.k, .int .i64 s.r.x, .int .i64 s.r.y, .int .i64 s.r.w, .int .i64 s.r.h, .int .u8 s.c.r, .int .u8 s.c.g, .int .u8 s.c.b, .int .u8 s.c.a, .int .u8 s.b.r, .int .u8 s.b.g, .int .u8 s.b.b, .int .u8 s.b.a, .string s.t, .int .i64 s.n]) 55
  k2 : Bk wr (w.heap.size + 1 + 1) #[.int .i64 (x : Nat), .int .i64 (y : Nat), .int .i64 (m : Nat), .int .i64 (hh : Nat)] 52
theorem DwM.below {w : World} {lo g n cap a b x y m hh : Nat} {s : St} {M : List Ce} {wr W : World} (h : DwM w lo g n cap a b x y m hh s M wr) (hb : Below wr.heap.size wr W) : DwM w lo g n cap a b x y m hh s M W :=
  ⟨h.c.below hb, ob_transC h.d ⟨hb.os, hb.tape, hb.output, hb.size, fun b h' _ => hb.block b h'⟩, h.k0.below hb, h.k1.below hb, h.k2.below hb⟩
theorem DwM.grown {w : World} {lo g n cap a b x y m hh : Nat} {s : St} {M M' : List Ce} {wr W : World} (h : DwM w lo g n cap a b x y m hh s M wr) (hg : g < w.heap.size) (hb : wr.grownBy W (some g)) (hc : ScM lo W g n cap M') : DwM w lo g n cap a b x y m hh s M' W :=
  ⟨hc, ob_transC h.d hb, (hb.block _ h.k0.lt (fun e => by injection e with e; omega)).trans h.k0, (hb.block _ h.k1.lt (fun e => by injection e with e; omega)).trans h.k1, (hb.block _ h.k2.lt (fun e => by injection e with e; omega)).trans h.k2⟩
def cntW (y hh : Nat) (ry : Int) (i : Nat) : Nat := min hh (ry + i - y).toNat

def DwJ (w : World) (lo g n cap a0 b0 x0 y m hh p cc qq : Nat) (s : St) (M : List Ce) (b : Nat → Bool) (u10 u42 u43 u44 u45 u46 u47 u48 u49 u50 u51 u52 u53 u54 u55 : Value) (x : World) : Prop :=
  (b 0 = true → u42 = .agg #[.int .i64 (a0 : Nat), .int .i64 (b0 : Nat), .slice (some ⟨g, 0, none⟩) n cap]) ∧
  (b 1 = true → u43 = .int .i64 (qq : Nat)) ∧
  (b 2 = true → u44 = .slice (some ⟨g, p * 11, none⟩) a0 cc) ∧
  (b 3 = true → u45 = .pointer (some ⟨w.heap.size + 1 + 1, 0, none⟩)) ∧
  (b 4 = true → u46 = .pointer (some ⟨w.heap.size + 1 + 1, 0, none⟩)) ∧
  (b 5 = true → u47 = .int .i64 (x0 : Nat)) ∧
  (b 6 = true → u48 = .pointer (some ⟨w.heap.size + 1 + 1, 0, none⟩)) ∧
  (b 7 = true → u49 = .pointer (some ⟨w.heap.size + 1 + 1, 0, none⟩)) ∧
  (b 8 = true → u50 = .int .i64 (x0 : Nat)) ∧
  (b 9 = true → u51 = .pointer (some ⟨w.heap.size + 1 + 1, 2, none⟩)) ∧
  (b 10 = true → u52 = .pointer (some ⟨w.heap.size + 1 + 1, 2, none⟩)) ∧
  (b 11 = true → u53 = .int .i64 (m : Nat)) ∧
  (b 12 = true → u54 = .int .i64 ((x0 : Int) + (m : Int))) ∧
  (b 13 = true → u55 = .slice (some ⟨g, p * 11 + x0 * 11, none⟩) m (cc - x0)) ∧
  (b 14 = true → u10 = .slice (some ⟨g, p * 11 + x0 * 11, none⟩) m (cc - x0)) ∧
  DwM w lo g n cap a0 b0 x0 y m hh s M x

set_option maxRecDepth 20000 in
set_option maxHeartbeats 4000000 in
theorem writeD_any (lo g n cap a0 b0 x0 y m hh : Nat) (L : List Ce) (s : St) (w : World) (h : ScM lo w g n cap L) (hs : szB a0 b0 = true) (hN : (n : Int) = a0 * b0) (hm : 0 < m) (hx : x0 + m ≤ a0) (hy : y + hh ≤ b0) (hc : s.c.ok ∧ s.b.ok) (hL : WfC L) (hrx : -16384 ≤ s.r.x ∧ s.r.x ≤ x0) (hry : -16384 ≤ s.r.y ∧ s.r.y ≤ y) (ht : s.t.size ≤ 100000)
    (HT : ∀ W, w.grownBy W (some g) → Tabs W ∧ ∃ mm, W.cell? ⟨6, 0, none⟩ = some (.int .i64 mm)) :
    Calls Tryz.prog 63 #[.agg #[.int .i64 (a0 : Nat), .int .i64 (b0 : Nat), .slice (some ⟨g, 0, none⟩) n cap], (Value.agg #[.int .u8 s.k, .int .i64 s.r.x, .int .i64 s.r.y, .int .i64 s.r.w, .int .i64 s.r.h, .int .u8 s.c.r, .int .u8 s.c.g, .int .u8 s.c.b, .int .u8 s.c.a, .int .u8 s.b.r, .int .u8 s.b.g, .int .u8 s.b.b, .int .u8 s.b.a, .string s.t, .int .i64 s.n]), .agg #[.int .i64 (x0 : Nat), .int .i64 (y : Nat), .int .i64 (m : Nat), .int .i64 (hh : Nat)]] w fun e w' => e = .returned (.tuple #[]) ∧ ScM lo w' g n cap (updQ L a0 x0 y m hh (wtF (wrP s.t) s a0)) ∧ w.grownBy w' (some g) := by
  obtain ⟨LS, hLS⟩ : ∃ LS, LS = lnsB (s.t.size + 1) s.t.data.toList := ⟨_, rfl⟩
  have HLS : Hid (wrP s.t = LS.map fun l => lnG ⟨l.toArray⟩) := by rw [hLS]; rfl
  obtain ⟨Ls, hLs⟩ : ∃ Ls, Ls = wrP s.t := ⟨_, rfl⟩
  rw [← hLs] at HLS ⊢
  obtain ⟨q1, q2, q3, q4, q5⟩ := szB_iff.1 hs
  obtain ⟨tx, htx⟩ : ∃ tx, tx = s.t := ⟨_, rfl⟩
  obtain ⟨rx, hrx'⟩ : ∃ rx, rx = s.r.x := ⟨_, rfl⟩
  obtain ⟨ry, hry'⟩ : ∃ ry, ry = s.r.y := ⟨_, rfl⟩
  have HE : Hid (tx = s.t ∧ rx = s.r.x ∧ ry = s.r.y ∧ Ls = wrP s.t) := ⟨htx, hrx', hry', hLs⟩
  rw [← hry'] at hry
  rw [← hrx'] at hrx
  rw [← htx] at ht
  have HI : Hid (DwM w lo g n cap a0 b0 x0 y m hh s (updQ L a0 x0 y m (cntW y hh ry 0) (wtF Ls s a0)) (((w.alloc (.cells #[.int .i64 (a0 : Nat), .int .i64 (b0 : Nat), .slice (some ⟨g, 0, none⟩) n cap] 26)).alloc (.cells (#[.int .u8 s.k, .int .i64 s.r.x, .int .i64 s.r.y, .int .i64 s.r.w, .int .i64 s.r.h, .int .u8 s.c.r, .int .u8 s.c.g, .int .u8 s.c.b, .int .u8 s.c.a, .int .u8 s.b.r, .int .u8 s.b.g, .int .u8 s.b.b, .int .u8 s.b.a, .string s.t, .int .i64 s.n]) 55)).alloc (.cells #[.int .i64 (x0 : Nat), .int .i64 (y : Nat), .int .i64 (m : Nat), .int .i64 (hh : Nat)] 52))) := by
    have h1 : Below w.heap.size w (((w.alloc (.cells #[.int .i64 (a0 : Nat), .int .i64 (b0 : Nat), .slice (some ⟨g, 0, none⟩) n cap] 26)).alloc (.cells (#[.int .u8 s.k, .int .i64 s.r.x, .int .i64 s.r.y, .int .i64 s.r.w, .int .i64 s.r.h, .int .u8 s.c.r, .int .u8 s.c.g, .int .u8 s.c.b, .int .u8 s.c.a, .int .u8 s.b.r, .int .u8 s.b.g, .int .u8 s.b.b, .int .u8 s.b.a, .string s.t, .int .i64 s.n]) 55)).alloc (.cells #[.int .i64 (x0 : Nat), .int .i64 (y : Nat), .int .i64 (m : Nat), .int .i64 (hh : Nat)] 52)) := (((Below.refl _ w).alloc (Nat.le_refl _) _).alloc (by simp) _).alloc (by simp; omega) _
    have k1 := Bk.new w #[.int .i64 (a0 : Nat), .int .i64 (b0 : Nat), .slice (some ⟨g, 0, none⟩) n cap] 26
    have k2 := Bk.new (w.alloc (.cells #[.int .i64 (a0 : Nat), .int .i64 (b0 : Nat), .slice (some ⟨g, 0, none⟩) n cap] 26)) (#[.int .u8 s.k, .int .i64 s.r.x, .int .i64 s.r.y, .int .i64 s.r.w, .int .i64 s.r.h, .int .u8 s.c.r, .int .u8 s.c.g, .int .u8 s.c.b, .int .u8 s.c.a, .int .u8 s.b.r, .int .u8 s.b.g, .int .u8 s.b.b, .int .u8 s.b.a, .string s.t, .int .i64 s.n]) 55
    have k3 := Bk.new ((w.alloc (.cells #[.int .i64 (a0 : Nat), .int .i64 (b0 : Nat), .slice (some ⟨g, 0, none⟩) n cap] 26)).alloc (.cells (#[.int .u8 s.k, .int .i64 s.r.x, .int .i64 s.r.y, .int .i64 s.r.w, .int .i64 s.r.h, .int .u8 s.c.r, .int .u8 s.c.g, .int .u8 s.c.b, .int .u8 s.c.a, .int .u8 s.b.r, .int .u8 s.b.g, .int .u8 s.b.b, .int .u8 s.b.a, .string s.t, .int .i64 s.n]) 55)) #[.int .i64 (x0 : Nat), .int .i64 (y : Nat), .int .i64 (m : Nat), .int .i64 (hh : Nat)] 52
    simp only [World.size_alloc] at k2 k3
    have al : ∀ {W : World} {b : Nat} {vs : Array Value} {t : TypeId} (h : Bk W b vs t) (o : Obj), Bk (W.alloc o) b vs t := fun h o => h.below ((Below.refl _ _).alloc (Nat.le_refl _) o)
    rw [show cntW y hh ry 0 = 0 by unfold cntW; omega, updQ_zero]
    exact ⟨h.below h1, ⟨h1.os, h1.tape, h1.output, h1.size, fun b hb _ => h1.block b hb⟩, al (al k1 _) _, al k2 _, k3⟩
  have HL : Hid (L.length = n ∧ (s.c.ok ∧ s.b.ok) ∧ WfC L ∧ g < w.heap.size ∧ n ≤ cap ∧ (∀ W, w.grownBy W (some g) → Tabs W ∧ ∃ mm, W.cell? ⟨6, 0, none⟩ = some (.int .i64 mm))) := ⟨h.1, hc, hL, h.lt.2, h.cap, HT⟩
  have H0 : Hid (LS = lnsB (tx.size + 1) tx.data.toList) := by rw [htx]; exact hLS
  clear h hc hL HT hLS hLs htx hrx' hry'
  go_enter Tryz.func63, Tryz.ntmps63
  go_wp2_with fail
  go_loopw [6, 7, 8] (fun v6 v7 v8 wr => ∃ (i f : Nat) (t : ByteArray) (mo : Bool), v6 = .string t ∧ v7 = .bool mo ∧ v8 = .int .i64 (ry + (i : Int)) ∧ t.size ≤ 100000 ∧ (mo = true → t.size < f) ∧ (∀ k, LS[i + k]? = if mo = true then (lnsB f t.data.toList)[k]? else none) ∧ Hid (DwM w lo g n cap a0 b0 x0 y m hh s (updQ L a0 x0 y m (cntW y hh ry i) (wtF Ls s a0)) wr)) (fun _ _ v8 _ => ((y : Int) + hh - intOf v8).toNat)
  case atStart => exact ⟨0, tx.size + 1, tx, true, by rw [HE.out.1], rfl, by rw [HE.out.2.2.1]; simp, ht, fun _ => by omega, fun k => by rw [H0.out, Nat.zero_add, if_pos rfl], HI⟩
  case round =>
    obtain ⟨i, f, t, mo, rfl, rfl, rfl, ht1, hf, hk, HR⟩ := hrel
    clear HI
    have ⟨d0, d1, d2, d3⟩ : wr.cell? ⟨w.heap.size + 1 + 1, 0, none⟩ = some (.int .i64 (x0 : Nat)) ∧ wr.cell? ⟨w.heap.size + 1 + 1, 1, none⟩ = some (.int .i64 (y : Nat)) ∧ wr.cell? ⟨w.heap.size + 1 + 1, 2, none⟩ = some (.int .i64 (m : Nat)) ∧ wr.cell? ⟨w.heap.size + 1 + 1, 3, none⟩ = some (.int .i64 (hh : Nat)) := ⟨by rw [HR.out.k2.cell]; rfl, by rw [HR.out.k2.cell]; rfl, by rw [HR.out.k2.cell]; rfl, by rw [HR.out.k2.cell]; rfl⟩
    by_cases hgo : mo = true ∧ ry + (i : Int) < (y : Int) + hh
    · obtain ⟨rfl, hlt⟩ := hgo
      have hf1 := hf rfl
      obtain ⟨f', hf'⟩ : ∃ f', f = f' + 1 := ⟨f - 1, by omega⟩
      have HC : Hid (∀ W, w.grownBy W (some g) → Calls Tryz.prog 97 #[.string t, .string ⟨#[10]⟩] W fun e w' => e = .returned (.tuple #[.string ⟨(Lib.cut t.data.toList [10]).1.toArray⟩, .string ⟨(Lib.cut t.data.toList [10]).2.1.toArray⟩, .bool (Lib.cut t.data.toList [10]).2.2]) ∧ Below W.heap.size W w') := fun W hW => cut_any t W (by omega) (HL.out.2.2.2.2.2 W hW).2
      have HK : Hid ((∀ k, LS[i + 1 + k]? = if (Lib.cut t.data.toList [10]).2.2 = true then (lnsB f' (Lib.cut t.data.toList [10]).2.1)[k]? else none) ∧ Ls[i]? = some (lnG ⟨(Lib.cut t.data.toList [10]).1.toArray⟩) ∧ (Lib.cut t.data.toList [10]).2.1.length ≤ 100000 ∧ ((Lib.cut t.data.toList [10]).2.2 = true → (Lib.cut t.data.toList [10]).2.1.length < f')) := by
        have htl : t.data.toList.length = t.size := rfl
        obtain ⟨l1, l2, l3⟩ := cut_less t.data.toList
        refine ⟨fun k => ?_, ?_, by omega, fun h3 => ?_⟩
        · have := hk (k + 1)
          rw [if_pos rfl, hf', lnsB_drop, if_neg (by omega), Nat.add_sub_cancel] at this
          rw [show i + 1 + k = i + (k + 1) by omega]
          exact this
        · have := hk 0
          rw [if_pos rfl, hf', lnsB_drop, if_pos rfl, Nat.add_zero] at this
          rw [HLS.out, List.getElem?_map, this]
          rfl
        · have hne : t.data.toList ≠ [] := fun e => by rw [e, cut_nil] at h3; cases h3
          have := l3 h3 hne
          omega
      clear hk hf hf' hf1
      generalize (Lib.cut t.data.toList [10]).1 = c1 at *
      generalize (Lib.cut t.data.toList [10]).2.1 = c2 at *
      generalize (Lib.cut t.data.toList [10]).2.2 = c3 at *
      go_wp2_with fail
      refine (HC.out _ HR.out.d).mono ?_
      rintro e w1 ⟨rfl, hb⟩
      have H1 : Hid (DwM w lo g n cap a0 b0 x0 y m hh s (updQ L a0 x0 y m (cntW y hh ry i) (wtF Ls s a0)) w1) := HR.out.below hb
      clear hb HR d0 d1 d2 d3 HC
      have ⟨d0, d1, d2, d3⟩ : w1.cell? ⟨w.heap.size + 1 + 1, 0, none⟩ = some (.int .i64 (x0 : Nat)) ∧ w1.cell? ⟨w.heap.size + 1 + 1, 1, none⟩ = some (.int .i64 (y : Nat)) ∧ w1.cell? ⟨w.heap.size + 1 + 1, 2, none⟩ = some (.int .i64 (m : Nat)) ∧ w1.cell? ⟨w.heap.size + 1 + 1, 3, none⟩ = some (.int .i64 (hh : Nat)) := ⟨by rw [H1.out.k2.cell]; rfl, by rw [H1.out.k2.cell]; rfl, by rw [H1.out.k2.cell]; rfl, by rw [H1.out.k2.cell]; rfl⟩
      by_cases hya : (y : Int) ≤ ry + (i : Int)
      · obtain ⟨qq, hqq⟩ : ∃ qq : Nat, ry + (i : Int) = (qq : Int) := ⟨(ry + (i : Int)).toNat, by omega⟩
        go_wp2_with fail
        have hN2 : n = a0 * b0 := by rw [← Int.natCast_mul] at hN; exact Int.ofNat.inj hN
        obtain ⟨j, hj⟩ : ∃ j, qq = y + j := ⟨qq - y, by omega⟩
        have hqb : qq < b0 := by omega
        have hfit := row_fit hN hx hqb
        obtain ⟨p, hp⟩ : ∃ p : Nat, p = qq * a0 := ⟨_, rfl⟩
        obtain ⟨cc, hcc⟩ : ∃ cc : Nat, cc = cap - p := ⟨_, rfl⟩
        have hcap := HL.out.2.2.2.2.1
        have hRow : ∀ W, Calls Tryz.prog 45 #[.agg #[.int .i64 (a0 : Nat), .int .i64 (b0 : Nat), .slice (some ⟨g, 0, none⟩) n cap], .int .i64 (qq : Nat)] W fun e w' => e = .returned (.slice (some ⟨g, p * 11, none⟩) a0 cc) ∧ Below W.heap.size W w' := fun W => by
          have := rowC_any a0 b0 (qq : Nat) g 0 n cap W hs hN hcap (by omega) (by omega) (by omega) p (by rw [hp, Int.natCast_mul]) a0 rfl
          rw [Nat.zero_add, ← hcc] at this
          exact this
        have HRow : Hid (∀ W, Calls Tryz.prog 45 #[.agg #[.int .i64 (a0 : Nat), .int .i64 (b0 : Nat), .slice (some ⟨g, 0, none⟩) n cap], .int .i64 (qq : Nat)] W fun e w' => e = .returned (.slice (some ⟨g, p * 11, none⟩) a0 cc) ∧ Below W.heap.size W w') := hRow
        have hpl : p + x0 + m ≤ n := by rw [hp]; exact hfit
        have pl : x0 + m ≤ cc := by omega
        have px : x0 < cc := by omega
        have g1 : (x0 : Int) ≤ (x0 : Int) + (m : Int) := by omega
        have g2 : (x0 : Int) + (m : Int) ≤ (cc : Int) := by omega
        have g3 : ¬ x0 = cc := by omega
        have g4 : ¬ cc = x0 := by omega
        have g5 : ((x0 : Int) + (m : Int)).toNat = x0 + m := by omega
        have g6 : IntKind.i64.wrap ((x0 : Int) + (m : Int)) = (x0 : Int) + (m : Int) := by rw [IntKind.wrap_i64]; omega
        have HP : Hid (p = qq * a0 ∧ cc = cap - p ∧ qq = y + j ∧ ry + (i : Int) = (qq : Int) ∧ p + x0 + m ≤ n) := ⟨hp, hcc, hj, hqq, hpl⟩
        obtain ⟨M, hM⟩ : ∃ M, M = updQ L a0 x0 y m (cntW y hh ry i) (wtF Ls s a0) := ⟨_, rfl⟩
        rw [← hM] at H1
        have HMd : Hid (M = updQ L a0 x0 y m (cntW y hh ry i) (wtF Ls s a0)) := hM
        clear hM hp hcc hj hRow hN2 hfit hpl d0 d1 d2 d3
        have hyq : decide (y ≤ qq) = true := by simp; omega
        rw [hyq]
        have hmo : Tryz.prog.follows Departure.mixedOrders = true := rfl
        refine wp_region_inv (fun b a x => ∃ u10 u42 u43 u44 u45 u46 u47 u48 u49 u50 u51 u52 u53 u54 u55, a = ⟨#[.agg #[.int .i64 (a0 : Nat), .int .i64 (b0 : Nat), .slice (some ⟨g, 0, none⟩) n cap], .agg #[.int .u8 s.k, .int .i64 s.r.x, .int .i64 s.r.y, .int .i64 s.r.w, .int .i64 s.r.h, .int .u8 s.c.r, .int .u8 s.c.g, .int .u8 s.c.b, .int .u8 s.c.a, .int .u8 s.b.r, .int .u8 s.b.g, .int .u8 s.b.b, .int .u8 s.b.a, .string s.t, .int .i64 s.n], .agg #[.int .i64 (x0 : Nat), .int .i64 (y : Nat), .int .i64 (m : Nat), .int .i64 (hh : Nat)], .pointer (some ⟨w.heap.size, 0, none⟩), .pointer (some ⟨w.heap.size + 1, 0, none⟩), .pointer (some ⟨w.heap.size + 1 + 1, 0, none⟩), .string ⟨c2.toArray⟩, .bool c3, .int .i64 (qq : Nat), .string ⟨c1.toArray⟩, u10, .pointer (some ⟨w.heap.size + 1, 13, none⟩), .string s.t, .pointer (some ⟨w.heap.size + 1, 1, none⟩), .pointer (some ⟨w.heap.size + 1, 1, none⟩), .pointer (some ⟨w.heap.size + 1, 2, none⟩), .int .i64 s.r.y, .bool true, .bool true, .int .i64 (qq : Nat), .pointer (some ⟨w.heap.size + 1 + 1, 0, none⟩), .pointer (some ⟨w.heap.size + 1 + 1, 1, none⟩), .int .i64 (y : Nat), .pointer (some ⟨w.heap.size + 1 + 1, 2, none⟩), .pointer (some ⟨w.heap.size + 1 + 1, 3, none⟩), .int .i64 (hh : Nat), .int .i64 ((y : Int) + (hh : Int)), .bool true, .bool true, u29, u30, .tuple #[.string ⟨c1.toArray⟩, .string ⟨c2.toArray⟩, .bool c3], .string t, .tuple #[.string ⟨c1.toArray⟩, .string ⟨c2.toArray⟩, .bool c3], .string ⟨c1.toArray⟩, .string ⟨c2.toArray⟩, .bool c3, .int .i64 (qq : Nat), .pointer (some ⟨w.heap.size + 1 + 1, 0, none⟩), .pointer (some ⟨w.heap.size + 1 + 1, 1, none⟩), .int .i64 (y : Nat), .bool true, u42, u43, u44, u45, u46, u47, u48, u49, u50, u51, u52, u53, u54, u55, u56, u57, u58, u59, u60, u61, u62, u63, u64, u65, u66, u67], []⟩ ∧ Hid (DwJ w lo g n cap a0 b0 x0 y m hh p cc qq s M b u10 u42 u43 u44 u45 u46 u47 u48 u49 u50 u51 u52 u53 u54 u55 x)) hmo (by kernel_rfl) ?_ ?_ ?_
        · exact ⟨_, _, _, _, _, _, _, _, _, _, _, _, _, _, _, rfl, ⟨(fun h => (by cases h)), (fun h => (by cases h)), (fun h => (by cases h)), (fun h => (by cases h)), (fun h => (by cases h)), (fun h => (by cases h)), (fun h => (by cases h)), (fun h => (by cases h)), (fun h => (by cases h)), (fun h => (by cases h)), (fun h => (by cases h)), (fun h => (by cases h)), (fun h => (by cases h)), (fun h => (by cases h)), (fun h => (by cases h)), H1.out.below (Below.refl _ _).drew⟩⟩
        · intro b a x i o hI hbi ho hpre K' hK
          obtain ⟨u10, u42, u43, u44, u45, u46, u47, u48, u49, u50, u51, u52, u53, u54, u55, rfl, HJ⟩ := hI
          have hi : i < 15 := by have := (Array.getElem?_eq_some_iff.1 ho).1; simpa using this
          rcases (show i = 0 ∨ i = 1 ∨ i = 2 ∨ i = 3 ∨ i = 4 ∨ i = 5 ∨ i = 6 ∨ i = 7 ∨ i = 8 ∨ i = 9 ∨ i = 10 ∨ i = 11 ∨ i = 12 ∨ i = 13 ∨ i = 14 by omega) with rfl | rfl | rfl | rfl | rfl | rfl | rfl | rfl | rfl | rfl | rfl | rfl | rfl | rfl | rfl
          · injection (show some _ = some o from ho) with ho
            subst ho
            have sc0 : x.cell? ⟨w.heap.size, 0, none⟩ = some (.int .i64 (a0 : Nat)) := by obtain ⟨j0, j1, j2, j3, j4, j5, j6, j7, j8, j9, j10, j11, j12, j13, j14, e0⟩ := HJ.out; rw [e0.k0.cell]; rfl
            have sc1 : x.cell? ⟨w.heap.size, 1, none⟩ = some (.int .i64 (b0 : Nat)) := by obtain ⟨j0, j1, j2, j3, j4, j5, j6, j7, j8, j9, j10, j11, j12, j13, j14, e0⟩ := HJ.out; rw [e0.k0.cell]; rfl
            have sc2 : x.cell? ⟨w.heap.size, 2, none⟩ = some (.slice (some ⟨g, 0, none⟩) n cap) := by obtain ⟨j0, j1, j2, j3, j4, j5, j6, j7, j8, j9, j10, j11, j12, j13, j14, e0⟩ := HJ.out; rw [e0.k0.cell]; rfl
            have HN : Hid (DwJ w lo g n cap a0 b0 x0 y m hh p cc qq s M (fun j => if j = 0 then true else b j) u10 (.agg #[.int .i64 (a0 : Nat), .int .i64 (b0 : Nat), .slice (some ⟨g, 0, none⟩) n cap]) u43 u44 u45 u46 u47 u48 u49 u50 u51 u52 u53 u54 u55 x) := by
              obtain ⟨j0, j1, j2, j3, j4, j5, j6, j7, j8, j9, j10, j11, j12, j13, j14, e0⟩ := HJ.out
              exact ⟨fun _ => rfl, j1, j2, j3, j4, j5, j6, j7, j8, j9, j10, j11, j12, j13, j14, e0⟩
            clear HJ hpre
            go_simp
            exact hK _ _ ⟨u10, _, u43, u44, u45, u46, u47, u48, u49, u50, u51, u52, u53, u54, u55, rfl, HN⟩
          · injection (show some _ = some o from ho) with ho
            subst ho
            have HN : Hid (DwJ w lo g n cap a0 b0 x0 y m hh p cc qq s M (fun j => if j = 1 then true else b j) u10 u42 (.int .i64 (qq : Nat)) u44 u45 u46 u47 u48 u49 u50 u51 u52 u53 u54 u55 x) := by
              obtain ⟨j0, j1, j2, j3, j4, j5, j6, j7, j8, j9, j10, j11, j12, j13, j14, e0⟩ := HJ.out
              exact ⟨j0, fun _ => rfl, j2, j3, j4, j5, j6, j7, j8, j9, j10, j11, j12, j13, j14, e0⟩
            clear HJ hpre
            go_simp
            exact hK _ _ ⟨u10, u42, _, u44, u45, u46, u47, u48, u49, u50, u51, u52, u53, u54, u55, rfl, HN⟩
          · injection (show some _ = some o from ho) with ho
            subst ho
            have p0 : b 0 = true := hpre 0 (by decide +kernel)
            obtain rfl : u42 = .agg #[.int .i64 (a0 : Nat), .int .i64 (b0 : Nat), .slice (some ⟨g, 0, none⟩) n cap] := by obtain ⟨j0, j1, j2, j3, j4, j5, j6, j7, j8, j9, j10, j11, j12, j13, j14, e0⟩ := HJ.out; exact (j0 p0)
            have p1 : b 1 = true := hpre 1 (by decide +kernel)
            obtain rfl : u43 = .int .i64 (qq : Nat) := by obtain ⟨j0, j1, j2, j3, j4, j5, j6, j7, j8, j9, j10, j11, j12, j13, j14, e0⟩ := HJ.out; exact (j1 p1)
            have HN : Hid (∀ x', Below x.heap.size x x' → DwJ w lo g n cap a0 b0 x0 y m hh p cc qq s M (fun j => if j = 2 then true else b j) u10 (.agg #[.int .i64 (a0 : Nat), .int .i64 (b0 : Nat), .slice (some ⟨g, 0, none⟩) n cap]) (.int .i64 (qq : Nat)) (.slice (some ⟨g, p * 11, none⟩) a0 cc) u45 u46 u47 u48 u49 u50 u51 u52 u53 u54 u55 x') := fun x' hb => by
              obtain ⟨j0, j1, j2, j3, j4, j5, j6, j7, j8, j9, j10, j11, j12, j13, j14, e0⟩ := HJ.out
              exact ⟨j0, j1, (fun _ => rfl), j3, j4, j5, j6, j7, j8, j9, j10, j11, j12, j13, j14, (e0.below hb)⟩
            clear HJ hpre
            go_simp
            refine (HRow.out _).mono ?_
            rintro e x' ⟨rfl, hb⟩
            exact hK _ _ ⟨u10, _, _, _, u45, u46, u47, u48, u49, u50, u51, u52, u53, u54, u55, rfl, HN.out x' hb⟩
          · injection (show some _ = some o from ho) with ho
            subst ho
            have HN : Hid (DwJ w lo g n cap a0 b0 x0 y m hh p cc qq s M (fun j => if j = 3 then true else b j) u10 u42 u43 u44 (.pointer (some ⟨w.heap.size + 1 + 1, 0, none⟩)) u46 u47 u48 u49 u50 u51 u52 u53 u54 u55 x) := by
              obtain ⟨j0, j1, j2, j3, j4, j5, j6, j7, j8, j9, j10, j11, j12, j13, j14, e0⟩ := HJ.out
              exact ⟨j0, j1, j2, fun _ => rfl, j4, j5, j6, j7, j8, j9, j10, j11, j12, j13, j14, e0⟩
            clear HJ hpre
            go_simp
            exact hK _ _ ⟨u10, u42, u43, u44, _, u46, u47, u48, u49, u50, u51, u52, u53, u54, u55, rfl, HN⟩
          · injection (show some _ = some o from ho) with ho
            subst ho
            have p3 : b 3 = true := hpre 3 (by decide +kernel)
            obtain rfl : u45 = .pointer (some ⟨w.heap.size + 1 + 1, 0, none⟩) := by obtain ⟨j0, j1, j2, j3, j4, j5, j6, j7, j8, j9, j10, j11, j12, j13, j14, e0⟩ := HJ.out; exact (j3 p3)
            have HN : Hid (DwJ w lo g n cap a0 b0 x0 y m hh p cc qq s M (fun j => if j = 4 then true else b j) u10 u42 u43 u44 (.pointer (some ⟨w.heap.size + 1 + 1, 0, none⟩)) (.pointer (some ⟨w.heap.size + 1 + 1, 0, none⟩)) u47 u48 u49 u50 u51 u52 u53 u54 u55 x) := by
              obtain ⟨j0, j1, j2, j3, j4, j5, j6, j7, j8, j9, j10, j11, j12, j13, j14, e0⟩ := HJ.out
              exact ⟨j0, j1, j2, j3, fun _ => rfl, j5, j6, j7, j8, j9, j10, j11, j12, j13, j14, e0⟩
            clear HJ hpre
            go_simp
            exact hK _ _ ⟨u10, u42, u43, u44, _, _, u47, u48, u49, u50, u51, u52, u53, u54, u55, rfl, HN⟩
          · injection (show some _ = some o from ho) with ho
            subst ho
            have p4 : b 4 = true := hpre 4 (by decide +kernel)
            obtain rfl : u46 = .pointer (some ⟨w.heap.size + 1 + 1, 0, none⟩) := by obtain ⟨j0, j1, j2, j3, j4, j5, j6, j7, j8, j9, j10, j11, j12, j13, j14, e0⟩ := HJ.out; exact (j4 p4)
            have sc0 : x.cell? ⟨w.heap.size + 1 + 1, 0, none⟩ = some (.int .i64 (x0 : Nat)) := by obtain ⟨j0, j1, j2, j3, j4, j5, j6, j7, j8, j9, j10, j11, j12, j13, j14, e0⟩ := HJ.out; rw [e0.k2.cell]; rfl
            have HN : Hid (DwJ w lo g n cap a0 b0 x0 y m hh p cc qq s M (fun j => if j = 5 then true else b j) u10 u42 u43 u44 u45 (.pointer (some ⟨w.heap.size + 1 + 1, 0, none⟩)) (.int .i64 (x0 : Nat)) u48 u49 u50 u51 u52 u53 u54 u55 x) := by
              obtain ⟨j0, j1, j2, j3, j4, j5, j6, j7, j8, j9, j10, j11, j12, j13, j14, e0⟩ := HJ.out
              exact ⟨j0, j1, j2, j3, j4, fun _ => rfl, j6, j7, j8, j9, j10, j11, j12, j13, j14, e0⟩
            clear HJ hpre
            go_simp
            exact hK _ _ ⟨u10, u42, u43, u44, u45, _, _, u48, u49, u50, u51, u52, u53, u54, u55, rfl, HN⟩
          · injection (show some _ = some o from ho) with ho
            subst ho
            have HN : Hid (DwJ w lo g n cap a0 b0 x0 y m hh p cc qq s M (fun j => if j = 6 then true else b j) u10 u42 u43 u44 u45 u46 u47 (.pointer (some ⟨w.heap.size + 1 + 1, 0, none⟩)) u49 u50 u51 u52 u53 u54 u55 x) := by
              obtain ⟨j0, j1, j2, j3, j4, j5, j6, j7, j8, j9, j10, j11, j12, j13, j14, e0⟩ := HJ.out
              exact ⟨j0, j1, j2, j3, j4, j5, fun _ => rfl, j7, j8, j9, j10, j11, j12, j13, j14, e0⟩
            clear HJ hpre
            go_simp
            exact hK _ _ ⟨u10, u42, u43, u44, u45, u46, u47, _, u49, u50, u51, u52, u53, u54, u55, rfl, HN⟩
          · injection (show some _ = some o from ho) with ho
            subst ho
            have p6 : b 6 = true := hpre 6 (by decide +kernel)
            obtain rfl : u48 = .pointer (some ⟨w.heap.size + 1 + 1, 0, none⟩) := by obtain ⟨j0, j1, j2, j3, j4, j5, j6, j7, j8, j9, j10, j11, j12, j13, j14, e0⟩ := HJ.out; exact (j6 p6)
            have HN : Hid (DwJ w lo g n cap a0 b0 x0 y m hh p cc qq s M (fun j => if j = 7 then true else b j) u10 u42 u43 u44 u45 u46 u47 (.pointer (some ⟨w.heap.size + 1 + 1, 0, none⟩)) (.pointer (some ⟨w.heap.size + 1 + 1, 0, none⟩)) u50 u51 u52 u53 u54 u55 x) := by
              obtain ⟨j0, j1, j2, j3, j4, j5, j6, j7, j8, j9, j10, j11, j12, j13, j14, e0⟩ := HJ.out
              exact ⟨j0, j1, j2, j3, j4, j5, j6, fun _ => rfl, j8, j9, j10, j11, j12, j13, j14, e0⟩
            clear HJ hpre
            go_simp
            exact hK _ _ ⟨u10, u42, u43, u44, u45, u46, u47, _, _, u50, u51, u52, u53, u54, u55, rfl, HN⟩
          · injection (show some _ = some o from ho) with ho
            subst ho
            have p7 : b 7 = true := hpre 7 (by decide +kernel)
            obtain rfl : u49 = .pointer (some ⟨w.heap.size + 1 + 1, 0, none⟩) := by obtain ⟨j0, j1, j2, j3, j4, j5, j6, j7, j8, j9, j10, j11, j12, j13, j14, e0⟩ := HJ.out; exact (j7 p7)
            have sc0 : x.cell? ⟨w.heap.size + 1 + 1, 0, none⟩ = some (.int .i64 (x0 : Nat)) := by obtain ⟨j0, j1, j2, j3, j4, j5, j6, j7, j8, j9, j10, j11, j12, j13, j14, e0⟩ := HJ.out; rw [e0.k2.cell]; rfl
            have HN : Hid (DwJ w lo g n cap a0 b0 x0 y m hh p cc qq s M (fun j => if j = 8 then true else b j) u10 u42 u43 u44 u45 u46 u47 u48 (.pointer (some ⟨w.heap.size + 1 + 1, 0, none⟩)) (.int .i64 (x0 : Nat)) u51 u52 u53 u54 u55 x) := by
              obtain ⟨j0, j1, j2, j3, j4, j5, j6, j7, j8, j9, j10, j11, j12, j13, j14, e0⟩ := HJ.out
              exact ⟨j0, j1, j2, j3, j4, j5, j6, j7, fun _ => rfl, j9, j10, j11, j12, j13, j14, e0⟩
            clear HJ hpre
            go_simp
            exact hK _ _ ⟨u10, u42, u43, u44, u45, u46, u47, u48, _, _, u51, u52, u53, u54, u55, rfl, HN⟩
          · injection (show some _ = some o from ho) with ho
            subst ho
            have HN : Hid (DwJ w lo g n cap a0 b0 x0 y m hh p cc qq s M (fun j => if j = 9 then true else b j) u10 u42 u43 u44 u45 u46 u47 u48 u49 u50 (.pointer (some ⟨w.heap.size + 1 + 1, 2, none⟩)) u52 u53 u54 u55 x) := by
              obtain ⟨j0, j1, j2, j3, j4, j5, j6, j7, j8, j9, j10, j11, j12, j13, j14, e0⟩ := HJ.out
              exact ⟨j0, j1, j2, j3, j4, j5, j6, j7, j8, fun _ => rfl, j10, j11, j12, j13, j14, e0⟩
            clear HJ hpre
            go_simp
            exact hK _ _ ⟨u10, u42, u43, u44, u45, u46, u47, u48, u49, u50, _, u52, u53, u54, u55, rfl, HN⟩
          · injection (show some _ = some o from ho) with ho
            subst ho
            have p9 : b 9 = true := hpre 9 (by decide +kernel)
            obtain rfl : u51 = .pointer (some ⟨w.heap.size + 1 + 1, 2, none⟩) := by obtain ⟨j0, j1, j2, j3, j4, j5, j6, j7, j8, j9, j10, j11, j12, j13, j14, e0⟩ := HJ.out; exact (j9 p9)
            have HN : Hid (DwJ w lo g n cap a0 b0 x0 y m hh p cc qq s M (fun j => if j = 10 then true else b j) u10 u42 u43 u44 u45 u46 u47 u48 u49 u50 (.pointer (some ⟨w.heap.size + 1 + 1, 2, none⟩)) (.pointer (some ⟨w.heap.size + 1 + 1, 2, none⟩)) u53 u54 u55 x) := by
              obtain ⟨j0, j1, j2, j3, j4, j5, j6, j7, j8, j9, j10, j11, j12, j13, j14, e0⟩ := HJ.out
              exact ⟨j0, j1, j2, j3, j4, j5, j6, j7, j8, j9, fun _ => rfl, j11, j12, j13, j14, e0⟩
            clear HJ hpre
            go_simp
            exact hK _ _ ⟨u10, u42, u43, u44, u45, u46, u47, u48, u49, u50, _, _, u53, u54, u55, rfl, HN⟩
          · injection (show some _ = some o from ho) with ho
            subst ho
            have p10 : b 10 = true := hpre 10 (by decide +kernel)
            obtain rfl : u52 = .pointer (some ⟨w.heap.size + 1 + 1, 2, none⟩) := by obtain ⟨j0, j1, j2, j3, j4, j5, j6, j7, j8, j9, j10, j11, j12, j13, j14, e0⟩ := HJ.out; exact (j10 p10)
            have sc2 : x.cell? ⟨w.heap.size + 1 + 1, 2, none⟩ = some (.int .i64 (m : Nat)) := by obtain ⟨j0, j1, j2, j3, j4, j5, j6, j7, j8, j9, j10, j11, j12, j13, j14, e0⟩ := HJ.out; rw [e0.k2.cell]; rfl
            have HN : Hid (DwJ w lo g n cap a0 b0 x0 y m hh p cc qq s M (fun j => if j = 11 then true else b j) u10 u42 u43 u44 u45 u46 u47 u48 u49 u50 u51 (.pointer (some ⟨w.heap.size + 1 + 1, 2, none⟩)) (.int .i64 (m : Nat)) u54 u55 x) := by
              obtain ⟨j0, j1, j2, j3, j4, j5, j6, j7, j8, j9, j10, j11, j12, j13, j14, e0⟩ := HJ.out
              exact ⟨j0, j1, j2, j3, j4, j5, j6, j7, j8, j9, j10, fun _ => rfl, j12, j13, j14, e0⟩
            clear HJ hpre
            go_simp
            exact hK _ _ ⟨u10, u42, u43, u44, u45, u46, u47, u48, u49, u50, u51, _, _, u54, u55, rfl, HN⟩
          · injection (show some _ = some o from ho) with ho
            subst ho
            have p8 : b 8 = true := hpre 8 (by decide +kernel)
            obtain rfl : u50 = .int .i64 (x0 : Nat) := by obtain ⟨j0, j1, j2, j3, j4, j5, j6, j7, j8, j9, j10, j11, j12, j13, j14, e0⟩ := HJ.out; exact (j8 p8)
            have p11 : b 11 = true := hpre 11 (by decide +kernel)
            obtain rfl : u53 = .int .i64 (m : Nat) := by obtain ⟨j0, j1, j2, j3, j4, j5, j6, j7, j8, j9, j10, j11, j12, j13, j14, e0⟩ := HJ.out; exact (j11 p11)
            have HN : Hid (DwJ w lo g n cap a0 b0 x0 y m hh p cc qq s M (fun j => if j = 12 then true else b j) u10 u42 u43 u44 u45 u46 u47 u48 u49 (.int .i64 (x0 : Nat)) u51 u52 (.int .i64 (m : Nat)) (.int .i64 ((x0 : Int) + (m : Int))) u55 x) := by
              obtain ⟨j0, j1, j2, j3, j4, j5, j6, j7, j8, j9, j10, j11, j12, j13, j14, e0⟩ := HJ.out
              exact ⟨j0, j1, j2, j3, j4, j5, j6, j7, j8, j9, j10, j11, fun _ => rfl, j13, j14, e0⟩
            clear HJ hpre
            go_simp
            exact hK _ _ ⟨u10, u42, u43, u44, u45, u46, u47, u48, u49, _, u51, u52, _, _, u55, rfl, HN⟩
          · injection (show some _ = some o from ho) with ho
            subst ho
            have p2 : b 2 = true := hpre 2 (by decide +kernel)
            obtain rfl : u44 = .slice (some ⟨g, p * 11, none⟩) a0 cc := by obtain ⟨j0, j1, j2, j3, j4, j5, j6, j7, j8, j9, j10, j11, j12, j13, j14, e0⟩ := HJ.out; exact (j2 p2)
            have p5 : b 5 = true := hpre 5 (by decide +kernel)
            obtain rfl : u47 = .int .i64 (x0 : Nat) := by obtain ⟨j0, j1, j2, j3, j4, j5, j6, j7, j8, j9, j10, j11, j12, j13, j14, e0⟩ := HJ.out; exact (j5 p5)
            have p12 : b 12 = true := hpre 12 (by decide +kernel)
            obtain rfl : u54 = .int .i64 ((x0 : Int) + (m : Int)) := by obtain ⟨j0, j1, j2, j3, j4, j5, j6, j7, j8, j9, j10, j11, j12, j13, j14, e0⟩ := HJ.out; exact (j12 p12)
            have HN : Hid (DwJ w lo g n cap a0 b0 x0 y m hh p cc qq s M (fun j => if j = 13 then true else b j) u10 u42 u43 (.slice (some ⟨g, p * 11, none⟩) a0 cc) u45 u46 (.int .i64 (x0 : Nat)) u48 u49 u50 u51 u52 u53 (.int .i64 ((x0 : Int) + (m : Int))) (.slice (some ⟨g, p * 11 + x0 * 11, none⟩) m (cc - x0)) x) := by
              obtain ⟨j0, j1, j2, j3, j4, j5, j6, j7, j8, j9, j10, j11, j12, j13, j14, e0⟩ := HJ.out
              exact ⟨j0, j1, j2, j3, j4, j5, j6, j7, j8, j9, j10, j11, j12, fun _ => rfl, j14, e0⟩
            clear HJ hpre
            go_simp
            exact hK _ _ ⟨u10, u42, u43, _, u45, u46, _, u48, u49, u50, u51, u52, u53, _, _, rfl, HN⟩
          · injection (show some _ = some o from ho) with ho
            subst ho
            have p13 : b 13 = true := hpre 13 (by decide +kernel)
            obtain rfl : u55 = .slice (some ⟨g, p * 11 + x0 * 11, none⟩) m (cc - x0) := by obtain ⟨j0, j1, j2, j3, j4, j5, j6, j7, j8, j9, j10, j11, j12, j13, j14, e0⟩ := HJ.out; exact (j13 p13)
            have HN : Hid (DwJ w lo g n cap a0 b0 x0 y m hh p cc qq s M (fun j => if j = 14 then true else b j) (.slice (some ⟨g, p * 11 + x0 * 11, none⟩) m (cc - x0)) u42 u43 u44 u45 u46 u47 u48 u49 u50 u51 u52 u53 u54 (.slice (some ⟨g, p * 11 + x0 * 11, none⟩) m (cc - x0)) x) := by
              obtain ⟨j0, j1, j2, j3, j4, j5, j6, j7, j8, j9, j10, j11, j12, j13, j14, e0⟩ := HJ.out
              exact ⟨j0, j1, j2, j3, j4, j5, j6, j7, j8, j9, j10, j11, j12, j13, fun _ => rfl, e0⟩
            clear HJ hpre
            go_simp
            exact hK _ _ ⟨_, u42, u43, u44, u45, u46, u47, u48, u49, u50, u51, u52, u53, u54, _, rfl, HN⟩
        · rintro b a' x' ⟨u10, u42, u43, u44, u45, u46, u47, u48, u49, u50, u51, u52, u53, u54, u55, rfl, HJ⟩ hall
          obtain rfl : u10 = .slice (some ⟨g, p * 11 + x0 * 11, none⟩) m (cc - x0) := by
            obtain ⟨j0, j1, j2, j3, j4, j5, j6, j7, j8, j9, j10, j11, j12, j13, j14, e0⟩ := HJ.out
            exact j14 (hall 14 (by decide))
          have H2 : Hid (DwM w lo g n cap a0 b0 x0 y m hh s M x') := by
            obtain ⟨j0, j1, j2, j3, j4, j5, j6, j7, j8, j9, j10, j11, j12, j13, j14, e0⟩ := HJ.out
            exact e0
          clear HJ hall H1 HRow g1 g2 g3 g4 g5 g6
          have sc := H2.out.k1.cell
          have y0 : x'.cell? ⟨w.heap.size + 1, 0, none⟩ = some (.int .u8 s.k) := by rw [sc]; rfl
          have y1 : x'.cell? ⟨w.heap.size + 1, 1, none⟩ = some (.int .i64 s.r.x) := by rw [sc]; rfl
          have y2 : x'.cell? ⟨w.heap.size + 1, 2, none⟩ = some (.int .i64 s.r.y) := by rw [sc]; rfl
          have y3 : x'.cell? ⟨w.heap.size + 1, 3, none⟩ = some (.int .i64 s.r.w) := by rw [sc]; rfl
          have y4 : x'.cell? ⟨w.heap.size + 1, 4, none⟩ = some (.int .i64 s.r.h) := by rw [sc]; rfl
          have y5 : x'.cell? ⟨w.heap.size + 1, 5, none⟩ = some (.int .u8 s.c.r) := by rw [sc]; rfl
          have y6 : x'.cell? ⟨w.heap.size + 1, 6, none⟩ = some (.int .u8 s.c.g) := by rw [sc]; rfl
          have y7 : x'.cell? ⟨w.heap.size + 1, 7, none⟩ = some (.int .u8 s.c.b) := by rw [sc]; rfl
          have y8 : x'.cell? ⟨w.heap.size + 1, 8, none⟩ = some (.int .u8 s.c.a) := by rw [sc]; rfl
          have y9 : x'.cell? ⟨w.heap.size + 1, 9, none⟩ = some (.int .u8 s.b.r) := by rw [sc]; rfl
          have y10 : x'.cell? ⟨w.heap.size + 1, 10, none⟩ = some (.int .u8 s.b.g) := by rw [sc]; rfl
          have y11 : x'.cell? ⟨w.heap.size + 1, 11, none⟩ = some (.int .u8 s.b.b) := by rw [sc]; rfl
          have y12 : x'.cell? ⟨w.heap.size + 1, 12, none⟩ = some (.int .u8 s.b.a) := by rw [sc]; rfl
          have y13 : x'.cell? ⟨w.heap.size + 1, 13, none⟩ = some (.string s.t) := by rw [sc]; rfl
          have y14 : x'.cell? ⟨w.heap.size + 1, 14, none⟩ = some (.int .i64 s.n) := by rw [sc]; rfl
          have ⟨d0, d1⟩ : x'.cell? ⟨w.heap.size + 1 + 1, 0, none⟩ = some (.int .i64 (x0 : Nat)) ∧ x'.cell? ⟨w.heap.size + 1 + 1, 1, none⟩ = some (.int .i64 (y : Nat)) := ⟨by rw [H2.out.k2.cell]; rfl, by rw [H2.out.k2.cell]; rfl⟩
          have wrx : IntKind.i64.wrap (s.r.x - (x0 : Int)) = s.r.x - (x0 : Int) := by rw [IntKind.wrap_i64, ← HE.out.2.1]; omega
          obtain ⟨o, ho⟩ : ∃ o, o = p + x0 := ⟨_, rfl⟩
          have HW : Hid (∀ c', Calls Tryz.prog 98 #[.slice (some ⟨g, p * 11 + x0 * 11, none⟩) m c', .int .i64 (s.r.x - (x0 : Int)), .string ⟨c1.toArray⟩, (Value.agg #[.int .u8 s.k, .int .i64 s.r.x, .int .i64 s.r.y, .int .i64 s.r.w, .int .i64 s.r.h, .int .u8 s.c.r, .int .u8 s.c.g, .int .u8 s.c.b, .int .u8 s.c.a, .int .u8 s.b.r, .int .u8 s.b.g, .int .u8 s.b.b, .int .u8 s.b.a, .string s.t, .int .i64 s.n])] x' fun e w' => e = .returned (.tuple #[]) ∧ ScM lo w' g n cap (updR M o m (wlF (lnG ⟨c1.toArray⟩) s o (s.r.x - (x0 : Int)))) ∧ x'.grownBy w' (some g)) := fun c' => by
            have hwM : WfC M := by
              rw [HMd.out]
              refine wfc_updQ HL.out.2.2.1 a0 x0 y m _ (fun k c hc => ?_)
              unfold wtF
              split
              · exact hc
              · exact ⟨over_ok HL.out.2.1.1 (over_ok HL.out.2.1.2 hc.2), over_ok HL.out.2.1.2 hc.2⟩
            exact wline_any lo g n cap o m c' (p * 11 + x0 * 11) M ⟨c1.toArray⟩ (s.r.x - (x0 : Int)) s x' H2.out.c (by have := HP.out.2.2.2.2; omega) (by omega) (by have := (mulB hs).2; omega) (by rw [← HE.out.2.1]; omega) HL.out.2.1 hwM (fun W hW => (HL.out.2.2.2.2.2 W (ob_transC H2.out.d hW)).1)
          go_wp2_with fail
          refine (HW.out _).mono ?_
          rintro e w5 ⟨rfl, h5, h6⟩
          have HX : Hid (DwM w lo g n cap a0 b0 x0 y m hh s (updQ L a0 x0 y m (cntW y hh ry (i + 1)) (wtF Ls s a0)) w5) := by
            obtain ⟨p1, p2, p3, p4, p5⟩ := HP.out
            refine H2.out.grown HL.out.2.2.2.1 h6 ?_
            have e1 : cntW y hh ry i = j := by unfold cntW; omega
            have e2 : cntW y hh ry (i + 1) = j + 1 := by unfold cntW; omega
            have hG : Ls[(((y + j : Nat) : Int) - s.r.y).toNat]? = some (lnG ⟨c1.toArray⟩) := by
              rw [← HE.out.2.2.1, show (((y + j : Nat) : Int) - ry).toNat = i by omega]
              exact HK.out.2.1
            have := wt_next L (y := y) (j := j) hx (by rw [← HE.out.2.1]; omega) (by rw [← HE.out.2.2.1]; omega) hG
            rw [e2, ← this]
            rw [HMd.out, e1, ho, p1, p3] at h5
            exact h5
          clear h5 h6 H2
          go_wp2
          go_roundw
          case rel =>
            exact ⟨i + 1, f', ⟨c2.toArray⟩, c3, rfl, rfl, by have := HP.out.2.2.2.1; congr 1; omega, HK.out.2.2.1, HK.out.2.2.2, HK.out.1, HX⟩
          case measure => have := HP.out.2.2.2.1; simp [intOf]; omega
      · have HX : Hid (DwM w lo g n cap a0 b0 x0 y m hh s (updQ L a0 x0 y m (cntW y hh ry (i + 1)) (wtF Ls s a0)) w1) := by
          have e : cntW y hh ry (i + 1) = cntW y hh ry i := by unfold cntW; omega
          rw [e]
          exact H1.out
        clear H1
        go_wp2
        go_roundw
        case rel => exact ⟨i + 1, f', ⟨c2.toArray⟩, c3, rfl, rfl, by congr 1; omega, HK.out.2.2.1, HK.out.2.2.2, HK.out.1, HX⟩
        case measure => simp [intOf]; omega
    · have HF : Hid (ScM lo wr g n cap (updQ L a0 x0 y m hh (wtF Ls s a0)) ∧ w.grownBy wr (some g)) := by
        refine ⟨?_, HR.out.d⟩
        have q := HR.out.c
        cases mo with
        | true =>
          have hge : ¬ ry + (i : Int) < (y : Int) + hh := fun h => hgo ⟨rfl, h⟩
          have : cntW y hh ry i = hh := by unfold cntW; omega
          rw [this] at q
          exact q
        | false =>
          have h0 := hk 0
          rw [if_neg (by simp), Nat.add_zero] at h0
          have hlen : Ls.length ≤ i := by rw [HLS.out, List.length_map]; exact List.getElem?_eq_none_iff.1 h0
          have hcy : cntW y hh ry i = min hh (ry + i - y).toNat := rfl
          by_cases hch : cntW y hh ry i = hh
          · rw [hch] at q
            exact q
          · rw [wt_end L (h := hh) (by omega) (by rw [← HE.out.2.2.1]; omega)] at q
            exact q
      clear HR hk
      cases mo
      · go_wp2
        go_end0
        exact ⟨rfl, HF.out⟩
      · have hge : ¬ ry + (i : Int) < (y : Int) + hh := fun h => hgo ⟨rfl, h⟩
        clear hgo
        go_wp2
        go_end0
        exact ⟨rfl, HF.out⟩

end Go.Proofs.YtapachlhdgehjaaGreatDoor
