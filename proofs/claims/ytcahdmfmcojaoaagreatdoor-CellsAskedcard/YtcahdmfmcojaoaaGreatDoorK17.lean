/-
  Texts of this claim, one behind the other: what each is about stands ahead of it.
-/
import Derived.Test.YtcahdmfmcojaoaaGreatDoorK16
import Derived.Test.YtcahdmfmcojaoaaGreatDoorK14
import Derived.Shelf.LaysM
import Derived.Shelf.Unicode.DecodeAny
import Derived.Shelf.Strings.BuilderRune
import Derived.Shelf.Utf8.AppendRune
import Derived.Shelf.Strconv.Itoa3
import Derived.Test.YtcahdmfmcojaoaaGreatDoorProg
import Derived.Test.YtcahdmfmcojaoaaGreatDoorK0
import Derived.Lib.RuneBytes
/-
  Package cells: draw (a stroke in the area in which it shows), what is asked of drawFrame.
-/
namespace Go.Proofs.YtcahdmfmcojaoaaGreatDoor
open Go.RowKit

def frmF (s : St) (a k : Nat) (c : Ce) : Ce := if frmR s.r (k % a : Nat) (k / a : Nat) ≠ 0 ∧ 0 < s.c.a then ⟨frmR s.r (k % a : Nat) (k / a : Nat), overC s.c c.b, c.b, false, false⟩ else c
def LFrm : Prop := ∀ (lo g n cap a b x y m hh : Nat) (L : List Ce) (s : St) (w : World), ScM lo w g n cap L → szB a b = true → (n : Int) = a * b → 0 < m → x + m ≤ a → y + hh ≤ b → s.c.ok → WfC L → zMa s.r = true → s.r.x ≤ x → s.r.y ≤ y → (x : Int) + m ≤ s.r.x + s.r.w → (y : Int) + hh ≤ s.r.y + s.r.h →
  (∀ W, w.grownBy W (some g) → (∀ i j : Nat, i < 4 → j < 4 → W.cell? ⟨0, i * 4 + j, none⟩ = some (.int .i32 (([0, 9474, 9474, 9474, 9472, 9484, 9488, 9474, 9472, 9492, 9496, 9474, 9472, 9472, 9472, 9633] : List Int).getD (i * 4 + j) 0)))) →
  Calls Tryz.prog 73 #[.agg #[.int .i64 (a : Nat), .int .i64 (b : Nat), .slice (some ⟨g, 0, none⟩) n cap], (Value.agg #[.int .u8 s.k, .int .i64 s.r.x, .int .i64 s.r.y, .int .i64 s.r.w, .int .i64 s.r.h, .int .u8 s.c.r, .int .u8 s.c.g, .int .u8 s.c.b, .int .u8 s.c.a, .int .u8 s.b.r, .int .u8 s.b.g, .int .u8 s.b.b, .int .u8 s.b.a, .string s.t, .int .i64 s.n]), .agg #[.int .i64 (x : Nat), .int .i64 (y : Nat), .int .i64 (m : Nat), .int .i64 (hh : Nat)]] w fun e w' => e = .returned (.tuple #[]) ∧ ScM lo w' g n cap (updQ L a x y m hh (frmF s a)) ∧ w.grownBy w' (some g)
def madK (s : St) (a k : Nat) (c : Ce) : Ce := madC wrP overC (k % a : Nat) (k / a : Nat) c s
theorem madK_fill {s : St} (h : s.k = 1) (L : List Ce) (a x y m hh : Nat) : updQ L a x y m hh (madK s a) = if s.c.a = 0 then L else updQ L a x y m hh (filC s.c) := by
  split
  · next h0 =>
    have e := updQ_congr (L := L) (a := a) (x := x) (y := y) (m := m) (j := hh) (f := madK s a) (f' := fun _ c => c) (fun k c _ _ _ _ => by unfold madK madC; rw [if_pos h, if_pos h0])
    rw [e]
    apply List.ext_getElem (updQ_len _ _ _ _ _ _ _)
    intro k h1 h2
    simp [updQ]
  · next h0 =>
    refine updQ_congr fun k c _ _ _ _ => ?_
    unfold madK madC filC
    rw [if_pos h, if_neg h0]
    by_cases h2 : s.c.a = 255
    · rw [if_pos h2, if_pos h2]
    · rw [if_neg h2, if_neg h2]
      rfl
theorem madK_frame {s : St} (h : s.k = 2) (L : List Ce) (a x y m hh : Nat) : updQ L a x y m hh (madK s a) = updQ L a x y m hh (frmF s a) := by
  refine updQ_congr fun k c _ _ _ _ => ?_
  unfold madK madC frmF
  rw [if_neg (by omega), if_pos h]
theorem madK_write {s : St} (h : s.k = 3) (L : List Ce) (a x y m hh : Nat) : updQ L a x y m hh (madK s a) = updQ L a x y m hh (wtF (wrP s.t) s a) := by
  refine updQ_congr fun k c _ _ _ _ => ?_
  unfold madK madC wtF wrtG
  rw [if_neg (by omega), if_neg (by omega), if_pos h]
  rfl

end Go.Proofs.YtcahdmfmcojaoaaGreatDoor

/-
  Package cells: draw.
-/
namespace Go.Proofs.YtcahdmfmcojaoaaGreatDoor
open Go.RowKit

def TbD (W : World) : Prop := Tabs W ∧ (∃ mm, W.cell? ⟨5, 0, none⟩ = some (.int .i64 mm)) ∧ ∀ i j : Nat, i < 4 → j < 4 → W.cell? ⟨0, i * 4 + j, none⟩ = some (.int .i32 (([0, 9474, 9474, 9474, 9472, 9484, 9488, 9474, 9472, 9492, 9496, 9474, 9472, 9472, 9472, 9633] : List Int).getD (i * 4 + j) 0))

set_option maxRecDepth 20000 in
set_option maxHeartbeats 4000000 in
theorem draw_any (FR : LFrm) (lo g n cap a b x y m hh : Nat) (L : List Ce) (s : St) (w : World) (h : ScM lo w g n cap L) (hs : szB a b = true) (hN : (n : Int) = a * b) (hm : 0 < m) (hx : x + m ≤ a) (hy : y + hh ≤ b) (hc : s.c.ok ∧ s.b.ok) (hL : WfC L) (hr : zMa s.r = true) (hrx : s.r.x ≤ x) (hry : s.r.y ≤ y) (hrw : (x : Int) + m ≤ s.r.x + s.r.w) (hrh : (y : Int) + hh ≤ s.r.y + s.r.h) (hk : s.k = 1 ∨ s.k = 2 ∨ s.k = 3) (ht : s.t.size ≤ 100000) (HT : ∀ W, w.grownBy W (some g) → TbD W) :
    Calls Tryz.prog 40 #[.agg #[.int .i64 (a : Nat), .int .i64 (b : Nat), .slice (some ⟨g, 0, none⟩) n cap], (Value.agg #[.int .u8 s.k, .int .i64 s.r.x, .int .i64 s.r.y, .int .i64 s.r.w, .int .i64 s.r.h, .int .u8 s.c.r, .int .u8 s.c.g, .int .u8 s.c.b, .int .u8 s.c.a, .int .u8 s.b.r, .int .u8 s.b.g, .int .u8 s.b.b, .int .u8 s.b.a, .string s.t, .int .i64 s.n]), .agg #[.int .i64 (x : Nat), .int .i64 (y : Nat), .int .i64 (m : Nat), .int .i64 (hh : Nat)]] w fun e w' => e = .returned (.tuple #[]) ∧ ScM lo w' g n cap (updQ L a x y m hh (madK s a)) ∧ w.grownBy w' (some g) := by
  have hbd : -16384 ≤ s.r.x ∧ -16384 ≤ s.r.y := by
    obtain ⟨f1, f2, f3, f4, f5, f6, f7, f8⟩ := may_bd hr
    omega
  obtain ⟨V, hV⟩ : ∃ V, V = ((w.alloc (.cells #[.int .i64 (a : Nat), .int .i64 (b : Nat), .slice (some ⟨g, 0, none⟩) n cap] 26)).alloc (.cells (#[.int .u8 s.k, .int .i64 s.r.x, .int .i64 s.r.y, .int .i64 s.r.w, .int .i64 s.r.h, .int .u8 s.c.r, .int .u8 s.c.g, .int .u8 s.c.b, .int .u8 s.c.a, .int .u8 s.b.r, .int .u8 s.b.g, .int .u8 s.b.b, .int .u8 s.b.a, .string s.t, .int .i64 s.n]) 59)).alloc (.cells #[.int .i64 (x : Nat), .int .i64 (y : Nat), .int .i64 (m : Nat), .int .i64 (hh : Nat)] 56) := ⟨_, rfl⟩
  have hb : Below w.heap.size w V := by rw [hV]; exact (((Below.refl _ w).alloc (Nat.le_refl _) _).alloc (by simp) _).alloc (by simp; omega) _
  have hgr : w.grownBy V (some g) := ⟨hb.os, hb.tape, hb.output, hb.size, fun b hb' _ => hb.block b hb'⟩
  have hSc := h.below hb
  have HD : Hid (∀ f, (f = 72 ∧ s.k = 1) ∨ (f = 73 ∧ s.k = 2) ∨ (f = 74 ∧ s.k = 3) → Calls Tryz.prog f #[.agg #[.int .i64 (a : Nat), .int .i64 (b : Nat), .slice (some ⟨g, 0, none⟩) n cap], (Value.agg #[.int .u8 s.k, .int .i64 s.r.x, .int .i64 s.r.y, .int .i64 s.r.w, .int .i64 s.r.h, .int .u8 s.c.r, .int .u8 s.c.g, .int .u8 s.c.b, .int .u8 s.c.a, .int .u8 s.b.r, .int .u8 s.b.g, .int .u8 s.b.b, .int .u8 s.b.a, .string s.t, .int .i64 s.n]), .agg #[.int .i64 (x : Nat), .int .i64 (y : Nat), .int .i64 (m : Nat), .int .i64 (hh : Nat)]] V fun e w' => e = .returned (.tuple #[]) ∧ ScM lo w' g n cap (updQ L a x y m hh (madK s a)) ∧ w.grownBy w' (some g)) := fun f hf => by
    rcases hf with ⟨rfl, k⟩ | ⟨rfl, k⟩ | ⟨rfl, k⟩
    · refine (fillD_any lo g n cap a b x y m hh L s V hSc hs hN hm hx hy hc.1 hL).mono ?_
      rintro e w' ⟨rfl, q1, q2⟩
      exact ⟨rfl, by rw [madK_fill k]; exact q1, ob_transC hgr q2⟩
    · refine (FR lo g n cap a b x y m hh L s V hSc hs hN hm hx hy hc.1 hL hr hrx hry hrw hrh (fun W hW => (HT W (ob_transC hgr hW)).2.2)).mono ?_
      rintro e w' ⟨rfl, q1, q2⟩
      exact ⟨rfl, by rw [madK_frame k]; exact q1, ob_transC hgr q2⟩
    · refine (writeD_any lo g n cap a b x y m hh L s V hSc hs hN hm hx hy hc hL ⟨hbd.1, hrx⟩ ⟨hbd.2, hry⟩ ht (fun W hW => ⟨(HT W (ob_transC hgr hW)).1, (HT W (ob_transC hgr hW)).2.1⟩)).mono ?_
      rintro e w' ⟨rfl, q1, q2⟩
      exact ⟨rfl, by rw [madK_write k]; exact q1, ob_transC hgr q2⟩
  rw [hV] at HD
  clear hSc hgr hb hV h hc hL hr HT FR hbd
  rcases hk with k | k | k
  · have h1 : (s.k == 1) = true := by simp [k]
    have HC := HD.out _ (.inl ⟨rfl, k⟩)
    clear k HD
    go_enter Tryz.func40, Tryz.ntmps40
    go_wp2_with fail
    refine HC.mono ?_
    rintro e w' ⟨rfl, q1, q2⟩
    have HQ : Hid (ScM lo w' g n cap (updQ L a x y m hh (madK s a)) ∧ w.grownBy w' (some g)) := ⟨q1, q2⟩
    clear q1 q2 HC
    go_wp2
    go_end0
    exact ⟨rfl, HQ.out⟩
  · have h1 : (s.k == 1) = false := by simp [k]
    have h2 : (s.k == 2) = true := by simp [k]
    have HC := HD.out _ (.inr (.inl ⟨rfl, k⟩))
    clear k HD
    go_enter Tryz.func40, Tryz.ntmps40
    go_wp2_with fail
    refine HC.mono ?_
    rintro e w' ⟨rfl, q1, q2⟩
    have HQ : Hid (ScM lo w' g n cap (updQ L a x y m hh (madK s a)) ∧ w.grownBy w' (some g)) := ⟨q1, q2⟩
    clear q1 q2 HC
    go_wp2
    go_end0
    exact ⟨rfl, HQ.out⟩
  · have h1 : (s.k == 1) = false := by simp [k]
    have h2 : (s.k == 2) = false := by simp [k]
    have h3 : (s.k == 3) = true := by simp [k]
    have HC := HD.out _ (.inr (.inr ⟨rfl, k⟩))
    clear k HD
    go_enter Tryz.func40, Tryz.ntmps40
    go_wp2_with fail
    refine HC.mono ?_
    rintro e w' ⟨rfl, q1, q2⟩
    have HQ : Hid (ScM lo w' g n cap (updQ L a x y m hh (madK s a)) ∧ w.grownBy w' (some g)) := ⟨q1, q2⟩
    clear q1 q2 HC
    go_wp2
    go_end0
    exact ⟨rfl, HQ.out⟩

end Go.Proofs.YtcahdmfmcojaoaaGreatDoor

/-
  DERIVED: THE SHELF's CONTRACTS AT THIS DUMP, IN PLAIN WORDS (tools/lay-plain.mjs out of 'YtcahdmfmcojaoaaGreatDoorDS.lean', which tools/lay-shelf.mjs wrote): THE SAME DECLARATIONS UNDER THE SAME NAMES: 'import', 'namespace', 'open', 'def', 'theorem' AND NOTHING ELSE: no command of the shelf's: FOR A HAND-IN. Each laying: the table of numbers ('.._ren') and one theorem, a field a fact of the dump's own or the kernel's comparison; each contract: ONE APPLICATION.
-/
namespace Go.Proofs
open Go.Shelf
def Tryz.lays197_ren : Go.Shelf.Ren := ⟨fun | 197 => 129 | 260 => 156 | n => n, fun | 9 => 9 | 21 => 21 | 3 => 3 | 4 => 4 | 5 => 5 | 105 => 195 | 119 => 238 | 0 => 0 | 46 => 119 | 139 => 241 | 138 => 240 | n => n, fun | 3 => 1 | 4 => 2 | n => n⟩
theorem Tryz.lays197 : Go.Proofs.Lays.n197 Tryz.prog Tryz.lays197_ren := {
  mixed := by kernel_rfl
  f197 := Tryz.func129.trans (congrArg some (by kernel_rfl))
  f260 := Tryz.func156.trans (congrArg some (by kernel_rfl))
  t0 := Tryz.underlying0
  a0 := Tryz.isAgg0
  z0 := Tryz.sizeOf0
  v0 := Tryz.zeroValue0
  t3 := Tryz.underlying3
  a3 := Tryz.isAgg3
  z3 := Tryz.sizeOf3
  v3 := Tryz.zeroValue3
  t4 := Tryz.underlying4
  a4 := Tryz.isAgg4
  z4 := Tryz.sizeOf4
  v4 := Tryz.zeroValue4
  t5 := Tryz.underlying5
  a5 := Tryz.isAgg5
  z5 := Tryz.sizeOf5
  v5 := Tryz.zeroValue5
  t9 := Tryz.underlying9
  a9 := Tryz.isAgg9
  z9 := Tryz.sizeOf9
  v9 := Tryz.zeroValue9
  t21 := Tryz.underlying21
  a21 := Tryz.isAgg21
  z21 := Tryz.sizeOf21
  v21 := Tryz.zeroValue21
  t46 := Tryz.underlying119
  a46 := Tryz.isAgg119
  z46 := Tryz.sizeOf119
  v46 := Tryz.zeroValue119
  t105 := Tryz.underlying195
  a105 := Tryz.isAgg195
  z105 := Tryz.sizeOf195
  v105 := Tryz.zeroValue195
  t119 := Tryz.underlying238
  a119 := Tryz.isAgg238
  z119 := Tryz.sizeOf238
  t138 := Tryz.underlying240
  a138 := Tryz.isAgg240
  z138 := Tryz.sizeOf240
  v138 := Tryz.zeroValue240
  t139 := Tryz.underlying241
  a139 := Tryz.isAgg241
  z139 := Tryz.sizeOf241
  v139 := Tryz.zeroValue241
  g3 := by kernel_rfl
  g4 := by kernel_rfl }
def Tryz.lays242_ren : Go.Shelf.Ren := ⟨fun | 242 => 99 | 278 => 137 | n => n, fun | 37 => 72 | 21 => 21 | 51 => 158 | 4 => 4 | 5 => 5 | 46 => 119 | n => n, fun | n => n⟩
theorem Tryz.lays242 : Go.Proofs.Lays.n242 Tryz.prog Tryz.lays242_ren := {
  mixed := by kernel_rfl
  f242 := Tryz.func99.trans (congrArg some (by kernel_rfl))
  f278 := Tryz.func137.trans (congrArg some (by kernel_rfl))
  t4 := Tryz.underlying4
  a4 := Tryz.isAgg4
  z4 := Tryz.sizeOf4
  v4 := Tryz.zeroValue4
  t5 := Tryz.underlying5
  a5 := Tryz.isAgg5
  z5 := Tryz.sizeOf5
  v5 := Tryz.zeroValue5
  t21 := Tryz.underlying21
  a21 := Tryz.isAgg21
  z21 := Tryz.sizeOf21
  v21 := Tryz.zeroValue21
  t37 := Tryz.underlying72
  a37 := Tryz.isAgg72
  z37 := Tryz.sizeOf72
  v37 := Tryz.zeroValue72
  t46 := Tryz.underlying119
  a46 := Tryz.isAgg119
  z46 := Tryz.sizeOf119
  v46 := Tryz.zeroValue119
  t51 := Tryz.underlying158
  a51 := Tryz.isAgg158
  z51 := Tryz.sizeOf158
  v51 := Tryz.zeroValue158 }
def Tryz.laysM171_ren : Go.Shelf.Ren := ⟨fun | 171 => 125 | 243 => 151 | 246 => 176 | 283 => 196 | 284 => 197 | 285 => 198 | 286 => 199 | 129 => 175 | 317 => 206 | 318 => 207 | 319 => 208 | 320 => 209 | 337 => 211 | 338 => 212 | n => n, fun | 3 => 3 | 9 => 9 | 2 => 2 | 4 => 4 | 171 => 258 | 0 => 0 | 53 => 161 | 37 => 72 | 5 => 5 | 173 => 260 | 212 => 268 | 51 => 158 | 20 => 20 | 213 => 269 | 46 => 119 | 232 => 271 | 233 => 272 | n => n, fun | 17 => 6 | 18 => 7 | 19 => 8 | n => n⟩
theorem Tryz.laysM171 : Go.Proofs.LaysM.n171 Tryz.prog Tryz.laysM171_ren := {
  mixed := by kernel_rfl
  f129 := Tryz.func175.trans (congrArg some (by kernel_rfl))
  f171 := Tryz.func125.trans (congrArg some (by kernel_rfl))
  f243 := Tryz.func151.trans (congrArg some (by kernel_rfl))
  f246 := Tryz.func176.trans (congrArg some (by kernel_rfl))
  f283 := Tryz.func196.trans (congrArg some (by kernel_rfl))
  f284 := Tryz.func197.trans (congrArg some (by kernel_rfl))
  f285 := Tryz.func198.trans (congrArg some (by kernel_rfl))
  f286 := Tryz.func199.trans (congrArg some (by kernel_rfl))
  f317 := Tryz.func206.trans (congrArg some (by kernel_rfl))
  f318 := Tryz.func207.trans (congrArg some (by kernel_rfl))
  f319 := Tryz.func208.trans (congrArg some (by kernel_rfl))
  f320 := Tryz.func209.trans (congrArg some (by kernel_rfl))
  f337 := Tryz.func211.trans (congrArg some (by kernel_rfl))
  f338 := Tryz.func212.trans (congrArg some (by kernel_rfl))
  t0 := Tryz.underlying0
  a0 := Tryz.isAgg0
  z0 := Tryz.sizeOf0
  v0 := Tryz.zeroValue0
  t2 := Tryz.underlying2
  a2 := Tryz.isAgg2
  z2 := Tryz.sizeOf2
  v2 := Tryz.zeroValue2
  t3 := Tryz.underlying3
  a3 := Tryz.isAgg3
  z3 := Tryz.sizeOf3
  v3 := Tryz.zeroValue3
  t4 := Tryz.underlying4
  a4 := Tryz.isAgg4
  z4 := Tryz.sizeOf4
  v4 := Tryz.zeroValue4
  t5 := Tryz.underlying5
  a5 := Tryz.isAgg5
  z5 := Tryz.sizeOf5
  v5 := Tryz.zeroValue5
  t9 := Tryz.underlying9
  a9 := Tryz.isAgg9
  z9 := Tryz.sizeOf9
  v9 := Tryz.zeroValue9
  t20 := Tryz.underlying20
  a20 := Tryz.isAgg20
  z20 := Tryz.sizeOf20
  v20 := Tryz.zeroValue20
  t37 := Tryz.underlying72
  a37 := Tryz.isAgg72
  z37 := Tryz.sizeOf72
  v37 := Tryz.zeroValue72
  t46 := Tryz.underlying119
  a46 := Tryz.isAgg119
  z46 := Tryz.sizeOf119
  v46 := Tryz.zeroValue119
  t51 := Tryz.underlying158
  a51 := Tryz.isAgg158
  z51 := Tryz.sizeOf158
  v51 := Tryz.zeroValue158
  t53 := Tryz.underlying161
  a53 := Tryz.isAgg161
  z53 := Tryz.sizeOf161
  v53 := Tryz.zeroValue161
  t171 := Tryz.underlying258
  a171 := Tryz.isAgg258
  z171 := Tryz.sizeOf258
  v171 := Tryz.zeroValue258
  t173 := Tryz.underlying260
  a173 := Tryz.isAgg260
  z173 := Tryz.sizeOf260
  v173 := Tryz.zeroValue260
  t212 := Tryz.underlying268
  a212 := Tryz.isAgg268
  z212 := Tryz.sizeOf268
  v212 := Tryz.zeroValue268
  t213 := Tryz.underlying269
  a213 := Tryz.isAgg269
  z213 := Tryz.sizeOf269
  t232 := Tryz.underlying271
  a232 := Tryz.isAgg271
  z232 := Tryz.sizeOf271
  v232 := Tryz.zeroValue271
  t233 := Tryz.underlying272
  a233 := Tryz.isAgg272
  z233 := Tryz.sizeOf272
  v233 := Tryz.zeroValue272
  g17 := by kernel_rfl
  g18 := by kernel_rfl
  g19 := by kernel_rfl
  i0 := by kernel_rfl
  i2 := by kernel_rfl
  i3 := by kernel_rfl
  i4 := by kernel_rfl
  i5 := by kernel_rfl
  i9 := by kernel_rfl
  i20 := by kernel_rfl
  i37 := by kernel_rfl
  i46 := by kernel_rfl
  i51 := by kernel_rfl
  i53 := by kernel_rfl
  i171 := by kernel_rfl
  i173 := by kernel_rfl
  i212 := by kernel_rfl
  i232 := by kernel_rfl
  i233 := by kernel_rfl
  m17 := by kernel_rfl
  m18 := by kernel_rfl
  m19 := by kernel_rfl }
end Go.Proofs

/-
  A Builder at the head of a block of whatever type: copyCheck, WriteByte, WriteString, WriteRune, Len, String.
-/
namespace Go.Proofs.YtcahdmfmcojaoaaGreatDoor
open Go.RowKit Go.Shelf Go.Lib

theorem dsizeB : (Tryz.prog.info? 74).map (·.size) = some 2 := by kernel_rfl
theorem dinfoB : (Tryz.prog.info? 5).map (fun i => (i.zero, i.size, i.bytes)) = some (some (.int .u8 0), 1, 1) := by kernel_rfl

structure TyH (T : TypeId) (n : Nat) : Prop where
  two : 2 ≤ n
  lies : liesAt Tryz.prog Tryz.prog.depth T (n / Tryz.prog.cellsOf T) 0 74 1 = true
  ne : T ≠ 5
def BdF (T : TypeId) (rs : List Value) (B b : Nat) (p : Value) (bs : List Value) (w : World) : Prop :=
  B ≤ b ∧ ∃ v, w.heap[b]? = some (.cells (p :: v :: rs).toArray T (0, 0)) ∧ w.ownsRowF B 5 1 v bs.length bs ∧ v.ownBlock ≠ some b
def IsBd (T : TypeId) (rs : List Value) (B b : Nat) (bs : List Value) (w : World) : Prop :=
  BdF T rs B b (.pointer none) bs w ∨ BdF T rs B b (.pointer (some ⟨b, 0, none⟩)) bs w
theorem BdF.cell0 {T : TypeId} {rs : List Value} {B b : Nat} {p : Value} {bs : List Value} {w : World} (h : BdF T rs B b p bs w) : w.cell? ⟨b, 0, none⟩ = some p := by
  obtain ⟨_, v, hb, _⟩ := h
  rw [Lib.cell_of_heap hb]; rfl
theorem BdF.shape {T : TypeId} {rs : List Value} {B b : Nat} {p : Value} {bs : List Value} {w : World} (h : BdF T rs B b p bs w) : w.shape? b = some (T, rs.length + 2) := by
  obtain ⟨_, v, hb, _⟩ := h
  simp [World.shape?, hb]
theorem BdF.frozen0 {T : TypeId} {rs : List Value} {B b : Nat} {p : Value} {bs : List Value} {w : World} (h : BdF T rs B b p bs w) : w.frozen? ⟨b, 0, none⟩ = false := by
  obtain ⟨_, v, hb, _⟩ := h
  exact Lib.frozen_of_heap hb 0
theorem BdF.lt {T : TypeId} {rs : List Value} {B b : Nat} {p : Value} {bs : List Value} {w : World} (h : BdF T rs B b p bs w) : b < w.heap.size := by
  obtain ⟨_, v, hb, _⟩ := h
  exact (Array.getElem?_eq_some_iff.1 hb).1
theorem own_setF {B b o : Nat} {v : Value} {n : Nat} {xs : List Value} {w : World} (h : w.ownsRowF B 5 1 v n xs) (hne : v.ownBlock ≠ some b) (q : Value) : (w.setCell ⟨b, o, none⟩ q).ownsRowF B 5 1 v n xs :=
  h.kept (row := some b) ⟨rfl, rfl, rfl, by simp [World.setCell], fun k _ hk => Below.heap_setCell _ _ _ _ (fun e => hk (by simp [e]))⟩ (Or.inr hne)
theorem BdF.used {T : TypeId} {rs : List Value} {B b : Nat} {p : Value} {bs : List Value} {w : World} (h : BdF T rs B b p bs w) (q : Value) : BdF T rs B b q bs (w.setCell ⟨b, 0, none⟩ q) := by
  obtain ⟨hB, v, hb, hown, hne⟩ := h
  refine ⟨hB, v, ?_, own_setF hown hne q, hne⟩
  simp [World.setCell, Array.getElem?_modify, hb]
theorem BdF.put {T : TypeId} {rs : List Value} {B b : Nat} {p v v' : Value} {bs' : List Value} {w : World} (hB : B ≤ b) (hb : w.heap[b]? = some (.cells (p :: v :: rs).toArray T (0, 0))) (hown : w.ownsRowF B 5 1 v' bs'.length bs') (hT : T ≠ 5) :
    BdF T rs B b p bs' (w.setCell ⟨b, 1, none⟩ v') := by
  have hne := Lib.ownBlock_neF hown hb hT
  refine ⟨hB, v', ?_, own_setF hown hne v', hne⟩
  simp [World.setCell, Array.getElem?_modify, hb]
theorem BdF.below {T : TypeId} {rs : List Value} {B b : Nat} {p : Value} {bs : List Value} {w w' : World} (h : BdF T rs B b p bs w) (hb : Below w.heap.size w w') : BdF T rs B b p bs w' := by
  have hl := h.lt
  obtain ⟨hB, v, hk, hown, hne⟩ := h
  refine ⟨hB, v, (hb.block b hl).trans hk, ?_, hne⟩
  rcases hown.2 with ⟨e, e0⟩ | ⟨g, cap, cur, fz, e, hg, hgg, r⟩
  · exact ⟨hown.1, .inl ⟨e, e0⟩⟩
  · exact ⟨hown.1, .inr ⟨g, cap, cur, fz, e, hg, (hb.block g (Array.getElem?_eq_some_iff.1 hgg).1).trans hgg, r⟩⟩
theorem IsBd.below {T : TypeId} {rs : List Value} {B b : Nat} {bs : List Value} {w w' : World} (h : IsBd T rs B b bs w) (hb : Below w.heap.size w w') : IsBd T rs B b bs w' := h.elim (fun x => .inl (x.below hb)) (fun x => .inr (x.below hb))
theorem IsBd.lt {T : TypeId} {rs : List Value} {B b : Nat} {bs : List Value} {w : World} (h : IsBd T rs B b bs w) : B ≤ b ∧ b < w.heap.size := h.elim (fun x => ⟨x.1, x.lt⟩) (fun x => ⟨x.1, x.lt⟩)

structure KpD (B b : Nat) (w w' : World) : Prop where
  bw : Below B w w'
  k : Lib.OthersKept 5 (some b) w w'
theorem KpD.refl (B b : Nat) (w : World) : KpD B b w w := ⟨Below.refl _ _, Lib.OthersKept.refl _ _ _⟩
theorem KpD.trans {B b : Nat} {a c d : World} (h : KpD B b a c) (k : KpD B b c d) : KpD B b a d := ⟨h.bw.trans k.bw, h.k.trans k.k⟩
theorem KpD.of_below {B b : Nat} {w w' : World} (hB : B ≤ w.heap.size) (h : Below w.heap.size w w') : KpD B b w w' :=
  ⟨h.mono hB, fun k o hk _ _ => by rw [h.block k (Array.getElem?_eq_some_iff.1 hk).1]; exact hk⟩
theorem KpD.cell {B b : Nat} {w w' : World} (h : KpD B b w w') {g : Nat} {cs : Array Value} {t : TypeId} {fz : Nat × Nat} (hg : w.heap[g]? = some (.cells cs t fz)) (hne : g ≠ b) (ht : t ≠ 5) : w'.heap[g]? = some (.cells cs t fz) :=
  h.k g _ hg (by simpa using hne) (fun c fz e => by injection e with _ e; exact ht e)

set_option maxHeartbeats 1000000 in
set_option maxRecDepth 100000 in
theorem dcc_used (b : Nat) (w : World) (h0 : w.cell? ⟨b, 0, none⟩ = some (.pointer (some ⟨b, 0, none⟩))) :
    Calls Tryz.prog 65 #[.pointer (some ⟨b, 0, none⟩)] w fun e w' => e = .returned (.tuple #[]) ∧ w' = w := by
  obtain ⟨j, hj, _⟩ := Option.map_eq_some_iff.1 dsizeB
  go_enter Tryz.func65, Tryz.ntmps65
  go_wp2
  rw [Lib.run_neq_ptr_same w _ Tryz.underlying71 hj]
  go_wp2
  go_end0
  exact ⟨rfl, rfl⟩

set_option maxHeartbeats 1000000 in
set_option maxRecDepth 100000 in
theorem dcc_fresh (T : TypeId) (n b : Nat) (w : World) (H : TyH T n) (h0 : w.cell? ⟨b, 0, none⟩ = some (.pointer none)) (hsh : w.shape? b = some (T, n)) (hfz : w.frozen? ⟨b, 0, none⟩ = false) :
    Calls Tryz.prog 65 #[.pointer (some ⟨b, 0, none⟩)] w fun e w' => e = .returned (.tuple #[]) ∧ w' = w.setCell ⟨b, 0, none⟩ (.pointer (some ⟨b, 0, none⟩)) := by
  obtain ⟨j, hj, hjs⟩ := Option.map_eq_some_iff.1 dsizeB
  have hn : 0 < n := Nat.lt_of_lt_of_le (by decide) H.two
  go_enter Tryz.func65, Tryz.ntmps65
  go_wp2
  rw [Lib.run_to_unsafe w ⟨b, 0, none⟩ Tryz.underlying71 Tryz.underlying156 hj (by rw [hjs]; decide) hsh hn]
  simp only [Result.andThen]
  rw [Oper.upon_value]
  go_wp2
  rw [run_callFunc_extern Tryz.func100 (by kernel_rfl) (by kernel_rfl) (by kernel_rfl) (e := Extern.AbiNoEscape.same) (by kernel_rfl)]
  rw [Lib.run_noEscape]
  simp only [Result.andThen]
  rw [Oper.upon_value]
  go_wp2
  rw [Lib.run_from_unsafe w ⟨b, 0, none⟩ Tryz.underlying156 Tryz.underlying71 hj hsh H.lies]
  simp only [Result.andThen]
  rw [Oper.upon_value]
  go_wp2
  go_end0
  exact ⟨rfl, rfl⟩

theorem dcc_any (T : TypeId) (rs : List Value) (B b : Nat) (bs : List Value) (w : World) (H : TyH T (rs.length + 2)) (h : IsBd T rs B b bs w) :
    Calls Tryz.prog 65 #[.pointer (some ⟨b, 0, none⟩)] w fun e w' => e = .returned (.tuple #[]) ∧ BdF T rs B b (.pointer (some ⟨b, 0, none⟩)) bs w' ∧ KpD B b w w' := by
  rcases h with h | h
  · refine (dcc_fresh T _ b w H h.cell0 h.shape h.frozen0).mono fun e w' ⟨h1, h2⟩ => ?_
    subst h1 h2
    exact ⟨rfl, h.used _, (Below.refl B w).setCell (p := ⟨b, 0, none⟩) h.1 _, (Lib.OthersKept.refl _ _ w).setCell ⟨b, 0, none⟩ rfl _⟩
  · refine (dcc_used b w h.cell0).mono fun e w' ⟨h1, h2⟩ => ?_
    subst h1 h2
    exact ⟨rfl, h, KpD.refl _ _ _⟩

set_option maxHeartbeats 2000000 in
set_option maxRecDepth 100000 in
theorem dWriteRune_any (T : TypeId) (rs : List Value) (B b : Nat) (bs : List Value) (r : Int) (hr0 : -2147483648 ≤ r) (hr1 : r ≤ 2147483647) (w : World) (H : TyH T (rs.length + 2)) (h : IsBd T rs B b bs w) (hlen : bs.length + 4 ≤ 140737488355328) (hBw : B ≤ w.heap.size) :
    Calls Tryz.prog 64 #[.pointer (some ⟨b, 0, none⟩), .int .i32 r] w fun e w' => (∃ v, e = .returned v) ∧ BdF T rs B b (.pointer (some ⟨b, 0, none⟩)) (bs ++ Lib.runeCells r) w' ∧ KpD B b w w' := by
  have hk4 := Lib.runeCells_le r
  have hT := H.ne
  go_enter Tryz.func64, Tryz.ntmps64
  go_wp2_with fail
  refine (dcc_any T rs B b bs _ H h).mono ?_
  rintro e w1 ⟨rfl, h1, hk1⟩
  obtain ⟨hB, v, hbk, hown, hne⟩ := h1
  obtain ⟨ao, cap, rfl⟩ : ∃ ao cap, v = .slice ao bs.length cap := by
    rcases hown.2 with ⟨hv, h0⟩ | ⟨g, cap, cur, fz, hv, _⟩
    · exact ⟨none, 0, by rw [hv, h0]⟩
    · exact ⟨_, _, hv⟩
  have c0 : w1.cell? ⟨b, 0, none⟩ = some (.pointer (some ⟨b, 0, none⟩)) := by rw [Lib.cell_of_heap hbk]; rfl
  have c1 : w1.cell? ⟨b, 1, none⟩ = some (.slice ao bs.length cap) := by rw [Lib.cell_of_heap hbk]; rfl
  have hs1 := hk1.bw.size
  have HK1 : Hid (KpD B b w w1) := hk1
  clear hk1 H h
  go_wp2_with fail
  refine (Any.utf8_AppendRune_row Tryz.lays242 dinfoB B _ bs.length bs r hr0 hr1 _ hown hlen (by omega)).mono ?_
  rintro e w2 ⟨v', rfl, hown', o, hgrow⟩
  have hlt : b < w1.heap.size := (Array.getElem?_eq_some_iff.1 hbk).1
  have hb2 : w2.heap[b]? = some (.cells (.pointer (some ⟨b, 0, none⟩) :: .slice ao bs.length cap :: rs).toArray T (0, 0)) :=
    (hgrow.block b (by simp; omega) (fun e => hne e.symm)).trans ((((Below.refl _ w1).alloc (Nat.le_refl _) o).block b hlt).trans hbk)
  have d0 : w2.cell? ⟨b, 0, none⟩ = some (.pointer (some ⟨b, 0, none⟩)) := by rw [Lib.cell_of_heap hb2]; rfl
  have d1 : w2.cell? ⟨b, 1, none⟩ = some (.slice ao bs.length cap) := by rw [Lib.cell_of_heap hb2]; rfl
  have f1 : w2.frozen? ⟨b, 1, none⟩ = false := Lib.frozen_of_heap hb2 1
  obtain ⟨g, cap', rfl⟩ : ∃ g cap', v' = .slice (some ⟨g, 0, none⟩) (bs.length + (Lib.runeCells r).length) cap' := by
    rcases hown'.2 with ⟨_, h0⟩ | ⟨g, cap', cur, fz, hv, _⟩
    · omega
    · exact ⟨g, cap', hv⟩
  have HF : Hid (BdF T rs B b (.pointer (some ⟨b, 0, none⟩)) (bs ++ Lib.runeCells r) (w2.setCell ⟨b, 1, none⟩ (.slice (some ⟨g, 0, none⟩) (bs.length + (Lib.runeCells r).length) cap')) ∧ KpD B b w (w2.setCell ⟨b, 1, none⟩ (.slice (some ⟨g, 0, none⟩) (bs.length + (Lib.runeCells r).length) cap'))) :=
    ⟨BdF.put hB hb2 (bs' := bs ++ Lib.runeCells r) (by rw [List.length_append]; exact hown') hT,
      ((HK1.out.bw.alloc (by omega) _).grown hgrow (by simp; omega) (fun k hk => (hown.lt k hk).1)).setCell (p := ⟨b, 1, none⟩) hB _,
      ((HK1.out.k.alloc _).grown hgrow (Lib.ownsRowF_kind (hown.alloc _))).setCell ⟨b, 1, none⟩ rfl _⟩
  clear hown hown' hgrow HK1 hbk hb2
  go_wp2
  go_ret2
  exact ⟨⟨_, rfl⟩, HF.out⟩

set_option maxHeartbeats 2000000 in
set_option maxRecDepth 100000 in
theorem dWriteByte_any (T : TypeId) (rs : List Value) (B b : Nat) (bs : List Value) (c : Int) (w : World) (H : TyH T (rs.length + 2)) (h : IsBd T rs B b bs w) (hlen : bs.length + 1 ≤ 140737488355328) (hBw : B ≤ w.heap.size) :
    Calls Tryz.prog 29 #[.pointer (some ⟨b, 0, none⟩), .int .u8 c] w fun e w' => (∃ v, e = .returned v) ∧ BdF T rs B b (.pointer (some ⟨b, 0, none⟩)) (bs ++ [.int .u8 c]) w' ∧ KpD B b w w' := by
  obtain ⟨i0, hi, hz0, hz1, hz2⟩ := info_parts dinfoB
  have hT := H.ne
  go_enter Tryz.func29, Tryz.ntmps29
  go_wp2_with fail
  refine (dcc_any T rs B b bs _ H h).mono ?_
  rintro e w1 ⟨rfl, h1, hk1⟩
  obtain ⟨hB, v, hbk, hown, hne⟩ := h1
  have c0 : w1.cell? ⟨b, 0, none⟩ = some (.pointer (some ⟨b, 0, none⟩)) := by rw [Lib.cell_of_heap hbk]; rfl
  have c1 : w1.cell? ⟨b, 1, none⟩ = some v := by rw [Lib.cell_of_heap hbk]; rfl
  have hs1 := hk1.bw.size
  have HK1 : Hid (KpD B b w w1) := hk1
  clear hk1 H h
  go_wp2_with (at_builtin; refine wpList_append_ownF _ rfl _ _ 72 rfl B 5 i0 (.int .u8 0) 1 1 Tryz.underlying72 hi hz0 hz1 hz2 rfl (by decide) _ _ _ rfl (hown.alloc _) ⟨w1.heap.size, 0, none⟩ 1 1 [.int .u8 c] rfl rfl ?c1 ?c2 ?c3 ?c4 ?c5 ?_)
  case c1 =>
    intro j u hj
    match j, hj with
    | 0, hj => simp at hj; subst hj; simp [Addr.add]
  case c2 => intro u hu; simp at hu; subst hu; rfl
  case c3 => unfold maxLen; omega
  case c4 => omega
  case c5 => simp; omega
  intro v' w2 hown' hgrow _
  have hlt : b < w1.heap.size := (Array.getElem?_eq_some_iff.1 hbk).1
  have hb2 : w2.heap[b]? = some (.cells (.pointer (some ⟨b, 0, none⟩) :: v :: rs).toArray T (0, 0)) := by
    rw [hgrow.block b (by simp; omega) (fun e => hne e.symm), Lib.alloc_old w1 _ b hlt]
    exact hbk
  have d0 : w2.cell? ⟨b, 0, none⟩ = some (.pointer (some ⟨b, 0, none⟩)) := by rw [Lib.cell_of_heap hb2]; rfl
  have d1 : w2.cell? ⟨b, 1, none⟩ = some v := by rw [Lib.cell_of_heap hb2]; rfl
  have f1 : w2.frozen? ⟨b, 1, none⟩ = false := Lib.frozen_of_heap hb2 1
  obtain ⟨g, cap, rfl⟩ : ∃ g cap, v' = .slice (some ⟨g, 0, none⟩) (bs.length + 1) cap := by
    rcases hown'.2 with ⟨_, h0⟩ | ⟨g, cap, cur, fz, hv, _⟩
    · omega
    · exact ⟨g, cap, hv⟩
  have HF : Hid (BdF T rs B b (.pointer (some ⟨b, 0, none⟩)) (bs ++ [.int .u8 c]) (w2.setCell ⟨b, 1, none⟩ (.slice (some ⟨g, 0, none⟩) (bs.length + 1) cap)) ∧ KpD B b w (w2.setCell ⟨b, 1, none⟩ (.slice (some ⟨g, 0, none⟩) (bs.length + 1) cap))) :=
    ⟨BdF.put hB hb2 (bs' := bs ++ [.int .u8 c]) (by simpa using hown') hT,
      ((HK1.out.bw.alloc (by omega) _).grown hgrow (by simp; omega) (fun k hk => (hown.lt k hk).1)).setCell (p := ⟨b, 1, none⟩) hB _,
      ((HK1.out.k.alloc _).grown hgrow (Lib.ownsRowF_kind (hown.alloc _))).setCell ⟨b, 1, none⟩ rfl _⟩
  clear hown hown' hgrow HK1 hbk hb2
  go_wp2
  go_ret
  exact ⟨⟨_, rfl⟩, HF.out⟩

set_option maxHeartbeats 2000000 in
set_option maxRecDepth 100000 in
theorem dWriteString_any (T : TypeId) (rs : List Value) (B b : Nat) (bs : List Value) (s : ByteArray) (w : World) (H : TyH T (rs.length + 2)) (h : IsBd T rs B b bs w) (hlen : bs.length + s.size ≤ 140737488355328) (hBw : B ≤ w.heap.size) :
    Calls Tryz.prog 124 #[.pointer (some ⟨b, 0, none⟩), .string s] w fun e w' => (∃ v, e = .returned v) ∧ BdF T rs B b (.pointer (some ⟨b, 0, none⟩)) (bs ++ Lib.strCells s) w' ∧ KpD B b w w' := by
  obtain ⟨i0, hi, hz0, hz1, hz2⟩ := info_parts dinfoB
  have hT := H.ne
  go_enter Tryz.func124, Tryz.ntmps124
  go_wp2_with fail
  refine (dcc_any T rs B b bs _ H h).mono ?_
  rintro e w1 ⟨rfl, h1, hk1⟩
  obtain ⟨hB, v, hbk, hown, hne⟩ := h1
  have c0 : w1.cell? ⟨b, 0, none⟩ = some (.pointer (some ⟨b, 0, none⟩)) := by rw [Lib.cell_of_heap hbk]; rfl
  have c1 : w1.cell? ⟨b, 1, none⟩ = some v := by rw [Lib.cell_of_heap hbk]; rfl
  have hs1 := hk1.bw.size
  have HK1 : Hid (KpD B b w w1) := hk1
  clear hk1 H h
  go_wp2_with (at_builtin; refine Lib.wpList_append_own_stringF _ rfl _ _ 72 9 rfl B 5 i0 Tryz.underlying72 Tryz.underlying9 hi hz0 hz1 hz2 _ _ _ rfl hown s rfl ?c3 ?c4 ?c5 ?_)
  case c3 => unfold maxLen; omega
  case c4 => omega
  case c5 => omega
  intro v' w2 hown' hgrow _
  have hlt : b < w1.heap.size := (Array.getElem?_eq_some_iff.1 hbk).1
  have hb2 : w2.heap[b]? = some (.cells (.pointer (some ⟨b, 0, none⟩) :: v :: rs).toArray T (0, 0)) := by
    rw [hgrow.block b hlt (fun e => hne e.symm)]
    exact hbk
  have d0 : w2.cell? ⟨b, 0, none⟩ = some (.pointer (some ⟨b, 0, none⟩)) := by rw [Lib.cell_of_heap hb2]; rfl
  have d1 : w2.cell? ⟨b, 1, none⟩ = some v := by rw [Lib.cell_of_heap hb2]; rfl
  have f1 : w2.frozen? ⟨b, 1, none⟩ = false := Lib.frozen_of_heap hb2 1
  obtain ⟨ao, n', cap, rfl⟩ : ∃ ao n' cap, v' = .slice ao n' cap := by
    rcases hown'.2 with ⟨hv, _⟩ | ⟨g, cap, cur, fz, hv, _⟩
    · exact ⟨_, _, _, hv⟩
    · exact ⟨_, _, _, hv⟩
  have HF : Hid (BdF T rs B b (.pointer (some ⟨b, 0, none⟩)) (bs ++ Lib.strCells s) (w2.setCell ⟨b, 1, none⟩ (.slice ao n' cap)) ∧ KpD B b w (w2.setCell ⟨b, 1, none⟩ (.slice ao n' cap))) :=
    ⟨BdF.put hB hb2 (bs' := bs ++ Lib.strCells s) (by rw [List.length_append, Lib.strCells_length]; exact hown') hT,
      (HK1.out.bw.grown hgrow (by omega) (fun k hk => (hown.lt k hk).1)).setCell (p := ⟨b, 1, none⟩) hB _,
      (HK1.out.k.grown hgrow (Lib.ownsRowF_kind hown)).setCell ⟨b, 1, none⟩ rfl _⟩
  clear hown hown' hgrow HK1 hbk hb2
  go_wp2
  go_ret2
  exact ⟨⟨_, rfl⟩, HF.out⟩

set_option maxHeartbeats 1000000 in
theorem dLen_any (T : TypeId) (rs : List Value) (B b : Nat) (bs : List Value) (w : World) (h : IsBd T rs B b bs w) :
    Calls Tryz.prog 94 #[.pointer (some ⟨b, 0, none⟩)] w fun e w' => e = .returned (.int .i64 bs.length) ∧ w' = w := by
  obtain ⟨p, hB, v, hbk, hown, hne⟩ : ∃ p, BdF T rs B b p bs w := by
    rcases h with h | h
    · exact ⟨_, h⟩
    · exact ⟨_, h⟩
  obtain ⟨ao, cap, rfl⟩ : ∃ ao cap, v = .slice ao bs.length cap := by
    rcases hown.2 with ⟨hv, h0⟩ | ⟨g, cap, cur, fz, hv, _⟩
    · exact ⟨none, 0, by rw [hv, h0]⟩
    · exact ⟨_, _, hv⟩
  have c1 : w.cell? ⟨b, 1, none⟩ = some (.slice ao bs.length cap) := by rw [Lib.cell_of_heap hbk]; rfl
  clear hown hbk
  go_enter Tryz.func94, Tryz.ntmps94
  go_wp2
  go_ret
  exact ⟨rfl, rfl⟩

theorem dcellsB : Tryz.prog.cellsOf 5 = 1 := by kernel_rfl
set_option maxHeartbeats 1000000 in
set_option maxRecDepth 100000 in
theorem dString_any (T : TypeId) (rs : List Value) (B b : Nat) (l : List UInt8) (w : World) (h : IsBd T rs B b (Lib.byteCells l) w) (h0 : l ≠ []) :
    Calls Tryz.prog 30 #[.pointer (some ⟨b, 0, none⟩)] w fun e w' => e = .returned (.string ⟨l.toArray⟩) ∧ Below B w w' := by
  obtain ⟨p, hB, v, hbk, hown, hne⟩ : ∃ p, BdF T rs B b p (Lib.byteCells l) w := by
    rcases h with h | h
    · exact ⟨_, h⟩
    · exact ⟨_, h⟩
  have hl0 : l.length ≠ 0 := by simpa using h0
  rw [Lib.byteCells_length] at hown
  obtain ⟨g, cap, cur, fz, rfl, hbg, hg, hfz, hnc, hcm, hcs, htake⟩ : ∃ g cap cur fz, v = .slice (some ⟨g, 0, none⟩) l.length cap ∧ B ≤ g ∧ w.heap[g]? = some (.cells cur 5 fz) ∧ fz.2 ≤ l.length * 1 ∧ l.length ≤ cap ∧ cap ≤ maxLen ∧ cur.size = cap * 1 ∧ cur.toList.take (l.length * 1) = Lib.byteCells l := by
    rcases hown.2 with ⟨_, hz⟩ | ⟨g, cap, cur, fz, hv, r⟩
    · exact absurd hz hl0
    · exact ⟨g, cap, cur, fz, hv, r⟩
  have c1 : w.drew.cell? ⟨b, 1, none⟩ = some (.slice (some ⟨g, 0, none⟩) l.length cap) := by
    have : w.drew.heap[b]? = some (.cells (p :: .slice (some ⟨g, 0, none⟩) l.length cap :: rs).toArray T (0, 0)) := hbk
    rw [Lib.cell_of_heap this]; rfl
  have hSD : (Builtin.unsafeSliceData_ #[72] 118 #[.slice (some ⟨g, 0, none⟩) l.length cap]).run Tryz.prog w.drew = .ok (.pointer (some ⟨g, 0, none⟩)) w.drew :=
    Lib.run_unsafeSliceData_row _ _ _ _ _ _ (by omega)
  have hUS : (Builtin.unsafeString_ #[118, 3] 9 #[.pointer (some ⟨g, 0, none⟩), .int .i64 l.length]).run Tryz.prog w.drew = .ok (.string ⟨l.toArray⟩) (w.drew.freeze ⟨g, 0, none⟩ l.length) := by
    refine Lib.run_unsafeString_row w.drew 118 3 9 5 Tryz.underlying118 dcellsB g cur.size (by have hg' : w.drew.heap[g]? = some (.cells cur 5 fz) := hg; simp [World.shape?, hg']) l h0 (by omega) (by unfold maxLen at hcm; omega) ?_
    intro j x hx
    have := hown.cells (g := g) rfl j (.int .u8 x.toNat) (by simp [Lib.byteCells, hx])
    exact this
  have HB : Hid (Below B w (w.drew.freeze ⟨g, 0, none⟩ l.length)) := Lib.below_freeze (Below.drew (Below.refl B w)) (p := ⟨g, 0, none⟩) hbg _
  clear hown hbk hg htake hcs hfz
  have mixed : Tryz.prog.follows .mixedOrders = true := by kernel_rfl
  go_enter Tryz.func30, Tryz.ntmps30
  go_wp2
  go_region_o
  all_goals (go_wp2; go_ret; exact ⟨rfl, HB.out⟩)

end Go.Proofs.YtcahdmfmcojaoaaGreatDoor
