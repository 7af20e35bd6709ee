/-
  Texts of this claim, one behind the other: what each is about stands ahead of it.
-/
import Derived.Shelf.LaysM
import Derived.Shelf.LaysC
import Derived.Shelf.Strings.Prefix
import Derived.Shelf.Strings.Cut
import Derived.Shelf.Strings.Shaped
import Derived.Shelf.Strconv.AtoiAll
import Derived.Shelf.Strconv.Itoa3
import Derived.Test.YtfjbnejmcanamaaGreatDoorProg
import Derived.Test.YtfjbnejmcanamaaGreatDoorK27
/-
  DERIVED: THE SHELF's CONTRACTS AT THIS DUMP, IN PLAIN WORDS (tools/lay-plain.mjs out of 'YtfjbnejmcanamaaGreatDoorBS2.lean', which tools/lay-shelf.mjs wrote): THE SAME DECLARATIONS UNDER THE SAME NAMES: 'import', 'namespace', 'open', 'def', 'theorem' AND NOTHING ELSE: no command of the shelf's: FOR A HAND-IN. Each laying: the table of numbers ('.._ren') and one theorem, a field a fact of the dump's own or the kernel's comparison; each contract: ONE APPLICATION.
-/
namespace Go.Proofs
open Go.Shelf
def Tryz.lays99_ren : Go.Shelf.Ren := ⟨fun | 99 => 55 | 206 => 86 | n => n, fun | 9 => 9 | 4 => 4 | 3 => 3 | n => n, fun | n => n⟩
theorem Tryz.lays99 : Go.Proofs.Lays.n99 Tryz.prog Tryz.lays99_ren := {
  mixed := by kernel_rfl
  f99 := Tryz.func55.trans (congrArg some (by kernel_rfl))
  f206 := Tryz.func86.trans (congrArg some (by kernel_rfl))
  t3 := Tryz.underlying3
  a3 := Tryz.isAgg3
  z3 := Tryz.sizeOf3
  v3 := Tryz.zeroValue3
  t4 := Tryz.underlying4
  a4 := Tryz.isAgg4
  z4 := Tryz.sizeOf4
  v4 := Tryz.zeroValue4
  t9 := Tryz.underlying9
  a9 := Tryz.isAgg9
  z9 := Tryz.sizeOf9
  v9 := Tryz.zeroValue9 }
def Tryz.laysM145_ren : Go.Shelf.Ren := ⟨fun | 145 => 71 | 220 => 97 | 219 => 113 | 217 => 121 | 225 => 122 | 224 => 123 | 267 => 124 | 266 => 138 | 314 => 139 | n => n, fun | 9 => 9 | 4 => 4 | 59 => 135 | 3 => 3 | 5 => 5 | 46 => 86 | 146 => 121 | 51 => 120 | n => n, fun | 1 => 4 | n => n⟩
theorem Tryz.laysM145 : Go.Proofs.LaysM.n145 Tryz.prog Tryz.laysM145_ren := {
  mixed := by kernel_rfl
  f145 := Tryz.func71.trans (congrArg some (by kernel_rfl))
  f217 := Tryz.func121.trans (congrArg some (by kernel_rfl))
  f219 := Tryz.func113.trans (congrArg some (by kernel_rfl))
  f220 := Tryz.func97.trans (congrArg some (by kernel_rfl))
  f224 := Tryz.func123.trans (congrArg some (by kernel_rfl))
  f225 := Tryz.func122.trans (congrArg some (by kernel_rfl))
  f266 := Tryz.func138.trans (congrArg some (by kernel_rfl))
  f267 := Tryz.func124.trans (congrArg some (by kernel_rfl))
  f314 := Tryz.func139.trans (congrArg some (by kernel_rfl))
  t3 := Tryz.underlying3
  a3 := Tryz.isAgg3
  z3 := Tryz.sizeOf3
  v3 := Tryz.zeroValue3
  t4 := Tryz.underlying4
  a4 := Tryz.isAgg4
  z4 := Tryz.sizeOf4
  v4 := Tryz.zeroValue4
  t5 := Tryz.underlying5
  a5 := Tryz.isAgg5
  z5 := Tryz.sizeOf5
  v5 := Tryz.zeroValue5
  t9 := Tryz.underlying9
  a9 := Tryz.isAgg9
  z9 := Tryz.sizeOf9
  v9 := Tryz.zeroValue9
  t46 := Tryz.underlying86
  a46 := Tryz.isAgg86
  z46 := Tryz.sizeOf86
  v46 := Tryz.zeroValue86
  t51 := Tryz.underlying120
  a51 := Tryz.isAgg120
  z51 := Tryz.sizeOf120
  v51 := Tryz.zeroValue120
  t59 := Tryz.underlying135
  a59 := Tryz.isAgg135
  z59 := Tryz.sizeOf135
  v59 := Tryz.zeroValue135
  t146 := Tryz.underlying121
  a146 := Tryz.isAgg121
  z146 := Tryz.sizeOf121
  v146 := Tryz.zeroValue121
  g1 := by kernel_rfl
  i3 := by kernel_rfl
  i4 := by kernel_rfl
  i5 := by kernel_rfl
  i9 := by kernel_rfl
  i46 := by kernel_rfl
  i51 := by kernel_rfl
  i59 := by kernel_rfl
  i146 := by kernel_rfl
  m1 := by kernel_rfl
  s1_3 := fun w h => Go.Proofs.cell_of_shapedOpen_int (zero := #[.int .i64 0]) (t := 3) h (of_decide_eq_true (by kernel_rfl)) (by kernel_rfl) rfl (by kernel_rfl) (by kernel_rfl) Tryz.underlying3 }
def Tryz.laysC172_ren : Go.Shelf.Ren := ⟨fun | 172 => 102 | 244 => 115 | 245 => 116 | 247 => 129 | 279 => 130 | 280 => 131 | 281 => 132 | 282 => 133 | 287 => 145 | 316 => 146 | 171 => 103 | 205 => 147 | 321 => 151 | 322 => 152 | 243 => 117 | 246 => 134 | 283 => 125 | 284 => 126 | 285 => 127 | 286 => 128 | 129 => 141 | 317 => 140 | 318 => 142 | 319 => 143 | 320 => 144 | 337 => 149 | 338 => 150 | n => n, fun | 9 => 9 | 3 => 3 | 75 => 55 | 76 => 144 | 4 => 4 | 5 => 5 | 167 => 205 | 37 => 45 | 0 => 0 | 85 => 206 | 2 => 2 | 168 => 208 | 53 => 123 | 175 => 220 | 46 => 86 | 210 => 224 | 127 => 214 | 145 => 229 | 143 => 227 | 21 => 21 | 171 => 200 | 173 => 203 | 212 => 217 | 51 => 120 | 20 => 20 | 213 => 218 | 232 => 230 | 233 => 231 | 80 => 232 | n => n, fun | 15 => 6 | 16 => 7 | 17 => 5 | 18 => 8 | 19 => 9 | n => n⟩
theorem Tryz.laysC172 : Go.Proofs.LaysC.n172 Tryz.prog Tryz.laysC172_ren := {
  mixed := by kernel_rfl
  f129 := Tryz.func141.trans (congrArg some (by kernel_rfl))
  f171 := Tryz.func103.trans (congrArg some (by kernel_rfl))
  f172 := Tryz.func102.trans (congrArg some (by kernel_rfl))
  f205 := Tryz.func147.trans (congrArg some (by kernel_rfl))
  f243 := Tryz.func117.trans (congrArg some (by kernel_rfl))
  f244 := Tryz.func115.trans (congrArg some (by kernel_rfl))
  f245 := Tryz.func116.trans (congrArg some (by kernel_rfl))
  f246 := Tryz.func134.trans (congrArg some (by kernel_rfl))
  f247 := Tryz.func129.trans (congrArg some (by kernel_rfl))
  f279 := Tryz.func130.trans (congrArg some (by kernel_rfl))
  f280 := Tryz.func131.trans (congrArg some (by kernel_rfl))
  f281 := Tryz.func132.trans (congrArg some (by kernel_rfl))
  f282 := Tryz.func133.trans (congrArg some (by kernel_rfl))
  f283 := Tryz.func125.trans (congrArg some (by kernel_rfl))
  f284 := Tryz.func126.trans (congrArg some (by kernel_rfl))
  f285 := Tryz.func127.trans (congrArg some (by kernel_rfl))
  f286 := Tryz.func128.trans (congrArg some (by kernel_rfl))
  f287 := Tryz.func145.trans (congrArg some (by kernel_rfl))
  f316 := Tryz.func146.trans (congrArg some (by kernel_rfl))
  f317 := Tryz.func140.trans (congrArg some (by kernel_rfl))
  f318 := Tryz.func142.trans (congrArg some (by kernel_rfl))
  f319 := Tryz.func143.trans (congrArg some (by kernel_rfl))
  f320 := Tryz.func144.trans (congrArg some (by kernel_rfl))
  f321 := Tryz.func151.trans (congrArg some (by kernel_rfl))
  f322 := Tryz.func152.trans (congrArg some (by kernel_rfl))
  f337 := Tryz.func149.trans (congrArg some (by kernel_rfl))
  f338 := Tryz.func150.trans (congrArg some (by kernel_rfl))
  t0 := Tryz.underlying0
  a0 := Tryz.isAgg0
  z0 := Tryz.sizeOf0
  v0 := Tryz.zeroValue0
  t2 := Tryz.underlying2
  a2 := Tryz.isAgg2
  z2 := Tryz.sizeOf2
  v2 := Tryz.zeroValue2
  t3 := Tryz.underlying3
  a3 := Tryz.isAgg3
  z3 := Tryz.sizeOf3
  v3 := Tryz.zeroValue3
  t4 := Tryz.underlying4
  a4 := Tryz.isAgg4
  z4 := Tryz.sizeOf4
  v4 := Tryz.zeroValue4
  t5 := Tryz.underlying5
  a5 := Tryz.isAgg5
  z5 := Tryz.sizeOf5
  v5 := Tryz.zeroValue5
  t9 := Tryz.underlying9
  a9 := Tryz.isAgg9
  z9 := Tryz.sizeOf9
  v9 := Tryz.zeroValue9
  t20 := Tryz.underlying20
  a20 := Tryz.isAgg20
  z20 := Tryz.sizeOf20
  v20 := Tryz.zeroValue20
  t21 := Tryz.underlying21
  a21 := Tryz.isAgg21
  z21 := Tryz.sizeOf21
  v21 := Tryz.zeroValue21
  t37 := Tryz.underlying45
  a37 := Tryz.isAgg45
  z37 := Tryz.sizeOf45
  v37 := Tryz.zeroValue45
  t46 := Tryz.underlying86
  a46 := Tryz.isAgg86
  z46 := Tryz.sizeOf86
  v46 := Tryz.zeroValue86
  t51 := Tryz.underlying120
  a51 := Tryz.isAgg120
  z51 := Tryz.sizeOf120
  v51 := Tryz.zeroValue120
  t53 := Tryz.underlying123
  a53 := Tryz.isAgg123
  z53 := Tryz.sizeOf123
  v53 := Tryz.zeroValue123
  t75 := Tryz.underlying55
  a75 := Tryz.isAgg55
  z75 := Tryz.sizeOf55
  v75 := Tryz.zeroValue55
  t76 := Tryz.underlying144
  a76 := Tryz.isAgg144
  z76 := Tryz.sizeOf144
  v76 := Tryz.zeroValue144
  t85 := Tryz.underlying206
  a85 := Tryz.isAgg206
  z85 := Tryz.sizeOf206
  v85 := Tryz.zeroValue206
  t127 := Tryz.underlying214
  a127 := Tryz.isAgg214
  z127 := Tryz.sizeOf214
  v127 := Tryz.zeroValue214
  t143 := Tryz.underlying227
  a143 := Tryz.isAgg227
  z143 := Tryz.sizeOf227
  v143 := Tryz.zeroValue227
  t145 := Tryz.underlying229
  a145 := Tryz.isAgg229
  z145 := Tryz.sizeOf229
  v145 := Tryz.zeroValue229
  t167 := Tryz.underlying205
  a167 := Tryz.isAgg205
  z167 := Tryz.sizeOf205
  v167 := Tryz.zeroValue205
  t168 := Tryz.underlying208
  a168 := Tryz.isAgg208
  z168 := Tryz.sizeOf208
  v168 := Tryz.zeroValue208
  t171 := Tryz.underlying200
  a171 := Tryz.isAgg200
  z171 := Tryz.sizeOf200
  v171 := Tryz.zeroValue200
  t173 := Tryz.underlying203
  a173 := Tryz.isAgg203
  z173 := Tryz.sizeOf203
  v173 := Tryz.zeroValue203
  t175 := Tryz.underlying220
  a175 := Tryz.isAgg220
  z175 := Tryz.sizeOf220
  v175 := Tryz.zeroValue220
  t210 := Tryz.underlying224
  a210 := Tryz.isAgg224
  z210 := Tryz.sizeOf224
  v210 := Tryz.zeroValue224
  t212 := Tryz.underlying217
  a212 := Tryz.isAgg217
  z212 := Tryz.sizeOf217
  v212 := Tryz.zeroValue217
  t213 := Tryz.underlying218
  a213 := Tryz.isAgg218
  z213 := Tryz.sizeOf218
  t232 := Tryz.underlying230
  a232 := Tryz.isAgg230
  z232 := Tryz.sizeOf230
  v232 := Tryz.zeroValue230
  t233 := Tryz.underlying231
  a233 := Tryz.isAgg231
  z233 := Tryz.sizeOf231
  v233 := Tryz.zeroValue231
  g15 := by kernel_rfl
  g16 := by kernel_rfl
  g17 := by kernel_rfl
  g18 := by kernel_rfl
  g19 := by kernel_rfl
  t80 := Tryz.underlying232
  a80 := Tryz.isAgg232
  z80 := Tryz.sizeOf232
  v80 := Tryz.zeroValue232
  i0 := by kernel_rfl
  i2 := by kernel_rfl
  i3 := by kernel_rfl
  i4 := by kernel_rfl
  i5 := by kernel_rfl
  i9 := by kernel_rfl
  i20 := by kernel_rfl
  i21 := by kernel_rfl
  i37 := by kernel_rfl
  i46 := by kernel_rfl
  i51 := by kernel_rfl
  i53 := by kernel_rfl
  i75 := by kernel_rfl
  i76 := by kernel_rfl
  i80 := by kernel_rfl
  i85 := by kernel_rfl
  i127 := by kernel_rfl
  i143 := by kernel_rfl
  i145 := by kernel_rfl
  i167 := by kernel_rfl
  i168 := by kernel_rfl
  i171 := by kernel_rfl
  i173 := by kernel_rfl
  i175 := by kernel_rfl
  i210 := by kernel_rfl
  i212 := by kernel_rfl
  i232 := by kernel_rfl
  i233 := by kernel_rfl
  m15 := by kernel_rfl
  m16 := by kernel_rfl
  m17 := by kernel_rfl
  m18 := by kernel_rfl
  m19 := by kernel_rfl
  c0 := by kernel_rfl
  c2 := by kernel_rfl
  c3 := by kernel_rfl
  c4 := by kernel_rfl
  c5 := by kernel_rfl
  c9 := by kernel_rfl
  c20 := by kernel_rfl
  c21 := by kernel_rfl
  c37 := by kernel_rfl
  c46 := by kernel_rfl
  c51 := by kernel_rfl
  c53 := by kernel_rfl
  c75 := by kernel_rfl
  c76 := by kernel_rfl
  c80 := by kernel_rfl
  c85 := by kernel_rfl
  c127 := by kernel_rfl
  c143 := by kernel_rfl
  c145 := by kernel_rfl
  c167 := by kernel_rfl
  c168 := by kernel_rfl
  c171 := by kernel_rfl
  c173 := by kernel_rfl
  c175 := by kernel_rfl
  c210 := by kernel_rfl
  c212 := by kernel_rfl
  c213 := by kernel_rfl
  c232 := by kernel_rfl
  c233 := by kernel_rfl }
def Tryz.laysM171_ren : Go.Shelf.Ren := ⟨fun | 171 => 103 | 243 => 117 | 246 => 134 | 283 => 125 | 284 => 126 | 285 => 127 | 286 => 128 | 129 => 141 | 317 => 140 | 318 => 142 | 319 => 143 | 320 => 144 | 337 => 149 | 338 => 150 | n => n, fun | 3 => 3 | 9 => 9 | 2 => 2 | 4 => 4 | 171 => 200 | 0 => 0 | 53 => 123 | 37 => 45 | 5 => 5 | 173 => 203 | 212 => 217 | 51 => 120 | 20 => 20 | 213 => 218 | 46 => 86 | 232 => 230 | 233 => 231 | n => n, fun | 17 => 5 | 18 => 8 | 19 => 9 | n => n⟩
theorem Tryz.laysM171 : Go.Proofs.LaysM.n171 Tryz.prog Tryz.laysM171_ren := {
  mixed := by kernel_rfl
  f129 := Tryz.func141.trans (congrArg some (by kernel_rfl))
  f171 := Tryz.func103.trans (congrArg some (by kernel_rfl))
  f243 := Tryz.func117.trans (congrArg some (by kernel_rfl))
  f246 := Tryz.func134.trans (congrArg some (by kernel_rfl))
  f283 := Tryz.func125.trans (congrArg some (by kernel_rfl))
  f284 := Tryz.func126.trans (congrArg some (by kernel_rfl))
  f285 := Tryz.func127.trans (congrArg some (by kernel_rfl))
  f286 := Tryz.func128.trans (congrArg some (by kernel_rfl))
  f317 := Tryz.func140.trans (congrArg some (by kernel_rfl))
  f318 := Tryz.func142.trans (congrArg some (by kernel_rfl))
  f319 := Tryz.func143.trans (congrArg some (by kernel_rfl))
  f320 := Tryz.func144.trans (congrArg some (by kernel_rfl))
  f337 := Tryz.func149.trans (congrArg some (by kernel_rfl))
  f338 := Tryz.func150.trans (congrArg some (by kernel_rfl))
  t0 := Tryz.underlying0
  a0 := Tryz.isAgg0
  z0 := Tryz.sizeOf0
  v0 := Tryz.zeroValue0
  t2 := Tryz.underlying2
  a2 := Tryz.isAgg2
  z2 := Tryz.sizeOf2
  v2 := Tryz.zeroValue2
  t3 := Tryz.underlying3
  a3 := Tryz.isAgg3
  z3 := Tryz.sizeOf3
  v3 := Tryz.zeroValue3
  t4 := Tryz.underlying4
  a4 := Tryz.isAgg4
  z4 := Tryz.sizeOf4
  v4 := Tryz.zeroValue4
  t5 := Tryz.underlying5
  a5 := Tryz.isAgg5
  z5 := Tryz.sizeOf5
  v5 := Tryz.zeroValue5
  t9 := Tryz.underlying9
  a9 := Tryz.isAgg9
  z9 := Tryz.sizeOf9
  v9 := Tryz.zeroValue9
  t20 := Tryz.underlying20
  a20 := Tryz.isAgg20
  z20 := Tryz.sizeOf20
  v20 := Tryz.zeroValue20
  t37 := Tryz.underlying45
  a37 := Tryz.isAgg45
  z37 := Tryz.sizeOf45
  v37 := Tryz.zeroValue45
  t46 := Tryz.underlying86
  a46 := Tryz.isAgg86
  z46 := Tryz.sizeOf86
  v46 := Tryz.zeroValue86
  t51 := Tryz.underlying120
  a51 := Tryz.isAgg120
  z51 := Tryz.sizeOf120
  v51 := Tryz.zeroValue120
  t53 := Tryz.underlying123
  a53 := Tryz.isAgg123
  z53 := Tryz.sizeOf123
  v53 := Tryz.zeroValue123
  t171 := Tryz.underlying200
  a171 := Tryz.isAgg200
  z171 := Tryz.sizeOf200
  v171 := Tryz.zeroValue200
  t173 := Tryz.underlying203
  a173 := Tryz.isAgg203
  z173 := Tryz.sizeOf203
  v173 := Tryz.zeroValue203
  t212 := Tryz.underlying217
  a212 := Tryz.isAgg217
  z212 := Tryz.sizeOf217
  v212 := Tryz.zeroValue217
  t213 := Tryz.underlying218
  a213 := Tryz.isAgg218
  z213 := Tryz.sizeOf218
  t232 := Tryz.underlying230
  a232 := Tryz.isAgg230
  z232 := Tryz.sizeOf230
  v232 := Tryz.zeroValue230
  t233 := Tryz.underlying231
  a233 := Tryz.isAgg231
  z233 := Tryz.sizeOf231
  v233 := Tryz.zeroValue231
  g17 := by kernel_rfl
  g18 := by kernel_rfl
  g19 := by kernel_rfl
  i0 := by kernel_rfl
  i2 := by kernel_rfl
  i3 := by kernel_rfl
  i4 := by kernel_rfl
  i5 := by kernel_rfl
  i9 := by kernel_rfl
  i20 := by kernel_rfl
  i37 := by kernel_rfl
  i46 := by kernel_rfl
  i51 := by kernel_rfl
  i53 := by kernel_rfl
  i171 := by kernel_rfl
  i173 := by kernel_rfl
  i212 := by kernel_rfl
  i232 := by kernel_rfl
  i233 := by kernel_rfl
  m17 := by kernel_rfl
  m18 := by kernel_rfl
  m19 := by kernel_rfl }
end Go.Proofs

/-
  Contracts of package vector's reader: begins, runOf, fixedSize.
-/
namespace Go.Proofs.YtfjbnejmcanamaaGreatDoor
open Go.RowKit

/-- The rest of a text. -/
def rsL (s : ByteArray) (p : Nat) : List UInt8 := s.data.toList.drop p
theorem rsL_ext (s : ByteArray) (p : Nat) : (s.extract p s.size).data.toList = rsL s p := by
  unfold rsL
  rw [ByteArray.data_extract, Array.toList_extract, List.extract_eq_take_drop]
  exact List.take_of_length_le (by simp)
def bgB (s : ByteArray) (p : Nat) (x : List UInt8) : Bool := Lib.hasPrefix (rsL s p) x

theorem gwRd {W : World} {b : Nat} {s : ByteArray} {p : Nat} (h : Rd W b s p) (t : Gw W) : t.wd.cell? ⟨b, 0, none⟩ = some (.string s) ∧ t.wd.cell? ⟨b, 1, none⟩ = some (.int .i64 p) := by
  have c0 := Bk.cell (h.below t.below) 0
  have c1 := Bk.cell (h.below t.below) 1
  simp only [List.getElem?_toArray, List.getElem?_cons_zero, List.getElem?_cons_succ] at c0 c1
  exact ⟨c0, c1⟩

set_option maxRecDepth 10000 in
set_option maxHeartbeats 2000000 in
theorem begins_any (b : Nat) (s : ByteArray) (p : Nat) (x : ByteArray) (w : World) (h : Rd w b s p) (hp : p ≤ s.size) :
    Calls Tryz.prog 33 #[.pointer (some ⟨b, 0, none⟩), .string x] w fun e w' => e = .returned (.bool (bgB s p x.data.toList)) ∧ Below w.heap.size w w' := by
  have HP : Hid (∀ W, Calls Tryz.prog 55 #[.string (s.extract p s.size), .string x] W fun e w' => e = .returned (.bool (bgB s p x.data.toList)) ∧ w' = W) := fun W => by
    have := Any.strings_HasPrefix Tryz.lays99 (s.extract p s.size) x W
    rw [rsL_ext] at this
    exact this
  have ne : Nonempty (Gw w) := ⟨⟨w, Below.refl _ _⟩⟩
  have c0 := fun t => (gwRd h t).1
  have c1 := fun t => (gwRd h t).2
  have hp' : (p : Int) ≤ s.size := by omega
  clear h
  go_enter Tryz.func33, Tryz.ntmps33
  go_wp2_with fail
  refine wp_region_gw (by kernel_rfl) (by kernel_rfl) ?_
  repeat (go_big_quiet_step (first | (go_at_call 55; exact gw_same (HP.out _))))
  refine wpQuiet_nil ?_
  rintro _ ⟨t, rfl⟩
  have HB : Hid (Below w.heap.size w t.wd) := t.below
  generalize t.wd = W1 at *
  go_wp2
  go_ret
  exact ⟨rfl, HB.out⟩

/-- How many bytes at a text's beginning are such ones. -/
def rnO (P : Nat → Bool) (l : List UInt8) : Nat := (l.takeWhile fun c => P c.toNat).length
theorem rnO_le (P : Nat → Bool) (l : List UInt8) : rnO P l ≤ l.length := by
  unfold rnO
  exact (List.takeWhile_sublist _).length_le
theorem rnO_at {P : Nat → Bool} {q : ByteArray} {k : Nat} (hk : k ≤ q.size) (ha : ∀ j, j < k → P (byA q j) = true) (he : k < q.size → P (byA q k) = false) : rnO P q.data.toList = k := by
  have hl : q.data.toList.length = q.size := by simp
  have key : ∀ (l : List UInt8) (k : Nat), k ≤ l.length → (∀ j (h : j < l.length), j < k → P (l[j]).toNat = true) → (∀ h : k < l.length, P (l[k]).toNat = false) → rnO P l = k := by
    intro l
    induction l with
    | nil => intro k h _ _; simp at h; subst h; rfl
    | cons x t ih =>
      intro k h1 h2 h3
      cases k with
      | zero =>
        have := h3 (by simp)
        unfold rnO
        rw [List.takeWhile_cons]
        simp at this
        simp [this]
      | succ k =>
        have hx := h2 0 (by simp) (by omega)
        have := ih k (by simpa using h1) (fun j hj hjk => by have := h2 (j + 1) (by simpa using hj) (by omega); simpa using this) (fun hk => by have := h3 (by simpa using hk); simpa using this)
        unfold rnO at this ⊢
        rw [List.takeWhile_cons]
        simp at hx
        simp [hx, this]
  have eb : ∀ j (h : j < q.data.toList.length), byA q j = (q.data.toList[j]).toNat := fun j h => by
    rw [byA_at (by omega)]
    congr 1
  exact key _ k (by omega) (fun j h hj => by rw [← eb j h]; exact ha j hj) (fun h => by rw [← eb k h]; exact he (by omega))

set_option maxRecDepth 10000 in
set_option maxHeartbeats 2000000 in
theorem runOf_any (F : Nat) (P : Nat → Bool) (q : ByteArray) (w : World) (hq : q.size ≤ 1000000) (eg : ∀ args w, (callFunc F args).run Tryz.prog w = .ok (.enter F args) w)
    (hC : ∀ c W, c < 256 → Calls Tryz.prog F #[.int .u8 ((c : Nat) : Int)] W fun e w' => e = .returned (.bool (P c)) ∧ w' = W) :
    Calls Tryz.prog 81 #[.string q, .func (.func F) #[] #[]] w fun e w' => e = .returned (.int .i64 (rnO P q.data.toList)) ∧ w' = w := by
  have HC : Hid (∀ c W, c < 256 → Calls Tryz.prog F #[.int .u8 ((c : Nat) : Int)] W fun e w' => e = .returned (.bool (P c)) ∧ w' = W) := hC
  obtain ⟨R, hR⟩ : ∃ R, R = rnO P q.data.toList := ⟨_, rfl⟩
  have HR : Hid (∀ k, k ≤ q.size → (∀ j, j < k → P (byA q j) = true) → (k < q.size → P (byA q k) = false) → R = k) := fun k h1 h2 h3 => by rw [hR]; exact rnO_at h1 h2 h3
  rw [← hR]
  clear hC hR
  go_enter Tryz.func81, Tryz.ntmps81
  go_wp2_with fail
  go_loopw [5] (fun i wr => ∃ k : Nat, k ≤ q.size ∧ i = .int .i64 k ∧ Hid (∀ j, j < k → P (byA q j) = true) ∧ wr = w) (fun i _ => q.size - (intOf i).toNat)
  case atStart => exact ⟨0, Nat.zero_le _, rfl, fun j hj => absurd hj (Nat.not_lt_zero _), rfl⟩
  case round =>
    obtain ⟨k, hk, rfl, HK, rfl⟩ := hrel
    by_cases hlt : k < q.size
    · have hb := UInt8.toNat_lt q[k]
      have eb := byA_at hlt
      cases hp : P (q[k]).toNat with
      | true =>
        have HN : Hid (∀ j, j < k + 1 → P (byA q j) = true) := fun j hj => by
          by_cases e : j = k
          · subst e; rw [eb]; exact hp
          · exact HK.out j (by omega)
        clear HK eb
        go_wp2_with fail
        refine (HC.out _ _ hb).mono ?_
        rintro e w' ⟨rfl, hw⟩
        obtain rfl := hw.symm
        rw [hp]
        go_wp2
        go_roundw
        case rel => exact ⟨k + 1, by omega, by go_num, HN, by first | rfl | trivial⟩
        case measure => simp [intOf]; omega
      | false =>
        have hE : R = k := HR.out k hk HK.out (fun h => by rw [eb]; exact hp)
        subst hE
        clear HK HR eb
        go_wp2_with fail
        refine (HC.out _ _ hb).mono ?_
        rintro e w' ⟨rfl, hw⟩
        obtain rfl := hw.symm
        rw [hp]
        go_wp2
        go_ret
        exact ⟨rfl, rfl⟩
    · obtain rfl : k = q.size := by omega
      have hE : R = q.size := HR.out _ hk HK.out (fun h => absurd h (Nat.lt_irrefl _))
      subst hE
      clear HR HK
      go_wp2
      go_ret
      exact ⟨rfl, rfl⟩

/-- A form's fixed beginning. -/
def fxB (c : Nat) : Bool := decide (c < 65) || decide (90 < c)
set_option maxHeartbeats 1000000 in
theorem fixed1_any (c : Nat) (w : World) (hc : c < 256) :
    Calls Tryz.prog 82 #[.int .u8 ((c : Nat) : Int)] w fun e w' => e = .returned (.bool (fxB c)) ∧ w' = w := by
  go_enter Tryz.func82, Tryz.ntmps82
  go_wp2
  all_goals
    go_ret
    refine ⟨ret_bool ?_, rfl⟩
    simp [fxB]
    try omega
theorem fixed_any (q : ByteArray) (w : World) (hq : q.size ≤ 1000000) :
    Calls Tryz.prog 53 #[.string q] w fun e w' => e = .returned (.int .i64 (rnO fxB q.data.toList)) ∧ w' = w := by
  have HR : Hid (∀ W, Calls Tryz.prog 81 #[.string q, .func (.func 82) #[] #[]] W fun e w' => e = .returned (.int .i64 (rnO fxB q.data.toList)) ∧ w' = W) := fun W => runOf_any _ fxB q W hq (enters_of Tryz.func82 (by kernel_rfl) rfl) fixed1_any
  go_enter Tryz.func53, Tryz.ntmps53
  go_wp2_with fail
  refine (HR.out _).mono ?_
  rintro e w' ⟨rfl, hw⟩
  obtain rfl := hw.symm
  go_wp2
  go_ret
  exact ⟨rfl, rfl⟩

end Go.Proofs.YtfjbnejmcanamaaGreatDoor

/-
  Contracts of package vector's reader: number.
-/
namespace Go.Proofs.YtfjbnejmcanamaaGreatDoor
open Go.RowKit

/-- What the library's variables hold. -/
structure EnI (w : World) : Prop where
  pw : PwI w
  sy : ∃ ev, w.cell? ⟨6, 0, none⟩ = some ev ∧ (ev = .nilIface ∨ ∃ te pe, ev = .iface te pe)
  ra : ∃ ev, w.cell? ⟨7, 0, none⟩ = some ev ∧ (ev = .nilIface ∨ ∃ te pe, ev = .iface te pe)
  ml : ∃ m, w.cell? ⟨4, 0, none⟩ = some (.int .i64 m)
/-- They go on holding it, whatever is done at blocks from B on. -/
def EnR (B : Nat) (w : World) : Prop := ∀ w', Below B w w' → EnI w'
theorem EnR.here {B : Nat} {w : World} (h : EnR B w) : EnI w := h w (Below.refl _ _)
theorem EnR.on {B : Nat} {w w1 : World} (h : EnR B w) (hb : Below B w w1) : EnR B w1 := fun w' hb' => h w' (hb.trans hb')
theorem EnR.mono {B C : Nat} {w : World} (h : EnR B w) (hl : B ≤ C) : EnR C w := fun w' hb => h w' (hb.mono hl)

theorem atoi_ok (q : ByteArray) (n : Int) (w : World) (hq : q.size ≤ 1000000) (h : Lib.atoiAll q.data.toList = .ok n) :
    Calls Tryz.prog 102 #[.string q] w fun e w' => ∃ ev, e = .returned (.tuple #[.int .i64 n, ev]) ∧ ev = .nilIface ∧ Below w.heap.size w w' := by
  refine (Any.strconv_Atoi_ok Tryz.laysC172 q (by omega) n h w).mono ?_
  rintro e w' ⟨rfl, hw⟩
  refine ⟨_, rfl, rfl, ?_⟩
  rcases hw with rfl | ⟨t, rfl⟩
  · exact Below.refl _ _
  · exact Lib.bytesWorld_below _ _ _
theorem atoi_no (q : ByteArray) (w : World) (hq : q.size ≤ 1000000) (hE : EnI w) (h : ∀ n, Lib.atoiAll q.data.toList ≠ .ok n) :
    Calls Tryz.prog 102 #[.string q] w fun e w' => ∃ n p, e = .returned (.tuple #[.int .i64 n, .iface 208 p]) ∧ I64 n ∧ Below w.heap.size w w' := by
  rcases hc : Lib.atoiAll q.data.toList with n | _ | _
  · exact absurd hc (h n)
  · obtain ⟨ev, h1, h2⟩ := hE.sy
    refine (Any.strconv_Atoi_syntax Tryz.laysC172 q (by omega) hc ev w h1 h2).mono ?_
    rintro e w' ⟨N, rfl, _, _, hb⟩
    exact ⟨0, _, rfl, z64, hb⟩
  · obtain ⟨ev, h1, h2⟩ := hE.ra
    refine (Any.strconv_Atoi_range Tryz.laysC172 q (by omega) hc ev w h1 h2).mono ?_
    rintro e w' ⟨N, rfl, _, _, hb⟩
    exact ⟨_, _, rfl, Lib.atoiSat_bounds _, hb⟩
theorem itoaC_any (n : Int) (w : World) (h : I64 n) (hE : EnI w) :
    Calls Tryz.prog 103 #[.int .i64 n] w fun e w' => e = .returned (.string ⟨(Lib.itoa n).toArray⟩) ∧ Below w.heap.size w w' := by
  refine (Any.strconv_Itoa Tryz.laysM171 n h.1 h.2 w hE.pw).mono ?_
  rintro e w' ⟨rfl, k, os, rfl⟩
  exact ⟨rfl, Lib.below_grow _ w (Nat.le_refl _) k os⟩

def dgB (c : Nat) : Bool := decide (48 ≤ c) && decide (c ≤ 57)
set_option maxHeartbeats 1000000 in
theorem isDigit_any (c : Nat) (w : World) (hc : c < 256) :
    Calls Tryz.prog 101 #[.int .u8 ((c : Nat) : Int)] w fun e w' => e = .returned (.bool (dgB c)) ∧ w' = w := by
  go_enter Tryz.func101, Tryz.ntmps101
  go_wp2
  all_goals
    go_ret
    refine ⟨ret_bool ?_, rfl⟩
    simp [dgB]
    try omega

/-- A number at a text's beginning: its sign, its digits, the piece, what it is. -/
def sgN (r : List UInt8) : Nat := if Lib.hasPrefix r [45] = true then 1 else 0
def dgN (r : List UInt8) : Nat := rnO dgB (r.drop (sgN r))
def pcN (r : List UInt8) : List UInt8 := r.take (sgN r + dgN r)
def nuL (r : List UInt8) : Option Int := if 9 < dgN r then none else match Lib.atoiAll (pcN r) with
  | .ok n => if Lib.itoa n = pcN r then some n else none
  | _ => none

theorem ext_drop (Q : ByteArray) (k : Nat) : (Q.extract k Q.size).data.toList = Q.data.toList.drop k := rsL_ext Q k
theorem ext_take (Q : ByteArray) (k : Nat) : (Q.extract 0 k).data.toList = Q.data.toList.take k := by
  rw [ByteArray.data_extract, Array.toList_extract, List.extract_eq_take_drop]
  simp

/-- What number answers. -/
def NuQ (b : Nat) (s : ByteArray) (p : Nat) (w : World) (e : Ending) (w' : World) : Prop :=
  match nuL (rsL s p) with
  | some n => e = .returned (.tuple #[.int .i64 n, .nilIface]) ∧ Rd w' b s (p + (pcN (rsL s p)).length) ∧ Kp2 b b w w'
  | none => ∃ v, e = .returned (.tuple #[.int .i64 0, v]) ∧ IsW w.heap.size w' v p ∧ Rd w' b s p ∧ Kp2 b b w w'

end Go.Proofs.YtfjbnejmcanamaaGreatDoor

/-
  Contracts of package vector's reader: number, walked.
-/
namespace Go.Proofs.YtfjbnejmcanamaaGreatDoor
open Go.RowKit

theorem rd_cells {W : World} {b : Nat} {s : ByteArray} {p : Nat} (h : Rd W b s p) : W.cell? ⟨b, 0, none⟩ = some (.string s) ∧ W.cell? ⟨b, 1, none⟩ = some (.int .i64 p) ∧ W.frozen? ⟨b, 1, none⟩ = false := by
  have c0 := Bk.cell h 0
  have c1 := Bk.cell h 1
  simp only [List.getElem?_toArray, List.getElem?_cons_zero, List.getElem?_cons_succ] at c0 c1
  exact ⟨c0, c1, Bk.frozen h 1⟩

theorem pcN_len (r : List UInt8) : (pcN r).length = sgN r + dgN r := by
  have h1 : dgN r ≤ r.length - sgN r := by
    have := rnO_le dgB (r.drop (sgN r))
    unfold dgN
    simpa using this
  have h2 : sgN r ≤ r.length := by
    unfold sgN
    split
    · next h =>
      cases r with
      | nil => simp [Lib.hasPrefix] at h
      | cons _ _ => simp
    · omega
  unfold pcN
  rw [List.length_take]
  omega

theorem nuq_some {b : Nat} {s : ByteArray} {p : Nat} {w w' : World} {e : Ending} {n : Int} {r : List UInt8} (hr : r = rsL s p) (h : nuL r = some n) (he : e = .returned (.tuple #[.int .i64 n, .nilIface])) (h1 : Rd w' b s (p + (pcN r).length)) (h2 : Kp2 b b w w') : NuQ b s p w e w' := by
  subst hr
  unfold NuQ
  rw [h]
  exact ⟨he, h1, h2⟩
theorem nuq_none {b : Nat} {s : ByteArray} {p : Nat} {w w' : World} {e : Ending} {v : Value} {r : List UInt8} (hr : r = rsL s p) (h : nuL r = none) (he : e = .returned (.tuple #[.int .i64 0, v])) (h1 : IsW w.heap.size w' v p ∧ Rd w' b s p ∧ Kp2 b b w w') : NuQ b s p w e w' := by
  subst hr
  unfold NuQ
  rw [h]
  exact ⟨v, he, h1⟩

set_option maxRecDepth 10000 in
set_option maxHeartbeats 8000000 in
theorem number_any (B b : Nat) (s : ByteArray) (p : Nat) (w : World) (h : Rd w b s p) (hp : p ≤ s.size) (hs : s.size ≤ 100000) (hE : EnR B w) (hB : B ≤ b) :
    Calls Tryz.prog 83 #[.pointer (some ⟨b, 0, none⟩)] w fun e w' => NuQ b s p w e w' := by
  obtain ⟨Q, hQ⟩ : ∃ Q, Q = s.extract p s.size := ⟨_, rfl⟩
  have hQl : Q.data.toList = rsL s p := by rw [hQ]; exact rsL_ext s p
  have hQz : Q.size = s.size - p := by rw [hQ]; simp
  have HPx : Hid (∀ W, Calls Tryz.prog 55 #[.string Q, .string ⟨#[45]⟩] W fun e w' => e = .returned (.bool (Lib.hasPrefix (rsL s p) [45])) ∧ w' = W) := fun W => by
    have := Any.strings_HasPrefix Tryz.lays99 Q ⟨#[45]⟩ W
    rw [hQl] at this
    exact this
  have ne : Nonempty (Gw w) := ⟨⟨w, Below.refl _ _⟩⟩
  have c0 := fun t => (gwRd h t).1
  have c1 := fun t => (gwRd h t).2
  have hp' : (p : Int) ≤ s.size := by omega
  have HH : Hid (Rd w b s p ∧ EnR B w ∧ B ≤ b ∧ b < w.heap.size) := ⟨h, hE, hB, Bk.lt h⟩
  obtain ⟨r, hr⟩ : ∃ r, r = rsL s p := ⟨_, rfl⟩
  have HRr : Hid (r = rsL s p) := hr
  rw [← hr] at hQl HPx
  have hdl : sgN r + dgN r ≤ Q.size := by
    rw [← pcN_len, ← hQl]
    unfold pcN
    rw [List.length_take]
    have : Q.data.toList.length = Q.size := by simp
    omega
  have hlen := pcN_len r
  have HRu : Hid (∀ W, Calls Tryz.prog 81 #[.string (Q.extract (sgN r) Q.size), .func (.func 101) #[] #[]] W fun e w' => e = .returned (.int .i64 (dgN r)) ∧ w' = W) := fun W => by
    have := runOf_any 101 dgB (Q.extract (sgN r) Q.size) W (by simp; omega) (enters_of Tryz.func101 (by kernel_rfl) rfl) isDigit_any
    rw [ext_drop, hQl] at this
    exact this
  obtain ⟨PC, hPC⟩ : ∃ PC, PC = Q.extract 0 (sgN r + dgN r) := ⟨_, rfl⟩
  have hPl : PC.data.toList = pcN r := by rw [hPC, ext_take, hQl]; rfl
  have hPz : PC.size = sgN r + dgN r := by
    have : PC.data.toList.length = PC.size := by simp
    rw [← this, hPl, hlen]
  have HAo : Hid (∀ n W, Lib.atoiAll (pcN r) = .ok n → Calls Tryz.prog 102 #[.string PC] W fun e w' => ∃ ev, e = .returned (.tuple #[.int .i64 n, ev]) ∧ ev = .nilIface ∧ Below W.heap.size W w') := fun n W h => atoi_ok PC n W (by omega) (by rw [hPl]; exact h)
  have HAn : Hid (∀ W, EnI W → (∀ n, Lib.atoiAll (pcN r) ≠ .ok n) → Calls Tryz.prog 102 #[.string PC] W fun e w' => ∃ n q, e = .returned (.tuple #[.int .i64 n, .iface 208 q]) ∧ I64 n ∧ Below W.heap.size W w') := fun W hE h => atoi_no PC W (by omega) hE (by rw [hPl]; exact h)
  have HPe : Hid (∀ n, ((⟨(Lib.itoa n).toArray⟩ : ByteArray) = PC ↔ Lib.itoa n = pcN r)) := fun n => by
    rw [← hPl]
    constructor
    · intro h; rw [← h]
    · intro h; apply ByteArray.ext; apply Array.ext'; simpa using h
  obtain ⟨d, hd⟩ : ∃ d, d = dgN r := ⟨_, rfl⟩
  cases hsg : Lib.hasPrefix r [45] with
  | true =>
    have es : sgN r = 1 := by unfold sgN; rw [if_pos hsg]
    rw [hsg] at HPx
    rw [es, ← hd] at hPC hdl hPz hlen
    rw [es, ← hd] at HRu
    have hdl' : 1 + (d : Int) ≤ Q.size := by omega
    have hd0 : (d : Int) ≤ 100000 := by omega
    have HPC := show Hid _ from hPC
    have HPz := show Hid _ from hPz
    have Hd := show Hid _ from hd
    have Hlen := show Hid _ from hlen
    clear hsg hPC hPz hd hlen hPl hQl hQz hdl es hr
    go_enter Tryz.func83, Tryz.ntmps83
    go_wp2_with fail
    refine wp_region_gw (by kernel_rfl) (by kernel_rfl) ?_
    repeat (go_big_quiet_step (fail))
    refine wpQuiet_nil ?_
    rintro _ ⟨t, rfl⟩
    rw [← hQ]
    clear hQ
    have HW1 : Hid (Rd t.wd b s p ∧ EnR B t.wd ∧ Below w.heap.size w t.wd) := ⟨HH.out.1.below t.below, HH.out.2.1.on (t.below.mono (by have := HH.out; omega)), t.below⟩
    generalize t.wd = w1 at *
    clear c0 c1 ne
    go_wp2_with fail
    refine (HPx.out _).mono ?_
    rintro e w' ⟨rfl, hw⟩
    obtain rfl := hw.symm
    go_wp2_with fail
    refine (HRu.out _).mono ?_
    rintro e w' ⟨rfl, hw⟩
    obtain rfl := hw.symm
    have HW2 := HW1
    clear HW1 HPx HRu
    by_cases h9 : 9 < d
    · have h9' : 9 < (d : Int) := by omega
      have hnu : Hid (nuL r = none) := by unfold Hid nuL; rw [if_pos (by rw [← Hd.out]; exact h9)]
      by_cases hok : ∃ n, Lib.atoiAll (pcN r) = .ok n
      · obtain ⟨n, hok⟩ := hok
        go_wp2_with fail
        rw [← HPC.out]
        refine (HAo.out n _ hok).mono ?_
        rintro e w4 ⟨ev, rfl, rfl, hb4⟩
        have HW3 : Hid (Rd w4 b s p ∧ EnR B w4 ∧ Below w.heap.size w w4) := ⟨HW2.out.1.below hb4, HW2.out.2.1.on (hb4.mono (Nat.le_trans (by have := HH.out; omega) HW2.out.2.2.size)), HW2.out.2.2.trans (hb4.mono HW2.out.2.2.size)⟩
        clear hb4 HW2
        obtain ⟨c0', c1', c2'⟩ := rd_cells HW3.out.1
        go_wp2_with fail
        refine (refuse_any b s p 0 ⟨#[97, 32, 110, 117, 109, 98, 101, 114]⟩ _ HW3.out.1 (by omega) (by decide)).mono ?_
        rintro e w5 ⟨v5, rfl, hw5, hb5⟩
        have HF : Hid (IsW w.heap.size w5 v5 p ∧ Rd w5 b s p ∧ Kp2 b b w w5) := ⟨by have := hw5.weaken HW3.out.2.2.size; rwa [Nat.add_zero] at this, HW3.out.1.below hb5, Kp2.of_below (HW3.out.2.2.trans (hb5.mono HW3.out.2.2.size))⟩
        clear hw5 hb5 HW3 c0' c1' c2'
        go_wp2
        go_ret2
        exact nuq_none HRr.out hnu.out rfl HF.out
      · go_wp2_with fail
        rw [← HPC.out]
        refine (HAn.out _ HW2.out.2.1.here (fun n hn => hok ⟨n, hn⟩)).mono ?_
        rintro e w4 ⟨n4, q4, rfl, hn4, hb4⟩
        have HW3 : Hid (Rd w4 b s p ∧ EnR B w4 ∧ Below w.heap.size w w4) := ⟨HW2.out.1.below hb4, HW2.out.2.1.on (hb4.mono (Nat.le_trans (by have := HH.out; omega) HW2.out.2.2.size)), HW2.out.2.2.trans (hb4.mono HW2.out.2.2.size)⟩
        clear hb4 HW2
        obtain ⟨c0', c1', c2'⟩ := rd_cells HW3.out.1
        go_wp2_with fail
        refine (refuse_any b s p 0 ⟨#[97, 32, 110, 117, 109, 98, 101, 114]⟩ _ HW3.out.1 (by omega) (by decide)).mono ?_
        rintro e w5 ⟨v5, rfl, hw5, hb5⟩
        have HF : Hid (IsW w.heap.size w5 v5 p ∧ Rd w5 b s p ∧ Kp2 b b w w5) := ⟨by have := hw5.weaken HW3.out.2.2.size; rwa [Nat.add_zero] at this, HW3.out.1.below hb5, Kp2.of_below (HW3.out.2.2.trans (hb5.mono HW3.out.2.2.size))⟩
        clear hw5 hb5 HW3 c0' c1' c2'
        go_wp2
        go_ret2
        exact nuq_none HRr.out hnu.out rfl HF.out
    have h9' : ¬ (9 < (d : Int)) := by omega
    by_cases hok' : ¬ ∃ n, Lib.atoiAll (pcN r) = .ok n
    · have hnu : Hid (nuL r = none) := by
        unfold Hid nuL
        rw [if_neg (by rw [← Hd.out]; exact h9)]
        rcases hc : Lib.atoiAll (pcN r) with n | _ | _
        · exact absurd ⟨n, hc⟩ hok'
        · rfl
        · rfl
      go_wp2_with fail
      rw [← HPC.out]
      refine (HAn.out _ HW2.out.2.1.here (fun n hn => hok' ⟨n, hn⟩)).mono ?_
      rintro e w4 ⟨n4, q4, rfl, hn4, hb4⟩
      have HW3 : Hid (Rd w4 b s p ∧ EnR B w4 ∧ Below w.heap.size w w4) := ⟨HW2.out.1.below hb4, HW2.out.2.1.on (hb4.mono (Nat.le_trans (by have := HH.out; omega) HW2.out.2.2.size)), HW2.out.2.2.trans (hb4.mono HW2.out.2.2.size)⟩
      clear hb4 HW2
      obtain ⟨c0', c1', c2'⟩ := rd_cells HW3.out.1
      go_wp2_with fail
      refine (refuse_any b s p 0 ⟨#[97, 32, 110, 117, 109, 98, 101, 114]⟩ _ HW3.out.1 (by omega) (by decide)).mono ?_
      rintro e w5 ⟨v5, rfl, hw5, hb5⟩
      have HF : Hid (IsW w.heap.size w5 v5 p ∧ Rd w5 b s p ∧ Kp2 b b w w5) := ⟨by have := hw5.weaken HW3.out.2.2.size; rwa [Nat.add_zero] at this, HW3.out.1.below hb5, Kp2.of_below (HW3.out.2.2.trans (hb5.mono HW3.out.2.2.size))⟩
      clear hw5 hb5 HW3 c0' c1' c2'
      go_wp2
      go_ret2
      exact nuq_none HRr.out hnu.out rfl HF.out
    have hok := Classical.not_not.1 hok'
    obtain ⟨n, hok⟩ := hok
    have hnb : I64 n := Lib.atoiAll_bounds hok
    have hn0 := hnb.1
    have hn1 := hnb.2
    go_wp2_with fail
    rw [← HPC.out]
    refine (HAo.out n _ hok).mono ?_
    rintro e w4 ⟨ev, rfl, rfl, hb4⟩
    have HW3 : Hid (Rd w4 b s p ∧ EnR B w4 ∧ Below w.heap.size w w4) := ⟨HW2.out.1.below hb4, HW2.out.2.1.on (hb4.mono (Nat.le_trans (by have := HH.out; omega) HW2.out.2.2.size)), HW2.out.2.2.trans (hb4.mono HW2.out.2.2.size)⟩
    clear hb4 HW2
    go_wp2_with fail
    refine (itoaC_any n _ hnb HW3.out.2.1.here).mono ?_
    rintro e w5 ⟨rfl, hb5⟩
    have HW4 : Hid (Rd w5 b s p ∧ EnR B w5 ∧ Below w.heap.size w w5) := ⟨HW3.out.1.below hb5, HW3.out.2.1.on (hb5.mono (Nat.le_trans (by have := HH.out; omega) HW3.out.2.2.size)), HW3.out.2.2.trans (hb5.mono HW3.out.2.2.size)⟩
    clear hb5 HW3
    have HPen := HPe.out n
    by_cases hit : Lib.itoa n = pcN r
    · have hnu : Hid (nuL r = some n) := by unfold Hid nuL; rw [if_neg (by rw [← Hd.out]; exact h9), hok]; simp [hit]
      obtain rfl := HPen.2 hit
      obtain ⟨c0', c1', c2'⟩ := rd_cells HW4.out.1
      have HF : Hid (∀ W, W = w5.setCell ⟨b, 1, none⟩ (.int .i64 ((p : Int) + (pcN r).length)) → Rd W b s (p + (pcN r).length) ∧ Kp2 b b w W) := fun W hW => by
        subst hW
        refine ⟨?_, (Kp2.of_below HW4.out.2.2).trans (Kp2.put _ _ _ _ _)⟩
        have := HW4.out.1.put (q := p + (pcN r).length)
        rw [show (p : Int) + (pcN r).length = ((p + (pcN r).length : Nat) : Int) by omega]
        exact this
      have hpz : ((pcN r).length : Int) ≤ 100001 := by have := Hlen.out; omega
      clear HPen HW4
      go_wp2
      go_ret2
      exact nuq_some HRr.out hnu.out rfl (HF.out _ rfl).1 (HF.out _ rfl).2
    · have hnu : Hid (nuL r = none) := by unfold Hid nuL; rw [if_neg (by rw [← Hd.out]; exact h9), hok]; simp [hit]
      have ePC : (Lib.itoa n == PC.toList) = false := by
        rw [beq_eq_false_iff_ne, ztx_list]
        intro h
        exact hit (HPen.1 (by apply ByteArray.ext; apply Array.ext'; simpa using h))
      have ePC2 : ¬ Lib.itoa n = PC.toList := beq_eq_false_iff_ne.1 ePC
      have HW3 := HW4
      clear HW4 HPen
      obtain ⟨c0', c1', c2'⟩ := rd_cells HW3.out.1
      go_wp2_with fail
      refine (refuse_any b s p 0 ⟨#[97, 32, 110, 117, 109, 98, 101, 114]⟩ _ HW3.out.1 (by omega) (by decide)).mono ?_
      rintro e w5 ⟨v5, rfl, hw5, hb5⟩
      have HF : Hid (IsW w.heap.size w5 v5 p ∧ Rd w5 b s p ∧ Kp2 b b w w5) := ⟨by have := hw5.weaken HW3.out.2.2.size; rwa [Nat.add_zero] at this, HW3.out.1.below hb5, Kp2.of_below (HW3.out.2.2.trans (hb5.mono HW3.out.2.2.size))⟩
      clear hw5 hb5 HW3 c0' c1' c2'
      go_wp2
      go_ret2
      exact nuq_none HRr.out hnu.out rfl HF.out
  | false =>
    have es : sgN r = 0 := by unfold sgN; rw [if_neg (by simp [hsg])]
    rw [hsg] at HPx
    rw [es, ← hd] at hPC hdl hPz hlen
    rw [es, ← hd] at HRu
    rw [Nat.zero_add] at hPC hdl
    rw [show Q.extract 0 Q.size = Q from ByteArray.ext (Array.ext' (by rw [ext_drop]; rfl))] at HRu
    have hdl' : (d : Int) ≤ Q.size := by omega
    have hd0 : (d : Int) ≤ 100000 := by omega
    have HPC := show Hid _ from hPC
    have HPz := show Hid _ from hPz
    have Hd := show Hid _ from hd
    have Hlen := show Hid _ from hlen
    clear hsg hPC hPz hd hlen hPl hQl hQz hdl es hr
    go_enter Tryz.func83, Tryz.ntmps83
    go_wp2_with fail
    refine wp_region_gw (by kernel_rfl) (by kernel_rfl) ?_
    repeat (go_big_quiet_step (fail))
    refine wpQuiet_nil ?_
    rintro _ ⟨t, rfl⟩
    rw [← hQ]
    clear hQ
    have HW1 : Hid (Rd t.wd b s p ∧ EnR B t.wd ∧ Below w.heap.size w t.wd) := ⟨HH.out.1.below t.below, HH.out.2.1.on (t.below.mono (by have := HH.out; omega)), t.below⟩
    generalize t.wd = w1 at *
    clear c0 c1 ne
    go_wp2_with fail
    refine (HPx.out _).mono ?_
    rintro e w' ⟨rfl, hw⟩
    obtain rfl := hw.symm
    go_wp2_with fail
    refine (HRu.out _).mono ?_
    rintro e w' ⟨rfl, hw⟩
    obtain rfl := hw.symm
    have HW2 := HW1
    clear HW1 HPx HRu
    by_cases h9 : 9 < d
    · have h9' : 9 < (d : Int) := by omega
      have hnu : Hid (nuL r = none) := by unfold Hid nuL; rw [if_pos (by rw [← Hd.out]; exact h9)]
      by_cases hok : ∃ n, Lib.atoiAll (pcN r) = .ok n
      · obtain ⟨n, hok⟩ := hok
        go_wp2_with fail
        rw [← HPC.out]
        refine (HAo.out n _ hok).mono ?_
        rintro e w4 ⟨ev, rfl, rfl, hb4⟩
        have HW3 : Hid (Rd w4 b s p ∧ EnR B w4 ∧ Below w.heap.size w w4) := ⟨HW2.out.1.below hb4, HW2.out.2.1.on (hb4.mono (Nat.le_trans (by have := HH.out; omega) HW2.out.2.2.size)), HW2.out.2.2.trans (hb4.mono HW2.out.2.2.size)⟩
        clear hb4 HW2
        obtain ⟨c0', c1', c2'⟩ := rd_cells HW3.out.1
        go_wp2_with fail
        refine (refuse_any b s p 0 ⟨#[97, 32, 110, 117, 109, 98, 101, 114]⟩ _ HW3.out.1 (by omega) (by decide)).mono ?_
        rintro e w5 ⟨v5, rfl, hw5, hb5⟩
        have HF : Hid (IsW w.heap.size w5 v5 p ∧ Rd w5 b s p ∧ Kp2 b b w w5) := ⟨by have := hw5.weaken HW3.out.2.2.size; rwa [Nat.add_zero] at this, HW3.out.1.below hb5, Kp2.of_below (HW3.out.2.2.trans (hb5.mono HW3.out.2.2.size))⟩
        clear hw5 hb5 HW3 c0' c1' c2'
        go_wp2
        go_ret2
        exact nuq_none HRr.out hnu.out rfl HF.out
      · go_wp2_with fail
        rw [← HPC.out]
        refine (HAn.out _ HW2.out.2.1.here (fun n hn => hok ⟨n, hn⟩)).mono ?_
        rintro e w4 ⟨n4, q4, rfl, hn4, hb4⟩
        have HW3 : Hid (Rd w4 b s p ∧ EnR B w4 ∧ Below w.heap.size w w4) := ⟨HW2.out.1.below hb4, HW2.out.2.1.on (hb4.mono (Nat.le_trans (by have := HH.out; omega) HW2.out.2.2.size)), HW2.out.2.2.trans (hb4.mono HW2.out.2.2.size)⟩
        clear hb4 HW2
        obtain ⟨c0', c1', c2'⟩ := rd_cells HW3.out.1
        go_wp2_with fail
        refine (refuse_any b s p 0 ⟨#[97, 32, 110, 117, 109, 98, 101, 114]⟩ _ HW3.out.1 (by omega) (by decide)).mono ?_
        rintro e w5 ⟨v5, rfl, hw5, hb5⟩
        have HF : Hid (IsW w.heap.size w5 v5 p ∧ Rd w5 b s p ∧ Kp2 b b w w5) := ⟨by have := hw5.weaken HW3.out.2.2.size; rwa [Nat.add_zero] at this, HW3.out.1.below hb5, Kp2.of_below (HW3.out.2.2.trans (hb5.mono HW3.out.2.2.size))⟩
        clear hw5 hb5 HW3 c0' c1' c2'
        go_wp2
        go_ret2
        exact nuq_none HRr.out hnu.out rfl HF.out
    have h9' : ¬ (9 < (d : Int)) := by omega
    by_cases hok' : ¬ ∃ n, Lib.atoiAll (pcN r) = .ok n
    · have hnu : Hid (nuL r = none) := by
        unfold Hid nuL
        rw [if_neg (by rw [← Hd.out]; exact h9)]
        rcases hc : Lib.atoiAll (pcN r) with n | _ | _
        · exact absurd ⟨n, hc⟩ hok'
        · rfl
        · rfl
      go_wp2_with fail
      rw [← HPC.out]
      refine (HAn.out _ HW2.out.2.1.here (fun n hn => hok' ⟨n, hn⟩)).mono ?_
      rintro e w4 ⟨n4, q4, rfl, hn4, hb4⟩
      have HW3 : Hid (Rd w4 b s p ∧ EnR B w4 ∧ Below w.heap.size w w4) := ⟨HW2.out.1.below hb4, HW2.out.2.1.on (hb4.mono (Nat.le_trans (by have := HH.out; omega) HW2.out.2.2.size)), HW2.out.2.2.trans (hb4.mono HW2.out.2.2.size)⟩
      clear hb4 HW2
      obtain ⟨c0', c1', c2'⟩ := rd_cells HW3.out.1
      go_wp2_with fail
      refine (refuse_any b s p 0 ⟨#[97, 32, 110, 117, 109, 98, 101, 114]⟩ _ HW3.out.1 (by omega) (by decide)).mono ?_
      rintro e w5 ⟨v5, rfl, hw5, hb5⟩
      have HF : Hid (IsW w.heap.size w5 v5 p ∧ Rd w5 b s p ∧ Kp2 b b w w5) := ⟨by have := hw5.weaken HW3.out.2.2.size; rwa [Nat.add_zero] at this, HW3.out.1.below hb5, Kp2.of_below (HW3.out.2.2.trans (hb5.mono HW3.out.2.2.size))⟩
      clear hw5 hb5 HW3 c0' c1' c2'
      go_wp2
      go_ret2
      exact nuq_none HRr.out hnu.out rfl HF.out
    have hok := Classical.not_not.1 hok'
    obtain ⟨n, hok⟩ := hok
    have hnb : I64 n := Lib.atoiAll_bounds hok
    have hn0 := hnb.1
    have hn1 := hnb.2
    go_wp2_with fail
    rw [← HPC.out]
    refine (HAo.out n _ hok).mono ?_
    rintro e w4 ⟨ev, rfl, rfl, hb4⟩
    have HW3 : Hid (Rd w4 b s p ∧ EnR B w4 ∧ Below w.heap.size w w4) := ⟨HW2.out.1.below hb4, HW2.out.2.1.on (hb4.mono (Nat.le_trans (by have := HH.out; omega) HW2.out.2.2.size)), HW2.out.2.2.trans (hb4.mono HW2.out.2.2.size)⟩
    clear hb4 HW2
    go_wp2_with fail
    refine (itoaC_any n _ hnb HW3.out.2.1.here).mono ?_
    rintro e w5 ⟨rfl, hb5⟩
    have HW4 : Hid (Rd w5 b s p ∧ EnR B w5 ∧ Below w.heap.size w w5) := ⟨HW3.out.1.below hb5, HW3.out.2.1.on (hb5.mono (Nat.le_trans (by have := HH.out; omega) HW3.out.2.2.size)), HW3.out.2.2.trans (hb5.mono HW3.out.2.2.size)⟩
    clear hb5 HW3
    have HPen := HPe.out n
    by_cases hit : Lib.itoa n = pcN r
    · have hnu : Hid (nuL r = some n) := by unfold Hid nuL; rw [if_neg (by rw [← Hd.out]; exact h9), hok]; simp [hit]
      obtain rfl := HPen.2 hit
      obtain ⟨c0', c1', c2'⟩ := rd_cells HW4.out.1
      have HF : Hid (∀ W, W = w5.setCell ⟨b, 1, none⟩ (.int .i64 ((p : Int) + (pcN r).length)) → Rd W b s (p + (pcN r).length) ∧ Kp2 b b w W) := fun W hW => by
        subst hW
        refine ⟨?_, (Kp2.of_below HW4.out.2.2).trans (Kp2.put _ _ _ _ _)⟩
        have := HW4.out.1.put (q := p + (pcN r).length)
        rw [show (p : Int) + (pcN r).length = ((p + (pcN r).length : Nat) : Int) by omega]
        exact this
      have hpz : ((pcN r).length : Int) ≤ 100001 := by have := Hlen.out; omega
      clear HPen HW4
      go_wp2
      go_ret2
      exact nuq_some HRr.out hnu.out rfl (HF.out _ rfl).1 (HF.out _ rfl).2
    · have hnu : Hid (nuL r = none) := by unfold Hid nuL; rw [if_neg (by rw [← Hd.out]; exact h9), hok]; simp [hit]
      have ePC : (Lib.itoa n == PC.toList) = false := by
        rw [beq_eq_false_iff_ne, ztx_list]
        intro h
        exact hit (HPen.1 (by apply ByteArray.ext; apply Array.ext'; simpa using h))
      have ePC2 : ¬ Lib.itoa n = PC.toList := beq_eq_false_iff_ne.1 ePC
      have HW3 := HW4
      clear HW4 HPen
      obtain ⟨c0', c1', c2'⟩ := rd_cells HW3.out.1
      go_wp2_with fail
      refine (refuse_any b s p 0 ⟨#[97, 32, 110, 117, 109, 98, 101, 114]⟩ _ HW3.out.1 (by omega) (by decide)).mono ?_
      rintro e w5 ⟨v5, rfl, hw5, hb5⟩
      have HF : Hid (IsW w.heap.size w5 v5 p ∧ Rd w5 b s p ∧ Kp2 b b w w5) := ⟨by have := hw5.weaken HW3.out.2.2.size; rwa [Nat.add_zero] at this, HW3.out.1.below hb5, Kp2.of_below (HW3.out.2.2.trans (hb5.mono HW3.out.2.2.size))⟩
      clear hw5 hb5 HW3 c0' c1' c2'
      go_wp2
      go_ret2
      exact nuq_none HRr.out hnu.out rfl HF.out

end Go.Proofs.YtfjbnejmcanamaaGreatDoor
