/-
  Texts of this claim, one behind the other: what each is about stands ahead of it.
-/
import Derived.Shelf.LaysM
import Derived.Shelf.Strconv.AppendIntPublic10
import Derived.Shelf.Small.Strs
import Derived.Test.YtfjbnejmcanamaaGreatDoorProg
import Derived.Test.YtfjbnejmcanamaaGreatDoorK25
import Derived.Lib.BufferRead
import Derived.BigQuiet
import Derived.OwnWalk
import Derived.Test.YtfjbnejmcanamaaGreatDoorK16
import Derived.Test.YtfjbnejmcanamaaGreatDoorK1
/-
  DERIVED: THE SHELF's CONTRACTS AT THIS DUMP, IN PLAIN WORDS (tools/lay-plain.mjs out of 'YtfjbnejmcanamaaGreatDoorBS0.lean', which tools/lay-shelf.mjs wrote): THE SAME DECLARATIONS UNDER THE SAME NAMES: 'import', 'namespace', 'open', 'def', 'theorem' AND NOTHING ELSE: no command of the shelf's: FOR A HAND-IN. Each laying: the table of numbers ('.._ren') and one theorem, a field a fact of the dump's own or the kernel's comparison; each contract: ONE APPLICATION.
-/
namespace Go.Proofs
open Go.Shelf
def Tryz.laysM176_ren : Go.Shelf.Ren := ⟨fun | 176 => 74 | 249 => 100 | 288 => 114 | 283 => 125 | 284 => 126 | 285 => 127 | 286 => 128 | 129 => 141 | 317 => 140 | 318 => 142 | 319 => 143 | 320 => 144 | 337 => 149 | 338 => 150 | n => n, fun | 37 => 45 | 2 => 2 | 3 => 3 | 53 => 123 | 4 => 4 | 9 => 9 | 171 => 200 | 0 => 0 | 173 => 203 | 212 => 217 | 51 => 120 | 5 => 5 | 20 => 20 | 213 => 218 | 46 => 86 | 232 => 230 | 233 => 231 | n => n, fun | 17 => 5 | 18 => 8 | 19 => 9 | n => n⟩
theorem Tryz.laysM176 : Go.Proofs.LaysM.n176 Tryz.prog Tryz.laysM176_ren := {
  mixed := by kernel_rfl
  f129 := Tryz.func141.trans (congrArg some (by kernel_rfl))
  f176 := Tryz.func74.trans (congrArg some (by kernel_rfl))
  f249 := Tryz.func100.trans (congrArg some (by kernel_rfl))
  f283 := Tryz.func125.trans (congrArg some (by kernel_rfl))
  f284 := Tryz.func126.trans (congrArg some (by kernel_rfl))
  f285 := Tryz.func127.trans (congrArg some (by kernel_rfl))
  f286 := Tryz.func128.trans (congrArg some (by kernel_rfl))
  f288 := Tryz.func114.trans (congrArg some (by kernel_rfl))
  f317 := Tryz.func140.trans (congrArg some (by kernel_rfl))
  f318 := Tryz.func142.trans (congrArg some (by kernel_rfl))
  f319 := Tryz.func143.trans (congrArg some (by kernel_rfl))
  f320 := Tryz.func144.trans (congrArg some (by kernel_rfl))
  f337 := Tryz.func149.trans (congrArg some (by kernel_rfl))
  f338 := Tryz.func150.trans (congrArg some (by kernel_rfl))
  t0 := Tryz.underlying0
  a0 := Tryz.isAgg0
  z0 := Tryz.sizeOf0
  v0 := Tryz.zeroValue0
  t2 := Tryz.underlying2
  a2 := Tryz.isAgg2
  z2 := Tryz.sizeOf2
  v2 := Tryz.zeroValue2
  t3 := Tryz.underlying3
  a3 := Tryz.isAgg3
  z3 := Tryz.sizeOf3
  v3 := Tryz.zeroValue3
  t4 := Tryz.underlying4
  a4 := Tryz.isAgg4
  z4 := Tryz.sizeOf4
  v4 := Tryz.zeroValue4
  t5 := Tryz.underlying5
  a5 := Tryz.isAgg5
  z5 := Tryz.sizeOf5
  v5 := Tryz.zeroValue5
  t9 := Tryz.underlying9
  a9 := Tryz.isAgg9
  z9 := Tryz.sizeOf9
  v9 := Tryz.zeroValue9
  t20 := Tryz.underlying20
  a20 := Tryz.isAgg20
  z20 := Tryz.sizeOf20
  v20 := Tryz.zeroValue20
  t37 := Tryz.underlying45
  a37 := Tryz.isAgg45
  z37 := Tryz.sizeOf45
  v37 := Tryz.zeroValue45
  t46 := Tryz.underlying86
  a46 := Tryz.isAgg86
  z46 := Tryz.sizeOf86
  v46 := Tryz.zeroValue86
  t51 := Tryz.underlying120
  a51 := Tryz.isAgg120
  z51 := Tryz.sizeOf120
  v51 := Tryz.zeroValue120
  t53 := Tryz.underlying123
  a53 := Tryz.isAgg123
  z53 := Tryz.sizeOf123
  v53 := Tryz.zeroValue123
  t171 := Tryz.underlying200
  a171 := Tryz.isAgg200
  z171 := Tryz.sizeOf200
  v171 := Tryz.zeroValue200
  t173 := Tryz.underlying203
  a173 := Tryz.isAgg203
  z173 := Tryz.sizeOf203
  v173 := Tryz.zeroValue203
  t212 := Tryz.underlying217
  a212 := Tryz.isAgg217
  z212 := Tryz.sizeOf217
  v212 := Tryz.zeroValue217
  t213 := Tryz.underlying218
  a213 := Tryz.isAgg218
  z213 := Tryz.sizeOf218
  t232 := Tryz.underlying230
  a232 := Tryz.isAgg230
  z232 := Tryz.sizeOf230
  v232 := Tryz.zeroValue230
  t233 := Tryz.underlying231
  a233 := Tryz.isAgg231
  z233 := Tryz.sizeOf231
  v233 := Tryz.zeroValue231
  g17 := by kernel_rfl
  g18 := by kernel_rfl
  g19 := by kernel_rfl
  i0 := by kernel_rfl
  i2 := by kernel_rfl
  i3 := by kernel_rfl
  i4 := by kernel_rfl
  i5 := by kernel_rfl
  i9 := by kernel_rfl
  i20 := by kernel_rfl
  i37 := by kernel_rfl
  i46 := by kernel_rfl
  i51 := by kernel_rfl
  i53 := by kernel_rfl
  i171 := by kernel_rfl
  i173 := by kernel_rfl
  i212 := by kernel_rfl
  i232 := by kernel_rfl
  i233 := by kernel_rfl
  m17 := by kernel_rfl
  m18 := by kernel_rfl
  m19 := by kernel_rfl }
def Tryz.lays137_ren : Go.Shelf.Ren := ⟨fun | 137 => 137 | 217 => 121 | 266 => 138 | n => n, fun | 9 => 9 | 5 => 5 | 3 => 3 | n => n, fun | n => n⟩
theorem Tryz.lays137 : Go.Proofs.Lays.n137 Tryz.prog Tryz.lays137_ren := {
  mixed := by kernel_rfl
  f137 := Tryz.func137.trans (congrArg some (by kernel_rfl))
  f217 := Tryz.func121.trans (congrArg some (by kernel_rfl))
  f266 := Tryz.func138.trans (congrArg some (by kernel_rfl))
  t3 := Tryz.underlying3
  a3 := Tryz.isAgg3
  z3 := Tryz.sizeOf3
  v3 := Tryz.zeroValue3
  t5 := Tryz.underlying5
  a5 := Tryz.isAgg5
  z5 := Tryz.sizeOf5
  v5 := Tryz.zeroValue5
  t9 := Tryz.underlying9
  a9 := Tryz.isAgg9
  z9 := Tryz.sizeOf9
  v9 := Tryz.zeroValue9 }
end Go.Proofs

/-
  Contracts of package vector: appendEscaped.
-/
namespace Go.Proofs.YtfjbnejmcanamaaGreatDoor
open Go.RowKit Go.Lib

theorem vapp_step {w : World} {ops : Array Oper} {o : Oper} {a : Act} {K : Act → World → Prop} {Q : Exit → Act → World → Prop} {E : Prop} (hgd : o.guard = none) (s x : Operand)
    (ho : o.op = .call { callee := .builtin .append, args := #[s, x], argTypes := #[45, 45] })
    (lo : Nat) (v : Value) (xs ys : List UInt8) (hs : a.eval s = v) (hown : OwY lo w v xs) (g n m c : Nat) (vs : Array Value) (t : TypeId) (hx : a.eval x = .slice (some ⟨g, 0, none⟩) m c) (hm : m = ys.length) (hm0 : 0 < m) (hg : w.heap[g]? = some (.cells vs t)) (hv : vs.toList = byteCells ys)
    (hlo : lo ≤ w.heap.size) (hl : xs.length + ys.length ≤ 140737488355328) (hn : n = xs.length + ys.length)
    (h : ∀ v' w', w'.ownsRow lo 5 1 v' n (byteCells (xs ++ ys)) → KpY lo w w' → K (a.put o.dst v') w') :
    if Region.wanted o (yielded ops a.tmps) = true then Oper.wp Tryz.prog o a w K Q else E := by
  obtain ⟨i0, hi, hz0, hz1, hz2⟩ := info_byte
  subst hm
  refine step_append_lies w hgd s x _ ho lo 5 i0 (.int .u8 0) 1 1 Tryz.underlying45 hi hz0 hz1 hz2 rfl (by decide) v xs.length (byteCells xs) hs hown ⟨g, 0, none⟩ ys.length c (byteCells ys) hx (by rw [byteCells_length, Nat.mul_one]) (lit_src hg _ hv) (byteCells_ones ys) hm0 (by unfold maxLen; omega) (by omega) hlo w.heap.size rfl ?_
  intro g' cap' w' h2 h3 _ _
  refine h _ w' ?_ ((KpY.refl lo w).grown hlo hown h3)
  rw [byteCells_append, ← hn] at *
  exact h2

theorem take_next (s : ByteArray) (k : Nat) (h : k < s.size) : s.data.toList.take (k + 1) = s.data.toList.take k ++ [s[k]] := by
  have h' : k < s.data.toList.length := by simpa using h
  rw [List.take_succ_eq_append_getElem h']
  rfl
theorem vtake_all (s : ByteArray) : s.data.toList.take s.size = s.data.toList := by
  have : s.data.toList.length = s.size := by simp
  rw [← this, List.take_length]

/-- What lies so far. -/
structure EsW (lo : Nat) (w : World) (xs : List UInt8) (s : ByteArray) (k : Nat) (u : Value) (wr : World) : Prop where
  ow : OwY lo wr u (xs ++ escL (s.data.toList.take k))
  kp : KpY lo w wr
  sz : lo ≤ wr.heap.size

set_option maxRecDepth 10000 in
set_option maxHeartbeats 4000000 in
theorem escd_any (lo : Nat) (v : Value) (xs : List UInt8) (s : ByteArray) (w : World) (h : OwY lo w v xs) (hlo : lo ≤ w.heap.size) (hl : xs.length + 4 * s.size ≤ 140737488355328) :
    Calls Tryz.prog 51 #[v, .string s] w fun e w' => ∃ v', e = .returned v' ∧ OwY lo w' v' (xs ++ escL s.data.toList) ∧ KpY lo w w' := by
  have H0 : Hid (EsW lo w xs s 0 v w) := ⟨by simpa [escL] using h, KpY.refl _ _, hlo⟩
  have HL : Hid (lo ≤ w.heap.size ∧ xs.length + 4 * s.size ≤ 140737488355328) := ⟨hlo, hl⟩
  have HS : Hid (∀ (k : Nat) W, k < 256 → Calls Tryz.prog 78 #[.int .u8 k] W fun e w' => e = .returned (.bool (stD k)) ∧ w' = W) := fun k W hk => stands_any k W hk
  have hsz : s.size ≤ 9223372036854775807 := by omega
  clear h hlo hl
  go_enter Tryz.func51, Tryz.ntmps51
  go_wp2_with fail
  go_loopw [0, 9] (fun u0 i wr => ∃ (u : Value) (k : Nat), u = u0 ∧ k ≤ s.size ∧ i = .int .i64 k ∧ Hid (EsW lo w xs s k u wr)) (fun _ i _ => s.size - (RowKit.intOf i).toNat)
  case atStart => exact ⟨v, 0, rfl, Nat.zero_le _, rfl, H0⟩
  case round =>
    obtain ⟨u, k, rfl, hk, rfl, HR⟩ := hrel
    clear H0
    by_cases hlt : k < s.size
    · have hb := UInt8.toNat_lt s[k]
      have HX : Hid (∀ W V, W.ownsRow lo 5 1 V ((xs ++ escL (s.data.toList.take k)).length + (escB s[k]).length) (byteCells (xs ++ escL (s.data.toList.take k) ++ escB s[k])) → KpY lo w W → EsW lo w xs s (k + 1) V W) := fun W V h1 h2 => by
        refine ⟨?_, h2, Nat.le_trans HL.out.1 h2.b.size⟩
        rw [take_next s k hlt, escL_app, ← List.append_assoc]
        have e : escL [s[k]] = escB s[k] := by simp [escL]
        rw [e]
        unfold OwY
        rw [List.length_append (bs := escB s[k])]
        exact h1
      have hlen : Hid ((xs ++ escL (s.data.toList.take k)).length + 4 ≤ 140737488355328) := by
        unfold Hid
        have h1 := escL_len (s.data.toList.take k)
        have h2 := HL.out.2
        have h3 : (s.data.toList.take k).length ≤ k := by simp; omega
        rw [List.length_append]
        omega
      obtain ⟨XS, hXS⟩ : ∃ XS, XS = xs ++ escL (s.data.toList.take k) := ⟨_, rfl⟩
      rw [← hXS] at HX hlen
      have HO : Hid (OwY lo wr u XS ∧ KpY lo w wr ∧ lo ≤ wr.heap.size) := ⟨by rw [hXS]; exact HR.out.ow, HR.out.kp, HR.out.sz⟩
      clear hXS HR
      cases hst : stD (s[k]).toNat with
      | true =>
        have he : escB s[k] = [s[k]] := by unfold escB; rw [if_pos hst]
        rw [he] at HX
        have HA : Hid (OwY lo (wr.alloc (.cells #[.int .u8 (s[k]).toNat] 5)) u XS ∧ KpY lo w (wr.alloc (.cells #[.int .u8 (s[k]).toNat] 5)) ∧ lo ≤ (wr.alloc (.cells #[.int .u8 (s[k]).toNat] 5)).heap.size) := ⟨own_below HO.out.1 ((Below.refl _ _).alloc (Nat.le_refl _) _), HO.out.2.1.alloc HL.out.1 _, by have := HO.out.2.2; simp; omega⟩
        clear HO
        go_wp2_with (first | (go_at_call 78; refine (HS.out _ _ (by assumption)).mono ?_; rintro e w' ⟨rfl, hw⟩; obtain rfl := hw.symm) | (at_builtin; go_loud (refine app_lit rfl _ _ rfl lo u XS [s[k]] rfl HA.out.1 wr.heap.size _ 1 1 #[.int .u8 (s[k]).toNat] 5 rfl rfl (alc_new _ _) rfl HA.out.2.2 (by have := hlen.out; simp; omega) rfl ?_)))
        intro v1 w1 h1 h2
        have HF := HX.out _ _ h1 (HA.out.2.1.trans h2)
        have HF' : Hid (EsW lo w xs s (k + 1) v1 w1) := HF
        clear h1 h2 HF HX HA
        go_wp2
        go_roundw
        case rel => exact ⟨v1, k + 1, rfl, by omega, by go_num, HF'⟩
        case measure => simp [RowKit.intOf]; omega
      | false =>
        have he : escB s[k] = [38, bt ((s[k]).toNat / 16), bt ((s[k]).toNat % 16), 59] := by unfold escB; rw [if_neg (by simp [hst])]
        have hq : ((s[k]).toNat : Int) / 16 = (((s[k]).toNat / 16 : Nat) : Int) := by omega
        have hq1 : (s[k]).toNat / 16 < 16 := by omega
        have hr1 : (s[k]).toNat % 16 < 16 := by omega
        have ha := and15u ⟨(s[k]).toNat, hb⟩
        have HD : Hid (∀ (p : Nat) (h : p < 16), ((⟨#[48, 49, 50, 51, 52, 53, 54, 55, 56, 57, 97, 98, 99, 100, 101, 102]⟩ : ByteArray)[p]'(by simpa [ByteArray.size] using h)).toNat = sx p) := fun p h => dig_at ⟨p, h⟩
        simp only at ha
        rw [he] at HX
        have HY : Hid (∀ W V, W.ownsRow lo 5 1 V (XS.length + 4) (byteCells (XS ++ [38, bt ((s[k]).toNat / 16), bt ((s[k]).toNat % 16), 59])) → KpY lo w W → EsW lo w xs s (k + 1) V W) := HX.out
        clear HX he
        generalize (s[k]).toNat / 16 = q at *
        generalize (s[k]).toNat % 16 = r at *
        have hqI : (q : Int) < 16 := by omega
        have hrI : (r : Int) < 16 := by omega
        go_wp2_with (go_at_call 78; refine (HS.out _ _ (by assumption)).mono ?_; rintro e w' ⟨rfl, hw⟩; obtain rfl := hw.symm)
        refine R3.wp_region_lit 7 1 2 (fun _ b => .slice (some ⟨b, 0, none⟩) 4 4) (fun _ => .cells #[.int .u8 38, .int .u8 (((⟨#[48, 49, 50, 51, 52, 53, 54, 55, 56, 57, 97, 98, 99, 100, 101, 102]⟩ : ByteArray)[q]'(by simpa [ByteArray.size] using hq1)).toNat : Nat), .int .u8 (((⟨#[48, 49, 50, 51, 52, 53, 54, 55, 56, 57, 97, 98, 99, 100, 101, 102]⟩ : ByteArray)[r]'(by simpa [ByteArray.size] using hr1)).toNat : Nat), .int .u8 59] 5) [28] (by kernel_rfl) (by kernel_rfl) rfl ?_ rfl ?_
        · intro k hk
          have hc : k = 0 := by omega
          subst hc; rfl
        apply Exists.intro
        refine ⟨fun bs ne => ?_, ?_, ?_⟩
        · simp only [List.take_succ_cons, List.take_zero]
          repeat (go_big_quiet_step (fail))
          exact wpQuiet_nil rfl
        · intro i h1 h2
          have hc : i = 7 := by omega
          subst hc
          exact ⟨_, rfl, rfl, fun _ => by kernel_rfl⟩
        intro bl w2 hbl hlo2 _
        obtain ⟨q1, q2⟩ := hlo2 7 (by omega) (by omega)
        simp only [R3.layL]
        generalize bl 7 = g0 at *
        clear hlo2
        refine wpAny_one 8 (by kernel_rfl) rfl ?_
        intro K hK
        have e1 := HD.out q hq1
        have e2 := HD.out r hr1
        have HE := bt_nat hq1
        have HE2 := bt_nat hr1
        have HW : Hid (OwY lo w2 u XS ∧ KpY lo w w2 ∧ lo ≤ w2.heap.size) := ⟨HO.out.1.below hbl, HO.out.2.1.trans (KpY.of_below HO.out.2.2 hbl), Nat.le_trans HO.out.2.2 hbl.size⟩
        refine vapp_step (by rfl) _ _ (by rfl) lo u XS [38, bt q, bt r, 59] (by rfl) HW.out.1 g0 _ 4 4 _ 5 (by rfl) rfl (by decide) q2 ?_ HW.out.2.2 (by have := hlen.out; simp; omega) rfl ?_
        · rw [e1, e2]
          simp [byteCells, HE, HE2]
        intro v1 w1 h1 h2
        have HF' : Hid (EsW lo w xs s (k + 1) v1 w1) := HY.out _ _ h1 (HW.out.2.1.trans h2)
        clear h1 h2 HY HW HO hbl q1 q2 HE HE2 e1 e2 HD
        refine hK _ _ ?_
        clear hK K
        refine wpAny_one 9 (by kernel_rfl) rfl ?_
        intro K hK
        go_simp
        refine hK _ _ ?_
        clear hK K
        refine wpAny_done (by kernel_rfl) ?_ _
        go_wp2
        go_roundw
        case rel => exact ⟨v1, k + 1, rfl, by omega, by go_num, HF'⟩
        case measure => simp [RowKit.intOf]; omega
    · obtain rfl : k = s.size := by omega
      go_wp2
      go_ret
      refine ⟨_, rfl, ?_, HR.out.kp⟩
      have := HR.out.ow
      rwa [vtake_all] at this

end Go.Proofs.YtfjbnejmcanamaaGreatDoor

/-
  Contracts of package vector: firstByte, Plain.
-/
namespace Go.Proofs.YtfjbnejmcanamaaGreatDoor
open Go.RowKit

def hexL : List UInt8 := [48, 49, 50, 51, 52, 53, 54, 55, 56, 57, 97, 98, 99, 100, 101, 102]
/-- A small sixteen's worth. -/
def sxI (c : Nat) : Int := Lib.indexByte hexL c.toUInt8
theorem sxI_fin : ∀ c : Fin 256, -1 ≤ sxI c.val ∧ sxI c.val ≤ 15 := by decide +kernel
theorem sxI_bd {c : Nat} (h : c < 256) : -1 ≤ sxI c ∧ sxI c ≤ 15 := sxI_fin ⟨c, h⟩
/-- The byte at a place. -/
def byA (s : ByteArray) (p : Nat) : Nat := if h : p < s.size then (s[p]).toNat else 0
theorem byA_at {s : ByteArray} {p : Nat} (h : p < s.size) : byA s p = (s[p]).toNat := by unfold byA; rw [dif_pos h]
theorem byA_lt (s : ByteArray) (p : Nat) : byA s p < 256 := by
  unfold byA
  split
  · exact UInt8.toNat_lt _
  · decide
theorem byA_ext (s : ByteArray) (p q : Nat) (h : p ≤ s.size) : byA (s.extract p s.size) q = byA s (p + q) := by
  by_cases hq : p + q < s.size
  · have h' : q < (s.extract p s.size).size := by simp; omega
    rw [byA_at hq, byA_at h']
    congr 1
    exact ByteArray.getElem_extract h'
  · have h' : ¬ q < (s.extract p s.size).size := by simp; omega
    unfold byA
    rw [dif_neg hq, dif_neg h']
/-- The first byte of what was escaped, and how many bytes tell it. -/
def fsP (s : ByteArray) (p : Nat) : Nat × Nat :=
  if s.size ≤ p then (0, 0) else if stD (byA s p) = true then (byA s p, 1)
  else if s.size < p + 4 ∨ byA s p ≠ 38 ∨ byA s (p + 3) ≠ 59 ∨ sxI (byA s (p + 1)) < 0 ∨ sxI (byA s (p + 2)) < 0 then (0, 0)
  else if stD (16 * (sxI (byA s (p + 1))).toNat + (sxI (byA s (p + 2))).toNat) = true then (0, 0)
  else (16 * (sxI (byA s (p + 1))).toNat + (sxI (byA s (p + 2))).toNat, 4)
theorem fsP_ext (s : ByteArray) (p : Nat) (h : p ≤ s.size) : fsP (s.extract p s.size) 0 = fsP s p := by
  have hz : (s.extract p s.size).size = s.size - p := by simp
  have a1 : ((s.extract p s.size).size ≤ 0) = (s.size ≤ p) := by rw [hz]; exact propext ⟨fun h => by omega, fun h => by omega⟩
  have a2 : ((s.extract p s.size).size < 0 + 4) = (s.size < p + 4) := by rw [hz]; exact propext ⟨fun h => by omega, fun h => by omega⟩
  unfold fsP
  simp only [a1, a2, byA_ext s p _ h, Nat.zero_add, Nat.add_zero]
theorem fsP_bd (s : ByteArray) (p : Nat) : (fsP s p).1 < 256 ∧ (fsP s p).2 ≤ 4 ∧ ((fsP s p).2 ≠ 0 → p + (fsP s p).2 ≤ s.size) := by
  have b1 := sxI_bd (byA_lt s (p + 1))
  have b2 := sxI_bd (byA_lt s (p + 2))
  have b3 := byA_lt s p
  unfold fsP
  split
  · exact ⟨by decide, by decide, fun h => absurd rfl h⟩
  · split
    · exact ⟨b3, by omega, fun _ => by omega⟩
    · split
      · exact ⟨by decide, by decide, fun h => absurd rfl h⟩
      · split
        · exact ⟨by decide, by decide, fun h => absurd rfl h⟩
        · exact ⟨by show 16 * _ + _ < 256; omega, by omega, fun _ => by omega⟩

theorem bdrw (w : World) : ∀ n, Below w.heap.size w (w.drewN n)
  | 0 => Below.refl _ _
  | n + 1 => (bdrw w n).drew
theorem or_sx : ∀ h k : Fin 16, bits .or .i64 ((h.val : Int) * 16) (k.val : Int) = (16 * h.val + k.val : Nat) := by decide +kernel

set_option maxRecDepth 10000 in
set_option maxHeartbeats 4000000 in
theorem fsb_any (s : ByteArray) (w : World) (h0 : 0 < s.size) (hs : s.size ≤ 9223372036854775807) :
    Calls Tryz.prog 120 #[.string s] w fun e w' => e = .returned (.tuple #[.int .u8 (fsP s 0).1, .int .i64 (fsP s 0).2]) ∧ Below w.heap.size w w' := by
  have HS : Hid (∀ (k : Nat) W, k < 256 → Calls Tryz.prog 78 #[.int .u8 k] W fun e w' => e = .returned (.bool (stD k)) ∧ w' = W) := fun k W hk => stands_any k W hk
  have HI : Hid (∀ (c : Nat) W, Calls Tryz.prog 137 #[.string ⟨#[48, 49, 50, 51, 52, 53, 54, 55, 56, 57, 97, 98, 99, 100, 101, 102]⟩, .int .u8 c] W fun e w' => e = .returned (.int .i64 (sxI c)) ∧ w' = W) := fun c W => Any.strings_IndexByte Tryz.lays137 ⟨#[48, 49, 50, 51, 52, 53, 54, 55, 56, 57, 97, 98, 99, 100, 101, 102]⟩ (c : Int) W
  obtain ⟨F, hF⟩ : ∃ F, F = fsP s 0 := ⟨_, rfl⟩
  have HF : Hid (F = fsP s 0) := hF
  rw [← hF]
  clear hF
  have hb0 := UInt8.toNat_lt s[0]
  have h0' : (0 : Int) < s.size := by omega
  cases hst : stD (s[0]).toNat with
  | true =>
    have e : F = ((s[0]).toNat, 1) := by
      rw [HF.out]
      unfold fsP
      rw [if_neg (by omega), byA_at h0, if_pos hst]
    rw [e]
    clear HF e
    go_enter Tryz.func120, Tryz.ntmps120
    go_wp2_with (go_at_call 78; refine (HS.out _ _ (by assumption)).mono ?_; rintro e w' ⟨rfl, hw⟩; obtain rfl := hw.symm)
    go_ret2
    exact ⟨rfl, by first | exact Below.refl _ _ | exact bdrw w _⟩
  | false =>
    have e : F = if s.size < 4 ∨ (s[0]).toNat ≠ 38 ∨ byA s 3 ≠ 59 ∨ sxI (byA s 1) < 0 ∨ sxI (byA s 2) < 0 then (0, 0) else if stD (16 * (sxI (byA s 1)).toNat + (sxI (byA s 2)).toNat) = true then (0, 0) else (16 * (sxI (byA s 1)).toNat + (sxI (byA s 2)).toNat, 4) := by
      rw [HF.out]
      unfold fsP
      rw [if_neg (by omega), byA_at h0, if_neg (by simp [hst])]
    have HE := show Hid _ from e
    clear HF e
    by_cases h4 : s.size < 4
    · have h4' : (s.size : Int) < 4 := by omega
      obtain rfl : F = (0, 0) := by rw [HE.out, if_pos (.inl h4)]
      go_enter Tryz.func120, Tryz.ntmps120
      go_wp2_with (go_at_call 78; refine (HS.out _ _ (by assumption)).mono ?_; rintro e w' ⟨rfl, hw⟩; obtain rfl := hw.symm)
      go_ret2
      exact ⟨rfl, by first | exact Below.refl _ _ | exact bdrw w _⟩
    have h4' : ¬ ((s.size : Int) < 4) := by omega
    have d4 : decide ((s.size : Int) < 4) = false := decide_eq_false h4'
    have h3' : (3 : Int) < s.size := by omega
    have h2' : (2 : Int) < s.size := by omega
    have h1' : (1 : Int) < s.size := by omega
    have h3 : 3 < s.size := by omega
    have h2 : 2 < s.size := by omega
    have h1 : 1 < s.size := by omega
    rw [byA_at h3, byA_at h2, byA_at h1] at HE
    have hb1 := UInt8.toNat_lt s[1]
    have hb2 := UInt8.toNat_lt s[2]
    by_cases h38 : ¬ (s[0]).toNat = 38
    · have g38 : (((s[0]).toNat : Int) == 38) = false := by rw [beq_eq_false_iff_ne]; omega
      obtain rfl : F = (0, 0) := by rw [HE.out, if_pos (.inr (.inl h38))]
      go_enter Tryz.func120, Tryz.ntmps120
      go_wp2_with (go_at_call 78; refine (HS.out _ _ (by assumption)).mono ?_; rintro e w' ⟨rfl, hw⟩; obtain rfl := hw.symm)
      go_ret2
      exact ⟨rfl, by first | exact Below.refl _ _ | exact bdrw w _⟩
    have g38 : ((s[0]).toNat : Int) = 38 := by omega
    have H38 : Hid (∀ W, Calls Tryz.prog 78 #[.int .u8 38] W fun e w' => e = .returned (.bool false) ∧ w' = W) := fun W => HS.out 38 W (by decide)
    clear hst
    have h38' : (s[0]).toNat = 38 := by omega
    by_cases h59 : ¬ (s[3]).toNat = 59
    · have g59 : (((s[3]).toNat : Int) != 59) = true := by rw [bne_iff_ne]; omega
      obtain rfl : F = (0, 0) := by rw [HE.out, if_pos (.inr (.inr (.inl h59)))]
      go_enter Tryz.func120, Tryz.ntmps120
      go_wp2_with (go_at_call 78; refine (H38.out _).mono ?_; rintro e w' ⟨rfl, hw⟩; obtain rfl := hw.symm)
      go_ret2
      exact ⟨rfl, by first | exact Below.refl _ _ | exact bdrw w _⟩
    have g59 : ((s[3]).toNat : Int) = 59 := by omega
    have h59' : (s[3]).toNat = 59 := by omega
    have bd1 := sxI_bd hb1
    have bd2 := sxI_bd hb2
    by_cases hA0 : sxI (s[1]).toNat < 0
    · obtain rfl : F = (0, 0) := by rw [HE.out, if_pos (.inr (.inr (.inr (.inl hA0))))]
      go_enter Tryz.func120, Tryz.ntmps120
      go_wp2_with (go_at_call 78; refine (H38.out _).mono ?_; rintro e w' ⟨rfl, hw⟩; obtain rfl := hw.symm)
      go_quiet (first | (go_at_call 137; exact Calls.quiet_of_same (HI.out _ _)))
      go_wp2
      go_ret2
      exact ⟨rfl, by first | exact Below.refl _ _ | exact bdrw w _⟩
    by_cases hB0 : sxI (s[2]).toNat < 0
    · obtain rfl : F = (0, 0) := by rw [HE.out, if_pos (.inr (.inr (.inr (.inr hB0))))]
      go_enter Tryz.func120, Tryz.ntmps120
      go_wp2_with (go_at_call 78; refine (H38.out _).mono ?_; rintro e w' ⟨rfl, hw⟩; obtain rfl := hw.symm)
      go_quiet (first | (go_at_call 137; exact Calls.quiet_of_same (HI.out _ _)))
      go_wp2
      go_ret2
      exact ⟨rfl, by first | exact Below.refl _ _ | exact bdrw w _⟩
    obtain ⟨A, hA⟩ : ∃ A : Nat, sxI (s[1]).toNat = A := ⟨(sxI (s[1]).toNat).toNat, (Int.toNat_of_nonneg (by omega)).symm⟩
    obtain ⟨B, hB⟩ : ∃ B : Nat, sxI (s[2]).toNat = B := ⟨(sxI (s[2]).toNat).toNat, (Int.toNat_of_nonneg (by omega)).symm⟩
    rw [hA, hB] at HE
    rw [hA] at bd1
    rw [hB] at bd2
    have hA16 : A < 16 := by omega
    have hB16 : B < 16 := by omega
    have hor := or_sx ⟨A, hA16⟩ ⟨B, hB16⟩
    simp only at hor
    have hn1 : ¬ ((A : Int) < 0) := by omega
    have hn2 : ¬ ((B : Int) < 0) := by omega
    have HV : Hid (∀ W, Calls Tryz.prog 78 #[.int .u8 (16 * (A : Int) + (B : Int))] W fun e w' => e = .returned (.bool (stD (16 * A + B))) ∧ w' = W) := fun W => by
      rw [show 16 * (A : Int) + (B : Int) = ((16 * A + B : Nat) : Int) by omega]
      exact HS.out _ W (by omega)
    have HE2 : Hid (F = if stD (16 * A + B) = true then (0, 0) else (16 * A + B, 4)) := by
      unfold Hid
      have := HE.out
      rw [if_neg (by simp [h38', h59']; omega)] at this
      simpa using this
    clear HE HS
    cases hv : stD (16 * A + B) with
    | true =>
      rw [hv] at HV
      obtain rfl : F = (0, 0) := by rw [HE2.out, if_pos hv]
      clear HE2 hv
      go_enter Tryz.func120, Tryz.ntmps120
      go_wp2_with (go_at_call 78; refine (H38.out _).mono ?_; rintro e w' ⟨rfl, hw⟩; obtain rfl := hw.symm)
      go_quiet (first | (go_at_call 137; exact Calls.quiet_of_same (HI.out _ _)))
      simp only [hA, hB]
      go_wp2_with (go_at_call 78; refine (HV.out _).mono ?_; rintro e w' ⟨rfl, hw⟩; obtain rfl := hw.symm)
      go_ret2
      exact ⟨rfl, bdrw w _⟩
    | false =>
      rw [hv] at HV
      obtain rfl : F = (16 * A + B, 4) := by rw [HE2.out, if_neg (by simp [hv])]
      clear HE2 hv
      go_enter Tryz.func120, Tryz.ntmps120
      go_wp2_with (go_at_call 78; refine (H38.out _).mono ?_; rintro e w' ⟨rfl, hw⟩; obtain rfl := hw.symm)
      go_quiet (first | (go_at_call 137; exact Calls.quiet_of_same (HI.out _ _)))
      simp only [hA, hB]
      go_wp2_with (go_at_call 78; refine (HV.out _).mono ?_; rintro e w' ⟨rfl, hw⟩; obtain rfl := hw.symm)
      go_ret2
      exact ⟨by simp, bdrw w _⟩

end Go.Proofs.YtfjbnejmcanamaaGreatDoor

/-
  Contract of package colour: Text, in six and in eight sixteens.
-/
namespace Go.Proofs.YtfjbnejmcanamaaGreatDoor
open Go.RowKit

set_option maxRecDepth 20000 in
set_option maxHeartbeats 2000000 in
theorem text_six (r g b : Nat) (w : World) (hr : r < 256) (hg : g < 256) (hb : b < 256) (ht : tw r = false ∨ (tw r = true ∧ tw g = false) ∨ (tw r = true ∧ tw g = true ∧ tw b = false)) :
    Calls Tryz.prog 50 #[.agg #[.int .u8 r, .int .u8 g, .int .u8 b, .int .u8 255]] w fun e w' => e = .returned (.string ⟨([35, bt (r / 16), bt (r % 16), bt (g / 16), bt (g % 16), bt (b / 16), bt (b % 16)] : List UInt8).toArray⟩) ∧ Below w.heap.size w w' := by
  have hT : Hid (∀ x w, x < 256 → Calls Tryz.prog 75 #[.int .u8 ((x : Nat) : Int)] w fun e w' => e = .returned (.bool (tw x)) ∧ w' = w) := fun x w hx => isTwice_any x w hx
  have hL : Hid (∀ x w, x < 256 → Calls Tryz.prog 76 #[.int .u8 ((x : Nat) : Int)] w fun e w' => e = .returned (.int .u8 ((sx (x % 16) : Nat) : Int)) ∧ w' = w) := fun x w hx => low_any x w hx
  have hH : Hid (∀ x w, x < 256 → Calls Tryz.prog 77 #[.int .u8 ((x : Nat) : Int)] w fun e w' => e = .returned (.int .u8 ((sx (x / 16) : Nat) : Int)) ∧ w' = w) := fun x w hx => high_any x w hx
  have HB : Hid (((bt (r / 16)).toNat : Int) = ((sx (r / 16) : Nat) : Int) ∧ ((bt (r % 16)).toNat : Int) = ((sx (r % 16) : Nat) : Int) ∧ ((bt (g / 16)).toNat : Int) = ((sx (g / 16) : Nat) : Int) ∧ ((bt (g % 16)).toNat : Int) = ((sx (g % 16) : Nat) : Int) ∧ ((bt (b / 16)).toNat : Int) = ((sx (b / 16) : Nat) : Int) ∧ ((bt (b % 16)).toNat : Int) = ((sx (b % 16) : Nat) : Int)) := ⟨bt_nat (by omega), bt_nat (Nat.mod_lt _ (by decide)), bt_nat (by omega), bt_nat (Nat.mod_lt _ (by decide)), bt_nat (by omega), bt_nat (Nat.mod_lt _ (by decide))⟩
  obtain ⟨i0, hi, hz0, hz1, hz2⟩ := info_parts8 info_u8
  rcases ht with t1 | ⟨t1, t2⟩ | ⟨t1, t2, t3⟩
  all_goals
    go_enter Tryz.func50, Tryz.ntmps50
    go_wp2_with (go_at_call 75; refine (hT.out _ _ (by assumption)).mono ?_; rintro e w' ⟨rfl, rfl⟩)
    have A := AtC.new w r g b 255 26
    have L : Below w.heap.size w (w.alloc (.cells #[.int .u8 r, .int .u8 g, .int .u8 b, .int .u8 255] 26)) := (Below.refl _ w).alloc (Nat.le_refl _) _
    have sz : (w.alloc (.cells #[.int .u8 r, .int .u8 g, .int .u8 b, .int .u8 255] 26)).heap.size = w.heap.size + 1 := by simp
    generalize hX0 : w.alloc (.cells #[.int .u8 r, .int .u8 g, .int .u8 b, .int .u8 255] 26) = X0 at *
    have R0 := World.ownsRow_lit (base := X0.heap.size) (e := 5) (size := 1) X0 #[.int .u8 35] 1 (Nat.le_refl _) (by decide) rfl
    have Z0 : Below X0.heap.size X0 (X0.alloc (.cells #[.int .u8 35] 5)) := (Below.refl _ _).alloc (Nat.le_refl _) _
    rw [sz] at R0
    generalize hW0 : X0.alloc (.cells #[.int .u8 35] 5) = W0 at *
    have HW : Hid (AtC X0 w.heap.size ⟨r, g, b, 255⟩ ∧ Below w.heap.size w X0 ∧ Below X0.heap.size X0 W0 ∧ W0.ownsRow (w.heap.size + 1) 5 1 (.slice (some ⟨w.heap.size + 1, 0, none⟩) 1 1) 1 [.int .u8 35] ∧ X0.heap.size = w.heap.size + 1) := ⟨A, L, Z0, R0, sz⟩
    clear A L Z0 R0 hX0 hW0 sz
    refine R3.wp_region_lit 19 1 2 (fun _ b => .slice (some ⟨b, 0, none⟩) 6 6) (fun _ => .cells #[.int .u8 (sx (r / 16) : Nat), .int .u8 (sx (r % 16) : Nat), .int .u8 (sx (g / 16) : Nat), .int .u8 (sx (g % 16) : Nat), .int .u8 (sx (b / 16) : Nat), .int .u8 (sx (b % 16) : Nat)] 5) [55] (by kernel_rfl) (by kernel_rfl) rfl ?_ rfl ?_
    · intro k hk
      have hc : k = 0 := by omega
      subst hc; rfl
    apply Exists.intro
    refine ⟨fun bs ne => ?_, ?_, ?_⟩
    · obtain ⟨A, L, Z, _⟩ := HW.out
      have d0 := fun t : Gb W0 bs => (A.below (Z.trans (t.below.mono Z.size))).1
      have d1 := fun t : Gb W0 bs => (A.below (Z.trans (t.below.mono Z.size))).2.1
      have d2 := fun t : Gb W0 bs => (A.below (Z.trans (t.below.mono Z.size))).2.2.1
      have d3 := fun t : Gb W0 bs => (A.below (Z.trans (t.below.mono Z.size))).2.2.2
      clear A L Z
      simp only [List.take_succ_cons, List.take_zero]
      repeat (go_big_quiet_step (first
        | (go_at_call 76; exact gb_same (hL.out _ _ (by assumption)))
        | (go_at_call 77; exact gb_same (hH.out _ _ (by assumption)))))
      exact wpQuiet_nil rfl
    · intro i h1 h2
      have hc : i = 19 := by omega
      subst hc
      exact ⟨_, rfl, rfl, fun _ => by kernel_rfl⟩
    intro bl wr hbl hlo _
    obtain ⟨q1, q2⟩ := hlo 19 (by omega) (by omega)
    simp only [R3.layL]
    generalize bl 19 = g0 at *
    clear hlo
    obtain ⟨c1, _, _⟩ := heap_cells q2
    refine wpAny_one 20 (by kernel_rfl) rfl ?_
    intro K hK
    obtain ⟨A, L, Z, R, sz⟩ := HW.out
    replace R := own_below R hbl
    replace Z := Z.trans (hbl.mono Z.size)
    have zs : w.heap.size + 1 ≤ wr.heap.size := by rw [← sz]; exact Z.size
    refine step_append_lies wr (by rfl) _ _ 45 (by rfl) (w.heap.size + 1) 5 i0 (.int .u8 0) 1 1 Tryz.underlying45 hi hz0 hz1 hz2 rfl (by decide) (.slice (some ⟨w.heap.size + 1, 0, none⟩) 1 1) 1 [.int .u8 35] (by rfl) R ⟨g0, 0, none⟩ 6 6 [.int .u8 (sx (r / 16) : Nat), .int .u8 (sx (r % 16) : Nat), .int .u8 (sx (g / 16) : Nat), .int .u8 (sx (g % 16) : Nat), .int .u8 (sx (b / 16) : Nat), .int .u8 (sx (b % 16) : Nat)] (by rfl) rfl ?_ ?_ (by decide) (by decide) (by decide) zs wr.heap.size rfl ?_
    · intro j u hj
      rw [add_at g0 j, c1 j]
      simpa using hj
    · intro u hu
      simp at hu
      rcases hu with rfl | rfl | rfl | rfl | rfl | rfl <;> rfl
    intro h0 cap0 X1 hown hgrow _ _
    have L1 : Below w.heap.size w X1 := by
      have h2 := Z.grown hgrow Z.size (fun b hb => by have := (R.lt b hb).1; omega)
      exact L.trans (h2.mono L.size)
    have hcv := conv_own [35, bt (r / 16), bt (r % 16), bt (g / 16), bt (g % 16), bt (b / 16), bt (b % 16)] hown rfl (fun j hj => by
        simp only [List.length_cons, List.length_nil] at hj
        obtain ⟨e1, e2, e3, e4, e5, e6⟩ := HB.out
        have hc : j = 0 ∨ j = 1 ∨ j = 2 ∨ j = 3 ∨ j = 4 ∨ j = 5 ∨ j = 6 := by omega
        rcases hc with rfl | rfl | rfl | rfl | rfl | rfl | rfl
        · rfl
        · simp [e1]
        · simp [e2]
        · simp [e3]
        · simp [e4]
        · simp [e5]
        · simp [e6])
    have cb := (A.below (Z.grown hgrow Z.size (fun b hb => by have := (R.lt b hb).1; omega)))
    obtain ⟨d0, d1, d2, d3⟩ := cb
    have HL : Hid (Below w.heap.size w X1) := L1
    clear A L Z R sz zs hown hgrow c1 q1 q2 hbl L1
    refine hK _ _ ?_
    clear hK K
    refine wpAny_one 21 (by kernel_rfl) rfl ?_
    intro K hK
    go_simp
    refine hK _ _ ?_
    clear hK K
    refine wpAny_done (by kernel_rfl) ?_ _
    go_wp2
    go_ret
    exact ⟨rfl, HL.out⟩

set_option maxRecDepth 20000 in
set_option maxHeartbeats 2000000 in
theorem text_eight (r g b a : Nat) (w : World) (hr : r < 256) (hg : g < 256) (hb : b < 256) (ha : a < 256) (h255 : ((a : Int) == 255) = false) :
    Calls Tryz.prog 50 #[.agg #[.int .u8 r, .int .u8 g, .int .u8 b, .int .u8 a]] w fun e w' => e = .returned (.string ⟨([35, bt (r / 16), bt (r % 16), bt (g / 16), bt (g % 16), bt (b / 16), bt (b % 16), bt (a / 16), bt (a % 16)] : List UInt8).toArray⟩) ∧ Below w.heap.size w w' := by
  have hT : Hid (∀ x w, x < 256 → Calls Tryz.prog 75 #[.int .u8 ((x : Nat) : Int)] w fun e w' => e = .returned (.bool (tw x)) ∧ w' = w) := fun x w hx => isTwice_any x w hx
  have hL : Hid (∀ x w, x < 256 → Calls Tryz.prog 76 #[.int .u8 ((x : Nat) : Int)] w fun e w' => e = .returned (.int .u8 ((sx (x % 16) : Nat) : Int)) ∧ w' = w) := fun x w hx => low_any x w hx
  have hH : Hid (∀ x w, x < 256 → Calls Tryz.prog 77 #[.int .u8 ((x : Nat) : Int)] w fun e w' => e = .returned (.int .u8 ((sx (x / 16) : Nat) : Int)) ∧ w' = w) := fun x w hx => high_any x w hx
  have HB : Hid (((bt (r / 16)).toNat : Int) = ((sx (r / 16) : Nat) : Int) ∧ ((bt (r % 16)).toNat : Int) = ((sx (r % 16) : Nat) : Int) ∧ ((bt (g / 16)).toNat : Int) = ((sx (g / 16) : Nat) : Int) ∧ ((bt (g % 16)).toNat : Int) = ((sx (g % 16) : Nat) : Int) ∧ ((bt (b / 16)).toNat : Int) = ((sx (b / 16) : Nat) : Int) ∧ ((bt (b % 16)).toNat : Int) = ((sx (b % 16) : Nat) : Int) ∧ ((bt (a / 16)).toNat : Int) = ((sx (a / 16) : Nat) : Int) ∧ ((bt (a % 16)).toNat : Int) = ((sx (a % 16) : Nat) : Int)) := ⟨bt_nat (by omega), bt_nat (Nat.mod_lt _ (by decide)), bt_nat (by omega), bt_nat (Nat.mod_lt _ (by decide)), bt_nat (by omega), bt_nat (Nat.mod_lt _ (by decide)), bt_nat (by omega), bt_nat (Nat.mod_lt _ (by decide))⟩
  obtain ⟨i0, hi, hz0, hz1, hz2⟩ := info_parts8 info_u8
  go_enter Tryz.func50, Tryz.ntmps50
  go_wp2_with (go_at_call 75; refine (hT.out _ _ (by assumption)).mono ?_; rintro e w' ⟨rfl, rfl⟩)
  have A := AtC.new w r g b a 26
  have L : Below w.heap.size w (w.alloc (.cells #[.int .u8 r, .int .u8 g, .int .u8 b, .int .u8 a] 26)) := (Below.refl _ w).alloc (Nat.le_refl _) _
  have sz : (w.alloc (.cells #[.int .u8 r, .int .u8 g, .int .u8 b, .int .u8 a] 26)).heap.size = w.heap.size + 1 := by simp
  generalize hX0 : w.alloc (.cells #[.int .u8 r, .int .u8 g, .int .u8 b, .int .u8 a] 26) = X0 at *
  have R0 := World.ownsRow_lit (base := X0.heap.size) (e := 5) (size := 1) X0 #[.int .u8 35] 1 (Nat.le_refl _) (by decide) rfl
  have Z0 : Below X0.heap.size X0 (X0.alloc (.cells #[.int .u8 35] 5)) := (Below.refl _ _).alloc (Nat.le_refl _) _
  rw [sz] at R0
  generalize hW0 : X0.alloc (.cells #[.int .u8 35] 5) = W0 at *
  have HW : Hid (AtC X0 w.heap.size ⟨r, g, b, a⟩ ∧ Below w.heap.size w X0 ∧ Below X0.heap.size X0 W0 ∧ W0.ownsRow (w.heap.size + 1) 5 1 (.slice (some ⟨w.heap.size + 1, 0, none⟩) 1 1) 1 [.int .u8 35] ∧ X0.heap.size = w.heap.size + 1) := ⟨A, L, Z0, R0, sz⟩
  clear A L Z0 R0 hX0 hW0 sz
  refine R3.wp_region_lit 19 1 2 (fun _ b => .slice (some ⟨b, 0, none⟩) 6 6) (fun _ => .cells #[.int .u8 (sx (r / 16) : Nat), .int .u8 (sx (r % 16) : Nat), .int .u8 (sx (g / 16) : Nat), .int .u8 (sx (g % 16) : Nat), .int .u8 (sx (b / 16) : Nat), .int .u8 (sx (b % 16) : Nat)] 5) [55] (by kernel_rfl) (by kernel_rfl) rfl ?_ rfl ?_
  · intro k hk
    have hc : k = 0 := by omega
    subst hc; rfl
  apply Exists.intro
  refine ⟨fun bs ne => ?_, ?_, ?_⟩
  · obtain ⟨A, L, Z, _⟩ := HW.out
    have d0 := fun t : Gb W0 bs => (A.below (Z.trans (t.below.mono Z.size))).1
    have d1 := fun t : Gb W0 bs => (A.below (Z.trans (t.below.mono Z.size))).2.1
    have d2 := fun t : Gb W0 bs => (A.below (Z.trans (t.below.mono Z.size))).2.2.1
    have d3 := fun t : Gb W0 bs => (A.below (Z.trans (t.below.mono Z.size))).2.2.2
    clear A L Z
    simp only [List.take_succ_cons, List.take_zero]
    repeat (go_big_quiet_step (first
      | (go_at_call 76; exact gb_same (hL.out _ _ (by assumption)))
      | (go_at_call 77; exact gb_same (hH.out _ _ (by assumption)))))
    exact wpQuiet_nil rfl
  · intro i h1 h2
    have hc : i = 19 := by omega
    subst hc
    exact ⟨_, rfl, rfl, fun _ => by kernel_rfl⟩
  intro bl wr hbl hlo _
  obtain ⟨q1, q2⟩ := hlo 19 (by omega) (by omega)
  simp only [R3.layL]
  generalize bl 19 = g0 at *
  clear hlo
  obtain ⟨c1, _, _⟩ := heap_cells q2
  refine wpAny_one 20 (by kernel_rfl) rfl ?_
  intro K hK
  obtain ⟨A, L, Z, R, sz⟩ := HW.out
  replace R := own_below R hbl
  replace Z := Z.trans (hbl.mono Z.size)
  have zs : w.heap.size + 1 ≤ wr.heap.size := by rw [← sz]; exact Z.size
  refine step_append_lies wr (by rfl) _ _ 45 (by rfl) (w.heap.size + 1) 5 i0 (.int .u8 0) 1 1 Tryz.underlying45 hi hz0 hz1 hz2 rfl (by decide) (.slice (some ⟨w.heap.size + 1, 0, none⟩) 1 1) 1 [.int .u8 35] (by rfl) R ⟨g0, 0, none⟩ 6 6 [.int .u8 (sx (r / 16) : Nat), .int .u8 (sx (r % 16) : Nat), .int .u8 (sx (g / 16) : Nat), .int .u8 (sx (g % 16) : Nat), .int .u8 (sx (b / 16) : Nat), .int .u8 (sx (b % 16) : Nat)] (by rfl) rfl ?_ ?_ (by decide) (by decide) (by decide) zs wr.heap.size rfl ?_
  · intro j u hj
    rw [add_at g0 j, c1 j]
    simpa using hj
  · intro u hu
    simp at hu
    rcases hu with rfl | rfl | rfl | rfl | rfl | rfl <;> rfl
  intro h0 cap0 X1 hown hgrow _ _
  have Z1 := Z.grown hgrow Z.size (fun b hb => by have := (R.lt b hb).1; omega)
  have cb := A.below Z1
  have HW' : Hid (AtC X0 w.heap.size ⟨r, g, b, a⟩ ∧ Below w.heap.size w X0 ∧ Below X0.heap.size X0 X1 ∧ X1.ownsRow (w.heap.size + 1) 5 1 (.slice (some ⟨h0, 0, none⟩) 7 cap0) 7 [.int .u8 35, .int .u8 (sx (r / 16) : Nat), .int .u8 (sx (r % 16) : Nat), .int .u8 (sx (g / 16) : Nat), .int .u8 (sx (g % 16) : Nat), .int .u8 (sx (b / 16) : Nat), .int .u8 (sx (b % 16) : Nat)] ∧ X0.heap.size = w.heap.size + 1) := ⟨A, L, Z1, hown, sz⟩
  clear HW
  have HW := HW'
  clear HW'
  obtain ⟨d0, d1, d2, d3⟩ := cb
  clear A L Z R sz zs hown hgrow c1 q1 q2 hbl Z1
  refine hK _ _ ?_
  clear hK K
  refine wpAny_one 21 (by kernel_rfl) rfl ?_
  intro K hK
  go_simp
  refine hK _ _ ?_
  clear hK K
  refine wpAny_done (by kernel_rfl) ?_ _
  go_wp2_with fail
  clear d0 d1 d2 d3
  refine R3.wp_region_lit 7 1 2 (fun _ b => .slice (some ⟨b, 0, none⟩) 2 2) (fun _ => .cells #[.int .u8 (sx (a / 16) : Nat), .int .u8 (sx (a % 16) : Nat)] 5) [67] (by kernel_rfl) (by kernel_rfl) rfl ?_ rfl ?_
  · intro k hk
    have hc : k = 0 := by omega
    subst hc; rfl
  apply Exists.intro
  refine ⟨fun bs ne => ?_, ?_, ?_⟩
  · obtain ⟨A, L, Z, _⟩ := HW.out
    have d0 := fun t : Gb X1 bs => (A.below (Z.trans (t.below.mono Z.size))).1
    have d1 := fun t : Gb X1 bs => (A.below (Z.trans (t.below.mono Z.size))).2.1
    have d2 := fun t : Gb X1 bs => (A.below (Z.trans (t.below.mono Z.size))).2.2.1
    have d3 := fun t : Gb X1 bs => (A.below (Z.trans (t.below.mono Z.size))).2.2.2
    clear A L Z
    simp only [List.take_succ_cons, List.take_zero]
    repeat (go_big_quiet_step (first
      | (go_at_call 76; exact gb_same (hL.out _ _ (by assumption)))
      | (go_at_call 77; exact gb_same (hH.out _ _ (by assumption)))))
    exact wpQuiet_nil rfl
  · intro i h1 h2
    have hc : i = 7 := by omega
    subst hc
    exact ⟨_, rfl, rfl, fun _ => by kernel_rfl⟩
  intro bl wr hbl hlo _
  obtain ⟨q1, q2⟩ := hlo 7 (by omega) (by omega)
  simp only [R3.layL]
  generalize bl 7 = g0 at *
  clear hlo
  obtain ⟨c1, _, _⟩ := heap_cells q2
  refine wpAny_one 8 (by kernel_rfl) rfl ?_
  intro K hK
  obtain ⟨A, L, Z, R, sz⟩ := HW.out
  replace R := own_below R hbl
  replace Z := Z.trans (hbl.mono Z.size)
  have zs : w.heap.size + 1 ≤ wr.heap.size := by rw [← sz]; exact Z.size
  refine step_append_lies wr (by rfl) _ _ 45 (by rfl) (w.heap.size + 1) 5 i0 (.int .u8 0) 1 1 Tryz.underlying45 hi hz0 hz1 hz2 rfl (by decide) (.slice (some ⟨h0, 0, none⟩) 7 cap0) 7 [.int .u8 35, .int .u8 (sx (r / 16) : Nat), .int .u8 (sx (r % 16) : Nat), .int .u8 (sx (g / 16) : Nat), .int .u8 (sx (g % 16) : Nat), .int .u8 (sx (b / 16) : Nat), .int .u8 (sx (b % 16) : Nat)] (by rfl) R ⟨g0, 0, none⟩ 2 2 [.int .u8 (sx (a / 16) : Nat), .int .u8 (sx (a % 16) : Nat)] (by rfl) rfl ?_ ?_ (by decide) (by decide) (by decide) zs wr.heap.size rfl ?_
  · intro j u hj
    rw [add_at g0 j, c1 j]
    simpa using hj
  · intro u hu
    simp at hu
    rcases hu with rfl | rfl <;> rfl
  intro h1 cap1 X2 hown hgrow _ _
  have L1 : Below w.heap.size w X2 := by
    have h2 := Z.grown hgrow Z.size (fun b hb => by have := (R.lt b hb).1; omega)
    exact L.trans (h2.mono L.size)
  have hcv := conv_own [35, bt (r / 16), bt (r % 16), bt (g / 16), bt (g % 16), bt (b / 16), bt (b % 16), bt (a / 16), bt (a % 16)] hown rfl (fun j hj => by
      simp only [List.length_cons, List.length_nil] at hj
      obtain ⟨e1, e2, e3, e4, e5, e6, e7, e8⟩ := HB.out
      have hc : j = 0 ∨ j = 1 ∨ j = 2 ∨ j = 3 ∨ j = 4 ∨ j = 5 ∨ j = 6 ∨ j = 7 ∨ j = 8 := by omega
      rcases hc with rfl | rfl | rfl | rfl | rfl | rfl | rfl | rfl | rfl
      · rfl
      · simp [e1]
      · simp [e2]
      · simp [e3]
      · simp [e4]
      · simp [e5]
      · simp [e6]
      · simp [e7]
      · simp [e8])
  have HL : Hid (Below w.heap.size w X2) := L1
  clear A L Z R sz zs hown hgrow c1 q1 q2 hbl L1
  refine hK _ _ ?_
  clear hK K
  refine wpAny_one 9 (by kernel_rfl) rfl ?_
  intro K hK
  go_simp
  refine hK _ _ ?_
  clear hK K
  refine wpAny_done (by kernel_rfl) ?_ _
  go_wp2
  go_ret
  exact ⟨rfl, HL.out⟩

/-- What a colour's text is. -/
theorem text_any (c : Co) (w : World) (hc : c.ok) :
    Calls Tryz.prog 50 #[(Value.agg #[.int .u8 c.r, .int .u8 c.g, .int .u8 c.b, .int .u8 c.a])] w fun e w' => e = .returned (.string (txt c)) ∧ Below w.heap.size w w' := by
  obtain ⟨⟨r1, r2⟩, ⟨g1, g2⟩, ⟨b1, b2⟩, ⟨a1, a2⟩⟩ := hc
  obtain ⟨r, g, b, a⟩ := c
  simp only at r1 r2 g1 g2 b1 b2 a1 a2
  obtain ⟨r, rfl⟩ := Int.eq_ofNat_of_zero_le r1
  obtain ⟨g, rfl⟩ := Int.eq_ofNat_of_zero_le g1
  obtain ⟨b, rfl⟩ := Int.eq_ofNat_of_zero_le b1
  obtain ⟨a, rfl⟩ := Int.eq_ofNat_of_zero_le a1
  unfold txt txtL
  simp only [Int.toNat_natCast]
  by_cases h : a = 255
  · subst h
    by_cases ht : tw r = true ∧ tw g = true ∧ tw b = true
    · rw [if_pos ⟨rfl, ht⟩]
      exact text_short r g b w (by omega) (by omega) (by omega) ht.1 ht.2.1 ht.2.2
    · rw [if_neg (fun h => ht h.2), if_pos rfl]
      refine text_six r g b w (by omega) (by omega) (by omega) ?_
      cases e1 : tw r
      · exact .inl rfl
      · cases e2 : tw g
        · exact .inr (.inl ⟨rfl, rfl⟩)
        · cases e3 : tw b
          · exact .inr (.inr ⟨rfl, rfl, rfl⟩)
          · exact absurd ⟨e1, e2, e3⟩ ht
  · rw [if_neg (fun h' => h h'.1), if_neg h]
    exact text_eight r g b a w (by omega) (by omega) (by omega) (by omega) (by rw [beq_eq_false_iff_ne]; omega)

end Go.Proofs.YtfjbnejmcanamaaGreatDoor

/-
  Strokes as they come in.
-/
namespace Go.Proofs.YtfjbnejmcanamaaGreatDoor
open Go.RowKit

/-- A stroke as it comes in: its numbers are such as its types hold. -/
def WfS (s : St) : Prop := (0 ≤ s.k ∧ s.k ≤ 255) ∧ (I64 s.r.x ∧ I64 s.r.y ∧ I64 s.r.w ∧ I64 s.r.h) ∧ s.c.ok ∧ s.b.ok ∧ s.t.size ≤ 9223372036854775807 ∧ I64 s.n
def Wfs (l : List St) : Prop := ∀ s ∈ l, WfS s
theorem Wfs.txs {l : List St} (h : Wfs l) : Txs l := fun s hs => (h s hs).2.2.2.2.1

end Go.Proofs.YtfjbnejmcanamaaGreatDoor

/-
  Contracts of package vector: appendNumber, formOf, appendLine.
-/
namespace Go.Proofs.YtfjbnejmcanamaaGreatDoor
open Go.RowKit Go.Shelf Go.Lib

/-- The table of the library's numbers. -/
def PwT (lo : Nat) (w : World) : Prop := Lib.TabBelow Tryz.prog lo w "internal/strconv.uint64pow10" .u64 Lib.pow10Tab
theorem PwT.on {lo : Nat} {w w1 : World} (h : PwT lo w) (hb : Below lo w w1) : PwT lo w1 := Lib.TabBelow.on h hb
theorem PwT.mono {lo lo2 : Nat} {w : World} (h : PwT lo w) (hl : lo ≤ lo2) : PwT lo2 w := fun w' hb => h w' (hb.mono hl)

set_option maxHeartbeats 1000000 in
set_option maxRecDepth 100000 in
theorem num_any (lo : Nat) (v : Value) (xs : List UInt8) (i : Int) (w : World) (h : OwY lo w v xs) (hlo : lo ≤ w.heap.size) (hl : xs.length + 21 ≤ 140737488355328) (hi : I64 i) (T : PwT lo w) :
    Calls Tryz.prog 49 #[v, .int .i64 i] w fun e w' => ∃ v', e = .returned v' ∧ OwY lo w' v' (xs ++ itoa i) ∧ KpY lo w w' := by
  have HC : Hid (Calls Tryz.prog 74 #[v, .int .i64 i, .int .i64 10] w fun e w' => ∃ v', e = .returned v' ∧ OwY lo w' v' (xs ++ itoa i) ∧ KpY lo w w') := by
    refine (Any.strconv_AppendInt_10 Tryz.laysM176 lo xs.length i hi.1 hi.2 v (byteCells xs) w h hlo hl T).mono ?_
    rintro e w' ⟨v', rfl, h1, h2, h3⟩
    refine ⟨v', rfl, ?_, ⟨h2, h3⟩⟩
    unfold OwY
    rw [byteCells_append, List.length_append]
    exact h1
  have hi0 := hi.1
  have hi1 := hi.2
  clear h hlo hl hi T
  go_enter Tryz.func49, Tryz.ntmps49
  go_wp2_with fail
  refine HC.out.mono ?_
  rintro e w1 ⟨v1, rfl, h1, h2⟩
  have H1 : Hid (OwY lo w1 v1 (xs ++ itoa i) ∧ KpY lo w w1) := ⟨h1, h2⟩
  clear h1 h2 HC
  go_wp2
  go_ret
  exact ⟨_, rfl, H1.out⟩

set_option maxHeartbeats 1000000 in
theorem vform_any (k : Int) (w : World) (h0 : 0 ≤ k) (h1 : k ≤ 255) :
    Calls Tryz.prog 30 #[.int .u8 k] w fun e w' => e = .returned (.string ⟨(forF k).toArray⟩) ∧ w' = w := by
  have hc : k = 1 ∨ k = 2 ∨ k = 3 ∨ k = 4 ∨ (¬ k = 1 ∧ ¬ k = 2 ∧ ¬ k = 3 ∧ ¬ k = 4) := by omega
  rcases hc with rfl | rfl | rfl | rfl | ⟨n1, n2, n3, n4⟩
  iterate 4
    · go_enter Tryz.func30, Tryz.ntmps30
      go_wp2
      go_ret
      exact ⟨rfl, rfl⟩
  · have e : forF k = opeF := by unfold forF; rw [if_neg n1, if_neg n2, if_neg n3, if_neg n4]
    rw [e]
    go_enter Tryz.func30, Tryz.ntmps30
    go_wp2
    go_ret
    exact ⟨rfl, rfl⟩

/-- What lies so far of a line. -/
structure LiW (lo b : Nat) (w : World) (xs : List UInt8) (form : ByteArray) (s : St) (n : Nat) (u : Value) (wr : World) : Prop where
  ow : OwY lo wr u (xs ++ linF (form.data.toList.take n) s)
  kp : KpY lo w wr
  sz : lo ≤ wr.heap.size
  bx : Bk wr b (#[.int .u8 s.k, .int .i64 s.r.x, .int .i64 s.r.y, .int .i64 s.r.w, .int .i64 s.r.h, .int .u8 s.c.r, .int .u8 s.c.g, .int .u8 s.c.b, .int .u8 s.c.a, .int .u8 s.b.r, .int .u8 s.b.g, .int .u8 s.b.b, .int .u8 s.b.a, .string s.t, .int .i64 s.n]) 53

theorem itoa_len {i : Int} (h : I64 i) : (itoa i).length ≤ 21 := itoa_length_le i h.1 h.2
theorem pce_len (s : St) (h : WfS s) (b : Nat) : (pceF s b).length ≤ 30 + 4 * s.t.size := by
  obtain ⟨_, ⟨h1, h2, h3, h4⟩, _, _, _, h5⟩ := h
  have e1 := itoa_len h1
  have e2 := itoa_len h2
  have e3 := itoa_len h3
  have e4 := itoa_len h4
  have e5 := itoa_len h5
  have e6 := txt_len s.c
  have e7 := txt_len s.b
  have e8 := escL_len s.t.data.toList
  have e9 : s.t.data.toList.length = s.t.size := by simp
  unfold pceF
  repeat' split
  all_goals first | omega | (simp; try omega)
theorem lin_len (s : St) (h : WfS s) : ∀ l : List UInt8, (linF l s).length ≤ l.length * (30 + 4 * s.t.size)
  | [] => by simp [linF]
  | b :: l => by
    have h1 := lin_len s h l
    have h2 := pce_len s h b.toNat
    rw [linF_cons, List.length_append, List.length_cons, Nat.succ_mul]
    omega

end Go.Proofs.YtfjbnejmcanamaaGreatDoor
