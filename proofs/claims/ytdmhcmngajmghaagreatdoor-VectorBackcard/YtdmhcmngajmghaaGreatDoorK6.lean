/-
  Texts of this claim, one behind the other: what each is about stands ahead of it.
-/
import Derived.Test.YtdmhcmngajmghaaGreatDoorK5
import Derived.Shelf.LaysM
import Derived.Shelf.Strconv.AppendIntPublic10
import Derived.Shelf.Small.Strs
import Derived.Test.YtdmhcmngajmghaaGreatDoorProg
import Derived.Test.YtdmhcmngajmghaaGreatDoorK3
import Derived.Test.YtdmhcmngajmghaaGreatDoorK1
/-
  Contracts of package vector: appendEscaped.
-/
namespace Go.Proofs.YtdmhcmngajmghaaGreatDoor
open Go.RowKit Go.Lib

theorem vapp_step {w : World} {ops : Array Oper} {o : Oper} {a : Act} {K : Act → World → Prop} {Q : Exit → Act → World → Prop} {E : Prop} (hgd : o.guard = none) (s x : Operand)
    (ho : o.op = .call { callee := .builtin .append, args := #[s, x], argTypes := #[53, 53] })
    (lo : Nat) (v : Value) (xs ys : List UInt8) (hs : a.eval s = v) (hown : OwY lo w v xs) (g n m c : Nat) (vs : Array Value) (t : TypeId) (hx : a.eval x = .slice (some ⟨g, 0, none⟩) m c) (hm : m = ys.length) (hm0 : 0 < m) (hg : w.heap[g]? = some (.cells vs t)) (hv : vs.toList = byteCells ys)
    (hlo : lo ≤ w.heap.size) (hl : xs.length + ys.length ≤ 140737488355328) (hn : n = xs.length + ys.length)
    (h : ∀ v' w', w'.ownsRow lo 5 1 v' n (byteCells (xs ++ ys)) → KpY lo w w' → K (a.put o.dst v') w') :
    if Region.wanted o (yielded ops a.tmps) = true then Oper.wp Tryz.prog o a w K Q else E := by
  obtain ⟨i0, hi, hz0, hz1, hz2⟩ := info_byte
  subst hm
  refine step_append_lies w hgd s x _ ho lo 5 i0 (.int .u8 0) 1 1 Tryz.underlying53 hi hz0 hz1 hz2 rfl (by decide) v xs.length (byteCells xs) hs hown ⟨g, 0, none⟩ ys.length c (byteCells ys) hx (by rw [byteCells_length, Nat.mul_one]) (lit_src hg _ hv) (byteCells_ones ys) hm0 (by unfold maxLen; omega) (by omega) hlo w.heap.size rfl ?_
  intro g' cap' w' h2 h3 _ _
  refine h _ w' ?_ ((KpY.refl lo w).grown hlo hown h3)
  rw [byteCells_append, ← hn] at *
  exact h2

theorem take_next (s : ByteArray) (k : Nat) (h : k < s.size) : s.data.toList.take (k + 1) = s.data.toList.take k ++ [s[k]] := by
  have h' : k < s.data.toList.length := by simpa using h
  rw [List.take_succ_eq_append_getElem h']
  rfl
theorem vtake_all (s : ByteArray) : s.data.toList.take s.size = s.data.toList := by
  have : s.data.toList.length = s.size := by simp
  rw [← this, List.take_length]

/-- What lies so far. -/
structure EsW (lo : Nat) (w : World) (xs : List UInt8) (s : ByteArray) (k : Nat) (u : Value) (wr : World) : Prop where
  ow : OwY lo wr u (xs ++ escL (s.data.toList.take k))
  kp : KpY lo w wr
  sz : lo ≤ wr.heap.size

set_option maxRecDepth 10000 in
set_option maxHeartbeats 4000000 in
theorem escd_any (lo : Nat) (v : Value) (xs : List UInt8) (s : ByteArray) (w : World) (h : OwY lo w v xs) (hlo : lo ≤ w.heap.size) (hl : xs.length + 4 * s.size ≤ 140737488355328) :
    Calls Tryz.prog 49 #[v, .string s] w fun e w' => ∃ v', e = .returned v' ∧ OwY lo w' v' (xs ++ escL s.data.toList) ∧ KpY lo w w' := by
  have H0 : Hid (EsW lo w xs s 0 v w) := ⟨by simpa [escL] using h, KpY.refl _ _, hlo⟩
  have HL : Hid (lo ≤ w.heap.size ∧ xs.length + 4 * s.size ≤ 140737488355328) := ⟨hlo, hl⟩
  have HS : Hid (∀ (k : Nat) W, k < 256 → Calls Tryz.prog 75 #[.int .u8 k] W fun e w' => e = .returned (.bool (stD k)) ∧ w' = W) := fun k W hk => stands_any k W hk
  have hsz : s.size ≤ 9223372036854775807 := by omega
  clear h hlo hl
  go_enter Tryz.func49, Tryz.ntmps49
  go_wp2_with fail
  go_loopw [0, 9] (fun u0 i wr => ∃ (u : Value) (k : Nat), u = u0 ∧ k ≤ s.size ∧ i = .int .i64 k ∧ Hid (EsW lo w xs s k u wr)) (fun _ i _ => s.size - (RowKit.intOf i).toNat)
  case atStart => exact ⟨v, 0, rfl, Nat.zero_le _, rfl, H0⟩
  case round =>
    obtain ⟨u, k, rfl, hk, rfl, HR⟩ := hrel
    clear H0
    by_cases hlt : k < s.size
    · have hb := UInt8.toNat_lt s[k]
      have HX : Hid (∀ W V, W.ownsRow lo 5 1 V ((xs ++ escL (s.data.toList.take k)).length + (escB s[k]).length) (byteCells (xs ++ escL (s.data.toList.take k) ++ escB s[k])) → KpY lo w W → EsW lo w xs s (k + 1) V W) := fun W V h1 h2 => by
        refine ⟨?_, h2, Nat.le_trans HL.out.1 h2.b.size⟩
        rw [take_next s k hlt, escL_app, ← List.append_assoc]
        have e : escL [s[k]] = escB s[k] := by simp [escL]
        rw [e]
        unfold OwY
        rw [List.length_append (bs := escB s[k])]
        exact h1
      have hlen : Hid ((xs ++ escL (s.data.toList.take k)).length + 4 ≤ 140737488355328) := by
        unfold Hid
        have h1 := escL_len (s.data.toList.take k)
        have h2 := HL.out.2
        have h3 : (s.data.toList.take k).length ≤ k := by simp; omega
        rw [List.length_append]
        omega
      obtain ⟨XS, hXS⟩ : ∃ XS, XS = xs ++ escL (s.data.toList.take k) := ⟨_, rfl⟩
      rw [← hXS] at HX hlen
      have HO : Hid (OwY lo wr u XS ∧ KpY lo w wr ∧ lo ≤ wr.heap.size) := ⟨by rw [hXS]; exact HR.out.ow, HR.out.kp, HR.out.sz⟩
      clear hXS HR
      cases hst : stD (s[k]).toNat with
      | true =>
        have he : escB s[k] = [s[k]] := by unfold escB; rw [if_pos hst]
        rw [he] at HX
        have HA : Hid (OwY lo (wr.alloc (.cells #[.int .u8 (s[k]).toNat] 5)) u XS ∧ KpY lo w (wr.alloc (.cells #[.int .u8 (s[k]).toNat] 5)) ∧ lo ≤ (wr.alloc (.cells #[.int .u8 (s[k]).toNat] 5)).heap.size) := ⟨own_below HO.out.1 ((Below.refl _ _).alloc (Nat.le_refl _) _), HO.out.2.1.alloc HL.out.1 _, by have := HO.out.2.2; simp; omega⟩
        clear HO
        go_wp2_with (first | (go_at_call 75; refine (HS.out _ _ (by assumption)).mono ?_; rintro e w' ⟨rfl, hw⟩; obtain rfl := hw.symm) | (at_builtin; go_loud (refine app_lit rfl _ _ rfl lo u XS [s[k]] rfl HA.out.1 wr.heap.size _ 1 1 #[.int .u8 (s[k]).toNat] 5 rfl rfl (alc_new _ _) rfl HA.out.2.2 (by have := hlen.out; simp; omega) rfl ?_)))
        intro v1 w1 h1 h2
        have HF := HX.out _ _ h1 (HA.out.2.1.trans h2)
        have HF' : Hid (EsW lo w xs s (k + 1) v1 w1) := HF
        clear h1 h2 HF HX HA
        go_wp2
        go_roundw
        case rel => exact ⟨v1, k + 1, rfl, by omega, by go_num, HF'⟩
        case measure => simp [RowKit.intOf]; omega
      | false =>
        have he : escB s[k] = [38, bt ((s[k]).toNat / 16), bt ((s[k]).toNat % 16), 59] := by unfold escB; rw [if_neg (by simp [hst])]
        have hq : ((s[k]).toNat : Int) / 16 = (((s[k]).toNat / 16 : Nat) : Int) := by omega
        have hq1 : (s[k]).toNat / 16 < 16 := by omega
        have hr1 : (s[k]).toNat % 16 < 16 := by omega
        have ha := and15u ⟨(s[k]).toNat, hb⟩
        have HD : Hid (∀ (p : Nat) (h : p < 16), ((⟨#[48, 49, 50, 51, 52, 53, 54, 55, 56, 57, 97, 98, 99, 100, 101, 102]⟩ : ByteArray)[p]'(by simpa [ByteArray.size] using h)).toNat = sx p) := fun p h => dig_at ⟨p, h⟩
        simp only at ha
        rw [he] at HX
        have HY : Hid (∀ W V, W.ownsRow lo 5 1 V (XS.length + 4) (byteCells (XS ++ [38, bt ((s[k]).toNat / 16), bt ((s[k]).toNat % 16), 59])) → KpY lo w W → EsW lo w xs s (k + 1) V W) := HX.out
        clear HX he
        generalize (s[k]).toNat / 16 = q at *
        generalize (s[k]).toNat % 16 = r at *
        have hqI : (q : Int) < 16 := by omega
        have hrI : (r : Int) < 16 := by omega
        go_wp2_with (go_at_call 75; refine (HS.out _ _ (by assumption)).mono ?_; rintro e w' ⟨rfl, hw⟩; obtain rfl := hw.symm)
        refine R3.wp_region_lit 7 1 2 (fun _ b => .slice (some ⟨b, 0, none⟩) 4 4) (fun _ => .cells #[.int .u8 38, .int .u8 (((⟨#[48, 49, 50, 51, 52, 53, 54, 55, 56, 57, 97, 98, 99, 100, 101, 102]⟩ : ByteArray)[q]'(by simpa [ByteArray.size] using hq1)).toNat : Nat), .int .u8 (((⟨#[48, 49, 50, 51, 52, 53, 54, 55, 56, 57, 97, 98, 99, 100, 101, 102]⟩ : ByteArray)[r]'(by simpa [ByteArray.size] using hr1)).toNat : Nat), .int .u8 59] 5) [28] (by kernel_rfl) (by kernel_rfl) rfl ?_ rfl ?_
        · intro k hk
          have hc : k = 0 := by omega
          subst hc; rfl
        apply Exists.intro
        refine ⟨fun bs ne => ?_, ?_, ?_⟩
        · simp only [List.take_succ_cons, List.take_zero]
          repeat (go_big_quiet_step (fail))
          exact wpQuiet_nil rfl
        · intro i h1 h2
          have hc : i = 7 := by omega
          subst hc
          exact ⟨_, rfl, rfl, fun _ => by kernel_rfl⟩
        intro bl w2 hbl hlo2 _
        obtain ⟨q1, q2⟩ := hlo2 7 (by omega) (by omega)
        simp only [R3.layL]
        generalize bl 7 = g0 at *
        clear hlo2
        refine wpAny_one 8 (by kernel_rfl) rfl ?_
        intro K hK
        have e1 := HD.out q hq1
        have e2 := HD.out r hr1
        have HE := bt_nat hq1
        have HE2 := bt_nat hr1
        have HW : Hid (OwY lo w2 u XS ∧ KpY lo w w2 ∧ lo ≤ w2.heap.size) := ⟨HO.out.1.below hbl, HO.out.2.1.trans (KpY.of_below HO.out.2.2 hbl), Nat.le_trans HO.out.2.2 hbl.size⟩
        refine vapp_step (by rfl) _ _ (by rfl) lo u XS [38, bt q, bt r, 59] (by rfl) HW.out.1 g0 _ 4 4 _ 5 (by rfl) rfl (by decide) q2 ?_ HW.out.2.2 (by have := hlen.out; simp; omega) rfl ?_
        · rw [e1, e2]
          simp [byteCells, HE, HE2]
        intro v1 w1 h1 h2
        have HF' : Hid (EsW lo w xs s (k + 1) v1 w1) := HY.out _ _ h1 (HW.out.2.1.trans h2)
        clear h1 h2 HY HW HO hbl q1 q2 HE HE2 e1 e2 HD
        refine hK _ _ ?_
        clear hK K
        refine wpAny_one 9 (by kernel_rfl) rfl ?_
        intro K hK
        go_simp
        refine hK _ _ ?_
        clear hK K
        refine wpAny_done (by kernel_rfl) ?_ _
        go_wp2
        go_roundw
        case rel => exact ⟨v1, k + 1, rfl, by omega, by go_num, HF'⟩
        case measure => simp [RowKit.intOf]; omega
    · obtain rfl : k = s.size := by omega
      go_wp2
      go_ret
      refine ⟨_, rfl, ?_, HR.out.kp⟩
      have := HR.out.ow
      rwa [vtake_all] at this

end Go.Proofs.YtdmhcmngajmghaaGreatDoor

/-
  DERIVED: THE SHELF's CONTRACTS AT THIS DUMP, IN PLAIN WORDS (tools/lay-plain.mjs out of 'YtdmhcmngajmghaaGreatDoorBS0.lean', which tools/lay-shelf.mjs wrote): THE SAME DECLARATIONS UNDER THE SAME NAMES: 'import', 'namespace', 'open', 'def', 'theorem' AND NOTHING ELSE: no command of the shelf's: FOR A HAND-IN. Each laying: the table of numbers ('.._ren') and one theorem, a field a fact of the dump's own or the kernel's comparison; each contract: ONE APPLICATION.
-/
namespace Go.Proofs
open Go.Shelf
def Tryz.laysM176_ren : Go.Shelf.Ren := ⟨fun | 176 => 71 | 249 => 95 | 288 => 109 | 283 => 120 | 284 => 121 | 285 => 122 | 286 => 123 | 129 => 136 | 317 => 135 | 318 => 137 | 319 => 138 | 320 => 139 | 337 => 144 | 338 => 145 | n => n, fun | 37 => 53 | 2 => 2 | 3 => 3 | 53 => 124 | 4 => 4 | 9 => 9 | 171 => 200 | 0 => 0 | 173 => 203 | 212 => 217 | 51 => 121 | 5 => 5 | 20 => 20 | 213 => 218 | 46 => 90 | 232 => 231 | 233 => 232 | n => n, fun | 17 => 5 | 18 => 8 | 19 => 9 | n => n⟩
theorem Tryz.laysM176 : Go.Proofs.LaysM.n176 Tryz.prog Tryz.laysM176_ren := {
  mixed := by kernel_rfl
  f129 := Tryz.func136.trans (congrArg some (by kernel_rfl))
  f176 := Tryz.func71.trans (congrArg some (by kernel_rfl))
  f249 := Tryz.func95.trans (congrArg some (by kernel_rfl))
  f283 := Tryz.func120.trans (congrArg some (by kernel_rfl))
  f284 := Tryz.func121.trans (congrArg some (by kernel_rfl))
  f285 := Tryz.func122.trans (congrArg some (by kernel_rfl))
  f286 := Tryz.func123.trans (congrArg some (by kernel_rfl))
  f288 := Tryz.func109.trans (congrArg some (by kernel_rfl))
  f317 := Tryz.func135.trans (congrArg some (by kernel_rfl))
  f318 := Tryz.func137.trans (congrArg some (by kernel_rfl))
  f319 := Tryz.func138.trans (congrArg some (by kernel_rfl))
  f320 := Tryz.func139.trans (congrArg some (by kernel_rfl))
  f337 := Tryz.func144.trans (congrArg some (by kernel_rfl))
  f338 := Tryz.func145.trans (congrArg some (by kernel_rfl))
  t0 := Tryz.underlying0
  a0 := Tryz.isAgg0
  z0 := Tryz.sizeOf0
  v0 := Tryz.zeroValue0
  t2 := Tryz.underlying2
  a2 := Tryz.isAgg2
  z2 := Tryz.sizeOf2
  v2 := Tryz.zeroValue2
  t3 := Tryz.underlying3
  a3 := Tryz.isAgg3
  z3 := Tryz.sizeOf3
  v3 := Tryz.zeroValue3
  t4 := Tryz.underlying4
  a4 := Tryz.isAgg4
  z4 := Tryz.sizeOf4
  v4 := Tryz.zeroValue4
  t5 := Tryz.underlying5
  a5 := Tryz.isAgg5
  z5 := Tryz.sizeOf5
  v5 := Tryz.zeroValue5
  t9 := Tryz.underlying9
  a9 := Tryz.isAgg9
  z9 := Tryz.sizeOf9
  v9 := Tryz.zeroValue9
  t20 := Tryz.underlying20
  a20 := Tryz.isAgg20
  z20 := Tryz.sizeOf20
  v20 := Tryz.zeroValue20
  t37 := Tryz.underlying53
  a37 := Tryz.isAgg53
  z37 := Tryz.sizeOf53
  v37 := Tryz.zeroValue53
  t46 := Tryz.underlying90
  a46 := Tryz.isAgg90
  z46 := Tryz.sizeOf90
  v46 := Tryz.zeroValue90
  t51 := Tryz.underlying121
  a51 := Tryz.isAgg121
  z51 := Tryz.sizeOf121
  v51 := Tryz.zeroValue121
  t53 := Tryz.underlying124
  a53 := Tryz.isAgg124
  z53 := Tryz.sizeOf124
  v53 := Tryz.zeroValue124
  t171 := Tryz.underlying200
  a171 := Tryz.isAgg200
  z171 := Tryz.sizeOf200
  v171 := Tryz.zeroValue200
  t173 := Tryz.underlying203
  a173 := Tryz.isAgg203
  z173 := Tryz.sizeOf203
  v173 := Tryz.zeroValue203
  t212 := Tryz.underlying217
  a212 := Tryz.isAgg217
  z212 := Tryz.sizeOf217
  v212 := Tryz.zeroValue217
  t213 := Tryz.underlying218
  a213 := Tryz.isAgg218
  z213 := Tryz.sizeOf218
  t232 := Tryz.underlying231
  a232 := Tryz.isAgg231
  z232 := Tryz.sizeOf231
  v232 := Tryz.zeroValue231
  t233 := Tryz.underlying232
  a233 := Tryz.isAgg232
  z233 := Tryz.sizeOf232
  v233 := Tryz.zeroValue232
  g17 := by kernel_rfl
  g18 := by kernel_rfl
  g19 := by kernel_rfl
  i0 := by kernel_rfl
  i2 := by kernel_rfl
  i3 := by kernel_rfl
  i4 := by kernel_rfl
  i5 := by kernel_rfl
  i9 := by kernel_rfl
  i20 := by kernel_rfl
  i37 := by kernel_rfl
  i46 := by kernel_rfl
  i51 := by kernel_rfl
  i53 := by kernel_rfl
  i171 := by kernel_rfl
  i173 := by kernel_rfl
  i212 := by kernel_rfl
  i232 := by kernel_rfl
  i233 := by kernel_rfl
  m17 := by kernel_rfl
  m18 := by kernel_rfl
  m19 := by kernel_rfl }
def Tryz.lays137_ren : Go.Shelf.Ren := ⟨fun | 137 => 132 | 217 => 116 | 266 => 133 | n => n, fun | 9 => 9 | 5 => 5 | 3 => 3 | n => n, fun | n => n⟩
theorem Tryz.lays137 : Go.Proofs.Lays.n137 Tryz.prog Tryz.lays137_ren := {
  mixed := by kernel_rfl
  f137 := Tryz.func132.trans (congrArg some (by kernel_rfl))
  f217 := Tryz.func116.trans (congrArg some (by kernel_rfl))
  f266 := Tryz.func133.trans (congrArg some (by kernel_rfl))
  t3 := Tryz.underlying3
  a3 := Tryz.isAgg3
  z3 := Tryz.sizeOf3
  v3 := Tryz.zeroValue3
  t5 := Tryz.underlying5
  a5 := Tryz.isAgg5
  z5 := Tryz.sizeOf5
  v5 := Tryz.zeroValue5
  t9 := Tryz.underlying9
  a9 := Tryz.isAgg9
  z9 := Tryz.sizeOf9
  v9 := Tryz.zeroValue9 }
end Go.Proofs

/-
  Contract of package colour: Text, in six and in eight sixteens.
-/
namespace Go.Proofs.YtdmhcmngajmghaaGreatDoor
open Go.RowKit

set_option maxRecDepth 20000 in
set_option maxHeartbeats 2000000 in
theorem text_six (r g b : Nat) (w : World) (hr : r < 256) (hg : g < 256) (hb : b < 256) (ht : tw r = false ∨ (tw r = true ∧ tw g = false) ∨ (tw r = true ∧ tw g = true ∧ tw b = false)) :
    Calls Tryz.prog 48 #[.agg #[.int .u8 r, .int .u8 g, .int .u8 b, .int .u8 255]] w fun e w' => e = .returned (.string ⟨([35, bt (r / 16), bt (r % 16), bt (g / 16), bt (g % 16), bt (b / 16), bt (b % 16)] : List UInt8).toArray⟩) ∧ Below w.heap.size w w' := by
  have hT : Hid (∀ x w, x < 256 → Calls Tryz.prog 72 #[.int .u8 ((x : Nat) : Int)] w fun e w' => e = .returned (.bool (tw x)) ∧ w' = w) := fun x w hx => isTwice_any x w hx
  have hL : Hid (∀ x w, x < 256 → Calls Tryz.prog 73 #[.int .u8 ((x : Nat) : Int)] w fun e w' => e = .returned (.int .u8 ((sx (x % 16) : Nat) : Int)) ∧ w' = w) := fun x w hx => low_any x w hx
  have hH : Hid (∀ x w, x < 256 → Calls Tryz.prog 74 #[.int .u8 ((x : Nat) : Int)] w fun e w' => e = .returned (.int .u8 ((sx (x / 16) : Nat) : Int)) ∧ w' = w) := fun x w hx => high_any x w hx
  have HB : Hid (((bt (r / 16)).toNat : Int) = ((sx (r / 16) : Nat) : Int) ∧ ((bt (r % 16)).toNat : Int) = ((sx (r % 16) : Nat) : Int) ∧ ((bt (g / 16)).toNat : Int) = ((sx (g / 16) : Nat) : Int) ∧ ((bt (g % 16)).toNat : Int) = ((sx (g % 16) : Nat) : Int) ∧ ((bt (b / 16)).toNat : Int) = ((sx (b / 16) : Nat) : Int) ∧ ((bt (b % 16)).toNat : Int) = ((sx (b % 16) : Nat) : Int)) := ⟨bt_nat (by omega), bt_nat (Nat.mod_lt _ (by decide)), bt_nat (by omega), bt_nat (Nat.mod_lt _ (by decide)), bt_nat (by omega), bt_nat (Nat.mod_lt _ (by decide))⟩
  obtain ⟨i0, hi, hz0, hz1, hz2⟩ := info_parts8 info_u8
  rcases ht with t1 | ⟨t1, t2⟩ | ⟨t1, t2, t3⟩
  all_goals
    go_enter Tryz.func48, Tryz.ntmps48
    go_wp2_with (go_at_call 72; refine (hT.out _ _ (by assumption)).mono ?_; rintro e w' ⟨rfl, rfl⟩)
    have A := AtC.new w r g b 255 26
    have L : Below w.heap.size w (w.alloc (.cells #[.int .u8 r, .int .u8 g, .int .u8 b, .int .u8 255] 26)) := (Below.refl _ w).alloc (Nat.le_refl _) _
    have sz : (w.alloc (.cells #[.int .u8 r, .int .u8 g, .int .u8 b, .int .u8 255] 26)).heap.size = w.heap.size + 1 := by simp
    generalize hX0 : w.alloc (.cells #[.int .u8 r, .int .u8 g, .int .u8 b, .int .u8 255] 26) = X0 at *
    have R0 := World.ownsRow_lit (base := X0.heap.size) (e := 5) (size := 1) X0 #[.int .u8 35] 1 (Nat.le_refl _) (by decide) rfl
    have Z0 : Below X0.heap.size X0 (X0.alloc (.cells #[.int .u8 35] 5)) := (Below.refl _ _).alloc (Nat.le_refl _) _
    rw [sz] at R0
    generalize hW0 : X0.alloc (.cells #[.int .u8 35] 5) = W0 at *
    have HW : Hid (AtC X0 w.heap.size ⟨r, g, b, 255⟩ ∧ Below w.heap.size w X0 ∧ Below X0.heap.size X0 W0 ∧ W0.ownsRow (w.heap.size + 1) 5 1 (.slice (some ⟨w.heap.size + 1, 0, none⟩) 1 1) 1 [.int .u8 35] ∧ X0.heap.size = w.heap.size + 1) := ⟨A, L, Z0, R0, sz⟩
    clear A L Z0 R0 hX0 hW0 sz
    refine R3.wp_region_lit 19 1 2 (fun _ b => .slice (some ⟨b, 0, none⟩) 6 6) (fun _ => .cells #[.int .u8 (sx (r / 16) : Nat), .int .u8 (sx (r % 16) : Nat), .int .u8 (sx (g / 16) : Nat), .int .u8 (sx (g % 16) : Nat), .int .u8 (sx (b / 16) : Nat), .int .u8 (sx (b % 16) : Nat)] 5) [55] (by kernel_rfl) (by kernel_rfl) rfl ?_ rfl ?_
    · intro k hk
      have hc : k = 0 := by omega
      subst hc; rfl
    apply Exists.intro
    refine ⟨fun bs ne => ?_, ?_, ?_⟩
    · obtain ⟨A, L, Z, _⟩ := HW.out
      have d0 := fun t : Gb W0 bs => (A.below (Z.trans (t.below.mono Z.size))).1
      have d1 := fun t : Gb W0 bs => (A.below (Z.trans (t.below.mono Z.size))).2.1
      have d2 := fun t : Gb W0 bs => (A.below (Z.trans (t.below.mono Z.size))).2.2.1
      have d3 := fun t : Gb W0 bs => (A.below (Z.trans (t.below.mono Z.size))).2.2.2
      clear A L Z
      simp only [List.take_succ_cons, List.take_zero]
      repeat (go_big_quiet_step (first
        | (go_at_call 73; exact gb_same (hL.out _ _ (by assumption)))
        | (go_at_call 74; exact gb_same (hH.out _ _ (by assumption)))))
      exact wpQuiet_nil rfl
    · intro i h1 h2
      have hc : i = 19 := by omega
      subst hc
      exact ⟨_, rfl, rfl, fun _ => by kernel_rfl⟩
    intro bl wr hbl hlo _
    obtain ⟨q1, q2⟩ := hlo 19 (by omega) (by omega)
    simp only [R3.layL]
    generalize bl 19 = g0 at *
    clear hlo
    obtain ⟨c1, _, _⟩ := heap_cells q2
    refine wpAny_one 20 (by kernel_rfl) rfl ?_
    intro K hK
    obtain ⟨A, L, Z, R, sz⟩ := HW.out
    replace R := own_below R hbl
    replace Z := Z.trans (hbl.mono Z.size)
    have zs : w.heap.size + 1 ≤ wr.heap.size := by rw [← sz]; exact Z.size
    refine step_append_lies wr (by rfl) _ _ 53 (by rfl) (w.heap.size + 1) 5 i0 (.int .u8 0) 1 1 Tryz.underlying53 hi hz0 hz1 hz2 rfl (by decide) (.slice (some ⟨w.heap.size + 1, 0, none⟩) 1 1) 1 [.int .u8 35] (by rfl) R ⟨g0, 0, none⟩ 6 6 [.int .u8 (sx (r / 16) : Nat), .int .u8 (sx (r % 16) : Nat), .int .u8 (sx (g / 16) : Nat), .int .u8 (sx (g % 16) : Nat), .int .u8 (sx (b / 16) : Nat), .int .u8 (sx (b % 16) : Nat)] (by rfl) rfl ?_ ?_ (by decide) (by decide) (by decide) zs wr.heap.size rfl ?_
    · intro j u hj
      rw [add_at g0 j, c1 j]
      simpa using hj
    · intro u hu
      simp at hu
      rcases hu with rfl | rfl | rfl | rfl | rfl | rfl <;> rfl
    intro h0 cap0 X1 hown hgrow _ _
    have L1 : Below w.heap.size w X1 := by
      have h2 := Z.grown hgrow Z.size (fun b hb => by have := (R.lt b hb).1; omega)
      exact L.trans (h2.mono L.size)
    have hcv := conv_own [35, bt (r / 16), bt (r % 16), bt (g / 16), bt (g % 16), bt (b / 16), bt (b % 16)] hown rfl (fun j hj => by
        simp only [List.length_cons, List.length_nil] at hj
        obtain ⟨e1, e2, e3, e4, e5, e6⟩ := HB.out
        have hc : j = 0 ∨ j = 1 ∨ j = 2 ∨ j = 3 ∨ j = 4 ∨ j = 5 ∨ j = 6 := by omega
        rcases hc with rfl | rfl | rfl | rfl | rfl | rfl | rfl
        · rfl
        · simp [e1]
        · simp [e2]
        · simp [e3]
        · simp [e4]
        · simp [e5]
        · simp [e6])
    have cb := (A.below (Z.grown hgrow Z.size (fun b hb => by have := (R.lt b hb).1; omega)))
    obtain ⟨d0, d1, d2, d3⟩ := cb
    have HL : Hid (Below w.heap.size w X1) := L1
    clear A L Z R sz zs hown hgrow c1 q1 q2 hbl L1
    refine hK _ _ ?_
    clear hK K
    refine wpAny_one 21 (by kernel_rfl) rfl ?_
    intro K hK
    go_simp
    refine hK _ _ ?_
    clear hK K
    refine wpAny_done (by kernel_rfl) ?_ _
    go_wp2
    go_ret
    exact ⟨rfl, HL.out⟩

set_option maxRecDepth 20000 in
set_option maxHeartbeats 2000000 in
theorem text_eight (r g b a : Nat) (w : World) (hr : r < 256) (hg : g < 256) (hb : b < 256) (ha : a < 256) (h255 : ((a : Int) == 255) = false) :
    Calls Tryz.prog 48 #[.agg #[.int .u8 r, .int .u8 g, .int .u8 b, .int .u8 a]] w fun e w' => e = .returned (.string ⟨([35, bt (r / 16), bt (r % 16), bt (g / 16), bt (g % 16), bt (b / 16), bt (b % 16), bt (a / 16), bt (a % 16)] : List UInt8).toArray⟩) ∧ Below w.heap.size w w' := by
  have hT : Hid (∀ x w, x < 256 → Calls Tryz.prog 72 #[.int .u8 ((x : Nat) : Int)] w fun e w' => e = .returned (.bool (tw x)) ∧ w' = w) := fun x w hx => isTwice_any x w hx
  have hL : Hid (∀ x w, x < 256 → Calls Tryz.prog 73 #[.int .u8 ((x : Nat) : Int)] w fun e w' => e = .returned (.int .u8 ((sx (x % 16) : Nat) : Int)) ∧ w' = w) := fun x w hx => low_any x w hx
  have hH : Hid (∀ x w, x < 256 → Calls Tryz.prog 74 #[.int .u8 ((x : Nat) : Int)] w fun e w' => e = .returned (.int .u8 ((sx (x / 16) : Nat) : Int)) ∧ w' = w) := fun x w hx => high_any x w hx
  have HB : Hid (((bt (r / 16)).toNat : Int) = ((sx (r / 16) : Nat) : Int) ∧ ((bt (r % 16)).toNat : Int) = ((sx (r % 16) : Nat) : Int) ∧ ((bt (g / 16)).toNat : Int) = ((sx (g / 16) : Nat) : Int) ∧ ((bt (g % 16)).toNat : Int) = ((sx (g % 16) : Nat) : Int) ∧ ((bt (b / 16)).toNat : Int) = ((sx (b / 16) : Nat) : Int) ∧ ((bt (b % 16)).toNat : Int) = ((sx (b % 16) : Nat) : Int) ∧ ((bt (a / 16)).toNat : Int) = ((sx (a / 16) : Nat) : Int) ∧ ((bt (a % 16)).toNat : Int) = ((sx (a % 16) : Nat) : Int)) := ⟨bt_nat (by omega), bt_nat (Nat.mod_lt _ (by decide)), bt_nat (by omega), bt_nat (Nat.mod_lt _ (by decide)), bt_nat (by omega), bt_nat (Nat.mod_lt _ (by decide)), bt_nat (by omega), bt_nat (Nat.mod_lt _ (by decide))⟩
  obtain ⟨i0, hi, hz0, hz1, hz2⟩ := info_parts8 info_u8
  go_enter Tryz.func48, Tryz.ntmps48
  go_wp2_with (go_at_call 72; refine (hT.out _ _ (by assumption)).mono ?_; rintro e w' ⟨rfl, rfl⟩)
  have A := AtC.new w r g b a 26
  have L : Below w.heap.size w (w.alloc (.cells #[.int .u8 r, .int .u8 g, .int .u8 b, .int .u8 a] 26)) := (Below.refl _ w).alloc (Nat.le_refl _) _
  have sz : (w.alloc (.cells #[.int .u8 r, .int .u8 g, .int .u8 b, .int .u8 a] 26)).heap.size = w.heap.size + 1 := by simp
  generalize hX0 : w.alloc (.cells #[.int .u8 r, .int .u8 g, .int .u8 b, .int .u8 a] 26) = X0 at *
  have R0 := World.ownsRow_lit (base := X0.heap.size) (e := 5) (size := 1) X0 #[.int .u8 35] 1 (Nat.le_refl _) (by decide) rfl
  have Z0 : Below X0.heap.size X0 (X0.alloc (.cells #[.int .u8 35] 5)) := (Below.refl _ _).alloc (Nat.le_refl _) _
  rw [sz] at R0
  generalize hW0 : X0.alloc (.cells #[.int .u8 35] 5) = W0 at *
  have HW : Hid (AtC X0 w.heap.size ⟨r, g, b, a⟩ ∧ Below w.heap.size w X0 ∧ Below X0.heap.size X0 W0 ∧ W0.ownsRow (w.heap.size + 1) 5 1 (.slice (some ⟨w.heap.size + 1, 0, none⟩) 1 1) 1 [.int .u8 35] ∧ X0.heap.size = w.heap.size + 1) := ⟨A, L, Z0, R0, sz⟩
  clear A L Z0 R0 hX0 hW0 sz
  refine R3.wp_region_lit 19 1 2 (fun _ b => .slice (some ⟨b, 0, none⟩) 6 6) (fun _ => .cells #[.int .u8 (sx (r / 16) : Nat), .int .u8 (sx (r % 16) : Nat), .int .u8 (sx (g / 16) : Nat), .int .u8 (sx (g % 16) : Nat), .int .u8 (sx (b / 16) : Nat), .int .u8 (sx (b % 16) : Nat)] 5) [55] (by kernel_rfl) (by kernel_rfl) rfl ?_ rfl ?_
  · intro k hk
    have hc : k = 0 := by omega
    subst hc; rfl
  apply Exists.intro
  refine ⟨fun bs ne => ?_, ?_, ?_⟩
  · obtain ⟨A, L, Z, _⟩ := HW.out
    have d0 := fun t : Gb W0 bs => (A.below (Z.trans (t.below.mono Z.size))).1
    have d1 := fun t : Gb W0 bs => (A.below (Z.trans (t.below.mono Z.size))).2.1
    have d2 := fun t : Gb W0 bs => (A.below (Z.trans (t.below.mono Z.size))).2.2.1
    have d3 := fun t : Gb W0 bs => (A.below (Z.trans (t.below.mono Z.size))).2.2.2
    clear A L Z
    simp only [List.take_succ_cons, List.take_zero]
    repeat (go_big_quiet_step (first
      | (go_at_call 73; exact gb_same (hL.out _ _ (by assumption)))
      | (go_at_call 74; exact gb_same (hH.out _ _ (by assumption)))))
    exact wpQuiet_nil rfl
  · intro i h1 h2
    have hc : i = 19 := by omega
    subst hc
    exact ⟨_, rfl, rfl, fun _ => by kernel_rfl⟩
  intro bl wr hbl hlo _
  obtain ⟨q1, q2⟩ := hlo 19 (by omega) (by omega)
  simp only [R3.layL]
  generalize bl 19 = g0 at *
  clear hlo
  obtain ⟨c1, _, _⟩ := heap_cells q2
  refine wpAny_one 20 (by kernel_rfl) rfl ?_
  intro K hK
  obtain ⟨A, L, Z, R, sz⟩ := HW.out
  replace R := own_below R hbl
  replace Z := Z.trans (hbl.mono Z.size)
  have zs : w.heap.size + 1 ≤ wr.heap.size := by rw [← sz]; exact Z.size
  refine step_append_lies wr (by rfl) _ _ 53 (by rfl) (w.heap.size + 1) 5 i0 (.int .u8 0) 1 1 Tryz.underlying53 hi hz0 hz1 hz2 rfl (by decide) (.slice (some ⟨w.heap.size + 1, 0, none⟩) 1 1) 1 [.int .u8 35] (by rfl) R ⟨g0, 0, none⟩ 6 6 [.int .u8 (sx (r / 16) : Nat), .int .u8 (sx (r % 16) : Nat), .int .u8 (sx (g / 16) : Nat), .int .u8 (sx (g % 16) : Nat), .int .u8 (sx (b / 16) : Nat), .int .u8 (sx (b % 16) : Nat)] (by rfl) rfl ?_ ?_ (by decide) (by decide) (by decide) zs wr.heap.size rfl ?_
  · intro j u hj
    rw [add_at g0 j, c1 j]
    simpa using hj
  · intro u hu
    simp at hu
    rcases hu with rfl | rfl | rfl | rfl | rfl | rfl <;> rfl
  intro h0 cap0 X1 hown hgrow _ _
  have Z1 := Z.grown hgrow Z.size (fun b hb => by have := (R.lt b hb).1; omega)
  have cb := A.below Z1
  have HW' : Hid (AtC X0 w.heap.size ⟨r, g, b, a⟩ ∧ Below w.heap.size w X0 ∧ Below X0.heap.size X0 X1 ∧ X1.ownsRow (w.heap.size + 1) 5 1 (.slice (some ⟨h0, 0, none⟩) 7 cap0) 7 [.int .u8 35, .int .u8 (sx (r / 16) : Nat), .int .u8 (sx (r % 16) : Nat), .int .u8 (sx (g / 16) : Nat), .int .u8 (sx (g % 16) : Nat), .int .u8 (sx (b / 16) : Nat), .int .u8 (sx (b % 16) : Nat)] ∧ X0.heap.size = w.heap.size + 1) := ⟨A, L, Z1, hown, sz⟩
  clear HW
  have HW := HW'
  clear HW'
  obtain ⟨d0, d1, d2, d3⟩ := cb
  clear A L Z R sz zs hown hgrow c1 q1 q2 hbl Z1
  refine hK _ _ ?_
  clear hK K
  refine wpAny_one 21 (by kernel_rfl) rfl ?_
  intro K hK
  go_simp
  refine hK _ _ ?_
  clear hK K
  refine wpAny_done (by kernel_rfl) ?_ _
  go_wp2_with fail
  clear d0 d1 d2 d3
  refine R3.wp_region_lit 7 1 2 (fun _ b => .slice (some ⟨b, 0, none⟩) 2 2) (fun _ => .cells #[.int .u8 (sx (a / 16) : Nat), .int .u8 (sx (a % 16) : Nat)] 5) [67] (by kernel_rfl) (by kernel_rfl) rfl ?_ rfl ?_
  · intro k hk
    have hc : k = 0 := by omega
    subst hc; rfl
  apply Exists.intro
  refine ⟨fun bs ne => ?_, ?_, ?_⟩
  · obtain ⟨A, L, Z, _⟩ := HW.out
    have d0 := fun t : Gb X1 bs => (A.below (Z.trans (t.below.mono Z.size))).1
    have d1 := fun t : Gb X1 bs => (A.below (Z.trans (t.below.mono Z.size))).2.1
    have d2 := fun t : Gb X1 bs => (A.below (Z.trans (t.below.mono Z.size))).2.2.1
    have d3 := fun t : Gb X1 bs => (A.below (Z.trans (t.below.mono Z.size))).2.2.2
    clear A L Z
    simp only [List.take_succ_cons, List.take_zero]
    repeat (go_big_quiet_step (first
      | (go_at_call 73; exact gb_same (hL.out _ _ (by assumption)))
      | (go_at_call 74; exact gb_same (hH.out _ _ (by assumption)))))
    exact wpQuiet_nil rfl
  · intro i h1 h2
    have hc : i = 7 := by omega
    subst hc
    exact ⟨_, rfl, rfl, fun _ => by kernel_rfl⟩
  intro bl wr hbl hlo _
  obtain ⟨q1, q2⟩ := hlo 7 (by omega) (by omega)
  simp only [R3.layL]
  generalize bl 7 = g0 at *
  clear hlo
  obtain ⟨c1, _, _⟩ := heap_cells q2
  refine wpAny_one 8 (by kernel_rfl) rfl ?_
  intro K hK
  obtain ⟨A, L, Z, R, sz⟩ := HW.out
  replace R := own_below R hbl
  replace Z := Z.trans (hbl.mono Z.size)
  have zs : w.heap.size + 1 ≤ wr.heap.size := by rw [← sz]; exact Z.size
  refine step_append_lies wr (by rfl) _ _ 53 (by rfl) (w.heap.size + 1) 5 i0 (.int .u8 0) 1 1 Tryz.underlying53 hi hz0 hz1 hz2 rfl (by decide) (.slice (some ⟨h0, 0, none⟩) 7 cap0) 7 [.int .u8 35, .int .u8 (sx (r / 16) : Nat), .int .u8 (sx (r % 16) : Nat), .int .u8 (sx (g / 16) : Nat), .int .u8 (sx (g % 16) : Nat), .int .u8 (sx (b / 16) : Nat), .int .u8 (sx (b % 16) : Nat)] (by rfl) R ⟨g0, 0, none⟩ 2 2 [.int .u8 (sx (a / 16) : Nat), .int .u8 (sx (a % 16) : Nat)] (by rfl) rfl ?_ ?_ (by decide) (by decide) (by decide) zs wr.heap.size rfl ?_
  · intro j u hj
    rw [add_at g0 j, c1 j]
    simpa using hj
  · intro u hu
    simp at hu
    rcases hu with rfl | rfl <;> rfl
  intro h1 cap1 X2 hown hgrow _ _
  have L1 : Below w.heap.size w X2 := by
    have h2 := Z.grown hgrow Z.size (fun b hb => by have := (R.lt b hb).1; omega)
    exact L.trans (h2.mono L.size)
  have hcv := conv_own [35, bt (r / 16), bt (r % 16), bt (g / 16), bt (g % 16), bt (b / 16), bt (b % 16), bt (a / 16), bt (a % 16)] hown rfl (fun j hj => by
      simp only [List.length_cons, List.length_nil] at hj
      obtain ⟨e1, e2, e3, e4, e5, e6, e7, e8⟩ := HB.out
      have hc : j = 0 ∨ j = 1 ∨ j = 2 ∨ j = 3 ∨ j = 4 ∨ j = 5 ∨ j = 6 ∨ j = 7 ∨ j = 8 := by omega
      rcases hc with rfl | rfl | rfl | rfl | rfl | rfl | rfl | rfl | rfl
      · rfl
      · simp [e1]
      · simp [e2]
      · simp [e3]
      · simp [e4]
      · simp [e5]
      · simp [e6]
      · simp [e7]
      · simp [e8])
  have HL : Hid (Below w.heap.size w X2) := L1
  clear A L Z R sz zs hown hgrow c1 q1 q2 hbl L1
  refine hK _ _ ?_
  clear hK K
  refine wpAny_one 9 (by kernel_rfl) rfl ?_
  intro K hK
  go_simp
  refine hK _ _ ?_
  clear hK K
  refine wpAny_done (by kernel_rfl) ?_ _
  go_wp2
  go_ret
  exact ⟨rfl, HL.out⟩

/-- What a colour's text is. -/
theorem text_any (c : Co) (w : World) (hc : c.ok) :
    Calls Tryz.prog 48 #[(Value.agg #[.int .u8 c.r, .int .u8 c.g, .int .u8 c.b, .int .u8 c.a])] w fun e w' => e = .returned (.string (txt c)) ∧ Below w.heap.size w w' := by
  obtain ⟨⟨r1, r2⟩, ⟨g1, g2⟩, ⟨b1, b2⟩, ⟨a1, a2⟩⟩ := hc
  obtain ⟨r, g, b, a⟩ := c
  simp only at r1 r2 g1 g2 b1 b2 a1 a2
  obtain ⟨r, rfl⟩ := Int.eq_ofNat_of_zero_le r1
  obtain ⟨g, rfl⟩ := Int.eq_ofNat_of_zero_le g1
  obtain ⟨b, rfl⟩ := Int.eq_ofNat_of_zero_le b1
  obtain ⟨a, rfl⟩ := Int.eq_ofNat_of_zero_le a1
  unfold txt txtL
  simp only [Int.toNat_natCast]
  by_cases h : a = 255
  · subst h
    by_cases ht : tw r = true ∧ tw g = true ∧ tw b = true
    · rw [if_pos ⟨rfl, ht⟩]
      exact text_short r g b w (by omega) (by omega) (by omega) ht.1 ht.2.1 ht.2.2
    · rw [if_neg (fun h => ht h.2), if_pos rfl]
      refine text_six r g b w (by omega) (by omega) (by omega) ?_
      cases e1 : tw r
      · exact .inl rfl
      · cases e2 : tw g
        · exact .inr (.inl ⟨rfl, rfl⟩)
        · cases e3 : tw b
          · exact .inr (.inr ⟨rfl, rfl, rfl⟩)
          · exact absurd ⟨e1, e2, e3⟩ ht
  · rw [if_neg (fun h' => h h'.1), if_neg h]
    exact text_eight r g b a w (by omega) (by omega) (by omega) (by omega) (by rw [beq_eq_false_iff_ne]; omega)

end Go.Proofs.YtdmhcmngajmghaaGreatDoor

/-
  Contracts of package vector: appendNumber, formOf, appendLine.
-/
namespace Go.Proofs.YtdmhcmngajmghaaGreatDoor
open Go.RowKit Go.Shelf Go.Lib

/-- The table of the library's numbers. -/
def PwT (lo : Nat) (w : World) : Prop := Lib.TabBelow Tryz.prog lo w "internal/strconv.uint64pow10" .u64 Lib.pow10Tab
theorem PwT.on {lo : Nat} {w w1 : World} (h : PwT lo w) (hb : Below lo w w1) : PwT lo w1 := Lib.TabBelow.on h hb
theorem PwT.mono {lo lo2 : Nat} {w : World} (h : PwT lo w) (hl : lo ≤ lo2) : PwT lo2 w := fun w' hb => h w' (hb.mono hl)

set_option maxHeartbeats 1000000 in
set_option maxRecDepth 100000 in
theorem num_any (lo : Nat) (v : Value) (xs : List UInt8) (i : Int) (w : World) (h : OwY lo w v xs) (hlo : lo ≤ w.heap.size) (hl : xs.length + 21 ≤ 140737488355328) (hi : I64 i) (T : PwT lo w) :
    Calls Tryz.prog 47 #[v, .int .i64 i] w fun e w' => ∃ v', e = .returned v' ∧ OwY lo w' v' (xs ++ itoa i) ∧ KpY lo w w' := by
  have HC : Hid (Calls Tryz.prog 71 #[v, .int .i64 i, .int .i64 10] w fun e w' => ∃ v', e = .returned v' ∧ OwY lo w' v' (xs ++ itoa i) ∧ KpY lo w w') := by
    refine (Any.strconv_AppendInt_10 Tryz.laysM176 lo xs.length i hi.1 hi.2 v (byteCells xs) w h hlo hl T).mono ?_
    rintro e w' ⟨v', rfl, h1, h2, h3⟩
    refine ⟨v', rfl, ?_, ⟨h2, h3⟩⟩
    unfold OwY
    rw [byteCells_append, List.length_append]
    exact h1
  have hi0 := hi.1
  have hi1 := hi.2
  clear h hlo hl hi T
  go_enter Tryz.func47, Tryz.ntmps47
  go_wp2_with fail
  refine HC.out.mono ?_
  rintro e w1 ⟨v1, rfl, h1, h2⟩
  have H1 : Hid (OwY lo w1 v1 (xs ++ itoa i) ∧ KpY lo w w1) := ⟨h1, h2⟩
  clear h1 h2 HC
  go_wp2
  go_ret
  exact ⟨_, rfl, H1.out⟩

set_option maxHeartbeats 1000000 in
theorem vform_any (k : Int) (w : World) (h0 : 0 ≤ k) (h1 : k ≤ 255) :
    Calls Tryz.prog 29 #[.int .u8 k] w fun e w' => e = .returned (.string ⟨(forF k).toArray⟩) ∧ w' = w := by
  have hc : k = 1 ∨ k = 2 ∨ k = 3 ∨ k = 4 ∨ (¬ k = 1 ∧ ¬ k = 2 ∧ ¬ k = 3 ∧ ¬ k = 4) := by omega
  rcases hc with rfl | rfl | rfl | rfl | ⟨n1, n2, n3, n4⟩
  iterate 4
    · go_enter Tryz.func29, Tryz.ntmps29
      go_wp2
      go_ret
      exact ⟨rfl, rfl⟩
  · have e : forF k = opeF := by unfold forF; rw [if_neg n1, if_neg n2, if_neg n3, if_neg n4]
    rw [e]
    go_enter Tryz.func29, Tryz.ntmps29
    go_wp2
    go_ret
    exact ⟨rfl, rfl⟩

/-- What lies so far of a line. -/
structure LiW (lo b : Nat) (w : World) (xs : List UInt8) (form : ByteArray) (s : St) (n : Nat) (u : Value) (wr : World) : Prop where
  ow : OwY lo wr u (xs ++ linF (form.data.toList.take n) s)
  kp : KpY lo w wr
  sz : lo ≤ wr.heap.size
  bx : Bk wr b (#[.int .u8 s.k, .int .i64 s.r.x, .int .i64 s.r.y, .int .i64 s.r.w, .int .i64 s.r.h, .int .u8 s.c.r, .int .u8 s.c.g, .int .u8 s.c.b, .int .u8 s.c.a, .int .u8 s.b.r, .int .u8 s.b.g, .int .u8 s.b.b, .int .u8 s.b.a, .string s.t, .int .i64 s.n]) 50

theorem itoa_len {i : Int} (h : I64 i) : (itoa i).length ≤ 21 := itoa_length_le i h.1 h.2
theorem pce_len (s : St) (h : WfS s) (b : Nat) : (pceF s b).length ≤ 30 + 4 * s.t.size := by
  obtain ⟨_, ⟨h1, h2, h3, h4⟩, _, _, _, h5⟩ := h
  have e1 := itoa_len h1
  have e2 := itoa_len h2
  have e3 := itoa_len h3
  have e4 := itoa_len h4
  have e5 := itoa_len h5
  have e6 := txt_len s.c
  have e7 := txt_len s.b
  have e8 := escL_len s.t.data.toList
  have e9 : s.t.data.toList.length = s.t.size := by simp
  unfold pceF
  repeat' split
  all_goals first | omega | (simp; try omega)
theorem lin_len (s : St) (h : WfS s) : ∀ l : List UInt8, (linF l s).length ≤ l.length * (30 + 4 * s.t.size)
  | [] => by simp [linF]
  | b :: l => by
    have h1 := lin_len s h l
    have h2 := pce_len s h b.toNat
    rw [linF_cons, List.length_append, List.length_cons, Nat.succ_mul]
    omega

end Go.Proofs.YtdmhcmngajmghaaGreatDoor

/-
  Contracts of package vector: appendLine.
-/
namespace Go.Proofs.YtdmhcmngajmghaaGreatDoor
open Go.RowKit

theorem KpY.bk {lo : Nat} {w w' : World} (h : KpY lo w w') {g : Nat} {cs : Array Value} {t : TypeId} (hg : Bk w g cs t) (ht : t ≠ 5) : Bk w' g cs t := h.cell hg ht

theorem pce_else {s : St} {b : Nat} (h1 : ¬ b = 88) (h2 : ¬ b = 89) (h3 : ¬ b = 87) (h4 : ¬ b = 72) (h5 : ¬ b = 67) (h6 : ¬ b = 66) (h7 : ¬ b = 78) (h8 : ¬ b = 84) : pceF s b = [UInt8.ofNat b] := by
  unfold pceF
  rw [if_neg h1, if_neg h2, if_neg h3, if_neg h4, if_neg h5, if_neg h6, if_neg h7, if_neg h8]

theorem bk15 {W : World} {b : Nat} {s : St} {t : TypeId} (h : Bk W b (#[.int .u8 s.k, .int .i64 s.r.x, .int .i64 s.r.y, .int .i64 s.r.w, .int .i64 s.r.h, .int .u8 s.c.r, .int .u8 s.c.g, .int .u8 s.c.b, .int .u8 s.c.a, .int .u8 s.b.r, .int .u8 s.b.g, .int .u8 s.b.b, .int .u8 s.b.a, .string s.t, .int .i64 s.n]) t) : StAt W b 0 s := by
  rw [stat_iff]
  intro j hj
  rw [Nat.zero_add, h.cell]
  show (sCel s).toArray[j]? = _
  rw [List.getElem?_toArray]

set_option maxRecDepth 10000 in
set_option maxHeartbeats 8000000 in
theorem line_any (lo : Nat) (v : Value) (xs : List UInt8) (form : ByteArray) (s : St) (w : World) (h : OwY lo w v xs) (hlo : lo ≤ w.heap.size) (hs : WfS s) (ht : s.t.size ≤ 1000000) (hf : form.size ≤ 1000) (hl : xs.length ≤ 1000000000) (T : PwT lo w) :
    Calls Tryz.prog 28 #[v, .string form, (Value.agg #[.int .u8 s.k, .int .i64 s.r.x, .int .i64 s.r.y, .int .i64 s.r.w, .int .i64 s.r.h, .int .u8 s.c.r, .int .u8 s.c.g, .int .u8 s.c.b, .int .u8 s.c.a, .int .u8 s.b.r, .int .u8 s.b.g, .int .u8 s.b.b, .int .u8 s.b.a, .string s.t, .int .i64 s.n])] w fun e w' => ∃ v', e = .returned v' ∧ OwY lo w' v' (xs ++ linF form.data.toList s) ∧ KpY lo w w' := by
  have B0 : Below w.heap.size w (w.alloc (.cells (#[.int .u8 s.k, .int .i64 s.r.x, .int .i64 s.r.y, .int .i64 s.r.w, .int .i64 s.r.h, .int .u8 s.c.r, .int .u8 s.c.g, .int .u8 s.c.b, .int .u8 s.c.a, .int .u8 s.b.r, .int .u8 s.b.g, .int .u8 s.b.b, .int .u8 s.b.a, .string s.t, .int .i64 s.n]) 50)) := (Below.refl _ w).alloc (Nat.le_refl _) _
  have H0 : Hid (LiW lo w.heap.size w xs form s 0 v (w.alloc (.cells (#[.int .u8 s.k, .int .i64 s.r.x, .int .i64 s.r.y, .int .i64 s.r.w, .int .i64 s.r.h, .int .u8 s.c.r, .int .u8 s.c.g, .int .u8 s.c.b, .int .u8 s.c.a, .int .u8 s.b.r, .int .u8 s.b.g, .int .u8 s.b.b, .int .u8 s.b.a, .string s.t, .int .i64 s.n]) 50))) := ⟨by simpa [linF] using h.below B0, KpY.of_below hlo B0, Nat.le_trans hlo B0.size, Bk.new _ _ _⟩
  have HL : Hid (lo ≤ w.heap.size ∧ xs.length ≤ 1000000000 ∧ WfS s ∧ PwT lo w) := ⟨hlo, hl, hs, T⟩
  have HNum : Hid (∀ (u : Value) (ys : List UInt8) (i : Int) W, OwY lo W u ys → KpY lo w W → ys.length + 21 ≤ 140737488355328 → I64 i → Calls Tryz.prog 47 #[u, .int .i64 i] W fun e w' => ∃ v', e = .returned v' ∧ OwY lo w' v' (ys ++ Lib.itoa i) ∧ KpY lo W w') := fun u ys i W h1 h2 h3 h4 => num_any lo u ys i W h1 (Nat.le_trans hlo h2.b.size) h3 h4 (T.on h2.b)
  have HTx : Hid (∀ (c : Co) W, c.ok → Calls Tryz.prog 48 #[(Value.agg #[.int .u8 c.r, .int .u8 c.g, .int .u8 c.b, .int .u8 c.a])] W fun e w' => e = .returned (.string (txt c)) ∧ Below W.heap.size W w') := fun c W hc => text_any c W hc
  have HEs : Hid (∀ (u : Value) (ys : List UInt8) W, OwY lo W u ys → KpY lo w W → ys.length + 4 * s.t.size ≤ 140737488355328 → Calls Tryz.prog 49 #[u, .string s.t] W fun e w' => ∃ v', e = .returned v' ∧ OwY lo w' v' (ys ++ escL s.t.data.toList) ∧ KpY lo W w') := fun u ys W h1 h2 h3 => escd_any lo u ys s.t W h1 (Nat.le_trans hlo h2.b.size) h3
  obtain ⟨b, hb⟩ : ∃ b, b = w.heap.size := ⟨_, rfl⟩
  rw [← hb] at H0
  have HB : Hid (b = w.heap.size) := hb
  clear h hlo hl hs T B0
  go_enter Tryz.func28, Tryz.ntmps28
  go_wp2_with fail
  rw [← hb]
  clear hb
  go_loopw [0, 10] (fun u0 i wr => ∃ (u : Value) (k : Nat), u = u0 ∧ k ≤ form.size ∧ i = .int .i64 k ∧ Hid (LiW lo b w xs form s k u wr)) (fun _ i _ => form.size - (intOf i).toNat)
  case atStart => exact ⟨v, 0, rfl, Nat.zero_le _, rfl, H0⟩
  case round =>
    obtain ⟨u, k, rfl, hk, rfl, HR⟩ := hrel
    clear H0
    by_cases hlt : k < form.size
    · have hb256 := UInt8.toNat_lt form[k]
      have hmul : Hid (k * (30 + 4 * s.t.size) ≤ 1000 * 4000030) := Nat.mul_le_mul (by omega) (by omega)
      obtain ⟨XS, hXS⟩ : ∃ XS, XS = xs ++ linF (form.data.toList.take k) s := ⟨_, rfl⟩
      have HX : Hid (∀ W V, OwY lo W V (XS ++ pceF s (form[k]).toNat) → KpY lo wr W → LiW lo b w xs form s (k + 1) V W) := fun W V h1 h2 => by
        refine ⟨?_, HR.out.kp.trans h2, Nat.le_trans HR.out.sz h2.b.size, h2.bk HR.out.bx (by decide)⟩
        rw [take_next form k hlt, linF_app, ← List.append_assoc, ← hXS]
        have e : linF [form[k]] s = pceF s (form[k]).toNat := by simp [linF]
        rw [e]
        exact h1
      have hlen : Hid (XS.length ≤ 100000000000) := by
        unfold Hid
        have h1 := lin_len s HL.out.2.2.1 (form.data.toList.take k)
        have h3 : (form.data.toList.take k).length = k := by simp; omega
        have h4 := hmul.out
        have h5 := HL.out.2.1
        rw [h3] at h1
        rw [hXS, List.length_append]
        omega
      have HO : Hid (OwY lo wr u XS ∧ KpY lo w wr ∧ lo ≤ wr.heap.size) := ⟨by rw [hXS]; exact HR.out.ow, HR.out.kp, HR.out.sz⟩
      obtain ⟨x0, x1, x2, x3, x4, x5, x6, x7, x8, x9, x10, x11, x12, x13, x14⟩ := bk15 HR.out.bx
      simp only [Nat.zero_add] at x1 x2 x3 x4 x5 x6 x7 x8 x9 x10 x11 x12 x13 x14
      clear hXS HR hmul
      obtain ⟨c, hc⟩ : ∃ c, c = (form[k]).toNat := ⟨_, rfl⟩
      have HC : Hid (form[k] = UInt8.ofNat c) := by unfold Hid; rw [hc]; simp
      rw [← hc] at HX hb256
      by_cases c88 : c = 88
      · have e88 : ((form[k]).toNat : Int) = 88 := by omega
        have HY : Hid (∀ W V, OwY lo W V (XS ++ Lib.itoa s.r.x) → KpY lo wr W → LiW lo b w xs form s (k + 1) V W) := fun W V h1 h2 => HX.out W V (by rw [c88]; exact h1) h2
        go_wp2_with fail
        refine (HNum.out u XS s.r.x _ HO.out.1 HO.out.2.1 (by have := hlen.out; omega) HL.out.2.2.1.2.1.1).mono ?_
        rintro e w1 ⟨v1, rfl, h1, h2⟩
        clear x0 x1 x2 x3 x4 x5 x6 x7 x8 x9 x10 x11 x12 x13 x14
        have HF : Hid (LiW lo b w xs form s (k + 1) v1 w1) := HY.out _ _ h1 h2
        clear h1 h2 HY HX HO HC
        go_wp2
        go_roundw
        case rel => exact ⟨v1, k + 1, rfl, by omega, by go_num, HF⟩
        case measure => simp [intOf]; omega
      by_cases c89 : c = 89
      · have e89 : ((form[k]).toNat : Int) = 89 := by omega
        have HY : Hid (∀ W V, OwY lo W V (XS ++ Lib.itoa s.r.y) → KpY lo wr W → LiW lo b w xs form s (k + 1) V W) := fun W V h1 h2 => HX.out W V (by rw [c89]; exact h1) h2
        go_wp2_with fail
        refine (HNum.out u XS s.r.y _ HO.out.1 HO.out.2.1 (by have := hlen.out; omega) HL.out.2.2.1.2.1.2.1).mono ?_
        rintro e w1 ⟨v1, rfl, h1, h2⟩
        clear x0 x1 x2 x3 x4 x5 x6 x7 x8 x9 x10 x11 x12 x13 x14
        have HF : Hid (LiW lo b w xs form s (k + 1) v1 w1) := HY.out _ _ h1 h2
        clear h1 h2 HY HX HO HC
        go_wp2
        go_roundw
        case rel => exact ⟨v1, k + 1, rfl, by omega, by go_num, HF⟩
        case measure => simp [intOf]; omega
      by_cases c87 : c = 87
      · have e87 : ((form[k]).toNat : Int) = 87 := by omega
        have HY : Hid (∀ W V, OwY lo W V (XS ++ Lib.itoa s.r.w) → KpY lo wr W → LiW lo b w xs form s (k + 1) V W) := fun W V h1 h2 => HX.out W V (by rw [c87]; exact h1) h2
        go_wp2_with fail
        refine (HNum.out u XS s.r.w _ HO.out.1 HO.out.2.1 (by have := hlen.out; omega) HL.out.2.2.1.2.1.2.2.1).mono ?_
        rintro e w1 ⟨v1, rfl, h1, h2⟩
        clear x0 x1 x2 x3 x4 x5 x6 x7 x8 x9 x10 x11 x12 x13 x14
        have HF : Hid (LiW lo b w xs form s (k + 1) v1 w1) := HY.out _ _ h1 h2
        clear h1 h2 HY HX HO HC
        go_wp2
        go_roundw
        case rel => exact ⟨v1, k + 1, rfl, by omega, by go_num, HF⟩
        case measure => simp [intOf]; omega
      by_cases c72 : c = 72
      · have e72 : ((form[k]).toNat : Int) = 72 := by omega
        have HY : Hid (∀ W V, OwY lo W V (XS ++ Lib.itoa s.r.h) → KpY lo wr W → LiW lo b w xs form s (k + 1) V W) := fun W V h1 h2 => HX.out W V (by rw [c72]; exact h1) h2
        go_wp2_with fail
        refine (HNum.out u XS s.r.h _ HO.out.1 HO.out.2.1 (by have := hlen.out; omega) HL.out.2.2.1.2.1.2.2.2).mono ?_
        rintro e w1 ⟨v1, rfl, h1, h2⟩
        clear x0 x1 x2 x3 x4 x5 x6 x7 x8 x9 x10 x11 x12 x13 x14
        have HF : Hid (LiW lo b w xs form s (k + 1) v1 w1) := HY.out _ _ h1 h2
        clear h1 h2 HY HX HO HC
        go_wp2
        go_roundw
        case rel => exact ⟨v1, k + 1, rfl, by omega, by go_num, HF⟩
        case measure => simp [intOf]; omega
      by_cases c67 : c = 67
      · have e67 : ((form[k]).toNat : Int) = 67 := by omega
        have HY : Hid (∀ W V, OwY lo W V (XS ++ (txt s.c).data.toList) → KpY lo wr W → LiW lo b w xs form s (k + 1) V W) := fun W V h1 h2 => HX.out W V (by rw [c67]; exact h1) h2
        go_wp2_with fail
        refine (HTx.out s.c _ HL.out.2.2.1.2.2.1).mono ?_
        rintro e w0 ⟨rfl, hb0⟩
        have HP : Hid (OwY lo w0 u XS ∧ KpY lo wr w0 ∧ lo ≤ w0.heap.size) := ⟨HO.out.1.below hb0, KpY.of_below HO.out.2.2 hb0, Nat.le_trans HO.out.2.2 hb0.size⟩
        have HZ : Hid ((txt s.c).size ≤ 9) := by have := txt_len s.c; unfold Hid; simpa using this
        clear hb0 x0 x1 x2 x3 x4 x5 x6 x7 x8 x9 x10 x11 x12 x13 x14
        generalize txt s.c = tx at *
        go_wp2_with (at_builtin; refine app_txt rfl _ _ rfl lo u XS tx rfl HP.out.1 rfl HP.out.2.2 (by have := hlen.out; have := HZ.out; omega) ?_)
        intro v1 w1 h1 h2
        replace h2 := HP.out.2.1.trans h2
        clear HP HZ
        have HF : Hid (LiW lo b w xs form s (k + 1) v1 w1) := HY.out _ _ h1 h2
        clear h1 h2 HY HX HO HC
        go_wp2
        go_roundw
        case rel => exact ⟨v1, k + 1, rfl, by omega, by go_num, HF⟩
        case measure => simp [intOf]; omega
      by_cases c66 : c = 66
      · have e66 : ((form[k]).toNat : Int) = 66 := by omega
        have HY : Hid (∀ W V, OwY lo W V (XS ++ (txt s.b).data.toList) → KpY lo wr W → LiW lo b w xs form s (k + 1) V W) := fun W V h1 h2 => HX.out W V (by rw [c66]; exact h1) h2
        go_wp2_with fail
        refine (HTx.out s.b _ HL.out.2.2.1.2.2.2.1).mono ?_
        rintro e w0 ⟨rfl, hb0⟩
        have HP : Hid (OwY lo w0 u XS ∧ KpY lo wr w0 ∧ lo ≤ w0.heap.size) := ⟨HO.out.1.below hb0, KpY.of_below HO.out.2.2 hb0, Nat.le_trans HO.out.2.2 hb0.size⟩
        have HZ : Hid ((txt s.b).size ≤ 9) := by have := txt_len s.b; unfold Hid; simpa using this
        clear hb0 x0 x1 x2 x3 x4 x5 x6 x7 x8 x9 x10 x11 x12 x13 x14
        generalize txt s.b = tx at *
        go_wp2_with (at_builtin; refine app_txt rfl _ _ rfl lo u XS tx rfl HP.out.1 rfl HP.out.2.2 (by have := hlen.out; have := HZ.out; omega) ?_)
        intro v1 w1 h1 h2
        replace h2 := HP.out.2.1.trans h2
        clear HP HZ
        have HF : Hid (LiW lo b w xs form s (k + 1) v1 w1) := HY.out _ _ h1 h2
        clear h1 h2 HY HX HO HC
        go_wp2
        go_roundw
        case rel => exact ⟨v1, k + 1, rfl, by omega, by go_num, HF⟩
        case measure => simp [intOf]; omega
      by_cases c78 : c = 78
      · have e78 : ((form[k]).toNat : Int) = 78 := by omega
        have HY : Hid (∀ W V, OwY lo W V (XS ++ Lib.itoa s.n) → KpY lo wr W → LiW lo b w xs form s (k + 1) V W) := fun W V h1 h2 => HX.out W V (by rw [c78]; exact h1) h2
        go_wp2_with fail
        refine (HNum.out u XS s.n _ HO.out.1 HO.out.2.1 (by have := hlen.out; omega) HL.out.2.2.1.2.2.2.2.2).mono ?_
        rintro e w1 ⟨v1, rfl, h1, h2⟩
        clear x0 x1 x2 x3 x4 x5 x6 x7 x8 x9 x10 x11 x12 x13 x14
        have HF : Hid (LiW lo b w xs form s (k + 1) v1 w1) := HY.out _ _ h1 h2
        clear h1 h2 HY HX HO HC
        go_wp2
        go_roundw
        case rel => exact ⟨v1, k + 1, rfl, by omega, by go_num, HF⟩
        case measure => simp [intOf]; omega
      by_cases c84 : c = 84
      · have e84 : ((form[k]).toNat : Int) = 84 := by omega
        have HY : Hid (∀ W V, OwY lo W V (XS ++ escL s.t.data.toList) → KpY lo wr W → LiW lo b w xs form s (k + 1) V W) := fun W V h1 h2 => HX.out W V (by rw [c84]; exact h1) h2
        go_wp2_with fail
        refine (HEs.out u XS _ HO.out.1 HO.out.2.1 (by have := hlen.out; omega)).mono ?_
        rintro e w1 ⟨v1, rfl, h1, h2⟩
        clear x0 x1 x2 x3 x4 x5 x6 x7 x8 x9 x10 x11 x12 x13 x14
        have HF : Hid (LiW lo b w xs form s (k + 1) v1 w1) := HY.out _ _ h1 h2
        clear h1 h2 HY HX HO HC
        go_wp2
        go_roundw
        case rel => exact ⟨v1, k + 1, rfl, by omega, by go_num, HF⟩
        case measure => simp [intOf]; omega
      have f88 : (((form[k]).toNat : Int) == 88) = false := by rw [beq_eq_false_iff_ne]; omega
      have f89 : (((form[k]).toNat : Int) == 89) = false := by rw [beq_eq_false_iff_ne]; omega
      have f87 : (((form[k]).toNat : Int) == 87) = false := by rw [beq_eq_false_iff_ne]; omega
      have f72 : (((form[k]).toNat : Int) == 72) = false := by rw [beq_eq_false_iff_ne]; omega
      have f67 : (((form[k]).toNat : Int) == 67) = false := by rw [beq_eq_false_iff_ne]; omega
      have f66 : (((form[k]).toNat : Int) == 66) = false := by rw [beq_eq_false_iff_ne]; omega
      have f78 : (((form[k]).toNat : Int) == 78) = false := by rw [beq_eq_false_iff_ne]; omega
      have f84 : (((form[k]).toNat : Int) == 84) = false := by rw [beq_eq_false_iff_ne]; omega
      clear x0 x1 x2 x3 x4 x5 x6 x7 x8 x9 x10 x11 x12 x13 x14
      have HE := pce_else (s := s) c88 c89 c87 c72 c67 c66 c78 c84
      have HY : Hid (∀ W V, W.ownsRow lo 5 1 V (XS.length + 1) (Lib.byteCells (XS ++ [form[k]])) → KpY lo wr W → LiW lo b w xs form s (k + 1) V W) := fun W V h1 h2 => HX.out W V (by rw [HE, ← HC.out]; unfold OwY; rw [List.length_append]; exact h1) h2
      have HA : Hid (OwY lo (wr.alloc (.cells #[.int .u8 (form[k]).toNat] 5)) u XS ∧ KpY lo wr (wr.alloc (.cells #[.int .u8 (form[k]).toNat] 5)) ∧ lo ≤ (wr.alloc (.cells #[.int .u8 (form[k]).toNat] 5)).heap.size) := ⟨HO.out.1.below ((Below.refl _ _).alloc (Nat.le_refl _) _), (KpY.refl _ _).alloc HO.out.2.2 _, by have := HO.out.2.2; simp; omega⟩
      clear HE HC HX HO c88 c89 c87 c72 c67 c66 c78 c84
      go_wp2_with (at_builtin; refine app_lit rfl _ _ rfl lo u XS [form[k]] rfl HA.out.1 wr.heap.size _ 1 1 #[.int .u8 (form[k]).toNat] 5 rfl rfl (alc_new _ _) rfl HA.out.2.2 (by have := hlen.out; simp; omega) rfl ?_)
      intro v1 w1 h1 h2
      have HF : Hid (LiW lo b w xs form s (k + 1) v1 w1) := HY.out _ _ h1 (HA.out.2.1.trans h2)
      clear h1 h2 HY HA hc
      go_wp2
      go_roundw
      case rel => exact ⟨v1, k + 1, rfl, by omega, by go_num, HF⟩
      case measure => simp [intOf]; omega
    · obtain rfl : k = form.size := by omega
      go_wp2
      go_ret
      refine ⟨_, rfl, ?_, HR.out.kp⟩
      have := HR.out.ow
      rwa [vtake_all] at this

end Go.Proofs.YtdmhcmngajmghaaGreatDoor
