/-
  Texts of this claim, one behind the other: what each is about stands ahead of it.
-/
import Derived.Test.YtfjbnejmcanamaaGreatDoorK27
import Derived.WalkKit
import Derived.LaidEql
import Derived.Stop.Asserts
import Derived.RowKitTokens
import Derived.Test.YtfjbnejmcanamaaGreatDoorK30
import Derived.Test.YtfjbnejmcanamaaGreatDoorK32
import Derived.Test.YtfjbnejmcanamaaGreatDoorK11
/-
  errors.As at an error of the reader, whose place is behind one Unwrap; faultOf.
-/
namespace Go.Proofs.YtfjbnejmcanamaaGreatDoor
open Go.RowKit Go.Extern.Stop Go.Stop Go.Extern

theorem Tryz.valueOfPP (t : Addr) (w : World) : (ReflectliteValue.unpack (.iface 85 (.pointer (some t)))).run Tryz.prog w
    = .ok (.agg #[.pointer (some ⟨10, 85, none⟩), .pointer (some ⟨w.heap.size, 0, none⟩), .int .u64 150]) (w.alloc (.cells #[.pointer (some t)] 85)) := by kernel_rfl
theorem Tryz.typePP (a : Addr) (w : World) : (ReflectliteValue.methodAny (ReflectliteValue.valueError "reflectlite.Value.Type" 0) (fun t _ _ _ => ReflectliteType.toType t) #[.agg #[.pointer (some ⟨10, 85, none⟩), .pointer (some a), .int .u64 150]]).run Tryz.prog w
    = .ok (.iface 151 (.agg #[.pointer (some ⟨10, 85, none⟩)])) w := by kernel_rfl
theorem Tryz.methodKind (h : Value) (w : World) : (Go.method 360 151 (.agg #[h]) "Kind").run Tryz.prog w = .ok (167, h) w := by kernel_rfl
theorem Tryz.kindPP (w : World) : ((ReflectliteType.abiMethod fun t => (fun a : Nat => Value.int IntKind.u8 (a : Int)) <$> Rtype.kind t) #[.pointer (some ⟨10, 85, none⟩)]).run Tryz.prog w = .ok (.int .u8 22) w := by kernel_rfl
theorem Tryz.kindP (w : World) : ((ReflectliteType.abiMethod fun t => (fun a : Nat => Value.int IntKind.u8 (a : Int)) <$> Rtype.kind t) #[.pointer (some ⟨10, 83, none⟩)]).run Tryz.prog w = .ok (.int .u8 22) w := by kernel_rfl

theorem rlm (z : Sem Value) (f : TypeId → Addr → Nat → Nat → Sem Value) (v : Value) :
    ReflectliteValue.method z f #[v] = (do match ← ReflectliteValue.parts v with | none => z | some (t, a, fl) => f t a fl (fl % 32)) := rfl
theorem Tryz.partsPP (a : Addr) (w : World) : (ReflectliteValue.parts (.agg #[.pointer (some ⟨10, 85, none⟩), .pointer (some a), .int .u64 150])).run Tryz.prog w = .ok (some (85, a, 150)) w := by kernel_rfl
theorem Tryz.isNilPP (a p : Addr) (W : World) (ha : W.cell? a = some (.pointer (some p))) :
    (ReflectliteValue.method (ReflectliteValue.valueError "reflectlite.Value.IsNil" 0) ReflectliteValue.isNil #[.agg #[.pointer (some ⟨10, 85, none⟩), .pointer (some a), .int .u64 150]]).run Tryz.prog W = .ok (.bool false) W := by
  rw [rlm]
  simp only [Sem.run_bind, Tryz.partsPP, Result.andThen]
  simp [ReflectliteValue.isNil, loadVar, isAgg, underlying, Tryz.underlying85, ha, Result.andThen]

theorem Tryz.methodElem (h : Value) (w : World) : (Go.method 360 151 (.agg #[h]) "Elem").run Tryz.prog w = .ok (180, .agg #[h]) w := by kernel_rfl
theorem Tryz.methodImplements (h : Value) (w : World) : (Go.method 360 151 (.agg #[h]) "Implements").run Tryz.prog w = .ok (181, .agg #[h]) w := by kernel_rfl
theorem Tryz.methodAssignableTo (h : Value) (w : World) : (Go.method 360 151 (.agg #[h]) "AssignableTo").run Tryz.prog w = .ok (178, .agg #[h]) w := by kernel_rfl
theorem Tryz.methodUnwrap (h : Value) (w : World) : (Go.method 360 104 h "Unwrap").run Tryz.prog w = .ok (173, h) w := by kernel_rfl
theorem Tryz.elemPP (w : World) : (ReflectliteType.method ReflectliteType.elem #[.agg #[.pointer (some ⟨10, 85, none⟩)]]).run Tryz.prog w = .ok (.iface 151 (.agg #[.pointer (some ⟨10, 83, none⟩)])) w := by kernel_rfl
theorem Tryz.implementsP (w : World) : (ReflectliteType.relation "Implements" ReflectliteType.implements_ #[.agg #[.pointer (some ⟨10, 83, none⟩)], .iface 151 (.agg #[.pointer (some ⟨10, 55, none⟩)])]).run Tryz.prog w = .ok (.bool true) w := by kernel_rfl
theorem Tryz.typeOfP (v : Value) (w : World) : (ReflectliteType.typeOf #[.iface 83 v]).run Tryz.prog w = .ok (.iface 151 (.agg #[.pointer (some ⟨10, 83, none⟩)])) w := by kernel_rfl
theorem Tryz.typeOfW (v : Value) (w : World) : (ReflectliteType.typeOf #[.iface 104 v]).run Tryz.prog w = .ok (.iface 151 (.agg #[.pointer (some ⟨10, 104, none⟩)])) w := by kernel_rfl
theorem Tryz.assignableP (w : World) : (ReflectliteType.relation "AssignableTo" ReflectliteType.assignableTo #[.agg #[.pointer (some ⟨10, 83, none⟩)], .iface 151 (.agg #[.pointer (some ⟨10, 83, none⟩)])]).run Tryz.prog w = .ok (.bool true) w := by kernel_rfl
theorem Tryz.assignableW (w : World) : (ReflectliteType.relation "AssignableTo" ReflectliteType.assignableTo #[.agg #[.pointer (some ⟨10, 104, none⟩)], .iface 151 (.agg #[.pointer (some ⟨10, 83, none⟩)])]).run Tryz.prog w = .ok (.bool false) w := by kernel_rfl
theorem Tryz.valueOfP (e : Addr) (w : World) : (ReflectliteValue.unpack (.iface 83 (.pointer (some e)))).run Tryz.prog w
    = .ok (.agg #[.pointer (some ⟨10, 83, none⟩), .pointer (some ⟨w.heap.size, 0, none⟩), .int .u64 150]) (w.alloc (.cells #[.pointer (some e)] 83)) := by kernel_rfl
theorem Tryz.noAs (v : Value) (w : World) : (Instr.typeAssert (.iface 104 v) 55 156 true).run Tryz.prog w = .ok (.tuple #[.nilIface, .bool false]) w := run_typeAssert_lacksB Tryz.underlying156 (by kernel_rfl) (by kernel_rfl) v _ w
theorem Tryz.hasUnwrap (v : Value) (w : World) : (Instr.typeAssert (.iface 104 v) 55 159 true).run Tryz.prog w = .ok (.tuple #[.iface 104 v, .bool true]) w := run_typeAssert_hasB Tryz.underlying159 (by kernel_rfl) v _ w

theorem Tryz.elemOfPP (w : World) : (Rtype.elem? 85).run Tryz.prog w = .ok (some 83) w := by kernel_rfl
theorem Tryz.mkP (p : Addr) (w : World) : (ReflectliteValue.mk 83 p ReflectliteValue.flagAddr).run Tryz.prog w = .ok (.agg #[.pointer (some ⟨10, 83, none⟩), .pointer (some p), .int .u64 406]) w := by kernel_rfl
theorem Tryz.elemVPP (a p : Addr) (W : World) (ha : W.cell? a = some (.pointer (some p))) :
    (ReflectliteValue.method (ReflectliteValue.valueError "reflectlite.Value.Elem" 0) ReflectliteValue.elem #[.agg #[.pointer (some ⟨10, 85, none⟩), .pointer (some a), .int .u64 150]]).run Tryz.prog W
      = .ok (.agg #[.pointer (some ⟨10, 83, none⟩), .pointer (some p), .int .u64 406]) W := by
  rw [rlm]
  simp only [Sem.run_bind, Tryz.partsPP, Result.andThen]
  simp [ReflectliteValue.elem, loadVar, isAgg, underlying, Tryz.underlying85, ha, Result.andThen, Tryz.elemOfPP, Tryz.mkP]
theorem rls (v x : Value) : ReflectliteValue.set #[v, x] = (do
    let (some (dst, a, fl), some (src, b, _)) := (← ReflectliteValue.parts v, ← ReflectliteValue.parts x)
      | unsupported (.noEntry "extern/(internal/reflectlite.Value).Set.zeroValue")
    if fl / ReflectliteValue.flagAddr % 2 == 0 then unsupported (.noEntry "extern/(internal/reflectlite.Value).Set.unaddressable")
    let val ← loadVar src b
    if ← Rtype.directlyAssignable dst src then storeVar dst a val
    else if ← Rtype.implements dst src then
      if (← Rtype.kind src) == 20 then
        match val with
        | .nilIface => unsupported (.noEntry "extern/reflectlite: a nil value of one interface type handed on as a value of another")
        | _ => storeVar dst a val
      else storeVar dst a (.iface src val)
    else panicString ("reflectlite.Set: value of type " ++ (← Rtype.spelt src) ++ " is not assignable to type " ++ (← Rtype.spelt dst))
    pure (.tuple #[])) := rfl
theorem Tryz.partsPa (a : Addr) (w : World) : (ReflectliteValue.parts (.agg #[.pointer (some ⟨10, 83, none⟩), .pointer (some a), .int .u64 406])).run Tryz.prog w = .ok (some (83, a, 406)) w := by kernel_rfl
theorem Tryz.partsP (a : Addr) (w : World) : (ReflectliteValue.parts (.agg #[.pointer (some ⟨10, 83, none⟩), .pointer (some a), .int .u64 150])).run Tryz.prog w = .ok (some (83, a, 150)) w := by kernel_rfl
theorem Tryz.directP (w : World) : (Rtype.directlyAssignable 83 83).run Tryz.prog w = .ok true w := by kernel_rfl
theorem Tryz.setP (ta b e : Addr) (old : Value) (W : World) (hb : W.cell? b = some (.pointer (some e))) (ht : W.cell? ta = some old) (hf : W.frozen? ta = false) :
    (ReflectliteValue.set #[.agg #[.pointer (some ⟨10, 83, none⟩), .pointer (some ta), .int .u64 406], .agg #[.pointer (some ⟨10, 83, none⟩), .pointer (some b), .int .u64 150]]).run Tryz.prog W
      = .ok (.tuple #[]) (W.setCell ta (.pointer (some e))) := by
  rw [rls]
  simp only [Sem.run_bind, Tryz.partsPa, Tryz.partsP, Result.andThen]
  simp [ReflectliteValue.flagAddr, loadVar, isAgg, underlying, Tryz.underlying83, hb, Result.andThen, Tryz.directP, storeVar, Value.cells, storeCells, Addr.add]
  rw [run_store Tryz.prog W ta _ _ (by rfl)]
  simp [ht, hf]

end Go.Proofs.YtfjbnejmcanamaaGreatDoor

/-
  errors.As at an error of the reader, walked; faultOf.
-/
namespace Go.Proofs.YtfjbnejmcanamaaGreatDoor
open Go.RowKit Go.Extern.Stop Go.Stop Go.Extern

/-- The world behind errors.As, but for the target. -/
def asW (w : World) (t f : Nat) : World := (((w.alloc (.cells #[.pointer (some ⟨t, 0, none⟩)] 85)).alloc (.cells #[.pointer (some ⟨10, 85, none⟩), .pointer (some ⟨w.heap.size, 0, none⟩), .int .u64 150] 110)).alloc (.cells #[.pointer (some ⟨10, 85, none⟩), .pointer (some ⟨w.heap.size, 0, none⟩), .int .u64 150] 110)).alloc (.cells #[.pointer (some ⟨f, 0, none⟩)] 83)

set_option maxRecDepth 10000 in
set_option maxHeartbeats 4000000 in
theorem as_chain (g f t : Nat) (old : Value) (w : World) (hg : w.cell? ⟨0, 0, none⟩ = some (.iface 151 (.agg #[.pointer (some ⟨10, 55, none⟩)])))
    (hw : w.cell? ⟨g, 1, none⟩ = some (.pointer (some ⟨f, 0, none⟩))) (ht0 : w.cell? ⟨t, 0, none⟩ = some old) (hf0 : w.frozen? ⟨t, 0, none⟩ = false) :
    Calls Tryz.prog 36 #[.iface 104 (.pointer (some ⟨g, 0, none⟩)), .iface 85 (.pointer (some ⟨t, 0, none⟩))] w fun ev w' => ev = .returned (.bool true) ∧ w' = (asW w t f).setCell ⟨t, 0, none⟩ (.pointer (some ⟨f, 0, none⟩)) := by
  have h6 := @run_callFunc_extern Tryz.prog 56 _ (fun args => ReflectliteValue.unpack (args.getD 0 (.tuple #[]))) Tryz.func56 (by kernel_rfl) (by kernel_rfl) (by kernel_rfl) (by kernel_rfl)
  have h7 := @run_callFunc_extern Tryz.prog 57 _ (ReflectliteValue.methodAny (ReflectliteValue.valueError "reflectlite.Value.Type" 0) (fun t _ _ _ => ReflectliteType.toType t)) Tryz.func57 (by kernel_rfl) (by kernel_rfl) (by kernel_rfl) (by kernel_rfl)
  have h8 := @run_callFunc_extern Tryz.prog 58 _ (ReflectliteValue.method (ReflectliteValue.valueError "reflectlite.Value.IsNil" 0) ReflectliteValue.isNil) Tryz.func58 (by kernel_rfl) (by kernel_rfl) (by kernel_rfl) (by kernel_rfl)
  have h27 := @run_callFunc_extern Tryz.prog 167 _ (ReflectliteType.abiMethod fun t => do pure (.int .u8 (← Rtype.kind t))) Tryz.func167 (by kernel_rfl) (by kernel_rfl) (by kernel_rfl) (by kernel_rfl)
  have h37 := @run_callFunc_extern Tryz.prog 180 _ (ReflectliteType.method ReflectliteType.elem) Tryz.func180 (by kernel_rfl) (by kernel_rfl) (by kernel_rfl) (by kernel_rfl)
  have h38 := @run_callFunc_extern Tryz.prog 181 _ (ReflectliteType.relation "Implements" ReflectliteType.implements_) Tryz.func181 (by kernel_rfl) (by kernel_rfl) (by kernel_rfl) (by kernel_rfl)
  have h10 := @run_callFunc_extern Tryz.prog 87 _ ReflectliteType.typeOf Tryz.func87 (by kernel_rfl) (by kernel_rfl) (by kernel_rfl) (by kernel_rfl)
  have h35 := @run_callFunc_extern Tryz.prog 178 _ (ReflectliteType.relation "AssignableTo" ReflectliteType.assignableTo) Tryz.func178 (by kernel_rfl) (by kernel_rfl) (by kernel_rfl) (by kernel_rfl)
  have h11 := @run_callFunc_extern Tryz.prog 88 _ (ReflectliteValue.method (ReflectliteValue.valueError "reflectlite.Value.Elem" 0) ReflectliteValue.elem) Tryz.func88 (by kernel_rfl) (by kernel_rfl) (by kernel_rfl) (by kernel_rfl)
  have h12 := @run_callFunc_extern Tryz.prog 89 _ ReflectliteValue.set Tryz.func89 (by kernel_rfl) (by kernel_rfl) (by kernel_rfl) (by kernel_rfl)
  have tO := Tryz.typeOfP
  have tW := Tryz.typeOfW
  have mA := Tryz.methodAssignableTo
  have mU := Tryz.methodUnwrap
  have aP := Tryz.assignableP
  have aW := Tryz.assignableW
  have vP := Tryz.valueOfP
  have f6 := Tryz.valueOfPP
  have f7 := Tryz.typePP
  have mK := Tryz.methodKind
  have mE := Tryz.methodElem
  have mI := Tryz.methodImplements
  have kPP := Tryz.kindPP
  have kP := Tryz.kindP
  have ePP := Tryz.elemPP
  have iP := Tryz.implementsP
  have nA := Tryz.noAs
  have hU := Tryz.hasUnwrap
  have htl : t < w.heap.size := by
    rcases Nat.lt_or_ge t w.heap.size with h | h
    · exact h
    · simp [World.cell?, Array.getElem?_eq_none h] at ht0
  have hgl : g < w.heap.size := by
    rcases Nat.lt_or_ge g w.heap.size with h | h
    · exact h
    · simp [World.cell?, Array.getElem?_eq_none h] at hw
  have hlt : 0 < w.heap.size := by
    rcases Nat.lt_or_ge 0 w.heap.size with h | h
    · exact h
    · simp [World.cell?, Array.getElem?_eq_none h] at hg
  obtain ⟨W2, hW2⟩ : ∃ W2, W2 = ((w.alloc (.cells #[.pointer (some ⟨t, 0, none⟩)] 85)).alloc (.cells #[.pointer (some ⟨10, 85, none⟩), .pointer (some ⟨w.heap.size, 0, none⟩), .int .u64 150] 110)) := ⟨_, rfl⟩
  subst hW2
  have n8 := Tryz.isNilPP ⟨w.heap.size, 0, none⟩ ⟨t, 0, none⟩ ((w.alloc (.cells #[.pointer (some ⟨t, 0, none⟩)] 85)).alloc (.cells #[.pointer (some ⟨10, 85, none⟩), .pointer (some ⟨w.heap.size, 0, none⟩), .int .u64 150] 110)) (by simp)
  have hg2 : ((w.alloc (.cells #[.pointer (some ⟨t, 0, none⟩)] 85)).alloc (.cells #[.pointer (some ⟨10, 85, none⟩), .pointer (some ⟨w.heap.size, 0, none⟩), .int .u64 150] 110)).cell? ⟨0, 0, none⟩ = some (.iface 151 (.agg #[.pointer (some ⟨10, 55, none⟩)])) := by
    rw [World.cell?_alloc_lt _ _ ⟨0, 0, none⟩ (by simp), World.cell?_alloc_lt _ _ ⟨0, 0, none⟩ hlt]; exact hg
  have hw3 : (((w.alloc (.cells #[.pointer (some ⟨t, 0, none⟩)] 85)).alloc (.cells #[.pointer (some ⟨10, 85, none⟩), .pointer (some ⟨w.heap.size, 0, none⟩), .int .u64 150] 110)).alloc (.cells #[.pointer (some ⟨10, 85, none⟩), .pointer (some ⟨w.heap.size, 0, none⟩), .int .u64 150] 110)).cell? ⟨g, 1, none⟩ = some (.pointer (some ⟨f, 0, none⟩)) := by
    rw [World.cell?_alloc_lt _ _ ⟨g, 1, none⟩ (by simp; omega), World.cell?_alloc_lt _ _ ⟨g, 1, none⟩ (by simp; omega), World.cell?_alloc_lt _ _ ⟨g, 1, none⟩ hgl]; exact hw
  have el := Tryz.elemVPP ⟨w.heap.size, 0, none⟩ ⟨t, 0, none⟩ (((w.alloc (.cells #[.pointer (some ⟨t, 0, none⟩)] 85)).alloc (.cells #[.pointer (some ⟨10, 85, none⟩), .pointer (some ⟨w.heap.size, 0, none⟩), .int .u64 150] 110)).alloc (.cells #[.pointer (some ⟨10, 85, none⟩), .pointer (some ⟨w.heap.size, 0, none⟩), .int .u64 150] 110)) (by rw [World.cell?_alloc_lt _ _ ⟨w.heap.size, 0, none⟩ (by simp; omega)]; simp)
  have st := Tryz.setP ⟨t, 0, none⟩ ⟨w.heap.size + 1 + 1 + 1, 0, none⟩ ⟨f, 0, none⟩ old ((((w.alloc (.cells #[.pointer (some ⟨t, 0, none⟩)] 85)).alloc (.cells #[.pointer (some ⟨10, 85, none⟩), .pointer (some ⟨w.heap.size, 0, none⟩), .int .u64 150] 110)).alloc (.cells #[.pointer (some ⟨10, 85, none⟩), .pointer (some ⟨w.heap.size, 0, none⟩), .int .u64 150] 110)).alloc (.cells #[.pointer (some ⟨f, 0, none⟩)] 83))
    (by rw [World.cell?_alloc_at _ _ _ _ (by simp)]; rfl)
    (by rw [World.cell?_alloc_lt _ _ ⟨t, 0, none⟩ (by simp; omega), World.cell?_alloc_lt _ _ ⟨t, 0, none⟩ (by simp; omega), World.cell?_alloc_lt _ _ ⟨t, 0, none⟩ (by simp; omega), World.cell?_alloc_lt _ _ ⟨t, 0, none⟩ htl]; exact ht0)
    (by rw [World.frozen?_alloc_old _ _ ⟨t, 0, none⟩ (by simp; omega), World.frozen?_alloc_old _ _ ⟨t, 0, none⟩ (by simp; omega), World.frozen?_alloc_old _ _ ⟨t, 0, none⟩ (by simp; omega), World.frozen?_alloc_old _ _ ⟨t, 0, none⟩ (Nat.ne_of_lt htl)]; exact hf0)
  go_enter Tryz.func36, Tryz.ntmps36
  go_wp2
  refine wp_loop_rounds 2 ?_
  rw [rounds_succ]
  go_wp2
  rw [rounds_succ]
  go_wp2
  go_ret
  exact ⟨rfl, rfl⟩

theorem asW_below (w : World) (t f : Nat) : Below w.heap.size w (asW w t f) := by
  unfold asW
  have b1 : Below w.heap.size w (w.alloc (.cells #[.pointer (some ⟨t, 0, none⟩)] 85)) := (Below.refl _ w).alloc (Nat.le_refl _) _
  have b2 := b1.alloc b1.size (.cells #[.pointer (some ⟨10, 85, none⟩), .pointer (some ⟨w.heap.size, 0, none⟩), .int .u64 150] 110)
  have b3 := b2.alloc b2.size (.cells #[.pointer (some ⟨10, 85, none⟩), .pointer (some ⟨w.heap.size, 0, none⟩), .int .u64 150] 110)
  exact b3.alloc b3.size _
theorem size_fault : (Tryz.prog.info? 59).map (·.size) = some 2 := by kernel_rfl

/-- What errors.errorType holds. -/
def EtI (w : World) : Prop := w.cell? ⟨0, 0, none⟩ = some (.iface 151 (.agg #[.pointer (some ⟨10, 55, none⟩)]))

set_option maxRecDepth 10000 in
set_option maxHeartbeats 4000000 in
theorem fault_any (lo p : Nat) (v : Value) (w : World) (h : IsW lo w v p) (hg : EtI w) :
    Calls Tryz.prog 17 #[v] w fun e w' => e = .returned (.agg #[.int .i64 160, .int .i64 (p : Nat)]) ∧ Below w.heap.size w w' := by
  obtain ⟨g, f, must, rfl, _, _, hbg, hbf⟩ := h
  obtain ⟨zb, hzb⟩ : ∃ zb, zb = w.heap.size := ⟨_, rfl⟩
  obtain ⟨t, ht⟩ : ∃ t, t = w.heap.size + 1 := ⟨_, rfl⟩
  have hgl : g < zb := by rw [hzb]; exact hbg.lt
  have hfl : f < zb := by rw [hzb]; exact hbf.lt
  have HW : Hid (zb = w.heap.size ∧ t = w.heap.size + 1) := ⟨hzb, ht⟩
  have H0 : Hid (∀ W, W = ((w.alloc (.cells #[.int .i64 0, .int .i64 0] 59)).alloc (.cells #[.pointer none] 83)) → EtI W ∧ Bk W zb #[.int .i64 0, .int .i64 0] 59 ∧ Bk W t #[.pointer none] 83 ∧ Bk W g #[.string must, .pointer (some ⟨f, 0, none⟩)] 106 ∧ Bk W f #[.int .i64 160, .int .i64 (p : Nat)] 59 ∧ Below w.heap.size w W) := fun W hW => by
    have b1 : Below w.heap.size w (w.alloc (.cells #[.int .i64 0, .int .i64 0] 59)) := (Below.refl _ w).alloc (Nat.le_refl _) _
    have e : (w.alloc (.cells #[.int .i64 0, .int .i64 0] 59)).heap.size = w.heap.size + 1 := by simp
    have b2 : Below (w.heap.size + 1) (w.alloc (.cells #[.int .i64 0, .int .i64 0] 59)) W := by rw [hW, ← e]; exact (Below.refl _ _).alloc (Nat.le_refl _) _
    have b3 : Below w.heap.size w W := b1.trans (b2.mono (by omega))
    refine ⟨?_, ?_, ?_, hbg.below b3, hbf.below b3, b3⟩
    · have hl : 0 < w.heap.size := by
        rcases Nat.lt_or_ge 0 w.heap.size with h | h
        · exact h
        · exact absurd hg (by unfold EtI; simp [World.cell?, Array.getElem?_eq_none h])
      unfold EtI
      rw [b3.cell (p := ⟨0, 0, none⟩) hl]
      exact hg
    · rw [hzb]; exact (Bk.new w _ _).below (by rw [e]; exact b2)
    · rw [hW, ht, ← e]; exact Bk.new _ _ _
  clear hbg hbf hg
  go_enter Tryz.func17, Tryz.ntmps17
  go_wp2_with fail
  obtain ⟨W0, hW0⟩ : ∃ W0, W0 = ((w.alloc (.cells #[.int .i64 0, .int .i64 0] 59)).alloc (.cells #[.pointer none] 83)) := ⟨_, rfl⟩
  have H1 := show Hid _ from H0.out W0 hW0
  rw [← hW0, ← ht, ← hzb]
  clear hW0 H0 hzb ht
  have n1 : zb ≠ t := by have := HW.out; omega
  have n2 : f ≠ t := by have := HW.out; omega
  refine (as_chain g f t (.pointer none) W0 H1.out.1 (Bk.cell H1.out.2.2.2.1 1) (Bk.cell H1.out.2.2.1 0) (Bk.frozen H1.out.2.2.1 0)).mono ?_
  rintro e w' ⟨rfl, hw'⟩
  have H2 : Hid (Bk w' zb #[.int .i64 0, .int .i64 0] 59 ∧ Bk w' t #[.pointer (some ⟨f, 0, none⟩)] 83 ∧ Bk w' f #[.int .i64 160, .int .i64 (p : Nat)] 59 ∧ Below w.heap.size w w') := by
    have k1 : Kp2 t t W0 w' := by rw [hw']; exact (Kp2.of_below (asW_below W0 t f)).trans (Kp2.put _ _ _ _ _)
    have hb := H1.out.2.2.2.2.2
    exact ⟨k1.bk H1.out.2.1 n1 n1, by rw [hw']; exact Bk.put (H1.out.2.2.1.below (asW_below W0 t f)) 0 _, k1.bk H1.out.2.2.2.2.1 n2 n2, hb.trans (k1.below hb.size (by have := HW.out; omega) (by have := HW.out; omega))⟩
  clear hw' H1
  have c0 := Bk.cell H2.out.2.1 0
  have d0 := Bk.cell H2.out.2.2.1 0
  have d1 := Bk.cell H2.out.2.2.1 1
  simp only [List.getElem?_toArray, List.getElem?_cons_zero, List.getElem?_cons_succ] at c0 d0 d1
  go_wp2_with (refine wpList_store_row rfl 59 (.tmp 2) (.tmp 9) rfl zb #[.int .i64 160, .int .i64 (p : Nat)] rfl rfl 59 _ H2.out.1 size_fault rfl (by simp [Value.oneCell']) ?_)
  obtain ⟨W3, hW3⟩ : ∃ W3, W3 = w'.setRow zb #[.int .i64 160, .int .i64 (p : Nat)] := ⟨_, rfl⟩
  rw [← hW3]
  have hB3 : Bk W3 zb #[.int .i64 160, .int .i64 (p : Nat)] 59 := by rw [hW3]; exact setRow_heap _ _ _ _ _ _ H2.out.1
  have hld : (loadVar 59 ⟨zb, 0, none⟩).run Tryz.prog W3 = .ok (.agg #[.int .i64 160, .int .i64 (p : Nat)]) W3 := run_loadVar_row W3 zb 59 59 #[.int .i64 160, .int .i64 (p : Nat)] (0, 0) _ hB3 Tryz.underlying59 rfl size_fault
  have hK3 : Kp2 zb zb w' W3 := by rw [hW3]; exact Kp2.row _ _ _ _
  refine bodyPost_ret (v := .agg #[.int .i64 160, .int .i64 (p : Nat)]) ?_ rfl ⟨rfl, H2.out.2.2.2.trans (hK3.below H2.out.2.2.2.size (by have := HW.out; omega) (by have := HW.out; omega))⟩
  simp [results, Tryz.results17, asAddr, hld, Act.put]

end Go.Proofs.YtfjbnejmcanamaaGreatDoor

/-
  Contracts of package vector's reader: Read.
-/
namespace Go.Proofs.YtfjbnejmcanamaaGreatDoor
open Go.RowKit

/-- What Read answers: its error, its place, its strokes, its size. -/
def rdE (s : ByteArray) : Int := if 65536 < s.size then 3 else match vsR s with
  | .inl _ => 160
  | .inr (l, zw, zh) => if sizB zw zh = false then 9 else chkS l
def rdA (s : ByteArray) : Nat := if 65536 < s.size then 0 else match vsR s with
  | .inl q => q
  | .inr _ => 0
def rdL (s : ByteArray) : List St := if rdE s = 0 then (match vsR s with | .inl _ => [] | .inr (l, _, _) => l) else []
def rdW (s : ByteArray) : Int := if rdE s = 0 then (match vsR s with | .inl _ => 0 | .inr (_, zw, _) => zw) else 0
def rdH (s : ByteArray) : Int := if rdE s = 0 then (match vsR s with | .inl _ => 0 | .inr (_, _, zh) => zh) else 0
def RdQ (s : ByteArray) (w : World) (e : Ending) (w' : World) : Prop :=
  ∃ u, e = .returned (.tuple #[u, .agg #[.int .i64 (rdW s), .int .i64 (rdH s)], .int .i64 (rdA s : Nat), .int .i64 (rdE s)]) ∧ OwS w.heap.size w' u (rdL s) ∧ Below w.heap.size w w'
theorem rdq_none {s : ByteArray} {w w' : World} {e : Ending} {a : Nat} {c : Int} (h1 : rdE s = c) (hc : c ≠ 0) (h2 : rdA s = a) (he : e = .returned (.tuple #[.slice none 0 0, .agg #[.int .i64 0, .int .i64 0], .int .i64 (a : Nat), .int .i64 c])) (hb : Below w.heap.size w w') : RdQ s w e w' := by
  have n : ¬ rdE s = 0 := by rw [h1]; exact hc
  refine ⟨.slice none 0 0, ?_, ?_, hb⟩
  · rw [he, h1, h2]
    unfold rdW rdH
    rw [if_neg n, if_neg n]
  · unfold rdL
    rw [if_neg n]
    exact OwS.nil _ _
theorem rdq_some {s : ByteArray} {w w' : World} {e : Ending} {u : Value} {l : List St} {zw zh : Int} (hs : ¬ 65536 < s.size) (hr : vsR s = .inr (l, zw, zh)) (hz : sizB zw zh = true) (hk : chkS l = 0)
    (he : e = .returned (.tuple #[u, .agg #[.int .i64 zw, .int .i64 zh], .int .i64 0, .int .i64 0])) (ho : OwS w.heap.size w' u l) (hb : Below w.heap.size w w') : RdQ s w e w' := by
  have n : rdE s = 0 := by unfold rdE; rw [if_neg hs, hr]; simp [hz, hk]
  have a : rdA s = 0 := by unfold rdA; rw [if_neg hs, hr]
  refine ⟨u, ?_, ?_, hb⟩
  · rw [he, n, a]
    unfold rdW rdH
    rw [if_pos n, if_pos n, hr]
    rfl
  · unfold rdL
    rw [if_pos n, hr]
    exact ho
theorem IsW.keepB {lo : Nat} {w w' : World} {e : Value} {p : Nat} (h : IsW lo w e p) (hb : Below w.heap.size w w') : IsW lo w' e p := by
  obtain ⟨g, f, m, h1, h2, h3, h4, h5⟩ := h
  exact ⟨g, f, m, h1, h2, h3, h4.below hb, h5.below hb⟩
theorem EtI.below {w w' : World} (h : EtI w) (hb : Below w.heap.size w w') : EtI w' := by
  have hl : 0 < w.heap.size := by
    rcases Nat.lt_or_ge 0 w.heap.size with h1 | h1
    · exact h1
    · exact absurd h (by unfold EtI; simp [World.cell?, Array.getElem?_eq_none h1])
  unfold EtI
  rw [hb.cell (p := ⟨0, 0, none⟩) hl]
  exact h

set_option maxRecDepth 10000 in
set_option maxHeartbeats 4000000 in
theorem read_big (s : ByteArray) (w : World) (hs : 65536 < s.size) : Calls Tryz.prog 6 #[.string s] w fun e w' => RdQ s w e w' := by
  obtain ⟨zb, hzb⟩ : ∃ zb, zb = w.heap.size := ⟨_, rfl⟩
  have HZ : Hid (zb = w.heap.size) := hzb
  have HE : Hid (rdE s = 3 ∧ rdA s = 0) := ⟨by unfold rdE; rw [if_pos hs], by unfold rdA; rw [if_pos hs]⟩
  have HQ6 : Hid (Bk (w.alloc (.cells #[.int .i64 0, .int .i64 0] 24)) zb #[.int .i64 0, .int .i64 0] 24 ∧ Below w.heap.size w (w.alloc (.cells #[.int .i64 0, .int .i64 0] 24))) := ⟨by rw [hzb]; exact Bk.new w _ _, (Below.refl _ w).alloc (Nat.le_refl _) _⟩
  have hs1 : (65536 : Int) < s.size := by omega
  go_enter Tryz.func6, Tryz.ntmps6
  go_wp2_with fail
  rw [← hzb]
  clear hzb
  have hld : (loadVar 24 ⟨zb, 0, none⟩).run Tryz.prog (w.alloc (.cells #[.int .i64 0, .int .i64 0] 24)) = .ok (.agg #[.int .i64 0, .int .i64 0]) (w.alloc (.cells #[.int .i64 0, .int .i64 0] 24)) := run_loadVar_row _ (zb) 24 24 #[.int .i64 0, .int .i64 0] (0, 0) _ HQ6.out.1 Tryz.underlying24 rfl size_siz
  refine bodyPost_ret (v := .tuple #[.slice none 0 0, .agg #[.int .i64 0, .int .i64 0], .int .i64 0, .int .i64 3]) ?_ rfl (rdq_none HE.out.1 (by decide) HE.out.2 rfl HQ6.out.2)
  simp [results, Tryz.results6, asAddr, hld]

/-- What lies ahead of shapes. -/
theorem read_start (s : ByteArray) (w : World) (zb : Nat) (hzb : zb = w.heap.size) (hs : s.size ≤ 65536) (hE : EnR w.heap.size w) : Bk (w.alloc (.cells #[.int .i64 0, .int .i64 0] 24)) zb #[.int .i64 0, .int .i64 0] 24 ∧ Below w.heap.size w (w.alloc (.cells #[.int .i64 0, .int .i64 0] 24)) ∧ Calls Tryz.prog 16 #[.string s] (w.alloc (.cells #[.int .i64 0, .int .i64 0] 24)) fun e w' => VsQ (vsR s) (w.alloc (.cells #[.int .i64 0, .int .i64 0] 24)) e w' := by
  have b : Below w.heap.size w (w.alloc (.cells #[.int .i64 0, .int .i64 0] 24)) := (Below.refl _ w).alloc (Nat.le_refl _) _
  exact ⟨by rw [hzb]; exact Bk.new w _ _, b, shapesR_any s _ (by omega) ((hE.on b).mono b.size)⟩

def JR6 (w : World) (fb zb q : Nat) (b : Nat → Bool) (u2 u4 u5 u25 u26 u27 u28 u29 : Value) (x : World) : Prop :=
  (b 0 = true → u25 = .agg #[.int .i64 0, .int .i64 0]) ∧
  (b 1 = true → u26 = .pointer (some ⟨fb, 1, none⟩)) ∧
  (b 2 = true → u27 = .int .i64 (q : Nat)) ∧
  (b 3 = true → u28 = .pointer (some ⟨fb, 0, none⟩)) ∧
  (b 4 = true → u29 = .int .i64 160) ∧
  (b 5 = true → u2 = .slice none 0 0) ∧
  (b 7 = true → u4 = .int .i64 (q : Nat)) ∧
  (b 8 = true → u5 = .int .i64 160) ∧
  Bk x fb #[.int .i64 160, .int .i64 (q : Nat)] 59 ∧
  Bk x zb #[.int .i64 0, .int .i64 0] 24 ∧
  Below w.heap.size w x

set_option maxRecDepth 10000 in
set_option maxHeartbeats 8000000 in
theorem read_wrong (s : ByteArray) (q : Nat) (w : World) (hs : s.size ≤ 65536) (hE : EnR w.heap.size w) (hT : EtI w) (hr : vsR s = .inl q) : Calls Tryz.prog 6 #[.string s] w fun e w' => RdQ s w e w' := by
  obtain ⟨zb, hzb⟩ : ∃ zb, zb = w.heap.size := ⟨_, rfl⟩
  have HZ : Hid (zb = w.heap.size ∧ EtI w) := ⟨hzb, hT⟩
  have HE : Hid (rdE s = 160 ∧ rdA s = q) := ⟨by unfold rdE; rw [if_neg (by omega), hr], by unfold rdA; rw [if_neg (by omega), hr]⟩
  have H0 := show Hid _ from read_start s w zb hzb hs hE
  rw [hr] at H0
  have hs1 : ¬ (65536 : Int) < s.size := by omega
  clear hE hT hr
  go_enter Tryz.func6, Tryz.ntmps6
  go_wp2_with fail
  rw [← hzb]
  clear hzb
  refine H0.out.2.2.mono ?_
  rintro e w1 ⟨v, rfl, hv, hb1⟩
  obtain ⟨gi, hgi⟩ := isw_iface hv
  have hz0 : (w.alloc (.cells #[.int .i64 0, .int .i64 0] 24)).heap.size = w.heap.size + 1 := by simp
  have HA : Hid (IsW 0 (w1.alloc (.cells #[.int .i64 0, .int .i64 0] 24)) v q ∧ Bk (w1.alloc (.cells #[.int .i64 0, .int .i64 0] 24)) zb #[.int .i64 0, .int .i64 0] 24 ∧ Below w.heap.size w (w1.alloc (.cells #[.int .i64 0, .int .i64 0] 24)) ∧ EtI (w1.alloc (.cells #[.int .i64 0, .int .i64 0] 24)) ∧ zb < (w1.alloc (.cells #[.int .i64 0, .int .i64 0] 24)).heap.size) := by
    have b1 : Below w1.heap.size w1 (w1.alloc (.cells #[.int .i64 0, .int .i64 0] 24)) := (Below.refl _ w1).alloc (Nat.le_refl _) _
    have hz := HZ.out.1
    have bb := H0.out.2.1.trans (hb1.mono (by omega))
    have bw := bb.trans (b1.mono bb.size)
    have k := (H0.out.1.below hb1).below b1
    refine ⟨(hv.weaken (Nat.zero_le _) : IsW 0 w1 v q).keepB b1, k, bw, HZ.out.2.below bw, k.lt⟩
  subst hgi
  clear hv hb1 hz0 H0
  go_wp2_with fail
  refine (fault_any 0 q _ _ HA.out.1 HA.out.2.2.2.1).mono ?_
  rintro e w3 ⟨rfl, hb3⟩
  obtain ⟨fb, hfb⟩ : ∃ fb, fb = w3.heap.size := ⟨_, rfl⟩
  have HN : Hid (Bk (w3.alloc (.cells #[.int .i64 160, .int .i64 (q : Nat)] 59)) fb #[.int .i64 160, .int .i64 (q : Nat)] 59 ∧ Bk (w3.alloc (.cells #[.int .i64 160, .int .i64 (q : Nat)] 59)) zb #[.int .i64 0, .int .i64 0] 24 ∧ Below w.heap.size w (w3.alloc (.cells #[.int .i64 160, .int .i64 (q : Nat)] 59))) := by
    have b1 : Below w3.heap.size w3 (w3.alloc (.cells #[.int .i64 160, .int .i64 (q : Nat)] 59)) := (Below.refl _ w3).alloc (Nat.le_refl _) _
    have hz := HZ.out.1
    have h5 := HA.out.2.2.2.2
    have bb := HA.out.2.2.1.trans (hb3.mono HA.out.2.2.1.size)
    exact ⟨by rw [hfb]; exact Bk.new _ _ _, (HA.out.2.1.below hb3).below b1, bb.trans (b1.mono bb.size)⟩
  have HFZ : Hid (fb ≠ zb ∧ w.heap.size ≤ zb) := by
    have h1 := hb3.size
    have h2 := HA.out.2.2.2.2
    have h3 := HZ.out.1
    exact ⟨by omega, by omega⟩
  clear hb3 HA
  obtain ⟨qb, hqb⟩ : ∃ qb, qb = w1.heap.size := ⟨_, rfl⟩
  go_wp2_with fail
  rw [← hfb, ← hqb]
  clear hfb hqb
  generalize hWW : w3.alloc (.cells #[.int .i64 160, .int .i64 (q : Nat)] 59) = WW at *
  refine wp_region_inv (I := (fun b a x => ∃ u2 u4 u5 u25 u26 u27 u28 u29, a = ⟨#[.string s, undef, u2, .pointer (some ⟨zb, 0, none⟩), u4, u5, .slice none 0 0, .pointer (some ⟨qb, 0, none⟩), .iface 104 (.pointer (some ⟨gi, 0, none⟩)), .pointer (some ⟨fb, 0, none⟩), undef, .string s, .int .i64 (s.size : Nat), .bool false, undef, .tuple #[.slice none 0 0, .agg #[.int .i64 0, .int .i64 0], .iface 104 (.pointer (some ⟨gi, 0, none⟩))], .string s, .tuple #[.slice none 0 0, .agg #[.int .i64 0, .int .i64 0], .iface 104 (.pointer (some ⟨gi, 0, none⟩))], .slice none 0 0, .agg #[.int .i64 0, .int .i64 0], .iface 104 (.pointer (some ⟨gi, 0, none⟩)), .iface 104 (.pointer (some ⟨gi, 0, none⟩)), .bool true, .iface 104 (.pointer (some ⟨gi, 0, none⟩)), .agg #[.int .i64 160, .int .i64 (q : Nat)], u25, u26, u27, u28, u29, undef, undef, undef, undef, undef, undef, undef, undef, undef, undef, undef, undef], []⟩ ∧ Hid (JR6 w fb zb q b u2 u4 u5 u25 u26 u27 u28 u29 x))) (by kernel_rfl) (by kernel_rfl) ?_ ?_ ?_
  · exact ⟨_, _, _, _, _, _, _, _, rfl, ⟨(fun e => by cases e), (fun e => by cases e), (fun e => by cases e), (fun e => by cases e), (fun e => by cases e), (fun e => by cases e), (fun e => by cases e), (fun e => by cases e), HN.out.1.below (Below.refl _ _).drew, HN.out.2.1.below (Below.refl _ _).drew, HN.out.2.2.drew⟩⟩
  · intro b a x i o hI hbi ho hpre K' hK
    obtain ⟨u2, u4, u5, u25, u26, u27, u28, u29, rfl, HJ⟩ := hI
    have hi : i < 9 := by have := (Array.getElem?_eq_some_iff.1 ho).1; simpa using this
    rcases (show i = 0 ∨ i = 1 ∨ i = 2 ∨ i = 3 ∨ i = 4 ∨ i = 5 ∨ i = 6 ∨ i = 7 ∨ i = 8 by omega) with rfl | rfl | rfl | rfl | rfl | rfl | rfl | rfl | rfl
    · injection (show some _ = some o from ho) with ho
      subst ho
      have HN : Hid (JR6 w fb zb q (fun j => if j = 0 then true else b j) u2 u4 u5 (.agg #[.int .i64 0, .int .i64 0]) u26 u27 u28 u29 x) := by
        obtain ⟨j0, j1, j2, j3, j4, j5, j7, j8, e0, e1, e2⟩ := HJ.out
        exact ⟨fun _ => rfl, j1, j2, j3, j4, j5, j7, j8, e0, e1, e2⟩
      clear HJ hpre
      go_simp
      exact hK _ _ ⟨u2, u4, u5, _, u26, u27, u28, u29, rfl, HN⟩
    · injection (show some _ = some o from ho) with ho
      subst ho
      have HN : Hid (JR6 w fb zb q (fun j => if j = 1 then true else b j) u2 u4 u5 u25 (.pointer (some ⟨fb, 1, none⟩)) u27 u28 u29 x) := by
        obtain ⟨j0, j1, j2, j3, j4, j5, j7, j8, e0, e1, e2⟩ := HJ.out
        exact ⟨j0, fun _ => rfl, j2, j3, j4, j5, j7, j8, e0, e1, e2⟩
      clear HJ hpre
      go_simp
      exact hK _ _ ⟨u2, u4, u5, u25, _, u27, u28, u29, rfl, HN⟩
    · injection (show some _ = some o from ho) with ho
      subst ho
      have p1 : b 1 = true := hpre 1 (by decide +kernel)
      obtain rfl : u26 = .pointer (some ⟨fb, 1, none⟩) := by obtain ⟨j0, j1, j2, j3, j4, j5, j7, j8, e0, e1, e2⟩ := HJ.out; exact (j1 p1)
      have c1 : x.cell? ⟨fb, 1, none⟩ = some (.int .i64 (q : Nat)) := by obtain ⟨j0, j1, j2, j3, j4, j5, j7, j8, e0, e1, e2⟩ := HJ.out; exact (Bk.at2 e0).2
      have HN : Hid (JR6 w fb zb q (fun j => if j = 2 then true else b j) u2 u4 u5 u25 (.pointer (some ⟨fb, 1, none⟩)) (.int .i64 (q : Nat)) u28 u29 x) := by
        obtain ⟨j0, j1, j2, j3, j4, j5, j7, j8, e0, e1, e2⟩ := HJ.out
        exact ⟨j0, j1, fun _ => rfl, j3, j4, j5, j7, j8, e0, e1, e2⟩
      clear HJ hpre
      go_simp
      exact hK _ _ ⟨u2, u4, u5, u25, _, _, u28, u29, rfl, HN⟩
    · injection (show some _ = some o from ho) with ho
      subst ho
      have HN : Hid (JR6 w fb zb q (fun j => if j = 3 then true else b j) u2 u4 u5 u25 u26 u27 (.pointer (some ⟨fb, 0, none⟩)) u29 x) := by
        obtain ⟨j0, j1, j2, j3, j4, j5, j7, j8, e0, e1, e2⟩ := HJ.out
        exact ⟨j0, j1, j2, fun _ => rfl, j4, j5, j7, j8, e0, e1, e2⟩
      clear HJ hpre
      go_simp
      exact hK _ _ ⟨u2, u4, u5, u25, u26, u27, _, u29, rfl, HN⟩
    · injection (show some _ = some o from ho) with ho
      subst ho
      have p3 : b 3 = true := hpre 3 (by decide +kernel)
      obtain rfl : u28 = .pointer (some ⟨fb, 0, none⟩) := by obtain ⟨j0, j1, j2, j3, j4, j5, j7, j8, e0, e1, e2⟩ := HJ.out; exact (j3 p3)
      have c1 : x.cell? ⟨fb, 0, none⟩ = some (.int .i64 160) := by obtain ⟨j0, j1, j2, j3, j4, j5, j7, j8, e0, e1, e2⟩ := HJ.out; exact (Bk.at2 e0).1
      have HN : Hid (JR6 w fb zb q (fun j => if j = 4 then true else b j) u2 u4 u5 u25 u26 u27 (.pointer (some ⟨fb, 0, none⟩)) (.int .i64 160) x) := by
        obtain ⟨j0, j1, j2, j3, j4, j5, j7, j8, e0, e1, e2⟩ := HJ.out
        exact ⟨j0, j1, j2, j3, fun _ => rfl, j5, j7, j8, e0, e1, e2⟩
      clear HJ hpre
      go_simp
      exact hK _ _ ⟨u2, u4, u5, u25, u26, u27, _, _, rfl, HN⟩
    · injection (show some _ = some o from ho) with ho
      subst ho
      have HN : Hid (JR6 w fb zb q (fun j => if j = 5 then true else b j) (.slice none 0 0) u4 u5 u25 u26 u27 u28 u29 x) := by
        obtain ⟨j0, j1, j2, j3, j4, j5, j7, j8, e0, e1, e2⟩ := HJ.out
        exact ⟨j0, j1, j2, j3, j4, fun _ => rfl, j7, j8, e0, e1, e2⟩
      clear HJ hpre
      go_simp
      exact hK _ _ ⟨_, u4, u5, u25, u26, u27, u28, u29, rfl, HN⟩
    · injection (show some _ = some o from ho) with ho
      subst ho
      have p0 : b 0 = true := hpre 0 (by decide +kernel)
      obtain rfl : u25 = .agg #[.int .i64 0, .int .i64 0] := by obtain ⟨j0, j1, j2, j3, j4, j5, j7, j8, e0, e1, e2⟩ := HJ.out; exact (j0 p0)
      have z0 : x.cell? ⟨zb, 0, none⟩ = some (.int .i64 0) := by obtain ⟨j0, j1, j2, j3, j4, j5, j7, j8, e0, e1, e2⟩ := HJ.out; exact (Bk.at2 e1).1
      have z1 : x.cell? ⟨zb, 1, none⟩ = some (.int .i64 0) := by obtain ⟨j0, j1, j2, j3, j4, j5, j7, j8, e0, e1, e2⟩ := HJ.out; exact (Bk.at2 e1).2
      have f0 : x.frozen? ⟨zb, 0, none⟩ = false := by obtain ⟨j0, j1, j2, j3, j4, j5, j7, j8, e0, e1, e2⟩ := HJ.out; exact Bk.frozen e1 0
      have f1 : x.frozen? ⟨zb, 1, none⟩ = false := by obtain ⟨j0, j1, j2, j3, j4, j5, j7, j8, e0, e1, e2⟩ := HJ.out; exact Bk.frozen e1 1
      have HN : Hid (JR6 w fb zb q (fun j => if j = 6 then true else b j) u2 u4 u5 (.agg #[.int .i64 0, .int .i64 0]) u26 u27 u28 u29 ((x.setCell ⟨zb, 0, none⟩ (.int .i64 0)).setCell ⟨zb, 1, none⟩ (.int .i64 0))) := by
        obtain ⟨j0, j1, j2, j3, j4, j5, j7, j8, e0, e1, e2⟩ := HJ.out
        have k : Kp2 zb zb x ((x.setCell ⟨zb, 0, none⟩ (.int .i64 0)).setCell ⟨zb, 1, none⟩ (.int .i64 0)) := (Kp2.put _ _ _ _ _).trans (Kp2.put _ _ _ _ _)
        exact ⟨j0, j1, j2, j3, j4, j5, j7, j8, k.bk e0 HFZ.out.1 HFZ.out.1, Bk.put (Bk.put e1 0 (.int .i64 0)) 1 (.int .i64 0), e2.trans (k.below e2.size HFZ.out.2 HFZ.out.2)⟩
      clear HJ hpre
      go_simp
      exact hK _ _ ⟨u2, u4, u5, _, u26, u27, u28, u29, rfl, HN⟩
    · injection (show some _ = some o from ho) with ho
      subst ho
      have p2 : b 2 = true := hpre 2 (by decide +kernel)
      obtain rfl : u27 = .int .i64 (q : Nat) := by obtain ⟨j0, j1, j2, j3, j4, j5, j7, j8, e0, e1, e2⟩ := HJ.out; exact (j2 p2)
      have HN : Hid (JR6 w fb zb q (fun j => if j = 7 then true else b j) u2 (.int .i64 (q : Nat)) u5 u25 u26 (.int .i64 (q : Nat)) u28 u29 x) := by
        obtain ⟨j0, j1, j2, j3, j4, j5, j7, j8, e0, e1, e2⟩ := HJ.out
        exact ⟨j0, j1, j2, j3, j4, j5, fun _ => rfl, j8, e0, e1, e2⟩
      clear HJ hpre
      go_simp
      exact hK _ _ ⟨u2, _, u5, u25, u26, _, u28, u29, rfl, HN⟩
    · injection (show some _ = some o from ho) with ho
      subst ho
      have p4 : b 4 = true := hpre 4 (by decide +kernel)
      obtain rfl : u29 = .int .i64 160 := by obtain ⟨j0, j1, j2, j3, j4, j5, j7, j8, e0, e1, e2⟩ := HJ.out; exact (j4 p4)
      have HN : Hid (JR6 w fb zb q (fun j => if j = 8 then true else b j) u2 u4 (.int .i64 160) u25 u26 u27 u28 (.int .i64 160) x) := by
        obtain ⟨j0, j1, j2, j3, j4, j5, j7, j8, e0, e1, e2⟩ := HJ.out
        exact ⟨j0, j1, j2, j3, j4, j5, j7, fun _ => rfl, e0, e1, e2⟩
      clear HJ hpre
      go_simp
      exact hK _ _ ⟨u2, u4, _, u25, u26, u27, u28, _, rfl, HN⟩
  · intro b a x hI hall
    obtain ⟨u2, u4, u5, u25, u26, u27, u28, u29, rfl, HJ⟩ := hI
    have hall' : ∀ i, i < 9 → b i = true := fun i hi => hall i (by simpa using hi)
    obtain ⟨j0, j1, j2, j3, j4, j5, j7, j8, e0, e1, e2⟩ := HJ.out
    obtain rfl := j5 (hall' 5 (by omega))
    obtain rfl := j7 (hall' 7 (by omega))
    obtain rfl := j8 (hall' 8 (by omega))
    have HF4 : Hid (Bk x zb #[.int .i64 0, .int .i64 0] 24 ∧ Below w.heap.size w x) := ⟨e1, e2⟩
    clear HJ hall hall' j0 j1 j2 j3 j4 j5 j7 j8 e0 e1 e2 HN
    go_wp2_with fail
    have hld : (loadVar 24 ⟨zb, 0, none⟩).run Tryz.prog x = .ok (.agg #[.int .i64 0, .int .i64 0]) x := run_loadVar_row x zb 24 24 #[.int .i64 0, .int .i64 0] (0, 0) _ HF4.out.1 Tryz.underlying24 rfl size_siz
    refine bodyPost_ret (v := .tuple #[.slice none 0 0, .agg #[.int .i64 0, .int .i64 0], .int .i64 (q : Nat), .int .i64 160]) ?_ rfl (rdq_none HE.out.1 (by decide) HE.out.2 rfl HF4.out.2)
    simp [results, Tryz.results6, asAddr, hld]

set_option maxRecDepth 10000 in
set_option maxHeartbeats 8000000 in
theorem read_size (s : ByteArray) (l : List St) (zw zh : Int) (w : World) (hs : s.size ≤ 65536) (hE : EnR w.heap.size w) (hr : vsR s = .inr (l, zw, zh)) (hz : sizB zw zh = false) : Calls Tryz.prog 6 #[.string s] w fun e w' => RdQ s w e w' := by
  obtain ⟨zb, hzb⟩ : ∃ zb, zb = w.heap.size := ⟨_, rfl⟩
  have HZ : Hid (zb = w.heap.size) := hzb
  obtain ⟨_, hwf, hi1, hi2⟩ := vsR_text (by omega) hr
  have HI : Hid (I64 zw ∧ I64 zh ∧ Wfs l) := ⟨hi1, hi2, hwf⟩
  have HE : Hid (rdE s = 9 ∧ rdA s = 0) := ⟨by unfold rdE; rw [if_neg (by omega), hr]; simp [hz], by unfold rdA; rw [if_neg (by omega), hr]⟩
  have H0 := show Hid _ from read_start s w zb hzb hs hE
  rw [hr] at H0
  have hs1 : ¬ (65536 : Int) < s.size := by omega
  clear hE hr hwf hi1 hi2
  go_enter Tryz.func6, Tryz.ntmps6
  go_wp2_with fail
  rw [← hzb]
  clear hzb
  refine H0.out.2.2.mono ?_
  rintro e w1 ⟨u, rfl, hu, hb1⟩
  have hz0 : (w.alloc (.cells #[.int .i64 0, .int .i64 0] 24)).heap.size = w.heap.size + 1 := by simp
  obtain ⟨qb, hqb⟩ : ∃ qb, qb = w1.heap.size := ⟨_, rfl⟩
  have HA : Hid (Bk (w1.alloc (.cells #[.int .i64 zw, .int .i64 zh] 24)) qb #[.int .i64 zw, .int .i64 zh] 24 ∧ Bk (w1.alloc (.cells #[.int .i64 zw, .int .i64 zh] 24)) zb #[.int .i64 0, .int .i64 0] 24 ∧ Below w.heap.size w (w1.alloc (.cells #[.int .i64 zw, .int .i64 zh] 24)) ∧ OwS (w.heap.size + 1) (w1.alloc (.cells #[.int .i64 zw, .int .i64 zh] 24)) u l) := by
    have b1 : Below w1.heap.size w1 (w1.alloc (.cells #[.int .i64 zw, .int .i64 zh] 24)) := (Below.refl _ w1).alloc (Nat.le_refl _) _
    have hz := HZ.out
    have bb := H0.out.2.1.trans (hb1.mono (by omega))
    have hu2 : OwS (w.heap.size + 1) w1 u l := by rw [← hz0]; exact hu
    exact ⟨by rw [hqb]; exact Bk.new _ _ _, (H0.out.1.below hb1).below b1, bb.trans (b1.mono bb.size), row_below hu2 b1⟩
  clear hu hb1 hz0 H0
  have HC1 : Hid (∀ W, Calls Tryz.prog 13 #[.agg #[.int .i64 zw, .int .i64 zh]] W fun e w' => e = .returned (.bool (sizB zw zh)) ∧ Below W.heap.size W w') := fun W => siz_any zw zh W HI.out.1 HI.out.2.1
  rw [show sizB zw zh = false from hz] at HC1
  go_wp2_with fail
  generalize hWA : w1.alloc (.cells #[.int .i64 zw, .int .i64 zh] 24) = WA at *
  rw [← hqb]
  clear hWA hqb
  refine (HC1.out _).mono ?_
  rintro e w2 ⟨rfl, hb2⟩
  have HB : Hid (Bk w2 qb #[.int .i64 zw, .int .i64 zh] 24 ∧ Bk w2 zb #[.int .i64 0, .int .i64 0] 24 ∧ Below w.heap.size w w2 ∧ OwS (w.heap.size + 1) w2 u l) := ⟨HA.out.1.below hb2, HA.out.2.1.below hb2, HA.out.2.2.1.trans (hb2.mono HA.out.2.2.1.size), row_below HA.out.2.2.2 hb2⟩
  clear hb2 HA HC1
  have HQ6 : Hid (Bk w2 zb #[.int .i64 0, .int .i64 0] 24 ∧ Below w.heap.size w w2) := ⟨HB.out.2.1, HB.out.2.2.1⟩
  go_wp2_with (refine wpList_store_row rfl 24 (.tmp 3) (.tmp 33) rfl zb #[.int .i64 0, .int .i64 0] rfl rfl 24 _ HQ6.out.1 size_siz rfl (by simp [Value.oneCell']) ?_)
  obtain ⟨W3, hW3⟩ : ∃ W3, W3 = (w2).setRow zb #[.int .i64 0, .int .i64 0] := ⟨_, rfl⟩
  rw [← hW3]
  have hB3 : Bk W3 zb #[.int .i64 0, .int .i64 0] 24 := by rw [hW3]; exact setRow_heap _ _ _ _ _ _ HQ6.out.1
  have hld : (loadVar 24 ⟨zb, 0, none⟩).run Tryz.prog W3 = .ok (.agg #[.int .i64 0, .int .i64 0]) W3 := run_loadVar_row W3 (zb) 24 24 #[.int .i64 0, .int .i64 0] (0, 0) _ hB3 Tryz.underlying24 rfl size_siz
  have hK3 : Kp2 (zb) (zb) (w2) W3 := by rw [hW3]; exact Kp2.row _ _ _ _
  refine bodyPost_ret (v := .tuple #[.slice none 0 0, .agg #[.int .i64 0, .int .i64 0], .int .i64 0, .int .i64 9]) ?_ rfl (rdq_none HE.out.1 (by decide) HE.out.2 rfl (HQ6.out.2.trans (hK3.below HQ6.out.2.size (by have := HZ.out; omega) (by have := HZ.out; omega))))
  simp [results, Tryz.results6, asAddr, hld]

set_option maxRecDepth 10000 in
set_option maxHeartbeats 8000000 in
theorem read_list (s : ByteArray) (l : List St) (zw zh : Int) (w : World) (hs : s.size ≤ 65536) (hE : EnR w.heap.size w) (hr : vsR s = .inr (l, zw, zh)) (hz : sizB zw zh = true) (hk : ¬ chkS l = 0) : Calls Tryz.prog 6 #[.string s] w fun e w' => RdQ s w e w' := by
  obtain ⟨zb, hzb⟩ : ∃ zb, zb = w.heap.size := ⟨_, rfl⟩
  have HZ : Hid (zb = w.heap.size) := hzb
  obtain ⟨_, hwf, hi1, hi2⟩ := vsR_text (by omega) hr
  have HI : Hid (I64 zw ∧ I64 zh ∧ Wfs l) := ⟨hi1, hi2, hwf⟩
  have HE : Hid (rdE s = chkS l ∧ rdA s = 0) := ⟨by unfold rdE; rw [if_neg (by omega), hr]; simp [hz], by unfold rdA; rw [if_neg (by omega), hr]⟩
  have H0 := show Hid _ from read_start s w zb hzb hs hE
  rw [hr] at H0
  have hs1 : ¬ (65536 : Int) < s.size := by omega
  clear hE hr hwf hi1 hi2
  go_enter Tryz.func6, Tryz.ntmps6
  go_wp2_with fail
  rw [← hzb]
  clear hzb
  refine H0.out.2.2.mono ?_
  rintro e w1 ⟨u, rfl, hu, hb1⟩
  have hz0 : (w.alloc (.cells #[.int .i64 0, .int .i64 0] 24)).heap.size = w.heap.size + 1 := by simp
  obtain ⟨qb, hqb⟩ : ∃ qb, qb = w1.heap.size := ⟨_, rfl⟩
  have HA : Hid (Bk (w1.alloc (.cells #[.int .i64 zw, .int .i64 zh] 24)) qb #[.int .i64 zw, .int .i64 zh] 24 ∧ Bk (w1.alloc (.cells #[.int .i64 zw, .int .i64 zh] 24)) zb #[.int .i64 0, .int .i64 0] 24 ∧ Below w.heap.size w (w1.alloc (.cells #[.int .i64 zw, .int .i64 zh] 24)) ∧ OwS (w.heap.size + 1) (w1.alloc (.cells #[.int .i64 zw, .int .i64 zh] 24)) u l) := by
    have b1 : Below w1.heap.size w1 (w1.alloc (.cells #[.int .i64 zw, .int .i64 zh] 24)) := (Below.refl _ w1).alloc (Nat.le_refl _) _
    have hz := HZ.out
    have bb := H0.out.2.1.trans (hb1.mono (by omega))
    have hu2 : OwS (w.heap.size + 1) w1 u l := by rw [← hz0]; exact hu
    exact ⟨by rw [hqb]; exact Bk.new _ _ _, (H0.out.1.below hb1).below b1, bb.trans (b1.mono bb.size), row_below hu2 b1⟩
  clear hu hb1 hz0 H0
  have HC1 : Hid (∀ W, Calls Tryz.prog 13 #[.agg #[.int .i64 zw, .int .i64 zh]] W fun e w' => e = .returned (.bool (sizB zw zh)) ∧ Below W.heap.size W w') := fun W => siz_any zw zh W HI.out.1 HI.out.2.1
  rw [show sizB zw zh = true from hz] at HC1
  go_wp2_with fail
  generalize hWA : w1.alloc (.cells #[.int .i64 zw, .int .i64 zh] 24) = WA at *
  rw [← hqb]
  clear hWA hqb
  refine (HC1.out _).mono ?_
  rintro e w2 ⟨rfl, hb2⟩
  have HB : Hid (Bk w2 qb #[.int .i64 zw, .int .i64 zh] 24 ∧ Bk w2 zb #[.int .i64 0, .int .i64 0] 24 ∧ Below w.heap.size w w2 ∧ OwS (w.heap.size + 1) w2 u l) := ⟨HA.out.1.below hb2, HA.out.2.1.below hb2, HA.out.2.2.1.trans (hb2.mono HA.out.2.2.1.size), row_below HA.out.2.2.2 hb2⟩
  clear hb2 HA HC1
  obtain ⟨ck, hck⟩ : ∃ ck, ck = chkS l := ⟨_, rfl⟩
  have HC2 : Hid (∀ W, OwS (w.heap.size + 1) W u l → Calls Tryz.prog 12 #[u] W fun e w' => e = .returned (.int .i64 ck) ∧ Below W.heap.size W w') := fun W h => by
    rw [hck]
    exact lcheck_any l u W h.lss HI.out.2.2.txs (xys_of HI.out.2.2)
  rw [← hck] at HE hk
  have HK : Hid (¬ ck = 0) := hk
  clear hck
  go_wp2_with fail
  refine (HC2.out _ HB.out.2.2.2).mono ?_
  rintro e w3 ⟨rfl, hb3⟩
  have HQ6 : Hid (Bk w3 zb #[.int .i64 0, .int .i64 0] 24 ∧ Below w.heap.size w w3) := ⟨HB.out.2.1.below hb3, HB.out.2.2.1.trans (hb3.mono HB.out.2.2.1.size)⟩
  clear hb3 HB HC2
  go_wp2_with (refine wpList_store_row rfl 24 (.tmp 3) (.tmp 38) rfl zb #[.int .i64 0, .int .i64 0] rfl rfl 24 _ HQ6.out.1 size_siz rfl (by simp [Value.oneCell']) ?_)
  obtain ⟨W3, hW3⟩ : ∃ W3, W3 = (w3).setRow zb #[.int .i64 0, .int .i64 0] := ⟨_, rfl⟩
  rw [← hW3]
  have hB3 : Bk W3 zb #[.int .i64 0, .int .i64 0] 24 := by rw [hW3]; exact setRow_heap _ _ _ _ _ _ HQ6.out.1
  have hld : (loadVar 24 ⟨zb, 0, none⟩).run Tryz.prog W3 = .ok (.agg #[.int .i64 0, .int .i64 0]) W3 := run_loadVar_row W3 (zb) 24 24 #[.int .i64 0, .int .i64 0] (0, 0) _ hB3 Tryz.underlying24 rfl size_siz
  have hK3 : Kp2 (zb) (zb) (w3) W3 := by rw [hW3]; exact Kp2.row _ _ _ _
  refine bodyPost_ret (v := .tuple #[.slice none 0 0, .agg #[.int .i64 0, .int .i64 0], .int .i64 0, .int .i64 ck]) ?_ rfl (rdq_none HE.out.1 HK.out HE.out.2 rfl (HQ6.out.2.trans (hK3.below HQ6.out.2.size (by have := HZ.out; omega) (by have := HZ.out; omega))))
  simp [results, Tryz.results6, asAddr, hld]

set_option maxRecDepth 10000 in
set_option maxHeartbeats 8000000 in
theorem read_good (s : ByteArray) (l : List St) (zw zh : Int) (w : World) (hs : s.size ≤ 65536) (hE : EnR w.heap.size w) (hr : vsR s = .inr (l, zw, zh)) (hz : sizB zw zh = true) (hk : chkS l = 0) : Calls Tryz.prog 6 #[.string s] w fun e w' => RdQ s w e w' := by
  obtain ⟨zb, hzb⟩ : ∃ zb, zb = w.heap.size := ⟨_, rfl⟩
  have HZ : Hid (zb = w.heap.size) := hzb
  obtain ⟨_, hwf, hi1, hi2⟩ := vsR_text (by omega) hr
  have HI : Hid (I64 zw ∧ I64 zh ∧ Wfs l) := ⟨hi1, hi2, hwf⟩
  have HE : Hid (¬ 65536 < s.size ∧ vsR s = .inr (l, zw, zh) ∧ sizB zw zh = true ∧ chkS l = 0) := ⟨by omega, hr, hz, hk⟩
  have H0 := show Hid _ from read_start s w zb hzb hs hE
  rw [hr] at H0
  have hs1 : ¬ (65536 : Int) < s.size := by omega
  clear hE hr hwf hi1 hi2
  go_enter Tryz.func6, Tryz.ntmps6
  go_wp2_with fail
  rw [← hzb]
  clear hzb
  refine H0.out.2.2.mono ?_
  rintro e w1 ⟨u, rfl, hu, hb1⟩
  have hz0 : (w.alloc (.cells #[.int .i64 0, .int .i64 0] 24)).heap.size = w.heap.size + 1 := by simp
  obtain ⟨qb, hqb⟩ : ∃ qb, qb = w1.heap.size := ⟨_, rfl⟩
  have HA : Hid (Bk (w1.alloc (.cells #[.int .i64 zw, .int .i64 zh] 24)) qb #[.int .i64 zw, .int .i64 zh] 24 ∧ Bk (w1.alloc (.cells #[.int .i64 zw, .int .i64 zh] 24)) zb #[.int .i64 0, .int .i64 0] 24 ∧ Below w.heap.size w (w1.alloc (.cells #[.int .i64 zw, .int .i64 zh] 24)) ∧ OwS (w.heap.size + 1) (w1.alloc (.cells #[.int .i64 zw, .int .i64 zh] 24)) u l) := by
    have b1 : Below w1.heap.size w1 (w1.alloc (.cells #[.int .i64 zw, .int .i64 zh] 24)) := (Below.refl _ w1).alloc (Nat.le_refl _) _
    have hz := HZ.out
    have bb := H0.out.2.1.trans (hb1.mono (by omega))
    have hu2 : OwS (w.heap.size + 1) w1 u l := by rw [← hz0]; exact hu
    exact ⟨by rw [hqb]; exact Bk.new _ _ _, (H0.out.1.below hb1).below b1, bb.trans (b1.mono bb.size), row_below hu2 b1⟩
  clear hu hb1 hz0 H0
  have HC1 : Hid (∀ W, Calls Tryz.prog 13 #[.agg #[.int .i64 zw, .int .i64 zh]] W fun e w' => e = .returned (.bool (sizB zw zh)) ∧ Below W.heap.size W w') := fun W => siz_any zw zh W HI.out.1 HI.out.2.1
  rw [show sizB zw zh = true from hz] at HC1
  go_wp2_with fail
  generalize hWA : w1.alloc (.cells #[.int .i64 zw, .int .i64 zh] 24) = WA at *
  rw [← hqb]
  clear hWA hqb
  refine (HC1.out _).mono ?_
  rintro e w2 ⟨rfl, hb2⟩
  have HB : Hid (Bk w2 qb #[.int .i64 zw, .int .i64 zh] 24 ∧ Bk w2 zb #[.int .i64 0, .int .i64 0] 24 ∧ Below w.heap.size w w2 ∧ OwS (w.heap.size + 1) w2 u l) := ⟨HA.out.1.below hb2, HA.out.2.1.below hb2, HA.out.2.2.1.trans (hb2.mono HA.out.2.2.1.size), row_below HA.out.2.2.2 hb2⟩
  clear hb2 HA HC1
  have HC2 : Hid (∀ W, OwS (w.heap.size + 1) W u l → Calls Tryz.prog 12 #[u] W fun e w' => e = .returned (.int .i64 0) ∧ Below W.heap.size W w') := fun W h => by
    have := lcheck_any l u W h.lss HI.out.2.2.txs (xys_of HI.out.2.2)
    rw [hk] at this
    exact this
  go_wp2_with fail
  refine (HC2.out _ HB.out.2.2.2).mono ?_
  rintro e w3 ⟨rfl, hb3⟩
  have HN : Hid (Bk w3 qb #[.int .i64 zw, .int .i64 zh] 24 ∧ Bk w3 zb #[.int .i64 0, .int .i64 0] 24 ∧ Below w.heap.size w w3 ∧ OwS (w.heap.size + 1) w3 u l) := ⟨HB.out.1.below hb3, HB.out.2.1.below hb3, HB.out.2.2.1.trans (hb3.mono HB.out.2.2.1.size), row_below HB.out.2.2.2 hb3⟩
  clear hb3 HB HC2
  go_wp2_with (refine R4.wp_region_lit 3 0 3 (fun _ _ => undef) (fun _ => .cells #[] 0) [] (by kernel_rfl) (by kernel_rfl) rfl (fun k hk => absurd hk (by omega)) rfl ?_)
  apply Exists.intro
  refine ⟨fun bs ne => ?_, fun i h1 h2 => absurd h2 (by omega), ?_⟩
  · have x0 := fun tt : Gb w3 bs => (Bk.at2 (HN.out.1.below tt.below)).1
    have x1 := fun tt : Gb w3 bs => (Bk.at2 (HN.out.1.below tt.below)).2
    simp only [List.take_succ_cons, List.take_zero]
    repeat (go_big_quiet_step (fail))
    exact wpQuiet_nil rfl
  · intro bl wx hbl _ _
    have HX : Hid (Below w3.heap.size w3 wx) := hbl
    simp only [R4.layL]
    clear hbl
    have z0 := (Bk.at2 (HN.out.2.1.below HX.out)).1
    have z1 := (Bk.at2 (HN.out.2.1.below HX.out)).2
    have g0 := Bk.frozen (HN.out.2.1.below HX.out) 0
    have g1 := Bk.frozen (HN.out.2.1.below HX.out) 1
    have HF : Hid (∀ W, W = (wx.setCell ⟨zb, 0, none⟩ (.int .i64 zw)).setCell ⟨zb, 1, none⟩ (.int .i64 zh) → Bk W zb #[.int .i64 zw, .int .i64 zh] 24 ∧ Below w.heap.size w W ∧ OwS w.heap.size W u l) := fun W hW => by
      have k1 : Kp2 zb zb wx (wx.setCell ⟨zb, 0, none⟩ (.int .i64 zw)) := Kp2.put _ _ _ _ _
      have k2 : Kp2 zb zb (wx.setCell ⟨zb, 0, none⟩ (.int .i64 zw)) W := by rw [hW]; exact Kp2.put _ _ _ _ _
      have k3 := k1.trans k2
      have hz := HZ.out
      have bx := HN.out.2.2.1.trans (HX.out.mono HN.out.2.2.1.size)
      have p1 := Bk.put (HN.out.2.1.below HX.out) 0 (.int .i64 zw)
      have p2 := Bk.put p1 1 (.int .i64 zh)
      have o1 := row_below HN.out.2.2.2 HX.out
      have o2 : OwS (w.heap.size + 1) W u l := own_kp o1 k3 (fun g hg => ⟨fun e => by have := (row_lt o1 g hg).1; omega, fun e => by have := (row_lt o1 g hg).1; omega⟩)
      exact ⟨by rw [hW]; exact p2, bx.trans (k3.below bx.size (by omega) (by omega)), own_lo o2 (by omega)⟩
    clear HX HN
    refine wpAny_one 3 (by kernel_rfl) rfl ?_
    intro K hK
    go_simp
    refine hK _ _ ?_
    clear hK K
    refine wpAny_one 4 (by kernel_rfl) rfl ?_
    intro K hK
    go_simp
    refine hK _ _ ?_
    clear hK K
    refine wpAny_one 5 (by kernel_rfl) rfl ?_
    intro K hK
    go_simp
    refine hK _ _ ?_
    clear hK K
    refine wpAny_done (by kernel_rfl) ?_ _
    go_wp2_with fail
    obtain ⟨W4, hW4⟩ : ∃ W4, W4 = (wx.setCell ⟨zb, 0, none⟩ (.int .i64 zw)).setCell ⟨zb, 1, none⟩ (.int .i64 zh) := ⟨_, rfl⟩
    rw [← hW4]
    have HF4 := show Hid _ from HF.out _ hW4
    have hld : (loadVar 24 ⟨zb, 0, none⟩).run Tryz.prog W4 = .ok (.agg #[.int .i64 zw, .int .i64 zh]) W4 := run_loadVar_row W4 zb 24 24 #[.int .i64 zw, .int .i64 zh] (0, 0) _ HF4.out.1 Tryz.underlying24 rfl size_siz
    refine bodyPost_ret (v := .tuple #[u, .agg #[.int .i64 zw, .int .i64 zh], .int .i64 0, .int .i64 0]) ?_ rfl (rdq_some HE.out.1 HE.out.2.1 HE.out.2.2.1 HE.out.2.2.2 rfl HF4.out.2.2 HF4.out.2.1)
    simp [results, Tryz.results6, asAddr, hld]

theorem vread_any (s : ByteArray) (w : World) (hE : EnR w.heap.size w) (hT : EtI w) : Calls Tryz.prog 6 #[.string s] w fun e w' => RdQ s w e w' := by
  by_cases hs : 65536 < s.size
  · exact read_big s w hs
  rcases hr : vsR s with q | ⟨l, zw, zh⟩
  · exact read_wrong s q w (by omega) hE hT hr
  · cases hz : sizB zw zh with
    | false => exact read_size s l zw zh w (by omega) hE hr hz
    | true =>
      by_cases hk : chkS l = 0
      · exact read_good s l zw zh w (by omega) hE hr hz hk
      · exact read_list s l zw zh w (by omega) hE hr hz hk

end Go.Proofs.YtfjbnejmcanamaaGreatDoor
