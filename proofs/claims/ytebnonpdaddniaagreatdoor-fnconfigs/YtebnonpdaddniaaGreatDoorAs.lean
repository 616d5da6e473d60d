/-
  errors.As at the program's own error type notNumber: with a nil error it answers false and leaves the world as it is; with a notNumber it answers true and the target holds that notNumber; nothing else that was there is turned.
-/
import Derived.Test.YtebnonpdaddniaaGreatDoorProg
import Derived.WalkKit
import Derived.LaidEql
import Derived.Stop.Asserts
import Derived.RowKitTokens
namespace Go.Proofs.YtebnonpdaddniaaGreatDoor
open Go.RowKit Go.Extern.Stop Go.Stop Go.Extern

theorem as_nil (t : Value) (w : World) :
    Calls Tryz.prog 204 #[.nilIface, t] w fun e w' => e = .returned (.bool false) ∧ w' = w := by
  go_enter Tryz.func204, Tryz.ntmps204
  go_wp2
  go_ret
  exact ⟨rfl, rfl⟩

/- closed facts on the entries for internal/reflectlite at this program's numbers -/
theorem rlValueOfP (t : Addr) (w : World) : (ReflectliteValue.unpack (.iface 276 (.pointer (some t)))).run Tryz.prog w
    = .ok (.agg #[.pointer (some ⟨9, 276, none⟩), .pointer (some ⟨w.heap.size, 0, none⟩), .int .u64 150]) (w.alloc (.cells #[.pointer (some t)] 276)) := by kernel_rfl
theorem rlTypeP (a : Addr) (w : World) : (ReflectliteValue.methodAny (ReflectliteValue.valueError "reflectlite.Value.Type" 0) (fun t _ _ _ => ReflectliteType.toType t) #[.agg #[.pointer (some ⟨9, 276, none⟩), .pointer (some a), .int .u64 150]]).run Tryz.prog w
    = .ok (.iface 316 (.agg #[.pointer (some ⟨9, 276, none⟩)])) w := by kernel_rfl
theorem rlMethodKind (h : Value) (w : World) : (Go.method 465 316 (.agg #[h]) "Kind").run Tryz.prog w = .ok (263, h) w := by kernel_rfl
theorem rlKindP (w : World) : ((ReflectliteType.abiMethod fun t => Functor.map (fun a : Nat => Value.int IntKind.u8 (a : Int)) (Rtype.kind t)) #[.pointer (some ⟨9, 276, none⟩)]).run Tryz.prog w = .ok (.int .u8 22) w := by kernel_rfl
theorem rlKindN (w : World) : ((ReflectliteType.abiMethod fun t => Functor.map (fun a : Nat => Value.int IntKind.u8 (a : Int)) (Rtype.kind t)) #[.pointer (some ⟨9, 242, none⟩)]).run Tryz.prog w = .ok (.int .u8 25) w := by kernel_rfl

theorem rlm (z : Sem Value) (f : TypeId → Addr → Nat → Nat → Sem Value) (v : Value) :
    ReflectliteValue.method z f #[v] = (do match ← ReflectliteValue.parts v with | none => z | some (t, a, fl) => f t a fl (fl % 32)) := rfl
theorem rlPartsP (a : Addr) (w : World) : (ReflectliteValue.parts (.agg #[.pointer (some ⟨9, 276, none⟩), .pointer (some a), .int .u64 150])).run Tryz.prog w = .ok (some (276, a, 150)) w := by kernel_rfl
theorem rlIsNilP (a p : Addr) (W : World) (ha : W.cell? a = some (.pointer (some p))) :
    (ReflectliteValue.method (ReflectliteValue.valueError "reflectlite.Value.IsNil" 0) ReflectliteValue.isNil #[.agg #[.pointer (some ⟨9, 276, none⟩), .pointer (some a), .int .u64 150]]).run Tryz.prog W = .ok (.bool false) W := by
  rw [rlm]
  simp only [Sem.run_bind, rlPartsP, Result.andThen]
  simp [ReflectliteValue.isNil, loadVar, isAgg, underlying, Tryz.underlying276, ha, Result.andThen]

theorem rlMethodElem (h : Value) (w : World) : (Go.method 465 316 (.agg #[h]) "Elem").run Tryz.prog w = .ok (278, .agg #[h]) w := by kernel_rfl
theorem rlMethodImplements (h : Value) (w : World) : (Go.method 465 316 (.agg #[h]) "Implements").run Tryz.prog w = .ok (279, .agg #[h]) w := by kernel_rfl
theorem rlMethodAssignableTo (h : Value) (w : World) : (Go.method 465 316 (.agg #[h]) "AssignableTo").run Tryz.prog w = .ok (276, .agg #[h]) w := by kernel_rfl
theorem rlElemP (w : World) : (ReflectliteType.method ReflectliteType.elem #[.agg #[.pointer (some ⟨9, 276, none⟩)]]).run Tryz.prog w = .ok (.iface 316 (.agg #[.pointer (some ⟨9, 242, none⟩)])) w := by kernel_rfl
theorem rlImplementsN (w : World) : (ReflectliteType.relation "Implements" ReflectliteType.implements_ #[.agg #[.pointer (some ⟨9, 242, none⟩)], .iface 316 (.agg #[.pointer (some ⟨9, 140, none⟩)])]).run Tryz.prog w = .ok (.bool true) w := by kernel_rfl
theorem rlTypeOfN (v : Value) (w : World) : (ReflectliteType.typeOf #[.iface 242 v]).run Tryz.prog w = .ok (.iface 316 (.agg #[.pointer (some ⟨9, 242, none⟩)])) w := by kernel_rfl
theorem rlAssignableN (w : World) : (ReflectliteType.relation "AssignableTo" ReflectliteType.assignableTo #[.agg #[.pointer (some ⟨9, 242, none⟩)], .iface 316 (.agg #[.pointer (some ⟨9, 242, none⟩)])]).run Tryz.prog w = .ok (.bool true) w := by kernel_rfl
theorem rlValueOfN (x : Int) (w : World) : (ReflectliteValue.unpack (.iface 242 (.agg #[.int .i64 x]))).run Tryz.prog w
    = .ok (.agg #[.pointer (some ⟨9, 242, none⟩), .pointer (some ⟨w.heap.size, 0, none⟩), .int .u64 153]) (w.alloc (.cells #[.int .i64 x] 242)) := by kernel_rfl

theorem rlElemOfP (w : World) : (Rtype.elem? 276).run Tryz.prog w = .ok (some 242) w := by kernel_rfl
theorem rlMkN (p : Addr) (w : World) : (ReflectliteValue.mk 242 p ReflectliteValue.flagAddr).run Tryz.prog w = .ok (.agg #[.pointer (some ⟨9, 242, none⟩), .pointer (some p), .int .u64 409]) w := by kernel_rfl
theorem rlElemVP (a p : Addr) (W : World) (ha : W.cell? a = some (.pointer (some p))) :
    (ReflectliteValue.method (ReflectliteValue.valueError "reflectlite.Value.Elem" 0) ReflectliteValue.elem #[.agg #[.pointer (some ⟨9, 276, none⟩), .pointer (some a), .int .u64 150]]).run Tryz.prog W
      = .ok (.agg #[.pointer (some ⟨9, 242, none⟩), .pointer (some p), .int .u64 409]) W := by
  rw [rlm]
  simp only [Sem.run_bind, rlPartsP, Result.andThen]
  simp [ReflectliteValue.elem, loadVar, isAgg, underlying, Tryz.underlying276, ha, Result.andThen, rlElemOfP, rlMkN]
theorem rlPartsNa (a : Addr) (w : World) : (ReflectliteValue.parts (.agg #[.pointer (some ⟨9, 242, none⟩), .pointer (some a), .int .u64 409])).run Tryz.prog w = .ok (some (242, a, 409)) w := by kernel_rfl
theorem rlPartsN (a : Addr) (w : World) : (ReflectliteValue.parts (.agg #[.pointer (some ⟨9, 242, none⟩), .pointer (some a), .int .u64 153])).run Tryz.prog w = .ok (some (242, a, 153)) w := by kernel_rfl
theorem rlDirectN (w : World) : (Rtype.directlyAssignable 242 242).run Tryz.prog w = .ok true w := by kernel_rfl
theorem rlSizeN (w : World) : (sizeOf 242).run Tryz.prog w = .ok 1 w := by kernel_rfl

theorem rlLoadN (b : Addr) (x : Int) (W : World) (hb : W.cell? b = some (.int .i64 x)) : (loadVar 242 b).run Tryz.prog W = .ok (.agg #[.int .i64 x]) W := by
  simp [loadVar, isAgg, underlying, Tryz.underlying242, hb, Result.andThen, loadCells, loadCellsFrom, Addr.add]
theorem rlStoreN (ta : Addr) (x : Int) (old : Value) (W : World) (ht : W.cell? ta = some old) (hf : W.frozen? ta = false) : (storeVar 242 ta (.agg #[.int .i64 x])).run Tryz.prog W = .ok () (W.setCell ta (.int .i64 x)) := by
  simp [storeVar, Value.cells, storeCells, Addr.add]
  rw [run_store Tryz.prog W ta _ _ (by rfl)]
  simp [ht, hf]

/-- (Value).Set: the variable at 'ta' gets what the Value's own variable 'b' holds. -/
theorem rlSetN (ta b : Addr) (x : Int) (old : Value) (W : World) (hb : W.cell? b = some (.int .i64 x)) (ht : W.cell? ta = some old) (hf : W.frozen? ta = false) :
    (ReflectliteValue.set #[.agg #[.pointer (some ⟨9, 242, none⟩), .pointer (some ta), .int .u64 409], .agg #[.pointer (some ⟨9, 242, none⟩), .pointer (some b), .int .u64 153]]).run Tryz.prog W
      = .ok (.tuple #[]) (W.setCell ta (.int .i64 x)) := by
  have key := show ReflectliteValue.set #[.agg #[.pointer (some ⟨9, 242, none⟩), .pointer (some ta), .int .u64 409], .agg #[.pointer (some ⟨9, 242, none⟩), .pointer (some b), .int .u64 153]] = Bind.bind (ReflectliteValue.parts (.agg #[.pointer (some ⟨9, 242, none⟩), .pointer (some ta), .int .u64 409])) (fun p => Bind.bind (ReflectliteValue.parts (.agg #[.pointer (some ⟨9, 242, none⟩), .pointer (some b), .int .u64 153])) _) from rfl
  rw [key]
  simp only [Sem.run_bind, rlPartsNa, rlPartsN, Result.andThen]
  simp [ReflectliteValue.flagAddr, rlLoadN b x W hb, rlDirectN, rlStoreN ta x old W ht hf, Result.andThen]
end Go.Proofs.YtebnonpdaddniaaGreatDoor
