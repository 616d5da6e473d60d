/-
  Parts of the proof laid into one text, one behind the other; each says at its head what is proved in it.
-/
import Derived.Test.YteboaiklibaomaaGreatDoorProg
import Derived.WalkKit
import Derived.LaidEql
import Derived.Stop.Asserts
import Derived.RowKitTokens
/-
  errors.As at the program's own error type notNumber: with a nil error it answers false and leaves the world as it is; with a notNumber it answers true and the target holds that notNumber; nothing else that was there is turned.
-/
namespace Go.Proofs.YteboaiklibaomaaGreatDoor
open Go.RowKit Go.Extern.Stop Go.Stop Go.Extern

theorem as_nil (t : Value) (w : World) :
    Calls Tryz.prog 185 #[.nilIface, t] w fun e w' => e = .returned (.bool false) ∧ w' = w := by
  go_enter Tryz.func185, Tryz.ntmps185
  go_wp2
  go_ret
  exact ⟨rfl, rfl⟩

/- closed facts on the entries for internal/reflectlite at this program's numbers -/
theorem rlValueOfP (t : Addr) (w : World) : (ReflectliteValue.unpack (.iface 252 (.pointer (some t)))).run Tryz.prog w
    = .ok (.agg #[.pointer (some ⟨6, 252, none⟩), .pointer (some ⟨w.heap.size, 0, none⟩), .int .u64 150]) (w.alloc (.cells #[.pointer (some t)] 252)) := by kernel_rfl
theorem rlTypeP (a : Addr) (w : World) : (ReflectliteValue.methodAny (ReflectliteValue.valueError "reflectlite.Value.Type" 0) (fun t _ _ _ => ReflectliteType.toType t) #[.agg #[.pointer (some ⟨6, 252, none⟩), .pointer (some a), .int .u64 150]]).run Tryz.prog w
    = .ok (.iface 270 (.agg #[.pointer (some ⟨6, 252, none⟩)])) w := by kernel_rfl
theorem rlMethodKind (h : Value) (w : World) : (Go.method 417 270 (.agg #[h]) "Kind").run Tryz.prog w = .ok (219, h) w := by kernel_rfl
theorem rlKindP (w : World) : ((ReflectliteType.abiMethod fun t => Functor.map (fun a : Nat => Value.int IntKind.u8 (a : Int)) (Rtype.kind t)) #[.pointer (some ⟨6, 252, none⟩)]).run Tryz.prog w = .ok (.int .u8 22) w := by kernel_rfl
theorem rlKindN (w : World) : ((ReflectliteType.abiMethod fun t => Functor.map (fun a : Nat => Value.int IntKind.u8 (a : Int)) (Rtype.kind t)) #[.pointer (some ⟨6, 250, none⟩)]).run Tryz.prog w = .ok (.int .u8 25) w := by kernel_rfl

theorem rlm (z : Sem Value) (f : TypeId → Addr → Nat → Nat → Sem Value) (v : Value) :
    ReflectliteValue.method z f #[v] = (do match ← ReflectliteValue.parts v with | none => z | some (t, a, fl) => f t a fl (fl % 32)) := rfl
theorem rlPartsP (a : Addr) (w : World) : (ReflectliteValue.parts (.agg #[.pointer (some ⟨6, 252, none⟩), .pointer (some a), .int .u64 150])).run Tryz.prog w = .ok (some (252, a, 150)) w := by kernel_rfl
theorem rlIsNilP (a p : Addr) (W : World) (ha : W.cell? a = some (.pointer (some p))) :
    (ReflectliteValue.method (ReflectliteValue.valueError "reflectlite.Value.IsNil" 0) ReflectliteValue.isNil #[.agg #[.pointer (some ⟨6, 252, none⟩), .pointer (some a), .int .u64 150]]).run Tryz.prog W = .ok (.bool false) W := by
  rw [rlm]
  simp only [Sem.run_bind, rlPartsP, Result.andThen]
  simp [ReflectliteValue.isNil, loadVar, isAgg, underlying, Tryz.underlying252, ha, Result.andThen]

theorem rlMethodElem (h : Value) (w : World) : (Go.method 417 270 (.agg #[h]) "Elem").run Tryz.prog w = .ok (230, .agg #[h]) w := by kernel_rfl
theorem rlMethodImplements (h : Value) (w : World) : (Go.method 417 270 (.agg #[h]) "Implements").run Tryz.prog w = .ok (231, .agg #[h]) w := by kernel_rfl
theorem rlMethodAssignableTo (h : Value) (w : World) : (Go.method 417 270 (.agg #[h]) "AssignableTo").run Tryz.prog w = .ok (228, .agg #[h]) w := by kernel_rfl
theorem rlElemP (w : World) : (ReflectliteType.method ReflectliteType.elem #[.agg #[.pointer (some ⟨6, 252, none⟩)]]).run Tryz.prog w = .ok (.iface 270 (.agg #[.pointer (some ⟨6, 250, none⟩)])) w := by kernel_rfl
theorem rlImplementsN (w : World) : (ReflectliteType.relation "Implements" ReflectliteType.implements_ #[.agg #[.pointer (some ⟨6, 250, none⟩)], .iface 270 (.agg #[.pointer (some ⟨6, 239, none⟩)])]).run Tryz.prog w = .ok (.bool true) w := by kernel_rfl
theorem rlTypeOfN (v : Value) (w : World) : (ReflectliteType.typeOf #[.iface 250 v]).run Tryz.prog w = .ok (.iface 270 (.agg #[.pointer (some ⟨6, 250, none⟩)])) w := by kernel_rfl
theorem rlAssignableN (w : World) : (ReflectliteType.relation "AssignableTo" ReflectliteType.assignableTo #[.agg #[.pointer (some ⟨6, 250, none⟩)], .iface 270 (.agg #[.pointer (some ⟨6, 250, none⟩)])]).run Tryz.prog w = .ok (.bool true) w := by kernel_rfl
theorem rlValueOfN (x : Int) (w : World) : (ReflectliteValue.unpack (.iface 250 (.agg #[.int .i64 x]))).run Tryz.prog w
    = .ok (.agg #[.pointer (some ⟨6, 250, none⟩), .pointer (some ⟨w.heap.size, 0, none⟩), .int .u64 153]) (w.alloc (.cells #[.int .i64 x] 250)) := by kernel_rfl

theorem rlElemOfP (w : World) : (Rtype.elem? 252).run Tryz.prog w = .ok (some 250) w := by kernel_rfl
theorem rlMkN (p : Addr) (w : World) : (ReflectliteValue.mk 250 p ReflectliteValue.flagAddr).run Tryz.prog w = .ok (.agg #[.pointer (some ⟨6, 250, none⟩), .pointer (some p), .int .u64 409]) w := by kernel_rfl
theorem rlElemVP (a p : Addr) (W : World) (ha : W.cell? a = some (.pointer (some p))) :
    (ReflectliteValue.method (ReflectliteValue.valueError "reflectlite.Value.Elem" 0) ReflectliteValue.elem #[.agg #[.pointer (some ⟨6, 252, none⟩), .pointer (some a), .int .u64 150]]).run Tryz.prog W
      = .ok (.agg #[.pointer (some ⟨6, 250, none⟩), .pointer (some p), .int .u64 409]) W := by
  rw [rlm]
  simp only [Sem.run_bind, rlPartsP, Result.andThen]
  simp [ReflectliteValue.elem, loadVar, isAgg, underlying, Tryz.underlying252, ha, Result.andThen, rlElemOfP, rlMkN]
theorem rlPartsNa (a : Addr) (w : World) : (ReflectliteValue.parts (.agg #[.pointer (some ⟨6, 250, none⟩), .pointer (some a), .int .u64 409])).run Tryz.prog w = .ok (some (250, a, 409)) w := by kernel_rfl
theorem rlPartsN (a : Addr) (w : World) : (ReflectliteValue.parts (.agg #[.pointer (some ⟨6, 250, none⟩), .pointer (some a), .int .u64 153])).run Tryz.prog w = .ok (some (250, a, 153)) w := by kernel_rfl
theorem rlDirectN (w : World) : (Rtype.directlyAssignable 250 250).run Tryz.prog w = .ok true w := by kernel_rfl
theorem rlSizeN (w : World) : (sizeOf 250).run Tryz.prog w = .ok 1 w := by kernel_rfl

theorem rlLoadN (b : Addr) (x : Int) (W : World) (hb : W.cell? b = some (.int .i64 x)) : (loadVar 250 b).run Tryz.prog W = .ok (.agg #[.int .i64 x]) W := by
  simp [loadVar, isAgg, underlying, Tryz.underlying250, hb, Result.andThen, loadCells, loadCellsFrom, Addr.add]
theorem rlStoreN (ta : Addr) (x : Int) (old : Value) (W : World) (ht : W.cell? ta = some old) (hf : W.frozen? ta = false) : (storeVar 250 ta (.agg #[.int .i64 x])).run Tryz.prog W = .ok () (W.setCell ta (.int .i64 x)) := by
  simp [storeVar, Value.cells, storeCells, Addr.add]
  rw [run_store Tryz.prog W ta _ _ (by rfl)]
  simp [ht, hf]

/-- (Value).Set: the variable at 'ta' gets what the Value's own variable 'b' holds. -/
theorem rlSetN (ta b : Addr) (x : Int) (old : Value) (W : World) (hb : W.cell? b = some (.int .i64 x)) (ht : W.cell? ta = some old) (hf : W.frozen? ta = false) :
    (ReflectliteValue.set #[.agg #[.pointer (some ⟨6, 250, none⟩), .pointer (some ta), .int .u64 409], .agg #[.pointer (some ⟨6, 250, none⟩), .pointer (some b), .int .u64 153]]).run Tryz.prog W
      = .ok (.tuple #[]) (W.setCell ta (.int .i64 x)) := by
  have key := show ReflectliteValue.set #[.agg #[.pointer (some ⟨6, 250, none⟩), .pointer (some ta), .int .u64 409], .agg #[.pointer (some ⟨6, 250, none⟩), .pointer (some b), .int .u64 153]] = Bind.bind (ReflectliteValue.parts (.agg #[.pointer (some ⟨6, 250, none⟩), .pointer (some ta), .int .u64 409])) (fun p => Bind.bind (ReflectliteValue.parts (.agg #[.pointer (some ⟨6, 250, none⟩), .pointer (some b), .int .u64 153])) _) from rfl
  rw [key]
  simp only [Sem.run_bind, rlPartsNa, rlPartsN, Result.andThen]
  simp [ReflectliteValue.flagAddr, rlLoadN b x W hb, rlDirectN, rlStoreN ta x old W ht hf, Result.andThen]
end Go.Proofs.YteboaiklibaomaaGreatDoor
/-
  errors.As with a notNumber and a target of that type answers true, and the target holds that notNumber behind it; nothing else that was there is turned.
-/
namespace Go.Proofs.YteboaiklibaomaaGreatDoor
open Go.RowKit Go.Extern.Stop Go.Stop Go.Extern

set_option maxHeartbeats 4000000 in
theorem as_hit (x : Int) (t : Addr) (old : Value) (w : World) (hg : w.cell? ⟨2, 0, none⟩ = some (.iface 270 (.agg #[.pointer (some ⟨6, 239, none⟩)]))) (ht0 : w.cell? t = some old) (hf0 : w.frozen? t = false) :
    Calls Tryz.prog 185 #[.iface 250 (.agg #[.int .i64 x]), .iface 252 (.pointer (some t))] w fun ev w' => ev = .returned (.bool true) ∧ w' = ((((w.alloc (.cells #[.pointer (some t)] 252)).alloc (.cells #[.pointer (some ⟨6, 252, none⟩), .pointer (some ⟨w.heap.size, 0, none⟩), .int .u64 150] 256)).alloc (.cells #[.pointer (some ⟨6, 252, none⟩), .pointer (some ⟨w.heap.size, 0, none⟩), .int .u64 150] 256)).alloc (.cells #[.int .i64 x] 250)).setCell t (.int .i64 x) := by
  have h6 := @run_callFunc_extern Tryz.prog 188 _ (fun args => ReflectliteValue.unpack (args.getD 0 (.tuple #[]))) Tryz.func188 (by kernel_rfl) (by kernel_rfl) (by kernel_rfl) (by kernel_rfl)
  have h7 := @run_callFunc_extern Tryz.prog 189 _ (ReflectliteValue.methodAny (ReflectliteValue.valueError "reflectlite.Value.Type" 0) (fun t _ _ _ => ReflectliteType.toType t)) Tryz.func189 (by kernel_rfl) (by kernel_rfl) (by kernel_rfl) (by kernel_rfl)
  have h8 := @run_callFunc_extern Tryz.prog 190 _ (ReflectliteValue.method (ReflectliteValue.valueError "reflectlite.Value.IsNil" 0) ReflectliteValue.isNil) Tryz.func190 (by kernel_rfl) (by kernel_rfl) (by kernel_rfl) (by kernel_rfl)
  have h27 := @run_callFunc_extern Tryz.prog 219 _ (ReflectliteType.abiMethod fun t => do pure (.int .u8 (← Rtype.kind t))) Tryz.func219 (by kernel_rfl) (by kernel_rfl) (by kernel_rfl) (by kernel_rfl)
  have h37 := @run_callFunc_extern Tryz.prog 230 _ (ReflectliteType.method ReflectliteType.elem) Tryz.func230 (by kernel_rfl) (by kernel_rfl) (by kernel_rfl) (by kernel_rfl)
  have h38 := @run_callFunc_extern Tryz.prog 231 _ (ReflectliteType.relation "Implements" ReflectliteType.implements_) Tryz.func231 (by kernel_rfl) (by kernel_rfl) (by kernel_rfl) (by kernel_rfl)
  have h10 := @run_callFunc_extern Tryz.prog 196 _ ReflectliteType.typeOf Tryz.func196 (by kernel_rfl) (by kernel_rfl) (by kernel_rfl) (by kernel_rfl)
  have h35 := @run_callFunc_extern Tryz.prog 228 _ (ReflectliteType.relation "AssignableTo" ReflectliteType.assignableTo) Tryz.func228 (by kernel_rfl) (by kernel_rfl) (by kernel_rfl) (by kernel_rfl)
  have h11 := @run_callFunc_extern Tryz.prog 197 _ (ReflectliteValue.method (ReflectliteValue.valueError "reflectlite.Value.Elem" 0) ReflectliteValue.elem) Tryz.func197 (by kernel_rfl) (by kernel_rfl) (by kernel_rfl) (by kernel_rfl)
  have h12 := @run_callFunc_extern Tryz.prog 198 _ ReflectliteValue.set Tryz.func198 (by kernel_rfl) (by kernel_rfl) (by kernel_rfl) (by kernel_rfl)
  have tO := rlTypeOfN
  have mA := rlMethodAssignableTo
  have aN := rlAssignableN
  have vN := rlValueOfN
  have f6 := rlValueOfP
  have f7 := rlTypeP
  have mK := rlMethodKind
  have mE := rlMethodElem
  have mI := rlMethodImplements
  have kP := rlKindP
  have kN := rlKindN
  have eP := rlElemP
  have iN := rlImplementsN
  have n8 := rlIsNilP ⟨w.heap.size, 0, none⟩ t ((w.alloc (.cells #[.pointer (some t)] 252)).alloc (.cells #[.pointer (some ⟨6, 252, none⟩), .pointer (some ⟨w.heap.size, 0, none⟩), .int .u64 150] 256)) (by simp)
  have hlt : 2 < w.heap.size := by
    rcases Nat.lt_or_ge 2 w.heap.size with h | h
    · exact h
    · simp [World.cell?, Array.getElem?_eq_none h] at hg
  have hg2 : ((w.alloc (.cells #[.pointer (some t)] 252)).alloc (.cells #[.pointer (some ⟨6, 252, none⟩), .pointer (some ⟨w.heap.size, 0, none⟩), .int .u64 150] 256)).cell? ⟨2, 0, none⟩ = some (.iface 270 (.agg #[.pointer (some ⟨6, 239, none⟩)])) := by
    rw [World.cell?_alloc_lt _ _ ⟨2, 0, none⟩ (by simp <;> omega), World.cell?_alloc_lt _ _ ⟨2, 0, none⟩ hlt]; exact hg
  have htl : t.block < w.heap.size := by
    rcases Nat.lt_or_ge t.block w.heap.size with h | h
    · exact h
    · simp [World.cell?, Array.getElem?_eq_none h] at ht0
  have el := rlElemVP ⟨w.heap.size, 0, none⟩ t (((w.alloc (.cells #[.pointer (some t)] 252)).alloc (.cells #[.pointer (some ⟨6, 252, none⟩), .pointer (some ⟨w.heap.size, 0, none⟩), .int .u64 150] 256)).alloc (.cells #[.pointer (some ⟨6, 252, none⟩), .pointer (some ⟨w.heap.size, 0, none⟩), .int .u64 150] 256)) (by rw [World.cell?_alloc_lt _ _ ⟨w.heap.size, 0, none⟩ (by simp <;> omega)]; simp)
  have st := rlSetN t ⟨w.heap.size + 1 + 1 + 1, 0, none⟩ x old ((((w.alloc (.cells #[.pointer (some t)] 252)).alloc (.cells #[.pointer (some ⟨6, 252, none⟩), .pointer (some ⟨w.heap.size, 0, none⟩), .int .u64 150] 256)).alloc (.cells #[.pointer (some ⟨6, 252, none⟩), .pointer (some ⟨w.heap.size, 0, none⟩), .int .u64 150] 256)).alloc (.cells #[.int .i64 x] 250))
    (by rw [World.cell?_alloc_at _ _ _ _ (by simp)]; rfl)
    (by rw [World.cell?_alloc_lt _ _ t (by simp <;> omega), World.cell?_alloc_lt _ _ t (by simp <;> omega), World.cell?_alloc_lt _ _ t (by simp <;> omega), World.cell?_alloc_lt _ _ t htl]; exact ht0)
    (by rw [World.frozen?_alloc_old _ _ t (by simp <;> omega), World.frozen?_alloc_old _ _ t (by simp <;> omega), World.frozen?_alloc_old _ _ t (by simp <;> omega), World.frozen?_alloc_old _ _ t (Nat.ne_of_lt htl)]; exact hf0)
  go_enter Tryz.func185, Tryz.ntmps185
  go_wp2
  refine wp_loop_rounds 1 ?_
  rw [rounds_succ]
  go_wp2
  go_ret
  exact ⟨rfl, rfl⟩
end Go.Proofs.YteboaiklibaomaaGreatDoor
