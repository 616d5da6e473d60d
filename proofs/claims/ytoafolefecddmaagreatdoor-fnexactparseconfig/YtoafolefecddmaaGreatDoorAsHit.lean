/-
  errors.As with a notNumber and a target of that type answers true, and the target holds that notNumber behind it; nothing else that was there is turned.
-/
import Derived.Test.YtoafolefecddmaaGreatDoorAs
namespace Go.Proofs.YtoafolefecddmaaGreatDoor
open Go.RowKit Go.Extern.Stop Go.Stop Go.Extern

set_option maxHeartbeats 4000000 in
theorem as_hit (x : Int) (t : Addr) (old : Value) (w : World) (hg : w.cell? ⟨5, 0, none⟩ = some (.iface 332 (.agg #[.pointer (some ⟨10, 118, none⟩)]))) (ht0 : w.cell? t = some old) (hf0 : w.frozen? t = false) :
    Calls Tryz.prog 181 #[.iface 209 (.agg #[.int .i64 x]), .iface 254 (.pointer (some t))] w fun ev w' => ev = .returned (.bool true) ∧ w' = ((((w.alloc (.cells #[.pointer (some t)] 254)).alloc (.cells #[.pointer (some ⟨10, 254, none⟩), .pointer (some ⟨w.heap.size, 0, none⟩), .int .u64 150] 293)).alloc (.cells #[.pointer (some ⟨10, 254, none⟩), .pointer (some ⟨w.heap.size, 0, none⟩), .int .u64 150] 293)).alloc (.cells #[.int .i64 x] 209)).setCell t (.int .i64 x) := by
  have h6 := @run_callFunc_extern Tryz.prog 222 _ (fun args => ReflectliteValue.unpack (args.getD 0 (.tuple #[]))) Tryz.func222 (by kernel_rfl) (by kernel_rfl) (by kernel_rfl) (by kernel_rfl)
  have h7 := @run_callFunc_extern Tryz.prog 223 _ (ReflectliteValue.methodAny (ReflectliteValue.valueError "reflectlite.Value.Type" 0) (fun t _ _ _ => ReflectliteType.toType t)) Tryz.func223 (by kernel_rfl) (by kernel_rfl) (by kernel_rfl) (by kernel_rfl)
  have h8 := @run_callFunc_extern Tryz.prog 224 _ (ReflectliteValue.method (ReflectliteValue.valueError "reflectlite.Value.IsNil" 0) ReflectliteValue.isNil) Tryz.func224 (by kernel_rfl) (by kernel_rfl) (by kernel_rfl) (by kernel_rfl)
  have h27 := @run_callFunc_extern Tryz.prog 285 _ (ReflectliteType.abiMethod fun t => do pure (.int .u8 (← Rtype.kind t))) Tryz.func285 (by kernel_rfl) (by kernel_rfl) (by kernel_rfl) (by kernel_rfl)
  have h37 := @run_callFunc_extern Tryz.prog 300 _ (ReflectliteType.method ReflectliteType.elem) Tryz.func300 (by kernel_rfl) (by kernel_rfl) (by kernel_rfl) (by kernel_rfl)
  have h38 := @run_callFunc_extern Tryz.prog 301 _ (ReflectliteType.relation "Implements" ReflectliteType.implements_) Tryz.func301 (by kernel_rfl) (by kernel_rfl) (by kernel_rfl) (by kernel_rfl)
  have h10 := @run_callFunc_extern Tryz.prog 250 _ ReflectliteType.typeOf Tryz.func250 (by kernel_rfl) (by kernel_rfl) (by kernel_rfl) (by kernel_rfl)
  have h35 := @run_callFunc_extern Tryz.prog 298 _ (ReflectliteType.relation "AssignableTo" ReflectliteType.assignableTo) Tryz.func298 (by kernel_rfl) (by kernel_rfl) (by kernel_rfl) (by kernel_rfl)
  have h11 := @run_callFunc_extern Tryz.prog 251 _ (ReflectliteValue.method (ReflectliteValue.valueError "reflectlite.Value.Elem" 0) ReflectliteValue.elem) Tryz.func251 (by kernel_rfl) (by kernel_rfl) (by kernel_rfl) (by kernel_rfl)
  have h12 := @run_callFunc_extern Tryz.prog 252 _ ReflectliteValue.set Tryz.func252 (by kernel_rfl) (by kernel_rfl) (by kernel_rfl) (by kernel_rfl)
  have tO := rlTypeOfN
  have mA := rlMethodAssignableTo
  have aN := rlAssignableN
  have vN := rlValueOfN
  have f6 := rlValueOfP
  have f7 := rlTypeP
  have mK := rlMethodKind
  have mE := rlMethodElem
  have mI := rlMethodImplements
  have kP := rlKindP
  have kN := rlKindN
  have eP := rlElemP
  have iN := rlImplementsN
  have n8 := rlIsNilP ⟨w.heap.size, 0, none⟩ t ((w.alloc (.cells #[.pointer (some t)] 254)).alloc (.cells #[.pointer (some ⟨10, 254, none⟩), .pointer (some ⟨w.heap.size, 0, none⟩), .int .u64 150] 293)) (by simp)
  have hlt : 5 < w.heap.size := by
    rcases Nat.lt_or_ge 5 w.heap.size with h | h
    · exact h
    · simp [World.cell?, Array.getElem?_eq_none h] at hg
  have hg2 : ((w.alloc (.cells #[.pointer (some t)] 254)).alloc (.cells #[.pointer (some ⟨10, 254, none⟩), .pointer (some ⟨w.heap.size, 0, none⟩), .int .u64 150] 293)).cell? ⟨5, 0, none⟩ = some (.iface 332 (.agg #[.pointer (some ⟨10, 118, none⟩)])) := by
    rw [World.cell?_alloc_lt _ _ ⟨5, 0, none⟩ (by simp <;> omega), World.cell?_alloc_lt _ _ ⟨5, 0, none⟩ hlt]; exact hg
  have htl : t.block < w.heap.size := by
    rcases Nat.lt_or_ge t.block w.heap.size with h | h
    · exact h
    · simp [World.cell?, Array.getElem?_eq_none h] at ht0
  have el := rlElemVP ⟨w.heap.size, 0, none⟩ t (((w.alloc (.cells #[.pointer (some t)] 254)).alloc (.cells #[.pointer (some ⟨10, 254, none⟩), .pointer (some ⟨w.heap.size, 0, none⟩), .int .u64 150] 293)).alloc (.cells #[.pointer (some ⟨10, 254, none⟩), .pointer (some ⟨w.heap.size, 0, none⟩), .int .u64 150] 293)) (by rw [World.cell?_alloc_lt _ _ ⟨w.heap.size, 0, none⟩ (by simp <;> omega)]; simp)
  have st := rlSetN t ⟨w.heap.size + 1 + 1 + 1, 0, none⟩ x old ((((w.alloc (.cells #[.pointer (some t)] 254)).alloc (.cells #[.pointer (some ⟨10, 254, none⟩), .pointer (some ⟨w.heap.size, 0, none⟩), .int .u64 150] 293)).alloc (.cells #[.pointer (some ⟨10, 254, none⟩), .pointer (some ⟨w.heap.size, 0, none⟩), .int .u64 150] 293)).alloc (.cells #[.int .i64 x] 209))
    (by rw [World.cell?_alloc_at _ _ _ _ (by simp)]; rfl)
    (by rw [World.cell?_alloc_lt _ _ t (by simp <;> omega), World.cell?_alloc_lt _ _ t (by simp <;> omega), World.cell?_alloc_lt _ _ t (by simp <;> omega), World.cell?_alloc_lt _ _ t htl]; exact ht0)
    (by rw [World.frozen?_alloc_old _ _ t (by simp <;> omega), World.frozen?_alloc_old _ _ t (by simp <;> omega), World.frozen?_alloc_old _ _ t (by simp <;> omega), World.frozen?_alloc_old _ _ t (Nat.ne_of_lt htl)]; exact hf0)
  go_enter Tryz.func181, Tryz.ntmps181
  go_wp2
  refine wp_loop_rounds 1 ?_
  rw [rounds_succ]
  go_wp2
  go_ret
  exact ⟨rfl, rfl⟩
end Go.Proofs.YtoafolefecddmaaGreatDoor
