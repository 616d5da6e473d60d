/-
  errors.As with a notNumber and a target of that type answers true, and the target holds that notNumber behind it; nothing else that was there is turned.
-/
import Derived.Test.YteboaiklibaomaaGreatDoorAs
namespace Go.Proofs.YteboaiklibaomaaGreatDoor
open Go.RowKit Go.Extern.Stop Go.Stop Go.Extern

set_option maxHeartbeats 4000000 in
theorem as_hit (x : Int) (t : Addr) (old : Value) (w : World) (hg : w.cell? ⟨2, 0, none⟩ = some (.iface 270 (.agg #[.pointer (some ⟨6, 239, none⟩)]))) (ht0 : w.cell? t = some old) (hf0 : w.frozen? t = false) :
    Calls Tryz.prog 185 #[.iface 250 (.agg #[.int .i64 x]), .iface 252 (.pointer (some t))] w fun ev w' => ev = .returned (.bool true) ∧ w' = ((((w.alloc (.cells #[.pointer (some t)] 252)).alloc (.cells #[.pointer (some ⟨6, 252, none⟩), .pointer (some ⟨w.heap.size, 0, none⟩), .int .u64 150] 256)).alloc (.cells #[.pointer (some ⟨6, 252, none⟩), .pointer (some ⟨w.heap.size, 0, none⟩), .int .u64 150] 256)).alloc (.cells #[.int .i64 x] 250)).setCell t (.int .i64 x) := by
  have h6 := @run_callFunc_extern Tryz.prog 188 _ (fun args => ReflectliteValue.unpack (args.getD 0 (.tuple #[]))) Tryz.func188 (by kernel_rfl) (by kernel_rfl) (by kernel_rfl) (by kernel_rfl)
  have h7 := @run_callFunc_extern Tryz.prog 189 _ (ReflectliteValue.methodAny (ReflectliteValue.valueError "reflectlite.Value.Type" 0) (fun t _ _ _ => ReflectliteType.toType t)) Tryz.func189 (by kernel_rfl) (by kernel_rfl) (by kernel_rfl) (by kernel_rfl)
  have h8 := @run_callFunc_extern Tryz.prog 190 _ (ReflectliteValue.method (ReflectliteValue.valueError "reflectlite.Value.IsNil" 0) ReflectliteValue.isNil) Tryz.func190 (by kernel_rfl) (by kernel_rfl) (by kernel_rfl) (by kernel_rfl)
  have h27 := @run_callFunc_extern Tryz.prog 219 _ (ReflectliteType.abiMethod fun t => do pure (.int .u8 (← Rtype.kind t))) Tryz.func219 (by kernel_rfl) (by kernel_rfl) (by kernel_rfl) (by kernel_rfl)
  have h37 := @run_callFunc_extern Tryz.prog 230 _ (ReflectliteType.method ReflectliteType.elem) Tryz.func230 (by kernel_rfl) (by kernel_rfl) (by kernel_rfl) (by kernel_rfl)
  have h38 := @run_callFunc_extern Tryz.prog 231 _ (ReflectliteType.relation "Implements" ReflectliteType.implements_) Tryz.func231 (by kernel_rfl) (by kernel_rfl) (by kernel_rfl) (by kernel_rfl)
  have h10 := @run_callFunc_extern Tryz.prog 196 _ ReflectliteType.typeOf Tryz.func196 (by kernel_rfl) (by kernel_rfl) (by kernel_rfl) (by kernel_rfl)
  have h35 := @run_callFunc_extern Tryz.prog 228 _ (ReflectliteType.relation "AssignableTo" ReflectliteType.assignableTo) Tryz.func228 (by kernel_rfl) (by kernel_rfl) (by kernel_rfl) (by kernel_rfl)
  have h11 := @run_callFunc_extern Tryz.prog 197 _ (ReflectliteValue.method (ReflectliteValue.valueError "reflectlite.Value.Elem" 0) ReflectliteValue.elem) Tryz.func197 (by kernel_rfl) (by kernel_rfl) (by kernel_rfl) (by kernel_rfl)
  have h12 := @run_callFunc_extern Tryz.prog 198 _ ReflectliteValue.set Tryz.func198 (by kernel_rfl) (by kernel_rfl) (by kernel_rfl) (by kernel_rfl)
  have tO := rlTypeOfN
  have mA := rlMethodAssignableTo
  have aN := rlAssignableN
  have vN := rlValueOfN
  have f6 := rlValueOfP
  have f7 := rlTypeP
  have mK := rlMethodKind
  have mE := rlMethodElem
  have mI := rlMethodImplements
  have kP := rlKindP
  have kN := rlKindN
  have eP := rlElemP
  have iN := rlImplementsN
  have n8 := rlIsNilP ⟨w.heap.size, 0, none⟩ t ((w.alloc (.cells #[.pointer (some t)] 252)).alloc (.cells #[.pointer (some ⟨6, 252, none⟩), .pointer (some ⟨w.heap.size, 0, none⟩), .int .u64 150] 256)) (by simp)
  have hlt : 2 < w.heap.size := by
    rcases Nat.lt_or_ge 2 w.heap.size with h | h
    · exact h
    · simp [World.cell?, Array.getElem?_eq_none h] at hg
  have hg2 : ((w.alloc (.cells #[.pointer (some t)] 252)).alloc (.cells #[.pointer (some ⟨6, 252, none⟩), .pointer (some ⟨w.heap.size, 0, none⟩), .int .u64 150] 256)).cell? ⟨2, 0, none⟩ = some (.iface 270 (.agg #[.pointer (some ⟨6, 239, none⟩)])) := by
    rw [World.cell?_alloc_lt _ _ ⟨2, 0, none⟩ (by simp <;> omega), World.cell?_alloc_lt _ _ ⟨2, 0, none⟩ hlt]; exact hg
  have htl : t.block < w.heap.size := by
    rcases Nat.lt_or_ge t.block w.heap.size with h | h
    · exact h
    · simp [World.cell?, Array.getElem?_eq_none h] at ht0
  have el := rlElemVP ⟨w.heap.size, 0, none⟩ t (((w.alloc (.cells #[.pointer (some t)] 252)).alloc (.cells #[.pointer (some ⟨6, 252, none⟩), .pointer (some ⟨w.heap.size, 0, none⟩), .int .u64 150] 256)).alloc (.cells #[.pointer (some ⟨6, 252, none⟩), .pointer (some ⟨w.heap.size, 0, none⟩), .int .u64 150] 256)) (by rw [World.cell?_alloc_lt _ _ ⟨w.heap.size, 0, none⟩ (by simp <;> omega)]; simp)
  have st := rlSetN t ⟨w.heap.size + 1 + 1 + 1, 0, none⟩ x old ((((w.alloc (.cells #[.pointer (some t)] 252)).alloc (.cells #[.pointer (some ⟨6, 252, none⟩), .pointer (some ⟨w.heap.size, 0, none⟩), .int .u64 150] 256)).alloc (.cells #[.pointer (some ⟨6, 252, none⟩), .pointer (some ⟨w.heap.size, 0, none⟩), .int .u64 150] 256)).alloc (.cells #[.int .i64 x] 250))
    (by rw [World.cell?_alloc_at _ _ _ _ (by simp)]; rfl)
    (by rw [World.cell?_alloc_lt _ _ t (by simp <;> omega), World.cell?_alloc_lt _ _ t (by simp <;> omega), World.cell?_alloc_lt _ _ t (by simp <;> omega), World.cell?_alloc_lt _ _ t htl]; exact ht0)
    (by rw [World.frozen?_alloc_old _ _ t (by simp <;> omega), World.frozen?_alloc_old _ _ t (by simp <;> omega), World.frozen?_alloc_old _ _ t (by simp <;> omega), World.frozen?_alloc_old _ _ t (Nat.ne_of_lt htl)]; exact hf0)
  go_enter Tryz.func185, Tryz.ntmps185
  go_wp2
  refine wp_loop_rounds 1 ?_
  rw [rounds_succ]
  go_wp2
  go_ret
  exact ⟨rfl, rfl⟩
end Go.Proofs.YteboaiklibaomaaGreatDoor
