/-
  Parts of the proof laid into one text, one behind the other: OpNum. Contracts of the program's and the model's functions, and what they are proved of, as their theorems say.
-/
import Derived.Test.YtoafolefecddmaaGreatDoorOpAtMHv
import Derived.Test.YtoafolefecddmaaGreatDoorUiA
import Derived.ChangeKeysEq
namespace Go.Proofs.YtoafolefecddmaaGreatDoor
open Go.RowKit Go.Extern.Stop Go.Stop Go.Extern Num Go.Lib
abbrev Opr.num (t : Opr) : Value := .agg #[.int .i64 t.kind, .string t.name, .int .i64 t.a, .int .i64 t.b, .int .i64 t.c, .int .i64 t.d]
set_option maxRecDepth 100000 in
set_option maxHeartbeats 1000000 in
theorem operationOf_any (t : Opr) (v : Value) (w : World) :
    Calls Tryz.prog 120 #[t.val v] w fun e w' => e = .returned t.num ∧ Below w.heap.size w w' := by
  go_enter Tryz.func120, Tryz.ntmps120
  go_wp2
  exact bodyPost_ret (v := t.num) (by simp [results, Tryz.results120, go_sem]) rfl ⟨rfl, by
    repeat (first | exact Below.refl _ _ | refine Below.setCell ?_ (by simp <;> omega) _ | refine Below.alloc ?_ (by simp <;> omega) _)⟩
def eqNB (t u : Opr) : Bool := t.kind == u.kind && (t.name.toList == u.name.toList && (t.a == u.a && (t.b == u.b && (t.c == u.c && t.d == u.d))))
theorem cellsI64 : Tryz.prog.cellsOf 2 = 1 := by kernel_rfl
set_option maxRecDepth 100000 in
theorem eqArr4 (n : Nat) (a b c d a' b' c' d' : Int) (u : World) : (Op.equalIn (n + 2) 182 (.agg #[.int .i64 a, .int .i64 b, .int .i64 c, .int .i64 d]) (.agg #[.int .i64 a', .int .i64 b', .int .i64 c', .int .i64 d'])).run Tryz.prog u = .ok (a == a' && (b == b' && (c == c' && d == d'))) u := by
  obtain ⟨i, hi⟩ := info_of_underlying Tryz.underlying2
  rw [run_equalIn_array u (n + 1) _ _ Tryz.underlying182 hi, cellsI64]
  cases e0 : (a == a') <;> cases e1 : (b == b') <;> cases e2 : (c == c') <;> cases e3 : (d == d') <;> simp [List.range_succ, Op.eqItems, go_sem, e0, e1, e2, e3]
set_option maxRecDepth 100000 in
theorem eqNum (t u : Opr) (w : World) : (binOp .eql 184 t.num u.num).run Tryz.prog w = .ok (.bool (eqNB t u)) w := by
  unfold eqNB
  have h := fun n x => eqArr4 n t.a t.b t.c t.d u.a u.b u.c u.d x
  cases e0 : (t.kind == u.kind) <;> cases e1 : (t.name.toList == u.name.toList) <;> go_simp
  by_cases q0 : t.a = u.a <;> by_cases q1 : t.b = u.b <;> by_cases q2 : t.c = u.c <;> by_cases q3 : t.d = u.d <;> simp [q0, q1, q2, q3]
end Go.Proofs.YtoafolefecddmaaGreatDoor
