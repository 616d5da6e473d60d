/-
  The program's operationOf and sameOp: an operation without its data; whether two operations are the same; nothing is turned.
-/
import Derived.Test.YtkdhmijebkhmaaaSpecSameA
import Derived.Test.YtkdhmijebkhmaaaImplSameD
import Derived.ChangeKeysEq
namespace Go.Proofs.Ytkdhmijebkhmaaa
open Go.RowKit Go.Extern.Stop Go.Stop Go.Extern Num Go.Lib

/-- An operation without its data. -/
abbrev Opr.num (t : Opr) : Value := .agg #[.int .i64 t.kind, .string t.name, .int .i64 t.a, .int .i64 t.b, .int .i64 t.c, .int .i64 t.d]
set_option maxRecDepth 100000 in
set_option maxHeartbeats 1000000 in
theorem operationOf_any (t : Opr) (v : Value) (w : World) :
    Calls Try.prog 23 #[t.val v] w fun e w' => e = .returned t.num ∧ Below w.heap.size w w' := by
  go_enter Try.func23, Try.ntmps23
  go_wp2
  exact bodyPost_ret (v := t.num) (by simp [results, Try.results23, go_sem]) rfl ⟨rfl, by
    repeat (first | exact Below.refl _ _ | refine Below.setCell ?_ (by simp <;> omega) _ | refine Below.alloc ?_ (by simp <;> omega) _)⟩
def eqNB (t u : Opr) : Bool := t.kind == u.kind && (t.name.toList == u.name.toList && (t.a == u.a && (t.b == u.b && (t.c == u.c && t.d == u.d))))
theorem cellsI64 : Try.prog.cellsOf 2 = 1 := by kernel_rfl
set_option maxRecDepth 100000 in
theorem eqArr4 (n : Nat) (a b c d a' b' c' d' : Int) (u : World) : (Op.equalIn (n + 2) 57 (.agg #[.int .i64 a, .int .i64 b, .int .i64 c, .int .i64 d]) (.agg #[.int .i64 a', .int .i64 b', .int .i64 c', .int .i64 d'])).run Try.prog u = .ok (a == a' && (b == b' && (c == c' && d == d'))) u := by
  obtain ⟨i, hi⟩ := info_of_underlying Try.underlying2
  rw [run_equalIn_array u (n + 1) _ _ Try.underlying57 hi, cellsI64]
  cases e0 : (a == a') <;> cases e1 : (b == b') <;> cases e2 : (c == c') <;> cases e3 : (d == d') <;> simp [List.range_succ, Op.eqItems, go_sem, e0, e1, e2, e3]
set_option maxRecDepth 100000 in
theorem eqNum (t u : Opr) (w : World) : (binOp .eql 59 t.num u.num).run Try.prog w = .ok (.bool (eqNB t u)) w := by
  unfold eqNB
  have h := fun n x => eqArr4 n t.a t.b t.c t.d u.a u.b u.c u.d x
  cases e0 : (t.kind == u.kind) <;> cases e1 : (t.name.toList == u.name.toList) <;> go_simp
  by_cases q0 : t.a = u.a <;> by_cases q1 : t.b = u.b <;> by_cases q2 : t.c = u.c <;> by_cases q3 : t.d = u.d <;> simp [q0, q1, q2, q3]
theorem eqOB_num (t u : Opr) (sd : Bool) (h : sd = sameB t.data u.data) : eqOB t u = (eqNB t u && sd) := by
  subst h
  unfold eqOB eqNB
  cases (t.kind == u.kind) <;> cases (t.name.toList == u.name.toList) <;> cases (t.a == u.a) <;> cases (t.b == u.b) <;> cases (t.c == u.c) <;> cases (t.d == u.d) <;> rfl
set_option maxRecDepth 100000 in
set_option maxHeartbeats 1000000 in
theorem sameOp_any (t u : Opr) (ga gb B1 B2 : Nat) (w : World) (ht : t.data.length ≤ 1048576) (oa : IsD w B1 ga t.data.length t.data) (ob : IsD w B2 gb u.data.length u.data) :
    Calls Try.prog 19 #[t.val (.slice (some ⟨ga, 0, none⟩) t.data.length t.data.length), u.val (.slice (some ⟨gb, 0, none⟩) u.data.length u.data.length)] w fun e w' => e = .returned (.bool (eqOB t u)) ∧ Below w.heap.size w w' := by
  obtain ⟨sd, hsd⟩ : ∃ sd, sd = sameB t.data u.data := ⟨_, rfl⟩
  rw [eqOB_num t u sd hsd]
  obtain ⟨W, hW⟩ : ∃ W, W = (w.alloc (.cells #[.int .i64 t.kind, .int .i64 t.a, .int .i64 t.b, .int .i64 t.c, .int .i64 t.d, .string t.name, .slice (some ⟨ga, 0, none⟩) t.data.length t.data.length] 39)).alloc (.cells #[.int .i64 u.kind, .int .i64 u.a, .int .i64 u.b, .int .i64 u.c, .int .i64 u.d, .string u.name, .slice (some ⟨gb, 0, none⟩) u.data.length u.data.length] 39) := ⟨_, rfl⟩
  have HW : Hid (W = (w.alloc (.cells #[.int .i64 t.kind, .int .i64 t.a, .int .i64 t.b, .int .i64 t.c, .int .i64 t.d, .string t.name, .slice (some ⟨ga, 0, none⟩) t.data.length t.data.length] 39)).alloc (.cells #[.int .i64 u.kind, .int .i64 u.a, .int .i64 u.b, .int .i64 u.c, .int .i64 u.d, .string u.name, .slice (some ⟨gb, 0, none⟩) u.data.length u.data.length] 39)) := hW
  have hbw : Below w.heap.size w W := by rw [hW]; exact ((Below.refl _ _).alloc (Nat.le_refl _) _).alloc (by simp) _
  have HBW : Hid (Below w.heap.size w W) := hbw
  have HT : Hid (∀ p : BW W, Calls Try.prog 24 #[.slice (some ⟨ga, 0, none⟩) t.data.length t.data.length, .slice (some ⟨gb, 0, none⟩) u.data.length u.data.length] p.x fun e w' => e = .returned (.bool sd) ∧ Below p.x.heap.size p.x w') := fun p => by rw [hsd]; exact implSame_any _ _ _ _ B1 B2 t.data u.data p.x ht ((oa.below hbw).below p.h) ((ob.below hbw).below p.h)
  have HO : Hid (∀ (x : Opr) (v : Value) (p : BW W), Calls Try.prog 23 #[x.val v] p.x fun e w' => e = .returned x.num ∧ Below p.x.heap.size p.x w') := fun x v p => operationOf_any x v p.x
  have a0 : ∀ p : BW W, p.x.cell? ⟨w.heap.size, 0, none⟩ = some (.int .i64 t.kind) := fun p => p.cell (by rw [hW]; simp [go_sem])
  have a1 : ∀ p : BW W, p.x.cell? ⟨w.heap.size, 1, none⟩ = some (.int .i64 t.a) := fun p => p.cell (by rw [hW]; simp [go_sem])
  have a2 : ∀ p : BW W, p.x.cell? ⟨w.heap.size, 2, none⟩ = some (.int .i64 t.b) := fun p => p.cell (by rw [hW]; simp [go_sem])
  have a3 : ∀ p : BW W, p.x.cell? ⟨w.heap.size, 3, none⟩ = some (.int .i64 t.c) := fun p => p.cell (by rw [hW]; simp [go_sem])
  have a4 : ∀ p : BW W, p.x.cell? ⟨w.heap.size, 4, none⟩ = some (.int .i64 t.d) := fun p => p.cell (by rw [hW]; simp [go_sem])
  have a5 : ∀ p : BW W, p.x.cell? ⟨w.heap.size, 5, none⟩ = some (.string t.name) := fun p => p.cell (by rw [hW]; simp [go_sem])
  have a6 : ∀ p : BW W, p.x.cell? ⟨w.heap.size, 6, none⟩ = some (.slice (some ⟨ga, 0, none⟩) t.data.length t.data.length) := fun p => p.cell (by rw [hW]; simp [go_sem])
  have d0 : ∀ p : BW W, p.x.cell? ⟨w.heap.size + 1, 0, none⟩ = some (.int .i64 u.kind) := fun p => p.cell (by rw [hW]; simp [go_sem])
  have d1 : ∀ p : BW W, p.x.cell? ⟨w.heap.size + 1, 1, none⟩ = some (.int .i64 u.a) := fun p => p.cell (by rw [hW]; simp [go_sem])
  have d2 : ∀ p : BW W, p.x.cell? ⟨w.heap.size + 1, 2, none⟩ = some (.int .i64 u.b) := fun p => p.cell (by rw [hW]; simp [go_sem])
  have d3 : ∀ p : BW W, p.x.cell? ⟨w.heap.size + 1, 3, none⟩ = some (.int .i64 u.c) := fun p => p.cell (by rw [hW]; simp [go_sem])
  have d4 : ∀ p : BW W, p.x.cell? ⟨w.heap.size + 1, 4, none⟩ = some (.int .i64 u.d) := fun p => p.cell (by rw [hW]; simp [go_sem])
  have d5 : ∀ p : BW W, p.x.cell? ⟨w.heap.size + 1, 5, none⟩ = some (.string u.name) := fun p => p.cell (by rw [hW]; simp [go_sem])
  have d6 : ∀ p : BW W, p.x.cell? ⟨w.heap.size + 1, 6, none⟩ = some (.slice (some ⟨gb, 0, none⟩) u.data.length u.data.length) := fun p => p.cell (by rw [hW]; simp [go_sem])
  have hne := bw_some W
  have hq := fun x => eqNum t u x
  clear hsd ht oa ob hbw hW
  obtain ⟨r, hr⟩ : ∃ r, r = eqNB t u := ⟨_, rfl⟩
  rw [← hr] at hq ⊢
  clear hr
  cases r with
  | true =>
    go_enter Try.func19, Try.ntmps19
    go_wp2_with fail
    rw [← HW.out]
    refine wp_region_below (by kernel_rfl) (by kernel_rfl) ?_
    repeat (go_big_quiet_step (first | (go_at_call 24; exact calls_bw (HT.out _)) | (go_at_call 23; exact calls_bw (HO.out _ _ _))))
    refine wpQuiet_nil ?_
    intro wq hw'
    obtain ⟨⟨_, bq⟩, rfl⟩ := hw'
    have HB : Hid (Below w.heap.size w wq) := HBW.out.trans (bq.mono HBW.out.size)
    clear bq hne a0 a1 a2 a3 a4 a5 a6 d0 d1 d2 d3 d4 d5 d6
    go_wp2
    go_ret
    exact ⟨by simp, HB.out⟩
  | false =>
    go_enter Try.func19, Try.ntmps19
    go_wp2_with fail
    rw [← HW.out]
    refine wp_region_below (by kernel_rfl) (by kernel_rfl) ?_
    repeat (go_big_quiet_step (first | (go_at_call 24; exact calls_bw (HT.out _)) | (go_at_call 23; exact calls_bw (HO.out _ _ _))))
    refine wpQuiet_nil ?_
    intro wq hw'
    obtain ⟨⟨_, bq⟩, rfl⟩ := hw'
    have HB : Hid (Below w.heap.size w wq) := HBW.out.trans (bq.mono HBW.out.size)
    clear bq hne a0 a1 a2 a3 a4 a5 a6 d0 d1 d2 d3 d4 d5 d6
    go_wp2
    go_ret
    exact ⟨by simp, HB.out⟩
end Go.Proofs.Ytkdhmijebkhmaaa
