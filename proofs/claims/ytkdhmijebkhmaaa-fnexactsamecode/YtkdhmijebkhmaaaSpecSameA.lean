/-
  The model's l9SameOp: whether two operations are the same; nothing is turned.
-/
import Derived.Test.YtkdhmijebkhmaaaOpMath
namespace Go.Proofs.Ytkdhmijebkhmaaa
open Go.RowKit Go.Extern.Stop Go.Stop Go.Extern Num Go.Lib

/-- One operation, as it is read. -/
structure OpAt (w : World) (B g o : Nat) (t : Opr) (gk : Nat) : Prop where
  c0 : w.cell? ⟨g, o, none⟩ = some (.int .i64 t.kind)
  c1 : w.cell? ⟨g, o + 1, none⟩ = some (.int .i64 t.a)
  c2 : w.cell? ⟨g, o + 2, none⟩ = some (.int .i64 t.b)
  c3 : w.cell? ⟨g, o + 3, none⟩ = some (.int .i64 t.c)
  c4 : w.cell? ⟨g, o + 4, none⟩ = some (.int .i64 t.d)
  c5 : w.cell? ⟨g, o + 5, none⟩ = some (.string t.name)
  c6 : w.cell? ⟨g, o + 6, none⟩ = some (.slice (some ⟨gk, 0, none⟩) t.data.length t.data.length)
  data : IsD w B gk t.data.length t.data
theorem OpAt.below {w w' : World} {B g o gk : Nat} {t : Opr} (h : OpAt w B g o t gk) (hb : Below w.heap.size w w') : OpAt w' B g o t gk :=
  ⟨cell_keep hb h.c0, cell_keep hb h.c1, cell_keep hb h.c2, cell_keep hb h.c3, cell_keep hb h.c4, cell_keep hb h.c5, cell_keep hb h.c6, h.data.below hb⟩
theorem RowOp.at {w : World} {B g : Nat} {l : List Opr} (h : RowOp w B g l) (k : Nat) (hk : k < l.length) : ∃ gk, OpAt w B g (k * 7) l[k] gk := by
  obtain ⟨c0, c1, c2, c3, c4, c5, gk, c6, hd⟩ := h k hk
  exact ⟨gk, c0, c1, c2, c3, c4, c5, c6, hd⟩
theorem cases7 (a b c d e f g : Bool) : a = false ∨ (a = true ∧ (b = false ∨ (b = true ∧ (c = false ∨ (c = true ∧ (d = false ∨ (d = true ∧ (e = false ∨ (e = true ∧ (f = false ∨ (f = true ∧ (g = false ∨ g = true)))))))))))) := by
  cases a <;> cases b <;> cases c <;> cases d <;> cases e <;> cases f <;> cases g <;> simp
set_option maxRecDepth 100000 in
set_option maxHeartbeats 4000000 in
theorem l9SameOp_any (t u : Opr) (g1 o1 g2 o2 ga gb B1 B2 : Nat) (w : World) (ht : t.data.length ≤ 1048576) (h1 : OpAt w B1 g1 o1 t ga) (h2 : OpAt w B2 g2 o2 u gb) :
    Calls Try.prog 10 #[.pointer (some ⟨g1, o1, none⟩), .pointer (some ⟨g2, o2, none⟩)] w fun e w' => e = .returned (.bool (eqOB t u)) ∧ Below w.heap.size w w' := by
  obtain ⟨sd, hsd⟩ : ∃ sd, sd = sameB t.data u.data := ⟨_, rfl⟩
  have HS : Hid (∀ x, Below w.heap.size w x → Calls Try.prog 16 #[.slice (some ⟨ga, 0, none⟩) t.data.length t.data.length, .slice (some ⟨gb, 0, none⟩) u.data.length u.data.length] x fun e w' => e = .returned (.bool sd) ∧ Below x.heap.size x w') := fun x hx => by rw [hsd]; exact specSame_any _ _ _ _ B1 B2 t.data u.data x ht (h1.data.below hx) (h2.data.below hx)
  obtain ⟨R, hR⟩ : ∃ R, R = eqOB t u := ⟨_, rfl⟩
  rw [← hR]
  have HR : Hid (R = (t.kind == u.kind && (t.a == u.a && (t.b == u.b && (t.c == u.c && (t.d == u.d && (t.name.toList == u.name.toList && sd))))))) := by show _ = _; rw [hR, hsd]; rfl
  have a0 : ∀ p : BW w, p.x.cell? ⟨g1, o1, none⟩ = some (.int .i64 t.kind) := fun p => p.cell h1.c0
  have a1 : ∀ p : BW w, p.x.cell? ⟨g1, o1 + 1, none⟩ = some (.int .i64 t.a) := fun p => p.cell h1.c1
  have a2 : ∀ p : BW w, p.x.cell? ⟨g1, o1 + 2, none⟩ = some (.int .i64 t.b) := fun p => p.cell h1.c2
  have a3 : ∀ p : BW w, p.x.cell? ⟨g1, o1 + 3, none⟩ = some (.int .i64 t.c) := fun p => p.cell h1.c3
  have a4 : ∀ p : BW w, p.x.cell? ⟨g1, o1 + 4, none⟩ = some (.int .i64 t.d) := fun p => p.cell h1.c4
  have a5 : ∀ p : BW w, p.x.cell? ⟨g1, o1 + 5, none⟩ = some (.string t.name) := fun p => p.cell h1.c5
  have a6 : ∀ p : BW w, p.x.cell? ⟨g1, o1 + 6, none⟩ = some (.slice (some ⟨ga, 0, none⟩) t.data.length t.data.length) := fun p => p.cell h1.c6
  have d0 : ∀ p : BW w, p.x.cell? ⟨g2, o2, none⟩ = some (.int .i64 u.kind) := fun p => p.cell h2.c0
  have d1 : ∀ p : BW w, p.x.cell? ⟨g2, o2 + 1, none⟩ = some (.int .i64 u.a) := fun p => p.cell h2.c1
  have d2 : ∀ p : BW w, p.x.cell? ⟨g2, o2 + 2, none⟩ = some (.int .i64 u.b) := fun p => p.cell h2.c2
  have d3 : ∀ p : BW w, p.x.cell? ⟨g2, o2 + 3, none⟩ = some (.int .i64 u.c) := fun p => p.cell h2.c3
  have d4 : ∀ p : BW w, p.x.cell? ⟨g2, o2 + 4, none⟩ = some (.int .i64 u.d) := fun p => p.cell h2.c4
  have d5 : ∀ p : BW w, p.x.cell? ⟨g2, o2 + 5, none⟩ = some (.string u.name) := fun p => p.cell h2.c5
  have d6 : ∀ p : BW w, p.x.cell? ⟨g2, o2 + 6, none⟩ = some (.slice (some ⟨gb, 0, none⟩) u.data.length u.data.length) := fun p => p.cell h2.c6
  have hne := bw_some w
  have HT : Hid (∀ p : BW w, Calls Try.prog 16 #[.slice (some ⟨ga, 0, none⟩) t.data.length t.data.length, .slice (some ⟨gb, 0, none⟩) u.data.length u.data.length] p.x fun e w' => e = .returned (.bool sd) ∧ Below p.x.heap.size p.x w') := fun p => HS.out p.x p.h
  clear hR hsd ht h1 h2 HS
  rcases cases7 (t.kind == u.kind) (t.a == u.a) (t.b == u.b) (t.c == u.c) (t.d == u.d) (t.name.toList == u.name.toList) sd with e0 | ⟨e0, e1 | ⟨e1, e2 | ⟨e2, e3 | ⟨e3, e4 | ⟨e4, e5 | ⟨e5, rfl | rfl⟩⟩⟩⟩⟩⟩
  · have HR2 : Hid (R = false) := by show _ = _; rw [show R = _ from HR.out]; simp [e0]
    clear HR
    go_enter Try.func10, Try.ntmps10
    go_wp2_with fail
    refine wp_region_below (by kernel_rfl) (by kernel_rfl) ?_
    simp only [List.append_eq, List.cons_append, List.nil_append]
    repeat (go_big_quiet_step ((go_at_call 16; exact calls_bw (HT.out _))))
    refine wpQuiet_nil ?_
    intro wq hw'
    obtain ⟨⟨_, bq⟩, rfl⟩ := hw'
    clear a0 a1 a2 a3 a4 a5 a6 d0 d1 d2 d3 d4 d5 d6 hne
    go_wp2
    go_ret
    exact ⟨by rw [HR2.out]; rfl, bq⟩
  · have HR2 : Hid (R = false) := by show _ = _; rw [show R = _ from HR.out]; simp [e0, e1]
    clear HR
    go_enter Try.func10, Try.ntmps10
    go_wp2_with fail
    refine wp_region_below (by kernel_rfl) (by kernel_rfl) ?_
    simp only [List.append_eq, List.cons_append, List.nil_append]
    repeat (go_big_quiet_step ((go_at_call 16; exact calls_bw (HT.out _))))
    refine wpQuiet_nil ?_
    intro wq hw'
    obtain ⟨⟨_, bq⟩, rfl⟩ := hw'
    clear a0 a1 a2 a3 a4 a5 a6 d0 d1 d2 d3 d4 d5 d6 hne
    go_wp2
    go_ret
    exact ⟨by rw [HR2.out]; rfl, bq⟩
  · have HR2 : Hid (R = false) := by show _ = _; rw [show R = _ from HR.out]; simp [e0, e1, e2]
    clear HR
    go_enter Try.func10, Try.ntmps10
    go_wp2_with fail
    refine wp_region_below (by kernel_rfl) (by kernel_rfl) ?_
    simp only [List.append_eq, List.cons_append, List.nil_append]
    repeat (go_big_quiet_step ((go_at_call 16; exact calls_bw (HT.out _))))
    refine wpQuiet_nil ?_
    intro wq hw'
    obtain ⟨⟨_, bq⟩, rfl⟩ := hw'
    clear a0 a1 a2 a3 a4 a5 a6 d0 d1 d2 d3 d4 d5 d6 hne
    go_wp2
    go_ret
    exact ⟨by rw [HR2.out]; rfl, bq⟩
  · have HR2 : Hid (R = false) := by show _ = _; rw [show R = _ from HR.out]; simp [e0, e1, e2, e3]
    clear HR
    go_enter Try.func10, Try.ntmps10
    go_wp2_with fail
    refine wp_region_below (by kernel_rfl) (by kernel_rfl) ?_
    simp only [List.append_eq, List.cons_append, List.nil_append]
    repeat (go_big_quiet_step ((go_at_call 16; exact calls_bw (HT.out _))))
    refine wpQuiet_nil ?_
    intro wq hw'
    obtain ⟨⟨_, bq⟩, rfl⟩ := hw'
    clear a0 a1 a2 a3 a4 a5 a6 d0 d1 d2 d3 d4 d5 d6 hne
    go_wp2
    go_ret
    exact ⟨by rw [HR2.out]; rfl, bq⟩
  · have HR2 : Hid (R = false) := by show _ = _; rw [show R = _ from HR.out]; simp [e0, e1, e2, e3, e4]
    clear HR
    go_enter Try.func10, Try.ntmps10
    go_wp2_with fail
    refine wp_region_below (by kernel_rfl) (by kernel_rfl) ?_
    simp only [List.append_eq, List.cons_append, List.nil_append]
    repeat (go_big_quiet_step ((go_at_call 16; exact calls_bw (HT.out _))))
    refine wpQuiet_nil ?_
    intro wq hw'
    obtain ⟨⟨_, bq⟩, rfl⟩ := hw'
    clear a0 a1 a2 a3 a4 a5 a6 d0 d1 d2 d3 d4 d5 d6 hne
    go_wp2
    go_ret
    exact ⟨by rw [HR2.out]; rfl, bq⟩
  · have HR2 : Hid (R = false) := by show _ = _; rw [show R = _ from HR.out]; simp [e0, e1, e2, e3, e4, e5]
    clear HR
    go_enter Try.func10, Try.ntmps10
    go_wp2_with fail
    refine wp_region_below (by kernel_rfl) (by kernel_rfl) ?_
    simp only [List.append_eq, List.cons_append, List.nil_append]
    repeat (go_big_quiet_step ((go_at_call 16; exact calls_bw (HT.out _))))
    refine wpQuiet_nil ?_
    intro wq hw'
    obtain ⟨⟨_, bq⟩, rfl⟩ := hw'
    clear a0 a1 a2 a3 a4 a5 a6 d0 d1 d2 d3 d4 d5 d6 hne
    go_wp2
    go_ret
    exact ⟨by rw [HR2.out]; rfl, bq⟩
  · have HR2 : Hid (R = false) := by show _ = _; rw [show R = _ from HR.out]; simp [e0, e1, e2, e3, e4, e5]
    clear HR
    go_enter Try.func10, Try.ntmps10
    go_wp2_with fail
    refine wp_region_below (by kernel_rfl) (by kernel_rfl) ?_
    simp only [List.append_eq, List.cons_append, List.nil_append]
    repeat (go_big_quiet_step ((go_at_call 16; exact calls_bw (HT.out _))))
    refine wpQuiet_nil ?_
    intro wq hw'
    obtain ⟨⟨_, bq⟩, rfl⟩ := hw'
    clear a0 a1 a2 a3 a4 a5 a6 d0 d1 d2 d3 d4 d5 d6 hne
    go_wp2
    go_ret
    exact ⟨by rw [HR2.out]; rfl, bq⟩
  · have HR2 : Hid (R = true) := by show _ = _; rw [show R = _ from HR.out]; simp [e0, e1, e2, e3, e4, e5]
    clear HR
    go_enter Try.func10, Try.ntmps10
    go_wp2_with fail
    refine wp_region_below (by kernel_rfl) (by kernel_rfl) ?_
    simp only [List.append_eq, List.cons_append, List.nil_append]
    repeat (go_big_quiet_step ((go_at_call 16; exact calls_bw (HT.out _))))
    refine wpQuiet_nil ?_
    intro wq hw'
    obtain ⟨⟨_, bq⟩, rfl⟩ := hw'
    clear a0 a1 a2 a3 a4 a5 a6 d0 d1 d2 d3 d4 d5 d6 hne
    go_wp2
    go_ret
    exact ⟨by rw [HR2.out]; rfl, bq⟩
end Go.Proofs.Ytkdhmijebkhmaaa
