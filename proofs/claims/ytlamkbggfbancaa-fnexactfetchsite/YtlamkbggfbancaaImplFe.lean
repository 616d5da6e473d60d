/-
  The program's fetch; nothing that was there is turned.
-/
import Derived.Test.YtlamkbggfbancaaImplGt
namespace Go.Proofs.Ytlamkbggfbancaa
open Go.RowKit Go.Extern.Stop Go.Stop Go.Extern Num Go.Lib

set_option maxRecDepth 100000 in
set_option maxHeartbeats 2000000 in
theorem fetch_any (h : Nat) (x : Wd) (m : Mry) (r : Rw) (ok : Bool) (w : World)
    (hfd : ∀ u, Below w.heap.size w u → Calls Try.prog 51 #[.pointer (some ⟨h, 0, none⟩), x.val] u fun e w' => e = .returned (.tuple #[r.val, .bool ok]) ∧ Below u.heap.size u w') :
    Calls Try.prog 58 #[.pointer (some ⟨h, 0, none⟩), x.val, m.val] w fun e w' => e = .returned (if ok = true then (if m.ver = r.ver then .tuple #[m.val, .bool true, .int .i64 0] else .tuple #[Mry.val ⟨r.ver, r.value⟩, .bool false, .int .i64 0]) else .tuple #[Mry.val ⟨0, ⟨0, 0⟩⟩, .bool false, .int .i64 4]) ∧ Below w.heap.size w w' := by
  have HFd : Hid (∀ u, Below w.heap.size w u → Calls Try.prog 51 #[.pointer (some ⟨h, 0, none⟩), x.val] u fun e w' => e = .returned (.tuple #[r.val, .bool ok]) ∧ Below u.heap.size u w') := hfd
  clear hfd
  obtain ⟨W, hW⟩ : ∃ W, W = ((w.alloc (.cells #[.int .u8 x.tag, .int .u64 x.rest] 77)).alloc (.cells #[.int .i64 m.ver, .int .u8 m.value.tag, .int .u64 m.value.rest] 100)).alloc (.cells #[.int .i64 0, .int .u8 0, .int .u64 0] 100) := ⟨_, rfl⟩
  have HW : Hid (W = ((w.alloc (.cells #[.int .u8 x.tag, .int .u64 x.rest] 77)).alloc (.cells #[.int .i64 m.ver, .int .u8 m.value.tag, .int .u64 m.value.rest] 100)).alloc (.cells #[.int .i64 0, .int .u8 0, .int .u64 0] 100)) := hW
  have HBW : Hid (Below w.heap.size w W) := by rw [hW]; exact (((Below.refl _ _).alloc (Nat.le_refl _) _).alloc (by simp) _).alloc (by simp <;> omega) _
  have zW : W.heap.size = w.heap.size + 3 := by rw [hW]; simp
  have HM : Hid (∀ (o : Nat) (v : Value), [Value.int .i64 m.ver, .int .u8 m.value.tag, .int .u64 m.value.rest][o]? = some v → W.cell? ⟨w.heap.size + 1, o, none⟩ = some v) := fun o v h => by
    rw [hW, World.cell?_alloc_past _ _ _ (by simp), World.cell?_alloc_at _ _ _ _ (by simp)]; simpa using h
  have HZ : Hid (∀ (o : Nat) (v : Value), [Value.int .i64 0, .int .u8 0, .int .u64 0][o]? = some v → W.cell? ⟨w.heap.size + 1 + 1, o, none⟩ = some v) := fun o v h => by
    rw [hW, World.cell?_alloc_at _ _ _ _ (by simp)]; simpa using h
  have HZf : Hid (∀ o, W.frozen? ⟨w.heap.size + 1 + 1, o, none⟩ = false) := fun o => by rw [hW, World.frozen?_alloc_at _ _ _ _ (by simp)]
  clear hW
  go_enter Try.func58, Try.ntmps58
  go_wp2_with fail
  rw [← HW.out]
  refine (HFd.out _ HBW.out).mono ?_
  rintro e w1 ⟨rfl, b1⟩
  have m0 := cell_keep b1 (HM.out 0 _ rfl)
  have m1 := cell_keep b1 (HM.out 1 _ rfl)
  have m2 := cell_keep b1 (HM.out 2 _ rfl)
  have q0 := cell_keep b1 (HZ.out 0 _ rfl)
  have q1 := cell_keep b1 (HZ.out 1 _ rfl)
  have q2 := cell_keep b1 (HZ.out 2 _ rfl)
  have qf : ∀ o, w1.frozen? ⟨w.heap.size + 1 + 1, o, none⟩ = false := fun o => by rw [(bcell b1).2 _ _ (by omega)]; exact HZf.out o
  have z1 : w.heap.size + 1 + 1 < w1.heap.size := by have := b1.size; omega
  have z1a : w.heap.size + 1 < w1.heap.size := by omega
  have B1 : Hid (Below w.heap.size w w1) := HBW.out.trans (b1.mono HBW.out.size)
  clear b1
  cases ok
  case false =>
    go_wp2
    exact bodyPost_ret (v := .tuple #[Mry.val ⟨0, ⟨0, 0⟩⟩, .bool false, .int .i64 4]) (by simp [results, Try.results58, go_sem, q0, q1, q2, z1]) rfl ⟨by simp, by repeat (first | refine Below.setCell ?_ (by simp <;> omega) _ | refine Below.alloc ?_ (by have := B1.out.size; simp <;> omega) _ | exact B1.out)⟩
  by_cases he : m.ver = r.ver
  · have he' : (m.ver == r.ver) = true := by simpa using he
    have HT : Hid ((if (true : Bool) = true then (if m.ver = r.ver then Value.tuple #[m.val, .bool true, .int .i64 0] else .tuple #[Mry.val ⟨r.ver, r.value⟩, .bool false, .int .i64 0]) else .tuple #[Mry.val ⟨0, ⟨0, 0⟩⟩, .bool false, .int .i64 4]) = .tuple #[m.val, .bool true, .int .i64 0]) := by show _ = _; rw [if_pos rfl, if_pos he]
    obtain ⟨rn, rv, rver⟩ := r
    obtain ⟨mv, mw⟩ := m
    simp only at he
    subst he
    clear he'
    go_wp2
    exact bodyPost_ret (v := .tuple #[Mry.val ⟨mv, mw⟩, .bool true, .int .i64 0]) (by simp [results, Try.results58, go_sem, q0, q1, q2, z1]) rfl ⟨by first | rfl | rw [HT.out], by repeat (first | refine Below.setCell ?_ (by simp <;> omega) _ | refine Below.alloc ?_ (by have := B1.out.size; simp <;> omega) _ | exact B1.out)⟩
  · have he' : (m.ver == r.ver) = false := by simpa using he
    have HT : Hid (¬ m.ver = r.ver) := he
    clear he
    go_wp2
    exact bodyPost_ret (v := .tuple #[Mry.val ⟨r.ver, r.value⟩, .bool false, .int .i64 0]) (by simp [results, Try.results58, go_sem, q0, q1, q2, z1]) rfl ⟨by simp, by repeat (first | refine Below.setCell ?_ (by simp <;> omega) _ | refine Below.alloc ?_ (by have := B1.out.size; simp <;> omega) _ | exact B1.out)⟩
end Go.Proofs.Ytlamkbggfbancaa
