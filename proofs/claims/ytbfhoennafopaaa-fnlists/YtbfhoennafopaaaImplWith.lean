/-
  The program's heapWith: pairs and a value among them as a heap and a word; nothing that was there is turned.
-/
import Derived.Test.YtbfhoennafopaaaImplIn
import Derived.Shelf.RegionOpenPlain
namespace Go.Proofs.Ytbfhoennafopaaa
open Go.RowKit Go.Extern.Stop Go.Stop Go.Extern Num Go.Lib

theorem Heap.base {w : World} {B B' h : Nat} {cs : List (Wd × Wd)} (H : Heap w B h cs) (hB : B' ≤ B) : Heap w B' h cs := by
  obtain ⟨v, bs, K⟩ := H
  exact ⟨v, bs, ⟨by have := K.hB; omega, K.fz, ⟨K.fd.1, own_base K.fd.2.1 hB, K.fd.2.2⟩, K.len, K.each, fun b hb => ⟨(K.ap b hb).1, (K.ap b hb).2.1, by have := (K.ap b hb).2.2; omega⟩⟩⟩
/-- A store ahead of the heap. -/
theorem Heap.low {w : World} {B h r o : Nat} {cs : List (Wd × Wd)} {u : Value} (H : Heap w B h cs) (hr : r < B) : Heap (w.setCell ⟨r, o, none⟩ u) B h cs := by
  obtain ⟨v, bs, K⟩ := H
  exact ⟨v, bs, K.other (by have := K.hB; omega) (fun e => by have := (K.fd.2.1.lt r e).1; omega) (fun b hb => by have := (K.ap b hb).2.2; omega)⟩
theorem Heap.lay {w : World} {B h : Nat} {cs : List (Wd × Wd)} (H : Heap w B h cs) (o : Obj) : Heap (w.alloc o) B h cs := H.keep ((Below.refl _ _).alloc (Nat.le_refl _) _)
theorem Heap.drew {w : World} {B h : Nat} {cs : List (Wd × Wd)} (H : Heap w B h cs) : Heap w.drew B h cs := H.keep (Below.drew (Below.refl _ _))
theorem fault_len {l : List Pai} (h : heapFault l = 0) : l.length ≤ 4000 := by
  by_cases h1 : 4000 < l.length
  · rw [heapFault, if_pos h1] at h; cases h
  · omega
set_option maxHeartbeats 1000000 in
theorem heapWith_any (ao : Option Addr) (cap g : Nat) (l : List Pai) (t : Vlu) (w : World) (hl : l.length ≤ 1048576) (hao : 0 < l.length → ao = some ⟨g, 0, none⟩) (hr : RowP w g l) (hz : ableL l) (ht : t.name.size ≤ 9223372036854775807) :
    Calls Try.prog 29 #[.slice ao l.length cap, t.val] w fun e w' => (∃ p, ∃ x : Wd, e = .returned (.tuple #[.pointer p, x.val, .int .i64 (askV l t)]) ∧ (askV l t = 0 → x = wdOf t ∧ ∃ h, p = some ⟨h, 0, none⟩ ∧ Heap w' w.heap.size h (wordsP l))) ∧ Below w.heap.size w w' := by
  obtain ⟨R, hR⟩ : ∃ R, R = askV l t := ⟨_, rfl⟩
  obtain ⟨c, hc⟩ : ∃ c, c = heapFault l := ⟨_, rfl⟩
  have HP : Hid (∀ u, Below w.heap.size w u → Calls Try.prog 38 #[.slice ao l.length cap] u fun e w' => (∃ p, e = .returned (.tuple #[.pointer p, .int .i64 c]) ∧ (c = 0 → ∃ h, p = some ⟨h, 0, none⟩ ∧ Heap w' u.heap.size h (wordsP l))) ∧ Below u.heap.size u w') := fun u hu => by
    refine (heapOf_any ao cap g l u hl hao (hr.below hu) hz).mono ?_
    rw [← hc]
    rintro e w' ⟨⟨p, rfl, hp⟩, hb⟩
    exact ⟨⟨p, rfl, hp⟩, hb⟩
  rw [← hR]
  by_cases h0 : c = 0
  case neg =>
    have HR : Hid (R = c ∧ c ≠ 0) := ⟨by rw [hR, askV, if_pos (by rw [← hc]; exact h0), hc], h0⟩
    have h0' : (c != 0) = true := by simpa using h0
    clear hc hR h0 hz ht hao hr
    go_enter Try.func29, Try.ntmps29
    go_wp2_with fail
    refine (HP.out _ ?_).mono ?_
    · repeat (first | exact Below.refl _ _ | refine Below.alloc ?_ (by simp <;> omega) _)
    rintro e w1 ⟨⟨p, rfl, _⟩, hb1⟩
    have q0 : w1.cell? ⟨w.heap.size + 1, 0, none⟩ = some (.int .u8 0) := by rw [(bcell hb1).1 _ _ (by simp), World.cell?_alloc_at _ _ _ _ (by simp)]; rfl
    have q1 : w1.cell? ⟨w.heap.size + 1, 1, none⟩ = some (.int .u64 0) := by rw [(bcell hb1).1 _ _ (by simp), World.cell?_alloc_at _ _ _ _ (by simp)]; rfl
    have qf : ∀ o, w1.frozen? ⟨w.heap.size + 1, o, none⟩ = false := fun o => by rw [(bcell hb1).2 _ _ (by simp), World.frozen?_alloc_at _ _ _ _ (by simp)]
    have z1 : w.heap.size + 1 < w1.heap.size := by have := hb1.size; simp at this; omega
    have B1 : Hid (Below w.heap.size w w1) := Below.trans (by repeat (first | exact Below.refl _ _ | refine Below.alloc ?_ (by simp <;> omega) _)) (hb1.mono (by simp <;> omega))
    clear hb1
    go_wp2
    exact bodyPost_ret (v := .tuple #[.pointer none, .agg #[.int .u8 0, .int .u64 0], .int .i64 c]) (by simp [results, Try.results29, go_sem, q0, q1]) rfl ⟨⟨none, ⟨0, 0⟩, by rw [HR.out.1], fun e => absurd (HR.out.1 ▸ e) HR.out.2⟩, by repeat (first | refine Below.setCell ?_ (by simp <;> omega) _ | exact B1.out)⟩
  subst h0
  have HL : Hid (l.length ≤ 4000) := fault_len hc.symm
  obtain ⟨d, hd⟩ : ∃ d, d = inC l.length t := ⟨_, rfl⟩
  have HR : Hid (R = d) := by show R = d; rw [hR, askV, if_neg (by rw [← hc]; simp), hd]
  have HW : Hid (∀ u h, Heap u (w.heap.size + 1 + 1) h (wordsP l) → Calls Try.prog 30 #[.pointer (some ⟨h, 0, none⟩), t.val] u fun e w' => (∃ x : Wd, e = .returned (.tuple #[x.val, .int .i64 d]) ∧ (d = 0 → x = wdOf t)) ∧ Below u.heap.size u w') := fun u h H => by
    have := wordIn_any (w.heap.size + 1 + 1) h (wordsP l) t u H (by rw [wordsP_len]; exact HL.out) ht
    rw [wordsP_len, ← hd] at this
    exact this
  clear hc hR hz ht hao hr hd
  go_enter Try.func29, Try.ntmps29
  go_wp2_with fail
  refine (HP.out _ ?_).mono ?_
  · repeat (first | exact Below.refl _ _ | refine Below.alloc ?_ (by simp <;> omega) _)
  rintro e w1 ⟨⟨p, rfl, hp⟩, hb1⟩
  obtain ⟨h, rfl, hH⟩ := hp (by simp)
  have HH1 : Hid (Heap w1 (w.heap.size + 1 + 1) h (wordsP l)) := by show Heap _ _ _ _; simpa using hH
  have q0 : w1.cell? ⟨w.heap.size + 1, 0, none⟩ = some (.int .u8 0) := by rw [(bcell hb1).1 _ _ (by simp), World.cell?_alloc_at _ _ _ _ (by simp)]; rfl
  have q1 : w1.cell? ⟨w.heap.size + 1, 1, none⟩ = some (.int .u64 0) := by rw [(bcell hb1).1 _ _ (by simp), World.cell?_alloc_at _ _ _ _ (by simp)]; rfl
  have qf : ∀ o, w1.frozen? ⟨w.heap.size + 1, o, none⟩ = false := fun o => by rw [(bcell hb1).2 _ _ (by simp), World.frozen?_alloc_at _ _ _ _ (by simp)]
  have t0 : w1.cell? ⟨w.heap.size, 0, none⟩ = some (.int .i64 t.kind) := by rw [(bcell hb1).1 _ _ (by simp; omega), World.cell?_alloc_past _ _ _ (by simp), World.cell?_alloc_at _ _ _ _ rfl]; rfl
  have t1 : w1.cell? ⟨w.heap.size, 1, none⟩ = some (.int .i64 t.num) := by rw [(bcell hb1).1 _ _ (by simp; omega), World.cell?_alloc_past _ _ _ (by simp), World.cell?_alloc_at _ _ _ _ rfl]; rfl
  have t2 : w1.cell? ⟨w.heap.size, 2, none⟩ = some (.string t.name) := by rw [(bcell hb1).1 _ _ (by simp; omega), World.cell?_alloc_past _ _ _ (by simp), World.cell?_alloc_at _ _ _ _ rfl]; rfl
  have z1 : w.heap.size + 1 < w1.heap.size := by have := hb1.size; simp at this; omega
  have B1 : Hid (Below w.heap.size w w1) := Below.trans (by repeat (first | exact Below.refl _ _ | refine Below.alloc ?_ (by simp <;> omega) _)) (hb1.mono (by simp <;> omega))
  clear hb1 hp hH
  go_wp2_with fail
  refine (HW.out _ _ HH1.out).mono ?_
  rintro e w2 ⟨⟨x, rfl, hx⟩, hb2⟩
  have HH2 : Hid (Heap w2 (w.heap.size + 1 + 1) h (wordsP l)) := HH1.out.keep hb2
  have HX : Hid (d = 0 → x = wdOf t) := hx
  have r0 : w2.cell? ⟨w.heap.size + 1, 0, none⟩ = some (.int .u8 0) := cell_keep hb2 q0
  have r1 : w2.cell? ⟨w.heap.size + 1, 1, none⟩ = some (.int .u64 0) := cell_keep hb2 q1
  have rf : ∀ o, w2.frozen? ⟨w.heap.size + 1, o, none⟩ = false := fun o => by rw [(bcell hb2).2 _ _ z1]; exact qf o
  have z2 : w.heap.size + 1 < w2.heap.size := by have := hb2.size; omega
  have B2 : Hid (Below w.heap.size w w2) := B1.out.trans (hb2.mono B1.out.size)
  clear hb2 q0 q1 qf t0 t1 t2 hx
  have mixed : Try.prog.follows .mixedOrders = true := by kernel_rfl
  go_wp2_with fail
  go_region_o
  all_goals
    go_wp2
    exact bodyPost_ret (v := .tuple #[.pointer (some ⟨h, 0, none⟩), .agg #[.int .u8 x.tag, .int .u64 x.rest], .int .i64 d]) (by simp [results, Try.results29, go_sem, r0, r1, z2]) rfl ⟨⟨some ⟨h, 0, none⟩, x, by rw [HR.out], fun e => ⟨HX.out (HR.out ▸ e), h, rfl, Heap.base (B := w.heap.size + 1 + 1) (by repeat (first | refine Heap.drew ?_ | refine Heap.lay ?_ _ | refine Heap.low ?_ (by omega) | exact HH2.out)) (by omega)⟩⟩, by repeat (first | refine Below.drew ?_ | refine Below.setCell ?_ (by simp <;> omega) _ | refine Below.alloc ?_ (by simp <;> omega) _ | exact B2.out)⟩
end Go.Proofs.Ytbfhoennafopaaa
