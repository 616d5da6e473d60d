/-
  The program's holds and cons: whether a word is made of pairs that are there; a pair put behind the others.
-/
import Derived.Test.YtgfienijabkpjaaDoorHeapKit
import Derived.Test.YtgfienijabkpjaaDoorRegion
import Derived.Deep.RegionLaw
import Derived.Deep.DrawnRows
namespace Go.Proofs.YtgfienijabkpjaaDoor
open Go.RowKit Go.Extern.Stop Go.Stop Go.Extern Num Go.Lib

attribute [local go_sem ↓] Go.wp_at_zero Go.wp_at_succ
/-- Whether a word, if it is a pair, is of a place ahead. -/
def inW (n : Nat) (x : Wd) : Bool := (x.tag != 5) || decide (x.rest < (n : Int))
theorem holds_any (B h : Nat) (cs : List (Wd × Wd)) (x : Wd) (w : World) (H : Heap w B h cs) (hn : cs.length ≤ 4000) :
    Calls Tryd.prog 55 #[.pointer (some ⟨h, 0, none⟩), x.val] w fun e w' => e = .returned (.bool (inW cs.length x)) ∧ Below w.heap.size w w' := by
  obtain ⟨v, bs, K⟩ := H
  obtain ⟨a, c, rfl⟩ := own_form K.fd.2.1
  have c0 := K.fd.1
  have hl := K.len
  rw [hl] at c0
  have hlt := K.fd.lt
  clear K hl
  have HR : Hid (inW cs.length x = ((x.tag != 5) || decide (x.rest < (cs.length : Int)))) := rfl
  rw [HR.out]
  clear HR
  cases e5 : (x.tag != 5)
  all_goals
    have a0 : ∀ p : BW (w.alloc (.cells #[.int .u8 x.tag, .int .u64 x.rest] 74)), p.x.cell? ⟨w.heap.size, 0, none⟩ = some (.int .u8 x.tag) := fun p => p.cell (by rw [World.cell?_alloc_at _ _ _ _ rfl]; rfl)
    have a1 : ∀ p : BW (w.alloc (.cells #[.int .u8 x.tag, .int .u64 x.rest] 74)), p.x.cell? ⟨w.heap.size, 1, none⟩ = some (.int .u64 x.rest) := fun p => p.cell (by rw [World.cell?_alloc_at _ _ _ _ rfl]; rfl)
    have a2 : ∀ p : BW (w.alloc (.cells #[.int .u8 x.tag, .int .u64 x.rest] 74)), p.x.cell? ⟨h, 0, none⟩ = some (.slice a cs.length c) := fun p => p.cell (by rw [World.cell?_alloc_past _ _ _ hlt]; exact c0)
    have hne := bw_some (w.alloc (.cells #[.int .u8 x.tag, .int .u64 x.rest] 74))
    clear c0
    go_enter Tryd.func55, Tryd.ntmps55
    go_wp2_with fail
    refine wp_region_below (by kernel_rfl) (by kernel_rfl) ?_
    repeat (go_big_quiet_step (fail))
    refine wpQuiet_nil ?_
    intro wq hw'
    obtain ⟨⟨_, bq⟩, rfl⟩ := hw'
    clear a0 a1 a2 hne
    go_wp2
    go_ret
    exact ⟨by simp, ((Below.refl _ _).alloc (Nat.le_refl _) _).trans (bq.mono (by simp))⟩
set_option maxRecDepth 100000 in
set_option maxHeartbeats 2000000 in
theorem cons_any (B h : Nat) (cs : List (Wd × Wd)) (x y : Wd) (w : World) (hB : B ≤ w.heap.size) (H : Heap w B h cs) (hn : cs.length ≤ 4000) :
    Calls Tryd.prog 56 #[.pointer (some ⟨h, 0, none⟩), x.val, y.val] w fun e w' => e = .returned (.agg #[.int .u8 5, .int .u64 (cs.length : Int)]) ∧ Heap w' B h (cs ++ [(x, y)]) ∧ Below B w w' := by
  obtain ⟨v, bs, K⟩ := H
  obtain ⟨a, c, rfl⟩ := own_form K.fd.2.1
  have c0 := K.fd.1
  have fz := K.fz
  have hlt := K.fd.lt
  have hlt1 : h < w.heap.size + 1 := by omega
  have hlt2 : h < w.heap.size + 1 + 1 := by omega
  have hlt3 : h < w.heap.size + 1 + 1 + 1 := by omega
  have hlt4 : h < w.heap.size + 1 + 1 + 1 + 1 := by omega
  have HK : Hid _ := K
  have HL : Hid (bs.length = cs.length) := K.len
  have hbl : bs.length ≤ 4000 := by rw [K.len]; exact hn
  have ag : (Value.slice a bs.length c).ownBlock ≠ some h := fun e => K.fd.2.2 h e rfl
  have HO : Hid (w.ownsRow B 105 1 (.slice a bs.length c) bs.length (ptrs bs)) := K.fd.2.1
  obtain ⟨i0, hi, hz0, hz1, hz2⟩ := info_parts infoQ
  have HE : Hid (((bs.length : Nat) : Int) = (cs.length : Int)) := by show _ = _; rw [K.len]
  rw [← HE.out]
  clear K hn HE
  go_enter Tryd.func56, Tryd.ntmps56
  go_wp2_with fail
  go_region_law
    ((refine step_append_lies _ (by rfl) _ _ _ (by rfl) B 105 i0 _ 1 8 Tryd.underlying98 hi hz0 hz1 hz2 rfl (by decide) (.slice a bs.length c) bs.length (ptrs bs) (by rfl) (by repeat (first | exact HO.out | refine World.ownsRow.alloc ?_ _ | refine World.ownsRow.drew ?_))
        ⟨w.heap.size + 1 + 1 + 1 + 1, 0, none⟩ 1 1 [.pointer (some ⟨w.heap.size + 1 + 1 + 1, 0, none⟩)] (by rfl) (by rfl) (World.news_of_block (cs := #[.pointer (some ⟨w.heap.size + 1 + 1 + 1, 0, none⟩)]) (t := 105) (fr := (0, 0)) (heap_new' _ _ _ (by simp))) (by simp [Value.oneCell'])
        (by decide) (by unfold maxLen; omega) (by omega) (by simp; omega) (w.heap.size + 5) (by simp) ?_; intro g' cap' w1 hown1 hgrow hat hlt'; obtain ⟨k1, k2⟩ := afterGrow (w := w) (by repeat (first | exact Below.refl _ _ | refine Below.drew ?_ | refine Below.alloc ?_ (by simp <;> omega) _)) c0 (fz 0) hgrow ag))
  all_goals
    have R : Hid _ := HK.out.cons (r := w.heap.size + 1 + 1) (x := (x, y)) hB (by repeat (first | exact Below.refl _ _ | refine Below.drew ?_ | refine Below.alloc ?_ (by simp <;> omega) _))
      ⟨by rw [World.cell?_drew, World.cell?_alloc_past _ _ _ (by simp), World.cell?_alloc_at _ _ _ _ (by simp)]; rfl, by rw [World.cell?_drew, World.cell?_alloc_past _ _ _ (by simp), World.cell?_alloc_at _ _ _ _ (by simp)]; rfl, by rw [World.cell?_drew, World.cell?_alloc_past _ _ _ (by simp), World.cell?_alloc_at _ _ _ _ (by simp)]; rfl, by rw [World.cell?_drew, World.cell?_alloc_past _ _ _ (by simp), World.cell?_alloc_at _ _ _ _ (by simp)]; rfl⟩
      (by omega) hgrow hown1 (by rcases hat with h1 | h1; exact Or.inl h1; exact Or.inr (by rw [h1]; simp)) (by omega) (by omega)
      (by rw [World.cell?_drew, World.cell?_alloc_past _ _ _ (by simp <;> omega), World.cell?_alloc_past _ _ _ (by simp), World.cell?_alloc_at _ _ _ _ (by simp)]; rfl) (by rw [World.cell?_drew, World.cell?_alloc_past _ _ _ (by simp <;> omega), World.cell?_alloc_past _ _ _ (by simp), World.cell?_alloc_at _ _ _ _ (by simp)]; rfl) (fun o => by rw [show ∀ (u : World) (a : Addr), u.drew.frozen? a = u.frozen? a from fun _ _ => rfl, World.frozen?_alloc_past _ _ _ (by simp <;> omega), World.frozen?_alloc_past _ _ _ (by simp), World.frozen?_alloc_at _ _ _ _ (by simp)])
    clear hgrow hown1 hat k1 k2
    obtain ⟨d0, d1, d2, d3⟩ := R.out.1
    go_wp2
    exact bodyPost_ret (v := .agg #[.int .u8 5, .int .u64 (bs.length : Int)]) (by simp [results, Tryd.results56, go_sem, d1, d2]) rfl ⟨rfl, (R.out.2 _ _).1, (R.out.2 _ _).2⟩
end Go.Proofs.YtgfienijabkpjaaDoor
