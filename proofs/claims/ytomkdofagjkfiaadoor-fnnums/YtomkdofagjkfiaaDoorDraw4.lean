/-
  The model's draw of a text: it answers a short text, and turns nothing that was there.
-/
import Derived.Test.YtomkdofagjkfiaaDoorDraw3
import Derived.Test.YtomkdofagjkfiaaDoorDigits
namespace Go.Proofs.YtomkdofagjkfiaaDoor
open Go.RowKit Go.Extern.Stop Go.Stop Go.Extern Num Go.Lib

theorem strs4 (w : World) (s0 s1 s2 s3 : ByteArray) (t : TypeId) (p0 : s0.size ≤ 20) (p1 : s1.size ≤ 20) (p2 : s2.size ≤ 20) (p3 : s3.size ≤ 20) :
    ∀ j, j < 4 → ∃ s : ByteArray, (w.alloc (.cells #[.string s0, .string s1, .string s2, .string s3] t)).cell? ⟨w.heap.size, j, none⟩ = some (.string s) ∧ s.size ≤ 20 := by
  intro j hj
  rcases j with _ | _ | _ | _ | j
  · exact ⟨s0, by simp, p0⟩
  · exact ⟨s1, by simp, p1⟩
  · exact ⟨s2, by simp, p2⟩
  · exact ⟨s3, by simp, p3⟩
  · omega
theorem strs5 (w : World) (s0 s1 s2 s3 s4 : ByteArray) (t : TypeId) (p0 : s0.size ≤ 20) (p1 : s1.size ≤ 20) (p2 : s2.size ≤ 20) (p3 : s3.size ≤ 20) (p4 : s4.size ≤ 20) :
    ∀ j, j < 5 → ∃ s : ByteArray, (w.alloc (.cells #[.string s0, .string s1, .string s2, .string s3, .string s4] t)).cell? ⟨w.heap.size, j, none⟩ = some (.string s) ∧ s.size ≤ 20 := by
  intro j hj
  rcases j with _ | _ | _ | _ | _ | j
  · exact ⟨s0, by simp, p0⟩
  · exact ⟨s1, by simp, p1⟩
  · exact ⟨s2, by simp, p2⟩
  · exact ⟨s3, by simp, p3⟩
  · exact ⟨s4, by simp, p4⟩
  · omega
theorem size_app (a b : ByteArray) (ha : a.size ≤ 11) (hb : b.size ≤ 20) : (a ++ b).size ≤ 40 := by
  rw [ByteArray.size_append]; omega
theorem size_S (l : List UInt8) : (⟨l.toArray⟩ : ByteArray).size = l.length := by show l.toArray.size = _; simp

/-- What a draw of a text comes to. -/
def TextRes (w : World) (e : Ending) (w' : World) : Prop := ∃ s : ByteArray, e = .returned (.string s) ∧ s.size ≤ 40 ∧ Below w.heap.size w w'

set_option maxHeartbeats 2000000 in
set_option maxRecDepth 100000 in
theorem drawText_any (w : World) (ca : Option Addr) (len cap : Nat) (h : Bytes w ca len) (hmax : (len : Int) ≤ 9223372036854775807) :
    Calls Tryd.prog 14 #[.slice ca len cap] w fun e w' => TextRes w e w' := by
  go_enter Tryd.func14, Tryd.ntmps14
  go_wp2_with fail
  refine (source_any _ ca len cap h).mono ?_
  rintro e w1 ⟨rfl, h1, b1⟩
  go_wp2_with fail
  refine (draw_any _ _ ca len cap 0 h1 hmax (by omega) (by omega)).mono ?_
  rintro e w2 ⟨v, k2, rfl, hv, k21, k22, h2, o2⟩
  have bw2 : Below w.heap.size w w2 := b1.trans (o2.below (Nat.le_refl _) b1.size)
  go_wp2_with fail
  refine (l1Digits_any v _ hv).mono ?_
  rintro e w3 ⟨rfl, b3⟩
  have h3 : SrcAt w3 w.heap.size ca len cap k2 := h2.below b3
  have bw3 : Below w.heap.size w w3 := bw2.trans (b3.mono bw2.size)
  have hl := itoa_len v hv
  have HV : Hid (InB v) := hv
  clear hv h h1 h2 b1 o2 b3 bw2
  go_wp2_with fail
  refine (next_any _ _ ca len cap k2 _ h3 hmax (by omega) (by omega)).mono ?_
  rintro e w4 ⟨r, q, rfl, r0, r1, hw4⟩
  rw [if_neg (by omega)] at r1
  have h4 : SrcAt w4 w.heap.size ca len cap (k2 + 1) := by rw [hw4]; exact h3.next q
  have bw4 : Below w.heap.size w w4 := by rw [hw4]; exact bw3.trans ((((Only.refl _ w3).setCell _).drewN q).below (Nat.le_refl _) bw3.size)
  clear hw4 h3 bw3
  by_cases c0 : r = 0
  · subst c0
    have hsa := fun (w : World) => run_string_add_lists (P := Tryd.prog) w [48] (itoa v) (by simp) (by omega)
    go_wp2
    go_ret
    exact ⟨_, rfl, by rw [size_S]; simp; omega, bw4⟩
  · have d0 : (r == 0) = false := by simp [c0]
    by_cases c1 : r = 1
    · subst c1
      go_wp2_with fail
      refine (next_any _ _ ca len cap (k2 + 1) _ (h4.alloc _) hmax (by omega) (by omega)).mono ?_
      rintro e w5 ⟨r5, q5, rfl, r50, r51, hw5⟩
      rw [if_neg (by omega)] at r51
      obtain ⟨s, hs, hsz⟩ := strs4 w4 ⟨#[120]⟩ ⟨#[49]⟩ ⟨#[45]⟩ ⟨#[32]⟩ 9 (by decide) (by decide) (by decide) (by decide) r5.toNat (by omega)
      have hs5 : w5.cell? ⟨w4.heap.size, r5.toNat, none⟩ = some (.string s) := by
        rw [hw5]
        exact (World.cell?_of_block (Below.heap_setCell _ ⟨w.heap.size, 1, none⟩ _ w4.heap.size (Nat.ne_of_gt h4.lt))).trans hs
      have bw5 : Below w.heap.size w w5 := by
        rw [hw5]
        exact (bw4.alloc bw4.size _).trans ((((Only.refl _ _).setCell _).drewN q5).below (Nat.le_refl _) (by simp; exact Nat.le_succ_of_le bw4.size))
      have r52 : r5 < 4 := by omega
      clear hw5 hs h4 bw4
      have hsa := fun (w : World) => run_string_add_sum (P := Tryd.prog) w ⟨(itoa v).toArray⟩ s (by rw [size_S]; omega)
      go_wp2
      go_ret
      exact ⟨_, rfl, size_app _ _ (by rw [size_S]; exact hl) hsz, bw5⟩
    · have d1 : (r == 1) = false := by simp [c1]
      by_cases c2 : r = 2
      · subst c2
        go_wp2_with fail
        refine (next_any _ _ ca len cap (k2 + 1) _ (h4.alloc _) hmax (by omega) (by omega)).mono ?_
        rintro e w5 ⟨r5, q5, rfl, r50, r51, hw5⟩
        rw [if_neg (by omega)] at r51
        obtain ⟨s, hs, hsz⟩ := strs5 w4 ⟨#[]⟩ ⟨#[45]⟩ ⟨#[45, 48]⟩ ⟨#[49, 48, 48, 48, 48, 48, 48, 48, 48, 49]⟩ ⟨#[57, 57, 57, 57, 57, 57, 57, 57, 57, 57, 57]⟩ 9 (by decide) (by decide) (by decide) (by decide) (by decide) r5.toNat (by omega)
        have hs5 : w5.cell? ⟨w4.heap.size, r5.toNat, none⟩ = some (.string s) := by
          rw [hw5]
          exact (World.cell?_of_block (Below.heap_setCell _ ⟨w.heap.size, 1, none⟩ _ w4.heap.size (Nat.ne_of_gt h4.lt))).trans hs
        have bw5 : Below w.heap.size w w5 := by
          rw [hw5]
          exact (bw4.alloc bw4.size _).trans ((((Only.refl _ _).setCell _).drewN q5).below (Nat.le_refl _) (by simp; exact Nat.le_succ_of_le bw4.size))
        have r52 : r5 < 5 := by omega
        clear hw5 hs h4 bw4
        go_wp2
        go_ret
        exact ⟨_, rfl, by omega, bw5⟩
      · have d2 : (r == 2) = false := by simp [c2]
        go_wp2
        go_ret
        exact ⟨_, rfl, by rw [size_S]; omega, bw4⟩
end Go.Proofs.YtomkdofagjkfiaaDoor
