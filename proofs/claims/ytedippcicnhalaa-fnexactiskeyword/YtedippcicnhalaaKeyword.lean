/-
  The program's IsKeyword and its model: whether a text is one of the seven keywords; nothing that was there is turned. The exact law of IsKeyword answers true at every text.
-/
import Derived.Test.YtedippcicnhalaaRows
import Derived.WalkKit
import Derived.ProofKit
import Derived.Below
import Derived.RangeFuncRecord
import Derived.Test.YtedippcicnhalaaRegion
namespace Go.Proofs.Ytedippcicnhalaa
open Go.RowKit

/-- The keywords. -/
def kwS : List ByteArray := [⟨#[113, 117, 111, 116, 101]⟩, ⟨#[105, 102]⟩, ⟨#[108, 97, 109, 98, 100, 97]⟩, ⟨#[108, 101, 116]⟩, ⟨#[98, 101, 103, 105, 110]⟩, ⟨#[100, 101, 102, 105, 110, 101]⟩, ⟨#[115, 101, 116, 33]⟩]
def kwB (s : ByteArray) : Bool := kwS.any fun k => k.toList == s.toList
theorem kwB_eq (s : ByteArray) : kwB s = (s.toList == [113, 117, 111, 116, 101] || (s.toList == [105, 102] || (s.toList == [108, 97, 109, 98, 100, 97] || (s.toList == [108, 101, 116] || (s.toList == [98, 101, 103, 105, 110] || (s.toList == [100, 101, 102, 105, 110, 101] || s.toList == [115, 101, 116, 33])))))) := by
  have e : ∀ a b : List UInt8, (a == b) = (b == a) := fun a b => by
    by_cases h : a = b
    · subst h; rfl
    · rw [beq_false_of_ne h, beq_false_of_ne (fun h' => h h'.symm)]
  simp only [kwB, kwS, List.any_cons, List.any_nil, Bool.or_false]
  rw [e _ s.toList, e _ s.toList, e _ s.toList, e _ s.toList, e _ s.toList, e _ s.toList, e _ s.toList]
  simp only [ByteArray.toList_eq]
theorem implKw_any (s : ByteArray) (w : World) :
    Calls Try.prog 11 #[.string s] w fun e w' => e = .returned (.bool (kwB s)) ∧ w' = w := by
  obtain ⟨R, hR⟩ : ∃ R : Bool, R = kwB s := ⟨_, rfl⟩
  rw [← hR]
  rw [kwB_eq] at hR
  have HR : Hid (R = (s.toList == [113, 117, 111, 116, 101] || (s.toList == [105, 102] || (s.toList == [108, 97, 109, 98, 100, 97] || (s.toList == [108, 101, 116] || (s.toList == [98, 101, 103, 105, 110] || (s.toList == [100, 101, 102, 105, 110, 101] || s.toList == [115, 101, 116, 33]))))))) := hR
  clear hR
  go_enter Try.func11, Try.ntmps11
  go_wp2
  all_goals first
    | (exfalso; simp_all; done)
    | (go_ret; exact ⟨by rw [show R = _ from HR.out]; simp [*], rfl⟩)
theorem kw_cell (w : World) (k : Nat) (h : k < kwS.length) : (w.alloc (.cells #[.string ⟨#[113, 117, 111, 116, 101]⟩, .string ⟨#[105, 102]⟩, .string ⟨#[108, 97, 109, 98, 100, 97]⟩, .string ⟨#[108, 101, 116]⟩, .string ⟨#[98, 101, 103, 105, 110]⟩, .string ⟨#[100, 101, 102, 105, 110, 101]⟩, .string ⟨#[115, 101, 116, 33]⟩] 9)).cell? ⟨w.heap.size, k, none⟩ = some (.string kwS[k]) := by
  have hk : k < 7 := h
  have : k = 0 ∨ k = 1 ∨ k = 2 ∨ k = 3 ∨ k = 4 ∨ k = 5 ∨ k = 6 := by omega
  rcases this with rfl | rfl | rfl | rfl | rfl | rfl | rfl <;> (simp only [World.cell?, World.alloc_heap_new]; rfl)
set_option maxHeartbeats 1000000 in
theorem specKw_any (s : ByteArray) (w : World) :
    Calls Try.prog 10 #[.string s] w fun e w' => e = .returned (.bool (kwB s)) ∧ Below w.heap.size w w' := by
  obtain ⟨R, hR⟩ : ∃ R : Bool, R = kwB s := ⟨_, rfl⟩
  rw [← hR]
  have HR : Hid (R = kwB s) := hR
  clear hR
  have HC : Hid (∀ (k : Nat) (h : k < kwS.length), (w.alloc (.cells #[.string ⟨#[113, 117, 111, 116, 101]⟩, .string ⟨#[105, 102]⟩, .string ⟨#[108, 97, 109, 98, 100, 97]⟩, .string ⟨#[108, 101, 116]⟩, .string ⟨#[98, 101, 103, 105, 110]⟩, .string ⟨#[100, 101, 102, 105, 110, 101]⟩, .string ⟨#[115, 101, 116, 33]⟩] 9)).cell? ⟨w.heap.size, k, none⟩ = some (.string kwS[k])) := fun k h => kw_cell w k h
  go_enter Try.func10, Try.ntmps10
  go_wp2_with fail
  go_loopw [4] (fun i wr => ∃ k : Nat, k ≤ 7 ∧ i = .int .i64 (k : Int) ∧ Hid (∀ j (h : j < kwS.length), j < k → (kwS[j].toList == s.toList) = false) ∧ Hid (wr = (w.alloc (.cells #[.string ⟨#[113, 117, 111, 116, 101]⟩, .string ⟨#[105, 102]⟩, .string ⟨#[108, 97, 109, 98, 100, 97]⟩, .string ⟨#[108, 101, 116]⟩, .string ⟨#[98, 101, 103, 105, 110]⟩, .string ⟨#[100, 101, 102, 105, 110, 101]⟩, .string ⟨#[115, 101, 116, 33]⟩] 9)))) (fun i _ => 7 - (RowKit.intOf i).toNat)
  case atStart => exact ⟨0, Nat.zero_le _, rfl, fun j _ h => by omega, rfl⟩
  case round =>
    obtain ⟨k, hk, rfl, HS, HW⟩ := hrel
    by_cases hlt : k < 7
    · have hc := HC.out k hlt
      rw [← show wr = _ from HW.out] at hc
      have HN : Hid (∀ b, (kwS[k].toList == s.toList) = b → (b = true → R = true) ∧ (b = false → ∀ j (h : j < kwS.length), j < k + 1 → (kwS[j].toList == s.toList) = false)) := fun b hb => ⟨fun h => by
          rw [show R = kwB s from HR.out]
          unfold kwB
          rw [List.any_eq_true]
          exact ⟨kwS[k], List.getElem_mem hlt, by rw [hb, h]⟩, fun h j hj hjk => by
          by_cases e : j = k
          · subst e; exact hb.trans h
          · exact HS.out j hj (by omega)⟩
      generalize kwS[k] = t at hc HN
      cases e : (t.toList == s.toList) with
      | true =>
        have hT := (HN.out _ e).1 rfl
        subst hT
        go_wp2
        go_ret
        exact ⟨rfl, by rw [show wr = _ from HW.out]; exact (Below.refl _ w).alloc (Nat.le_refl _) _⟩
      | false =>
        have HF : Hid _ := (HN.out _ e).2 rfl
        go_wp2
        exact ⟨⟨k + 1, by omega, by go_num, HF, HW⟩, by simp [RowKit.intOf]; omega⟩
    · have hR : R = false := by
        rw [show R = kwB s from HR.out]
        unfold kwB
        rw [List.any_eq_false]
        intro x hx
        obtain ⟨j, hj, rfl⟩ := List.getElem_of_mem hx
        have h7 : j < 7 := hj
        rw [HS.out j hj (by omega)]
        simp
      subst hR
      go_wp2
      go_ret
      exact ⟨rfl, by rw [show wr = _ from HW.out]; exact (Below.refl _ w).alloc (Nat.le_refl _) _⟩
theorem lawKw_any (s : ByteArray) (w : World) (hs : s.size ≤ 9223372036854775807) :
    Calls Try.prog 4 #[.string s] w fun e w' => e = .returned (.bool true) ∧ Below w.heap.size w w' := by
  by_cases h : s.size ≤ 1048576
  · go_enter Try.func4, Try.ntmps4
    go_wp2_with (first | (go_at_call 10; refine (specKw_any s _).mono ?_; rintro e w1 ⟨rfl, b1⟩) | (go_at_call 11; refine (implKw_any s _).mono ?_; rintro e w2 ⟨rfl, rfl⟩))
    go_ret
    exact ⟨rfl, b1⟩
  · have h' : 1048576 < s.size := by omega
    go_enter Try.func4, Try.ntmps4
    go_wp2
    go_ret
    exact ⟨rfl, Below.refl _ _⟩
end Go.Proofs.Ytedippcicnhalaa
