/-
  The model's draw of a value, l5Draw: it answers a value, counts on, and turns nothing that was there but the count.
-/
import Derived.Test.YtbfhoennafopaaaDraw5a
import Derived.Test.YtbfhoennafopaaaVluBase
namespace Go.Proofs.Ytbfhoennafopaaa
open Go.RowKit Go.Extern.Stop Go.Stop Go.Extern Num Go.Lib

/-- What a draw of a value comes to. -/
def VluRes (w : World) (b : Nat) (ca : Option Addr) (len cap : Nat) (k : Int) (K : Nat) (e : Ending) (w' : World) : Prop :=
  ∃ (t : Vlu) (k' : Int), e = .returned t.val ∧ t.name.size ≤ 20 ∧ k ≤ k' ∧ k' ≤ k + K ∧ SrcAt w' b ca len cap k' ∧ Only b w w'
set_option maxRecDepth 100000 in
set_option maxHeartbeats 2000000 in
theorem drawV_any (w : World) (b : Nat) (ca : Option Addr) (len cap : Nat) (k n : Int) (h : SrcAt w b ca len cap k) (hmax : (len : Int) ≤ 9223372036854775807) (k0 : 0 ≤ k) (k1 : k ≤ 999999999900) :
    Calls Try.prog 50 #[.pointer (some ⟨b, 0, none⟩), .int .i64 n] w fun e w' => VluRes w b ca len cap k 5 e w' := by
  have hcode := h.code
  have hlt := h.lt
  go_enter Try.func50, Try.ntmps50
  go_wp2_with fail
  refine (next_any _ b ca len cap k _ (h.alloc _) hmax k0 (by omega)).mono ?_
  rintro e w1 ⟨r, q, rfl, r0, r1, hw1⟩
  rw [if_neg (by omega)] at r1
  have h1 : SrcAt w1 b ca len cap (k + 1) := by rw [hw1]; exact (h.alloc _).next q
  have o1 : Only b w w1 := by rw [hw1]; exact ((Only.refl b w).alloc _).trans (only_next _ b k q)
  have hs1 : w.heap.size < w1.heap.size := by rw [hw1]; simp [World.drewN]
  have hold : ∀ o, w1.cell? ⟨w.heap.size, o, none⟩ = (w.alloc (.cells #[.int .i64 0, .int .i64 0, .string ⟨#[]⟩] 26)).cell? ⟨w.heap.size, o, none⟩ := fun o => by
    rw [hw1]; exact World.cell?_of_block (Below.heap_setCell _ ⟨b, 1, none⟩ _ w.heap.size (Nat.ne_of_gt hlt))
  have hfz : ∀ o, w1.frozen? ⟨w.heap.size, o, none⟩ = (w.alloc (.cells #[.int .i64 0, .int .i64 0, .string ⟨#[]⟩] 26)).frozen? ⟨w.heap.size, o, none⟩ := fun o => by
    rw [hw1]; exact World.frozen?_of_block (Below.heap_setCell _ ⟨b, 1, none⟩ _ w.heap.size (Nat.ne_of_gt hlt))
  clear hw1
  have bne : b ≠ w.heap.size := Nat.ne_of_lt hlt
  have cne : ∀ cb co, ca = some ⟨cb, co, none⟩ → 0 < len → cb ≠ w.heap.size := fun cb co e hl => Nat.ne_of_lt (hcode cb co e hl)
  have HC : Hid (∀ cb co, ca = some ⟨cb, co, none⟩ → 0 < len → cb ≠ w.heap.size) := cne
  clear cne hcode h
  by_cases c0 : r = 0
  · subst c0
    go_wp2_with fail
    refine (next_any _ b ca len cap (k + 1) _ h1 hmax (by omega) (by omega)).mono ?_
    rintro e w2 ⟨v, q2, rfl, -, -, hw2⟩
    have h2 : SrcAt w2 b ca len cap (k + 1 + 1) := by rw [hw2]; exact h1.next q2
    have o2 : Only b w1 w2 := by rw [hw2]; exact only_next w1 b (k + 1) q2
    clear hw2
    have hold2 : ∀ o, w2.cell? ⟨w.heap.size, o, none⟩ = (w.alloc (.cells #[.int .i64 0, .int .i64 0, .string ⟨#[]⟩] 26)).cell? ⟨w.heap.size, o, none⟩ := fun o => by
      rw [o2.cell (p := ⟨w.heap.size, o, none⟩) hs1 (Ne.symm bne)]; exact hold o
    have hfz2 : ∀ o, w2.frozen? ⟨w.heap.size, o, none⟩ = (w.alloc (.cells #[.int .i64 0, .int .i64 0, .string ⟨#[]⟩] 26)).frozen? ⟨w.heap.size, o, none⟩ := fun o => by
      rw [o2.frozen (p := ⟨w.heap.size, o, none⟩) hs1 (Ne.symm bne)]; exact hfz o
    have o12 : Only b w w2 := o1.trans o2
    clear o1 o2 h1 hold hfz
    go_wp2
    refine bodyPost_ret (v := (⟨2, v, ⟨#[]⟩⟩ : Vlu).val) (by simp [results, Try.results50, go_sem, hold2]) rfl ⟨⟨2, v, ⟨#[]⟩⟩, k + 1 + 1, rfl, Nat.zero_le _, by omega, by omega, ?_, ?_⟩
    · repeat (first | exact h2 | refine SrcAt.put ?_ _ _ _ bne HC.out)
    · repeat (first | exact o12 | refine Only.put ?_ (Nat.le_refl _) _)
  have d0 : (r == 0) = false := by simpa using c0
  by_cases c1 : r = 1
  · subst c1
    have h2 := h1
    go_wp2
    refine bodyPost_ret (v := (⟨3, 0, ⟨#[]⟩⟩ : Vlu).val) (by simp [results, Try.results50, go_sem, hold]) rfl ⟨⟨3, 0, ⟨#[]⟩⟩, k + 1, rfl, Nat.zero_le _, by omega, by omega, ?_, ?_⟩
    · repeat (first | exact h2 | refine SrcAt.put ?_ _ _ _ bne HC.out)
    · repeat (first | exact o1 | refine Only.put ?_ (Nat.le_refl _) _)
  have d1 : (r == 1) = false := by simpa using c1
  by_cases c2 : r = 2
  · subst c2
    go_wp2_with fail
    refine (l2name_any _ b ca len cap (k + 1) h1 hmax (by omega) (by omega)).mono ?_
    rintro e w2 ⟨s, k2, rfl, hz, k21, k22, h2, o2⟩
    have hold2 : ∀ o, w2.cell? ⟨w.heap.size, o, none⟩ = (w.alloc (.cells #[.int .i64 0, .int .i64 0, .string ⟨#[]⟩] 26)).cell? ⟨w.heap.size, o, none⟩ := fun o => by
      rw [o2.cell (p := ⟨w.heap.size, o, none⟩) hs1 (Ne.symm bne)]; exact hold o
    have hfz2 : ∀ o, w2.frozen? ⟨w.heap.size, o, none⟩ = (w.alloc (.cells #[.int .i64 0, .int .i64 0, .string ⟨#[]⟩] 26)).frozen? ⟨w.heap.size, o, none⟩ := fun o => by
      rw [o2.frozen (p := ⟨w.heap.size, o, none⟩) hs1 (Ne.symm bne)]; exact hfz o
    have o12 : Only b w w2 := o1.trans o2
    clear o1 o2 h1 hold hfz
    go_wp2
    refine bodyPost_ret (v := (⟨4, 0, s⟩ : Vlu).val) (by simp [results, Try.results50, go_sem, hold2]) rfl ⟨⟨4, 0, s⟩, k2, rfl, hz, by omega, by omega, ?_, ?_⟩
    · repeat (first | exact h2 | refine SrcAt.put ?_ _ _ _ bne HC.out)
    · repeat (first | exact o12 | refine Only.put ?_ (Nat.le_refl _) _)
  have d2 : (r == 2) = false := by simpa using c2
  by_cases c3 : r = 3
  · subst c3
    by_cases hn : 0 < n
    · skip
      go_wp2_with fail
      refine (next_any _ b ca len cap (k + 1) _ h1 hmax (by omega) (by omega)).mono ?_
      rintro e w2 ⟨v, q2, rfl, -, -, hw2⟩
      have h2 : SrcAt w2 b ca len cap (k + 1 + 1) := by rw [hw2]; exact h1.next q2
      have o2 : Only b w1 w2 := by rw [hw2]; exact only_next w1 b (k + 1) q2
      clear hw2
      have hold2 : ∀ o, w2.cell? ⟨w.heap.size, o, none⟩ = (w.alloc (.cells #[.int .i64 0, .int .i64 0, .string ⟨#[]⟩] 26)).cell? ⟨w.heap.size, o, none⟩ := fun o => by
        rw [o2.cell (p := ⟨w.heap.size, o, none⟩) hs1 (Ne.symm bne)]; exact hold o
      have hfz2 : ∀ o, w2.frozen? ⟨w.heap.size, o, none⟩ = (w.alloc (.cells #[.int .i64 0, .int .i64 0, .string ⟨#[]⟩] 26)).frozen? ⟨w.heap.size, o, none⟩ := fun o => by
        rw [o2.frozen (p := ⟨w.heap.size, o, none⟩) hs1 (Ne.symm bne)]; exact hfz o
      have o12 : Only b w w2 := o1.trans o2
      clear o1 o2 h1 hold hfz
      go_wp2
      refine bodyPost_ret (v := (⟨5, v, ⟨#[]⟩⟩ : Vlu).val) (by simp [results, Try.results50, go_sem, hold2]) rfl ⟨⟨5, v, ⟨#[]⟩⟩, k + 1 + 1, rfl, Nat.zero_le _, by omega, by omega, ?_, ?_⟩
      · repeat (first | exact h2 | refine SrcAt.put ?_ _ _ _ bne HC.out)
      · repeat (first | exact o12 | refine Only.put ?_ (Nat.le_refl _) _)
    · have hn' : ¬ (0 < n) := hn
      go_wp2_with fail
      refine (draw_any _ b ca len cap (k + 1) h1 hmax (by omega) (by omega)).mono ?_
      rintro e w2 ⟨v, k2, rfl, -, k21, k22, h2, o2⟩
      have hold2 : ∀ o, w2.cell? ⟨w.heap.size, o, none⟩ = (w.alloc (.cells #[.int .i64 0, .int .i64 0, .string ⟨#[]⟩] 26)).cell? ⟨w.heap.size, o, none⟩ := fun o => by
        rw [o2.cell (p := ⟨w.heap.size, o, none⟩) hs1 (Ne.symm bne)]; exact hold o
      have hfz2 : ∀ o, w2.frozen? ⟨w.heap.size, o, none⟩ = (w.alloc (.cells #[.int .i64 0, .int .i64 0, .string ⟨#[]⟩] 26)).frozen? ⟨w.heap.size, o, none⟩ := fun o => by
        rw [o2.frozen (p := ⟨w.heap.size, o, none⟩) hs1 (Ne.symm bne)]; exact hfz o
      have o12 : Only b w w2 := o1.trans o2
      clear o1 o2 h1 hold hfz
      go_wp2
      refine bodyPost_ret (v := (⟨1, v, ⟨#[]⟩⟩ : Vlu).val) (by simp [results, Try.results50, go_sem, hold2]) rfl ⟨⟨1, v, ⟨#[]⟩⟩, k2, rfl, Nat.zero_le _, by omega, by omega, ?_, ?_⟩
      · repeat (first | exact h2 | refine SrcAt.put ?_ _ _ _ bne HC.out)
      · repeat (first | exact o12 | refine Only.put ?_ (Nat.le_refl _) _)
  have d3 : (r == 3) = false := by simpa using c3
  by_cases c4 : r = 4
  · subst c4
    by_cases hn : 0 < n
    · skip
      go_wp2_with fail
      refine (next_any _ b ca len cap (k + 1) _ h1 hmax (by omega) (by omega)).mono ?_
      rintro e w2 ⟨v, q2, rfl, -, -, hw2⟩
      have h2 : SrcAt w2 b ca len cap (k + 1 + 1) := by rw [hw2]; exact h1.next q2
      have o2 : Only b w1 w2 := by rw [hw2]; exact only_next w1 b (k + 1) q2
      clear hw2
      have hold2 : ∀ o, w2.cell? ⟨w.heap.size, o, none⟩ = (w.alloc (.cells #[.int .i64 0, .int .i64 0, .string ⟨#[]⟩] 26)).cell? ⟨w.heap.size, o, none⟩ := fun o => by
        rw [o2.cell (p := ⟨w.heap.size, o, none⟩) hs1 (Ne.symm bne)]; exact hold o
      have hfz2 : ∀ o, w2.frozen? ⟨w.heap.size, o, none⟩ = (w.alloc (.cells #[.int .i64 0, .int .i64 0, .string ⟨#[]⟩] 26)).frozen? ⟨w.heap.size, o, none⟩ := fun o => by
        rw [o2.frozen (p := ⟨w.heap.size, o, none⟩) hs1 (Ne.symm bne)]; exact hfz o
      have o12 : Only b w w2 := o1.trans o2
      clear o1 o2 h1 hold hfz
      go_wp2
      refine bodyPost_ret (v := (⟨5, v, ⟨#[]⟩⟩ : Vlu).val) (by simp [results, Try.results50, go_sem, hold2]) rfl ⟨⟨5, v, ⟨#[]⟩⟩, k + 1 + 1, rfl, Nat.zero_le _, by omega, by omega, ?_, ?_⟩
      · repeat (first | exact h2 | refine SrcAt.put ?_ _ _ _ bne HC.out)
      · repeat (first | exact o12 | refine Only.put ?_ (Nat.le_refl _) _)
    · have hn' : ¬ (0 < n) := hn
      go_wp2_with fail
      refine (draw_any _ b ca len cap (k + 1) h1 hmax (by omega) (by omega)).mono ?_
      rintro e w2 ⟨v, k2, rfl, -, k21, k22, h2, o2⟩
      have hold2 : ∀ o, w2.cell? ⟨w.heap.size, o, none⟩ = (w.alloc (.cells #[.int .i64 0, .int .i64 0, .string ⟨#[]⟩] 26)).cell? ⟨w.heap.size, o, none⟩ := fun o => by
        rw [o2.cell (p := ⟨w.heap.size, o, none⟩) hs1 (Ne.symm bne)]; exact hold o
      have hfz2 : ∀ o, w2.frozen? ⟨w.heap.size, o, none⟩ = (w.alloc (.cells #[.int .i64 0, .int .i64 0, .string ⟨#[]⟩] 26)).frozen? ⟨w.heap.size, o, none⟩ := fun o => by
        rw [o2.frozen (p := ⟨w.heap.size, o, none⟩) hs1 (Ne.symm bne)]; exact hfz o
      have o12 : Only b w w2 := o1.trans o2
      clear o1 o2 h1 hold hfz
      go_wp2
      refine bodyPost_ret (v := (⟨1, v, ⟨#[]⟩⟩ : Vlu).val) (by simp [results, Try.results50, go_sem, hold2]) rfl ⟨⟨1, v, ⟨#[]⟩⟩, k2, rfl, Nat.zero_le _, by omega, by omega, ?_, ?_⟩
      · repeat (first | exact h2 | refine SrcAt.put ?_ _ _ _ bne HC.out)
      · repeat (first | exact o12 | refine Only.put ?_ (Nat.le_refl _) _)
  have d4 : (r == 4) = false := by simpa using c4
  by_cases c5 : r = 5
  · subst c5
    have hb1 : b < w1.heap.size := h1.lt
    go_wp2_with fail
    refine (pick_any _ b w1.heap.size 3 ca len cap (k + 1) (h1.alloc _) hmax (by omega) (by omega) (Nat.ne_of_gt h1.lt) (by omega) (by omega) AnyI (cells3 w1 _ _ _ _)).mono ?_
    rintro e w3 ⟨u, k3, rfl, -, k31, k32, h3, o3⟩
    have o3' : Only b w1 w3 := ((Only.refl b w1).alloc _).trans o3
    clear o3
    go_wp2_with fail
    refine (next_any _ b ca len cap k3 _ h3 hmax (by omega) (by omega)).mono ?_
    rintro e w2 ⟨v, q2, rfl, -, -, hw2⟩
    have h2 : SrcAt w2 b ca len cap (k3 + 1) := by rw [hw2]; exact h3.next q2
    have o2 : Only b w1 w2 := o3'.trans (by rw [hw2]; exact only_next w3 b k3 q2)
    clear hw2 h3 o3'
    have hold2 : ∀ o, w2.cell? ⟨w.heap.size, o, none⟩ = (w.alloc (.cells #[.int .i64 0, .int .i64 0, .string ⟨#[]⟩] 26)).cell? ⟨w.heap.size, o, none⟩ := fun o => by
      rw [o2.cell (p := ⟨w.heap.size, o, none⟩) hs1 (Ne.symm bne)]; exact hold o
    have hfz2 : ∀ o, w2.frozen? ⟨w.heap.size, o, none⟩ = (w.alloc (.cells #[.int .i64 0, .int .i64 0, .string ⟨#[]⟩] 26)).frozen? ⟨w.heap.size, o, none⟩ := fun o => by
      rw [o2.frozen (p := ⟨w.heap.size, o, none⟩) hs1 (Ne.symm bne)]; exact hfz o
    have o12 : Only b w w2 := o1.trans o2
    clear o1 o2 h1 hold hfz
    go_wp2
    refine bodyPost_ret (v := (⟨u, v, ⟨#[]⟩⟩ : Vlu).val) (by simp [results, Try.results50, go_sem, hold2]) rfl ⟨⟨u, v, ⟨#[]⟩⟩, k3 + 1, rfl, Nat.zero_le _, by omega, by omega, ?_, ?_⟩
    · repeat (first | exact h2 | refine SrcAt.put ?_ _ _ _ bne HC.out)
    · repeat (first | exact o12 | refine Only.put ?_ (Nat.le_refl _) _)
  have d5 : (r == 5) = false := by simpa using c5
  go_wp2_with fail
  refine (draw_any _ b ca len cap (k + 1) h1 hmax (by omega) (by omega)).mono ?_
  rintro e w2 ⟨v, k2, rfl, -, k21, k22, h2, o2⟩
  have hold2 : ∀ o, w2.cell? ⟨w.heap.size, o, none⟩ = (w.alloc (.cells #[.int .i64 0, .int .i64 0, .string ⟨#[]⟩] 26)).cell? ⟨w.heap.size, o, none⟩ := fun o => by
    rw [o2.cell (p := ⟨w.heap.size, o, none⟩) hs1 (Ne.symm bne)]; exact hold o
  have hfz2 : ∀ o, w2.frozen? ⟨w.heap.size, o, none⟩ = (w.alloc (.cells #[.int .i64 0, .int .i64 0, .string ⟨#[]⟩] 26)).frozen? ⟨w.heap.size, o, none⟩ := fun o => by
    rw [o2.frozen (p := ⟨w.heap.size, o, none⟩) hs1 (Ne.symm bne)]; exact hfz o
  have o12 : Only b w w2 := o1.trans o2
  clear o1 o2 h1 hold hfz
  go_wp2
  refine bodyPost_ret (v := (⟨1, v, ⟨#[]⟩⟩ : Vlu).val) (by simp [results, Try.results50, go_sem, hold2]) rfl ⟨⟨1, v, ⟨#[]⟩⟩, k2, rfl, Nat.zero_le _, by omega, by omega, ?_, ?_⟩
  · repeat (first | exact h2 | refine SrcAt.put ?_ _ _ _ bne HC.out)
  · repeat (first | exact o12 | refine Only.put ?_ (Nat.le_refl _) _)
end Go.Proofs.Ytbfhoennafopaaa
