/-
  The library's cmp.Or at int64; nothing that was there is turned.
-/
import Derived.Test.YtebnonpdaddniaaGreatDoorRowKit0
namespace Go.Proofs.YtebnonpdaddniaaGreatDoor
open Go.RowKit Go.Extern.Stop Go.Stop Go.Extern Num Go.Lib

def SeeI (w : World) (v : Value) (l : List Int) : Prop :=
  ∃ a c, v = .slice a l.length c ∧ (0 < l.length → ∃ b off, a = some ⟨b, off, none⟩ ∧ ∀ (k : Nat) (h : k < l.length), w.cell? ⟨b, off + k, none⟩ = some (.int .i64 l[k]))
theorem SeeI.below {w w' : World} {v : Value} {l : List Int} (h : SeeI w v l) (hb : Below w.heap.size w w') : SeeI w' v l := by
  obtain ⟨a, c, e, hc⟩ := h
  refine ⟨a, c, e, fun hl => ?_⟩
  obtain ⟨b, off, e2, h2⟩ := hc hl
  exact ⟨b, off, e2, fun k hk => cell_keep hb (h2 k hk)⟩
/-- The first code that is not 0. -/
def orL : List Int → Int
  | [] => 0
  | x :: r => if x = 0 then orL r else x
theorem orL_drop (l : List Int) : ∀ k, k ≤ l.length → (∀ (j : Nat) (hj : j < l.length), j < k → l[j] = 0) → orL l = orL (l.drop k) := by
  induction l with
  | nil => intro k _ _; simp
  | cons x r ih =>
    intro k hk h
    cases k with
    | zero => rfl
    | succ k =>
      have h0 : x = 0 := h 0 (by simp) (by omega)
      rw [List.drop_succ_cons]
      rw [show orL (x :: r) = orL r by simp [orL, h0]]
      exact ih k (by simpa using hk) (fun j hj hjk => h (j + 1) (by simpa using hj) (by omega))
theorem orI_any (v : Value) (l : List Int) (w : World) (hl : l.length ≤ 1048576) (h : SeeI w v l) :
    Calls Tryz.prog 82 #[v] w fun e w' => e = .returned (.int .i64 (orL l)) ∧ w' = w := by
  obtain ⟨a, c, rfl, hc⟩ := h
  have HC : Hid (0 < l.length → ∃ b off, a = some ⟨b, off, none⟩ ∧ ∀ (k : Nat) (h : k < l.length), w.cell? ⟨b, off + k, none⟩ = some (.int .i64 l[k])) := hc
  obtain ⟨R, hR⟩ : ∃ R, R = orL l := ⟨_, rfl⟩
  have HR : Hid (R = orL l) := hR
  rw [← hR]
  clear hc hR
  go_enter Tryz.func82, Tryz.ntmps82
  go_wp2_with fail
  go_loopw [8] (fun i wr => ∃ k : Nat, k ≤ l.length ∧ i = .int .i64 (k : Int) ∧ Hid (∀ (j : Nat) (hj : j < l.length), j < k → l[j] = 0) ∧ wr = w) (fun i _ => l.length - (RowKit.intOf i).toNat)
  case atStart => exact ⟨0, Nat.zero_le _, rfl, fun j _ hj => absurd hj (Nat.not_lt_zero j), rfl⟩
  case round =>
    obtain ⟨k, hk, rfl, HJ, hw⟩ := hrel
    subst hw
    by_cases hlt : k < l.length
    · obtain ⟨g, off, rfl, h2⟩ := HC.out (by omega)
      have cz := h2 k hlt
      have HRk : Hid (R = if (l[k]'hlt) = 0 then orL (l.drop (k + 1)) else (l[k]'hlt)) := by
        show R = _
        rw [HR.out, orL_drop l k hk HJ.out, List.drop_eq_getElem_cons hlt]; rfl
      have HN : Hid ((l[k]'hlt) = 0 → ∀ (j : Nat) (hj : j < l.length), j < k + 1 → l[j] = 0) := fun h j hj hjk => by
        by_cases e : j < k
        · exact HJ.out j hj e
        · have : j = k := by omega
          subst this; exact h
      obtain ⟨m, hm⟩ : ∃ m, m = (l[k]'hlt) := ⟨_, rfl⟩
      rw [← hm] at cz HRk HN
      clear h2 HJ HR hm
      cases h4 : (m != 0) with
      | true =>
        have HE : Hid (R = m) := by
          have h5 : m ≠ 0 := by simpa using h4
          show R = m; rw [HRk.out, if_neg h5]
        clear HN HRk
        go_wp2
        go_ret
        exact ⟨by rw [HE.out]; rfl, rfl⟩
      | false =>
        have HE : Hid (∀ (j : Nat) (hj : j < l.length), j < k + 1 → l[j] = 0) := HN.out (by simpa using h4)
        clear HN HRk
        go_wp2
        exact ⟨⟨k + 1, by omega, by go_num, HE.out, by trivial⟩, by simp [RowKit.intOf]; omega⟩
    · have HE : Hid (R = 0) := by
        show R = 0
        rw [HR.out, orL_drop l k hk HJ.out, List.drop_eq_nil_of_le (by omega)]; rfl
      clear HR
      go_wp2
      go_ret
      exact ⟨by rw [HE.out]; rfl, rfl⟩
theorem orL_two (x y : Int) : orL [x, y] = if x = 0 then y else x := by
  unfold orL
  by_cases h : x = 0
  · rw [if_pos h, if_pos h]
    unfold orL
    by_cases h2 : y = 0
    · rw [if_pos h2, h2]; rfl
    · rw [if_neg h2]
  · rw [if_neg h, if_neg h]
theorem see2 (u : World) (x y : Int) (T : TypeId) : SeeI (u.alloc (.cells #[.int .i64 x, .int .i64 y] T)) (.slice (some ⟨u.heap.size, 0, none⟩) 2 2) [x, y] :=
  ⟨_, _, rfl, fun _ => ⟨_, _, rfl, fun k hk => by
    rw [World.cell?_alloc_at _ _ _ _ rfl]
    match k, hk with
    | 0, _ => rfl
    | 1, _ => rfl⟩⟩
theorem bnewC (u : World) (o : Obj) : Below u.heap.size u (u.alloc o) := (Below.refl _ _).alloc (Nat.le_refl _) _
end Go.Proofs.YtebnonpdaddniaaGreatDoor
