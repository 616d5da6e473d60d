/-
  The model of chapter 7: the place of a name, what is wrong with globals; nothing is turned.
-/
import Derived.Test.YtgfienijabkpjaaGlobMath
import Derived.Test.YtgfienijabkpjaaSpecVF
import Derived.Test.YtgfienijabkpjaaSpecNum
namespace Go.Proofs.Ytgfienijabkpjaa
open Go.RowKit Go.Extern.Stop Go.Stop Go.Extern Num Go.Lib

/-- The cells of globals in a row. -/
def RowG (w : World) (g : Nat) (l : List Glb) : Prop :=
  ∀ (k : Nat) (h : k < l.length), w.cell? ⟨g, k * 5, none⟩ = some (.string l[k].name) ∧ w.cell? ⟨g, k * 5 + 1, none⟩ = some (.int .i64 l[k].value.kind) ∧ w.cell? ⟨g, k * 5 + 2, none⟩ = some (.int .i64 l[k].value.num) ∧ w.cell? ⟨g, k * 5 + 3, none⟩ = some (.string l[k].value.name) ∧ w.cell? ⟨g, k * 5 + 4, none⟩ = some (.int .i64 l[k].ver)
theorem RowG.below {w w' : World} {g : Nat} {l : List Glb} (h : RowG w g l) (hb : Below w.heap.size w w') : RowG w' g l := fun k hk =>
  ⟨cell_keep hb (h k hk).1, cell_keep hb (h k hk).2.1, cell_keep hb (h k hk).2.2.1, cell_keep hb (h k hk).2.2.2.1, cell_keep hb (h k hk).2.2.2.2⟩
theorem RowG.of {w : World} {base g cap : Nat} {l : List Glb} (h : w.ownsRow base 33 5 (.slice (some ⟨g, 0, none⟩) l.length cap) l.length (cellsG l)) : RowG w g l := fun k hk => rowG_at h k hk
def ableG (l : List Glb) : Prop := ∀ (k : Nat) (h : k < l.length), l[k].able
theorem RowG.vl {w : World} {g : Nat} {l : List Glb} (h : RowG w g l) (k : Nat) (hk : k < l.length) : VluAt g (k * 5 + 1) l[k].value w := ⟨(h k hk).2.1, (h k hk).2.2.1, (h k hk).2.2.2.1⟩
theorem RowG.take {w : World} {g : Nat} {l : List Glb} (h : RowG w g l) (n : Nat) : RowG w g (l.take n) := fun k hk => by
  have hk' : k < l.length := by rw [List.length_take] at hk; omega
  have := h k hk'
  rw [List.getElem_take]
  exact this
/-- A place as a number. -/
def atI (o : Option Nat) : Int := match o with | some k => (k : Int) | none => -1
theorem atG_hit {l : List Glb} {s : ByteArray} {k : Nat} (hk : k < l.length) (h : ∀ j (hj : j < l.length), j < k → ((l[j]'hj).name.toList == s.toList) = false) (he : ((l[k]'hk).name.toList == s.toList) = true) : atG l s = some k := by
  induction l generalizing k with
  | nil => simp at hk
  | cons t r ih =>
    unfold atG
    cases k with
    | zero => rw [if_pos (by simpa using he)]
    | succ k =>
      have h0 := h 0 (by simp) (by omega)
      rw [if_neg (by simpa using h0)]
      rw [ih (k := k) (by simpa using hk) (fun j hj hlt => h (j + 1) (by simpa using hj) (by omega)) (by simpa using he)]
      rfl
theorem atG_miss {l : List Glb} {s : ByteArray} (h : ∀ j (hj : j < l.length), ((l[j]'hj).name.toList == s.toList) = false) : atG l s = none :=
  atG_none.2 fun j hj e => by have := h j hj; rw [(bytes_eq _ _).2 e] at this; cases this
set_option maxHeartbeats 1000000 in
theorem l7At_any (ao : Option Addr) (cap g : Nat) (l : List Glb) (s : ByteArray) (w : World) (hl : l.length ≤ 1048576) (hao : 0 < l.length → ao = some ⟨g, 0, none⟩) (hr : RowG w g l) :
    Calls Try.prog 44 #[.slice ao l.length cap, .string s] w fun e w' => e = .returned (.int .i64 (atI (atG l s))) ∧ w' = w := by
  obtain ⟨R, hR⟩ : ∃ R, R = atI (atG l s) := ⟨_, rfl⟩
  rw [← hR]
  have HR : Hid (R = atI (atG l s)) := hR
  have HP : Hid (RowG w g l) := hr
  have HA : Hid (0 < l.length → ao = some ⟨g, 0, none⟩) := hao
  clear hR hr hao
  go_enter Try.func44, Try.ntmps44
  go_wp2_with fail
  go_loop [5] (fun i => ∃ k : Nat, k ≤ l.length ∧ i = .int .i64 (k : Int) ∧ Hid (∀ j (hj : j < l.length), j < k → ((l[j]'hj).name.toList == s.toList) = false)) (fun i => l.length - (RowKit.intOf i).toNat)
  case atStart => exact ⟨0, Nat.zero_le _, rfl, fun j _ h => by omega⟩
  case round =>
    obtain ⟨k, hk, rfl, HK⟩ := hrel
    by_cases hlt : k < l.length
    · obtain rfl := HA.out (by omega)
      have c0 := (HP.out k hlt).1
      have HN : Hid (∀ b, ((l[k]'hlt).name.toList == s.toList) = b → (b = true → R = (k : Int)) ∧ (b = false → ∀ j (hj : j < l.length), j < k + 1 → ((l[j]'hj).name.toList == s.toList) = false)) := fun b hb => ⟨fun h => by
          rw [HR.out, atG_hit hlt HK.out (hb.trans h)]; rfl, fun h j hj hjk => by
          by_cases e : j = k
          · subst e; exact hb.trans h
          · exact HK.out j hj (by omega)⟩
      generalize (l[k]'hlt).name = t at c0 HN
      cases e : (t.toList == s.toList) with
      | true =>
        obtain rfl := (HN.out _ e).1 rfl
        go_wp2
        go_ret
        exact ⟨rfl, rfl⟩
      | false =>
        have HF : Hid (∀ j (hj : j < l.length), j < k + 1 → ((l[j]'hj).name.toList == s.toList) = false) := (HN.out _ e).2 rfl
        clear HN
        go_wp2
        exact ⟨⟨k + 1, by omega, by go_num, HF.out⟩, by simp [RowKit.intOf]; omega⟩
    · have HE : Hid (R = -1) := by show R = -1; rw [HR.out, atG_miss (fun j hj => HK.out j hj (by omega))]; rfl
      clear HK HR
      go_wp2
      go_ret
      exact ⟨by rw [HE.out]; rfl, rfl⟩
theorem l7Ver_any (p : Int) (w : World) : Calls Try.prog 89 #[.int .i64 p] w fun e w' => e = .returned (.bool (decide (1 ≤ p) && decide (p ≤ 99999))) ∧ w' = w := by
  go_enter Try.func89, Try.ntmps89
  go_wp2_with (go_at_call 61; refine (l1In_any _ _ _ _).mono ?_; rintro e w' ⟨rfl, rfl⟩)
  go_ret
  exact ⟨rfl, rfl⟩
end Go.Proofs.Ytgfienijabkpjaa
