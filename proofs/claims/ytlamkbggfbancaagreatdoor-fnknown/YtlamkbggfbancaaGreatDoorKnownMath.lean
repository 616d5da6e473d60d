/-
  The globals at the beginning in plain words: they have no fault, each primitive stands at its number, and foo is none of them: no program in it.
-/
import Derived.Test.YtlamkbggfbancaaGreatDoorNewG
import Derived.Test.YtlamkbggfbancaaGreatDoorSpecLG
namespace Go.Proofs.YtlamkbggfbancaaGreatDoor
open Go.RowKit Go.Extern.Stop Go.Stop Go.Extern Num Go.Lib

theorem newL_at (p : Int) (n k : Nat) (h : k < n) : (newL p n)[k]'(by rw [newL_len]; exact h) = newG p k := by
  induction n with
  | zero => omega
  | succ n ih =>
    simp only [newL]
    by_cases hk : k < n
    · rw [List.getElem_append_left (by rw [newL_len]; exact hk)]; exact ih hk
    · have : k = n := by omega
      subst this
      rw [List.getElem_append_right (by rw [newL_len]; omega)]
      simp [newL_len]
theorem names_ne : ∀ i, i < 16 → ∀ j, j < 16 → i ≠ j → (nameP i).data.toList ≠ (nameP j).data.toList := by decide +kernel
theorem names_sym : ∀ i, i < 16 → symL (nameP i).data.toList = true := by decide +kernel
theorem names_size : ∀ i, i < 16 → (nameP i).size ≤ 12 := by decide +kernel
theorem names_foo : ∀ i, i < 16 → (nameP i).data.toList ≠ [102, 111, 111] := by decide +kernel
theorem name_beq {i j : Nat} (hi : i < 16) (hj : j < 16) (h : i ≠ j) : ((nameP i).toList == (nameP j).toList) = false := by
  rw [ByteArray.toList_eq, ByteArray.toList_eq]
  have := names_ne i hi j hj h
  simpa using this
theorem name_self (i : Nat) : ((nameP i).toList == (nameP i).toList) = true := by simp
theorem atG_new (p : Int) (k : Nat) (hk : k < 16) : atG (newL p 16) (nameP k) = some k := by
  refine atG_hit (by rw [newL_len]; exact hk) (fun j hj hlt => ?_) ?_
  · rw [newL_len] at hj
    rw [newL_at p 16 j hj]
    exact name_beq hj hk (by omega)
  · rw [newL_at p 16 k hk]; exact name_self k
theorem atG_foo (p : Int) : atG (newL p 16) ⟨#[102, 111, 111]⟩ = none := by
  refine atG_miss (fun j hj => ?_)
  rw [newL_len] at hj
  rw [newL_at p 16 j hj]
  show ((nameP j).toList == (⟨#[102, 111, 111]⟩ : ByteArray).toList) = false
  rw [ByteArray.toList_eq, ByteArray.toList_eq]
  have := names_foo j hj
  simpa using this
theorem vfault_prim (k : Nat) (h : k < 16) : vfault ⟨8, (k : Int), ⟨#[]⟩⟩ = 0 := by
  unfold vfault
  simp; omega
theorem gone_new (p : Int) (h : 1 ≤ p ∧ p ≤ 99999) (k : Nat) (hk : k < 16) : goneG (newL p 16) k (newG p k) = 0 := by
  unfold goneG
  have h1 := names_sym k hk
  rw [if_neg (by show ¬ symL (nameP k).data.toList = false; rw [h1]; simp), if_neg (by show ¬ vfault ⟨8, (k : Int), ⟨#[]⟩⟩ ≠ 0; rw [vfault_prim k hk]; simp), if_neg (by show ¬ ¬ (1 ≤ p ∧ p ≤ 99999); simpa using h)]
  have h2 : atG ((newL p 16).take k) (newG p k).name = none := atG_none.2 fun j hj e => by
    rw [List.length_take, newL_len] at hj
    rw [List.getElem_take, newL_at p 16 j (by omega)] at e
    have := names_ne j (by omega) k hk (by omega)
    exact this (by show (newG p j).name.data.toList = (newG p k).name.data.toList; rw [e])
  rw [h2]; rfl
theorem globFrom_all (l : List Glb) (h : ∀ (k : Nat) (hk : k < l.length), goneG l k (l[k]'hk) = 0) : globFrom l 0 l = 0 := by
  have key : ∀ n, n ≤ l.length → globFrom l (l.length - n) (l.drop (l.length - n)) = 0 := by
    intro n
    induction n with
    | zero => intro _; exact globFrom_end _ _ (by omega)
    | succ n ih =>
      intro hn
      have hlt : l.length - (n + 1) < l.length := by omega
      rw [globFrom_ok _ _ hlt (h _ hlt), show l.length - (n + 1) + 1 = l.length - n by omega]
      exact ih (by omega)
  have := key l.length (Nat.le_refl _)
  simpa using this
theorem globFault_new (p : Int) (h : 1 ≤ p ∧ p ≤ 99999) : globFault (newL p 16) = 0 := by
  unfold globFault
  rw [if_neg (by rw [newL_len]; omega)]
  refine globFrom_all _ (fun k hk => ?_)
  rw [newL_len] at hk
  rw [newL_at p 16 k hk]
  exact gone_new p h k hk
theorem able_new (p : Int) : ableG (newL p 16) := fun k hk => by
  rw [newL_len] at hk
  rw [newL_at p 16 k hk]
  refine ⟨?_, ?_⟩
  · have := names_size k hk; show (nameP k).size ≤ _; omega
  · show (⟨#[]⟩ : ByteArray).size ≤ 9223372036854775807; decide
theorem ask_new (p : Int) (h : 1 ≤ p ∧ p ≤ 99999) (s : ByteArray) (hs : symL s.data.toList = true) : askG (newL p 16) s = 0 := by
  unfold askG
  rw [globFault_new p h]; simp [symC, hs]
theorem look_new (p : Int) (h : 1 ≤ p ∧ p ≤ 99999) (k : Nat) (hk : k < 16) : codeLG (newL p 16) (nameP k) = 0 ∧ valLG (newL p 16) (nameP k) = newG p k := by
  have e := lg_some (ask_new p h (nameP k) (names_sym k hk)) (atG_new p k hk) (by rw [newL_len]; exact hk)
  rw [newL_at p 16 k hk] at e
  exact e
theorem look_foo (p : Int) (h : 1 ≤ p ∧ p ≤ 99999) : codeLG (newL p 16) ⟨#[102, 111, 111]⟩ = 4 ∧ valLG (newL p 16) ⟨#[102, 111, 111]⟩ = gZ :=
  lg_none (ask_new p h _ (by decide +kernel)) (atG_foo p)
theorem prim_new (k : Nat) (hk : k < 16) : codePO (nameP k) = 0 ∧ valPO (nameP k) = (k : Int) := by
  have e := findP_hit (nameP k) k hk (fun j hj => name_beq (by omega) hk (by omega)) (name_self k)
  exact ⟨by rw [codePO, e], by rw [valPO, e]⟩
end Go.Proofs.YtlamkbggfbancaaGreatDoor
