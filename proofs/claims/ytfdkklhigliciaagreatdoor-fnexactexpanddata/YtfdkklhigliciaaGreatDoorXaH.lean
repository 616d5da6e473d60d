/-
  Parts of the proof laid into one text, one behind the other; each says at its head what is proved in it.
-/
import Derived.Test.YtfdkklhigliciaaGreatDoorRows
import Derived.WalkKit
import Derived.ProofKit
import Derived.Below
import Derived.RangeFuncRecord
import Derived.Test.YtfdkklhigliciaaGreatDoorXaC
import Derived.Test.YtfdkklhigliciaaGreatDoorXaE
import Derived.Test.YtfdkklhigliciaaGreatDoorXaD
/-
  The program's IsKeyword and its model: whether a text is one of the seven keywords; nothing that was there is turned. The exact law of IsKeyword answers true at every text.
-/
namespace Go.Proofs.YtfdkklhigliciaaGreatDoor
open Go.RowKit

/-- The keywords. -/
def kwS : List ByteArray := [⟨#[113, 117, 111, 116, 101]⟩, ⟨#[105, 102]⟩, ⟨#[108, 97, 109, 98, 100, 97]⟩, ⟨#[108, 101, 116]⟩, ⟨#[98, 101, 103, 105, 110]⟩, ⟨#[100, 101, 102, 105, 110, 101]⟩, ⟨#[115, 101, 116, 33]⟩]
def kwB (s : ByteArray) : Bool := kwS.any fun k => k.toList == s.toList
theorem kwB_eq (s : ByteArray) : kwB s = (s.toList == [113, 117, 111, 116, 101] || (s.toList == [105, 102] || (s.toList == [108, 97, 109, 98, 100, 97] || (s.toList == [108, 101, 116] || (s.toList == [98, 101, 103, 105, 110] || (s.toList == [100, 101, 102, 105, 110, 101] || s.toList == [115, 101, 116, 33])))))) := by
  have e : ∀ a b : List UInt8, (a == b) = (b == a) := fun a b => by
    by_cases h : a = b
    · subst h; rfl
    · rw [beq_false_of_ne h, beq_false_of_ne (fun h' => h h'.symm)]
  simp only [kwB, kwS, List.any_cons, List.any_nil, Bool.or_false]
  rw [e _ s.toList, e _ s.toList, e _ s.toList, e _ s.toList, e _ s.toList, e _ s.toList, e _ s.toList]
  simp only [ByteArray.toList_eq]
theorem implKw_any (s : ByteArray) (w : World) :
    Calls Tryz.prog 138 #[.string s] w fun e w' => e = .returned (.bool (kwB s)) ∧ w' = w := by
  obtain ⟨R, hR⟩ : ∃ R : Bool, R = kwB s := ⟨_, rfl⟩
  rw [← hR]
  rw [kwB_eq] at hR
  have HR : Hid (R = (s.toList == [113, 117, 111, 116, 101] || (s.toList == [105, 102] || (s.toList == [108, 97, 109, 98, 100, 97] || (s.toList == [108, 101, 116] || (s.toList == [98, 101, 103, 105, 110] || (s.toList == [100, 101, 102, 105, 110, 101] || s.toList == [115, 101, 116, 33]))))))) := hR
  clear hR
  go_enter Tryz.func138, Tryz.ntmps138
  go_wp2
  all_goals first
    | (exfalso; simp_all; done)
    | (go_ret; exact ⟨by rw [show R = _ from HR.out]; simp [*], rfl⟩)
theorem kw_cell (w : World) (k : Nat) (h : k < kwS.length) : (w.alloc (.cells #[.string ⟨#[113, 117, 111, 116, 101]⟩, .string ⟨#[105, 102]⟩, .string ⟨#[108, 97, 109, 98, 100, 97]⟩, .string ⟨#[108, 101, 116]⟩, .string ⟨#[98, 101, 103, 105, 110]⟩, .string ⟨#[100, 101, 102, 105, 110, 101]⟩, .string ⟨#[115, 101, 116, 33]⟩] 9)).cell? ⟨w.heap.size, k, none⟩ = some (.string kwS[k]) := by
  have hk : k < 7 := h
  have : k = 0 ∨ k = 1 ∨ k = 2 ∨ k = 3 ∨ k = 4 ∨ k = 5 ∨ k = 6 := by omega
  rcases this with rfl | rfl | rfl | rfl | rfl | rfl | rfl <;> (simp only [World.cell?, World.alloc_heap_new]; rfl)
set_option maxHeartbeats 1000000 in
theorem specKw_any (s : ByteArray) (w : World) :
    Calls Tryz.prog 42 #[.string s] w fun e w' => e = .returned (.bool (kwB s)) ∧ Below w.heap.size w w' := by
  obtain ⟨R, hR⟩ : ∃ R : Bool, R = kwB s := ⟨_, rfl⟩
  rw [← hR]
  have HR : Hid (R = kwB s) := hR
  clear hR
  have HC : Hid (∀ (k : Nat) (h : k < kwS.length), (w.alloc (.cells #[.string ⟨#[113, 117, 111, 116, 101]⟩, .string ⟨#[105, 102]⟩, .string ⟨#[108, 97, 109, 98, 100, 97]⟩, .string ⟨#[108, 101, 116]⟩, .string ⟨#[98, 101, 103, 105, 110]⟩, .string ⟨#[100, 101, 102, 105, 110, 101]⟩, .string ⟨#[115, 101, 116, 33]⟩] 9)).cell? ⟨w.heap.size, k, none⟩ = some (.string kwS[k])) := fun k h => kw_cell w k h
  go_enter Tryz.func42, Tryz.ntmps42
  go_wp2_with fail
  go_loopw [4] (fun i wr => ∃ k : Nat, k ≤ 7 ∧ i = .int .i64 (k : Int) ∧ Hid (∀ j (h : j < kwS.length), j < k → (kwS[j].toList == s.toList) = false) ∧ Hid (wr = (w.alloc (.cells #[.string ⟨#[113, 117, 111, 116, 101]⟩, .string ⟨#[105, 102]⟩, .string ⟨#[108, 97, 109, 98, 100, 97]⟩, .string ⟨#[108, 101, 116]⟩, .string ⟨#[98, 101, 103, 105, 110]⟩, .string ⟨#[100, 101, 102, 105, 110, 101]⟩, .string ⟨#[115, 101, 116, 33]⟩] 9)))) (fun i _ => 7 - (RowKit.intOf i).toNat)
  case atStart => exact ⟨0, Nat.zero_le _, rfl, fun j _ h => by omega, rfl⟩
  case round =>
    obtain ⟨k, hk, rfl, HS, HW⟩ := hrel
    by_cases hlt : k < 7
    · have hc := HC.out k hlt
      rw [← show wr = _ from HW.out] at hc
      have HN : Hid (∀ b, (kwS[k].toList == s.toList) = b → (b = true → R = true) ∧ (b = false → ∀ j (h : j < kwS.length), j < k + 1 → (kwS[j].toList == s.toList) = false)) := fun b hb => ⟨fun h => by
          rw [show R = kwB s from HR.out]
          unfold kwB
          rw [List.any_eq_true]
          exact ⟨kwS[k], List.getElem_mem hlt, by rw [hb, h]⟩, fun h j hj hjk => by
          by_cases e : j = k
          · subst e; exact hb.trans h
          · exact HS.out j hj (by omega)⟩
      generalize kwS[k] = t at hc HN
      cases e : (t.toList == s.toList) with
      | true =>
        have hT := (HN.out _ e).1 rfl
        subst hT
        go_wp2
        go_ret
        exact ⟨rfl, by rw [show wr = _ from HW.out]; exact (Below.refl _ w).alloc (Nat.le_refl _) _⟩
      | false =>
        have HF : Hid _ := (HN.out _ e).2 rfl
        go_wp2
        exact ⟨⟨k + 1, by omega, by go_num, HF, HW⟩, by simp [RowKit.intOf]; omega⟩
    · have hR : R = false := by
        rw [show R = kwB s from HR.out]
        unfold kwB
        rw [List.any_eq_false]
        intro x hx
        obtain ⟨j, hj, rfl⟩ := List.getElem_of_mem hx
        have h7 : j < 7 := hj
        rw [HS.out j hj (by omega)]
        simp
      subst hR
      go_wp2
      go_ret
      exact ⟨rfl, by rw [show wr = _ from HW.out]; exact (Below.refl _ w).alloc (Nat.le_refl _) _⟩
end Go.Proofs.YtfdkklhigliciaaGreatDoor
/-
  What a datum is as a form: the cores that it comes to, one by one, or a code; what is found of a name. No program in it.
-/
namespace Go.Proofs.YtfdkklhigliciaaGreatDoor
open Go.RowKit Go.Extern.Stop Go.Stop Go.Extern Num Go.Lib

def dZ : Dat := ⟨0, -1, 0, ⟨#[]⟩⟩
def kindAt (l : List Dat) (a : Int) : Int := (l.getD a.toNat dZ).kind
def nameAt (l : List Dat) (a : Int) : ByteArray := (l.getD a.toNat dZ).name
/-- Where a name stands first. -/
def idxF : List ByteArray → ByteArray → Option Nat
  | [], _ => none
  | n :: r, s => if (n.toList == s.toList) = true then some 0 else (idxF r s).map (· + 1)
theorem idxF_at : ∀ (N : List ByteArray) (s : ByteArray) (k : Nat) (_ : k < N.length), (∀ (j : Nat) (h : j < N.length), j < k → (N[j].toList == s.toList) = false) → (N[k].toList == s.toList) = true → idxF N s = some k
  | [], _, _, hk, _, _ => by simp at hk
  | n :: r, s, 0, _, _, he => by simp only [List.getElem_cons_zero] at he; simp only [idxF, if_pos he]
  | n :: r, s, k + 1, hk, hn, he => by
    have h0 := hn 0 (by simp) (by omega)
    simp only [List.getElem_cons_zero] at h0
    have := idxF_at r s k (by simpa using hk) (fun j hj hjk => by have := hn (j + 1) (by simpa using hj) (by omega); simpa using this) (by simpa using he)
    simp only [idxF, h0, Bool.false_eq_true, if_false, this, Option.map_some]
theorem idxF_none : ∀ (N : List ByteArray) (s : ByteArray), (∀ (j : Nat) (h : j < N.length), (N[j].toList == s.toList) = false) → idxF N s = none
  | [], _, _ => rfl
  | n :: r, s, hn => by
    have h0 := hn 0 (by simp)
    simp only [List.getElem_cons_zero] at h0
    have := idxF_none r s (fun j hj => by have := hn (j + 1) (by simpa using hj); simpa using this)
    simp only [idxF, h0, Bool.false_eq_true, if_false, this, Option.map_none]
/-- The parameters that are around a place, those of the innermost lambda first. -/
abbrev Env := List (List ByteArray)
/-- How many lambdas out a name is, and which one of its parameters. -/
def findE : Env → ByteArray → Option (Nat × Nat)
  | [], _ => none
  | N :: E, s => match idxF N s with
    | some i => some (0, i)
    | none => (findE E s).map fun p => (p.1 + 1, p.2)
theorem findE_hit {N : List ByteArray} {E : Env} {s : ByteArray} {i : Nat} (h : idxF N s = some i) : findE (N :: E) s = some (0, i) := by simp only [findE, h]
theorem findE_on {N : List ByteArray} {E : Env} {s : ByteArray} (h : idxF N s = none) : findE (N :: E) s = (findE E s).map fun p => (p.1 + 1, p.2) := by simp only [findE, h]
/-- A name that may be given. -/
def symP (l : List Dat) (a : Int) : Bool := kindAt l a == 3 && !kwB (nameAt l a)
/-- The names of a lambda, or none where one may not be given or is given twice. -/
def parF (l : List Dat) : List Int → List ByteArray → Option (List ByteArray)
  | [], N => some N
  | a :: r, N => if symP l a = true ∧ idxF N (nameAt l a) = none then parF l r (N ++ [nameAt l a]) else none
/-- The names and the values of a let, taken pair by pair. -/
def letF (l : List Dat) : List Int → List ByteArray → List Int → Option (List ByteArray × List Int)
  | [], N, V => some (N, V)
  | a :: r, N, V => match partsD l a with
    | [x, y] => if symP l x = true ∧ idxF N (nameAt l x) = none then letF l r (N ++ [nameAt l x]) (V ++ [y]) else none
    | _ => none
/-- The names and the values, names asked behind all pairs. -/
def letP (l : List Dat) : List Int → Option (List Int × List Int)
  | [] => some ([], [])
  | a :: r => match partsD l a with
    | [x, y] => (letP l r).map fun p => (x :: p.1, y :: p.2)
    | _ => none
theorem letF_eq (l : List Dat) : ∀ (L : List Int) (N : List ByteArray) (V : List Int), letF l L N V = (letP l L).bind fun p => (parF l p.1 N).map fun N' => (N', V ++ p.2)
  | [], N, V => by simp [letF, letP, parF]
  | a :: r, N, V => by
    rcases hp : partsD l a with _ | ⟨x, _ | ⟨y, _ | ⟨z, q⟩⟩⟩
    · simp only [letF, letP, hp]; rfl
    · simp only [letF, letP, hp]; rfl
    · simp only [letF, letP, hp]
      rw [letF_eq l r]
      cases hq : letP l r with
      | none => by_cases hc : symP l x = true ∧ idxF N (nameAt l x) = none <;> simp [hc]
      | some p =>
        by_cases hc : symP l x = true ∧ idxF N (nameAt l x) = none
        · simp [hc, parF, List.append_assoc]
        · simp [hc, parF]
    · simp only [letF, letP, hp]; rfl
/-- One part behind the other, until one has a code. -/
def allF (f : Nat → List Cor → Int × List Cor) : List Int → List Cor → Int × List Cor
  | [], C => (0, C)
  | a :: r, C => if (f a.toNat C).1 = 0 then allF f r (f a.toNat C).2 else f a.toNat C
theorem allF_append (f : Nat → List Cor → Int × List Cor) : ∀ (L : List Int) (a : Int) (C : List Cor), (allF f L C).1 = 0 → allF f (L ++ [a]) C = f a.toNat (allF f L C).2
  | [], a, C, _ => by
    show (if (f a.toNat C).1 = 0 then (0, (f a.toNat C).2) else f a.toNat C) = _
    split
    · rename_i h; show _ = f a.toNat C; rw [← h]
    · rfl
  | b :: r, a, C, h => by
    have e : allF f (b :: r) C = if (f b.toNat C).1 = 0 then allF f r (f b.toNat C).2 else f b.toNat C := rfl
    have e' : allF f (b :: r ++ [a]) C = if (f b.toNat C).1 = 0 then allF f (r ++ [a]) (f b.toNat C).2 else f b.toNat C := rfl
    by_cases hc : (f b.toNat C).1 = 0
    · rw [e, if_pos hc] at h ⊢
      rw [e', if_pos hc]
      exact allF_append f r a _ h
    · rw [e, if_neg hc] at h
      exact absurd h hc
theorem allF_stop (f : Nat → List Cor → Int × List Cor) : ∀ (L R : List Int) (C : List Cor), (allF f L C).1 ≠ 0 → allF f (L ++ R) C = allF f L C
  | [], R, C, h => absurd rfl h
  | b :: r, R, C, h => by
    have e : allF f (b :: r) C = if (f b.toNat C).1 = 0 then allF f r (f b.toNat C).2 else f b.toNat C := rfl
    have e' : allF f (b :: r ++ R) C = if (f b.toNat C).1 = 0 then allF f (r ++ R) (f b.toNat C).2 else f b.toNat C := rfl
    by_cases hc : (f b.toNat C).1 = 0
    · rw [e, if_pos hc] at h ⊢
      rw [e', if_pos hc]
      exact allF_stop f r R _ h
    · rw [e, e', if_neg hc, if_neg hc]
/-- What is to be done with a part: its place, the core that it is below, the names around it, the cores so far. -/
abbrev Expd := Nat → Int → Env → List Cor → Int × List Cor
def coC (k par : Int) (a b : Nat) (z : ByteArray) (d : List Dat) : Cor := ⟨k, par, a, b, z, d⟩
def lamF (l : List Dat) (f : Expd) (p : List Int) (par : Int) (E : Env) (C : List Cor) : Int × List Cor :=
  if p.length = 3 ∧ kindAt l (p.getD 1 0) = 4 then match parF l (partsD l (p.getD 1 0)) [] with
    | none => (1, C)
    | some N => if 3 < N.length then (2, C) else f (p.getD 2 0).toNat C.length (N :: E) (C ++ [coC 5 par N.length 0 ⟨#[]⟩ []])
  else (1, C)
def letG (l : List Dat) (f : Expd) (p : List Int) (par : Int) (E : Env) (C : List Cor) : Int × List Cor :=
  if p.length = 3 ∧ kindAt l (p.getD 1 0) = 4 then match letF l (partsD l (p.getD 1 0)) [] [] with
    | none => (1, C)
    | some (N, V) => if 3 < N.length then (2, C) else
      if (f (p.getD 2 0).toNat ((C.length + 1 : Nat) : Int) (N :: E) (C ++ [coC 9 par 0 0 ⟨#[]⟩ []] ++ [coC 5 C.length N.length 0 ⟨#[]⟩ []])).1 = 0 then
        allF (fun a D => f a C.length E D) V (f (p.getD 2 0).toNat ((C.length + 1 : Nat) : Int) (N :: E) (C ++ [coC 9 par 0 0 ⟨#[]⟩ []] ++ [coC 5 C.length N.length 0 ⟨#[]⟩ []])).2
      else f (p.getD 2 0).toNat ((C.length + 1 : Nat) : Int) (N :: E) (C ++ [coC 9 par 0 0 ⟨#[]⟩ []] ++ [coC 5 C.length N.length 0 ⟨#[]⟩ []])
  else (1, C)
def asgF (l : List Dat) (f : Expd) (k : Int) (p : List Int) (par : Int) (E : Env) (C : List Cor) : Int × List Cor :=
  if p.length = 3 ∧ ¬ (k = 8 ∧ par ≠ -1) ∧ symP l (p.getD 1 0) = true ∧ findE E (nameAt l (p.getD 1 0)) = none then
    f (p.getD 2 0).toNat C.length E (C ++ [coC k par 0 0 (nameAt l (p.getD 1 0)) []])
  else (1, C)
/-- A keyword's form. -/
def formF (l : List Dat) (f : Expd) (z : ByteArray) (p : List Int) (par : Int) (E : Env) (C : List Cor) : Int × List Cor :=
  if (z.toList == [113, 117, 111, 116, 101]) = true then (if p.length = 2 then (0, C ++ [coC 1 par 0 0 ⟨#[]⟩ (subD l (p.getD 1 0).toNat)]) else (1, C))
  else if (z.toList == [105, 102]) = true then (if p.length = 4 then allF (fun a D => f a C.length E D) (p.drop 1) (C ++ [coC 4 par 0 0 ⟨#[]⟩ []]) else (1, C))
  else if (z.toList == [98, 101, 103, 105, 110]) = true then (if 2 ≤ p.length then allF (fun a D => f a C.length E D) (p.drop 1) (C ++ [coC 6 par 0 0 ⟨#[]⟩ []]) else (1, C))
  else if (z.toList == [108, 97, 109, 98, 100, 97]) = true then lamF l f p par E C
  else if (z.toList == [108, 101, 116]) = true then letG l f p par E C
  else if (z.toList == [100, 101, 102, 105, 110, 101]) = true then asgF l f 8 p par E C
  else asgF l f 7 p par E C
/-- A datum as a form. -/
def expF (l : List Dat) : Nat → Expd
  | 0, _, _, _, C => (1, C)
  | n + 1, a, par, E, C =>
    if kindAt l a = 1 ∨ kindAt l a = 2 then (0, C ++ [coC 1 par 0 0 ⟨#[]⟩ (subD l a)])
    else if kindAt l a = 3 then
      if kwB (nameAt l a) = true then (1, C)
      else match findE E (nameAt l a) with
        | some (o, i) => (0, C ++ [coC 2 par o i ⟨#[]⟩ []])
        | none => (0, C ++ [coC 3 par 0 0 (nameAt l a) []])
    else if (partsD l a).length = 0 then (1, C)
    else if kindAt l ((partsD l a).getD 0 0) = 3 ∧ kwB (nameAt l ((partsD l a).getD 0 0)) = true then formF l (expF l n) (nameAt l ((partsD l a).getD 0 0)) (partsD l a) par E C
    else if 4 < (partsD l a).length then (2, C)
    else allF (fun b D => expF l n b C.length E D) (partsD l a) (C ++ [coC 9 par 0 0 ⟨#[]⟩ []])
def expD (l : List Dat) : Int × List Cor :=
  if dataFault l ≠ 0 then (dataFault l, [])
  else if (expF l l.length 0 (-1) [] []).1 ≠ 0 then ((expF l l.length 0 (-1) [] []).1, [])
  else if 160 < (expF l l.length 0 (-1) [] []).2.length then (2, [])
  else (0, (expF l l.length 0 (-1) [] []).2)
theorem mem_partsTo {l : List Dat} {a b : Int} : ∀ {k : Nat}, b ∈ partsTo l a k → ∃ j : Nat, j < k ∧ b = (j : Int) ∧ par l j = a
  | 0, h => by simp [partsTo] at h
  | k + 1, h => by
    simp only [partsTo] at h
    split at h
    · rename_i hp
      rcases List.mem_append.1 h with h | h
      · obtain ⟨j, h1, h2⟩ := mem_partsTo h
        exact ⟨j, by omega, h2⟩
      · exact ⟨k, by omega, by simpa using h, hp⟩
    · obtain ⟨j, h1, h2⟩ := mem_partsTo h
      exact ⟨j, by omega, h2⟩
/-- Parts stand behind what they are parts of. -/
theorem mem_partsD {l : List Dat} (hF : Fine l) {a : Nat} {b : Int} (h : b ∈ partsD l a) : ∃ j : Nat, b = (j : Int) ∧ j < l.length ∧ a < j := by
  obtain ⟨j, h1, h2, h3⟩ := mem_partsTo h
  refine ⟨j, h2, h1, ?_⟩
  have hp := (hF.parent j h1).1
  rw [par_at l j h1] at h3
  omega
end Go.Proofs.YtfdkklhigliciaaGreatDoor
/-
  Slices of texts: what the laws' eqStringS, toStringS and szStringS answer; nothing that was there is turned.
-/
namespace Go.Proofs.YtfdkklhigliciaaGreatDoor
open Go.RowKit Go.Extern.Stop Go.Stop Go.Extern Num Go.Lib

def cellsT (l : List ByteArray) : List Value := l.map (Value.string)
theorem cellsT_length (l : List ByteArray) : (cellsT l).length = l.length := by simp [cellsT]
theorem cellsT_append (a b : List ByteArray) : cellsT (a ++ b) = cellsT a ++ cellsT b := by simp [cellsT]
theorem infoT : (Tryz.prog.info? 9).map (fun i => (i.zero, i.size, i.bytes)) = some (some (.string ⟨#[]⟩), 1, 16) := by kernel_rfl
theorem rowT_at {w : World} {base g cap : Nat} {l : List ByteArray} (h : w.ownsRow base 9 1 (.slice (some ⟨g, 0, none⟩) l.length cap) l.length (cellsT l)) (k : Nat) (hk : k < l.length) :
    w.cell? ⟨g, k, none⟩ = some (.string l[k]) := by
  have ha : ∀ j, (⟨g, 0, none⟩ : Addr).add j = ⟨g, j, none⟩ := fun j => by unfold Addr.add; split <;> simp_all
  rw [← ha]
  exact h.cells (g := g) rfl k _ (by simp [cellsT, hk])
theorem newsT {W : World} {b : Nat} {x : Value} {ty : TypeId} {fr : Nat × Nat} (h : W.heap[b]? = some (.cells #[x] ty fr)) : ∀ j u, [x][j]? = some u → W.cell? ((⟨b, 0, none⟩ : Addr).add j) = some u := by
  intro j u hj
  have ha : ∀ j, (⟨b, 0, none⟩ : Addr).add j = ⟨b, j, none⟩ := fun j => by unfold Addr.add; split <;> simp_all
  rw [ha, cell_of_row W b j _ ty fr h]
  match j, hj with
  | 0, hj => simpa using hj
/-- What lies where a slice leads that came in. -/
def MemT (w : World) (a : Option Addr) (l : List ByteArray) : Prop :=
  0 < l.length → ∃ b off, a = some ⟨b, off, none⟩ ∧ ∀ (k : Nat) (h : k < l.length), w.cell? ⟨b, off + k, none⟩ = some (.string l[k])
theorem MemT.below {w w' : World} {a : Option Addr} {l : List ByteArray} (h : MemT w a l) (hb : Below w.heap.size w w') : MemT w' a l := by
  intro hl
  obtain ⟨b, off, e, hc⟩ := h hl
  exact ⟨b, off, e, fun k hk => cell_keep hb (hc k hk)⟩
theorem MemT.of {w : World} {base g cap : Nat} {l : List ByteArray} (h : w.ownsRow base 9 1 (.slice (some ⟨g, 0, none⟩) l.length cap) l.length (cellsT l)) : MemT w (some ⟨g, 0, none⟩) l :=
  fun _ => ⟨g, 0, rfl, fun k hk => by rw [Nat.zero_add]; exact rowT_at h k hk⟩
/-- How much a slice holds. -/
def SZT (l : List ByteArray) (w : World) (e : Ending) (w' : World) : Prop :=
  ((e = .returned (.int .i64 (-1))) ∨ (∃ q : Nat, q ≤ 1048576 ∧ e = .returned (.int .i64 (q : Int)) ∧ l.length ≤ 1048576 ∧ ∀ (k : Nat) (h : k < l.length), l[k].size ≤ 1048576)) ∧ Below w.heap.size w w'
theorem takeT (l : List ByteArray) (k : Nat) (h : k < l.length) : l.take (k + 1) = l.take k ++ [l[k]] := by
  rw [List.take_add_one, List.getElem?_eq_getElem h]; rfl
theorem makeT (n : Nat) (hn : n ≤ 1048576) (w : World) : (Instr.makeSlice 113 (.int .i64 (n : Int)) (.int .i64 (n : Int))).run Tryz.prog w = .ok (.slice (some ⟨w.heap.size, 0, none⟩) n n) (w.alloc (.cells (madeCells #[.string ⟨#[]⟩] n) 9)) := by
  obtain ⟨i0, hi, hz0, hz1, hz2⟩ := info_parts infoT
  have := run_make (P := Tryz.prog) w 113 9 i0 _ Tryz.underlying113 hi hz0 .i64 .i64 (n : Int) (n : Int) (by omega) (by omega) (by rw [hz2]; omega) (by omega)
  rw [this, hz1]
  simp [Value.cells]
theorem madeT (n : Nat) (hn : n ≤ 1048576) (w : World) : (w.alloc (.cells (madeCells #[.string ⟨#[]⟩] n) 9)).ownsRow w.heap.size 9 1 (.slice (some ⟨w.heap.size, 0, none⟩) n n) n (madeCells #[.string ⟨#[]⟩] n).toList :=
  ⟨by simp [madeCells], .inr ⟨w.heap.size, n, _, rfl, Nat.le_refl _, heap_alloc_new w _, Nat.le_refl _, by unfold maxLen; omega, by simp [madeCells], by rw [List.take_of_length_le]; simp [madeCells]⟩⟩
theorem putT (xs A : List Value) (k : Nat) (a : Value) (h : xs.take k = A) (hl : k + 1 ≤ xs.length) : (xs.set k a).take (k + 1) = A ++ [a] := by
  rw [List.take_add_one, List.getElem?_set_self (by omega), ← h, List.take_set_of_le (Nat.le_refl _)]
  rfl
/-- One stored into its place. -/
theorem putT_next {wr : World} {base g n k : Nat} {xs A : List Value} {t : ByteArray} (ho : wr.ownsRow base 9 1 (.slice (some ⟨g, 0, none⟩) n n) n xs) (hA : xs.take k = A) (hk : k < n) :
    ∃ ys, (wr.setCell ⟨g, k, none⟩ (.string t)).ownsRow base 9 1 (.slice (some ⟨g, 0, none⟩) n n) n ys ∧ ys.take (k + 1) = A ++ [.string t] :=
  ⟨_, own_put ho _ _, putT xs A k _ hA (by have := ho.1; omega)⟩
end Go.Proofs.YtfdkklhigliciaaGreatDoor
/-
  The model's maker of cores: what lies in it, and what is kept while it grows; l4Put and l4Bind.
-/
namespace Go.Proofs.YtfdkklhigliciaaGreatDoor
open Go.RowKit Go.Extern.Stop Go.Stop Go.Extern Num Go.Lib

/-- Names of a lambda, what is around it, and where its names lie. -/
abbrev Frm := List ByteArray × Int × Value
def cellsFr : List Frm → List Value
  | [] => []
  | t :: r => [t.2.2, .int .i64 t.2.1] ++ cellsFr r
theorem cellsFr_append (a b : List Frm) : cellsFr (a ++ b) = cellsFr a ++ cellsFr b := by
  induction a with
  | nil => rfl
  | cons t r ih => simp [cellsFr, ih]
theorem cellsFr_at (l : List Frm) (k : Nat) (h : k < l.length) : (cellsFr l)[k * 2]? = some l[k].2.2 ∧ (cellsFr l)[k * 2 + 1]? = some (.int .i64 l[k].2.1) := by
  induction l generalizing k with
  | nil => cases h
  | cons t r ih =>
    cases k with
    | zero => exact ⟨rfl, rfl⟩
    | succ k =>
      have hk : k < r.length := by simpa using h
      have := ih k hk
      rw [show (k + 1) * 2 = k * 2 + 2 by omega, show k * 2 + 2 + 1 = k * 2 + 1 + 2 by omega]
      simpa [cellsFr] using this
theorem infoFr : (Tryz.prog.info? 115).map (fun i => (i.zero, i.size, i.bytes)) = some (some (.agg #[.slice none 0 0, .int .i64 0]), 2, 32) := by kernel_rfl
/-- What lies above a base lies as it lay, but for rows of cores and of frames. -/
structure Kp (B : Nat) (w w' : World) : Prop where
  size : w.heap.size ≤ w'.heap.size
  blk : ∀ (r : Nat) (o : Obj), B ≤ r → w.heap[r]? = some o → (∀ xs T fr, o = .cells xs T fr → T ≠ 78 ∧ T ≠ 115) → w'.heap[r]? = some o
theorem Kp.refl (B : Nat) (w : World) : Kp B w w := ⟨Nat.le_refl _, fun _ _ _ h _ => h⟩
theorem Kp.trans {B : Nat} {w w1 w2 : World} (h : Kp B w w1) (h' : Kp B w1 w2) : Kp B w w2 :=
  ⟨Nat.le_trans h.size h'.size, fun r o hr ho ht => h'.blk r o hr (h.blk r o hr ho ht) ht⟩
theorem Kp.of_below {B : Nat} {w w' : World} (h : Below w.heap.size w w') : Kp B w w' :=
  ⟨h.size, fun r o _ ho _ => by rw [h.block r (Array.getElem?_eq_some_iff.1 ho).1]; exact ho⟩
theorem Kp.own {B : Nat} {w w' : World} (h : Kp B w w') {e : TypeId} {size n : Nat} {v : Value} {xs : List Value} (h1 : e ≠ 78) (h2 : e ≠ 115) (ho : w.ownsRow B e size v n xs) : w'.ownsRow B e size v n xs := by
  refine ⟨ho.1, ?_⟩
  rcases ho.2 with hn | ⟨g, cap, cur, rfl, hbg, hgg, rest⟩
  · exact .inl hn
  · exact .inr ⟨g, cap, cur, rfl, hbg, h.blk g _ hbg hgg (fun xs T fr e' => by injection e' with _ e2 _; subst e2; exact ⟨h1, h2⟩), rest⟩
theorem Kp.cell {B : Nat} {w w' : World} (h : Kp B w w') {r : Nat} {cs : Array Value} {T : TypeId} {fr : Nat × Nat} (hr : B ≤ r) (h1 : T ≠ 78) (h2 : T ≠ 115) (ho : w.heap[r]? = some (.cells cs T fr)) : w'.heap[r]? = some (.cells cs T fr) :=
  h.blk r _ hr ho (fun xs T' fr' e' => by injection e' with _ e2 _; subst e2; exact ⟨h1, h2⟩)
theorem Kp.put {B m f : Nat} {w u w1 : World} {e : TypeId} {size n : Nat} {v v' : Value} {xs : List Value} (hm : m < B) (hb : Below w.heap.size w u) (hg : u.grownBy w1 v.ownBlock) (ho : w.ownsRow B e size v n xs) (he : e = 78 ∨ e = 115) : Kp B w (w1.setCell ⟨m, f, none⟩ v') := by
  refine ⟨by have := hb.size; have := hg.size; simp; omega, fun r o hr hro ht => ?_⟩
  have hlt := (Array.getElem?_eq_some_iff.1 hro).1
  rw [Below.heap_setCell _ _ _ _ (by show r ≠ m; omega)]
  by_cases hv : some r = v.ownBlock
  · exfalso
    rcases ho.2 with ⟨rfl, _⟩ | ⟨g, cap, cur, rfl, _, hgg, _⟩
    · cases hv
    · have : r = g := by simpa [Value.ownBlock] using hv
      subst this
      rw [hgg] at hro
      injection hro with hro
      obtain ⟨a, b⟩ := ht _ _ _ hro.symm
      rcases he with rfl | rfl
      · exact a rfl
      · exact b rfl
  · rw [hg.block r (Nat.lt_of_lt_of_le hlt hb.size) hv, hb.block r hlt]
    exact hro
/-- The maker: the data, the cores and their data, the frames and their names. -/
structure Mk (w : World) (B m g dc : Nat) (d : List Dat) (P : List (Cor × Value)) (F : List Frm) : Prop where
  lo : m < B
  hi : B ≤ w.heap.size
  low : g < m
  hd : w.cell? ⟨m, 0, none⟩ = some (.slice (some ⟨g, 0, none⟩) d.length dc)
  hC : ∃ v, Fld w B m 1 78 6 v P.length (cellsC P)
  hF : ∃ v, Fld w B m 2 115 2 v F.length (cellsFr F)
  fz : ∀ o, w.frozen? ⟨m, o, none⟩ = false
  row : RowD w g d
  dat : ∀ x ∈ P, w.ownsRow B 49 4 x.2 x.1.data.length (cellsD x.1.data)
  nam : ∀ x ∈ F, w.ownsRow B 9 1 x.2.2 x.1.length (cellsT x.1)
theorem RowD.low {w w' : World} {g m : Nat} {l : List Dat} (h : RowD w g l) (hb : Below m w w') (hg : g < m) : RowD w' g l := fun k hk =>
  ⟨(hb.cell (p := ⟨g, _, none⟩) hg).trans (h k hk).1, (hb.cell (p := ⟨g, _, none⟩) hg).trans (h k hk).2.1, (hb.cell (p := ⟨g, _, none⟩) hg).trans (h k hk).2.2.1, (hb.cell (p := ⟨g, _, none⟩) hg).trans (h k hk).2.2.2⟩
theorem Mk.below {w w' : World} {B m g dc : Nat} {d : List Dat} {P : List (Cor × Value)} {F : List Frm} (h : Mk w B m g dc d P F) (hb : Below w.heap.size w w') : Mk w' B m g dc d P F := by
  obtain ⟨v, hv⟩ := h.hC
  obtain ⟨u, hu⟩ := h.hF
  exact ⟨h.lo, Nat.le_trans h.hi hb.size, h.low, cell_keep hb h.hd, ⟨v, hv.below hb⟩, ⟨u, hu.below hb⟩, fun o => by rw [(bcell hb).2 _ _ (lt_of_cell h.hd)]; exact h.fz o, h.row.below hb, fun x hx => own_below (h.dat x hx) hb, fun x hx => own_below (h.nam x hx) hb⟩
theorem own_neT {u : World} {base x size n : Nat} {e T : TypeId} {v : Value} {xs : List Value} {cs : Array Value} {fz : Nat × Nat} (h : u.ownsRow base e size v n xs) (hx : u.heap[x]? = some (.cells cs T fz)) (hne : e ≠ T) : ∀ g, v.ownBlock = some g → g ≠ x := by
  intro g hg hgx
  rcases h.2 with ⟨rfl, _⟩ | ⟨g', cap, cur, rfl, _, hgg, _⟩
  · cases hg
  · have : g' = g := by simpa [Value.ownBlock] using hg
    subst this
    subst hgx
    rw [hgg] at hx
    injection hx with h1
    injection h1 with _ h2 _
    exact hne h2
/-- A row of the maker has grown, and its cell names it. -/
def AddK (B m f : Nat) (e : TypeId) (size : Nat) (v : Value) (n : Nat) (xs : List Value) (w w' : World) : Prop :=
  ∃ u w1 g' c', Below w.heap.size w u ∧ u.grownBy w1 v.ownBlock ∧ w1.ownsRow B e size (.slice (some ⟨g', 0, none⟩) n c') n xs ∧ (v.ownBlock = some g' ∨ u.heap.size = g') ∧ w' = w1.setCell ⟨m, f, none⟩ (.slice (some ⟨g', 0, none⟩) n c')
theorem typ_nex : (49 : TypeId) ≠ 78 ∧ (49 : TypeId) ≠ 115 ∧ (9 : TypeId) ≠ 78 ∧ (9 : TypeId) ≠ 115 ∧ (78 : TypeId) ≠ 115 := by decide
theorem AddK.keep {B m f : Nat} {e : TypeId} {size n n0 : Nat} {v : Value} {xs xs0 : List Value} {w w' : World} (hm : m < B) (hB : B ≤ w.heap.size) (h : Fld w B m f e size v n0 xs0) (he : e = 78 ∨ e = 115) (ha : AddK B m f e size v n xs w w') : Kp B w w' ∧ Below m w w' := by
  obtain ⟨u, w1, g', c', hb, hg, ho, hat, rfl⟩ := ha
  refine ⟨Kp.put hm hb hg h.2.1 he, ?_⟩
  exact Below.setCell ((hb.mono (show m ≤ w.heap.size by omega)).grown hg (by have := hb.size; omega) (fun k hk => by have := (h.2.1.lt k hk).1; omega)) (show m ≤ m from Nat.le_refl _) _
theorem AddK.fld {B m f : Nat} {e : TypeId} {size n n0 : Nat} {v : Value} {xs xs0 : List Value} {w w' : World} (h : Fld w B m f e size v n0 xs0) (ha : AddK B m f e size v n xs w w') : ∃ v', Fld w' B m f e size v' n xs := by
  obtain ⟨u, w1, g', c', hb, hg, ho, hat, rfl⟩ := ha
  refine ⟨_, (h.below hb).put hg ho fun g hgg => ?_⟩
  have : g' = g := by simpa [Value.ownBlock] using hgg
  subst this
  rcases hat with h1 | h1
  · exact .inl h1
  · right; omega
theorem AddK.other {B m f f' : Nat} {e e' : TypeId} {size size' n n0 k : Nat} {v v2 : Value} {xs xs0 ys : List Value} {w w' : World} (h : Fld w B m f e size v n0 xs0) (h2 : Fld w B m f' e' size' v2 k ys) (hf : f ≠ f') (he : e' ≠ e) (ha : AddK B m f e size v n xs w w') : Fld w' B m f' e' size' v2 k ys := by
  obtain ⟨u, w1, g', c', hb, hg, ho, hat, rfl⟩ := ha
  refine (h2.below hb).other hg (fun e => h.2.2 m e rfl) (fun g hgg e2 => ?_) hf _
  rcases h.2.1.2 with ⟨rfl, _⟩ | ⟨g2, cap, cur, rfl, _, hg2, _⟩
  · cases e2
  · have : g2 = g := by simpa [Value.ownBlock] using e2
    subst this
    exact own_neT h2.2.1 hg2 he g2 hgg rfl
theorem AddK.cells {B m f o : Nat} {e : TypeId} {size n n0 : Nat} {v c : Value} {xs xs0 : List Value} {w w' : World} (h : Fld w B m f e size v n0 xs0) (hc : w.cell? ⟨m, o, none⟩ = some c) (hf : f ≠ o) (fz : ∀ o, w.frozen? ⟨m, o, none⟩ = false) (ha : AddK B m f e size v n xs w w') : w'.cell? ⟨m, o, none⟩ = some c ∧ ∀ o, w'.frozen? ⟨m, o, none⟩ = false := by
  obtain ⟨u, w1, g', c', hb, hg, ho, hat, rfl⟩ := ha
  have hne : v.ownBlock ≠ some m := fun e => h.2.2 m e rfl
  refine ⟨?_, fun o => ?_⟩
  · rw [World.cell?_setCell_other _ _ _ _ (by intro e; apply hf; injection e)]
    exact (afterGrow hb hc (fz o) hg hne).1
  · rw [World.frozen?_setCell, World.frozen?_of_block (a := ⟨m, o, none⟩) (hg.block m (lt_of_cell (cell_keep hb h.1)) (Ne.symm hne)), (bcell hb).2 m o h.lt]
    exact fz o
theorem Mk.put {w w' : World} {B m g dc : Nat} {d : List Dat} {P Q : List (Cor × Value)} {F : List Frm} {v : Value} (h : Mk w B m g dc d P F) (hv : Fld w B m 1 78 6 v P.length (cellsC P)) (ha : AddK B m 1 78 6 v Q.length (cellsC Q) w w') (hq : ∀ x ∈ Q, w.ownsRow B 49 4 x.2 x.1.data.length (cellsD x.1.data)) : Mk w' B m g dc d Q F ∧ Kp B w w' ∧ Below m w w' := by
  obtain ⟨u, hu⟩ := h.hF
  obtain ⟨hk, hb⟩ := ha.keep h.lo h.hi hv (.inl rfl)
  obtain ⟨t1, t2, t3, t4, t5⟩ := typ_nex
  obtain ⟨c0, fz⟩ := ha.cells hv h.hd (by omega) h.fz
  exact ⟨⟨h.lo, Nat.le_trans h.hi hk.size, h.low, c0, ha.fld hv, ⟨u, ha.other hv hu (by omega) t5.symm⟩, fz, h.row.low hb h.low, fun x hx => hk.own t1 t2 (hq x hx), fun x hx => hk.own t3 t4 (h.nam x hx)⟩, hk, hb⟩
theorem Mk.bind {w w' : World} {B m g dc : Nat} {d : List Dat} {P : List (Cor × Value)} {F G : List Frm} {v : Value} (h : Mk w B m g dc d P F) (hv : Fld w B m 2 115 2 v F.length (cellsFr F)) (ha : AddK B m 2 115 2 v G.length (cellsFr G) w w') (hq : ∀ x ∈ G, w.ownsRow B 9 1 x.2.2 x.1.length (cellsT x.1)) : Mk w' B m g dc d P G ∧ Kp B w w' ∧ Below m w w' := by
  obtain ⟨u, hu⟩ := h.hC
  obtain ⟨hk, hb⟩ := ha.keep h.lo h.hi hv (.inr rfl)
  obtain ⟨t1, t2, t3, t4, t5⟩ := typ_nex
  obtain ⟨c0, fz⟩ := ha.cells hv h.hd (by omega) h.fz
  exact ⟨⟨h.lo, Nat.le_trans h.hi hk.size, h.low, c0, ⟨u, ha.other hv hu (by omega) t5⟩, ha.fld hv, fz, h.row.low hb h.low, fun x hx => hk.own t1 t2 (h.dat x hx), fun x hx => hk.own t3 t4 (hq x hx)⟩, hk, hb⟩
end Go.Proofs.YtfdkklhigliciaaGreatDoor
