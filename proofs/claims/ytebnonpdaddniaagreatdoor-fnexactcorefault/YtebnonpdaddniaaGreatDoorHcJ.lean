/-
  Parts of the proof laid into one text, one behind the other; each says at its head what is proved in it.
-/
import Derived.Test.YtebnonpdaddniaaGreatDoorRows
import Derived.WalkKit
import Derived.ProofKit
import Derived.Below
import Derived.RangeFuncRecord
import Derived.Test.YtebnonpdaddniaaGreatDoorRegion
import Derived.Test.YtebnonpdaddniaaGreatDoorAddCHc
import Derived.Test.YtebnonpdaddniaaGreatDoorHcH
import Derived.Test.YtebnonpdaddniaaGreatDoorHcI
/-
  The program's IsKeyword and its model: whether a text is one of the seven keywords; nothing that was there is turned. The exact law of IsKeyword answers true at every text.
-/
namespace Go.Proofs.YtebnonpdaddniaaGreatDoor
open Go.RowKit

/-- The keywords. -/
def kwS : List ByteArray := [⟨#[113, 117, 111, 116, 101]⟩, ⟨#[105, 102]⟩, ⟨#[108, 97, 109, 98, 100, 97]⟩, ⟨#[108, 101, 116]⟩, ⟨#[98, 101, 103, 105, 110]⟩, ⟨#[100, 101, 102, 105, 110, 101]⟩, ⟨#[115, 101, 116, 33]⟩]
def kwB (s : ByteArray) : Bool := kwS.any fun k => k.toList == s.toList
theorem kwB_eq (s : ByteArray) : kwB s = (s.toList == [113, 117, 111, 116, 101] || (s.toList == [105, 102] || (s.toList == [108, 97, 109, 98, 100, 97] || (s.toList == [108, 101, 116] || (s.toList == [98, 101, 103, 105, 110] || (s.toList == [100, 101, 102, 105, 110, 101] || s.toList == [115, 101, 116, 33])))))) := by
  have e : ∀ a b : List UInt8, (a == b) = (b == a) := fun a b => by
    by_cases h : a = b
    · subst h; rfl
    · rw [beq_false_of_ne h, beq_false_of_ne (fun h' => h h'.symm)]
  simp only [kwB, kwS, List.any_cons, List.any_nil, Bool.or_false]
  rw [e _ s.toList, e _ s.toList, e _ s.toList, e _ s.toList, e _ s.toList, e _ s.toList, e _ s.toList]
  simp only [ByteArray.toList_eq]
theorem implKw_any (s : ByteArray) (w : World) :
    Calls Tryz.prog 185 #[.string s] w fun e w' => e = .returned (.bool (kwB s)) ∧ w' = w := by
  obtain ⟨R, hR⟩ : ∃ R : Bool, R = kwB s := ⟨_, rfl⟩
  rw [← hR]
  rw [kwB_eq] at hR
  have HR : Hid (R = (s.toList == [113, 117, 111, 116, 101] || (s.toList == [105, 102] || (s.toList == [108, 97, 109, 98, 100, 97] || (s.toList == [108, 101, 116] || (s.toList == [98, 101, 103, 105, 110] || (s.toList == [100, 101, 102, 105, 110, 101] || s.toList == [115, 101, 116, 33]))))))) := hR
  clear hR
  go_enter Tryz.func185, Tryz.ntmps185
  go_wp2
  all_goals first
    | (exfalso; simp_all; done)
    | (go_ret; exact ⟨by rw [show R = _ from HR.out]; simp [*], rfl⟩)
theorem kw_cell (w : World) (k : Nat) (h : k < kwS.length) : (w.alloc (.cells #[.string ⟨#[113, 117, 111, 116, 101]⟩, .string ⟨#[105, 102]⟩, .string ⟨#[108, 97, 109, 98, 100, 97]⟩, .string ⟨#[108, 101, 116]⟩, .string ⟨#[98, 101, 103, 105, 110]⟩, .string ⟨#[100, 101, 102, 105, 110, 101]⟩, .string ⟨#[115, 101, 116, 33]⟩] 9)).cell? ⟨w.heap.size, k, none⟩ = some (.string kwS[k]) := by
  have hk : k < 7 := h
  have : k = 0 ∨ k = 1 ∨ k = 2 ∨ k = 3 ∨ k = 4 ∨ k = 5 ∨ k = 6 := by omega
  rcases this with rfl | rfl | rfl | rfl | rfl | rfl | rfl <;> (simp only [World.cell?, World.alloc_heap_new]; rfl)
set_option maxHeartbeats 1000000 in
theorem specKw_any (s : ByteArray) (w : World) :
    Calls Tryz.prog 104 #[.string s] w fun e w' => e = .returned (.bool (kwB s)) ∧ Below w.heap.size w w' := by
  obtain ⟨R, hR⟩ : ∃ R : Bool, R = kwB s := ⟨_, rfl⟩
  rw [← hR]
  have HR : Hid (R = kwB s) := hR
  clear hR
  have HC : Hid (∀ (k : Nat) (h : k < kwS.length), (w.alloc (.cells #[.string ⟨#[113, 117, 111, 116, 101]⟩, .string ⟨#[105, 102]⟩, .string ⟨#[108, 97, 109, 98, 100, 97]⟩, .string ⟨#[108, 101, 116]⟩, .string ⟨#[98, 101, 103, 105, 110]⟩, .string ⟨#[100, 101, 102, 105, 110, 101]⟩, .string ⟨#[115, 101, 116, 33]⟩] 9)).cell? ⟨w.heap.size, k, none⟩ = some (.string kwS[k])) := fun k h => kw_cell w k h
  go_enter Tryz.func104, Tryz.ntmps104
  go_wp2_with fail
  go_loopw [4] (fun i wr => ∃ k : Nat, k ≤ 7 ∧ i = .int .i64 (k : Int) ∧ Hid (∀ j (h : j < kwS.length), j < k → (kwS[j].toList == s.toList) = false) ∧ Hid (wr = (w.alloc (.cells #[.string ⟨#[113, 117, 111, 116, 101]⟩, .string ⟨#[105, 102]⟩, .string ⟨#[108, 97, 109, 98, 100, 97]⟩, .string ⟨#[108, 101, 116]⟩, .string ⟨#[98, 101, 103, 105, 110]⟩, .string ⟨#[100, 101, 102, 105, 110, 101]⟩, .string ⟨#[115, 101, 116, 33]⟩] 9)))) (fun i _ => 7 - (RowKit.intOf i).toNat)
  case atStart => exact ⟨0, Nat.zero_le _, rfl, fun j _ h => by omega, rfl⟩
  case round =>
    obtain ⟨k, hk, rfl, HS, HW⟩ := hrel
    by_cases hlt : k < 7
    · have hc := HC.out k hlt
      rw [← show wr = _ from HW.out] at hc
      have HN : Hid (∀ b, (kwS[k].toList == s.toList) = b → (b = true → R = true) ∧ (b = false → ∀ j (h : j < kwS.length), j < k + 1 → (kwS[j].toList == s.toList) = false)) := fun b hb => ⟨fun h => by
          rw [show R = kwB s from HR.out]
          unfold kwB
          rw [List.any_eq_true]
          exact ⟨kwS[k], List.getElem_mem hlt, by rw [hb, h]⟩, fun h j hj hjk => by
          by_cases e : j = k
          · subst e; exact hb.trans h
          · exact HS.out j hj (by omega)⟩
      generalize kwS[k] = t at hc HN
      cases e : (t.toList == s.toList) with
      | true =>
        have hT := (HN.out _ e).1 rfl
        subst hT
        go_wp2
        go_ret
        exact ⟨rfl, by rw [show wr = _ from HW.out]; exact (Below.refl _ w).alloc (Nat.le_refl _) _⟩
      | false =>
        have HF : Hid _ := (HN.out _ e).2 rfl
        go_wp2
        exact ⟨⟨k + 1, by omega, by go_num, HF, HW⟩, by simp [RowKit.intOf]; omega⟩
    · have hR : R = false := by
        rw [show R = kwB s from HR.out]
        unfold kwB
        rw [List.any_eq_false]
        intro x hx
        obtain ⟨j, hj, rfl⟩ := List.getElem_of_mem hx
        have h7 : j < 7 := hj
        rw [HS.out j hj (by omega)]
        simp
      subst hR
      go_wp2
      go_ret
      exact ⟨rfl, by rw [show wr = _ from HW.out]; exact (Below.refl _ w).alloc (Nat.le_refl _) _⟩
end Go.Proofs.YtebnonpdaddniaaGreatDoor
/-
  What is wrong with cores, plainly: a core's own fault, its place, what it has against those ahead of it, then how many kids each has; and where what hangs on a place ends.
-/
namespace Go.Proofs.YtebnonpdaddniaaGreatDoor
open Go.RowKit

/-- Cores alone as nodes. -/
def zC (l : List Cor) : List (Cor × Value) := l.map fun t => (t, .int .i64 0)
theorem zC_len (l : List Cor) : (zC l).length = l.length := by simp [zC]
theorem zC_at (l : List Cor) (k : Nat) (h : k < l.length) : ((zC l)[k]'(by rw [zC_len]; exact h)).1 = l[k] := by simp [zC]
theorem zC_fst (N : List (Cor × Value)) (k : Nat) : parC N k = parC (zC (N.map Prod.fst)) k := by
  unfold parC zC
  simp only [List.getElem?_map]
  cases N[k]? <;> rfl
theorem zC_take (l : List Cor) (m k : Nat) (h : k < m) : parC (zC (l.take m)) k = parC (zC l) k := by
  unfold parC zC
  simp only [List.getElem?_map, List.getElem?_take, if_pos h]
theorem upF_par {N M : List (Cor × Value)} (m : Nat) (h : ∀ k, k < m → parC N k = parC M k) (hp : ∀ k, k < m → parC N k < (k : Int)) : ∀ (f : Nat) (a : Int), a < m → upFC N f a = upFC M f a
  | 0, _, _ => rfl
  | f + 1, a, ha => by
    by_cases h0 : a < 0
    · rw [upF_negC N _ a h0, upF_negC M _ a h0]
    · obtain ⟨k, rfl⟩ : ∃ k : Nat, a = (k : Int) := ⟨a.toNat, by omega⟩
      have hk : k < m := by omega
      have := hp k hk
      simp only [upFC, if_neg h0, Int.toNat_natCast, h k hk]
      rw [upF_par m h hp f _ (by rw [← h k hk]; omega)]
/-- Its kind, and its A. -/
def kdC (l : List Cor) (k : Nat) : Int := (l[k]?.map (·.kind)).getD 0
def naC (l : List Cor) (k : Nat) : Int := (l[k]?.map (·.a)).getD 0
theorem kdC_at (l : List Cor) (k : Nat) (h : k < l.length) : kdC l k = l[k].kind := by simp [kdC, h]
theorem naC_at (l : List Cor) (k : Nat) (h : k < l.length) : naC l k = l[k].a := by simp [naC, h]
/-- How many parameters the lambda has that is so many out, n of them being passed by. -/
def poF (l : List Cor) (out : Int) : List Int → Int → Int
  | [], _ => 0
  | x :: r, n => if kdC l x.toNat = 5 then (if n = out then naC l x.toNat else poF l out r (n + 1)) else poF l out r n
/-- That lambda's place, as the model looks for it. -/
def aroF (l : List Cor) : List Int → Int → Int
  | [], _ => -1
  | x :: r, o => if kdC l x.toNat = 5 then (if o = 0 then x else aroF l r (o - 1)) else aroF l r o
theorem po_aro (l : List Cor) (out : Int) : ∀ (xs : List Int) (n : Int), (∀ x ∈ xs, 0 ≤ x) → (aroF l xs (out - n) = -1 ∧ poF l out xs n = 0) ∨ (0 ≤ aroF l xs (out - n) ∧ poF l out xs n = naC l (aroF l xs (out - n)).toNat)
  | [], _, _ => .inl ⟨rfl, rfl⟩
  | x :: r, n, h => by
    have h0 := h x (by simp)
    have hr : ∀ x ∈ r, 0 ≤ x := fun y hy => h y (by simp [hy])
    by_cases hk : kdC l x.toNat = 5
    · by_cases hn : n = out
      · have e : out - n = 0 := by omega
        simp only [aroF, poF, if_pos hk, if_pos hn, if_pos e]
        exact .inr ⟨h0, by first | rfl | trivial⟩
      · have e : ¬ out - n = 0 := by omega
        simp only [aroF, poF, if_pos hk, if_neg hn, if_neg e]
        have := po_aro l out r (n + 1) hr
        rw [show out - (n + 1) = out - n - 1 by omega] at this
        exact this
    · simp only [aroF, poF, if_neg hk]
      exact po_aro l out r n hr
/-- Whether a name is one of a global: a symbol, and no keyword. -/
def namC (z : ByteArray) : Bool := symL z.data.toList && !kwB z
/-- What is wrong with what a core has, the i-th one, po the parameters of its lambda. -/
def contC (t : Cor) (i : Nat) (po : Int) : Int :=
  if t.kind = 1 then dataFault t.data
  else if t.kind = 2 then (if 0 ≤ t.b ∧ t.b < po then 0 else 3)
  else if t.kind = 5 then (if 0 ≤ t.a ∧ t.a ≤ 3 then 0 else 3)
  else if t.kind = 3 ∨ t.kind = 7 ∨ t.kind = 8 then (if namC t.name = true then (if t.kind ≠ 8 ∨ i = 0 then 0 else 1) else 5)
  else 0
/-- What is wrong with the i-th core, against those ahead of it. -/
def oneC (l : List Cor) (i : Nat) (t : Cor) : Int :=
  if bareC t = false then 1 else if lfDC (zC (l.take i)) t.parent ≠ 0 then lfDC (zC (l.take i)) t.parent else contC t i (poF l t.a (upLC (zC (l.take i)) t.parent) 0)
def onesC (l : List Cor) : Nat → Nat → Int
  | 0, _ => 0
  | f + 1, i => match l[i]? with | none => 0 | some t => if oneC l i t ≠ 0 then oneC l i t else onesC l f (i + 1)
/-- How many kids a place has. -/
def kidN (l : List Cor) (a : Int) : Nat := (l.filter fun t => t.parent == a).length
def kidsAll (l : List Cor) : Nat → Nat → Bool
  | 0, _ => true
  | f + 1, i => manyK (kdC l i) (kidN l (i : Int)) && kidsAll l f (i + 1)
def coreF (l : List Cor) : Int :=
  if l.length < 1 ∨ 160 < l.length then 2 else if onesC l l.length 0 ≠ 0 then onesC l l.length 0 else if kidsAll l l.length 0 = true then 0 else 1
/-- All is well with the cores up to a place. -/
def okC (l : List Cor) (k : Nat) : Prop := ∀ (j : Nat) (h : j < l.length), j < k → oneC l j l[j] = 0
theorem okC_next {l : List Cor} {k : Nat} (h : okC l k) (hk : k < l.length) (h1 : oneC l k l[k] = 0) : okC l (k + 1) := fun j hj hlt => by
  by_cases e : j = k
  · subst e; exact h1
  · exact h j hj (by omega)
theorem onesC_from {l : List Cor} : ∀ (k : Nat), okC l k → k ≤ l.length → onesC l l.length 0 = onesC l (l.length - k) k
  | 0, _, _ => rfl
  | k + 1, h, hk => by
    have h1 := h k (by omega) (by omega)
    rw [onesC_from k (fun j hj hl => h j hj (by omega)) (by omega), show l.length - k = (l.length - (k + 1)) + 1 by omega]
    simp only [onesC, List.getElem?_eq_getElem (show k < l.length by omega), h1]
    simp
theorem onesC_hit {l : List Cor} {k : Nat} (h : okC l k) (hk : k < l.length) (h1 : oneC l k l[k] ≠ 0) : onesC l l.length 0 = oneC l k l[k] := by
  rw [onesC_from k h (by omega), show l.length - k = (l.length - (k + 1)) + 1 by omega]
  simp only [onesC, List.getElem?_eq_getElem hk, if_pos h1]
theorem onesC_end {l : List Cor} (h : okC l l.length) : onesC l l.length 0 = 0 := by
  rw [onesC_from l.length h (Nat.le_refl _), Nat.sub_self]; rfl
theorem kidsAll_from {l : List Cor} : ∀ (k : Nat), (∀ j, j < k → manyK (kdC l j) (kidN l (j : Int)) = true) → k ≤ l.length → kidsAll l l.length 0 = kidsAll l (l.length - k) k
  | 0, _, _ => rfl
  | k + 1, h, hk => by
    rw [kidsAll_from k (fun j hj => h j (by omega)) (by omega), show l.length - k = (l.length - (k + 1)) + 1 by omega]
    simp only [kidsAll, h k (by omega), Bool.true_and]
theorem kidsAll_hit {l : List Cor} {k : Nat} (h : ∀ j, j < k → manyK (kdC l j) (kidN l (j : Int)) = true) (hk : k < l.length) (h1 : manyK (kdC l k) (kidN l (k : Int)) = false) : kidsAll l l.length 0 = false := by
  rw [kidsAll_from k h (by omega), show l.length - k = (l.length - (k + 1)) + 1 by omega]
  simp only [kidsAll, h1, Bool.false_and]
theorem kidsAll_end {l : List Cor} (h : ∀ j, j < l.length → manyK (kdC l j) (kidN l (j : Int)) = true) : kidsAll l l.length 0 = true := by
  rw [kidsAll_from l.length h (Nat.le_refl _), Nat.sub_self]; rfl
/-- Whose kid a core is, where it has no fault. -/
theorem oneC_parts {l : List Cor} {i : Nat} {t : Cor} (h : oneC l i t = 0) : bareC t = true ∧ lfDC (zC (l.take i)) t.parent = 0 ∧ contC t i (poF l t.a (upLC (zC (l.take i)) t.parent) 0) = 0 := by
  unfold oneC at h
  by_cases h1 : bareC t = false
  · rw [if_pos h1] at h; exact absurd h (by decide)
  · rw [if_neg h1] at h
    by_cases h2 : lfDC (zC (l.take i)) t.parent ≠ 0
    · rw [if_pos h2] at h; exact absurd h h2
    · rw [if_neg h2] at h
      exact ⟨by simpa using h1, Classical.byContradiction h2, h⟩
theorem lf_zero {N : List (Cor × Value)} {p : Int} (h : lfDC N p = 0) : (N.length = 0 ∧ p = -1) ∨ (0 ≤ p ∧ p < N.length ∧ p ∈ upLC N ((N.length : Int) - 1)) := by
  unfold lfDC at h
  by_cases h1 : N.length = 0 ∧ p = -1
  · exact .inl h1
  · rw [if_neg h1] at h
    by_cases h2 : p < 0 ∨ (N.length : Int) ≤ p
    · rw [if_pos h2] at h; exact absurd h (by decide)
    · rw [if_neg h2] at h
      by_cases h3 : p ∈ upLC N ((N.length : Int) - 1)
      · exact .inr ⟨by omega, by omega, h3⟩
      · rw [if_pos h3] at h; exact absurd h (by decide)
theorem okC_par {l : List Cor} {k : Nat} (h : okC l k) (j : Nat) (hj : j < l.length) (hk : j < k) : l[j].parent < (j : Int) ∧ -1 ≤ l[j].parent := by
  have h1 := (oneC_parts (h j hj hk)).2.1
  have hlen : (zC (l.take j)).length = j := by rw [zC_len, List.length_take]; omega
  rcases lf_zero h1 with ⟨e, hp⟩ | ⟨e1, e2, _⟩
  · omega
  · omega
theorem parsC_of {N : List (Cor × Value)} {l : List Cor} {k : Nat} (hk : k ≤ l.length) (hN : N.map Prod.fst = l.take k) (h : okC l k) : ParsC N := fun j hj => by
  have hl : N.length = k := by have := congrArg List.length hN; simp at this; omega
  have e : N[j].1 = l[j]'(by omega) := by
    have : (N.map Prod.fst)[j]'(by simpa using hj) = (l.take k)[j]'(by simp; omega) := by simp only [hN]
    simpa using this
  rw [e]
  exact okC_par h j (by omega) (by omega)
theorem fst_par {N : List (Cor × Value)} {l : List Cor} (hN : N.map Prod.fst = l) (j : Nat) : parC N j = parC (zC l) j := by rw [zC_fst, hN]
theorem par_lt {N : List (Cor × Value)} (hp : ParsC N) (j : Nat) (hj : j < N.length) : parC N j < (j : Int) := by rw [par_atC N j hj]; exact (hp j hj).1
theorem upL_fst {N : List (Cor × Value)} {l : List Cor} (hp : ParsC N) (hN : N.map Prod.fst = l) (a : Int) (ha : a < N.length) : upLC N a = upLC (zC l) a :=
  upF_par N.length (fun k _ => fst_par hN k) (fun k hk => par_lt hp k hk) _ a ha
theorem lf_fst {N : List (Cor × Value)} {l : List Cor} (hp : ParsC N) (hN : N.map Prod.fst = l) (p : Int) : lfDC N p = lfDC (zC l) p := by
  have hl : (zC l).length = N.length := by rw [zC_len, ← hN, List.length_map]
  unfold lfDC
  rw [hl, upL_fst hp hN _ (by omega)]
/-- What is on the chain from a place. -/
theorem upL_mem {N : List (Cor × Value)} (hp : ParsC N) : ∀ (k : Nat) (a : Int), a < N.length → a < k → ∀ x ∈ upLC N a, 0 ≤ x ∧ x ≤ a
  | 0, a, _, h, x, hx => by
    unfold upLC at hx
    rw [upF_negC N _ a (by omega)] at hx; cases hx
  | k + 1, a, ha, h, x, hx => by
    by_cases h0 : a < 0
    · unfold upLC at hx
      rw [upF_negC N _ a h0] at hx; cases hx
    · obtain ⟨j, rfl⟩ : ∃ j : Nat, a = (j : Int) := ⟨a.toNat, by omega⟩
      have hj : j < N.length := by omega
      have hpj := hp j hj
      rw [upL_atC hp j hj] at hx
      rcases List.mem_cons.1 hx with rfl | hx
      · omega
      · have := upL_mem hp k N[j].1.parent (by omega) (by omega) x hx
        omega
theorem upL_pos {N : List (Cor × Value)} (hp : ParsC N) (a : Int) (ha : a < N.length) : ∀ x ∈ upLC N a, 0 ≤ x := fun x hx => (upL_mem hp (a + 1).toNat a ha (by
  by_cases h : a < 0
  · unfold upLC at hx; rw [upF_negC N _ a h] at hx; cases hx
  · omega) x hx).1
/-- Whether the chain of each hangs on the one ahead. -/
def Opn (N : List (Cor × Value)) : Prop := ∀ (j : Nat) (h : j + 1 < N.length), N[j + 1].1.parent ∈ upLC N (j : Int)
/-- Where what hangs on a place ends. -/
theorem endC (N : List (Cor × Value)) (a : Nat) (ha : a < N.length) : ∃ e, EndAtC N a e := by
  suffices H : ∀ (m e : Nat), N.length - e = m → a < e → e ≤ N.length → (∀ (j : Nat) (h : j < N.length), a < j → j < e → (a : Int) ≤ N[j].1.parent) → ∃ e, EndAtC N a e from H _ (a + 1) rfl (by omega) (by omega) (fun j h h1 h2 => by omega)
  intro m
  induction m with
  | zero =>
    intro e h1 h2 h3 h4
    exact ⟨e, h2, h3, h4, fun h => by omega⟩
  | succ m ih =>
    intro e h1 h2 h3 h4
    have he : e < N.length := by omega
    by_cases hq : N[e].1.parent < (a : Int)
    · exact ⟨e, h2, h3, h4, fun _ => hq⟩
    · refine ih (e + 1) (by omega) (by omega) (by omega) (fun j h g1 g2 => ?_)
      by_cases hj : j = e
      · subst hj; omega
      · exact h4 j h g1 (by omega)
theorem upL_past {N : List (Cor × Value)} (hp : ParsC N) (ho : Opn N) {a e : Nat} (hE : EndAtC N a e) : ∀ (k : Nat) (_ : k < N.length), e ≤ k → ∀ x ∈ upLC N (k : Int), x < (a : Int) ∨ (e : Int) ≤ x := by
  have hlt := hE.lt
  suffices H : ∀ m k (_ : k < N.length), k < m → e ≤ k → ∀ x ∈ upLC N (k : Int), x < (a : Int) ∨ (e : Int) ≤ x from fun k hk h => H (k + 1) k hk (by omega) h
  intro m
  induction m with
  | zero => intro k hk h; omega
  | succ m ih =>
    intro k hk hm he x hx
    have hpk := hp k hk
    rw [upL_atC hp k hk] at hx
    rcases List.mem_cons.1 hx with rfl | hx
    · right; omega
    · have low : N[k].1.parent < (a : Int) → x < (a : Int) ∨ (e : Int) ≤ x := fun h => by
        have := upL_mem hp (k + 1) N[k].1.parent (by omega) (by omega) x hx
        left; omega
      by_cases hke : k = e
      · subst hke
        exact low (hE.stop hk)
      · obtain ⟨j, rfl⟩ : ∃ j, k = j + 1 := ⟨k - 1, by omega⟩
        have hm1 := ho j hk
        rcases ih j (by omega) (by omega) (by omega) _ hm1 with h | h
        · exact low h
        · obtain ⟨q, hq⟩ : ∃ q : Nat, N[j + 1].1.parent = (q : Int) := ⟨N[j + 1].1.parent.toNat, by omega⟩
          rw [hq] at hx
          exact ih q (by omega) (by omega) (by omega) x hx
theorem par_past {N : List (Cor × Value)} (hp : ParsC N) (ho : Opn N) {a e : Nat} (hE : EndAtC N a e) (k : Nat) (hk : k < N.length) (he : e ≤ k) : N[k].1.parent ≠ (a : Int) := by
  have hlt := hE.lt
  by_cases hke : k = e
  · subst hke
    have := hE.stop hk
    omega
  · obtain ⟨j, rfl⟩ : ∃ j, k = j + 1 := ⟨k - 1, by omega⟩
    rcases upL_past hp ho hE j (by omega) (by omega) _ (ho j hk) with h | h <;> omega
theorem tellC_at (N : List (Cor × Value)) (a : Nat) : ∀ m, a + m ≤ N.length → (tellNC N a m).map (·.2) = (N.drop a).take m
  | 0, _ => by simp [tellNC]
  | m + 1, h => by
    rw [tellN_nextC N a m (by omega), List.map_append, tellC_at N a m (by omega), List.take_add_one]
    simp [List.getElem?_drop, show a + m < N.length by omega]
/-- The kids that are told are all. -/
theorem kids_count {N : List (Cor × Value)} {l : List Cor} (hp : ParsC N) (ho : Opn N) (hN : N.map Prod.fst = l) {a e : Nat} (hE : EndAtC N a e) : (kidsTC (a : Int) (tellNC N a (e - a))).length = kidN l (a : Int) := by
  have h1 := hE.lt
  have h2 := hE.le
  have e1 : (kidsTC (a : Int) (tellNC N a (e - a))).length = (((N.drop a).take (e - a)).filter fun x => x.1.parent == (a : Int)).length := by
    rw [← tellC_at N a (e - a) (by omega), List.filter_map, List.length_map]
    unfold kidsTC
    rw [List.length_map]
    rfl
  have e2 : kidN l (a : Int) = (N.filter fun x => x.1.parent == (a : Int)).length := by
    unfold kidN
    rw [← hN, List.filter_map, List.length_map]
    rfl
  have e3 : N = N.take a ++ ((N.drop a).take (e - a) ++ N.drop e) := by
    have : (N.drop a).drop (e - a) = N.drop e := by rw [List.drop_drop, show a + (e - a) = e by omega]
    rw [← this, List.take_append_drop, List.take_append_drop]
  have f1 : ((N.take a).filter fun x => x.1.parent == (a : Int)) = [] := by
    rw [List.filter_eq_nil_iff]
    intro x hx
    obtain ⟨j, hj, rfl⟩ := List.getElem_of_mem hx
    simp only [List.length_take] at hj
    have := (hp j (by omega)).1
    simp only [List.getElem_take]
    simp
    omega
  have f2 : ((N.drop e).filter fun x => x.1.parent == (a : Int)) = [] := by
    rw [List.filter_eq_nil_iff]
    intro x hx
    obtain ⟨j, hj, rfl⟩ := List.getElem_of_mem hx
    simp only [List.length_drop] at hj
    have := par_past hp ho hE (e + j) (by omega) (by omega)
    simp only [List.getElem_drop]
    simpa using this
  rw [e1, e2]
  conv => rhs; rw [e3]
  rw [List.filter_append, List.filter_append, f1, f2]
  simp
theorem opn_of {N : List (Cor × Value)} {l : List Cor} {k : Nat} (hk : k ≤ l.length) (hN : N.map Prod.fst = l.take k) (h : okC l k) : Opn N := fun j hj => by
  have hp := parsC_of hk hN h
  have hl : N.length = k := by have := congrArg List.length hN; simp at this; omega
  have e : N[j + 1].1 = l[j + 1]'(by omega) := by
    have : (N.map Prod.fst)[j + 1]'(by simpa using hj) = (l.take k)[j + 1]'(by simp; omega) := by simp only [hN]
    simpa using this
  have h1 := (oneC_parts (h (j + 1) (by omega) (by omega))).2.1
  have hlen : (zC (l.take (j + 1))).length = j + 1 := by rw [zC_len, List.length_take]; omega
  rcases lf_zero h1 with ⟨h2, _⟩ | ⟨_, _, h3⟩
  · omega
  · rw [e]
    rw [hlen] at h3
    have e3 : upLC N (j : Int) = upLC (zC (l.take (j + 1))) (((j + 1 : Nat) : Int) - 1) := by
      rw [show (((j + 1 : Nat) : Int) - 1) = (j : Int) by omega]
      refine upF_par (j + 1) (fun q hq => ?_) (fun q hq => par_lt hp q (by omega)) _ _ (by omega)
      rw [fst_par hN q, zC_take l k q (by omega), zC_take l (j + 1) q hq]
    rw [e3]; exact h3
end Go.Proofs.YtebnonpdaddniaaGreatDoor
/-
  The program's up over a tree of cores, told with what was told; and paramsOut: how many parameters the lambda has that is so many out; nothing that was there is turned.
-/
namespace Go.Proofs.YtebnonpdaddniaaGreatDoor
open Go.RowKit Go.Extern.Stop Go.Stop Go.Extern Num Go.Lib Go.Shelf
attribute [local go_sem] Oper.semAt_some

set_option maxRecDepth 100000 in
set_option maxHeartbeats 2000000 in
theorem up2_inC (F : Fence) (n : Nat) (hF : ∀ f, F.fn f) (hro : F.round = none) (hn : 1 ≤ n) (l ba bt n₀ lo hi tb : Nat) (N : List (Cor × Value)) (hp : ParsC N) (a : Int) (ha : -1 ≤ a) (ha2 : a < N.length) (J Jx : List Int → World → Prop)
    (hY : ∀ pre x W, J pre W → pre ++ [x] <+: upLC N a → YieldAt F (n - 1) Tryz.prog l #[.int .i64 x] W fun e W' =>
      (e = .returned (.bool true) ∧ J (pre ++ [x]) W' ∧ Kpx n₀ lo hi W W') ∨ (e = .returned (.bool false) ∧ Jx (pre ++ [x]) W'))
    (W : World) (hBa : W.cell? ⟨ba, 0, none⟩ = some (.int .i64 a)) (hBt : W.cell? ⟨bt, 0, none⟩ = some (.pointer (some ⟨tb, 0, none⟩))) (hlo : lo ≤ bt) (hhi : bt < hi) (hT : IsTreeC n₀ W tb N) (h0 : J [] W) :
    CallsIn F n Tryz.prog 231 #[.func (.yield l) #[] #[], .pointer (some ⟨ba, 0, none⟩), .pointer (some ⟨bt, 0, none⟩)] W fun e W' => (∃ v, e = .returned v) ∧
      ((∃ ys, ys = upLC N a ∧ J ys W') ∨ (∃ pre, pre <+: upLC N a ∧ Jx pre W')) := by
  refine callsIn_of_wp Tryz.func231 rfl (hF _) ?_ hro
  simp only [Tryz.ntmps231, List.size_toArray, List.length_cons, List.length_nil, Nat.reduceAdd, Nat.reduceSub, Array.replicate_succ, Array.replicate_zero, List.push_toArray, List.append_toArray, List.nil_append, List.cons_append]
  gi_wp2
  gi_loopw [4] (fun i wr => ∃ (q : Int) (pre : List Int), i = .int .i64 q ∧ -1 ≤ q ∧ q < N.length ∧ upLC N a = pre ++ upLC N q ∧ J pre wr ∧ Kpx n₀ lo hi W wr)
    (fun i _ => (RowKit.intOf i + 1).toNat)
  case atStart => exact ⟨a, [], rfl, ha, ha2, rfl, h0, kpx_refl _ _ _ _⟩
  case round =>
    obtain ⟨q, pre, rfl, hq1, hq2, hup, hJs, hnx⟩ := hrel
    by_cases hq : q = -1
    · subst hq
      gi_wp2
      go_end0
      exact ⟨⟨_, rfl⟩, .inl ⟨pre, by rw [hup, upL_negC]; simp, hJs⟩⟩
    · obtain ⟨k, rfl⟩ : ∃ k : Nat, q = (k : Int) := ⟨q.toNat, by omega⟩
      have hk : k < N.length := by omega
      have hne : ((k : Int) != -1) = true := by simp
      have e1 := upL_atC hp k hk
      have hpk := hp k hk
      obtain ⟨fn, tmps, assign, body, hy, hR⟩ := hY pre (k : Int) wr hJs (by rw [hup, e1]; exact ⟨upLC N N[k].1.parent, by simp⟩)
      replace hup : upLC N a = (pre ++ [(k : Int)]) ++ upLC N N[k].1.parent := by rw [hup, e1]; simp
      clear e1
      gi_wp2
      refine hR.mono ?_
      rintro e W3 (⟨rfl, hJ3, hk3⟩ | ⟨rfl, hJx3⟩)
      · obtain ⟨ao, g, cap, hc, htb, hg, hao, hrow⟩ := (hT.below hnx.1).below hk3.1
        obtain rfl := hao (by intro h; rw [h] at hk; simp at hk)
        have hc3 : W3.cell? ⟨bt, 0, none⟩ = some (.pointer (some ⟨tb, 0, none⟩)) := ((kpx_t hnx hk3).cell hlo hhi).trans hBt
        have hr3 := (hrow k hk).1
        gi_wp2
        go_roundw
        case rel => exact ⟨N[k].1.parent, pre ++ [(k : Int)], rfl, hpk.2, by omega, hup, hJ3, kpx_t hnx hk3⟩
        case measure => simp [RowKit.intOf]; omega
      · gi_wp2
        go_end0
        exact ⟨⟨_, rfl⟩, .inr ⟨pre ++ [(k : Int)], ⟨_, hup.symm⟩, hJx3⟩⟩
theorem up_seqC (F : Fence) (n : Nat) (hF : ∀ f, F.fn f) (hro : F.round = none) (hn : 1 ≤ n) (ba bt n₀ lo hi tb B : Nat) (N : List (Cor × Value)) (hp : ParsC N) (a : Int) (ha : -1 ≤ a) (ha2 : a < N.length) (w : World) (hn₀ : n₀ ≤ w.heap.size)
    (hBa : w.cell? ⟨ba, 0, none⟩ = some (.int .i64 a)) (hBt : w.cell? ⟨bt, 0, none⟩ = some (.pointer (some ⟨tb, 0, none⟩))) (hlo : lo ≤ bt) (hhi : bt < hi) (hhi2 : hi ≤ w.heap.size) (hba : ba < w.heap.size) (hT : IsTreeC n₀ w tb N) :
    SeqO F n Tryz.prog 231 #[.pointer (some ⟨ba, 0, none⟩), .pointer (some ⟨bt, 0, none⟩)] (fun x : Int => #[Value.int .i64 x]) B 0 (Kpx n₀ lo hi) (fun ys => ys = upLC N a) (fun pre => pre <+: upLC N a) (fun pre x => pre ++ [x] <+: upLC N a) w := fun l J Jx W hWB hW hJ _ hY h0 => by
  refine (up2_inC F n hF hro hn l ba bt n₀ lo hi tb N hp a ha ha2 (fun pre W => J pre W ∧ B ≤ W.heap.size) Jx ?_ W ((hW.cell (p := ⟨ba, 0, none⟩) hba).trans hBa) ((hW.cell (p := ⟨bt, 0, none⟩) (by show bt < _; omega)).trans hBt) hlo hhi (hT.below (hW.mono hn₀)) ⟨h0, by omega⟩).mono ?_
  · rintro pre x W1 ⟨hJ1, hs1⟩ hpx
    refine (hY pre x W1 hJ1 hpx (by omega)).mono ?_
    rintro r W' ⟨⟨h1, h2⟩ | ⟨h1, h2⟩, h3, h4⟩
    · exact .inl ⟨h1, ⟨h2, Nat.le_trans hs1 h4.size⟩, h3⟩
    · exact .inr ⟨h1, h2⟩
  · rintro r W' ⟨hv, ⟨ys, rfl, hJ1, _⟩ | ⟨pre, hpre, hJ1⟩⟩
    · exact ⟨hv, .inl ⟨_, rfl, hJ1⟩⟩
    · exact ⟨hv, .inr ⟨pre, hpre, hJ1⟩⟩
/-- How many lambdas there are among places. -/
def lamN (l : List Cor) : List Int → Int
  | [] => 0
  | x :: r => (if kdC l x.toNat = 5 then 1 else 0) + lamN l r
theorem lamN_snoc (l : List Cor) (P : List Int) (x : Int) : lamN l (P ++ [x]) = lamN l P + (if kdC l x.toNat = 5 then 1 else 0) := by
  induction P with
  | nil => simp [lamN]
  | cons y r ih => simp only [List.cons_append, lamN, ih]; omega
theorem lamN_bound (l : List Cor) (P : List Int) : 0 ≤ lamN l P ∧ lamN l P ≤ P.length := by
  induction P with
  | nil => simp [lamN]
  | cons y r ih => simp only [lamN, List.length_cons]; split <;> omega
/-- The temporaries of a round. -/
abbrev actPO (s tb : Nat) (a out x : Int) : Act := { tmps := #[.pointer (some ⟨tb, 0, none⟩), .int .i64 a, .int .i64 out, .pointer (some ⟨s, 0, none⟩), undef, .pointer (some ⟨s + 1, 0, none⟩), .pointer (some ⟨s + 1 + 1, 0, none⟩), .pointer (some ⟨s + 1 + 1 + 1, 0, none⟩), .int .i64 x, undef, .pointer (some ⟨tb, 0, none⟩), .int .i64 a, .func (.func 231) #[] #[.pointer (some ⟨s + 1 + 1 + 1 + 1 + 1, 0, none⟩), .pointer (some ⟨s + 1 + 1 + 1 + 1, 0, none⟩)], .int .i64 x, undef, undef, undef, undef, undef, undef, undef, undef, undef, undef, undef, undef, undef, undef, undef, undef, undef, undef], defers := [] }
set_option maxRecDepth 100000 in
set_option maxHeartbeats 4000000 in
theorem paramsOut_in (n : Nat) (hn : 3 ≤ n) (tb : Nat) (N : List (Cor × Value)) (l : List Cor) (hN : N.map Prod.fst = l) (hp : ParsC N) (hl : N.length ≤ 1000) (hdv : ∀ x ∈ N, ∃ da dn dc, x.2 = .slice da dn dc) (a : Int) (ha : -1 ≤ a) (ha2 : a < N.length) (out : Int) (w : World) (hT : IsTreeC w.heap.size w tb N) :
    CallsIn Fence.wide n Tryz.prog 183 #[.pointer (some ⟨tb, 0, none⟩), .int .i64 a, .int .i64 out] w fun e W' => e = .returned (.int .i64 (poF l out (upLC N a) 0)) ∧ Below w.heap.size w W' := by
  have h1 : 1 ≤ n := by omega
  have hF : ∀ f, Fence.wide.fn f := fun _ => trivial
  refine callsIn_of_wp_marks Tryz.func183 rfl (hF _) ?_ rfl
  simp only [Tryz.ntmps183, List.size_toArray, List.length_cons, List.length_nil, Nat.reduceAdd, Nat.reduceSub, Array.replicate_succ, Array.replicate_zero, List.push_toArray, List.append_toArray, List.nil_append, List.cons_append]
  gi_wp2_with (first | (gi_at_call 210; refine (up_inC Fence.wide (n - 1) hF rfl _ _ _).mono ?_; rintro e w' ⟨rfl, rfl⟩))
  have c0 := Boxed.new w 87 (.pointer (some ⟨tb, 0, none⟩))
  have c1 := Boxed.new (w.alloc (.cells #[.pointer (some ⟨tb, 0, none⟩)] 87)) 2 (.int .i64 out)
  have c2 := Boxed.new ((w.alloc (.cells #[.pointer (some ⟨tb, 0, none⟩)] 87)).alloc (.cells #[.int .i64 out] 2)) 2 (.int .i64 0)
  have c3 := Boxed.new (((w.alloc (.cells #[.pointer (some ⟨tb, 0, none⟩)] 87)).alloc (.cells #[.int .i64 out] 2)).alloc (.cells #[.int .i64 0] 2)) 2 (.int .i64 0)
  have c4 := Boxed.new ((((w.alloc (.cells #[.pointer (some ⟨tb, 0, none⟩)] 87)).alloc (.cells #[.int .i64 out] 2)).alloc (.cells #[.int .i64 0] 2)).alloc (.cells #[.int .i64 0] 2)) 87 (.pointer (some ⟨tb, 0, none⟩))
  have c5 := Boxed.new (((((w.alloc (.cells #[.pointer (some ⟨tb, 0, none⟩)] 87)).alloc (.cells #[.int .i64 out] 2)).alloc (.cells #[.int .i64 0] 2)).alloc (.cells #[.int .i64 0] 2)).alloc (.cells #[.pointer (some ⟨tb, 0, none⟩)] 87)) 2 (.int .i64 a)
  simp only [World.size_alloc] at c1 c2 c3 c4 c5
  have hB0 : Below w.heap.size w ((((((w.alloc (.cells #[.pointer (some ⟨tb, 0, none⟩)] 87)).alloc (.cells #[.int .i64 out] 2)).alloc (.cells #[.int .i64 0] 2)).alloc (.cells #[.int .i64 0] 2)).alloc (.cells #[.pointer (some ⟨tb, 0, none⟩)] 87)).alloc (.cells #[.int .i64 a] 2)) := ((((((Below.refl _ w).alloc (Nat.le_refl _) _).alloc (by simp) _).alloc (by simp; omega) _).alloc (by simp; omega) _).alloc (by simp; omega) _).alloc (by simp; omega) _
  have hsz6 : ((((((w.alloc (.cells #[.pointer (some ⟨tb, 0, none⟩)] 87)).alloc (.cells #[.int .i64 out] 2)).alloc (.cells #[.int .i64 0] 2)).alloc (.cells #[.int .i64 0] 2)).alloc (.cells #[.pointer (some ⟨tb, 0, none⟩)] 87)).alloc (.cells #[.int .i64 a] 2)).heap.size = w.heap.size + 6 := by simp
  refine range_own rfl h1 (gf := 231) (lb := #[.pointer (some ⟨w.heap.size + 1 + 1 + 1 + 1 + 1, 0, none⟩), .pointer (some ⟨w.heap.size + 1 + 1 + 1 + 1, 0, none⟩)]) rfl (hF _) (enters_of Tryz.func231 (by kernel_rfl) rfl)
    (up_seqC Fence.wide (n - 1) hF rfl (by omega) (w.heap.size + 1 + 1 + 1 + 1 + 1) (w.heap.size + 1 + 1 + 1 + 1) w.heap.size (w.heap.size + 1 + 1 + 1 + 1) (w.heap.size + 1 + 1 + 1 + 1 + 1 + 1) tb _ N hp a ha ha2 _ (by simp; omega) c5.cell (c4.alloc _).cell (Nat.le_refl _) (by omega) (by simp) (by simp) (hT.below hB0)) kpx_t
    (fun X o o' g1 g2 g3 => kpx_b (w := ((((((w.alloc (.cells #[.pointer (some ⟨tb, 0, none⟩)] 87)).alloc (.cells #[.int .i64 out] 2)).alloc (.cells #[.int .i64 0] 2)).alloc (.cells #[.int .i64 0] 2)).alloc (.cells #[.pointer (some ⟨tb, 0, none⟩)] 87)).alloc (.cells #[.int .i64 a] 2))) (by simp; omega) (by simp) X _ o o' (by omega) g1 g2 g3) (Below.refl _ _) (fun _ => rfl)
    (fun pre W => ((∀ rest, poF l out (pre ++ rest) 0 = poF l out rest (lamN l pre)) ∧ Boxed W w.heap.size 87 (.pointer (some ⟨tb, 0, none⟩)) ∧ Boxed W (w.heap.size + 1) 2 (.int .i64 out) ∧ Boxed W (w.heap.size + 1 + 1) 2 (.int .i64 0) ∧ Boxed W (w.heap.size + 1 + 1 + 1) 2 (.int .i64 (lamN l pre))) ∧ Below w.heap.size w W)
    (fun c pre W => (c = .ret ∧ ∃ r, (∀ rest, poF l out (pre ++ rest) 0 = r) ∧ Boxed W (w.heap.size + 1 + 1) 2 (.int .i64 r)) ∧ Below w.heap.size w W)
    (OwnFrom.and (OwnFrom.and (ownFrom_pure _ _) (OwnFrom.and (Own.from (boxed_own _ _ _) _) (OwnFrom.and (Own.from (boxed_own _ _ _) _) (OwnFrom.and (Own.from (boxed_own _ _ _) _) (fun s A B row hs hg hr => (Own.from (boxed_own _ _ _) _ : OwnFrom _ (fun (_ : Unit) W => Boxed W (w.heap.size + 1 + 1 + 1) 2 (.int .i64 (lamN l s)))) () A B row hs hg hr))))) (ownFrom_below (Nat.le_refl _) (by simp; omega)))
    (fun c => OwnFrom.and (OwnFrom.and (ownFrom_pure _ _) (fun s A B row hs hg hr => by obtain ⟨r, h1, h2⟩ := hs; exact ⟨r, h1, (Own.from (boxed_own _ _ _) _ : OwnFrom _ (fun (_ : Unit) W => Boxed W (w.heap.size + 1 + 1) 2 (.int .i64 r))) () A B row h2 hg hr⟩)) (ownFrom_below (Nat.le_refl _) (by simp; omega)))
    ⟨⟨fun rest => rfl, ((((c0.alloc _).alloc _).alloc _).alloc _).alloc _, (((c1.alloc _).alloc _).alloc _).alloc _, ((c2.alloc _).alloc _).alloc _, (c3.alloc _).alloc _⟩, hB0⟩
    (fun x a' _ => a' = actPO w.heap.size tb a out x) (fun x a' s X X' row hs _ _ => hs) ?assign ?body ?done ?stop
  case assign =>
    intro l' pre x W K hI hK
    gi_wp2
    exact hK _ _ (KeepsFrom.refl _ _) (kpx_refl _ _ _ _) hI rfl
  case body =>
    rintro l' pre x a' W ⟨⟨hpo, b0, b1, b2, b3⟩, hB⟩ rfl hpx hmm
    have hx : x ∈ upLC N a := hpx.subset (by simp)
    obtain ⟨hx0, hxa⟩ := upL_mem hp (a + 1).toNat a ha2 (by omega) x hx
    obtain ⟨k, rfl⟩ : ∃ k : Nat, x = (k : Int) := ⟨x.toNat, by omega⟩
    have hk : k < N.length := by omega
    have hplen : pre.length ≤ N.length := by
      have g1 := hpx.length_le
      have g2 := upL_lenC hp N.length a ha2 ha2 ha
      simp at g1; omega
    have hlb := lamN_bound l pre
    obtain ⟨ao, g, cap, hc, htb, hg, hao, hrow⟩ := hT.below hB
    obtain rfl := hao (by intro h; rw [h] at hk; simp at hk)
    obtain ⟨r0, r1, r2, r3, r4, r5, r6⟩ := hrow k hk
    obtain ⟨da, dn, dc, hdk⟩ := hdv N[k] (List.getElem_mem hk)
    rw [hdk] at r6
    have HKd : Hid (kdC l k = N[k].1.kind) := by show _ = _; rw [← hN, kdC_at _ k (by simpa using hk)]; simp
    have HNa : Hid (naC l k = N[k].1.a) := by show _ = _; rw [← hN, naC_at _ k (by simpa using hk)]; simp
    have HLm := lamN_snoc l pre (k : Int)
    rw [Int.toNat_natCast, HKd.out] at HLm
    have HSt : Hid (∀ rest, poF l out (pre ++ [(k : Int)] ++ rest) 0 = if N[k].1.kind = 5 then (if lamN l pre = out then N[k].1.a else poF l out rest (lamN l pre + 1)) else poF l out rest (lamN l pre)) := fun rest => by
      rw [List.append_assoc, hpo]
      simp only [List.cons_append, List.nil_append, poF, Int.toNat_natCast, HKd.out, HNa.out]
    have q0 := b0.cell
    have q1 := b1.cell
    have q2 := b2.cell
    have f2 := b2.frozen
    have q3 := b3.cell
    have f3 := b3.frozen
    have hlt0 := b3.lt
    have hlt1 := b1.lt
    have hlt2 := b2.lt
    clear hrow hao hdk hpo hx hpx HKd HNa
    generalize N[k].1.parent = n0 at r0 r2 HSt HLm
    obtain ⟨kd, hkd⟩ : ∃ kd, kd = N[k].1.kind := ⟨_, rfl⟩
    rw [← hkd] at r1 HSt HLm
    clear hkd
    obtain ⟨na, hna⟩ : ∃ na, na = N[k].1.a := ⟨_, rfl⟩
    rw [← hna] at r3 HSt
    clear hna
    obtain ⟨lam, hlam⟩ : ∃ lam, lam = lamN l pre := ⟨_, rfl⟩
    rw [← hlam] at HSt HLm hlb q3 b3
    clear hlam
    by_cases hkd : kd = 5
    · subst hkd
      rw [if_pos rfl] at HLm
      by_cases hlo : lam = out
      · have hb1 : (lam == out) = true := by simpa using hlo
        have HS2 : Hid (∀ rest, poF l out (pre ++ [(k : Int)] ++ rest) 0 = na) := fun rest => by rw [HSt.out, if_pos rfl, if_pos hlo]
        clear HSt HLm
        gi_wp2
        exact ⟨((KeepsOthers.setCell _ _ _).from _).trans ((KeepsOthers.alloc _ _).from _), ⟨((Below.refl _ W).setCell (p := ⟨w.heap.size + 1 + 1, 0, none⟩) (by show _ ≤ _; simp <;> omega) _).alloc (by simp; omega) _, fun b l1 l2 => (Below.heap_alloc _ _ b (by simp; omega)).trans (Below.heap_setCell W ⟨w.heap.size + 1 + 1, 0, none⟩ _ b (by intro e; have : b = w.heap.size + 1 + 1 := e; omega))⟩, ⟨rfl, na, HS2.out, (b2.set _).alloc _⟩, (hB.setCell (p := ⟨w.heap.size + 1 + 1, 0, none⟩) (by show _ ≤ _; simp <;> omega) _).alloc (by simp; omega) _⟩
      · have hb1 : (lam == out) = false := by simpa using hlo
        have HS2 : Hid (∀ rest, poF l out (pre ++ [(k : Int)] ++ rest) 0 = poF l out rest (lam + 1)) := fun rest => by rw [HSt.out, if_pos rfl, if_neg hlo]
        have HL2 : Hid (lamN l (pre ++ [(k : Int)]) = lam + 1) := HLm
        clear HSt HLm
        gi_wp2
        exact ⟨((KeepsOthers.setCell _ _ _).from _).trans ((KeepsOthers.alloc _ _).from _), ⟨((Below.refl _ W).setCell (p := ⟨w.heap.size + 1 + 1 + 1, 0, none⟩) (by show _ ≤ _; simp <;> omega) _).alloc (by simp; omega) _, fun b l1 l2 => (Below.heap_alloc _ _ b (by simp; omega)).trans (Below.heap_setCell W ⟨w.heap.size + 1 + 1 + 1, 0, none⟩ _ b (by intro e; have : b = w.heap.size + 1 + 1 + 1 := e; omega))⟩, ⟨fun rest => by rw [HS2.out, HL2.out], (b0.other (by omega) _).alloc _, (b1.other (by omega) _).alloc _, (b2.other (by omega) _).alloc _, by rw [HL2.out]; exact (b3.set _).alloc _⟩, (hB.setCell (p := ⟨w.heap.size + 1 + 1 + 1, 0, none⟩) (by show _ ≤ _; simp <;> omega) _).alloc (by simp; omega) _⟩
    · have hb0 : (kd != 5) = true := by simpa using hkd
      rw [if_neg hkd] at HLm
      have HS2 : Hid (∀ rest, poF l out (pre ++ [(k : Int)] ++ rest) 0 = poF l out rest lam) := fun rest => by rw [HSt.out, if_neg hkd]
      have HL2 : Hid (lamN l (pre ++ [(k : Int)]) = lam) := by show _ = _; rw [HLm]; omega
      clear HSt HLm hkd
      gi_wp2
      exact ⟨(KeepsOthers.alloc _ _).from _, kpx_below ((Below.refl _ _).alloc (Nat.le_refl _) _) (by omega) (by omega), ⟨fun rest => by rw [HS2.out, HL2.out], b0.alloc _, b1.alloc _, b2.alloc _, by rw [HL2.out]; exact b3.alloc _⟩, hB.alloc (by omega) _⟩
  case done =>
    rintro D ys W hD rfl ⟨⟨hpo, -, -, hr, -⟩, hB⟩ hK
    have hc2 := hr.cell
    have hf := hr.frozen
    have HP : Hid (poF l out (upLC N a) 0 = 0) := by
      have := hpo []
      rw [List.append_nil] at this
      rw [this]; rfl
    gi_wp2
    have hK' := (KeepsOthers.setCell W ⟨w.heap.size + 1 + 1, 0, none⟩ (.int .i64 0)).same D _ hK rfl
    refine ⟨by simp, .inl ⟨_, _, rfl, run_takeDeferred hK', ?_⟩⟩
    have hc5 := cell_kept (hr.set (.int .i64 0)).cell (grownBy_putObj' _ D (.deferred none)) (fun r e => by cases e; exact ⟨_, hK', rfl⟩)
    refine ⟨.int .i64 0, ?_, by rw [HP.out], (hB.setCell (p := ⟨w.heap.size + 1 + 1, 0, none⟩) (by show w.heap.size ≤ w.heap.size + 1 + 1; omega) _).trans (belowK_b (w := w) (Nat.le_refl _) _ D _ _ (by simp at hD; omega) hK' rfl rfl)⟩
    simp [results, Tryz.f183, go_sem, hc5]
  case stop =>
    rintro D c pre W hD hpre ⟨⟨rfl, r, hre, hr⟩, hB⟩ hK
    have HP : Hid (poF l out (upLC N a) 0 = r) := by
      obtain ⟨t, ht⟩ := hpre
      rw [← ht]; exact hre t
    gi_wp2
    refine ⟨by simp, .inl ⟨_, _, rfl, run_takeDeferred hK, ?_⟩⟩
    have hc5 := cell_kept hr.cell (grownBy_putObj' _ D (.deferred none)) (fun r e => by cases e; exact ⟨_, hK, rfl⟩)
    refine ⟨.int .i64 r, ?_, by rw [HP.out], hB.trans (belowK_b (w := w) (Nat.le_refl _) W D _ _ (by simp at hD; omega) hK rfl rfl)⟩
    simp [results, Tryz.f183, go_sem, hc5]
theorem paramsOut_any (tb : Nat) (N : List (Cor × Value)) (l : List Cor) (hN : N.map Prod.fst = l) (hp : ParsC N) (hl : N.length ≤ 1000) (hdv : ∀ x ∈ N, ∃ da dn dc, x.2 = .slice da dn dc) (a : Int) (ha : -1 ≤ a) (ha2 : a < N.length) (out : Int) (w : World) (hT : IsTreeC w.heap.size w tb N) :
    Calls Tryz.prog 183 #[.pointer (some ⟨tb, 0, none⟩), .int .i64 a, .int .i64 out] w fun e W' => e = .returned (.int .i64 (poF l out (upLC N a) 0)) ∧ Below w.heap.size w W' := (callsIn_wide (n := 3)).1 (paramsOut_in 3 (by omega) tb N l hN hp hl hdv a ha ha2 out w hT)
end Go.Proofs.YtebnonpdaddniaaGreatDoor
