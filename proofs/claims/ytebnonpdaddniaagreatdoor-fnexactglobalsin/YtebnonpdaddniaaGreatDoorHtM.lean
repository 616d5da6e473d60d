/-
  Parts of the proof laid into one text, one behind the other; each says at its head what is proved in it.
-/
import Derived.Test.YtebnonpdaddniaaGreatDoorRows
import Derived.WalkKit
import Derived.ProofKit
import Derived.Below
import Derived.RangeFuncRecord
import Derived.Test.YtebnonpdaddniaaGreatDoorHtC
import Derived.Test.YtebnonpdaddniaaGreatDoorAddCHt
import Derived.Test.YtebnonpdaddniaaGreatDoorHtK
import Derived.Test.YtebnonpdaddniaaGreatDoorHtL
import Derived.Test.YtebnonpdaddniaaGreatDoorHgE
/-
  The program's IsKeyword and its model: whether a text is one of the seven keywords; nothing that was there is turned. The exact law of IsKeyword answers true at every text.
-/
namespace Go.Proofs.YtebnonpdaddniaaGreatDoor
open Go.RowKit

/-- The keywords. -/
def kwS : List ByteArray := [⟨#[113, 117, 111, 116, 101]⟩, ⟨#[105, 102]⟩, ⟨#[108, 97, 109, 98, 100, 97]⟩, ⟨#[108, 101, 116]⟩, ⟨#[98, 101, 103, 105, 110]⟩, ⟨#[100, 101, 102, 105, 110, 101]⟩, ⟨#[115, 101, 116, 33]⟩]
def kwB (s : ByteArray) : Bool := kwS.any fun k => k.toList == s.toList
theorem kwB_eq (s : ByteArray) : kwB s = (s.toList == [113, 117, 111, 116, 101] || (s.toList == [105, 102] || (s.toList == [108, 97, 109, 98, 100, 97] || (s.toList == [108, 101, 116] || (s.toList == [98, 101, 103, 105, 110] || (s.toList == [100, 101, 102, 105, 110, 101] || s.toList == [115, 101, 116, 33])))))) := by
  have e : ∀ a b : List UInt8, (a == b) = (b == a) := fun a b => by
    by_cases h : a = b
    · subst h; rfl
    · rw [beq_false_of_ne h, beq_false_of_ne (fun h' => h h'.symm)]
  simp only [kwB, kwS, List.any_cons, List.any_nil, Bool.or_false]
  rw [e _ s.toList, e _ s.toList, e _ s.toList, e _ s.toList, e _ s.toList, e _ s.toList, e _ s.toList]
  simp only [ByteArray.toList_eq]
theorem implKw_any (s : ByteArray) (w : World) :
    Calls Tryz.prog 185 #[.string s] w fun e w' => e = .returned (.bool (kwB s)) ∧ w' = w := by
  obtain ⟨R, hR⟩ : ∃ R : Bool, R = kwB s := ⟨_, rfl⟩
  rw [← hR]
  rw [kwB_eq] at hR
  have HR : Hid (R = (s.toList == [113, 117, 111, 116, 101] || (s.toList == [105, 102] || (s.toList == [108, 97, 109, 98, 100, 97] || (s.toList == [108, 101, 116] || (s.toList == [98, 101, 103, 105, 110] || (s.toList == [100, 101, 102, 105, 110, 101] || s.toList == [115, 101, 116, 33]))))))) := hR
  clear hR
  go_enter Tryz.func185, Tryz.ntmps185
  go_wp2
  all_goals first
    | (exfalso; simp_all; done)
    | (go_ret; exact ⟨by rw [show R = _ from HR.out]; simp [*], rfl⟩)
theorem kw_cell (w : World) (k : Nat) (h : k < kwS.length) : (w.alloc (.cells #[.string ⟨#[113, 117, 111, 116, 101]⟩, .string ⟨#[105, 102]⟩, .string ⟨#[108, 97, 109, 98, 100, 97]⟩, .string ⟨#[108, 101, 116]⟩, .string ⟨#[98, 101, 103, 105, 110]⟩, .string ⟨#[100, 101, 102, 105, 110, 101]⟩, .string ⟨#[115, 101, 116, 33]⟩] 9)).cell? ⟨w.heap.size, k, none⟩ = some (.string kwS[k]) := by
  have hk : k < 7 := h
  have : k = 0 ∨ k = 1 ∨ k = 2 ∨ k = 3 ∨ k = 4 ∨ k = 5 ∨ k = 6 := by omega
  rcases this with rfl | rfl | rfl | rfl | rfl | rfl | rfl <;> (simp only [World.cell?, World.alloc_heap_new]; rfl)
set_option maxHeartbeats 1000000 in
theorem specKw_any (s : ByteArray) (w : World) :
    Calls Tryz.prog 104 #[.string s] w fun e w' => e = .returned (.bool (kwB s)) ∧ Below w.heap.size w w' := by
  obtain ⟨R, hR⟩ : ∃ R : Bool, R = kwB s := ⟨_, rfl⟩
  rw [← hR]
  have HR : Hid (R = kwB s) := hR
  clear hR
  have HC : Hid (∀ (k : Nat) (h : k < kwS.length), (w.alloc (.cells #[.string ⟨#[113, 117, 111, 116, 101]⟩, .string ⟨#[105, 102]⟩, .string ⟨#[108, 97, 109, 98, 100, 97]⟩, .string ⟨#[108, 101, 116]⟩, .string ⟨#[98, 101, 103, 105, 110]⟩, .string ⟨#[100, 101, 102, 105, 110, 101]⟩, .string ⟨#[115, 101, 116, 33]⟩] 9)).cell? ⟨w.heap.size, k, none⟩ = some (.string kwS[k])) := fun k h => kw_cell w k h
  go_enter Tryz.func104, Tryz.ntmps104
  go_wp2_with fail
  go_loopw [4] (fun i wr => ∃ k : Nat, k ≤ 7 ∧ i = .int .i64 (k : Int) ∧ Hid (∀ j (h : j < kwS.length), j < k → (kwS[j].toList == s.toList) = false) ∧ Hid (wr = (w.alloc (.cells #[.string ⟨#[113, 117, 111, 116, 101]⟩, .string ⟨#[105, 102]⟩, .string ⟨#[108, 97, 109, 98, 100, 97]⟩, .string ⟨#[108, 101, 116]⟩, .string ⟨#[98, 101, 103, 105, 110]⟩, .string ⟨#[100, 101, 102, 105, 110, 101]⟩, .string ⟨#[115, 101, 116, 33]⟩] 9)))) (fun i _ => 7 - (RowKit.intOf i).toNat)
  case atStart => exact ⟨0, Nat.zero_le _, rfl, fun j _ h => by omega, rfl⟩
  case round =>
    obtain ⟨k, hk, rfl, HS, HW⟩ := hrel
    by_cases hlt : k < 7
    · have hc := HC.out k hlt
      rw [← show wr = _ from HW.out] at hc
      have HN : Hid (∀ b, (kwS[k].toList == s.toList) = b → (b = true → R = true) ∧ (b = false → ∀ j (h : j < kwS.length), j < k + 1 → (kwS[j].toList == s.toList) = false)) := fun b hb => ⟨fun h => by
          rw [show R = kwB s from HR.out]
          unfold kwB
          rw [List.any_eq_true]
          exact ⟨kwS[k], List.getElem_mem hlt, by rw [hb, h]⟩, fun h j hj hjk => by
          by_cases e : j = k
          · subst e; exact hb.trans h
          · exact HS.out j hj (by omega)⟩
      generalize kwS[k] = t at hc HN
      cases e : (t.toList == s.toList) with
      | true =>
        have hT := (HN.out _ e).1 rfl
        subst hT
        go_wp2
        go_ret
        exact ⟨rfl, by rw [show wr = _ from HW.out]; exact (Below.refl _ w).alloc (Nat.le_refl _) _⟩
      | false =>
        have HF : Hid _ := (HN.out _ e).2 rfl
        go_wp2
        exact ⟨⟨k + 1, by omega, by go_num, HF, HW⟩, by simp [RowKit.intOf]; omega⟩
    · have hR : R = false := by
        rw [show R = kwB s from HR.out]
        unfold kwB
        rw [List.any_eq_false]
        intro x hx
        obtain ⟨j, hj, rfl⟩ := List.getElem_of_mem hx
        have h7 : j < 7 := hj
        rw [HS.out j hj (by omega)]
        simp
      subst hR
      go_wp2
      go_ret
      exact ⟨rfl, by rw [show wr = _ from HW.out]; exact (Below.refl _ w).alloc (Nat.le_refl _) _⟩
end Go.Proofs.YtebnonpdaddniaaGreatDoor
/-
  What is wrong with cores, plainly: a core's own fault, its place, what it has against those ahead of it, then how many kids each has; and where what hangs on a place ends.
-/
namespace Go.Proofs.YtebnonpdaddniaaGreatDoor
open Go.RowKit

/-- Cores alone as nodes. -/
def zC (l : List Cor) : List (Cor × Value) := l.map fun t => (t, .int .i64 0)
theorem zC_len (l : List Cor) : (zC l).length = l.length := by simp [zC]
theorem zC_at (l : List Cor) (k : Nat) (h : k < l.length) : ((zC l)[k]'(by rw [zC_len]; exact h)).1 = l[k] := by simp [zC]
theorem zC_fst (N : List (Cor × Value)) (k : Nat) : parC N k = parC (zC (N.map Prod.fst)) k := by
  unfold parC zC
  simp only [List.getElem?_map]
  cases N[k]? <;> rfl
theorem zC_take (l : List Cor) (m k : Nat) (h : k < m) : parC (zC (l.take m)) k = parC (zC l) k := by
  unfold parC zC
  simp only [List.getElem?_map, List.getElem?_take, if_pos h]
theorem upF_par {N M : List (Cor × Value)} (m : Nat) (h : ∀ k, k < m → parC N k = parC M k) (hp : ∀ k, k < m → parC N k < (k : Int)) : ∀ (f : Nat) (a : Int), a < m → upFC N f a = upFC M f a
  | 0, _, _ => rfl
  | f + 1, a, ha => by
    by_cases h0 : a < 0
    · rw [upF_negC N _ a h0, upF_negC M _ a h0]
    · obtain ⟨k, rfl⟩ : ∃ k : Nat, a = (k : Int) := ⟨a.toNat, by omega⟩
      have hk : k < m := by omega
      have := hp k hk
      simp only [upFC, if_neg h0, Int.toNat_natCast, h k hk]
      rw [upF_par m h hp f _ (by rw [← h k hk]; omega)]
/-- Its kind, and its A. -/
def kdC (l : List Cor) (k : Nat) : Int := (l[k]?.map (·.kind)).getD 0
def naC (l : List Cor) (k : Nat) : Int := (l[k]?.map (·.a)).getD 0
theorem kdC_at (l : List Cor) (k : Nat) (h : k < l.length) : kdC l k = l[k].kind := by simp [kdC, h]
theorem naC_at (l : List Cor) (k : Nat) (h : k < l.length) : naC l k = l[k].a := by simp [naC, h]
/-- How many parameters the lambda has that is so many out, n of them being passed by. -/
def poF (l : List Cor) (out : Int) : List Int → Int → Int
  | [], _ => 0
  | x :: r, n => if kdC l x.toNat = 5 then (if n = out then naC l x.toNat else poF l out r (n + 1)) else poF l out r n
/-- That lambda's place, as the model looks for it. -/
def aroF (l : List Cor) : List Int → Int → Int
  | [], _ => -1
  | x :: r, o => if kdC l x.toNat = 5 then (if o = 0 then x else aroF l r (o - 1)) else aroF l r o
theorem po_aro (l : List Cor) (out : Int) : ∀ (xs : List Int) (n : Int), (∀ x ∈ xs, 0 ≤ x) → (aroF l xs (out - n) = -1 ∧ poF l out xs n = 0) ∨ (0 ≤ aroF l xs (out - n) ∧ poF l out xs n = naC l (aroF l xs (out - n)).toNat)
  | [], _, _ => .inl ⟨rfl, rfl⟩
  | x :: r, n, h => by
    have h0 := h x (by simp)
    have hr : ∀ x ∈ r, 0 ≤ x := fun y hy => h y (by simp [hy])
    by_cases hk : kdC l x.toNat = 5
    · by_cases hn : n = out
      · have e : out - n = 0 := by omega
        simp only [aroF, poF, if_pos hk, if_pos hn, if_pos e]
        exact .inr ⟨h0, by first | rfl | trivial⟩
      · have e : ¬ out - n = 0 := by omega
        simp only [aroF, poF, if_pos hk, if_neg hn, if_neg e]
        have := po_aro l out r (n + 1) hr
        rw [show out - (n + 1) = out - n - 1 by omega] at this
        exact this
    · simp only [aroF, poF, if_neg hk]
      exact po_aro l out r n hr
/-- Whether a name is one of a global: a symbol, and no keyword. -/
def namC (z : ByteArray) : Bool := symL z.data.toList && !kwB z
/-- What is wrong with what a core has, the i-th one, po the parameters of its lambda. -/
def contC (t : Cor) (i : Nat) (po : Int) : Int :=
  if t.kind = 1 then dataFault t.data
  else if t.kind = 2 then (if 0 ≤ t.b ∧ t.b < po then 0 else 3)
  else if t.kind = 5 then (if 0 ≤ t.a ∧ t.a ≤ 3 then 0 else 3)
  else if t.kind = 3 ∨ t.kind = 7 ∨ t.kind = 8 then (if namC t.name = true then (if t.kind ≠ 8 ∨ i = 0 then 0 else 1) else 5)
  else 0
/-- What is wrong with the i-th core, against those ahead of it. -/
def oneC (l : List Cor) (i : Nat) (t : Cor) : Int :=
  if bareC t = false then 1 else if lfDC (zC (l.take i)) t.parent ≠ 0 then lfDC (zC (l.take i)) t.parent else contC t i (poF l t.a (upLC (zC (l.take i)) t.parent) 0)
def onesC (l : List Cor) : Nat → Nat → Int
  | 0, _ => 0
  | f + 1, i => match l[i]? with | none => 0 | some t => if oneC l i t ≠ 0 then oneC l i t else onesC l f (i + 1)
/-- How many kids a place has. -/
def kidN (l : List Cor) (a : Int) : Nat := (l.filter fun t => t.parent == a).length
def kidsAll (l : List Cor) : Nat → Nat → Bool
  | 0, _ => true
  | f + 1, i => manyK (kdC l i) (kidN l (i : Int)) && kidsAll l f (i + 1)
def coreF (l : List Cor) : Int :=
  if l.length < 1 ∨ 160 < l.length then 2 else if onesC l l.length 0 ≠ 0 then onesC l l.length 0 else if kidsAll l l.length 0 = true then 0 else 1
/-- All is well with the cores up to a place. -/
def okC (l : List Cor) (k : Nat) : Prop := ∀ (j : Nat) (h : j < l.length), j < k → oneC l j l[j] = 0
theorem okC_next {l : List Cor} {k : Nat} (h : okC l k) (hk : k < l.length) (h1 : oneC l k l[k] = 0) : okC l (k + 1) := fun j hj hlt => by
  by_cases e : j = k
  · subst e; exact h1
  · exact h j hj (by omega)
theorem onesC_from {l : List Cor} : ∀ (k : Nat), okC l k → k ≤ l.length → onesC l l.length 0 = onesC l (l.length - k) k
  | 0, _, _ => rfl
  | k + 1, h, hk => by
    have h1 := h k (by omega) (by omega)
    rw [onesC_from k (fun j hj hl => h j hj (by omega)) (by omega), show l.length - k = (l.length - (k + 1)) + 1 by omega]
    simp only [onesC, List.getElem?_eq_getElem (show k < l.length by omega), h1]
    simp
theorem onesC_hit {l : List Cor} {k : Nat} (h : okC l k) (hk : k < l.length) (h1 : oneC l k l[k] ≠ 0) : onesC l l.length 0 = oneC l k l[k] := by
  rw [onesC_from k h (by omega), show l.length - k = (l.length - (k + 1)) + 1 by omega]
  simp only [onesC, List.getElem?_eq_getElem hk, if_pos h1]
theorem onesC_end {l : List Cor} (h : okC l l.length) : onesC l l.length 0 = 0 := by
  rw [onesC_from l.length h (Nat.le_refl _), Nat.sub_self]; rfl
theorem kidsAll_from {l : List Cor} : ∀ (k : Nat), (∀ j, j < k → manyK (kdC l j) (kidN l (j : Int)) = true) → k ≤ l.length → kidsAll l l.length 0 = kidsAll l (l.length - k) k
  | 0, _, _ => rfl
  | k + 1, h, hk => by
    rw [kidsAll_from k (fun j hj => h j (by omega)) (by omega), show l.length - k = (l.length - (k + 1)) + 1 by omega]
    simp only [kidsAll, h k (by omega), Bool.true_and]
theorem kidsAll_hit {l : List Cor} {k : Nat} (h : ∀ j, j < k → manyK (kdC l j) (kidN l (j : Int)) = true) (hk : k < l.length) (h1 : manyK (kdC l k) (kidN l (k : Int)) = false) : kidsAll l l.length 0 = false := by
  rw [kidsAll_from k h (by omega), show l.length - k = (l.length - (k + 1)) + 1 by omega]
  simp only [kidsAll, h1, Bool.false_and]
theorem kidsAll_end {l : List Cor} (h : ∀ j, j < l.length → manyK (kdC l j) (kidN l (j : Int)) = true) : kidsAll l l.length 0 = true := by
  rw [kidsAll_from l.length h (Nat.le_refl _), Nat.sub_self]; rfl
/-- Whose kid a core is, where it has no fault. -/
theorem oneC_parts {l : List Cor} {i : Nat} {t : Cor} (h : oneC l i t = 0) : bareC t = true ∧ lfDC (zC (l.take i)) t.parent = 0 ∧ contC t i (poF l t.a (upLC (zC (l.take i)) t.parent) 0) = 0 := by
  unfold oneC at h
  by_cases h1 : bareC t = false
  · rw [if_pos h1] at h; exact absurd h (by decide)
  · rw [if_neg h1] at h
    by_cases h2 : lfDC (zC (l.take i)) t.parent ≠ 0
    · rw [if_pos h2] at h; exact absurd h h2
    · rw [if_neg h2] at h
      exact ⟨by simpa using h1, Classical.byContradiction h2, h⟩
theorem lf_zero {N : List (Cor × Value)} {p : Int} (h : lfDC N p = 0) : (N.length = 0 ∧ p = -1) ∨ (0 ≤ p ∧ p < N.length ∧ p ∈ upLC N ((N.length : Int) - 1)) := by
  unfold lfDC at h
  by_cases h1 : N.length = 0 ∧ p = -1
  · exact .inl h1
  · rw [if_neg h1] at h
    by_cases h2 : p < 0 ∨ (N.length : Int) ≤ p
    · rw [if_pos h2] at h; exact absurd h (by decide)
    · rw [if_neg h2] at h
      by_cases h3 : p ∈ upLC N ((N.length : Int) - 1)
      · exact .inr ⟨by omega, by omega, h3⟩
      · rw [if_pos h3] at h; exact absurd h (by decide)
theorem okC_par {l : List Cor} {k : Nat} (h : okC l k) (j : Nat) (hj : j < l.length) (hk : j < k) : l[j].parent < (j : Int) ∧ -1 ≤ l[j].parent := by
  have h1 := (oneC_parts (h j hj hk)).2.1
  have hlen : (zC (l.take j)).length = j := by rw [zC_len, List.length_take]; omega
  rcases lf_zero h1 with ⟨e, hp⟩ | ⟨e1, e2, _⟩
  · omega
  · omega
theorem parsC_of {N : List (Cor × Value)} {l : List Cor} {k : Nat} (hk : k ≤ l.length) (hN : N.map Prod.fst = l.take k) (h : okC l k) : ParsC N := fun j hj => by
  have hl : N.length = k := by have := congrArg List.length hN; simp at this; omega
  have e : N[j].1 = l[j]'(by omega) := by
    have : (N.map Prod.fst)[j]'(by simpa using hj) = (l.take k)[j]'(by simp; omega) := by simp only [hN]
    simpa using this
  rw [e]
  exact okC_par h j (by omega) (by omega)
theorem fst_par {N : List (Cor × Value)} {l : List Cor} (hN : N.map Prod.fst = l) (j : Nat) : parC N j = parC (zC l) j := by rw [zC_fst, hN]
theorem par_lt {N : List (Cor × Value)} (hp : ParsC N) (j : Nat) (hj : j < N.length) : parC N j < (j : Int) := by rw [par_atC N j hj]; exact (hp j hj).1
theorem upL_fst {N : List (Cor × Value)} {l : List Cor} (hp : ParsC N) (hN : N.map Prod.fst = l) (a : Int) (ha : a < N.length) : upLC N a = upLC (zC l) a :=
  upF_par N.length (fun k _ => fst_par hN k) (fun k hk => par_lt hp k hk) _ a ha
theorem lf_fst {N : List (Cor × Value)} {l : List Cor} (hp : ParsC N) (hN : N.map Prod.fst = l) (p : Int) : lfDC N p = lfDC (zC l) p := by
  have hl : (zC l).length = N.length := by rw [zC_len, ← hN, List.length_map]
  unfold lfDC
  rw [hl, upL_fst hp hN _ (by omega)]
/-- What is on the chain from a place. -/
theorem upL_mem {N : List (Cor × Value)} (hp : ParsC N) : ∀ (k : Nat) (a : Int), a < N.length → a < k → ∀ x ∈ upLC N a, 0 ≤ x ∧ x ≤ a
  | 0, a, _, h, x, hx => by
    unfold upLC at hx
    rw [upF_negC N _ a (by omega)] at hx; cases hx
  | k + 1, a, ha, h, x, hx => by
    by_cases h0 : a < 0
    · unfold upLC at hx
      rw [upF_negC N _ a h0] at hx; cases hx
    · obtain ⟨j, rfl⟩ : ∃ j : Nat, a = (j : Int) := ⟨a.toNat, by omega⟩
      have hj : j < N.length := by omega
      have hpj := hp j hj
      rw [upL_atC hp j hj] at hx
      rcases List.mem_cons.1 hx with rfl | hx
      · omega
      · have := upL_mem hp k N[j].1.parent (by omega) (by omega) x hx
        omega
theorem upL_pos {N : List (Cor × Value)} (hp : ParsC N) (a : Int) (ha : a < N.length) : ∀ x ∈ upLC N a, 0 ≤ x := fun x hx => (upL_mem hp (a + 1).toNat a ha (by
  by_cases h : a < 0
  · unfold upLC at hx; rw [upF_negC N _ a h] at hx; cases hx
  · omega) x hx).1
/-- Whether the chain of each hangs on the one ahead. -/
def Opn (N : List (Cor × Value)) : Prop := ∀ (j : Nat) (h : j + 1 < N.length), N[j + 1].1.parent ∈ upLC N (j : Int)
/-- Where what hangs on a place ends. -/
theorem endC (N : List (Cor × Value)) (a : Nat) (ha : a < N.length) : ∃ e, EndAtC N a e := by
  suffices H : ∀ (m e : Nat), N.length - e = m → a < e → e ≤ N.length → (∀ (j : Nat) (h : j < N.length), a < j → j < e → (a : Int) ≤ N[j].1.parent) → ∃ e, EndAtC N a e from H _ (a + 1) rfl (by omega) (by omega) (fun j h h1 h2 => by omega)
  intro m
  induction m with
  | zero =>
    intro e h1 h2 h3 h4
    exact ⟨e, h2, h3, h4, fun h => by omega⟩
  | succ m ih =>
    intro e h1 h2 h3 h4
    have he : e < N.length := by omega
    by_cases hq : N[e].1.parent < (a : Int)
    · exact ⟨e, h2, h3, h4, fun _ => hq⟩
    · refine ih (e + 1) (by omega) (by omega) (by omega) (fun j h g1 g2 => ?_)
      by_cases hj : j = e
      · subst hj; omega
      · exact h4 j h g1 (by omega)
theorem upL_past {N : List (Cor × Value)} (hp : ParsC N) (ho : Opn N) {a e : Nat} (hE : EndAtC N a e) : ∀ (k : Nat) (_ : k < N.length), e ≤ k → ∀ x ∈ upLC N (k : Int), x < (a : Int) ∨ (e : Int) ≤ x := by
  have hlt := hE.lt
  suffices H : ∀ m k (_ : k < N.length), k < m → e ≤ k → ∀ x ∈ upLC N (k : Int), x < (a : Int) ∨ (e : Int) ≤ x from fun k hk h => H (k + 1) k hk (by omega) h
  intro m
  induction m with
  | zero => intro k hk h; omega
  | succ m ih =>
    intro k hk hm he x hx
    have hpk := hp k hk
    rw [upL_atC hp k hk] at hx
    rcases List.mem_cons.1 hx with rfl | hx
    · right; omega
    · have low : N[k].1.parent < (a : Int) → x < (a : Int) ∨ (e : Int) ≤ x := fun h => by
        have := upL_mem hp (k + 1) N[k].1.parent (by omega) (by omega) x hx
        left; omega
      by_cases hke : k = e
      · subst hke
        exact low (hE.stop hk)
      · obtain ⟨j, rfl⟩ : ∃ j, k = j + 1 := ⟨k - 1, by omega⟩
        have hm1 := ho j hk
        rcases ih j (by omega) (by omega) (by omega) _ hm1 with h | h
        · exact low h
        · obtain ⟨q, hq⟩ : ∃ q : Nat, N[j + 1].1.parent = (q : Int) := ⟨N[j + 1].1.parent.toNat, by omega⟩
          rw [hq] at hx
          exact ih q (by omega) (by omega) (by omega) x hx
theorem par_past {N : List (Cor × Value)} (hp : ParsC N) (ho : Opn N) {a e : Nat} (hE : EndAtC N a e) (k : Nat) (hk : k < N.length) (he : e ≤ k) : N[k].1.parent ≠ (a : Int) := by
  have hlt := hE.lt
  by_cases hke : k = e
  · subst hke
    have := hE.stop hk
    omega
  · obtain ⟨j, rfl⟩ : ∃ j, k = j + 1 := ⟨k - 1, by omega⟩
    rcases upL_past hp ho hE j (by omega) (by omega) _ (ho j hk) with h | h <;> omega
theorem tellC_at (N : List (Cor × Value)) (a : Nat) : ∀ m, a + m ≤ N.length → (tellNC N a m).map (·.2) = (N.drop a).take m
  | 0, _ => by simp [tellNC]
  | m + 1, h => by
    rw [tellN_nextC N a m (by omega), List.map_append, tellC_at N a m (by omega), List.take_add_one]
    simp [List.getElem?_drop, show a + m < N.length by omega]
/-- The kids that are told are all. -/
theorem kids_count {N : List (Cor × Value)} {l : List Cor} (hp : ParsC N) (ho : Opn N) (hN : N.map Prod.fst = l) {a e : Nat} (hE : EndAtC N a e) : (kidsTC (a : Int) (tellNC N a (e - a))).length = kidN l (a : Int) := by
  have h1 := hE.lt
  have h2 := hE.le
  have e1 : (kidsTC (a : Int) (tellNC N a (e - a))).length = (((N.drop a).take (e - a)).filter fun x => x.1.parent == (a : Int)).length := by
    rw [← tellC_at N a (e - a) (by omega), List.filter_map, List.length_map]
    unfold kidsTC
    rw [List.length_map]
    rfl
  have e2 : kidN l (a : Int) = (N.filter fun x => x.1.parent == (a : Int)).length := by
    unfold kidN
    rw [← hN, List.filter_map, List.length_map]
    rfl
  have e3 : N = N.take a ++ ((N.drop a).take (e - a) ++ N.drop e) := by
    have : (N.drop a).drop (e - a) = N.drop e := by rw [List.drop_drop, show a + (e - a) = e by omega]
    rw [← this, List.take_append_drop, List.take_append_drop]
  have f1 : ((N.take a).filter fun x => x.1.parent == (a : Int)) = [] := by
    rw [List.filter_eq_nil_iff]
    intro x hx
    obtain ⟨j, hj, rfl⟩ := List.getElem_of_mem hx
    simp only [List.length_take] at hj
    have := (hp j (by omega)).1
    simp only [List.getElem_take]
    simp
    omega
  have f2 : ((N.drop e).filter fun x => x.1.parent == (a : Int)) = [] := by
    rw [List.filter_eq_nil_iff]
    intro x hx
    obtain ⟨j, hj, rfl⟩ := List.getElem_of_mem hx
    simp only [List.length_drop] at hj
    have := par_past hp ho hE (e + j) (by omega) (by omega)
    simp only [List.getElem_drop]
    simpa using this
  rw [e1, e2]
  conv => rhs; rw [e3]
  rw [List.filter_append, List.filter_append, f1, f2]
  simp
theorem opn_of {N : List (Cor × Value)} {l : List Cor} {k : Nat} (hk : k ≤ l.length) (hN : N.map Prod.fst = l.take k) (h : okC l k) : Opn N := fun j hj => by
  have hp := parsC_of hk hN h
  have hl : N.length = k := by have := congrArg List.length hN; simp at this; omega
  have e : N[j + 1].1 = l[j + 1]'(by omega) := by
    have : (N.map Prod.fst)[j + 1]'(by simpa using hj) = (l.take k)[j + 1]'(by simp; omega) := by simp only [hN]
    simpa using this
  have h1 := (oneC_parts (h (j + 1) (by omega) (by omega))).2.1
  have hlen : (zC (l.take (j + 1))).length = j + 1 := by rw [zC_len, List.length_take]; omega
  rcases lf_zero h1 with ⟨h2, _⟩ | ⟨_, _, h3⟩
  · omega
  · rw [e]
    rw [hlen] at h3
    have e3 : upLC N (j : Int) = upLC (zC (l.take (j + 1))) (((j + 1 : Nat) : Int) - 1) := by
      rw [show (((j + 1 : Nat) : Int) - 1) = (j : Int) by omega]
      refine upF_par (j + 1) (fun q hq => ?_) (fun q hq => par_lt hp q (by omega)) _ _ (by omega)
      rw [fst_par hN q, zC_take l k q (by omega), zC_take l (j + 1) q hq]
    rw [e3]; exact h3
end Go.Proofs.YtebnonpdaddniaaGreatDoor
/-
  The model's l4Name, l4Line, l4Around, l4Kids: whether a name is a global's, whether a core hangs on an open one, the lambda so many out, the places of a core's kids; nothing that was there is turned.
-/
namespace Go.Proofs.YtebnonpdaddniaaGreatDoor
open Go.RowKit Go.Extern.Stop Go.Stop Go.Extern Num Go.Lib

theorem l4Name_any (z : ByteArray) (w : World) (hz : z.size ≤ 9223372036854775807) :
    Calls Tryz.prog 137 #[.string z] w fun e w' => e = .returned (.bool (namC z)) ∧ Below w.heap.size w w' := by
  have HS : Hid (∀ w, Calls Tryz.prog 99 #[.string z] w fun e w' => e = .returned (.bool (symL z.data.toList)) ∧ w' = w) := fun w => sym_any z w hz
  have HK : Hid (∀ w, Calls Tryz.prog 104 #[.string z] w fun e w' => e = .returned (.bool (kwB z)) ∧ Below w.heap.size w w') := fun w => specKw_any z w
  have HR : Hid (namC z = (symL z.data.toList && !kwB z)) := rfl
  generalize namC z = R at HR ⊢
  generalize symL z.data.toList = s at HS HR
  generalize kwB z = q at HK HR
  cases s with
  | false =>
    obtain rfl : R = false := HR.out
    go_enter Tryz.func137, Tryz.ntmps137
    go_wp2_with (first | (go_at_call 99; refine (HS.out _).mono ?_; rintro e w' ⟨rfl, hw'⟩; replace hw' := hw'.symm; subst hw'))
    go_ret
    exact ⟨rfl, Below.refl _ _⟩
  | true =>
    obtain rfl : R = !q := HR.out
    go_enter Tryz.func137, Tryz.ntmps137
    go_wp2_with (first | (go_at_call 99; refine (HS.out _).mono ?_; rintro e w' ⟨rfl, hw'⟩; replace hw' := hw'.symm; subst hw') | (go_at_call 104; refine (HK.out _).mono ?_; rintro e w1 ⟨rfl, b1⟩))
    go_ret
    exact ⟨rfl, b1⟩
/-- Whose kid it is. -/
def parZ (l : List Cor) (k : Nat) : Int := (l[k]?.map (·.parent)).getD (-1)
theorem parZ_at (l : List Cor) (k : Nat) (h : k < l.length) : parZ l k = l[k].parent := by simp [parZ, h]
set_option maxHeartbeats 1000000 in
theorem l4Line_any (B g cap : Nat) (l : List Cor) (w : World) (i : Nat) (hR : RowC w B g l) (hi : i < l.length) (hi0 : 0 < i) (hlm : l.length ≤ 160) (hp : ParsC (zC (l.take i))) :
    Calls Tryz.prog 136 #[.slice (some ⟨g, 0, none⟩) l.length cap, .int .i64 (i : Int)] w fun e w' => e = .returned (.bool (decide (l[i].parent ∈ upLC (zC (l.take i)) ((i : Int) - 1)))) ∧ w' = w := by
  have HR : Hid (RowC w B g l) := hR
  have HP : Hid (ParsC (zC (l.take i))) := hp
  have hci := (HR.out i hi).2.1
  have HL : Hid ((zC (l.take i)).length = i) := by show _ = _; rw [zC_len, List.length_take]; omega
  have HA : Hid (∀ (j : Nat) (h : j < l.length) (h2 : j < (zC (l.take i)).length), (zC (l.take i))[j].1.parent = l[j].parent) := fun j h h2 => by
    rw [zC_at (l.take i) j (by rw [zC_len] at h2; exact h2)]; simp
  clear hR hp
  obtain ⟨p, hpe⟩ : ∃ p, p = (l[i]'hi).parent := ⟨_, rfl⟩
  rw [← hpe] at hci ⊢
  clear hpe
  generalize zC (l.take i) = Z at HP HL HA ⊢
  obtain ⟨R, hRe⟩ : ∃ R : Bool, R = decide (p ∈ upLC Z ((i : Int) - 1)) := ⟨_, rfl⟩
  rw [← hRe]
  have HE : Hid (R = decide (p ∈ upLC Z ((i : Int) - 1))) := hRe
  clear hRe
  go_enter Tryz.func136, Tryz.ntmps136
  go_wp2_with fail
  go_loopw [5, 6] (fun u v wr => ∃ (b : Int) (n : Nat), (n : Int) + b < (i : Int) ∧ n ≤ 200 ∧ -1 ≤ b ∧ u = .int .i64 (n : Int) ∧ v = .int .i64 b ∧ Hid (decide (p ∈ upLC Z b) = R) ∧ Hid (wr = w)) (fun _ v _ => ((RowKit.intOf v) + 1).toNat)
  case atStart => exact ⟨(i : Int) - 1, 0, by omega, by omega, by omega, rfl, rfl, HE.out.symm, rfl⟩
  case round =>
    obtain ⟨b, n, hb, hn, hb1, rfl, rfl, HD, HW⟩ := hrel
    have hciw : wr.cell? ⟨g, i * 6 + 1, none⟩ = some (.int .i64 p) := by rw [HW.out]; exact hci
    clear hci
    by_cases h0 : 0 ≤ b
    · obtain ⟨k, rfl⟩ := Int.eq_ofNat_of_zero_le h0
      have hk : k < l.length := by omega
      have hn200 : (n : Int) < 200 := by omega
      have hc1 : wr.cell? ⟨g, k * 6 + 1, none⟩ = some (.int .i64 (l[k]'hk).parent) := by rw [HW.out]; exact (HR.out k hk).2.1
      have hkz : k < Z.length := by have := HL.out; omega
      have hup := upL_atC HP.out k hkz
      have hpk := HP.out k hkz
      rw [HA.out k hk hkz] at hup hpk
      by_cases he : (k : Int) = p
      · have hb1' : ((k : Int) == p) = true := by simpa using he
        have HF : Hid (true = R) := by
          have := HD.out
          rw [hup, he] at this
          rw [← this]; simp [Hid]
        clear he hup hpk
        go_wp2
        go_ret
        exact ⟨by rw [← HF.out]; rfl, HW.out⟩
      · have hb1' : ((k : Int) == p) = false := by simpa using he
        have HF : Hid (decide (p ∈ upLC Z (l[k]'hk).parent) = R) := by
          have := HD.out
          rw [hup] at this
          rw [← this]
          show decide _ = decide _
          congr 1
          simp [Ne.symm he]
        clear he hup
        go_wp2
        exact ⟨⟨(l[k]'hk).parent, n + 1, by omega, by omega, hpk.2, by go_num, rfl, HF.out, HW.out⟩, by simp [RowKit.intOf]; omega⟩
    · have HF : Hid (false = R) := by
        have := HD.out
        rw [show b = -1 by omega, upL_negC] at this
        rw [← this]; simp [Hid]
      go_wp2
      go_ret
      exact ⟨by rw [← HF.out]; rfl, HW.out⟩
set_option maxHeartbeats 1000000 in
theorem l4Around_any (B g cap : Nat) (l : List Cor) (w : World) (i : Nat) (o : Int) (hR : RowC w B g l) (hi : i < l.length) (_hlm : l.length ≤ 160) (hp : ParsC (zC (l.take i))) (hp1 : -1 ≤ l[i].parent) (hp2 : l[i].parent < (i : Int)) (ho : 0 ≤ o) (ho2 : o ≤ 160) :
    Calls Tryz.prog 180 #[.slice (some ⟨g, 0, none⟩) l.length cap, .int .i64 (i : Int), .int .i64 o] w fun e w' => e = .returned (.int .i64 (aroF l (upLC (zC (l.take i)) l[i].parent) o)) ∧ w' = w := by
  have HR : Hid (RowC w B g l) := hR
  have HP : Hid (ParsC (zC (l.take i))) := hp
  have hci := (HR.out i hi).2.1
  have HL : Hid ((zC (l.take i)).length = i) := by show _ = _; rw [zC_len, List.length_take]; omega
  have HA : Hid (∀ (j : Nat) (h : j < l.length) (h2 : j < (zC (l.take i)).length), (zC (l.take i))[j].1.parent = l[j].parent) := fun j h h2 => by
    rw [zC_at (l.take i) j (by rw [zC_len] at h2; exact h2)]; simp
  clear hR hp
  obtain ⟨p, hpe⟩ : ∃ p, p = (l[i]'hi).parent := ⟨_, rfl⟩
  rw [← hpe] at hci hp1 hp2 ⊢
  clear hpe
  generalize zC (l.take i) = Z at HP HL HA ⊢
  obtain ⟨R, hRe⟩ : ∃ R : Int, R = aroF l (upLC Z p) o := ⟨_, rfl⟩
  rw [← hRe]
  have HE : Hid (R = aroF l (upLC Z p) o) := hRe
  clear hRe
  go_enter Tryz.func180, Tryz.ntmps180
  go_wp2_with fail
  go_loopw [2, 7] (fun x v wr => ∃ (b : Int) (m : Int), b < (i : Int) ∧ -1 ≤ b ∧ 0 ≤ m ∧ m ≤ 160 ∧ x = .int .i64 m ∧ v = .int .i64 b ∧ Hid (aroF l (upLC Z b) m = R) ∧ Hid (wr = w)) (fun _ v _ => ((RowKit.intOf v) + 1).toNat)
  case atStart => exact ⟨p, o, hp2, hp1, ho, ho2, rfl, rfl, HE.out.symm, rfl⟩
  case round =>
    obtain ⟨b, m, hb, hb1, hm, hm2, rfl, rfl, HD, HW⟩ := hrel
    clear hci
    by_cases h0 : 0 ≤ b
    · obtain ⟨k, rfl⟩ := Int.eq_ofNat_of_zero_le h0
      have hk : k < l.length := by omega
      have hc0 : wr.cell? ⟨g, k * 6, none⟩ = some (.int .i64 (l[k]'hk).kind) := by rw [HW.out]; exact (HR.out k hk).1
      have hc1 : wr.cell? ⟨g, k * 6 + 1, none⟩ = some (.int .i64 (l[k]'hk).parent) := by rw [HW.out]; exact (HR.out k hk).2.1
      have hkz : k < Z.length := by have := HL.out; omega
      have hup := upL_atC HP.out k hkz
      have hpk := HP.out k hkz
      rw [HA.out k hk hkz] at hup hpk
      have HD1 : Hid ((if kdC l k = 5 then (if m = 0 then (k : Int) else aroF l (upLC Z (l[k]'hk).parent) (m - 1)) else aroF l (upLC Z (l[k]'hk).parent) m) = R) := by
        have := HD.out
        rw [hup] at this
        show _ = _
        simpa only [aroF, Int.toNat_natCast] using this
      clear hup HD
      rw [kdC_at l k hk] at HD1
      by_cases he : (l[k]'hk).kind = 5
      · have hb1' : ((l[k]'hk).kind == 5) = true := by simpa using he
        rw [if_pos he] at HD1
        clear he
        by_cases hm0 : m = 0
        · have hb2' : (m == 0) = true := by simpa using hm0
          rw [if_pos hm0] at HD1
          clear hm0
          go_wp2
          go_ret
          exact ⟨by rw [← HD1.out]; rfl, HW.out⟩
        · have hb2' : (m == 0) = false := by simpa using hm0
          rw [if_neg hm0] at HD1
          go_wp2
          exact ⟨⟨(l[k]'hk).parent, m - 1, by omega, hpk.2, by omega, by omega, by go_num, rfl, HD1.out, HW.out⟩, by simp [RowKit.intOf]; omega⟩
      · have hb1' : ((l[k]'hk).kind == 5) = false := by simpa using he
        rw [if_neg he] at HD1
        clear he
        go_wp2
        exact ⟨⟨(l[k]'hk).parent, m, by omega, hpk.2, by omega, by omega, rfl, rfl, HD1.out, HW.out⟩, by simp [RowKit.intOf]; omega⟩
    · have HF : Hid (-1 = R) := by
        have := HD.out
        rw [show b = -1 by omega, upL_negC] at this
        exact this
      go_wp2
      go_ret
      exact ⟨by rw [← HF.out]; rfl, HW.out⟩
/-- The places, below k, of the parts of a place. -/
def kidsTo (l : List Cor) (a : Int) : Nat → List Int
  | 0 => []
  | k + 1 => if parZ l k = a then kidsTo l a k ++ [(k : Int)] else kidsTo l a k
def kidsD (l : List Cor) (a : Int) : List Int := kidsTo l a l.length
theorem kidsTo_len (l : List Cor) (a : Int) (k : Nat) : (kidsTo l a k).length ≤ k := by
  induction k with
  | zero => simp [kidsTo]
  | succ k ih =>
    simp only [kidsTo]
    split
    · rw [List.length_append]; simp; omega
    · omega
set_option maxRecDepth 100000 in
set_option maxHeartbeats 2000000 in
theorem l4Kids_any (B g cap : Nat) (l : List Cor) (a : Int) (w : World) (hR : RowC w B g l) (hl : l.length ≤ 1048576) :
    Calls Tryz.prog 93 #[.slice (some ⟨g, 0, none⟩) l.length cap, .int .i64 a] w fun e w' => ∃ q c, e = .returned (.slice (some ⟨q, 0, none⟩) (kidsD l a).length c) ∧ w'.ownsRow w.heap.size 2 1 (.slice (some ⟨q, 0, none⟩) (kidsD l a).length c) (kidsD l a).length (cellsI (kidsD l a)) ∧ Below w.heap.size w w' := by
  have HR : Hid (RowC w B g l) := hR
  obtain ⟨i0, hi, hz0, hz1, hz2⟩ := info_parts infoI
  clear hR
  go_enter Tryz.func93, Tryz.ntmps93
  go_wp2_with fail
  go_loopw [5, 6] (fun v i wr => ∃ (k q c : Nat) (L : List Int), k ≤ l.length ∧ i = .int .i64 (k : Int) ∧ v = .slice (some ⟨q, 0, none⟩) L.length c ∧ L.length ≤ k ∧ Hid (L = kidsTo l a k) ∧ Hid (wr.ownsRow w.heap.size 2 1 (.slice (some ⟨q, 0, none⟩) L.length c) L.length (cellsI L)) ∧ Hid (Below w.heap.size w wr)) (fun _ i _ => l.length - (RowKit.intOf i).toNat)
  case atStart => exact ⟨0, _, _, [], Nat.zero_le _, rfl, rfl, Nat.le_refl _, rfl, World.ownsRow_made _ #[] 0 (Nat.le_refl _) (Nat.zero_le _) rfl, (Below.refl _ _).alloc (Nat.le_refl _) _⟩
  case round =>
    obtain ⟨k, q, c, L, hk, rfl, rfl, hLk, HL, HO, HB⟩ := hrel
    have hz : w.heap.size ≤ wr.heap.size := HB.out.size
    by_cases hlt : k < l.length
    · have c1 : wr.cell? ⟨g, k * 6 + 1, none⟩ = some (.int .i64 (l[k]'hlt).parent) := (HR.out.below HB.out k hlt).2.1
      by_cases he : (l[k]'hlt).parent = a
      · have hb : ((l[k]'hlt).parent == a) = true := by simpa using he
        have HL2 : Hid (L ++ [(k : Int)] = kidsTo l a (k + 1)) := by
          show _ = _
          rw [kidsTo, parZ_at l k hlt, if_pos he, HL.out]
        clear he
        go_wp2_with (first | (at_builtin; refine wpList_append_lies _ rfl (.tmp 21) (.tmp 23) 127 rfl w.heap.size 2 i0 _ 1 8 Tryz.underlying127 hi hz0 hz1 hz2 rfl (by decide) _ L.length (cellsI L) rfl (HO.out.alloc _) ⟨_, 0, none⟩ 1 1 [.int .i64 (k : Int)] rfl rfl ?c1 ?c2 (by decide) ?c3 ?c4 ?c5 _ rfl ?_))
        case c1 => exact newsI (heap_new' _ _ _ (by simp))
        case c2 => intro u hu; simp at hu; subst hu; rfl
        case c3 => unfold maxLen; omega
        case c4 => omega
        case c5 => simp; omega
        intro g' cap' w1 hown1 hgrow1 _ _
        have HO1 : Hid (w1.ownsRow w.heap.size 2 1 (.slice (some ⟨g', 0, none⟩) (L ++ [(k : Int)]).length cap') (L ++ [(k : Int)]).length (cellsI (L ++ [(k : Int)]))) := by
          rw [cellsI_append, List.length_append]
          exact hown1
        have HB1 : Hid (Below w.heap.size w w1) := (HB.out.alloc hz _).grown hgrow1 (by simp; omega) (fun j hj => (HO.out.lt j hj).1)
        clear hown1 hgrow1
        go_wp2
        exact ⟨⟨k + 1, g', cap', L ++ [(k : Int)], by omega, by go_num, by simp, by simp; omega, HL2.out, HO1.out, HB1.out⟩, by simp [RowKit.intOf]; omega⟩
      · have hb : ((l[k]'hlt).parent == a) = false := by simpa using he
        have HL2 : Hid (L = kidsTo l a (k + 1)) := by
          show _ = _
          rw [kidsTo, parZ_at l k hlt, if_neg he, HL.out]
        clear he
        go_wp2
        exact ⟨⟨k + 1, q, c, L, by omega, by go_num, rfl, by omega, HL2.out, HO.out, HB.out⟩, by simp [RowKit.intOf]; omega⟩
    · have HF : Hid (L = kidsD l a) := by
        have hkl : k = l.length := by omega
        show L = kidsTo l a l.length
        rw [HL.out, hkl]
      go_wp2
      go_ret
      rw [← HF.out]
      exact ⟨q, c, rfl, HO.out, HB.out⟩
end Go.Proofs.YtebnonpdaddniaaGreatDoor
/-
  What is wrong with a core, in the model's order: its bareness, its parent, its line, its name, its data, whether it is a definition behind the first core, its place; and it is what CoMath tells.
-/
namespace Go.Proofs.YtebnonpdaddniaaGreatDoor
open Go.RowKit

/-- Whether the numbers of a core are right. -/
def placeB (l : List Cor) (i : Nat) (t : Cor) : Bool :=
  if t.kind = 5 then decide (0 ≤ t.a) && decide (t.a ≤ 3)
  else if t.kind = 2 then decide (0 ≤ t.b) && decide (t.b < poF l t.a (upLC (zC (l.take i)) t.parent) 0)
  else true
/-- Whether it hangs on no open one. -/
def lineBad (l : List Cor) (i : Nat) (p : Int) : Bool := decide (0 < i) && !(decide (p ∈ upLC (zC (l.take i)) ((i : Int) - 1)))
def defBad (i : Nat) (t : Cor) : Bool := t.kind == 8 && decide (0 < i)
def dataBad (t : Cor) : Bool := t.kind == 1 && !(dataFault t.data == 0)
def nameBad (t : Cor) : Bool := namedK t.kind && !namC t.name
def oneM (l : List Cor) (i : Nat) (t : Cor) : Int :=
  if bareC t = false then 1 else if parBad i t.parent = true then 3 else if lineBad l i t.parent = true then 1 else if nameBad t = true then 5
  else if dataBad t = true then dataFault t.data else if defBad i t = true then 1 else if placeB l i t = false then 3 else 0
theorem lf_model (l : List Cor) (i : Nat) (hi : i ≤ l.length) (p : Int) : lfDC (zC (l.take i)) p = if parBad i p = true then 3 else if lineBad l i p = true then 1 else 0 := by
  have hz : (zC (l.take i)).length = i := by rw [zC_len, List.length_take]; omega
  unfold lfDC parBad lineBad
  rw [hz]
  by_cases h0 : i = 0
  · subst h0
    by_cases hp : p = -1
    · subst hp; simp
    · have h2 : p < 0 ∨ ((0 : Nat) : Int) ≤ p := by omega
      rw [if_neg (by simp [hp]), if_pos h2]
      simp [hp]
  · have hp : 0 < i := by omega
    rw [if_neg (by simp [h0])]
    by_cases h2 : p < 0 ∨ (i : Int) ≤ p
    · rw [if_pos h2]
      have : ¬ (0 ≤ p ∧ p ≤ (i : Int) - 1) := by omega
      by_cases ha : 0 ≤ p
      · have hb : ¬ p ≤ (i : Int) - 1 := by omega
        simp [ha, hb, hp]
      · simp [ha, hp]
    · rw [if_neg h2]
      have ha : 0 ≤ p := by omega
      have hb : p ≤ (i : Int) - 1 := by omega
      have hb2 : p < (i : Int) := by omega
      by_cases hm : p ∈ upLC (zC (l.take i)) ((i : Int) - 1)
      · simp [ha, hb, h0, hp, hm]
      · simp [ha, hb, h0, hp, hm]
theorem namedK_iff (k : Int) : namedK k = true ↔ (k = 3 ∨ k = 7 ∨ k = 8) := by simp [namedK, or_assoc]
theorem oneC_model (l : List Cor) (i : Nat) (hi : i ≤ l.length) (t : Cor) : oneC l i t = oneM l i t := by
  unfold oneC oneM
  by_cases hb : bareC t = false
  · rw [if_pos hb, if_pos hb]
  · rw [if_neg hb, if_neg hb, lf_model l i hi]
    by_cases h1 : parBad i t.parent = true
    · simp [h1]
    · rw [if_neg h1, if_neg h1]
      by_cases h2 : lineBad l i t.parent = true
      · simp [h2]
      · rw [if_neg h2, if_neg h2]
        simp only [ne_eq, not_true_eq_false, if_false]
        unfold contC nameBad dataBad defBad placeB
        rcases kinds9 t.kind with h | h | h | h | h | h | h | h | h | h
        · by_cases hd : dataFault t.data = 0 <;> simp [h, namedK, hd]
        · by_cases ha : 0 ≤ t.b <;> by_cases hc : t.b < poF l t.a (upLC (zC (l.take i)) t.parent) 0 <;> simp [h, namedK, ha, hc]
        · cases hn : namC t.name <;> simp [h, namedK]
        · simp [h, namedK]
        · by_cases ha : 0 ≤ t.a <;> by_cases hc : t.a ≤ 3 <;> simp [h, namedK, ha, hc]
        · simp [h, namedK]
        · cases hn : namC t.name <;> simp [h, namedK]
        · cases hn : namC t.name <;> by_cases h0 : i = 0 <;> simp [h, namedK, h0] <;> omega
        · simp [h, namedK]
        · have g1 : t.kind ≠ 1 := by omega
          have g2 : t.kind ≠ 2 := by omega
          have g3 : t.kind ≠ 3 := by omega
          have g5 : t.kind ≠ 5 := by omega
          have g7 : t.kind ≠ 7 := by omega
          have g8 : t.kind ≠ 8 := by omega
          simp [g1, g2, g3, g5, g7, g8, namedK]
/-- The cores ahead are without fault: a lambda's parameters are few. -/
theorem okC_lam {l : List Cor} {i : Nat} (hok : okC l i) (k : Nat) (hk : k < l.length) (hki : k < i) (h5 : l[k].kind = 5) : 0 ≤ l[k].a ∧ l[k].a ≤ 3 := by
  have h1 := (oneC_parts (hok k hk hki)).2.2
  unfold contC at h1
  rw [if_neg (by omega), if_neg (by omega), if_pos h5] at h1
  by_cases h : 0 ≤ l[k].a ∧ l[k].a ≤ 3
  · exact h
  · rw [if_neg h] at h1; exact absurd h1 (by decide)
theorem aroF_kind (l : List Cor) : ∀ (xs : List Int) (o : Int), aroF l xs o = -1 ∨ (aroF l xs o ∈ xs ∧ kdC l (aroF l xs o).toNat = 5)
  | [], _ => .inl rfl
  | x :: r, o => by
    simp only [aroF]
    by_cases hk : kdC l x.toNat = 5
    · rw [if_pos hk]
      by_cases ho : o = 0
      · rw [if_pos ho]; exact .inr ⟨by simp, hk⟩
      · rw [if_neg ho]
        rcases aroF_kind l r (o - 1) with h | ⟨h1, h2⟩
        · exact .inl h
        · exact .inr ⟨by simp [h1], h2⟩
    · rw [if_neg hk]
      rcases aroF_kind l r o with h | ⟨h1, h2⟩
      · exact .inl h
      · exact .inr ⟨by simp [h1], h2⟩
theorem poF_far (l : List Cor) (out : Int) : ∀ (xs : List Int) (n : Int), out < n ∨ n + xs.length ≤ out → poF l out xs n = 0
  | [], _, _ => rfl
  | x :: r, n, h => by
    simp only [poF]
    simp only [List.length_cons] at h
    by_cases hk : kdC l x.toNat = 5
    · rw [if_pos hk, if_neg (by omega)]
      exact poF_far l out r (n + 1) (by omega)
    · rw [if_neg hk]
      exact poF_far l out r n (by omega)
end Go.Proofs.YtebnonpdaddniaaGreatDoor
