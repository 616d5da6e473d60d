/-
  Tokens are read back from their text, plainly: the tokens of the text of a list of tokens without a fault are that list; no program in it.
-/
import Derived.Test.YtnlfnicgfhfpfaaGreatDoorJoinTok
import Derived.Test.YtnlfnicgfhfpfaaGreatDoorSpecOf
namespace Go.Proofs.YtnlfnicgfhfpfaaGreatDoor
open Go.RowKit Go.Extern.Stop Go.Stop Go.Extern Num Go.Lib

theorem onB_of_ne (b : UInt8) (h : b ≠ 32 ∧ b ≠ 10 ∧ b ≠ 59 ∧ b ≠ 40 ∧ b ≠ 41 ∧ b ≠ 39) : onB b = true := by
  unfold onB markB; simp [h]
theorem onB_digit (b : UInt8) (h : 48 ≤ b.toNat ∧ b.toNat ≤ 57) : onB b = true := by
  apply onB_of_ne
  refine ⟨?_, ?_, ?_, ?_, ?_, ?_⟩ <;> (rintro rfl; revert h; decide)
theorem onB_letter (b : UInt8) (h : 97 ≤ b.toNat ∧ b.toNat ≤ 122) : onB b = true := by
  apply onB_of_ne
  refine ⟨?_, ?_, ?_, ?_, ?_, ?_⟩ <;> (rintro rfl; revert h; decide)
theorem sym_cases (b : UInt8) (h : symB b = true) : (97 ≤ b.toNat ∧ b.toNat ≤ 122) ∨ b ∈ signs := by
  unfold symB at h
  simp only [Bool.or_eq_true, Bool.and_eq_true, decide_eq_true_eq] at h
  rcases h with h | h
  · exact Or.inl h
  · right
    obtain ⟨x, hx, e⟩ := List.any_eq_true.1 h
    rw [← eq_of_beq e]; exact hx
theorem onB_sym (b : UInt8) (h : symB b = true) : onB b = true := by
  rcases sym_cases b h with h | h
  · exact onB_letter b h
  · revert b
    unfold signs
    intro b _ h
    simp only [List.mem_cons, List.not_mem_nil, or_false] at h
    rcases h with rfl | rfl | rfl | rfl | rfl | rfl | rfl | rfl <;> decide
theorem digits_all (u : Nat) : ∀ b ∈ decDigits u, 48 ≤ b.toNat ∧ b.toNat ≤ 57 := by
  induction u using Nat.strongRecOn with
  | _ u ih =>
    intro b hb
    have e : ∀ q, q < 10 → (UInt8.ofNat (48 + q)).toNat = 48 + q := fun q hq => by simp [UInt8.toNat_ofNat']; omega
    by_cases h : u < 10
    · rw [decDigits, dif_pos h] at hb
      rw [List.mem_singleton.1 hb, e u h]; omega
    · rw [decDigits, dif_neg h] at hb
      rcases List.mem_append.1 hb with hb | hb
      · exact ih (u / 10) (by omega) b hb
      · rw [List.mem_singleton.1 hb, e _ (Nat.mod_lt _ (by omega))]; omega
theorem itoa_all (v : Int) : ∀ b ∈ itoa v, onB b = true := by
  intro b hb
  unfold itoa at hb
  split at hb
  · rcases List.mem_cons.1 hb with rfl | hb
    · decide
    · exact onB_digit b (digits_all _ b hb)
  · exact onB_digit b (digits_all _ b hb)
/-- A symbol is the text of no number. -/
theorem numOf_sym (l : List UInt8) (h : symL l = true) : numOf l = none := by
  cases e : numOf l with
  | none => rfl
  | some v =>
    exfalso
    obtain ⟨_, h2⟩ := numOf_some e
    have ha : ∀ b ∈ l, symB b = true := by
      unfold symL at h
      simp only [Bool.and_eq_true] at h
      exact List.all_eq_true.1 h.1
    have hd : ∃ b ∈ l, 48 ≤ b.toNat ∧ b.toNat ≤ 57 := by
      rw [← h2]
      unfold itoa
      split
      · obtain ⟨c, r, ec, h1, h3⟩ := decDigits_cons v.natAbs
        exact ⟨c, by rw [ec]; simp, h1, h3⟩
      · obtain ⟨c, r, ec, h1, h3⟩ := decDigits_cons v.toNat
        exact ⟨c, by rw [ec]; simp, h1, h3⟩
    obtain ⟨b, hb, h3, h4⟩ := hd
    rcases sym_cases b (ha b hb) with h | h
    · omega
    · unfold signs at h
      simp only [List.mem_cons, List.not_mem_nil, or_false] at h
      rcases h with rfl | rfl | rfl | rfl | rfl | rfl | rfl | rfl <;> revert h3 h4 <;> decide
theorem getD_mid (p : List UInt8) (b : UInt8) (r : List UInt8) : (p ++ b :: r).getD p.length 0 = b := by
  simp [List.getD]
/-- A word ends where the next byte is none of a word. -/
theorem wordEnd_mid : ∀ (x p r : List UInt8), (∀ b ∈ x, onB b = true) → (∀ c q, r = c :: q → onB c = false) → wordEnd (p ++ (x ++ r)) p.length = p.length + x.length
  | [], p, r, _, hr => by
    rw [List.nil_append]
    apply wordEnd_here
    rintro ⟨h1, h2⟩
    cases r with
    | nil => simp at h1
    | cons c q => rw [getD_mid, hr c q rfl] at h2; cases h2
  | b :: x, p, r, hx, hr => by
    have h1 : p.length < (p ++ (b :: x ++ r)).length := by simp
    rw [wordEnd_on _ _ h1 (by rw [List.cons_append, getD_mid]; exact hx b List.mem_cons_self)]
    have e : p ++ (b :: x ++ r) = (p ++ [b]) ++ (x ++ r) := by simp
    have e2 : p.length + 1 = (p ++ [b]).length := by simp
    rw [e, e2, wordEnd_mid x (p ++ [b]) r (fun c hc => hx c (List.mem_cons_of_mem _ hc)) hr]
    simp; omega
theorem name_nil {z : ByteArray} (h : z.data.toList = []) : z = ⟨#[]⟩ := by
  apply ByteArray.ext
  apply Array.toList_inj.1
  rw [h]
theorem bytes_of_list (s : ByteArray) (l : List UInt8) (h : s.data.toList = l) : s = ⟨l.toArray⟩ := by
  apply ByteArray.ext
  apply Array.toList_inj.1
  rw [h]
theorem extract_mid (s : ByteArray) (p x r : List UInt8) (h : s.data.toList = p ++ (x ++ r)) : s.extract p.length (p.length + x.length) = ⟨x.toArray⟩ := by
  apply bytes_of_list
  have : (s.extract p.length (p.length + x.length)).data = s.data.extract p.length (p.length + x.length) := ByteArray.data_extract
  rw [this, Array.toList_extract, h]
  simp [List.extract]
/-- What the text of a token without a fault is: a mark; or a word that is read as this token. -/
theorem text_kinds (t : Tok) (h : tokFault t = 0) :
    (∃ b, (tokText t).data.toList = [b] ∧ markB b = t.kind ∧ markB b ≠ 0 ∧ (b ≠ 59 ∧ b ≠ 32 ∧ b ≠ 10) ∧ t = ⟨markB b, 0, E0⟩) ∨
    ((tokText t).data.toList ≠ [] ∧ (∀ b ∈ (tokText t).data.toList, onB b = true) ∧ wordTok (tokText t) = some t) := by
  have hz := fault_zero h
  obtain ⟨k, n, z⟩ := t
  simp only at hz
  rcases hz with rfl | rfl | rfl | ⟨rfl, hn⟩ | ⟨rfl, hb⟩ | rfl
  · left
    have hn : n = 0 := by
      by_cases hn : n = 0
      · exact hn
      · exfalso; simp [tokFault, hn] at h
    have hm : z.data.toList = [] := by
      by_cases hm : z.data.toList = []
      · exact hm
      · exfalso; simp [tokFault, hn, hm] at h
    subst hn
    rw [name_nil hm]
    exact ⟨40, rfl, rfl, by decide, by decide, rfl⟩
  · left
    have hn : n = 0 := by
      by_cases hn : n = 0
      · exact hn
      · exfalso; simp [tokFault, hn] at h
    have hm : z.data.toList = [] := by
      by_cases hm : z.data.toList = []
      · exact hm
      · exfalso; simp [tokFault, hn, hm] at h
    subst hn
    rw [name_nil hm]
    exact ⟨41, rfl, rfl, by decide, by decide, rfl⟩
  · left
    have hn : n = 0 := by
      by_cases hn : n = 0
      · exact hn
      · exfalso; simp [tokFault, hn] at h
    have hm : z.data.toList = [] := by
      by_cases hm : z.data.toList = []
      · exact hm
      · exfalso; simp [tokFault, hn, hm] at h
    subst hn
    rw [name_nil hm]
    exact ⟨39, rfl, rfl, by decide, by decide, rfl⟩
  · right
    have hm : z.data.toList = [] := by
      by_cases hm : z.data.toList = []
      · exact hm
      · exfalso; simp [tokFault, hm] at h
    rw [name_nil hm]
    have e : (tokText ⟨4, n, ⟨#[]⟩⟩).data.toList = itoa n := by simp [tokText]
    rw [e]
    refine ⟨?_, itoa_all n, ?_⟩
    · obtain ⟨c, r, ec, _⟩ := itoa_head n
      rw [ec]; simp
    · exact wordTok_num (by rw [e]; exact numOf_of hn rfl)
  · right
    have hm : z.data.toList = [] := by
      by_cases hm : z.data.toList = []
      · exact hm
      · exfalso; simp [tokFault, hm] at h
    rw [name_nil hm]
    rcases hb with rfl | rfl
    · refine ⟨by decide, by decide, wordTok_f rfl⟩
    · refine ⟨by decide, by decide, wordTok_t rfl⟩
  · right
    have hn : n = 0 := by
      by_cases hn : n = 0
      · exact hn
      · exfalso; simp [tokFault, hn] at h
    subst hn
    have h2 : symL z.data.toList = true := by simpa [tokFault] using h
    have e : tokText ⟨6, 0, z⟩ = z := rfl
    rw [e]
    have h3 := h2
    unfold symL at h3
    simp only [Bool.and_eq_true, decide_eq_true_eq] at h3
    refine ⟨?_, fun b hb => onB_sym b (List.all_eq_true.1 h3.1 b hb), ?_⟩
    · intro e; rw [e] at h3; simp at h3
    · rw [wordTok_sym (numOf_sym _ h2) ?_ ?_, if_pos h2]
      · intro e; rw [e] at h2; revert h2; decide
      · intro e; rw [e] at h2; revert h2; decide
/-- The token that stands there. -/
theorem tok_here (s : ByteArray) (t : Tok) (p r : List UInt8) (h : tokFault t = 0) (hs : s.data.toList = p ++ ((tokText t).data.toList ++ r)) (hr : ∀ c q, r = c :: q → onB c = false) :
    p.length < s.size ∧ tokAt s p.length = some t ∧ endOf s p.length = p.length + (tokText t).data.toList.length ∧ skip s.data.toList p.length = p.length := by
  have hsz : s.size = s.data.toList.length := (len_bytes s).symm
  rcases text_kinds t h with ⟨b, e, hk, hm, hb, ht⟩ | ⟨hne, hon, hw⟩
  · rw [e] at hs ⊢
    have hg : s.data.toList.getD p.length 0 = b := by rw [hs]; exact getD_mid p b r
    have hlt : p.length < s.data.toList.length := by rw [hs]; simp
    refine ⟨by omega, ?_, ?_, skip_word _ _ hlt (by rw [hg]; exact hb.1) (by rw [hg]; exact hb.2)⟩
    · unfold tokAt
      rw [hg, if_neg hm, ht]
    · unfold endOf
      rw [hg, if_neg hm]; rfl
  · obtain ⟨b, q, e⟩ : ∃ b q, (tokText t).data.toList = b :: q := by
      cases hx : (tokText t).data.toList with
      | nil => exact absurd hx hne
      | cons b q => exact ⟨b, q, rfl⟩
    have hob : onB b = true := hon b (by rw [e]; simp)
    have hg : s.data.toList.getD p.length 0 = b := by rw [hs, e]; exact getD_mid p b _
    have hlt : p.length < s.data.toList.length := by rw [hs, e]; simp
    have hob' := hob
    unfold onB at hob'
    simp only [Bool.and_eq_true, bne_iff_ne, ne_eq, beq_iff_eq] at hob'
    have hE : wordEnd s.data.toList p.length = p.length + (tokText t).data.toList.length := by rw [hs]; exact wordEnd_mid _ p r hon hr
    refine ⟨by omega, ?_, ?_, skip_word _ _ hlt (by rw [hg]; exact hob'.2.2.1) (by rw [hg]; exact ⟨hob'.1, hob'.2.1⟩)⟩
    · unfold tokAt
      rw [hg, if_pos hob'.2.2.2, hE, extract_mid s p _ r hs]
      have e2 : (⟨(tokText t).data.toList.toArray⟩ : ByteArray) = tokText t := (bytes_of_list _ _ rfl).symm
      rw [e2, hw]
    · unfold endOf
      rw [hg, if_pos hob'.2.2.2, hE]
theorem joinL_cons (t : Tok) (r : List Tok) (h : r ≠ []) : joinL (t :: r) = (tokText t).data.toList ++ (32 :: joinL r) := by
  cases r with
  | nil => exact absurd rfl h
  | cons a q => simp [joinL, bytesOf, join_cons, joinTail]
theorem fault_cons {t : Tok} {r : List Tok} (h : listFault (t :: r) = 0) : tokFault t = 0 ∧ listFault r = 0 := by
  by_cases h0 : tokFault t = 0
  · exact ⟨h0, by simpa [listFault, h0] using h⟩
  · simp [listFault, h0] at h
theorem cut_round (s : ByteArray) : ∀ (r : List Tok) (p : List UInt8) (done : List Tok), listFault r = 0 → r ≠ [] → s.data.toList = p ++ joinL r → done.length + r.length ≤ 120 → Cut s p.length done 0 0 (done ++ r) ∧ skip s.data.toList p.length = p.length
  | [], _, _, _, h, _, _ => absurd rfl h
  | t :: r, p, done, hf, _, hs, hl => by
    obtain ⟨h0, hr⟩ := fault_cons hf
    have hsz : s.size = s.data.toList.length := (len_bytes s).symm
    by_cases hne : r = []
    · subst hne
      rw [joinL_one] at hs
      obtain ⟨h1, h2, h3, h4⟩ := tok_here s t p [] h0 (by rw [hs]; simp) (fun c q e => by cases e)
      refine ⟨Cut.next h1 h2 (by simp at hl; omega) ?_, h4⟩
      have hend : ¬ endOf s p.length < s.data.toList.length := by rw [h3, hs]; simp
      rw [skip_end _ _ hend]
      exact Cut.stop (by omega)
    · rw [joinL_cons t r hne] at hs
      obtain ⟨h1, h2, h3, h4⟩ := tok_here s t p (32 :: joinL r) h0 hs (fun c q e => by cases e; decide)
      refine ⟨Cut.next h1 h2 (by simp at hl; omega) ?_, h4⟩
      have e1 : s.data.toList = (p ++ (tokText t).data.toList) ++ 32 :: joinL r := by rw [hs]; simp
      have e2 : s.data.toList = (p ++ (tokText t).data.toList ++ [32]) ++ joinL r := by rw [hs]; simp
      have ih := cut_round s r (p ++ (tokText t).data.toList ++ [32]) (done ++ [t]) hr hne e2 (by simp at hl ⊢; omega)
      have e3 : endOf s p.length = (p ++ (tokText t).data.toList).length := by rw [h3]; simp
      have hg : s.data.toList.getD (endOf s p.length) 0 = 32 := by rw [e3, e1]; exact getD_mid _ 32 _
      have hlt : endOf s p.length < s.data.toList.length := by rw [e3, e1]; simp
      rw [skip_on _ _ hlt (by rw [hg]; decide) (by rw [hg]; simp)]
      have e4 : endOf s p.length + 1 = (p ++ (tokText t).data.toList ++ [32]).length := by rw [e3]; simp; omega
      rw [e4, ih.2]
      have e5 : done ++ t :: r = done ++ [t] ++ r := by simp
      rw [e5]
      exact ih.1
/-- The tokens of the text of a list of tokens are that list. -/
theorem tof_round (l : List Tok) (h : listFault l = 0) (hl : l.length ≤ 120) (hs : (joinT l).size ≤ 400) : TOf (joinT l) 0 0 l := by
  refine Or.inr ⟨hs, ?_⟩
  by_cases hne : l = []
  · subst hne
    have e : (joinT []).data.toList = [] := by simp [joinT, joinL_zero]
    have e2 : (joinT []).size = 0 := by rw [← len_bytes, e]; rfl
    rw [e, skip_end [] 0 (by simp)]
    exact Cut.stop (by omega)
  · have hd : (joinT l).data.toList = [] ++ joinL l := by simp [joinT]
    have := cut_round (joinT l) l [] [] h hne hd (by simpa using hl)
    simp only [List.length_nil, List.nil_append] at this
    rw [this.2]
    exact this.1
end Go.Proofs.YtnlfnicgfhfpfaaGreatDoor
