/-
  The program's cutTokens, TokensOf and SpotOf: the machine with goto finds the tokens of a text, or the code and the place of the first fault; nothing that was there is turned.
-/
import Derived.Test.YtnlfnicgfhfpfaaGreatDoorImplTake
import Derived.Test.YtnlfnicgfhfpfaaGreatDoorGotos
namespace Go.Proofs.YtnlfnicgfhfpfaaGreatDoor
open Go.RowKit Go.Extern.Stop Go.Stop Go.Extern Num Go.Lib

/-- What the memory is like at a jump: the tokens that were found lie behind their variable. -/
structure Mem (B : Nat) (W w : World) (l : List Tok) : Prop where
  own : ∃ ao cap, w.cell? ⟨B + 1, 0, none⟩ = some (.slice ao l.length cap) ∧ w.ownsRow (B + 2) 37 3 (.slice ao l.length cap) l.length (cellsOf l)
  fz : w.frozen? ⟨B + 1, 0, none⟩ = false
  low : Below (B + 1) W w
  size : B + 2 ≤ w.heap.size
  many : l.length ≤ 120
/-- What is known at each label: 0 between, 1 done, 2 remark, 3 token, 4 word. -/
def At (s : ByteArray) (l : List Tok) : Nat → Nat → Nat → Prop
  | 0, _, e => e ≤ s.size ∧ Owed s (skip s.data.toList e) l
  | 1, _, _ => Cut s (skip s.data.toList 0) [] 0 0 l
  | 2, x, e => e ≤ s.size ∧ x ≤ e ∧ (x = e → e < s.size ∧ s.data.toList.getD e 0 = 59) ∧ Owed s (skip s.data.toList (lineEnd s.data.toList s.data.toList.length e)) l
  | 3, x, e => x < s.size ∧ e = endOf s x ∧ x < e ∧ e ≤ s.size ∧ skip s.data.toList x = x ∧ Owed s x l
  | 4, x, e => x < s.size ∧ x < e ∧ e ≤ s.size ∧ wordEnd s.data.toList e = wordEnd s.data.toList x ∧ markB (s.data.toList.getD x 0) = 0 ∧ skip s.data.toList x = x ∧ Owed s x l
  | _, _, _ => False
def fr (s : ByteArray) (B x e : Nat) (u1 u6 u7 u8 u9 u10 u11 u12 u13 u14 u15 u16 u17 u18 u19 u20 u21 u22 u23 u24 u25 u26 u27 u28 u29 u30 u31 u32 u33 u34 u35 u36 u37 u38 u39 u40 u41 u42 u43 u44 u45 u46 u47 u48 u49 u50 u51 u52 u53 : Value) : Act := { tmps := #[.string s, u1, .pointer (some ⟨B, 0, none⟩), .pointer (some ⟨B + 1, 0, none⟩), .int .i64 (x : Int), .int .i64 (e : Int), u6, u7, u8, u9, u10, u11, u12, u13, u14, u15, u16, u17, u18, u19, u20, u21, u22, u23, u24, u25, u26, u27, u28, u29, u30, u31, u32, u33, u34, u35, u36, u37, u38, u39, u40, u41, u42, u43, u44, u45, u46, u47, u48, u49, u50, u51, u52, u53], defers := [] }
def JJ (s : ByteArray) (B : Nat) (W : World) (k : Nat) (a : Act) (w : World) : Prop :=
  ∃ (x e : Nat) (u1 u6 u7 u8 u9 u10 u11 u12 u13 u14 u15 u16 u17 u18 u19 u20 u21 u22 u23 u24 u25 u26 u27 u28 u29 u30 u31 u32 u33 u34 u35 u36 u37 u38 u39 u40 u41 u42 u43 u44 u45 u46 u47 u48 u49 u50 u51 u52 u53 : Value) (l : List Tok), a = fr s B x e u1 u6 u7 u8 u9 u10 u11 u12 u13 u14 u15 u16 u17 u18 u19 u20 u21 u22 u23 u24 u25 u26 u27 u28 u29 u30 u31 u32 u33 u34 u35 u36 u37 u38 u39 u40 u41 u42 u43 u44 u45 u46 u47 u48 u49 u50 u51 u52 u53 ∧ Mem B W w l ∧ At s l k x e
def mu (s : ByteArray) (k : Nat) (a : Act) (_ : World) : Nat :=
  let x := (RowKit.intOf (a.tmps.getD 4 undef)).toNat
  let e := (RowKit.intOf (a.tmps.getD 5 undef)).toNat
  if k = 0 then 4 * (s.size - e) + 2 else if k = 1 then 0 else if k = 2 then (if x = e then 4 * (s.size - e) + 1 else 4 * (s.size - e) + 3) else 4 * (s.size - e) + 3
theorem extract_one (s : ByteArray) (k : Nat) (h : k < s.size) : (s.extract k (k + 1)).data.toList = [s[k]'h] := by
  rw [ByteArray.data_extract]
  have hk : k < s.data.size := h
  rw [Array.toList_extract, List.extract_eq_take_drop]
  have hl : k < s.data.toList.length := by rw [Array.length_toList]; exact h
  rw [List.drop_eq_getElem_cons hl, show k + 1 - k = 1 by omega]
  rfl
theorem extract_head (s : ByteArray) (k q : Nat) (h : k < s.size) (hq : k < q) : ∃ r, (s.extract k q).data.toList = (s[k]'h) :: r := by
  rw [ByteArray.data_extract, Array.toList_extract, List.extract_eq_take_drop]
  have hl : k < s.data.toList.length := by rw [Array.length_toList]; exact h
  rw [List.drop_eq_getElem_cons hl, show q - k = (q - k - 1) + 1 by omega, List.take_succ_cons]
  exact ⟨_, rfl⟩
theorem readTok_at (s : ByteArray) (x : Nat) (h : x < s.size) (hf : skip s.data.toList x = x) : readTok (s.extract x (endOf s x)) = tokAt s x := by
  have eg := getD_byte s x h
  by_cases hm : markB (s[x]'h) = 0
  · have e1 := (tok_word h hm).1
    have e2 := (tok_word h hm).2
    have hgt := endOf_gt s x h hf
    obtain ⟨r, hr⟩ := extract_head s x (endOf s x) h hgt
    have hne := (mark_cases _).1 hm
    rw [e2] at hr ⊢
    rw [e1]
    unfold readTok
    rw [hr, if_neg (by simp; intro h1; exact absurd h1 hne.1), if_neg (by simp; intro h1; exact absurd h1 hne.2.1), if_neg (by simp; intro h1; exact absurd h1 hne.2.2)]
  · have e1 := (tok_mark h hm).1
    have e2 := (tok_mark h hm).2
    rw [e1, e2]
    have ho := extract_one s x h
    unfold readTok
    rw [ho]
    unfold markB at hm ⊢
    by_cases h1 : (s[x]'h) = 40
    · rw [h1]; rfl
    · by_cases h2 : (s[x]'h) = 41
      · rw [h2]; rfl
      · by_cases h3 : (s[x]'h) = 39
        · rw [h3]; rfl
        · simp [h1, h2, h3] at hm
theorem kind_of {s : ByteArray} {e : Nat} {v : Int} (he : e < s.size) (h : kindB (s[e]'he) = v) (w : World) :
    Calls Tryz.prog 30 #[.string s, .int .i64 (e : Int)] w fun r w' => r = .returned (.int .i64 v) ∧ w' = w := by
  rw [← h]; exact kind_at s e w he
theorem kind_done {s : ByteArray} {e : Nat} (he : ¬ e < s.size) (w : World) :
    Calls Tryz.prog 30 #[.string s, .int .i64 (e : Int)] w fun r w' => r = .returned (.int .i64 0) ∧ w' = w := kind_end s e w (by omega)
theorem mem_lr {B : Nat} {w W wr : World} {l : List Tok} (hL : LR w) (hB : B = w.heap.size) (hW : Below w.heap.size w W) (h : Mem B W wr l) : LR wr :=
  hL.below (hW.trans (h.low.mono (by omega)))
/-- What follows from where the machine is: the next place, by what is there. -/
theorem at_stop {s : ByteArray} {l : List Tok} {e : Nat} (h : Owed s (skip s.data.toList e) l) (he : ¬ e < s.size) : At s l 1 e e := by
  refine h _ _ _ ?_
  rw [skip_end _ e (by rw [len_bytes]; exact he)]
  exact .stop he
theorem at_blank {s : ByteArray} {l : List Tok} {e : Nat} (h : Owed s (skip s.data.toList e) l) (he : e < s.size) (hb : (s[e]'he) = 32 ∨ (s[e]'he) = 10) : At s l 0 e (e + 1) := by
  refine ⟨by omega, ?_⟩
  rw [← skip_on s.data.toList e (by rw [len_bytes]; exact he) (by rw [getD_byte s e he]; rcases hb with h | h <;> (rw [h]; decide)) (by rw [getD_byte s e he]; rcases hb with h | h <;> simp [h])]
  exact h
theorem at_note {s : ByteArray} {l : List Tok} {e : Nat} (h : Owed s (skip s.data.toList e) l) (he : e < s.size) (hb : (s[e]'he) = 59) : At s l 2 e e := by
  refine ⟨by omega, by omega, fun _ => ⟨he, by rw [getD_byte s e he]; exact hb⟩, ?_⟩
  rw [← skip_note s.data.toList e (by rw [len_bytes]; exact he) (by rw [getD_byte s e he]; exact hb)]
  exact h
theorem kind_cases {s : ByteArray} {e : Nat} (he : e < s.size) : (kindB (s[e]'he) = 1 ∧ ((s[e]'he) = 32 ∨ (s[e]'he) = 10)) ∨ (kindB (s[e]'he) = 2 ∧ ((s[e]'he) = 32 ∨ (s[e]'he) = 10)) ∨ (kindB (s[e]'he) = 3 ∧ (s[e]'he) = 59) ∨
    (kindB (s[e]'he) = 4 ∧ markB (s[e]'he) ≠ 0 ∧ (s[e]'he) ≠ 59 ∧ (s[e]'he) ≠ 32 ∧ (s[e]'he) ≠ 10) ∨ (kindB (s[e]'he) = 5 ∧ markB (s[e]'he) = 0 ∧ (s[e]'he) ≠ 59 ∧ (s[e]'he) ≠ 32 ∧ (s[e]'he) ≠ 10) := by
  unfold kindB
  by_cases h1 : (s[e]'he) = 32
  · exact Or.inl ⟨by rw [if_pos h1], Or.inl h1⟩
  · by_cases h2 : (s[e]'he) = 10
    · exact Or.inr (Or.inl ⟨by rw [if_neg h1, if_pos h2], Or.inr h2⟩)
    · by_cases h3 : (s[e]'he) = 59
      · exact Or.inr (Or.inr (Or.inl ⟨by rw [if_neg h1, if_neg h2, if_pos h3], h3⟩))
      · by_cases h4 : markB (s[e]'he) = 0
        · exact Or.inr (Or.inr (Or.inr (Or.inr ⟨by rw [if_neg h1, if_neg h2, if_neg h3, if_pos h4], h4, h3, h1, h2⟩)))
        · exact Or.inr (Or.inr (Or.inr (Or.inl ⟨by rw [if_neg h1, if_neg h2, if_neg h3, if_neg h4], h4, h3, h1, h2⟩)))
theorem kind_two {s : ByteArray} {e : Nat} (he : e < s.size) (h : kindB (s[e]'he) = 2) : (s[e]'he) = 10 := by
  rcases kind_cases he with ⟨hk, _⟩ | ⟨_, hb⟩ | ⟨hk, _⟩ | ⟨hk, _⟩ | ⟨hk, _⟩
  · rw [hk] at h; cases h
  · rcases hb with hb | hb
    · exfalso; rw [hb] at h; revert h; decide
    · exact hb
  · rw [hk] at h; cases h
  · rw [hk] at h; cases h
  · rw [hk] at h; cases h
theorem kind_not {s : ByteArray} {e : Nat} (he : e < s.size) (v : Int) (h : kindB (s[e]'he) = v) (hv : v ≠ 2) : (s[e]'he) ≠ 10 := by
  intro h10; rw [h10] at h; exact hv (h.symm.trans (by decide))
theorem kind_off {s : ByteArray} {e : Nat} (he : e < s.size) (v : Int) (h : kindB (s[e]'he) = v) (hv : v ≠ 5) : ¬ onB (s[e]'he) = true := by
  intro hn
  unfold onB at hn
  simp only [Bool.and_eq_true, bne_iff_ne, beq_iff_eq] at hn
  apply hv; rw [← h]; unfold kindB
  rw [if_neg hn.1, if_neg hn.2.1, if_neg hn.2.2.1, if_pos hn.2.2.2]
theorem fix_here {s : ByteArray} {e : Nat} (he : e < s.size) (h : (s[e]'he) ≠ 59 ∧ (s[e]'he) ≠ 32 ∧ (s[e]'he) ≠ 10) : skip s.data.toList e = e :=
  skip_word _ e (by rw [len_bytes]; exact he) (by rw [getD_byte s e he]; exact h.1) (by rw [getD_byte s e he]; exact h.2)
theorem at_mark {s : ByteArray} {l : List Tok} {e : Nat} (h : Owed s (skip s.data.toList e) l) (he : e < s.size) (hm : markB (s[e]'he) ≠ 0) (hb : (s[e]'he) ≠ 59 ∧ (s[e]'he) ≠ 32 ∧ (s[e]'he) ≠ 10) : At s l 3 e (e + 1) := by
  have hf := fix_here he hb
  rw [hf] at h
  exact ⟨he, (tok_mark he hm).2.symm, by omega, by omega, hf, h⟩
theorem at_word {s : ByteArray} {l : List Tok} {e : Nat} (h : Owed s (skip s.data.toList e) l) (he : e < s.size) (hm : markB (s[e]'he) = 0) (hb : (s[e]'he) ≠ 59 ∧ (s[e]'he) ≠ 32 ∧ (s[e]'he) ≠ 10) : At s l 4 e (e + 1) := by
  have hf := fix_here he hb
  rw [hf] at h
  refine ⟨he, by omega, by omega, ?_, by rw [getD_byte s e he]; exact hm, hf, h⟩
  exact (wordEnd_on _ e (by rw [len_bytes]; exact he) (by rw [getD_byte s e he]; exact onB_of _ hb hm)).symm
theorem at_on {s : ByteArray} {l : List Tok} {x e : Nat} (h : At s l 4 x e) (he : e < s.size) (hm : markB (s[e]'he) = 0) (hb : (s[e]'he) ≠ 59 ∧ (s[e]'he) ≠ 32 ∧ (s[e]'he) ≠ 10) : At s l 4 x (e + 1) := by
  obtain ⟨h1, h2, h3, h4, h5, h6, h7⟩ := h
  refine ⟨h1, by omega, by omega, ?_, h5, h6, h7⟩
  rw [← h4]
  exact (wordEnd_on _ e (by rw [len_bytes]; exact he) (by rw [getD_byte s e he]; exact onB_of _ hb hm)).symm
theorem at_end {s : ByteArray} {l : List Tok} {x e : Nat} (h : At s l 4 x e) (hn : ¬ (e < s.size ∧ onB (s.data.toList.getD e 0) = true)) : At s l 3 x e := by
  obtain ⟨h1, h2, h3, h4, h5, h6, h7⟩ := h
  refine ⟨h1, ?_, h2, h3, h6, h7⟩
  unfold endOf
  rw [if_pos h5, ← h4]
  exact (wordEnd_here _ e (by rw [len_bytes]; exact hn)).symm
theorem at_more {s : ByteArray} {l : List Tok} {x e : Nat} (h : At s l 2 x e) (he : e < s.size) (hb : (s[e]'he) ≠ 10) : At s l 2 x (e + 1) := by
  obtain ⟨h1, h2, h3, h4⟩ := h
  refine ⟨by omega, by omega, fun h => by omega, ?_⟩
  rw [← lineEnd_on _ e (by rw [len_bytes]; exact he) (by rw [getD_byte s e he]; exact hb)]
  exact h4
theorem at_feed {s : ByteArray} {l : List Tok} {x e : Nat} (h : At s l 2 x e) (hn : ¬ (e < s.size ∧ s.data.toList.getD e 0 ≠ 10)) : At s l 0 x e ∧ x < e := by
  obtain ⟨h1, h2, h3, h4⟩ := h
  have hne : x ≠ e := fun h => hn ⟨(h3 h).1, by rw [(h3 h).2]; decide⟩
  refine ⟨⟨h1, ?_⟩, by omega⟩
  rw [lineEnd_here _ e (by rw [len_bytes]; exact hn)] at h4
  exact h4
theorem at_tok {s : ByteArray} {l : List Tok} {x e : Nat} (h : At s l 3 x e) {t : Tok} (ht : tokAt s x = some t) (hl : l.length < 120) : At s (l ++ [t]) 0 x e := by
  obtain ⟨h1, h2, h3, h4, h5, h6⟩ := h
  refine ⟨h4, fun c a r hc => h6 c a r (.next h1 ht hl ?_)⟩
  rw [← h2]; exact hc
theorem below_two (w : World) (o1 o2 : Obj) : Below w.heap.size w ((w.alloc o1).alloc o2) := ((Below.refl _ _).alloc (Nat.le_refl _) _).alloc (by simp) _
theorem res_block (w : World) (o1 o2 : Obj) : ((w.alloc o1).alloc o2).heap[w.heap.size]? = some o1 := by
  rw [Below.heap_alloc _ _ _ (by simp)]; exact heap_alloc_new w o1
theorem res_cell (w : World) (o2 : Obj) (k : Nat) (v : Value) (h : #[Value.int .i64 0, .int .i64 0, .slice none 0 0][k]? = some v) : ((w.alloc (.cells #[.int .i64 0, .int .i64 0, .slice none 0 0] 27)).alloc o2).cell? ⟨w.heap.size, k, none⟩ = some v := by
  rw [cell_of_row _ _ k _ _ _ (res_block w _ o2)]; exact h
theorem res_frozen (w : World) (cs : Array Value) (o2 : Obj) (k : Nat) : ((w.alloc (.cells cs 27)).alloc o2).frozen? ⟨w.heap.size, k, none⟩ = false := by
  simp [World.frozen?, res_block w _ o2]
theorem mu0 (s : ByteArray) (B x e : Nat) (u1 u6 u7 u8 u9 u10 u11 u12 u13 u14 u15 u16 u17 u18 u19 u20 u21 u22 u23 u24 u25 u26 u27 u28 u29 u30 u31 u32 u33 u34 u35 u36 u37 u38 u39 u40 u41 u42 u43 u44 u45 u46 u47 u48 u49 u50 u51 u52 u53 : Value) (w : World) : mu s 0 (fr s B x e u1 u6 u7 u8 u9 u10 u11 u12 u13 u14 u15 u16 u17 u18 u19 u20 u21 u22 u23 u24 u25 u26 u27 u28 u29 u30 u31 u32 u33 u34 u35 u36 u37 u38 u39 u40 u41 u42 u43 u44 u45 u46 u47 u48 u49 u50 u51 u52 u53) w = 4 * (s.size - e) + 2 := by simp [mu, fr, RowKit.intOf]
theorem mu1 (s : ByteArray) (B x e : Nat) (u1 u6 u7 u8 u9 u10 u11 u12 u13 u14 u15 u16 u17 u18 u19 u20 u21 u22 u23 u24 u25 u26 u27 u28 u29 u30 u31 u32 u33 u34 u35 u36 u37 u38 u39 u40 u41 u42 u43 u44 u45 u46 u47 u48 u49 u50 u51 u52 u53 : Value) (w : World) : mu s 1 (fr s B x e u1 u6 u7 u8 u9 u10 u11 u12 u13 u14 u15 u16 u17 u18 u19 u20 u21 u22 u23 u24 u25 u26 u27 u28 u29 u30 u31 u32 u33 u34 u35 u36 u37 u38 u39 u40 u41 u42 u43 u44 u45 u46 u47 u48 u49 u50 u51 u52 u53) w = 0 := by simp [mu]
theorem mu2 (s : ByteArray) (B x e : Nat) (u1 u6 u7 u8 u9 u10 u11 u12 u13 u14 u15 u16 u17 u18 u19 u20 u21 u22 u23 u24 u25 u26 u27 u28 u29 u30 u31 u32 u33 u34 u35 u36 u37 u38 u39 u40 u41 u42 u43 u44 u45 u46 u47 u48 u49 u50 u51 u52 u53 : Value) (w : World) : mu s 2 (fr s B x e u1 u6 u7 u8 u9 u10 u11 u12 u13 u14 u15 u16 u17 u18 u19 u20 u21 u22 u23 u24 u25 u26 u27 u28 u29 u30 u31 u32 u33 u34 u35 u36 u37 u38 u39 u40 u41 u42 u43 u44 u45 u46 u47 u48 u49 u50 u51 u52 u53) w = if x = e then 4 * (s.size - e) + 1 else 4 * (s.size - e) + 3 := by simp [mu, fr, RowKit.intOf]
theorem mu3 (s : ByteArray) (B x e : Nat) (u1 u6 u7 u8 u9 u10 u11 u12 u13 u14 u15 u16 u17 u18 u19 u20 u21 u22 u23 u24 u25 u26 u27 u28 u29 u30 u31 u32 u33 u34 u35 u36 u37 u38 u39 u40 u41 u42 u43 u44 u45 u46 u47 u48 u49 u50 u51 u52 u53 : Value) (w : World) : mu s 3 (fr s B x e u1 u6 u7 u8 u9 u10 u11 u12 u13 u14 u15 u16 u17 u18 u19 u20 u21 u22 u23 u24 u25 u26 u27 u28 u29 u30 u31 u32 u33 u34 u35 u36 u37 u38 u39 u40 u41 u42 u43 u44 u45 u46 u47 u48 u49 u50 u51 u52 u53) w = 4 * (s.size - e) + 3 := by simp [mu, fr, RowKit.intOf]
theorem mu4 (s : ByteArray) (B x e : Nat) (u1 u6 u7 u8 u9 u10 u11 u12 u13 u14 u15 u16 u17 u18 u19 u20 u21 u22 u23 u24 u25 u26 u27 u28 u29 u30 u31 u32 u33 u34 u35 u36 u37 u38 u39 u40 u41 u42 u43 u44 u45 u46 u47 u48 u49 u50 u51 u52 u53 : Value) (w : World) : mu s 4 (fr s B x e u1 u6 u7 u8 u9 u10 u11 u12 u13 u14 u15 u16 u17 u18 u19 u20 u21 u22 u23 u24 u25 u26 u27 u28 u29 u30 u31 u32 u33 u34 u35 u36 u37 u38 u39 u40 u41 u42 u43 u44 u45 u46 u47 u48 u49 u50 u51 u52 u53) w = 4 * (s.size - e) + 3 := by simp [mu, fr, RowKit.intOf]
theorem jj0 {s : ByteArray} {B : Nat} {W w : World} {l : List Tok} {u1 u6 u7 u8 u9 u10 u11 u12 u13 u14 u15 u16 u17 u18 u19 u20 u21 u22 u23 u24 u25 u26 u27 u28 u29 u30 u31 u32 u33 u34 u35 u36 u37 u38 u39 u40 u41 u42 u43 u44 u45 u46 u47 u48 u49 u50 u51 u52 u53 : Value} (x e : Nat) (hM : Mem B W w l) (hA : At s l 0 x e) {N : Nat} (hn : 4 * (s.size - e) + 2 < N) : JJ s B W 0 (fr s B x e u1 u6 u7 u8 u9 u10 u11 u12 u13 u14 u15 u16 u17 u18 u19 u20 u21 u22 u23 u24 u25 u26 u27 u28 u29 u30 u31 u32 u33 u34 u35 u36 u37 u38 u39 u40 u41 u42 u43 u44 u45 u46 u47 u48 u49 u50 u51 u52 u53) w ∧ mu s 0 (fr s B x e u1 u6 u7 u8 u9 u10 u11 u12 u13 u14 u15 u16 u17 u18 u19 u20 u21 u22 u23 u24 u25 u26 u27 u28 u29 u30 u31 u32 u33 u34 u35 u36 u37 u38 u39 u40 u41 u42 u43 u44 u45 u46 u47 u48 u49 u50 u51 u52 u53) w < N :=
  ⟨⟨x, e, u1, u6, u7, u8, u9, u10, u11, u12, u13, u14, u15, u16, u17, u18, u19, u20, u21, u22, u23, u24, u25, u26, u27, u28, u29, u30, u31, u32, u33, u34, u35, u36, u37, u38, u39, u40, u41, u42, u43, u44, u45, u46, u47, u48, u49, u50, u51, u52, u53, l, rfl, hM, hA⟩, by rw [mu0]; exact hn⟩
theorem jj1 {s : ByteArray} {B : Nat} {W w : World} {l : List Tok} {u1 u6 u7 u8 u9 u10 u11 u12 u13 u14 u15 u16 u17 u18 u19 u20 u21 u22 u23 u24 u25 u26 u27 u28 u29 u30 u31 u32 u33 u34 u35 u36 u37 u38 u39 u40 u41 u42 u43 u44 u45 u46 u47 u48 u49 u50 u51 u52 u53 : Value} (x e : Nat) (hM : Mem B W w l) (hA : At s l 1 x e) {N : Nat} (hn : 0 < N) : JJ s B W 1 (fr s B x e u1 u6 u7 u8 u9 u10 u11 u12 u13 u14 u15 u16 u17 u18 u19 u20 u21 u22 u23 u24 u25 u26 u27 u28 u29 u30 u31 u32 u33 u34 u35 u36 u37 u38 u39 u40 u41 u42 u43 u44 u45 u46 u47 u48 u49 u50 u51 u52 u53) w ∧ mu s 1 (fr s B x e u1 u6 u7 u8 u9 u10 u11 u12 u13 u14 u15 u16 u17 u18 u19 u20 u21 u22 u23 u24 u25 u26 u27 u28 u29 u30 u31 u32 u33 u34 u35 u36 u37 u38 u39 u40 u41 u42 u43 u44 u45 u46 u47 u48 u49 u50 u51 u52 u53) w < N :=
  ⟨⟨x, e, u1, u6, u7, u8, u9, u10, u11, u12, u13, u14, u15, u16, u17, u18, u19, u20, u21, u22, u23, u24, u25, u26, u27, u28, u29, u30, u31, u32, u33, u34, u35, u36, u37, u38, u39, u40, u41, u42, u43, u44, u45, u46, u47, u48, u49, u50, u51, u52, u53, l, rfl, hM, hA⟩, by rw [mu1]; exact hn⟩
theorem jj2 {s : ByteArray} {B : Nat} {W w : World} {l : List Tok} {u1 u6 u7 u8 u9 u10 u11 u12 u13 u14 u15 u16 u17 u18 u19 u20 u21 u22 u23 u24 u25 u26 u27 u28 u29 u30 u31 u32 u33 u34 u35 u36 u37 u38 u39 u40 u41 u42 u43 u44 u45 u46 u47 u48 u49 u50 u51 u52 u53 : Value} (x e : Nat) (hM : Mem B W w l) (hA : At s l 2 x e) {N : Nat} (hn : (if x = e then 4 * (s.size - e) + 1 else 4 * (s.size - e) + 3) < N) : JJ s B W 2 (fr s B x e u1 u6 u7 u8 u9 u10 u11 u12 u13 u14 u15 u16 u17 u18 u19 u20 u21 u22 u23 u24 u25 u26 u27 u28 u29 u30 u31 u32 u33 u34 u35 u36 u37 u38 u39 u40 u41 u42 u43 u44 u45 u46 u47 u48 u49 u50 u51 u52 u53) w ∧ mu s 2 (fr s B x e u1 u6 u7 u8 u9 u10 u11 u12 u13 u14 u15 u16 u17 u18 u19 u20 u21 u22 u23 u24 u25 u26 u27 u28 u29 u30 u31 u32 u33 u34 u35 u36 u37 u38 u39 u40 u41 u42 u43 u44 u45 u46 u47 u48 u49 u50 u51 u52 u53) w < N :=
  ⟨⟨x, e, u1, u6, u7, u8, u9, u10, u11, u12, u13, u14, u15, u16, u17, u18, u19, u20, u21, u22, u23, u24, u25, u26, u27, u28, u29, u30, u31, u32, u33, u34, u35, u36, u37, u38, u39, u40, u41, u42, u43, u44, u45, u46, u47, u48, u49, u50, u51, u52, u53, l, rfl, hM, hA⟩, by rw [mu2]; exact hn⟩
theorem jj3 {s : ByteArray} {B : Nat} {W w : World} {l : List Tok} {u1 u6 u7 u8 u9 u10 u11 u12 u13 u14 u15 u16 u17 u18 u19 u20 u21 u22 u23 u24 u25 u26 u27 u28 u29 u30 u31 u32 u33 u34 u35 u36 u37 u38 u39 u40 u41 u42 u43 u44 u45 u46 u47 u48 u49 u50 u51 u52 u53 : Value} (x e : Nat) (hM : Mem B W w l) (hA : At s l 3 x e) {N : Nat} (hn : 4 * (s.size - e) + 3 < N) : JJ s B W 3 (fr s B x e u1 u6 u7 u8 u9 u10 u11 u12 u13 u14 u15 u16 u17 u18 u19 u20 u21 u22 u23 u24 u25 u26 u27 u28 u29 u30 u31 u32 u33 u34 u35 u36 u37 u38 u39 u40 u41 u42 u43 u44 u45 u46 u47 u48 u49 u50 u51 u52 u53) w ∧ mu s 3 (fr s B x e u1 u6 u7 u8 u9 u10 u11 u12 u13 u14 u15 u16 u17 u18 u19 u20 u21 u22 u23 u24 u25 u26 u27 u28 u29 u30 u31 u32 u33 u34 u35 u36 u37 u38 u39 u40 u41 u42 u43 u44 u45 u46 u47 u48 u49 u50 u51 u52 u53) w < N :=
  ⟨⟨x, e, u1, u6, u7, u8, u9, u10, u11, u12, u13, u14, u15, u16, u17, u18, u19, u20, u21, u22, u23, u24, u25, u26, u27, u28, u29, u30, u31, u32, u33, u34, u35, u36, u37, u38, u39, u40, u41, u42, u43, u44, u45, u46, u47, u48, u49, u50, u51, u52, u53, l, rfl, hM, hA⟩, by rw [mu3]; exact hn⟩
theorem jj4 {s : ByteArray} {B : Nat} {W w : World} {l : List Tok} {u1 u6 u7 u8 u9 u10 u11 u12 u13 u14 u15 u16 u17 u18 u19 u20 u21 u22 u23 u24 u25 u26 u27 u28 u29 u30 u31 u32 u33 u34 u35 u36 u37 u38 u39 u40 u41 u42 u43 u44 u45 u46 u47 u48 u49 u50 u51 u52 u53 : Value} (x e : Nat) (hM : Mem B W w l) (hA : At s l 4 x e) {N : Nat} (hn : 4 * (s.size - e) + 3 < N) : JJ s B W 4 (fr s B x e u1 u6 u7 u8 u9 u10 u11 u12 u13 u14 u15 u16 u17 u18 u19 u20 u21 u22 u23 u24 u25 u26 u27 u28 u29 u30 u31 u32 u33 u34 u35 u36 u37 u38 u39 u40 u41 u42 u43 u44 u45 u46 u47 u48 u49 u50 u51 u52 u53) w ∧ mu s 4 (fr s B x e u1 u6 u7 u8 u9 u10 u11 u12 u13 u14 u15 u16 u17 u18 u19 u20 u21 u22 u23 u24 u25 u26 u27 u28 u29 u30 u31 u32 u33 u34 u35 u36 u37 u38 u39 u40 u41 u42 u43 u44 u45 u46 u47 u48 u49 u50 u51 u52 u53) w < N :=
  ⟨⟨x, e, u1, u6, u7, u8, u9, u10, u11, u12, u13, u14, u15, u16, u17, u18, u19, u20, u21, u22, u23, u24, u25, u26, u27, u28, u29, u30, u31, u32, u33, u34, u35, u36, u37, u38, u39, u40, u41, u42, u43, u44, u45, u46, u47, u48, u49, u50, u51, u52, u53, l, rfl, hM, hA⟩, by rw [mu4]; exact hn⟩
set_option maxRecDepth 100000 in
set_option maxHeartbeats 4000000 in
theorem cut_any (s : ByteArray) (w : World) (hs : s.size ≤ 400) (hL : LR w) :
    Calls Tryz.prog 18 #[.string s] w fun e w' => AnsT s w e w' := by
  go_enter Tryz.func18, Tryz.ntmps18
  go_wp2
  refine wp_scope_gotos (JJ s w.heap.size ((w.alloc (.cells #[.int .i64 0, .int .i64 0, .slice none 0 0] 27)).alloc (.cells #[.slice none 0 0] 25))) (mu s) ?_ ?_
  · go_wp2
    go_step3
    have HO : Hid (Owed s (skip s.data.toList 0) []) := fun _ _ _ h => h
    have HM : Hid (Mem w.heap.size ((w.alloc (.cells #[.int .i64 0, .int .i64 0, .slice none 0 0] 27)).alloc (.cells #[.slice none 0 0] 25)) ((w.alloc (.cells #[.int .i64 0, .int .i64 0, .slice none 0 0] 27)).alloc (.cells #[.slice none 0 0] 25)) []) := ⟨⟨none, 0, by simp, World.ownsRow_nil _ _ _ _⟩, by simp, Below.refl _ _, by simp, Nat.zero_le _⟩
    by_cases hlt : 0 < s.size
    · rcases kind_cases hlt with ⟨hk, hb⟩ | ⟨hk, hb⟩ | ⟨hk, hb⟩ | ⟨hk, hm, hb⟩ | ⟨hk, hm, hb⟩
      · have HK : Hid (∀ w, Calls Tryz.prog 30 #[.string s, .int .i64 (0 : Int)] w fun r w' => r = .returned (.int .i64 1) ∧ w' = w) := fun w => kind_of hlt hk w
        have HA : Hid (At s [] 0 0 (0 + 1)) := at_blank HO.out hlt hb
        clear hk hb
        go_wp2_with (go_at_call 30; refine (HK.out _).mono ?_; rintro r wr ⟨rfl, rfl⟩)
        go_step3
        exact (jj0 0 (0 + 1) HM.out HA.out (Nat.lt_succ_self _)).1
      · have HK : Hid (∀ w, Calls Tryz.prog 30 #[.string s, .int .i64 (0 : Int)] w fun r w' => r = .returned (.int .i64 2) ∧ w' = w) := fun w => kind_of hlt hk w
        have HA : Hid (At s [] 0 0 (0 + 1)) := at_blank HO.out hlt hb
        clear hk hb
        go_wp2_with (go_at_call 30; refine (HK.out _).mono ?_; rintro r wr ⟨rfl, rfl⟩)
        go_step3
        exact (jj0 0 (0 + 1) HM.out HA.out (Nat.lt_succ_self _)).1
      · have HK : Hid (∀ w, Calls Tryz.prog 30 #[.string s, .int .i64 (0 : Int)] w fun r w' => r = .returned (.int .i64 3) ∧ w' = w) := fun w => kind_of hlt hk w
        have HA : Hid (At s [] 2 0 0) := at_note HO.out hlt hb
        clear hk hb
        go_wp2_with (go_at_call 30; refine (HK.out _).mono ?_; rintro r wr ⟨rfl, rfl⟩)
        go_step3
        exact (jj2 0 0 HM.out HA.out (Nat.lt_succ_self _)).1
      · have HK : Hid (∀ w, Calls Tryz.prog 30 #[.string s, .int .i64 (0 : Int)] w fun r w' => r = .returned (.int .i64 4) ∧ w' = w) := fun w => kind_of hlt hk w
        have HA : Hid (At s [] 3 0 (0 + 1)) := at_mark HO.out hlt hm hb
        clear hk hb hm
        go_wp2_with (go_at_call 30; refine (HK.out _).mono ?_; rintro r wr ⟨rfl, rfl⟩)
        go_step3
        exact (jj3 0 (0 + 1) HM.out HA.out (Nat.lt_succ_self _)).1
      · have HK : Hid (∀ w, Calls Tryz.prog 30 #[.string s, .int .i64 (0 : Int)] w fun r w' => r = .returned (.int .i64 5) ∧ w' = w) := fun w => kind_of hlt hk w
        have HA : Hid (At s [] 4 0 (0 + 1)) := at_word HO.out hlt hm hb
        clear hk hb hm
        go_wp2_with (go_at_call 30; refine (HK.out _).mono ?_; rintro r wr ⟨rfl, rfl⟩)
        go_step3
        go_wp2_with (go_at_call 30; refine (HK.out _).mono ?_; rintro r wr ⟨rfl, rfl⟩)
        go_step3
        exact (jj4 0 (0 + 1) HM.out HA.out (Nat.lt_succ_self _)).1
    · have HK : Hid (∀ w, Calls Tryz.prog 30 #[.string s, .int .i64 (0 : Int)] w fun r w' => r = .returned (.int .i64 0) ∧ w' = w) := fun w => kind_done hlt w
      have HA : Hid (At s [] 1 0 0) := at_stop HO.out hlt
      go_wp2_with (go_at_call 30; refine (HK.out _).mono ?_; rintro r wr ⟨rfl, rfl⟩)
      go_step3
      exact (jj1 0 0 HM.out HA.out (Nat.lt_succ_self _)).1
  · rintro k a wr ⟨x, e, u1, u6, u7, u8, u9, u10, u11, u12, u13, u14, u15, u16, u17, u18, u19, u20, u21, u22, u23, u24, u25, u26, u27, u28, u29, u30, u31, u32, u33, u34, u35, u36, u37, u38, u39, u40, u41, u42, u43, u44, u45, u46, u47, u48, u49, u50, u51, u52, u53, l, rfl, hM, hA⟩
    match k, hA with
    | 0, hA =>
      refine ⟨_, rfl, ?_⟩
      obtain ⟨he, ho⟩ := hA
      have HO : Hid (Owed s (skip s.data.toList e) l) := ho
      have HM : Hid (Mem w.heap.size _ wr l) := hM
      clear ho hM
      rw [mu0]
      unfold fr
      by_cases hlt : e < s.size
      · rcases kind_cases hlt with ⟨hk, hb⟩ | ⟨hk, hb⟩ | ⟨hk, hb⟩ | ⟨hk, hm, hb⟩ | ⟨hk, hm, hb⟩
        · have HK : Hid (∀ w, Calls Tryz.prog 30 #[.string s, .int .i64 (e : Int)] w fun r w' => r = .returned (.int .i64 1) ∧ w' = w) := fun w => kind_of hlt hk w
          have HA : Hid (At s l 0 e (e + 1)) := at_blank HO.out hlt hb
          clear hk hb
          go_wp2_with (go_at_call 30; refine (HK.out _).mono ?_; rintro r wr ⟨rfl, rfl⟩)
          go_step3
          exact jj0 e (e + 1) HM.out HA.out (by omega)
        · have HK : Hid (∀ w, Calls Tryz.prog 30 #[.string s, .int .i64 (e : Int)] w fun r w' => r = .returned (.int .i64 2) ∧ w' = w) := fun w => kind_of hlt hk w
          have HA : Hid (At s l 0 e (e + 1)) := at_blank HO.out hlt hb
          clear hk hb
          go_wp2_with (go_at_call 30; refine (HK.out _).mono ?_; rintro r wr ⟨rfl, rfl⟩)
          go_step3
          exact jj0 e (e + 1) HM.out HA.out (by omega)
        · have HK : Hid (∀ w, Calls Tryz.prog 30 #[.string s, .int .i64 (e : Int)] w fun r w' => r = .returned (.int .i64 3) ∧ w' = w) := fun w => kind_of hlt hk w
          have HA : Hid (At s l 2 e e) := at_note HO.out hlt hb
          clear hk hb
          go_wp2_with (go_at_call 30; refine (HK.out _).mono ?_; rintro r wr ⟨rfl, rfl⟩)
          go_step3
          exact jj2 e e HM.out HA.out (by rw [if_pos rfl]; omega)
        · have HK : Hid (∀ w, Calls Tryz.prog 30 #[.string s, .int .i64 (e : Int)] w fun r w' => r = .returned (.int .i64 4) ∧ w' = w) := fun w => kind_of hlt hk w
          have HA : Hid (At s l 3 e (e + 1)) := at_mark HO.out hlt hm hb
          clear hk hb hm
          go_wp2_with (go_at_call 30; refine (HK.out _).mono ?_; rintro r wr ⟨rfl, rfl⟩)
          go_step3
          exact jj3 e (e + 1) HM.out HA.out (by omega)
        · have HK : Hid (∀ w, Calls Tryz.prog 30 #[.string s, .int .i64 (e : Int)] w fun r w' => r = .returned (.int .i64 5) ∧ w' = w) := fun w => kind_of hlt hk w
          have HA : Hid (At s l 4 e (e + 1)) := at_word HO.out hlt hm hb
          clear hk hb hm
          go_wp2_with (go_at_call 30; refine (HK.out _).mono ?_; rintro r wr ⟨rfl, rfl⟩)
          go_step3
          go_wp2_with (go_at_call 30; refine (HK.out _).mono ?_; rintro r wr ⟨rfl, rfl⟩)
          go_step3
          exact jj4 e (e + 1) HM.out HA.out (by omega)
      · have HK : Hid (∀ w, Calls Tryz.prog 30 #[.string s, .int .i64 (e : Int)] w fun r w' => r = .returned (.int .i64 0) ∧ w' = w) := fun w => kind_done hlt w
        have HA : Hid (At s l 1 e e) := at_stop HO.out hlt
        go_wp2_with (go_at_call 30; refine (HK.out _).mono ?_; rintro r wr ⟨rfl, rfl⟩)
        go_step3
        exact jj1 e e HM.out HA.out (by omega)
    | 1, hA =>
      refine ⟨_, rfl, ?_⟩
      rw [mu1]
      unfold fr
      obtain ⟨⟨ao, cap, hcell, hown⟩, hfz, hlow, hsize, hmany⟩ := hM
      have HOW : Hid (wr.ownsRow (w.heap.size + 2) 37 3 (.slice ao l.length cap) l.length (cellsOf l)) := hown
      have HLO : Hid (Below (w.heap.size + 1) ((w.alloc (.cells #[.int .i64 0, .int .i64 0, .slice none 0 0] 27)).alloc (.cells #[.slice none 0 0] 25)) wr) := hlow
      have HBW : Hid (Below w.heap.size w wr) := (below_two w _ _).trans (hlow.mono (by omega))
      have r0 : wr.cell? ⟨w.heap.size, 0, none⟩ = some (.int .i64 0) := (hlow.cell (by show w.heap.size < _; omega)).trans (res_cell w _ 0 _ rfl)
      have r1 : wr.cell? ⟨w.heap.size, 1, none⟩ = some (.int .i64 0) := (hlow.cell (by show w.heap.size < _; omega)).trans (res_cell w _ 1 _ rfl)
      have r2 : wr.cell? ⟨w.heap.size, 2, none⟩ = some (.slice none 0 0) := (hlow.cell (by show w.heap.size < _; omega)).trans (res_cell w _ 2 _ rfl)
      have f0 : ∀ o, wr.frozen? ⟨w.heap.size, o, none⟩ = false := fun o => (hlow.frozen (by show w.heap.size < _; omega)).trans (res_frozen w _ _ o)
      have hB1 : w.heap.size < wr.heap.size := by omega
      clear hlow hown
      have HA : Hid (Cut s (skip s.data.toList 0) [] 0 0 l) := hA
      clear hA
      go_wp2
      simp only [jumps]
      refine bodyPost_ret (v := .agg #[.int .i64 0, .int .i64 0, .slice ao l.length cap]) (by simp [results, Tryz.results18, go_sem, *]) rfl ⟨ao, cap, 0, 0, l, rfl, Or.inr ⟨hs, HA.out⟩, ?_, ?_⟩
      · repeat (first | exact own_base HOW.out (by omega) | refine own_set' ?_ (fun g hg => by have := (HOW.out.lt g hg).1; show g ≠ w.heap.size; omega) _)
      · repeat (first | exact HBW.out | refine Below.setCell ?_ (by simp) _)
    | 2, hA =>
      refine ⟨_, rfl, ?_⟩
      have HX : Hid (At s l 2 x e) := hA
      have HM : Hid (Mem w.heap.size _ wr l) := hM
      have hxe : x ≤ e := hA.2.1
      have hes : e ≤ s.size := hA.1
      have h59 : x = e → e < s.size ∧ s.data.toList.getD e 0 = 59 := hA.2.2.1
      have H59 : Hid _ := h59
      clear hM hA h59
      rw [mu2]
      unfold fr
      by_cases hlt : e < s.size
      · rcases kind_cases hlt with ⟨hk, hb⟩ | ⟨hk, hb⟩ | ⟨hk, hb⟩ | ⟨hk, hm, hb⟩ | ⟨hk, hm, hb⟩
        · have HK : Hid (∀ w, Calls Tryz.prog 30 #[.string s, .int .i64 (e : Int)] w fun r w' => r = .returned (.int .i64 1) ∧ w' = w) := fun w => kind_of hlt hk w
          have HA : Hid (At s l 2 x (e + 1)) := at_more HX.out hlt (kind_not hlt 1 hk (by decide))
          clear hk hb
          go_wp2_with (go_at_call 30; refine (HK.out _).mono ?_; rintro r wr ⟨rfl, rfl⟩)
          go_step3
          exact jj2 x (e + 1) HM.out HA.out (by rw [if_neg (by omega)]; split <;> omega)
        · have HK : Hid (∀ w, Calls Tryz.prog 30 #[.string s, .int .i64 (e : Int)] w fun r w' => r = .returned (.int .i64 2) ∧ w' = w) := fun w => kind_of hlt hk w
          have hten : (s[e]'hlt) = 10 := kind_two hlt hk
          have HA : Hid (At s l 0 x e ∧ x < e) := at_feed HX.out (by rw [getD_byte s e hlt, hten]; simp)
          have hx2 : x < e := HA.out.2
          clear hk hb hten
          go_wp2_with (go_at_call 30; refine (HK.out _).mono ?_; rintro r wr ⟨rfl, rfl⟩)
          go_step3
          exact jj0 x e HM.out HA.out.1 (by rw [if_neg (by omega)]; omega)
        · have HK : Hid (∀ w, Calls Tryz.prog 30 #[.string s, .int .i64 (e : Int)] w fun r w' => r = .returned (.int .i64 3) ∧ w' = w) := fun w => kind_of hlt hk w
          have HA : Hid (At s l 2 x (e + 1)) := at_more HX.out hlt (kind_not hlt 3 hk (by decide))
          clear hk hb
          go_wp2_with (go_at_call 30; refine (HK.out _).mono ?_; rintro r wr ⟨rfl, rfl⟩)
          go_step3
          exact jj2 x (e + 1) HM.out HA.out (by rw [if_neg (by omega)]; split <;> omega)
        · have HK : Hid (∀ w, Calls Tryz.prog 30 #[.string s, .int .i64 (e : Int)] w fun r w' => r = .returned (.int .i64 4) ∧ w' = w) := fun w => kind_of hlt hk w
          have HA : Hid (At s l 2 x (e + 1)) := at_more HX.out hlt (kind_not hlt 4 hk (by decide))
          clear hk hb hm
          go_wp2_with (go_at_call 30; refine (HK.out _).mono ?_; rintro r wr ⟨rfl, rfl⟩)
          go_step3
          exact jj2 x (e + 1) HM.out HA.out (by rw [if_neg (by omega)]; split <;> omega)
        · have HK : Hid (∀ w, Calls Tryz.prog 30 #[.string s, .int .i64 (e : Int)] w fun r w' => r = .returned (.int .i64 5) ∧ w' = w) := fun w => kind_of hlt hk w
          have HA : Hid (At s l 2 x (e + 1)) := at_more HX.out hlt (kind_not hlt 5 hk (by decide))
          clear hk hb hm
          go_wp2_with (go_at_call 30; refine (HK.out _).mono ?_; rintro r wr ⟨rfl, rfl⟩)
          go_step3
          exact jj2 x (e + 1) HM.out HA.out (by rw [if_neg (by omega)]; split <;> omega)
      · have HK : Hid (∀ w, Calls Tryz.prog 30 #[.string s, .int .i64 (e : Int)] w fun r w' => r = .returned (.int .i64 0) ∧ w' = w) := fun w => kind_done hlt w
        have HA : Hid (At s l 0 x e ∧ x < e) := at_feed HX.out (by intro h; exact hlt h.1)
        have hx2 : x < e := HA.out.2
        go_wp2_with (go_at_call 30; refine (HK.out _).mono ?_; rintro r wr ⟨rfl, rfl⟩)
        go_step3
        exact jj0 x e HM.out HA.out.1 (by rw [if_neg (by omega)]; omega)
    | 3, hA =>
      refine ⟨_, rfl, ?_⟩
      have HX : Hid (At s l 3 x e) := hA
      clear hA
      rw [mu3]
      unfold fr
      obtain ⟨⟨ao, cap, hcell, hown⟩, hfz, hlow, hsize, hmany⟩ := hM
      have HOW : Hid (wr.ownsRow (w.heap.size + 2) 37 3 (.slice ao l.length cap) l.length (cellsOf l)) := hown
      have HLO : Hid (Below (w.heap.size + 1) ((w.alloc (.cells #[.int .i64 0, .int .i64 0, .slice none 0 0] 27)).alloc (.cells #[.slice none 0 0] 25)) wr) := hlow
      have HBW : Hid (Below w.heap.size w wr) := (below_two w _ _).trans (hlow.mono (by omega))
      have r0 : wr.cell? ⟨w.heap.size, 0, none⟩ = some (.int .i64 0) := (hlow.cell (by show w.heap.size < _; omega)).trans (res_cell w _ 0 _ rfl)
      have r1 : wr.cell? ⟨w.heap.size, 1, none⟩ = some (.int .i64 0) := (hlow.cell (by show w.heap.size < _; omega)).trans (res_cell w _ 1 _ rfl)
      have r2 : wr.cell? ⟨w.heap.size, 2, none⟩ = some (.slice none 0 0) := (hlow.cell (by show w.heap.size < _; omega)).trans (res_cell w _ 2 _ rfl)
      have f0 : ∀ o, wr.frozen? ⟨w.heap.size, o, none⟩ = false := fun o => (hlow.frozen (by show w.heap.size < _; omega)).trans (res_frozen w _ _ o)
      have hB1 : w.heap.size < wr.heap.size := by omega
      clear hlow hown
      have HLR : Hid (LR wr) := hL.below HBW.out
      have hx : x < s.size := HX.out.1
      have hxe : x < e := HX.out.2.2.1
      have hes2 : e ≤ s.size := HX.out.2.2.2.1
      have HR : Hid (readTok (s.extract x e) = tokAt s x) := by have h := readTok_at s x HX.out.1 HX.out.2.2.2.2.1; rw [← HX.out.2.1] at h; exact h
      have hsl := slice_str s x e (by omega) hes2
      have hsz : (s.extract x e).size ≤ 281474976710656 := by rw [ByteArray.size_extract]; omega
      cases htk : tokAt s x with
      | none =>
        have HC : Hid (Cut s (skip s.data.toList 0) [] 5 (x : Int) []) := HX.out.2.2.2.2.2 _ _ _ (.bad hx htk)
        have HT : Hid (∀ (w' : World), w' = wr → Calls Tryz.prog 31 #[.pointer (some ⟨w.heap.size + 1, 0, none⟩), .string (s.extract x e)] w' fun r w'' => r = .returned (.int .i64 5) ∧ Below w'.heap.size w' w'') := fun w' h => by subst h; exact take_bad _ _ _ hsz HLR.out (HR.out.trans htk)
        clear hcell hfz
        go_wp2_with (go_at_call 31; refine (HT.out _ rfl).mono ?_; rintro r w1 ⟨rfl, hq⟩; obtain ⟨hc, hf⟩ := bcell hq)
        simp only [jumps]
        refine bodyPost_ret (v := .agg #[.int .i64 5, .int .i64 x, .slice none 0 0]) (by simp [results, Tryz.results18, go_sem, *]) rfl ⟨none, 0, 5, x, [], rfl, Or.inr ⟨hs, HC.out⟩, World.ownsRow_nil _ _ _ _, ?_⟩
        repeat (first | exact HBW.out | refine Below.setCell ?_ (by simp) _ | refine Below.trans ?_ (hq.mono (by omega)))
      | some t =>
        by_cases h120 : l.length = 120
        · have _ := h120
          have HC : Hid (Cut s (skip s.data.toList 0) [] 2 (x : Int) []) := HX.out.2.2.2.2.2 _ _ _ (.many hx htk (by omega))
          have HT : Hid (∀ (w' : World), w' = wr → Calls Tryz.prog 31 #[.pointer (some ⟨w.heap.size + 1, 0, none⟩), .string (s.extract x e)] w' fun r w'' => r = .returned (.int .i64 2) ∧ Below w'.heap.size w' w'') := fun w' h => by subst h; exact take_many _ _ _ _ _ ao hsz HLR.out hcell h120 (HR.out.trans htk)
          clear hcell hfz
          go_wp2_with (go_at_call 31; refine (HT.out _ rfl).mono ?_; rintro r w1 ⟨rfl, hq⟩; obtain ⟨hc, hf⟩ := bcell hq)
          simp only [jumps]
          refine bodyPost_ret (v := .agg #[.int .i64 2, .int .i64 x, .slice none 0 0]) (by simp [results, Tryz.results18, go_sem, *]) rfl ⟨none, 0, 2, x, [], rfl, Or.inr ⟨hs, HC.out⟩, World.ownsRow_nil _ _ _ _, ?_⟩
          repeat (first | exact HBW.out | refine Below.setCell ?_ (by simp) _ | refine Below.trans ?_ (hq.mono (by omega)))
        · have hl : l.length < 120 := by omega
          have HT : Hid (∀ (w' : World), w' = wr → Calls Tryz.prog 31 #[.pointer (some ⟨w.heap.size + 1, 0, none⟩), .string (s.extract x e)] w' fun r w'' => r = .returned (.int .i64 0) ∧ Mem w.heap.size ((w.alloc (.cells #[.int .i64 0, .int .i64 0, .slice none 0 0] 27)).alloc (.cells #[.slice none 0 0] 25)) w'' (l ++ [t])) := fun w' h => by
            subst h
            refine (take_next _ _ _ (w.heap.size + 2) _ ao l hsz HLR.out hcell hfz HOW.out (by omega) hsize hl (HR.out.trans htk)).mono ?_
            rintro r w'' ⟨rfl, g, cap', h1, h2, h3, h4⟩
            exact ⟨rfl, ⟨⟨_, _, by simpa using h1, by simpa using h3⟩, h2, HLO.out.trans h4, Nat.le_trans hsize h4.size, by simp; omega⟩⟩
          have HA : Hid (At s (l ++ [t]) 0 x e) := at_tok HX.out htk hl
          clear hcell hfz htk
          go_wp2_with (go_at_call 31; refine (HT.out _ rfl).mono ?_; rintro r w1 ⟨rfl, hq⟩; have HQ : Hid _ := hq; clear hq)
          go_step3
          exact jj0 x e HQ.out HA.out (by omega)
    | 4, hA =>
      refine ⟨_, rfl, ?_⟩
      have HY : Hid (At s l 4 x e) := hA
      have hes : e ≤ s.size := hA.2.2.1
      clear hA
      rw [mu4]
      unfold fr
      by_cases hlt : e < s.size
      · rcases kind_cases hlt with ⟨hk, hb⟩ | ⟨hk, hb⟩ | ⟨hk, hb⟩ | ⟨hk, hm, hb⟩ | ⟨hk, hm, hb⟩
        · have HK : Hid (∀ w, Calls Tryz.prog 30 #[.string s, .int .i64 (e : Int)] w fun r w' => r = .returned (.int .i64 1) ∧ w' = w) := fun w => kind_of hlt hk w
          have HX : Hid (At s l 3 x e) := at_end HY.out (by rw [getD_byte s e hlt]; intro h; exact absurd h.2 (kind_off hlt 1 hk (by decide)))
          clear hk hb
          go_wp2_with (go_at_call 30; refine (HK.out _).mono ?_; rintro r wr ⟨rfl, rfl⟩)
          go_step3
          obtain ⟨⟨ao, cap, hcell, hown⟩, hfz, hlow, hsize, hmany⟩ := hM
          have HOW : Hid (wr.ownsRow (w.heap.size + 2) 37 3 (.slice ao l.length cap) l.length (cellsOf l)) := hown
          have HLO : Hid (Below (w.heap.size + 1) ((w.alloc (.cells #[.int .i64 0, .int .i64 0, .slice none 0 0] 27)).alloc (.cells #[.slice none 0 0] 25)) wr) := hlow
          have HBW : Hid (Below w.heap.size w wr) := (below_two w _ _).trans (hlow.mono (by omega))
          have r0 : wr.cell? ⟨w.heap.size, 0, none⟩ = some (.int .i64 0) := (hlow.cell (by show w.heap.size < _; omega)).trans (res_cell w _ 0 _ rfl)
          have r1 : wr.cell? ⟨w.heap.size, 1, none⟩ = some (.int .i64 0) := (hlow.cell (by show w.heap.size < _; omega)).trans (res_cell w _ 1 _ rfl)
          have r2 : wr.cell? ⟨w.heap.size, 2, none⟩ = some (.slice none 0 0) := (hlow.cell (by show w.heap.size < _; omega)).trans (res_cell w _ 2 _ rfl)
          have f0 : ∀ o, wr.frozen? ⟨w.heap.size, o, none⟩ = false := fun o => (hlow.frozen (by show w.heap.size < _; omega)).trans (res_frozen w _ _ o)
          have hB1 : w.heap.size < wr.heap.size := by omega
          clear hlow hown
          have HLR : Hid (LR wr) := hL.below HBW.out
          have hx : x < s.size := HX.out.1
          have hxe : x < e := HX.out.2.2.1
          have hes2 : e ≤ s.size := HX.out.2.2.2.1
          have HR : Hid (readTok (s.extract x e) = tokAt s x) := by have h := readTok_at s x HX.out.1 HX.out.2.2.2.2.1; rw [← HX.out.2.1] at h; exact h
          have hsl := slice_str s x e (by omega) hes2
          have hsz : (s.extract x e).size ≤ 281474976710656 := by rw [ByteArray.size_extract]; omega
          cases htk : tokAt s x with
          | none =>
            have HC : Hid (Cut s (skip s.data.toList 0) [] 5 (x : Int) []) := HX.out.2.2.2.2.2 _ _ _ (.bad hx htk)
            have HT : Hid (∀ (w' : World), w' = wr → Calls Tryz.prog 31 #[.pointer (some ⟨w.heap.size + 1, 0, none⟩), .string (s.extract x e)] w' fun r w'' => r = .returned (.int .i64 5) ∧ Below w'.heap.size w' w'') := fun w' h => by subst h; exact take_bad _ _ _ hsz HLR.out (HR.out.trans htk)
            clear hcell hfz
            go_wp2_with (go_at_call 31; refine (HT.out _ rfl).mono ?_; rintro r w1 ⟨rfl, hq⟩; obtain ⟨hc, hf⟩ := bcell hq)
            simp only [jumps]
            refine bodyPost_ret (v := .agg #[.int .i64 5, .int .i64 x, .slice none 0 0]) (by simp [results, Tryz.results18, go_sem, *]) rfl ⟨none, 0, 5, x, [], rfl, Or.inr ⟨hs, HC.out⟩, World.ownsRow_nil _ _ _ _, ?_⟩
            repeat (first | exact HBW.out | refine Below.setCell ?_ (by simp) _ | refine Below.trans ?_ (hq.mono (by omega)))
          | some t =>
            by_cases h120 : l.length = 120
            · have _ := h120
              have HC : Hid (Cut s (skip s.data.toList 0) [] 2 (x : Int) []) := HX.out.2.2.2.2.2 _ _ _ (.many hx htk (by omega))
              have HT : Hid (∀ (w' : World), w' = wr → Calls Tryz.prog 31 #[.pointer (some ⟨w.heap.size + 1, 0, none⟩), .string (s.extract x e)] w' fun r w'' => r = .returned (.int .i64 2) ∧ Below w'.heap.size w' w'') := fun w' h => by subst h; exact take_many _ _ _ _ _ ao hsz HLR.out hcell h120 (HR.out.trans htk)
              clear hcell hfz
              go_wp2_with (go_at_call 31; refine (HT.out _ rfl).mono ?_; rintro r w1 ⟨rfl, hq⟩; obtain ⟨hc, hf⟩ := bcell hq)
              simp only [jumps]
              refine bodyPost_ret (v := .agg #[.int .i64 2, .int .i64 x, .slice none 0 0]) (by simp [results, Tryz.results18, go_sem, *]) rfl ⟨none, 0, 2, x, [], rfl, Or.inr ⟨hs, HC.out⟩, World.ownsRow_nil _ _ _ _, ?_⟩
              repeat (first | exact HBW.out | refine Below.setCell ?_ (by simp) _ | refine Below.trans ?_ (hq.mono (by omega)))
            · have hl : l.length < 120 := by omega
              have HT : Hid (∀ (w' : World), w' = wr → Calls Tryz.prog 31 #[.pointer (some ⟨w.heap.size + 1, 0, none⟩), .string (s.extract x e)] w' fun r w'' => r = .returned (.int .i64 0) ∧ Mem w.heap.size ((w.alloc (.cells #[.int .i64 0, .int .i64 0, .slice none 0 0] 27)).alloc (.cells #[.slice none 0 0] 25)) w'' (l ++ [t])) := fun w' h => by
                subst h
                refine (take_next _ _ _ (w.heap.size + 2) _ ao l hsz HLR.out hcell hfz HOW.out (by omega) hsize hl (HR.out.trans htk)).mono ?_
                rintro r w'' ⟨rfl, g, cap', h1, h2, h3, h4⟩
                exact ⟨rfl, ⟨⟨_, _, by simpa using h1, by simpa using h3⟩, h2, HLO.out.trans h4, Nat.le_trans hsize h4.size, by simp; omega⟩⟩
              have HA : Hid (At s (l ++ [t]) 0 x e) := at_tok HX.out htk hl
              clear hcell hfz htk
              go_wp2_with (go_at_call 31; refine (HT.out _ rfl).mono ?_; rintro r w1 ⟨rfl, hq⟩; have HQ : Hid _ := hq; clear hq)
              go_step3
              exact jj0 x e HQ.out HA.out (by omega)
        · have HK : Hid (∀ w, Calls Tryz.prog 30 #[.string s, .int .i64 (e : Int)] w fun r w' => r = .returned (.int .i64 2) ∧ w' = w) := fun w => kind_of hlt hk w
          have HX : Hid (At s l 3 x e) := at_end HY.out (by rw [getD_byte s e hlt]; intro h; exact absurd h.2 (kind_off hlt 2 hk (by decide)))
          clear hk hb
          go_wp2_with (go_at_call 30; refine (HK.out _).mono ?_; rintro r wr ⟨rfl, rfl⟩)
          go_step3
          obtain ⟨⟨ao, cap, hcell, hown⟩, hfz, hlow, hsize, hmany⟩ := hM
          have HOW : Hid (wr.ownsRow (w.heap.size + 2) 37 3 (.slice ao l.length cap) l.length (cellsOf l)) := hown
          have HLO : Hid (Below (w.heap.size + 1) ((w.alloc (.cells #[.int .i64 0, .int .i64 0, .slice none 0 0] 27)).alloc (.cells #[.slice none 0 0] 25)) wr) := hlow
          have HBW : Hid (Below w.heap.size w wr) := (below_two w _ _).trans (hlow.mono (by omega))
          have r0 : wr.cell? ⟨w.heap.size, 0, none⟩ = some (.int .i64 0) := (hlow.cell (by show w.heap.size < _; omega)).trans (res_cell w _ 0 _ rfl)
          have r1 : wr.cell? ⟨w.heap.size, 1, none⟩ = some (.int .i64 0) := (hlow.cell (by show w.heap.size < _; omega)).trans (res_cell w _ 1 _ rfl)
          have r2 : wr.cell? ⟨w.heap.size, 2, none⟩ = some (.slice none 0 0) := (hlow.cell (by show w.heap.size < _; omega)).trans (res_cell w _ 2 _ rfl)
          have f0 : ∀ o, wr.frozen? ⟨w.heap.size, o, none⟩ = false := fun o => (hlow.frozen (by show w.heap.size < _; omega)).trans (res_frozen w _ _ o)
          have hB1 : w.heap.size < wr.heap.size := by omega
          clear hlow hown
          have HLR : Hid (LR wr) := hL.below HBW.out
          have hx : x < s.size := HX.out.1
          have hxe : x < e := HX.out.2.2.1
          have hes2 : e ≤ s.size := HX.out.2.2.2.1
          have HR : Hid (readTok (s.extract x e) = tokAt s x) := by have h := readTok_at s x HX.out.1 HX.out.2.2.2.2.1; rw [← HX.out.2.1] at h; exact h
          have hsl := slice_str s x e (by omega) hes2
          have hsz : (s.extract x e).size ≤ 281474976710656 := by rw [ByteArray.size_extract]; omega
          cases htk : tokAt s x with
          | none =>
            have HC : Hid (Cut s (skip s.data.toList 0) [] 5 (x : Int) []) := HX.out.2.2.2.2.2 _ _ _ (.bad hx htk)
            have HT : Hid (∀ (w' : World), w' = wr → Calls Tryz.prog 31 #[.pointer (some ⟨w.heap.size + 1, 0, none⟩), .string (s.extract x e)] w' fun r w'' => r = .returned (.int .i64 5) ∧ Below w'.heap.size w' w'') := fun w' h => by subst h; exact take_bad _ _ _ hsz HLR.out (HR.out.trans htk)
            clear hcell hfz
            go_wp2_with (go_at_call 31; refine (HT.out _ rfl).mono ?_; rintro r w1 ⟨rfl, hq⟩; obtain ⟨hc, hf⟩ := bcell hq)
            simp only [jumps]
            refine bodyPost_ret (v := .agg #[.int .i64 5, .int .i64 x, .slice none 0 0]) (by simp [results, Tryz.results18, go_sem, *]) rfl ⟨none, 0, 5, x, [], rfl, Or.inr ⟨hs, HC.out⟩, World.ownsRow_nil _ _ _ _, ?_⟩
            repeat (first | exact HBW.out | refine Below.setCell ?_ (by simp) _ | refine Below.trans ?_ (hq.mono (by omega)))
          | some t =>
            by_cases h120 : l.length = 120
            · have _ := h120
              have HC : Hid (Cut s (skip s.data.toList 0) [] 2 (x : Int) []) := HX.out.2.2.2.2.2 _ _ _ (.many hx htk (by omega))
              have HT : Hid (∀ (w' : World), w' = wr → Calls Tryz.prog 31 #[.pointer (some ⟨w.heap.size + 1, 0, none⟩), .string (s.extract x e)] w' fun r w'' => r = .returned (.int .i64 2) ∧ Below w'.heap.size w' w'') := fun w' h => by subst h; exact take_many _ _ _ _ _ ao hsz HLR.out hcell h120 (HR.out.trans htk)
              clear hcell hfz
              go_wp2_with (go_at_call 31; refine (HT.out _ rfl).mono ?_; rintro r w1 ⟨rfl, hq⟩; obtain ⟨hc, hf⟩ := bcell hq)
              simp only [jumps]
              refine bodyPost_ret (v := .agg #[.int .i64 2, .int .i64 x, .slice none 0 0]) (by simp [results, Tryz.results18, go_sem, *]) rfl ⟨none, 0, 2, x, [], rfl, Or.inr ⟨hs, HC.out⟩, World.ownsRow_nil _ _ _ _, ?_⟩
              repeat (first | exact HBW.out | refine Below.setCell ?_ (by simp) _ | refine Below.trans ?_ (hq.mono (by omega)))
            · have hl : l.length < 120 := by omega
              have HT : Hid (∀ (w' : World), w' = wr → Calls Tryz.prog 31 #[.pointer (some ⟨w.heap.size + 1, 0, none⟩), .string (s.extract x e)] w' fun r w'' => r = .returned (.int .i64 0) ∧ Mem w.heap.size ((w.alloc (.cells #[.int .i64 0, .int .i64 0, .slice none 0 0] 27)).alloc (.cells #[.slice none 0 0] 25)) w'' (l ++ [t])) := fun w' h => by
                subst h
                refine (take_next _ _ _ (w.heap.size + 2) _ ao l hsz HLR.out hcell hfz HOW.out (by omega) hsize hl (HR.out.trans htk)).mono ?_
                rintro r w'' ⟨rfl, g, cap', h1, h2, h3, h4⟩
                exact ⟨rfl, ⟨⟨_, _, by simpa using h1, by simpa using h3⟩, h2, HLO.out.trans h4, Nat.le_trans hsize h4.size, by simp; omega⟩⟩
              have HA : Hid (At s (l ++ [t]) 0 x e) := at_tok HX.out htk hl
              clear hcell hfz htk
              go_wp2_with (go_at_call 31; refine (HT.out _ rfl).mono ?_; rintro r w1 ⟨rfl, hq⟩; have HQ : Hid _ := hq; clear hq)
              go_step3
              exact jj0 x e HQ.out HA.out (by omega)
        · have HK : Hid (∀ w, Calls Tryz.prog 30 #[.string s, .int .i64 (e : Int)] w fun r w' => r = .returned (.int .i64 3) ∧ w' = w) := fun w => kind_of hlt hk w
          have HX : Hid (At s l 3 x e) := at_end HY.out (by rw [getD_byte s e hlt]; intro h; exact absurd h.2 (kind_off hlt 3 hk (by decide)))
          clear hk hb
          go_wp2_with (go_at_call 30; refine (HK.out _).mono ?_; rintro r wr ⟨rfl, rfl⟩)
          go_step3
          obtain ⟨⟨ao, cap, hcell, hown⟩, hfz, hlow, hsize, hmany⟩ := hM
          have HOW : Hid (wr.ownsRow (w.heap.size + 2) 37 3 (.slice ao l.length cap) l.length (cellsOf l)) := hown
          have HLO : Hid (Below (w.heap.size + 1) ((w.alloc (.cells #[.int .i64 0, .int .i64 0, .slice none 0 0] 27)).alloc (.cells #[.slice none 0 0] 25)) wr) := hlow
          have HBW : Hid (Below w.heap.size w wr) := (below_two w _ _).trans (hlow.mono (by omega))
          have r0 : wr.cell? ⟨w.heap.size, 0, none⟩ = some (.int .i64 0) := (hlow.cell (by show w.heap.size < _; omega)).trans (res_cell w _ 0 _ rfl)
          have r1 : wr.cell? ⟨w.heap.size, 1, none⟩ = some (.int .i64 0) := (hlow.cell (by show w.heap.size < _; omega)).trans (res_cell w _ 1 _ rfl)
          have r2 : wr.cell? ⟨w.heap.size, 2, none⟩ = some (.slice none 0 0) := (hlow.cell (by show w.heap.size < _; omega)).trans (res_cell w _ 2 _ rfl)
          have f0 : ∀ o, wr.frozen? ⟨w.heap.size, o, none⟩ = false := fun o => (hlow.frozen (by show w.heap.size < _; omega)).trans (res_frozen w _ _ o)
          have hB1 : w.heap.size < wr.heap.size := by omega
          clear hlow hown
          have HLR : Hid (LR wr) := hL.below HBW.out
          have hx : x < s.size := HX.out.1
          have hxe : x < e := HX.out.2.2.1
          have hes2 : e ≤ s.size := HX.out.2.2.2.1
          have HR : Hid (readTok (s.extract x e) = tokAt s x) := by have h := readTok_at s x HX.out.1 HX.out.2.2.2.2.1; rw [← HX.out.2.1] at h; exact h
          have hsl := slice_str s x e (by omega) hes2
          have hsz : (s.extract x e).size ≤ 281474976710656 := by rw [ByteArray.size_extract]; omega
          cases htk : tokAt s x with
          | none =>
            have HC : Hid (Cut s (skip s.data.toList 0) [] 5 (x : Int) []) := HX.out.2.2.2.2.2 _ _ _ (.bad hx htk)
            have HT : Hid (∀ (w' : World), w' = wr → Calls Tryz.prog 31 #[.pointer (some ⟨w.heap.size + 1, 0, none⟩), .string (s.extract x e)] w' fun r w'' => r = .returned (.int .i64 5) ∧ Below w'.heap.size w' w'') := fun w' h => by subst h; exact take_bad _ _ _ hsz HLR.out (HR.out.trans htk)
            clear hcell hfz
            go_wp2_with (go_at_call 31; refine (HT.out _ rfl).mono ?_; rintro r w1 ⟨rfl, hq⟩; obtain ⟨hc, hf⟩ := bcell hq)
            simp only [jumps]
            refine bodyPost_ret (v := .agg #[.int .i64 5, .int .i64 x, .slice none 0 0]) (by simp [results, Tryz.results18, go_sem, *]) rfl ⟨none, 0, 5, x, [], rfl, Or.inr ⟨hs, HC.out⟩, World.ownsRow_nil _ _ _ _, ?_⟩
            repeat (first | exact HBW.out | refine Below.setCell ?_ (by simp) _ | refine Below.trans ?_ (hq.mono (by omega)))
          | some t =>
            by_cases h120 : l.length = 120
            · have _ := h120
              have HC : Hid (Cut s (skip s.data.toList 0) [] 2 (x : Int) []) := HX.out.2.2.2.2.2 _ _ _ (.many hx htk (by omega))
              have HT : Hid (∀ (w' : World), w' = wr → Calls Tryz.prog 31 #[.pointer (some ⟨w.heap.size + 1, 0, none⟩), .string (s.extract x e)] w' fun r w'' => r = .returned (.int .i64 2) ∧ Below w'.heap.size w' w'') := fun w' h => by subst h; exact take_many _ _ _ _ _ ao hsz HLR.out hcell h120 (HR.out.trans htk)
              clear hcell hfz
              go_wp2_with (go_at_call 31; refine (HT.out _ rfl).mono ?_; rintro r w1 ⟨rfl, hq⟩; obtain ⟨hc, hf⟩ := bcell hq)
              simp only [jumps]
              refine bodyPost_ret (v := .agg #[.int .i64 2, .int .i64 x, .slice none 0 0]) (by simp [results, Tryz.results18, go_sem, *]) rfl ⟨none, 0, 2, x, [], rfl, Or.inr ⟨hs, HC.out⟩, World.ownsRow_nil _ _ _ _, ?_⟩
              repeat (first | exact HBW.out | refine Below.setCell ?_ (by simp) _ | refine Below.trans ?_ (hq.mono (by omega)))
            · have hl : l.length < 120 := by omega
              have HT : Hid (∀ (w' : World), w' = wr → Calls Tryz.prog 31 #[.pointer (some ⟨w.heap.size + 1, 0, none⟩), .string (s.extract x e)] w' fun r w'' => r = .returned (.int .i64 0) ∧ Mem w.heap.size ((w.alloc (.cells #[.int .i64 0, .int .i64 0, .slice none 0 0] 27)).alloc (.cells #[.slice none 0 0] 25)) w'' (l ++ [t])) := fun w' h => by
                subst h
                refine (take_next _ _ _ (w.heap.size + 2) _ ao l hsz HLR.out hcell hfz HOW.out (by omega) hsize hl (HR.out.trans htk)).mono ?_
                rintro r w'' ⟨rfl, g, cap', h1, h2, h3, h4⟩
                exact ⟨rfl, ⟨⟨_, _, by simpa using h1, by simpa using h3⟩, h2, HLO.out.trans h4, Nat.le_trans hsize h4.size, by simp; omega⟩⟩
              have HA : Hid (At s (l ++ [t]) 0 x e) := at_tok HX.out htk hl
              clear hcell hfz htk
              go_wp2_with (go_at_call 31; refine (HT.out _ rfl).mono ?_; rintro r w1 ⟨rfl, hq⟩; have HQ : Hid _ := hq; clear hq)
              go_step3
              exact jj0 x e HQ.out HA.out (by omega)
        · have HK : Hid (∀ w, Calls Tryz.prog 30 #[.string s, .int .i64 (e : Int)] w fun r w' => r = .returned (.int .i64 4) ∧ w' = w) := fun w => kind_of hlt hk w
          have HX : Hid (At s l 3 x e) := at_end HY.out (by rw [getD_byte s e hlt]; intro h; exact absurd h.2 (kind_off hlt 4 hk (by decide)))
          clear hk hb hm
          go_wp2_with (go_at_call 30; refine (HK.out _).mono ?_; rintro r wr ⟨rfl, rfl⟩)
          go_step3
          obtain ⟨⟨ao, cap, hcell, hown⟩, hfz, hlow, hsize, hmany⟩ := hM
          have HOW : Hid (wr.ownsRow (w.heap.size + 2) 37 3 (.slice ao l.length cap) l.length (cellsOf l)) := hown
          have HLO : Hid (Below (w.heap.size + 1) ((w.alloc (.cells #[.int .i64 0, .int .i64 0, .slice none 0 0] 27)).alloc (.cells #[.slice none 0 0] 25)) wr) := hlow
          have HBW : Hid (Below w.heap.size w wr) := (below_two w _ _).trans (hlow.mono (by omega))
          have r0 : wr.cell? ⟨w.heap.size, 0, none⟩ = some (.int .i64 0) := (hlow.cell (by show w.heap.size < _; omega)).trans (res_cell w _ 0 _ rfl)
          have r1 : wr.cell? ⟨w.heap.size, 1, none⟩ = some (.int .i64 0) := (hlow.cell (by show w.heap.size < _; omega)).trans (res_cell w _ 1 _ rfl)
          have r2 : wr.cell? ⟨w.heap.size, 2, none⟩ = some (.slice none 0 0) := (hlow.cell (by show w.heap.size < _; omega)).trans (res_cell w _ 2 _ rfl)
          have f0 : ∀ o, wr.frozen? ⟨w.heap.size, o, none⟩ = false := fun o => (hlow.frozen (by show w.heap.size < _; omega)).trans (res_frozen w _ _ o)
          have hB1 : w.heap.size < wr.heap.size := by omega
          clear hlow hown
          have HLR : Hid (LR wr) := hL.below HBW.out
          have hx : x < s.size := HX.out.1
          have hxe : x < e := HX.out.2.2.1
          have hes2 : e ≤ s.size := HX.out.2.2.2.1
          have HR : Hid (readTok (s.extract x e) = tokAt s x) := by have h := readTok_at s x HX.out.1 HX.out.2.2.2.2.1; rw [← HX.out.2.1] at h; exact h
          have hsl := slice_str s x e (by omega) hes2
          have hsz : (s.extract x e).size ≤ 281474976710656 := by rw [ByteArray.size_extract]; omega
          cases htk : tokAt s x with
          | none =>
            have HC : Hid (Cut s (skip s.data.toList 0) [] 5 (x : Int) []) := HX.out.2.2.2.2.2 _ _ _ (.bad hx htk)
            have HT : Hid (∀ (w' : World), w' = wr → Calls Tryz.prog 31 #[.pointer (some ⟨w.heap.size + 1, 0, none⟩), .string (s.extract x e)] w' fun r w'' => r = .returned (.int .i64 5) ∧ Below w'.heap.size w' w'') := fun w' h => by subst h; exact take_bad _ _ _ hsz HLR.out (HR.out.trans htk)
            clear hcell hfz
            go_wp2_with (go_at_call 31; refine (HT.out _ rfl).mono ?_; rintro r w1 ⟨rfl, hq⟩; obtain ⟨hc, hf⟩ := bcell hq)
            simp only [jumps]
            refine bodyPost_ret (v := .agg #[.int .i64 5, .int .i64 x, .slice none 0 0]) (by simp [results, Tryz.results18, go_sem, *]) rfl ⟨none, 0, 5, x, [], rfl, Or.inr ⟨hs, HC.out⟩, World.ownsRow_nil _ _ _ _, ?_⟩
            repeat (first | exact HBW.out | refine Below.setCell ?_ (by simp) _ | refine Below.trans ?_ (hq.mono (by omega)))
          | some t =>
            by_cases h120 : l.length = 120
            · have _ := h120
              have HC : Hid (Cut s (skip s.data.toList 0) [] 2 (x : Int) []) := HX.out.2.2.2.2.2 _ _ _ (.many hx htk (by omega))
              have HT : Hid (∀ (w' : World), w' = wr → Calls Tryz.prog 31 #[.pointer (some ⟨w.heap.size + 1, 0, none⟩), .string (s.extract x e)] w' fun r w'' => r = .returned (.int .i64 2) ∧ Below w'.heap.size w' w'') := fun w' h => by subst h; exact take_many _ _ _ _ _ ao hsz HLR.out hcell h120 (HR.out.trans htk)
              clear hcell hfz
              go_wp2_with (go_at_call 31; refine (HT.out _ rfl).mono ?_; rintro r w1 ⟨rfl, hq⟩; obtain ⟨hc, hf⟩ := bcell hq)
              simp only [jumps]
              refine bodyPost_ret (v := .agg #[.int .i64 2, .int .i64 x, .slice none 0 0]) (by simp [results, Tryz.results18, go_sem, *]) rfl ⟨none, 0, 2, x, [], rfl, Or.inr ⟨hs, HC.out⟩, World.ownsRow_nil _ _ _ _, ?_⟩
              repeat (first | exact HBW.out | refine Below.setCell ?_ (by simp) _ | refine Below.trans ?_ (hq.mono (by omega)))
            · have hl : l.length < 120 := by omega
              have HT : Hid (∀ (w' : World), w' = wr → Calls Tryz.prog 31 #[.pointer (some ⟨w.heap.size + 1, 0, none⟩), .string (s.extract x e)] w' fun r w'' => r = .returned (.int .i64 0) ∧ Mem w.heap.size ((w.alloc (.cells #[.int .i64 0, .int .i64 0, .slice none 0 0] 27)).alloc (.cells #[.slice none 0 0] 25)) w'' (l ++ [t])) := fun w' h => by
                subst h
                refine (take_next _ _ _ (w.heap.size + 2) _ ao l hsz HLR.out hcell hfz HOW.out (by omega) hsize hl (HR.out.trans htk)).mono ?_
                rintro r w'' ⟨rfl, g, cap', h1, h2, h3, h4⟩
                exact ⟨rfl, ⟨⟨_, _, by simpa using h1, by simpa using h3⟩, h2, HLO.out.trans h4, Nat.le_trans hsize h4.size, by simp; omega⟩⟩
              have HA : Hid (At s (l ++ [t]) 0 x e) := at_tok HX.out htk hl
              clear hcell hfz htk
              go_wp2_with (go_at_call 31; refine (HT.out _ rfl).mono ?_; rintro r w1 ⟨rfl, hq⟩; have HQ : Hid _ := hq; clear hq)
              go_step3
              exact jj0 x e HQ.out HA.out (by omega)
        · have HK : Hid (∀ w, Calls Tryz.prog 30 #[.string s, .int .i64 (e : Int)] w fun r w' => r = .returned (.int .i64 5) ∧ w' = w) := fun w => kind_of hlt hk w
          have HA : Hid (At s l 4 x (e + 1)) := at_on HY.out hlt hm hb
          have HM : Hid (Mem w.heap.size _ wr l) := hM
          clear hk hb hm hM
          go_wp2_with (go_at_call 30; refine (HK.out _).mono ?_; rintro r wr ⟨rfl, rfl⟩)
          go_step3
          exact jj4 x (e + 1) HM.out HA.out (by omega)
      · have HK : Hid (∀ w, Calls Tryz.prog 30 #[.string s, .int .i64 (e : Int)] w fun r w' => r = .returned (.int .i64 0) ∧ w' = w) := fun w => kind_done hlt w
        have HX : Hid (At s l 3 x e) := at_end HY.out (by intro h; exact hlt h.1)
        go_wp2_with (go_at_call 30; refine (HK.out _).mono ?_; rintro r wr ⟨rfl, rfl⟩)
        go_step3
        obtain ⟨⟨ao, cap, hcell, hown⟩, hfz, hlow, hsize, hmany⟩ := hM
        have HOW : Hid (wr.ownsRow (w.heap.size + 2) 37 3 (.slice ao l.length cap) l.length (cellsOf l)) := hown
        have HLO : Hid (Below (w.heap.size + 1) ((w.alloc (.cells #[.int .i64 0, .int .i64 0, .slice none 0 0] 27)).alloc (.cells #[.slice none 0 0] 25)) wr) := hlow
        have HBW : Hid (Below w.heap.size w wr) := (below_two w _ _).trans (hlow.mono (by omega))
        have r0 : wr.cell? ⟨w.heap.size, 0, none⟩ = some (.int .i64 0) := (hlow.cell (by show w.heap.size < _; omega)).trans (res_cell w _ 0 _ rfl)
        have r1 : wr.cell? ⟨w.heap.size, 1, none⟩ = some (.int .i64 0) := (hlow.cell (by show w.heap.size < _; omega)).trans (res_cell w _ 1 _ rfl)
        have r2 : wr.cell? ⟨w.heap.size, 2, none⟩ = some (.slice none 0 0) := (hlow.cell (by show w.heap.size < _; omega)).trans (res_cell w _ 2 _ rfl)
        have f0 : ∀ o, wr.frozen? ⟨w.heap.size, o, none⟩ = false := fun o => (hlow.frozen (by show w.heap.size < _; omega)).trans (res_frozen w _ _ o)
        have hB1 : w.heap.size < wr.heap.size := by omega
        clear hlow hown
        have HLR : Hid (LR wr) := hL.below HBW.out
        have hx : x < s.size := HX.out.1
        have hxe : x < e := HX.out.2.2.1
        have hes2 : e ≤ s.size := HX.out.2.2.2.1
        have HR : Hid (readTok (s.extract x e) = tokAt s x) := by have h := readTok_at s x HX.out.1 HX.out.2.2.2.2.1; rw [← HX.out.2.1] at h; exact h
        have hsl := slice_str s x e (by omega) hes2
        have hsz : (s.extract x e).size ≤ 281474976710656 := by rw [ByteArray.size_extract]; omega
        cases htk : tokAt s x with
        | none =>
          have HC : Hid (Cut s (skip s.data.toList 0) [] 5 (x : Int) []) := HX.out.2.2.2.2.2 _ _ _ (.bad hx htk)
          have HT : Hid (∀ (w' : World), w' = wr → Calls Tryz.prog 31 #[.pointer (some ⟨w.heap.size + 1, 0, none⟩), .string (s.extract x e)] w' fun r w'' => r = .returned (.int .i64 5) ∧ Below w'.heap.size w' w'') := fun w' h => by subst h; exact take_bad _ _ _ hsz HLR.out (HR.out.trans htk)
          clear hcell hfz
          go_wp2_with (go_at_call 31; refine (HT.out _ rfl).mono ?_; rintro r w1 ⟨rfl, hq⟩; obtain ⟨hc, hf⟩ := bcell hq)
          simp only [jumps]
          refine bodyPost_ret (v := .agg #[.int .i64 5, .int .i64 x, .slice none 0 0]) (by simp [results, Tryz.results18, go_sem, *]) rfl ⟨none, 0, 5, x, [], rfl, Or.inr ⟨hs, HC.out⟩, World.ownsRow_nil _ _ _ _, ?_⟩
          repeat (first | exact HBW.out | refine Below.setCell ?_ (by simp) _ | refine Below.trans ?_ (hq.mono (by omega)))
        | some t =>
          by_cases h120 : l.length = 120
          · have _ := h120
            have HC : Hid (Cut s (skip s.data.toList 0) [] 2 (x : Int) []) := HX.out.2.2.2.2.2 _ _ _ (.many hx htk (by omega))
            have HT : Hid (∀ (w' : World), w' = wr → Calls Tryz.prog 31 #[.pointer (some ⟨w.heap.size + 1, 0, none⟩), .string (s.extract x e)] w' fun r w'' => r = .returned (.int .i64 2) ∧ Below w'.heap.size w' w'') := fun w' h => by subst h; exact take_many _ _ _ _ _ ao hsz HLR.out hcell h120 (HR.out.trans htk)
            clear hcell hfz
            go_wp2_with (go_at_call 31; refine (HT.out _ rfl).mono ?_; rintro r w1 ⟨rfl, hq⟩; obtain ⟨hc, hf⟩ := bcell hq)
            simp only [jumps]
            refine bodyPost_ret (v := .agg #[.int .i64 2, .int .i64 x, .slice none 0 0]) (by simp [results, Tryz.results18, go_sem, *]) rfl ⟨none, 0, 2, x, [], rfl, Or.inr ⟨hs, HC.out⟩, World.ownsRow_nil _ _ _ _, ?_⟩
            repeat (first | exact HBW.out | refine Below.setCell ?_ (by simp) _ | refine Below.trans ?_ (hq.mono (by omega)))
          · have hl : l.length < 120 := by omega
            have HT : Hid (∀ (w' : World), w' = wr → Calls Tryz.prog 31 #[.pointer (some ⟨w.heap.size + 1, 0, none⟩), .string (s.extract x e)] w' fun r w'' => r = .returned (.int .i64 0) ∧ Mem w.heap.size ((w.alloc (.cells #[.int .i64 0, .int .i64 0, .slice none 0 0] 27)).alloc (.cells #[.slice none 0 0] 25)) w'' (l ++ [t])) := fun w' h => by
              subst h
              refine (take_next _ _ _ (w.heap.size + 2) _ ao l hsz HLR.out hcell hfz HOW.out (by omega) hsize hl (HR.out.trans htk)).mono ?_
              rintro r w'' ⟨rfl, g, cap', h1, h2, h3, h4⟩
              exact ⟨rfl, ⟨⟨_, _, by simpa using h1, by simpa using h3⟩, h2, HLO.out.trans h4, Nat.le_trans hsize h4.size, by simp; omega⟩⟩
            have HA : Hid (At s (l ++ [t]) 0 x e) := at_tok HX.out htk hl
            clear hcell hfz htk
            go_wp2_with (go_at_call 31; refine (HT.out _ rfl).mono ?_; rintro r w1 ⟨rfl, hq⟩; have HQ : Hid _ := hq; clear hq)
            go_step3
            exact jj0 x e HQ.out HA.out (by omega)
    | n + 5, hA => exact hA.elim
end Go.Proofs.YtnlfnicgfhfpfaaGreatDoor
