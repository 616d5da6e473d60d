/-
  Parts of the proof laid into one text, one behind the other; each says at its head what is proved in it.
-/
import Derived.Test.YtoljpgpkeploiaaGreatDoorFpB
import Derived.Test.YtoljpgpkeploiaaGreatDoorFpD
import Derived.Test.YtoljpgpkeploiaaGreatDoorRowKit0
import Derived.OwnWalk
import Derived.Deep.AppendLies
import Derived.WalkKit
/-
  The model's l2Word: a word as a token, or that it is none; nothing that was there is turned.
-/
namespace Go.Proofs.YtoljpgpkeploiaaGreatDoor
open Go.RowKit Go.Extern.Stop Go.Stop Go.Extern Num Go.Lib

theorem l1Parse_some (s : ByteArray) (w : World) (hs : s.size ≤ 9223372036854775807) {v : Int} (h : numOf s.data.toList = some v) :
    Calls Tryz.prog 98 #[.string s] w fun e w' => e = .returned (.tuple #[.int .i64 v, .bool true]) ∧ Below w.heap.size w w' := by
  refine (l1Parse_any s w hs).mono ?_
  rintro e w' ⟨n, b, rfl, h1 | h1, hq⟩
  · obtain ⟨rfl, h2, h3⟩ := h1
    have e := numOf_of h2 h3
    rw [h] at e
    obtain rfl := Option.some.inj e
    exact ⟨rfl, hq⟩
  · obtain ⟨h2, h3⟩ := numOf_some h
    exact absurd h3 (h1.2 v h2)
theorem l1Parse_none (s : ByteArray) (w : World) (hs : s.size ≤ 9223372036854775807) (h : numOf s.data.toList = none) :
    Calls Tryz.prog 98 #[.string s] w fun e w' => ∃ n, e = .returned (.tuple #[.int .i64 n, .bool false]) ∧ Below w.heap.size w w' := by
  refine (l1Parse_any s w hs).mono ?_
  rintro e w' ⟨n, b, rfl, h1 | h1, hq⟩
  · exact absurd h1.2.2 (numOf_none h n h1.2.1)
  · obtain ⟨rfl, _⟩ := h1
    exact ⟨n, rfl, hq⟩
theorem l2Word_num (s : ByteArray) (w : World) (hs : s.size ≤ 9223372036854775807) {v : Int} (h : numOf s.data.toList = some v) :
    Calls Tryz.prog 79 #[.string s] w fun e w' => e = .returned (.tuple #[(⟨4, v, E0⟩ : Tok).val, .bool true]) ∧ Below w.heap.size w w' := by
  have HP : Hid (∀ w, Calls Tryz.prog 98 #[.string s] w fun e w' => e = .returned (.tuple #[.int .i64 v, .bool true]) ∧ Below w.heap.size w w') := fun w => l1Parse_some s w hs h
  clear h
  go_enter Tryz.func79, Tryz.ntmps79
  go_wp2_with (go_at_call 98; refine (HP.out _).mono ?_; rintro e w1 ⟨rfl, hq⟩; obtain ⟨hc, hf⟩ := bcell hq)
  exact bodyPost_ret (v := .tuple #[(⟨4, v, E0⟩ : Tok).val, .bool true]) (by simp [results, Tryz.results79, go_sem, hc]) rfl ⟨rfl, by
    repeat (first | exact Below.refl _ _ | refine Below.setCell ?_ (by simp) _ | refine Below.trans ?_ (hq.mono (by simp)) | refine Below.alloc ?_ (by simp <;> omega) _)⟩
theorem l2Word_t (s : ByteArray) (w : World) (hs : s.size ≤ 9223372036854775807) (h : numOf s.data.toList = none) (h1 : s.data.toList = [35, 116]) :
    Calls Tryz.prog 79 #[.string s] w fun e w' => e = .returned (.tuple #[(⟨5, 1, E0⟩ : Tok).val, .bool true]) ∧ Below w.heap.size w w' := by
  have HP : Hid (∀ w, Calls Tryz.prog 98 #[.string s] w fun e w' => ∃ n, e = .returned (.tuple #[.int .i64 n, .bool false]) ∧ Below w.heap.size w w') := fun w => l1Parse_none s w hs h
  have c1 : (s.toList == [35, 116]) = true := by rw [ByteArray.toList_eq, h1]; rfl
  clear h h1
  go_enter Tryz.func79, Tryz.ntmps79
  go_wp2_with (go_at_call 98; refine (HP.out _).mono ?_; rintro e w1 ⟨n, rfl, hq⟩; obtain ⟨hc, hf⟩ := bcell hq)
  exact bodyPost_ret (v := .tuple #[(⟨5, 1, E0⟩ : Tok).val, .bool true]) (by simp [results, Tryz.results79, go_sem, hc]) rfl ⟨rfl, by
    repeat (first | exact Below.refl _ _ | refine Below.setCell ?_ (by simp) _ | refine Below.trans ?_ (hq.mono (by simp)) | refine Below.alloc ?_ (by simp <;> omega) _)⟩
theorem l2Word_f (s : ByteArray) (w : World) (hs : s.size ≤ 9223372036854775807) (h : numOf s.data.toList = none) (h1 : s.data.toList = [35, 102]) :
    Calls Tryz.prog 79 #[.string s] w fun e w' => e = .returned (.tuple #[(⟨5, 0, E0⟩ : Tok).val, .bool true]) ∧ Below w.heap.size w w' := by
  have HP : Hid (∀ w, Calls Tryz.prog 98 #[.string s] w fun e w' => ∃ n, e = .returned (.tuple #[.int .i64 n, .bool false]) ∧ Below w.heap.size w w') := fun w => l1Parse_none s w hs h
  have c1 : (s.toList == [35, 116]) = false := by rw [ByteArray.toList_eq, h1]; rfl
  have c2 : (s.toList == [35, 102]) = true := by rw [ByteArray.toList_eq, h1]; rfl
  clear h h1
  go_enter Tryz.func79, Tryz.ntmps79
  go_wp2_with (go_at_call 98; refine (HP.out _).mono ?_; rintro e w1 ⟨n, rfl, hq⟩; obtain ⟨hc, hf⟩ := bcell hq)
  exact bodyPost_ret (v := .tuple #[(⟨5, 0, E0⟩ : Tok).val, .bool true]) (by simp [results, Tryz.results79, go_sem, hc]) rfl ⟨rfl, by
    repeat (first | exact Below.refl _ _ | refine Below.setCell ?_ (by simp) _ | refine Below.trans ?_ (hq.mono (by simp)) | refine Below.alloc ?_ (by simp <;> omega) _)⟩
theorem l2Word_sym (s : ByteArray) (w : World) (hs : s.size ≤ 9223372036854775807) (h : numOf s.data.toList = none) (h1 : s.data.toList ≠ [35, 116]) (h2 : s.data.toList ≠ [35, 102]) :
    Calls Tryz.prog 79 #[.string s] w fun e w' => e = .returned (.tuple #[(⟨6, 0, s⟩ : Tok).val, .bool (symL s.data.toList)]) ∧ Below w.heap.size w w' := by
  have HP : Hid (∀ w, Calls Tryz.prog 98 #[.string s] w fun e w' => ∃ n, e = .returned (.tuple #[.int .i64 n, .bool false]) ∧ Below w.heap.size w w') := fun w => l1Parse_none s w hs h
  have HS : Hid (∀ w, Calls Tryz.prog 58 #[.string s] w fun e w' => e = .returned (.bool (symL s.data.toList)) ∧ w' = w) := fun w => sym_any s w hs
  have c1 := ne_list h1
  have c2 := ne_list h2
  clear h h1 h2
  go_enter Tryz.func79, Tryz.ntmps79
  go_wp2_with (first | (go_at_call 98; refine (HP.out _).mono ?_; rintro e w1 ⟨n, rfl, hq⟩; obtain ⟨hc, hf⟩ := bcell hq) | (go_at_call 58; refine (HS.out _).mono ?_; rintro e w2 ⟨rfl, rfl⟩))
  exact bodyPost_ret (v := .tuple #[(⟨6, 0, s⟩ : Tok).val, .bool (symL s.data.toList)]) (by simp [results, Tryz.results79, go_sem, hc]) rfl ⟨rfl, by
    repeat (first | exact Below.refl _ _ | refine Below.setCell ?_ (by simp) _ | refine Below.trans ?_ (hq.mono (by simp)) | refine Below.alloc ?_ (by simp <;> omega) _)⟩
/-- A word as a token, or that it is none. -/
theorem l2Word_any (s : ByteArray) (w : World) (hs : s.size ≤ 9223372036854775807) :
    Calls Tryz.prog 79 #[.string s] w fun e w' => (∃ t b, e = .returned (.tuple #[t.val, .bool b]) ∧ ((b = true ∧ wordTok s = some t) ∨ (b = false ∧ wordTok s = none))) ∧ Below w.heap.size w w' := by
  cases hn : numOf s.data.toList with
  | some v => exact (l2Word_num s w hs hn).mono fun e w' h => ⟨⟨_, _, h.1, Or.inl ⟨rfl, wordTok_num hn⟩⟩, h.2⟩
  | none =>
    by_cases h1 : s.data.toList = [35, 116]
    · exact (l2Word_t s w hs hn h1).mono fun e w' h => ⟨⟨_, _, h.1, Or.inl ⟨rfl, wordTok_t h1⟩⟩, h.2⟩
    · by_cases h2 : s.data.toList = [35, 102]
      · exact (l2Word_f s w hs hn h2).mono fun e w' h => ⟨⟨_, _, h.1, Or.inl ⟨rfl, wordTok_f h2⟩⟩, h.2⟩
      · have ew := wordTok_sym hn h1 h2
        refine (l2Word_sym s w hs hn h1 h2).mono fun e w' h => ⟨⟨_, _, h.1, ?_⟩, h.2⟩
        cases hy : symL s.data.toList
        · exact Or.inr ⟨rfl, by rw [ew, hy]; rfl⟩
        · exact Or.inl ⟨rfl, by rw [ew, hy]; rfl⟩
end Go.Proofs.YtoljpgpkeploiaaGreatDoor
/-
  The model's l2Tokens: the tokens of a text in new memory, or the code and the place of the first fault; nothing that was there is turned.
-/
namespace Go.Proofs.YtoljpgpkeploiaaGreatDoor
open Go.RowKit Go.Extern.Stop Go.Stop Go.Extern Num Go.Lib

theorem tokInfo : (Tryz.prog.info? 71).map (fun i => (i.zero, i.size, i.bytes)) = some (some (.agg #[.int .i64 0, .int .i64 0, .string ⟨#[]⟩]), 3, 32) := by kernel_rfl
/-- What is owed of the rest of the text. -/
abbrev Owed (s : ByteArray) (k : Nat) (l : List Tok) : Prop := ∀ c a r, Cut s k l c a r → Cut s (skip s.data.toList 0) [] c a r
/-- What l2Tokens answers. -/
def TRes (s : ByteArray) (w : World) (e : Ending) (w' : World) : Prop :=
  ∃ v c a l, e = .returned (.tuple #[v, .int .i64 c, .int .i64 a]) ∧ Cut s (skip s.data.toList 0) [] c a l ∧ w'.ownsRow w.heap.size 71 3 v l.length (cellsOf l) ∧ Below w.heap.size w w' ∧ (c = 0 ∨ v = .slice none 0 0)
theorem tok_mark {s : ByteArray} {k : Nat} (h : k < s.size) (hm : markB (s[k]'h) ≠ 0) : tokAt s k = some ⟨markB (s[k]'h), 0, E0⟩ ∧ endOf s k = k + 1 := by
  have e := getD_byte s k h
  unfold tokAt endOf
  rw [e, if_neg hm, if_neg hm]; exact ⟨rfl, rfl⟩
theorem tok_word {s : ByteArray} {k : Nat} (h : k < s.size) (hm : markB (s[k]'h) = 0) : tokAt s k = wordTok (s.extract k (wordEnd s.data.toList k)) ∧ endOf s k = wordEnd s.data.toList k := by
  have e := getD_byte s k h
  unfold tokAt endOf
  rw [e, if_pos hm, if_pos hm]; exact ⟨rfl, rfl⟩
/-- Behind an append of one token. -/
theorem rel_next {B k : Nat} {s : ByteArray} {l : List Tok} {t : Tok} {w W w1 : World} {g cap g' cap' : Nat}
    (hown : W.ownsRow B 71 3 (.slice (some ⟨g, 0, none⟩) l.length cap) l.length (cellsOf l)) (hb : Below B w W) (hB : B ≤ W.heap.size)
    (hown' : w1.ownsRow B 71 3 (.slice (some ⟨g', 0, none⟩) (l.length + 1) cap') (l.length + 1) (cellsOf l ++ [.int .i64 t.kind, .int .i64 t.num, .string t.name])) (hgrow : W.grownBy w1 (Value.slice (some ⟨g, 0, none⟩) l.length cap).ownBlock)
    (hk : k < s.size) (ht : tokAt s k = some t) (hl : l.length < 120) (ho : Owed s k l) :
    w1.ownsRow B 71 3 (.slice (some ⟨g', 0, none⟩) (l.length + 1) cap') (l ++ [t]).length (cellsOf (l ++ [t])) ∧ Below B w w1 ∧ Owed s (skip s.data.toList (endOf s k)) (l ++ [t]) ∧ (l ++ [t]).length ≤ 120 := by
  refine ⟨?_, hb.grown hgrow hB (fun j hj => (hown.lt j hj).1), fun c a r h => ho c a r (.next hk ht hl h), by simp; omega⟩
  rw [cellsOf_append, List.length_append]
  exact hown'
theorem slice_str (s : ByteArray) (i j : Nat) (h1 : i ≤ j) (h2 : j ≤ s.size) (w : World) : (Instr.slice 9 (.string s) (some (.int .i64 (i : Int))) (some (.int .i64 (j : Int))) none).run Tryz.prog w = .ok (.string (s.extract i j)) w := by
  rw [run_slice_string (P := Tryz.prog) w 9 s .i64 .i64 i j Tryz.underlying9 (by omega) (by omega) (by omega)]; simp
theorem own3 {w : World} {base : Nat} {e : TypeId} {size g n cap b : Nat} {xs : List Value} {u0 u1 u2 : Value} {o1 o2 : Obj} (h : w.ownsRow base e size (.slice (some ⟨g, 0, none⟩) n cap) n xs) (hp : g ≠ b) :
    (((((w.setCell ⟨b, 0, none⟩ u0).setCell ⟨b, 1, none⟩ u1).setCell ⟨b, 2, none⟩ u2).alloc o1).alloc o2).ownsRow base e size (.slice (some ⟨g, 0, none⟩) n cap) n xs :=
  ((own_set (own_set (own_set h hp _) hp _) hp _).alloc _).alloc _
theorem below3 {w w0 : World} {B b : Nat} {u0 u1 u2 : Value} {o1 o2 : Obj} (h : Below B w0 w) (hb : B ≤ b) (hw : B ≤ w.heap.size) :
    Below B w0 (((((w.setCell ⟨b, 0, none⟩ u0).setCell ⟨b, 1, none⟩ u1).setCell ⟨b, 2, none⟩ u2).alloc o1).alloc o2) :=
  ((((h.setCell hb _).setCell hb _).setCell hb _).alloc (by simpa using hw) _).alloc (by simp; omega) _
theorem news3 {W : World} {b : Nat} {x y z : Value} {ty : TypeId} {fr : Nat × Nat} (h : W.heap[b]? = some (.cells #[x, y, z] ty fr)) : ∀ j u, [x, y, z][j]? = some u → W.cell? ((⟨b, 0, none⟩ : Addr).add j) = some u := by
  intro j u hj
  have ha : ∀ j, (⟨b, 0, none⟩ : Addr).add j = ⟨b, j, none⟩ := fun j => by unfold Addr.add; split <;> simp_all
  rw [ha, cell_of_row W b j _ ty fr h]
  match j, hj with
  | 0, hj => simpa using hj
  | 1, hj => simpa using hj
  | 2, hj => simpa using hj
set_option maxRecDepth 100000 in
set_option maxHeartbeats 2000000 in
theorem l2Tokens_any (s : ByteArray) (w : World) (hs : s.size ≤ 400) :
    Calls Tryz.prog 45 #[.string s] w fun e w' => TRes s w e w' := by
  have HK : Hid (∀ (a : Nat) w, a ≤ s.size → Calls Tryz.prog 76 #[.string s, .int .i64 a] w fun e w' => e = .returned (.int .i64 (skip s.data.toList a)) ∧ w' = w) := fun a w ha => skip_any s a w (by omega) ha
  have HE : Hid (∀ (a : Nat) w, a ≤ s.size → Calls Tryz.prog 78 #[.string s, .int .i64 a] w fun e w' => e = .returned (.int .i64 (wordEnd s.data.toList a)) ∧ w' = w) := fun a w ha => end_any s a w (by omega) ha
  obtain ⟨i0, hi, hz0, hz1, hz2⟩ := info_parts tokInfo
  go_enter Tryz.func45, Tryz.ntmps45
  go_wp2_with fail
  refine (HK.out 0 _ (Nat.zero_le _)).mono ?_
  rintro e w' ⟨rfl, rfl⟩
  go_wp2_with fail
  go_loopw [5, 6] (fun v i wr => ∃ (k : Nat) (l : List Tok) (g cap : Nat), k ≤ s.size ∧ i = .int .i64 k ∧ v = .slice (some ⟨g, 0, none⟩) l.length cap ∧ skip s.data.toList k = k ∧ l.length ≤ 120 ∧ wr.ownsRow w.heap.size 71 3 v l.length (cellsOf l) ∧ Below w.heap.size w wr ∧ Owed s k l) (fun _ i _ => s.size - (RowKit.intOf i).toNat)
  case atStart => exact ⟨skip s.data.toList 0, [], _, _, skip_le' s 0 (Nat.zero_le _), rfl, rfl, skip_idem _ _ 0 (Nat.le_refl _), Nat.zero_le _, World.ownsRow_made _ #[] 0 (Nat.le_refl _) (Nat.zero_le _) rfl, (Below.refl _ _).alloc (Nat.le_refl _) _, fun _ _ _ h => h⟩
  case round =>
    obtain ⟨k, l, g, cap, hk, rfl, rfl, hfix, hl, hown, hb, ho⟩ := hrel
    have HF : Hid (skip s.data.toList k = k) := hfix
    have HO : Hid (Owed s k l) := ho
    have HW : Hid (wr.ownsRow w.heap.size 71 3 (.slice (some ⟨g, 0, none⟩) l.length cap) l.length (cellsOf l)) := hown
    have HB : Hid (Below w.heap.size w wr) := hb
    have hz : w.heap.size ≤ wr.heap.size := hb.size
    clear hfix ho hown hb
    by_cases hlt : k < s.size
    · cases hm : markB (s[k]'hlt) == 0
      · have HT : Hid (tokAt s k = some ⟨markB (s[k]'hlt), 0, E0⟩ ∧ endOf s k = k + 1) := tok_mark hlt (by simpa using hm)
        by_cases h120 : 120 ≤ (l.length : Int)
        · have HR : Hid (∀ w', Below w.heap.size w w' → TRes s w (.returned (.tuple #[.slice none 0 0, .int .i64 2, .int .i64 k])) w') := fun w' hw' => ⟨_, _, _, [], rfl, HO.out _ _ _ (.many hlt HT.out.1 (by omega)), World.ownsRow_nil _ _ _ _, hw', Or.inr rfl⟩
          go_wp2_with (go_at_call 77; refine (mark_any _ _).mono ?_; rintro e w' ⟨rfl, rfl⟩)
          refine bodyPost_ret (v := .tuple #[.slice none 0 0, .int .i64 2, .int .i64 k]) (by simp [results, Tryz.results45, go_sem]) rfl (HR.out _ ?_)
          repeat (first | exact HB.out | refine Below.setCell ?_ (by first | exact hz | (simp; omega)) _ | refine Below.alloc ?_ (by first | exact hz | (simp; omega)) _)
        · have hl' : l.length < 120 := by omega
          have HK1 : Hid (∀ w, Calls Tryz.prog 76 #[.string s, .int .i64 ((k : Int) + 1)] w fun e w' => e = .returned (.int .i64 (skip s.data.toList (k + 1))) ∧ w' = w) := fun w => HK.out (k + 1) w (by omega)
          go_wp2_with (first | (go_at_call 77; refine (mark_any _ _).mono ?_; rintro e w' ⟨rfl, rfl⟩) | (at_builtin; refine wpList_append_lies _ rfl (.tmp 48) (.tmp 50) 48 rfl w.heap.size 71 i0 _ 3 32 Tryz.underlying48 hi hz0 hz1 hz2 rfl (by decide) _ l.length (cellsOf l) rfl ((HW.out.alloc _).alloc _) ⟨_, 0, none⟩ 1 1 [.int .i64 (markB (s[k]'hlt)), .int .i64 0, .string E0] rfl rfl ?c1 ?c2 (by decide) ?c3 ?c4 ?c5 _ rfl ?_))
          case c1 => exact news3 (heap_new' _ _ _ (by simp))
          case c2 => intro u hu; simp at hu; rcases hu with rfl | rfl | rfl <;> rfl
          case c3 => unfold maxLen; omega
          case c4 => omega
          case c5 => simp; omega
          intro g' cap' w1 hown1 hgrow1 _ _
          have R := rel_next (t := ⟨markB (s[k]'hlt), 0, E0⟩) ((HW.out.alloc _).alloc _) ((HB.out.alloc (by omega) _).alloc (by simp; omega) _) (by simp; omega) hown1 hgrow1 hlt HT.out.1 hl' HO.out
          rw [HT.out.2] at R
          have RR : Hid _ := R
          clear R hown1 hgrow1
          go_wp2_with (go_at_call 76; refine (HK1.out _).mono ?_; rintro e w2 ⟨rfl, rfl⟩)
          go_roundw
          case rel => exact ⟨_, l ++ [_], g', cap', skip_le' s (k + 1) (by omega), rfl, by simp, skip_idem _ _ _ (Nat.le_refl _), RR.out.2.2.2, RR.out.1, RR.out.2.1, RR.out.2.2.1⟩
          case measure =>
            have h1 : k + 1 ≤ skip s.data.toList (k + 1) := skip_ge s.data.toList s.data.toList.length (k + 1)
            generalize skip s.data.toList (k + 1) = q at h1 ⊢
            simp [RowKit.intOf]; omega
      · have hm0 : markB (s[k]'hlt) = 0 := by simpa using hm
        have HT : Hid (tokAt s k = wordTok (s.extract k (wordEnd s.data.toList k)) ∧ endOf s k = wordEnd s.data.toList k) := tok_word hlt hm0
        obtain ⟨q, hq⟩ : ∃ q, q = wordEnd s.data.toList k := ⟨_, rfl⟩
        have hq1 : k < q := by rw [hq]; exact wordEnd_gt _ k (by rw [len_bytes]; exact hlt) HF.out (by rw [getD_byte s k hlt]; exact hm0)
        have hq2 : q ≤ s.size := by rw [hq]; exact wordEnd_le s k (by omega)
        have HE1 : Hid (∀ w, Calls Tryz.prog 78 #[.string s, .int .i64 k] w fun e w' => e = .returned (.int .i64 q) ∧ w' = w) := fun w => by rw [hq]; exact HE.out k w (by omega)
        rw [← hq] at HT
        have hsl := slice_str s k q (by omega) hq2
        have HQ : Hid (q = wordEnd s.data.toList k) := hq
        clear hq
        have HX : Hid (∀ w, Calls Tryz.prog 79 #[.string (s.extract k q)] w fun e w' => (∃ t b, e = .returned (.tuple #[t.val, .bool b]) ∧ ((b = true ∧ tokAt s k = some t) ∨ (b = false ∧ tokAt s k = none))) ∧ Below w.heap.size w w') := fun w => by
          have := l2Word_any (s.extract k q) w (by rw [ByteArray.size_extract]; omega)
          rw [HT.out.1]; exact this
        go_wp2_with fail
        refine (mark_any _ _).mono ?_
        rintro e w' ⟨rfl, rfl⟩
        go_wp2_with fail
        refine (HE1.out _).mono ?_
        rintro e w' ⟨rfl, rfl⟩
        go_wp2_with fail
        refine (HX.out _).mono ?_
        rintro e wx ⟨⟨t, b, rfl, ht⟩, hx⟩
        have HY : Hid _ := ht
        clear ht
        obtain ⟨hc, hf⟩ := bcell hx
        have hzx : w'.heap.size < wx.heap.size := by have := hx.size; simp at this; omega
        cases b
        · have HN : Hid (tokAt s k = none) := by rcases HY.out with ⟨h, _⟩ | ⟨_, h⟩; cases h; exact h
          have HR : Hid (∀ w', Below w.heap.size w w' → TRes s w (.returned (.tuple #[.slice none 0 0, .int .i64 5, .int .i64 k])) w') := fun w' hw' => ⟨_, _, _, [], rfl, HO.out _ _ _ (.bad hlt HN.out), World.ownsRow_nil _ _ _ _, hw', Or.inr rfl⟩
          go_wp2
          refine bodyPost_ret (v := .tuple #[.slice none 0 0, .int .i64 5, .int .i64 k]) (by simp [results, Tryz.results45, go_sem]) rfl (HR.out _ ?_)
          repeat (first | exact HB.out | refine Below.trans ?_ (hx.mono (by simp; omega)) | refine Below.setCell ?_ (by first | exact hz | (simp; omega)) _ | refine Below.alloc ?_ (by first | exact hz | omega | (simp; omega)) _)
        · have HN : Hid (tokAt s k = some t) := by rcases HY.out with ⟨_, h⟩ | ⟨h, _⟩; exact h; cases h
          have hg : g < w'.heap.size := (HW.out.lt g rfl).2
          have HWx : Hid (wx.ownsRow w.heap.size 71 3 (.slice (some ⟨g, 0, none⟩) l.length cap) l.length (cellsOf l)) := own_below (HW.out.alloc _) hx
          have HBx : Hid (Below w.heap.size w wx) := (HB.out.alloc hz _).trans (hx.mono (by simp; omega))
          by_cases h120 : 120 ≤ (l.length : Int)
          · have HR : Hid (∀ w', Below w.heap.size w w' → TRes s w (.returned (.tuple #[.slice none 0 0, .int .i64 2, .int .i64 k])) w') := fun w' hw' => ⟨_, _, _, [], rfl, HO.out _ _ _ (.many hlt HN.out (by omega)), World.ownsRow_nil _ _ _ _, hw', Or.inr rfl⟩
            go_wp2
            refine bodyPost_ret (v := .tuple #[.slice none 0 0, .int .i64 2, .int .i64 k]) (by simp [results, Tryz.results45, go_sem]) rfl (HR.out _ ?_)
            repeat (first | exact HBx.out | refine Below.setCell ?_ (by first | exact hz | (simp; omega)) _ | refine Below.alloc ?_ (by first | exact hz | omega | (simp; omega)) _)
          · have hl' : l.length < 120 := by omega
            have HK1 : Hid (∀ w, Calls Tryz.prog 76 #[.string s, .int .i64 (q : Int)] w fun e w' => e = .returned (.int .i64 (skip s.data.toList q)) ∧ w' = w) := fun w => HK.out q w hq2
            go_wp2_with (first | (at_builtin; refine wpList_append_lies _ rfl (.tmp 48) (.tmp 50) 48 rfl w.heap.size 71 i0 _ 3 32 Tryz.underlying48 hi hz0 hz1 hz2 rfl (by decide) _ l.length (cellsOf l) rfl ?c0 ⟨_, 0, none⟩ 1 1 [.int .i64 t.kind, .int .i64 t.num, .string t.name] rfl rfl ?c1 ?c2 (by decide) ?c3 ?c4 ?c5 _ rfl ?_))
            case c0 => exact own3 HWx.out (by omega)
            case c1 => exact news3 (heap_new' _ _ _ (by simp))
            case c2 => intro u hu; simp at hu; rcases hu with rfl | rfl | rfl <;> rfl
            case c3 => unfold maxLen; omega
            case c4 => omega
            case c5 => simp; omega
            intro g' cap' w1 hown1 hgrow1 _ _
            have R := rel_next (t := t) (own3 HWx.out (by omega)) (below3 HBx.out hz (by omega)) (by simp; omega) hown1 hgrow1 hlt HN.out hl' HO.out
            rw [HT.out.2] at R
            have RR : Hid _ := R
            clear R hown1 hgrow1 hx hc hf
            go_wp2_with (go_at_call 76; refine (HK1.out _).mono ?_; rintro e w2 ⟨rfl, rfl⟩)
            go_roundw
            case rel => exact ⟨_, l ++ [_], g', cap', skip_le' s q hq2, rfl, by simp, skip_idem _ _ _ (Nat.le_refl _), RR.out.2.2.2, RR.out.1, RR.out.2.1, RR.out.2.2.1⟩
            case measure =>
              have h1 : q ≤ skip s.data.toList q := skip_ge s.data.toList s.data.toList.length q
              generalize skip s.data.toList q = q' at h1 ⊢
              simp [RowKit.intOf]; omega
    · have HR : Hid (∀ w', Below w.heap.size w w' → w'.ownsRow w.heap.size 71 3 (.slice (some ⟨g, 0, none⟩) l.length cap) l.length (cellsOf l) → TRes s w (.returned (.tuple #[.slice (some ⟨g, 0, none⟩) l.length cap, .int .i64 0, .int .i64 0])) w') := fun w' hw' h => ⟨_, _, _, l, rfl, HO.out _ _ _ (.stop hlt), h, hw', Or.inl rfl⟩
      go_wp2
      refine bodyPost_ret (v := .tuple #[.slice (some ⟨g, 0, none⟩) l.length cap, .int .i64 0, .int .i64 0]) (by simp [results, Tryz.results45, go_sem]) rfl (HR.out _ HB.out HW.out)
end Go.Proofs.YtoljpgpkeploiaaGreatDoor
