/-
  Parts of the proof laid into one text, one behind the other; each says at its head what is proved in it.
-/
import Derived.Test.YtoljpgpkeploiaaDoorSpecWord
import Derived.Test.YtoljpgpkeploiaaDoorImplSym
import Derived.Test.YtoljpgpkeploiaaDoorClone
import Derived.Test.YtoljpgpkeploiaaDoorSpecOf
import Derived.Deep.RegionLaw
import Derived.Deep.AppendLies
import Derived.ScopeJumps
import Derived.WalkMore
/-
  The program's readToken: what a text is as a token, or that it is none; nothing that was there is turned.
-/
namespace Go.Proofs.YtoljpgpkeploiaaDoor
open Go.RowKit Go.Extern.Stop Go.Stop Go.Extern Num Go.Lib

/-- A text as a token, marks among them. -/
def readTok (s : ByteArray) : Option Tok :=
  if s.data.toList = [40] then some ⟨1, 0, E0⟩ else if s.data.toList = [41] then some ⟨2, 0, E0⟩ else if s.data.toList = [39] then some ⟨3, 0, E0⟩ else wordTok s
theorem eq_list {s : ByteArray} {l : List UInt8} (h : s.data.toList = l) : (s.toList == l) = true := by
  rw [ByteArray.toList_eq, h]; simp
theorem readTok_40 (s : ByteArray) (w : World) (h : s.data.toList = [40]) :
    Calls Tryd.prog 111 #[.string s] w fun e w' => e = .returned (.tuple #[(⟨1, 0, E0⟩ : Tok).val, .bool true]) ∧ Below w.heap.size w w' := by
  have c := eq_list h
  clear h
  go_enter Tryd.func111, Tryd.ntmps111
  go_wp2
  exact bodyPost_ret (v := .tuple #[(⟨1, 0, E0⟩ : Tok).val, .bool true]) (by simp [results, Tryd.results111, go_sem]) rfl ⟨rfl, by
    repeat (first | exact Below.refl _ _ | refine Below.setCell ?_ (by simp) _ | refine Below.alloc ?_ (by simp <;> omega) _)⟩
theorem readTok_41 (s : ByteArray) (w : World) (h0 : s.data.toList ≠ [40]) (h : s.data.toList = [41]) :
    Calls Tryd.prog 111 #[.string s] w fun e w' => e = .returned (.tuple #[(⟨2, 0, E0⟩ : Tok).val, .bool true]) ∧ Below w.heap.size w w' := by
  have c0 := ne_list h0
  clear h0
  have c := eq_list h
  clear h
  go_enter Tryd.func111, Tryd.ntmps111
  go_wp2
  exact bodyPost_ret (v := .tuple #[(⟨2, 0, E0⟩ : Tok).val, .bool true]) (by simp [results, Tryd.results111, go_sem]) rfl ⟨rfl, by
    repeat (first | exact Below.refl _ _ | refine Below.setCell ?_ (by simp) _ | refine Below.alloc ?_ (by simp <;> omega) _)⟩
theorem readTok_39 (s : ByteArray) (w : World) (h0 : s.data.toList ≠ [40]) (h1 : s.data.toList ≠ [41]) (h : s.data.toList = [39]) :
    Calls Tryd.prog 111 #[.string s] w fun e w' => e = .returned (.tuple #[(⟨3, 0, E0⟩ : Tok).val, .bool true]) ∧ Below w.heap.size w w' := by
  have c0 := ne_list h0
  clear h0
  have c1 := ne_list h1
  clear h1
  have c := eq_list h
  clear h
  go_enter Tryd.func111, Tryd.ntmps111
  go_wp2
  exact bodyPost_ret (v := .tuple #[(⟨3, 0, E0⟩ : Tok).val, .bool true]) (by simp [results, Tryd.results111, go_sem]) rfl ⟨rfl, by
    repeat (first | exact Below.refl _ _ | refine Below.setCell ?_ (by simp) _ | refine Below.alloc ?_ (by simp <;> omega) _)⟩
theorem readTok_t (s : ByteArray) (w : World) (h0 : s.data.toList ≠ [40]) (h1 : s.data.toList ≠ [41]) (h2 : s.data.toList ≠ [39]) (h : s.data.toList = [35, 116]) :
    Calls Tryd.prog 111 #[.string s] w fun e w' => e = .returned (.tuple #[(⟨5, 1, E0⟩ : Tok).val, .bool true]) ∧ Below w.heap.size w w' := by
  have c0 := ne_list h0
  clear h0
  have c1 := ne_list h1
  clear h1
  have c2 := ne_list h2
  clear h2
  have c := eq_list h
  clear h
  go_enter Tryd.func111, Tryd.ntmps111
  go_wp2
  exact bodyPost_ret (v := .tuple #[(⟨5, 1, E0⟩ : Tok).val, .bool true]) (by simp [results, Tryd.results111, go_sem]) rfl ⟨rfl, by
    repeat (first | exact Below.refl _ _ | refine Below.setCell ?_ (by simp) _ | refine Below.alloc ?_ (by simp <;> omega) _)⟩
theorem readTok_f (s : ByteArray) (w : World) (h0 : s.data.toList ≠ [40]) (h1 : s.data.toList ≠ [41]) (h2 : s.data.toList ≠ [39]) (h3 : s.data.toList ≠ [35, 116]) (h : s.data.toList = [35, 102]) :
    Calls Tryd.prog 111 #[.string s] w fun e w' => e = .returned (.tuple #[(⟨5, 0, E0⟩ : Tok).val, .bool true]) ∧ Below w.heap.size w w' := by
  have c0 := ne_list h0
  clear h0
  have c1 := ne_list h1
  clear h1
  have c2 := ne_list h2
  clear h2
  have c3 := ne_list h3
  clear h3
  have c := eq_list h
  clear h
  go_enter Tryd.func111, Tryd.ntmps111
  go_wp2
  exact bodyPost_ret (v := .tuple #[(⟨5, 0, E0⟩ : Tok).val, .bool true]) (by simp [results, Tryd.results111, go_sem]) rfl ⟨rfl, by
    repeat (first | exact Below.refl _ _ | refine Below.setCell ?_ (by simp) _ | refine Below.alloc ?_ (by simp <;> omega) _)⟩
theorem readTok_num (s : ByteArray) (w : World) (h0 : s.data.toList ≠ [40]) (h1 : s.data.toList ≠ [41]) (h2 : s.data.toList ≠ [39]) (h3 : s.data.toList ≠ [35, 116]) (h4 : s.data.toList ≠ [35, 102]) (hL : LR w) {v : Int} (h : numOf s.data.toList = some v) :
    Calls Tryd.prog 111 #[.string s] w fun e w' => e = .returned (.tuple #[(⟨4, v, E0⟩ : Tok).val, .bool true]) ∧ Below w.heap.size w w' := by
  have c0 := ne_list h0
  clear h0
  have c1 := ne_list h1
  clear h1
  have c2 := ne_list h2
  clear h2
  have c3 := ne_list h3
  clear h3
  have c4 := ne_list h4
  clear h4
  have HP : Hid (∀ w, LR w → Calls Tryd.prog 119 #[.string s] w fun e w' => e = .returned (.tuple #[.int .i64 v, .nilIface]) ∧ Below w.heap.size w w') := fun w hL => read_good s w v (numOf_some h).1 (numOf_some h).2 hL
  clear h
  go_enter Tryd.func111, Tryd.ntmps111
  go_wp2_with (go_at_call 119; refine (HP.out _ (hL.alloc _)).mono ?_; rintro e w1 ⟨rfl, hq⟩; obtain ⟨hc, hf⟩ := bcell hq)
  exact bodyPost_ret (v := .tuple #[(⟨4, v, E0⟩ : Tok).val, .bool true]) (by simp [results, Tryd.results111, go_sem, hc]) rfl ⟨rfl, by
    repeat (first | exact Below.refl _ _ | refine Below.setCell ?_ (by simp) _ | refine Below.trans ?_ (hq.mono (by simp)) | refine Below.alloc ?_ (by simp <;> omega) _)⟩
theorem readTok_sym (s : ByteArray) (w : World) (hs : s.size ≤ 281474976710656) (h0 : s.data.toList ≠ [40]) (h1 : s.data.toList ≠ [41]) (h2 : s.data.toList ≠ [39]) (h3 : s.data.toList ≠ [35, 116]) (h4 : s.data.toList ≠ [35, 102]) (hL : LR w) (h : numOf s.data.toList = none) (hy : symL s.data.toList = true) :
    Calls Tryd.prog 111 #[.string s] w fun e w' => e = .returned (.tuple #[(⟨6, 0, s⟩ : Tok).val, .bool true]) ∧ Below w.heap.size w w' := by
  have c0 := ne_list h0
  clear h0
  have c1 := ne_list h1
  clear h1
  have c2 := ne_list h2
  clear h2
  have c3 := ne_list h3
  clear h3
  have c4 := ne_list h4
  clear h4
  have HP : Hid (∀ w, LR w → Calls Tryd.prog 119 #[.string s] w fun e w' => e = .returned (.tuple #[.int .i64 0, NN 5]) ∧ Below w.heap.size w w') := fun w hL => read_bad s w (by omega) (numOf_none h) hL
  have HS : Hid (∀ w, Calls Tryd.prog 117 #[.string s] w fun e w' => e = .returned (.bool true) ∧ w' = w) := fun w => by have := isSym_any s w (by omega); rwa [hy] at this
  clear h hy
  go_enter Tryd.func111, Tryd.ntmps111
  go_wp2_with fail
  refine (HP.out _ (hL.alloc _)).mono ?_
  rintro e w1 ⟨rfl, hq⟩
  obtain ⟨hc, hf⟩ := bcell hq
  have hz : w.heap.size < w1.heap.size := by have := hq.size; simp at this; omega
  go_wp2_with fail
  refine (HS.out _).mono ?_
  rintro e w2 ⟨rfl, rfl⟩
  go_wp2_with fail
  refine (clone_any _ _ hs).mono ?_
  rintro e w3 ⟨rfl, hq3⟩
  obtain ⟨hc3, hf3⟩ := bcell hq3
  go_wp2
  exact bodyPost_ret (v := .tuple #[(⟨6, 0, s⟩ : Tok).val, .bool true]) (by simp [results, Tryd.results111, go_sem, hc, hc3, hz]) rfl ⟨rfl, by
    repeat (first | exact Below.refl _ _ | refine Below.setCell ?_ (by simp) _ | refine Below.trans ?_ (hq3.mono (by omega)) | refine Below.trans ?_ (hq.mono (by simp)) | refine Below.alloc ?_ (by simp <;> omega) _)⟩
theorem readTok_no (s : ByteArray) (w : World) (hs : s.size ≤ 281474976710656) (h0 : s.data.toList ≠ [40]) (h1 : s.data.toList ≠ [41]) (h2 : s.data.toList ≠ [39]) (h3 : s.data.toList ≠ [35, 116]) (h4 : s.data.toList ≠ [35, 102]) (hL : LR w) (h : numOf s.data.toList = none) (hy : symL s.data.toList = false) :
    Calls Tryd.prog 111 #[.string s] w fun e w' => e = .returned (.tuple #[(⟨0, 0, E0⟩ : Tok).val, .bool false]) ∧ Below w.heap.size w w' := by
  have c0 := ne_list h0
  clear h0
  have c1 := ne_list h1
  clear h1
  have c2 := ne_list h2
  clear h2
  have c3 := ne_list h3
  clear h3
  have c4 := ne_list h4
  clear h4
  have HP : Hid (∀ w, LR w → Calls Tryd.prog 119 #[.string s] w fun e w' => e = .returned (.tuple #[.int .i64 0, NN 5]) ∧ Below w.heap.size w w') := fun w hL => read_bad s w (by omega) (numOf_none h) hL
  have HS : Hid (∀ w, Calls Tryd.prog 117 #[.string s] w fun e w' => e = .returned (.bool false) ∧ w' = w) := fun w => by have := isSym_any s w (by omega); rwa [hy] at this
  clear h hy
  go_enter Tryd.func111, Tryd.ntmps111
  go_wp2_with fail
  refine (HP.out _ (hL.alloc _)).mono ?_
  rintro e w1 ⟨rfl, hq⟩
  obtain ⟨hc, hf⟩ := bcell hq
  go_wp2_with fail
  refine (HS.out _).mono ?_
  rintro e w2 ⟨rfl, rfl⟩
  go_wp2
  exact bodyPost_ret (v := .tuple #[(⟨0, 0, E0⟩ : Tok).val, .bool false]) (by simp [results, Tryd.results111, go_sem, hc]) rfl ⟨rfl, by
    repeat (first | exact Below.refl _ _ | refine Below.setCell ?_ (by simp) _ | refine Below.trans ?_ (hq.mono (by simp)) | refine Below.alloc ?_ (by simp <;> omega) _)⟩
/-- A text as a token, or that it is none. -/
theorem readToken_any (s : ByteArray) (w : World) (hs : s.size ≤ 281474976710656) (hL : LR w) :
    Calls Tryd.prog 111 #[.string s] w fun e w' => (∃ t b, e = .returned (.tuple #[t.val, .bool b]) ∧ ((b = true ∧ readTok s = some t) ∨ (b = false ∧ readTok s = none))) ∧ Below w.heap.size w w' := by
  by_cases h0 : s.data.toList = [40]
  · exact (readTok_40 s w h0).mono fun e w' h => ⟨⟨_, _, h.1, Or.inl ⟨rfl, by unfold readTok; rw [if_pos h0]⟩⟩, h.2⟩
  · by_cases h1 : s.data.toList = [41]
    · exact (readTok_41 s w h0 h1).mono fun e w' h => ⟨⟨_, _, h.1, Or.inl ⟨rfl, by unfold readTok; rw [if_neg h0, if_pos h1]⟩⟩, h.2⟩
    · by_cases h2 : s.data.toList = [39]
      · exact (readTok_39 s w h0 h1 h2).mono fun e w' h => ⟨⟨_, _, h.1, Or.inl ⟨rfl, by unfold readTok; rw [if_neg h0, if_neg h1, if_pos h2]⟩⟩, h.2⟩
      · have er : readTok s = wordTok s := by unfold readTok; rw [if_neg h0, if_neg h1, if_neg h2]
        rw [er]
        by_cases h3 : s.data.toList = [35, 116]
        · exact (readTok_t s w h0 h1 h2 h3).mono fun e w' h => ⟨⟨_, _, h.1, Or.inl ⟨rfl, wordTok_t h3⟩⟩, h.2⟩
        · by_cases h4 : s.data.toList = [35, 102]
          · exact (readTok_f s w h0 h1 h2 h3 h4).mono fun e w' h => ⟨⟨_, _, h.1, Or.inl ⟨rfl, wordTok_f h4⟩⟩, h.2⟩
          · cases hn : numOf s.data.toList with
            | some v => exact (readTok_num s w h0 h1 h2 h3 h4 hL hn).mono fun e w' h => ⟨⟨_, _, h.1, Or.inl ⟨rfl, wordTok_num hn⟩⟩, h.2⟩
            | none =>
              have ew := wordTok_sym hn h3 h4
              cases hy : symL s.data.toList
              · exact (readTok_no s w hs h0 h1 h2 h3 h4 hL hn hy).mono fun e w' h => ⟨⟨_, _, h.1, Or.inr ⟨rfl, by rw [ew, hy]; rfl⟩⟩, h.2⟩
              · exact (readTok_sym s w hs h0 h1 h2 h3 h4 hL hn hy).mono fun e w' h => ⟨⟨_, _, h.1, Or.inl ⟨rfl, by rw [ew, hy]; rfl⟩⟩, h.2⟩
end Go.Proofs.YtoljpgpkeploiaaDoor
/-
  The program's byteKind and takeToken: what a byte is to the machine; a token behind the others, or the code; nothing below the variable of the tokens is turned.
-/
namespace Go.Proofs.YtoljpgpkeploiaaDoor
open Go.RowKit Go.Extern.Stop Go.Stop Go.Extern Num Go.Lib

/-- What a byte is to the machine. -/
def kindB (b : UInt8) : Int := if b = 32 then 1 else if b = 10 then 2 else if b = 59 then 3 else if markB b = 0 then 5 else 4
theorem mark_cases (b : UInt8) : markB b = 0 ↔ b ≠ 40 ∧ b ≠ 41 ∧ b ≠ 39 := by
  unfold markB
  split
  · simp_all
  · split
    · simp_all
    · split <;> simp_all
theorem kind_end (s : ByteArray) (k : Nat) (w : World) (hk : s.size ≤ k) :
    Calls Tryd.prog 92 #[.string s, .int .i64 (k : Int)] w fun e w' => e = .returned (.int .i64 0) ∧ w' = w := by
  go_enter Tryd.func92, Tryd.ntmps92
  go_wp2
  go_ret
  exact ⟨rfl, rfl⟩
theorem kind_at (s : ByteArray) (k : Nat) (w : World) (hk : k < s.size) :
    Calls Tryd.prog 92 #[.string s, .int .i64 (k : Int)] w fun e w' => e = .returned (.int .i64 (kindB (s[k]'hk))) ∧ w' = w := by
  cases c1 : (((s[k]'hk).toNat : Int) == 32)
  · have n1 : (s[k]'hk) ≠ 32 := byte_ne _ 32 (by omega) c1
    cases c2 : (((s[k]'hk).toNat : Int) == 10)
    · have n2 : (s[k]'hk) ≠ 10 := byte_ne _ 10 (by omega) c2
      cases c3 : (((s[k]'hk).toNat : Int) == 59)
      · have n3 : (s[k]'hk) ≠ 59 := byte_ne _ 59 (by omega) c3
        cases c4 : (((s[k]'hk).toNat : Int) == 40)
        · have n4 : (s[k]'hk) ≠ 40 := byte_ne _ 40 (by omega) c4
          cases c5 : (((s[k]'hk).toNat : Int) == 41)
          · have n5 : (s[k]'hk) ≠ 41 := byte_ne _ 41 (by omega) c5
            cases c6 : (((s[k]'hk).toNat : Int) == 39)
            · have n6 : (s[k]'hk) ≠ 39 := byte_ne _ 39 (by omega) c6
              have e : Hid (kindB (s[k]'hk) = 5) := by show kindB (s[k]'hk) = 5; unfold kindB; rw [if_neg n1, if_neg n2, if_neg n3, if_pos ((mark_cases _).2 ⟨n4, n5, n6⟩)]
              clear n1 n2 n3 n4 n5 n6
              go_enter Tryd.func92, Tryd.ntmps92
              go_wp2
              go_ret
              exact ⟨by rw [e.out]; rfl, rfl⟩
            · have n6 : (s[k]'hk) = 39 := byte_is _ 39 (by omega) c6
              have e : Hid (kindB (s[k]'hk) = 4) := by show kindB (s[k]'hk) = 4; rw [n6]; rfl
              clear n1 n2 n3 n4 n5 n6
              go_enter Tryd.func92, Tryd.ntmps92
              go_wp2
              go_ret
              exact ⟨by rw [e.out]; rfl, rfl⟩
          · have n6 : (s[k]'hk) = 41 := byte_is _ 41 (by omega) c5
            have e : Hid (kindB (s[k]'hk) = 4) := by show kindB (s[k]'hk) = 4; rw [n6]; rfl
            clear n1 n2 n3 n4 n6
            go_enter Tryd.func92, Tryd.ntmps92
            go_wp2
            go_ret
            exact ⟨by rw [e.out]; rfl, rfl⟩
        · have n6 : (s[k]'hk) = 40 := byte_is _ 40 (by omega) c4
          have e : Hid (kindB (s[k]'hk) = 4) := by show kindB (s[k]'hk) = 4; rw [n6]; rfl
          clear n1 n2 n3 n6
          go_enter Tryd.func92, Tryd.ntmps92
          go_wp2
          go_ret
          exact ⟨by rw [e.out]; rfl, rfl⟩
      · have n6 : (s[k]'hk) = 59 := byte_is _ 59 (by omega) c3
        have e : Hid (kindB (s[k]'hk) = 3) := by show kindB (s[k]'hk) = 3; rw [n6]; rfl
        clear n1 n2 n6
        go_enter Tryd.func92, Tryd.ntmps92
        go_wp2
        go_ret
        exact ⟨by rw [e.out]; rfl, rfl⟩
    · have n6 : (s[k]'hk) = 10 := byte_is _ 10 (by omega) c2
      have e : Hid (kindB (s[k]'hk) = 2) := by show kindB (s[k]'hk) = 2; rw [n6]; rfl
      clear n1 n6
      go_enter Tryd.func92, Tryd.ntmps92
      go_wp2
      go_ret
      exact ⟨by rw [e.out]; rfl, rfl⟩
  · have n6 : (s[k]'hk) = 32 := byte_is _ 32 (by omega) c1
    have e : Hid (kindB (s[k]'hk) = 1) := by show kindB (s[k]'hk) = 1; rw [n6]; rfl
    clear n6
    go_enter Tryd.func92, Tryd.ntmps92
    go_wp2
    go_ret
    exact ⟨by rw [e.out]; rfl, rfl⟩

theorem take_bad (s : ByteArray) (w : World) (p : Value) (hs : s.size ≤ 281474976710656) (hL : LR w) (ht : readTok s = none) :
    Calls Tryd.prog 93 #[p, .string s] w fun e w' => e = .returned (.int .i64 5) ∧ Below w.heap.size w w' := by
  have HX : Hid (∀ w, LR w → Calls Tryd.prog 111 #[.string s] w fun e w' => (∃ t : Tok, e = .returned (.tuple #[t.val, .bool false])) ∧ Below w.heap.size w w') := fun w hL => by
    refine (readToken_any s w hs hL).mono ?_
    rintro e w' ⟨⟨t, b, rfl, h⟩, hb⟩
    rcases h with ⟨_, h⟩ | ⟨rfl, _⟩
    · rw [ht] at h; cases h
    · exact ⟨⟨t, rfl⟩, hb⟩
  clear ht
  go_enter Tryd.func93, Tryd.ntmps93
  go_wp2_with (go_at_call 111; refine (HX.out _ hL).mono ?_; rintro e w1 ⟨⟨t, rfl⟩, hq⟩)
  go_ret
  refine ⟨rfl, ?_⟩
  have := hq.size
  repeat (first | exact hq | refine Below.setCell ?_ (by first | omega | (simp; omega)) _ | refine Below.alloc ?_ (by first | omega | (simp; omega)) _)
theorem take_many (s : ByteArray) (w : World) (b n cap : Nat) (ao : Option Addr) (hs : s.size ≤ 281474976710656) (hL : LR w) (hcell : w.cell? ⟨b, 0, none⟩ = some (.slice ao n cap)) (hn : n = 120) {t : Tok} (ht : readTok s = some t) :
    Calls Tryd.prog 93 #[.pointer (some ⟨b, 0, none⟩), .string s] w fun e w' => e = .returned (.int .i64 2) ∧ Below w.heap.size w w' := by
  subst hn
  have HX : Hid (∀ w, LR w → Calls Tryd.prog 111 #[.string s] w fun e w' => e = .returned (.tuple #[t.val, .bool true]) ∧ Below w.heap.size w w') := fun w hL => by
    refine (readToken_any s w hs hL).mono ?_
    rintro e w' ⟨⟨t', b, rfl, h⟩, hb⟩
    rcases h with ⟨rfl, h⟩ | ⟨_, h⟩
    · rw [ht] at h; obtain rfl := Option.some.inj h; exact ⟨rfl, hb⟩
    · rw [ht] at h; cases h
  clear ht
  have hbl := lt_of_cell hcell
  have hbl' : b < w.heap.size := hbl
  have HC : Hid (w.cell? ⟨b, 0, none⟩ = some (.slice ao 120 cap)) := hcell
  clear hcell hbl
  go_enter Tryd.func93, Tryd.ntmps93
  go_wp2_with fail
  refine (HX.out _ hL).mono ?_
  rintro e w1 ⟨rfl, hq⟩
  have hcx : w1.cell? ⟨b, 0, none⟩ = some (.slice ao 120 cap) := (hq.cell hbl').trans HC.out
  have hbx : b < w1.heap.size := by have := hq.size; omega
  go_wp2
  go_ret
  refine ⟨rfl, ?_⟩
  have := hq.size
  repeat (first | exact hq | refine Below.setCell ?_ (by first | omega | (simp; omega)) _ | refine Below.alloc ?_ (by first | omega | (simp; omega)) _)
theorem tok_news {W : World} {b : Nat} {t : Tok} {ty : TypeId} {fr : Nat × Nat} (h : W.heap[b]? = some (.cells #[.int .i64 t.kind, .int .i64 t.num, .string t.name] ty fr)) : ∀ j u, [Value.int .i64 t.kind, .int .i64 t.num, .string t.name][j]? = some u → W.cell? ((⟨b, 0, none⟩ : Addr).add j) = some u := news3 h
theorem own_drew {w : World} {base : Nat} {e : TypeId} {size n : Nat} {v : Value} {xs : List Value} (h : w.ownsRow base e size v n xs) : w.drew.ownsRow base e size v n xs := h
theorem take_end {w W w1 : World} {b base cap gg cap' : Nat} {ao : Option Addr} {l : List Tok} {t : Tok} (hb : b < base) (hbw : b ≤ w.heap.size)
    (hag : ∀ g, (Value.slice ao l.length cap).ownBlock = some g → base ≤ g ∧ g < w.heap.size)
    (hown1 : w1.ownsRow base 74 3 (.slice (some ⟨gg, 0, none⟩) (l.length + 1) cap') (l.length + 1) (cellsOf l ++ [.int .i64 t.kind, .int .i64 t.num, .string t.name])) (hgrow : W.grownBy w1 (Value.slice ao l.length cap).ownBlock)
    (hB : Below b w W) (hW : b ≤ W.heap.size) {old : Value} (hcb : w1.cell? ⟨b, 0, none⟩ = some old) (hfb : w1.frozen? ⟨b, 0, none⟩ = false) :
    (w1.setCell ⟨b, 0, none⟩ (.slice (some ⟨gg, 0, none⟩) (l.length + 1) cap')).cell? ⟨b, 0, none⟩ = some (.slice (some ⟨gg, 0, none⟩) (l.length + 1) cap') ∧ (w1.setCell ⟨b, 0, none⟩ (.slice (some ⟨gg, 0, none⟩) (l.length + 1) cap')).frozen? ⟨b, 0, none⟩ = false ∧
      (w1.setCell ⟨b, 0, none⟩ (.slice (some ⟨gg, 0, none⟩) (l.length + 1) cap')).ownsRow base 74 3 (.slice (some ⟨gg, 0, none⟩) (l.length + 1) cap') (l.length + 1) (cellsOf (l ++ [t])) ∧ Below b w (w1.setCell ⟨b, 0, none⟩ (.slice (some ⟨gg, 0, none⟩) (l.length + 1) cap')) := by
  have _ := hbw
  refine ⟨World.cell?_setCell_same _ _ _ hcb, (World.frozen?_setCell _ _ _ _).trans hfb, ?_, (hB.grown hgrow hW (fun k hk => by have := (hag k hk).1; omega)).setCell (Nat.le_refl _) _⟩
  rw [cellsOf_append]
  exact own_set_low hown1 hb _
set_option maxRecDepth 100000 in
set_option maxHeartbeats 2000000 in
theorem take_next (s : ByteArray) (w : World) (b base cap : Nat) (ao : Option Addr) (l : List Tok) (hs : s.size ≤ 281474976710656) (hL : LR w) (hcell : w.cell? ⟨b, 0, none⟩ = some (.slice ao l.length cap)) (hfz : w.frozen? ⟨b, 0, none⟩ = false)
    (hown : w.ownsRow base 74 3 (.slice ao l.length cap) l.length (cellsOf l)) (hb : b < base) (hbase : base ≤ w.heap.size) (hl : l.length < 120) {t : Tok} (ht : readTok s = some t) :
    Calls Tryd.prog 93 #[.pointer (some ⟨b, 0, none⟩), .string s] w fun e w' => e = .returned (.int .i64 0) ∧ ∃ g cap', w'.cell? ⟨b, 0, none⟩ = some (.slice (some ⟨g, 0, none⟩) (l.length + 1) cap') ∧ w'.frozen? ⟨b, 0, none⟩ = false ∧
      w'.ownsRow base 74 3 (.slice (some ⟨g, 0, none⟩) (l.length + 1) cap') (l.length + 1) (cellsOf (l ++ [t])) ∧ Below b w w' := by
  have HX : Hid (∀ w, LR w → Calls Tryd.prog 111 #[.string s] w fun e w' => e = .returned (.tuple #[t.val, .bool true]) ∧ Below w.heap.size w w') := fun w hL => by
    refine (readToken_any s w hs hL).mono ?_
    rintro e w' ⟨⟨t', b, rfl, h⟩, hb⟩
    rcases h with ⟨rfl, h⟩ | ⟨_, h⟩
    · rw [ht] at h; obtain rfl := Option.some.inj h; exact ⟨rfl, hb⟩
    · rw [ht] at h; cases h
  clear ht
  have hbl : b < w.heap.size := lt_of_cell hcell
  have hag : ∀ g, (Value.slice ao l.length cap).ownBlock = some g → base ≤ g ∧ g < w.heap.size := hown.lt
  have HC : Hid (w.cell? ⟨b, 0, none⟩ = some (.slice ao l.length cap)) := hcell
  have HF : Hid (w.frozen? ⟨b, 0, none⟩ = false) := hfz
  have HO : Hid (w.ownsRow base 74 3 (.slice ao l.length cap) l.length (cellsOf l)) := hown
  clear hcell hfz hown
  obtain ⟨i0, hi, hz0, hz1, hz2⟩ := info_parts tokInfo
  go_enter Tryd.func93, Tryd.ntmps93
  go_wp2_with fail
  refine (HX.out _ hL).mono ?_
  rintro e wx ⟨rfl, hq⟩
  have hcx : wx.cell? ⟨b, 0, none⟩ = some (.slice ao l.length cap) := (hq.cell hbl).trans HC.out
  have hfx : wx.frozen? ⟨b, 0, none⟩ = false := (hq.frozen hbl).trans HF.out
  have HOx : Hid (wx.ownsRow base 74 3 (.slice ao l.length cap) l.length (cellsOf l)) := own_below HO.out hq
  have hzx : w.heap.size ≤ wx.heap.size := hq.size
  have hbx : b < wx.heap.size := by omega
  have hf0 : ∀ o, (wx.alloc o).frozen? ⟨b, 0, none⟩ = false := fun o => (World.frozen?_alloc_past _ _ _ hbx).trans hfx
  have hf2 : ∀ o o', ((wx.alloc o).alloc o').drew.frozen? ⟨b, 0, none⟩ = false := fun o o' => (World.frozen?_alloc_past _ _ _ (by simp; omega)).trans (hf0 o)
  have hc2 : ∀ o o', ((wx.alloc o).alloc o').drew.cell? ⟨b, 0, none⟩ = some (.slice ao l.length cap) := fun o o' => (World.cell?_alloc_past _ _ _ (by simp; omega)).trans ((World.cell?_alloc_past _ _ _ hbx).trans hcx)
  go_wp2_with fail
  go_region_law
    ((refine step_append_lies _ (by rfl) _ _ _ (by rfl) base 74 i0 _ 3 32 Tryd.underlying57 hi hz0 hz1 hz2 rfl (by omega) _ l.length (cellsOf l) (by rfl) (by repeat (first | exact HOx.out | refine World.ownsRow.alloc ?_ _ | refine own_drew ?_))
        ⟨_, 0, none⟩ 1 1 [.int .i64 t.kind, .int .i64 t.num, .string t.name] (by rfl) (by rfl) (tok_news (heap_new' _ _ _ (by simp))) (by simp [Value.oneCell'])
        (by omega) (by unfold maxLen; omega) (by omega) (by simp; omega) _ rfl ?_; intro gg cap' w1 hown1 hgrow hat hlt; have hcb : w1.cell? ⟨b, 0, none⟩ = some (.slice ao l.length cap) := (hgrow.cell_far ⟨b, 0, none⟩ (by simp; omega) (by intro h; have := hag b h.symm; omega)).trans (hc2 _ _); have hfb : w1.frozen? ⟨b, 0, none⟩ = false := (hgrow.frozen_far ⟨b, 0, none⟩ (by simp; omega) (by intro h; have := hag b h.symm; omega)).trans (hf2 _ _)))
  all_goals
    have R := take_end (t := t) hb (by omega) hag hown1 hgrow (show Below b w _ from by repeat (first | exact hq.mono (by omega) | refine Below.drew ?_ | refine Below.alloc ?_ (by first | omega | (simp; omega)) _)) (by simp; omega) hcb hfb
    have RR : Hid _ := R
    clear R hown1 hgrow
    go_wp2
    go_ret
    exact ⟨rfl, _, _, RR.out⟩
end Go.Proofs.YtoljpgpkeploiaaDoor
/-
  A scope in which the run jumps to several labels: what holds at every jump, and a measure that every pass from a label lowers; after the library's law for one label. No program in it.
-/
namespace Go.Proofs.YtoljpgpkeploiaaDoor
open Go

/-- As Q; by a goto to label l: J l. -/
def jumps (J : Nat → Act → World → Prop) (Q : Exit → Act → World → Prop) : Exit → Act → World → Prop
  | .goto l, a, w => J l a w
  | e, a, w => Q e a w
theorem wp_scope_gotos {P : Program} {a : Act} {w : World} {Q : Exit → Act → World → Prop} {c : Code} (J : Nat → Act → World → Prop) (μ : Nat → Act → World → Nat)
    (first : c.wp P (jumps J Q) a w)
    (pass : ∀ l a w, J l a w → ∃ rest, findLabel c l = some rest ∧ rest.wp P (jumps (fun l' a' w' => J l' a' w' ∧ μ l' a' w' < μ l a w) Q) a w) : (Code.scope c).wp P Q a w := by
  intro b k cs
  have key : ∀ n l a w, μ l a w = n → J l a w → ∀ rest, findLabel c l = some rest → ∃ e a' w', Q e a' w' ∧ Arrives P (lone (b.at a (.code rest :: .inScope c :: k)) cs w) b k cs e a' w' := by
    intro n
    induction n using Nat.strongRecOn with
    | _ n ih =>
      intro l a w hn hJ rest hrest
      obtain ⟨rest', hr', hp⟩ := pass l a w hJ
      rw [hrest] at hr'
      obtain rfl := Option.some.inj hr'
      obtain ⟨e, a₁, w₁, hq, harr⟩ := hp b (.inScope c :: k) cs
      cases e with
      | normal => exact ⟨.normal, a₁, w₁, hq, Steps.trans harr (.one step_inScope)⟩
      | exit id => exact ⟨.exit id, a₁, w₁, hq, fun k' hk => harr k' (by simp [exitTo, hk])⟩
      | goto l' =>
        obtain ⟨hJ', hlt⟩ := hq
        obtain ⟨rest2, hr2, _⟩ := pass l' a₁ w₁ hJ'
        have hg : gotoIn l' (.inScope c :: k) = some (.code rest2 :: .inScope c :: k) := by simp [gotoIn, hr2]
        obtain ⟨e₂, a₂, w₂, hq₂, harr₂⟩ := ih _ (by omega) l' a₁ w₁ rfl hJ' rest2 hr2
        exact ⟨e₂, a₂, w₂, hq₂, .of_steps (harr _ hg) harr₂⟩
      | ret => exact ⟨_, a₁, w₁, hq, harr⟩
      | panic ch => exact ⟨_, a₁, w₁, hq, harr⟩
      | outgrown => exact ⟨_, a₁, w₁, hq, harr⟩
  obtain ⟨e, a₁, w₁, hq, harr⟩ := first b (.inScope c :: k) cs
  cases e with
  | normal => exact ⟨.normal, a₁, w₁, hq, .head step_scope (Steps.trans harr (.one step_inScope))⟩
  | exit id => exact ⟨.exit id, a₁, w₁, hq, fun k' hk => .head step_scope (harr k' (by simp [exitTo, hk]))⟩
  | goto l' =>
    have hJ' : J l' a₁ w₁ := hq
    obtain ⟨rest2, hr2, _⟩ := pass l' a₁ w₁ hJ'
    have hg : gotoIn l' (.inScope c :: k) = some (.code rest2 :: .inScope c :: k) := by simp [gotoIn, hr2]
    obtain ⟨e₂, a₂, w₂, hq₂, harr₂⟩ := key _ l' a₁ w₁ rfl hJ' rest2 hr2
    exact ⟨e₂, a₂, w₂, hq₂, .of_steps (.head step_scope (harr _ hg)) harr₂⟩
  | ret => exact ⟨_, a₁, w₁, hq, .of_steps (.one step_scope) harr⟩
  | panic ch => exact ⟨_, a₁, w₁, hq, .of_steps (.one step_scope) harr⟩
  | outgrown => exact ⟨_, a₁, w₁, hq, .of_steps (.one step_scope) harr⟩
end Go.Proofs.YtoljpgpkeploiaaDoor
/-
  The program's cutTokens, TokensOf and SpotOf: the machine with goto finds the tokens of a text, or the code and the place of the first fault; nothing that was there is turned.
-/
namespace Go.Proofs.YtoljpgpkeploiaaDoor
open Go.RowKit Go.Extern.Stop Go.Stop Go.Extern Num Go.Lib

/-- What the memory is like at a jump: the tokens that were found lie behind their variable. -/
structure Mem (B : Nat) (W w : World) (l : List Tok) : Prop where
  own : ∃ ao cap, w.cell? ⟨B + 1, 0, none⟩ = some (.slice ao l.length cap) ∧ w.ownsRow (B + 2) 74 3 (.slice ao l.length cap) l.length (cellsOf l)
  fz : w.frozen? ⟨B + 1, 0, none⟩ = false
  low : Below (B + 1) W w
  size : B + 2 ≤ w.heap.size
  many : l.length ≤ 120
/-- What is known at each label: 0 between, 1 done, 2 remark, 3 token, 4 word. -/
def At (s : ByteArray) (l : List Tok) : Nat → Nat → Nat → Prop
  | 0, _, e => e ≤ s.size ∧ Owed s (skip s.data.toList e) l
  | 1, _, _ => Cut s (skip s.data.toList 0) [] 0 0 l
  | 2, x, e => e ≤ s.size ∧ x ≤ e ∧ (x = e → e < s.size ∧ s.data.toList.getD e 0 = 59) ∧ Owed s (skip s.data.toList (lineEnd s.data.toList s.data.toList.length e)) l
  | 3, x, e => x < s.size ∧ e = endOf s x ∧ x < e ∧ e ≤ s.size ∧ skip s.data.toList x = x ∧ Owed s x l
  | 4, x, e => x < s.size ∧ x < e ∧ e ≤ s.size ∧ wordEnd s.data.toList e = wordEnd s.data.toList x ∧ markB (s.data.toList.getD x 0) = 0 ∧ skip s.data.toList x = x ∧ Owed s x l
  | _, _, _ => False
def fr (s : ByteArray) (B x e : Nat) (u1 u6 u7 u8 u9 u10 u11 u12 u13 u14 u15 u16 u17 u18 u19 u20 u21 u22 u23 u24 u25 u26 u27 u28 u29 u30 u31 u32 u33 u34 u35 u36 u37 u38 u39 u40 u41 u42 u43 u44 u45 u46 u47 u48 u49 u50 u51 u52 u53 : Value) : Act := { tmps := #[.string s, u1, .pointer (some ⟨B, 0, none⟩), .pointer (some ⟨B + 1, 0, none⟩), .int .i64 (x : Int), .int .i64 (e : Int), u6, u7, u8, u9, u10, u11, u12, u13, u14, u15, u16, u17, u18, u19, u20, u21, u22, u23, u24, u25, u26, u27, u28, u29, u30, u31, u32, u33, u34, u35, u36, u37, u38, u39, u40, u41, u42, u43, u44, u45, u46, u47, u48, u49, u50, u51, u52, u53], defers := [] }
def JJ (s : ByteArray) (B : Nat) (W : World) (k : Nat) (a : Act) (w : World) : Prop :=
  ∃ (x e : Nat) (u1 u6 u7 u8 u9 u10 u11 u12 u13 u14 u15 u16 u17 u18 u19 u20 u21 u22 u23 u24 u25 u26 u27 u28 u29 u30 u31 u32 u33 u34 u35 u36 u37 u38 u39 u40 u41 u42 u43 u44 u45 u46 u47 u48 u49 u50 u51 u52 u53 : Value) (l : List Tok), a = fr s B x e u1 u6 u7 u8 u9 u10 u11 u12 u13 u14 u15 u16 u17 u18 u19 u20 u21 u22 u23 u24 u25 u26 u27 u28 u29 u30 u31 u32 u33 u34 u35 u36 u37 u38 u39 u40 u41 u42 u43 u44 u45 u46 u47 u48 u49 u50 u51 u52 u53 ∧ Mem B W w l ∧ At s l k x e
def mu (s : ByteArray) (k : Nat) (a : Act) (_ : World) : Nat :=
  let x := (RowKit.intOf (a.tmps.getD 4 undef)).toNat
  let e := (RowKit.intOf (a.tmps.getD 5 undef)).toNat
  if k = 0 then 4 * (s.size - e) + 2 else if k = 1 then 0 else if k = 2 then (if x = e then 4 * (s.size - e) + 1 else 4 * (s.size - e) + 3) else 4 * (s.size - e) + 3
theorem extract_one (s : ByteArray) (k : Nat) (h : k < s.size) : (s.extract k (k + 1)).data.toList = [s[k]'h] := by
  rw [ByteArray.data_extract]
  have hk : k < s.data.size := h
  rw [Array.toList_extract, List.extract_eq_take_drop]
  have hl : k < s.data.toList.length := by rw [Array.length_toList]; exact h
  rw [List.drop_eq_getElem_cons hl, show k + 1 - k = 1 by omega]
  rfl
theorem extract_head (s : ByteArray) (k q : Nat) (h : k < s.size) (hq : k < q) : ∃ r, (s.extract k q).data.toList = (s[k]'h) :: r := by
  rw [ByteArray.data_extract, Array.toList_extract, List.extract_eq_take_drop]
  have hl : k < s.data.toList.length := by rw [Array.length_toList]; exact h
  rw [List.drop_eq_getElem_cons hl, show q - k = (q - k - 1) + 1 by omega, List.take_succ_cons]
  exact ⟨_, rfl⟩
theorem readTok_at (s : ByteArray) (x : Nat) (h : x < s.size) (hf : skip s.data.toList x = x) : readTok (s.extract x (endOf s x)) = tokAt s x := by
  have eg := getD_byte s x h
  by_cases hm : markB (s[x]'h) = 0
  · have e1 := (tok_word h hm).1
    have e2 := (tok_word h hm).2
    have hgt := endOf_gt s x h hf
    obtain ⟨r, hr⟩ := extract_head s x (endOf s x) h hgt
    have hne := (mark_cases _).1 hm
    rw [e2] at hr ⊢
    rw [e1]
    unfold readTok
    rw [hr, if_neg (by simp; intro h1; exact absurd h1 hne.1), if_neg (by simp; intro h1; exact absurd h1 hne.2.1), if_neg (by simp; intro h1; exact absurd h1 hne.2.2)]
  · have e1 := (tok_mark h hm).1
    have e2 := (tok_mark h hm).2
    rw [e1, e2]
    have ho := extract_one s x h
    unfold readTok
    rw [ho]
    unfold markB at hm ⊢
    by_cases h1 : (s[x]'h) = 40
    · rw [h1]; rfl
    · by_cases h2 : (s[x]'h) = 41
      · rw [h2]; rfl
      · by_cases h3 : (s[x]'h) = 39
        · rw [h3]; rfl
        · simp [h1, h2, h3] at hm
theorem kind_of {s : ByteArray} {e : Nat} {v : Int} (he : e < s.size) (h : kindB (s[e]'he) = v) (w : World) :
    Calls Tryd.prog 92 #[.string s, .int .i64 (e : Int)] w fun r w' => r = .returned (.int .i64 v) ∧ w' = w := by
  rw [← h]; exact kind_at s e w he
theorem kind_done {s : ByteArray} {e : Nat} (he : ¬ e < s.size) (w : World) :
    Calls Tryd.prog 92 #[.string s, .int .i64 (e : Int)] w fun r w' => r = .returned (.int .i64 0) ∧ w' = w := kind_end s e w (by omega)
theorem mem_lr {B : Nat} {w W wr : World} {l : List Tok} (hL : LR w) (hB : B = w.heap.size) (hW : Below w.heap.size w W) (h : Mem B W wr l) : LR wr :=
  hL.below (hW.trans (h.low.mono (by omega)))
/-- What follows from where the machine is: the next place, by what is there. -/
theorem at_stop {s : ByteArray} {l : List Tok} {e : Nat} (h : Owed s (skip s.data.toList e) l) (he : ¬ e < s.size) : At s l 1 e e := by
  refine h _ _ _ ?_
  rw [skip_end _ e (by rw [len_bytes]; exact he)]
  exact .stop he
theorem at_blank {s : ByteArray} {l : List Tok} {e : Nat} (h : Owed s (skip s.data.toList e) l) (he : e < s.size) (hb : (s[e]'he) = 32 ∨ (s[e]'he) = 10) : At s l 0 e (e + 1) := by
  refine ⟨by omega, ?_⟩
  rw [← skip_on s.data.toList e (by rw [len_bytes]; exact he) (by rw [getD_byte s e he]; rcases hb with h | h <;> (rw [h]; decide)) (by rw [getD_byte s e he]; rcases hb with h | h <;> simp [h])]
  exact h
theorem at_note {s : ByteArray} {l : List Tok} {e : Nat} (h : Owed s (skip s.data.toList e) l) (he : e < s.size) (hb : (s[e]'he) = 59) : At s l 2 e e := by
  refine ⟨by omega, by omega, fun _ => ⟨he, by rw [getD_byte s e he]; exact hb⟩, ?_⟩
  rw [← skip_note s.data.toList e (by rw [len_bytes]; exact he) (by rw [getD_byte s e he]; exact hb)]
  exact h
theorem kind_cases {s : ByteArray} {e : Nat} (he : e < s.size) : (kindB (s[e]'he) = 1 ∧ ((s[e]'he) = 32 ∨ (s[e]'he) = 10)) ∨ (kindB (s[e]'he) = 2 ∧ ((s[e]'he) = 32 ∨ (s[e]'he) = 10)) ∨ (kindB (s[e]'he) = 3 ∧ (s[e]'he) = 59) ∨
    (kindB (s[e]'he) = 4 ∧ markB (s[e]'he) ≠ 0 ∧ (s[e]'he) ≠ 59 ∧ (s[e]'he) ≠ 32 ∧ (s[e]'he) ≠ 10) ∨ (kindB (s[e]'he) = 5 ∧ markB (s[e]'he) = 0 ∧ (s[e]'he) ≠ 59 ∧ (s[e]'he) ≠ 32 ∧ (s[e]'he) ≠ 10) := by
  unfold kindB
  by_cases h1 : (s[e]'he) = 32
  · exact Or.inl ⟨by rw [if_pos h1], Or.inl h1⟩
  · by_cases h2 : (s[e]'he) = 10
    · exact Or.inr (Or.inl ⟨by rw [if_neg h1, if_pos h2], Or.inr h2⟩)
    · by_cases h3 : (s[e]'he) = 59
      · exact Or.inr (Or.inr (Or.inl ⟨by rw [if_neg h1, if_neg h2, if_pos h3], h3⟩))
      · by_cases h4 : markB (s[e]'he) = 0
        · exact Or.inr (Or.inr (Or.inr (Or.inr ⟨by rw [if_neg h1, if_neg h2, if_neg h3, if_pos h4], h4, h3, h1, h2⟩)))
        · exact Or.inr (Or.inr (Or.inr (Or.inl ⟨by rw [if_neg h1, if_neg h2, if_neg h3, if_neg h4], h4, h3, h1, h2⟩)))
theorem kind_two {s : ByteArray} {e : Nat} (he : e < s.size) (h : kindB (s[e]'he) = 2) : (s[e]'he) = 10 := by
  rcases kind_cases he with ⟨hk, _⟩ | ⟨_, hb⟩ | ⟨hk, _⟩ | ⟨hk, _⟩ | ⟨hk, _⟩
  · rw [hk] at h; cases h
  · rcases hb with hb | hb
    · exfalso; rw [hb] at h; revert h; decide
    · exact hb
  · rw [hk] at h; cases h
  · rw [hk] at h; cases h
  · rw [hk] at h; cases h
theorem kind_not {s : ByteArray} {e : Nat} (he : e < s.size) (v : Int) (h : kindB (s[e]'he) = v) (hv : v ≠ 2) : (s[e]'he) ≠ 10 := by
  intro h10; rw [h10] at h; exact hv (h.symm.trans (by decide))
theorem kind_off {s : ByteArray} {e : Nat} (he : e < s.size) (v : Int) (h : kindB (s[e]'he) = v) (hv : v ≠ 5) : ¬ onB (s[e]'he) = true := by
  intro hn
  unfold onB at hn
  simp only [Bool.and_eq_true, bne_iff_ne, beq_iff_eq] at hn
  apply hv; rw [← h]; unfold kindB
  rw [if_neg hn.1, if_neg hn.2.1, if_neg hn.2.2.1, if_pos hn.2.2.2]
theorem fix_here {s : ByteArray} {e : Nat} (he : e < s.size) (h : (s[e]'he) ≠ 59 ∧ (s[e]'he) ≠ 32 ∧ (s[e]'he) ≠ 10) : skip s.data.toList e = e :=
  skip_word _ e (by rw [len_bytes]; exact he) (by rw [getD_byte s e he]; exact h.1) (by rw [getD_byte s e he]; exact h.2)
theorem at_mark {s : ByteArray} {l : List Tok} {e : Nat} (h : Owed s (skip s.data.toList e) l) (he : e < s.size) (hm : markB (s[e]'he) ≠ 0) (hb : (s[e]'he) ≠ 59 ∧ (s[e]'he) ≠ 32 ∧ (s[e]'he) ≠ 10) : At s l 3 e (e + 1) := by
  have hf := fix_here he hb
  rw [hf] at h
  exact ⟨he, (tok_mark he hm).2.symm, by omega, by omega, hf, h⟩
theorem at_word {s : ByteArray} {l : List Tok} {e : Nat} (h : Owed s (skip s.data.toList e) l) (he : e < s.size) (hm : markB (s[e]'he) = 0) (hb : (s[e]'he) ≠ 59 ∧ (s[e]'he) ≠ 32 ∧ (s[e]'he) ≠ 10) : At s l 4 e (e + 1) := by
  have hf := fix_here he hb
  rw [hf] at h
  refine ⟨he, by omega, by omega, ?_, by rw [getD_byte s e he]; exact hm, hf, h⟩
  exact (wordEnd_on _ e (by rw [len_bytes]; exact he) (by rw [getD_byte s e he]; exact onB_of _ hb hm)).symm
theorem at_on {s : ByteArray} {l : List Tok} {x e : Nat} (h : At s l 4 x e) (he : e < s.size) (hm : markB (s[e]'he) = 0) (hb : (s[e]'he) ≠ 59 ∧ (s[e]'he) ≠ 32 ∧ (s[e]'he) ≠ 10) : At s l 4 x (e + 1) := by
  obtain ⟨h1, h2, h3, h4, h5, h6, h7⟩ := h
  refine ⟨h1, by omega, by omega, ?_, h5, h6, h7⟩
  rw [← h4]
  exact (wordEnd_on _ e (by rw [len_bytes]; exact he) (by rw [getD_byte s e he]; exact onB_of _ hb hm)).symm
theorem at_end {s : ByteArray} {l : List Tok} {x e : Nat} (h : At s l 4 x e) (hn : ¬ (e < s.size ∧ onB (s.data.toList.getD e 0) = true)) : At s l 3 x e := by
  obtain ⟨h1, h2, h3, h4, h5, h6, h7⟩ := h
  refine ⟨h1, ?_, h2, h3, h6, h7⟩
  unfold endOf
  rw [if_pos h5, ← h4]
  exact (wordEnd_here _ e (by rw [len_bytes]; exact hn)).symm
theorem at_more {s : ByteArray} {l : List Tok} {x e : Nat} (h : At s l 2 x e) (he : e < s.size) (hb : (s[e]'he) ≠ 10) : At s l 2 x (e + 1) := by
  obtain ⟨h1, h2, h3, h4⟩ := h
  refine ⟨by omega, by omega, fun h => by omega, ?_⟩
  rw [← lineEnd_on _ e (by rw [len_bytes]; exact he) (by rw [getD_byte s e he]; exact hb)]
  exact h4
theorem at_feed {s : ByteArray} {l : List Tok} {x e : Nat} (h : At s l 2 x e) (hn : ¬ (e < s.size ∧ s.data.toList.getD e 0 ≠ 10)) : At s l 0 x e ∧ x < e := by
  obtain ⟨h1, h2, h3, h4⟩ := h
  have hne : x ≠ e := fun h => hn ⟨(h3 h).1, by rw [(h3 h).2]; decide⟩
  refine ⟨⟨h1, ?_⟩, by omega⟩
  rw [lineEnd_here _ e (by rw [len_bytes]; exact hn)] at h4
  exact h4
theorem at_tok {s : ByteArray} {l : List Tok} {x e : Nat} (h : At s l 3 x e) {t : Tok} (ht : tokAt s x = some t) (hl : l.length < 120) : At s (l ++ [t]) 0 x e := by
  obtain ⟨h1, h2, h3, h4, h5, h6⟩ := h
  refine ⟨h4, fun c a r hc => h6 c a r (.next h1 ht hl ?_)⟩
  rw [← h2]; exact hc
theorem below_two (w : World) (o1 o2 : Obj) : Below w.heap.size w ((w.alloc o1).alloc o2) := ((Below.refl _ _).alloc (Nat.le_refl _) _).alloc (by simp) _
theorem res_block (w : World) (o1 o2 : Obj) : ((w.alloc o1).alloc o2).heap[w.heap.size]? = some o1 := by
  rw [Below.heap_alloc _ _ _ (by simp)]; exact heap_alloc_new w o1
theorem res_cell (w : World) (o2 : Obj) (k : Nat) (v : Value) (h : #[Value.int .i64 0, .int .i64 0, .slice none 0 0][k]? = some v) : ((w.alloc (.cells #[.int .i64 0, .int .i64 0, .slice none 0 0] 59)).alloc o2).cell? ⟨w.heap.size, k, none⟩ = some v := by
  rw [cell_of_row _ _ k _ _ _ (res_block w _ o2)]; exact h
theorem res_frozen (w : World) (cs : Array Value) (o2 : Obj) (k : Nat) : ((w.alloc (.cells cs 59)).alloc o2).frozen? ⟨w.heap.size, k, none⟩ = false := by
  simp [World.frozen?, res_block w _ o2]
theorem mu0 (s : ByteArray) (B x e : Nat) (u1 u6 u7 u8 u9 u10 u11 u12 u13 u14 u15 u16 u17 u18 u19 u20 u21 u22 u23 u24 u25 u26 u27 u28 u29 u30 u31 u32 u33 u34 u35 u36 u37 u38 u39 u40 u41 u42 u43 u44 u45 u46 u47 u48 u49 u50 u51 u52 u53 : Value) (w : World) : mu s 0 (fr s B x e u1 u6 u7 u8 u9 u10 u11 u12 u13 u14 u15 u16 u17 u18 u19 u20 u21 u22 u23 u24 u25 u26 u27 u28 u29 u30 u31 u32 u33 u34 u35 u36 u37 u38 u39 u40 u41 u42 u43 u44 u45 u46 u47 u48 u49 u50 u51 u52 u53) w = 4 * (s.size - e) + 2 := by simp [mu, fr, RowKit.intOf]
theorem mu1 (s : ByteArray) (B x e : Nat) (u1 u6 u7 u8 u9 u10 u11 u12 u13 u14 u15 u16 u17 u18 u19 u20 u21 u22 u23 u24 u25 u26 u27 u28 u29 u30 u31 u32 u33 u34 u35 u36 u37 u38 u39 u40 u41 u42 u43 u44 u45 u46 u47 u48 u49 u50 u51 u52 u53 : Value) (w : World) : mu s 1 (fr s B x e u1 u6 u7 u8 u9 u10 u11 u12 u13 u14 u15 u16 u17 u18 u19 u20 u21 u22 u23 u24 u25 u26 u27 u28 u29 u30 u31 u32 u33 u34 u35 u36 u37 u38 u39 u40 u41 u42 u43 u44 u45 u46 u47 u48 u49 u50 u51 u52 u53) w = 0 := by simp [mu]
theorem mu2 (s : ByteArray) (B x e : Nat) (u1 u6 u7 u8 u9 u10 u11 u12 u13 u14 u15 u16 u17 u18 u19 u20 u21 u22 u23 u24 u25 u26 u27 u28 u29 u30 u31 u32 u33 u34 u35 u36 u37 u38 u39 u40 u41 u42 u43 u44 u45 u46 u47 u48 u49 u50 u51 u52 u53 : Value) (w : World) : mu s 2 (fr s B x e u1 u6 u7 u8 u9 u10 u11 u12 u13 u14 u15 u16 u17 u18 u19 u20 u21 u22 u23 u24 u25 u26 u27 u28 u29 u30 u31 u32 u33 u34 u35 u36 u37 u38 u39 u40 u41 u42 u43 u44 u45 u46 u47 u48 u49 u50 u51 u52 u53) w = if x = e then 4 * (s.size - e) + 1 else 4 * (s.size - e) + 3 := by simp [mu, fr, RowKit.intOf]
theorem mu3 (s : ByteArray) (B x e : Nat) (u1 u6 u7 u8 u9 u10 u11 u12 u13 u14 u15 u16 u17 u18 u19 u20 u21 u22 u23 u24 u25 u26 u27 u28 u29 u30 u31 u32 u33 u34 u35 u36 u37 u38 u39 u40 u41 u42 u43 u44 u45 u46 u47 u48 u49 u50 u51 u52 u53 : Value) (w : World) : mu s 3 (fr s B x e u1 u6 u7 u8 u9 u10 u11 u12 u13 u14 u15 u16 u17 u18 u19 u20 u21 u22 u23 u24 u25 u26 u27 u28 u29 u30 u31 u32 u33 u34 u35 u36 u37 u38 u39 u40 u41 u42 u43 u44 u45 u46 u47 u48 u49 u50 u51 u52 u53) w = 4 * (s.size - e) + 3 := by simp [mu, fr, RowKit.intOf]
theorem mu4 (s : ByteArray) (B x e : Nat) (u1 u6 u7 u8 u9 u10 u11 u12 u13 u14 u15 u16 u17 u18 u19 u20 u21 u22 u23 u24 u25 u26 u27 u28 u29 u30 u31 u32 u33 u34 u35 u36 u37 u38 u39 u40 u41 u42 u43 u44 u45 u46 u47 u48 u49 u50 u51 u52 u53 : Value) (w : World) : mu s 4 (fr s B x e u1 u6 u7 u8 u9 u10 u11 u12 u13 u14 u15 u16 u17 u18 u19 u20 u21 u22 u23 u24 u25 u26 u27 u28 u29 u30 u31 u32 u33 u34 u35 u36 u37 u38 u39 u40 u41 u42 u43 u44 u45 u46 u47 u48 u49 u50 u51 u52 u53) w = 4 * (s.size - e) + 3 := by simp [mu, fr, RowKit.intOf]
theorem jj0 {s : ByteArray} {B : Nat} {W w : World} {l : List Tok} {u1 u6 u7 u8 u9 u10 u11 u12 u13 u14 u15 u16 u17 u18 u19 u20 u21 u22 u23 u24 u25 u26 u27 u28 u29 u30 u31 u32 u33 u34 u35 u36 u37 u38 u39 u40 u41 u42 u43 u44 u45 u46 u47 u48 u49 u50 u51 u52 u53 : Value} (x e : Nat) (hM : Mem B W w l) (hA : At s l 0 x e) {N : Nat} (hn : 4 * (s.size - e) + 2 < N) : JJ s B W 0 (fr s B x e u1 u6 u7 u8 u9 u10 u11 u12 u13 u14 u15 u16 u17 u18 u19 u20 u21 u22 u23 u24 u25 u26 u27 u28 u29 u30 u31 u32 u33 u34 u35 u36 u37 u38 u39 u40 u41 u42 u43 u44 u45 u46 u47 u48 u49 u50 u51 u52 u53) w ∧ mu s 0 (fr s B x e u1 u6 u7 u8 u9 u10 u11 u12 u13 u14 u15 u16 u17 u18 u19 u20 u21 u22 u23 u24 u25 u26 u27 u28 u29 u30 u31 u32 u33 u34 u35 u36 u37 u38 u39 u40 u41 u42 u43 u44 u45 u46 u47 u48 u49 u50 u51 u52 u53) w < N :=
  ⟨⟨x, e, u1, u6, u7, u8, u9, u10, u11, u12, u13, u14, u15, u16, u17, u18, u19, u20, u21, u22, u23, u24, u25, u26, u27, u28, u29, u30, u31, u32, u33, u34, u35, u36, u37, u38, u39, u40, u41, u42, u43, u44, u45, u46, u47, u48, u49, u50, u51, u52, u53, l, rfl, hM, hA⟩, by rw [mu0]; exact hn⟩
theorem jj1 {s : ByteArray} {B : Nat} {W w : World} {l : List Tok} {u1 u6 u7 u8 u9 u10 u11 u12 u13 u14 u15 u16 u17 u18 u19 u20 u21 u22 u23 u24 u25 u26 u27 u28 u29 u30 u31 u32 u33 u34 u35 u36 u37 u38 u39 u40 u41 u42 u43 u44 u45 u46 u47 u48 u49 u50 u51 u52 u53 : Value} (x e : Nat) (hM : Mem B W w l) (hA : At s l 1 x e) {N : Nat} (hn : 0 < N) : JJ s B W 1 (fr s B x e u1 u6 u7 u8 u9 u10 u11 u12 u13 u14 u15 u16 u17 u18 u19 u20 u21 u22 u23 u24 u25 u26 u27 u28 u29 u30 u31 u32 u33 u34 u35 u36 u37 u38 u39 u40 u41 u42 u43 u44 u45 u46 u47 u48 u49 u50 u51 u52 u53) w ∧ mu s 1 (fr s B x e u1 u6 u7 u8 u9 u10 u11 u12 u13 u14 u15 u16 u17 u18 u19 u20 u21 u22 u23 u24 u25 u26 u27 u28 u29 u30 u31 u32 u33 u34 u35 u36 u37 u38 u39 u40 u41 u42 u43 u44 u45 u46 u47 u48 u49 u50 u51 u52 u53) w < N :=
  ⟨⟨x, e, u1, u6, u7, u8, u9, u10, u11, u12, u13, u14, u15, u16, u17, u18, u19, u20, u21, u22, u23, u24, u25, u26, u27, u28, u29, u30, u31, u32, u33, u34, u35, u36, u37, u38, u39, u40, u41, u42, u43, u44, u45, u46, u47, u48, u49, u50, u51, u52, u53, l, rfl, hM, hA⟩, by rw [mu1]; exact hn⟩
theorem jj2 {s : ByteArray} {B : Nat} {W w : World} {l : List Tok} {u1 u6 u7 u8 u9 u10 u11 u12 u13 u14 u15 u16 u17 u18 u19 u20 u21 u22 u23 u24 u25 u26 u27 u28 u29 u30 u31 u32 u33 u34 u35 u36 u37 u38 u39 u40 u41 u42 u43 u44 u45 u46 u47 u48 u49 u50 u51 u52 u53 : Value} (x e : Nat) (hM : Mem B W w l) (hA : At s l 2 x e) {N : Nat} (hn : (if x = e then 4 * (s.size - e) + 1 else 4 * (s.size - e) + 3) < N) : JJ s B W 2 (fr s B x e u1 u6 u7 u8 u9 u10 u11 u12 u13 u14 u15 u16 u17 u18 u19 u20 u21 u22 u23 u24 u25 u26 u27 u28 u29 u30 u31 u32 u33 u34 u35 u36 u37 u38 u39 u40 u41 u42 u43 u44 u45 u46 u47 u48 u49 u50 u51 u52 u53) w ∧ mu s 2 (fr s B x e u1 u6 u7 u8 u9 u10 u11 u12 u13 u14 u15 u16 u17 u18 u19 u20 u21 u22 u23 u24 u25 u26 u27 u28 u29 u30 u31 u32 u33 u34 u35 u36 u37 u38 u39 u40 u41 u42 u43 u44 u45 u46 u47 u48 u49 u50 u51 u52 u53) w < N :=
  ⟨⟨x, e, u1, u6, u7, u8, u9, u10, u11, u12, u13, u14, u15, u16, u17, u18, u19, u20, u21, u22, u23, u24, u25, u26, u27, u28, u29, u30, u31, u32, u33, u34, u35, u36, u37, u38, u39, u40, u41, u42, u43, u44, u45, u46, u47, u48, u49, u50, u51, u52, u53, l, rfl, hM, hA⟩, by rw [mu2]; exact hn⟩
theorem jj3 {s : ByteArray} {B : Nat} {W w : World} {l : List Tok} {u1 u6 u7 u8 u9 u10 u11 u12 u13 u14 u15 u16 u17 u18 u19 u20 u21 u22 u23 u24 u25 u26 u27 u28 u29 u30 u31 u32 u33 u34 u35 u36 u37 u38 u39 u40 u41 u42 u43 u44 u45 u46 u47 u48 u49 u50 u51 u52 u53 : Value} (x e : Nat) (hM : Mem B W w l) (hA : At s l 3 x e) {N : Nat} (hn : 4 * (s.size - e) + 3 < N) : JJ s B W 3 (fr s B x e u1 u6 u7 u8 u9 u10 u11 u12 u13 u14 u15 u16 u17 u18 u19 u20 u21 u22 u23 u24 u25 u26 u27 u28 u29 u30 u31 u32 u33 u34 u35 u36 u37 u38 u39 u40 u41 u42 u43 u44 u45 u46 u47 u48 u49 u50 u51 u52 u53) w ∧ mu s 3 (fr s B x e u1 u6 u7 u8 u9 u10 u11 u12 u13 u14 u15 u16 u17 u18 u19 u20 u21 u22 u23 u24 u25 u26 u27 u28 u29 u30 u31 u32 u33 u34 u35 u36 u37 u38 u39 u40 u41 u42 u43 u44 u45 u46 u47 u48 u49 u50 u51 u52 u53) w < N :=
  ⟨⟨x, e, u1, u6, u7, u8, u9, u10, u11, u12, u13, u14, u15, u16, u17, u18, u19, u20, u21, u22, u23, u24, u25, u26, u27, u28, u29, u30, u31, u32, u33, u34, u35, u36, u37, u38, u39, u40, u41, u42, u43, u44, u45, u46, u47, u48, u49, u50, u51, u52, u53, l, rfl, hM, hA⟩, by rw [mu3]; exact hn⟩
theorem jj4 {s : ByteArray} {B : Nat} {W w : World} {l : List Tok} {u1 u6 u7 u8 u9 u10 u11 u12 u13 u14 u15 u16 u17 u18 u19 u20 u21 u22 u23 u24 u25 u26 u27 u28 u29 u30 u31 u32 u33 u34 u35 u36 u37 u38 u39 u40 u41 u42 u43 u44 u45 u46 u47 u48 u49 u50 u51 u52 u53 : Value} (x e : Nat) (hM : Mem B W w l) (hA : At s l 4 x e) {N : Nat} (hn : 4 * (s.size - e) + 3 < N) : JJ s B W 4 (fr s B x e u1 u6 u7 u8 u9 u10 u11 u12 u13 u14 u15 u16 u17 u18 u19 u20 u21 u22 u23 u24 u25 u26 u27 u28 u29 u30 u31 u32 u33 u34 u35 u36 u37 u38 u39 u40 u41 u42 u43 u44 u45 u46 u47 u48 u49 u50 u51 u52 u53) w ∧ mu s 4 (fr s B x e u1 u6 u7 u8 u9 u10 u11 u12 u13 u14 u15 u16 u17 u18 u19 u20 u21 u22 u23 u24 u25 u26 u27 u28 u29 u30 u31 u32 u33 u34 u35 u36 u37 u38 u39 u40 u41 u42 u43 u44 u45 u46 u47 u48 u49 u50 u51 u52 u53) w < N :=
  ⟨⟨x, e, u1, u6, u7, u8, u9, u10, u11, u12, u13, u14, u15, u16, u17, u18, u19, u20, u21, u22, u23, u24, u25, u26, u27, u28, u29, u30, u31, u32, u33, u34, u35, u36, u37, u38, u39, u40, u41, u42, u43, u44, u45, u46, u47, u48, u49, u50, u51, u52, u53, l, rfl, hM, hA⟩, by rw [mu4]; exact hn⟩
set_option maxRecDepth 100000 in
set_option maxHeartbeats 4000000 in
theorem cut_any (s : ByteArray) (w : World) (hs : s.size ≤ 400) (hL : LR w) :
    Calls Tryd.prog 64 #[.string s] w fun e w' => AnsT s w e w' := by
  go_enter Tryd.func64, Tryd.ntmps64
  go_wp2
  refine wp_scope_gotos (JJ s w.heap.size ((w.alloc (.cells #[.int .i64 0, .int .i64 0, .slice none 0 0] 59)).alloc (.cells #[.slice none 0 0] 57))) (mu s) ?_ ?_
  · go_wp2
    go_step3
    have HO : Hid (Owed s (skip s.data.toList 0) []) := fun _ _ _ h => h
    have HM : Hid (Mem w.heap.size ((w.alloc (.cells #[.int .i64 0, .int .i64 0, .slice none 0 0] 59)).alloc (.cells #[.slice none 0 0] 57)) ((w.alloc (.cells #[.int .i64 0, .int .i64 0, .slice none 0 0] 59)).alloc (.cells #[.slice none 0 0] 57)) []) := ⟨⟨none, 0, by simp, World.ownsRow_nil _ _ _ _⟩, by simp, Below.refl _ _, by simp, Nat.zero_le _⟩
    by_cases hlt : 0 < s.size
    · rcases kind_cases hlt with ⟨hk, hb⟩ | ⟨hk, hb⟩ | ⟨hk, hb⟩ | ⟨hk, hm, hb⟩ | ⟨hk, hm, hb⟩
      · have HK : Hid (∀ w, Calls Tryd.prog 92 #[.string s, .int .i64 (0 : Int)] w fun r w' => r = .returned (.int .i64 1) ∧ w' = w) := fun w => kind_of hlt hk w
        have HA : Hid (At s [] 0 0 (0 + 1)) := at_blank HO.out hlt hb
        clear hk hb
        go_wp2_with (go_at_call 92; refine (HK.out _).mono ?_; rintro r wr ⟨rfl, rfl⟩)
        go_step3
        exact (jj0 0 (0 + 1) HM.out HA.out (Nat.lt_succ_self _)).1
      · have HK : Hid (∀ w, Calls Tryd.prog 92 #[.string s, .int .i64 (0 : Int)] w fun r w' => r = .returned (.int .i64 2) ∧ w' = w) := fun w => kind_of hlt hk w
        have HA : Hid (At s [] 0 0 (0 + 1)) := at_blank HO.out hlt hb
        clear hk hb
        go_wp2_with (go_at_call 92; refine (HK.out _).mono ?_; rintro r wr ⟨rfl, rfl⟩)
        go_step3
        exact (jj0 0 (0 + 1) HM.out HA.out (Nat.lt_succ_self _)).1
      · have HK : Hid (∀ w, Calls Tryd.prog 92 #[.string s, .int .i64 (0 : Int)] w fun r w' => r = .returned (.int .i64 3) ∧ w' = w) := fun w => kind_of hlt hk w
        have HA : Hid (At s [] 2 0 0) := at_note HO.out hlt hb
        clear hk hb
        go_wp2_with (go_at_call 92; refine (HK.out _).mono ?_; rintro r wr ⟨rfl, rfl⟩)
        go_step3
        exact (jj2 0 0 HM.out HA.out (Nat.lt_succ_self _)).1
      · have HK : Hid (∀ w, Calls Tryd.prog 92 #[.string s, .int .i64 (0 : Int)] w fun r w' => r = .returned (.int .i64 4) ∧ w' = w) := fun w => kind_of hlt hk w
        have HA : Hid (At s [] 3 0 (0 + 1)) := at_mark HO.out hlt hm hb
        clear hk hb hm
        go_wp2_with (go_at_call 92; refine (HK.out _).mono ?_; rintro r wr ⟨rfl, rfl⟩)
        go_step3
        exact (jj3 0 (0 + 1) HM.out HA.out (Nat.lt_succ_self _)).1
      · have HK : Hid (∀ w, Calls Tryd.prog 92 #[.string s, .int .i64 (0 : Int)] w fun r w' => r = .returned (.int .i64 5) ∧ w' = w) := fun w => kind_of hlt hk w
        have HA : Hid (At s [] 4 0 (0 + 1)) := at_word HO.out hlt hm hb
        clear hk hb hm
        go_wp2_with (go_at_call 92; refine (HK.out _).mono ?_; rintro r wr ⟨rfl, rfl⟩)
        go_step3
        go_wp2_with (go_at_call 92; refine (HK.out _).mono ?_; rintro r wr ⟨rfl, rfl⟩)
        go_step3
        exact (jj4 0 (0 + 1) HM.out HA.out (Nat.lt_succ_self _)).1
    · have HK : Hid (∀ w, Calls Tryd.prog 92 #[.string s, .int .i64 (0 : Int)] w fun r w' => r = .returned (.int .i64 0) ∧ w' = w) := fun w => kind_done hlt w
      have HA : Hid (At s [] 1 0 0) := at_stop HO.out hlt
      go_wp2_with (go_at_call 92; refine (HK.out _).mono ?_; rintro r wr ⟨rfl, rfl⟩)
      go_step3
      exact (jj1 0 0 HM.out HA.out (Nat.lt_succ_self _)).1
  · rintro k a wr ⟨x, e, u1, u6, u7, u8, u9, u10, u11, u12, u13, u14, u15, u16, u17, u18, u19, u20, u21, u22, u23, u24, u25, u26, u27, u28, u29, u30, u31, u32, u33, u34, u35, u36, u37, u38, u39, u40, u41, u42, u43, u44, u45, u46, u47, u48, u49, u50, u51, u52, u53, l, rfl, hM, hA⟩
    match k, hA with
    | 0, hA =>
      refine ⟨_, rfl, ?_⟩
      obtain ⟨he, ho⟩ := hA
      have HO : Hid (Owed s (skip s.data.toList e) l) := ho
      have HM : Hid (Mem w.heap.size _ wr l) := hM
      clear ho hM
      rw [mu0]
      unfold fr
      by_cases hlt : e < s.size
      · rcases kind_cases hlt with ⟨hk, hb⟩ | ⟨hk, hb⟩ | ⟨hk, hb⟩ | ⟨hk, hm, hb⟩ | ⟨hk, hm, hb⟩
        · have HK : Hid (∀ w, Calls Tryd.prog 92 #[.string s, .int .i64 (e : Int)] w fun r w' => r = .returned (.int .i64 1) ∧ w' = w) := fun w => kind_of hlt hk w
          have HA : Hid (At s l 0 e (e + 1)) := at_blank HO.out hlt hb
          clear hk hb
          go_wp2_with (go_at_call 92; refine (HK.out _).mono ?_; rintro r wr ⟨rfl, rfl⟩)
          go_step3
          exact jj0 e (e + 1) HM.out HA.out (by omega)
        · have HK : Hid (∀ w, Calls Tryd.prog 92 #[.string s, .int .i64 (e : Int)] w fun r w' => r = .returned (.int .i64 2) ∧ w' = w) := fun w => kind_of hlt hk w
          have HA : Hid (At s l 0 e (e + 1)) := at_blank HO.out hlt hb
          clear hk hb
          go_wp2_with (go_at_call 92; refine (HK.out _).mono ?_; rintro r wr ⟨rfl, rfl⟩)
          go_step3
          exact jj0 e (e + 1) HM.out HA.out (by omega)
        · have HK : Hid (∀ w, Calls Tryd.prog 92 #[.string s, .int .i64 (e : Int)] w fun r w' => r = .returned (.int .i64 3) ∧ w' = w) := fun w => kind_of hlt hk w
          have HA : Hid (At s l 2 e e) := at_note HO.out hlt hb
          clear hk hb
          go_wp2_with (go_at_call 92; refine (HK.out _).mono ?_; rintro r wr ⟨rfl, rfl⟩)
          go_step3
          exact jj2 e e HM.out HA.out (by rw [if_pos rfl]; omega)
        · have HK : Hid (∀ w, Calls Tryd.prog 92 #[.string s, .int .i64 (e : Int)] w fun r w' => r = .returned (.int .i64 4) ∧ w' = w) := fun w => kind_of hlt hk w
          have HA : Hid (At s l 3 e (e + 1)) := at_mark HO.out hlt hm hb
          clear hk hb hm
          go_wp2_with (go_at_call 92; refine (HK.out _).mono ?_; rintro r wr ⟨rfl, rfl⟩)
          go_step3
          exact jj3 e (e + 1) HM.out HA.out (by omega)
        · have HK : Hid (∀ w, Calls Tryd.prog 92 #[.string s, .int .i64 (e : Int)] w fun r w' => r = .returned (.int .i64 5) ∧ w' = w) := fun w => kind_of hlt hk w
          have HA : Hid (At s l 4 e (e + 1)) := at_word HO.out hlt hm hb
          clear hk hb hm
          go_wp2_with (go_at_call 92; refine (HK.out _).mono ?_; rintro r wr ⟨rfl, rfl⟩)
          go_step3
          go_wp2_with (go_at_call 92; refine (HK.out _).mono ?_; rintro r wr ⟨rfl, rfl⟩)
          go_step3
          exact jj4 e (e + 1) HM.out HA.out (by omega)
      · have HK : Hid (∀ w, Calls Tryd.prog 92 #[.string s, .int .i64 (e : Int)] w fun r w' => r = .returned (.int .i64 0) ∧ w' = w) := fun w => kind_done hlt w
        have HA : Hid (At s l 1 e e) := at_stop HO.out hlt
        go_wp2_with (go_at_call 92; refine (HK.out _).mono ?_; rintro r wr ⟨rfl, rfl⟩)
        go_step3
        exact jj1 e e HM.out HA.out (by omega)
    | 1, hA =>
      refine ⟨_, rfl, ?_⟩
      rw [mu1]
      unfold fr
      obtain ⟨⟨ao, cap, hcell, hown⟩, hfz, hlow, hsize, hmany⟩ := hM
      have HOW : Hid (wr.ownsRow (w.heap.size + 2) 74 3 (.slice ao l.length cap) l.length (cellsOf l)) := hown
      have HLO : Hid (Below (w.heap.size + 1) ((w.alloc (.cells #[.int .i64 0, .int .i64 0, .slice none 0 0] 59)).alloc (.cells #[.slice none 0 0] 57)) wr) := hlow
      have HBW : Hid (Below w.heap.size w wr) := (below_two w _ _).trans (hlow.mono (by omega))
      have r0 : wr.cell? ⟨w.heap.size, 0, none⟩ = some (.int .i64 0) := (hlow.cell (by show w.heap.size < _; omega)).trans (res_cell w _ 0 _ rfl)
      have r1 : wr.cell? ⟨w.heap.size, 1, none⟩ = some (.int .i64 0) := (hlow.cell (by show w.heap.size < _; omega)).trans (res_cell w _ 1 _ rfl)
      have r2 : wr.cell? ⟨w.heap.size, 2, none⟩ = some (.slice none 0 0) := (hlow.cell (by show w.heap.size < _; omega)).trans (res_cell w _ 2 _ rfl)
      have f0 : ∀ o, wr.frozen? ⟨w.heap.size, o, none⟩ = false := fun o => (hlow.frozen (by show w.heap.size < _; omega)).trans (res_frozen w _ _ o)
      have hB1 : w.heap.size < wr.heap.size := by omega
      clear hlow hown
      have HA : Hid (Cut s (skip s.data.toList 0) [] 0 0 l) := hA
      clear hA
      go_wp2
      simp only [jumps]
      refine bodyPost_ret (v := .agg #[.int .i64 0, .int .i64 0, .slice ao l.length cap]) (by simp [results, Tryd.results64, go_sem, *]) rfl ⟨ao, cap, 0, 0, l, rfl, Or.inr ⟨hs, HA.out⟩, ?_, ?_⟩
      · repeat (first | exact own_base HOW.out (by omega) | refine own_set' ?_ (fun g hg => by have := (HOW.out.lt g hg).1; show g ≠ w.heap.size; omega) _)
      · repeat (first | exact HBW.out | refine Below.setCell ?_ (by simp) _)
    | 2, hA =>
      refine ⟨_, rfl, ?_⟩
      have HX : Hid (At s l 2 x e) := hA
      have HM : Hid (Mem w.heap.size _ wr l) := hM
      have hxe : x ≤ e := hA.2.1
      have hes : e ≤ s.size := hA.1
      have h59 : x = e → e < s.size ∧ s.data.toList.getD e 0 = 59 := hA.2.2.1
      have H59 : Hid _ := h59
      clear hM hA h59
      rw [mu2]
      unfold fr
      by_cases hlt : e < s.size
      · rcases kind_cases hlt with ⟨hk, hb⟩ | ⟨hk, hb⟩ | ⟨hk, hb⟩ | ⟨hk, hm, hb⟩ | ⟨hk, hm, hb⟩
        · have HK : Hid (∀ w, Calls Tryd.prog 92 #[.string s, .int .i64 (e : Int)] w fun r w' => r = .returned (.int .i64 1) ∧ w' = w) := fun w => kind_of hlt hk w
          have HA : Hid (At s l 2 x (e + 1)) := at_more HX.out hlt (kind_not hlt 1 hk (by decide))
          clear hk hb
          go_wp2_with (go_at_call 92; refine (HK.out _).mono ?_; rintro r wr ⟨rfl, rfl⟩)
          go_step3
          exact jj2 x (e + 1) HM.out HA.out (by rw [if_neg (by omega)]; split <;> omega)
        · have HK : Hid (∀ w, Calls Tryd.prog 92 #[.string s, .int .i64 (e : Int)] w fun r w' => r = .returned (.int .i64 2) ∧ w' = w) := fun w => kind_of hlt hk w
          have hten : (s[e]'hlt) = 10 := kind_two hlt hk
          have HA : Hid (At s l 0 x e ∧ x < e) := at_feed HX.out (by rw [getD_byte s e hlt, hten]; simp)
          have hx2 : x < e := HA.out.2
          clear hk hb hten
          go_wp2_with (go_at_call 92; refine (HK.out _).mono ?_; rintro r wr ⟨rfl, rfl⟩)
          go_step3
          exact jj0 x e HM.out HA.out.1 (by rw [if_neg (by omega)]; omega)
        · have HK : Hid (∀ w, Calls Tryd.prog 92 #[.string s, .int .i64 (e : Int)] w fun r w' => r = .returned (.int .i64 3) ∧ w' = w) := fun w => kind_of hlt hk w
          have HA : Hid (At s l 2 x (e + 1)) := at_more HX.out hlt (kind_not hlt 3 hk (by decide))
          clear hk hb
          go_wp2_with (go_at_call 92; refine (HK.out _).mono ?_; rintro r wr ⟨rfl, rfl⟩)
          go_step3
          exact jj2 x (e + 1) HM.out HA.out (by rw [if_neg (by omega)]; split <;> omega)
        · have HK : Hid (∀ w, Calls Tryd.prog 92 #[.string s, .int .i64 (e : Int)] w fun r w' => r = .returned (.int .i64 4) ∧ w' = w) := fun w => kind_of hlt hk w
          have HA : Hid (At s l 2 x (e + 1)) := at_more HX.out hlt (kind_not hlt 4 hk (by decide))
          clear hk hb hm
          go_wp2_with (go_at_call 92; refine (HK.out _).mono ?_; rintro r wr ⟨rfl, rfl⟩)
          go_step3
          exact jj2 x (e + 1) HM.out HA.out (by rw [if_neg (by omega)]; split <;> omega)
        · have HK : Hid (∀ w, Calls Tryd.prog 92 #[.string s, .int .i64 (e : Int)] w fun r w' => r = .returned (.int .i64 5) ∧ w' = w) := fun w => kind_of hlt hk w
          have HA : Hid (At s l 2 x (e + 1)) := at_more HX.out hlt (kind_not hlt 5 hk (by decide))
          clear hk hb hm
          go_wp2_with (go_at_call 92; refine (HK.out _).mono ?_; rintro r wr ⟨rfl, rfl⟩)
          go_step3
          exact jj2 x (e + 1) HM.out HA.out (by rw [if_neg (by omega)]; split <;> omega)
      · have HK : Hid (∀ w, Calls Tryd.prog 92 #[.string s, .int .i64 (e : Int)] w fun r w' => r = .returned (.int .i64 0) ∧ w' = w) := fun w => kind_done hlt w
        have HA : Hid (At s l 0 x e ∧ x < e) := at_feed HX.out (by intro h; exact hlt h.1)
        have hx2 : x < e := HA.out.2
        go_wp2_with (go_at_call 92; refine (HK.out _).mono ?_; rintro r wr ⟨rfl, rfl⟩)
        go_step3
        exact jj0 x e HM.out HA.out.1 (by rw [if_neg (by omega)]; omega)
    | 3, hA =>
      refine ⟨_, rfl, ?_⟩
      have HX : Hid (At s l 3 x e) := hA
      clear hA
      rw [mu3]
      unfold fr
      obtain ⟨⟨ao, cap, hcell, hown⟩, hfz, hlow, hsize, hmany⟩ := hM
      have HOW : Hid (wr.ownsRow (w.heap.size + 2) 74 3 (.slice ao l.length cap) l.length (cellsOf l)) := hown
      have HLO : Hid (Below (w.heap.size + 1) ((w.alloc (.cells #[.int .i64 0, .int .i64 0, .slice none 0 0] 59)).alloc (.cells #[.slice none 0 0] 57)) wr) := hlow
      have HBW : Hid (Below w.heap.size w wr) := (below_two w _ _).trans (hlow.mono (by omega))
      have r0 : wr.cell? ⟨w.heap.size, 0, none⟩ = some (.int .i64 0) := (hlow.cell (by show w.heap.size < _; omega)).trans (res_cell w _ 0 _ rfl)
      have r1 : wr.cell? ⟨w.heap.size, 1, none⟩ = some (.int .i64 0) := (hlow.cell (by show w.heap.size < _; omega)).trans (res_cell w _ 1 _ rfl)
      have r2 : wr.cell? ⟨w.heap.size, 2, none⟩ = some (.slice none 0 0) := (hlow.cell (by show w.heap.size < _; omega)).trans (res_cell w _ 2 _ rfl)
      have f0 : ∀ o, wr.frozen? ⟨w.heap.size, o, none⟩ = false := fun o => (hlow.frozen (by show w.heap.size < _; omega)).trans (res_frozen w _ _ o)
      have hB1 : w.heap.size < wr.heap.size := by omega
      clear hlow hown
      have HLR : Hid (LR wr) := hL.below HBW.out
      have hx : x < s.size := HX.out.1
      have hxe : x < e := HX.out.2.2.1
      have hes2 : e ≤ s.size := HX.out.2.2.2.1
      have HR : Hid (readTok (s.extract x e) = tokAt s x) := by have h := readTok_at s x HX.out.1 HX.out.2.2.2.2.1; rw [← HX.out.2.1] at h; exact h
      have hsl := slice_str s x e (by omega) hes2
      have hsz : (s.extract x e).size ≤ 281474976710656 := by rw [ByteArray.size_extract]; omega
      cases htk : tokAt s x with
      | none =>
        have HC : Hid (Cut s (skip s.data.toList 0) [] 5 (x : Int) []) := HX.out.2.2.2.2.2 _ _ _ (.bad hx htk)
        have HT : Hid (∀ (w' : World), w' = wr → Calls Tryd.prog 93 #[.pointer (some ⟨w.heap.size + 1, 0, none⟩), .string (s.extract x e)] w' fun r w'' => r = .returned (.int .i64 5) ∧ Below w'.heap.size w' w'') := fun w' h => by subst h; exact take_bad _ _ _ hsz HLR.out (HR.out.trans htk)
        clear hcell hfz
        go_wp2_with (go_at_call 93; refine (HT.out _ rfl).mono ?_; rintro r w1 ⟨rfl, hq⟩; obtain ⟨hc, hf⟩ := bcell hq)
        simp only [jumps]
        refine bodyPost_ret (v := .agg #[.int .i64 5, .int .i64 x, .slice none 0 0]) (by simp [results, Tryd.results64, go_sem, *]) rfl ⟨none, 0, 5, x, [], rfl, Or.inr ⟨hs, HC.out⟩, World.ownsRow_nil _ _ _ _, ?_⟩
        repeat (first | exact HBW.out | refine Below.setCell ?_ (by simp) _ | refine Below.trans ?_ (hq.mono (by omega)))
      | some t =>
        by_cases h120 : l.length = 120
        · have _ := h120
          have HC : Hid (Cut s (skip s.data.toList 0) [] 2 (x : Int) []) := HX.out.2.2.2.2.2 _ _ _ (.many hx htk (by omega))
          have HT : Hid (∀ (w' : World), w' = wr → Calls Tryd.prog 93 #[.pointer (some ⟨w.heap.size + 1, 0, none⟩), .string (s.extract x e)] w' fun r w'' => r = .returned (.int .i64 2) ∧ Below w'.heap.size w' w'') := fun w' h => by subst h; exact take_many _ _ _ _ _ ao hsz HLR.out hcell h120 (HR.out.trans htk)
          clear hcell hfz
          go_wp2_with (go_at_call 93; refine (HT.out _ rfl).mono ?_; rintro r w1 ⟨rfl, hq⟩; obtain ⟨hc, hf⟩ := bcell hq)
          simp only [jumps]
          refine bodyPost_ret (v := .agg #[.int .i64 2, .int .i64 x, .slice none 0 0]) (by simp [results, Tryd.results64, go_sem, *]) rfl ⟨none, 0, 2, x, [], rfl, Or.inr ⟨hs, HC.out⟩, World.ownsRow_nil _ _ _ _, ?_⟩
          repeat (first | exact HBW.out | refine Below.setCell ?_ (by simp) _ | refine Below.trans ?_ (hq.mono (by omega)))
        · have hl : l.length < 120 := by omega
          have HT : Hid (∀ (w' : World), w' = wr → Calls Tryd.prog 93 #[.pointer (some ⟨w.heap.size + 1, 0, none⟩), .string (s.extract x e)] w' fun r w'' => r = .returned (.int .i64 0) ∧ Mem w.heap.size ((w.alloc (.cells #[.int .i64 0, .int .i64 0, .slice none 0 0] 59)).alloc (.cells #[.slice none 0 0] 57)) w'' (l ++ [t])) := fun w' h => by
            subst h
            refine (take_next _ _ _ (w.heap.size + 2) _ ao l hsz HLR.out hcell hfz HOW.out (by omega) hsize hl (HR.out.trans htk)).mono ?_
            rintro r w'' ⟨rfl, g, cap', h1, h2, h3, h4⟩
            exact ⟨rfl, ⟨⟨_, _, by simpa using h1, by simpa using h3⟩, h2, HLO.out.trans h4, Nat.le_trans hsize h4.size, by simp; omega⟩⟩
          have HA : Hid (At s (l ++ [t]) 0 x e) := at_tok HX.out htk hl
          clear hcell hfz htk
          go_wp2_with (go_at_call 93; refine (HT.out _ rfl).mono ?_; rintro r w1 ⟨rfl, hq⟩; have HQ : Hid _ := hq; clear hq)
          go_step3
          exact jj0 x e HQ.out HA.out (by omega)
    | 4, hA =>
      refine ⟨_, rfl, ?_⟩
      have HY : Hid (At s l 4 x e) := hA
      have hes : e ≤ s.size := hA.2.2.1
      clear hA
      rw [mu4]
      unfold fr
      by_cases hlt : e < s.size
      · rcases kind_cases hlt with ⟨hk, hb⟩ | ⟨hk, hb⟩ | ⟨hk, hb⟩ | ⟨hk, hm, hb⟩ | ⟨hk, hm, hb⟩
        · have HK : Hid (∀ w, Calls Tryd.prog 92 #[.string s, .int .i64 (e : Int)] w fun r w' => r = .returned (.int .i64 1) ∧ w' = w) := fun w => kind_of hlt hk w
          have HX : Hid (At s l 3 x e) := at_end HY.out (by rw [getD_byte s e hlt]; intro h; exact absurd h.2 (kind_off hlt 1 hk (by decide)))
          clear hk hb
          go_wp2_with (go_at_call 92; refine (HK.out _).mono ?_; rintro r wr ⟨rfl, rfl⟩)
          go_step3
          obtain ⟨⟨ao, cap, hcell, hown⟩, hfz, hlow, hsize, hmany⟩ := hM
          have HOW : Hid (wr.ownsRow (w.heap.size + 2) 74 3 (.slice ao l.length cap) l.length (cellsOf l)) := hown
          have HLO : Hid (Below (w.heap.size + 1) ((w.alloc (.cells #[.int .i64 0, .int .i64 0, .slice none 0 0] 59)).alloc (.cells #[.slice none 0 0] 57)) wr) := hlow
          have HBW : Hid (Below w.heap.size w wr) := (below_two w _ _).trans (hlow.mono (by omega))
          have r0 : wr.cell? ⟨w.heap.size, 0, none⟩ = some (.int .i64 0) := (hlow.cell (by show w.heap.size < _; omega)).trans (res_cell w _ 0 _ rfl)
          have r1 : wr.cell? ⟨w.heap.size, 1, none⟩ = some (.int .i64 0) := (hlow.cell (by show w.heap.size < _; omega)).trans (res_cell w _ 1 _ rfl)
          have r2 : wr.cell? ⟨w.heap.size, 2, none⟩ = some (.slice none 0 0) := (hlow.cell (by show w.heap.size < _; omega)).trans (res_cell w _ 2 _ rfl)
          have f0 : ∀ o, wr.frozen? ⟨w.heap.size, o, none⟩ = false := fun o => (hlow.frozen (by show w.heap.size < _; omega)).trans (res_frozen w _ _ o)
          have hB1 : w.heap.size < wr.heap.size := by omega
          clear hlow hown
          have HLR : Hid (LR wr) := hL.below HBW.out
          have hx : x < s.size := HX.out.1
          have hxe : x < e := HX.out.2.2.1
          have hes2 : e ≤ s.size := HX.out.2.2.2.1
          have HR : Hid (readTok (s.extract x e) = tokAt s x) := by have h := readTok_at s x HX.out.1 HX.out.2.2.2.2.1; rw [← HX.out.2.1] at h; exact h
          have hsl := slice_str s x e (by omega) hes2
          have hsz : (s.extract x e).size ≤ 281474976710656 := by rw [ByteArray.size_extract]; omega
          cases htk : tokAt s x with
          | none =>
            have HC : Hid (Cut s (skip s.data.toList 0) [] 5 (x : Int) []) := HX.out.2.2.2.2.2 _ _ _ (.bad hx htk)
            have HT : Hid (∀ (w' : World), w' = wr → Calls Tryd.prog 93 #[.pointer (some ⟨w.heap.size + 1, 0, none⟩), .string (s.extract x e)] w' fun r w'' => r = .returned (.int .i64 5) ∧ Below w'.heap.size w' w'') := fun w' h => by subst h; exact take_bad _ _ _ hsz HLR.out (HR.out.trans htk)
            clear hcell hfz
            go_wp2_with (go_at_call 93; refine (HT.out _ rfl).mono ?_; rintro r w1 ⟨rfl, hq⟩; obtain ⟨hc, hf⟩ := bcell hq)
            simp only [jumps]
            refine bodyPost_ret (v := .agg #[.int .i64 5, .int .i64 x, .slice none 0 0]) (by simp [results, Tryd.results64, go_sem, *]) rfl ⟨none, 0, 5, x, [], rfl, Or.inr ⟨hs, HC.out⟩, World.ownsRow_nil _ _ _ _, ?_⟩
            repeat (first | exact HBW.out | refine Below.setCell ?_ (by simp) _ | refine Below.trans ?_ (hq.mono (by omega)))
          | some t =>
            by_cases h120 : l.length = 120
            · have _ := h120
              have HC : Hid (Cut s (skip s.data.toList 0) [] 2 (x : Int) []) := HX.out.2.2.2.2.2 _ _ _ (.many hx htk (by omega))
              have HT : Hid (∀ (w' : World), w' = wr → Calls Tryd.prog 93 #[.pointer (some ⟨w.heap.size + 1, 0, none⟩), .string (s.extract x e)] w' fun r w'' => r = .returned (.int .i64 2) ∧ Below w'.heap.size w' w'') := fun w' h => by subst h; exact take_many _ _ _ _ _ ao hsz HLR.out hcell h120 (HR.out.trans htk)
              clear hcell hfz
              go_wp2_with (go_at_call 93; refine (HT.out _ rfl).mono ?_; rintro r w1 ⟨rfl, hq⟩; obtain ⟨hc, hf⟩ := bcell hq)
              simp only [jumps]
              refine bodyPost_ret (v := .agg #[.int .i64 2, .int .i64 x, .slice none 0 0]) (by simp [results, Tryd.results64, go_sem, *]) rfl ⟨none, 0, 2, x, [], rfl, Or.inr ⟨hs, HC.out⟩, World.ownsRow_nil _ _ _ _, ?_⟩
              repeat (first | exact HBW.out | refine Below.setCell ?_ (by simp) _ | refine Below.trans ?_ (hq.mono (by omega)))
            · have hl : l.length < 120 := by omega
              have HT : Hid (∀ (w' : World), w' = wr → Calls Tryd.prog 93 #[.pointer (some ⟨w.heap.size + 1, 0, none⟩), .string (s.extract x e)] w' fun r w'' => r = .returned (.int .i64 0) ∧ Mem w.heap.size ((w.alloc (.cells #[.int .i64 0, .int .i64 0, .slice none 0 0] 59)).alloc (.cells #[.slice none 0 0] 57)) w'' (l ++ [t])) := fun w' h => by
                subst h
                refine (take_next _ _ _ (w.heap.size + 2) _ ao l hsz HLR.out hcell hfz HOW.out (by omega) hsize hl (HR.out.trans htk)).mono ?_
                rintro r w'' ⟨rfl, g, cap', h1, h2, h3, h4⟩
                exact ⟨rfl, ⟨⟨_, _, by simpa using h1, by simpa using h3⟩, h2, HLO.out.trans h4, Nat.le_trans hsize h4.size, by simp; omega⟩⟩
              have HA : Hid (At s (l ++ [t]) 0 x e) := at_tok HX.out htk hl
              clear hcell hfz htk
              go_wp2_with (go_at_call 93; refine (HT.out _ rfl).mono ?_; rintro r w1 ⟨rfl, hq⟩; have HQ : Hid _ := hq; clear hq)
              go_step3
              exact jj0 x e HQ.out HA.out (by omega)
        · have HK : Hid (∀ w, Calls Tryd.prog 92 #[.string s, .int .i64 (e : Int)] w fun r w' => r = .returned (.int .i64 2) ∧ w' = w) := fun w => kind_of hlt hk w
          have HX : Hid (At s l 3 x e) := at_end HY.out (by rw [getD_byte s e hlt]; intro h; exact absurd h.2 (kind_off hlt 2 hk (by decide)))
          clear hk hb
          go_wp2_with (go_at_call 92; refine (HK.out _).mono ?_; rintro r wr ⟨rfl, rfl⟩)
          go_step3
          obtain ⟨⟨ao, cap, hcell, hown⟩, hfz, hlow, hsize, hmany⟩ := hM
          have HOW : Hid (wr.ownsRow (w.heap.size + 2) 74 3 (.slice ao l.length cap) l.length (cellsOf l)) := hown
          have HLO : Hid (Below (w.heap.size + 1) ((w.alloc (.cells #[.int .i64 0, .int .i64 0, .slice none 0 0] 59)).alloc (.cells #[.slice none 0 0] 57)) wr) := hlow
          have HBW : Hid (Below w.heap.size w wr) := (below_two w _ _).trans (hlow.mono (by omega))
          have r0 : wr.cell? ⟨w.heap.size, 0, none⟩ = some (.int .i64 0) := (hlow.cell (by show w.heap.size < _; omega)).trans (res_cell w _ 0 _ rfl)
          have r1 : wr.cell? ⟨w.heap.size, 1, none⟩ = some (.int .i64 0) := (hlow.cell (by show w.heap.size < _; omega)).trans (res_cell w _ 1 _ rfl)
          have r2 : wr.cell? ⟨w.heap.size, 2, none⟩ = some (.slice none 0 0) := (hlow.cell (by show w.heap.size < _; omega)).trans (res_cell w _ 2 _ rfl)
          have f0 : ∀ o, wr.frozen? ⟨w.heap.size, o, none⟩ = false := fun o => (hlow.frozen (by show w.heap.size < _; omega)).trans (res_frozen w _ _ o)
          have hB1 : w.heap.size < wr.heap.size := by omega
          clear hlow hown
          have HLR : Hid (LR wr) := hL.below HBW.out
          have hx : x < s.size := HX.out.1
          have hxe : x < e := HX.out.2.2.1
          have hes2 : e ≤ s.size := HX.out.2.2.2.1
          have HR : Hid (readTok (s.extract x e) = tokAt s x) := by have h := readTok_at s x HX.out.1 HX.out.2.2.2.2.1; rw [← HX.out.2.1] at h; exact h
          have hsl := slice_str s x e (by omega) hes2
          have hsz : (s.extract x e).size ≤ 281474976710656 := by rw [ByteArray.size_extract]; omega
          cases htk : tokAt s x with
          | none =>
            have HC : Hid (Cut s (skip s.data.toList 0) [] 5 (x : Int) []) := HX.out.2.2.2.2.2 _ _ _ (.bad hx htk)
            have HT : Hid (∀ (w' : World), w' = wr → Calls Tryd.prog 93 #[.pointer (some ⟨w.heap.size + 1, 0, none⟩), .string (s.extract x e)] w' fun r w'' => r = .returned (.int .i64 5) ∧ Below w'.heap.size w' w'') := fun w' h => by subst h; exact take_bad _ _ _ hsz HLR.out (HR.out.trans htk)
            clear hcell hfz
            go_wp2_with (go_at_call 93; refine (HT.out _ rfl).mono ?_; rintro r w1 ⟨rfl, hq⟩; obtain ⟨hc, hf⟩ := bcell hq)
            simp only [jumps]
            refine bodyPost_ret (v := .agg #[.int .i64 5, .int .i64 x, .slice none 0 0]) (by simp [results, Tryd.results64, go_sem, *]) rfl ⟨none, 0, 5, x, [], rfl, Or.inr ⟨hs, HC.out⟩, World.ownsRow_nil _ _ _ _, ?_⟩
            repeat (first | exact HBW.out | refine Below.setCell ?_ (by simp) _ | refine Below.trans ?_ (hq.mono (by omega)))
          | some t =>
            by_cases h120 : l.length = 120
            · have _ := h120
              have HC : Hid (Cut s (skip s.data.toList 0) [] 2 (x : Int) []) := HX.out.2.2.2.2.2 _ _ _ (.many hx htk (by omega))
              have HT : Hid (∀ (w' : World), w' = wr → Calls Tryd.prog 93 #[.pointer (some ⟨w.heap.size + 1, 0, none⟩), .string (s.extract x e)] w' fun r w'' => r = .returned (.int .i64 2) ∧ Below w'.heap.size w' w'') := fun w' h => by subst h; exact take_many _ _ _ _ _ ao hsz HLR.out hcell h120 (HR.out.trans htk)
              clear hcell hfz
              go_wp2_with (go_at_call 93; refine (HT.out _ rfl).mono ?_; rintro r w1 ⟨rfl, hq⟩; obtain ⟨hc, hf⟩ := bcell hq)
              simp only [jumps]
              refine bodyPost_ret (v := .agg #[.int .i64 2, .int .i64 x, .slice none 0 0]) (by simp [results, Tryd.results64, go_sem, *]) rfl ⟨none, 0, 2, x, [], rfl, Or.inr ⟨hs, HC.out⟩, World.ownsRow_nil _ _ _ _, ?_⟩
              repeat (first | exact HBW.out | refine Below.setCell ?_ (by simp) _ | refine Below.trans ?_ (hq.mono (by omega)))
            · have hl : l.length < 120 := by omega
              have HT : Hid (∀ (w' : World), w' = wr → Calls Tryd.prog 93 #[.pointer (some ⟨w.heap.size + 1, 0, none⟩), .string (s.extract x e)] w' fun r w'' => r = .returned (.int .i64 0) ∧ Mem w.heap.size ((w.alloc (.cells #[.int .i64 0, .int .i64 0, .slice none 0 0] 59)).alloc (.cells #[.slice none 0 0] 57)) w'' (l ++ [t])) := fun w' h => by
                subst h
                refine (take_next _ _ _ (w.heap.size + 2) _ ao l hsz HLR.out hcell hfz HOW.out (by omega) hsize hl (HR.out.trans htk)).mono ?_
                rintro r w'' ⟨rfl, g, cap', h1, h2, h3, h4⟩
                exact ⟨rfl, ⟨⟨_, _, by simpa using h1, by simpa using h3⟩, h2, HLO.out.trans h4, Nat.le_trans hsize h4.size, by simp; omega⟩⟩
              have HA : Hid (At s (l ++ [t]) 0 x e) := at_tok HX.out htk hl
              clear hcell hfz htk
              go_wp2_with (go_at_call 93; refine (HT.out _ rfl).mono ?_; rintro r w1 ⟨rfl, hq⟩; have HQ : Hid _ := hq; clear hq)
              go_step3
              exact jj0 x e HQ.out HA.out (by omega)
        · have HK : Hid (∀ w, Calls Tryd.prog 92 #[.string s, .int .i64 (e : Int)] w fun r w' => r = .returned (.int .i64 3) ∧ w' = w) := fun w => kind_of hlt hk w
          have HX : Hid (At s l 3 x e) := at_end HY.out (by rw [getD_byte s e hlt]; intro h; exact absurd h.2 (kind_off hlt 3 hk (by decide)))
          clear hk hb
          go_wp2_with (go_at_call 92; refine (HK.out _).mono ?_; rintro r wr ⟨rfl, rfl⟩)
          go_step3
          obtain ⟨⟨ao, cap, hcell, hown⟩, hfz, hlow, hsize, hmany⟩ := hM
          have HOW : Hid (wr.ownsRow (w.heap.size + 2) 74 3 (.slice ao l.length cap) l.length (cellsOf l)) := hown
          have HLO : Hid (Below (w.heap.size + 1) ((w.alloc (.cells #[.int .i64 0, .int .i64 0, .slice none 0 0] 59)).alloc (.cells #[.slice none 0 0] 57)) wr) := hlow
          have HBW : Hid (Below w.heap.size w wr) := (below_two w _ _).trans (hlow.mono (by omega))
          have r0 : wr.cell? ⟨w.heap.size, 0, none⟩ = some (.int .i64 0) := (hlow.cell (by show w.heap.size < _; omega)).trans (res_cell w _ 0 _ rfl)
          have r1 : wr.cell? ⟨w.heap.size, 1, none⟩ = some (.int .i64 0) := (hlow.cell (by show w.heap.size < _; omega)).trans (res_cell w _ 1 _ rfl)
          have r2 : wr.cell? ⟨w.heap.size, 2, none⟩ = some (.slice none 0 0) := (hlow.cell (by show w.heap.size < _; omega)).trans (res_cell w _ 2 _ rfl)
          have f0 : ∀ o, wr.frozen? ⟨w.heap.size, o, none⟩ = false := fun o => (hlow.frozen (by show w.heap.size < _; omega)).trans (res_frozen w _ _ o)
          have hB1 : w.heap.size < wr.heap.size := by omega
          clear hlow hown
          have HLR : Hid (LR wr) := hL.below HBW.out
          have hx : x < s.size := HX.out.1
          have hxe : x < e := HX.out.2.2.1
          have hes2 : e ≤ s.size := HX.out.2.2.2.1
          have HR : Hid (readTok (s.extract x e) = tokAt s x) := by have h := readTok_at s x HX.out.1 HX.out.2.2.2.2.1; rw [← HX.out.2.1] at h; exact h
          have hsl := slice_str s x e (by omega) hes2
          have hsz : (s.extract x e).size ≤ 281474976710656 := by rw [ByteArray.size_extract]; omega
          cases htk : tokAt s x with
          | none =>
            have HC : Hid (Cut s (skip s.data.toList 0) [] 5 (x : Int) []) := HX.out.2.2.2.2.2 _ _ _ (.bad hx htk)
            have HT : Hid (∀ (w' : World), w' = wr → Calls Tryd.prog 93 #[.pointer (some ⟨w.heap.size + 1, 0, none⟩), .string (s.extract x e)] w' fun r w'' => r = .returned (.int .i64 5) ∧ Below w'.heap.size w' w'') := fun w' h => by subst h; exact take_bad _ _ _ hsz HLR.out (HR.out.trans htk)
            clear hcell hfz
            go_wp2_with (go_at_call 93; refine (HT.out _ rfl).mono ?_; rintro r w1 ⟨rfl, hq⟩; obtain ⟨hc, hf⟩ := bcell hq)
            simp only [jumps]
            refine bodyPost_ret (v := .agg #[.int .i64 5, .int .i64 x, .slice none 0 0]) (by simp [results, Tryd.results64, go_sem, *]) rfl ⟨none, 0, 5, x, [], rfl, Or.inr ⟨hs, HC.out⟩, World.ownsRow_nil _ _ _ _, ?_⟩
            repeat (first | exact HBW.out | refine Below.setCell ?_ (by simp) _ | refine Below.trans ?_ (hq.mono (by omega)))
          | some t =>
            by_cases h120 : l.length = 120
            · have _ := h120
              have HC : Hid (Cut s (skip s.data.toList 0) [] 2 (x : Int) []) := HX.out.2.2.2.2.2 _ _ _ (.many hx htk (by omega))
              have HT : Hid (∀ (w' : World), w' = wr → Calls Tryd.prog 93 #[.pointer (some ⟨w.heap.size + 1, 0, none⟩), .string (s.extract x e)] w' fun r w'' => r = .returned (.int .i64 2) ∧ Below w'.heap.size w' w'') := fun w' h => by subst h; exact take_many _ _ _ _ _ ao hsz HLR.out hcell h120 (HR.out.trans htk)
              clear hcell hfz
              go_wp2_with (go_at_call 93; refine (HT.out _ rfl).mono ?_; rintro r w1 ⟨rfl, hq⟩; obtain ⟨hc, hf⟩ := bcell hq)
              simp only [jumps]
              refine bodyPost_ret (v := .agg #[.int .i64 2, .int .i64 x, .slice none 0 0]) (by simp [results, Tryd.results64, go_sem, *]) rfl ⟨none, 0, 2, x, [], rfl, Or.inr ⟨hs, HC.out⟩, World.ownsRow_nil _ _ _ _, ?_⟩
              repeat (first | exact HBW.out | refine Below.setCell ?_ (by simp) _ | refine Below.trans ?_ (hq.mono (by omega)))
            · have hl : l.length < 120 := by omega
              have HT : Hid (∀ (w' : World), w' = wr → Calls Tryd.prog 93 #[.pointer (some ⟨w.heap.size + 1, 0, none⟩), .string (s.extract x e)] w' fun r w'' => r = .returned (.int .i64 0) ∧ Mem w.heap.size ((w.alloc (.cells #[.int .i64 0, .int .i64 0, .slice none 0 0] 59)).alloc (.cells #[.slice none 0 0] 57)) w'' (l ++ [t])) := fun w' h => by
                subst h
                refine (take_next _ _ _ (w.heap.size + 2) _ ao l hsz HLR.out hcell hfz HOW.out (by omega) hsize hl (HR.out.trans htk)).mono ?_
                rintro r w'' ⟨rfl, g, cap', h1, h2, h3, h4⟩
                exact ⟨rfl, ⟨⟨_, _, by simpa using h1, by simpa using h3⟩, h2, HLO.out.trans h4, Nat.le_trans hsize h4.size, by simp; omega⟩⟩
              have HA : Hid (At s (l ++ [t]) 0 x e) := at_tok HX.out htk hl
              clear hcell hfz htk
              go_wp2_with (go_at_call 93; refine (HT.out _ rfl).mono ?_; rintro r w1 ⟨rfl, hq⟩; have HQ : Hid _ := hq; clear hq)
              go_step3
              exact jj0 x e HQ.out HA.out (by omega)
        · have HK : Hid (∀ w, Calls Tryd.prog 92 #[.string s, .int .i64 (e : Int)] w fun r w' => r = .returned (.int .i64 4) ∧ w' = w) := fun w => kind_of hlt hk w
          have HX : Hid (At s l 3 x e) := at_end HY.out (by rw [getD_byte s e hlt]; intro h; exact absurd h.2 (kind_off hlt 4 hk (by decide)))
          clear hk hb hm
          go_wp2_with (go_at_call 92; refine (HK.out _).mono ?_; rintro r wr ⟨rfl, rfl⟩)
          go_step3
          obtain ⟨⟨ao, cap, hcell, hown⟩, hfz, hlow, hsize, hmany⟩ := hM
          have HOW : Hid (wr.ownsRow (w.heap.size + 2) 74 3 (.slice ao l.length cap) l.length (cellsOf l)) := hown
          have HLO : Hid (Below (w.heap.size + 1) ((w.alloc (.cells #[.int .i64 0, .int .i64 0, .slice none 0 0] 59)).alloc (.cells #[.slice none 0 0] 57)) wr) := hlow
          have HBW : Hid (Below w.heap.size w wr) := (below_two w _ _).trans (hlow.mono (by omega))
          have r0 : wr.cell? ⟨w.heap.size, 0, none⟩ = some (.int .i64 0) := (hlow.cell (by show w.heap.size < _; omega)).trans (res_cell w _ 0 _ rfl)
          have r1 : wr.cell? ⟨w.heap.size, 1, none⟩ = some (.int .i64 0) := (hlow.cell (by show w.heap.size < _; omega)).trans (res_cell w _ 1 _ rfl)
          have r2 : wr.cell? ⟨w.heap.size, 2, none⟩ = some (.slice none 0 0) := (hlow.cell (by show w.heap.size < _; omega)).trans (res_cell w _ 2 _ rfl)
          have f0 : ∀ o, wr.frozen? ⟨w.heap.size, o, none⟩ = false := fun o => (hlow.frozen (by show w.heap.size < _; omega)).trans (res_frozen w _ _ o)
          have hB1 : w.heap.size < wr.heap.size := by omega
          clear hlow hown
          have HLR : Hid (LR wr) := hL.below HBW.out
          have hx : x < s.size := HX.out.1
          have hxe : x < e := HX.out.2.2.1
          have hes2 : e ≤ s.size := HX.out.2.2.2.1
          have HR : Hid (readTok (s.extract x e) = tokAt s x) := by have h := readTok_at s x HX.out.1 HX.out.2.2.2.2.1; rw [← HX.out.2.1] at h; exact h
          have hsl := slice_str s x e (by omega) hes2
          have hsz : (s.extract x e).size ≤ 281474976710656 := by rw [ByteArray.size_extract]; omega
          cases htk : tokAt s x with
          | none =>
            have HC : Hid (Cut s (skip s.data.toList 0) [] 5 (x : Int) []) := HX.out.2.2.2.2.2 _ _ _ (.bad hx htk)
            have HT : Hid (∀ (w' : World), w' = wr → Calls Tryd.prog 93 #[.pointer (some ⟨w.heap.size + 1, 0, none⟩), .string (s.extract x e)] w' fun r w'' => r = .returned (.int .i64 5) ∧ Below w'.heap.size w' w'') := fun w' h => by subst h; exact take_bad _ _ _ hsz HLR.out (HR.out.trans htk)
            clear hcell hfz
            go_wp2_with (go_at_call 93; refine (HT.out _ rfl).mono ?_; rintro r w1 ⟨rfl, hq⟩; obtain ⟨hc, hf⟩ := bcell hq)
            simp only [jumps]
            refine bodyPost_ret (v := .agg #[.int .i64 5, .int .i64 x, .slice none 0 0]) (by simp [results, Tryd.results64, go_sem, *]) rfl ⟨none, 0, 5, x, [], rfl, Or.inr ⟨hs, HC.out⟩, World.ownsRow_nil _ _ _ _, ?_⟩
            repeat (first | exact HBW.out | refine Below.setCell ?_ (by simp) _ | refine Below.trans ?_ (hq.mono (by omega)))
          | some t =>
            by_cases h120 : l.length = 120
            · have _ := h120
              have HC : Hid (Cut s (skip s.data.toList 0) [] 2 (x : Int) []) := HX.out.2.2.2.2.2 _ _ _ (.many hx htk (by omega))
              have HT : Hid (∀ (w' : World), w' = wr → Calls Tryd.prog 93 #[.pointer (some ⟨w.heap.size + 1, 0, none⟩), .string (s.extract x e)] w' fun r w'' => r = .returned (.int .i64 2) ∧ Below w'.heap.size w' w'') := fun w' h => by subst h; exact take_many _ _ _ _ _ ao hsz HLR.out hcell h120 (HR.out.trans htk)
              clear hcell hfz
              go_wp2_with (go_at_call 93; refine (HT.out _ rfl).mono ?_; rintro r w1 ⟨rfl, hq⟩; obtain ⟨hc, hf⟩ := bcell hq)
              simp only [jumps]
              refine bodyPost_ret (v := .agg #[.int .i64 2, .int .i64 x, .slice none 0 0]) (by simp [results, Tryd.results64, go_sem, *]) rfl ⟨none, 0, 2, x, [], rfl, Or.inr ⟨hs, HC.out⟩, World.ownsRow_nil _ _ _ _, ?_⟩
              repeat (first | exact HBW.out | refine Below.setCell ?_ (by simp) _ | refine Below.trans ?_ (hq.mono (by omega)))
            · have hl : l.length < 120 := by omega
              have HT : Hid (∀ (w' : World), w' = wr → Calls Tryd.prog 93 #[.pointer (some ⟨w.heap.size + 1, 0, none⟩), .string (s.extract x e)] w' fun r w'' => r = .returned (.int .i64 0) ∧ Mem w.heap.size ((w.alloc (.cells #[.int .i64 0, .int .i64 0, .slice none 0 0] 59)).alloc (.cells #[.slice none 0 0] 57)) w'' (l ++ [t])) := fun w' h => by
                subst h
                refine (take_next _ _ _ (w.heap.size + 2) _ ao l hsz HLR.out hcell hfz HOW.out (by omega) hsize hl (HR.out.trans htk)).mono ?_
                rintro r w'' ⟨rfl, g, cap', h1, h2, h3, h4⟩
                exact ⟨rfl, ⟨⟨_, _, by simpa using h1, by simpa using h3⟩, h2, HLO.out.trans h4, Nat.le_trans hsize h4.size, by simp; omega⟩⟩
              have HA : Hid (At s (l ++ [t]) 0 x e) := at_tok HX.out htk hl
              clear hcell hfz htk
              go_wp2_with (go_at_call 93; refine (HT.out _ rfl).mono ?_; rintro r w1 ⟨rfl, hq⟩; have HQ : Hid _ := hq; clear hq)
              go_step3
              exact jj0 x e HQ.out HA.out (by omega)
        · have HK : Hid (∀ w, Calls Tryd.prog 92 #[.string s, .int .i64 (e : Int)] w fun r w' => r = .returned (.int .i64 5) ∧ w' = w) := fun w => kind_of hlt hk w
          have HA : Hid (At s l 4 x (e + 1)) := at_on HY.out hlt hm hb
          have HM : Hid (Mem w.heap.size _ wr l) := hM
          clear hk hb hm hM
          go_wp2_with (go_at_call 92; refine (HK.out _).mono ?_; rintro r wr ⟨rfl, rfl⟩)
          go_step3
          exact jj4 x (e + 1) HM.out HA.out (by omega)
      · have HK : Hid (∀ w, Calls Tryd.prog 92 #[.string s, .int .i64 (e : Int)] w fun r w' => r = .returned (.int .i64 0) ∧ w' = w) := fun w => kind_done hlt w
        have HX : Hid (At s l 3 x e) := at_end HY.out (by intro h; exact hlt h.1)
        go_wp2_with (go_at_call 92; refine (HK.out _).mono ?_; rintro r wr ⟨rfl, rfl⟩)
        go_step3
        obtain ⟨⟨ao, cap, hcell, hown⟩, hfz, hlow, hsize, hmany⟩ := hM
        have HOW : Hid (wr.ownsRow (w.heap.size + 2) 74 3 (.slice ao l.length cap) l.length (cellsOf l)) := hown
        have HLO : Hid (Below (w.heap.size + 1) ((w.alloc (.cells #[.int .i64 0, .int .i64 0, .slice none 0 0] 59)).alloc (.cells #[.slice none 0 0] 57)) wr) := hlow
        have HBW : Hid (Below w.heap.size w wr) := (below_two w _ _).trans (hlow.mono (by omega))
        have r0 : wr.cell? ⟨w.heap.size, 0, none⟩ = some (.int .i64 0) := (hlow.cell (by show w.heap.size < _; omega)).trans (res_cell w _ 0 _ rfl)
        have r1 : wr.cell? ⟨w.heap.size, 1, none⟩ = some (.int .i64 0) := (hlow.cell (by show w.heap.size < _; omega)).trans (res_cell w _ 1 _ rfl)
        have r2 : wr.cell? ⟨w.heap.size, 2, none⟩ = some (.slice none 0 0) := (hlow.cell (by show w.heap.size < _; omega)).trans (res_cell w _ 2 _ rfl)
        have f0 : ∀ o, wr.frozen? ⟨w.heap.size, o, none⟩ = false := fun o => (hlow.frozen (by show w.heap.size < _; omega)).trans (res_frozen w _ _ o)
        have hB1 : w.heap.size < wr.heap.size := by omega
        clear hlow hown
        have HLR : Hid (LR wr) := hL.below HBW.out
        have hx : x < s.size := HX.out.1
        have hxe : x < e := HX.out.2.2.1
        have hes2 : e ≤ s.size := HX.out.2.2.2.1
        have HR : Hid (readTok (s.extract x e) = tokAt s x) := by have h := readTok_at s x HX.out.1 HX.out.2.2.2.2.1; rw [← HX.out.2.1] at h; exact h
        have hsl := slice_str s x e (by omega) hes2
        have hsz : (s.extract x e).size ≤ 281474976710656 := by rw [ByteArray.size_extract]; omega
        cases htk : tokAt s x with
        | none =>
          have HC : Hid (Cut s (skip s.data.toList 0) [] 5 (x : Int) []) := HX.out.2.2.2.2.2 _ _ _ (.bad hx htk)
          have HT : Hid (∀ (w' : World), w' = wr → Calls Tryd.prog 93 #[.pointer (some ⟨w.heap.size + 1, 0, none⟩), .string (s.extract x e)] w' fun r w'' => r = .returned (.int .i64 5) ∧ Below w'.heap.size w' w'') := fun w' h => by subst h; exact take_bad _ _ _ hsz HLR.out (HR.out.trans htk)
          clear hcell hfz
          go_wp2_with (go_at_call 93; refine (HT.out _ rfl).mono ?_; rintro r w1 ⟨rfl, hq⟩; obtain ⟨hc, hf⟩ := bcell hq)
          simp only [jumps]
          refine bodyPost_ret (v := .agg #[.int .i64 5, .int .i64 x, .slice none 0 0]) (by simp [results, Tryd.results64, go_sem, *]) rfl ⟨none, 0, 5, x, [], rfl, Or.inr ⟨hs, HC.out⟩, World.ownsRow_nil _ _ _ _, ?_⟩
          repeat (first | exact HBW.out | refine Below.setCell ?_ (by simp) _ | refine Below.trans ?_ (hq.mono (by omega)))
        | some t =>
          by_cases h120 : l.length = 120
          · have _ := h120
            have HC : Hid (Cut s (skip s.data.toList 0) [] 2 (x : Int) []) := HX.out.2.2.2.2.2 _ _ _ (.many hx htk (by omega))
            have HT : Hid (∀ (w' : World), w' = wr → Calls Tryd.prog 93 #[.pointer (some ⟨w.heap.size + 1, 0, none⟩), .string (s.extract x e)] w' fun r w'' => r = .returned (.int .i64 2) ∧ Below w'.heap.size w' w'') := fun w' h => by subst h; exact take_many _ _ _ _ _ ao hsz HLR.out hcell h120 (HR.out.trans htk)
            clear hcell hfz
            go_wp2_with (go_at_call 93; refine (HT.out _ rfl).mono ?_; rintro r w1 ⟨rfl, hq⟩; obtain ⟨hc, hf⟩ := bcell hq)
            simp only [jumps]
            refine bodyPost_ret (v := .agg #[.int .i64 2, .int .i64 x, .slice none 0 0]) (by simp [results, Tryd.results64, go_sem, *]) rfl ⟨none, 0, 2, x, [], rfl, Or.inr ⟨hs, HC.out⟩, World.ownsRow_nil _ _ _ _, ?_⟩
            repeat (first | exact HBW.out | refine Below.setCell ?_ (by simp) _ | refine Below.trans ?_ (hq.mono (by omega)))
          · have hl : l.length < 120 := by omega
            have HT : Hid (∀ (w' : World), w' = wr → Calls Tryd.prog 93 #[.pointer (some ⟨w.heap.size + 1, 0, none⟩), .string (s.extract x e)] w' fun r w'' => r = .returned (.int .i64 0) ∧ Mem w.heap.size ((w.alloc (.cells #[.int .i64 0, .int .i64 0, .slice none 0 0] 59)).alloc (.cells #[.slice none 0 0] 57)) w'' (l ++ [t])) := fun w' h => by
              subst h
              refine (take_next _ _ _ (w.heap.size + 2) _ ao l hsz HLR.out hcell hfz HOW.out (by omega) hsize hl (HR.out.trans htk)).mono ?_
              rintro r w'' ⟨rfl, g, cap', h1, h2, h3, h4⟩
              exact ⟨rfl, ⟨⟨_, _, by simpa using h1, by simpa using h3⟩, h2, HLO.out.trans h4, Nat.le_trans hsize h4.size, by simp; omega⟩⟩
            have HA : Hid (At s (l ++ [t]) 0 x e) := at_tok HX.out htk hl
            clear hcell hfz htk
            go_wp2_with (go_at_call 93; refine (HT.out _ rfl).mono ?_; rintro r w1 ⟨rfl, hq⟩; have HQ : Hid _ := hq; clear hq)
            go_step3
            exact jj0 x e HQ.out HA.out (by omega)
    | n + 5, hA => exact hA.elim
end Go.Proofs.YtoljpgpkeploiaaDoor
/-
  The program's TokensOf and SpotOf: the code, the place and the tokens of a text; nothing that was there is turned.
-/
namespace Go.Proofs.YtoljpgpkeploiaaDoor
open Go.RowKit Go.Extern.Stop Go.Stop Go.Extern Num Go.Lib

theorem implOf_far (s : ByteArray) (w : World) (h : 400 < (s.size : Int)) :
    Calls Tryd.prog 36 #[.string s] w fun e w' => AnsT s w e w' := by
  go_enter Tryd.func36, Tryd.ntmps36
  go_wp2
  refine bodyPost_ret (v := .agg #[.int .i64 2, .int .i64 0, .slice none 0 0]) (by simp [results, Tryd.results36, go_sem]) rfl ⟨none, 0, 2, 0, [], rfl, Or.inl ⟨by omega, rfl, rfl, rfl⟩, World.ownsRow_nil _ _ _ _, ?_⟩
  repeat (first | exact Below.refl _ _ | refine Below.setCell ?_ (by simp) _ | refine Below.alloc ?_ (by simp <;> omega) _)
theorem implOf_near (s : ByteArray) (w : World) (hL : LR w) (h : s.size ≤ 400) :
    Calls Tryd.prog 36 #[.string s] w fun e w' => AnsT s w e w' := by
  have HT : Hid (∀ w, LR w → Calls Tryd.prog 64 #[.string s] w fun e w' => AnsT s w e w') := fun w hL => cut_any s w h hL
  go_enter Tryd.func36, Tryd.ntmps36
  go_wp2_with fail
  refine (HT.out _ (hL.alloc _)).mono ?_
  rintro e w1 ⟨ao, cap, c, a, l, rfl, hcut, hown, hb⟩
  have HO : Hid (World.ownsRow w1 _ 74 3 (.slice ao l.length cap) l.length (cellsOf l)) := hown
  clear hown
  obtain ⟨hc, hf⟩ := bcell hb
  go_wp2
  refine bodyPost_ret (v := .agg #[.int .i64 c, .int .i64 a, .slice ao l.length cap]) (by simp [results, Tryd.results36, go_sem, hc]) rfl ⟨ao, cap, c, a, l, rfl, hcut, ?_, ?_⟩
  · have h1 := own_base HO.out (show w.heap.size ≤ _ by simp)
    have h2 : ∀ g, (Value.slice ao l.length cap).ownBlock = some g → w.heap.size < g := fun g hg => by have := (HO.out.lt g hg).1; simp at this; omega
    repeat (first | exact h1 | refine own_set' ?_ (fun g hg => by have := h2 g hg; show g ≠ w.heap.size; omega) _)
  · repeat (first | exact Below.refl _ _ | refine Below.setCell ?_ (by simp) _ | refine Below.trans ?_ (hb.mono (by simp)) | refine Below.alloc ?_ (by simp <;> omega) _)
theorem implOf_any (s : ByteArray) (w : World) (hL : LR w) : Calls Tryd.prog 36 #[.string s] w fun e w' => AnsT s w e w' := by
  by_cases h : 400 < (s.size : Int)
  · exact implOf_far s w h
  · exact implOf_near s w hL (by omega)
end Go.Proofs.YtoljpgpkeploiaaDoor
