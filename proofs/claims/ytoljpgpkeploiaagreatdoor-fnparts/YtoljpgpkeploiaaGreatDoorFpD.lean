/-
  Parts of the proof laid into one text, one behind the other; each says at its head what is proved in it.
-/
import Derived.Test.YtoljpgpkeploiaaGreatDoorTextsA
/-
  The program's readNum: of a text that is the text of a number within the bounds that number, of every other text an error; nothing that was there is turned.
-/
namespace Go.Proofs.YtoljpgpkeploiaaGreatDoor
open Go.RowKit Go.Extern.Stop Go.Stop Go.Extern Num Go.Lib

/-- What the listed variables hold that the reading of a number reads. -/
structure LR (w : World) : Prop where
  tab : TB w
  es : ∃ te pe, w.cell? ⟨2, 0, none⟩ = some (.iface te pe)
theorem LR.below {w w' : World} (h : LR w) (hb : Below w.heap.size w w') : LR w' := by
  refine ⟨h.tab.below hb, ?_⟩
  obtain ⟨te, pe, e⟩ := h.es
  exact ⟨te, pe, by rw [hb.cell (lt_of_cell e)]; exact e⟩
theorem LR.alloc {w : World} (h : LR w) (o : Obj) : LR (w.alloc o) := h.below ((Below.refl _ _).alloc (Nat.le_refl _) _)
theorem LR.drew {w : World} (h : LR w) : LR w.drew := h.below (Below.refl _ _).drew

theorem parse_yes (s : ByteArray) (hs : s.size ≤ 11) (v : Int) (h : atoi s.data.toList = some v) (w : World) :
    Calls Tryz.prog 111 #[.string s, .int .i64 10, .int .i64 64] w fun e w' => e = .returned (.tuple #[.int .i64 v, .nilIface]) ∧ Below w.heap.size w w' := by
  have hl : s.data.toList.length ≤ 18 := by
    have : s.data.toList.length = s.size := by rw [Array.length_toList]; rfl
    omega
  refine (parseInt10_ok s (by omega) v (by rw [parseIntB_64, atoiAll_short _ hl, h]; rfl) w).mono ?_
  rintro e w' ⟨rfl, rfl | ⟨t, rfl⟩⟩
  · exact ⟨rfl, Below.refl _ _⟩
  · exact ⟨rfl, bytesWorld_below w _ t⟩
theorem parse_no (s : ByteArray) (hs : s.size ≤ 11) (h : atoi s.data.toList = none) (w : World) (hL : LR w) :
    Calls Tryz.prog 111 #[.string s, .int .i64 10, .int .i64 64] w fun e w' => ∃ N, e = .returned (.tuple #[.int .i64 0, .iface 206 (.pointer (some ⟨N, 0, none⟩))]) ∧ Below w.heap.size w w' := by
  have hl : s.data.toList.length ≤ 18 := by
    have : s.data.toList.length = s.size := by rw [Array.length_toList]; rfl
    omega
  obtain ⟨te, pe, e⟩ := hL.es
  exact parseInt10_no s (by omega) (by rw [parseIntB_64, atoiAll_short _ hl, h]) _ w e (Or.inr ⟨_, _, rfl⟩)

theorem read_long (s : ByteArray) (w : World) (hs : s.size ≤ 9223372036854775807) (h : 11 < s.size) :
    Calls Tryz.prog 105 #[.string s] w fun e w' => e = .returned (.tuple #[.int .i64 0, NN 5]) ∧ w' = w := by
  go_enter Tryz.func105, Tryz.ntmps105
  go_wp2
  go_ret2
  exact ⟨rfl, rfl⟩
theorem read_none (s : ByteArray) (w : World) (hs : s.size ≤ 11) (h : atoi s.data.toList = none) (hL : LR w) :
    Calls Tryz.prog 105 #[.string s] w fun e w' => e = .returned (.tuple #[.int .i64 0, NN 5]) ∧ Below w.heap.size w w' := by
  have HN : Hid (atoi s.data.toList = none) := h
  clear h
  go_enter Tryz.func105, Tryz.ntmps105
  go_wp2_with (go_at_call 111; refine (parse_no _ hs HN.out _ hL).mono ?_; rintro e w1 ⟨N, rfl, hq⟩)
  go_ret2
  exact ⟨rfl, hq⟩
theorem read_far (s : ByteArray) (w : World) (hs : s.size ≤ 11) (v : Int) (h : atoi s.data.toList = some v) (hv : inB v = false) :
    Calls Tryz.prog 105 #[.string s] w fun e w' => e = .returned (.tuple #[.int .i64 0, NN 5]) ∧ Below w.heap.size w w' := by
  have HN : Hid (atoi s.data.toList = some v) := h
  have HV : Hid (inB v = false) := hv
  clear h hv
  go_enter Tryz.func105, Tryz.ntmps105
  go_wp2_with (first | (go_at_call 111; refine (parse_yes _ hs _ HN.out _).mono ?_; rintro e w1 ⟨rfl, hq⟩) | (go_at_call 99; refine (writeNum_no _ _ HV.out).mono ?_; rintro e w2 ⟨rfl, rfl⟩))
  go_ret2
  exact ⟨rfl, hq⟩
theorem read_apart (s : ByteArray) (w : World) (hs : s.size ≤ 11) (v : Int) (h : atoi s.data.toList = some v) (hv : inB v = true) (ha : (!itoa v == s.toList) = true) (hL : LR w) :
    Calls Tryz.prog 105 #[.string s] w fun e w' => e = .returned (.tuple #[.int .i64 0, NN 5]) ∧ Below w.heap.size w w' := by
  have HN : Hid (atoi s.data.toList = some v) := h
  have HV : Hid (inB v = true) := hv
  clear h hv
  go_enter Tryz.func105, Tryz.ntmps105
  go_wp2_with (first | (go_at_call 111; refine (parse_yes _ hs _ HN.out _).mono ?_; rintro e w1 ⟨rfl, hq⟩) | (go_at_call 99; refine (writeNum_yes _ _ HV.out (hL.tab.below hq)).mono ?_; rintro e w2 ⟨rfl, hq2⟩))
  go_ret2
  exact ⟨rfl, hq.trans (hq2.mono hq.size)⟩
theorem read_right (s : ByteArray) (w : World) (hs : s.size ≤ 11) (v : Int) (h : atoi s.data.toList = some v) (hv : inB v = true) (ha : (!itoa v == s.toList) = false) (hL : LR w) :
    Calls Tryz.prog 105 #[.string s] w fun e w' => e = .returned (.tuple #[.int .i64 v, .nilIface]) ∧ Below w.heap.size w w' := by
  have HN : Hid (atoi s.data.toList = some v) := h
  have HV : Hid (inB v = true) := hv
  clear h hv
  go_enter Tryz.func105, Tryz.ntmps105
  go_wp2_with (first | (go_at_call 111; refine (parse_yes _ hs _ HN.out _).mono ?_; rintro e w1 ⟨rfl, hq⟩) | (go_at_call 99; refine (writeNum_yes _ _ HV.out (hL.tab.below hq)).mono ?_; rintro e w2 ⟨rfl, hq2⟩))
  go_ret2
  exact ⟨rfl, hq.trans (hq2.mono hq.size)⟩

theorem len_data (s : ByteArray) : s.data.toList.length = s.size := by rw [Array.length_toList]; rfl
theorem read_good (s : ByteArray) (w : World) (v : Int) (hv : inB v = true) (h : itoa v = s.data.toList) (hL : LR w) :
    Calls Tryz.prog 105 #[.string s] w fun e w' => e = .returned (.tuple #[.int .i64 v, .nilIface]) ∧ Below w.heap.size w w' :=
  read_right s w (by have := itoa_len v hv; rw [h, len_data] at this; exact this) v (by rw [← h]; exact atoi_itoa v) hv (by rw [ByteArray.toList_eq, h]; simp) hL
theorem read_bad (s : ByteArray) (w : World) (hs : s.size ≤ 9223372036854775807) (h : ∀ v, inB v = true → itoa v ≠ s.data.toList) (hL : LR w) :
    Calls Tryz.prog 105 #[.string s] w fun e w' => e = .returned (.tuple #[.int .i64 0, NN 5]) ∧ Below w.heap.size w w' := by
  by_cases hl : 11 < s.size
  · refine (read_long s w hs hl).mono ?_
    rintro e w' ⟨rfl, rfl⟩
    exact ⟨rfl, Below.refl _ _⟩
  · cases ha : atoi s.data.toList with
    | none => exact read_none s w (by omega) ha hL
    | some v =>
      cases hv : inB v with
      | false => exact read_far s w (by omega) v ha hv
      | true => exact read_apart s w (by omega) v ha hv (by rw [ByteArray.toList_eq]; simpa using h v hv) hL

end Go.Proofs.YtoljpgpkeploiaaGreatDoor
/-
  The model's l1Parse and ParseNum: of a text that is the text of a number within the bounds that number, of every other text none; nothing that was there is turned.
-/
namespace Go.Proofs.YtoljpgpkeploiaaGreatDoor
open Go.RowKit Go.Extern.Stop Go.Stop Go.Extern Num Go.Lib

theorem step_dig (l : List UInt8) (f k m : Nat) (b : UInt8) (hk : l[k]? = some b) (hf : f ≤ k) (h : decFrom 0 ((l.drop f).take (k - f)) = some m) (h1 : 48 ≤ b.toNat) (h2 : b.toNat ≤ 57) :
    decFrom 0 ((l.drop f).take (k + 1 - f)) = some (m * 10 + (b.toNat - 48)) := by
  rw [show k + 1 - f = (k - f) + 1 by omega]
  refine decFrom_take (l.drop f) (k - f) 0 m b _ h ?_ ?_
  · rw [List.getElem?_drop, show f + (k - f) = k by omega]; exact hk
  · unfold digitVal; rw [if_pos ⟨h1, h2⟩]
theorem step_bound (l : List UInt8) (f k m : Nat) (h : decFrom 0 ((l.drop f).take (k - f)) = some m) (hk : k - f ≤ 10) : m < 10000000000 := by
  have h1 := decFrom_lt _ _ _ h
  have h2 : ((l.drop f).take (k - f)).length ≤ 10 := by rw [List.length_take]; omega
  have h3 : 10 ^ ((l.drop f).take (k - f)).length ≤ 10 ^ 10 := Nat.pow_le_pow_right (by omega) h2
  omega
theorem no_dig (l : List UInt8) (f k : Nat) (b : UInt8) (hk : l[k]? = some b) (hf : f ≤ k) (h : ¬ (48 ≤ b.toNat ∧ b.toNat ≤ 57)) : decFrom 0 (l.drop f) = none := by
  cases hd : decFrom 0 (l.drop f) with
  | none => rfl
  | some n =>
    obtain ⟨d, hd'⟩ := digit_of_decFrom _ _ _ hd (k - f) b (by rw [List.getElem?_drop, show f + (k - f) = k by omega]; exact hk)
    unfold digitVal at hd'
    rw [if_neg h] at hd'
    cases hd'

/-- The sign that goes with what is passed over. -/
def sg (f : Nat) (k : Nat) : Int := if f = 1 then -(k : Int) else k
theorem itoa_drop (f : Nat) (l : List UInt8) (v : Int) (hf : (f = 1 ∧ l.head? = some 45) ∨ (f = 0 ∧ l.head? ≠ some 45)) (h : itoa v = l) : l.drop f = decDigits v.natAbs ∧ v = sg f v.natAbs := by
  subst h
  obtain ⟨c, r, e, c1, c2⟩ := decDigits_cons v.toNat
  by_cases hv : v < 0
  · have e1 : itoa v = 45 :: decDigits v.natAbs := by unfold itoa; rw [if_pos hv]
    rcases hf with ⟨rfl, _⟩ | ⟨rfl, h⟩
    · rw [e1]; refine ⟨rfl, ?_⟩
      unfold sg; rw [if_pos rfl]; omega
    · rw [e1] at h; simp at h
  · have e1 : itoa v = decDigits v.toNat := by unfold itoa; rw [if_neg hv]
    have e2 : v.natAbs = v.toNat := by omega
    rcases hf with ⟨rfl, h⟩ | ⟨rfl, _⟩
    · rw [e1, e] at h
      simp at h
      subst h
      simp at c1
    · rw [e1, e2]; refine ⟨rfl, ?_⟩
      unfold sg; rw [if_neg (by omega)]; omega

/-- What l1Parse answers: a number within the bounds whose text it is, or that there is none. -/
def PRes (s : ByteArray) (w : World) (e : Ending) (w' : World) : Prop :=
  ∃ n b, e = .returned (.tuple #[.int .i64 n, .bool b]) ∧ ((b = true ∧ inB n = true ∧ itoa n = s.data.toList) ∨ (b = false ∧ ∀ v, inB v = true → itoa v ≠ s.data.toList)) ∧ Below w.heap.size w w'

theorem pres_len (f : Nat) (s : ByteArray) (hf : (f = 1 ∧ s.data.toList.head? = some 45) ∨ (f = 0 ∧ s.data.toList.head? ≠ some 45)) (h : (s.size : Int) - f < 1 ∨ 10 < (s.size : Int) - f) (v : Int) (hv : inB v = true) : itoa v ≠ s.data.toList := by
  intro e
  obtain ⟨e1, _⟩ := itoa_drop f _ v hf e
  have hl := congrArg List.length e1
  rw [List.length_drop, len_data, decDigits_length] at hl
  rw [inB_iff] at hv
  have := nDigits_le_of_lt v.natAbs 9 (by omega)
  have := nDigits_pos v.natAbs
  omega
theorem pres_dig (f : Nat) (s : ByteArray) (hf : (f = 1 ∧ s.data.toList.head? = some 45) ∨ (f = 0 ∧ s.data.toList.head? ≠ some 45)) (h : decFrom 0 (s.data.toList.drop f) = none) (v : Int) : itoa v ≠ s.data.toList := by
  intro e
  obtain ⟨e1, _⟩ := itoa_drop f _ v hf e
  rw [e1, decFrom_decDigits] at h
  cases h
theorem pres_end (f : Nat) (s : ByteArray) (hf : (f = 1 ∧ s.data.toList.head? = some 45) ∨ (f = 0 ∧ s.data.toList.head? ≠ some 45)) (m : Nat) (h : decFrom 0 (s.data.toList.drop f) = some m) (v : Int) (e : itoa v = s.data.toList) : v = sg f m := by
  obtain ⟨e1, e2⟩ := itoa_drop f _ v hf e
  rw [e1, decFrom_decDigits] at h
  rw [← Option.some.inj h]; exact e2
theorem head_at (s : ByteArray) (h0 : 0 < s.size) : s.data.toList.head? = some (s[0]'h0) := by
  rw [List.head?_eq_getElem?]
  have : (s[0]'h0) = s.data.toList[0]'(by rw [len_data]; exact h0) := rfl
  rw [this, List.getElem?_eq_getElem]
theorem at_k (s : ByteArray) (k : Nat) (h : k < s.size) : s.data.toList[k]? = some (s[k]'h) := by
  have : (s[k]'h) = s.data.toList[k]'(by rw [len_data]; exact h) := rfl
  rw [this, List.getElem?_eq_getElem]

/-- The last line of l1Parse, behind the loop. -/
theorem pres_out (f : Nat) (s : ByteArray) (hf : (f = 1 ∧ s.data.toList.head? = some 45) ∨ (f = 0 ∧ s.data.toList.head? ≠ some 45)) (m : Nat) (h : decFrom 0 (s.data.toList.drop f) = some m) (w w' : World) (b : Bool) (n : Int) (hn : n = sg f m)
    (hb : b = (inB n && (itoa n == s.toList))) (hq : Below w.heap.size w w') : PRes s w (.returned (.tuple #[.int .i64 n, .bool b])) w' := by
  refine ⟨n, b, rfl, ?_, hq⟩
  subst hb
  cases hi : inB n
  · refine Or.inr ⟨by simp, fun v hv e => ?_⟩
    have := pres_end f s hf m h v e
    rw [← hn] at this; subst this
    rw [hv] at hi; cases hi
  · by_cases he : itoa n = s.data.toList
    · exact Or.inl ⟨by rw [ByteArray.toList_eq, he]; simp, rfl, he⟩
    · refine Or.inr ⟨by rw [ByteArray.toList_eq]; simpa using he, fun v hv e => ?_⟩
      have := pres_end f s hf m h v e
      rw [← hn] at this; subst this
      exact he e
theorem pres_no (s : ByteArray) (w : World) (h : ∀ v, inB v = true → itoa v ≠ s.data.toList) : PRes s w (.returned (.tuple #[.int .i64 0, .bool false])) w :=
  ⟨0, false, rfl, Or.inr ⟨rfl, h⟩, Below.refl _ _⟩
end Go.Proofs.YtoljpgpkeploiaaGreatDoor
/-
  The model's l1Parse, walked: it answers as PRes tells.
-/
namespace Go.Proofs.YtoljpgpkeploiaaGreatDoor
open Go.RowKit Go.Extern.Stop Go.Stop Go.Extern Num Go.Lib

/-- How many bytes are passed over: 1 behind a sign. -/
def FromIs (f : Nat) (s : ByteArray) : Prop := (f = 1 ∧ s.data.toList.head? = some 45) ∨ (f = 0 ∧ s.data.toList.head? ≠ some 45)

theorem l1Parse_empty (s : ByteArray) (w : World) (h0 : ¬ 0 < s.size) :
    Calls Tryz.prog 98 #[.string s] w fun e w' => PRes s w e w' := by
  have HP : Hid (PRes s w (.returned (.tuple #[.int .i64 0, .bool false])) w) := pres_no s w (pres_len 0 s (Or.inr ⟨rfl, by
    have : s.data.toList = [] := List.eq_nil_of_length_eq_zero (by rw [len_data]; omega)
    rw [this]; simp⟩) (Or.inl (by omega)))
  go_enter Tryz.func98, Tryz.ntmps98
  go_wp2
  go_ret2
  exact HP.out
set_option maxHeartbeats 1000000 in
theorem l1Parse_neg (s : ByteArray) (w : World) (hs : s.size ≤ 9223372036854775807) (h0 : 0 < s.size) (h45 : (((s[0]'h0).toNat : Int) == 45) = true) :
    Calls Tryz.prog 98 #[.string s] w fun e w' => PRes s w e w' := by
  have HF : FromIs 1 s := Or.inl ⟨rfl, by
    rw [head_at s h0]
    have : (s[0]'h0).toNat = 45 := by have := eq_of_beq h45; omega
    rw [Option.some.injEq, ← UInt8.toNat_inj]; exact this⟩
  by_cases hl : (s.size : Int) - 1 < 1 ∨ 10 < (s.size : Int) - 1
  · have HP : Hid (PRes s w (.returned (.tuple #[.int .i64 0, .bool false])) w) := pres_no s w (pres_len 1 s HF hl)
    rcases hl with hl | hl
    · go_enter Tryz.func98, Tryz.ntmps98
      go_wp2
      go_ret2
      exact HP.out
    · have hl2 : ¬ (s.size : Int) - 1 < 1 := by omega
      go_enter Tryz.func98, Tryz.ntmps98
      go_wp2
      go_ret2
      exact HP.out
  · have hl1 : 1 ≤ (s.size : Int) - 1 := by omega
    have hl2 : (s.size : Int) - 1 ≤ 10 := by omega
    clear hl
    go_enter Tryz.func98, Tryz.ntmps98
    go_wp2
    go_loop [5, 6] (fun n i => ∃ k m : Nat, 1 ≤ k ∧ k ≤ s.size ∧ i = .int .i64 k ∧ n = .int .i64 m ∧ decFrom 0 ((s.data.toList.drop 1).take (k - 1)) = some m) (fun _ i => s.size - (RowKit.intOf i).toNat)
    case atStart => exact ⟨1, 0, by omega, by omega, rfl, rfl, rfl⟩
    case round =>
      obtain ⟨k, m, hk1, hk2, rfl, rfl, hd⟩ := hrel
      have hm := step_bound _ _ _ _ hd (by omega)
      have HD : Hid (decFrom 0 ((s.data.toList.drop 1).take (k - 1)) = some m) := hd
      clear hd
      by_cases hlt : k < s.size
      · by_cases c1 : ((s[k]'hlt).toNat : Int) < 48
        · have HP : Hid (PRes s w (.returned (.tuple #[.int .i64 0, .bool false])) w) := pres_no s w (fun v _ => pres_dig 1 s HF (no_dig _ 1 k _ (at_k s k hlt) hk1 (by omega)) v)
          go_wp2
          go_ret2
          exact HP.out
        · by_cases c2 : 57 < ((s[k]'hlt).toNat : Int)
          · have HP : Hid (PRes s w (.returned (.tuple #[.int .i64 0, .bool false])) w) := pres_no s w (fun v _ => pres_dig 1 s HF (no_dig _ 1 k _ (at_k s k hlt) hk1 (by omega)) v)
            go_wp2
            go_ret2
            exact HP.out
          · have HS : Hid (decFrom 0 ((s.data.toList.drop 1).take (k + 1 - 1)) = some (m * 10 + ((s[k]'hlt).toNat - 48))) := step_dig _ 1 k m _ (at_k s k hlt) hk1 HD.out (by omega) (by omega)
            go_wp2
            go_round
            case rel => exact ⟨k + 1, m * 10 + ((s[k]'hlt).toNat - 48), by omega, by omega, by go_num, by go_num, HS.out⟩
            case measure => simp [RowKit.intOf]; omega
      · have HE : Hid (decFrom 0 (s.data.toList.drop 1) = some m) := by
          have := HD.out
          rwa [List.take_of_length_le (by rw [List.length_drop, len_data]; omega)] at this
        cases hi : inB (-(m : Int))
        · go_wp2_with (first | (go_at_call 56; refine (l1Num_any _ _).mono ?_; rintro e w' ⟨rfl, rfl⟩))
          go_ret2
          exact pres_out 1 s HF m HE.out _ _ _ _ (by simp [sg]) (by rw [hi]; rfl) (Below.refl _ _)
        · have HI : Hid (inB (-(m : Int)) = true) := hi
          go_wp2_with (first | (go_at_call 56; refine (l1Num_any _ _).mono ?_; rintro e w' ⟨rfl, rfl⟩) | (go_at_call 38; refine (l1Digits_any _ _ HI.out).mono ?_; rintro e w1 ⟨rfl, hq⟩))
          go_ret2
          exact pres_out 1 s HF m HE.out _ _ _ _ (by simp [sg]) (by rw [HI.out]; rfl) hq
set_option maxHeartbeats 1000000 in
theorem l1Parse_pos (s : ByteArray) (w : World) (hs : s.size ≤ 9223372036854775807) (h0 : 0 < s.size) (h45 : (((s[0]'h0).toNat : Int) == 45) = false) :
    Calls Tryz.prog 98 #[.string s] w fun e w' => PRes s w e w' := by
  have HF : FromIs 0 s := Or.inr ⟨rfl, by
    rw [head_at s h0]
    intro e
    have e1 := Option.some.inj e
    rw [e1] at h45
    simp at h45⟩
  by_cases hl : (s.size : Int) < 1 ∨ 10 < (s.size : Int)
  · have HP : Hid (PRes s w (.returned (.tuple #[.int .i64 0, .bool false])) w) := pres_no s w (pres_len 0 s HF (by omega))
    rcases hl with hl | hl
    · go_enter Tryz.func98, Tryz.ntmps98
      go_wp2
      go_ret2
      exact HP.out
    · have hl2 : ¬ (s.size : Int) < 1 := by omega
      go_enter Tryz.func98, Tryz.ntmps98
      go_wp2
      go_ret2
      exact HP.out
  · have hl1 : 1 ≤ (s.size : Int) := by omega
    have hl2 : (s.size : Int) ≤ 10 := by omega
    clear hl
    go_enter Tryz.func98, Tryz.ntmps98
    go_wp2
    go_loop [5, 6] (fun n i => ∃ k m : Nat, 0 ≤ k ∧ k ≤ s.size ∧ i = .int .i64 k ∧ n = .int .i64 m ∧ decFrom 0 ((s.data.toList.drop 0).take (k - 0)) = some m) (fun _ i => s.size - (RowKit.intOf i).toNat)
    case atStart => exact ⟨0, 0, by omega, by omega, rfl, rfl, rfl⟩
    case round =>
      obtain ⟨k, m, hk1, hk2, rfl, rfl, hd⟩ := hrel
      have hm := step_bound _ _ _ _ hd (by omega)
      have HD : Hid (decFrom 0 ((s.data.toList.drop 0).take (k - 0)) = some m) := hd
      clear hd
      by_cases hlt : k < s.size
      · by_cases c1 : ((s[k]'hlt).toNat : Int) < 48
        · have HP : Hid (PRes s w (.returned (.tuple #[.int .i64 0, .bool false])) w) := pres_no s w (fun v _ => pres_dig 0 s HF (no_dig _ 0 k _ (at_k s k hlt) hk1 (by omega)) v)
          go_wp2
          go_ret2
          exact HP.out
        · by_cases c2 : 57 < ((s[k]'hlt).toNat : Int)
          · have HP : Hid (PRes s w (.returned (.tuple #[.int .i64 0, .bool false])) w) := pres_no s w (fun v _ => pres_dig 0 s HF (no_dig _ 0 k _ (at_k s k hlt) hk1 (by omega)) v)
            go_wp2
            go_ret2
            exact HP.out
          · have HS : Hid (decFrom 0 ((s.data.toList.drop 0).take (k + 1 - 0)) = some (m * 10 + ((s[k]'hlt).toNat - 48))) := step_dig _ 0 k m _ (at_k s k hlt) hk1 HD.out (by omega) (by omega)
            go_wp2
            go_round
            case rel => exact ⟨k + 1, m * 10 + ((s[k]'hlt).toNat - 48), by omega, by omega, by go_num, by go_num, HS.out⟩
            case measure => simp [RowKit.intOf]; omega
      · have HE : Hid (decFrom 0 (s.data.toList.drop 0) = some m) := by
          have := HD.out
          rwa [List.take_of_length_le (by rw [List.length_drop, len_data]; omega)] at this
        cases hi : inB (m : Int)
        · go_wp2_with (first | (go_at_call 56; refine (l1Num_any _ _).mono ?_; rintro e w' ⟨rfl, rfl⟩))
          go_ret2
          exact pres_out 0 s HF m HE.out _ _ _ _ (by simp [sg]) (by rw [hi]; rfl) (Below.refl _ _)
        · have HI : Hid (inB (m : Int) = true) := hi
          go_wp2_with (first | (go_at_call 56; refine (l1Num_any _ _).mono ?_; rintro e w' ⟨rfl, rfl⟩) | (go_at_call 38; refine (l1Digits_any _ _ HI.out).mono ?_; rintro e w1 ⟨rfl, hq⟩))
          go_ret2
          exact pres_out 0 s HF m HE.out _ _ _ _ (by simp [sg]) (by rw [HI.out]; rfl) hq
theorem l1Parse_any (s : ByteArray) (w : World) (hs : s.size ≤ 9223372036854775807) :
    Calls Tryz.prog 98 #[.string s] w fun e w' => PRes s w e w' := by
  by_cases h0 : 0 < s.size
  · cases h45 : (((s[0]'h0).toNat : Int) == 45)
    · exact l1Parse_pos s w hs h0 h45
    · exact l1Parse_neg s w hs h0 h45
  · exact l1Parse_empty s w h0
end Go.Proofs.YtoljpgpkeploiaaGreatDoor
