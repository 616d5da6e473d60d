/-
  The program's readNum: of a text that is the text of a number within the bounds that number, of every other text an error; nothing that was there is turned.
-/
import Derived.Test.YtebnonpdaddniaaGreatDoorTextsA
namespace Go.Proofs.YtebnonpdaddniaaGreatDoor
open Go.RowKit Go.Extern.Stop Go.Stop Go.Extern Num Go.Lib

/-- What the listed variables hold that the reading of a number reads. -/
structure LR (w : World) : Prop where
  tab : TB w
  es : ∃ te pe, w.cell? ⟨7, 0, none⟩ = some (.iface te pe)
theorem LR.below {w w' : World} (h : LR w) (hb : Below w.heap.size w w') : LR w' := by
  refine ⟨h.tab.below hb, ?_⟩
  obtain ⟨te, pe, e⟩ := h.es
  exact ⟨te, pe, by rw [hb.cell (lt_of_cell e)]; exact e⟩
theorem LR.alloc {w : World} (h : LR w) (o : Obj) : LR (w.alloc o) := h.below ((Below.refl _ _).alloc (Nat.le_refl _) _)
theorem LR.drew {w : World} (h : LR w) : LR w.drew := h.below (Below.refl _ _).drew

theorem parse_yes (s : ByteArray) (hs : s.size ≤ 11) (v : Int) (h : atoi s.data.toList = some v) (w : World) :
    Calls Tryz.prog 171 #[.string s, .int .i64 10, .int .i64 64] w fun e w' => e = .returned (.tuple #[.int .i64 v, .nilIface]) ∧ Below w.heap.size w w' := by
  have hl : s.data.toList.length ≤ 18 := by
    have : s.data.toList.length = s.size := by rw [Array.length_toList]; rfl
    omega
  refine (parseInt10_ok s (by omega) v (by rw [parseIntB_64, atoiAll_short _ hl, h]; rfl) w).mono ?_
  rintro e w' ⟨rfl, rfl | ⟨t, rfl⟩⟩
  · exact ⟨rfl, Below.refl _ _⟩
  · exact ⟨rfl, bytesWorld_below w _ t⟩
theorem parse_no (s : ByteArray) (hs : s.size ≤ 11) (h : atoi s.data.toList = none) (w : World) (hL : LR w) :
    Calls Tryz.prog 171 #[.string s, .int .i64 10, .int .i64 64] w fun e w' => ∃ N, e = .returned (.tuple #[.int .i64 0, .iface 307 (.pointer (some ⟨N, 0, none⟩))]) ∧ Below w.heap.size w w' := by
  have hl : s.data.toList.length ≤ 18 := by
    have : s.data.toList.length = s.size := by rw [Array.length_toList]; rfl
    omega
  obtain ⟨te, pe, e⟩ := hL.es
  exact parseInt10_no s (by omega) (by rw [parseIntB_64, atoiAll_short _ hl, h]) _ w e (Or.inr ⟨_, _, rfl⟩)

theorem read_long (s : ByteArray) (w : World) (hs : s.size ≤ 9223372036854775807) (h : 11 < s.size) :
    Calls Tryz.prog 128 #[.string s] w fun e w' => e = .returned (.tuple #[.int .i64 0, NN 5]) ∧ w' = w := by
  go_enter Tryz.func128, Tryz.ntmps128
  go_wp2
  go_ret2
  exact ⟨rfl, rfl⟩
theorem read_none (s : ByteArray) (w : World) (hs : s.size ≤ 11) (h : atoi s.data.toList = none) (hL : LR w) :
    Calls Tryz.prog 128 #[.string s] w fun e w' => e = .returned (.tuple #[.int .i64 0, NN 5]) ∧ Below w.heap.size w w' := by
  have HN : Hid (atoi s.data.toList = none) := h
  clear h
  go_enter Tryz.func128, Tryz.ntmps128
  go_wp2_with (go_at_call 171; refine (parse_no _ hs HN.out _ hL).mono ?_; rintro e w1 ⟨N, rfl, hq⟩)
  go_ret2
  exact ⟨rfl, hq⟩
theorem read_far (s : ByteArray) (w : World) (hs : s.size ≤ 11) (v : Int) (h : atoi s.data.toList = some v) (hv : inB v = false) :
    Calls Tryz.prog 128 #[.string s] w fun e w' => e = .returned (.tuple #[.int .i64 0, NN 5]) ∧ Below w.heap.size w w' := by
  have HN : Hid (atoi s.data.toList = some v) := h
  have HV : Hid (inB v = false) := hv
  clear h hv
  go_enter Tryz.func128, Tryz.ntmps128
  go_wp2_with (first | (go_at_call 171; refine (parse_yes _ hs _ HN.out _).mono ?_; rintro e w1 ⟨rfl, hq⟩) | (go_at_call 172; refine (writeNum_no _ _ HV.out).mono ?_; rintro e w2 ⟨rfl, rfl⟩))
  go_ret2
  exact ⟨rfl, hq⟩
theorem read_apart (s : ByteArray) (w : World) (hs : s.size ≤ 11) (v : Int) (h : atoi s.data.toList = some v) (hv : inB v = true) (ha : (!itoa v == s.toList) = true) (hL : LR w) :
    Calls Tryz.prog 128 #[.string s] w fun e w' => e = .returned (.tuple #[.int .i64 0, NN 5]) ∧ Below w.heap.size w w' := by
  have HN : Hid (atoi s.data.toList = some v) := h
  have HV : Hid (inB v = true) := hv
  clear h hv
  go_enter Tryz.func128, Tryz.ntmps128
  go_wp2_with (first | (go_at_call 171; refine (parse_yes _ hs _ HN.out _).mono ?_; rintro e w1 ⟨rfl, hq⟩) | (go_at_call 172; refine (writeNum_yes _ _ HV.out (hL.tab.below hq)).mono ?_; rintro e w2 ⟨rfl, hq2⟩))
  go_ret2
  exact ⟨rfl, hq.trans (hq2.mono hq.size)⟩
theorem read_right (s : ByteArray) (w : World) (hs : s.size ≤ 11) (v : Int) (h : atoi s.data.toList = some v) (hv : inB v = true) (ha : (!itoa v == s.toList) = false) (hL : LR w) :
    Calls Tryz.prog 128 #[.string s] w fun e w' => e = .returned (.tuple #[.int .i64 v, .nilIface]) ∧ Below w.heap.size w w' := by
  have HN : Hid (atoi s.data.toList = some v) := h
  have HV : Hid (inB v = true) := hv
  clear h hv
  go_enter Tryz.func128, Tryz.ntmps128
  go_wp2_with (first | (go_at_call 171; refine (parse_yes _ hs _ HN.out _).mono ?_; rintro e w1 ⟨rfl, hq⟩) | (go_at_call 172; refine (writeNum_yes _ _ HV.out (hL.tab.below hq)).mono ?_; rintro e w2 ⟨rfl, hq2⟩))
  go_ret2
  exact ⟨rfl, hq.trans (hq2.mono hq.size)⟩

theorem len_data (s : ByteArray) : s.data.toList.length = s.size := by rw [Array.length_toList]; rfl
theorem read_good (s : ByteArray) (w : World) (v : Int) (hv : inB v = true) (h : itoa v = s.data.toList) (hL : LR w) :
    Calls Tryz.prog 128 #[.string s] w fun e w' => e = .returned (.tuple #[.int .i64 v, .nilIface]) ∧ Below w.heap.size w w' :=
  read_right s w (by have := itoa_len v hv; rw [h, len_data] at this; exact this) v (by rw [← h]; exact atoi_itoa v) hv (by rw [ByteArray.toList_eq, h]; simp) hL
theorem read_bad (s : ByteArray) (w : World) (hs : s.size ≤ 9223372036854775807) (h : ∀ v, inB v = true → itoa v ≠ s.data.toList) (hL : LR w) :
    Calls Tryz.prog 128 #[.string s] w fun e w' => e = .returned (.tuple #[.int .i64 0, NN 5]) ∧ Below w.heap.size w w' := by
  by_cases hl : 11 < s.size
  · refine (read_long s w hs hl).mono ?_
    rintro e w' ⟨rfl, rfl⟩
    exact ⟨rfl, Below.refl _ _⟩
  · cases ha : atoi s.data.toList with
    | none => exact read_none s w (by omega) ha hL
    | some v =>
      cases hv : inB v with
      | false => exact read_far s w (by omega) v ha hv
      | true => exact read_apart s w (by omega) v ha hv (by rw [ByteArray.toList_eq]; simpa using h v hv) hL

end Go.Proofs.YtebnonpdaddniaaGreatDoor
