/-
  Whether a line is of blanks alone: the model's l15Blank, and the program's isBlank over the library's Trim; nothing is turned.
-/
import Derived.Test.YtjcamjdfdalbcaaDoorLLMath
import Derived.Test.YtjcamjdfdalbcaaDoorSpecNum
import Derived.Test.YtjcamjdfdalbcaaDoorRegion
import Derived.Deep.RegionLaw
import Derived.Deep.RegionWith
namespace Go.Proofs.YtjcamjdfdalbcaaDoor
open Go.RowKit Go.Extern.Stop Go.Stop Go.Extern Num Go.Lib

theorem u8_of (b : UInt8) (k : UInt8) (h : ((b.toNat : Int) == (k.toNat : Int)) = true) : b = k := by
  have := eq_of_beq h
  rw [← UInt8.toNat_inj]; omega
theorem blank_all (s : ByteArray) (h : ∀ (k : Nat) (h : k < s.size), s[k] = 32) : blankB s = true := by
  unfold blankB
  rw [List.all_eq_true]
  intro x hx
  obtain ⟨k, hk, rfl⟩ := List.mem_iff_getElem.1 hx
  have hk' : k < s.size := by simpa using hk
  have e : s.data.toList[k] = s[k] := rfl
  rw [e, h k hk']; rfl
theorem blank_not (s : ByteArray) (k : Nat) (h : k < s.size) (hn : s[k] ≠ 32) : blankB s = false := by
  unfold blankB
  rw [List.all_eq_false]
  refine ⟨s[k], ?_, by simpa using hn⟩
  exact List.mem_iff_getElem.2 ⟨k, by simpa using h, rfl⟩
theorem getx (s : ByteArray) (a b k : Nat) (hb : b ≤ s.size) (h : k < (s.extract a b).size) : (s.extract a b)[k]'h = s[a + k]'(by rw [ByteArray.size_extract] at h; omega) := by
  exact ByteArray.getElem_extract h
set_option maxHeartbeats 1000000 in
theorem l15Blank_any (s : ByteArray) (hs : s.size ≤ 1048576) (w : World) :
    Calls Tryd.prog 9 #[.string s] w fun e w' => e = .returned (.bool (blankB s)) ∧ w' = w := by
  obtain ⟨R, hR⟩ : ∃ R, R = blankB s := ⟨_, rfl⟩
  rw [← hR]
  have HR : Hid (R = blankB s) := hR
  clear hR
  go_enter Tryd.func9, Tryd.ntmps9
  go_wp2_with fail
  go_loopw [3] (fun i wr => ∃ k : Nat, k ≤ s.size ∧ i = .int .i64 (k : Int) ∧ Hid (∀ (j : Nat) (h : j < s.size), j < k → s[j] = 32) ∧ Hid (wr = w)) (fun i _ => s.size - (RowKit.intOf i).toNat)
  case atStart => exact ⟨0, Nat.zero_le _, rfl, fun j _ h => by omega, rfl⟩
  case round =>
    obtain ⟨k, hk, rfl, HK, HW⟩ := hrel
    have hw : wr = w := HW.out
    subst hw
    by_cases hlt : k < s.size
    · cases ht : (((s[k]'hlt).toNat : Int) == 32)
      · have HE : Hid (R = false) := by show R = false; rw [HR.out]; exact blank_not s k hlt fun e => by rw [e] at ht; exact absurd ht (by decide)
        go_wp2
        go_ret
        exact ⟨by rw [HE.out]; rfl, rfl⟩
      · have HE : Hid (∀ (j : Nat) (h : j < s.size), j < k + 1 → s[j] = 32) := fun j hj hjk => by
          by_cases e : j < k
          · exact HK.out j hj e
          · have : j = k := by omega
            subst this
            exact u8_of _ 32 ht
        go_wp2
        exact ⟨⟨k + 1, by omega, by go_num, HE.out, trivial⟩, by simp [RowKit.intOf]; omega⟩
    · have HE : Hid (R = true) := by show R = true; rw [HR.out]; exact blank_all s fun j hj => HK.out j hj (by omega)
      go_wp2
      go_ret
      exact ⟨by rw [HE.out]; rfl, rfl⟩
/-- The last one is no blank. -/
def LastOk (x : ByteArray) : Prop := ∀ h : 0 < x.size, x[x.size - 1]'(by omega) ≠ 32
theorem blank_last (x : ByteArray) (h : 0 < x.size) (e : x[x.size - 1]'(by omega) = 32) : blankB (x.extract 0 (x.size - 1)) = blankB x := by
  have hz : (x.extract 0 (x.size - 1)).size = x.size - 1 := by rw [ByteArray.size_extract]; omega
  cases hb : blankB (x.extract 0 (x.size - 1))
  · cases hc : blankB x
    · rfl
    · have := blank_all (x.extract 0 (x.size - 1)) fun k hk => by
        rw [getx x 0 _ k (by omega) hk]
        unfold blankB at hc
        rw [List.all_eq_true] at hc
        have := hc (x[0 + k]'(by omega)) (List.mem_iff_getElem.2 ⟨0 + k, by simp; omega, rfl⟩)
        simpa using this
      rw [this] at hb; cases hb
  · symm
    refine blank_all x fun k hk => ?_
    by_cases hk2 : k = x.size - 1
    · subst hk2; exact e
    · have hk3 : k < (x.extract 0 (x.size - 1)).size := by omega
      have h1 := getx x 0 (x.size - 1) k (by omega) hk3
      unfold blankB at hb
      rw [List.all_eq_true] at hb
      have h2 := hb ((x.extract 0 (x.size - 1))[k]'hk3) (List.mem_iff_getElem.2 ⟨k, by simpa using hk3, rfl⟩)
      rw [h1] at h2
      simpa using h2
theorem lastOk_next (x : ByteArray) (hl : LastOk x) (h : 0 < x.size) (e : x[0] = 32) : LastOk (x.extract 1 x.size) ∧ 0 < (x.extract 1 x.size).size := by
  have hz : (x.extract 1 x.size).size = x.size - 1 := by rw [ByteArray.size_extract]; omega
  have h1 : 1 < x.size := by
    apply Decidable.byContradiction
    intro hn
    have h2 := hl h
    have h3 : x.size - 1 = 0 := by omega
    apply h2
    rw [← e]
    congr 1
  refine ⟨fun hx => ?_, by omega⟩
  rw [getx x 1 x.size _ (by omega) (by omega)]
  have h2 := hl h
  intro h3
  apply h2
  rw [← h3]
  congr 1
  omega
/-- On the way of either trim. -/
structure BlX (s x : ByteArray) : Prop where
  le : x.size ≤ 1048576
  same : blankB x = blankB s
structure TrL (s x : ByteArray) : Prop where
  le : x.size ≤ 1048576
  last : LastOk x
  nil : x.size = 0 ↔ s.size = 0
/-- What is trimmed at the right. -/
structure TrR (s x : ByteArray) : Prop where
  le : x.size ≤ 1048576
  nil : x.size = 0 ↔ blankB s = true
  last : LastOk x
def szOf : Value → Nat
  | .string x => x.size
  | _ => 0
set_option maxHeartbeats 1000000 in
theorem trimR_any (s : ByteArray) (hs : s.size ≤ 1048576) (w : World) :
    Calls Tryd.prog 29 #[.string s, .int .u8 32] w fun e w' => ∃ x : ByteArray, e = .returned (.string x) ∧ TrR s x ∧ w' = w := by
  have HX0 : Hid (BlX s s) := ⟨hs, rfl⟩
  go_enter Tryd.func29, Tryd.ntmps29
  go_wp2_with fail
  go_loopw [0] (fun v wr => ∃ x : ByteArray, v = .string x ∧ Hid (BlX s x) ∧ Hid (wr = w)) (fun v _ => szOf v)
  case atStart => exact ⟨s, rfl, HX0.out, rfl⟩
  case round =>
    obtain ⟨x, rfl, HX, HW⟩ := hrel
    have hw : wr = w := HW.out
    subst hw
    have hz := HX.out.le
    by_cases h0 : 0 < x.size
    · have h1 : x.size - 1 < x.size := by omega
      cases ht : (((x[x.size - 1]'h1).toNat : Int) == 32)
      · have HE : Hid (TrR s x) := by
          refine ⟨hz, ?_, fun _ e => by rw [e] at ht; exact absurd ht (by decide)⟩
          rw [← HX.out.same, blank_not x _ h1 fun e => by rw [e] at ht; exact absurd ht (by decide)]
          constructor
          · intro h; omega
          · intro h; cases h
        go_wp2
        go_ret
        exact ⟨x, rfl, HE.out, rfl⟩
      · have HE : Hid (BlX s (x.extract 0 (x.size - 1))) := ⟨by rw [ByteArray.size_extract]; omega, by rw [blank_last x h0 (u8_of _ 32 ht)]; exact HX.out.same⟩
        have hm : (x.extract 0 (x.size - 1)).size < x.size := by rw [ByteArray.size_extract]; omega
        go_wp2
        exact ⟨⟨_, rfl, HE.out, trivial⟩, hm⟩
    · have HE : Hid (TrR s x) := by
        refine ⟨hz, ?_, fun h => by omega⟩
        rw [← HX.out.same, blank_all x fun k hk => by omega]
        constructor
        · intro _; rfl
        · intro _; omega
      go_wp2
      go_ret
      exact ⟨x, rfl, HE.out, rfl⟩
set_option maxHeartbeats 1000000 in
theorem trimL_any (s : ByteArray) (hs : s.size ≤ 1048576) (hl : LastOk s) (w : World) :
    Calls Tryd.prog 28 #[.string s, .int .u8 32] w fun e w' => ∃ x : ByteArray, e = .returned (.string x) ∧ TrL s x ∧ w' = w := by
  have HX0 : Hid (TrL s s) := ⟨hs, hl, Iff.rfl⟩
  go_enter Tryd.func28, Tryd.ntmps28
  go_wp2_with fail
  go_loopw [0] (fun v wr => ∃ x : ByteArray, v = .string x ∧ Hid (TrL s x) ∧ Hid (wr = w)) (fun v _ => szOf v)
  case atStart => exact ⟨s, rfl, HX0.out, rfl⟩
  case round =>
    obtain ⟨x, rfl, HX, HW⟩ := hrel
    have hw : wr = w := HW.out
    subst hw
    have hz := HX.out.le
    have HE : Hid (TrL s x) := HX.out
    by_cases h0 : 0 < x.size
    · cases ht : (((x[0]'h0).toNat : Int) == 32)
      · go_wp2
        go_ret
        exact ⟨x, rfl, HE.out, rfl⟩
      · have hN := lastOk_next x HX.out.last h0 (u8_of _ 32 ht)
        have HN : Hid (TrL s (x.extract 1 x.size)) := ⟨by rw [ByteArray.size_extract]; omega, hN.1, by have h1 := hN.2; have h2 := HE.out.nil; constructor <;> intro h3 <;> omega⟩
        have hm : (x.extract 1 x.size).size < x.size := by rw [ByteArray.size_extract]; omega
        clear hN
        go_wp2
        exact ⟨⟨_, rfl, HN.out, trivial⟩, hm⟩
    · go_wp2
      go_ret
      exact ⟨x, rfl, HE.out, rfl⟩
set_option maxRecDepth 100000 in
set_option maxHeartbeats 1000000 in
theorem trim_any (s : ByteArray) (hs : s.size ≤ 1048576) (w : World) :
    Calls Tryd.prog 23 #[.string s, .string ⟨#[32]⟩] w fun e w' => ∃ x : ByteArray, e = .returned (.string x) ∧ (x.size = 0 ↔ blankB s = true) ∧ Below w.heap.size w w' := by
  have HR : Hid (∀ u, Calls Tryd.prog 29 #[.string s, .int .u8 32] u fun e w' => ∃ x : ByteArray, e = .returned (.string x) ∧ TrR s x ∧ w' = u) := fun u => trimR_any s hs u
  have HL : Hid (∀ x u, TrR s x → Calls Tryd.prog 28 #[.string x, .int .u8 32] u fun e w' => ∃ y : ByteArray, e = .returned (.string y) ∧ TrL x y ∧ w' = u) := fun x u h => trimL_any x h.le h.last u
  cases he : s.toList.isEmpty
  · go_enter Tryd.func23, Tryd.ntmps23
    go_wp2_with fail
    go_region_with (first
      | (go_at_call 29; refine (HR.out _).mono ?_; rintro e w1 ⟨x, rfl, h1, rfl⟩; have H1 : Hid (TrR s x) := h1; clear h1)
      | (go_at_call 28; refine (HL.out _ _ H1.out).mono ?_; rintro e w1 ⟨y, rfl, h2, rfl⟩; have H2 : Hid (TrL x y) := h2; clear h2)
      | fail)
    all_goals
      go_wp2
      go_ret
      refine ⟨_, rfl, H2.out.nil.trans H1.out.nil, ?_⟩
      repeat (first | exact Below.refl _ _ | refine Below.drew ?_)
  · have h0 : s.size = 0 := by
      rw [List.isEmpty_iff, toList_data] at he
      show s.data.size = 0
      rw [← Array.length_toList, he]; rfl
    have HB : Hid (s.size = 0 ↔ blankB s = true) := by
      show _ ↔ _
      rw [blank_all s fun k hk => by omega]
      exact ⟨fun _ => rfl, fun _ => h0⟩
    clear h0
    go_enter Tryd.func23, Tryd.ntmps23
    go_wp2
    go_ret
    exact ⟨s, rfl, HB.out, Below.refl _ _⟩
set_option maxHeartbeats 1000000 in
theorem isBlank_any (s : ByteArray) (hs : s.size ≤ 1048576) (w : World) :
    Calls Tryd.prog 14 #[.string s] w fun e w' => e = .returned (.bool (blankB s)) ∧ Below w.heap.size w w' := by
  have HT : Hid (∀ u, Calls Tryd.prog 23 #[.string s, .string ⟨#[32]⟩] u fun e w' => ∃ x : ByteArray, e = .returned (.string x) ∧ (x.toList.isEmpty = blankB s) ∧ Below u.heap.size u w') := fun u => (trim_any s hs u).mono fun e w' ⟨x, h1, h2, h3⟩ => ⟨x, h1, by
    rw [Bool.eq_iff_iff, ← h2, List.isEmpty_iff, toList_data, ← List.length_eq_zero_iff]
    simp, h3⟩
  go_enter Tryd.func14, Tryd.ntmps14
  go_wp2_with fail
  refine (HT.out _).mono ?_
  rintro e w1 ⟨x, rfl, hx, hb⟩
  have HX : Hid (x.toList.isEmpty = blankB s) := hx
  have HB : Hid (Below w.heap.size w w1) := hb
  clear hx hb
  go_wp2
  go_ret
  exact ⟨by rw [← HX.out]; rfl, HB.out⟩
end Go.Proofs.YtjcamjdfdalbcaaDoor
