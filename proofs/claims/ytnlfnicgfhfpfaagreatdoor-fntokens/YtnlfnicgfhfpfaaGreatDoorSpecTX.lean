/-
  The model's TokensText, at every list of tokens: its text, or what is wrong with it; nothing that was there is turned.
-/
import Derived.Test.YtnlfnicgfhfpfaaGreatDoorJoinTok
import Derived.Test.YtnlfnicgfhfpfaaGreatDoorEqTok
namespace Go.Proofs.YtnlfnicgfhfpfaaGreatDoor
open Go.RowKit Go.Extern.Stop Go.Stop Go.Extern Num Go.Lib

/-- A world behind the answer's own block, with all as it was. -/
def Box (w wr : World) : Prop := Below (w.alloc (.cells #[.int .i64 0, .string ⟨#[]⟩] 34)).heap.size (w.alloc (.cells #[.int .i64 0, .string ⟨#[]⟩] 34)) wr
theorem Box.facts {w wr : World} (h : Box w wr) : wr.cell? ⟨w.heap.size, 0, none⟩ = some (.int .i64 0) ∧ wr.cell? ⟨w.heap.size, 1, none⟩ = some (.string ⟨#[]⟩) ∧ (∀ o, wr.frozen? ⟨w.heap.size, o, none⟩ = false) ∧ w.heap.size < wr.heap.size ∧ Below w.heap.size w wr := by
  obtain ⟨hc, hf⟩ := bcell h
  have hs : w.heap.size < wr.heap.size := by have := h.size; simp at this; omega
  refine ⟨?_, ?_, fun o => ?_, hs, ((Below.refl _ _).alloc (Nat.le_refl _) _).trans (Below.mono h (by simp))⟩
  · rw [hc _ _ (by simp)]; simp
  · rw [hc _ _ (by simp)]; simp
  · rw [hf _ _ (by simp)]; simp only [World.frozen?]; rw [heap_alloc_new]; simp
theorem Box.trans {w a b : World} (h : Box w a) (hb : Below a.heap.size a b) : Box w b := Below.trans h (hb.mono h.size)
theorem row_tokAt {w : World} {base g cap : Nat} {l : List Tok} (h : w.ownsRow base 37 3 (.slice (some ⟨g, 0, none⟩) l.length cap) l.length (cellsOf l)) (k : Nat) (hk : k < l.length) : TokAt g (k * 3) l[k] w := by
  obtain ⟨h0, h1, h2⟩ := row_at h k hk
  exact ⟨h0, h1, h2⟩
theorem joinT_size (l : List Tok) (k : Nat) (hl : l.length ≤ 120) (h : listFault (l.take k) = 0) : (joinT (l.take k)).size ≤ 1560 := by
  have h1 := joinL_len (l.take k) h
  have h2 : (l.take k).length ≤ 120 := by simp; omega
  have h3 : (joinT (l.take k)).size = (joinL (l.take k)).length := by simp [joinT, ByteArray.size]
  omega
theorem step_first (l : List Tok) (k : Nat) (h : k < l.length) (hk : k = 0) : joinT (l.take k) ++ tokText l[k] = joinT (l.take (k + 1)) := by
  subst hk
  rw [joinT_first l h]
  apply ByteArray.ext
  simp [joinT, joinL_zero]
theorem specTX_many (a : Option Addr) (cap : Nat) (l : List Tok) (w : World) (h : 120 < (l.length : Int)) :
    Calls Tryz.prog 11 #[.slice a l.length cap] w fun e w' => e = .returned (.agg #[.int .i64 2, .string ⟨#[]⟩]) ∧ Below w.heap.size w w' := by
  go_enter Tryz.func11, Tryz.ntmps11
  go_wp2
  exact bodyPost_ret (v := .agg #[.int .i64 2, .string ⟨#[]⟩]) (by simp [results, Tryz.results11, go_sem]) rfl ⟨rfl, by
    repeat (first | exact Below.refl _ _ | refine Below.setCell ?_ (by simp) _ | refine Below.alloc ?_ (by simp <;> omega) _)⟩
set_option maxRecDepth 100000 in
set_option maxHeartbeats 2000000 in
theorem specTX_few (g cap base : Nat) (l : List Tok) (w : World) (hl : ¬ 120 < (l.length : Int)) (hz : ∀ (k : Nat) (h : k < l.length), l[k].name.size ≤ 1048576) (h : w.ownsRow base 37 3 (.slice (some ⟨g, 0, none⟩) l.length cap) l.length (cellsOf l)) :
    Calls Tryz.prog 11 #[.slice (some ⟨g, 0, none⟩) l.length cap] w fun e w' => e = .returned (if listFault l = 0 then .agg #[.int .i64 0, .string (joinT l)] else .agg #[.int .i64 (listFault l), .string ⟨#[]⟩]) ∧ Below w.heap.size w w' := by
  have HZ : Hid (∀ (k : Nat) (h : k < l.length), l[k].name.size ≤ 1048576) := hz
  have HO : Hid (w.ownsRow base 37 3 (.slice (some ⟨g, 0, none⟩) l.length cap) l.length (cellsOf l)) := h
  clear hz h
  obtain ⟨R, hR⟩ : ∃ R : Value, R = (if listFault l = 0 then .agg #[.int .i64 0, .string (joinT l)] else .agg #[.int .i64 (listFault l), .string ⟨#[]⟩]) := ⟨_, rfl⟩
  rw [← hR]
  have H0 : Hid (R = (if listFault l = 0 then .agg #[.int .i64 0, .string (joinT l)] else .agg #[.int .i64 (listFault l), .string ⟨#[]⟩])) := hR
  clear hR
  go_enter Tryz.func11, Tryz.ntmps11
  go_wp2_with fail
  go_loopw [3, 4] (fun v i wr => ∃ k : Nat, k ≤ l.length ∧ v = .string (joinT (l.take k)) ∧ i = .int .i64 (k : Int) ∧ Hid (listFault (l.take k) = 0) ∧ Hid (Box w wr)) (fun _ i _ => l.length - (RowKit.intOf i).toNat)
  case atStart => exact ⟨0, Nat.zero_le _, rfl, rfl, rfl, Below.refl _ _⟩
  case round =>
    obtain ⟨k, hk, rfl, rfl, HF, HX⟩ := hrel
    obtain ⟨b0, b1, bf, bz, hb⟩ := Box.facts HX.out
    have HB : Hid (Below w.heap.size w wr) := hb
    clear hb
    by_cases hlt : k < l.length
    · have HT : Hid (TokAt g (k * 3) (l[k]'hlt) wr) := row_tokAt (own_below HO.out HB.out) k hlt
      have HQ : Hid (Calls Tryz.prog 23 #[.pointer (some ⟨g, k * 3, none⟩)] wr fun e w' => e = .returned (.int .i64 (tokFault (l[k]'hlt))) ∧ w' = wr) := l2Fault_any _ _ _ _ (by have := HZ.out k hlt; omega) HT.out
      have hln : l.length ≤ 120 := by omega
      by_cases hf : tokFault (l[k]'hlt) = 0
      · have HQ0 : Hid (Calls Tryz.prog 23 #[.pointer (some ⟨g, k * 3, none⟩)] wr fun e w' => e = .returned (.int .i64 0) ∧ w' = wr) := by have := HQ.out; rwa [hf] at this
        have HY : Hid (Calls Tryz.prog 24 #[.pointer (some ⟨g, k * 3, none⟩)] wr fun e w' => e = .returned (.string (tokText (l[k]'hlt))) ∧ Below wr.heap.size wr w') := l2Text_any _ _ _ _ hf HT.out
        have HN : Hid (listFault (l.take (k + 1)) = 0) := fault_on l k hlt HF.out hf
        have hs1 := joinT_size l k hln HF.out
        have hs2 := tokText_len (l[k]'hlt) hf
        have HS : Hid (tokFault (l[k]'hlt) = 0) := hf
        clear hf HQ
        by_cases h0 : 0 < (k : Int)
        · have ha1 := fun (w : World) => run_string_add_sum (P := Tryz.prog) w (joinT (l.take k)) ⟨#[32]⟩ (by have : (⟨#[32]⟩ : ByteArray).size = 1 := rfl; omega)
          have ha2 := fun (w : World) => run_string_add_sum (P := Tryz.prog) w (joinT (l.take k) ++ ⟨#[32]⟩) (tokText (l[k]'hlt)) (by have : (⟨#[32]⟩ : ByteArray).size = 1 := rfl; rw [ByteArray.size_append]; omega)
          have HJ : Hid (joinT (l.take k) ++ ⟨#[32]⟩ ++ tokText (l[k]'hlt) = joinT (l.take (k + 1))) := (joinT_next l k hlt (by omega)).symm
          clear hs1 hs2
          go_wp2_with (first | (go_at_call 23; refine HQ0.out.mono ?_; rintro e w' ⟨rfl, rfl⟩) | (go_at_call 24; refine HY.out.mono ?_; rintro e w1 ⟨rfl, hq⟩))
          exact ⟨⟨k + 1, by omega, by rw [HJ.out], by go_num, HN.out, HX.out.trans hq⟩, by simp [RowKit.intOf]; omega⟩
        · have ha2 := fun (w : World) => run_string_add_sum (P := Tryz.prog) w (joinT (l.take k)) (tokText (l[k]'hlt)) (by omega)
          have HJ : Hid (joinT (l.take k) ++ tokText (l[k]'hlt) = joinT (l.take (k + 1))) := step_first l k hlt (by omega)
          clear hs1 hs2
          go_wp2_with (first | (go_at_call 23; refine HQ0.out.mono ?_; rintro e w' ⟨rfl, rfl⟩) | (go_at_call 24; refine HY.out.mono ?_; rintro e w1 ⟨rfl, hq⟩))
          exact ⟨⟨k + 1, by omega, by rw [HJ.out], by go_num, HN.out, HX.out.trans hq⟩, by simp [RowKit.intOf]; omega⟩
      · have HE : Hid (listFault l = tokFault (l[k]'hlt)) := fault_here l k hlt HF.out hf
        have HR : Hid (R = (.agg #[.int .i64 (tokFault (l[k]'hlt)), .string ⟨#[]⟩] : Value)) := by
          show _ = _
          rw [H0.out, HE.out, if_neg hf]
        have hf' : (tokFault (l[k]'hlt) != 0) = true := by simpa using hf
        clear hf
        go_wp2_with (go_at_call 23; refine HQ.out.mono ?_; rintro e w' ⟨rfl, rfl⟩)
        refine bodyPost_ret (v := .agg #[.int .i64 (tokFault (l[k]'hlt)), .string ⟨#[]⟩]) (by simp [results, Tryz.results11, go_sem, b0, b1]) rfl ⟨by rw [HR.out], ?_⟩
        repeat (first | exact HB.out | refine Below.setCell ?_ (by simp) _)
    · have hkl : k = l.length := by omega
      have HR : Hid (R = (.agg #[.int .i64 0, .string (joinT (l.take k))] : Value)) := by
        have h0 := HF.out
        rw [hkl, List.take_length] at h0
        show _ = _
        rw [H0.out, if_pos h0, hkl, List.take_length]
      clear hkl
      go_wp2
      refine bodyPost_ret (v := .agg #[.int .i64 0, .string (joinT (l.take k))]) (by simp [results, Tryz.results11, go_sem, b0, b1]) rfl ⟨by rw [HR.out], ?_⟩
      repeat (first | exact HB.out | refine Below.setCell ?_ (by simp) _)
theorem specTX_any (g cap base : Nat) (l : List Tok) (w : World) (hl : l.length ≤ 1048576) (hz : ∀ (k : Nat) (h : k < l.length), l[k].name.size ≤ 1048576) (h : w.ownsRow base 37 3 (.slice (some ⟨g, 0, none⟩) l.length cap) l.length (cellsOf l)) :
    Calls Tryz.prog 11 #[.slice (some ⟨g, 0, none⟩) l.length cap] w fun e w' => e = .returned (TX l) ∧ Below w.heap.size w w' := by
  by_cases h1 : 120 < l.length
  · have e : TX l = .agg #[.int .i64 2, .string ⟨#[]⟩] := by simp [TX, h1]
    rw [e]; exact specTX_many _ cap l w (by omega)
  · have e : TX l = if listFault l = 0 then .agg #[.int .i64 0, .string (joinT l)] else .agg #[.int .i64 (listFault l), .string ⟨#[]⟩] := by simp [TX, h1]
    rw [e]; exact specTX_few g cap base l w (by omega) hz h
end Go.Proofs.YtnlfnicgfhfpfaaGreatDoor
