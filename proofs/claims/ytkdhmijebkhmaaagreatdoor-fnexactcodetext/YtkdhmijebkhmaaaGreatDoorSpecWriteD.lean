/-
  The model's l3Write and WriteData: the text of data; nothing that was there is turned.
-/
import Derived.Test.YtkdhmijebkhmaaaGreatDoorCtE
import Derived.Test.YtkdhmijebkhmaaaGreatDoorCtA
import Derived.Test.YtkdhmijebkhmaaaGreatDoorCtC
namespace Go.Proofs.YtkdhmijebkhmaaaGreatDoor
open Go.RowKit Go.Extern.Stop Go.Stop Go.Extern Num Go.Lib

theorem wr_num (g cap a : Nat) (l : List Dat) (w : World) (ha : a < l.length) (hR : RowD w g l) (hk : l[a].kind = 1) (hn : inB l[a].num = true) :
    Calls Tryz.prog 45 #[.slice (some ⟨g, 0, none⟩) l.length cap, .int .i64 (a : Int)] w fun e w' => e = .returned (S (itoa l[a].num)) ∧ Below w.heap.size w w' := by
  obtain ⟨c0, c1, c2, c3⟩ := hR a ha
  rw [hk] at c0
  generalize l[a].num = n at c2 hn ⊢
  have HD : Hid (∀ w, Calls Tryz.prog 25 #[.int .i64 n] w fun e w' => e = .returned (S (itoa n)) ∧ Below w.heap.size w w') := fun w => l1Digits_any n w hn
  clear hn hR hk
  go_enter Tryz.func45, Tryz.ntmps45
  go_wp2_with (go_at_call 25; refine (HD.out _).mono ?_; rintro e w1 ⟨rfl, hq⟩)
  go_ret
  exact ⟨rfl, hq⟩
theorem wr_no (g cap a : Nat) (l : List Dat) (w : World) (ha : a < l.length) (hR : RowD w g l) (hk : l[a].kind = 2) (hn : l[a].num = 0) :
    Calls Tryz.prog 45 #[.slice (some ⟨g, 0, none⟩) l.length cap, .int .i64 (a : Int)] w fun e w' => e = .returned (.string ⟨#[35, 102]⟩) ∧ Below w.heap.size w w' := by
  obtain ⟨c0, c1, c2, c3⟩ := hR a ha
  rw [hk] at c0
  rw [hn] at c2
  have hb : g < w.heap.size := lt_of_cell c0
  clear hn hR hk
  go_enter Tryz.func45, Tryz.ntmps45
  go_wp2
  go_ret
  exact ⟨rfl, (Below.refl _ _).alloc (Nat.le_refl _) _⟩
theorem wr_yes (g cap a : Nat) (l : List Dat) (w : World) (ha : a < l.length) (hR : RowD w g l) (hk : l[a].kind = 2) (hn : l[a].num = 1) :
    Calls Tryz.prog 45 #[.slice (some ⟨g, 0, none⟩) l.length cap, .int .i64 (a : Int)] w fun e w' => e = .returned (.string ⟨#[35, 116]⟩) ∧ Below w.heap.size w w' := by
  obtain ⟨c0, c1, c2, c3⟩ := hR a ha
  rw [hk] at c0
  rw [hn] at c2
  have hb : g < w.heap.size := lt_of_cell c0
  clear hn hR hk
  go_enter Tryz.func45, Tryz.ntmps45
  go_wp2
  go_ret
  exact ⟨rfl, (Below.refl _ _).alloc (Nat.le_refl _) _⟩
theorem wr_sym (g cap a : Nat) (l : List Dat) (w : World) (ha : a < l.length) (hR : RowD w g l) (hk : l[a].kind = 3) :
    Calls Tryz.prog 45 #[.slice (some ⟨g, 0, none⟩) l.length cap, .int .i64 (a : Int)] w fun e w' => e = .returned (.string l[a].name) ∧ Below w.heap.size w w' := by
  obtain ⟨c0, c1, c2, c3⟩ := hR a ha
  rw [hk] at c0
  clear hR hk
  go_enter Tryz.func45, Tryz.ntmps45
  go_wp2
  go_ret
  exact ⟨rfl, Below.refl _ _⟩
set_option maxRecDepth 100000 in
set_option maxHeartbeats 2000000 in
theorem wr_list (g cap a : Nat) (l : List Dat) (L : List Int) (W : Nat → List UInt8) (w : World) (ha : a < l.length) (hR : RowD w g l) (hk : l[a].kind = 4) (hL : L.length ≤ 80)
    (hlen : (joinP W L).length ≤ 1600) (hlW : ∀ (k : Nat) (h : k < L.length), (W (L[k]).toNat).length ≤ 1600)
    (hP : Calls Tryz.prog 64 #[.slice (some ⟨g, 0, none⟩) l.length cap, .int .i64 (a : Int)] w fun e w' => ∃ q c, e = .returned (.slice (some ⟨q, 0, none⟩) L.length c) ∧ w'.ownsRow w.heap.size 2 1 (.slice (some ⟨q, 0, none⟩) L.length c) L.length (cellsI L) ∧ Below w.heap.size w w')
    (hW : ∀ (k : Nat) (h : k < L.length) (w' : World), RowD w' g l → Calls Tryz.prog 45 #[.slice (some ⟨g, 0, none⟩) l.length cap, .int .i64 L[k]] w' fun e w'' => e = .returned (S (W (L[k]).toNat)) ∧ Below w'.heap.size w' w'') :
    Calls Tryz.prog 45 #[.slice (some ⟨g, 0, none⟩) l.length cap, .int .i64 (a : Int)] w fun e w' => e = .returned (S ([40] ++ joinP W L ++ [41])) ∧ Below w.heap.size w w' := by
  have HR : Hid (RowD w g l) := hR
  obtain ⟨c0, c1, c2, c3⟩ := hR a ha
  rw [hk] at c0
  have HP : Hid (Calls Tryz.prog 64 #[.slice (some ⟨g, 0, none⟩) l.length cap, .int .i64 (a : Int)] w fun e w' => ∃ q c, e = .returned (.slice (some ⟨q, 0, none⟩) L.length c) ∧ w'.ownsRow w.heap.size 2 1 (.slice (some ⟨q, 0, none⟩) L.length c) L.length (cellsI L) ∧ Below w.heap.size w w') := hP
  have HW : Hid (∀ (k : Nat) (h : k < L.length) (w' : World), RowD w' g l → Calls Tryz.prog 45 #[.slice (some ⟨g, 0, none⟩) l.length cap, .int .i64 L[k]] w' fun e w'' => e = .returned (S (W (L[k]).toNat)) ∧ Below w'.heap.size w' w'') := hW
  have HL : Hid ((joinP W L).length ≤ 1600) := hlen
  have HV : Hid (∀ (k : Nat) (h : k < L.length), (W (L[k]).toNat).length ≤ 1600) := hlW
  clear hP hW hlen hlW hR hk
  obtain ⟨T, hT⟩ : ∃ T : Nat → ByteArray, ∀ k, T k = ⟨([40] ++ joinP W (L.take k)).toArray⟩ := ⟨_, fun _ => rfl⟩
  have HT : Hid (∀ k, T k = ⟨([40] ++ joinP W (L.take k)).toArray⟩) := hT
  obtain ⟨R, hRR⟩ : ∃ R : ByteArray, R = ⟨([40] ++ joinP W L ++ [41]).toArray⟩ := ⟨_, rfl⟩
  have HRR : Hid (R = ⟨([40] ++ joinP W L ++ [41]).toArray⟩) := hRR
  have hT0 : (⟨#[40]⟩ : ByteArray) = T 0 := by rw [hT]; simp [joinP_nil]
  show Calls _ _ _ w fun e w' => e = .returned (.string ⟨([40] ++ joinP W L ++ [41]).toArray⟩) ∧ Below w.heap.size w w'
  rw [← hRR]
  clear hT hRR
  have HT0 : Hid ((⟨#[40]⟩ : ByteArray) = T 0) := hT0
  clear hT0
  go_enter Tryz.func45, Tryz.ntmps45
  go_wp2_with fail
  refine HP.out.mono ?_
  rintro e w1 ⟨q, c, rfl, hown, hb⟩
  have HO : Hid (w1.ownsRow w.heap.size 2 1 (.slice (some ⟨q, 0, none⟩) L.length c) L.length (cellsI L)) := hown
  have HB : Hid (Below w.heap.size w w1) := hb
  clear hown hb
  go_wp2_with fail
  go_loopw [6, 8] (fun v i wr => ∃ k : Nat, k ≤ L.length ∧ i = .int .i64 (k : Int) ∧ v = .string (T k) ∧ Hid (Below w1.heap.size w1 wr)) (fun _ i _ => L.length - (RowKit.intOf i).toNat)
  case atStart => exact ⟨0, Nat.zero_le _, rfl, by rw [HT0.out], Below.refl _ _⟩
  case round =>
    obtain ⟨k, hk, rfl, rfl, HX⟩ := hrel
    have hs0 : (joinP W (L.take k)).length ≤ 1600 := Nat.le_trans (joinP_take_len W L k hk) HL.out
    have hsT : (T k).size ≤ 1601 := by rw [HT.out]; simp [ByteArray.size]; omega
    by_cases hlt : k < L.length
    · have HRr : Hid (RowD wr g l) := (HR.out.below HB.out).below HX.out
      obtain ⟨U, hU⟩ : ∃ U : ByteArray, U = ⟨(W (L[k]'hlt).toNat).toArray⟩ := ⟨_, rfl⟩
      have hs1 := HV.out k hlt
      have hsU : U.size ≤ 1600 := by rw [hU]; simp [ByteArray.size]; omega
      have HQ : Hid (Calls Tryz.prog 45 #[.slice (some ⟨g, 0, none⟩) l.length cap, .int .i64 (L[k]'hlt)] wr fun e w'' => e = .returned (.string U) ∧ Below wr.heap.size wr w'') := by
        rw [hU]; exact HW.out k hlt wr HRr.out
      have hcI : wr.cell? ⟨q, k, none⟩ = some (.int .i64 (L[k]'hlt)) := rowI_at (own_below HO.out HX.out) k hlt
      by_cases h0 : 0 < (k : Int)
      · have ha1 := fun (w : World) => run_string_add_sum (P := Tryz.prog) w (T k) ⟨#[32]⟩ (by have : (⟨#[32]⟩ : ByteArray).size = 1 := rfl; omega)
        have ha2 := fun (w : World) => run_string_add_sum (P := Tryz.prog) w (T k ++ ⟨#[32]⟩) U (by have : (⟨#[32]⟩ : ByteArray).size = 1 := rfl; rw [ByteArray.size_append]; omega)
        have HJ : Hid (T k ++ ⟨#[32]⟩ ++ U = T (k + 1)) := by
          show _ = _
          rw [HT.out, HT.out, hU, joinP_take W L k hlt (by omega)]
          apply ByteArray.ext
          simp
        clear hs0 hs1 hsT hsU hU
        go_wp2_with (go_at_call 45; refine HQ.out.mono ?_; rintro e w2 ⟨rfl, hq⟩)
        exact ⟨⟨k + 1, by omega, by go_num, by rw [HJ.out], HX.out.trans (hq.mono HX.out.size)⟩, by simp [RowKit.intOf]; omega⟩
      · have ha2 := fun (w : World) => run_string_add_sum (P := Tryz.prog) w (T k) U (by omega)
        have HJ : Hid (T k ++ U = T (k + 1)) := by
          show _ = _
          have hk0 : k = 0 := by omega
          subst hk0
          rw [HT.out, HT.out, hU, joinP_take0 W L hlt]
          apply ByteArray.ext
          simp
        clear hs0 hs1 hsT hsU hU
        go_wp2_with (go_at_call 45; refine HQ.out.mono ?_; rintro e w2 ⟨rfl, hq⟩)
        exact ⟨⟨k + 1, by omega, by go_num, by rw [HJ.out], HX.out.trans (hq.mono HX.out.size)⟩, by simp [RowKit.intOf]; omega⟩
    · have ha2 := fun (w : World) => run_string_add_sum (P := Tryz.prog) w (T k) ⟨#[41]⟩ (by have : (⟨#[41]⟩ : ByteArray).size = 1 := rfl; omega)
      have HJ : Hid (T k ++ ⟨#[41]⟩ = R) := by
        show _ = _
        have hkl : k = L.length := by omega
        rw [HT.out, HRR.out, hkl, List.take_length]
        apply ByteArray.ext
        simp
      clear hs0 hsT
      go_wp2
      go_ret
      rw [HJ.out]
      exact ⟨rfl, HB.out.trans (HX.out.mono HB.out.size)⟩
theorem cell_parts {l : List Dat} (F : Fine l) (a : Nat) (k : Nat) (h : k < (partsD l (a : Int)).length) : ∃ j : Nat, (partsD l (a : Int))[k] = (j : Int) ∧ j < l.length ∧ a < j := by
  obtain ⟨j, h1, h2, h3⟩ := (parts_mem l (a : Int) _).1 (List.getElem_mem h)
  exact ⟨j, h1, h2, F.parlt h2 h3⟩
/-- The text of the datum at a place. -/
theorem l3Write_any (g cap : Nat) (l : List Dat) (F : Fine l) : ∀ (f a : Nat) (w : World), a < l.length → l.length ≤ a + f → RowD w g l →
    Calls Tryz.prog 45 #[.slice (some ⟨g, 0, none⟩) l.length cap, .int .i64 (a : Int)] w fun e w' => e = .returned (S (writeF l f a)) ∧ Below w.heap.size w w' := by
  intro f
  induction f with
  | zero => intro a w h1 h2; omega
  | succ f ih =>
    intro a w ha hf hR
    have hs : ∀ z : ByteArray, S z.data.toList = .string z := fun z => by simp [S]
    rcases F.kinds a ha with ⟨h1, h2, _⟩ | ⟨h1, h2, _⟩ | ⟨h1, _, h2⟩ | ⟨h1, _⟩
    · rw [write_leaf l f a ha (by omega)]
      have e : leafT l[a] = itoa l[a].num := by simp [leafT, h1]
      rw [e]; exact wr_num g cap a l w ha hR h1 h2
    · rw [write_leaf l f a ha (by omega)]
      rcases h2 with h2 | h2
      · have e : leafT l[a] = [35, 102] := by simp [leafT, h1, h2]
        rw [e]; exact wr_no g cap a l w ha hR h1 h2
      · have e : leafT l[a] = [35, 116] := by simp [leafT, h1, h2]
        rw [e]; exact wr_yes g cap a l w ha hR h1 h2
    · rw [write_leaf l f a ha (by omega)]
      have e : leafT l[a] = l[a].name.data.toList := by simp [leafT, h1]
      rw [e, hs]; exact wr_sym g cap a l w ha hR h1
    · rw [write_list l f a ha h1]
      have h80 := F.len
      refine wr_list g cap a l (partsD l (a : Int)) (writeF l f) w ha hR h1 (Nat.le_trans (partsTo_len l _ _) h80) ?_ ?_ (l3Parts_any g cap l (a : Int) w hR (by omega)) ?_
      · have := write_small F (f + 1) a ha
        rw [write_list l f a ha h1] at this
        simp at this
        omega
      · intro k h
        obtain ⟨j, e, hj, _⟩ := cell_parts F a k h
        rw [e]; exact write_small F f j hj
      · intro k h w' hR'
        obtain ⟨j, e, hj, haj⟩ := cell_parts F a k h
        rw [e]
        exact ih j w' hj (by omega) hR'
/-- What WriteData answers. -/
def writeD (l : List Dat) : List UInt8 := writeF l l.length 0
def WD (l : List Dat) : Value := if dataFault l = 0 then (if 400 < (writeD l).length then .agg #[.int .i64 2, .string ⟨#[]⟩] else .agg #[.int .i64 0, S (writeD l)]) else .agg #[.int .i64 (dataFault l), .string ⟨#[]⟩]
end Go.Proofs.YtkdhmijebkhmaaaGreatDoor
