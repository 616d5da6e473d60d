/-
  Parts of the proof laid into one text, one behind the other; each says at its head what is proved in it.
-/
import Derived.Test.YtfdkklhigliciaaGreatDoorXaL
import Derived.Test.YtfdkklhigliciaaGreatDoorXaM
import Derived.Test.YtfdkklhigliciaaGreatDoorSpecExFHx
/-
  The program's lambdaOf: the names of a lambda, or the panic that carries a code; nothing that was there is turned.
-/
namespace Go.Proofs.YtfdkklhigliciaaGreatDoor
open Go.RowKit Go.Extern.Stop Go.Stop Go.Extern Num Go.Lib Go.Shelf

/-- Ints in a row lie as they lay. -/
theorem IRow.keepX {w w' : World} {B m : Nat} {ao : Option Addr} {L : List Int} (h : IRow w B ao L) (hm : m < B) (hk : Kx B m w w') : IRow w' B ao L := by
  rcases h with h | ⟨q, off, cs, fr, h1, h2, h3, h4⟩
  · exact .inl h
  · exact .inr ⟨q, off, cs, fr, h1, h2, hk.cells (by omega) typ_nc.2.2.1 h3, h4⟩
theorem IRow.below {w w' : World} {B : Nat} {ao : Option Addr} {L : List Int} (h : IRow w B ao L) (hb : Below w.heap.size w w') : IRow w' B ao L := by
  rcases h with h | ⟨q, off, cs, fr, h1, h2, h3, h4⟩
  · exact .inl h
  · exact .inr ⟨q, off, cs, fr, h1, h2, by rw [hb.block q (Array.getElem?_eq_some_iff.1 h3).1]; exact h3, h4⟩
theorem IRow.base {w : World} {B B' : Nat} {ao : Option Addr} {L : List Int} (h : IRow w B ao L) (hb : B' ≤ B) : IRow w B' ao L := by
  rcases h with h | ⟨q, off, cs, fr, h1, h2, h3, h4⟩
  · exact .inl h
  · exact .inr ⟨q, off, cs, fr, h1, by omega, h3, h4⟩
/-- What lambdaOf answers. -/
def AnsLa (l : List Dat) (L : List Int) (body : Int) (w : World) (e : Ending) (w' : World) : Prop :=
  (((lamC l L).1 = 0 ∧ ∃ nv, e = .returned (.agg #[nv, .int .i64 body]) ∧ w'.ownsRow w.heap.size 9 1 nv (lamC l L).2.length (cellsT (lamC l L).2)) ∨ ((lamC l L).1 ≠ 0 ∧ e = .panicked (pan (lamC l L).1))) ∧ Below w.heap.size w w'
theorem lamC_none {l : List Dat} {L : List Int} (h : parF l L [] = none) : lamC l L = (1, []) := by unfold lamC; rw [h]
theorem lamC_some {l : List Dat} {L : List Int} {N : List ByteArray} (h : parF l L [] = some N) : lamC l L = if 3 < N.length then (2, []) else (0, N) := by unfold lamC; rw [h]
theorem parF_len (l : List Dat) : ∀ (L : List Int) (N M : List ByteArray), parF l L N = some M → M.length = N.length + L.length
  | [], N, M, h => by cases h; simp
  | a :: r, N, M, h => by
    simp only [parF] at h
    split at h
    · have := parF_len l r _ M h; simp at this ⊢; omega
    · cases h
set_option maxRecDepth 100000 in
set_option maxHeartbeats 2000000 in
theorem lambdaOf_any (w : World) (n₀ m tb : Nat) (l : List Dat) (h : Tk w n₀ m tb l) (hn : n₀ ≤ w.heap.size) (hz : ∀ (k : Nat) (h : k < l.length), l[k].name.size ≤ 1048576) (B : Nat) (ao : Option Addr) (cp : Nat) (L : List Int) (hL : IRow w B ao L) (hb : ∀ b ∈ L, ∃ j : Nat, b = (j : Int) ∧ j < l.length) (hl : L.length ≤ 100) (body : Int) :
    Calls Tryz.prog 189 #[.pointer (some ⟨m, 0, none⟩), .slice ao L.length cp, .int .i64 body] w fun e w' => AnsLa l L body w e w' := by
  have HN : Hid (∀ (j : Nat) (hj : j < l.length) (u : World), Below w.heap.size w u → Calls Tryz.prog 107 #[.pointer (some ⟨m, 0, none⟩), .int .i64 (j : Int)] u fun e w' => ((symP l j = true ∧ e = .returned (.string (nameAt l j))) ∨ (symP l j = false ∧ e = .panicked (pan 1))) ∧ Below u.heap.size u w') := fun j hj u hu => nameAt_any u n₀ m tb l (h.below (hu.mono hn)) j hj
  have HB : Hid (∀ b ∈ L, ∃ j : Nat, b = (j : Int) ∧ j < l.length) := hb
  have HL : Hid (IRow w B ao L) := hL
  have HZ : Hid (∀ (j : Nat), j < l.length → (nameAt l j).size ≤ 1048576) := fun j hj => by unfold nameAt; simp [hj]; exact hz j hj
  obtain ⟨i0, hi, hz0, hz1, hz2⟩ := info_parts infoT
  obtain ⟨w1, hw1⟩ : ∃ w1, w1 = w.alloc (.cells #[.slice none 0 0, .int .i64 0] 136) := ⟨_, rfl⟩
  have HW : Hid (w1 = w.alloc (.cells #[.slice none 0 0, .int .i64 0] 136)) := hw1
  have HB1 : Hid (Below w.heap.size w w1) := by show Below _ _ _; rw [hw1]; exact (Below.refl _ w).alloc (Nat.le_refl _) _
  have hs1 : w.heap.size < w1.heap.size := by rw [hw1]; simp
  have HBx : Hid (w1.cell? ⟨w.heap.size, 0, none⟩ = some (.slice none 0 0) ∧ w1.cell? ⟨w.heap.size, 1, none⟩ = some (.int .i64 0) ∧ w1.frozen? ⟨w.heap.size, 0, none⟩ = false ∧ w1.frozen? ⟨w.heap.size, 1, none⟩ = false) := by show _ ∧ _; rw [hw1]; simp [go_sem]
  have HE : Hid (∀ (u : World) (c : Int), c ≠ 0 → (lamC l L).1 = c → Below w1.heap.size w1 u → AnsLa l L body w (.panicked (pan c)) u) := fun u c hc h0 hu => ⟨.inr ⟨by rw [h0]; exact hc, by rw [h0]⟩, HB1.out.trans (hu.mono (by omega))⟩
  clear h hL hb hn hw1 hz
  go_enter Tryz.func189, Tryz.ntmps189
  go_wp2_with fail
  rw [← show w1 = _ from HW.out]
  go_loopw [7, 13] (fun v x wr => ∃ (k : Nat) (an : Option Addr) (c : Nat) (N : List ByteArray), k ≤ L.length ∧ x = .int .i64 (k : Int) ∧ v = .slice an N.length c ∧ N.length ≤ k ∧ Hid (parF l (L.take k) [] = some N) ∧ Hid (wr.ownsRow w1.heap.size 9 1 (.slice an N.length c) N.length (cellsT N)) ∧ Hid (Below w1.heap.size w1 wr)) (fun _ x _ => L.length - (RowKit.intOf x).toNat)
  case atStart => exact ⟨0, none, 0, [], Nat.zero_le _, rfl, rfl, Nat.le_refl _, rfl, World.ownsRow_nil _ _ _ _, Below.refl _ _⟩
  case round =>
    obtain ⟨k, an, c, N, hk, rfl, rfl, hNk, HP, HO, HBr⟩ := hrel
    have hsr : w1.heap.size ≤ wr.heap.size := HBr.out.size
    by_cases hlt : k < L.length
    · have hBw : Below w.heap.size w wr := HB1.out.trans (HBr.out.mono (by omega))
      obtain ⟨q, off, rfl, hcq⟩ := (HL.out.below hBw).at (by intro e; subst e; simp at hlt)
      have c1 := hcq k hlt
      obtain ⟨j, hj, hjl⟩ := HB.out L[k] (List.getElem_mem hlt)
      have HPn := @parF_on l L N k hlt HP.out
      have HPf := @parF_off l L N k hlt HP.out
      rw [hj] at c1 HPn HPf
      have HNa : Hid (Calls Tryz.prog 107 #[.pointer (some ⟨m, 0, none⟩), .int .i64 (j : Int)] wr fun e w' => ((symP l j = true ∧ e = .returned (.string (nameAt l j))) ∨ (symP l j = false ∧ e = .panicked (pan 1))) ∧ Below wr.heap.size wr w') := HN.out j hjl wr hBw
      have hzs := HZ.out j hjl
      clear hcq hj hBw
      cases hsy : symP l j with
      | false =>
        have HC1 : Hid ((lamC l L).1 = 1) := by
          have := HPf (by rw [hsy]; simp)
          show _ = _
          rw [lamC_none this]
        have HNb : Hid (Calls Tryz.prog 107 #[.pointer (some ⟨m, 0, none⟩), .int .i64 (j : Int)] wr fun e w' => e = .panicked (pan 1) ∧ Below wr.heap.size wr w') := HNa.out.mono fun e w' h => by
          rcases h with ⟨⟨h1, _⟩ | ⟨_, h2⟩, h3⟩
          · rw [hsy] at h1; cases h1
          · exact ⟨h2, h3⟩
        clear HPn HPf HNa hzs
        go_wp2_with fail
        refine HNb.out.mono ?_
        rintro e w2 ⟨rfl, hb2⟩
        have HA : Hid (AnsLa l L body w (.panicked (pan 1)) w2) := HE.out _ _ (by decide) HC1.out (HBr.out.trans (hb2.mono hsr))
        clear hb2
        exact ⟨rfl, HA.out⟩
      | true =>
        obtain ⟨z, hze⟩ : ∃ z, z = nameAt l j := ⟨_, rfl⟩
        rw [← hze] at HPn HPf hzs
        have HNb : Hid (Calls Tryz.prog 107 #[.pointer (some ⟨m, 0, none⟩), .int .i64 (j : Int)] wr fun e w' => e = .returned (.string z) ∧ Below wr.heap.size wr w') := HNa.out.mono fun e w' h => by
          rcases h with ⟨⟨_, h1⟩ | ⟨h2, _⟩, h3⟩
          · rw [hze]; exact ⟨h1, h3⟩
          · rw [hsy] at h2; cases h2
        have HCo : Hid (∀ u, Below wr.heap.size wr u → Calls Tryz.prog 202 #[.slice an N.length c, .string z] u fun e w' => e = .returned (.bool (hasN N z)) ∧ w' = u) := fun u hu => containsT_any _ w1.heap.size N z u (by omega) (own_below HO.out hu)
        cases hid : idxF N z with
        | some i =>
          have HC1 : Hid ((lamC l L).1 = 1) := by
            have := HPf (by rw [hsy, hid]; simp)
            show _ = _
            rw [lamC_none this]
          have hh : hasN N z = true := by rw [hasN_idx, hid]; rfl
          rw [hh] at HCo
          clear HPn HPf HNa hh hid hze hzs
          go_wp2_with fail
          refine HNb.out.mono ?_
          rintro e w2 ⟨rfl, hb2⟩
          have HCo2 : Hid (Calls Tryz.prog 202 #[.slice an N.length c, .string z] w2 fun e w' => e = .returned (.bool true) ∧ w' = w2) := HCo.out w2 hb2
          have HA : Hid (AnsLa l L body w (.panicked (pan 1)) w2) := HE.out _ _ (by decide) HC1.out (HBr.out.trans (hb2.mono hsr))
          clear hb2 HCo
          go_wp2_with (first | (go_at_call 202; refine HCo2.out.mono ?_; rintro e w' ⟨rfl, hw'⟩; replace hw' := hw'.symm; subst hw') | (go_at_call 53; refine (demand_no _ _).mono ?_; rintro e wd1 ⟨rfl, hwd⟩; replace hwd := hwd.symm; subst hwd))
          exact ⟨rfl, HA.out⟩
        | none =>
          have HP2 : Hid (parF l (L.take (k + 1)) [] = some (N ++ [z])) := HPn ⟨hsy, hid⟩
          have hh : hasN N z = false := by rw [hasN_idx, hid]; rfl
          rw [hh] at HCo
          clear HPn HPf HNa hh hid hze
          go_wp2_with fail
          refine HNb.out.mono ?_
          rintro e w2 ⟨rfl, hb2⟩
          have HCo2 : Hid (Calls Tryz.prog 202 #[.slice an N.length c, .string z] w2 fun e w' => e = .returned (.bool false) ∧ w' = w2) := HCo.out w2 hb2
          have HO2 : Hid (w2.ownsRow w1.heap.size 9 1 (.slice an N.length c) N.length (cellsT N)) := own_below HO.out hb2
          have HB2 : Hid (Below w1.heap.size w1 w2) := HBr.out.trans (hb2.mono hsr)
          have hs2 : w1.heap.size ≤ w2.heap.size := HB2.out.size
          clear hb2 HCo
          go_wp2_with (first | (go_at_call 202; refine HCo2.out.mono ?_; rintro e w' ⟨rfl, hw'⟩; replace hw' := hw'.symm; subst hw') | (go_at_call 53; refine (demand_yes _ _).mono ?_; rintro e wd1 ⟨rfl, hwd⟩; replace hwd := hwd.symm; subst hwd) | (at_builtin; refine wpList_append_lies _ rfl (.tmp 25) (.tmp 27) 113 rfl w1.heap.size 9 i0 _ 1 16 Tryz.underlying113 hi hz0 hz1 hz2 rfl (by decide) _ N.length (cellsT N) rfl (HO2.out.alloc _) ⟨_, 0, none⟩ 1 1 [.string z] rfl rfl ?c1 ?c2 (by decide) ?c3 ?c4 ?c5 _ rfl ?_))
          case c1 => exact newsT (heap_new' _ _ _ (by simp))
          case c2 => intro u hu; simp at hu; subst hu; rfl
          case c3 => unfold maxLen; omega
          case c4 => omega
          case c5 => simp; omega
          intro g' cap' w3 hown1 hgrow1 _ _
          have HO3 : Hid (w3.ownsRow w1.heap.size 9 1 (.slice (some ⟨g', 0, none⟩) (N ++ [z]).length cap') (N ++ [z]).length (cellsT (N ++ [z]))) := by
            rw [cellsT_append, List.length_append]
            exact hown1
          have HB3 : Hid (Below w1.heap.size w1 w3) := (HB2.out.alloc hs2 _).grown hgrow1 (by simp; omega) (fun j hj => (HO2.out.lt j hj).1)
          clear hown1 hgrow1
          go_wp2
          exact ⟨⟨k + 1, some ⟨g', 0, none⟩, cap', N ++ [z], by omega, by go_num, by simp, by simp; omega, HP2.out, HO3.out, HB3.out⟩, by simp [RowKit.intOf]; omega⟩
    · have HC : Hid (lamC l L = if 3 < N.length then (2, []) else (0, N)) := by
        have := HP.out
        rw [List.take_of_length_le (by omega)] at this
        exact lamC_some this
      by_cases h3 : 3 < N.length
      · have HC1 : Hid ((lamC l L).1 = 2) := by show _ = _; rw [HC.out, if_pos h3]
        have HA : Hid (AnsLa l L body w (.panicked (pan 2)) wr) := HE.out _ _ (by decide) HC1.out HBr.out
        have h3' : decide ((N.length : Int) ≤ 3) = false := decide_eq_false (by omega)
        clear HC HC1 HP HO
        go_wp2_with (first | (go_at_call 53; refine (demand_no _ _).mono ?_; rintro e wd1 ⟨rfl, hwd⟩; replace hwd := hwd.symm; subst hwd))
        exact ⟨rfl, HA.out⟩
      · have HC1 : Hid (lamC l L = (0, N)) := by show _ = _; rw [HC.out, if_neg h3]
        have h3' : decide ((N.length : Int) ≤ 3) = true := decide_eq_true (by omega)
        obtain ⟨q0, q1, q2, q3⟩ := HBx.out
        replace q0 := cell_keep HBr.out q0
        replace q1 := cell_keep HBr.out q1
        have q4 : wr.frozen? ⟨w.heap.size, 0, none⟩ = false := by rw [(bcell HBr.out).2 _ _ (by omega)]; exact q2
        have q5 : wr.frozen? ⟨w.heap.size, 1, none⟩ = false := by rw [(bcell HBr.out).2 _ _ (by omega)]; exact q3
        clear q2 q3 HC HP
        go_wp2_with (first | (go_at_call 53; refine (demand_yes _ _).mono ?_; rintro e wd1 ⟨rfl, hwd⟩; replace hwd := hwd.symm; subst hwd))
        have e0 : ((wr.setCell ⟨w.heap.size, 0, none⟩ (.slice an N.length c)).setCell ⟨w.heap.size, 1, none⟩ (.int .i64 body)).cell? ⟨w.heap.size, 0, none⟩ = some (.slice an N.length c) := by
          rw [World.cell?_setCell_other _ _ _ _ (by intro e; injection e with _ e2 _; exact absurd e2 (by decide))]
          exact World.cell?_setCell_same' _ _ _ (by rw [q0]; rfl)
        have e1 : ((wr.setCell ⟨w.heap.size, 0, none⟩ (.slice an N.length c)).setCell ⟨w.heap.size, 1, none⟩ (.int .i64 body)).cell? ⟨w.heap.size, 1, none⟩ = some (.int .i64 body) := by
          refine World.cell?_setCell_same' _ _ _ ?_
          rw [World.cell?_setCell_other _ _ _ _ (by intro e; injection e with _ e2 _; exact absurd e2 (by decide)), q1]
          rfl
        refine bodyPost_ret (v := .agg #[.slice an N.length c, .int .i64 body]) (by simp [results, Tryz.results189, go_sem, e0, e1]) rfl ⟨.inl ⟨by rw [HC1.out], .slice an N.length c, rfl, ?_⟩, ?_⟩
        · rw [HC1.out]
          have hnb : ∀ gg, (Value.slice an N.length c).ownBlock = some gg → gg ≠ w.heap.size := fun gg hgg => by have := (HO.out.lt gg hgg).1; omega
          exact own_base (own_set' (own_set' HO.out hnb _) hnb _) (by omega)
        · exact Below.setCell (Below.setCell (HB1.out.trans (HBr.out.mono (by omega))) (Nat.le_refl _) _) (Nat.le_refl _) _
end Go.Proofs.YtfdkklhigliciaaGreatDoor
