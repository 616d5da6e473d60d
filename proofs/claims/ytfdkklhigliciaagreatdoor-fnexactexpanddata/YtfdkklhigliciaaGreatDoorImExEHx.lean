/-
  Parts of the proof laid into one text, one behind the other; each says at its head what is proved in it.
-/
import Derived.Test.YtfdkklhigliciaaGreatDoorImExDHx
/-
  The program's letOf: the names and the values of a let, or the panic that carries a code; nothing that was there is turned.
-/
namespace Go.Proofs.YtfdkklhigliciaaGreatDoor
open Go.RowKit Go.Extern.Stop Go.Stop Go.Extern Num Go.Lib Go.Shelf

/-- What letOf answers. -/
def AnsLe (l : List Dat) (L : List Int) (body : Int) (w : World) (e : Ending) (w' : World) : Prop :=
  (((letC l L).1 = 0 ∧ ∃ nv ao c, e = .returned (.agg #[nv, .int .i64 body, .slice ao (letC l L).2.2.length c]) ∧ w'.ownsRow w.heap.size 9 1 nv (letC l L).2.1.length (cellsT (letC l L).2.1) ∧ IRow w' w.heap.size ao (letC l L).2.2) ∨ ((letC l L).1 ≠ 0 ∧ e = .panicked (pan (letC l L).1))) ∧ Below w.heap.size w w'
theorem letP_append (l : List Dat) : ∀ (A R : List Int), letP l (A ++ R) = (letP l A).bind fun p => (letP l R).map fun q => (p.1 ++ q.1, p.2 ++ q.2)
  | [], R => by cases h : letP l R <;> simp [letP, h]
  | a :: A, R => by
    rcases hp : partsD l a with _ | ⟨x, _ | ⟨y, _ | ⟨z, q⟩⟩⟩
    · simp [letP, hp]
    · simp [letP, hp]
    · simp only [List.cons_append, letP, hp]
      rw [letP_append l A R]
      cases letP l A with
      | none => rfl
      | some p => cases letP l R <;> rfl
    · simp [letP, hp]
theorem letP_on {l : List Dat} {R : List Int} {p : List Int × List Int} {k : Nat} {x y : Int} (hk : k < R.length) (h : letP l (R.take k) = some p) (hx : partsD l R[k] = [x, y]) : letP l (R.take (k + 1)) = some (p.1 ++ [x], p.2 ++ [y]) := by
  rw [List.take_succ_eq_append_getElem hk, letP_append, h]
  simp [letP, hx]
theorem letP_off {l : List Dat} {R : List Int} {p : List Int × List Int} {k : Nat} (hk : k < R.length) (h : letP l (R.take k) = some p) (hx : (partsD l R[k]).length ≠ 2) : letP l R = none := by
  have e : R = R.take k ++ (R[k] :: R.drop (k + 1)) := by rw [← List.drop_eq_getElem_cons hk, List.take_append_drop]
  rw [e, letP_append, h]
  have : letP l (R[k] :: R.drop (k + 1)) = none := by
    rcases hp : partsD l R[k] with _ | ⟨u, _ | ⟨v, _ | ⟨z, q⟩⟩⟩
    · simp [letP, hp]
    · simp [letP, hp]
    · rw [hp] at hx; simp at hx
    · simp [letP, hp]
  rw [this]
  rfl
theorem letP_mem {l : List Dat} (hF : Fine l) : ∀ (L : List Int) (p : List Int × List Int), (∀ b ∈ L, ∃ j : Nat, b = (j : Int) ∧ j < l.length) → letP l L = some p → (∀ b ∈ p.1, ∃ j : Nat, b = (j : Int) ∧ j < l.length) ∧ p.1.length = L.length
  | [], p, _, h => by cases h; simp
  | x :: r, p, hx, h => by
    obtain ⟨j, rfl, hj⟩ := hx x (by simp)
    rcases hp : partsD l j with _ | ⟨u, _ | ⟨v, _ | ⟨z, q⟩⟩⟩
    · simp [letP, hp] at h
    · simp [letP, hp] at h
    · simp only [letP, hp, Option.map_eq_some_iff] at h
      obtain ⟨p', h2, rfl⟩ := h
      obtain ⟨k1, k3⟩ := letP_mem hF r p' (fun b hb => hx b (by simp [hb])) h2
      refine ⟨fun b hb => ?_, by simp [k3]⟩
      rcases List.mem_cons.1 hb with rfl | hb
      · obtain ⟨k, h3, h4, _⟩ := mem_partsD (l := l) hF (a := j) (b := b) (by rw [hp]; simp)
        exact ⟨k, h3, h4⟩
      · exact k1 b hb
    · simp [letP, hp] at h
theorem letC_none {l : List Dat} {L : List Int} (h : letP l L = none) : letC l L = (1, [], []) := by unfold letC; rw [h]
theorem letC_some {l : List Dat} {L : List Int} {p : List Int × List Int} (h : letP l L = some p) : letC l L = if (lamC l p.1).1 = 0 then (0, (lamC l p.1).2, p.2) else ((lamC l p.1).1, [], []) := by unfold letC; rw [h]
set_option maxRecDepth 100000 in
set_option maxHeartbeats 2000000 in
theorem letOf_any (w : World) (n₀ m tb : Nat) (l : List Dat) (h : Tk w n₀ m tb l) (hn : n₀ ≤ w.heap.size) (F : Fine l) (hz : ∀ (k : Nat) (h : k < l.length), l[k].name.size ≤ 1048576) (B : Nat) (ao : Option Addr) (cp : Nat) (L : List Int) (hL : IRow w B ao L) (hb : ∀ b ∈ L, ∃ j : Nat, b = (j : Int) ∧ j < l.length) (hl : L.length ≤ 100) (body : Int) :
    Calls Tryz.prog 190 #[.pointer (some ⟨m, 0, none⟩), .slice ao L.length cp, .int .i64 body] w fun e w' => AnsLe l L body w e w' := by
  have HN : Hid (∀ (j : Nat) (hj : j < l.length) (u : World), Below w.heap.size w u → Calls Tryz.prog 109 #[.pointer (some ⟨m, 0, none⟩), .int .i64 (j : Int)] u fun e w' => AnsPa l j u e w') := fun j hj u hu => partsAt_any u n₀ m tb l (h.below (hu.mono hn)) (Nat.le_trans hn hu.size) F hz j hj
  have HLa : Hid (∀ (u : World) (an : Option Addr) (c B' : Nat) (N : List Int), Below w.heap.size w u → IRow u B' an N → (∀ b ∈ N, ∃ j : Nat, b = (j : Int) ∧ j < l.length) → N.length ≤ 100 → Calls Tryz.prog 189 #[.pointer (some ⟨m, 0, none⟩), .slice an N.length c, .int .i64 body] u fun e w' => AnsLa l N body u e w') := fun u an c B' N hu hi hb hl => lambdaOf_any u n₀ m tb l (h.below (hu.mono hn)) (Nat.le_trans hn hu.size) hz B' an c N hi hb hl body
  have HMem : Hid (∀ p, letP l L = some p → (∀ b ∈ p.1, ∃ j : Nat, b = (j : Int) ∧ j < l.length) ∧ p.1.length = L.length) := fun p hp => letP_mem F L p hb hp
  have HNo : Hid (∀ j : Nat, kindAt l j ≠ 4 → partsD l j = []) := fun j hj => parts_none F hj
  have HB : Hid (∀ b ∈ L, ∃ j : Nat, b = (j : Int) ∧ j < l.length) := hb
  have HL : Hid (IRow w B ao L) := hL
  obtain ⟨i0, hi, hz0, hz1, hz2⟩ := info_parts infoI
  obtain ⟨w1, hw1⟩ : ∃ w1, w1 = w.alloc (.cells #[.slice none 0 0, .int .i64 0, .slice none 0 0] 139) := ⟨_, rfl⟩
  have HW : Hid (w1 = w.alloc (.cells #[.slice none 0 0, .int .i64 0, .slice none 0 0] 139)) := hw1
  have HB1 : Hid (Below w.heap.size w w1) := by show Below _ _ _; rw [hw1]; exact (Below.refl _ w).alloc (Nat.le_refl _) _
  have hs1 : w.heap.size < w1.heap.size := by rw [hw1]; simp
  have HBx : Hid (w1.cell? ⟨w.heap.size, 0, none⟩ = some (.slice none 0 0) ∧ w1.cell? ⟨w.heap.size, 1, none⟩ = some (.int .i64 0) ∧ w1.cell? ⟨w.heap.size, 2, none⟩ = some (.slice none 0 0) ∧ ∀ o, w1.frozen? ⟨w.heap.size, o, none⟩ = false) := by show _ ∧ _; rw [hw1]; simp [go_sem]
  have HE : Hid (∀ (u : World) (c : Int), c ≠ 0 → (letC l L).1 = c → Below w1.heap.size w1 u → AnsLe l L body w (.panicked (pan c)) u) := fun u c hc h0 hu => ⟨.inr ⟨by rw [h0]; exact hc, by rw [h0]⟩, HB1.out.trans (hu.mono (by omega))⟩
  clear h hL hb F hn hw1 hz
  go_enter Tryz.func190, Tryz.ntmps190
  go_wp2_with fail
  rw [← show w1 = _ from HW.out]
  go_loopw [7, 8, 14] (fun v v2 x wr => ∃ (k : Nat) (an : Option Addr) (c : Nat) (N : List Int) (av : Option Addr) (cv : Nat) (V : List Int), k ≤ L.length ∧ x = .int .i64 (k : Int) ∧ v = .slice an N.length c ∧ v2 = .slice av V.length cv ∧ N.length ≤ k ∧ V.length ≤ k ∧ Hid (letP l (L.take k) = some (N, V)) ∧ Hid (wr.ownsRow w1.heap.size 2 1 (.slice an N.length c) N.length (cellsI N) ∧ wr.ownsRow w1.heap.size 2 1 (.slice av V.length cv) V.length (cellsI V) ∧ farV (.slice an N.length c) (.slice av V.length cv)) ∧ Hid (Below w1.heap.size w1 wr)) (fun _ _ x _ => L.length - (RowKit.intOf x).toNat)
  case atStart => exact ⟨0, none, 0, [], none, 0, [], Nat.zero_le _, rfl, rfl, rfl, Nat.le_refl _, Nat.le_refl _, rfl, ⟨World.ownsRow_nil _ _ _ _, World.ownsRow_nil _ _ _ _, fun g hg => by cases hg⟩, Below.refl _ _⟩
  case round =>
    obtain ⟨k, an, c, N, av, cv, V, hk, rfl, rfl, rfl, hNk, hVk, HP, HO, HBr⟩ := hrel
    have hsr : w1.heap.size ≤ wr.heap.size := HBr.out.size
    by_cases hlt : k < L.length
    · have hBw : Below w.heap.size w wr := HB1.out.trans (HBr.out.mono (by omega))
      obtain ⟨q, off, rfl, hcq⟩ := (HL.out.below hBw).at (by intro e; subst e; simp at hlt)
      have c1 := hcq k hlt
      obtain ⟨j, hj, hjl⟩ := HB.out L[k] (List.getElem_mem hlt)
      have HPn := fun x y => @letP_on l L (N, V) k x y hlt HP.out
      have HPf := @letP_off l L (N, V) k hlt HP.out
      rw [hj] at c1 HPn HPf
      have HNa : Hid (Calls Tryz.prog 109 #[.pointer (some ⟨m, 0, none⟩), .int .i64 (j : Int)] wr fun e w' => AnsPa l j wr e w') := HN.out j hjl wr hBw
      clear hcq hj hBw
      by_cases hk4 : kindAt l j = 4
      case neg =>
        have HC1 : Hid ((letC l L).1 = 1) := by
          have := HPf (by rw [HNo.out j hk4]; decide)
          show _ = _
          rw [letC_none this]
        have HNb : Hid (Calls Tryz.prog 109 #[.pointer (some ⟨m, 0, none⟩), .int .i64 (j : Int)] wr fun e w' => e = .panicked (pan 1) ∧ Below wr.heap.size wr w') := HNa.out.mono fun e w' h => by
          rcases h with ⟨⟨h1, _⟩ | ⟨_, h2⟩, h3⟩
          · exact absurd h1 hk4
          · exact ⟨h2, h3⟩
        clear HPn HPf HNa
        go_wp2_with fail
        refine HNb.out.mono ?_
        rintro e w2 ⟨rfl, hb2⟩
        have HA : Hid (AnsLe l L body w (.panicked (pan 1)) w2) := HE.out _ _ (by decide) HC1.out (HBr.out.trans (hb2.mono hsr))
        clear hb2
        exact ⟨rfl, HA.out⟩
      obtain ⟨D, hD⟩ : ∃ D, D = partsD l j := ⟨_, rfl⟩
      rw [← hD] at HPn HPf
      have HNb : Hid (Calls Tryz.prog 109 #[.pointer (some ⟨m, 0, none⟩), .int .i64 (j : Int)] wr fun e w' => (∃ ap cp, e = .returned (.slice ap D.length cp) ∧ w'.ownsRow wr.heap.size 2 1 (.slice ap D.length cp) D.length (cellsI D)) ∧ Below wr.heap.size wr w') := HNa.out.mono fun e w' h => by
        rcases h with ⟨⟨_, h1⟩ | ⟨h2, _⟩, h3⟩
        · rw [hD]; exact ⟨h1, h3⟩
        · exact absurd hk4 h2
      clear HNa hk4 hD
      by_cases hD2 : D.length = 2
      case neg =>
        have HC1 : Hid ((letC l L).1 = 1) := by
          have := HPf hD2
          show _ = _
          rw [letC_none this]
        have hD2' : ((D.length : Int) == 2) = false := beq_false_of_ne (by omega)
        clear HPn HPf hD2
        go_wp2_with fail
        refine HNb.out.mono ?_
        rintro e w2 ⟨⟨ap, cp, rfl, -⟩, hb2⟩
        have HA : Hid (AnsLe l L body w (.panicked (pan 1)) w2) := HE.out _ _ (by decide) HC1.out (HBr.out.trans (hb2.mono hsr))
        clear hb2
        go_wp2_with (first | (go_at_call 53; refine (demand_no _ _).mono ?_; rintro e wd1 ⟨rfl, hwd⟩; replace hwd := hwd.symm; subst hwd))
        exact ⟨rfl, HA.out⟩
      obtain ⟨x, y, rfl⟩ : ∃ x y, D = [x, y] := by
        match D, hD2 with
        | [x, y], _ => exact ⟨x, y, rfl⟩
      have HP2 : Hid (letP l (L.take (k + 1)) = some (N ++ [x], V ++ [y])) := HPn x y rfl
      clear HPn HPf hD2
      go_wp2_with fail
      refine HNb.out.mono ?_
      rintro e w2 ⟨⟨ap, cp, rfl, hop⟩, hb2⟩
      obtain ⟨gp, cp', hsl, -, -⟩ := hop.form (by simp)
      obtain ⟨rfl, rfl⟩ : ap = some ⟨gp, 0, none⟩ ∧ cp = cp' := by simp at hsl; exact hsl
      have hgp := hop.lt gp rfl
      have d0 : w2.cell? ⟨gp, 0, none⟩ = some (.int .i64 x) := hop.cells (g := gp) rfl 0 _ rfl
      have d1 : w2.cell? ⟨gp, 1, none⟩ = some (.int .i64 y) := hop.cells (g := gp) rfl 1 _ rfl
      have HO2 : Hid (w2.ownsRow w1.heap.size 2 1 (.slice an N.length c) N.length (cellsI N) ∧ w2.ownsRow w1.heap.size 2 1 (.slice av V.length cv) V.length (cellsI V)) := ⟨own_below HO.out.1 hb2, own_below HO.out.2.1 hb2⟩
      have HFr : Hid (farV (.slice an N.length c) (.slice av V.length cv)) := HO.out.2.2
      have HNp : Hid ((Value.slice an N.length c).ownBlock ≠ some gp) := fun e => by have := (HO.out.1.lt gp e).2; omega
      have HB2 : Hid (Below w1.heap.size w1 w2) := HBr.out.trans (hb2.mono hsr)
      have hs2 : w1.heap.size ≤ w2.heap.size := HB2.out.size
      have HVl : Hid (∀ g, (Value.slice av V.length cv).ownBlock = some g → g < w2.heap.size) := fun g hg => (HO2.out.2.lt g hg).2
      have D1 : Hid (w2.cell? ⟨gp, 1, none⟩ = some (.int .i64 y)) := d1
      have hgp2 : gp < w2.heap.size := hgp.2
      clear hb2 hop hgp hsl HO
      go_wp2_with (first | (go_at_call 53; refine (demand_yes _ _).mono ?_; rintro e wd1 ⟨rfl, hwd⟩; replace hwd := hwd.symm; subst hwd) | (at_builtin; refine wpList_append_lies _ rfl (.tmp 25) (.tmp 29) 81 rfl w1.heap.size 2 i0 _ 1 8 Tryz.underlying81 hi hz0 hz1 hz2 rfl (by decide) _ N.length (cellsI N) rfl (HO2.out.1.alloc _) ⟨_, 0, none⟩ 1 1 [.int .i64 x] rfl rfl ?c1 ?c2 (by decide) ?c3 ?c4 ?c5 _ rfl ?_))
      case c1 => exact newsI (heap_new' _ _ _ (by simp))
      case c2 => intro u hu; simp at hu; subst hu; rfl
      case c3 => unfold maxLen; omega
      case c4 => omega
      case c5 => simp; omega
      intro g' cap' w3 hown1 hgrow1 hat1 _
      have HO3 : Hid (w3.ownsRow w1.heap.size 2 1 (.slice (some ⟨g', 0, none⟩) (N ++ [x]).length cap') (N ++ [x]).length (cellsI (N ++ [x]))) := by
        rw [cellsI_append, List.length_append]
        exact hown1
      have HV3 : Hid (w3.ownsRow w1.heap.size 2 1 (.slice av V.length cv) V.length (cellsI V)) := own_apart (HO2.out.2.alloc _) hgrow1 (fun g hg e => HFr.out g e hg)
      have HF3 : Hid (farV (.slice (some ⟨g', 0, none⟩) (N ++ [x]).length cap') (.slice av V.length cv)) := fun g hg e => by
        have h7 : g' = g := by simpa [Value.ownBlock] using hg
        subst h7
        rcases hat1 with h8 | h8
        · exact HFr.out _ h8 e
        · have := HVl.out _ e
          have h9 := h8
          try simp only [World.size_alloc] at h9
          omega
      have HB3 : Hid (Below w1.heap.size w1 w3) := (HB2.out.alloc hs2 _).grown hgrow1 (by simp; omega) (fun j hj => (HO2.out.1.lt j hj).1)
      have d3 : w3.cell? ⟨gp, 1, none⟩ = some (.int .i64 y) := hgrow1.cell (cell_laid _ D1.out) (fun e => HNp.out e.symm)
      have hs3 : w1.heap.size ≤ w3.heap.size := HB3.out.size
      clear hown1 hgrow1 hat1 D1 HNp HVl HO2 HFr d1
      go_wp2_with (first | (at_builtin; refine wpList_append_lies _ rfl (.tmp 31) (.tmp 35) 81 rfl w1.heap.size 2 i0 _ 1 8 Tryz.underlying81 hi hz0 hz1 hz2 rfl (by decide) _ V.length (cellsI V) rfl (HV3.out.alloc _) ⟨_, 0, none⟩ 1 1 [.int .i64 y] rfl rfl ?c1 ?c2 (by decide) ?c3 ?c4 ?c5 _ rfl ?_))
      case c1 => exact newsI (heap_new' _ _ _ (by simp))
      case c2 => intro u hu; simp at hu; subst hu; rfl
      case c3 => unfold maxLen; omega
      case c4 => omega
      case c5 => simp; omega
      intro g4 cap4 w4 hown2 hgrow2 hat2 _
      have HV4 : Hid (w4.ownsRow w1.heap.size 2 1 (.slice (some ⟨g4, 0, none⟩) (V ++ [y]).length cap4) (V ++ [y]).length (cellsI (V ++ [y]))) := by
        rw [cellsI_append, List.length_append]
        exact hown2
      have HO4 : Hid (w4.ownsRow w1.heap.size 2 1 (.slice (some ⟨g', 0, none⟩) (N ++ [x]).length cap') (N ++ [x]).length (cellsI (N ++ [x]))) := own_apart (HO3.out.alloc _) hgrow2 (fun g hg e => HF3.out g hg e)
      have HF4 : Hid (farV (.slice (some ⟨g', 0, none⟩) (N ++ [x]).length cap') (.slice (some ⟨g4, 0, none⟩) (V ++ [y]).length cap4)) := fun g hg e => by
        have h7 : g4 = g := by simpa [Value.ownBlock] using e
        subst h7
        rcases hat2 with h8 | h8
        · exact HF3.out _ hg h8
        · have := (HO3.out.lt _ hg).2; have h9 := h8; try simp only [World.size_alloc] at h9
          omega
      have HB4 : Hid (Below w1.heap.size w1 w4) := (HB3.out.alloc hs3 _).grown hgrow2 (by simp; omega) (fun j hj => (HV3.out.lt j hj).1)
      clear hown2 hgrow2 hat2 d3
      go_wp2
      exact ⟨⟨k + 1, some ⟨g', 0, none⟩, cap', N ++ [x], some ⟨g4, 0, none⟩, cap4, V ++ [y], by omega, by go_num, by simp, by simp, by simp; omega, by simp; omega, HP2.out, ⟨HO4.out, HV4.out, HF4.out⟩, HB4.out⟩, by simp [RowKit.intOf]; omega⟩
    · have hPk : letP l L = some (N, V) := by
        have := HP.out
        rw [List.take_of_length_le (by omega)] at this
        exact this
      have HC : Hid (letC l L = if (lamC l N).1 = 0 then (0, (lamC l N).2, V) else ((lamC l N).1, [], [])) := letC_some hPk
      obtain ⟨hm1, hm2⟩ := HMem.out _ hPk
      have hNl : N.length ≤ 100 := by have h9 : N.length = L.length := hm2; omega
      have hBw : Below w.heap.size w wr := HB1.out.trans (HBr.out.mono (by omega))
      have HCl : Hid (Calls Tryz.prog 189 #[.pointer (some ⟨m, 0, none⟩), .slice an N.length c, .int .i64 body] wr fun e w' => AnsLa l N body wr e w') := HLa.out wr an c w1.heap.size N hBw (IRow.of HO.out.1 (Nat.le_refl _)) hm1 hNl
      have HV : Hid (wr.ownsRow w1.heap.size 2 1 (.slice av V.length cv) V.length (cellsI V)) := HO.out.2.1
      clear hm1 hm2 hPk hBw HP HO
      by_cases h0 : (lamC l N).1 = 0
      case neg =>
        have HC1 : Hid ((letC l L).1 = (lamC l N).1) := by show _ = _; rw [HC.out, if_neg h0]
        have HCm : Hid (Calls Tryz.prog 189 #[.pointer (some ⟨m, 0, none⟩), .slice an N.length c, .int .i64 body] wr fun e w' => e = .panicked (pan (lamC l N).1) ∧ Below wr.heap.size wr w') := HCl.out.mono fun e w' h => by
          rcases h with ⟨⟨h1, _⟩ | ⟨_, h2⟩, h3⟩
          · exact absurd h1 h0
          · exact ⟨h2, h3⟩
        have HH : Hid ((lamC l N).1 ≠ 0) := h0
        generalize (lamC l N).1 = cc at HC1 HCm HH
        clear HC HCl h0
        go_wp2_with fail
        refine HCm.out.mono ?_
        rintro e w2 ⟨rfl, hb2⟩
        have HA : Hid (AnsLe l L body w (.panicked (pan cc)) w2) := HE.out _ _ HH.out HC1.out (HBr.out.trans (hb2.mono hsr))
        clear hb2
        exact ⟨rfl, HA.out⟩
      have HC1 : Hid (letC l L = (0, (lamC l N).2, V)) := by show _ = _; rw [HC.out, if_pos h0]
      have HCm : Hid (Calls Tryz.prog 189 #[.pointer (some ⟨m, 0, none⟩), .slice an N.length c, .int .i64 body] wr fun e w' => (∃ ax cx, e = .returned (.agg #[.slice ax (lamC l N).2.length cx, .int .i64 body]) ∧ w'.ownsRow wr.heap.size 9 1 (.slice ax (lamC l N).2.length cx) (lamC l N).2.length (cellsT (lamC l N).2)) ∧ Below wr.heap.size wr w') := HCl.out.mono fun e w' h => by
        rcases h with ⟨⟨_, nv, h1, h2⟩ | ⟨h1, _⟩, h3⟩
        · obtain ⟨ax, cx, rfl⟩ := own_form h2
          exact ⟨⟨ax, cx, h1, h2⟩, h3⟩
        · exact absurd h0 h1
      generalize (lamC l N).2 = M at HC1 HCm
      clear HC HCl h0
      go_wp2_with fail
      refine HCm.out.mono ?_
      rintro e w2 ⟨⟨ax, cx, rfl, hox⟩, hb2⟩
      obtain ⟨q0, q1, q2, q3⟩ := HBx.out
      have hB2 : Below w1.heap.size w1 w2 := HBr.out.trans (hb2.mono hsr)
      have b0 := cell_keep hB2 q0
      have b1 := cell_keep hB2 q1
      have b2 := cell_keep hB2 q2
      have bf : ∀ o, w2.frozen? ⟨w.heap.size, o, none⟩ = false := fun o => by rw [(bcell hB2).2 _ _ (by omega)]; exact q3 o
      have HX : Hid (w2.ownsRow wr.heap.size 9 1 (.slice ax M.length cx) M.length (cellsT M)) := hox
      have HV2 : Hid (w2.ownsRow w1.heap.size 2 1 (.slice av V.length cv) V.length (cellsI V)) := own_below HV.out hb2
      have HB2 : Hid (Below w1.heap.size w1 w2) := hB2
      clear q0 q1 q2 q3 hB2 hb2 hox HCm HV
      go_wp2_with fail
      have e0 : (((w2.setCell ⟨w.heap.size, 0, none⟩ (.slice ax M.length cx)).setCell ⟨w.heap.size, 1, none⟩ (.int .i64 body)).setCell ⟨w.heap.size, 2, none⟩ (.slice av V.length cv)).cell? ⟨w.heap.size, 0, none⟩ = some (.slice ax M.length cx) := by
        rw [World.cell?_setCell_other _ _ _ _ (by intro e; injection e with _ e2 _; exact absurd e2 (by decide)), World.cell?_setCell_other _ _ _ _ (by intro e; injection e with _ e2 _; exact absurd e2 (by decide))]
        exact World.cell?_setCell_same' _ _ _ (by rw [b0]; rfl)
      have e1 : (((w2.setCell ⟨w.heap.size, 0, none⟩ (.slice ax M.length cx)).setCell ⟨w.heap.size, 1, none⟩ (.int .i64 body)).setCell ⟨w.heap.size, 2, none⟩ (.slice av V.length cv)).cell? ⟨w.heap.size, 1, none⟩ = some (.int .i64 body) := by
        rw [World.cell?_setCell_other _ _ _ _ (by intro e; injection e with _ e2 _; exact absurd e2 (by decide))]
        refine World.cell?_setCell_same' _ _ _ ?_
        rw [World.cell?_setCell_other _ _ _ _ (by intro e; injection e with _ e2 _; exact absurd e2 (by decide)), b1]
        rfl
      have e2 : (((w2.setCell ⟨w.heap.size, 0, none⟩ (.slice ax M.length cx)).setCell ⟨w.heap.size, 1, none⟩ (.int .i64 body)).setCell ⟨w.heap.size, 2, none⟩ (.slice av V.length cv)).cell? ⟨w.heap.size, 2, none⟩ = some (.slice av V.length cv) := by
        refine World.cell?_setCell_same' _ _ _ ?_
        rw [World.cell?_setCell_other _ _ _ _ (by intro e; injection e with _ e2 _; exact absurd e2 (by decide)), World.cell?_setCell_other _ _ _ _ (by intro e; injection e with _ e2 _; exact absurd e2 (by decide)), b2]
        rfl
      refine bodyPost_ret (v := .agg #[.slice ax M.length cx, .int .i64 body, .slice av V.length cv]) (by simp [results, Tryz.results190, go_sem, e0, e1, e2]) rfl ⟨.inl ⟨by rw [HC1.out], .slice ax M.length cx, av, cv, by rw [HC1.out], ?_, ?_⟩, ?_⟩
      · rw [HC1.out]
        have hnb : ∀ gg, (Value.slice ax M.length cx).ownBlock = some gg → gg ≠ w.heap.size := fun gg hgg => by have := (HX.out.lt gg hgg).1; omega
        exact own_base (own_set' (own_set' (own_set' HX.out hnb _) hnb _) hnb _) (by omega)
      · rw [HC1.out]
        have hnb : ∀ gg, (Value.slice av V.length cv).ownBlock = some gg → gg ≠ w.heap.size := fun gg hgg => by have := (HV2.out.lt gg hgg).1; omega
        exact IRow.of (own_set' (own_set' (own_set' HV2.out hnb _) hnb _) hnb _) (by omega)
      · exact Below.setCell (Below.setCell (Below.setCell (HB1.out.trans (HB2.out.mono (by omega))) (Nat.le_refl _) _) (Nat.le_refl _) _) (Nat.le_refl _) _
end Go.Proofs.YtfdkklhigliciaaGreatDoor
