/-
  Parts of the proof laid into one text, one behind the other; each says at its head what is proved in it.
-/
import Derived.Test.YtebnonpdaddniaaGreatDoorDemContHt
/-
  The program's growCores: the tree that cores make, or the panic that carries what is wrong with them; nothing that was there is turned.
-/
namespace Go.Proofs.YtebnonpdaddniaaGreatDoor
open Go.RowKit Go.Extern.Stop Go.Stop Go.Extern Num Go.Lib Go.Shelf

theorem po_take (l : List Cor) (m : Nat) (out : Int) : ∀ (xs : List Int) (n : Int), (∀ x ∈ xs, 0 ≤ x ∧ x < (m : Int)) → poF (l.take m) out xs n = poF l out xs n
  | [], _, _ => rfl
  | x :: r, n, h => by
    have h0 := h x (by simp)
    have hr : ∀ x ∈ r, 0 ≤ x ∧ x < (m : Int) := fun y hy => h y (by simp [hy])
    have e1 : kdC (l.take m) x.toNat = kdC l x.toNat := by unfold kdC; rw [List.getElem?_take, if_pos (by omega)]
    have e2 : naC (l.take m) x.toNat = naC l x.toNat := by unfold naC; rw [List.getElem?_take, if_pos (by omega)]
    simp only [poF, e1, e2, po_take l m out r _ hr]
theorem take_fst {P : List (Cor × Value)} {l : List Cor} (h : P.map Prod.fst = l) (k : Nat) : (P.take k).map Prod.fst = l.take k := by rw [← h, List.map_take]
theorem fst_len {P : List (Cor × Value)} {l : List Cor} (h : P.map Prod.fst = l) : P.length = l.length := by rw [← h, List.length_map]
theorem fst_at {P : List (Cor × Value)} {l : List Cor} (h : P.map Prod.fst = l) (k : Nat) (hk : k < l.length) : (P[k]'(by rw [fst_len h]; exact hk)).1 = l[k] := by simp [← h]
/-- What is wrong with a core against those ahead, by a tree of these. -/
theorem oneC_tree {P : List (Cor × Value)} {l : List Cor} (hP : P.map Prod.fst = l) {k : Nat} (hk : k < l.length) (hok : okC l k) (t : Cor) :
    oneC l k t = if bareC t = false then 1 else if lfDC (P.take k) t.parent ≠ 0 then lfDC (P.take k) t.parent else contC t (P.take k).length (poF (l.take k) t.a (upLC (P.take k) t.parent) 0) := by
  have hN := take_fst hP k
  have hp : ParsC (P.take k) := parsC_of (by omega) hN hok
  have hlen : (P.take k).length = k := by rw [List.length_take, fst_len hP]; omega
  unfold oneC
  rw [lf_fst hp hN]
  by_cases h1 : bareC t = false
  · rw [if_pos h1, if_pos h1]
  · rw [if_neg h1, if_neg h1]
    by_cases h2 : lfDC (zC (l.take k)) t.parent ≠ 0
    · rw [if_pos h2, if_pos h2]
    · rw [if_neg h2, if_neg h2, hlen]
      have hz : (zC (l.take k)).length = k := by rw [zC_len, List.length_take]; omega
      have hp2 : t.parent < (P.take k).length := by
        rcases lf_zero (Classical.byContradiction h2) with ⟨e, h⟩ | ⟨e1, e2, _⟩ <;> omega
      rw [upL_fst hp hN _ hp2, po_take l k t.a _ 0 (fun x hx => by
        rw [← upL_fst hp hN _ hp2] at hx
        have := upL_mem hp (t.parent + 1).toNat t.parent hp2 (by
          by_cases h : t.parent < 0
          · unfold upLC at hx; rw [upF_negC _ _ _ h] at hx; cases hx
          · omega) x hx
        omega)]
/-- What growCores comes to. -/
def AnsGr (P : List (Cor × Value)) (l : List Cor) (w : World) (e : Ending) (w' : World) : Prop :=
  ((coreF l ≠ 0 ∧ e = .panicked (pan (coreF l))) ∨ (coreF l = 0 ∧ e = .returned (.pointer (some ⟨w.heap.size, 0, none⟩)) ∧ OwnTC w.heap.size w.heap.size P w')) ∧ Below w.heap.size w w'
theorem demandKids_any (tb : Nat) (P : List (Cor × Value)) (l : List Cor) (hP : P.map Prod.fst = l) (hok : okC l l.length) (hl : l.length ≤ 160) (hz : ∀ (k : Nat) (h : k < l.length), l[k].small) (hdv : ∀ x ∈ P, ∃ da dn dc, x.2 = .slice da dn dc) (a : Nat) (ha : a < l.length) (w : World) (hT : IsTreeC w.heap.size w tb P) :
    Calls Tryz.prog 143 #[.pointer (some ⟨tb, 0, none⟩), .int .i64 (a : Int)] w fun r W' => AnsDm (if manyK (kdC l a) (kidN l (a : Int)) = true then 0 else 1) w r W' := by
  have hlen := fst_len hP
  have hN : P.map Prod.fst = l.take l.length := by rw [List.take_length]; exact hP
  have hp : ParsC P := parsC_of (Nat.le_refl _) hN hok
  have ho : Opn P := opn_of (Nat.le_refl _) hN hok
  obtain ⟨e, hE⟩ := endC P a (by omega)
  refine (callsIn_wide (n := 8)).1 (demandKids_in 8 (by omega) tb P a e (kidN l (a : Int)) (kdC l a) _ rfl hE (by omega) (fun k hk => ?_) (kids_count hp ho hP hE) (fun h => ?_) w hT)
  · have hk' : k < l.length := by omega
    have e1 := fst_at hP k hk'
    have h1 := okC_par hok k hk' hk'
    refine ⟨?_, ?_, ?_, hdv _ (List.getElem_mem hk)⟩
    · show P[k].1.name.size ≤ _
      rw [e1]; exact (hz k hk').name
    · show -1 ≤ P[k].1.parent
      rw [e1]; exact h1.2
    · show P[k].1.parent < 1000
      rw [e1]; omega
  · rw [fst_at hP a ha, kdC_at l a ha]
set_option maxRecDepth 100000 in
theorem growCores_wrong (ao : Option Addr) (n cap : Nat) (w : World) (h : (n : Int) < 1 ∨ 160 < (n : Int)) :
    Calls Tryz.prog 95 #[.slice ao n cap] w fun e w' => e = .panicked (pan 2) ∧ w' = w := by
  by_cases h1 : 1 ≤ (n : Int)
  · have h2 : 160 < (n : Int) := by omega
    have e1 : decide ((n : Int) ≤ 160) = false := decide_eq_false (by omega)
    have e0 : decide (1 ≤ (n : Int)) = true := decide_eq_true h1
    clear h
    go_enter Tryz.func95, Tryz.ntmps95
    go_wp2_with (go_at_call 115; refine (demand_no _ _).mono ?_; rintro e wd ⟨rfl, hwd⟩; replace hwd := hwd.symm; subst hwd)
    exact ⟨rfl, rfl, rfl⟩
  · have e0 : decide (1 ≤ (n : Int)) = false := decide_eq_false h1
    clear h
    go_enter Tryz.func95, Tryz.ntmps95
    go_wp2_with (go_at_call 115; refine (demand_no _ _).mono ?_; rintro e wd ⟨rfl, hwd⟩; replace hwd := hwd.symm; subst hwd)
    exact ⟨rfl, rfl, rfl⟩
set_option maxRecDepth 100000 in
set_option maxHeartbeats 4000000 in
theorem growCores_few (B g cap : Nat) (P : List (Cor × Value)) (l : List Cor) (hP : P.map Prod.fst = l) (w : World) (hrow : w.ownsRow B 85 6 (.slice (some ⟨g, 0, none⟩) l.length cap) l.length (cellsC P)) (hN : NestC w B g P) (h1 : 1 ≤ (l.length : Int)) (h160 : (l.length : Int) ≤ 160) (hz : ∀ (k : Nat) (h : k < l.length), l[k].small) (hL : LT w) :
    Calls Tryz.prog 95 #[.slice (some ⟨g, 0, none⟩) l.length cap] w fun e w' => AnsGr P l w e w' := by
  have HC : Hid (∀ (k : Nat) (h : k < l.length), w.cell? ⟨g, k * 6, none⟩ = some (.int .i64 l[k].kind) ∧ w.cell? ⟨g, k * 6 + 1, none⟩ = some (.int .i64 l[k].parent) ∧ w.cell? ⟨g, k * 6 + 2, none⟩ = some (.int .i64 l[k].a) ∧ w.cell? ⟨g, k * 6 + 3, none⟩ = some (.int .i64 l[k].b) ∧ w.cell? ⟨g, k * 6 + 4, none⟩ = some (.string l[k].name) ∧
      ∃ gk, w.cell? ⟨g, k * 6 + 5, none⟩ = some (.slice (some ⟨gk, 0, none⟩) l[k].data.length l[k].data.length) ∧ (∀ h2 : k < P.length, P[k].2 = .slice (some ⟨gk, 0, none⟩) l[k].data.length l[k].data.length) ∧ w.ownsRow B 100 4 (.slice (some ⟨gk, 0, none⟩) l[k].data.length l[k].data.length) l[k].data.length (cellsD l[k].data)) := fun k hk => by
    have hkP : k < P.length := by rw [fst_len hP]; exact hk
    have e : l[k] = P[k].1 := by simp [← hP]
    have ha : ∀ j, (⟨g, 0, none⟩ : Addr).add j = ⟨g, j, none⟩ := fun j => by unfold Addr.add; split <;> simp_all
    have hc := hrow.cells (g := g) rfl
    obtain ⟨c0, c1, c2, c3, c4, c5⟩ := cellsC_at P k hkP
    obtain ⟨gk, q1, q2, q3⟩ := hN P[k] (List.getElem_mem hkP)
    rw [e]
    rw [q1] at c5
    exact ⟨by rw [← ha]; exact hc _ _ c0, by rw [← ha]; exact hc _ _ c1, by rw [← ha]; exact hc _ _ c2, by rw [← ha]; exact hc _ _ c3, by rw [← ha]; exact hc _ _ c4, gk, by rw [← ha]; exact hc _ _ c5, fun _ => q1, q3⟩
  have HP : Hid (P.map Prod.fst = l) := hP
  have HZ : Hid (∀ (k : Nat) (h : k < l.length), l[k].small) := hz
  have HL : Hid (LT w) := hL
  have HDV : Hid (∀ x ∈ P, ∃ da dn dc, x.2 = .slice da dn dc) := fun x hx => by
    obtain ⟨gk, q1, _⟩ := hN x hx
    exact ⟨_, _, _, q1⟩
  have HPl : Hid (P.length = l.length) := fst_len hP
  have HF : Hid (coreF l = if onesC l l.length 0 ≠ 0 then onesC l l.length 0 else if kidsAll l l.length 0 = true then 0 else 1) := by show coreF l = _; unfold coreF; rw [if_neg (by omega)]
  clear hrow hN hP hz hL
  go_enter Tryz.func95, Tryz.ntmps95
  go_wp2_with (go_at_call 115; refine (demand_yes _ _).mono ?_; rintro e wd ⟨rfl, hwd⟩; replace hwd := hwd.symm; subst hwd)
  go_loopw [21] (fun v wr => ∃ k : Nat, k ≤ l.length ∧ v = .int .i64 (k : Int) ∧ Hid (okC l k) ∧ Hid (Below w.heap.size w wr) ∧ Hid (OwnTC w.heap.size w.heap.size (P.take k) wr)) (fun v _ => l.length - (RowKit.intOf v).toNat)
  case atStart =>
    refine ⟨0, Nat.zero_le _, rfl, fun j _ hj => by omega, (Below.refl _ _).alloc (Nat.le_refl _) _, Nat.le_refl _, by simp, .slice none 0 0, by simp, ?_, fun g h => by simp [Value.ownBlock] at h⟩
    exact World.ownsRow_nil _ _ _ _
  case round =>
    obtain ⟨k, hk, rfl, HK, HB, HO⟩ := hrel
    by_cases hlt : k < l.length
    · obtain ⟨t, ht⟩ : ∃ t, t = l[k]'hlt := ⟨_, rfl⟩
      have HT : Hid (t = l[k]'hlt) := ht
      have hcs := HC.out k hlt
      rw [← ht] at hcs
      clear ht
      obtain ⟨c0, c1, c2, c3, c4, gk, c5, hdk, hrk⟩ := hcs
      have HDk : Hid (P[k]'(by rw [HPl.out]; exact hlt) = (t, .slice (some ⟨gk, 0, none⟩) t.data.length t.data.length)) := by
        show _ = _
        have e1 := hdk (by rw [HPl.out]; exact hlt)
        have e2 := fst_at HP.out k hlt
        rw [← HT.out] at e2
        rw [← e1, ← e2]
      have HRk : Hid (w.ownsRow B 100 4 (.slice (some ⟨gk, 0, none⟩) t.data.length t.data.length) t.data.length (cellsD t.data)) := hrk
      clear hdk hrk
      have hsw := HB.out.size
      replace c0 := cell_keep HB.out c0
      replace c1 := cell_keep HB.out c1
      replace c2 := cell_keep HB.out c2
      replace c3 := cell_keep HB.out c3
      replace c4 := cell_keep HB.out c4
      replace c5 := cell_keep HB.out c5
      have hlP : (P.take k).length = k := by rw [List.length_take, HPl.out]; omega
      have hpT : ParsC (P.take k) := parsC_of hk (take_fst HP.out k) HK.out
      obtain ⟨bb, hbb⟩ : ∃ bb, bb = bareC t := ⟨_, rfl⟩
      obtain ⟨lf, hlf⟩ : ∃ lf, lf = lfDC (P.take k) t.parent := ⟨_, rfl⟩
      obtain ⟨ct, hct⟩ : ∃ ct, ct = contC t (P.take k).length (poF (l.take k) t.a (upLC (P.take k) t.parent) 0) := ⟨_, rfl⟩
      have HOne : Hid (oneC l k t = if bb = false then 1 else if lf ≠ 0 then lf else ct) := by
        show _ = _
        rw [oneC_tree HP.out hlt HK.out t, ← hbb, ← hlf, ← hct]
      have HRet : Hid (oneC l k t ≠ 0 → coreF l = oneC l k t) := fun h => by
        have e := onesC_hit HK.out hlt (by rw [← HT.out]; exact h)
        rw [HF.out, e, ← HT.out, if_pos h]
      have HBa : Hid (∀ u, Calls Tryz.prog 139 #[t.val (.slice (some ⟨gk, 0, none⟩) t.data.length t.data.length)] u fun e w' => e = .returned (.bool bb) ∧ Below u.heap.size u w') := fun u => by rw [hbb]; exact isCoreForm_any t _ _ u
      have HLf : Hid (∀ u, IsTreeC u.heap.size u w.heap.size (P.take k) → Calls Tryz.prog 140 #[.pointer (some ⟨w.heap.size, 0, none⟩), .int .i64 t.parent] u fun e w' => e = .returned (.int .i64 lf) ∧ Below u.heap.size u w') := fun u hu => by rw [hlf]; exact lf_anyC _ _ hpT (by omega) _ u hu
      have HDc : Hid (lf = 0 → ∀ u, Below w.heap.size w u → IsTreeC u.heap.size u w.heap.size (P.take k) → Calls Tryz.prog 141 #[.pointer (some ⟨w.heap.size, 0, none⟩), t.val (.slice (some ⟨gk, 0, none⟩) t.data.length t.data.length)] u fun e w' => AnsDm ct u e w') := fun h0 u hb hu => by
        rw [hct]
        have hp0 : -1 ≤ t.parent ∧ t.parent < (P.take k).length := by
          rcases lf_zero (by rw [← hlf]; exact h0) with ⟨e, h⟩ | ⟨e1, e2, _⟩ <;> omega
        exact demandContent_any _ _ _ (take_fst HP.out k) hpT (by omega) (fun x hx => HDV.out x (List.mem_of_mem_take hx)) t _ _ B (by rw [HT.out]; exact HZ.out k hlt) hp0.1 hp0.2 u (own_below HRk.out hb) (HL.out.below hb) hu
      have HW : Hid (∀ u, Below (wr.heap.size + 1) (wr.alloc (.cells #[.int .i64 t.kind, .int .i64 t.parent, .int .i64 t.a, .int .i64 t.b, .string t.name, .slice (some ⟨gk, 0, none⟩) t.data.length t.data.length] 85)) u → u.cell? ⟨wr.heap.size, 0, none⟩ = some (.int .i64 t.kind) ∧ u.cell? ⟨wr.heap.size, 1, none⟩ = some (.int .i64 t.parent) ∧ u.cell? ⟨wr.heap.size, 2, none⟩ = some (.int .i64 t.a) ∧ u.cell? ⟨wr.heap.size, 3, none⟩ = some (.int .i64 t.b) ∧ u.cell? ⟨wr.heap.size, 4, none⟩ = some (.string t.name) ∧ u.cell? ⟨wr.heap.size, 5, none⟩ = some (.slice (some ⟨gk, 0, none⟩) t.data.length t.data.length)) := fun u hu => by
        have key : ∀ (j : Nat) (v : Value), (wr.alloc (.cells #[.int .i64 t.kind, .int .i64 t.parent, .int .i64 t.a, .int .i64 t.b, .string t.name, .slice (some ⟨gk, 0, none⟩) t.data.length t.data.length] 85)).cell? ⟨wr.heap.size, j, none⟩ = some v → u.cell? ⟨wr.heap.size, j, none⟩ = some v := fun j v h => (hu.cell (p := ⟨wr.heap.size, j, none⟩) (by show wr.heap.size < wr.heap.size + 1; omega)).trans h
        refine ⟨key _ _ ?_, key _ _ ?_, key _ _ ?_, key _ _ ?_, key _ _ ?_, key _ _ ?_⟩ <;> (rw [World.cell?_alloc_at _ _ _ _ rfl]; rfl)
      have HUp : Hid (∀ u, Below (wr.heap.size + 1) (wr.alloc (.cells #[.int .i64 t.kind, .int .i64 t.parent, .int .i64 t.a, .int .i64 t.b, .string t.name, .slice (some ⟨gk, 0, none⟩) t.data.length t.data.length] 85)) u → Below wr.heap.size wr u) := fun u hu => ((Below.refl _ wr).alloc (Nat.le_refl _) _).trans (hu.mono (by omega))
      clear hbb hlf hct hpT
      go_wp2_with fail
      refine (HBa.out _).mono ?_
      rintro e w1 ⟨rfl, b1⟩
      have B1 : Hid (Below (wr.heap.size + 1) (wr.alloc (.cells #[.int .i64 t.kind, .int .i64 t.parent, .int .i64 t.a, .int .i64 t.b, .string t.name, .slice (some ⟨gk, 0, none⟩) t.data.length t.data.length] 85)) w1) := b1.mono (by simp)
      clear b1 c0 c1 c2 c3 c4 c5
      cases bb with
      | false =>
        have HV : Hid (coreF l = 1) := by
          have e1 := HOne.out
          rw [if_pos rfl] at e1
          show _ = _
          rw [HRet.out (by rw [e1]; decide), e1]
        go_wp2_with (first | (go_at_call 115; refine (demand_no _ _).mono ?_; rintro e wd ⟨rfl, hwd⟩; replace hwd := hwd.symm; subst hwd))
        exact ⟨rfl, .inl ⟨by rw [HV.out]; decide, by rw [HV.out]⟩, HB.out.trans ((HUp.out _ B1.out).mono HB.out.size)⟩
      | true =>
        obtain ⟨-, d1, -, -, -, -⟩ := HW.out _ B1.out
        go_wp2_with (first | (go_at_call 115; refine (demand_yes _ _).mono ?_; rintro e wd ⟨rfl, hwd⟩; replace hwd := hwd.symm; subst hwd))
        refine (HLf.out _ ((HO.out.below (HUp.out _ B1.out)).tree)).mono ?_
        rintro e w2 ⟨rfl, b2⟩
        have B2 : Hid (Below (wr.heap.size + 1) (wr.alloc (.cells #[.int .i64 t.kind, .int .i64 t.parent, .int .i64 t.a, .int .i64 t.b, .string t.name, .slice (some ⟨gk, 0, none⟩) t.data.length t.data.length] 85)) w2) := B1.out.trans (b2.mono (by have := B1.out.size; simpa using this))
        clear b2 d1
        by_cases hl0 : lf = 0
        · subst hl0
          obtain ⟨d0, d1, d2, d3, d4, d5⟩ := HW.out _ B2.out
          go_wp2_with (first | (go_at_call 115; refine (demand_yes _ _).mono ?_; rintro e wd ⟨rfl, hwd⟩; replace hwd := hwd.symm; subst hwd))
          refine (HDc.out (by trivial) _ (HB.out.trans ((HUp.out _ B2.out).mono HB.out.size)) ((HO.out.below (HUp.out _ B2.out)).tree)).mono ?_
          rintro e w3 ⟨h3, b3⟩
          have B3 : Hid (Below (wr.heap.size + 1) (wr.alloc (.cells #[.int .i64 t.kind, .int .i64 t.parent, .int .i64 t.a, .int .i64 t.b, .string t.name, .slice (some ⟨gk, 0, none⟩) t.data.length t.data.length] 85)) w3) := B2.out.trans (b3.mono (by have := B2.out.size; simpa using this))
          clear b3 d0 d1 d2 d3 d4 d5
          rcases h3 with ⟨hc0, rfl⟩ | ⟨hc0, rfl⟩
          · obtain ⟨d0, d1, d2, d3, d4, d5⟩ := HW.out _ B3.out
            have HO3 : Hid (OwnTC w.heap.size w.heap.size (P.take k) w3) := HO.out.below (HUp.out _ B3.out)
            obtain ⟨v, HFd⟩ : ∃ v, Hid (Fld w3 w.heap.size w.heap.size 0 118 7 v (P.take k).length (cellsNC (P.take k))) := HO3.out.2.2
            have hsz : w.heap.size ≤ w3.heap.size := Nat.le_trans HB.out.size (HUp.out _ B3.out).size
            have HA : Hid (Calls Tryz.prog 142 #[.pointer (some ⟨w.heap.size, 0, none⟩), .int .i64 t.parent, t.val (.slice (some ⟨gk, 0, none⟩) t.data.length t.data.length)] w3 fun e w' => e = .returned (.int .i64 ((P.take k).length : Nat)) ∧ AddRC w.heap.size w.heap.size v (P.take k ++ [(t, .slice (some ⟨gk, 0, none⟩) t.data.length t.data.length)]) w3 w') :=
              add_anyC _ _ v _ t _ ⟨_, _, _, rfl⟩ w3 hsz HO3.out.2.1 HFd.out (by omega)
            have HOk : Hid (okC l (k + 1)) := okC_next HK.out hlt (by
              have e1 := HOne.out
              rw [if_neg (by simp), if_neg (by simp), hc0] at e1
              rw [← HT.out]; exact e1)
            go_wp2_with fail
            refine HA.out.mono ?_
            rintro e w4 ⟨rfl, R4⟩
            have H4 : Hid (OwnTC w.heap.size w.heap.size (P.take (k + 1)) w4 ∧ Below w.heap.size w3 w4) := by
              have := OwnTC.add (Nat.le_refl _) hsz HO3.out.2.1 HFd.out R4
              have e : P.take (k + 1) = P.take k ++ [(t, .slice (some ⟨gk, 0, none⟩) t.data.length t.data.length)] := by
                rw [List.take_add_one, List.getElem?_eq_getElem (by rw [HPl.out]; exact hlt), HDk.out]; rfl
              rw [e]; exact this
            clear R4
            go_wp2_with fail
            exact ⟨⟨k + 1, by omega, by go_num, HOk.out, HB.out.trans (((HUp.out _ B3.out).mono HB.out.size).trans H4.out.2), H4.out.1⟩, by simp [RowKit.intOf]; omega⟩
          · have HV : Hid (coreF l = ct) := by
              have e1 := HOne.out
              rw [if_neg (by simp), if_neg (by simp)] at e1
              show _ = _
              rw [HRet.out (by rw [e1]; exact hc0), e1]
            exact ⟨rfl, .inl ⟨by rw [HV.out]; exact hc0, by rw [HV.out]⟩, HB.out.trans ((HUp.out _ B3.out).mono HB.out.size)⟩
        · have hne : (lf == 0) = false := by simpa using hl0
          have HV : Hid (coreF l = lf) := by
            have e1 := HOne.out
            rw [if_neg (by simp), if_pos hl0] at e1
            show _ = _
            rw [HRet.out (by rw [e1]; exact hl0), e1]
          go_wp2_with (first | (go_at_call 115; refine (demand_no _ _).mono ?_; rintro e wd ⟨rfl, hwd⟩; replace hwd := hwd.symm; subst hwd))
          exact ⟨rfl, .inl ⟨by rw [HV.out]; exact hl0, by rw [HV.out]⟩, HB.out.trans ((HUp.out _ B2.out).mono HB.out.size)⟩
    · obtain rfl : k = l.length := by omega
      obtain ⟨wo, rfl⟩ : ∃ wo, wo = wr := ⟨wr, rfl⟩
      have HOP : Hid (OwnTC w.heap.size w.heap.size P wo) := by
        have := HO.out
        rw [List.take_of_length_le (by rw [HPl.out]; exact Nat.le_refl _)] at this
        exact this
      have HOn : Hid (onesC l l.length 0 = 0) := onesC_end HK.out
      have HSz : Hid (Calls Tryz.prog 116 #[.pointer (some ⟨w.heap.size, 0, none⟩)] wo fun e w' => e = .returned (.int .i64 (l.length : Nat)) ∧ w' = wo) := by rw [← HPl.out]; exact size_anyC _ _ _ _ HOP.out.tree
      go_wp2_with (go_at_call 116; refine HSz.out.mono ?_; rintro e wz ⟨rfl, hwz⟩; replace hwz := hwz.symm; subst hwz)
      go_loopw [47] (fun v wt => ∃ a : Nat, a ≤ l.length ∧ v = .int .i64 (a : Int) ∧ Hid (∀ j, j < a → manyK (kdC l j) (kidN l (j : Int)) = true) ∧ Hid (Below wo.heap.size wo wt)) (fun v _ => l.length - (RowKit.intOf v).toNat)
      case atStart => exact ⟨0, Nat.zero_le _, rfl, fun j hj => by omega, Below.refl _ _⟩
      case round =>
        obtain ⟨a, ha, rfl, HM, HBt⟩ := hrel
        have hsz : w.heap.size ≤ wo.heap.size := HB.out.size
        by_cases hat : a < l.length
        · have HDk : Hid (Calls Tryz.prog 143 #[.pointer (some ⟨w.heap.size, 0, none⟩), .int .i64 (a : Int)] wr fun r W' => AnsDm (if manyK (kdC l a) (kidN l (a : Int)) = true then 0 else 1) wr r W') := demandKids_any _ P l HP.out HK.out (by omega) HZ.out HDV.out a hat _ (HOP.out.below HBt.out).tree
          cases hm : manyK (kdC l a) (kidN l (a : Int)) with
          | true =>
            rw [hm] at HDk
            go_wp2_with fail
            refine HDk.out.mono ?_
            rintro e w5 ⟨⟨-, rfl⟩ | ⟨hc, -⟩, b5⟩
            · have HB5 : Hid (Below wo.heap.size wo w5) := HBt.out.trans (b5.mono HBt.out.size)
              clear b5
              go_wp2_with fail
              exact ⟨⟨a + 1, by omega, by go_num, fun j hj => by
                by_cases e : j = a
                · subst e; exact hm
                · exact HM.out j (by omega), HB5.out⟩, by simp [RowKit.intOf]; omega⟩
            · exact absurd rfl hc
          | false =>
            rw [hm] at HDk
            have HV : Hid (coreF l = 1) := by
              show _ = _
              rw [HF.out, HOn.out, if_neg (by simp), kidsAll_hit HM.out hat hm]; rfl
            go_wp2_with fail
            refine HDk.out.mono ?_
            rintro e w5 ⟨⟨hc, -⟩ | ⟨-, rfl⟩, b5⟩
            · exact absurd hc (by simp)
            · exact ⟨rfl, .inl ⟨by rw [HV.out]; decide, by rw [HV.out]; rfl⟩, HB.out.trans ((HBt.out.trans (b5.mono HBt.out.size)).mono HB.out.size)⟩
        · have HV : Hid (coreF l = 0) := by
            show _ = _
            rw [HF.out, HOn.out, if_neg (by simp), kidsAll_end (fun j hj => HM.out j (by omega))]; rfl
          go_wp2_with fail
          go_ret
          exact ⟨.inr ⟨HV.out, rfl, HOP.out.below HBt.out⟩, HB.out.trans (HBt.out.mono HB.out.size)⟩
theorem growCores_any (B g cap : Nat) (P : List (Cor × Value)) (l : List Cor) (hP : P.map Prod.fst = l) (w : World) (hrow : w.ownsRow B 85 6 (.slice (some ⟨g, 0, none⟩) l.length cap) l.length (cellsC P)) (hN : NestC w B g P) (hz : ∀ (k : Nat) (h : k < l.length), l[k].small) (hL : LT w) :
    Calls Tryz.prog 95 #[.slice (some ⟨g, 0, none⟩) l.length cap] w fun e w' => AnsGr P l w e w' := by
  by_cases h : (l.length : Int) < 1 ∨ 160 < (l.length : Int)
  · refine (growCores_wrong _ _ _ w h).mono ?_
    rintro e w' ⟨rfl, rfl⟩
    have e2 : coreF l = 2 := by unfold coreF; rw [if_pos (by omega)]
    exact ⟨.inl ⟨by rw [e2]; decide, by rw [e2]⟩, Below.refl _ _⟩
  · exact growCores_few B g cap P l hP w hrow hN (by omega) (by omega) hz hL
end Go.Proofs.YtebnonpdaddniaaGreatDoor
