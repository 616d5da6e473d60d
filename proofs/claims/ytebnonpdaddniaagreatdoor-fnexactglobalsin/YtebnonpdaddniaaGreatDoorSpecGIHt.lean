/-
  Parts of the proof laid into one text, one behind the other; each says at its head what is proved in it.
-/
import Derived.Test.YtebnonpdaddniaaGreatDoorSpecCoDHt
import Derived.Test.YtebnonpdaddniaaGreatDoorImplGIHt
import Derived.Test.YtebnonpdaddniaaGreatDoorHtC
import Derived.Deep.RegionLaw
import Derived.Deep.DrawnRows
/-
  The model's GlobalsIn: the names of cores without fault, each once; nothing that was there is turned.
-/
namespace Go.Proofs.YtebnonpdaddniaaGreatDoor
open Go.RowKit Go.Extern.Stop Go.Stop Go.Extern Num Go.Lib

attribute [local go_sem ↓] Go.wp_at_zero Go.wp_at_succ
theorem fineC_of' {l : List Cor} (h : coreF l = 0) : FineC (zC l) l := FineC.of (by simp [zC, Function.comp_def]) h
theorem hasN_take (L : List ByteArray) (z : ByteArray) (j : Nat) (h : j < L.length) : hasN (L.take (j + 1)) z = (hasN (L.take j) z || (L[j].toList == z.toList)) := by
  unfold hasN
  rw [List.take_add_one, List.getElem?_eq_getElem h]
  simp only [Option.toList, List.any_append, List.any_cons, List.any_nil, Bool.or_false]
  rw [show (z.toList == L[j].toList) = (L[j].toList == z.toList) by rw [Bool.eq_iff_iff]; simp only [beq_iff_eq]; exact eq_comm]
/-- The answer that grows: its code, and its names in a row of their own. -/
structure OutT (w : World) (r : Nat) (v : Value) (L : List ByteArray) : Prop where
  c0 : w.cell? ⟨r, 0, none⟩ = some (.int .i64 0)
  fz : ∀ o, w.frozen? ⟨r, o, none⟩ = false
  f1 : Fld w r r 1 9 1 v L.length (cellsT L)
theorem OutT.below {w w' : World} {r : Nat} {v : Value} {L : List ByteArray} (h : OutT w r v L) (hb : Below w.heap.size w w') : OutT w' r v L :=
  ⟨cell_keep hb h.c0, fun o => by rw [(bcell hb).2 _ _ h.f1.lt]; exact h.fz o, h.f1.below hb⟩
theorem OutT.put {w U w1 : World} {r g' c' H : Nat} {v : Value} {L : List ByteArray} {z : ByteArray} (h : OutT w r v L) (hb : Below w.heap.size w U) (hg : U.grownBy w1 v.ownBlock)
    (hown : w1.ownsRow r 9 1 (.slice (some ⟨g', 0, none⟩) (L.length + 1) c') (L.length + 1) (cellsT L ++ [.string z])) (hat : v.ownBlock = some g' ∨ g' = H) (hH : U.heap.size = H) :
    OutT (w1.setCell ⟨r, 1, none⟩ (.slice (some ⟨g', 0, none⟩) (L.length + 1) c')) r (.slice (some ⟨g', 0, none⟩) (L ++ [z]).length c') (L ++ [z]) ∧ Below r w (w1.setCell ⟨r, 1, none⟩ (.slice (some ⟨g', 0, none⟩) (L.length + 1) c')) := by
  have hlt := h.f1.lt
  have hsz := hb.size
  have hne : v.ownBlock ≠ some r := fun e => h.f1.2.2 r e rfl
  have k0 := afterGrow (f := 0) hb h.c0 (h.fz 0) hg hne
  refine ⟨⟨?_, fz_grown (fun o => by rw [(bcell hb).2 _ _ hlt]; exact h.fz o) (by omega) hg hne _ _, ?_⟩, ?_⟩
  · rw [World.cell?_setCell_other _ _ _ _ (by intro e; injection e with _ e2 _; exact absurd e2 (by decide))]
    exact k0.1
  · have e : (L ++ [z]).length = L.length + 1 := by simp
    rw [e, cellsT_append]
    refine (h.f1.below hb).put hg hown (fun g hg' => ?_)
    have : g' = g := by simpa [Value.ownBlock] using hg'
    subst this
    rcases hat with h1 | h1
    · exact .inl h1
    · right; omega
  · exact Below.setCell ((hb.mono (by omega)).grown hg (by omega) (fun k hk => (h.f1.2.1.lt k hk).1)) (Nat.le_refl _) _
theorem OutT.new (w : World) : OutT (w.alloc (.cells #[.int .i64 0, .slice none 0 0] 58)) w.heap.size (.slice none 0 0) [] :=
  ⟨by rw [World.cell?_alloc_at _ _ _ _ rfl]; rfl, fun o => by simp [go_sem], by rw [World.cell?_alloc_at _ _ _ _ rfl]; rfl, World.ownsRow_nil _ _ _ _, fun g h => by simp [Value.ownBlock] at h⟩
set_option maxRecDepth 100000 in
set_option maxHeartbeats 4000000 in
theorem specGI_any (B g cap : Nat) (l : List Cor) (w : World) (hR : RowC w B g l) (hz : ∀ (k : Nat) (h : k < l.length), l[k].small) :
    Calls Tryz.prog 33 #[.slice (some ⟨g, 0, none⟩) l.length cap] w fun e w' => AnsGI l w e w' := by
  have HF : Hid (∀ o, Calls Tryz.prog 55 #[.slice (some ⟨g, 0, none⟩) l.length cap] (w.alloc o) fun e w' => e = .returned (.int .i64 (coreF l)) ∧ Below (w.alloc o).heap.size (w.alloc o) w') := fun o => l4Fault_any B g cap l _ (hR.below ((Below.refl _ w).alloc (Nat.le_refl _) o)) hz
  by_cases hf : coreF l = 0
  · have F := fineC_of' hf
    have HZ : Hid (coreF l = 0) := hf
    have HR : Hid (RowC w B g l) := hR
    have hl160 := F.len
    obtain ⟨i0, hi, hz0, hz1, hz2⟩ := info_parts infoT
    rw [hf] at HF
    clear hf hR hz F
    go_enter Tryz.func33, Tryz.ntmps33
    go_wp2_with fail
    refine (HF.out _).mono ?_
    rintro e w1 ⟨rfl, b1⟩
    have HB1 : Hid (Below w.heap.size w w1) := ((Below.refl _ w).alloc (Nat.le_refl _) _).trans (b1.mono (by simp))
    obtain ⟨hc1, hf1⟩ := bcell b1
    have hs1 : w.heap.size < w1.heap.size := by have := b1.size; simp at this; omega
    have d0 : w1.cell? ⟨w.heap.size, 0, none⟩ = some (.int .i64 0) := by rw [hc1 _ _ (by simp)]; simp
    have d1 : w1.cell? ⟨w.heap.size, 1, none⟩ = some (.slice none 0 0) := by rw [hc1 _ _ (by simp)]; simp
    have HBx : Hid (w1.cell? ⟨w.heap.size, 0, none⟩ = some (.int .i64 0) ∧ w1.cell? ⟨w.heap.size, 1, none⟩ = some (.slice none 0 0) ∧ w1.frozen? ⟨w.heap.size, 0, none⟩ = false ∧ w1.frozen? ⟨w.heap.size, 1, none⟩ = false) := ⟨d0, d1, by rw [hf1 _ _ (by simp)]; simp, by rw [hf1 _ _ (by simp)]; simp⟩
    clear b1 hc1 hf1 d0 d1
    go_wp2_with fail
    go_loopw [5] (fun x wr => ∃ (k : Nat) (v : Value) (L : List ByteArray), k ≤ l.length ∧ x = .int .i64 (k : Int) ∧ L.length ≤ k ∧ Hid (L = namesTo l k) ∧ Hid (OutT wr w1.heap.size v L) ∧ Hid (Below w1.heap.size w1 wr)) (fun x _ => l.length - (RowKit.intOf x).toNat)
    case atStart => exact ⟨0, _, [], Nat.zero_le _, rfl, Nat.le_refl _, rfl, OutT.new w1, (Below.refl _ _).alloc (Nat.le_refl _) _⟩
    case round =>
      obtain ⟨k, v, L, hk, rfl, hLk, HL, HO, HB⟩ := hrel
      have hsr : w1.heap.size ≤ wr.heap.size := HB.out.size
      by_cases hlt : k < l.length
      · obtain ⟨c0, -, -, -, c4, -⟩ := (HR.out.below HB1.out).below HB.out k hlt
        have HNx : Hid (namesTo l (k + 1) = if namedK (l[k]'hlt).kind = true ∧ hasN L (l[k]'hlt).name = false then L ++ [(l[k]'hlt).name] else L) := by
          have := namesTo_next l k hlt
          rw [← HL.out] at this
          exact this
        obtain ⟨kd, hkd⟩ : ∃ kd, kd = (l[k]'hlt).kind := ⟨_, rfl⟩
        obtain ⟨z, hze⟩ : ∃ z, z = (l[k]'hlt).name := ⟨_, rfl⟩
        rw [← hkd] at c0
        rw [← hze] at c4
        rw [← hkd, ← hze] at HNx
        clear hkd hze
        have HNm : Hid (∀ u, Calls Tryz.prog 72 #[.int .i64 kd] u fun e w' => e = .returned (.bool (namedK kd)) ∧ w' = u) := fun u => l4Named_any kd u
        generalize namedK kd = nk at HNm HNx
        have hkl : (k : Int) < (l.length : Int) := by omega
        obtain ⟨av, cv, hv⟩ : ∃ av cv, v = .slice av L.length cv := own_form HO.out.f1.2.1
        subst hv
        go_wp2_with (go_at_call 72; refine (HNm.out _).mono ?_; rintro e w' ⟨rfl, hw'⟩; replace hw' := hw'.symm; subst hw')
        obtain ⟨wo, rfl⟩ : ∃ wo, wo = wr := ⟨wr, rfl⟩
        go_loopw [6, 7] (fun s x wi => ∃ (j : Nat), j ≤ L.length ∧ x = .int .i64 (j : Int) ∧ s = .bool (!nk || hasN (L.take j) z) ∧ Hid (Below wo.heap.size wo wi)) (fun _ x _ => L.length - (RowKit.intOf x).toNat)
        case atStart => exact ⟨0, Nat.zero_le _, rfl, by simp [hasN], Below.refl _ _⟩
        case round =>
          obtain ⟨j, hj, rfl, rfl, HX⟩ := hrel
          have HOi : Hid (OutT wr w1.heap.size (.slice av L.length cv) L) := HO.out.below HX.out
          have hb1 : w1.heap.size < wr.heap.size := HOi.out.f1.lt
          replace c0 := cell_keep HX.out c0
          replace c4 := cell_keep HX.out c4
          have o1 := HOi.out.f1.1
          by_cases hjl : j < L.length
          · obtain ⟨gT, cT, hvT, -, -⟩ := HOi.out.f1.2.1.form (by omega)
            obtain ⟨rfl, rfl⟩ : av = some ⟨gT, 0, none⟩ ∧ cv = cT := by simp at hvT; exact hvT
            have hrow : wr.cell? ⟨gT, j, none⟩ = some (.string (L[j]'hjl)) := rowT_at HOi.out.f1.2.1 j hjl
            have HTk := hasN_take L z j hjl
            generalize hasN (L.take j) z = hd at HTk
            generalize L[j]'hjl = y at hrow HTk
            have HTk2 : Hid (hasN (L.take (j + 1)) z = (hd || (y.toList == z.toList))) := HTk
            clear HTk
            have hjn : (j : Int) < (L.length : Int) := by omega
            have hne := bw_some wr
            have q1 : ∀ p : BW wr, p.x.cell? ⟨w1.heap.size, 1, none⟩ = some (.slice (some ⟨gT, 0, none⟩) L.length cv) := fun p => p.cell o1
            have q2 : ∀ p : BW wr, p.x.cell? ⟨gT, j, none⟩ = some (.string y) := fun p => p.cell hrow
            have q4 : ∀ p : BW wr, p.x.cell? ⟨g, k * 6 + 4, none⟩ = some (.string z) := fun p => p.cell c4
            cases hs : (!nk || hd) with
            | true =>
              have HN : Hid ((!nk || hasN (L.take (j + 1)) z) = true) := by
                show _ = _
                rw [HTk2.out]
                cases nk <;> cases hd <;> simp_all
              clear hs HTk2
              go_wp2_with fail
              refine wp_region_below (by kernel_rfl) (by kernel_rfl) ?_
              repeat (go_big_quiet_step (fail))
              refine wpQuiet_nil ?_
              intro wq hw'
              obtain ⟨⟨_, bq⟩, rfl⟩ := hw'
              have HX2 : Hid (Below wo.heap.size wo wq) := HX.out.trans (bq.mono HX.out.size)
              clear bq q1 q2 q4 hne
              go_wp2
              exact ⟨⟨j + 1, by omega, by go_num, by rw [HN.out], HX2.out⟩, by simp [RowKit.intOf]; omega⟩
            | false =>
              have HN : Hid ((!nk || hasN (L.take (j + 1)) z) = (y.toList == z.toList)) := by
                show _ = _
                rw [HTk2.out]
                cases nk <;> cases hd <;> simp_all
              clear hs HTk2
              cases hyz : (y.toList == z.toList)
              all_goals
                rw [hyz] at HN
                go_wp2_with fail
                refine wp_region_below (by kernel_rfl) (by kernel_rfl) ?_
                repeat (go_big_quiet_step (fail))
                refine wpQuiet_nil ?_
                intro wq hw'
                obtain ⟨⟨_, bq⟩, rfl⟩ := hw'
                have HX2 : Hid (Below wo.heap.size wo wq) := HX.out.trans (bq.mono HX.out.size)
                clear bq q1 q2 q4 hne
                go_wp2
                exact ⟨⟨j + 1, by omega, by go_num, by rw [HN.out], HX2.out⟩, by simp [RowKit.intOf]; omega⟩
          · have hjL : j = L.length := by omega
            subst hjL
            rw [List.take_length]
            have HB2 : Hid (Below w1.heap.size w1 wr) := HB.out.trans (HX.out.mono hsr)
            cases hs : (!nk || hasN L z) with
            | true =>
              have HN : Hid (L = namesTo l (k + 1)) := by
                show _ = _
                rw [HNx.out]
                cases nk <;> cases hh : hasN L z <;> simp_all
              clear hs HNx
              go_wp2_with fail
              exact ⟨⟨k + 1, _, L, by omega, by go_num, by omega, HN.out, HOi.out, HB2.out⟩, by simp [RowKit.intOf]; omega⟩
            | false =>
              have HN : Hid (L ++ [z] = namesTo l (k + 1)) := by
                show _ = _
                rw [HNx.out]
                cases nk <;> cases hh : hasN L z <;> simp_all
              clear hs HNx
              have HRow : Hid (wr.ownsRow w1.heap.size 9 1 (.slice av L.length cv) L.length (cellsT L)) := HOi.out.f1.2.1
              have fz1 := HOi.out.fz 1
              have ag : (Value.slice av L.length cv).ownBlock ≠ some w1.heap.size := fun e => HOi.out.f1.2.2 _ e rfl
              go_wp2_with fail
              go_region_law
                ((refine step_append_lies _ (by rfl) _ _ _ (by rfl) w1.heap.size 9 i0 _ 1 16 Tryz.underlying56 hi hz0 hz1 hz2 rfl (by decide) (.slice av L.length cv) L.length (cellsT L) (by rfl) (by repeat (first | exact HRow.out | refine World.ownsRow.alloc ?_ _ | refine World.ownsRow.drew ?_))
                    ⟨wr.heap.size, 0, none⟩ 1 1 [.string z] (by rfl) (by rfl) (World.news_of_block (cs := #[.string z]) (t := 9) (fr := (0, 0)) (heap_new' _ _ _ (by simp))) (by simp [Value.oneCell'])
                    (by decide) (by unfold maxLen; omega) (by omega) (by simp; omega) (wr.heap.size + 1) (by simp) ?_; intro g' cap' w3 hown1 hgrow hat hlt'; obtain ⟨k1, k2⟩ := afterGrow (w := wr) (by repeat (first | exact Below.refl _ _ | refine Below.drew ?_ | refine Below.alloc ?_ (by simp <;> omega) _)) o1 fz1 hgrow ag))
              all_goals
                have R : Hid _ := OutT.put (z := z) HOi.out (by repeat (first | exact Below.refl _ _ | refine Below.drew ?_ | refine Below.alloc ?_ (by simp <;> omega) _)) hgrow hown1 hat (by simp)
                clear hgrow hown1 hat k1 k2
                go_wp2
                exact ⟨⟨k + 1, _, L ++ [z], by omega, by go_num, by simp; omega, HN.out, R.out.1, HB2.out.trans R.out.2⟩, by simp [RowKit.intOf]; omega⟩
      · have HE : Hid (L = namesTo l l.length) := by
          have hkl : k = l.length := by omega
          show _ = _; rw [HL.out, hkl]
        obtain ⟨av, cv, hv⟩ : ∃ av cv, v = .slice av L.length cv := own_form HO.out.f1.2.1
        subst hv
        obtain ⟨q0, q1, q2, q3⟩ := HBx.out
        replace q0 := cell_keep HB.out q0
        replace q1 := cell_keep HB.out q1
        have q4 : wr.frozen? ⟨w.heap.size, 0, none⟩ = false := by rw [(bcell HB.out).2 _ _ hs1]; exact q2
        have q5 : wr.frozen? ⟨w.heap.size, 1, none⟩ = false := by rw [(bcell HB.out).2 _ _ hs1]; exact q3
        clear q2 q3
        have o0 := HO.out.c0
        have o1 := HO.out.f1.1
        have hlt1 := HO.out.f1.lt
        have HOe : Hid (wr.ownsRow w1.heap.size 9 1 (.slice av L.length cv) L.length (cellsT L)) := HO.out.f1.2.1
        go_wp2_with fail
        have e0 : ((wr.setCell ⟨w.heap.size, 0, none⟩ (.int .i64 0)).setCell ⟨w.heap.size, 1, none⟩ (.slice av L.length cv)).cell? ⟨w.heap.size, 0, none⟩ = some (.int .i64 0) := by
          rw [World.cell?_setCell_other _ _ _ _ (by intro e; injection e with _ e2 _; exact absurd e2 (by decide))]
          exact World.cell?_setCell_same' _ _ _ (by rw [q0]; rfl)
        have e1 : ((wr.setCell ⟨w.heap.size, 0, none⟩ (.int .i64 0)).setCell ⟨w.heap.size, 1, none⟩ (.slice av L.length cv)).cell? ⟨w.heap.size, 1, none⟩ = some (.slice av L.length cv) := by
          refine World.cell?_setCell_same' _ _ _ ?_
          rw [World.cell?_setCell_other _ _ _ _ (by intro e; injection e with _ e2 _; exact absurd e2 (by decide)), q1]
          rfl
        refine bodyPost_ret (v := .agg #[.int .i64 0, .slice av L.length cv]) (by simp [results, Tryz.results33, go_sem, e0, e1]) rfl ⟨.inr ⟨HZ.out, av, cv, by rw [← HE.out], ?_⟩, ?_⟩
        · rw [← HE.out]
          have hnb : ∀ gg, (Value.slice av L.length cv).ownBlock = some gg → gg ≠ w.heap.size := fun gg hgg => by have := (HOe.out.lt gg hgg).1; omega
          exact own_base (own_set' (own_set' HOe.out hnb _) hnb _) (by omega)
        · exact Below.setCell (Below.setCell (HB1.out.trans (HB.out.mono (by omega))) (Nat.le_refl _) _) (Nat.le_refl _) _
  · obtain ⟨c, hc⟩ : ∃ c, c = coreF l := ⟨_, rfl⟩
    have HZ : Hid (coreF l ≠ 0) := hf
    have HC : Hid (c = coreF l) := hc
    have hne : (c != 0) = true := by rw [hc]; simpa using hf
    rw [← hc] at HF
    clear hR hz hf hc
    go_enter Tryz.func33, Tryz.ntmps33
    go_wp2_with fail
    refine (HF.out _).mono ?_
    rintro e w1 ⟨rfl, b1⟩
    have HB1 : Hid (Below w.heap.size w w1) := ((Below.refl _ w).alloc (Nat.le_refl _) _).trans (b1.mono (by simp))
    obtain ⟨hc1, hf1⟩ := bcell b1
    clear b1
    go_wp2
    refine bodyPost_ret (v := .agg #[.int .i64 c, .slice none 0 0]) (by simp [results, Tryz.results33, go_sem, hc1]) rfl ⟨.inl ⟨HZ.out, by rw [HC.out]⟩, ?_⟩
    repeat (first | exact HB1.out | refine Below.setCell ?_ (by simp) _)
end Go.Proofs.YtebnonpdaddniaaGreatDoor
