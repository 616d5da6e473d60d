/-
  Parts of the proof laid into one text, one behind the other; each says at its head what is proved in it.
-/
import Derived.Test.YtfdkklhigliciaaGreatDoorXaI
import Derived.Test.YtfdkklhigliciaaGreatDoorXaD
import Derived.Test.YtfdkklhigliciaaGreatDoorResCoreHx
/-
  The cores that data come to: no more than 160, each with no more data than there were. No program in it.
-/
namespace Go.Proofs.YtfdkklhigliciaaGreatDoor
open Go.RowKit Go.Extern.Stop Go.Stop Go.Extern Num Go.Lib

theorem subX_len (l : List Dat) (a : Nat) : ∀ (f i : Nat), (subFrom l a f i).length ≤ f
  | 0, _ => by simp [subFrom]
  | f + 1, i => by
    by_cases h : i < l.length
    · by_cases hd : i = a ∨ deepF l 100 (a : Int) < deepF l 100 (i : Int)
      · rw [subFrom_on l a f i h hd]
        have := subX_len l a f (i + 1)
        simp; omega
      · rw [subFrom_off l a f i h hd]; simp
    · rw [subFrom_end l a _ i (by omega)]; simp
/-- No core has more data than there were. -/
def okD (n : Nat) (C : List Cor) : Prop := ∀ c ∈ C, c.data.length ≤ n
theorem okD.put {n : Nat} {C : List Cor} {t : Cor} (h : okD n C) (ht : t.data.length ≤ n) : okD n (C ++ [t]) := fun c hc => by
  rcases List.mem_append.1 hc with hc | hc
  · exact h c hc
  · obtain rfl : c = t := by simpa using hc
    exact ht
theorem allF_okD {n : Nat} {f : Nat → List Cor → Int × List Cor} (hf : ∀ a C, okD n C → okD n (f a C).2) : ∀ (L : List Int) (C : List Cor), okD n C → okD n (allF f L C).2
  | [], C, h => h
  | a :: r, C, h => by
    show okD n (if (f a.toNat C).1 = 0 then allF f r (f a.toNat C).2 else f a.toNat C).2
    split
    · exact allF_okD hf r _ (hf _ _ h)
    · exact hf _ _ h
theorem expF_okD (l : List Dat) : ∀ (n a : Nat) (par : Int) (E : Env) (C : List Cor), okD l.length C → okD l.length (expF l n a par E C).2 := by
  intro n
  induction n with
  | zero => intro a par E C h; exact h
  | succ n ih =>
    intro a par E C h
    have hall : ∀ (par : Int) (E : Env) (L : List Int) (D : List Cor), okD l.length D → okD l.length (allF (fun b D => expF l n b par E D) L D).2 := fun par E L D h => allF_okD (fun a D hD => ih a par E D hD) L D h
    have h1 : ∀ (k par : Int) (a b : Nat) (z : ByteArray), okD l.length (C ++ [coC k par a b z []]) := fun k par a b z => h.put (Nat.zero_le _)
    have h0 : ∀ (par : Int) (s : Nat), okD l.length (C ++ [coC 1 par 0 0 ⟨#[]⟩ (subD l s)]) := fun par s => h.put (subX_len l s l.length s)
    have hasg : ∀ k p, okD l.length (asgF l (expF l n) k p par E C).2 := fun k p => by
      unfold asgF
      split
      · exact ih _ _ _ _ (h1 _ _ _ _ _)
      · exact h
    simp only [expF]
    split
    · exact h0 _ _
    · split
      · split
        · exact h
        · split <;> exact h1 _ _ _ _ _
      · split
        · exact h
        · split
          · unfold formF
            split
            · split
              · exact h0 _ _
              · exact h
            · split
              · split
                · exact hall _ _ _ _ (h1 _ _ _ _ _)
                · exact h
              · split
                · split
                  · exact hall _ _ _ _ (h1 _ _ _ _ _)
                  · exact h
                · split
                  · unfold lamF
                    split
                    · split
                      · exact h
                      · split
                        · exact h
                        · exact ih _ _ _ _ (h1 _ _ _ _ _)
                    · exact h
                  · split
                    · unfold letG
                      split
                      · split
                        · exact h
                        · split
                          · exact h
                          · have h2 : ∀ a b E' (k par k' par' : Int) (u v u' v' : Nat) (z z' : ByteArray), okD l.length (expF l n a b E' (C ++ [coC k par u v z []] ++ [coC k' par' u' v' z' []])).2 := fun a b E' k par k' par' u v u' v' z z' => ih _ _ _ _ ((h1 _ _ _ _ _).put (Nat.zero_le _))
                            split
                            · exact hall _ _ _ _ (h2 _ _ _ _ _ _ _ _ _ _ _ _ _)
                            · exact h2 _ _ _ _ _ _ _ _ _ _ _ _ _
                      · exact h
                    · split <;> exact hasg _ _
          · split
            · exact h
            · exact hall _ _ _ _ (h1 _ _ _ _ _)
theorem expD_small (l : List Dat) (hl : l.length ≤ 1048576) : (expD l).2.length ≤ 160 ∧ ∀ c ∈ (expD l).2, c.data.length ≤ 1048576 := by
  unfold expD
  split
  · exact ⟨by simp, fun c hc => by cases hc⟩
  · split
    · exact ⟨by simp, fun c hc => by cases hc⟩
    · split
      · exact ⟨by simp, fun c hc => by cases hc⟩
      · rename_i h6
        exact ⟨by show (expF l l.length 0 (-1) [] []).2.length ≤ 160; omega, fun c hc => Nat.le_trans (expF_okD l l.length 0 (-1) [] [] (fun c hc => by cases hc) c hc) hl⟩
end Go.Proofs.YtfdkklhigliciaaGreatDoor
/-
  The laws' eqCore and eqCoreS at cores that are the same: true; nothing that was there is turned.
-/
namespace Go.Proofs.YtfdkklhigliciaaGreatDoor
open Go.RowKit Go.Extern.Stop Go.Stop Go.Extern Num Go.Lib

theorem eqC_same (t : Cor) (v1 v2 : Value) (b1 b2 : Nat) (w : World) (hl : t.data.length ≤ 1048576) (h1 : w.ownsRow b1 49 4 v1 t.data.length (cellsD t.data)) (h2 : w.ownsRow b2 49 4 v2 t.data.length (cellsD t.data)) :
    Calls Tryz.prog 55 #[t.val v1, t.val v2] w fun e w' => e = .returned (.bool true) ∧ Below w.heap.size w w' := by
  have HS : Hid (∀ u, Below w.heap.size w u → Calls Tryz.prog 10 #[v1, v2] u fun e w' => e = .returned (.bool true) ∧ Below u.heap.size u w') := fun u hu => eqDS_same v1 v2 b1 b2 t.data u hl (own_below h1 hu) (own_below h2 hu)
  obtain ⟨o1, c1, rfl⟩ := own_form h1
  obtain ⟨o2, c2, rfl⟩ := own_form h2
  clear h1 h2 hl
  go_enter Tryz.func55, Tryz.ntmps55
  go_wp2_with fail
  refine (HS.out _ (by repeat (first | exact Below.refl _ _ | refine Below.alloc ?_ (by simp <;> omega) _ | refine Below.drew ?_))).mono ?_
  rintro e w1 ⟨rfl, b1⟩
  have HB : Hid (Below w.heap.size w w1) := Below.trans (by repeat (first | exact Below.refl _ _ | refine Below.alloc ?_ (by simp <;> omega) _ | refine Below.drew ?_)) (b1.mono (by simp <;> omega))
  clear b1
  go_wp2
  go_ret
  exact ⟨rfl, HB.out⟩
set_option maxRecDepth 100000 in
set_option maxHeartbeats 2000000 in
theorem eqCS_same (g1 g2 c1 c2 B1 B2 : Nat) (l : List Cor) (w : World) (hl : l.length ≤ 1048576) (hz : ∀ (k : Nat) (h : k < l.length), l[k].small) (h1 : RowC w B1 g1 l) (h2 : RowC w B2 g2 l) :
    Calls Tryz.prog 25 #[.slice (some ⟨g1, 0, none⟩) l.length c1, .slice (some ⟨g2, 0, none⟩) l.length c2] w fun e w' => e = .returned (.bool true) ∧ Below w.heap.size w w' := by
  have H1 : Hid (RowC w B1 g1 l) := h1
  have H2 : Hid (RowC w B2 g2 l) := h2
  have HZ : Hid (∀ (k : Nat) (h : k < l.length), l[k].small) := hz
  clear h1 h2 hz
  go_enter Tryz.func25, Tryz.ntmps25
  go_wp2_with fail
  go_loopw [5] (fun i wr => ∃ k : Nat, k ≤ l.length ∧ i = .int .i64 (k : Int) ∧ Below w.heap.size w wr) (fun i _ => l.length - (RowKit.intOf i).toNat)
  case atStart => exact ⟨0, Nat.zero_le _, rfl, Below.refl _ _⟩
  case round =>
    obtain ⟨k, hk, rfl, hb⟩ := hrel
    have HB : Hid (Below w.heap.size w wr) := hb
    clear hb
    by_cases hlt : k < l.length
    · obtain ⟨p0, p1, p2, p3, p4, ga, p5, oa⟩ := H1.out.below HB.out k hlt
      obtain ⟨q0, q1, q2, q3, q4, gb, q5, ob⟩ := H2.out.below HB.out k hlt
      have HT : Hid (∀ p : BW wr, Calls Tryz.prog 55 #[(l[k]'hlt).val (.slice (some ⟨ga, 0, none⟩) (l[k]'hlt).data.length (l[k]'hlt).data.length), (l[k]'hlt).val (.slice (some ⟨gb, 0, none⟩) (l[k]'hlt).data.length (l[k]'hlt).data.length)] p.x fun e w' => e = .returned (.bool true) ∧ Below p.x.heap.size p.x w') := fun p => eqC_same _ _ _ B1 B2 p.x (HZ.out k hlt).len (own_below oa p.h) (own_below ob p.h)
      have a0 : ∀ p : BW wr, p.x.cell? ⟨g1, k * 6, none⟩ = some (.int .i64 (l[k]'hlt).kind) := fun p => p.cell p0
      have a1 : ∀ p : BW wr, p.x.cell? ⟨g1, k * 6 + 1, none⟩ = some (.int .i64 (l[k]'hlt).parent) := fun p => p.cell p1
      have a2 : ∀ p : BW wr, p.x.cell? ⟨g1, k * 6 + 2, none⟩ = some (.int .i64 (l[k]'hlt).a) := fun p => p.cell p2
      have a3 : ∀ p : BW wr, p.x.cell? ⟨g1, k * 6 + 3, none⟩ = some (.int .i64 (l[k]'hlt).b) := fun p => p.cell p3
      have a4 : ∀ p : BW wr, p.x.cell? ⟨g1, k * 6 + 4, none⟩ = some (.string (l[k]'hlt).name) := fun p => p.cell p4
      have a5 : ∀ p : BW wr, p.x.cell? ⟨g1, k * 6 + 5, none⟩ = some (.slice (some ⟨ga, 0, none⟩) (l[k]'hlt).data.length (l[k]'hlt).data.length) := fun p => p.cell p5
      have d0 : ∀ p : BW wr, p.x.cell? ⟨g2, k * 6, none⟩ = some (.int .i64 (l[k]'hlt).kind) := fun p => p.cell q0
      have d1 : ∀ p : BW wr, p.x.cell? ⟨g2, k * 6 + 1, none⟩ = some (.int .i64 (l[k]'hlt).parent) := fun p => p.cell q1
      have d2 : ∀ p : BW wr, p.x.cell? ⟨g2, k * 6 + 2, none⟩ = some (.int .i64 (l[k]'hlt).a) := fun p => p.cell q2
      have d3 : ∀ p : BW wr, p.x.cell? ⟨g2, k * 6 + 3, none⟩ = some (.int .i64 (l[k]'hlt).b) := fun p => p.cell q3
      have d4 : ∀ p : BW wr, p.x.cell? ⟨g2, k * 6 + 4, none⟩ = some (.string (l[k]'hlt).name) := fun p => p.cell q4
      have d5 : ∀ p : BW wr, p.x.cell? ⟨g2, k * 6 + 5, none⟩ = some (.slice (some ⟨gb, 0, none⟩) (l[k]'hlt).data.length (l[k]'hlt).data.length) := fun p => p.cell q5
      have hne := bw_some wr
      clear p0 p1 p2 p3 p4 p5 q0 q1 q2 q3 q4 q5 oa ob
      go_wp2_with fail
      refine wp_region_below (by kernel_rfl) (by kernel_rfl) ?_
      repeat (go_big_quiet_step ((go_at_call 55; exact calls_bw (HT.out _))))
      refine wpQuiet_nil ?_
      intro wq hw'
      obtain ⟨⟨_, bq⟩, rfl⟩ := hw'
      have HB2 : Hid _ := HB.out.trans (bq.mono HB.out.size)
      clear bq a0 a1 a2 a3 a4 a5 d0 d1 d2 d3 d4 d5 hne
      go_wp2
      exact ⟨⟨k + 1, by omega, by go_num, HB2.out⟩, by simp [RowKit.intOf]; omega⟩
    · go_wp2
      go_ret
      exact ⟨rfl, HB.out⟩
end Go.Proofs.YtfdkklhigliciaaGreatDoor
/-
  Cores in two answers that are the same; the laws' eqCoreResult, markCoreResult, heldCoreResult; boxes of two cells.
-/
namespace Go.Proofs.YtfdkklhigliciaaGreatDoor
open Go.RowKit Go.Extern.Stop Go.Stop Go.Extern Num Go.Lib

set_option maxRecDepth 100000 in
set_option maxHeartbeats 2000000 in
theorem eqCV_some (g1 g2 c1 c2 B1 B2 : Nat) (P Q : List (Cor × Value)) (hPQ : P.map Prod.fst = Q.map Prod.fst) (w : World) (hl : P.length ≤ 1048576) (hz : ∀ x ∈ P, x.1.data.length ≤ 1048576) (h1 : CV w B1 (.slice (some ⟨g1, 0, none⟩) P.length c1) P) (h2 : CV w B2 (.slice (some ⟨g2, 0, none⟩) Q.length c2) Q) :
    Calls Tryz.prog 25 #[.slice (some ⟨g1, 0, none⟩) P.length c1, .slice (some ⟨g2, 0, none⟩) P.length c2] w fun e w' => e = .returned (.bool true) ∧ Below w.heap.size w w' := by
  have H1 : Hid (CV w B1 (.slice (some ⟨g1, 0, none⟩) P.length c1) P) := h1
  have H2 : Hid (CV w B2 (.slice (some ⟨g2, 0, none⟩) Q.length c2) Q) := h2
  have HZ : Hid (∀ x ∈ P, x.1.data.length ≤ 1048576) := hz
  have hQl : Q.length = P.length := by have := congrArg List.length hPQ; simpa using this.symm
  have HQ : Hid (∀ (k : Nat) (h : k < P.length) (h' : k < Q.length), Q[k].1 = P[k].1) := fun k h h' => by
    have := congrArg (fun L => L[k]?) hPQ
    simp only [List.getElem?_map] at this
    rw [List.getElem?_eq_getElem h, List.getElem?_eq_getElem h'] at this
    simpa using this.symm
  have HQl : Hid (Q.length = P.length) := hQl
  clear h1 h2 hz hPQ hQl
  go_enter Tryz.func25, Tryz.ntmps25
  go_wp2_with fail
  go_loopw [5] (fun i wr => ∃ k : Nat, k ≤ P.length ∧ i = .int .i64 (k : Int) ∧ Below w.heap.size w wr) (fun i _ => P.length - (RowKit.intOf i).toNat)
  case atStart => exact ⟨0, Nat.zero_le _, rfl, Below.refl _ _⟩
  case round =>
    obtain ⟨k, hk, rfl, hb⟩ := hrel
    have HB : Hid (Below w.heap.size w wr) := hb
    clear hb
    by_cases hlt : k < P.length
    · have hkq : k < Q.length := by rw [HQl.out]; exact hlt
      obtain ⟨p0, p1, p2, p3, p4, aa, ca, p5, -, oa⟩ := (H1.out.below HB.out).at k hlt
      obtain ⟨q0, q1, q2, q3, q4, ab, cb, q5, -, ob⟩ := (H2.out.below HB.out).at k hkq
      rw [HQ.out k hlt hkq] at q0 q1 q2 q3 q4 q5 ob
      have hll := HZ.out _ (List.getElem_mem hlt)
      generalize P[k].1 = t at p0 p1 p2 p3 p4 p5 q0 q1 q2 q3 q4 q5 oa ob hll
      have HT : Hid (∀ p : BW wr, Calls Tryz.prog 55 #[t.val (.slice aa t.data.length ca), t.val (.slice ab t.data.length cb)] p.x fun e w' => e = .returned (.bool true) ∧ Below p.x.heap.size p.x w') := fun p => eqC_same _ _ _ B1 B2 p.x hll (own_below oa p.h) (own_below ob p.h)
      have a0 : ∀ p : BW wr, p.x.cell? ⟨g1, k * 6, none⟩ = some (.int .i64 t.kind) := fun p => p.cell p0
      have a1 : ∀ p : BW wr, p.x.cell? ⟨g1, k * 6 + 1, none⟩ = some (.int .i64 t.parent) := fun p => p.cell p1
      have a2 : ∀ p : BW wr, p.x.cell? ⟨g1, k * 6 + 2, none⟩ = some (.int .i64 t.a) := fun p => p.cell p2
      have a3 : ∀ p : BW wr, p.x.cell? ⟨g1, k * 6 + 3, none⟩ = some (.int .i64 t.b) := fun p => p.cell p3
      have a4 : ∀ p : BW wr, p.x.cell? ⟨g1, k * 6 + 4, none⟩ = some (.string t.name) := fun p => p.cell p4
      have a5 : ∀ p : BW wr, p.x.cell? ⟨g1, k * 6 + 5, none⟩ = some (.slice aa t.data.length ca) := fun p => p.cell p5
      have d0 : ∀ p : BW wr, p.x.cell? ⟨g2, k * 6, none⟩ = some (.int .i64 t.kind) := fun p => p.cell q0
      have d1 : ∀ p : BW wr, p.x.cell? ⟨g2, k * 6 + 1, none⟩ = some (.int .i64 t.parent) := fun p => p.cell q1
      have d2 : ∀ p : BW wr, p.x.cell? ⟨g2, k * 6 + 2, none⟩ = some (.int .i64 t.a) := fun p => p.cell q2
      have d3 : ∀ p : BW wr, p.x.cell? ⟨g2, k * 6 + 3, none⟩ = some (.int .i64 t.b) := fun p => p.cell q3
      have d4 : ∀ p : BW wr, p.x.cell? ⟨g2, k * 6 + 4, none⟩ = some (.string t.name) := fun p => p.cell q4
      have d5 : ∀ p : BW wr, p.x.cell? ⟨g2, k * 6 + 5, none⟩ = some (.slice ab t.data.length cb) := fun p => p.cell q5
      have hne := bw_some wr
      clear p0 p1 p2 p3 p4 p5 q0 q1 q2 q3 q4 q5 oa ob
      go_wp2_with fail
      refine wp_region_below (by kernel_rfl) (by kernel_rfl) ?_
      repeat (go_big_quiet_step ((go_at_call 55; exact calls_bw (HT.out _))))
      refine wpQuiet_nil ?_
      intro wq hw'
      obtain ⟨⟨_, bq⟩, rfl⟩ := hw'
      have HB2 : Hid (Below w.heap.size w wq) := HB.out.trans (bq.mono HB.out.size)
      clear bq a0 a1 a2 a3 a4 a5 d0 d1 d2 d3 d4 d5 hne
      go_wp2
      exact ⟨⟨k + 1, by omega, by go_num, HB2.out⟩, by simp [RowKit.intOf]; omega⟩
    · go_wp2
      go_ret
      exact ⟨rfl, HB.out⟩
theorem eqCV_same (v1 v2 : Value) (B1 B2 : Nat) (P Q : List (Cor × Value)) (hPQ : P.map Prod.fst = Q.map Prod.fst) (w : World) (hl : P.length ≤ 1048576) (hz : ∀ x ∈ P, x.1.data.length ≤ 1048576) (h1 : CV w B1 v1 P) (h2 : CV w B2 v2 Q) :
    Calls Tryz.prog 25 #[v1, v2] w fun e w' => e = .returned (.bool true) ∧ Below w.heap.size w w' := by
  have hQl : Q.length = P.length := by have := congrArg List.length hPQ; simpa using this.symm
  have hnil : ∀ (a1 a2 : Option Addr) (c1 c2 : Nat), Calls Tryz.prog 25 #[.slice a1 0 c1, .slice a2 0 c2] w fun e w' => e = .returned (.bool true) ∧ Below w.heap.size w w' := fun a1 a2 c1 c2 => by
    go_enter Tryz.func25, Tryz.ntmps25
    go_wp2_with fail
    go_loopw [5] (fun i wr => i = .int .i64 0 ∧ wr = w) (fun i _ => 0)
    case atStart => exact ⟨rfl, rfl⟩
    case round =>
      obtain ⟨rfl, rfl⟩ := hrel
      go_wp2
      go_ret
      exact ⟨rfl, Below.refl _ _⟩
  by_cases h0 : P.length = 0
  · obtain ⟨a1, c1, rfl⟩ := own_form h1.row
    obtain ⟨a2, c2, rfl⟩ := own_form h2.row
    rw [hQl, h0]
    exact hnil _ _ _ _
  · obtain ⟨g1, c1, rfl, -, -⟩ := h1.row.form (by omega)
    obtain ⟨g2, c2, rfl, -, -⟩ := h2.row.form (by omega)
    have := eqCV_some g1 g2 c1 c2 B1 B2 P Q hPQ w hl hz h1 h2
    rw [hQl]
    exact this
theorem eqRC_same (c0 : Int) (v1 v2 : Value) (B1 B2 : Nat) (P Q : List (Cor × Value)) (hPQ : P.map Prod.fst = Q.map Prod.fst) (w : World) (hl : P.length ≤ 1048576) (hz : ∀ x ∈ P, x.1.data.length ≤ 1048576) (h1 : CV w B1 v1 P) (h2 : CV w B2 v2 Q) :
    Calls Tryz.prog 9 #[.agg #[.int .i64 c0, v1], .agg #[.int .i64 c0, v2]] w fun e w' => e = .returned (.bool true) ∧ Below w.heap.size w w' := by
  have HS : Hid (∀ o o', Calls Tryz.prog 25 #[v1, v2] ((w.alloc o).alloc o') fun e w' => e = .returned (.bool true) ∧ Below ((w.alloc o).alloc o').heap.size ((w.alloc o).alloc o') w') := fun o o' => eqCV_same v1 v2 B1 B2 P Q hPQ _ hl hz ((h1.below (Below.refl _ _ |>.alloc (Nat.le_refl _) _)).below (Below.refl _ _ |>.alloc (Nat.le_refl _) _)) ((h2.below (Below.refl _ _ |>.alloc (Nat.le_refl _) _)).below (Below.refl _ _ |>.alloc (Nat.le_refl _) _))
  obtain ⟨a1, k1, rfl⟩ := own_form h1.row
  obtain ⟨a2, k2, rfl⟩ := own_form h2.row
  generalize P.length = n1 at HS ⊢
  generalize Q.length = n2 at HS ⊢
  clear h1 h2
  go_enter Tryz.func9, Tryz.ntmps9
  go_wp2_with (go_at_call 25; refine (HS.out _ _).mono ?_; rintro e w1 ⟨rfl, hq⟩)
  go_ret
  refine ⟨rfl, ?_⟩
  repeat (first | exact Below.refl _ _ | refine Below.trans ?_ (hq.mono (by simp <;> omega)) | refine Below.alloc ?_ (by simp <;> omega) _ | refine Below.drew ?_)
theorem keepsNew {F : Nat → Prop} {w w' : World} {o : Obj} (h : Keeps F (w.alloc o) w') : Keeps F w w' := ⟨h.os, h.tape, h.output, Nat.le_trans (by simp) h.size, fun k hk hn => (h.block k (by simp; omega) hn).trans (Below.heap_alloc _ _ _ hk)⟩
theorem markRC_any (c0 : Int) (P : List (Cor × Value)) (B : Nat) (v : Value) (w : World) (hl : P.length ≤ 1048576) (hd : ∀ x ∈ P, x.1.data.length ≤ 1048576) (ho : CV w B v P) (ha : apartCr P) :
    Calls Tryz.prog 12 #[.agg #[.int .i64 c0, v], .int .i64 1] w fun e w' => e = .returned (.int .i64 ((endCr 1 P : Nat) : Int)) ∧ CV w' B v (marksCr 1 P) ∧ Keeps (footCr v P) w w' := by
  have HS : Hid (∀ o, Calls Tryz.prog 28 #[v, .int .i64 1] (w.alloc o) fun e w' => e = .returned (.int .i64 ((endCr 1 P : Nat) : Int)) ∧ CV w' B v (marksCr 1 P) ∧ Keeps (footCr v P) w w') := fun o => by
    refine (markCrs_any P B 1 v (w.alloc o) (Nat.le_refl _) (by decide) hl hd (ho.below ((Below.refl _ _).alloc (Nat.le_refl _) _)) ha).mono ?_
    rintro e w' ⟨rfl, h1, h2⟩
    exact ⟨rfl, h1, keepsNew h2⟩
  obtain ⟨a1, k1, rfl⟩ := own_form ho.row
  generalize endCr 1 P = q at HS ⊢
  generalize P.length = n1 at HS ⊢
  clear ho
  go_enter Tryz.func12, Tryz.ntmps12
  go_wp2_with (go_at_call 28; refine (HS.out _).mono ?_; rintro e w1 ⟨rfl, hq⟩; have HQ : Hid (CV w1 B (.slice a1 n1 k1) (marksCr 1 P) ∧ Keeps (footCr (.slice a1 n1 k1) P) w w1) := hq; clear hq)
  go_ret
  exact ⟨rfl, HQ.out.1, HQ.out.2⟩
theorem heldRC_any (c0 : Int) (P : List (Cor × Value)) (B : Nat) (v : Value) (w : World) (hl : P.length ≤ 1048576) (hd : ∀ x ∈ P, x.1.data.length ≤ 1048576) (ho : CV w B v (marksCr 1 P)) :
    Calls Tryz.prog 13 #[.agg #[.int .i64 c0, v], .int .i64 1] w fun e w' => e = .returned (.int .i64 ((endCr 1 P : Nat) : Int)) ∧ Below w.heap.size w w' := by
  have HS : Hid (∀ o, Calls Tryz.prog 29 #[v, .int .i64 1] (w.alloc o) fun e w' => e = .returned (.int .i64 ((endCr 1 P : Nat) : Int)) ∧ Below w.heap.size w w') := fun o => by
    refine (heldCrs_any P B 1 v (w.alloc o) (Nat.le_refl _) (by decide) hl hd (ho.below ((Below.refl _ _).alloc (Nat.le_refl _) _))).mono ?_
    rintro e w' ⟨rfl, h1⟩
    exact ⟨rfl, ((Below.refl _ _).alloc (Nat.le_refl _) _).trans (h1.mono (by simp))⟩
  obtain ⟨a1, k1, rfl⟩ := own_form ho.row
  rw [marksCr_len] at HS ⊢
  generalize endCr 1 P = q at HS ⊢
  generalize P.length = n1 at HS ⊢
  clear ho
  go_enter Tryz.func13, Tryz.ntmps13
  go_wp2_with (go_at_call 29; refine (HS.out _).mono ?_; rintro e w1 ⟨rfl, hq⟩; have HQ : Hid (Below w.heap.size w w1) := hq; clear hq)
  go_ret
  exact ⟨rfl, HQ.out⟩
/-- A box of two cells. -/
structure Cu2 (b : Nat) (v0 v1 : Value) (u : World) : Prop where
  c0 : u.cell? ⟨b, 0, none⟩ = some v0
  c1 : u.cell? ⟨b, 1, none⟩ = some v1
theorem Cu2.below {b : Nat} {v0 v1 : Value} {u u' : World} (h : Cu2 b v0 v1 u) (hb : Below u.heap.size u u') : Cu2 b v0 v1 u' := ⟨cell_keep hb h.c0, cell_keep hb h.c1⟩
theorem Cu2.keeps {F : Nat → Prop} {b : Nat} {v0 v1 : Value} {u u' : World} (h : Cu2 b v0 v1 u) (hk : Keeps F u u') (hn : ¬ F b) : Cu2 b v0 v1 u' := ⟨hk.cell h.c0 hn, hk.cell h.c1 hn⟩
theorem Cu2.new (u : World) (v0 v1 : Value) (T : TypeId) : Cu2 u.heap.size v0 v1 (u.alloc (.cells #[v0, v1] T)) := ⟨by rw [World.cell?_alloc_at _ _ _ _ rfl]; rfl, by rw [World.cell?_alloc_at _ _ _ _ rfl]; rfl⟩
theorem keepsX {F : Nat → Prop} {B : Nat} {a w w' : World} (h : Below B a w) (hB : B ≤ w.heap.size) (hk : Keeps F w w') (hf : ∀ b, F b → B ≤ b) : Below B a w' :=
  ⟨hk.os.trans h.os, hk.tape.trans h.tape, hk.output.trans h.output, Nat.le_trans h.size hk.size, fun k hk' => (hk.block k (by omega) (fun q => by have := hf k q; omega)).trans (h.block k hk')⟩
end Go.Proofs.YtfdkklhigliciaaGreatDoor
