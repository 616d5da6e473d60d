/-
  The exact law of ListFrom answers true at all pairs and values; nothing that was there is turned.
-/
import Derived.Test.YtbfhoennafopaaaImplLF
import Derived.Test.YtbfhoennafopaaaSpecLF
import Derived.Test.YtbfhoennafopaaaResValuesResult
import Derived.Test.YtbfhoennafopaaaLawHF
import Derived.Test.YtbfhoennafopaaaBoxLay
import Derived.Test.YtbfhoennafopaaaMkPair
import Derived.Test.YtbfhoennafopaaaFacts
namespace Go.Proofs.Ytbfhoennafopaaa
open Go.RowKit Go.Extern.Stop Go.Stop Go.Extern Num Go.Lib

/-- The boxes of the arguments, and what was there. -/
structure VVListFrom (w : World) (A : Vlu) (u : World) : Prop where
  b0 : VBox w.heap.size A u
  old : Below w.heap.size w u
theorem VVListFrom.below {w u v : World} {A : Vlu} (h : VVListFrom w A u) (hb : Below u.heap.size u v) : VVListFrom w A v := ⟨h.b0.below hb, h.old.trans (hb.mono h.old.size)⟩
theorem VVListFrom.size {w u : World} {A : Vlu} (h : VVListFrom w A u) : w.heap.size + 1 ≤ u.heap.size := by have h1 : w.heap.size + 0 < u.heap.size := lt_of_cell h.b0.c0; omega
theorem VVListFrom.grown {w u v : World} {A : Vlu} {x : Nat} (h : VVListFrom w A u) (hg : u.grownBy v (some x)) (hx : w.heap.size + 1 ≤ x) : VVListFrom w A v := by
  refine ⟨⟨hg.cell h.b0.c0 (by simp; omega), hg.cell h.b0.c1 (by simp; omega), hg.cell h.b0.c2 (by simp; omega)⟩, h.old.trans (below_of_grown hg h.old.size (fun k hk => by have := Option.some.inj hk; omega))⟩
set_option maxRecDepth 100000 in
set_option maxHeartbeats 8000000 in
theorem lawLF_any (w : World) (a : Option Addr) (cp : Nat) (l : List Pai) (hl : l.length ≤ 9223372036854775807) (h : MemP w a l) (hz : ∀ (k : Nat) (h : k < l.length), l[k].able) (A : Vlu) (hA : A.name.size ≤ 9223372036854775807) :
    Calls Try.prog 5 #[.slice a l.length cp, A.val] w fun e w' => e = .returned (.bool true) ∧ Below w.heap.size w w' := by
  have HS : Hid (∀ u, Below w.heap.size w u → Calls Try.prog 13 #[.slice a l.length cp, .int .i64 1048576] u fun e w' => SZP l u e w') := fun u hu => szPS_any a cp l u 1048576 (Nat.le_refl _) hl (h.below hu) hz
  have HT : Hid (MemP w a l) := h
  have HV : Hid (∀ (t : Vlu) (u : World), Calls Try.prog 16 #[t.val] u fun e w' => e = .returned t.val ∧ Below u.heap.size u w') := fun t u => toV_any t u
  have V0 : Hid (VVListFrom w A (w.alloc (.cells #[.int .i64 A.kind, .int .i64 A.num, .string A.name] 39))) := ⟨(box1 w A 39).1, (box1 w A 39).2⟩
  clear h hz hl
  go_enter Try.func5, Try.ntmps5
  go_wp2_with fail
  refine (HS.out _ V0.out.old).mono ?_
  rintro e w1 ⟨h1, b1⟩
  have V1 : Hid (VVListFrom w A w1) := V0.out.below b1
  clear b1 V0 HS
  rcases h1 with rfl | ⟨q0, hq0, rfl, hl, hz⟩
  · go_wp2
    go_ret
    exact ⟨rfl, V1.out.old⟩
  have HZ : Hid (ableL l) := able_of hz
  have HN : Hid (l.length ≤ 1048576) := hl
  have HU : Hid (∀ wx, Below w.heap.size w wx → Calls Try.prog 15 #[.slice a l.length cp] wx fun e w' => ∃ g, e = .returned (.slice (some ⟨g, 0, none⟩) l.length l.length) ∧ World.ownsRow w' wx.heap.size 71 6 (.slice (some ⟨g, 0, none⟩) l.length l.length) l.length (cellsP l) ∧ Below wx.heap.size wx w') := fun wx hx => toPS_any a cp l wx hl (HT.out.below hx)
  have HP : Hid (∀ (u : World) (g base : Nat), World.ownsRow u base 71 6 (.slice (some ⟨g, 0, none⟩) l.length l.length) l.length (cellsP l) → Calls Try.prog 22 #[.slice (some ⟨g, 0, none⟩) l.length l.length, A.val] u fun e w' => AnsL u (codeLF l A) (outLF l A) (restLF l A) e w') := fun u g base ho => specLF_any l.length base g l A u hl ho HZ.out hA
  have HI : Hid (∀ (u : World) (g base : Nat), World.ownsRow u base 71 6 (.slice (some ⟨g, 0, none⟩) l.length l.length) l.length (cellsP l) → Calls Try.prog 10 #[.slice (some ⟨g, 0, none⟩) l.length l.length, A.val] u fun e w' => AnsL u (codeLF l A) (outLF l A) (restLF l A) e w') := fun u g base ho => implLF_any _ l.length g l A u hl (fun _ => rfl) (RowP.of ho) HZ.out hA
  have hM := outLF_len l A
  generalize outLF l A = M at HP HI hM
  generalize codeLF l A = c0 at HP HI
  generalize restLF l A = T at HP HI
  clear hz hl
  have a0 := V1.out.b0.c0
  have a1 := V1.out.b0.c1
  have a2 := V1.out.b0.c2
  by_cases hf : q0 < A.name.size
  · have HZ1 : Hid (∀ w, Calls Try.prog 14 #[A.val, .int .i64 (q0 : Int)] w fun e w' => e = .returned (.int .i64 (-1)) ∧ Below w.heap.size w w') := fun w => szV_far A q0 w hA hq0 hf
    clear hf
    go_wp2_with fail
    refine (HZ1.out _).mono ?_
    rintro e w2 ⟨rfl, b2⟩
    go_wp2
    go_ret
    exact ⟨rfl, V1.out.old.trans (b2.mono V1.out.old.size)⟩
  obtain ⟨q1, hqe⟩ : ∃ q : Nat, q = q0 - A.name.size := ⟨_, rfl⟩
  have HZ1 : Hid (∀ w, Calls Try.prog 14 #[A.val, .int .i64 (q0 : Int)] w fun e w' => e = .returned (.int .i64 (q1 : Int)) ∧ Below w.heap.size w w') := fun w => by rw [hqe]; exact szV_near A q0 w hq0 (by omega)
  have hq1 : q1 ≤ 1048576 := by omega
  clear hf hqe
  go_wp2_with fail
  refine (HZ1.out _).mono ?_
  rintro e w2 ⟨rfl, b2⟩
  replace V1 : Hid (VVListFrom w A w2) := V1.out.below b2
  clear b2 a0 a1 a2 HZ1
  clear hA hq0 hq1
  go_wp2_with fail
  refine wp_region_facts (by kernel_rfl) 6 (fun v => Below w2.heap.size w2 v) (fun u v => Below u.heap.size u v) (fun i v u => match i with | 0 => (fun v u => v = .slice a l.length cp) v u | 1 => (fun v u => ∃ g, v = .slice (some ⟨g, 0, none⟩) l.length l.length ∧ World.ownsRow u w2.heap.size 71 6 (.slice (some ⟨g, 0, none⟩) l.length l.length) l.length (cellsP l)) v u | 2 => (fun v u => v = A.val) v u | 3 => (fun v u => v = A.val) v u | 4 => (fun v u => ∃ ao ca, v = .agg #[.int .i64 c0, .slice ao M.length ca, .int .i64 T.kind, .int .i64 T.num, .string T.name] ∧ World.ownsRow u w2.heap.size 26 3 (.slice ao M.length ca) M.length (cellsV M)) v u | 5 => (fun v u => ∃ x, v = .pointer (some ⟨x, 0, none⟩) ∧ BoxZValuesResult w2.heap.size x u) v u | _ => True) (by kernel_rfl) [0, 1, 2, 3, 4, 5] (by kernel_rfl) ?b0 ?bk ?fk ⟨?s0, ?s1, ?s2, ?s3, ?s4, ?s5, trivial⟩ _ rfl [(0, some 23), (1, some 24), (2, some 25), (3, some 26), (4, some 27), (5, some 6)] (by kernel_rfl) ?last
  case b0 => exact Below.drew (Below.refl _ _)
  case bk => exact fun u v h hb => h.trans (hb.mono h.size)
  case fk => intro i v u u' h hb; match i, h with | 0, h => exact (h) | 1, h => exact (let ⟨g, e, o⟩ := h; ⟨g, e, own_below o hb⟩) | 2, h => exact (h) | 3, h => exact (h) | 4, h => exact (let ⟨ao, ca, e, o⟩ := h; ⟨ao, ca, e, own_below o hb⟩) | 5, h => exact (let ⟨x, e, o⟩ := h; ⟨x, e, o.below hb⟩) | _ + 6, _ => exact trivial
  case s0 =>
    refine StepF.of rfl [] (by kernel_rfl) ?_
    intro vs u hB hf K hK
    clear hf
    simp only [putsA, List.foldl_nil, Act.put, List.setIfInBounds_toArray] at hK ⊢
    rw [if_pos (by rfl)]
    go_simp
    exact hK.out _ _ (Below.refl _ _) rfl
  case s1 =>
    refine StepF.of rfl [(0, some 23)] (by kernel_rfl) ?_
    intro vs u hB hf K hK
    have f0 : (fun v u => v = .slice a l.length cp) (vs 0) u := hf.1
    clear hf
    simp only [putsA, List.foldl_cons, List.foldl_nil, Act.put, List.setIfInBounds_toArray, List.set_cons_zero, List.set_cons_succ] at hK ⊢
    generalize vs 0 = v0 at f0 hK ⊢
    rw [if_pos (by rfl)]
    subst f0
    go_simp
    refine (HU.out _ (V1.out.below hB).old).mono ?_
    rintro e w4 ⟨g4, rfl, o4, b4⟩
    exact hK.out _ _ b4 ⟨g4, rfl, own_base o4 hB.size⟩
  case s2 =>
    refine StepF.of rfl [] (by kernel_rfl) ?_
    intro vs u hB hf K hK
    clear hf
    simp only [putsA, List.foldl_nil, Act.put, List.setIfInBounds_toArray] at hK ⊢
    rw [if_pos (by rfl)]
    have c0' := (V1.out.below hB).b0.c0
    have c1' := (V1.out.below hB).b0.c1
    have c2' := (V1.out.below hB).b0.c2
    go_simp
    exact hK.out _ _ (Below.refl _ _) rfl
  case s3 =>
    refine StepF.of rfl [(1, some 24), (2, some 25)] (by kernel_rfl) ?_
    intro vs u hB hf K hK
    have f1 : (fun v u => ∃ g, v = .slice (some ⟨g, 0, none⟩) l.length l.length ∧ World.ownsRow u w2.heap.size 71 6 (.slice (some ⟨g, 0, none⟩) l.length l.length) l.length (cellsP l)) (vs 1) u := hf.1
    have f2 : (fun v u => v = A.val) (vs 2) u := hf.2.1
    clear hf
    simp only [putsA, List.foldl_cons, List.foldl_nil, Act.put, List.setIfInBounds_toArray, List.set_cons_zero, List.set_cons_succ] at hK ⊢
    generalize vs 1 = v1 at f1 hK ⊢
    generalize vs 2 = v2 at f2 hK ⊢
    rw [if_pos (by rfl)]
    subst f2
    clear f1
    go_simp
    refine (HV.out _ _).mono ?_
    rintro e w4 ⟨rfl, b4⟩
    exact hK.out _ _ b4 rfl
  case s4 =>
    refine StepF.of rfl [(1, some 24), (3, some 26)] (by kernel_rfl) ?_
    intro vs u hB hf K hK
    have f1 : (fun v u => ∃ g, v = .slice (some ⟨g, 0, none⟩) l.length l.length ∧ World.ownsRow u w2.heap.size 71 6 (.slice (some ⟨g, 0, none⟩) l.length l.length) l.length (cellsP l)) (vs 1) u := hf.1
    have f3 : (fun v u => v = A.val) (vs 3) u := hf.2.1
    clear hf
    simp only [putsA, List.foldl_cons, List.foldl_nil, Act.put, List.setIfInBounds_toArray, List.set_cons_zero, List.set_cons_succ] at hK ⊢
    generalize vs 1 = v1 at f1 hK ⊢
    generalize vs 3 = v3 at f3 hK ⊢
    rw [if_pos (by rfl)]
    subst f3
    obtain ⟨g4, rfl, o4⟩ := f1
    go_simp
    refine (HP.out _ g4 _ o4).mono ?_
    rintro e w7 ⟨ao, ca, rfl, o7, b7⟩
    exact hK.out _ _ b7 ⟨ao, ca, rfl, own_base o7 hB.size⟩
  case s5 =>
    refine StepF.of rfl [] (by kernel_rfl) ?_
    intro vs u hB hf K hK
    clear hf
    simp only [putsA, List.foldl_nil, Act.put, List.setIfInBounds_toArray] at hK ⊢
    rw [if_pos (by rfl)]
    go_simp
    exact hK.out _ _ ((Below.refl _ _).alloc (Nat.le_refl _) _) ⟨_, rfl, hB.size, heap_alloc_new _ _⟩
  case last =>
    intro vs u hB hf K hK
    have f0 : (fun v u => v = .slice a l.length cp) (vs 0) u := hf.1
    have f1 : (fun v u => ∃ g, v = .slice (some ⟨g, 0, none⟩) l.length l.length ∧ World.ownsRow u w2.heap.size 71 6 (.slice (some ⟨g, 0, none⟩) l.length l.length) l.length (cellsP l)) (vs 1) u := hf.2.1
    have f2 : (fun v u => v = A.val) (vs 2) u := hf.2.2.1
    have f3 : (fun v u => v = A.val) (vs 3) u := hf.2.2.2.1
    have f4 : (fun v u => ∃ ao ca, v = .agg #[.int .i64 c0, .slice ao M.length ca, .int .i64 T.kind, .int .i64 T.num, .string T.name] ∧ World.ownsRow u w2.heap.size 26 3 (.slice ao M.length ca) M.length (cellsV M)) (vs 4) u := hf.2.2.2.2.1
    have f5 : (fun v u => ∃ x, v = .pointer (some ⟨x, 0, none⟩) ∧ BoxZValuesResult w2.heap.size x u) (vs 5) u := hf.2.2.2.2.2.1
    clear hf
    simp only [putsA, List.foldl_cons, List.foldl_nil, Act.put, List.setIfInBounds_toArray, List.set_cons_zero, List.set_cons_succ]
    generalize vs 0 = v0 at f0 ⊢
    generalize vs 1 = v1 at f1 ⊢
    generalize vs 2 = v2 at f2 ⊢
    generalize vs 3 = v3 at f3 ⊢
    generalize vs 4 = v4 at f4 ⊢
    generalize vs 5 = v5 at f5 ⊢
    rw [if_pos (by rfl)]
    obtain ⟨ao, ca, rfl, o6⟩ := f4
    obtain ⟨x, rfl, hx⟩ := f5
    clear f0 f1 f2 f3
    obtain ⟨z0, z1, z2, z3, z4, zf⟩ := hx.cells
    go_simp
    refine hK.out _ _ ?_
    clear hK z0 z1 z2 z3 z4 zf
    have hp := hx.put (c := c0) (s := .slice ao M.length ca) (t := T)
    generalize (((((u.setCell ⟨x, 0, none⟩ (.int .i64 c0)).setCell ⟨x, 1, none⟩ (.slice ao M.length ca)).setCell ⟨x, 2, none⟩ (.int .i64 T.kind)).setCell ⟨x, 3, none⟩ (.int .i64 T.num)).setCell ⟨x, 4, none⟩ (.string T.name)) = u1 at hp ⊢
    obtain ⟨hbx, hgr⟩ := hp
    have V4 : Hid (VVListFrom w A u1) := (V1.out.below hB).grown hgr (Nat.le_trans V1.out.size hx.1)
    have hA3 : ∀ g, (Value.slice ao M.length ca).ownBlock = some g → g < u1.heap.size ∧ g ≠ x := fun g hg => ⟨Nat.lt_of_lt_of_le (o6.lt g hg).2 hgr.size, own_ne o6 hx.2 (by decide) g hg⟩
    have O4 : Hid (World.ownsRow u1 w2.heap.size 26 3 (.slice ao M.length ca) M.length (cellsV M)) := own_apart o6 hgr (fun g hg e => (hA3 g hg).2 (Option.some.inj e).symm)
    have X4 : Hid (BoxA x c0 (.slice ao M.length ca) T u1) := hbx
    have s4 : x < u1.heap.size := lt_of_cell hbx.c0
    clear hbx hgr o6 hx hB V1
    go_wp2_with fail
    refine (HU.out _ V4.out.old).mono ?_
    rintro e w5 ⟨g5, rfl, o5, b5⟩
    have O5x : Hid (World.ownsRow w5 u1.heap.size 71 6 (.slice (some ⟨g5, 0, none⟩) l.length l.length) l.length (cellsP l)) := o5
    have V5 : Hid (VVListFrom w A w5) := V4.out.below b5
    have X5 : Hid (BoxA x c0 (.slice ao M.length ca) T w5) := X4.out.below b5
    have O5w : Hid (World.ownsRow w5 w2.heap.size 26 3 (.slice ao M.length ca) M.length (cellsV M)) := own_below O4.out b5
    have hg5 : u1.heap.size ≤ g5 ∧ g5 < w5.heap.size := o5.lt g5 rfl
    have hwu : w.heap.size + 1 ≤ u1.heap.size := V4.out.size
    have s5 : u1.heap.size ≤ w5.heap.size := b5.size
    clear o5 b5 V4 X4 O4 HP u
    have a0 := V5.out.b0.c0
    have a1 := V5.out.b0.c1
    have a2 := V5.out.b0.c2
    go_wp2_with fail
    clear a0 a1 a2
    refine (HV.out _ _).mono ?_
    rintro e w55 ⟨rfl, b55⟩
    go_wp2_with fail
    refine (HI.out _ g5 _ (own_below O5x.out b55)).mono ?_
    rintro e w6 ⟨bo, cb, rfl, o6, b6⟩
    have hB : Below w5.heap.size w5 w6 := b55.trans (b6.mono b55.size)
    have hba : Below w6.heap.size w6 (w6.alloc (.cells #[.int .i64 c0, .slice bo M.length cb, .int .i64 T.kind, .int .i64 T.num, .string T.name] 34)) := (Below.refl _ _).alloc (Nat.le_refl _) _
    have hy5 : w5.heap.size ≤ w6.heap.size := hB.size
    have V6 : Hid (VVListFrom w A (w6.alloc (.cells #[.int .i64 c0, .slice bo M.length cb, .int .i64 T.kind, .int .i64 T.num, .string T.name] 34))) := (V5.out.below hB).below hba
    have hB3 : ∀ g, (Value.slice bo M.length cb).ownBlock = some g → w5.heap.size ≤ g ∧ g < (w6.alloc (.cells #[.int .i64 c0, .slice bo M.length cb, .int .i64 T.kind, .int .i64 T.num, .string T.name] 34)).heap.size ∧ g ≠ w6.heap.size := fun g hg => by have h1 := o6.lt g hg; have h2 := b55.size; simp; omega
    have O6g : Hid (World.ownsRow (w6.alloc (.cells #[.int .i64 c0, .slice bo M.length cb, .int .i64 T.kind, .int .i64 T.num, .string T.name] 34)) w5.heap.size 26 3 (.slice bo M.length cb) M.length (cellsV M)) := own_below (own_base o6 b55.size) hba
    have O6w : Hid (World.ownsRow (w6.alloc (.cells #[.int .i64 c0, .slice bo M.length cb, .int .i64 T.kind, .int .i64 T.num, .string T.name] 34)) w2.heap.size 26 3 (.slice ao M.length ca) M.length (cellsV M)) := own_below (own_below O5w.out hB) hba
    have O6x : Hid (World.ownsRow (w6.alloc (.cells #[.int .i64 c0, .slice bo M.length cb, .int .i64 T.kind, .int .i64 T.num, .string T.name] 34)) _ 71 6 (.slice (some ⟨g5, 0, none⟩) l.length l.length) l.length (cellsP l)) := own_below (own_below O5x.out hB) hba
    have X6 : Hid (BoxVS x w6.heap.size c0 T ao bo M.length ca cb (w6.alloc (.cells #[.int .i64 c0, .slice bo M.length cb, .int .i64 T.kind, .int .i64 T.num, .string T.name] 34))) := by
      have k := (X5.out.below hB).below hba
      have e : ∀ o v, (#[Value.int .i64 c0, .slice bo M.length cb, .int .i64 T.kind, .int .i64 T.num, .string T.name] : Array Value)[o]? = some v → (w6.alloc (.cells #[.int .i64 c0, .slice bo M.length cb, .int .i64 T.kind, .int .i64 T.num, .string T.name] 34)).cell? ⟨w6.heap.size, o, none⟩ = some v := fun o v h => by rw [World.cell?_alloc_at _ _ _ _ rfl]; exact h
      exact ⟨k.c0, k.c1, k.c2, k.c3, k.c4, e 0 _ rfl, e 1 _ rfl, e 2 _ rfl, e 3 _ rfl, e 4 _ rfl⟩
    have sy : w6.heap.size < (w6.alloc (.cells #[.int .i64 c0, .slice bo M.length cb, .int .i64 T.kind, .int .i64 T.num, .string T.name] 34)).heap.size := by simp
    have sx6 : x < w6.heap.size := by omega
    have s6 : (w6.alloc (.cells #[.int .i64 c0, .slice bo M.length cb, .int .i64 T.kind, .int .i64 T.num, .string T.name] 34)).heap.size ≤ (w6.alloc (.cells #[.int .i64 c0, .slice bo M.length cb, .int .i64 T.kind, .int .i64 T.num, .string T.name] 34)).heap.size := Nat.le_refl _
    clear hB hba o6 b55 b6 V5 X5 O5w O5x
    have p0 := X6.out.p0
    have p1 := X6.out.p1
    have p2 := X6.out.p2
    have p3 := X6.out.p3
    have p4 := X6.out.p4
    have q0 := X6.out.q0
    have q1 := X6.out.q1
    have q2 := X6.out.q2
    have q3 := X6.out.q3
    have q4 := X6.out.q4
    go_wp2_with fail
    clear p0 p1 p2 p3 p4 q0 q1 q2 q3 q4
    refine (eqRVS_same c0 T bo ao cb ca _ _ M _ (by omega) O6g.out O6w.out).mono ?_
    rintro e w7 ⟨rfl, b7⟩
    have X7 : Hid (BoxVS x w6.heap.size c0 T ao bo M.length ca cb w7) := X6.out.below b7
    have V7 : Hid (VVListFrom w A w7) := V6.out.below b7
    have O7w : Hid (World.ownsRow w7 w2.heap.size 26 3 (.slice ao M.length ca) M.length (cellsV M)) := own_below O6w.out b7
    have O7x : Hid (World.ownsRow w7 _ 71 6 (.slice (some ⟨g5, 0, none⟩) l.length l.length) l.length (cellsP l)) := own_below O6x.out b7
    have O7g : Hid (World.ownsRow w7 w5.heap.size 26 3 (.slice bo M.length cb) M.length (cellsV M)) := own_below O6g.out b7
    have s7 : (w6.alloc (.cells #[.int .i64 c0, .slice bo M.length cb, .int .i64 T.kind, .int .i64 T.num, .string T.name] 34)).heap.size ≤ w7.heap.size := Nat.le_trans s6 b7.size
    clear b7 X6 V6 O6w O6x O6g
    go_wp2_with fail
    refine (HU.out _ V7.out.old).mono ?_
    rintro e w8 ⟨g8, rfl, o8, b8⟩
    have O8 : Hid (World.ownsRow w8 _ 71 6 (.slice (some ⟨g8, 0, none⟩) l.length l.length) l.length (cellsP l)) := o8
    clear o8
    have X8 : Hid (BoxVS x w6.heap.size c0 T ao bo M.length ca cb w8) := X7.out.below b8
    have V8 : Hid (VVListFrom w A w8) := V7.out.below b8
    have O8w : Hid (World.ownsRow w8 w2.heap.size 26 3 (.slice ao M.length ca) M.length (cellsV M)) := own_below O7w.out b8
    have O8x : Hid (World.ownsRow w8 _ 71 6 (.slice (some ⟨g5, 0, none⟩) l.length l.length) l.length (cellsP l)) := own_below O7x.out b8
    have O8g : Hid (World.ownsRow w8 w5.heap.size 26 3 (.slice bo M.length cb) M.length (cellsV M)) := own_below O7g.out b8
    have s8 : (w6.alloc (.cells #[.int .i64 c0, .slice bo M.length cb, .int .i64 T.kind, .int .i64 T.num, .string T.name] 34)).heap.size ≤ w8.heap.size := Nat.le_trans s7 b8.size
    clear b8 X7 V7 O7w O7x O7g
    go_wp2_with fail
    refine (eqPS_same _ _ _ _ l w8 HN.out O8x.out O8.out).mono ?_
    rintro e w9 ⟨rfl, b9⟩
    clear O8
    have X9 : Hid (BoxVS x w6.heap.size c0 T ao bo M.length ca cb w9) := X8.out.below b9
    have V9 : Hid (VVListFrom w A w9) := V8.out.below b9
    have O9w : Hid (World.ownsRow w9 w2.heap.size 26 3 (.slice ao M.length ca) M.length (cellsV M)) := own_below O8w.out b9
    have O9x : Hid (World.ownsRow w9 _ 71 6 (.slice (some ⟨g5, 0, none⟩) l.length l.length) l.length (cellsP l)) := own_below O8x.out b9
    have O9g : Hid (World.ownsRow w9 w5.heap.size 26 3 (.slice bo M.length cb) M.length (cellsV M)) := own_below O8g.out b9
    have s9 : (w6.alloc (.cells #[.int .i64 c0, .slice bo M.length cb, .int .i64 T.kind, .int .i64 T.num, .string T.name] 34)).heap.size ≤ w9.heap.size := Nat.le_trans s8 b9.size
    clear b9 X8 V8 O8w O8x O8g
    obtain ⟨kx, hkx⟩ : ∃ kx : Nat, kx = 1 + 6 * l.length := ⟨_, rfl⟩
    have HK : Hid (Calls Try.prog 19 #[.slice (some ⟨g5, 0, none⟩) l.length l.length, .int .i64 1] w9 fun e w' => e = .returned (.int .i64 (kx : Int)) ∧ w9.grownBy w' (some g5)) := by
      rw [hkx]
      refine (markPS_any (some ⟨g5, 0, none⟩) l.length _ 1 l w9 HN.out (Nat.le_refl _) (by omega) O9x.out).mono ?_
      rintro e w' ⟨rfl, _, hg⟩
      exact ⟨rfl, hg⟩
    clear hkx O9x
    go_wp2_with fail
    refine HK.out.mono ?_
    rintro e w10 ⟨rfl, gr⟩
    have X10 : Hid (BoxVS x w6.heap.size c0 T ao bo M.length ca cb w10) := X9.out.grown gr (by simp; omega) (by simp; omega)
    have V10 : Hid (VVListFrom w A w10) := V9.out.grown gr (Nat.le_trans hwu hg5.1)
    have O10w : Hid (World.ownsRow w10 w2.heap.size 26 3 (.slice ao M.length ca) M.length (cellsV M)) := own_apart O9w.out gr (fun g hg e => by have := hA3 g hg; have := Option.some.inj e; omega)
    have O10g : Hid (World.ownsRow w10 w5.heap.size 26 3 (.slice bo M.length cb) M.length (cellsV M)) := own_apart O9g.out gr (fun g hg e => by have := hB3 g hg; have := Option.some.inj e; omega)
    have s10 : (w6.alloc (.cells #[.int .i64 c0, .slice bo M.length cb, .int .i64 T.kind, .int .i64 T.num, .string T.name] 34)).heap.size ≤ w10.heap.size := Nat.le_trans s9 gr.size
    clear gr X9 V9 O9w O9g HK
    have p0 := X10.out.p0
    have p1 := X10.out.p1
    have p2 := X10.out.p2
    have p3 := X10.out.p3
    have p4 := X10.out.p4
    have q0 := X10.out.q0
    have q1 := X10.out.q1
    have q2 := X10.out.q2
    have q3 := X10.out.q3
    have q4 := X10.out.q4
    go_wp2_with fail
    clear p0 p1 p2 p3 p4 q0 q1 q2 q3 q4
    refine (eqRVS_same c0 T bo ao cb ca _ _ M _ (by omega) O10g.out O10w.out).mono ?_
    rintro e w11 ⟨rfl, b11⟩
    have X11 : Hid (BoxVS x w6.heap.size c0 T ao bo M.length ca cb w11) := X10.out.below b11
    have V11 : Hid (VVListFrom w A w11) := V10.out.below b11
    have O11w : Hid (World.ownsRow w11 w2.heap.size 26 3 (.slice ao M.length ca) M.length (cellsV M)) := own_below O10w.out b11
    have O11g : Hid (World.ownsRow w11 w5.heap.size 26 3 (.slice bo M.length cb) M.length (cellsV M)) := own_below O10g.out b11
    have s11 : (w6.alloc (.cells #[.int .i64 c0, .slice bo M.length cb, .int .i64 T.kind, .int .i64 T.num, .string T.name] 34)).heap.size ≤ w11.heap.size := Nat.le_trans s10 b11.size
    clear b11 X10 V10 O10w O10g
    have q0 := X11.out.q0
    have q1 := X11.out.q1
    have q2 := X11.out.q2
    have q3 := X11.out.q3
    have q4 := X11.out.q4
    go_wp2_with fail
    clear  q0 q1 q2 q3 q4
    refine (markRVS_any c0 T bo cb _ M _ (by omega) O11g.out).mono ?_
    rintro e w12 ⟨rfl, o12, gr⟩
    have O12m : Hid (w12.ownsRow w5.heap.size 26 3 (.slice bo M.length cb) M.length (cellsV (marksV 1 M.length))) := o12
    have X12 : Hid (BoxVS x w6.heap.size c0 T ao bo M.length ca cb w12) := X11.out.grown gr (fun e => by have := hB3 _ e.symm; omega) (fun e => by have := hB3 _ e.symm; omega)
    have V12 : Hid (VVListFrom w A w12) := by
      cases hb : (Value.slice bo M.length cb).ownBlock with
      | none => rw [hb] at gr; exact V11.out.below (below_of_grown gr (Nat.le_refl _) (fun k hk => by cases hk))
      | some g => rw [hb] at gr; exact V11.out.grown gr (Nat.le_trans hwu (by have := hB3 g hb; omega))
    have O12w : Hid (World.ownsRow w12 w2.heap.size 26 3 (.slice ao M.length ca) M.length (cellsV M)) := own_apart O11w.out gr (fun g hg e => by have h1 := hA3 g hg; have h2 := hB3 g e; omega)
    have s12 : (w6.alloc (.cells #[.int .i64 c0, .slice bo M.length cb, .int .i64 T.kind, .int .i64 T.num, .string T.name] 34)).heap.size ≤ w12.heap.size := Nat.le_trans s11 gr.size
    clear o12 gr X11 V11 O11w O11g
    have q0 := X12.out.q0
    have q1 := X12.out.q1
    have q2 := X12.out.q2
    have q3 := X12.out.q3
    have q4 := X12.out.q4
    obtain ⟨m, hm⟩ : ∃ m : Nat, m = 1 + 3 * M.length := ⟨_, rfl⟩
    have HM : Hid (∀ (u : World) (base : Nat), u.ownsRow base 26 3 (.slice bo M.length cb) M.length (cellsV (marksV 1 M.length)) → Calls Try.prog 25 #[.agg #[.int .i64 c0, .slice bo M.length cb, .int .i64 T.kind, .int .i64 T.num, .string T.name], .int .i64 1] u fun e w' => e = .returned (.int .i64 (m : Int)) ∧ Below u.heap.size u w') := fun u base ho => by rw [hm]; exact heldRVS_any c0 T bo cb base M.length u (by omega) ho
    rw [← hm]
    clear hm
    go_wp2_with fail
    clear  q0 q1 q2 q3 q4
    refine (HM.out _ _ O12m.out).mono ?_
    rintro e w13 ⟨rfl, b13⟩
    have X13 : Hid (BoxVS x w6.heap.size c0 T ao bo M.length ca cb w13) := X12.out.below b13
    have V13 : Hid (VVListFrom w A w13) := V12.out.below b13
    have O13w : Hid (World.ownsRow w13 w2.heap.size 26 3 (.slice ao M.length ca) M.length (cellsV M)) := own_below O12w.out b13
    have O13m : Hid (w13.ownsRow w5.heap.size 26 3 (.slice bo M.length cb) M.length (cellsV (marksV 1 M.length))) := own_below O12m.out b13
    have s13 : (w6.alloc (.cells #[.int .i64 c0, .slice bo M.length cb, .int .i64 T.kind, .int .i64 T.num, .string T.name] 34)).heap.size ≤ w13.heap.size := Nat.le_trans s12 b13.size
    clear b13 X12 V12 O12w O12m
    go_wp2_with fail
    refine wp_region_facts (by kernel_rfl) 6 (fun v => Below w13.heap.size w13 v) (fun u v => Below u.heap.size u v) (fun i v u => match i with | 0 => (fun v u => v = .slice a l.length cp) v u | 1 => (fun v u => ∃ g, v = .slice (some ⟨g, 0, none⟩) l.length l.length ∧ World.ownsRow u w13.heap.size 71 6 (.slice (some ⟨g, 0, none⟩) l.length l.length) l.length (cellsP l)) v u | 2 => (fun v u => v = A.val) v u | 3 => (fun v u => v = A.val) v u | 4 => (fun v u => ∃ ao ca, v = .agg #[.int .i64 c0, .slice ao M.length ca, .int .i64 T.kind, .int .i64 T.num, .string T.name] ∧ World.ownsRow u w13.heap.size 26 3 (.slice ao M.length ca) M.length (cellsV M)) v u | 5 => (fun v u => ∃ x, v = .pointer (some ⟨x, 0, none⟩) ∧ BoxZValuesResult w13.heap.size x u) v u | _ => True) (by kernel_rfl) [0, 1, 2, 3, 4, 5] (by kernel_rfl) ?b0 ?bk ?fk ⟨?s0, ?s1, ?s2, ?s3, ?s4, ?s5, trivial⟩ _ rfl [(0, some 65), (1, some 66), (2, some 67), (3, some 68), (4, some 69), (5, some 12)] (by kernel_rfl) ?last
    case b0 => exact Below.drew (Below.refl _ _)
    case bk => exact fun u v h hb => h.trans (hb.mono h.size)
    case fk => intro i v u u' h hb; match i, h with | 0, h => exact (h) | 1, h => exact (let ⟨g, e, o⟩ := h; ⟨g, e, own_below o hb⟩) | 2, h => exact (h) | 3, h => exact (h) | 4, h => exact (let ⟨ao, ca, e, o⟩ := h; ⟨ao, ca, e, own_below o hb⟩) | 5, h => exact (let ⟨x, e, o⟩ := h; ⟨x, e, o.below hb⟩) | _ + 6, _ => exact trivial
    case s0 =>
      refine StepF.of rfl [] (by kernel_rfl) ?_
      intro vs u hB hf K hK
      clear hf
      simp only [putsA, List.foldl_nil, Act.put, List.setIfInBounds_toArray] at hK ⊢
      rw [if_pos (by rfl)]
      go_simp
      exact hK.out _ _ (Below.refl _ _) rfl
    case s1 =>
      refine StepF.of rfl [(0, some 65)] (by kernel_rfl) ?_
      intro vs u hB hf K hK
      have f0 : (fun v u => v = .slice a l.length cp) (vs 0) u := hf.1
      clear hf
      simp only [putsA, List.foldl_cons, List.foldl_nil, Act.put, List.setIfInBounds_toArray, List.set_cons_zero, List.set_cons_succ] at hK ⊢
      generalize vs 0 = v0 at f0 hK ⊢
      rw [if_pos (by rfl)]
      subst f0
      go_simp
      refine (HU.out _ (V13.out.below hB).old).mono ?_
      rintro e w4 ⟨g4, rfl, o4, b4⟩
      exact hK.out _ _ b4 ⟨g4, rfl, own_base o4 hB.size⟩
    case s2 =>
      refine StepF.of rfl [] (by kernel_rfl) ?_
      intro vs u hB hf K hK
      clear hf
      simp only [putsA, List.foldl_nil, Act.put, List.setIfInBounds_toArray] at hK ⊢
      rw [if_pos (by rfl)]
      have c0' := (V13.out.below hB).b0.c0
      have c1' := (V13.out.below hB).b0.c1
      have c2' := (V13.out.below hB).b0.c2
      go_simp
      exact hK.out _ _ (Below.refl _ _) rfl
    case s3 =>
      refine StepF.of rfl [(1, some 66), (2, some 67)] (by kernel_rfl) ?_
      intro vs u hB hf K hK
      have f1 : (fun v u => ∃ g, v = .slice (some ⟨g, 0, none⟩) l.length l.length ∧ World.ownsRow u w13.heap.size 71 6 (.slice (some ⟨g, 0, none⟩) l.length l.length) l.length (cellsP l)) (vs 1) u := hf.1
      have f2 : (fun v u => v = A.val) (vs 2) u := hf.2.1
      clear hf
      simp only [putsA, List.foldl_cons, List.foldl_nil, Act.put, List.setIfInBounds_toArray, List.set_cons_zero, List.set_cons_succ] at hK ⊢
      generalize vs 1 = v1 at f1 hK ⊢
      generalize vs 2 = v2 at f2 hK ⊢
      rw [if_pos (by rfl)]
      subst f2
      clear f1
      go_simp
      refine (HV.out _ _).mono ?_
      rintro e w4 ⟨rfl, b4⟩
      exact hK.out _ _ b4 rfl
    case s4 =>
      refine StepF.of rfl [(1, some 66), (3, some 68)] (by kernel_rfl) ?_
      intro vs u hB hf K hK
      have f1 : (fun v u => ∃ g, v = .slice (some ⟨g, 0, none⟩) l.length l.length ∧ World.ownsRow u w13.heap.size 71 6 (.slice (some ⟨g, 0, none⟩) l.length l.length) l.length (cellsP l)) (vs 1) u := hf.1
      have f3 : (fun v u => v = A.val) (vs 3) u := hf.2.1
      clear hf
      simp only [putsA, List.foldl_cons, List.foldl_nil, Act.put, List.setIfInBounds_toArray, List.set_cons_zero, List.set_cons_succ] at hK ⊢
      generalize vs 1 = v1 at f1 hK ⊢
      generalize vs 3 = v3 at f3 hK ⊢
      rw [if_pos (by rfl)]
      subst f3
      obtain ⟨g4, rfl, o4⟩ := f1
      go_simp
      refine (HI.out _ g4 _ o4).mono ?_
      rintro e w7 ⟨ao, ca, rfl, o7, b7⟩
      exact hK.out _ _ b7 ⟨ao, ca, rfl, own_base o7 hB.size⟩
    case s5 =>
      refine StepF.of rfl [] (by kernel_rfl) ?_
      intro vs u hB hf K hK
      clear hf
      simp only [putsA, List.foldl_nil, Act.put, List.setIfInBounds_toArray] at hK ⊢
      rw [if_pos (by rfl)]
      go_simp
      exact hK.out _ _ ((Below.refl _ _).alloc (Nat.le_refl _) _) ⟨_, rfl, hB.size, heap_alloc_new _ _⟩
    case last =>
      intro vs u hB hf K hK
      have f0 : (fun v u => v = .slice a l.length cp) (vs 0) u := hf.1
      have f1 : (fun v u => ∃ g, v = .slice (some ⟨g, 0, none⟩) l.length l.length ∧ World.ownsRow u w13.heap.size 71 6 (.slice (some ⟨g, 0, none⟩) l.length l.length) l.length (cellsP l)) (vs 1) u := hf.2.1
      have f2 : (fun v u => v = A.val) (vs 2) u := hf.2.2.1
      have f3 : (fun v u => v = A.val) (vs 3) u := hf.2.2.2.1
      have f4 : (fun v u => ∃ ao ca, v = .agg #[.int .i64 c0, .slice ao M.length ca, .int .i64 T.kind, .int .i64 T.num, .string T.name] ∧ World.ownsRow u w13.heap.size 26 3 (.slice ao M.length ca) M.length (cellsV M)) (vs 4) u := hf.2.2.2.2.1
      have f5 : (fun v u => ∃ x, v = .pointer (some ⟨x, 0, none⟩) ∧ BoxZValuesResult w13.heap.size x u) (vs 5) u := hf.2.2.2.2.2.1
      clear hf
      simp only [putsA, List.foldl_cons, List.foldl_nil, Act.put, List.setIfInBounds_toArray, List.set_cons_zero, List.set_cons_succ]
      generalize vs 0 = v0 at f0 ⊢
      generalize vs 1 = v1 at f1 ⊢
      generalize vs 2 = v2 at f2 ⊢
      generalize vs 3 = v3 at f3 ⊢
      generalize vs 4 = v4 at f4 ⊢
      generalize vs 5 = v5 at f5 ⊢
      rw [if_pos (by rfl)]
      obtain ⟨ho, ch, rfl, o6⟩ := f4
      obtain ⟨hh, rfl, hx⟩ := f5
      clear f0 f1 f2 f3
      obtain ⟨z0, z1, z2, z3, z4, zf⟩ := hx.cells
      go_simp
      refine hK.out _ _ ?_
      clear hK z0 z1 z2 z3 z4 zf
      have hp := hx.put (c := c0) (s := .slice ho M.length ch) (t := T)
      generalize (((((u.setCell ⟨hh, 0, none⟩ (.int .i64 c0)).setCell ⟨hh, 1, none⟩ (.slice ho M.length ch)).setCell ⟨hh, 2, none⟩ (.int .i64 T.kind)).setCell ⟨hh, 3, none⟩ (.int .i64 T.num)).setCell ⟨hh, 4, none⟩ (.string T.name)) = u3 at hp ⊢
      obtain ⟨hbx, hgr⟩ := hp
      have hx13 := hx.1
      have V14 : Hid (VVListFrom w A u3) := (V13.out.below hB).grown hgr (Nat.le_trans V13.out.size hx.1)
      have O14h : Hid (World.ownsRow u3 w13.heap.size 26 3 (.slice ho M.length ch) M.length (cellsV M)) := own_apart o6 hgr (fun g hg e => (own_ne o6 hx.2 (by decide) g hg) (Option.some.inj e).symm)
      have O14w : Hid (World.ownsRow u3 w2.heap.size 26 3 (.slice ao M.length ca) M.length (cellsV M)) := own_apart (own_below O13w.out hB) hgr (fun g hg e => by have h1 := hA3 g hg; have h2 := Option.some.inj e; omega)
      have O14m : Hid (u3.ownsRow w5.heap.size 26 3 (.slice bo M.length cb) M.length (cellsV (marksV 1 M.length))) := own_apart (own_below O13m.out hB) hgr (fun g hg e => by have h1 := hB3 g hg; have h2 := Option.some.inj e; omega)
      have X14 : Hid (BoxVS x w6.heap.size c0 T ao bo M.length ca cb u3) := (X13.out.below hB).grown hgr (by simp; omega) (by simp; omega)
      have h0 := hbx.c0
      have h1 := hbx.c1
      have h2 := hbx.c2
      have h3 := hbx.c3
      have h4 := hbx.c4
      clear hbx hgr o6 hx hB V13 X13 O13w O13m u
      have p0 := X14.out.p0
      have p1 := X14.out.p1
      have p2 := X14.out.p2
      have p3 := X14.out.p3
      have p4 := X14.out.p4
      go_wp2_with fail
      clear p0 p1 p2 p3 p4 
      clear h0 h1 h2 h3 h4
      refine (eqRVS_same c0 T ho ao ch ca _ _ M _ (by omega) O14h.out O14w.out).mono ?_
      rintro e w15 ⟨rfl, b15⟩
      have X15 : Hid (BoxVS x w6.heap.size c0 T ao bo M.length ca cb w15) := X14.out.below b15
      have V15 : Hid (VVListFrom w A w15) := V14.out.below b15
      have O15m : Hid (w15.ownsRow w5.heap.size 26 3 (.slice bo M.length cb) M.length (cellsV (marksV 1 M.length))) := own_below O14m.out b15
      clear b15 X14 V14 O14m O14h O14w
      have q0 := X15.out.q0
      have q1 := X15.out.q1
      have q2 := X15.out.q2
      have q3 := X15.out.q3
      have q4 := X15.out.q4
      go_wp2_with fail
      clear  q0 q1 q2 q3 q4
      refine (HM.out _ _ O15m.out).mono ?_
      rintro e w16 ⟨rfl, b16⟩
      have V16 : Hid (VVListFrom w A w16) := V15.out.below b16
      clear b16
      go_wp2
      go_ret
      exact ⟨rfl, V16.out.old⟩
end Go.Proofs.Ytbfhoennafopaaa
