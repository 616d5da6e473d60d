/-
  The exact law of DefineGlobal answers true at all globals, names and values; nothing that was there is turned.
-/
import Derived.Test.YtgfienijabkpjaaImplDG
namespace Go.Proofs.Ytgfienijabkpjaa
open Go.RowKit Go.Extern.Stop Go.Stop Go.Extern Num Go.Lib

set_option maxRecDepth 100000 in
set_option maxHeartbeats 8000000 in
theorem lawDG_any (w : World) (a : Option Addr) (cp : Nat) (l : List Glb) (hl : l.length ≤ 9223372036854775807) (h : MemG w a l) (hz : ∀ (k : Nat) (h : k < l.length), l[k].able) (s : ByteArray) (hs : s.size ≤ 9223372036854775807) (V : Vlu) (hV : V.name.size ≤ 9223372036854775807) :
    Calls Try.prog 5 #[.slice a l.length cp, .string s, V.val] w fun e w' => e = .returned (.bool true) ∧ Below w.heap.size w w' := by
  by_cases hsz : 1048576 < s.size
  · clear h hz hl
    go_enter Try.func5, Try.ntmps5
    go_wp2
    go_ret
    exact ⟨rfl, (Below.refl _ _).alloc (Nat.le_refl _) _⟩
  have HS : Hid (∀ u, Below w.heap.size w u → Calls Try.prog 20 #[.slice a l.length cp, .int .i64 1048576] u fun e w' => SZG l u e w') := fun u hu => szGS_any a cp l u 1048576 (Nat.le_refl _) hl (h.below hu) hz
  have HT : Hid (MemG w a l) := h
  have HV : Hid (∀ (t : Vlu) (u : World), Calls Try.prog 23 #[t.val] u fun e w' => e = .returned t.val ∧ Below u.heap.size u w') := fun t u => toV_any t u
  have V0 : Hid (VVG w V (w.alloc (.cells #[.int .i64 V.kind, .int .i64 V.num, .string V.name] 47))) := vvg_new w V _
  clear h hz hl
  go_enter Try.func5, Try.ntmps5
  go_wp2_with fail
  refine (HS.out _ V0.out.old).mono ?_
  rintro e w1 ⟨h1, b1⟩
  have V1 : Hid (VVG w V w1) := V0.out.below b1
  clear b1 V0 HS
  rcases h1 with rfl | ⟨q0, hq0, rfl, hl, hz⟩
  · go_wp2
    go_ret
    exact ⟨rfl, V1.out.old⟩
  have HZ : Hid (ableG l) := ableG_of hz
  have HN : Hid (l.length ≤ 1048576) := hl
  have HU : Hid (∀ wx, Below w.heap.size w wx → Calls Try.prog 22 #[.slice a l.length cp] wx fun e w' => ∃ g, e = .returned (.slice (some ⟨g, 0, none⟩) l.length l.length) ∧ World.ownsRow w' wx.heap.size 33 5 (.slice (some ⟨g, 0, none⟩) l.length l.length) l.length (cellsG l) ∧ Below wx.heap.size wx w') := fun wx hx => toGS_any a cp l wx hl (HT.out.below hx)
  have HP : Hid (∀ (u : World) (g base : Nat), World.ownsRow u base 33 5 (.slice (some ⟨g, 0, none⟩) l.length l.length) l.length (cellsG l) → Calls Try.prog 12 #[.slice (some ⟨g, 0, none⟩) l.length l.length, .string s, V.val] u fun e w' => AnsD u (codeDG l s V) (outDG l s V) e w') := fun u g base ho => specDG_any l.length base g l s V u hl (Nat.le_refl _) (by omega) ho HZ.out hs hV
  have HI : Hid (∀ (u : World) (g base : Nat), World.ownsRow u base 33 5 (.slice (some ⟨g, 0, none⟩) l.length l.length) l.length (cellsG l) → Calls Try.prog 10 #[.slice (some ⟨g, 0, none⟩) l.length l.length, .string s, V.val] u fun e w' => AnsD u (codeDG l s V) (outDG l s V) e w') := fun u g base ho => implDG_any _ l.length g l s V u hl (fun _ => rfl) (RowG.of ho) HZ.out hs hV
  have hM := outDG_len l s V
  generalize outDG l s V = M at HP HI hM
  generalize codeDG l s V = c0 at HP HI
  clear hz hl hs
  have a0 := V1.out.b0.c0
  have a1 := V1.out.b0.c1
  have a2 := V1.out.b0.c2
  by_cases hf : q0 < V.name.size
  · have HZ1 : Hid (∀ w, Calls Try.prog 21 #[V.val, .int .i64 (q0 : Int)] w fun e w' => e = .returned (.int .i64 (-1)) ∧ Below w.heap.size w w') := fun w => szV_far V q0 w hV hq0 hf
    clear hf
    go_wp2_with fail
    refine (HZ1.out _).mono ?_
    rintro e w2 ⟨rfl, b2⟩
    go_wp2
    go_ret
    exact ⟨rfl, V1.out.old.trans (b2.mono V1.out.old.size)⟩
  obtain ⟨q1, hqe⟩ : ∃ q : Nat, q = q0 - V.name.size := ⟨_, rfl⟩
  have HZ1 : Hid (∀ w, Calls Try.prog 21 #[V.val, .int .i64 (q0 : Int)] w fun e w' => e = .returned (.int .i64 (q1 : Int)) ∧ Below w.heap.size w w') := fun w => by rw [hqe]; exact szV_near V q0 w hq0 (by omega)
  have hq1 : q1 ≤ 1048576 := by omega
  clear hf hqe
  go_wp2_with fail
  refine (HZ1.out _).mono ?_
  rintro e w2 ⟨rfl, b2⟩
  replace V1 : Hid (VVG w V w2) := V1.out.below b2
  clear b2 a0 a1 a2 HZ1 hV hq0
  go_wp2_with fail
  refine wp_region_facts (by kernel_rfl) 7 (fun v => Below w2.heap.size w2 v) (fun u v => Below u.heap.size u v) (fun i v u => match i with | 0 => (fun q u => q = .slice a l.length cp) v u | 1 => (fun q u => ∃ g, q = .slice (some ⟨g, 0, none⟩) l.length l.length ∧ World.ownsRow u w2.heap.size 33 5 (.slice (some ⟨g, 0, none⟩) l.length l.length) l.length (cellsG l)) v u | 2 => (fun q u => q = .string s) v u | 3 => (fun q u => q = V.val) v u | 4 => (fun q u => q = V.val) v u | 5 => (fun q u => ∃ ao ca, q = .agg #[.int .i64 c0, .slice ao M.length ca] ∧ World.ownsRow u w2.heap.size 33 5 (.slice ao M.length ca) M.length (cellsG M)) v u | 6 => (fun q u => ∃ x, q = .pointer (some ⟨x, 0, none⟩) ∧ GrZ w2.heap.size x u) v u | _ => True) (by kernel_rfl) [0, 1, 2, 3, 4, 5, 6] (by kernel_rfl) ?b0 ?bk ?fk ⟨?s0, ?s1, ?s2, ?s3, ?s4, ?s5, ?s6, trivial⟩ _ rfl [(0, some 28), (1, some 29), (2, some 30), (3, some 31), (4, some 32), (5, some 33), (6, some 8)] (by kernel_rfl) ?last
  case b0 => exact Below.drew (Below.refl _ _)
  case bk => exact fun u v h hb => h.trans (hb.mono h.size)
  case fk => intro i v u u' h hb; match i, h with | 0, h => exact (h) | 1, h => exact (let ⟨g, e, o⟩ := h; ⟨g, e, own_below o hb⟩) | 2, h => exact (h) | 3, h => exact (h) | 4, h => exact (h) | 5, h => exact (let ⟨ao, ca, e, o⟩ := h; ⟨ao, ca, e, own_below o hb⟩) | 6, h => exact (let ⟨x, e, o⟩ := h; ⟨x, e, o.below hb⟩) | _ + 7, _ => exact trivial
  case s0 =>
    refine StepF.of rfl [] (by kernel_rfl) ?_
    intro vs u hB hf K hK
    clear hf
    simp only [putsA, List.foldl_nil, Act.put, List.setIfInBounds_toArray] at hK ⊢
    rw [if_pos (by rfl)]
    go_simp
    exact hK.out _ _ (Below.refl _ _) rfl
  case s1 =>
    refine StepF.of rfl [(0, some 28)] (by kernel_rfl) ?_
    intro vs u hB hf K hK
    have f0 : (fun q u => q = .slice a l.length cp) (vs 0) u := hf.1
    clear hf
    simp only [putsA, List.foldl_cons, List.foldl_nil, Act.put, List.setIfInBounds_toArray, List.set_cons_zero, List.set_cons_succ] at hK ⊢
    generalize vs 0 = v0 at f0 hK ⊢
    rw [if_pos (by rfl)]
    subst f0
    go_simp
    refine (HU.out _ (V1.out.below hB).old).mono ?_
    rintro e w4 ⟨g4, rfl, o4, b4⟩
    exact hK.out _ _ b4 ⟨g4, rfl, own_base o4 hB.size⟩
  case s2 =>
    refine StepF.of rfl [] (by kernel_rfl) ?_
    intro vs u hB hf K hK
    clear hf
    simp only [putsA, List.foldl_nil, Act.put, List.setIfInBounds_toArray] at hK ⊢
    rw [if_pos (by rfl)]
    go_simp
    exact hK.out _ _ (Below.refl _ _) rfl
  case s3 =>
    refine StepF.of rfl [] (by kernel_rfl) ?_
    intro vs u hB hf K hK
    clear hf
    simp only [putsA, List.foldl_nil, Act.put, List.setIfInBounds_toArray] at hK ⊢
    rw [if_pos (by rfl)]
    have c0' := (V1.out.below hB).b0.c0
    have c1' := (V1.out.below hB).b0.c1
    have c2' := (V1.out.below hB).b0.c2
    go_simp
    exact hK.out _ _ (Below.refl _ _) rfl
  case s4 =>
    refine StepF.of rfl [(1, some 29), (3, some 31)] (by kernel_rfl) ?_
    intro vs u hB hf K hK
    have f1 : (fun q u => ∃ g, q = .slice (some ⟨g, 0, none⟩) l.length l.length ∧ World.ownsRow u w2.heap.size 33 5 (.slice (some ⟨g, 0, none⟩) l.length l.length) l.length (cellsG l)) (vs 1) u := hf.1
    have f3 : (fun q u => q = V.val) (vs 3) u := hf.2.1
    clear hf
    simp only [putsA, List.foldl_cons, List.foldl_nil, Act.put, List.setIfInBounds_toArray, List.set_cons_zero, List.set_cons_succ] at hK ⊢
    generalize vs 1 = v1 at f1 hK ⊢
    generalize vs 3 = v3 at f3 hK ⊢
    rw [if_pos (by rfl)]
    subst f3
    clear f1
    go_simp
    refine (HV.out _ _).mono ?_
    rintro e w4 ⟨rfl, b4⟩
    exact hK.out _ _ b4 rfl
  case s5 =>
    refine StepF.of rfl [(1, some 29), (2, some 30), (4, some 32)] (by kernel_rfl) ?_
    intro vs u hB hf K hK
    have f1 : (fun q u => ∃ g, q = .slice (some ⟨g, 0, none⟩) l.length l.length ∧ World.ownsRow u w2.heap.size 33 5 (.slice (some ⟨g, 0, none⟩) l.length l.length) l.length (cellsG l)) (vs 1) u := hf.1
    have f2 : (fun q u => q = .string s) (vs 2) u := hf.2.1
    have f4 : (fun q u => q = V.val) (vs 4) u := hf.2.2.1
    clear hf
    simp only [putsA, List.foldl_cons, List.foldl_nil, Act.put, List.setIfInBounds_toArray, List.set_cons_zero, List.set_cons_succ] at hK ⊢
    generalize vs 1 = v1 at f1 hK ⊢
    generalize vs 2 = v2 at f2 hK ⊢
    generalize vs 4 = v4 at f4 hK ⊢
    rw [if_pos (by rfl)]
    subst f2 f4
    obtain ⟨g4, rfl, o4⟩ := f1
    go_simp
    refine (HP.out _ g4 _ o4).mono ?_
    rintro e w7 ⟨ao, ca, rfl, o7, b7⟩
    exact hK.out _ _ b7 ⟨ao, ca, rfl, own_base o7 hB.size⟩
  case s6 =>
    refine StepF.of rfl [] (by kernel_rfl) ?_
    intro vs u hB hf K hK
    clear hf
    simp only [putsA, List.foldl_nil, Act.put, List.setIfInBounds_toArray] at hK ⊢
    rw [if_pos (by rfl)]
    go_simp
    exact hK.out _ _ ((Below.refl _ _).alloc (Nat.le_refl _) _) ⟨_, rfl, hB.size, heap_alloc_new _ _⟩
  case last =>
    intro vs u hB hf K hK
    have f0 : (fun q u => q = .slice a l.length cp) (vs 0) u := hf.1
    have f1 : (fun q u => ∃ g, q = .slice (some ⟨g, 0, none⟩) l.length l.length ∧ World.ownsRow u w2.heap.size 33 5 (.slice (some ⟨g, 0, none⟩) l.length l.length) l.length (cellsG l)) (vs 1) u := hf.2.1
    have f2 : (fun q u => q = .string s) (vs 2) u := hf.2.2.1
    have f3 : (fun q u => q = V.val) (vs 3) u := hf.2.2.2.1
    have f4 : (fun q u => q = V.val) (vs 4) u := hf.2.2.2.2.1
    have f5 : (fun q u => ∃ ao ca, q = .agg #[.int .i64 c0, .slice ao M.length ca] ∧ World.ownsRow u w2.heap.size 33 5 (.slice ao M.length ca) M.length (cellsG M)) (vs 5) u := hf.2.2.2.2.2.1
    have f6 : (fun q u => ∃ x, q = .pointer (some ⟨x, 0, none⟩) ∧ GrZ w2.heap.size x u) (vs 6) u := hf.2.2.2.2.2.2.1
    clear hf
    simp only [putsA, List.foldl_cons, List.foldl_nil, Act.put, List.setIfInBounds_toArray, List.set_cons_zero, List.set_cons_succ]
    generalize vs 0 = v0 at f0 ⊢
    generalize vs 1 = v1 at f1 ⊢
    generalize vs 2 = v2 at f2 ⊢
    generalize vs 3 = v3 at f3 ⊢
    generalize vs 4 = v4 at f4 ⊢
    generalize vs 5 = v5 at f5 ⊢
    generalize vs 6 = v6 at f6 ⊢
    rw [if_pos (by rfl)]
    obtain ⟨ao, ca, rfl, o6⟩ := f5
    obtain ⟨x, rfl, hx⟩ := f6
    clear f0 f1 f2 f3 f4
    obtain ⟨z0, z1, zf⟩ := hx.cells
    go_simp
    refine hK.out _ _ ?_
    clear hK z0 z1 zf
    have hp := hx.put (c := c0) (s := .slice ao M.length ca)
    generalize (u.setCell ⟨x, 0, none⟩ (.int .i64 c0)).setCell ⟨x, 1, none⟩ (.slice ao M.length ca) = u1 at hp ⊢
    obtain ⟨hbx, hgr⟩ := hp
    have V4 : Hid (VVG w V u1) := (V1.out.below hB).grown hgr (Nat.le_trans V1.out.size hx.1)
    have hA3 : ∀ g, (Value.slice ao M.length ca).ownBlock = some g → g < u1.heap.size ∧ g ≠ x := fun g hg => ⟨Nat.lt_of_lt_of_le (o6.lt g hg).2 hgr.size, own_neG o6 hx.2 (by decide) g hg⟩
    have O4 : Hid (World.ownsRow u1 w2.heap.size 33 5 (.slice ao M.length ca) M.length (cellsG M)) := own_apart o6 hgr (fun g hg e => (hA3 g hg).2 (Option.some.inj e).symm)
    have X4 : Hid (GrA x c0 (.slice ao M.length ca) u1) := hbx
    have s4 : x < u1.heap.size := lt_of_cell hbx.c0
    clear hbx hgr o6 hx hB V1
    go_wp2_with fail
    refine (HU.out _ V4.out.old).mono ?_
    rintro e w5 ⟨g5, rfl, o5, b5⟩
    have O5x : Hid (World.ownsRow w5 u1.heap.size 33 5 (.slice (some ⟨g5, 0, none⟩) l.length l.length) l.length (cellsG l)) := o5
    have V5 : Hid (VVG w V w5) := V4.out.below b5
    have X5 : Hid (GrA x c0 (.slice ao M.length ca) w5) := X4.out.below b5
    have O5w : Hid (World.ownsRow w5 w2.heap.size 33 5 (.slice ao M.length ca) M.length (cellsG M)) := own_below O4.out b5
    have hg5 : u1.heap.size ≤ g5 ∧ g5 < w5.heap.size := o5.lt g5 rfl
    have hwu : w.heap.size + 1 ≤ u1.heap.size := V4.out.size
    have s5 : u1.heap.size ≤ w5.heap.size := b5.size
    clear o5 b5 V4 X4 O4 HP u
    have a0 := V5.out.b0.c0
    have a1 := V5.out.b0.c1
    have a2 := V5.out.b0.c2
    go_wp2_with fail
    clear a0 a1 a2
    refine (HV.out _ _).mono ?_
    rintro e w55 ⟨rfl, b55⟩
    go_wp2_with fail
    refine (HI.out _ g5 _ (own_below O5x.out b55)).mono ?_
    rintro e w6 ⟨bo, cb, rfl, o6, b6⟩
    have hB : Below w5.heap.size w5 w6 := b55.trans (b6.mono b55.size)
    have hba : Below w6.heap.size w6 (w6.alloc (.cells #[.int .i64 c0, .slice bo M.length cb] 30)) := (Below.refl _ _).alloc (Nat.le_refl _) _
    have hy5 : w5.heap.size ≤ w6.heap.size := hB.size
    have V6 : Hid (VVG w V (w6.alloc (.cells #[.int .i64 c0, .slice bo M.length cb] 30))) := (V5.out.below hB).below hba
    have hB3 : ∀ g, (Value.slice bo M.length cb).ownBlock = some g → w5.heap.size ≤ g ∧ g < (w6.alloc (.cells #[.int .i64 c0, .slice bo M.length cb] 30)).heap.size ∧ g ≠ w6.heap.size := fun g hg => by have h1 := o6.lt g hg; have h2 := b55.size; simp; omega
    have O6g : Hid (World.ownsRow (w6.alloc (.cells #[.int .i64 c0, .slice bo M.length cb] 30)) w5.heap.size 33 5 (.slice bo M.length cb) M.length (cellsG M)) := own_below (own_base o6 b55.size) hba
    have O6w : Hid (World.ownsRow (w6.alloc (.cells #[.int .i64 c0, .slice bo M.length cb] 30)) w2.heap.size 33 5 (.slice ao M.length ca) M.length (cellsG M)) := own_below (own_below O5w.out hB) hba
    have O6x : Hid (World.ownsRow (w6.alloc (.cells #[.int .i64 c0, .slice bo M.length cb] 30)) _ 33 5 (.slice (some ⟨g5, 0, none⟩) l.length l.length) l.length (cellsG l)) := own_below (own_below O5x.out hB) hba
    have X6 : Hid (BoxG x w6.heap.size c0 ao bo M.length ca cb (w6.alloc (.cells #[.int .i64 c0, .slice bo M.length cb] 30))) := by
      have k := (X5.out.below hB).below hba
      exact ⟨k.c0, k.c1, by rw [World.cell?_alloc_at _ _ _ _ rfl]; rfl, by rw [World.cell?_alloc_at _ _ _ _ rfl]; rfl⟩
    have sy : w6.heap.size < (w6.alloc (.cells #[.int .i64 c0, .slice bo M.length cb] 30)).heap.size := by simp
    have sx6 : x < w6.heap.size := by omega
    have s6 : (w6.alloc (.cells #[.int .i64 c0, .slice bo M.length cb] 30)).heap.size ≤ (w6.alloc (.cells #[.int .i64 c0, .slice bo M.length cb] 30)).heap.size := Nat.le_refl _
    clear hB hba o6 b55 b6 V5 X5 O5w O5x
    have p0 := X6.out.p0
    have p1 := X6.out.p1
    have q0 := X6.out.q0
    have q1' := X6.out.q1
    go_wp2_with fail
    clear p0 p1 q0 q1'
    refine (eqRG_same c0 bo ao cb ca _ _ M _ (by omega) O6g.out O6w.out).mono ?_
    rintro e w7 ⟨rfl, b7⟩
    have X7 : Hid (BoxG x w6.heap.size c0 ao bo M.length ca cb w7) := X6.out.below b7
    have V7 : Hid (VVG w V w7) := V6.out.below b7
    have O7w : Hid (World.ownsRow w7 w2.heap.size 33 5 (.slice ao M.length ca) M.length (cellsG M)) := own_below O6w.out b7
    have O7x : Hid (World.ownsRow w7 _ 33 5 (.slice (some ⟨g5, 0, none⟩) l.length l.length) l.length (cellsG l)) := own_below O6x.out b7
    have O7g : Hid (World.ownsRow w7 w5.heap.size 33 5 (.slice bo M.length cb) M.length (cellsG M)) := own_below O6g.out b7
    have s7 : (w6.alloc (.cells #[.int .i64 c0, .slice bo M.length cb] 30)).heap.size ≤ w7.heap.size := Nat.le_trans s6 b7.size
    clear b7 X6 V6 O6w O6x O6g
    go_wp2_with fail
    refine (HU.out _ V7.out.old).mono ?_
    rintro e w8 ⟨g8, rfl, o8, b8⟩
    have O8 : Hid (World.ownsRow w8 _ 33 5 (.slice (some ⟨g8, 0, none⟩) l.length l.length) l.length (cellsG l)) := o8
    clear o8
    have X8 : Hid (BoxG x w6.heap.size c0 ao bo M.length ca cb w8) := X7.out.below b8
    have V8 : Hid (VVG w V w8) := V7.out.below b8
    have O8w : Hid (World.ownsRow w8 w2.heap.size 33 5 (.slice ao M.length ca) M.length (cellsG M)) := own_below O7w.out b8
    have O8x : Hid (World.ownsRow w8 _ 33 5 (.slice (some ⟨g5, 0, none⟩) l.length l.length) l.length (cellsG l)) := own_below O7x.out b8
    have O8g : Hid (World.ownsRow w8 w5.heap.size 33 5 (.slice bo M.length cb) M.length (cellsG M)) := own_below O7g.out b8
    have s8 : (w6.alloc (.cells #[.int .i64 c0, .slice bo M.length cb] 30)).heap.size ≤ w8.heap.size := Nat.le_trans s7 b8.size
    clear b8 X7 V7 O7w O7x O7g
    go_wp2_with fail
    refine (eqGS_same _ _ _ _ l w8 HN.out O8x.out O8.out).mono ?_
    rintro e w9 ⟨rfl, b9⟩
    clear O8
    have X9 : Hid (BoxG x w6.heap.size c0 ao bo M.length ca cb w9) := X8.out.below b9
    have V9 : Hid (VVG w V w9) := V8.out.below b9
    have O9w : Hid (World.ownsRow w9 w2.heap.size 33 5 (.slice ao M.length ca) M.length (cellsG M)) := own_below O8w.out b9
    have O9x : Hid (World.ownsRow w9 _ 33 5 (.slice (some ⟨g5, 0, none⟩) l.length l.length) l.length (cellsG l)) := own_below O8x.out b9
    have O9g : Hid (World.ownsRow w9 w5.heap.size 33 5 (.slice bo M.length cb) M.length (cellsG M)) := own_below O8g.out b9
    have s9 : (w6.alloc (.cells #[.int .i64 c0, .slice bo M.length cb] 30)).heap.size ≤ w9.heap.size := Nat.le_trans s8 b9.size
    clear b9 X8 V8 O8w O8x O8g
    obtain ⟨kx, hkx⟩ : ∃ kx : Nat, kx = 1 + 5 * l.length := ⟨_, rfl⟩
    have HK : Hid (Calls Try.prog 26 #[.slice (some ⟨g5, 0, none⟩) l.length l.length, .int .i64 1] w9 fun e w' => e = .returned (.int .i64 (kx : Int)) ∧ w9.grownBy w' (some g5)) := by
      rw [hkx]
      refine (markGS_any (some ⟨g5, 0, none⟩) l.length _ 1 l w9 HN.out (Nat.le_refl _) (by omega) O9x.out).mono ?_
      rintro e w' ⟨rfl, _, hg⟩
      exact ⟨rfl, hg⟩
    clear hkx O9x
    go_wp2_with fail
    refine HK.out.mono ?_
    rintro e w10 ⟨rfl, gr⟩
    have X10 : Hid (BoxG x w6.heap.size c0 ao bo M.length ca cb w10) := X9.out.grown gr (by simp; omega) (by simp; omega)
    have V10 : Hid (VVG w V w10) := V9.out.grown gr (Nat.le_trans hwu hg5.1)
    have O10w : Hid (World.ownsRow w10 w2.heap.size 33 5 (.slice ao M.length ca) M.length (cellsG M)) := own_apart O9w.out gr (fun g hg e => by have := hA3 g hg; have := Option.some.inj e; omega)
    have O10g : Hid (World.ownsRow w10 w5.heap.size 33 5 (.slice bo M.length cb) M.length (cellsG M)) := own_apart O9g.out gr (fun g hg e => by have := hB3 g hg; have := Option.some.inj e; omega)
    have s10 : (w6.alloc (.cells #[.int .i64 c0, .slice bo M.length cb] 30)).heap.size ≤ w10.heap.size := Nat.le_trans s9 gr.size
    clear gr X9 V9 O9w O9g HK
    have p0 := X10.out.p0
    have p1 := X10.out.p1
    have q0 := X10.out.q0
    have q1' := X10.out.q1
    go_wp2_with fail
    clear p0 p1 q0 q1'
    refine (eqRG_same c0 bo ao cb ca _ _ M _ (by omega) O10g.out O10w.out).mono ?_
    rintro e w11 ⟨rfl, b11⟩
    have X11 : Hid (BoxG x w6.heap.size c0 ao bo M.length ca cb w11) := X10.out.below b11
    have V11 : Hid (VVG w V w11) := V10.out.below b11
    have O11w : Hid (World.ownsRow w11 w2.heap.size 33 5 (.slice ao M.length ca) M.length (cellsG M)) := own_below O10w.out b11
    have O11g : Hid (World.ownsRow w11 w5.heap.size 33 5 (.slice bo M.length cb) M.length (cellsG M)) := own_below O10g.out b11
    have s11 : (w6.alloc (.cells #[.int .i64 c0, .slice bo M.length cb] 30)).heap.size ≤ w11.heap.size := Nat.le_trans s10 b11.size
    clear b11 X10 V10 O10w O10g
    have q0 := X11.out.q0
    have q1' := X11.out.q1
    go_wp2_with fail
    clear q0 q1'
    refine (markRG_any c0 bo cb _ M _ (by omega) O11g.out).mono ?_
    rintro e w12 ⟨rfl, o12, gr⟩
    have O12m : Hid (w12.ownsRow w5.heap.size 33 5 (.slice bo M.length cb) M.length (cellsG (marksG 1 M.length))) := o12
    have X12 : Hid (BoxG x w6.heap.size c0 ao bo M.length ca cb w12) := X11.out.grown gr (fun e => by have := hB3 _ e.symm; omega) (fun e => by have := hB3 _ e.symm; omega)
    have V12 : Hid (VVG w V w12) := by
      cases hb : (Value.slice bo M.length cb).ownBlock with
      | none => rw [hb] at gr; exact V11.out.below (below_of_grown gr (Nat.le_refl _) (fun k hk => by cases hk))
      | some g => rw [hb] at gr; exact V11.out.grown gr (Nat.le_trans hwu (by have := hB3 g hb; omega))
    have O12w : Hid (World.ownsRow w12 w2.heap.size 33 5 (.slice ao M.length ca) M.length (cellsG M)) := own_apart O11w.out gr (fun g hg e => by have h1 := hA3 g hg; have h2 := hB3 g e; omega)
    have s12 : (w6.alloc (.cells #[.int .i64 c0, .slice bo M.length cb] 30)).heap.size ≤ w12.heap.size := Nat.le_trans s11 gr.size
    clear o12 gr X11 V11 O11w O11g
    have q0 := X12.out.q0
    have q1' := X12.out.q1
    obtain ⟨m, hm⟩ : ∃ m : Nat, m = 1 + 5 * M.length := ⟨_, rfl⟩
    have HM : Hid (∀ (u : World) (base : Nat), u.ownsRow base 33 5 (.slice bo M.length cb) M.length (cellsG (marksG 1 M.length)) → Calls Try.prog 28 #[.agg #[.int .i64 c0, .slice bo M.length cb], .int .i64 1] u fun e w' => e = .returned (.int .i64 (m : Int)) ∧ Below u.heap.size u w') := fun u base ho => by rw [hm]; exact heldRG_any c0 bo cb base M.length u (by omega) ho
    rw [← hm]
    clear hm
    go_wp2_with fail
    clear q0 q1'
    refine (HM.out _ _ O12m.out).mono ?_
    rintro e w13 ⟨rfl, b13⟩
    have X13 : Hid (BoxG x w6.heap.size c0 ao bo M.length ca cb w13) := X12.out.below b13
    have V13 : Hid (VVG w V w13) := V12.out.below b13
    have O13w : Hid (World.ownsRow w13 w2.heap.size 33 5 (.slice ao M.length ca) M.length (cellsG M)) := own_below O12w.out b13
    have O13m : Hid (w13.ownsRow w5.heap.size 33 5 (.slice bo M.length cb) M.length (cellsG (marksG 1 M.length))) := own_below O12m.out b13
    have s13 : (w6.alloc (.cells #[.int .i64 c0, .slice bo M.length cb] 30)).heap.size ≤ w13.heap.size := Nat.le_trans s12 b13.size
    clear b13 X12 V12 O12w O12m
    go_wp2_with fail
    refine wp_region_facts (by kernel_rfl) 7 (fun v => Below w13.heap.size w13 v) (fun u v => Below u.heap.size u v) (fun i v u => match i with | 0 => (fun q u => q = .slice a l.length cp) v u | 1 => (fun q u => ∃ g, q = .slice (some ⟨g, 0, none⟩) l.length l.length ∧ World.ownsRow u w13.heap.size 33 5 (.slice (some ⟨g, 0, none⟩) l.length l.length) l.length (cellsG l)) v u | 2 => (fun q u => q = .string s) v u | 3 => (fun q u => q = V.val) v u | 4 => (fun q u => q = V.val) v u | 5 => (fun q u => ∃ ao ca, q = .agg #[.int .i64 c0, .slice ao M.length ca] ∧ World.ownsRow u w13.heap.size 33 5 (.slice ao M.length ca) M.length (cellsG M)) v u | 6 => (fun q u => ∃ x, q = .pointer (some ⟨x, 0, none⟩) ∧ GrZ w13.heap.size x u) v u | _ => True) (by kernel_rfl) [0, 1, 2, 3, 4, 5, 6] (by kernel_rfl) ?b0 ?bk ?fk ⟨?s0, ?s1, ?s2, ?s3, ?s4, ?s5, ?s6, trivial⟩ _ rfl [(0, some 72), (1, some 73), (2, some 74), (3, some 75), (4, some 76), (5, some 77), (6, some 14)] (by kernel_rfl) ?last
    case b0 => exact Below.drew (Below.refl _ _)
    case bk => exact fun u v h hb => h.trans (hb.mono h.size)
    case fk => intro i v u u' h hb; match i, h with | 0, h => exact (h) | 1, h => exact (let ⟨g, e, o⟩ := h; ⟨g, e, own_below o hb⟩) | 2, h => exact (h) | 3, h => exact (h) | 4, h => exact (h) | 5, h => exact (let ⟨ao, ca, e, o⟩ := h; ⟨ao, ca, e, own_below o hb⟩) | 6, h => exact (let ⟨x, e, o⟩ := h; ⟨x, e, o.below hb⟩) | _ + 7, _ => exact trivial
    case s0 =>
      refine StepF.of rfl [] (by kernel_rfl) ?_
      intro vs u hB hf K hK
      clear hf
      simp only [putsA, List.foldl_nil, Act.put, List.setIfInBounds_toArray] at hK ⊢
      rw [if_pos (by rfl)]
      go_simp
      exact hK.out _ _ (Below.refl _ _) rfl
    case s1 =>
      refine StepF.of rfl [(0, some 72)] (by kernel_rfl) ?_
      intro vs u hB hf K hK
      have f0 : (fun q u => q = .slice a l.length cp) (vs 0) u := hf.1
      clear hf
      simp only [putsA, List.foldl_cons, List.foldl_nil, Act.put, List.setIfInBounds_toArray, List.set_cons_zero, List.set_cons_succ] at hK ⊢
      generalize vs 0 = v0 at f0 hK ⊢
      rw [if_pos (by rfl)]
      subst f0
      go_simp
      refine (HU.out _ (V13.out.below hB).old).mono ?_
      rintro e w4 ⟨g4, rfl, o4, b4⟩
      exact hK.out _ _ b4 ⟨g4, rfl, own_base o4 hB.size⟩
    case s2 =>
      refine StepF.of rfl [] (by kernel_rfl) ?_
      intro vs u hB hf K hK
      clear hf
      simp only [putsA, List.foldl_nil, Act.put, List.setIfInBounds_toArray] at hK ⊢
      rw [if_pos (by rfl)]
      go_simp
      exact hK.out _ _ (Below.refl _ _) rfl
    case s3 =>
      refine StepF.of rfl [] (by kernel_rfl) ?_
      intro vs u hB hf K hK
      clear hf
      simp only [putsA, List.foldl_nil, Act.put, List.setIfInBounds_toArray] at hK ⊢
      rw [if_pos (by rfl)]
      have c0' := (V13.out.below hB).b0.c0
      have c1' := (V13.out.below hB).b0.c1
      have c2' := (V13.out.below hB).b0.c2
      go_simp
      exact hK.out _ _ (Below.refl _ _) rfl
    case s4 =>
      refine StepF.of rfl [(1, some 73), (3, some 75)] (by kernel_rfl) ?_
      intro vs u hB hf K hK
      have f1 : (fun q u => ∃ g, q = .slice (some ⟨g, 0, none⟩) l.length l.length ∧ World.ownsRow u w13.heap.size 33 5 (.slice (some ⟨g, 0, none⟩) l.length l.length) l.length (cellsG l)) (vs 1) u := hf.1
      have f3 : (fun q u => q = V.val) (vs 3) u := hf.2.1
      clear hf
      simp only [putsA, List.foldl_cons, List.foldl_nil, Act.put, List.setIfInBounds_toArray, List.set_cons_zero, List.set_cons_succ] at hK ⊢
      generalize vs 1 = v1 at f1 hK ⊢
      generalize vs 3 = v3 at f3 hK ⊢
      rw [if_pos (by rfl)]
      subst f3
      clear f1
      go_simp
      refine (HV.out _ _).mono ?_
      rintro e w4 ⟨rfl, b4⟩
      exact hK.out _ _ b4 rfl
    case s5 =>
      refine StepF.of rfl [(1, some 73), (2, some 74), (4, some 76)] (by kernel_rfl) ?_
      intro vs u hB hf K hK
      have f1 : (fun q u => ∃ g, q = .slice (some ⟨g, 0, none⟩) l.length l.length ∧ World.ownsRow u w13.heap.size 33 5 (.slice (some ⟨g, 0, none⟩) l.length l.length) l.length (cellsG l)) (vs 1) u := hf.1
      have f2 : (fun q u => q = .string s) (vs 2) u := hf.2.1
      have f4 : (fun q u => q = V.val) (vs 4) u := hf.2.2.1
      clear hf
      simp only [putsA, List.foldl_cons, List.foldl_nil, Act.put, List.setIfInBounds_toArray, List.set_cons_zero, List.set_cons_succ] at hK ⊢
      generalize vs 1 = v1 at f1 hK ⊢
      generalize vs 2 = v2 at f2 hK ⊢
      generalize vs 4 = v4 at f4 hK ⊢
      rw [if_pos (by rfl)]
      subst f2 f4
      obtain ⟨g4, rfl, o4⟩ := f1
      go_simp
      refine (HI.out _ g4 _ o4).mono ?_
      rintro e w7 ⟨ao, ca, rfl, o7, b7⟩
      exact hK.out _ _ b7 ⟨ao, ca, rfl, own_base o7 hB.size⟩
    case s6 =>
      refine StepF.of rfl [] (by kernel_rfl) ?_
      intro vs u hB hf K hK
      clear hf
      simp only [putsA, List.foldl_nil, Act.put, List.setIfInBounds_toArray] at hK ⊢
      rw [if_pos (by rfl)]
      go_simp
      exact hK.out _ _ ((Below.refl _ _).alloc (Nat.le_refl _) _) ⟨_, rfl, hB.size, heap_alloc_new _ _⟩
    case last =>
      intro vs u hB hf K hK
      have f0 : (fun q u => q = .slice a l.length cp) (vs 0) u := hf.1
      have f1 : (fun q u => ∃ g, q = .slice (some ⟨g, 0, none⟩) l.length l.length ∧ World.ownsRow u w13.heap.size 33 5 (.slice (some ⟨g, 0, none⟩) l.length l.length) l.length (cellsG l)) (vs 1) u := hf.2.1
      have f2 : (fun q u => q = .string s) (vs 2) u := hf.2.2.1
      have f3 : (fun q u => q = V.val) (vs 3) u := hf.2.2.2.1
      have f4 : (fun q u => q = V.val) (vs 4) u := hf.2.2.2.2.1
      have f5 : (fun q u => ∃ ao ca, q = .agg #[.int .i64 c0, .slice ao M.length ca] ∧ World.ownsRow u w13.heap.size 33 5 (.slice ao M.length ca) M.length (cellsG M)) (vs 5) u := hf.2.2.2.2.2.1
      have f6 : (fun q u => ∃ x, q = .pointer (some ⟨x, 0, none⟩) ∧ GrZ w13.heap.size x u) (vs 6) u := hf.2.2.2.2.2.2.1
      clear hf
      simp only [putsA, List.foldl_cons, List.foldl_nil, Act.put, List.setIfInBounds_toArray, List.set_cons_zero, List.set_cons_succ]
      generalize vs 0 = v0 at f0 ⊢
      generalize vs 1 = v1 at f1 ⊢
      generalize vs 2 = v2 at f2 ⊢
      generalize vs 3 = v3 at f3 ⊢
      generalize vs 4 = v4 at f4 ⊢
      generalize vs 5 = v5 at f5 ⊢
      generalize vs 6 = v6 at f6 ⊢
      rw [if_pos (by rfl)]
      obtain ⟨ho, ch, rfl, o6⟩ := f5
      obtain ⟨hh, rfl, hx⟩ := f6
      clear f0 f1 f2 f3 f4
      obtain ⟨z0, z1, zf⟩ := hx.cells
      go_simp
      refine hK.out _ _ ?_
      clear hK z0 z1 zf
      have hp := hx.put (c := c0) (s := .slice ho M.length ch)
      generalize (u.setCell ⟨hh, 0, none⟩ (.int .i64 c0)).setCell ⟨hh, 1, none⟩ (.slice ho M.length ch) = u3 at hp ⊢
      obtain ⟨hbx, hgr⟩ := hp
      have hx13 := hx.1
      have V14 : Hid (VVG w V u3) := (V13.out.below hB).grown hgr (Nat.le_trans V13.out.size hx.1)
      have O14h : Hid (World.ownsRow u3 w13.heap.size 33 5 (.slice ho M.length ch) M.length (cellsG M)) := own_apart o6 hgr (fun g hg e => (own_neG o6 hx.2 (by decide) g hg) (Option.some.inj e).symm)
      have O14w : Hid (World.ownsRow u3 w2.heap.size 33 5 (.slice ao M.length ca) M.length (cellsG M)) := own_apart (own_below O13w.out hB) hgr (fun g hg e => by have h1 := hA3 g hg; have h2 := Option.some.inj e; omega)
      have O14m : Hid (u3.ownsRow w5.heap.size 33 5 (.slice bo M.length cb) M.length (cellsG (marksG 1 M.length))) := own_apart (own_below O13m.out hB) hgr (fun g hg e => by have h1 := hB3 g hg; have h2 := Option.some.inj e; omega)
      have X14 : Hid (BoxG x w6.heap.size c0 ao bo M.length ca cb u3) := (X13.out.below hB).grown hgr (by simp; omega) (by simp; omega)
      have h0 := hbx.c0
      have h1 := hbx.c1
      clear hbx hgr o6 hx hB V13 X13 O13w O13m u
      have p0 := X14.out.p0
      have p1 := X14.out.p1
      go_wp2_with fail
      clear p0 p1 
      clear h0 h1
      refine (eqRG_same c0 ho ao ch ca _ _ M _ (by omega) O14h.out O14w.out).mono ?_
      rintro e w15 ⟨rfl, b15⟩
      have X15 : Hid (BoxG x w6.heap.size c0 ao bo M.length ca cb w15) := X14.out.below b15
      have V15 : Hid (VVG w V w15) := V14.out.below b15
      have O15m : Hid (w15.ownsRow w5.heap.size 33 5 (.slice bo M.length cb) M.length (cellsG (marksG 1 M.length))) := own_below O14m.out b15
      clear b15 X14 V14 O14m O14h O14w
      have q0 := X15.out.q0
      have q1' := X15.out.q1
      go_wp2_with fail
      clear q0 q1'
      refine (HM.out _ _ O15m.out).mono ?_
      rintro e w16 ⟨rfl, b16⟩
      have V16 : Hid (VVG w V w16) := V15.out.below b16
      clear b16
      go_wp2
      go_ret
      exact ⟨rfl, V16.out.old⟩
end Go.Proofs.Ytgfienijabkpjaa
