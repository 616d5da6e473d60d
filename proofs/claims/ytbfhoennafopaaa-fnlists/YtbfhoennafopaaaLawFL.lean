/-
  The law FnLists answers true at all bytes: what is put in front of a list is its first one; nothing that was there is turned.
-/
import Derived.Test.YtbfhoennafopaaaFlC
import Derived.Test.YtbfhoennafopaaaDraw3
import Derived.Test.YtbfhoennafopaaaConsList
import Derived.Test.YtbfhoennafopaaaImplCT
import Derived.Test.YtbfhoennafopaaaSpecCT
import Derived.Test.YtbfhoennafopaaaImplLF
import Derived.Test.YtbfhoennafopaaaLawSameV
import Derived.Test.YtbfhoennafopaaaLawHF
import Derived.Test.YtbfhoennafopaaaFacts
import Derived.Test.YtbfhoennafopaaaBoxLay
namespace Go.Proofs.Ytbfhoennafopaaa
open Go.RowKit Go.Extern.Stop Go.Stop Go.Extern Num Go.Lib

theorem boxA_new (w : World) (c : Int) (s : Value) (t : Vlu) (T : TypeId) : BoxA w.heap.size c s t (w.alloc (.cells #[.int .i64 c, s, .int .i64 t.kind, .int .i64 t.num, .string t.name] T)) := by
  have e : ∀ o v, (#[Value.int .i64 c, s, .int .i64 t.kind, .int .i64 t.num, .string t.name] : Array Value)[o]? = some v → (w.alloc (.cells #[.int .i64 c, s, .int .i64 t.kind, .int .i64 t.num, .string t.name] T)).cell? ⟨w.heap.size, o, none⟩ = some v := fun o v h => by rw [World.cell?_alloc_at _ _ _ _ rfl]; exact h
  exact ⟨e 0 _ rfl, e 1 _ rfl, e 2 _ rfl, e 3 _ rfl, e 4 _ rfl⟩
theorem wrapUp (n : Nat) (h : n < 1000) : IntKind.i64.wrap ((n : Int) + 1) = ((n + 1 : Nat) : Int) := by
  rw [IntKind.wrap_i64]
  omega
theorem eqVB_self (a : Vlu) : eqVB a a = true := by simp [eqVB]
theorem lists_cases {l M : List Pai} {A B T : Vlu} (qM : askV M T = 0) (ql : askV l B = 0) (aM : allV M T = A :: allV l B) (rM : restV M T = restV l B) :
    codeLF M T = 2 ∨ (codeLF M T = 0 ∧ codeLF l B = 0 ∧ outLF M T = A :: outLF l B ∧ restLF M T = restLF l B) := by
  have k1 := codeLF_of qM
  have k2 := codeLF_of ql
  by_cases hn : 200 < (allV l B).length + 1
  · left
    rw [k1, aM, if_pos (by rw [List.length_cons]; exact hn)]
  · right
    have k1' : codeLF M T = 0 := by rw [k1, aM, if_neg (by rw [List.length_cons]; exact hn)]
    have k2' : codeLF l B = 0 := by rw [k2, if_neg (by omega)]
    exact ⟨k1', k2', by unfold outLF; rw [if_pos k1', if_pos k2', aM], by unfold restLF; rw [if_pos k1', if_pos k2', rM]⟩
theorem ShortP.able {l : List Pai} (h : ShortP l) : ableL l := fun k hk => by have := h k hk; unfold Pai.able; omega
set_option maxRecDepth 100000 in
set_option maxHeartbeats 2000000 in
theorem lawFL_any (w : World) (ca : Option Addr) (len cap : Nat) (h : Bytes w ca len) (hmax : (len : Int) ≤ 9223372036854775807) :
    Calls Try.prog 3 #[.slice ca len cap] w fun e w' => e = .returned (.bool true) ∧ Below w.heap.size w w' := by
  have HD : Hid (Calls Try.prog 7 #[.slice ca len cap] w fun e w' => ConsRes w e w') := drawCons_any w ca len cap h hmax
  clear h hmax
  go_enter Try.func3, Try.ntmps3
  go_wp2_with fail
  refine (big_any _ ca len cap).mono ?_
  rintro e w0 ⟨t, rfl, hw0⟩
  replace hw0 := hw0.symm
  subst hw0
  cases t with
  | true =>
    go_wp2
    go_ret
    exact ⟨rfl, Below.refl _ _⟩
  | false =>
  go_wp2_with fail
  refine HD.out.mono ?_
  rintro e w1 ⟨g, cl, l, A, B, rfl, ho, hn, hl, hA, hB, hb⟩
  have hab := hn.able
  have hlm : l.length ≤ 1048576 := by omega
  have V2 : Hid (VBox w1.heap.size A ((w1.alloc (.cells #[.int .i64 A.kind, .int .i64 A.num, .string A.name] 26)).alloc (.cells #[.int .i64 B.kind, .int .i64 B.num, .string B.name] 26)) ∧ VBox (w1.heap.size + 1) B ((w1.alloc (.cells #[.int .i64 A.kind, .int .i64 A.num, .string A.name] 26)).alloc (.cells #[.int .i64 B.kind, .int .i64 B.num, .string B.name] 26)) ∧ Below w1.heap.size w1 ((w1.alloc (.cells #[.int .i64 A.kind, .int .i64 A.num, .string A.name] 26)).alloc (.cells #[.int .i64 B.kind, .int .i64 B.num, .string B.name] 26))) := box2 w1 A B 26 26
  have HC : Hid (∀ u, World.ownsRow u w.heap.size 71 6 (.slice (some ⟨g, 0, none⟩) l.length cl) l.length (cellsP l) → Calls Try.prog 8 #[.slice (some ⟨g, 0, none⟩) l.length cl, A.val, B.val] u fun e w' => AnsV u (codeCT l A B) (outCT l A B) (valCT l A B) e w') := fun u hu => implCT_any _ cl g l A B u hlm (fun _ => rfl) (RowP.of hu) hab (by omega) (by omega)
  have HP : Hid (∀ u, World.ownsRow u w.heap.size 71 6 (.slice (some ⟨g, 0, none⟩) l.length cl) l.length (cellsP l) → Calls Try.prog 9 #[.slice (some ⟨g, 0, none⟩) l.length cl, A.val, B.val] u fun e w' => AnsV u (codeCT l A B) (outCT l A B) (valCT l A B) e w') := fun u hu => specCT_any cl _ g l A B u hlm hu hab (by omega) (by omega)
  have HLb : Hid (∀ u, World.ownsRow u w.heap.size 71 6 (.slice (some ⟨g, 0, none⟩) l.length cl) l.length (cellsP l) → Calls Try.prog 10 #[.slice (some ⟨g, 0, none⟩) l.length cl, B.val] u fun e w' => AnsL u (codeLF l B) (outLF l B) (restLF l B) e w') := fun u hu => implLF_any _ cl g l B u hlm (fun _ => rfl) (RowP.of hu) hab (by omega)
  have L2 : Hid (World.ownsRow ((w1.alloc (.cells #[.int .i64 A.kind, .int .i64 A.num, .string A.name] 26)).alloc (.cells #[.int .i64 B.kind, .int .i64 B.num, .string B.name] 26)) w.heap.size 71 6 (.slice (some ⟨g, 0, none⟩) l.length cl) l.length (cellsP l)) := own_below ho V2.out.2.2
  have B2 : Hid (Below w.heap.size w ((w1.alloc (.cells #[.int .i64 A.kind, .int .i64 A.num, .string A.name] 26)).alloc (.cells #[.int .i64 B.kind, .int .i64 B.num, .string B.name] 26))) := hb.trans (V2.out.2.2.mono hb.size)
  have hw1 : w.heap.size ≤ w1.heap.size := hb.size
  have HM : Hid (codeCT l A B = 0 → outCT l A B = l ++ [⟨A, B⟩] ∧ valCT l A B = pairV l.length ∧ heapFault (outCT l A B) = 0 ∧ askV (outCT l A B) (valCT l A B) = 0 ∧ askV l B = 0 ∧ allV (outCT l A B) (valCT l A B) = A :: allV l B ∧ restV (outCT l A B) (valCT l A B) = restV l B ∧ ShortP (outCT l A B)) := fun h0 => by
    obtain ⟨e1, e2, e3, e4, e5, e6, e7⟩ := lists_math h0
    exact ⟨e1, e2, e3, e4, e5, e6, e7, by rw [e1]; exact hn.next hA hB⟩
  have hM := outCT_len l A B
  generalize outCT l A B = M at HC HP HM hM
  generalize codeCT l A B = c0 at HC HP HM
  generalize valCT l A B = T at HC HP HM
  clear ho hb hab hn
  have a0 := V2.out.1.c0
  have a1 := V2.out.1.c1
  have a2 := V2.out.1.c2
  have b0 := V2.out.2.1.c0
  have b1 := V2.out.2.1.c1
  have b2 := V2.out.2.1.c2
  go_wp2_with fail
  refine (HC.out _ L2.out).mono ?_
  rintro e w3 ⟨ro, rc, rfl, o3, b3⟩
  clear a0 a1 a2 b0 b1 b2 HC HD
  have bb : Below w3.heap.size w3 (w3.alloc (.cells #[.int .i64 c0, .slice ro M.length rc, .int .i64 T.kind, .int .i64 T.num, .string T.name] 30)) := (Below.refl _ _).alloc (Nat.le_refl _) _
  have hs23 : w1.heap.size + 2 ≤ w3.heap.size := by have := b3.size; simp at this; omega
  have V3 : Hid (VBox w1.heap.size A (w3.alloc (.cells #[.int .i64 c0, .slice ro M.length rc, .int .i64 T.kind, .int .i64 T.num, .string T.name] 30)) ∧ VBox (w1.heap.size + 1) B (w3.alloc (.cells #[.int .i64 c0, .slice ro M.length rc, .int .i64 T.kind, .int .i64 T.num, .string T.name] 30))) := ⟨(V2.out.1.below b3).below bb, (V2.out.2.1.below b3).below bb⟩
  have L3 : Hid (World.ownsRow (w3.alloc (.cells #[.int .i64 c0, .slice ro M.length rc, .int .i64 T.kind, .int .i64 T.num, .string T.name] 30)) w.heap.size 71 6 (.slice (some ⟨g, 0, none⟩) l.length cl) l.length (cellsP l)) := own_below (own_below L2.out b3) bb
  have O3 : Hid (World.ownsRow (w3.alloc (.cells #[.int .i64 c0, .slice ro M.length rc, .int .i64 T.kind, .int .i64 T.num, .string T.name] 30)) w1.heap.size 71 6 (.slice ro M.length rc) M.length (cellsP M)) := own_below (own_base o3 (by simp; omega)) bb
  have B3 : Hid (Below w.heap.size w (w3.alloc (.cells #[.int .i64 c0, .slice ro M.length rc, .int .i64 T.kind, .int .i64 T.num, .string T.name] 30))) := (B2.out.trans (b3.mono B2.out.size)).trans (bb.mono (by have := B2.out.size; have := b3.size; omega))
  have X3 : Hid ((w3.alloc (.cells #[.int .i64 c0, .slice ro M.length rc, .int .i64 T.kind, .int .i64 T.num, .string T.name] 30)).cell? ⟨w3.heap.size, 0, none⟩ = some (.int .i64 c0) ∧ (w3.alloc (.cells #[.int .i64 c0, .slice ro M.length rc, .int .i64 T.kind, .int .i64 T.num, .string T.name] 30)).cell? ⟨w3.heap.size, 1, none⟩ = some (.slice ro M.length rc) ∧ (w3.alloc (.cells #[.int .i64 c0, .slice ro M.length rc, .int .i64 T.kind, .int .i64 T.num, .string T.name] 30)).cell? ⟨w3.heap.size, 2, none⟩ = some (.int .i64 T.kind) ∧ (w3.alloc (.cells #[.int .i64 c0, .slice ro M.length rc, .int .i64 T.kind, .int .i64 T.num, .string T.name] 30)).cell? ⟨w3.heap.size, 3, none⟩ = some (.int .i64 T.num) ∧ (w3.alloc (.cells #[.int .i64 c0, .slice ro M.length rc, .int .i64 T.kind, .int .i64 T.num, .string T.name] 30)).cell? ⟨w3.heap.size, 4, none⟩ = some (.string T.name)) := by
    have e : ∀ o v, (#[Value.int .i64 c0, .slice ro M.length rc, .int .i64 T.kind, .int .i64 T.num, .string T.name] : Array Value)[o]? = some v → (w3.alloc (.cells #[.int .i64 c0, .slice ro M.length rc, .int .i64 T.kind, .int .i64 T.num, .string T.name] 30)).cell? ⟨w3.heap.size, o, none⟩ = some v := fun o v h => by rw [World.cell?_alloc_at _ _ _ _ rfl]; exact h
    exact ⟨e 0 _ rfl, e 1 _ rfl, e 2 _ rfl, e 3 _ rfl, e 4 _ rfl⟩
  clear b3 o3 bb V2 L2 B2
  by_cases h0 : c0 = 0
  case neg =>
    have h0' : (c0 != 0) = true := by simpa using h0
    have x0 := X3.out.1
    go_wp2_with fail
    clear x0
    refine wp_region_facts (by kernel_rfl) 8 (fun v => Below (w3.alloc (.cells #[.int .i64 c0, .slice ro M.length rc, .int .i64 T.kind, .int .i64 T.num, .string T.name] 30)).heap.size (w3.alloc (.cells #[.int .i64 c0, .slice ro M.length rc, .int .i64 T.kind, .int .i64 T.num, .string T.name] 30)) v) (fun u v => Below u.heap.size u v) (fun i v u => match i with | 0 => (fun v u => v = .slice (some ⟨g, 0, none⟩) l.length cl) v u | 1 => (fun v u => v = A.val) v u | 2 => (fun v u => v = B.val) v u | 3 => (fun v u => ∃ x n y k m z, v = .agg #[.int .i64 c0, .slice x n y, .int .i64 k, .int .i64 m, .string z]) v u | 4 => (fun v u => v = .int .i64 c0) v u | 5 => (fun v u => v = .pointer (some ⟨w3.heap.size, 0, none⟩)) v u | 6 => (fun v u => v = .int .i64 c0) v u | 7 => (fun v u => v = .bool true) v u | _ => True) (by kernel_rfl) [0, 1, 2, 3, 4, 5, 6, 7] (by kernel_rfl) ?b0 ?bk ?fk ⟨?s0, ?s1, ?s2, ?s3, ?s4, ?s5, ?s6, ?s7, trivial⟩ _ rfl [(0, some 25), (1, some 26), (2, some 27), (3, some 28), (4, some 29), (5, some 30), (6, some 31), (7, some 32)] (by kernel_rfl) ?last
    case b0 => exact Below.drew (Below.refl _ _)
    case bk => exact fun u v h hb => h.trans (hb.mono h.size)
    case fk => intro i v u u' h hb; match i, h with | 0, h => exact (h) | 1, h => exact (h) | 2, h => exact (h) | 3, h => exact (h) | 4, h => exact (h) | 5, h => exact (h) | 6, h => exact (h) | 7, h => exact (h) | _ + 8, _ => exact trivial
    case s0 =>
      refine StepF.of rfl [] (by kernel_rfl) ?_
      intro vs u hB hf K hK
      clear hf
      simp only [putsA, List.foldl_nil, Act.put, List.setIfInBounds_toArray] at hK ⊢
      rw [if_pos (by rfl)]
      go_simp
      exact hK.out _ _ (Below.refl _ _) rfl
    case s1 =>
      refine StepF.of rfl [] (by kernel_rfl) ?_
      intro vs u hB hf K hK
      clear hf
      simp only [putsA, List.foldl_nil, Act.put, List.setIfInBounds_toArray] at hK ⊢
      rw [if_pos (by rfl)]
      have e0 := (V3.out.1.below hB).c0
      have e1 := (V3.out.1.below hB).c1
      have e2 := (V3.out.1.below hB).c2
      go_simp
      exact hK.out _ _ (Below.refl _ _) rfl
    case s2 =>
      refine StepF.of rfl [] (by kernel_rfl) ?_
      intro vs u hB hf K hK
      clear hf
      simp only [putsA, List.foldl_nil, Act.put, List.setIfInBounds_toArray] at hK ⊢
      rw [if_pos (by rfl)]
      have e0 := (V3.out.2.below hB).c0
      have e1 := (V3.out.2.below hB).c1
      have e2 := (V3.out.2.below hB).c2
      go_simp
      exact hK.out _ _ (Below.refl _ _) rfl
    case s3 =>
      refine StepF.of rfl [(0, some 25), (1, some 26), (2, some 27)] (by kernel_rfl) ?_
      intro vs u hB hf K hK
      have f0 : (fun v u => v = .slice (some ⟨g, 0, none⟩) l.length cl) (vs 0) u := hf.1
      have f1 : (fun v u => v = A.val) (vs 1) u := hf.2.1
      have f2 : (fun v u => v = B.val) (vs 2) u := hf.2.2.1
      clear hf
      simp only [putsA, List.foldl_cons, List.foldl_nil, Act.put, List.setIfInBounds_toArray, List.set_cons_zero, List.set_cons_succ] at hK ⊢
      generalize vs 0 = v0 at f0 hK ⊢
      generalize vs 1 = v1 at f1 hK ⊢
      generalize vs 2 = v2 at f2 hK ⊢
      rw [if_pos (by rfl)]
      subst f0
      subst f1
      subst f2
      go_simp
      refine (HP.out _ (own_below L3.out hB)).mono ?_
      rintro e w7 ⟨ao, ca, rfl, o7, b7⟩
      exact hK.out _ _ b7 ⟨_, _, _, _, _, _, rfl⟩
    case s4 =>
      refine StepF.of rfl [(3, some 28)] (by kernel_rfl) ?_
      intro vs u hB hf K hK
      have f3 : (fun v u => ∃ x n y k m z, v = .agg #[.int .i64 c0, .slice x n y, .int .i64 k, .int .i64 m, .string z]) (vs 3) u := hf.1
      clear hf
      simp only [putsA, List.foldl_cons, List.foldl_nil, Act.put, List.setIfInBounds_toArray, List.set_cons_zero, List.set_cons_succ] at hK ⊢
      generalize vs 3 = v3 at f3 hK ⊢
      rw [if_pos (by rfl)]
      obtain ⟨x, n, y, k, m, z, rfl⟩ := f3
      have hfd : ∀ u : World, (Instr.field 30 (.agg #[.int .i64 c0, .slice x n y, .int .i64 k, .int .i64 m, .string z]) 0).run Try.prog u = .ok (.int .i64 c0) u := fun u => by kernel_rfl
      go_simp
      exact hK.out _ _ (Below.refl _ _) rfl
    case s5 =>
      refine StepF.of rfl [] (by kernel_rfl) ?_
      intro vs u hB hf K hK
      clear hf
      simp only [putsA, List.foldl_nil, Act.put, List.setIfInBounds_toArray] at hK ⊢
      rw [if_pos (by rfl)]
      go_simp
      exact hK.out _ _ (Below.refl _ _) rfl
    case s6 =>
      refine StepF.of rfl [(5, some 30)] (by kernel_rfl) ?_
      intro vs u hB hf K hK
      have f5 : (fun v u => v = .pointer (some ⟨w3.heap.size, 0, none⟩)) (vs 5) u := hf.1
      clear hf
      simp only [putsA, List.foldl_cons, List.foldl_nil, Act.put, List.setIfInBounds_toArray, List.set_cons_zero, List.set_cons_succ] at hK ⊢
      generalize vs 5 = v5 at f5 hK ⊢
      rw [if_pos (by rfl)]
      subst f5
      have e0 := cell_keep hB X3.out.1
      go_simp
      exact hK.out _ _ (Below.refl _ _) rfl
    case s7 =>
      refine StepF.of rfl [(4, some 29), (6, some 31)] (by kernel_rfl) ?_
      intro vs u hB hf K hK
      have f4 : (fun v u => v = .int .i64 c0) (vs 4) u := hf.1
      have f6 : (fun v u => v = .int .i64 c0) (vs 6) u := hf.2.1
      clear hf
      simp only [putsA, List.foldl_cons, List.foldl_nil, Act.put, List.setIfInBounds_toArray, List.set_cons_zero, List.set_cons_succ] at hK ⊢
      generalize vs 4 = v4 at f4 hK ⊢
      generalize vs 6 = v6 at f6 hK ⊢
      rw [if_pos (by rfl)]
      subst f4
      subst f6
      have e0 : (c0 == c0) = true := by simp
      go_simp
      exact hK.out _ _ (Below.refl _ _) rfl
    case last =>
      intro vs u hB hf K hK
      have f0 : (fun v u => v = .slice (some ⟨g, 0, none⟩) l.length cl) (vs 0) u := hf.1
      have f1 : (fun v u => v = A.val) (vs 1) u := hf.2.1
      have f2 : (fun v u => v = B.val) (vs 2) u := hf.2.2.1
      have f3 : (fun v u => ∃ x n y k m z, v = .agg #[.int .i64 c0, .slice x n y, .int .i64 k, .int .i64 m, .string z]) (vs 3) u := hf.2.2.2.1
      have f4 : (fun v u => v = .int .i64 c0) (vs 4) u := hf.2.2.2.2.1
      have f5 : (fun v u => v = .pointer (some ⟨w3.heap.size, 0, none⟩)) (vs 5) u := hf.2.2.2.2.2.1
      have f6 : (fun v u => v = .int .i64 c0) (vs 6) u := hf.2.2.2.2.2.2.1
      have f7 : (fun v u => v = .bool true) (vs 7) u := hf.2.2.2.2.2.2.2.1
      clear hf
      simp only [putsA, List.foldl_cons, List.foldl_nil, Act.put, List.setIfInBounds_toArray, List.set_cons_zero, List.set_cons_succ]
      generalize vs 0 = v0 at f0 ⊢
      generalize vs 1 = v1 at f1 ⊢
      generalize vs 2 = v2 at f2 ⊢
      generalize vs 3 = v3 at f3 ⊢
      generalize vs 4 = v4 at f4 ⊢
      generalize vs 5 = v5 at f5 ⊢
      generalize vs 6 = v6 at f6 ⊢
      generalize vs 7 = v7 at f7 ⊢
      rw [if_pos (by rfl)]
      subst f7
      clear f0 f1 f2 f3 f4 f5 f6
      go_simp
      refine hK.out _ _ ?_
      go_wp2
      go_ret
      exact ⟨rfl, B3.out.trans (hB.mono B3.out.size)⟩
  subst h0
  obtain ⟨eM, eT, fM, qM, ql, aM, rM, sM⟩ := HM.out rfl
  obtain ⟨gm, rc', hv3, _, _⟩ := O3.out.form (by rw [eM]; simp)
  have hro : ro = some ⟨gm, 0, none⟩ := by simpa using And.left (by simpa using hv3)
  subst hro
  have HLa : Hid (∀ u, World.ownsRow u w1.heap.size 71 6 (.slice (some ⟨gm, 0, none⟩) M.length rc) M.length (cellsP M) → Calls Try.prog 10 #[.slice (some ⟨gm, 0, none⟩) M.length rc, T.val] u fun e w' => AnsL u (codeLF M T) (outLF M T) (restLF M T) e w') := fun u hu => implLF_any _ rc gm M T u (by omega) (fun _ => rfl) (RowP.of hu) sM.able (by rw [eT]; show (0 : Nat) ≤ _; omega)
  have HH : Hid (∀ u, World.ownsRow u w1.heap.size 71 6 (.slice (some ⟨gm, 0, none⟩) M.length rc) M.length (cellsP M) → Calls Try.prog 12 #[.slice (some ⟨gm, 0, none⟩) M.length rc] u fun e w' => e = .returned (.int .i64 0) ∧ Below u.heap.size u w') := fun u hu => by
    have h := implHF_any (some ⟨gm, 0, none⟩) rc gm M u (by omega) (fun _ => rfl) (RowP.of hu) sM.able
    rw [fM] at h
    exact h
  have HSV : Hid (∀ (v : Vlu) (u : World), Calls Try.prog 11 #[v.val, v.val] u fun e w' => e = .returned (.bool true) ∧ Below u.heap.size u w') := fun v u => by
    have h := implSV_any v v u
    rw [eqVB_self] at h
    exact h
  have HX : Hid (codeLF M T = 2 ∨ (codeLF M T = 0 ∧ codeLF l B = 0 ∧ outLF M T = A :: outLF l B ∧ restLF M T = restLF l B)) := lists_cases qM ql aM rM
  have HL2 : Hid ((outLF l B).length ≤ 200) := outLF_len l B
  clear eM eT fM qM ql aM rM sM HM HP hv3
  generalize codeLF M T = ca0 at HLa HX
  generalize outLF M T = M1 at HLa HX
  generalize restLF M T = R1 at HLa HX
  generalize codeLF l B = cb0 at HLb HX
  generalize outLF l B = M2 at HLb HX HL2
  generalize restLF l B = R2 at HLb HX
  have x0 := X3.out.1
  have x1 := X3.out.2.1
  have x2 := X3.out.2.2.1
  have x3 := X3.out.2.2.2.1
  have x4 := X3.out.2.2.2.2
  go_wp2_with fail
  refine (HLa.out _ O3.out).mono ?_
  rintro e w4 ⟨ga, cp1, rfl, o4, b4⟩
  clear x0 x1 x2 x3 x4 HLa
  have bb4 : Below w4.heap.size w4 (w4.alloc (.cells #[.int .i64 ca0, .slice ga M1.length cp1, .int .i64 R1.kind, .int .i64 R1.num, .string R1.name] 34)) := (Below.refl _ _).alloc (Nat.le_refl _) _
  have V4 : Hid (VBox w1.heap.size A (w4.alloc (.cells #[.int .i64 ca0, .slice ga M1.length cp1, .int .i64 R1.kind, .int .i64 R1.num, .string R1.name] 34)) ∧ VBox (w1.heap.size + 1) B (w4.alloc (.cells #[.int .i64 ca0, .slice ga M1.length cp1, .int .i64 R1.kind, .int .i64 R1.num, .string R1.name] 34))) := ⟨(V3.out.1.below b4).below bb4, (V3.out.2.below b4).below bb4⟩
  have L4 : Hid (World.ownsRow (w4.alloc (.cells #[.int .i64 ca0, .slice ga M1.length cp1, .int .i64 R1.kind, .int .i64 R1.num, .string R1.name] 34)) w.heap.size 71 6 (.slice (some ⟨g, 0, none⟩) l.length cl) l.length (cellsP l)) := own_below (own_below L3.out b4) bb4
  have M4 : Hid (World.ownsRow (w4.alloc (.cells #[.int .i64 ca0, .slice ga M1.length cp1, .int .i64 R1.kind, .int .i64 R1.num, .string R1.name] 34)) w1.heap.size 71 6 (.slice (some ⟨gm, 0, none⟩) M.length rc) M.length (cellsP M)) := own_below (own_below O3.out b4) bb4
  have O4 : Hid (World.ownsRow (w4.alloc (.cells #[.int .i64 ca0, .slice ga M1.length cp1, .int .i64 R1.kind, .int .i64 R1.num, .string R1.name] 34)) w1.heap.size 26 3 (.slice ga M1.length cp1) M1.length (cellsV M1)) := own_below (own_base o4 (by simp; omega)) bb4
  have B4 : Hid (Below w.heap.size w (w4.alloc (.cells #[.int .i64 ca0, .slice ga M1.length cp1, .int .i64 R1.kind, .int .i64 R1.num, .string R1.name] 34))) := (B3.out.trans (b4.mono B3.out.size)).trans (bb4.mono (by have := B3.out.size; have := b4.size; omega))
  have X4 : Hid (BoxA w4.heap.size ca0 (.slice ga M1.length cp1) R1 (w4.alloc (.cells #[.int .i64 ca0, .slice ga M1.length cp1, .int .i64 R1.kind, .int .i64 R1.num, .string R1.name] 34))) := boxA_new w4 ca0 _ R1 _
  have Y4 : Hid ((w4.alloc (.cells #[.int .i64 ca0, .slice ga M1.length cp1, .int .i64 R1.kind, .int .i64 R1.num, .string R1.name] 34)).cell? ⟨w3.heap.size, 1, none⟩ = some (.slice (some ⟨gm, 0, none⟩) M.length rc)) := cell_keep bb4 (cell_keep b4 X3.out.2.1)
  clear b4 o4 bb4 V3 L3 O3 B3 X3
  have b0 := V4.out.2.c0
  have b1 := V4.out.2.c1
  have b2 := V4.out.2.c2
  go_wp2_with fail
  refine (HLb.out _ L4.out).mono ?_
  rintro e w5 ⟨gb, cp2, rfl, o5, b5⟩
  clear b0 b1 b2 HLb
  have bb5 : Below w5.heap.size w5 (w5.alloc (.cells #[.int .i64 cb0, .slice gb M2.length cp2, .int .i64 R2.kind, .int .i64 R2.num, .string R2.name] 34)) := (Below.refl _ _).alloc (Nat.le_refl _) _
  have hs45 : w1.heap.size ≤ w4.heap.size := by have := V4.out.1; have := b5.size; exact Nat.le_of_lt_succ (by have h := lt_of_cell V4.out.1.c0; simpa using h)
  have V5 : Hid (VBox w1.heap.size A (w5.alloc (.cells #[.int .i64 cb0, .slice gb M2.length cp2, .int .i64 R2.kind, .int .i64 R2.num, .string R2.name] 34))) := (V4.out.1.below b5).below bb5
  have M5 : Hid (World.ownsRow (w5.alloc (.cells #[.int .i64 cb0, .slice gb M2.length cp2, .int .i64 R2.kind, .int .i64 R2.num, .string R2.name] 34)) w1.heap.size 71 6 (.slice (some ⟨gm, 0, none⟩) M.length rc) M.length (cellsP M)) := own_below (own_below M4.out b5) bb5
  have O5 : Hid (World.ownsRow (w5.alloc (.cells #[.int .i64 cb0, .slice gb M2.length cp2, .int .i64 R2.kind, .int .i64 R2.num, .string R2.name] 34)) w1.heap.size 26 3 (.slice ga M1.length cp1) M1.length (cellsV M1)) := own_below (own_below O4.out b5) bb5
  have P5 : Hid (World.ownsRow (w5.alloc (.cells #[.int .i64 cb0, .slice gb M2.length cp2, .int .i64 R2.kind, .int .i64 R2.num, .string R2.name] 34)) w1.heap.size 26 3 (.slice gb M2.length cp2) M2.length (cellsV M2)) := own_below (own_base o5 (by simp; omega)) bb5
  have B5 : Hid (Below w.heap.size w (w5.alloc (.cells #[.int .i64 cb0, .slice gb M2.length cp2, .int .i64 R2.kind, .int .i64 R2.num, .string R2.name] 34))) := (B4.out.trans (b5.mono B4.out.size)).trans (bb5.mono (by have := B4.out.size; have := b5.size; omega))
  have X5 : Hid (BoxA w4.heap.size ca0 (.slice ga M1.length cp1) R1 (w5.alloc (.cells #[.int .i64 cb0, .slice gb M2.length cp2, .int .i64 R2.kind, .int .i64 R2.num, .string R2.name] 34))) := (X4.out.below b5).below bb5
  have Z5 : Hid (BoxA w5.heap.size cb0 (.slice gb M2.length cp2) R2 (w5.alloc (.cells #[.int .i64 cb0, .slice gb M2.length cp2, .int .i64 R2.kind, .int .i64 R2.num, .string R2.name] 34))) := boxA_new w5 cb0 _ R2 _
  have Y5 : Hid ((w5.alloc (.cells #[.int .i64 cb0, .slice gb M2.length cp2, .int .i64 R2.kind, .int .i64 R2.num, .string R2.name] 34)).cell? ⟨w3.heap.size, 1, none⟩ = some (.slice (some ⟨gm, 0, none⟩) M.length rc)) := cell_keep bb5 (cell_keep b5 Y4.out)
  clear b5 o5 bb5 V4 L4 M4 O4 B4 X4 Y4 hs45
  rcases HX.out with e2 | ⟨e2, e3, e4, e5⟩
  · subst e2
    have c0 := X5.out.c0
    go_wp2
    go_ret
    exact ⟨rfl, B5.out⟩
  subst e2
  subst e3
  subst e5
  have E4 : Hid (M1 = A :: M2) := e4
  have N4 : Hid (M1.length = M2.length + 1) := by rw [e4]; rfl
  clear e4 HX
  obtain ⟨g1, cq, hv5, _, _⟩ := O5.out.form (by have := N4.out; omega)
  have hga : ga = some ⟨g1, 0, none⟩ := by simpa using And.left (by simpa using hv5)
  subst hga
  clear hv5
  have c0 := X5.out.c0
  have d0 := Z5.out.c0
  go_wp2_with fail
  clear c0 d0
  go_loopw [9] (fun i wr => ∃ k : Nat, k ≤ M2.length ∧ i = .int .i64 (k : Int) ∧ Hid (Below (w5.alloc (.cells #[.int .i64 0, .slice gb M2.length cp2, .int .i64 R1.kind, .int .i64 R1.num, .string R1.name] 34)).heap.size (w5.alloc (.cells #[.int .i64 0, .slice gb M2.length cp2, .int .i64 R1.kind, .int .i64 R1.num, .string R1.name] 34)) wr)) (fun i _ => M2.length - (RowKit.intOf i).toNat)
  case atStart => exact ⟨0, Nat.zero_le _, rfl, Below.refl _ _⟩
  case round =>
    obtain ⟨k, hk, rfl, HB⟩ := hrel
    have HBw : Hid (Below w.heap.size w wr) := B5.out.trans (HB.out.mono B5.out.size)
    have z0 := (Z5.out.below HB.out).c1
    have hneW := bw_some wr
    by_cases hlt : k < M2.length
    · obtain ⟨g2, cq2, hv6, _, _⟩ := P5.out.form (by omega)
      have hgb : gb = some ⟨g2, 0, none⟩ := by simpa using And.left (by simpa using hv6)
      subst hgb
      clear hv6
      have hlt1 : k + 1 < M1.length := by have := N4.out; omega
      have hwk : IntKind.i64.wrap ((k : Int) + 1) = ((k + 1 : Nat) : Int) := wrapUp k (by have := HL2.out; omega)
      have hO := rowV_at (own_below O5.out HB.out) (k + 1) hlt1
      have hP := rowV_at (own_below P5.out HB.out) k hlt
      have hE : M1[k + 1]'hlt1 = M2[k]'hlt := by have e := E4.out; subst e; rfl
      rw [hE] at hO
      clear hE
      have q1 : ∀ p : BW wr, p.x.cell? ⟨w4.heap.size, 1, none⟩ = some (.slice (some ⟨g1, 0, none⟩) M1.length cp1) := fun p => p.cell (X5.out.below HB.out).c1
      have q2 : ∀ p : BW wr, p.x.cell? ⟨w5.heap.size, 1, none⟩ = some (.slice (some ⟨g2, 0, none⟩) M2.length cp2) := fun p => p.cell z0
      have a0 : ∀ p : BW wr, p.x.cell? ⟨g1, (k + 1) * 3, none⟩ = some (.int .i64 (M2[k]'hlt).kind) := fun p => p.cell hO.1
      have a1 : ∀ p : BW wr, p.x.cell? ⟨g1, (k + 1) * 3 + 1, none⟩ = some (.int .i64 (M2[k]'hlt).num) := fun p => p.cell hO.2.1
      have a2 : ∀ p : BW wr, p.x.cell? ⟨g1, (k + 1) * 3 + 2, none⟩ = some (.string (M2[k]'hlt).name) := fun p => p.cell hO.2.2
      have d0 : ∀ p : BW wr, p.x.cell? ⟨g2, k * 3, none⟩ = some (.int .i64 (M2[k]'hlt).kind) := fun p => p.cell hP.1
      have d1 : ∀ p : BW wr, p.x.cell? ⟨g2, k * 3 + 1, none⟩ = some (.int .i64 (M2[k]'hlt).num) := fun p => p.cell hP.2.1
      have d2 : ∀ p : BW wr, p.x.cell? ⟨g2, k * 3 + 2, none⟩ = some (.string (M2[k]'hlt).name) := fun p => p.cell hP.2.2
      clear hO hP
      go_wp2_with fail
      clear z0
      refine wp_region_below (by kernel_rfl) (by kernel_rfl) ?_
      repeat (go_big_quiet_step ((go_at_call 11; exact calls_bw (HSV.out (M2[k]'hlt) _))))
      refine wpQuiet_nil ?_
      intro wq hw'
      obtain ⟨⟨_, bq⟩, rfl⟩ := hw'
      have HB2 : Hid _ := HB.out.trans (bq.mono HB.out.size)
      clear bq a0 a1 a2 d0 d1 d2 q1 q2 hneW
      go_wp2
      exact ⟨⟨k + 1, by omega, by go_num, HB2.out⟩, by simp [RowKit.intOf]; omega⟩
    · have hO := rowV_at (own_below O5.out HB.out) 0 (by have := N4.out; omega)
      have hE : M1[0]'(by have := N4.out; omega) = A := by have e := E4.out; subst e; rfl
      rw [hE] at hO
      clear hE
      have hl1 : IntKind.i64.wrap ((M2.length : Int) + 1) = (M1.length : Int) := by rw [N4.out]; exact wrapUp _ (by have := HL2.out; omega)
      have q1 : ∀ p : BW wr, p.x.cell? ⟨w4.heap.size, 1, none⟩ = some (.slice (some ⟨g1, 0, none⟩) M1.length cp1) := fun p => p.cell (X5.out.below HB.out).c1
      have q2 : ∀ p : BW wr, p.x.cell? ⟨w5.heap.size, 1, none⟩ = some (.slice gb M2.length cp2) := fun p => p.cell z0
      have r2 : ∀ p : BW wr, p.x.cell? ⟨w4.heap.size, 2, none⟩ = some (.int .i64 R1.kind) := fun p => p.cell (X5.out.below HB.out).c2
      have r3 : ∀ p : BW wr, p.x.cell? ⟨w4.heap.size, 3, none⟩ = some (.int .i64 R1.num) := fun p => p.cell (X5.out.below HB.out).c3
      have r4 : ∀ p : BW wr, p.x.cell? ⟨w4.heap.size, 4, none⟩ = some (.string R1.name) := fun p => p.cell (X5.out.below HB.out).c4
      have s2 : ∀ p : BW wr, p.x.cell? ⟨w5.heap.size, 2, none⟩ = some (.int .i64 R1.kind) := fun p => p.cell (Z5.out.below HB.out).c2
      have s3 : ∀ p : BW wr, p.x.cell? ⟨w5.heap.size, 3, none⟩ = some (.int .i64 R1.num) := fun p => p.cell (Z5.out.below HB.out).c3
      have s4 : ∀ p : BW wr, p.x.cell? ⟨w5.heap.size, 4, none⟩ = some (.string R1.name) := fun p => p.cell (Z5.out.below HB.out).c4
      have a0 : ∀ p : BW wr, p.x.cell? ⟨g1, 0, none⟩ = some (.int .i64 A.kind) := fun p => p.cell hO.1
      have a1 : ∀ p : BW wr, p.x.cell? ⟨g1, 1, none⟩ = some (.int .i64 A.num) := fun p => p.cell hO.2.1
      have a2 : ∀ p : BW wr, p.x.cell? ⟨g1, 2, none⟩ = some (.string A.name) := fun p => p.cell hO.2.2
      have v0 : ∀ p : BW wr, p.x.cell? ⟨w1.heap.size, 0, none⟩ = some (.int .i64 A.kind) := fun p => p.cell (V5.out.below HB.out).c0
      have v1 : ∀ p : BW wr, p.x.cell? ⟨w1.heap.size, 1, none⟩ = some (.int .i64 A.num) := fun p => p.cell (V5.out.below HB.out).c1
      have v2 : ∀ p : BW wr, p.x.cell? ⟨w1.heap.size, 2, none⟩ = some (.string A.name) := fun p => p.cell (V5.out.below HB.out).c2
      have y1 : ∀ p : BW wr, p.x.cell? ⟨w3.heap.size, 1, none⟩ = some (.slice (some ⟨gm, 0, none⟩) M.length rc) := fun p => p.cell (cell_keep HB.out Y5.out)
      have HHp : Hid (∀ p : BW wr, Calls Try.prog 12 #[.slice (some ⟨gm, 0, none⟩) M.length rc] p.x fun e w' => e = .returned (.int .i64 0) ∧ Below p.x.heap.size p.x w') := fun p => HH.out p.x (own_below (own_below M5.out HB.out) p.h)
      have hpos : 0 < M1.length := by have := N4.out; omega
      clear hO
      go_wp2_with fail
      clear z0
      refine wp_region_below (by kernel_rfl) (by kernel_rfl) ?_
      repeat (go_big_quiet_step ((first | (go_at_call 11; exact calls_bw (HSV.out A _)) | (go_at_call 11; exact calls_bw (HSV.out R1 _)) | (go_at_call 12; exact calls_bw (HHp.out _)))))
      refine wpQuiet_nil ?_
      intro wq hw'
      obtain ⟨⟨_, bq⟩, rfl⟩ := hw'
      have HB2 : Hid (Below w.heap.size w wq) := HBw.out.trans (bq.mono HBw.out.size)
      clear bq a0 a1 a2 q1 q2 r2 r3 r4 s2 s3 s4 v0 v1 v2 y1 hneW
      go_wp2
      go_ret
      exact ⟨rfl, HB2.out⟩
end Go.Proofs.Ytbfhoennafopaaa
