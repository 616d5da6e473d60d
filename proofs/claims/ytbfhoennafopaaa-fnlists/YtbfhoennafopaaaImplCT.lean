/-
  The program's ConsTo: a pair put behind the others, in memory of its own; nothing that was there is turned.
-/
import Derived.Test.YtbfhoennafopaaaImplAns
import Derived.Test.YtbfhoennafopaaaConsMath
import Derived.Test.YtbfhoennafopaaaCtBox
namespace Go.Proofs.Ytbfhoennafopaaa
open Go.RowKit Go.Extern.Stop Go.Stop Go.Extern Num Go.Lib

set_option maxRecDepth 100000 in
set_option maxHeartbeats 2000000 in
theorem implCT_any (ao : Option Addr) (cap g : Nat) (l : List Pai) (a b : Vlu) (w : World) (hl : l.length ≤ 1048576) (hao : 0 < l.length → ao = some ⟨g, 0, none⟩) (hr : RowP w g l) (hz : ableL l) (ha : a.name.size ≤ 9223372036854775807) (hb : b.name.size ≤ 9223372036854775807) :
    Calls Try.prog 8 #[.slice ao l.length cap, a.val, b.val] w fun e w' => AnsV w (codeCT l a b) (outCT l a b) (valCT l a b) e w' := by
  have HW : Hid (∀ u, Below w.heap.size w u → Calls Try.prog 29 #[.slice ao l.length cap, a.val] u fun e w' => (∃ p, ∃ x : Wd, e = .returned (.tuple #[.pointer p, x.val, .int .i64 (askV l a)]) ∧ (askV l a = 0 → x = wdOf a ∧ ∃ h, p = some ⟨h, 0, none⟩ ∧ Heap w' u.heap.size h (wordsP l))) ∧ Below u.heap.size u w') := fun u hu => heapWith_any ao cap g l a u hl hao (hr.below hu) hz ha
  have HST : Hid _ := CtB.start w a b
  clear hr hz hao
  obtain ⟨c, hc⟩ : ∃ c, c = askV l a := ⟨_, rfl⟩
  rw [← hc] at HW
  by_cases h0 : c = 0
  case neg =>
    have e1 : codeCT l a b = c := by unfold codeCT; rw [if_pos (by rw [← hc]; exact h0), hc]
    have HE : Hid (codeCT l a b = c ∧ outCT l a b = [] ∧ valCT l a b = ⟨0, 0, ⟨#[]⟩⟩) := ⟨e1, by unfold outCT; rw [if_neg (by rw [e1]; exact h0)], by unfold valCT; rw [if_neg (by rw [e1]; exact h0)]⟩
    rw [HE.out.1, HE.out.2.1, HE.out.2.2]
    have h0' : (c != 0) = true := by simpa using h0
    clear e1 HE hc h0
    go_enter Try.func8, Try.ntmps8
    go_wp2_with fail
    refine (HW.out _ HST.out.old).mono ?_
    rintro e w1 ⟨⟨p, x, rfl, _⟩, hb1⟩
    have HC1 : Hid (CtB w a b w1) := HST.out.below hb1
    obtain ⟨_, _, r0, r1, r2, r3, r4, rf, z, old⟩ := HC1.out
    clear hb1
    go_wp2
    exact bodyPost_ret (v := .agg #[.int .i64 c, .slice none 0 0, .int .i64 0, .int .i64 0, .string ⟨#[]⟩]) (by simp [results, Try.results8, go_sem, r0, r1, r2, r3, r4, z]) rfl ⟨none, 0, rfl, none_row _ _, by repeat (first | refine Below.alloc ?_ (by have := old.size; simp <;> omega) _ | refine Below.setCell ?_ (by simp <;> omega) _ | exact old)⟩
  subst h0
  have HL : Hid (l.length ≤ 4000) := fault_len (askV_zero hc.symm).1
  have hll : l.length ≤ 4000 := HL.out
  have HVA : Hid (vfault a = 0 ∧ fineP l) := ⟨inC_zero (askV_zero hc.symm).2, heap_fine (askV_zero hc.symm).1⟩
  obtain ⟨c1, hc1⟩ : ∃ c, c = inC l.length b := ⟨_, rfl⟩
  have HWI : Hid (∀ u h B, Heap u B h (wordsP l) → Calls Try.prog 30 #[.pointer (some ⟨h, 0, none⟩), b.val] u fun e w' => (∃ x : Wd, e = .returned (.tuple #[x.val, .int .i64 c1]) ∧ (c1 = 0 → x = wdOf b)) ∧ Below u.heap.size u w') := fun u h B H => by
    have := wordIn_any B h (wordsP l) b u H (by rw [wordsP_len]; exact hll) hb
    rw [wordsP_len, ← hc1] at this
    exact this
  have HX0 : Hid (0 = askV l a) := hc
  have HX1 : Hid (c1 = inC l.length b) := hc1
  clear hc hc1
  have key : ∃ (C : Int) (M : List Pai) (V : Vlu), C = codeCT l a b ∧ M = outCT l a b ∧ V = valCT l a b := ⟨_, _, _, rfl, rfl, rfl⟩
  obtain ⟨C, M, V, hC, hM, hV⟩ := key
  rw [← hC, ← hM, ← hV]
  have HR : Hid (C = codeCT l a b ∧ M = outCT l a b ∧ V = valCT l a b) := ⟨hC, hM, hV⟩
  clear hC hM hV
  go_enter Try.func8, Try.ntmps8
  go_wp2_with fail
  refine (HW.out _ HST.out.old).mono ?_
  rintro e w1 ⟨⟨p, x, rfl, hp⟩, hb1⟩
  obtain ⟨hx, h, rfl, hH⟩ := hp (by simp)
  have HH1 : Hid (Heap w1 (w.heap.size + 1 + 1 + 1) h (wordsP l)) := by show Heap _ _ _ _; simpa using hH
  have HX : Hid (x = wdOf a) := hx
  have HC1 : Hid (CtB w a b w1) := HST.out.below hb1
  have t0 := HC1.out.vb.c0
  have t1 := HC1.out.vb.c1
  have t2 := HC1.out.vb.c2
  have zz1 := HC1.out.z
  have zv1 : w.heap.size + 1 < w1.heap.size := by omega
  clear hb1 hp hx hH
  go_wp2_with fail
  refine (HWI.out _ _ _ (HH1.out.lay _)).mono ?_
  rintro e w2 ⟨⟨y, rfl, hy⟩, hb2⟩
  have HH2 : Hid (Heap w2 (w.heap.size + 1 + 1 + 1) h (wordsP l)) := (HH1.out.lay _).keep hb2
  have HY : Hid (c1 = 0 → y = wdOf b) := hy
  have HC2 : Hid (CtB w a b w2) := (HC1.out.below ((Below.refl _ _).alloc (Nat.le_refl _) _)).below hb2
  have x0 : w2.cell? ⟨w1.heap.size, 0, none⟩ = some (.int .u8 x.tag) := by rw [(bcell hb2).1 _ _ (by simp), World.cell?_alloc_at _ _ _ _ rfl]; rfl
  have x1 : w2.cell? ⟨w1.heap.size, 1, none⟩ = some (.int .u64 x.rest) := by rw [(bcell hb2).1 _ _ (by simp), World.cell?_alloc_at _ _ _ _ rfl]; rfl
  have zx : w1.heap.size < w2.heap.size := by have := hb2.size; simp at this; omega
  clear hb2 hy t0 t1 t2
  by_cases h1 : c1 = 0
  case neg =>
    have HE : Hid (C = c1 ∧ M = [] ∧ V = ⟨0, 0, ⟨#[]⟩⟩) := by
      obtain ⟨e1, e2, e3⟩ := HR.out
      have e : codeCT l a b = c1 := by unfold codeCT; rw [if_neg (by rw [← HX0.out]; decide), if_pos (by rw [← HX1.out]; exact h1), HX1.out]
      exact ⟨by rw [e1, e], by rw [e2]; unfold outCT; rw [if_neg (by rw [e]; exact h1)], by rw [e3]; unfold valCT; rw [if_neg (by rw [e]; exact h1)]⟩
    obtain ⟨rfl, rfl, rfl⟩ := HE.out
    have h1' : (C != 0) = true := by simpa using h1
    obtain ⟨_, _, r0, r1, r2, r3, r4, rf, z, old⟩ := HC2.out
    clear h1 HE
    go_wp2
    exact bodyPost_ret (v := .agg #[.int .i64 C, .slice none 0 0, .int .i64 0, .int .i64 0, .string ⟨#[]⟩]) (by simp [results, Try.results8, go_sem, r0, r1, r2, r3, r4, z]) rfl ⟨none, 0, rfl, none_row _ _, by repeat (first | refine Below.alloc ?_ (by have := old.size; simp <;> omega) _ | refine Below.setCell ?_ (by simp <;> omega) _ | exact old)⟩
  subst h1
  obtain ⟨br, hbr⟩ : ∃ b, b = decide ((wordsP l).length + 1 ≤ 4000) := ⟨_, rfl⟩
  have HRm : Hid (∀ u B, Heap u B h (wordsP l) → Calls Try.prog 31 #[.pointer (some ⟨h, 0, none⟩), .int .i64 1] u fun e w' => e = .returned (.bool br) ∧ w' = u) := fun u B H => by rw [hbr]; exact room_any B h (wordsP l) 1 u H (by rw [wordsP_len]; exact hll) (by omega)
  have HBr : Hid (br = decide (l.length + 1 ≤ 4000)) := by show br = _; rw [hbr, wordsP_len]
  clear hbr
  have HC2a : Hid (CtB w a b (w2.alloc (.cells #[.int .u8 y.tag, .int .u64 y.rest] 59))) := HC2.out.below ((Below.refl _ _).alloc (Nat.le_refl _) _)
  have HH2a : Hid (Heap (w2.alloc (.cells #[.int .u8 y.tag, .int .u64 y.rest] 59)) (w.heap.size + 1 + 1 + 1) h (wordsP l)) := HH2.out.lay _
  go_wp2_with fail
  refine (HRm.out _ _ HH2a.out).mono ?_
  rintro e w3 ⟨rfl, hw3⟩
  subst hw3
  cases br
  case false =>
    have HE : Hid (C = 2 ∧ M = [] ∧ V = ⟨0, 0, ⟨#[]⟩⟩) := by
      obtain ⟨e1, e2, e3⟩ := HR.out
      have h4 : 4000 ≤ l.length := by have := HBr.out; simp at this; omega
      have e : codeCT l a b = 2 := by unfold codeCT; rw [if_neg (by rw [← HX0.out]; decide), if_neg (by rw [← HX1.out]; decide), if_pos h4]
      exact ⟨by rw [e1, e], by rw [e2]; unfold outCT; rw [if_neg (by rw [e]; decide)], by rw [e3]; unfold valCT; rw [if_neg (by rw [e]; decide)]⟩
    obtain ⟨rfl, rfl, rfl⟩ := HE.out
    obtain ⟨_, _, r0, r1, r2, r3, r4, rf, z, old⟩ := HC2a.out
    clear HE
    go_wp2
    exact bodyPost_ret (v := .agg #[.int .i64 2, .slice none 0 0, .int .i64 0, .int .i64 0, .string ⟨#[]⟩]) (by simp [results, Try.results8, go_sem, r0, r1, r2, r3, r4]) rfl ⟨none, 0, rfl, none_row _ _, by repeat (first | refine Below.alloc ?_ (by have := old.size; simp <;> omega) _ | refine Below.setCell ?_ (by simp <;> omega) _ | exact old | exact HC2.out.old)⟩
  have HE : Hid (C = 0 ∧ M = l ++ [⟨a, b⟩] ∧ V = ⟨5, (l.length : Int), ⟨#[]⟩⟩ ∧ l.length < 4000) := by
    obtain ⟨e1, e2, e3⟩ := HR.out
    have h4 : ¬ 4000 ≤ l.length := by have := HBr.out; simp at this; omega
    have e : codeCT l a b = 0 := by unfold codeCT; rw [if_neg (by rw [← HX0.out]; decide), if_neg (by rw [← HX1.out]; decide), if_neg h4]
    exact ⟨by rw [e1, e], by rw [e2]; unfold outCT; rw [if_pos e], by rw [e3]; unfold valCT; rw [if_pos e], by omega⟩
  obtain ⟨rfl, hN, rfl, hl4⟩ := HE.out
  have hNl : M.length ≤ 4000 := by rw [hN]; simp; omega
  have HF : Hid (vfault ⟨5, (l.length : Int), ⟨#[]⟩⟩ = 0 ∧ fineP M) := by
    refine ⟨by simp [vfault]; omega, ?_⟩
    rw [hN]
    intro k hk
    by_cases h5 : k < l.length
    · rw [List.getElem_append_left h5]; exact HVA.out.2 k h5
    · have e : k = l.length := by simp at hk; omega
      subst e
      simp only [List.getElem_append_right (Nat.le_refl _), Nat.sub_self, List.getElem_cons_zero]
      exact ⟨HVA.out.1, inC_zero HX1.out.symm⟩
  have HCo : Hid (∀ u, w.heap.size + 1 + 1 + 1 ≤ u.heap.size → Heap u (w.heap.size + 1 + 1 + 1) h (wordsP l) → Calls Try.prog 33 #[.pointer (some ⟨h, 0, none⟩), x.val, y.val] u fun e w' => e = .returned (.agg #[.int .u8 5, .int .u64 (l.length : Int)]) ∧ Heap w' (w.heap.size + 1 + 1 + 1) h (wordsP M) ∧ Below (w.heap.size + 1 + 1 + 1) u w') := fun u hu H => by
    have := cons_any (w.heap.size + 1 + 1 + 1) h (wordsP l) x y u hu H (by rw [wordsP_len]; exact hll)
    rw [wordsP_len] at this
    have e : wordsP l ++ [(x, y)] = wordsP M := by rw [hN, HX.out, HY.out (by simp)]; simp [wordsP]
    rw [e] at this
    exact this
  have HAn : Hid (∀ u, Heap u (w.heap.size + 1 + 1 + 1) h (wordsP M) → Calls Try.prog 32 #[.pointer (some ⟨h, 0, none⟩), .agg #[.int .u8 5, .int .u64 (l.length : Int)]] u fun e w' => ∃ ao c, e = .returned (.agg #[.int .i64 0, .slice ao M.length c, .int .i64 5, .int .i64 (l.length : Int), .string ⟨#[]⟩]) ∧ w'.ownsRow u.heap.size 71 6 (.slice ao M.length c) M.length (cellsP M) ∧ Below u.heap.size u w') := fun u H => by
    have := answer_any (w.heap.size + 1 + 1 + 1) h M ⟨5, (l.length : Int), ⟨#[]⟩⟩ u H (by omega) HF.out.2 HF.out.1
    have e : wdOf ⟨5, (l.length : Int), ⟨#[]⟩⟩ = ⟨5, (l.length : Int)⟩ := by unfold wdOf; rw [if_pos HF.out.1]; simp [least]
    rw [e] at this
    exact this
  have zz2 := HC2a.out.z
  have zz2' : w.heap.size + 1 + 1 + 1 ≤ (w2.alloc (.cells #[.int .u8 y.tag, .int .u64 y.rest] 59)).heap.size := by omega
  clear HE HF hN
  go_wp2_with fail
  refine (HCo.out _ zz2' HH2a.out).mono ?_
  rintro e w4 ⟨rfl, hH4, hb4⟩
  have HH4 : Hid (Heap w4 (w.heap.size + 1 + 1 + 1) h (wordsP M)) := hH4
  have HC4 : Hid (CtB w a b w4) := HC2a.out.low (by omega) hb4
  clear hH4 hb4
  go_wp2_with fail
  refine (HAn.out _ HH4.out).mono ?_
  rintro e w5 ⟨ao5, c5, rfl, ho5, hb5⟩
  have HO5 : Hid (w5.ownsRow w4.heap.size 71 6 (.slice ao5 M.length c5) M.length (cellsP M)) := ho5
  have HC5 : Hid (CtB w a b w5) := HC4.out.below hb5
  have z4 := HC4.out.z
  obtain ⟨_, _, r0, r1, r2, r3, r4, rf, z, old⟩ := HC5.out
  clear ho5 hb5
  go_wp2
  refine bodyPost_ret (v := .agg #[.int .i64 0, .slice ao5 M.length c5, .int .i64 5, .int .i64 (l.length : Int), .string ⟨#[]⟩]) (by simp [results, Try.results8, go_sem, r0, r1, r2, r3, r4]) rfl ⟨ao5, c5, rfl, ?_, ?_⟩
  · refine own_base (base := w4.heap.size) ?_ (by omega)
    repeat (first | refine own_set_low ?_ (by omega) _ | exact HO5.out)
  · repeat (first | refine Below.setCell ?_ (by simp <;> omega) _ | exact old)
end Go.Proofs.Ytbfhoennafopaaa
