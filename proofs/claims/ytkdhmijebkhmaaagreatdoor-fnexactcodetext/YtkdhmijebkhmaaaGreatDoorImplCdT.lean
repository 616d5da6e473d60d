/-
  The program's CodeText: the text of code; and its exact law, which answers true at every code.
-/
import Derived.Test.YtkdhmijebkhmaaaGreatDoorImplOT
import Derived.Test.YtkdhmijebkhmaaaGreatDoorCtK
import Derived.Test.YtkdhmijebkhmaaaGreatDoorLawCT9
namespace Go.Proofs.YtkdhmijebkhmaaaGreatDoor
open Go.RowKit Go.Extern.Stop Go.Stop Go.Extern Num Go.Lib

set_option maxRecDepth 100000 in
set_option maxHeartbeats 2000000 in
theorem implCdT_any (g c B : Nat) (l : List Blk) (w : World) (hl : l.length ≤ 1048576) (hz : ∀ (k : Nat) (h : k < l.length), l[k].small) (hB : RowBl w B g l) (hL : LT w) :
    Calls Tryz.prog 9 #[.slice (some ⟨g, 0, none⟩) l.length c] w fun e w' => e = .returned (.agg #[.int .i64 (codeTC l), .string (codeTT l)]) ∧ Below w.heap.size w w' := by
  obtain ⟨W, hW⟩ : ∃ W, W = w.alloc (.cells #[.int .i64 0, .string ⟨#[]⟩] 25) := ⟨_, rfl⟩
  have HW : Hid (W = w.alloc (.cells #[.int .i64 0, .string ⟨#[]⟩] 25)) := hW
  have hb0 : Below w.heap.size w W := by rw [hW]; exact (Below.refl _ _).alloc (Nat.le_refl _) _
  have HB0 : Hid (Below w.heap.size w W) := hb0
  have HF : Hid (Calls Tryz.prog 27 #[.slice (some ⟨g, 0, none⟩) l.length c] W fun e w' => e = .returned (.int .i64 (codeFault9 l)) ∧ Below W.heap.size W w') := blocksFault_any g c B l W hl hz (hB.below hb0) (hL.below hb0)
  have r0 : W.cell? ⟨w.heap.size, 0, none⟩ = some (.int .i64 0) := by rw [hW]; simp [go_sem]
  have r1 : W.cell? ⟨w.heap.size, 1, none⟩ = some (.string ⟨#[]⟩) := by rw [hW]; simp [go_sem]
  have rf : ∀ j, W.frozen? ⟨w.heap.size, j, none⟩ = false := fun j => by rw [hW]; simp [go_sem]
  have rl : w.heap.size < W.heap.size := by rw [hW]; simp
  have HQ : Hid (∀ u, Below W.heap.size W u → u.cell? ⟨w.heap.size, 0, none⟩ = some (.int .i64 0) ∧ u.cell? ⟨w.heap.size, 1, none⟩ = some (.string ⟨#[]⟩) ∧ (∀ j, u.frozen? ⟨w.heap.size, j, none⟩ = false) ∧ w.heap.size < u.heap.size) := fun u hu => ⟨cell_keep hu r0, cell_keep hu r1, fun j => by rw [(bcell hu).2 _ _ rl]; exact rf j, Nat.lt_of_lt_of_le rl hu.size⟩
  obtain ⟨X, hX⟩ : ∃ X : ByteArray, X = ⟨(codeT l).toArray⟩ := ⟨_, rfl⟩
  have HWr : Hid (codeFault9 l = 0 → ∀ u, Below W.heap.size W u → Calls Tryz.prog 28 #[.slice (some ⟨g, 0, none⟩) l.length c] u fun e w' => e = .returned (.string X) ∧ Below u.heap.size u w') := fun h0 u hu => by rw [hX]; exact writeCode_of opText_any g c B l u h0 hz ((hB.below hb0).below hu) ((hL.below hb0).below hu)
  have hXs : codeFault9 l = 0 → X.size ≤ 24000000 := fun h0 => by
    have h1 := (codeOk h0).1
    have h2 := codeTo_len l h1 (codeOk h0).2 _ (Nat.le_refl _)
    rw [hX, size_mk]; unfold codeT; omega
  obtain ⟨R, hR⟩ : ∃ R, R = codeFault9 l := ⟨_, rfl⟩
  have HC : Hid (codeTC l = (if R = 0 then (if 6000 < X.size then 2 else 0) else R) ∧ codeTT l = (if R = 0 then (if 6000 < X.size then ⟨#[]⟩ else X) else ⟨#[]⟩)) := by
    refine ⟨?_, ?_⟩
    · rw [hR, hX, size_mk]; rfl
    · rw [hR, hX, size_mk]; unfold codeTT
      by_cases h1 : codeFault9 l = 0 <;> by_cases h2 : 6000 < (codeT l).length <;> simp [h1, h2, Nat.not_le.2, Nat.le_of_not_lt]
  rw [← hR] at HF HWr hXs
  obtain ⟨cc, hcc⟩ : ∃ cc, cc = codeTC l := ⟨_, rfl⟩
  obtain ⟨tt, htt⟩ : ∃ tt, tt = codeTT l := ⟨_, rfl⟩
  rw [← hcc, ← htt] at HC
  rw [← hcc, ← htt]
  clear hW hB hz hL hR r0 r1 rf rl hb0 hX hcc htt
  go_enter Tryz.func9, Tryz.ntmps9
  go_wp2_with fail
  rw [← HW.out]
  refine HF.out.mono ?_
  rintro e w1 ⟨rfl, b1⟩
  have HB1 : Hid (Below W.heap.size W w1) := b1
  obtain ⟨q0, q1, qf, ql⟩ := HQ.out w1 b1
  have HBw : Hid (Below w.heap.size w w1) := HB0.out.trans (b1.mono HB0.out.size)
  clear b1 HW HF
  by_cases hc : R = 0
  · subst hc
    have hXz := hXs rfl
    have HC1 : Hid (cc = (if 6000 < X.size then 2 else 0) ∧ tt = (if 6000 < X.size then ⟨#[]⟩ else X)) := HC.out
    have HT : Hid (Calls Tryz.prog 28 #[.slice (some ⟨g, 0, none⟩) l.length c] w1 fun e w' => e = .returned (.string X) ∧ Below w1.heap.size w1 w') := HWr.out rfl w1 HB1.out
    clear HC hXs HWr q0 q1 qf ql
    go_wp2_with fail
    refine HT.out.mono ?_
    rintro e w2 ⟨rfl, b2⟩
    have HB2 : Hid (Below w.heap.size w w2) := HBw.out.trans (b2.mono HBw.out.size)
    obtain ⟨q0, q1, qf, ql⟩ := HQ.out w2 (HB1.out.trans (b2.mono HB1.out.size))
    clear b2 HT
    by_cases h6 : 6000 < X.size
    · have HC2 : Hid (cc = 2 ∧ tt = ⟨#[]⟩) := by have h := HC1.out; simp only [h6, if_true] at h; exact h
      go_wp2
      exact bodyPost_ret (v := .agg #[.int .i64 2, .string ⟨#[]⟩]) (by simp [results, Tryz.results9, go_sem, q0, q1]) rfl ⟨by rw [HC2.out.1, HC2.out.2], by repeat (first | refine Below.setCell ?_ (by simp) _ | exact HB2.out)⟩
    · have HC2 : Hid (cc = 0 ∧ tt = X) := by have h := HC1.out; simp only [h6, if_false] at h; exact h
      go_wp2
      exact bodyPost_ret (v := .agg #[.int .i64 0, .string X]) (by simp [results, Tryz.results9, go_sem, q0, q1]) rfl ⟨by rw [HC2.out.1, HC2.out.2], by repeat (first | refine Below.setCell ?_ (by simp) _ | exact HB2.out)⟩
  · have hcn : (R != 0) = true := by rw [bne_iff_ne]; exact hc
    have HC2 : Hid (cc = R ∧ tt = ⟨#[]⟩) := by have h := HC.out; simp only [hc, if_false] at h; exact h
    clear hc HC hXs HWr
    go_wp2
    exact bodyPost_ret (v := .agg #[.int .i64 R, .string ⟨#[]⟩]) (by simp [results, Tryz.results9, go_sem, q0, q1]) rfl ⟨by rw [HC2.out.1, HC2.out.2], by repeat (first | refine Below.setCell ?_ (by simp) _ | exact HBw.out)⟩
theorem lawCT9_any (w : World) (hG : LT w) (a : Option Addr) (cp : Nat) (l : List Blk) (hl : l.length ≤ 9223372036854775807) (h : MemBl w a l) (hz : ∀ (k : Nat) (h : k < l.length), l[k].able) :
    Calls Tryz.prog 3 #[.slice a l.length cp] w fun e w' => e = .returned (.bool true) ∧ Below w.heap.size w w' :=
  lawCT_of w hG a cp l hl h hz (fun hn hzs u g c B hLu hRw => implCdT_any g c B l u hn hzs hRw hLu)
end Go.Proofs.YtkdhmijebkhmaaaGreatDoor
