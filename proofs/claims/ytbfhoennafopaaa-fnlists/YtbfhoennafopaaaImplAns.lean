/-
  The program's answer: the pairs of a heap as a new row, and a word as a value; nothing that was there is turned.
-/
import Derived.Test.YtbfhoennafopaaaImplWith
import Derived.Test.YtbfhoennafopaaaImplValue
import Derived.Deep.RegionHeld3
namespace Go.Proofs.Ytbfhoennafopaaa
open Go.RowKit Go.Extern.Stop Go.Stop Go.Extern Num Go.Lib

attribute [local go_sem ↓] Go.wp_at_zero Go.wp_at_succ
/-- Pairs whose values have no fault. -/
def fineP (l : List Pai) : Prop := ∀ (k : Nat) (h : k < l.length), vfault l[k].head = 0 ∧ vfault l[k].tail = 0
theorem makeP0 (n : Nat) (hn : n ≤ 4001) (w : World) : (Instr.makeSlice 24 (.int .i64 0) (.int .i64 (n : Int))).run Try.prog w = .ok (.slice (some ⟨w.heap.size, 0, none⟩) 0 n) (w.alloc (.cells (madeCells #[.int .i64 0, .int .i64 0, .string ⟨#[]⟩, .int .i64 0, .int .i64 0, .string ⟨#[]⟩] (n * 6)) 71)) := by
  obtain ⟨i0, hi, hz0, hz1, hz2⟩ := info_parts infoP
  have := run_make (P := Try.prog) w 24 71 i0 _ Try.underlying24 hi hz0 .i64 .i64 (0 : Int) (n : Int) (by omega) (by omega) (by rw [hz2]; omega) (by omega)
  rw [this, hz1]
  simp [Value.cells]
theorem made0P (w : World) (n : Nat) (hn : n ≤ 4001) : (w.alloc (.cells (madeCells #[.int .i64 0, .int .i64 0, .string ⟨#[]⟩, .int .i64 0, .int .i64 0, .string ⟨#[]⟩] (n * 6)) 71)).ownsRow w.heap.size 71 6 (.slice (some ⟨w.heap.size, 0, none⟩) 0 n) 0 (cellsP []) :=
  ⟨by simp [cellsP], .inr ⟨w.heap.size, n, _, rfl, Nat.le_refl _, heap_alloc_new w _, Nat.zero_le _, by unfold maxLen; omega, by simp [madeCells], by simp [cellsP]⟩⟩
/-- The two boxes of the call: the word that is asked, and the answer, as they were laid. -/
structure AnsB (w : World) (x : Wd) (u : World) : Prop where
  b : Below (w.heap.size + 2) ((w.alloc (.cells #[.int .u8 x.tag, .int .u64 x.rest] 59)).alloc (.cells #[.int .i64 0, .slice none 0 0, .int .i64 0, .int .i64 0, .string ⟨#[]⟩] 30)) u
theorem AnsB.start (w : World) (x : Wd) : AnsB w x ((w.alloc (.cells #[.int .u8 x.tag, .int .u64 x.rest] 59)).alloc (.cells #[.int .i64 0, .slice none 0 0, .int .i64 0, .int .i64 0, .string ⟨#[]⟩] 30)) := ⟨Below.refl _ _⟩
theorem AnsB.size {w u : World} {x : Wd} (h : AnsB w x u) : w.heap.size + 2 ≤ u.heap.size := by have := h.b.size; simp at this; omega
theorem AnsB.below {w u v : World} {x : Wd} (h : AnsB w x u) (hb : Below u.heap.size u v) : AnsB w x v := ⟨h.b.trans (hb.mono h.size)⟩
theorem AnsB.lay {w u : World} {x : Wd} (h : AnsB w x u) (o : Obj) : AnsB w x (u.alloc o) := h.below ((Below.refl _ _).alloc (Nat.le_refl _) _)
theorem AnsB.drew {w u : World} {x : Wd} (h : AnsB w x u) : AnsB w x u.drew := h.below (Below.drew (Below.refl _ _))
theorem AnsB.grown {w u v : World} {x : Wd} {r : Option Nat} (h : AnsB w x u) (hg : u.grownBy v r) (hr : ∀ k, r = some k → w.heap.size + 2 ≤ k) : AnsB w x v := ⟨h.b.grown hg h.size hr⟩
theorem AnsB.old {w u : World} {x : Wd} (h : AnsB w x u) : Below w.heap.size w u := Below.trans (((Below.refl _ _).alloc (Nat.le_refl _) _).alloc (by simp) _) (h.b.mono (by omega))
theorem AnsB.word {w u : World} {x : Wd} (h : AnsB w x u) : u.cell? ⟨w.heap.size, 0, none⟩ = some (.int .u8 x.tag) ∧ u.cell? ⟨w.heap.size, 1, none⟩ = some (.int .u64 x.rest) := by
  have hb : Below ((w.alloc (.cells #[.int .u8 x.tag, .int .u64 x.rest] 59)).alloc (.cells #[.int .i64 0, .slice none 0 0, .int .i64 0, .int .i64 0, .string ⟨#[]⟩] 30)).heap.size _ u := h.b.mono (by simp)
  exact ⟨cell_keep hb (by rw [World.cell?_alloc_past _ _ _ (by simp), World.cell?_alloc_at _ _ _ _ rfl]; rfl), cell_keep hb (by rw [World.cell?_alloc_past _ _ _ (by simp), World.cell?_alloc_at _ _ _ _ rfl]; rfl)⟩
theorem AnsB.box {w u : World} {x : Wd} (h : AnsB w x u) : u.cell? ⟨w.heap.size + 1, 0, none⟩ = some (.int .i64 0) ∧ u.cell? ⟨w.heap.size + 1, 1, none⟩ = some (.slice none 0 0) ∧ u.cell? ⟨w.heap.size + 1, 2, none⟩ = some (.int .i64 0) ∧ u.cell? ⟨w.heap.size + 1, 3, none⟩ = some (.int .i64 0) ∧ u.cell? ⟨w.heap.size + 1, 4, none⟩ = some (.string ⟨#[]⟩) ∧ ∀ o, u.frozen? ⟨w.heap.size + 1, o, none⟩ = false := by
  have hb : Below ((w.alloc (.cells #[.int .u8 x.tag, .int .u64 x.rest] 59)).alloc (.cells #[.int .i64 0, .slice none 0 0, .int .i64 0, .int .i64 0, .string ⟨#[]⟩] 30)).heap.size _ u := h.b.mono (by simp)
  refine ⟨cell_keep hb ?_, cell_keep hb ?_, cell_keep hb ?_, cell_keep hb ?_, cell_keep hb ?_, fun o => ?_⟩
  · rw [World.cell?_alloc_at _ _ _ _ (by simp)]; rfl
  · rw [World.cell?_alloc_at _ _ _ _ (by simp)]; rfl
  · rw [World.cell?_alloc_at _ _ _ _ (by simp)]; rfl
  · rw [World.cell?_alloc_at _ _ _ _ (by simp)]; rfl
  · rw [World.cell?_alloc_at _ _ _ _ (by simp)]; rfl
  · rw [(bcell hb).2 _ _ (by simp), World.frozen?_alloc_at _ _ _ _ (by simp)]
theorem cKeep {b : Nat} {x0 x1 x2 x3 : Value} {u v : World} (h : u.cell? ⟨b, 0, none⟩ = some x0 ∧ u.cell? ⟨b, 1, none⟩ = some x1 ∧ u.cell? ⟨b, 2, none⟩ = some x2 ∧ u.cell? ⟨b, 3, none⟩ = some x3) (hb : Below u.heap.size u v) :
    v.cell? ⟨b, 0, none⟩ = some x0 ∧ v.cell? ⟨b, 1, none⟩ = some x1 ∧ v.cell? ⟨b, 2, none⟩ = some x2 ∧ v.cell? ⟨b, 3, none⟩ = some x3 := ⟨cell_keep hb h.1, cell_keep hb h.2.1, cell_keep hb h.2.2.1, cell_keep hb h.2.2.2⟩
theorem cGrow {b : Nat} {x0 x1 x2 x3 : Value} {u v : World} {r : Option Nat} (h : u.cell? ⟨b, 0, none⟩ = some x0 ∧ u.cell? ⟨b, 1, none⟩ = some x1 ∧ u.cell? ⟨b, 2, none⟩ = some x2 ∧ u.cell? ⟨b, 3, none⟩ = some x3) (hg : u.grownBy v r) (hr : r ≠ some b) :
    v.cell? ⟨b, 0, none⟩ = some x0 ∧ v.cell? ⟨b, 1, none⟩ = some x1 ∧ v.cell? ⟨b, 2, none⟩ = some x2 ∧ v.cell? ⟨b, 3, none⟩ = some x3 := ⟨hg.cell h.1 (Ne.symm hr), hg.cell h.2.1 (Ne.symm hr), hg.cell h.2.2.1 (Ne.symm hr), hg.cell h.2.2.2 (Ne.symm hr)⟩
set_option maxRecDepth 100000 in
set_option maxHeartbeats 2000000 in
theorem answer_any (B h : Nat) (l : List Pai) (t : Vlu) (w : World) (H : Heap w B h (wordsP l)) (hl : l.length ≤ 4001) (hf : fineP l) (ht : vfault t = 0) :
    Calls Try.prog 32 #[.pointer (some ⟨h, 0, none⟩), (wdOf t).val] w fun e w' => ∃ ao c, e = .returned (.agg #[.int .i64 0, .slice ao l.length c, .int .i64 t.kind, .int .i64 t.num, .string t.name]) ∧ w'.ownsRow w.heap.size 71 6 (.slice ao l.length c) l.length (cellsP l) ∧ Below w.heap.size w w' := by
  obtain ⟨v, bs, K⟩ := H
  obtain ⟨a, c, rfl⟩ := own_form K.fd.2.1
  have hlen : bs.length = l.length := by rw [K.len, wordsP_len]
  have c0 := K.fd.1
  have hlt := K.fd.lt
  have hlt1 : h < w.heap.size + 1 := by omega
  have hlt2 : h < w.heap.size + 1 + 1 := by omega
  rw [hlen] at c0
  have hmk := makeP0 l.length hl
  have HK : Hid (HpAt w B h (.slice a bs.length c) bs (wordsP l)) := K
  obtain ⟨x, hx⟩ : ∃ x, x = wdOf t := ⟨_, rfl⟩
  rw [← hx]
  have HX : Hid (∀ w, Calls Try.prog 37 #[x.val] w fun e w' => e = .returned t.val ∧ Below w.heap.size w w') := fun w => by rw [hx]; exact value_any t w ht
  clear K hx
  go_enter Try.func32, Try.ntmps32
  go_wp2_with fail
  have z3 : w.heap.size + 1 < ((w.alloc (.cells #[.int .u8 x.tag, .int .u64 x.rest] 59)).alloc (.cells #[.int .i64 0, .slice none 0 0, .int .i64 0, .int .i64 0, .string ⟨#[]⟩] 30)).heap.size := by simp
  go_loopw [5, 19] (fun v i wr => ∃ k : Nat, k ≤ l.length ∧ i = .int .i64 (k : Int) ∧ Hid (∃ ao c, v = .slice ao k c ∧ wr.ownsRow (w.heap.size + 1 + 1) 71 6 (.slice ao k c) k (cellsP (l.take k))) ∧ Hid (AnsB w x wr)) (fun _ i _ => l.length - (RowKit.intOf i).toNat)
  case atStart => exact ⟨0, Nat.zero_le _, rfl, ⟨_, _, rfl, by simpa using made0P ((w.alloc (.cells #[.int .u8 x.tag, .int .u64 x.rest] 59)).alloc (.cells #[.int .i64 0, .slice none 0 0, .int .i64 0, .int .i64 0, .string ⟨#[]⟩] 30)) l.length hl⟩, AnsB.lay (AnsB.start w x) _⟩
  case round =>
    obtain ⟨k, hk, rfl, HR, HA⟩ := hrel
    by_cases hlt : k < l.length
    · obtain ⟨ao, ca, hv, hrow⟩ := HR.out
      subst hv
      have HO0 : Hid (wr.ownsRow (w.heap.size + 1 + 1) 71 6 (.slice ao k ca) k (cellsP (l.take k))) := hrow
      clear hrow HR
      obtain ⟨gQ, cQ, hvQ, _, _⟩ := HK.out.fd.2.1.form (by omega)
      obtain ⟨rfl, rfl⟩ : a = some ⟨gQ, 0, none⟩ ∧ c = cQ := by simp at hvQ; exact hvQ
      clear hvQ
      have hkb : k < bs.length := by omega
      have hkw : k < (wordsP l).length := by rw [wordsP_len]; exact hlt
      obtain ⟨b, hb⟩ : ∃ b, b = bs[k]'hkb := ⟨_, rfl⟩
      obtain ⟨p, hp⟩ : ∃ p, p = l[k]'hlt := ⟨_, rfl⟩
      obtain ⟨y0, hy0⟩ : ∃ y, y = wdOf p.head := ⟨_, rfl⟩
      obtain ⟨y1, hy1⟩ : ∃ y, y = wdOf p.tail := ⟨_, rfl⟩
      have e0 : wr.cell? ⟨gQ, k, none⟩ = some (.pointer (some ⟨b, 0, none⟩)) := by
        refine cell_keep HA.out.old ?_
        have ha : ∀ j, (⟨gQ, 0, none⟩ : Addr).add j = ⟨gQ, j, none⟩ := fun j => by unfold Addr.add; split <;> simp_all
        rw [← ha, hb]
        exact HK.out.fd.2.1.cells (g := gQ) rfl k _ (by simp [ptrs, hkb])
      have hca : CellAt b (y0, y1) wr := by
        have := (HK.out.each k hkb hkw).below HA.out.old
        have e : (wordsP l)[k]'hkw = (y0, y1) := by rw [hy0, hy1, hp]; simp [wordsP]
        rw [e, ← hb] at this
        exact this
      obtain ⟨d0, d1, d2, d3⟩ := hca
      simp only at d0 d1 d2 d3
      have HV0 : Hid (∀ w, Calls Try.prog 37 #[y0.val] w fun e w' => e = .returned p.head.val ∧ Below w.heap.size w w') := fun w => by rw [hy0]; exact value_any p.head w (by rw [hp]; exact (hf k hlt).1)
      have HV1 : Hid (∀ w, Calls Try.prog 37 #[y1.val] w fun e w' => e = .returned p.tail.val ∧ Below w.heap.size w w') := fun w => by rw [hy1]; exact value_any p.tail w (by rw [hp]; exact (hf k hlt).2)
      have HP : Hid (cellsP (l.take (k + 1)) = cellsP (l.take k) ++ [.int .i64 p.head.kind, .int .i64 p.head.num, .string p.head.name, .int .i64 p.tail.kind, .int .i64 p.tail.num, .string p.tail.name]) := by
        show _ = _
        rw [takeP l k hlt, cellsP_append, ← hp]; simp [cellsP, Pai.cells]
      have zr := HA.out.size
      obtain ⟨i0, hi, hz0, hz1, hz2⟩ := info_parts infoP
      have hrb : (Value.slice ao k ca).ownBlock ≠ some b := fun e => by
        have h1 := (HO0.out.lt b e).1
        have h2 : bs[k]'hkb < w.heap.size := lt_of_cell (HK.out.each k hkb hkw).c0
        rw [← hb] at h2
        omega
      have HS0 : Hid (wr.cell? ⟨b, 0, none⟩ = some (.int .u8 y0.tag) ∧ wr.cell? ⟨b, 1, none⟩ = some (.int .u64 y0.rest) ∧ wr.cell? ⟨b, 2, none⟩ = some (.int .u8 y1.tag) ∧ wr.cell? ⟨b, 3, none⟩ = some (.int .u64 y1.rest)) := ⟨d0, d1, d2, d3⟩
      clear hb hp hy0 hy1 hf
      go_wp2_with fail
      clear d0 d1 d2 d3
      go_region_held3 (fun u => u.cell? ⟨b, 0, none⟩ = some (.int .u8 y0.tag) ∧ u.cell? ⟨b, 1, none⟩ = some (.int .u64 y0.rest) ∧ u.cell? ⟨b, 2, none⟩ = some (.int .u8 y1.tag) ∧ u.cell? ⟨b, 3, none⟩ = some (.int .u64 y1.rest))
        (first | exact cKeep (by assumption) (by assumption) | exact cKeep HS0.out (Below.drew (Below.refl _ _)) | exact cKeep (by assumption) ((Below.refl _ _).alloc (Nat.le_refl _) _) | exact cGrow (cKeep (by assumption) ((Below.refl _ _).alloc (Nat.le_refl _) _)) hgrow3 hrb | exact cGrow (by assumption) hgrow3 hrb)
        (first
          | (have _h := HO1.out; go_at_call 37; refine (HV1.out _).mono ?_; rintro e w2 ⟨rfl, hb2⟩; have z2 : w.heap.size + 2 ≤ w2.heap.size := (by have := hb2.size; omega); have HO2 : Hid (w2.ownsRow (w.heap.size + 1 + 1) 71 6 (.slice ao k ca) k (cellsP (l.take k))) := own_below HO1.out hb2; have HA2 : Hid (AnsB w x w2) := HA1.out.below hb2)
          | (go_at_call 37; refine (HV0.out _).mono ?_; rintro e w1 ⟨rfl, hb1⟩; have z1 : w.heap.size + 2 ≤ w1.heap.size := (by have := hb1.size; simp at this; omega); have HO1 : Hid (w1.ownsRow (w.heap.size + 1 + 1) 71 6 (.slice ao k ca) k (cellsP (l.take k))) := own_below (World.ownsRow.drew HO0.out) hb1; have HA1 : Hid (AnsB w x w1) := (HA.out.drew).below hb1)
          | (refine step_append_lies _ (by rfl) _ _ _ (by rfl) (w.heap.size + 1 + 1) 71 i0 _ 6 64 Try.underlying24 hi hz0 hz1 hz2 rfl (by decide) (.slice ao k ca) k (cellsP (l.take k)) (by rfl) (by repeat (first | exact HO2.out | refine World.ownsRow.alloc ?_ _ | refine World.ownsRow.drew ?_))
              ⟨w2.heap.size, 0, none⟩ 1 1 [.int .i64 p.head.kind, .int .i64 p.head.num, .string p.head.name, .int .i64 p.tail.kind, .int .i64 p.tail.num, .string p.tail.name] (by rfl) (by rfl) (World.news_of_block (cs := #[.int .i64 p.head.kind, .int .i64 p.head.num, .string p.head.name, .int .i64 p.tail.kind, .int .i64 p.tail.num, .string p.tail.name]) (t := 71) (fr := (0, 0)) (heap_new' _ _ _ (by simp))) (by simp [Value.oneCell'])
              (by decide) (by unfold maxLen; omega) (by omega) (by simp; omega) (w2.heap.size + 1) (by simp) ?_; intro g' cap' w3 hown3 hgrow3 hat3 hlt3)
          | fail)
      have HA3 : Hid (AnsB w x w3) := (HA2.out.lay _).grown hgrow3 (fun j hj => (HO2.out.lt j hj).1)
      have HR3 : Hid (w3.ownsRow (w.heap.size + 1 + 1) 71 6 (.slice (some ⟨g', 0, none⟩) (k + 1) cap') (k + 1) (cellsP (l.take (k + 1)))) := by show World.ownsRow _ _ _ _ _ _ _; rw [HP.out]; exact hown3
      clear hgrow3 hown3 hat3 HO1 HO2 HA1 HA2 hb1 hb2
      go_wp2
      exact ⟨⟨k + 1, by omega, by go_num, ⟨_, _, rfl, HR3.out⟩, HA3.out⟩, by simp [RowKit.intOf]; omega⟩
    · obtain ⟨ao, ca, hv, hrow⟩ := HR.out
      subst hv
      have hkl : k = l.length := by omega
      subst hkl
      rw [List.take_length] at hrow
      have HO0 : Hid (wr.ownsRow (w.heap.size + 1 + 1) 71 6 (.slice ao l.length ca) l.length (cellsP l)) := hrow
      obtain ⟨x0, x1⟩ := HA.out.word
      have zr := HA.out.size
      have zr0 : w.heap.size < wr.heap.size := by omega
      clear hrow HR
      go_wp2_with fail
      refine (HX.out _).mono ?_
      rintro e w1 ⟨rfl, hb1⟩
      have HO1 : Hid (w1.ownsRow (w.heap.size + 1 + 1) 71 6 (.slice ao l.length ca) l.length (cellsP l)) := own_below HO0.out hb1
      have HA1 : Hid (AnsB w x w1) := HA.out.below hb1
      obtain ⟨r0, r1, r2, r3, r4, rf⟩ := HA1.out.box
      have z1 : w.heap.size + 1 < w1.heap.size := by have := HA1.out.size; omega
      clear hb1 x0 x1
      go_wp2
      refine bodyPost_ret (v := .agg #[.int .i64 0, .slice ao l.length ca, .int .i64 t.kind, .int .i64 t.num, .string t.name]) (by simp [results, Try.results32, go_sem, r0, r1, r2, r3, r4]) rfl ⟨ao, ca, rfl, ?_, ?_⟩
      · refine own_base (base := w.heap.size + 1 + 1) ?_ (by omega)
        repeat (first | refine own_set_low ?_ (by omega) _ | exact HO1.out)
      · repeat (first | refine Below.setCell ?_ (by simp <;> omega) _ | exact HA1.out.old)
end Go.Proofs.Ytbfhoennafopaaa
