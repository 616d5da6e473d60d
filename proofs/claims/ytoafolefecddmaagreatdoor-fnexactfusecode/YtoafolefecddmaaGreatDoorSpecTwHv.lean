/-
  Parts of the proof laid into one text, one behind the other: SpecTw. Contracts of the program's and the model's functions, and what they are proved of, as their theorems say.
-/
import Derived.Test.YtoafolefecddmaaGreatDoorUfD
import Derived.Test.YtoafolefecddmaaGreatDoorTjB
namespace Go.Proofs.YtoafolefecddmaaGreatDoor
open Go.RowKit Go.Extern.Stop Go.Stop Go.Extern Num Go.Lib
theorem bits16 {tb : Int} (h1 : 0 ≤ tb) (h2 : tb ≤ 15) : tb = 0 ∨ tb = 1 ∨ tb = 2 ∨ tb = 3 ∨ tb = 4 ∨ tb = 5 ∨ tb = 6 ∨ tb = 7 ∨ tb = 8 ∨ tb = 9 ∨ tb = 10 ∨ tb = 11 ∨ tb = 12 ∨ tb = 13 ∨ tb = 14 ∨ tb = 15 := by omega
theorem l11Has_any (tb bit : Int) (w : World) (h1 : 0 ≤ tb) (h2 : tb ≤ 15) (hb : bit = 1 ∨ bit = 2 ∨ bit = 4 ∨ bit = 8) : Calls Tryz.prog 155 #[.int .i64 tb, .int .i64 bit] w fun e w' => e = .returned (.bool (bitT tb bit)) ∧ w' = w := by
  rcases hb with rfl | rfl | rfl | rfl <;> rcases bits16 h1 h2 with rfl | rfl | rfl | rfl | rfl | rfl | rfl | rfl | rfl | rfl | rfl | rfl | rfl | rfl | rfl | rfl
  all_goals
    go_enter Tryz.func155, Tryz.ntmps155
    go_wp2
    go_ret
    exact ⟨rfl, rfl⟩
-- MORE
theorem l9TargetG_any (t : Opr) (g o : Nat) (w : World) (p0 : w.cell? ⟨g, o, none⟩ = some (.int .i64 t.kind)) (p1 : w.cell? ⟨g, o + 1, none⟩ = some (.int .i64 t.a)) (p3 : w.cell? ⟨g, o + 3, none⟩ = some (.int .i64 t.c)) : Calls Tryz.prog 153 #[.pointer (some ⟨g, o, none⟩)] w fun e w' => e = .returned (.int .i64 (tgtO t)) ∧ w' = w := by
  obtain ⟨R, hR⟩ : ∃ R, R = tgtO t := ⟨_, rfl⟩
  rw [← hR]
  have HR : Hid (R = if t.kind = 5 ∨ t.kind = 6 then t.a else if t.kind = 16 then t.c else -1) := hR
  clear hR
  cases k5 : (t.kind == 5) <;> cases k6 : (t.kind == 6) <;> cases k16 : (t.kind == 16)
  all_goals
    have HF : Hid ((t.kind = 5 ↔ (t.kind == 5) = true) ∧ (t.kind = 6 ↔ (t.kind == 6) = true) ∧ (t.kind = 16 ↔ (t.kind == 16) = true)) := ⟨by simp, by simp, by simp⟩
    rw [k5, k6, k16] at HF
    go_enter Tryz.func153, Tryz.ntmps153
    go_wp2
    go_ret
    exact ⟨by rw [HR.out]; have := HF.out; simp_all, rfl⟩
set_option maxRecDepth 100000 in
set_option maxHeartbeats 1000000 in
theorem l9IsTargetG_any (l : List Opr) (x : Int) (g o gk cv : Nat) (w : World) (hl : l.length ≤ 1048576) (h1 : w.cell? ⟨g, o + 1, none⟩ = some (.slice (some ⟨gk, 0, none⟩) l.length cv)) (hO : ∀ (k : Nat) (h : k < l.length), w.cell? ⟨gk, k * 7, none⟩ = some (.int .i64 l[k].kind) ∧ w.cell? ⟨gk, k * 7 + 1, none⟩ = some (.int .i64 l[k].a) ∧ w.cell? ⟨gk, k * 7 + 3, none⟩ = some (.int .i64 l[k].c)) :
    Calls Tryz.prog 114 #[.pointer (some ⟨g, o, none⟩), .int .i64 x] w fun e w' => e = .returned (.bool (isT l x)) ∧ w' = w := by
  obtain ⟨R, hR⟩ : ∃ R, R = isT l x := ⟨_, rfl⟩
  rw [← hR]
  have HR : Hid (R = isT l x) := hR
  have HO : Hid (∀ (k : Nat) (h : k < l.length), w.cell? ⟨gk, k * 7, none⟩ = some (.int .i64 l[k].kind) ∧ w.cell? ⟨gk, k * 7 + 1, none⟩ = some (.int .i64 l[k].a) ∧ w.cell? ⟨gk, k * 7 + 3, none⟩ = some (.int .i64 l[k].c)) := hO
  clear hR hO
  go_enter Tryz.func114, Tryz.ntmps114
  go_wp2_with fail
  go_loopw [5] (fun i wr => ∃ j : Nat, j ≤ l.length ∧ i = .int .i64 (j : Int) ∧ Hid (isTo l x j) ∧ wr = w) (fun i _ => l.length - (RowKit.intOf i).toNat)
  case atStart => exact ⟨0, Nat.zero_le _, rfl, fun k _ hk => by omega, rfl⟩
  case round =>
    obtain ⟨j, hj, rfl, HJ, hw⟩ := hrel
    subst hw
    by_cases hlt : j < l.length
    · obtain ⟨y0, y1, y3⟩ := HO.out j hlt
      obtain ⟨c, hc⟩ : ∃ c, c = tgtO (l[j]'hlt) := ⟨_, rfl⟩
      have HX : Hid (Calls Tryz.prog 153 #[.pointer (some ⟨gk, j * 7, none⟩)] wr fun e w' => e = .returned (.int .i64 c) ∧ w' = wr) := by rw [hc]; exact l9TargetG_any _ gk (j * 7) wr y0 y1 y3
      have HC : Hid (tgtO (l[j]'hlt) = c) := hc.symm
      clear y0 y1 y3 hc
      cases hq : (c == x)
      · have HJ2 : Hid (isTo l x (j + 1)) := fun k hk hkj => by
          by_cases e : k < j
          · exact HJ.out k hk e
          · have : k = j := by omega
            subst this
            rw [HC.out]; exact hq
        go_wp2_with (go_at_call 153; refine HX.out.mono ?_; rintro e w' ⟨rfl, hw'⟩; replace hw' := hw'.symm; subst hw')
        exact ⟨⟨j + 1, by omega, by go_num, HJ2.out, by trivial⟩, by simp [RowKit.intOf]; omega⟩
      · have HF : Hid (R = true) := by show _ = _; rw [HR.out, isT_hit j hlt (by rw [HC.out]; exact hq)]
        go_wp2_with (go_at_call 153; refine HX.out.mono ?_; rintro e w' ⟨rfl, hw'⟩; replace hw' := hw'.symm; subst hw')
        go_ret
        exact ⟨by rw [HF.out]; rfl, rfl⟩
    · have HF : Hid (R = false) := by
        have e : j = l.length := by omega
        show _ = _
        rw [HR.out]
        exact isT_none (by rw [← e]; exact HJ.out)
      go_wp2
      go_ret
      exact ⟨by rw [HF.out]; rfl, rfl⟩
def AnsTw (a b : Opr) (tb : Int) (va : Value) (w : World) (e : Ending) (w' : World) : Prop := ∃ (o : Opr) (ao : Option Addr) (cap : Nat), e = .returned (.tuple #[o.val (.slice ao o.data.length cap), .bool (twoK tb a.kind b.kind != 0)]) ∧ (twoK tb a.kind b.kind ≠ 0 → o = joinO a b (twoK tb a.kind b.kind) ∧ ((o.data = a.data ∧ Value.slice ao o.data.length cap = va) ∨ (o.data = [] ∧ ao = none ∧ cap = 0))) ∧ Below w.heap.size w w'
set_option maxRecDepth 100000 in
set_option maxHeartbeats 2000000 in
theorem l11Two_13 (a b : Opr) (tb : Int) (ga oa gb ob cd : Nat) (ad : Option Addr) (w : World) (h1 : 0 ≤ tb) (h2 : tb ≤ 15) (ka : a.kind = 1) (kb : b.kind = 12) (a0 : w.cell? ⟨ga, oa, none⟩ = some (.int .i64 a.kind)) (a1 : w.cell? ⟨ga, oa + 1, none⟩ = some (.int .i64 a.a)) (a2 : w.cell? ⟨ga, oa + 2, none⟩ = some (.int .i64 a.b)) (a6 : w.cell? ⟨ga, oa + 6, none⟩ = some (.slice ad a.data.length cd)) (b0 : w.cell? ⟨gb, ob, none⟩ = some (.int .i64 b.kind)) (b1 : w.cell? ⟨gb, ob + 1, none⟩ = some (.int .i64 b.a)) (b2 : w.cell? ⟨gb, ob + 2, none⟩ = some (.int .i64 b.b)) :
    Calls Tryz.prog 115 #[.pointer (some ⟨ga, oa, none⟩), .pointer (some ⟨gb, ob, none⟩), .int .i64 tb] w fun e w' => AnsTw a b tb (.slice ad a.data.length cd) w e w' := by
  have HH : Hid (∀ u, Calls Tryz.prog 155 #[.int .i64 tb, .int .i64 1] u fun e w' => e = .returned (.bool (bitT tb 1)) ∧ w' = u) := fun u => l11Has_any tb 1 u h1 h2 (by simp)
  obtain ⟨q, hq⟩ : ∃ q, q = bitT tb 1 := ⟨_, rfl⟩
  rw [← hq] at HH
  have HT : Hid (twoK tb a.kind b.kind = if q then 13 else 0) := by show _ = _; unfold twoK; rw [ka, kb, hq]; simp
  rw [ka] at a0
  rw [kb] at b0
  obtain ⟨W, hW⟩ : ∃ W, W = w.alloc (.cells #[.int .i64 0, .int .i64 0, .int .i64 0, .int .i64 0, .int .i64 0, .string ⟨#[]⟩, .slice none 0 0] 100) := ⟨_, rfl⟩
  have hbW : Below w.heap.size w W := by rw [hW]; exact bnewK _ _
  have HBW : Hid (Below w.heap.size w W) := hbW
  have na : ga ≠ w.heap.size := by have := lt_of_cell a0; exact Nat.ne_of_lt this
  have nb : gb ≠ w.heap.size := by have := lt_of_cell b0; exact Nat.ne_of_lt this
  have na' : w.heap.size ≠ ga := na.symm
  have nb' : w.heap.size ≠ gb := nb.symm
  replace a0 := cell_keep hbW a0
  replace a1 := cell_keep hbW a1
  replace a2 := cell_keep hbW a2
  replace a6 := cell_keep hbW a6
  replace b0 := cell_keep hbW b0
  replace b1 := cell_keep hbW b1
  replace b2 := cell_keep hbW b2
  have r0 : W.cell? ⟨w.heap.size, 0, none⟩ = some (.int .i64 0) := by rw [hW]; simp [go_sem]
  have r1 : W.cell? ⟨w.heap.size, 1, none⟩ = some (.int .i64 0) := by rw [hW]; simp [go_sem]
  have r2 : W.cell? ⟨w.heap.size, 2, none⟩ = some (.int .i64 0) := by rw [hW]; simp [go_sem]
  have r3 : W.cell? ⟨w.heap.size, 3, none⟩ = some (.int .i64 0) := by rw [hW]; simp [go_sem]
  have r4 : W.cell? ⟨w.heap.size, 4, none⟩ = some (.int .i64 0) := by rw [hW]; simp [go_sem]
  have r5 : W.cell? ⟨w.heap.size, 5, none⟩ = some (.string ⟨#[]⟩) := by rw [hW]; simp [go_sem]
  have r6 : W.cell? ⟨w.heap.size, 6, none⟩ = some (.slice none 0 0) := by rw [hW]; simp [go_sem]
  have rf : ∀ j, W.frozen? ⟨w.heap.size, j, none⟩ = false := fun j => by rw [hW]; simp [go_sem]
  subst hW
  clear hq hbW ka kb h1 h2
  go_enter Tryz.func115, Tryz.ntmps115
  go_wp2_with fail
  generalize w.alloc (.cells #[.int .i64 0, .int .i64 0, .int .i64 0, .int .i64 0, .int .i64 0, .string ⟨#[]⟩, .slice none 0 0] 100) = W at a0 a1 a2 a6 b0 b1 b2 r0 r1 r2 r3 r4 r5 r6 rf HBW ⊢
  go_region_held3 (fun u => u.cell? ⟨ga, oa + 6, none⟩ = some (.slice ad a.data.length cd)) (go_keep) ((go_at_call 155; refine (HH.out _).mono ?_; rintro e w' ⟨rfl, hw'⟩; replace hw' := hw'.symm; subst hw'))
  all_goals
    go_wp2
    refine bodyPost_ret (v := .tuple #[.agg #[.int .i64 13, .int .i64 0, .int .i64 0, .int .i64 0, .int .i64 0, .string ⟨#[]⟩, .slice ad a.data.length cd], .bool q]) (by simp [results, Tryz.results115, go_sem, r0, r1, r2, r3, r4, r5, r6]) rfl ⟨opK 13 0 0 0 0 a.data, ad, cd, ?_, ?_, ?_⟩
    · rw [HT.out]; cases q <;> rfl
    · intro hne
      rw [HT.out] at hne ⊢
      cases q
      · exact absurd rfl hne
      · exact ⟨rfl, .inl ⟨rfl, rfl⟩⟩
    · refine Below.drew ?_
      iterate 7 (refine Below.setCell ?_ (by simp) _)
      exact HBW.out
set_option maxRecDepth 100000 in
set_option maxHeartbeats 2000000 in
theorem l11Two_14 (a b : Opr) (tb : Int) (ga oa gb ob cd : Nat) (ad : Option Addr) (w : World) (h1 : 0 ≤ tb) (h2 : tb ≤ 15) (ka : a.kind = 2) (kb : b.kind = 12) (a0 : w.cell? ⟨ga, oa, none⟩ = some (.int .i64 a.kind)) (a1 : w.cell? ⟨ga, oa + 1, none⟩ = some (.int .i64 a.a)) (a2 : w.cell? ⟨ga, oa + 2, none⟩ = some (.int .i64 a.b)) (a6 : w.cell? ⟨ga, oa + 6, none⟩ = some (.slice ad a.data.length cd)) (b0 : w.cell? ⟨gb, ob, none⟩ = some (.int .i64 b.kind)) (b1 : w.cell? ⟨gb, ob + 1, none⟩ = some (.int .i64 b.a)) (b2 : w.cell? ⟨gb, ob + 2, none⟩ = some (.int .i64 b.b)) :
    Calls Tryz.prog 115 #[.pointer (some ⟨ga, oa, none⟩), .pointer (some ⟨gb, ob, none⟩), .int .i64 tb] w fun e w' => AnsTw a b tb (.slice ad a.data.length cd) w e w' := by
  have HH : Hid (∀ u, Calls Tryz.prog 155 #[.int .i64 tb, .int .i64 2] u fun e w' => e = .returned (.bool (bitT tb 2)) ∧ w' = u) := fun u => l11Has_any tb 2 u h1 h2 (by simp)
  obtain ⟨q, hq⟩ : ∃ q, q = bitT tb 2 := ⟨_, rfl⟩
  rw [← hq] at HH
  have HT : Hid (twoK tb a.kind b.kind = if q then 14 else 0) := by show _ = _; unfold twoK; rw [ka, kb, hq]; simp
  rw [ka] at a0
  rw [kb] at b0
  obtain ⟨W, hW⟩ : ∃ W, W = w.alloc (.cells #[.int .i64 0, .int .i64 0, .int .i64 0, .int .i64 0, .int .i64 0, .string ⟨#[]⟩, .slice none 0 0] 100) := ⟨_, rfl⟩
  have hbW : Below w.heap.size w W := by rw [hW]; exact bnewK _ _
  have HBW : Hid (Below w.heap.size w W) := hbW
  have na : ga ≠ w.heap.size := by have := lt_of_cell a0; exact Nat.ne_of_lt this
  have nb : gb ≠ w.heap.size := by have := lt_of_cell b0; exact Nat.ne_of_lt this
  have na' : w.heap.size ≠ ga := na.symm
  have nb' : w.heap.size ≠ gb := nb.symm
  replace a0 := cell_keep hbW a0
  replace a1 := cell_keep hbW a1
  replace a2 := cell_keep hbW a2
  replace a6 := cell_keep hbW a6
  replace b0 := cell_keep hbW b0
  replace b1 := cell_keep hbW b1
  replace b2 := cell_keep hbW b2
  have r0 : W.cell? ⟨w.heap.size, 0, none⟩ = some (.int .i64 0) := by rw [hW]; simp [go_sem]
  have r1 : W.cell? ⟨w.heap.size, 1, none⟩ = some (.int .i64 0) := by rw [hW]; simp [go_sem]
  have r2 : W.cell? ⟨w.heap.size, 2, none⟩ = some (.int .i64 0) := by rw [hW]; simp [go_sem]
  have r3 : W.cell? ⟨w.heap.size, 3, none⟩ = some (.int .i64 0) := by rw [hW]; simp [go_sem]
  have r4 : W.cell? ⟨w.heap.size, 4, none⟩ = some (.int .i64 0) := by rw [hW]; simp [go_sem]
  have r5 : W.cell? ⟨w.heap.size, 5, none⟩ = some (.string ⟨#[]⟩) := by rw [hW]; simp [go_sem]
  have r6 : W.cell? ⟨w.heap.size, 6, none⟩ = some (.slice none 0 0) := by rw [hW]; simp [go_sem]
  have rf : ∀ j, W.frozen? ⟨w.heap.size, j, none⟩ = false := fun j => by rw [hW]; simp [go_sem]
  subst hW
  clear hq hbW ka kb h1 h2
  go_enter Tryz.func115, Tryz.ntmps115
  go_wp2_with fail
  generalize w.alloc (.cells #[.int .i64 0, .int .i64 0, .int .i64 0, .int .i64 0, .int .i64 0, .string ⟨#[]⟩, .slice none 0 0] 100) = W at a0 a1 a2 a6 b0 b1 b2 r0 r1 r2 r3 r4 r5 r6 rf HBW ⊢
  go_region_held3 (fun u => u.cell? ⟨ga, oa + 1, none⟩ = some (.int .i64 a.a) ∧ u.cell? ⟨ga, oa + 2, none⟩ = some (.int .i64 a.b)) (go_keep) ((go_at_call 155; refine (HH.out _).mono ?_; rintro e w' ⟨rfl, hw'⟩; replace hw' := hw'.symm; subst hw'))
  all_goals
    go_wp2
    refine bodyPost_ret (v := .tuple #[.agg #[.int .i64 14, .int .i64 a.a, .int .i64 a.b, .int .i64 0, .int .i64 0, .string ⟨#[]⟩, .slice none 0 0], .bool q]) (by simp [results, Tryz.results115, go_sem, r0, r1, r2, r3, r4, r5, r6]) rfl ⟨opK 14 a.a a.b 0 0 [], none, 0, ?_, ?_, ?_⟩
    · rw [HT.out]; cases q <;> rfl
    · intro hne
      rw [HT.out] at hne ⊢
      cases q
      · exact absurd rfl hne
      · exact ⟨rfl, .inr ⟨rfl, rfl, rfl⟩⟩
    · refine Below.drew ?_
      iterate 7 (refine Below.setCell ?_ (by simp) _)
      exact HBW.out
set_option maxRecDepth 100000 in
set_option maxHeartbeats 2000000 in
theorem l11Two_15 (a b : Opr) (tb : Int) (ga oa gb ob cd : Nat) (ad : Option Addr) (w : World) (h1 : 0 ≤ tb) (h2 : tb ≤ 15) (ka : a.kind = 2) (kb : b.kind = 2) (a0 : w.cell? ⟨ga, oa, none⟩ = some (.int .i64 a.kind)) (a1 : w.cell? ⟨ga, oa + 1, none⟩ = some (.int .i64 a.a)) (a2 : w.cell? ⟨ga, oa + 2, none⟩ = some (.int .i64 a.b)) (a6 : w.cell? ⟨ga, oa + 6, none⟩ = some (.slice ad a.data.length cd)) (b0 : w.cell? ⟨gb, ob, none⟩ = some (.int .i64 b.kind)) (b1 : w.cell? ⟨gb, ob + 1, none⟩ = some (.int .i64 b.a)) (b2 : w.cell? ⟨gb, ob + 2, none⟩ = some (.int .i64 b.b)) :
    Calls Tryz.prog 115 #[.pointer (some ⟨ga, oa, none⟩), .pointer (some ⟨gb, ob, none⟩), .int .i64 tb] w fun e w' => AnsTw a b tb (.slice ad a.data.length cd) w e w' := by
  have HH : Hid (∀ u, Calls Tryz.prog 155 #[.int .i64 tb, .int .i64 4] u fun e w' => e = .returned (.bool (bitT tb 4)) ∧ w' = u) := fun u => l11Has_any tb 4 u h1 h2 (by simp)
  obtain ⟨q, hq⟩ : ∃ q, q = bitT tb 4 := ⟨_, rfl⟩
  rw [← hq] at HH
  have HT : Hid (twoK tb a.kind b.kind = if q then 15 else 0) := by show _ = _; unfold twoK; rw [ka, kb, hq]; simp
  rw [ka] at a0
  rw [kb] at b0
  obtain ⟨W, hW⟩ : ∃ W, W = w.alloc (.cells #[.int .i64 0, .int .i64 0, .int .i64 0, .int .i64 0, .int .i64 0, .string ⟨#[]⟩, .slice none 0 0] 100) := ⟨_, rfl⟩
  have hbW : Below w.heap.size w W := by rw [hW]; exact bnewK _ _
  have HBW : Hid (Below w.heap.size w W) := hbW
  have na : ga ≠ w.heap.size := by have := lt_of_cell a0; exact Nat.ne_of_lt this
  have nb : gb ≠ w.heap.size := by have := lt_of_cell b0; exact Nat.ne_of_lt this
  have na' : w.heap.size ≠ ga := na.symm
  have nb' : w.heap.size ≠ gb := nb.symm
  replace a0 := cell_keep hbW a0
  replace a1 := cell_keep hbW a1
  replace a2 := cell_keep hbW a2
  replace a6 := cell_keep hbW a6
  replace b0 := cell_keep hbW b0
  replace b1 := cell_keep hbW b1
  replace b2 := cell_keep hbW b2
  have r0 : W.cell? ⟨w.heap.size, 0, none⟩ = some (.int .i64 0) := by rw [hW]; simp [go_sem]
  have r1 : W.cell? ⟨w.heap.size, 1, none⟩ = some (.int .i64 0) := by rw [hW]; simp [go_sem]
  have r2 : W.cell? ⟨w.heap.size, 2, none⟩ = some (.int .i64 0) := by rw [hW]; simp [go_sem]
  have r3 : W.cell? ⟨w.heap.size, 3, none⟩ = some (.int .i64 0) := by rw [hW]; simp [go_sem]
  have r4 : W.cell? ⟨w.heap.size, 4, none⟩ = some (.int .i64 0) := by rw [hW]; simp [go_sem]
  have r5 : W.cell? ⟨w.heap.size, 5, none⟩ = some (.string ⟨#[]⟩) := by rw [hW]; simp [go_sem]
  have r6 : W.cell? ⟨w.heap.size, 6, none⟩ = some (.slice none 0 0) := by rw [hW]; simp [go_sem]
  have rf : ∀ j, W.frozen? ⟨w.heap.size, j, none⟩ = false := fun j => by rw [hW]; simp [go_sem]
  subst hW
  clear hq hbW ka kb h1 h2
  go_enter Tryz.func115, Tryz.ntmps115
  go_wp2_with fail
  generalize w.alloc (.cells #[.int .i64 0, .int .i64 0, .int .i64 0, .int .i64 0, .int .i64 0, .string ⟨#[]⟩, .slice none 0 0] 100) = W at a0 a1 a2 a6 b0 b1 b2 r0 r1 r2 r3 r4 r5 r6 rf HBW ⊢
  go_region_held3 (fun u => u.cell? ⟨ga, oa + 1, none⟩ = some (.int .i64 a.a) ∧ u.cell? ⟨ga, oa + 2, none⟩ = some (.int .i64 a.b) ∧ u.cell? ⟨gb, ob + 1, none⟩ = some (.int .i64 b.a) ∧ u.cell? ⟨gb, ob + 2, none⟩ = some (.int .i64 b.b)) (go_keep) ((go_at_call 155; refine (HH.out _).mono ?_; rintro e w' ⟨rfl, hw'⟩; replace hw' := hw'.symm; subst hw'))
  all_goals
    go_wp2
    refine bodyPost_ret (v := .tuple #[.agg #[.int .i64 15, .int .i64 a.a, .int .i64 a.b, .int .i64 b.a, .int .i64 b.b, .string ⟨#[]⟩, .slice none 0 0], .bool q]) (by simp [results, Tryz.results115, go_sem, r0, r1, r2, r3, r4, r5, r6]) rfl ⟨opK 15 a.a a.b b.a b.b [], none, 0, ?_, ?_, ?_⟩
    · rw [HT.out]; cases q <;> rfl
    · intro hne
      rw [HT.out] at hne ⊢
      cases q
      · exact absurd rfl hne
      · exact ⟨rfl, .inr ⟨rfl, rfl, rfl⟩⟩
    · refine Below.drew ?_
      iterate 7 (refine Below.setCell ?_ (by simp) _)
      exact HBW.out
set_option maxRecDepth 100000 in
set_option maxHeartbeats 2000000 in
theorem l11Two_16 (a b : Opr) (tb : Int) (ga oa gb ob cd : Nat) (ad : Option Addr) (w : World) (h1 : 0 ≤ tb) (h2 : tb ≤ 15) (ka : a.kind = 2) (kb : b.kind = 6) (a0 : w.cell? ⟨ga, oa, none⟩ = some (.int .i64 a.kind)) (a1 : w.cell? ⟨ga, oa + 1, none⟩ = some (.int .i64 a.a)) (a2 : w.cell? ⟨ga, oa + 2, none⟩ = some (.int .i64 a.b)) (a6 : w.cell? ⟨ga, oa + 6, none⟩ = some (.slice ad a.data.length cd)) (b0 : w.cell? ⟨gb, ob, none⟩ = some (.int .i64 b.kind)) (b1 : w.cell? ⟨gb, ob + 1, none⟩ = some (.int .i64 b.a)) (b2 : w.cell? ⟨gb, ob + 2, none⟩ = some (.int .i64 b.b)) :
    Calls Tryz.prog 115 #[.pointer (some ⟨ga, oa, none⟩), .pointer (some ⟨gb, ob, none⟩), .int .i64 tb] w fun e w' => AnsTw a b tb (.slice ad a.data.length cd) w e w' := by
  have HH : Hid (∀ u, Calls Tryz.prog 155 #[.int .i64 tb, .int .i64 8] u fun e w' => e = .returned (.bool (bitT tb 8)) ∧ w' = u) := fun u => l11Has_any tb 8 u h1 h2 (by simp)
  obtain ⟨q, hq⟩ : ∃ q, q = bitT tb 8 := ⟨_, rfl⟩
  rw [← hq] at HH
  have HT : Hid (twoK tb a.kind b.kind = if q then 16 else 0) := by show _ = _; unfold twoK; rw [ka, kb, hq]; simp
  rw [ka] at a0
  rw [kb] at b0
  obtain ⟨W, hW⟩ : ∃ W, W = w.alloc (.cells #[.int .i64 0, .int .i64 0, .int .i64 0, .int .i64 0, .int .i64 0, .string ⟨#[]⟩, .slice none 0 0] 100) := ⟨_, rfl⟩
  have hbW : Below w.heap.size w W := by rw [hW]; exact bnewK _ _
  have HBW : Hid (Below w.heap.size w W) := hbW
  have na : ga ≠ w.heap.size := by have := lt_of_cell a0; exact Nat.ne_of_lt this
  have nb : gb ≠ w.heap.size := by have := lt_of_cell b0; exact Nat.ne_of_lt this
  have na' : w.heap.size ≠ ga := na.symm
  have nb' : w.heap.size ≠ gb := nb.symm
  replace a0 := cell_keep hbW a0
  replace a1 := cell_keep hbW a1
  replace a2 := cell_keep hbW a2
  replace a6 := cell_keep hbW a6
  replace b0 := cell_keep hbW b0
  replace b1 := cell_keep hbW b1
  replace b2 := cell_keep hbW b2
  have r0 : W.cell? ⟨w.heap.size, 0, none⟩ = some (.int .i64 0) := by rw [hW]; simp [go_sem]
  have r1 : W.cell? ⟨w.heap.size, 1, none⟩ = some (.int .i64 0) := by rw [hW]; simp [go_sem]
  have r2 : W.cell? ⟨w.heap.size, 2, none⟩ = some (.int .i64 0) := by rw [hW]; simp [go_sem]
  have r3 : W.cell? ⟨w.heap.size, 3, none⟩ = some (.int .i64 0) := by rw [hW]; simp [go_sem]
  have r4 : W.cell? ⟨w.heap.size, 4, none⟩ = some (.int .i64 0) := by rw [hW]; simp [go_sem]
  have r5 : W.cell? ⟨w.heap.size, 5, none⟩ = some (.string ⟨#[]⟩) := by rw [hW]; simp [go_sem]
  have r6 : W.cell? ⟨w.heap.size, 6, none⟩ = some (.slice none 0 0) := by rw [hW]; simp [go_sem]
  have rf : ∀ j, W.frozen? ⟨w.heap.size, j, none⟩ = false := fun j => by rw [hW]; simp [go_sem]
  subst hW
  clear hq hbW ka kb h1 h2
  go_enter Tryz.func115, Tryz.ntmps115
  go_wp2_with fail
  generalize w.alloc (.cells #[.int .i64 0, .int .i64 0, .int .i64 0, .int .i64 0, .int .i64 0, .string ⟨#[]⟩, .slice none 0 0] 100) = W at a0 a1 a2 a6 b0 b1 b2 r0 r1 r2 r3 r4 r5 r6 rf HBW ⊢
  go_region_held3 (fun u => u.cell? ⟨ga, oa + 1, none⟩ = some (.int .i64 a.a) ∧ u.cell? ⟨ga, oa + 2, none⟩ = some (.int .i64 a.b) ∧ u.cell? ⟨gb, ob + 1, none⟩ = some (.int .i64 b.a)) (go_keep) ((go_at_call 155; refine (HH.out _).mono ?_; rintro e w' ⟨rfl, hw'⟩; replace hw' := hw'.symm; subst hw'))
  all_goals
    go_wp2
    refine bodyPost_ret (v := .tuple #[.agg #[.int .i64 16, .int .i64 a.a, .int .i64 a.b, .int .i64 b.a, .int .i64 0, .string ⟨#[]⟩, .slice none 0 0], .bool q]) (by simp [results, Tryz.results115, go_sem, r0, r1, r2, r3, r4, r5, r6]) rfl ⟨opK 16 a.a a.b b.a 0 [], none, 0, ?_, ?_, ?_⟩
    · rw [HT.out]; cases q <;> rfl
    · intro hne
      rw [HT.out] at hne ⊢
      cases q
      · exact absurd rfl hne
      · exact ⟨rfl, .inr ⟨rfl, rfl, rfl⟩⟩
    · refine Below.drew ?_
      iterate 7 (refine Below.setCell ?_ (by simp) _)
      exact HBW.out
set_option maxRecDepth 100000 in
set_option maxHeartbeats 2000000 in
theorem l11Two_n1 (a b : Opr) (tb : Int) (ga oa gb ob cd : Nat) (ad : Option Addr) (w : World) (ka : a.kind = 1) (kb : b.kind ≠ 12) (hT : twoK tb a.kind b.kind = 0) (a0 : w.cell? ⟨ga, oa, none⟩ = some (.int .i64 a.kind)) (b0 : w.cell? ⟨gb, ob, none⟩ = some (.int .i64 b.kind)) :
    Calls Tryz.prog 115 #[.pointer (some ⟨ga, oa, none⟩), .pointer (some ⟨gb, ob, none⟩), .int .i64 tb] w fun e w' => AnsTw a b tb (.slice ad a.data.length cd) w e w' := by
  have HT : Hid (twoK tb a.kind b.kind = 0) := hT
  obtain ⟨W, hW⟩ : ∃ W, W = w.alloc (.cells #[.int .i64 0, .int .i64 0, .int .i64 0, .int .i64 0, .int .i64 0, .string ⟨#[]⟩, .slice none 0 0] 100) := ⟨_, rfl⟩
  have hbW : Below w.heap.size w W := by rw [hW]; exact bnewK _ _
  have HBW : Hid (Below w.heap.size w W) := hbW
  replace a0 := cell_keep hbW a0
  replace b0 := cell_keep hbW b0
  have e1 : (b.kind == 12) = false := by rw [beq_eq_false_iff_ne]; exact kb
  rw [ka] at a0
  have r0 : W.cell? ⟨w.heap.size, 0, none⟩ = some (.int .i64 0) := by rw [hW]; simp [go_sem]
  have r1 : W.cell? ⟨w.heap.size, 1, none⟩ = some (.int .i64 0) := by rw [hW]; simp [go_sem]
  have r2 : W.cell? ⟨w.heap.size, 2, none⟩ = some (.int .i64 0) := by rw [hW]; simp [go_sem]
  have r3 : W.cell? ⟨w.heap.size, 3, none⟩ = some (.int .i64 0) := by rw [hW]; simp [go_sem]
  have r4 : W.cell? ⟨w.heap.size, 4, none⟩ = some (.int .i64 0) := by rw [hW]; simp [go_sem]
  have r5 : W.cell? ⟨w.heap.size, 5, none⟩ = some (.string ⟨#[]⟩) := by rw [hW]; simp [go_sem]
  have r6 : W.cell? ⟨w.heap.size, 6, none⟩ = some (.slice none 0 0) := by rw [hW]; simp [go_sem]
  have rf : ∀ j, W.frozen? ⟨w.heap.size, j, none⟩ = false := fun j => by rw [hW]; simp [go_sem]
  subst hW
  clear hbW ka kb hT
  go_enter Tryz.func115, Tryz.ntmps115
  go_wp2
  refine bodyPost_ret (v := .tuple #[.agg #[.int .i64 0, .int .i64 0, .int .i64 0, .int .i64 0, .int .i64 0, .string ⟨#[]⟩, .slice none 0 0], .bool false]) (by simp [results, Tryz.results115, go_sem]) rfl ⟨opK 0 0 0 0 0 [], none, 0, ?_, ?_, ?_⟩
  · rw [HT.out]; rfl
  · intro hne
    exact absurd HT.out hne
  · first | with_reducible exact HBW.out | (iterate 7 (refine Below.setCell ?_ (Nat.le_refl _) _); exact HBW.out)
set_option maxRecDepth 100000 in
set_option maxHeartbeats 2000000 in
theorem l11Two_n2 (a b : Opr) (tb : Int) (ga oa gb ob cd : Nat) (ad : Option Addr) (w : World) (ka : a.kind = 2) (kb : b.kind ≠ 12) (kc : b.kind ≠ 2) (kd : b.kind ≠ 6) (hT : twoK tb a.kind b.kind = 0) (a0 : w.cell? ⟨ga, oa, none⟩ = some (.int .i64 a.kind)) (b0 : w.cell? ⟨gb, ob, none⟩ = some (.int .i64 b.kind)) :
    Calls Tryz.prog 115 #[.pointer (some ⟨ga, oa, none⟩), .pointer (some ⟨gb, ob, none⟩), .int .i64 tb] w fun e w' => AnsTw a b tb (.slice ad a.data.length cd) w e w' := by
  have HT : Hid (twoK tb a.kind b.kind = 0) := hT
  obtain ⟨W, hW⟩ : ∃ W, W = w.alloc (.cells #[.int .i64 0, .int .i64 0, .int .i64 0, .int .i64 0, .int .i64 0, .string ⟨#[]⟩, .slice none 0 0] 100) := ⟨_, rfl⟩
  have hbW : Below w.heap.size w W := by rw [hW]; exact bnewK _ _
  have HBW : Hid (Below w.heap.size w W) := hbW
  replace a0 := cell_keep hbW a0
  replace b0 := cell_keep hbW b0
  have e1 : (b.kind == 12) = false := by rw [beq_eq_false_iff_ne]; exact kb
  have e2 : (b.kind == 2) = false := by rw [beq_eq_false_iff_ne]; exact kc
  have e3 : (b.kind == 6) = false := by rw [beq_eq_false_iff_ne]; exact kd
  rw [ka] at a0
  clear kc kd
  have r0 : W.cell? ⟨w.heap.size, 0, none⟩ = some (.int .i64 0) := by rw [hW]; simp [go_sem]
  have r1 : W.cell? ⟨w.heap.size, 1, none⟩ = some (.int .i64 0) := by rw [hW]; simp [go_sem]
  have r2 : W.cell? ⟨w.heap.size, 2, none⟩ = some (.int .i64 0) := by rw [hW]; simp [go_sem]
  have r3 : W.cell? ⟨w.heap.size, 3, none⟩ = some (.int .i64 0) := by rw [hW]; simp [go_sem]
  have r4 : W.cell? ⟨w.heap.size, 4, none⟩ = some (.int .i64 0) := by rw [hW]; simp [go_sem]
  have r5 : W.cell? ⟨w.heap.size, 5, none⟩ = some (.string ⟨#[]⟩) := by rw [hW]; simp [go_sem]
  have r6 : W.cell? ⟨w.heap.size, 6, none⟩ = some (.slice none 0 0) := by rw [hW]; simp [go_sem]
  have rf : ∀ j, W.frozen? ⟨w.heap.size, j, none⟩ = false := fun j => by rw [hW]; simp [go_sem]
  subst hW
  clear hbW ka kb hT
  go_enter Tryz.func115, Tryz.ntmps115
  go_wp2
  refine bodyPost_ret (v := .tuple #[.agg #[.int .i64 0, .int .i64 0, .int .i64 0, .int .i64 0, .int .i64 0, .string ⟨#[]⟩, .slice none 0 0], .bool false]) (by simp [results, Tryz.results115, go_sem]) rfl ⟨opK 0 0 0 0 0 [], none, 0, ?_, ?_, ?_⟩
  · rw [HT.out]; rfl
  · intro hne
    exact absurd HT.out hne
  · first | with_reducible exact HBW.out | (iterate 7 (refine Below.setCell ?_ (Nat.le_refl _) _); exact HBW.out)
set_option maxRecDepth 100000 in
set_option maxHeartbeats 2000000 in
theorem l11Two_n3 (a b : Opr) (tb : Int) (ga oa gb ob cd : Nat) (ad : Option Addr) (w : World) (ka : a.kind ≠ 1) (kb : a.kind ≠ 2) (hT : twoK tb a.kind b.kind = 0) (a0 : w.cell? ⟨ga, oa, none⟩ = some (.int .i64 a.kind)) (b0 : w.cell? ⟨gb, ob, none⟩ = some (.int .i64 b.kind)) :
    Calls Tryz.prog 115 #[.pointer (some ⟨ga, oa, none⟩), .pointer (some ⟨gb, ob, none⟩), .int .i64 tb] w fun e w' => AnsTw a b tb (.slice ad a.data.length cd) w e w' := by
  have HT : Hid (twoK tb a.kind b.kind = 0) := hT
  obtain ⟨W, hW⟩ : ∃ W, W = w.alloc (.cells #[.int .i64 0, .int .i64 0, .int .i64 0, .int .i64 0, .int .i64 0, .string ⟨#[]⟩, .slice none 0 0] 100) := ⟨_, rfl⟩
  have hbW : Below w.heap.size w W := by rw [hW]; exact bnewK _ _
  have HBW : Hid (Below w.heap.size w W) := hbW
  replace a0 := cell_keep hbW a0
  replace b0 := cell_keep hbW b0
  have e1 : (a.kind == 1) = false := by rw [beq_eq_false_iff_ne]; exact ka
  have e2 : (a.kind == 2) = false := by rw [beq_eq_false_iff_ne]; exact kb
  have r0 : W.cell? ⟨w.heap.size, 0, none⟩ = some (.int .i64 0) := by rw [hW]; simp [go_sem]
  have r1 : W.cell? ⟨w.heap.size, 1, none⟩ = some (.int .i64 0) := by rw [hW]; simp [go_sem]
  have r2 : W.cell? ⟨w.heap.size, 2, none⟩ = some (.int .i64 0) := by rw [hW]; simp [go_sem]
  have r3 : W.cell? ⟨w.heap.size, 3, none⟩ = some (.int .i64 0) := by rw [hW]; simp [go_sem]
  have r4 : W.cell? ⟨w.heap.size, 4, none⟩ = some (.int .i64 0) := by rw [hW]; simp [go_sem]
  have r5 : W.cell? ⟨w.heap.size, 5, none⟩ = some (.string ⟨#[]⟩) := by rw [hW]; simp [go_sem]
  have r6 : W.cell? ⟨w.heap.size, 6, none⟩ = some (.slice none 0 0) := by rw [hW]; simp [go_sem]
  have rf : ∀ j, W.frozen? ⟨w.heap.size, j, none⟩ = false := fun j => by rw [hW]; simp [go_sem]
  subst hW
  clear hbW ka kb hT
  go_enter Tryz.func115, Tryz.ntmps115
  go_wp2
  refine bodyPost_ret (v := .tuple #[.agg #[.int .i64 0, .int .i64 0, .int .i64 0, .int .i64 0, .int .i64 0, .string ⟨#[]⟩, .slice none 0 0], .bool false]) (by simp [results, Tryz.results115, go_sem]) rfl ⟨opK 0 0 0 0 0 [], none, 0, ?_, ?_, ?_⟩
  · rw [HT.out]; rfl
  · intro hne
    exact absurd HT.out hne
  · first | with_reducible exact HBW.out | (iterate 7 (refine Below.setCell ?_ (Nat.le_refl _) _); exact HBW.out)
theorem l11Two_any (a b : Opr) (tb : Int) (ga oa gb ob cd : Nat) (ad : Option Addr) (w : World) (h1 : 0 ≤ tb) (h2 : tb ≤ 15) (a0 : w.cell? ⟨ga, oa, none⟩ = some (.int .i64 a.kind)) (a1 : w.cell? ⟨ga, oa + 1, none⟩ = some (.int .i64 a.a)) (a2 : w.cell? ⟨ga, oa + 2, none⟩ = some (.int .i64 a.b)) (a6 : w.cell? ⟨ga, oa + 6, none⟩ = some (.slice ad a.data.length cd)) (b0 : w.cell? ⟨gb, ob, none⟩ = some (.int .i64 b.kind)) (b1 : w.cell? ⟨gb, ob + 1, none⟩ = some (.int .i64 b.a)) (b2 : w.cell? ⟨gb, ob + 2, none⟩ = some (.int .i64 b.b)) :
    Calls Tryz.prog 115 #[.pointer (some ⟨ga, oa, none⟩), .pointer (some ⟨gb, ob, none⟩), .int .i64 tb] w fun e w' => AnsTw a b tb (.slice ad a.data.length cd) w e w' := by
  by_cases k1 : a.kind = 1
  · by_cases k2 : b.kind = 12
    · exact l11Two_13 a b tb ga oa gb ob cd ad w h1 h2 k1 k2 a0 a1 a2 a6 b0 b1 b2
    · exact l11Two_n1 a b tb ga oa gb ob cd ad w k1 k2 (by unfold twoK; rw [if_neg (by omega), if_neg (by omega), if_neg (by omega), if_neg (by omega)]) a0 b0
  · by_cases k3 : a.kind = 2
    · by_cases k2 : b.kind = 12
      · exact l11Two_14 a b tb ga oa gb ob cd ad w h1 h2 k3 k2 a0 a1 a2 a6 b0 b1 b2
      · by_cases k4 : b.kind = 2
        · exact l11Two_15 a b tb ga oa gb ob cd ad w h1 h2 k3 k4 a0 a1 a2 a6 b0 b1 b2
        · by_cases k5 : b.kind = 6
          · exact l11Two_16 a b tb ga oa gb ob cd ad w h1 h2 k3 k5 a0 a1 a2 a6 b0 b1 b2
          · exact l11Two_n2 a b tb ga oa gb ob cd ad w k3 k2 k4 k5 (by unfold twoK; rw [if_neg (by omega), if_neg (by omega), if_neg (by omega), if_neg (by omega)]) a0 b0
    · exact l11Two_n3 a b tb ga oa gb ob cd ad w k1 k3 (by unfold twoK; rw [if_neg (by omega), if_neg (by omega), if_neg (by omega), if_neg (by omega)]) a0 b0
end Go.Proofs.YtoafolefecddmaaGreatDoor
