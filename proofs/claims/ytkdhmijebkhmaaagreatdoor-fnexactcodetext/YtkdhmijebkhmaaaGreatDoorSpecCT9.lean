/-
  The model's CodeText: the text of code; nothing that was there is turned.
-/
import Derived.Test.YtkdhmijebkhmaaaGreatDoorSpecText9
import Derived.Test.YtkdhmijebkhmaaaGreatDoorCtN
import Derived.Test.YtkdhmijebkhmaaaGreatDoorCtJ
namespace Go.Proofs.YtkdhmijebkhmaaaGreatDoor
open Go.RowKit Go.Extern.Stop Go.Stop Go.Extern Num Go.Lib

theorem blkOk {b : Blk} (h : blkFault b = 0) : (0 ≤ b.args ∧ b.args ≤ 3) ∧ b.ops.length ≤ 200 ∧ ∀ t ∈ b.ops, opFault t = 0 := by
  unfold blkFault at h
  by_cases e1 : (decide (b.args < 0) || decide (3 < b.args)) = true
  · rw [if_pos e1] at h; cases h
  rw [if_neg e1] at h
  by_cases e2 : 200 < b.ops.length
  · rw [if_pos e2] at h; cases h
  rw [if_neg e2] at h
  simp only [Bool.or_eq_true, decide_eq_true_eq] at e1
  exact ⟨by omega, by omega, fun t ht => firstC_zero b.ops h t ht⟩
theorem codeOk {l : List Blk} (h : codeFault9 l = 0) : l.length ≤ 60 ∧ ∀ b ∈ l, blkFault b = 0 := by
  refine ⟨fault_60 h, fun b hb => ?_⟩
  unfold codeFault9 at h
  by_cases e : 60 < l.length
  · rw [if_pos e] at h; cases h
  · rw [if_neg e] at h; exact firstC_zero l h b hb
theorem numsTo_len (t : Opr) (hb : ∀ x ∈ numsL t, 0 ≤ x ∧ x ≤ 999) : ∀ n, n ≤ 4 → (numsTo t n).length ≤ 4 * n
  | 0, _ => by simp [numsTo]
  | n + 1, h => by
    have ih := numsTo_len t hb n (by omega)
    have hj : n < (numsL t).length := by simp [numsL]; omega
    have hx := hb _ (List.getElem_mem hj)
    have hl := itoa_len3 _ hx.1 hx.2
    have e : numsTo t (n + 1) = numsTo t n ++ (32 :: itoa (numsL t)[n]) := by
      unfold numsTo
      rw [List.take_add_one, List.getElem?_eq_getElem hj, List.flatMap_append]; simp
    rw [e, List.length_append, List.length_cons]
    omega
theorem opT_len {t : Opr} (h : opFault t = 0) : (opT t).length ≤ 1700 := by
  obtain ⟨hk, hnu, hnm, hda⟩ := opOk h
  have h1 : (wordO t.kind).data.toList.length ≤ 10 := by have := word_size t.kind; rw [Array.length_toList]; exact this
  have h2 : (nameT t).length ≤ 13 := by
    unfold nameT
    split
    · rename_i hn
      have := sym_size (hnm hn)
      rw [List.length_cons, Array.length_toList]
      have e : t.name.data.size = t.name.size := rfl
      omega
    · simp
  have h3 : (dataT t).length ≤ 1601 := by
    unfold dataT
    split
    · rename_i hc
      have F := fine_of (hda hc)
      have := write_small F t.data.length 0 F.pos
      rw [List.length_cons]; omega
    · simp
  have h4 := numsTo_len t hnu (numsO t.kind) (numsO_le _)
  have h5 := numsO_le t.kind
  unfold opT
  simp only [List.length_append]
  omega
/-- What CodeText tells. -/
def codeTC (l : List Blk) : Int := if codeFault9 l = 0 then (if 6000 < (codeT l).length then 2 else 0) else codeFault9 l
def codeTT (l : List Blk) : ByteArray := if codeFault9 l = 0 ∧ (codeT l).length ≤ 6000 then ⟨(codeT l).toArray⟩ else ⟨#[]⟩
/-- What is written so far: so much of the text, or more than is allowed. -/
def StT (l : List Blk) (Y : ByteArray) (M : List UInt8) : Prop := Y = ⟨M.toArray⟩ ∨ (6000 < Y.size ∧ Y.size ≤ (codeT l).length)
theorem size_mk (M : List UInt8) : (⟨M.toArray⟩ : ByteArray).size = M.length := by show M.toArray.size = _; simp
set_option maxRecDepth 100000 in
set_option maxHeartbeats 1500000 in
theorem specCT_any (g c B : Nat) (l : List Blk) (w : World) (hl : l.length ≤ 1048576) (hz : ∀ (k : Nat) (h : k < l.length), l[k].small) (hB : RowBl w B g l) :
    Calls Tryz.prog 7 #[.slice (some ⟨g, 0, none⟩) l.length c] w fun e w' => e = .returned (.agg #[.int .i64 (codeTC l), .string (codeTT l)]) ∧ Below w.heap.size w w' := by
  obtain ⟨W, hW⟩ : ∃ W, W = w.alloc (.cells #[.int .i64 0, .string ⟨#[]⟩] 25) := ⟨_, rfl⟩
  have HW : Hid (W = w.alloc (.cells #[.int .i64 0, .string ⟨#[]⟩] 25)) := hW
  have hb0 : Below w.heap.size w W := by rw [hW]; exact (Below.refl _ _).alloc (Nat.le_refl _) _
  have HB0 : Hid (Below w.heap.size w W) := hb0
  have HF : Hid (Calls Tryz.prog 24 #[.slice (some ⟨g, 0, none⟩) l.length c] W fun e w' => e = .returned (.int .i64 (codeFault9 l)) ∧ Below W.heap.size W w') := l9Fault_any g c B l W hl hz (hB.below hb0)
  have r0 : W.cell? ⟨w.heap.size, 0, none⟩ = some (.int .i64 0) := by rw [hW]; simp [go_sem]
  have r1 : W.cell? ⟨w.heap.size, 1, none⟩ = some (.string ⟨#[]⟩) := by rw [hW]; simp [go_sem]
  have rf : ∀ j, W.frozen? ⟨w.heap.size, j, none⟩ = false := fun j => by rw [hW]; simp [go_sem]
  have rl : w.heap.size < W.heap.size := by rw [hW]; simp
  have HQ : Hid (∀ u, Below W.heap.size W u → u.cell? ⟨w.heap.size, 0, none⟩ = some (.int .i64 0) ∧ u.cell? ⟨w.heap.size, 1, none⟩ = some (.string ⟨#[]⟩) ∧ (∀ j, u.frozen? ⟨w.heap.size, j, none⟩ = false) ∧ w.heap.size < u.heap.size) := fun u hu => ⟨cell_keep hu r0, cell_keep hu r1, fun j => by rw [(bcell hu).2 _ _ rl]; exact rf j, Nat.lt_of_lt_of_le rl hu.size⟩
  have HB : Hid (RowBl W B g l) := hB.below hb0
  obtain ⟨R, hR⟩ : ∃ R, R = codeFault9 l := ⟨_, rfl⟩
  obtain ⟨CC, hCC⟩ : ∃ CC, CC = codeTC l := ⟨_, rfl⟩
  obtain ⟨TT, hTT⟩ : ∃ TT, TT = codeTT l := ⟨_, rfl⟩
  rw [← hR] at HF
  rw [← hCC, ← hTT]
  have HR : Hid (R = codeFault9 l) := hR
  have HCC : Hid (CC = codeTC l) := hCC
  have HTT : Hid (TT = codeTT l) := hTT
  clear hW hB hz hR hCC hTT r0 r1 rf rl hb0
  go_enter Tryz.func7, Tryz.ntmps7
  go_wp2_with fail
  rw [← HW.out]
  refine HF.out.mono ?_
  rintro e w1 ⟨rfl, b1⟩
  have HB1 : Hid (Below W.heap.size W w1) := b1
  clear b1 HW HF
  by_cases hc : R = 0
  · subst hc
    have hf0 : codeFault9 l = 0 := HR.out.symm
    have hl60 := (codeOk hf0).1
    have HOK : Hid (∀ b ∈ l, blkFault b = 0) := (codeOk hf0).2
    have HBig : Hid (6000 < (codeT l).length → CC = 2 ∧ TT = ⟨#[]⟩) := fun hb => ⟨by rw [HCC.out]; unfold codeTC; rw [if_pos hf0, if_pos hb], by rw [HTT.out]; unfold codeTT; rw [if_neg (by omega)]⟩
    have HSm : Hid ((codeT l).length ≤ 6000 → CC = 0 ∧ TT = ⟨(codeT l).toArray⟩) := fun hb => ⟨by rw [HCC.out]; unfold codeTC; rw [if_pos hf0, if_neg (by omega)], by rw [HTT.out]; unfold codeTT; rw [if_pos ⟨hf0, hb⟩]⟩
    clear HCC HTT HR hf0
    go_wp2_with fail
    go_loopw [4, 5] (fun v i wr => ∃ (j : Nat) (Y : ByteArray), j ≤ l.length ∧ i = .int .i64 (j : Int) ∧ v = .string Y ∧ Y.size ≤ 7900 ∧ Hid (StT l Y (codeTo l j)) ∧ Hid (Below W.heap.size W wr)) (fun _ i _ => l.length - (RowKit.intOf i).toNat)
    case atStart => exact ⟨0, ⟨#[]⟩, Nat.zero_le _, rfl, rfl, by decide, .inl rfl, HB1.out⟩
    case round =>
      obtain ⟨j, Y, hj, rfl, rfl, hYs, HY, HBr⟩ := hrel
      have HFin : Hid (6000 < Y.size → 6000 < (codeT l).length) := fun h => by
        rcases HY.out with e | ⟨h1, h2⟩
        · rw [e, size_mk] at h
          obtain ⟨r, hr⟩ := codeTo_pre l l.length j hj
          unfold codeT
          rw [hr, List.length_append]; omega
        · omega
      by_cases hbig : 6000 < Y.size
      · have HB6 := HBig.out (HFin.out hbig)
        obtain ⟨rfl, rfl⟩ := HB6
        have hb1 : ¬ ((Y.size : Int) ≤ 6000) := by omega
        have hb2 : 6000 < (Y.size : Int) := by omega
        obtain ⟨q0, q1, qf, ql⟩ := HQ.out wr HBr.out
        have HBw : Hid (Below w.heap.size w wr) := HB0.out.trans (HBr.out.mono HB0.out.size)
        clear HFin HY HBig HSm hbig
        by_cases hlt : j < l.length
        all_goals
          go_wp2
          exact bodyPost_ret (v := .agg #[.int .i64 2, .string ⟨#[]⟩]) (by simp [results, Tryz.results7, go_sem, q0, q1]) rfl ⟨rfl, by repeat (first | refine Below.setCell ?_ (by simp) _ | exact HBw.out)⟩
      have hYe : Y = ⟨(codeTo l j).toArray⟩ := by
        rcases HY.out with e | ⟨h1, h2⟩
        · exact e
        · omega
      have HYe : Hid (Y = ⟨(codeTo l j).toArray⟩) := hYe
      clear hYe HY
      have hsm : (Y.size : Int) ≤ 6000 := by omega
      by_cases hlt : j < l.length
      · have hrb := HB.out.below HBr.out j hlt
        obtain ⟨b, hb⟩ : ∃ b, b = l[j]'hlt := ⟨_, rfl⟩
        have hbok := blkOk (HOK.out _ (List.getElem_mem hlt))
        have HCN : Hid (codeTo l (j + 1) = codeTo l j ++ (blkLine j b ++ opsTo b.ops b.ops.length)) := by rw [hb]; exact codeTo_next l j hlt
        have HCL : Hid (∀ k, k ≤ b.ops.length → (codeTo l j ++ (blkLine j b ++ opsTo b.ops k)).length ≤ (codeT l).length) := by rw [hb]; exact fun k hk => code_len l j hlt k hk
        rw [← hb] at hrb hbok
        obtain ⟨p0, gx, p1, ho⟩ := hrb
        obtain ⟨Di, hDi⟩ : ∃ Di : ByteArray, Di = ⟨(itoa (j : Int)).toArray⟩ := ⟨_, rfl⟩
        obtain ⟨Da, hDa⟩ : ∃ Da : ByteArray, Da = ⟨(itoa b.args).toArray⟩ := ⟨_, rfl⟩
        have sDi : Di.size ≤ 3 := by rw [hDi, size_mk]; exact itoa_nat_len j (by omega)
        have sDa : Da.size ≤ 3 := by rw [hDa, size_mk]; exact itoa_len3 _ (by omega) (by omega)
        have HDi : Hid (∀ p : BW wr, Calls Tryz.prog 25 #[.int .i64 (j : Int)] p.x fun e w' => e = .returned (.string Di) ∧ Below p.x.heap.size p.x w') := fun p => by rw [hDi, itoa_nonneg]; exact dig_nat j p.x (by omega)
        have HDa : Hid (∀ p : BW wr, Calls Tryz.prog 25 #[.int .i64 b.args] p.x fun e w' => e = .returned (.string Da) ∧ Below p.x.heap.size p.x w') := fun p => by
          obtain ⟨u, hu⟩ : ∃ u : Nat, b.args = (u : Int) := ⟨b.args.toNat, by omega⟩
          rw [hDa, hu, itoa_nonneg]; exact dig_nat u p.x (by omega)
        have k6 : (⟨#[98, 108, 111, 99, 107, 32]⟩ : ByteArray).size = 6 := rfl
        have k1 : (⟨#[32]⟩ : ByteArray).size = 1 := rfl
        have k2 : (⟨#[10]⟩ : ByteArray).size = 1 := rfl
        obtain ⟨X1, hX1⟩ : ∃ X1 : ByteArray, X1 = Y ++ ⟨#[98, 108, 111, 99, 107, 32]⟩ := ⟨_, rfl⟩
        have sX1 : X1.size = Y.size + (⟨#[98, 108, 111, 99, 107, 32]⟩ : ByteArray).size := by rw [hX1, ByteArray.size_append]
        have a1 := fun (w : World) => run_string_add_sum (P := Tryz.prog) w Y ⟨#[98, 108, 111, 99, 107, 32]⟩ (by omega)
        rw [← hX1] at a1
        obtain ⟨X2, hX2⟩ : ∃ X2 : ByteArray, X2 = X1 ++ Di := ⟨_, rfl⟩
        have sX2 : X2.size = X1.size + Di.size := by rw [hX2, ByteArray.size_append]
        have a2 := fun (w : World) => run_string_add_sum (P := Tryz.prog) w X1 Di (by omega)
        rw [← hX2] at a2
        obtain ⟨X3, hX3⟩ : ∃ X3 : ByteArray, X3 = X2 ++ ⟨#[32]⟩ := ⟨_, rfl⟩
        have sX3 : X3.size = X2.size + (⟨#[32]⟩ : ByteArray).size := by rw [hX3, ByteArray.size_append]
        have a3 := fun (w : World) => run_string_add_sum (P := Tryz.prog) w X2 ⟨#[32]⟩ (by omega)
        rw [← hX3] at a3
        obtain ⟨X4, hX4⟩ : ∃ X4 : ByteArray, X4 = X3 ++ Da := ⟨_, rfl⟩
        have sX4 : X4.size = X3.size + Da.size := by rw [hX4, ByteArray.size_append]
        have a4 := fun (w : World) => run_string_add_sum (P := Tryz.prog) w X3 Da (by omega)
        rw [← hX4] at a4
        obtain ⟨X5, hX5⟩ : ∃ X5 : ByteArray, X5 = X4 ++ ⟨#[10]⟩ := ⟨_, rfl⟩
        have sX5 : X5.size = X4.size + (⟨#[10]⟩ : ByteArray).size := by rw [hX5, ByteArray.size_append]
        have a5 := fun (w : World) => run_string_add_sum (P := Tryz.prog) w X4 ⟨#[10]⟩ (by omega)
        rw [← hX5] at a5
        have HX5 : Hid (X5 = ⟨(codeTo l j ++ (blkLine j b ++ opsTo b.ops 0)).toArray⟩ ∧ X5.size ≤ 6100) := by
          refine ⟨?_, by omega⟩
          rw [hX5, hX4, hX3, hX2, hX1, HYe.out, hDi, hDa]
          apply ByteArray.ext
          simp [blkLine, opsTo]
        have c0 : ∀ p : BW wr, p.x.cell? ⟨g, j * 2, none⟩ = some (.int .i64 b.args) := fun p => p.cell p0
        have hne := bw_some wr
        have HO : Hid (IsOp wr B gx b.ops.length b.ops) := ho
        have HP1 : Hid (wr.cell? ⟨g, j * 2 + 1, none⟩ = some (.slice (some ⟨gx, 0, none⟩) b.ops.length b.ops.length)) := p1
        have HBO : Hid (b.ops.length ≤ 200 ∧ ∀ t ∈ b.ops, opFault t = 0) := hbok.2
        have hol : b.ops.length ≤ 200 := hbok.2.1
        clear hX1 hX2 hX3 hX4 hX5 sX1 sX2 sX3 sX4 sX5 hDi hDa sDi sDa k6 k1 k2 hb hbok p0 p1 ho HYe
        go_wp2_with fail
        refine wp_region_below (by kernel_rfl) (by kernel_rfl) ?_
        repeat (go_big_quiet_step (fail))
        go_big_quiet_step ((go_at_call 25; exact calls_bw (HDi.out _)))
        repeat (go_big_quiet_step ((go_at_call 25; exact calls_bw (HDa.out _))))
        refine wpQuiet_nil ?_
        intro wq hw'
        obtain ⟨⟨_, bq⟩, rfl⟩ := hw'
        have HO2 : Hid (RowOp wq B gx b.ops) := (HO.out.below bq).row
        have HP2 : Hid (wq.cell? ⟨g, j * 2 + 1, none⟩ = some (.slice (some ⟨gx, 0, none⟩) b.ops.length b.ops.length)) := cell_keep bq HP1.out
        have HBq : Hid (Below W.heap.size W wq) := HBr.out.trans (bq.mono HBr.out.size)
        clear bq hne c0 a1 a2 a3 a4 a5 HO HP1 HDi HDa HBr HFin hbig hsm hYs
        go_wp2_with fail
        go_loopw [4, 6] (fun v i wr => ∃ (k : Nat) (Z : ByteArray), k ≤ b.ops.length ∧ i = .int .i64 (k : Int) ∧ v = .string Z ∧ Z.size ≤ 7900 ∧ Hid (StT l Z (codeTo l j ++ (blkLine j b ++ opsTo b.ops k))) ∧ Hid (Below wq.heap.size wq wr)) (fun _ i _ => b.ops.length - (RowKit.intOf i).toNat)
        case atStart => exact ⟨0, X5, Nat.zero_le _, rfl, rfl, by have := HX5.out.2; omega, .inl HX5.out.1, Below.refl _ _⟩
        case round =>
          obtain ⟨k, Z, hk, rfl, rfl, hZs, HZ, HBz⟩ := hrel
          have HBW : Hid (Below W.heap.size W wr) := HBq.out.trans (HBz.out.mono HBq.out.size)
          have s1 := cell_keep HBz.out HP2.out
          by_cases hbz : 6000 < Z.size
          · have HN : Hid (StT l Z (codeTo l (j + 1))) := by
              rcases HZ.out with e | h12
              · exact .inr ⟨hbz, by rw [e, size_mk]; exact HCL.out k hk⟩
              · exact .inr h12
            have hb1 : ¬ ((Z.size : Int) ≤ 6000) := by omega
            clear HZ
            by_cases hlk : k < b.ops.length
            all_goals
              go_wp2
              exact ⟨⟨j + 1, Z, by omega, by go_num, rfl, hZs, HN.out, HBW.out⟩, by simp [RowKit.intOf]; omega⟩
          have HZe : Hid (Z = ⟨(codeTo l j ++ (blkLine j b ++ opsTo b.ops k)).toArray⟩) := by
            rcases HZ.out with e | ⟨h1, h2⟩
            · exact e
            · omega
          have hsz : (Z.size : Int) ≤ 6000 := by omega
          clear HZ
          by_cases hlk : k < b.ops.length
          · obtain ⟨gy, hoy⟩ := (HO2.out.below HBz.out).at k hlk
            obtain ⟨t, ht⟩ : ∃ t, t = b.ops[k]'hlk := ⟨_, rfl⟩
            have hft := HBO.out.2 _ (List.getElem_mem hlk)
            have HON : Hid (opsTo b.ops (k + 1) = opsTo b.ops k ++ opLine k t) := by rw [ht]; exact opsTo_next b.ops k hlk
            rw [← ht] at hoy hft
            have htl := opT_len hft
            obtain ⟨Dk, hDk⟩ : ∃ Dk : ByteArray, Dk = ⟨(itoa (k : Int)).toArray⟩ := ⟨_, rfl⟩
            obtain ⟨Ot, hOt⟩ : ∃ Ot : ByteArray, Ot = ⟨(opT t).toArray⟩ := ⟨_, rfl⟩
            have sDk : Dk.size ≤ 3 := by rw [hDk, size_mk]; exact itoa_nat_len k (by omega)
            have sOt : Ot.size ≤ 1700 := by rw [hOt, size_mk]; exact htl
            have HDk : Hid (∀ p : BW wr, Calls Tryz.prog 25 #[.int .i64 (k : Int)] p.x fun e w' => e = .returned (.string Dk) ∧ Below p.x.heap.size p.x w') := fun p => by rw [hDk, itoa_nonneg]; exact dig_nat k p.x (by omega)
            have HOt : Hid (∀ p : BW wr, Calls Tryz.prog 26 #[.pointer (some ⟨gx, k * 7, none⟩)] p.x fun e w' => e = .returned (.string Ot) ∧ Below p.x.heap.size p.x w') := fun p => by rw [hOt]; exact l9Text_any t B gx (k * 7) gy p.x hft (hoy.below p.h)
            have k3 : (⟨#[58, 32]⟩ : ByteArray).size = 2 := rfl
            have k2 : (⟨#[10]⟩ : ByteArray).size = 1 := rfl
            obtain ⟨Z1, hZ1⟩ : ∃ Z1 : ByteArray, Z1 = Z ++ Dk := ⟨_, rfl⟩
            have sZ1 : Z1.size = Z.size + Dk.size := by rw [hZ1, ByteArray.size_append]
            have a1 := fun (w : World) => run_string_add_sum (P := Tryz.prog) w Z Dk (by omega)
            rw [← hZ1] at a1
            obtain ⟨Z2, hZ2⟩ : ∃ Z2 : ByteArray, Z2 = Z1 ++ ⟨#[58, 32]⟩ := ⟨_, rfl⟩
            have sZ2 : Z2.size = Z1.size + (⟨#[58, 32]⟩ : ByteArray).size := by rw [hZ2, ByteArray.size_append]
            have a2 := fun (w : World) => run_string_add_sum (P := Tryz.prog) w Z1 ⟨#[58, 32]⟩ (by omega)
            rw [← hZ2] at a2
            obtain ⟨Z3, hZ3⟩ : ∃ Z3 : ByteArray, Z3 = Z2 ++ Ot := ⟨_, rfl⟩
            have sZ3 : Z3.size = Z2.size + Ot.size := by rw [hZ3, ByteArray.size_append]
            have a3 := fun (w : World) => run_string_add_sum (P := Tryz.prog) w Z2 Ot (by omega)
            rw [← hZ3] at a3
            obtain ⟨Z4, hZ4⟩ : ∃ Z4 : ByteArray, Z4 = Z3 ++ ⟨#[10]⟩ := ⟨_, rfl⟩
            have sZ4 : Z4.size = Z3.size + (⟨#[10]⟩ : ByteArray).size := by rw [hZ4, ByteArray.size_append]
            have a4 := fun (w : World) => run_string_add_sum (P := Tryz.prog) w Z3 ⟨#[10]⟩ (by omega)
            rw [← hZ4] at a4
            have HZ4 : Hid (Z4 = ⟨(codeTo l j ++ (blkLine j b ++ opsTo b.ops (k + 1))).toArray⟩ ∧ Z4.size ≤ 7900) := by
              refine ⟨?_, by omega⟩
              rw [hZ4, hZ3, hZ2, hZ1, HZe.out, hDk, hOt, HON.out]
              apply ByteArray.ext
              simp [opLine]
            have c1 : ∀ p : BW wr, p.x.cell? ⟨g, j * 2 + 1, none⟩ = some (.slice (some ⟨gx, 0, none⟩) b.ops.length b.ops.length) := fun p => p.cell s1
            have hne := bw_some wr
            clear hZ1 hZ2 hZ3 hZ4 sZ1 sZ2 sZ3 sZ4 hDk hOt sDk sOt k3 k2 ht hft hoy htl HZe
            go_wp2_with fail
            refine wp_region_below (by kernel_rfl) (by kernel_rfl) ?_
            repeat (go_big_quiet_step (first | (go_at_call 25; exact calls_bw (HDk.out _)) | (go_at_call 26; exact calls_bw (HOt.out _))))
            refine wpQuiet_nil ?_
            intro wz hw'
            obtain ⟨⟨_, bz⟩, rfl⟩ := hw'
            have HBn : Hid (Below wq.heap.size wq wz) := HBz.out.trans (bz.mono HBz.out.size)
            clear bz hne c1 a1 a2 a3 a4 s1 HDk HOt
            go_wp2
            exact ⟨⟨k + 1, Z4, by omega, by go_num, rfl, HZ4.out.2, .inl HZ4.out.1, HBn.out⟩, by simp [RowKit.intOf]; omega⟩
          · have HN : Hid (StT l Z (codeTo l (j + 1))) := by
              have e : k = b.ops.length := by omega
              exact .inl (by rw [HZe.out, HCN.out, e])
            clear HZe
            go_wp2
            exact ⟨⟨j + 1, Z, by omega, by go_num, rfl, hZs, HN.out, HBW.out⟩, by simp [RowKit.intOf]; omega⟩
      · have HL : Hid (Y = ⟨(codeT l).toArray⟩) := by
          have e : j = l.length := by omega
          show _ = _
          rw [HYe.out, e]; rfl
        have HS6 := HSm.out (by have := HL.out; rw [this, size_mk] at hsm; omega)
        obtain ⟨rfl, hTy⟩ := HS6
        have HTy : Hid (TT = Y) := by show _ = _; rw [hTy, HL.out]
        have hb2 : ¬ (6000 < (Y.size : Int)) := by omega
        obtain ⟨q0, q1, qf, ql⟩ := HQ.out wr HBr.out
        have HBw : Hid (Below w.heap.size w wr) := HB0.out.trans (HBr.out.mono HB0.out.size)
        clear HFin HBig HSm hbig HL hTy HYe
        go_wp2
        exact bodyPost_ret (v := .agg #[.int .i64 0, .string Y]) (by simp [results, Tryz.results7, go_sem, q0, q1]) rfl ⟨by rw [HTy.out], by repeat (first | refine Below.setCell ?_ (by simp) _ | exact HBw.out)⟩
  · have hcn : (R != 0) = true := by rw [bne_iff_ne]; exact hc
    have HC2 : Hid (CC = R ∧ TT = ⟨#[]⟩) := ⟨by rw [HCC.out]; unfold codeTC; rw [if_neg (by rw [← HR.out]; exact hc), HR.out], by rw [HTT.out]; unfold codeTT; rw [if_neg (by intro e; exact hc (by rw [HR.out]; exact e.1))]⟩
    obtain ⟨q0, q1, qf, ql⟩ := HQ.out w1 HB1.out
    have HBw : Hid (Below w.heap.size w w1) := HB0.out.trans (HB1.out.mono HB0.out.size)
    clear hc HCC HTT HR
    go_wp2
    exact bodyPost_ret (v := .agg #[.int .i64 R, .string ⟨#[]⟩]) (by simp [results, Tryz.results7, go_sem, q0, q1]) rfl ⟨by rw [HC2.out.1, HC2.out.2], by repeat (first | refine Below.setCell ?_ (by simp) _ | exact HBw.out)⟩
end Go.Proofs.YtkdhmijebkhmaaaGreatDoor
