/-
  The model's l9Text: the text of an operation; nothing that was there is turned.
-/
import Derived.Test.YtkdhmijebkhmaaaGreatDoorTextMath9
import Derived.Test.YtkdhmijebkhmaaaGreatDoorCtN
import Derived.Test.YtkdhmijebkhmaaaGreatDoorSpecWriteD
namespace Go.Proofs.YtkdhmijebkhmaaaGreatDoor
open Go.RowKit Go.Extern.Stop Go.Stop Go.Extern Num Go.Lib

theorem opOk {t : Opr} (h : opFault t = 0) : (1 ≤ t.kind ∧ t.kind ≤ 16) ∧ (∀ x ∈ numsL t, 0 ≤ x ∧ x ≤ 999) ∧ (namedO t.kind = true → symL t.name.data.toList = true) ∧ (constO t.kind = true → dataFault t.data = 0) := by
  have hin : (decide (1 ≤ t.kind) && decide (t.kind ≤ 16)) = true := by
    cases e : (decide (1 ≤ t.kind) && decide (t.kind ≤ 16))
    · rw [opFault_no e] at h; cases h
    · rfl
  rw [opFault_in hin] at h
  by_cases e1 : (extraN t || extraT t) = true
  · rw [if_pos e1] at h; cases h
  rw [if_neg e1] at h
  by_cases e2 : outO t = true
  · rw [if_pos e2] at h; cases h
  rw [if_neg e2] at h
  by_cases e3 : manyO t = true
  · rw [if_pos e3] at h; cases h
  rw [if_neg e3] at h
  by_cases e4 : (namedO t.kind && !(symL t.name.data.toList)) = true
  · rw [if_pos e4] at h; cases h
  rw [if_neg e4] at h
  refine ⟨by simpa using hin, fun x hx => ?_, fun hn => ?_, fun hc => ?_⟩
  · have e5 : outO t = false := by simpa using e2
    unfold outO at e5
    rw [List.any_eq_false] at e5
    have := e5 x hx
    simp only [outN, Bool.or_eq_true, decide_eq_true_eq] at this
    omega
  · rw [hn] at e4
    simpa using e4
  · rw [if_pos hc] at h; exact h
theorem sym_size {s : ByteArray} (h : symL s.data.toList = true) : s.size ≤ 12 := by
  unfold symL at h
  simp only [Bool.and_eq_true, decide_eq_true_eq] at h
  show s.data.size ≤ 12
  rw [← Array.length_toList]; exact h.2.2
theorem word_size (k : Int) : (wordO k).size ≤ 10 := by
  rcases kinds16 k with rfl | rfl | rfl | rfl | rfl | rfl | rfl | rfl | rfl | rfl | rfl | rfl | rfl | rfl | rfl | rfl | h
  all_goals first | decide | skip
  unfold wordO
  repeat (rw [if_neg (by omega)])
  decide
theorem wordCell (t : Opr) (h : 1 ≤ t.kind ∧ t.kind ≤ 16) (w : World) (T : TypeId) : (w.alloc (.cells #[.string ⟨#[]⟩, .string ⟨#[99, 111, 110, 115, 116]⟩, .string ⟨#[108, 111, 99, 97, 108]⟩, .string ⟨#[103, 108, 111, 98, 97, 108]⟩, .string ⟨#[99, 108, 111, 115, 117, 114, 101]⟩, .string ⟨#[106, 117, 109, 112]⟩, .string ⟨#[105, 102, 110, 111, 116]⟩, .string ⟨#[112, 111, 112]⟩, .string ⟨#[115, 101, 116]⟩, .string ⟨#[100, 101, 102]⟩, .string ⟨#[99, 97, 108, 108]⟩, .string ⟨#[116, 97, 105, 108]⟩, .string ⟨#[114, 101, 116, 117, 114, 110]⟩, .string ⟨#[99, 111, 110, 115, 116, 114, 101, 116]⟩, .string ⟨#[108, 111, 99, 97, 108, 114, 101, 116]⟩, .string ⟨#[108, 111, 99, 97, 108, 115]⟩, .string ⟨#[108, 111, 99, 97, 108, 105, 102, 110, 111, 116]⟩] T)).cell? ⟨w.heap.size, t.kind.toNat, none⟩ = some (.string (wordO t.kind)) := by
  rw [World.cell?_alloc_at _ _ _ _ rfl]
  obtain ⟨h0, h1⟩ := h
  generalize t.kind = k at h0 h1 ⊢
  rcases kinds16 k with rfl | rfl | rfl | rfl | rfl | rfl | rfl | rfl | rfl | rfl | rfl | rfl | rfl | rfl | rfl | rfl | h
  all_goals first | rfl | omega
theorem bnew0 (u : World) (o : Obj) : Below u.heap.size u (u.alloc o) := (Below.refl _ _).alloc (Nat.le_refl _) _
set_option maxRecDepth 100000 in
set_option maxHeartbeats 4000000 in
theorem l9Text_any (t : Opr) (B g o gk : Nat) (w : World) (hf : opFault t = 0) (h : OpAt w B g o t gk) :
    Calls Tryz.prog 26 #[.pointer (some ⟨g, o, none⟩)] w fun e w' => e = .returned (S (opT t)) ∧ Below w.heap.size w w' := by
  obtain ⟨hk, hnu, hnm, hda⟩ := opOk hf
  have hwc := wordCell t hk
  have hws := word_size t.kind
  obtain ⟨Wd, hWd⟩ : ∃ Wd, Wd = wordO t.kind := ⟨_, rfl⟩
  have HNm : Hid (∀ x, Calls Tryz.prog 43 #[.int .i64 t.kind] x fun e w' => e = .returned (.bool (namedO t.kind)) ∧ w' = x) := fun x => l9Named_any t.kind x
  have HCo : Hid (∀ x, Calls Tryz.prog 44 #[.int .i64 t.kind] x fun e w' => e = .returned (.bool (constO t.kind)) ∧ w' = x) := fun x => l9Const_any t.kind x
  have HNu : Hid (∀ x, Calls Tryz.prog 47 #[.int .i64 t.kind] x fun e w' => e = .returned (.int .i64 (numsO t.kind : Int)) ∧ w' = x) := fun x => l9Nums_any t.kind x
  obtain ⟨X, hX⟩ : ∃ X, X = (w.alloc (.cells #[.string ⟨#[]⟩, .string ⟨#[99, 111, 110, 115, 116]⟩, .string ⟨#[108, 111, 99, 97, 108]⟩, .string ⟨#[103, 108, 111, 98, 97, 108]⟩, .string ⟨#[99, 108, 111, 115, 117, 114, 101]⟩, .string ⟨#[106, 117, 109, 112]⟩, .string ⟨#[105, 102, 110, 111, 116]⟩, .string ⟨#[112, 111, 112]⟩, .string ⟨#[115, 101, 116]⟩, .string ⟨#[100, 101, 102]⟩, .string ⟨#[99, 97, 108, 108]⟩, .string ⟨#[116, 97, 105, 108]⟩, .string ⟨#[114, 101, 116, 117, 114, 110]⟩, .string ⟨#[99, 111, 110, 115, 116, 114, 101, 116]⟩, .string ⟨#[108, 111, 99, 97, 108, 114, 101, 116]⟩, .string ⟨#[108, 111, 99, 97, 108, 115]⟩, .string ⟨#[108, 111, 99, 97, 108, 105, 102, 110, 111, 116]⟩] 9)) := ⟨_, rfl⟩
  have HX : Hid (X = (w.alloc (.cells #[.string ⟨#[]⟩, .string ⟨#[99, 111, 110, 115, 116]⟩, .string ⟨#[108, 111, 99, 97, 108]⟩, .string ⟨#[103, 108, 111, 98, 97, 108]⟩, .string ⟨#[99, 108, 111, 115, 117, 114, 101]⟩, .string ⟨#[106, 117, 109, 112]⟩, .string ⟨#[105, 102, 110, 111, 116]⟩, .string ⟨#[112, 111, 112]⟩, .string ⟨#[115, 101, 116]⟩, .string ⟨#[100, 101, 102]⟩, .string ⟨#[99, 97, 108, 108]⟩, .string ⟨#[116, 97, 105, 108]⟩, .string ⟨#[114, 101, 116, 117, 114, 110]⟩, .string ⟨#[99, 111, 110, 115, 116, 114, 101, 116]⟩, .string ⟨#[108, 111, 99, 97, 108, 114, 101, 116]⟩, .string ⟨#[108, 111, 99, 97, 108, 115]⟩, .string ⟨#[108, 111, 99, 97, 108, 105, 102, 110, 111, 116]⟩] 9))) := hX
  have hbX : Below w.heap.size w X := by rw [hX]; exact bnew0 _ _
  have HB0 : Hid (Below w.heap.size w X) := hbX
  have HA0 : Hid (OpAt X B g o t gk) := h.below hbX
  have HAl : Hid (∀ x, Below X.heap.size X x → Calls Tryz.prog 46 #[.pointer (some ⟨g, o, none⟩)] x fun e w' => ∃ q, x.heap.size ≤ q ∧ e = .returned (.slice (some ⟨q, 0, none⟩) 4 4) ∧ w'.cell? ⟨q, 0, none⟩ = some (.int .i64 t.a) ∧ w'.cell? ⟨q, 1, none⟩ = some (.int .i64 t.b) ∧ w'.cell? ⟨q, 2, none⟩ = some (.int .i64 t.c) ∧ w'.cell? ⟨q, 3, none⟩ = some (.int .i64 t.d) ∧ Below x.heap.size x w') := fun x hx => l9All_any t B g o gk x ((h.below hbX).below hx)
  have q0 : X.cell? ⟨g, o, none⟩ = some (.int .i64 t.kind) := HA0.out.c0
  have p0 := cell_keep (bnew0 w (.cells #[.string ⟨#[]⟩, .string ⟨#[99, 111, 110, 115, 116]⟩, .string ⟨#[108, 111, 99, 97, 108]⟩, .string ⟨#[103, 108, 111, 98, 97, 108]⟩, .string ⟨#[99, 108, 111, 115, 117, 114, 101]⟩, .string ⟨#[106, 117, 109, 112]⟩, .string ⟨#[105, 102, 110, 111, 116]⟩, .string ⟨#[112, 111, 112]⟩, .string ⟨#[115, 101, 116]⟩, .string ⟨#[100, 101, 102]⟩, .string ⟨#[99, 97, 108, 108]⟩, .string ⟨#[116, 97, 105, 108]⟩, .string ⟨#[114, 101, 116, 117, 114, 110]⟩, .string ⟨#[99, 111, 110, 115, 116, 114, 101, 116]⟩, .string ⟨#[108, 111, 99, 97, 108, 114, 101, 116]⟩, .string ⟨#[108, 111, 99, 97, 108, 115]⟩, .string ⟨#[108, 111, 99, 97, 108, 105, 102, 110, 111, 116]⟩] 9)) h.c0
  have HDt : Hid (constO t.kind = true → ∀ x, Below X.heap.size X x → Calls Tryz.prog 45 #[.slice (some ⟨gk, 0, none⟩) t.data.length t.data.length, .int .i64 0] x fun e w' => e = .returned (.string ⟨(writeF t.data t.data.length 0).toArray⟩) ∧ Below x.heap.size x w') := fun hc x hx => by
    have F := fine_of (hda hc)
    have hr : RowD x gk t.data := RowD.of (((h.below hbX).below hx).data)
    exact l3Write_any gk t.data.length t.data F t.data.length 0 x F.pos (by omega) hr
  have HDl : Hid (constO t.kind = true → (writeF t.data t.data.length 0).length ≤ 1600) := fun hc => write_small (fine_of (hda hc)) _ 0 (fine_of (hda hc)).pos
  have HNa : Hid (namedO t.kind = true → t.name.size ≤ 12) := fun hn => sym_size (hnm hn)
  have HNl : Hid (∀ x ∈ numsL t, 0 ≤ x ∧ x ≤ 999) := hnu
  obtain ⟨R, hR⟩ : ∃ R : ByteArray, R = ⟨(opT t).toArray⟩ := ⟨_, rfl⟩
  have HR : Hid (R = ⟨(opT t).toArray⟩) := hR
  show Calls _ _ _ w fun e w' => e = .returned (.string ⟨(opT t).toArray⟩) ∧ Below w.heap.size w w'
  rw [← hR]
  rw [← hWd] at hwc hws
  have HWd : Hid (Wd = wordO t.kind) := hWd
  clear h hbX hX hR hf hnm hda hnu hWd
  go_enter Tryz.func26, Tryz.ntmps26
  go_wp2_with fail
  rw [← HX.out]
  clear hwc p0 HX
  refine (HNm.out _).mono ?_
  rintro e w' ⟨rfl, hw'⟩; replace hw' := hw'.symm; subst hw'
  have q5 := HA0.out.c5
  have q6 := HA0.out.c6
  cases nb : namedO t.kind
  · skip
    obtain ⟨N1, hN1⟩ : ∃ N1, N1 = Wd := ⟨_, rfl⟩
    have HN1 : Hid ((⟨((wordO t.kind).data.toList ++ nameT t).toArray⟩ : ByteArray) = N1) := by
      show _ = _
      rw [hN1, HWd.out]; apply ByteArray.ext; simp [nameT, nb]
    have hn1 : N1.size ≤ 23 := by rw [hN1]; omega
    rw [← hN1]
    clear hN1
    go_wp2_with fail
    refine (HCo.out _).mono ?_
    rintro e w' ⟨rfl, hw'⟩; replace hw' := hw'.symm; subst hw'
    have q7 : True := trivial
    cases cb : constO t.kind
    · skip
      have HN2 : Hid (N1.size ≤ 1623 ∧ (⟨(((wordO t.kind).data.toList ++ nameT t) ++ dataT t).toArray⟩ : ByteArray) = N1) := by
        refine ⟨by omega, ?_⟩
        rw [← HN1.out]; simp [dataT, cb]
      go_wp2_with fail
      have HBZ : Hid (Below X.heap.size X X) := Below.refl _ _
      refine (HAl.out _ HBZ.out).mono ?_
      rintro e w2 ⟨q, hq, rfl, z0, z1, z2, z3, b2⟩
      have HBw : Hid (Below w.heap.size w w2) := HB0.out.trans ((HBZ.out.trans (b2.mono HBZ.out.size)).mono HB0.out.size)
      have HA2 : Hid (OpAt w2 B g o t gk) := (HA0.out.below HBZ.out).below b2
      have HZc : Hid (∀ (j : Nat) (h : j < (numsL t).length), w2.cell? ⟨q, j, none⟩ = some (.int .i64 (numsL t)[j])) := fun j h => match j, h with
        | 0, _ => z0
        | 1, _ => z1
        | 2, _ => z2
        | 3, _ => z3
        | _ + 4, h => absurd h (by simp [numsL])
      clear b2 q0 q5 q6 HAl z0 z1 z2 z3 hq HBZ
      go_wp2_with fail
      go_loopw [4, 6] (fun v i wr => ∃ (j : Nat) (T : ByteArray), j ≤ numsO t.kind ∧ i = .int .i64 (j : Int) ∧ v = .string T ∧ T.size ≤ 1624 + 4 * j ∧ Hid (T = ⟨((((wordO t.kind).data.toList ++ nameT t) ++ dataT t) ++ numsTo t j).toArray⟩) ∧ Hid (Below w2.heap.size w2 wr)) (fun _ i _ => numsO t.kind - (RowKit.intOf i).toNat)
      case atStart => exact ⟨0, _, Nat.zero_le _, rfl, rfl, by have := HN2.out.1; omega, by show _ = _; rw [← HN2.out.2]; simp [numsTo], Below.refl _ _⟩
      case round =>
        obtain ⟨j, T, hj, rfl, rfl, hTs, HT, HBr⟩ := hrel
        have hn4 := numsO_le t.kind
        have c0 := (HA2.out.below HBr.out).c0
        have HNr : Hid (Calls Tryz.prog 47 #[.int .i64 t.kind] wr fun e w' => e = .returned (.int .i64 (numsO t.kind : Int)) ∧ w' = wr) := HNu.out wr
        by_cases hlt : j < numsO t.kind
        · have hjl : j < (numsL t).length := by simp [numsL]; omega
          have hcj := cell_keep HBr.out (HZc.out j hjl)
          have hb := HNl.out _ (List.getElem_mem hjl)
          have HNx : Hid (numsTo t (j + 1) = numsTo t j ++ (32 :: itoa (numsL t)[j])) := by
            show _ = _
            unfold numsTo
            rw [List.take_add_one, List.getElem?_eq_getElem hjl, List.flatMap_append]; simp
          obtain ⟨x, hx⟩ : ∃ x, x = (numsL t)[j]'hjl := ⟨_, rfl⟩
          rw [← hx] at hcj hb HNx
          obtain ⟨Dg, hDg⟩ : ∃ Dg : ByteArray, Dg = ⟨(itoa x).toArray⟩ := ⟨_, rfl⟩
          have hds : Dg.size ≤ 3 := by rw [hDg]; show (itoa x).toArray.size ≤ 3; simpa using itoa_len3 x hb.1 hb.2
          have HD : Hid (Calls Tryz.prog 25 #[.int .i64 x] wr fun e w' => e = .returned (.string Dg) ∧ Below wr.heap.size wr w') := by
            obtain ⟨u, hu⟩ : ∃ u : Nat, x = (u : Int) := ⟨x.toNat, by omega⟩
            rw [hDg, hu, itoa_nonneg]
            exact dig_nat u wr (by omega)
          have a1 := fun (w : World) => run_string_add_sum (P := Tryz.prog) w T ⟨#[32]⟩ (by have : (⟨#[32]⟩ : ByteArray).size = 1 := rfl; omega)
          have a2 := fun (w : World) => run_string_add_sum (P := Tryz.prog) w (T ++ ⟨#[32]⟩) Dg (by have : (⟨#[32]⟩ : ByteArray).size = 1 := rfl; rw [ByteArray.size_append]; omega)
          have HT2 : Hid ((T ++ ⟨#[32]⟩ ++ Dg).size ≤ 1624 + 4 * (j + 1) ∧ T ++ ⟨#[32]⟩ ++ Dg = ⟨((((wordO t.kind).data.toList ++ nameT t) ++ dataT t) ++ numsTo t (j + 1)).toArray⟩) := by
            refine ⟨by have : (⟨#[32]⟩ : ByteArray).size = 1 := rfl; rw [ByteArray.size_append, ByteArray.size_append]; omega, ?_⟩
            rw [HT.out, hDg, HNx.out]
            apply ByteArray.ext
            simp
          clear hb hx hDg hds
          go_wp2_with (first | (go_at_call 47; refine HNr.out.mono ?_; rintro e w' ⟨rfl, hw'⟩; replace hw' := hw'.symm; subst hw') | (go_at_call 25; refine HD.out.mono ?_; rintro e w3 ⟨rfl, b3⟩))
          exact ⟨⟨j + 1, _, by omega, by go_num, rfl, HT2.out.1, HT2.out.2, HBr.out.trans (b3.mono HBr.out.size)⟩, by simp [RowKit.intOf]; omega⟩
        · have HF : Hid (T = R) := by
            have e : j = numsO t.kind := by omega
            show _ = _
            rw [HT.out, HR.out, e]; rfl
          go_wp2_with (go_at_call 47; refine HNr.out.mono ?_; rintro e w' ⟨rfl, hw'⟩; replace hw' := hw'.symm; subst hw')
          go_ret
          exact ⟨by rw [HF.out]; rfl, HBw.out.trans (HBr.out.mono HBw.out.size)⟩
    · skip
      obtain ⟨Dt, hDt⟩ : ∃ Dt : ByteArray, Dt = ⟨(writeF t.data t.data.length 0).toArray⟩ := ⟨_, rfl⟩
      have HW := HDt.out cb X (Below.refl _ _)
      rw [← hDt] at HW
      have HWx : Hid (Calls Tryz.prog 45 #[.slice (some ⟨gk, 0, none⟩) t.data.length t.data.length, .int .i64 0] X fun e w' => e = .returned (.string Dt) ∧ Below X.heap.size X w') := HW
      have hds : Dt.size ≤ 1600 := by rw [hDt]; show (writeF t.data t.data.length 0).toArray.size ≤ 1600; simpa using HDl.out cb
      clear HW
      have b1 := fun (w : World) => run_string_add_sum (P := Tryz.prog) w N1 ⟨#[32]⟩ (by have : (⟨#[32]⟩ : ByteArray).size = 1 := rfl; omega)
      have b2 := fun (w : World) => run_string_add_sum (P := Tryz.prog) w (N1 ++ ⟨#[32]⟩) Dt (by have : (⟨#[32]⟩ : ByteArray).size = 1 := rfl; rw [ByteArray.size_append]; omega)
      have HN2 : Hid ((N1 ++ ⟨#[32]⟩ ++ Dt).size ≤ 1624 ∧ (⟨(((wordO t.kind).data.toList ++ nameT t) ++ dataT t).toArray⟩ : ByteArray) = N1 ++ ⟨#[32]⟩ ++ Dt) := by
        refine ⟨by have : (⟨#[32]⟩ : ByteArray).size = 1 := rfl; rw [ByteArray.size_append, ByteArray.size_append]; omega, ?_⟩
        rw [← HN1.out, hDt]
        apply ByteArray.ext
        simp [dataT, cb]
      clear hds hDt
      go_wp2_with fail
      refine HWx.out.mono ?_
      rintro e w1 ⟨rfl, bz⟩
      have HBZ : Hid (Below X.heap.size X w1) := bz
      clear bz HWx
      go_wp2_with fail
      clear b1 b2
      refine (HAl.out _ HBZ.out).mono ?_
      rintro e w2 ⟨q, hq, rfl, z0, z1, z2, z3, b2⟩
      have HBw : Hid (Below w.heap.size w w2) := HB0.out.trans ((HBZ.out.trans (b2.mono HBZ.out.size)).mono HB0.out.size)
      have HA2 : Hid (OpAt w2 B g o t gk) := (HA0.out.below HBZ.out).below b2
      have HZc : Hid (∀ (j : Nat) (h : j < (numsL t).length), w2.cell? ⟨q, j, none⟩ = some (.int .i64 (numsL t)[j])) := fun j h => match j, h with
        | 0, _ => z0
        | 1, _ => z1
        | 2, _ => z2
        | 3, _ => z3
        | _ + 4, h => absurd h (by simp [numsL])
      clear b2 q0 q5 q6 HAl z0 z1 z2 z3 hq HBZ
      go_wp2_with fail
      go_loopw [4, 6] (fun v i wr => ∃ (j : Nat) (T : ByteArray), j ≤ numsO t.kind ∧ i = .int .i64 (j : Int) ∧ v = .string T ∧ T.size ≤ 1624 + 4 * j ∧ Hid (T = ⟨((((wordO t.kind).data.toList ++ nameT t) ++ dataT t) ++ numsTo t j).toArray⟩) ∧ Hid (Below w2.heap.size w2 wr)) (fun _ i _ => numsO t.kind - (RowKit.intOf i).toNat)
      case atStart => exact ⟨0, _, Nat.zero_le _, rfl, rfl, by have := HN2.out.1; omega, by show _ = _; rw [← HN2.out.2]; simp [numsTo], Below.refl _ _⟩
      case round =>
        obtain ⟨j, T, hj, rfl, rfl, hTs, HT, HBr⟩ := hrel
        have hn4 := numsO_le t.kind
        have c0 := (HA2.out.below HBr.out).c0
        have HNr : Hid (Calls Tryz.prog 47 #[.int .i64 t.kind] wr fun e w' => e = .returned (.int .i64 (numsO t.kind : Int)) ∧ w' = wr) := HNu.out wr
        by_cases hlt : j < numsO t.kind
        · have hjl : j < (numsL t).length := by simp [numsL]; omega
          have hcj := cell_keep HBr.out (HZc.out j hjl)
          have hb := HNl.out _ (List.getElem_mem hjl)
          have HNx : Hid (numsTo t (j + 1) = numsTo t j ++ (32 :: itoa (numsL t)[j])) := by
            show _ = _
            unfold numsTo
            rw [List.take_add_one, List.getElem?_eq_getElem hjl, List.flatMap_append]; simp
          obtain ⟨x, hx⟩ : ∃ x, x = (numsL t)[j]'hjl := ⟨_, rfl⟩
          rw [← hx] at hcj hb HNx
          obtain ⟨Dg, hDg⟩ : ∃ Dg : ByteArray, Dg = ⟨(itoa x).toArray⟩ := ⟨_, rfl⟩
          have hds : Dg.size ≤ 3 := by rw [hDg]; show (itoa x).toArray.size ≤ 3; simpa using itoa_len3 x hb.1 hb.2
          have HD : Hid (Calls Tryz.prog 25 #[.int .i64 x] wr fun e w' => e = .returned (.string Dg) ∧ Below wr.heap.size wr w') := by
            obtain ⟨u, hu⟩ : ∃ u : Nat, x = (u : Int) := ⟨x.toNat, by omega⟩
            rw [hDg, hu, itoa_nonneg]
            exact dig_nat u wr (by omega)
          have a1 := fun (w : World) => run_string_add_sum (P := Tryz.prog) w T ⟨#[32]⟩ (by have : (⟨#[32]⟩ : ByteArray).size = 1 := rfl; omega)
          have a2 := fun (w : World) => run_string_add_sum (P := Tryz.prog) w (T ++ ⟨#[32]⟩) Dg (by have : (⟨#[32]⟩ : ByteArray).size = 1 := rfl; rw [ByteArray.size_append]; omega)
          have HT2 : Hid ((T ++ ⟨#[32]⟩ ++ Dg).size ≤ 1624 + 4 * (j + 1) ∧ T ++ ⟨#[32]⟩ ++ Dg = ⟨((((wordO t.kind).data.toList ++ nameT t) ++ dataT t) ++ numsTo t (j + 1)).toArray⟩) := by
            refine ⟨by have : (⟨#[32]⟩ : ByteArray).size = 1 := rfl; rw [ByteArray.size_append, ByteArray.size_append]; omega, ?_⟩
            rw [HT.out, hDg, HNx.out]
            apply ByteArray.ext
            simp
          clear hb hx hDg hds
          go_wp2_with (first | (go_at_call 47; refine HNr.out.mono ?_; rintro e w' ⟨rfl, hw'⟩; replace hw' := hw'.symm; subst hw') | (go_at_call 25; refine HD.out.mono ?_; rintro e w3 ⟨rfl, b3⟩))
          exact ⟨⟨j + 1, _, by omega, by go_num, rfl, HT2.out.1, HT2.out.2, HBr.out.trans (b3.mono HBr.out.size)⟩, by simp [RowKit.intOf]; omega⟩
        · have HF : Hid (T = R) := by
            have e : j = numsO t.kind := by omega
            show _ = _
            rw [HT.out, HR.out, e]; rfl
          go_wp2_with (go_at_call 47; refine HNr.out.mono ?_; rintro e w' ⟨rfl, hw'⟩; replace hw' := hw'.symm; subst hw')
          go_ret
          exact ⟨by rw [HF.out]; rfl, HBw.out.trans (HBr.out.mono HBw.out.size)⟩
  · skip
    have hns := HNa.out nb
    have a1 := fun (w : World) => run_string_add_sum (P := Tryz.prog) w Wd ⟨#[32]⟩ (by have : (⟨#[32]⟩ : ByteArray).size = 1 := rfl; omega)
    have a2 := fun (w : World) => run_string_add_sum (P := Tryz.prog) w (Wd ++ ⟨#[32]⟩) t.name (by have : (⟨#[32]⟩ : ByteArray).size = 1 := rfl; rw [ByteArray.size_append]; omega)
    have HN1' : Hid ((⟨((wordO t.kind).data.toList ++ nameT t).toArray⟩ : ByteArray) = Wd ++ ⟨#[32]⟩ ++ t.name) := by
      show _ = _
      rw [HWd.out]; apply ByteArray.ext; simp [nameT, nb]
    have hn1' : (Wd ++ ⟨#[32]⟩ ++ t.name).size ≤ 23 := by have : (⟨#[32]⟩ : ByteArray).size = 1 := rfl; rw [ByteArray.size_append, ByteArray.size_append]; omega
    go_wp2_with fail
    clear a1 a2
    obtain ⟨N1, hN1⟩ : ∃ N1, N1 = Wd ++ ⟨#[32]⟩ ++ t.name := ⟨_, rfl⟩
    rw [← hN1] at HN1' hn1' ⊢
    have HN1 : Hid ((⟨((wordO t.kind).data.toList ++ nameT t).toArray⟩ : ByteArray) = N1) := HN1'.out
    have hn1 : N1.size ≤ 23 := hn1'
    clear hN1 HN1' hn1' hns
    refine (HCo.out _).mono ?_
    rintro e w' ⟨rfl, hw'⟩; replace hw' := hw'.symm; subst hw'
    have q7 : True := trivial
    cases cb : constO t.kind
    · skip
      have HN2 : Hid (N1.size ≤ 1623 ∧ (⟨(((wordO t.kind).data.toList ++ nameT t) ++ dataT t).toArray⟩ : ByteArray) = N1) := by
        refine ⟨by omega, ?_⟩
        rw [← HN1.out]; simp [dataT, cb]
      go_wp2_with fail
      have HBZ : Hid (Below X.heap.size X X) := Below.refl _ _
      refine (HAl.out _ HBZ.out).mono ?_
      rintro e w2 ⟨q, hq, rfl, z0, z1, z2, z3, b2⟩
      have HBw : Hid (Below w.heap.size w w2) := HB0.out.trans ((HBZ.out.trans (b2.mono HBZ.out.size)).mono HB0.out.size)
      have HA2 : Hid (OpAt w2 B g o t gk) := (HA0.out.below HBZ.out).below b2
      have HZc : Hid (∀ (j : Nat) (h : j < (numsL t).length), w2.cell? ⟨q, j, none⟩ = some (.int .i64 (numsL t)[j])) := fun j h => match j, h with
        | 0, _ => z0
        | 1, _ => z1
        | 2, _ => z2
        | 3, _ => z3
        | _ + 4, h => absurd h (by simp [numsL])
      clear b2 q0 q5 q6 HAl z0 z1 z2 z3 hq HBZ
      go_wp2_with fail
      go_loopw [4, 6] (fun v i wr => ∃ (j : Nat) (T : ByteArray), j ≤ numsO t.kind ∧ i = .int .i64 (j : Int) ∧ v = .string T ∧ T.size ≤ 1624 + 4 * j ∧ Hid (T = ⟨((((wordO t.kind).data.toList ++ nameT t) ++ dataT t) ++ numsTo t j).toArray⟩) ∧ Hid (Below w2.heap.size w2 wr)) (fun _ i _ => numsO t.kind - (RowKit.intOf i).toNat)
      case atStart => exact ⟨0, _, Nat.zero_le _, rfl, rfl, by have := HN2.out.1; omega, by show _ = _; rw [← HN2.out.2]; simp [numsTo], Below.refl _ _⟩
      case round =>
        obtain ⟨j, T, hj, rfl, rfl, hTs, HT, HBr⟩ := hrel
        have hn4 := numsO_le t.kind
        have c0 := (HA2.out.below HBr.out).c0
        have HNr : Hid (Calls Tryz.prog 47 #[.int .i64 t.kind] wr fun e w' => e = .returned (.int .i64 (numsO t.kind : Int)) ∧ w' = wr) := HNu.out wr
        by_cases hlt : j < numsO t.kind
        · have hjl : j < (numsL t).length := by simp [numsL]; omega
          have hcj := cell_keep HBr.out (HZc.out j hjl)
          have hb := HNl.out _ (List.getElem_mem hjl)
          have HNx : Hid (numsTo t (j + 1) = numsTo t j ++ (32 :: itoa (numsL t)[j])) := by
            show _ = _
            unfold numsTo
            rw [List.take_add_one, List.getElem?_eq_getElem hjl, List.flatMap_append]; simp
          obtain ⟨x, hx⟩ : ∃ x, x = (numsL t)[j]'hjl := ⟨_, rfl⟩
          rw [← hx] at hcj hb HNx
          obtain ⟨Dg, hDg⟩ : ∃ Dg : ByteArray, Dg = ⟨(itoa x).toArray⟩ := ⟨_, rfl⟩
          have hds : Dg.size ≤ 3 := by rw [hDg]; show (itoa x).toArray.size ≤ 3; simpa using itoa_len3 x hb.1 hb.2
          have HD : Hid (Calls Tryz.prog 25 #[.int .i64 x] wr fun e w' => e = .returned (.string Dg) ∧ Below wr.heap.size wr w') := by
            obtain ⟨u, hu⟩ : ∃ u : Nat, x = (u : Int) := ⟨x.toNat, by omega⟩
            rw [hDg, hu, itoa_nonneg]
            exact dig_nat u wr (by omega)
          have a1 := fun (w : World) => run_string_add_sum (P := Tryz.prog) w T ⟨#[32]⟩ (by have : (⟨#[32]⟩ : ByteArray).size = 1 := rfl; omega)
          have a2 := fun (w : World) => run_string_add_sum (P := Tryz.prog) w (T ++ ⟨#[32]⟩) Dg (by have : (⟨#[32]⟩ : ByteArray).size = 1 := rfl; rw [ByteArray.size_append]; omega)
          have HT2 : Hid ((T ++ ⟨#[32]⟩ ++ Dg).size ≤ 1624 + 4 * (j + 1) ∧ T ++ ⟨#[32]⟩ ++ Dg = ⟨((((wordO t.kind).data.toList ++ nameT t) ++ dataT t) ++ numsTo t (j + 1)).toArray⟩) := by
            refine ⟨by have : (⟨#[32]⟩ : ByteArray).size = 1 := rfl; rw [ByteArray.size_append, ByteArray.size_append]; omega, ?_⟩
            rw [HT.out, hDg, HNx.out]
            apply ByteArray.ext
            simp
          clear hb hx hDg hds
          go_wp2_with (first | (go_at_call 47; refine HNr.out.mono ?_; rintro e w' ⟨rfl, hw'⟩; replace hw' := hw'.symm; subst hw') | (go_at_call 25; refine HD.out.mono ?_; rintro e w3 ⟨rfl, b3⟩))
          exact ⟨⟨j + 1, _, by omega, by go_num, rfl, HT2.out.1, HT2.out.2, HBr.out.trans (b3.mono HBr.out.size)⟩, by simp [RowKit.intOf]; omega⟩
        · have HF : Hid (T = R) := by
            have e : j = numsO t.kind := by omega
            show _ = _
            rw [HT.out, HR.out, e]; rfl
          go_wp2_with (go_at_call 47; refine HNr.out.mono ?_; rintro e w' ⟨rfl, hw'⟩; replace hw' := hw'.symm; subst hw')
          go_ret
          exact ⟨by rw [HF.out]; rfl, HBw.out.trans (HBr.out.mono HBw.out.size)⟩
    · skip
      obtain ⟨Dt, hDt⟩ : ∃ Dt : ByteArray, Dt = ⟨(writeF t.data t.data.length 0).toArray⟩ := ⟨_, rfl⟩
      have HW := HDt.out cb X (Below.refl _ _)
      rw [← hDt] at HW
      have HWx : Hid (Calls Tryz.prog 45 #[.slice (some ⟨gk, 0, none⟩) t.data.length t.data.length, .int .i64 0] X fun e w' => e = .returned (.string Dt) ∧ Below X.heap.size X w') := HW
      have hds : Dt.size ≤ 1600 := by rw [hDt]; show (writeF t.data t.data.length 0).toArray.size ≤ 1600; simpa using HDl.out cb
      clear HW
      have b1 := fun (w : World) => run_string_add_sum (P := Tryz.prog) w N1 ⟨#[32]⟩ (by have : (⟨#[32]⟩ : ByteArray).size = 1 := rfl; omega)
      have b2 := fun (w : World) => run_string_add_sum (P := Tryz.prog) w (N1 ++ ⟨#[32]⟩) Dt (by have : (⟨#[32]⟩ : ByteArray).size = 1 := rfl; rw [ByteArray.size_append]; omega)
      have HN2 : Hid ((N1 ++ ⟨#[32]⟩ ++ Dt).size ≤ 1624 ∧ (⟨(((wordO t.kind).data.toList ++ nameT t) ++ dataT t).toArray⟩ : ByteArray) = N1 ++ ⟨#[32]⟩ ++ Dt) := by
        refine ⟨by have : (⟨#[32]⟩ : ByteArray).size = 1 := rfl; rw [ByteArray.size_append, ByteArray.size_append]; omega, ?_⟩
        rw [← HN1.out, hDt]
        apply ByteArray.ext
        simp [dataT, cb]
      clear hds hDt
      go_wp2_with fail
      refine HWx.out.mono ?_
      rintro e w1 ⟨rfl, bz⟩
      have HBZ : Hid (Below X.heap.size X w1) := bz
      clear bz HWx
      go_wp2_with fail
      clear b1 b2
      refine (HAl.out _ HBZ.out).mono ?_
      rintro e w2 ⟨q, hq, rfl, z0, z1, z2, z3, b2⟩
      have HBw : Hid (Below w.heap.size w w2) := HB0.out.trans ((HBZ.out.trans (b2.mono HBZ.out.size)).mono HB0.out.size)
      have HA2 : Hid (OpAt w2 B g o t gk) := (HA0.out.below HBZ.out).below b2
      have HZc : Hid (∀ (j : Nat) (h : j < (numsL t).length), w2.cell? ⟨q, j, none⟩ = some (.int .i64 (numsL t)[j])) := fun j h => match j, h with
        | 0, _ => z0
        | 1, _ => z1
        | 2, _ => z2
        | 3, _ => z3
        | _ + 4, h => absurd h (by simp [numsL])
      clear b2 q0 q5 q6 HAl z0 z1 z2 z3 hq HBZ
      go_wp2_with fail
      go_loopw [4, 6] (fun v i wr => ∃ (j : Nat) (T : ByteArray), j ≤ numsO t.kind ∧ i = .int .i64 (j : Int) ∧ v = .string T ∧ T.size ≤ 1624 + 4 * j ∧ Hid (T = ⟨((((wordO t.kind).data.toList ++ nameT t) ++ dataT t) ++ numsTo t j).toArray⟩) ∧ Hid (Below w2.heap.size w2 wr)) (fun _ i _ => numsO t.kind - (RowKit.intOf i).toNat)
      case atStart => exact ⟨0, _, Nat.zero_le _, rfl, rfl, by have := HN2.out.1; omega, by show _ = _; rw [← HN2.out.2]; simp [numsTo], Below.refl _ _⟩
      case round =>
        obtain ⟨j, T, hj, rfl, rfl, hTs, HT, HBr⟩ := hrel
        have hn4 := numsO_le t.kind
        have c0 := (HA2.out.below HBr.out).c0
        have HNr : Hid (Calls Tryz.prog 47 #[.int .i64 t.kind] wr fun e w' => e = .returned (.int .i64 (numsO t.kind : Int)) ∧ w' = wr) := HNu.out wr
        by_cases hlt : j < numsO t.kind
        · have hjl : j < (numsL t).length := by simp [numsL]; omega
          have hcj := cell_keep HBr.out (HZc.out j hjl)
          have hb := HNl.out _ (List.getElem_mem hjl)
          have HNx : Hid (numsTo t (j + 1) = numsTo t j ++ (32 :: itoa (numsL t)[j])) := by
            show _ = _
            unfold numsTo
            rw [List.take_add_one, List.getElem?_eq_getElem hjl, List.flatMap_append]; simp
          obtain ⟨x, hx⟩ : ∃ x, x = (numsL t)[j]'hjl := ⟨_, rfl⟩
          rw [← hx] at hcj hb HNx
          obtain ⟨Dg, hDg⟩ : ∃ Dg : ByteArray, Dg = ⟨(itoa x).toArray⟩ := ⟨_, rfl⟩
          have hds : Dg.size ≤ 3 := by rw [hDg]; show (itoa x).toArray.size ≤ 3; simpa using itoa_len3 x hb.1 hb.2
          have HD : Hid (Calls Tryz.prog 25 #[.int .i64 x] wr fun e w' => e = .returned (.string Dg) ∧ Below wr.heap.size wr w') := by
            obtain ⟨u, hu⟩ : ∃ u : Nat, x = (u : Int) := ⟨x.toNat, by omega⟩
            rw [hDg, hu, itoa_nonneg]
            exact dig_nat u wr (by omega)
          have a1 := fun (w : World) => run_string_add_sum (P := Tryz.prog) w T ⟨#[32]⟩ (by have : (⟨#[32]⟩ : ByteArray).size = 1 := rfl; omega)
          have a2 := fun (w : World) => run_string_add_sum (P := Tryz.prog) w (T ++ ⟨#[32]⟩) Dg (by have : (⟨#[32]⟩ : ByteArray).size = 1 := rfl; rw [ByteArray.size_append]; omega)
          have HT2 : Hid ((T ++ ⟨#[32]⟩ ++ Dg).size ≤ 1624 + 4 * (j + 1) ∧ T ++ ⟨#[32]⟩ ++ Dg = ⟨((((wordO t.kind).data.toList ++ nameT t) ++ dataT t) ++ numsTo t (j + 1)).toArray⟩) := by
            refine ⟨by have : (⟨#[32]⟩ : ByteArray).size = 1 := rfl; rw [ByteArray.size_append, ByteArray.size_append]; omega, ?_⟩
            rw [HT.out, hDg, HNx.out]
            apply ByteArray.ext
            simp
          clear hb hx hDg hds
          go_wp2_with (first | (go_at_call 47; refine HNr.out.mono ?_; rintro e w' ⟨rfl, hw'⟩; replace hw' := hw'.symm; subst hw') | (go_at_call 25; refine HD.out.mono ?_; rintro e w3 ⟨rfl, b3⟩))
          exact ⟨⟨j + 1, _, by omega, by go_num, rfl, HT2.out.1, HT2.out.2, HBr.out.trans (b3.mono HBr.out.size)⟩, by simp [RowKit.intOf]; omega⟩
        · have HF : Hid (T = R) := by
            have e : j = numsO t.kind := by omega
            show _ = _
            rw [HT.out, HR.out, e]; rfl
          go_wp2_with (go_at_call 47; refine HNr.out.mono ?_; rintro e w' ⟨rfl, hw'⟩; replace hw' := hw'.symm; subst hw')
          go_ret
          exact ⟨by rw [HF.out]; rfl, HBw.out.trans (HBr.out.mono HBw.out.size)⟩
end Go.Proofs.YtkdhmijebkhmaaaGreatDoor
