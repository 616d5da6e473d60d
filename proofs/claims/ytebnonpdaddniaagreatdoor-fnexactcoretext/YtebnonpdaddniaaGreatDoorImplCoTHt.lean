/-
  Parts of the proof laid into one text, one behind the other; each says at its head what is proved in it.
-/
import Derived.Test.YtebnonpdaddniaaGreatDoorHtO
import Derived.Test.YtebnonpdaddniaaGreatDoorHtQ
import Derived.Test.YtebnonpdaddniaaGreatDoorHtR
import Derived.Test.YtebnonpdaddniaaGreatDoorHtT
/-
  The model's CoreText and the program's CoreText: the text of cores, or what is wrong; nothing that was there is turned. The exact law of CoreText.
-/
namespace Go.Proofs.YtebnonpdaddniaaGreatDoor
open Go.RowKit Go.Extern.Stop Go.Stop Go.Extern Num Go.Lib Go.Shelf

/-- What CoreText answers. -/
def CTx (l : List Cor) : Value := if coreF l = 0 then (if 1500 < (writeC l l.length 0).length then .agg #[.int .i64 2, .string ⟨#[]⟩] else .agg #[.int .i64 0, .string ⟨(writeC l l.length 0).toArray⟩]) else .agg #[.int .i64 (coreF l), .string ⟨#[]⟩]
theorem CTx_form (l : List Cor) : ∃ c x, CTx l = .agg #[.int .i64 c, .string x] := by
  unfold CTx
  split
  · split
    · exact ⟨_, _, rfl⟩
    · exact ⟨_, _, rfl⟩
  · exact ⟨_, _, rfl⟩
/-- Cores alone, as nodes. -/
theorem fineC_of {l : List Cor} (h : coreF l = 0) : FineC (zC l) l := FineC.of (by simp [zC, Function.comp_def]) h
set_option maxRecDepth 100000 in
theorem specCoT_any (B g cap : Nat) (l : List Cor) (w : World) (hR : RowC w B g l) (hz : ∀ (k : Nat) (h : k < l.length), l[k].small) :
    Calls Tryz.prog 30 #[.slice (some ⟨g, 0, none⟩) l.length cap] w fun e w' => e = .returned (CTx l) ∧ Below w.heap.size w w' := by
  have HF : Hid (∀ o, Calls Tryz.prog 55 #[.slice (some ⟨g, 0, none⟩) l.length cap] (w.alloc o) fun e w' => e = .returned (.int .i64 (coreF l)) ∧ Below (w.alloc o).heap.size (w.alloc o) w') := fun o => l4Fault_any B g cap l _ (hR.below ((Below.refl _ w).alloc (Nat.le_refl _) o)) hz
  by_cases hf : coreF l = 0
  · have F := fineC_of hf
    obtain ⟨T, hT⟩ : ∃ T : ByteArray, T = ⟨(writeC l l.length 0).toArray⟩ := ⟨_, rfl⟩
    have hsz : T.size = (writeC l l.length 0).length := by rw [hT]; simp [ByteArray.size]
    have hsm := writeC_small F (fun k hk => word_all F k hk) l.length 0 F.pos
    have hs2 : T.size ≤ 272000 := by rw [hsz]; exact hsm
    have HW : Hid (∀ u, Below w.heap.size w u → Calls Tryz.prog 70 #[.slice (some ⟨g, 0, none⟩) l.length cap, .int .i64 0] u fun e w' => e = .returned (.string T) ∧ Below u.heap.size u w') := fun u hu => by
      rw [hT]; exact l4Text_any B g cap l F l.length 0 u F.pos (by omega) (hR.below hu)
    rw [hf] at HF
    by_cases hb : 1500 < (T.size : Int)
    · have e : CTx l = .agg #[.int .i64 2, .string ⟨#[]⟩] := by
        unfold CTx; rw [if_pos hf, if_pos (by omega)]
      rw [e]
      clear e hR hf hz hT hsz hsm F
      go_enter Tryz.func30, Tryz.ntmps30
      go_wp2_with fail
      refine (HF.out _).mono ?_
      rintro e w1 ⟨rfl, b1⟩
      have HB1 : Hid (Below w.heap.size w w1) := ((Below.refl _ w).alloc (Nat.le_refl _) _).trans (b1.mono (by simp))
      obtain ⟨hc1, hf1⟩ := bcell b1
      have hs1 : w.heap.size < w1.heap.size := by have := b1.size; simp at this; omega
      clear b1
      go_wp2_with fail
      refine (HW.out _ HB1.out).mono ?_
      rintro e w2 ⟨rfl, b2⟩
      obtain ⟨hc2, hf2⟩ := bcell b2
      have HB2 : Hid (Below w.heap.size w w2) := HB1.out.trans (b2.mono (by omega))
      clear b2
      have d0 : w2.cell? ⟨w.heap.size, 0, none⟩ = some (.int .i64 0) := by rw [hc2 _ _ hs1, hc1 _ _ (by simp)]; simp
      have d1 : w2.cell? ⟨w.heap.size, 1, none⟩ = some (.string ⟨#[]⟩) := by rw [hc2 _ _ hs1, hc1 _ _ (by simp)]; simp
      have f0 : w2.frozen? ⟨w.heap.size, 0, none⟩ = false := by rw [hf2 _ _ hs1, hf1 _ _ (by simp)]; simp
      have f1 : w2.frozen? ⟨w.heap.size, 1, none⟩ = false := by rw [hf2 _ _ hs1, hf1 _ _ (by simp)]; simp
      clear hc1 hc2 hf1 hf2
      go_wp2
      refine bodyPost_ret (v := .agg #[.int .i64 2, .string ⟨#[]⟩]) (by simp [results, Tryz.results30, go_sem, d0, d1]) rfl ⟨rfl, ?_⟩
      repeat (first | exact HB2.out | refine Below.setCell ?_ (by simp) _)
    · have e : CTx l = .agg #[.int .i64 0, .string T] := by
        unfold CTx; rw [if_pos hf, if_neg (by omega), hT]
      rw [e]
      clear e hR hf hz hT hsz hsm F
      go_enter Tryz.func30, Tryz.ntmps30
      go_wp2_with fail
      refine (HF.out _).mono ?_
      rintro e w1 ⟨rfl, b1⟩
      have HB1 : Hid (Below w.heap.size w w1) := ((Below.refl _ w).alloc (Nat.le_refl _) _).trans (b1.mono (by simp))
      obtain ⟨hc1, hf1⟩ := bcell b1
      have hs1 : w.heap.size < w1.heap.size := by have := b1.size; simp at this; omega
      clear b1
      go_wp2_with fail
      refine (HW.out _ HB1.out).mono ?_
      rintro e w2 ⟨rfl, b2⟩
      obtain ⟨hc2, hf2⟩ := bcell b2
      have HB2 : Hid (Below w.heap.size w w2) := HB1.out.trans (b2.mono (by omega))
      clear b2
      have d0 : w2.cell? ⟨w.heap.size, 0, none⟩ = some (.int .i64 0) := by rw [hc2 _ _ hs1, hc1 _ _ (by simp)]; simp
      have d1 : w2.cell? ⟨w.heap.size, 1, none⟩ = some (.string ⟨#[]⟩) := by rw [hc2 _ _ hs1, hc1 _ _ (by simp)]; simp
      have f0 : w2.frozen? ⟨w.heap.size, 0, none⟩ = false := by rw [hf2 _ _ hs1, hf1 _ _ (by simp)]; simp
      have f1 : w2.frozen? ⟨w.heap.size, 1, none⟩ = false := by rw [hf2 _ _ hs1, hf1 _ _ (by simp)]; simp
      clear hc1 hc2 hf1 hf2
      go_wp2
      refine bodyPost_ret (v := .agg #[.int .i64 0, .string T]) (by simp [results, Tryz.results30, go_sem, d0, d1]) rfl ⟨rfl, ?_⟩
      repeat (first | exact HB2.out | refine Below.setCell ?_ (by simp) _)
  · have e : CTx l = .agg #[.int .i64 (coreF l), .string ⟨#[]⟩] := by unfold CTx; rw [if_neg hf]
    rw [e]
    have hb : (coreF l != 0) = true := by simpa using hf
    clear e hf hR hz
    generalize coreF l = c at HF hb ⊢
    go_enter Tryz.func30, Tryz.ntmps30
    go_wp2_with fail
    refine (HF.out _).mono ?_
    rintro e w1 ⟨rfl, b1⟩
    have HB1 : Hid (Below w.heap.size w w1) := ((Below.refl _ w).alloc (Nat.le_refl _) _).trans (b1.mono (by simp))
    obtain ⟨hc1, hf1⟩ := bcell b1
    clear b1
    go_wp2
    refine bodyPost_ret (v := .agg #[.int .i64 c, .string ⟨#[]⟩]) (by simp [results, Tryz.results30, go_sem, hc1]) rfl ⟨rfl, ?_⟩
    repeat (first | exact HB1.out | refine Below.setCell ?_ (by simp) _)
set_option maxRecDepth 100000 in
theorem implCoT_any (B g cap : Nat) (l : List Cor) (w : World) (h : IsC w B g cap l) (hz : ∀ (k : Nat) (h : k < l.length), l[k].small) (hL : LT w) :
    Calls Tryz.prog 31 #[.slice (some ⟨g, 0, none⟩) l.length cap] w fun e w' => e = .returned (CTx l) ∧ Below w.heap.size w w' := by
  obtain ⟨P, hP, hrow, hN⟩ := h
  have HT : Hid (∀ o : Obj, Calls Tryz.prog 57 #[.slice (some ⟨g, 0, none⟩) l.length cap] (w.alloc o) fun e w' => AnsCt P l (w.alloc o) e w') := fun o =>
    coreTree_any B g cap P l hP _ (hrow.alloc o) (hN.below ((Below.refl _ w).alloc (Nat.le_refl _) o)) hz (hL.alloc o)
  by_cases hf : coreF l = 0
  · have F : FineC P l := FineC.of hP hf
    have hPd : ∀ (k : Nat) (h : k < P.length), PdNC ((k : Int), P[k]) := fun k hk => by
      have hk' : k < l.length := by rw [← F.nlen]; exact hk
      have e1 := F.at k hk'
      have h1 := okC_par F.ok k hk' hk'
      obtain ⟨gk, q1, -⟩ := hN P[k] (List.getElem_mem hk)
      refine ⟨?_, ?_, ?_, _, _, _, q1⟩
      · show P[k].1.name.size ≤ _
        rw [e1]; exact (hz k hk').name
      · show -1 ≤ P[k].1.parent
        rw [e1]; exact h1.2
      · show P[k].1.parent < 1000
        rw [e1]; have := F.len; omega
    have hD : ∀ u, Below w.heap.size w u → ∀ (k : Nat) (h : k < l.length) (h2 : k < P.length), ∃ gk B, P[k].2 = .slice (some ⟨gk, 0, none⟩) l[k].data.length l[k].data.length ∧ u.ownsRow B 100 4 (.slice (some ⟨gk, 0, none⟩) l[k].data.length l[k].data.length) l[k].data.length (cellsD l[k].data) := fun u hu k hk h2 => by
      obtain ⟨gk, q1, -, q3⟩ := hN P[k] (List.getElem_mem h2)
      rw [F.at k hk] at q1 q3
      exact ⟨gk, B, q1, own_below q3 hu⟩
    have HT' : Hid (∀ o : Obj, Calls Tryz.prog 57 #[.slice (some ⟨g, 0, none⟩) l.length cap] (w.alloc o) fun e w' => ∃ r, e = .returned (.tuple #[.pointer (some ⟨r, 0, none⟩), .int .i64 0]) ∧ OwnTC (w.heap.size + 1) r P w' ∧ Below (w.heap.size + 1) (w.alloc o) w') := fun o =>
      (HT.out o).mono fun e w' h => by
        rcases h with ⟨h, -⟩ | ⟨-, r, h1, h2, h3⟩
        · exact absurd hf h
        · rw [World.size_alloc] at h2 h3; exact ⟨r, h1, h2, h3⟩
    have HW : Hid (∀ (u : World) (tb : Nat), Below w.heap.size w u → LT u → IsTreeC u.heap.size u tb P → Calls Tryz.prog 71 #[.pointer (some ⟨tb, 0, none⟩)] u fun e W' => e = .returned (.string ⟨(writeC l l.length 0).toArray⟩) ∧ Below u.heap.size u W') := fun u tb hb hu hT => writeCores_any F hPd hz tb u hu hT (hD u hb)
    have ew : CTx l = if 1500 < (writeC l l.length 0).length then .agg #[.int .i64 2, .string ⟨#[]⟩] else .agg #[.int .i64 0, .string ⟨(writeC l l.length 0).toArray⟩] := by unfold CTx; rw [if_pos hf]
    have hsm := writeC_small F (fun k hk => word_all F k hk) l.length 0 F.pos
    rw [ew]
    clear HT hf ew hz hPd hD F hrow hN hP
    generalize writeC l l.length 0 = T at HW hsm ⊢
    have hsz : (⟨T.toArray⟩ : ByteArray).size = T.length := by simp [ByteArray.size]
    by_cases h4 : 1500 < T.length
    · rw [if_pos h4]
      have h5 : (1500 : Int) < ((⟨T.toArray⟩ : ByteArray).size : Int) := by omega
      have HL : Hid (LT w) := hL
      clear hL hsm h4 hsz
      generalize (⟨T.toArray⟩ : ByteArray) = tx at HW h5
      go_enter Tryz.func31, Tryz.ntmps31
      go_wp2_with fail
      refine (HT'.out _).mono ?_
      rintro e w1 ⟨r, rfl, ho, hb⟩
      have HO : Hid (OwnTC (w.heap.size + 1) r P w1) := ho
      obtain ⟨hc1, hf1⟩ := bcell (W := w.alloc (.cells #[.int .i64 0, .string ⟨#[]⟩] 31)) (by rw [World.size_alloc]; exact hb)
      have HB1 : Hid (Below w.heap.size w w1) := ((Below.refl _ w).alloc (Nat.le_refl _) _).trans (hb.mono (by omega))
      have hs1 : w.heap.size < w1.heap.size := by have := hb.size; simp at this; omega
      have HL1 : Hid (LT w1) := HL.out.below HB1.out
      clear ho hb
      go_wp2_with fail
      refine (HW.out _ _ HB1.out HL1.out HO.out.tree).mono ?_
      rintro e w2 ⟨rfl, b2⟩
      obtain ⟨hc2, hf2⟩ := bcell b2
      have HB2 : Hid (Below w.heap.size w w2) := HB1.out.trans (b2.mono (by omega))
      clear b2
      have d0 : w2.cell? ⟨w.heap.size, 0, none⟩ = some (.int .i64 0) := by rw [hc2 _ _ hs1, hc1 _ _ (by simp)]; simp
      have d1 : w2.cell? ⟨w.heap.size, 1, none⟩ = some (.string ⟨#[]⟩) := by rw [hc2 _ _ hs1, hc1 _ _ (by simp)]; simp
      have f0 : w2.frozen? ⟨w.heap.size, 0, none⟩ = false := by rw [hf2 _ _ hs1, hf1 _ _ (by simp)]; simp
      have f1 : w2.frozen? ⟨w.heap.size, 1, none⟩ = false := by rw [hf2 _ _ hs1, hf1 _ _ (by simp)]; simp
      clear hc1 hc2 hf1 hf2
      go_wp2
      refine bodyPost_ret (v := .agg #[.int .i64 2, .string ⟨#[]⟩]) (by simp [results, Tryz.results31, go_sem, d0, d1]) rfl ⟨rfl, ?_⟩
      repeat (first | exact HB2.out | refine Below.setCell ?_ (by simp) _)
    · rw [if_neg h4]
      have h5 : ((⟨T.toArray⟩ : ByteArray).size : Int) ≤ 1500 := by omega
      have HL : Hid (LT w) := hL
      clear hL hsm h4 hsz
      generalize (⟨T.toArray⟩ : ByteArray) = tx at HW h5 ⊢
      go_enter Tryz.func31, Tryz.ntmps31
      go_wp2_with fail
      refine (HT'.out _).mono ?_
      rintro e w1 ⟨r, rfl, ho, hb⟩
      have HO : Hid (OwnTC (w.heap.size + 1) r P w1) := ho
      obtain ⟨hc1, hf1⟩ := bcell (W := w.alloc (.cells #[.int .i64 0, .string ⟨#[]⟩] 31)) (by rw [World.size_alloc]; exact hb)
      have HB1 : Hid (Below w.heap.size w w1) := ((Below.refl _ w).alloc (Nat.le_refl _) _).trans (hb.mono (by omega))
      have hs1 : w.heap.size < w1.heap.size := by have := hb.size; simp at this; omega
      have HL1 : Hid (LT w1) := HL.out.below HB1.out
      clear ho hb
      go_wp2_with fail
      refine (HW.out _ _ HB1.out HL1.out HO.out.tree).mono ?_
      rintro e w2 ⟨rfl, b2⟩
      obtain ⟨hc2, hf2⟩ := bcell b2
      have HB2 : Hid (Below w.heap.size w w2) := HB1.out.trans (b2.mono (by omega))
      clear b2
      have d0 : w2.cell? ⟨w.heap.size, 0, none⟩ = some (.int .i64 0) := by rw [hc2 _ _ hs1, hc1 _ _ (by simp)]; simp
      have d1 : w2.cell? ⟨w.heap.size, 1, none⟩ = some (.string ⟨#[]⟩) := by rw [hc2 _ _ hs1, hc1 _ _ (by simp)]; simp
      have f0 : w2.frozen? ⟨w.heap.size, 0, none⟩ = false := by rw [hf2 _ _ hs1, hf1 _ _ (by simp)]; simp
      have f1 : w2.frozen? ⟨w.heap.size, 1, none⟩ = false := by rw [hf2 _ _ hs1, hf1 _ _ (by simp)]; simp
      clear hc1 hc2 hf1 hf2
      go_wp2
      refine bodyPost_ret (v := .agg #[.int .i64 0, .string tx]) (by simp [results, Tryz.results31, go_sem, d0, d1]) rfl ⟨rfl, ?_⟩
      repeat (first | exact HB2.out | refine Below.setCell ?_ (by simp) _)
  · have HT' : Hid (∀ o : Obj, Calls Tryz.prog 57 #[.slice (some ⟨g, 0, none⟩) l.length cap] (w.alloc o) fun e w' => e = .returned (.tuple #[.pointer none, .int .i64 (coreF l)]) ∧ Below (w.heap.size + 1) (w.alloc o) w') := fun o =>
      (HT.out o).mono fun e w' h => by
        rcases h with ⟨_, h1, h2⟩ | ⟨h, -⟩
        · rw [World.size_alloc] at h2; exact ⟨h1, h2⟩
        · exact absurd h hf
    have ew : CTx l = .agg #[.int .i64 (coreF l), .string ⟨#[]⟩] := by unfold CTx; rw [if_neg hf]
    rw [ew]
    clear HT ew hz hL hrow hN hP
    generalize coreF l = k at HT' hf ⊢
    have hne : (k != 0) = true := by simpa using hf
    go_enter Tryz.func31, Tryz.ntmps31
    go_wp2_with fail
    refine (HT'.out _).mono ?_
    rintro e w1 ⟨rfl, hb⟩
    obtain ⟨hc1, hf1⟩ := bcell (W := w.alloc (.cells #[.int .i64 0, .string ⟨#[]⟩] 31)) (by rw [World.size_alloc]; exact hb)
    have HB1 : Hid (Below w.heap.size w w1) := ((Below.refl _ w).alloc (Nat.le_refl _) _).trans (hb.mono (by omega))
    clear hb
    go_wp2
    refine bodyPost_ret (v := .agg #[.int .i64 k, .string ⟨#[]⟩]) (by simp [results, Tryz.results31, go_sem, hc1]) rfl ⟨rfl, ?_⟩
    repeat (first | exact HB1.out | refine Below.setCell ?_ (by simp) _)
set_option maxHeartbeats 1000000 in
theorem lawCoT_any (w : World) (hG : LT w) (a : Option Addr) (cp : Nat) (l : List Cor) (hl : l.length ≤ 9223372036854775807) (h : MemC w a l) (hz : ∀ (k : Nat) (h : k < l.length), l[k].able) :
    Calls Tryz.prog 6 #[.slice a l.length cp] w fun e w' => e = .returned (.bool true) ∧ Below w.heap.size w w' := by
  have HS : Hid (Calls Tryz.prog 16 #[.slice a l.length cp, .int .i64 1048576] w fun e w' => SZC l w e w') := szCS_any a cp l w 1048576 (Nat.le_refl _) hl h hz
  have HT : Hid (MemC w a l) := h
  have HG : Hid (∀ u, Below w.heap.size w u → LT u) := fun u hu => hG.below hu
  obtain ⟨c, x, hWD⟩ := CTx_form l
  have HE : Hid (CTx l = .agg #[.int .i64 c, .string x]) := hWD
  clear h hz hG hWD hl
  go_enter Tryz.func6, Tryz.ntmps6
  go_wp2_with fail
  refine HS.out.mono ?_
  rintro e w1 ⟨h1, b1⟩
  have B1 : Hid (Below w.heap.size w w1) := b1
  clear b1
  rcases h1 with rfl | ⟨q, hq, rfl, hl, hzl⟩
  · go_wp2
    go_ret
    exact ⟨rfl, B1.out⟩
  have HN : Hid (l.length ≤ 1048576 ∧ ∀ (k : Nat) (h : k < l.length), l[k].small) := ⟨hl, hzl⟩
  have HU : Hid (∀ wx, Below w.heap.size w wx → Calls Tryz.prog 18 #[.slice a l.length cp] wx fun e w' => ∃ g B, e = .returned (.slice (some ⟨g, 0, none⟩) l.length l.length) ∧ IsC w' B g l.length l ∧ Below wx.heap.size wx w') := fun wx hx => (toCS_any a cp l wx hl hzl (HT.out.below hx)).mono fun e w' ⟨h1, h2, h3⟩ => ⟨_, _, h1, h2, h3⟩
  clear hl hzl hq
  go_wp2_with fail
  refine (HU.out _ B1.out).mono ?_
  rintro e w2 ⟨g2, D2, rfl, o2, b2⟩
  have O2 : Hid (RowC w2 D2 g2 l) := o2.row
  have B2 : Hid (Below w.heap.size w w2) := B1.out.trans (b2.mono B1.out.size)
  clear o2 b2
  go_wp2_with fail
  refine (specCoT_any _ _ _ l w2 O2.out HN.out.2).mono ?_
  rw [HE.out]
  rintro e w3 ⟨rfl, b3⟩
  have B3 : Hid (Below w.heap.size w w3) := B2.out.trans (b3.mono B2.out.size)
  have z3 : w.heap.size ≤ w3.heap.size := B3.out.size
  clear b3 O2
  go_wp2_with fail
  refine (HU.out _ (B3.out.alloc z3 _)).mono ?_
  rintro e w4 ⟨g4, D4, rfl, o4, b4⟩
  have O4 : Hid (IsC w4 D4 g4 l.length l) := o4
  have B4 : Hid (Below w.heap.size w w4) := (B3.out.alloc z3 _).trans (b4.mono (by simp; omega))
  obtain ⟨c4, f4⟩ := bcell b4
  have z4 : w3.heap.size < w4.heap.size := by have := b4.size; simp at this; omega
  clear o4 b4
  go_wp2_with fail
  refine (implCoT_any _ _ _ l w4 O4.out HN.out.2 (HG.out _ B4.out)).mono ?_
  rw [HE.out]
  rintro e w5 ⟨rfl, b5⟩
  obtain ⟨c5, f5⟩ := bcell b5
  have O5 : Hid (RowC w5 D4 g4 l) := O4.out.row.below b5
  have z5 : w3.heap.size < w5.heap.size := by have := b5.size; omega
  have B5 : Hid (Below w.heap.size w w5) := B4.out.trans (b5.mono (by omega))
  clear b5 O4
  go_wp2_with fail
  refine (eqText_same _ _ _).mono ?_
  rintro e w6 ⟨rfl, b6⟩
  have O6 : Hid (RowC w6 D4 g4 l) := (O5.out.below ((Below.refl _ w5).alloc (Nat.le_refl _) _)).below b6
  have B6 : Hid (Below w.heap.size w w6) := (B5.out.alloc (by omega) _).trans (b6.mono (by simp; omega))
  clear b6 O5 c4 f4 c5 f5
  go_wp2_with fail
  refine (HU.out _ B6.out).mono ?_
  rintro e w7 ⟨g7, D7, rfl, o7, b7⟩
  have O7 : Hid (RowC w7 D7 g7 l) := o7.row
  have P7 : Hid (RowC w7 D4 g4 l) := O6.out.below b7
  have B7 : Hid (Below w.heap.size w w7) := B6.out.trans (b7.mono B6.out.size)
  clear o7 b7 O6
  go_wp2_with fail
  refine (eqCS_same _ _ _ _ _ _ l w7 HN.out.1 HN.out.2 P7.out O7.out).mono ?_
  rintro e w8 ⟨rfl, b8⟩
  have B8 : Hid (Below w.heap.size w w8) := B7.out.trans (b8.mono B7.out.size)
  clear b8 P7 O7
  go_wp2
  go_ret
  exact ⟨rfl, B8.out⟩
end Go.Proofs.YtebnonpdaddniaaGreatDoor
