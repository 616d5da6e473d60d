/-
  Parts of the proof laid into one text, one behind the other; each says at its head what is proved in it.
-/
import Derived.Test.YtebnonpdaddniaaGreatDoorWriteMHt
import Derived.Test.YtebnonpdaddniaaGreatDoorHtN
/-
  The program's dataText and coreWord: the text of data without fault, and what a core's text begins with; nothing that was there is turned.
-/
namespace Go.Proofs.YtebnonpdaddniaaGreatDoor
open Go.RowKit Go.Extern.Stop Go.Stop Go.Extern Num Go.Lib Go.Shelf

theorem dataTextC_any (g cap B : Nat) (d : List Dat) (w : World) (h : w.ownsRow B 100 4 (.slice (some ⟨g, 0, none⟩) d.length cap) d.length (cellsD d)) (hz : ∀ (k : Nat) (h : k < d.length), d[k].name.size ≤ 1048576) (hf : dataFault d = 0) (hL : LT w) :
    Calls Tryz.prog 165 #[.slice (some ⟨g, 0, none⟩) d.length cap] w fun e w' => e = .returned (.string ⟨(writeF d d.length 0).toArray⟩) ∧ Below w.heap.size w w' := by
  have F := fine_of hf
  have HT : Hid (Calls Tryz.prog 63 #[.slice (some ⟨g, 0, none⟩) d.length cap] w fun e w' => e = .returned (.tuple #[.pointer (some ⟨w.heap.size, 0, none⟩), .int .i64 0]) ∧ OwnT w.heap.size w.heap.size (nodes d) w' ∧ Below w.heap.size w w') :=
    (treeOf_any _ cap B d w h hz hL).mono fun e w' h => by
      rcases h with h | ⟨_, h1, h2, h3⟩
      · exact absurd hf h.1
      · exact ⟨h1, h2, h3⟩
  have HW : Hid (∀ (u : World) (tb : Nat), LT u → IsTree u.heap.size u tb (nodes d) → Calls Tryz.prog 198 #[.pointer (some ⟨tb, 0, none⟩)] u fun e W' => e = .returned (.string ⟨(writeF d d.length 0).toArray⟩) ∧ Below u.heap.size u W') := fun u tb hu hT => wt_any F (pdn_nodes F hz) F.pos hz tb u hu hT
  have HL : Hid (LT w) := hL
  clear h hz hf F hL
  generalize (⟨(writeF d d.length 0).toArray⟩ : ByteArray) = tx at HW ⊢
  go_enter Tryz.func165, Tryz.ntmps165
  go_wp2_with fail
  refine HT.out.mono ?_
  rintro e w1 ⟨rfl, ho, hb⟩
  have HO : Hid (OwnT w.heap.size w.heap.size (nodes d) w1) := ho
  have HB : Hid (Below w.heap.size w w1) := hb
  clear ho hb
  go_wp2_with fail
  refine (HW.out _ _ (HL.out.below HB.out) HO.out.tree).mono ?_
  rintro e w2 ⟨rfl, b2⟩
  have HB2 : Hid (Below w.heap.size w w2) := HB.out.trans (b2.mono HB.out.size)
  clear b2
  go_wp2
  go_ret
  exact ⟨rfl, HB2.out⟩
set_option maxRecDepth 100000 in
set_option maxHeartbeats 1000000 in
theorem coreWord_4 (k p a b : Int) (z : ByteArray) (d : List Dat) (gk dc : Nat) (w : World) (hk : k = 4) :
    Calls Tryz.prog 121 #[.agg #[.int .i64 k, .int .i64 p, .int .i64 a, .int .i64 b, .string z, .slice (some ⟨gk, 0, none⟩) d.length dc]] w fun e w' => e = .returned (.string ⟨(wordC ⟨k, p, a, b, z, d⟩).toArray⟩) ∧ Below w.heap.size w w' := by
  subst hk
  show Calls _ _ _ w fun e w' => e = .returned (.string ⟨#[40, 105, 102]⟩) ∧ _
  go_enter Tryz.func121, Tryz.ntmps121
  go_wp2
  go_ret
  exact ⟨rfl, ((Below.refl _ w).alloc (Nat.le_refl _) _)⟩
set_option maxRecDepth 100000 in
set_option maxHeartbeats 1000000 in
theorem coreWord_6 (k p a b : Int) (z : ByteArray) (d : List Dat) (gk dc : Nat) (w : World) (hk : k = 6) :
    Calls Tryz.prog 121 #[.agg #[.int .i64 k, .int .i64 p, .int .i64 a, .int .i64 b, .string z, .slice (some ⟨gk, 0, none⟩) d.length dc]] w fun e w' => e = .returned (.string ⟨(wordC ⟨k, p, a, b, z, d⟩).toArray⟩) ∧ Below w.heap.size w w' := by
  subst hk
  show Calls _ _ _ w fun e w' => e = .returned (.string ⟨#[40, 115, 101, 113]⟩) ∧ _
  go_enter Tryz.func121, Tryz.ntmps121
  go_wp2
  go_ret
  exact ⟨rfl, ((Below.refl _ w).alloc (Nat.le_refl _) _)⟩
set_option maxRecDepth 100000 in
set_option maxHeartbeats 1000000 in
theorem coreWord_9 (k p a b : Int) (z : ByteArray) (d : List Dat) (gk dc : Nat) (w : World) (hk : k = 9) :
    Calls Tryz.prog 121 #[.agg #[.int .i64 k, .int .i64 p, .int .i64 a, .int .i64 b, .string z, .slice (some ⟨gk, 0, none⟩) d.length dc]] w fun e w' => e = .returned (.string ⟨(wordC ⟨k, p, a, b, z, d⟩).toArray⟩) ∧ Below w.heap.size w w' := by
  subst hk
  show Calls _ _ _ w fun e w' => e = .returned (.string ⟨#[40, 97, 112, 112]⟩) ∧ _
  go_enter Tryz.func121, Tryz.ntmps121
  go_wp2
  go_ret
  exact ⟨rfl, ((Below.refl _ w).alloc (Nat.le_refl _) _)⟩
set_option maxRecDepth 100000 in
set_option maxHeartbeats 1000000 in
theorem coreWord_3 (k p a b : Int) (z : ByteArray) (d : List Dat) (gk dc : Nat) (w : World) (hk : k = 3) :
    Calls Tryz.prog 121 #[.agg #[.int .i64 k, .int .i64 p, .int .i64 a, .int .i64 b, .string z, .slice (some ⟨gk, 0, none⟩) d.length dc]] w fun e w' => e = .returned (.string ⟨(wordC ⟨k, p, a, b, z, d⟩).toArray⟩) ∧ Below w.heap.size w w' := by
  subst hk
  have e1 : (⟨(wordC ⟨3, p, a, b, z, d⟩).toArray⟩ : ByteArray) = z := by simp [wordC]
  rw [e1]
  go_enter Tryz.func121, Tryz.ntmps121
  go_wp2
  go_ret
  exact ⟨rfl, ((Below.refl _ w).alloc (Nat.le_refl _) _)⟩
set_option maxRecDepth 100000 in
set_option maxHeartbeats 1000000 in
theorem coreWord_7 (k p a b : Int) (z : ByteArray) (d : List Dat) (gk dc : Nat) (w : World) (hk : k = 7) (hz : z.size ≤ 1000) :
    Calls Tryz.prog 121 #[.agg #[.int .i64 k, .int .i64 p, .int .i64 a, .int .i64 b, .string z, .slice (some ⟨gk, 0, none⟩) d.length dc]] w fun e w' => e = .returned (.string ⟨(wordC ⟨k, p, a, b, z, d⟩).toArray⟩) ∧ Below w.heap.size w w' := by
  subst hk
  obtain ⟨x, hx⟩ : ∃ x : ByteArray, x = ⟨(wordC ⟨7, p, a, b, z, d⟩).toArray⟩ := ⟨_, rfl⟩
  rw [← hx]
  have HA : Hid (∀ u, (Op.stringOp .add ⟨#[40, 115, 101, 116, 32]⟩ z).run Tryz.prog u = .ok (.string x) u) := fun u => by
    have hl : z.data.toList.length = z.size := by rw [Array.length_toList]; rfl
    have := str_add [40, 115, 101, 116, 32] z.data.toList (by simp at hl ⊢; omega) u
    rw [hx]
    simpa [wordC] using this
  clear hx
  have ha := HA.out
  go_enter Tryz.func121, Tryz.ntmps121
  go_wp2
  go_ret
  exact ⟨rfl, ((Below.refl _ w).alloc (Nat.le_refl _) _)⟩
set_option maxRecDepth 100000 in
set_option maxHeartbeats 1000000 in
theorem coreWord_8 (k p a b : Int) (z : ByteArray) (d : List Dat) (gk dc : Nat) (w : World) (hk : k = 8) (hz : z.size ≤ 1000) :
    Calls Tryz.prog 121 #[.agg #[.int .i64 k, .int .i64 p, .int .i64 a, .int .i64 b, .string z, .slice (some ⟨gk, 0, none⟩) d.length dc]] w fun e w' => e = .returned (.string ⟨(wordC ⟨k, p, a, b, z, d⟩).toArray⟩) ∧ Below w.heap.size w w' := by
  subst hk
  obtain ⟨x, hx⟩ : ∃ x : ByteArray, x = ⟨(wordC ⟨8, p, a, b, z, d⟩).toArray⟩ := ⟨_, rfl⟩
  rw [← hx]
  have HA : Hid (∀ u, (Op.stringOp .add ⟨#[40, 100, 101, 102, 32]⟩ z).run Tryz.prog u = .ok (.string x) u) := fun u => by
    have hl : z.data.toList.length = z.size := by rw [Array.length_toList]; rfl
    have := str_add [40, 100, 101, 102, 32] z.data.toList (by simp at hl ⊢; omega) u
    rw [hx]
    simpa [wordC] using this
  clear hx
  have ha := HA.out
  go_enter Tryz.func121, Tryz.ntmps121
  go_wp2
  go_ret
  exact ⟨rfl, ((Below.refl _ w).alloc (Nat.le_refl _) _)⟩
set_option maxRecDepth 100000 in
set_option maxHeartbeats 1000000 in
theorem coreWord_5 (k p a b : Int) (z : ByteArray) (d : List Dat) (gk dc : Nat) (w : World) (hk : k = 5) (ha : inB a = true) (hL : TB w) :
    Calls Tryz.prog 121 #[.agg #[.int .i64 k, .int .i64 p, .int .i64 a, .int .i64 b, .string z, .slice (some ⟨gk, 0, none⟩) d.length dc]] w fun e w' => e = .returned (.string ⟨(wordC ⟨k, p, a, b, z, d⟩).toArray⟩) ∧ Below w.heap.size w w' := by
  subst hk
  obtain ⟨x, hx⟩ : ∃ x : ByteArray, x = ⟨(wordC ⟨5, p, a, b, z, d⟩).toArray⟩ := ⟨_, rfl⟩
  obtain ⟨y, hy⟩ : ∃ y : ByteArray, y = ⟨(itoa a).toArray⟩ := ⟨_, rfl⟩
  rw [← hx]
  have HF : Hid (∀ u, Below w.heap.size w u → Calls Tryz.prog 48 #[.int .i64 a, .int .i64 10] u fun e w' => e = .returned (.string y) ∧ Below u.heap.size u w') := fun u hu => by rw [hy]; exact fmt_in a u ha (hL.below hu)
  have HA : Hid (∀ u, (Op.stringOp .add ⟨#[40, 102, 110, 32]⟩ y).run Tryz.prog u = .ok (.string x) u) := fun u => by
    have hl := itoa_len a ha
    have := str_add [40, 102, 110, 32] (itoa a) (by simp; omega) u
    rw [hx, hy]
    simpa [wordC] using this
  clear hx hy ha hL
  have ha := HA.out
  go_enter Tryz.func121, Tryz.ntmps121
  go_wp2_with fail
  refine (HF.out _ ((Below.refl _ w).alloc (Nat.le_refl _) _)).mono ?_
  rintro e w1 ⟨rfl, b1⟩
  have HB : Hid (Below w.heap.size w w1) := ((Below.refl _ w).alloc (Nat.le_refl _) _).trans (b1.mono (by simp))
  clear b1
  go_wp2
  go_ret
  exact ⟨rfl, HB.out⟩
set_option maxRecDepth 100000 in
set_option maxHeartbeats 1000000 in
theorem coreWord_1 (k p a b : Int) (z : ByteArray) (d : List Dat) (gk dc : Nat) (w : World) (hk : k = 1) (B : Nat) (h : w.ownsRow B 100 4 (.slice (some ⟨gk, 0, none⟩) d.length dc) d.length (cellsD d)) (hz : ∀ (k : Nat) (h : k < d.length), d[k].name.size ≤ 1048576) (hf : dataFault d = 0) (hL : LT w) :
    Calls Tryz.prog 121 #[.agg #[.int .i64 k, .int .i64 p, .int .i64 a, .int .i64 b, .string z, .slice (some ⟨gk, 0, none⟩) d.length dc]] w fun e w' => e = .returned (.string ⟨(wordC ⟨k, p, a, b, z, d⟩).toArray⟩) ∧ Below w.heap.size w w' := by
  subst hk
  obtain ⟨x, hx⟩ : ∃ x : ByteArray, x = ⟨(wordC ⟨1, p, a, b, z, d⟩).toArray⟩ := ⟨_, rfl⟩
  obtain ⟨y, hy⟩ : ∃ y : ByteArray, y = ⟨(writeF d d.length 0).toArray⟩ := ⟨_, rfl⟩
  rw [← hx]
  have HF : Hid (∀ o, Calls Tryz.prog 165 #[.slice (some ⟨gk, 0, none⟩) d.length dc] (w.alloc o) fun e w' => e = .returned (.string y) ∧ Below (w.alloc o).heap.size (w.alloc o) w') := fun o => by rw [hy]; exact dataTextC_any gk dc B d _ (h.alloc o) hz hf (hL.alloc o)
  have HA : Hid (∀ u, (Op.stringOp .add ⟨#[39]⟩ y).run Tryz.prog u = .ok (.string x) u) := fun u => by
    have F := fine_of hf
    have hl := write_small F d.length 0 F.pos
    have := str_add [39] (writeF d d.length 0) (by simp; omega) u
    rw [hx, hy]
    simpa [wordC] using this
  clear hx hy h hz hf hL
  have ha := HA.out
  go_enter Tryz.func121, Tryz.ntmps121
  go_wp2_with fail
  refine (HF.out _).mono ?_
  rintro e w1 ⟨rfl, b1⟩
  have HB : Hid (Below w.heap.size w w1) := ((Below.refl _ w).alloc (Nat.le_refl _) _).trans (b1.mono (by simp))
  clear b1
  go_wp2
  go_ret
  exact ⟨rfl, HB.out⟩
set_option maxRecDepth 100000 in
set_option maxHeartbeats 1000000 in
theorem coreWord_2 (k p a b : Int) (z : ByteArray) (d : List Dat) (gk dc : Nat) (w : World) (hk : k = 2) (ha : inB a = true) (hb : inB b = true) (hL : TB w) :
    Calls Tryz.prog 121 #[.agg #[.int .i64 k, .int .i64 p, .int .i64 a, .int .i64 b, .string z, .slice (some ⟨gk, 0, none⟩) d.length dc]] w fun e w' => e = .returned (.string ⟨(wordC ⟨k, p, a, b, z, d⟩).toArray⟩) ∧ Below w.heap.size w w' := by
  subst hk
  obtain ⟨x4, hx⟩ : ∃ x : ByteArray, x = ⟨(wordC ⟨2, p, a, b, z, d⟩).toArray⟩ := ⟨_, rfl⟩
  obtain ⟨y, hy⟩ : ∃ y : ByteArray, y = ⟨(itoa a).toArray⟩ := ⟨_, rfl⟩
  obtain ⟨v, hv⟩ : ∃ y : ByteArray, y = ⟨(itoa b).toArray⟩ := ⟨_, rfl⟩
  obtain ⟨x2, hx2⟩ : ∃ y : ByteArray, y = ⟨(37 :: itoa a).toArray⟩ := ⟨_, rfl⟩
  obtain ⟨x3, hx3⟩ : ∃ y : ByteArray, y = ⟨((37 :: itoa a) ++ [46]).toArray⟩ := ⟨_, rfl⟩
  rw [← hx]
  obtain ⟨W, hW⟩ : ∃ W, W = w.alloc (.cells #[.int .i64 2, .int .i64 p, .int .i64 a, .int .i64 b, .string z, .slice (some ⟨gk, 0, none⟩) d.length dc] 85) := ⟨_, rfl⟩
  have hLW : TB W := by rw [hW]; exact hL.alloc _
  have hla := itoa_len a ha
  have hlb := itoa_len b hb
  have HF : Hid (∀ p : BW W, Calls Tryz.prog 48 #[.int .i64 a, .int .i64 10] p.x fun e w' => e = .returned (.string y) ∧ Below p.x.heap.size p.x w') := fun p => by rw [hy]; exact fmt_in a _ ha (hLW.below p.h)
  have HG : Hid (∀ p : BW W, Calls Tryz.prog 48 #[.int .i64 b, .int .i64 10] p.x fun e w' => e = .returned (.string v) ∧ Below p.x.heap.size p.x w') := fun p => by rw [hv]; exact fmt_in b _ hb (hLW.below p.h)
  have h1 : ∀ u, (Op.stringOp .add ⟨#[37]⟩ y).run Tryz.prog u = .ok (.string x2) u := fun u => by rw [hy, hx2]; exact str_add [37] (itoa a) (by simp; omega) u
  have h2 : ∀ u, (Op.stringOp .add x2 ⟨#[46]⟩).run Tryz.prog u = .ok (.string x3) u := fun u => by rw [hx2, hx3]; exact str_add (37 :: itoa a) [46] (by simp; omega) u
  have h3 : ∀ u, (Op.stringOp .add x3 v).run Tryz.prog u = .ok (.string x4) u := fun u => by
    have := str_add ((37 :: itoa a) ++ [46]) (itoa b) (by simp; omega) u
    rw [hx3, hv, hx]
    simpa [wordC] using this
  have q2 : ∀ p : BW W, p.x.cell? ⟨w.heap.size, 2, none⟩ = some (.int .i64 a) := fun p => p.cell (by rw [hW, World.cell?_alloc_at _ _ _ _ rfl]; rfl)
  have q3 : ∀ p : BW W, p.x.cell? ⟨w.heap.size, 3, none⟩ = some (.int .i64 b) := fun p => p.cell (by rw [hW, World.cell?_alloc_at _ _ _ _ rfl]; rfl)
  have hne := bw_some W
  have HB : Hid (Below w.heap.size w W) := by rw [hW]; exact ((Below.refl _ w).alloc (Nat.le_refl _) _)
  clear hx hy hv hx2 hx3 ha hb hL hLW hla hlb
  go_enter Tryz.func121, Tryz.ntmps121
  go_wp2_with fail
  rw [← hW]
  clear hW
  refine wp_region_below (by kernel_rfl) (by kernel_rfl) ?_
  repeat (go_big_quiet_step ((first | (go_at_call 48; exact calls_bw (HF.out _)) | (go_at_call 48; exact calls_bw (HG.out _)))))
  refine wpQuiet_nil ?_
  intro wq hw'
  obtain ⟨⟨_, bq⟩, rfl⟩ := hw'
  have HB2 : Hid (Below w.heap.size w wq) := HB.out.trans (bq.mono HB.out.size)
  clear bq
  go_wp2
  go_ret
  exact ⟨rfl, HB2.out⟩
theorem coreWord_any {N : List (Cor × Value)} {l : List Cor} (F : FineC N l) (k : Nat) (hk : k < l.length) (hz : l[k].small) (gk dc B : Nat) (w : World) (h : w.ownsRow B 100 4 (.slice (some ⟨gk, 0, none⟩) l[k].data.length dc) l[k].data.length (cellsD l[k].data)) (hL : LT w) :
    Calls Tryz.prog 121 #[l[k].val (.slice (some ⟨gk, 0, none⟩) l[k].data.length dc)] w fun e w' => e = .returned (.string ⟨(wordC l[k]).toArray⟩) ∧ Below w.heap.size w w' := by
  have hok := F.ok k hk hk
  have hkd := core_kind hok
  have hnb := numC_in F k hk
  have hcn := fun h => core_nm hok h
  have hdf : l[k].kind = 1 → dataFault l[k].data = 0 := fun h1 => by
    obtain ⟨-, -, hc⟩ := oneC_parts hok
    unfold contC at hc
    rw [if_pos h1] at hc
    exact hc
  obtain ⟨t, ht⟩ : ∃ t, t = l[k]'hk := ⟨_, rfl⟩
  rw [← ht] at hz h hkd hnb hcn hdf ⊢
  clear ht hok
  obtain ⟨kd, p, a, b, z, d⟩ := t
  simp only at h hkd hnb hcn hdf
  show Calls _ _ #[.agg #[.int .i64 kd, .int .i64 p, .int .i64 a, .int .i64 b, .string z, .slice (some ⟨gk, 0, none⟩) d.length dc]] w _
  by_cases h1 : kd = 1
  · exact coreWord_1 kd p a b z d gk dc w h1 B h hz.names (hdf h1) hL
  by_cases h2 : kd = 2
  · exact coreWord_2 kd p a b z d gk dc w h2 (hnb (.inl h2)).1 ((hnb (.inl h2)).2 h2) hL.tab
  by_cases h3 : kd = 3
  · exact coreWord_3 kd p a b z d gk dc w h3
  by_cases h4 : kd = 4
  · exact coreWord_4 kd p a b z d gk dc w h4
  by_cases h5 : kd = 5
  · exact coreWord_5 kd p a b z d gk dc w h5 (hnb (.inr h5)).1 hL.tab
  by_cases h6 : kd = 6
  · exact coreWord_6 kd p a b z d gk dc w h6
  by_cases h7 : kd = 7
  · exact coreWord_7 kd p a b z d gk dc w h7 (by have := hcn (.inr (.inl h7)); omega)
  by_cases h8 : kd = 8
  · exact coreWord_8 kd p a b z d gk dc w h8 (by have := hcn (.inr (.inr h8)); omega)
  · exact coreWord_9 kd p a b z d gk dc w (by omega)
end Go.Proofs.YtebnonpdaddniaaGreatDoor
/-
  The program's told over a tree of cores, and writeCores: the text of cores without fault, written along what is told of them; nothing that was there is turned.
-/
namespace Go.Proofs.YtebnonpdaddniaaGreatDoor
open Go.RowKit Go.Extern.Stop Go.Stop Go.Extern Num Go.Lib Go.Shelf
attribute [local go_sem] Oper.semAt_some

theorem told_inC (F : Fence) (n : Nat) (hF : ∀ f, F.fn f) (hro : F.round = none) (p : Option Addr) (a : Int) (w : World) :
    CallsIn F n Tryz.prog 119 #[.pointer p, .int .i64 a] w fun e w' => e = .returned (.func (.func 163) #[] #[.pointer (some ⟨w.heap.size, 0, none⟩), .pointer (some ⟨w.heap.size + 1, 0, none⟩)]) ∧
      w' = (w.alloc (.cells #[.pointer p] 87)).alloc (.cells #[.int .i64 a] 2) := by
  refine callsIn_of_wp Tryz.func119 rfl (hF _) ?_ hro
  simp only [Tryz.ntmps119, List.size_toArray, List.length_cons, List.length_nil, Nat.reduceAdd, Nat.reduceSub, Array.replicate_succ, Array.replicate_zero, List.push_toArray, List.append_toArray, List.nil_append, List.cons_append]
  gi_wp2
  go_ret
  exact ⟨rfl, rfl⟩
theorem told_seqC {N : List (Cor × Value)} {d : List Cor} (Fi : FineC N d) (hPd : ∀ (k : Nat) (h : k < N.length), PdNC ((k : Int), N[k])) (hd : 0 < d.length) (n₀ tb bt ba : Nat) (w : World) (hn₀ : n₀ ≤ w.heap.size)
    (hBt : w.cell? ⟨bt, 0, none⟩ = some (.pointer (some ⟨tb, 0, none⟩))) (hBa : w.cell? ⟨ba, 0, none⟩ = some (.int .i64 0)) (hbt : bt < w.heap.size) (hba : ba < w.heap.size) (hT : IsTreeC n₀ w tb N) :
    SeqM Tryz.prog 163 #[.pointer (some ⟨bt, 0, none⟩), .pointer (some ⟨ba, 0, none⟩)] (fun x : Int × Bool => #[.int .i64 x.1, .bool x.2]) n₀ (evC d d.length 0) w := fun y M J W hW hn hO hY h0 => by
  have c0 : W.cell? ⟨bt, 0, none⟩ = some (.pointer (some ⟨tb, 0, none⟩)) := (hW.cell (p := ⟨bt, 0, none⟩) hbt).trans hBt
  have c1 : W.cell? ⟨ba, 0, none⟩ = some (.int .i64 0) := (hW.cell (p := ⟨ba, 0, none⟩) hba).trans hBa
  have HC : Hid (Calls Tryz.prog 164 #[.pointer (some ⟨tb, 0, none⟩), .int .i64 0, .func (.yield y) #[] #[]] W fun e W' => e = .returned (.bool true) ∧ J ([] ++ evC d d.length 0) W' ∧ Kq n₀ M W W') :=
    tell_anyC Fi hPd n₀ W.heap.size tb y M J hO hn (evC d d.length 0) hY d.length 0 [] W hd (by omega) (List.prefix_refl _) h0 (Nat.le_refl _) (hT.below (hW.mono hn₀))
  show Calls Tryz.prog _ #[.func (.yield y) #[] #[], .pointer (some ⟨bt, 0, none⟩), .pointer (some ⟨ba, 0, none⟩)] W _
  clear hY h0 hO hT hPd Fi
  go_enter Tryz.func163, Tryz.ntmps163
  go_wp2_with (go_at_call 164; refine HC.out.mono ?_; rintro e W' ⟨rfl, j, k⟩)
  exact bodyPost_end (v := .tuple #[]) (by simp [results, Tryz.results163]) rfl ⟨⟨_, rfl⟩, j, k.size⟩
/-- A text in the builder; the tree's place; all else as it was. -/
def JLC (w : World) (tb : Nat) (l : List UInt8) (X : World) : Prop := (∃ v, BldV w.heap.size (w.heap.size + 1) v (byteCells l) X) ∧ Boxed X w.heap.size 87 (.pointer (some ⟨tb, 0, none⟩)) ∧ Below w.heap.size w X
theorem jl_ownC (d : List Cor) (w : World) (tb B : Nat) (hB : w.heap.size + 2 ≤ B) : OwnM w.heap.size B (Mb (w.heap.size + 1)) (fun pre => JLC w tb (evTC d pre)) where
  keep := fun s W W' h hb hl hm => by
    obtain ⟨⟨v, hv⟩, hx, hw⟩ := h
    exact ⟨⟨v, hv.keep hm⟩, (hl _ (by omega)).trans hx, hw.trans hb⟩
  read := fun s W W' h hm b hb => Mb.read (hm _ (.inl rfl)) hb
  cells := fun s W b h hb => by
    obtain ⟨⟨v, hv⟩, -⟩ := h
    exact hv.cells hb
theorem JLC.below {w : World} {tb : Nat} {l : List UInt8} {X X' : World} (h : JLC w tb l X) (hb : Below X.heap.size X X') : JLC w tb l X' := by
  obtain ⟨⟨v, hv⟩, hx, hw⟩ := h
  exact ⟨⟨v, hv.below hb⟩, (hb.block _ hx.lt).trans hx, hw.trans (hb.mono hw.size)⟩
theorem JLC.kq {w : World} {tb : Nat} {l : List UInt8} {X X' : World} (h : JLC w tb l X) (hb : Below X.heap.size X X') : Kq w.heap.size (Mb (w.heap.size + 1)) X X' := by
  obtain ⟨⟨v, hv⟩, hx, hw⟩ := h
  exact kq_mb hb hw.size hv.lt
theorem JLC.not_new {w : World} {tb : Nat} {l : List UInt8} {X : World} (h : JLC w tb l X) (o : Obj) : ¬ Mb (w.heap.size + 1) (X.alloc o) X.heap.size := fun hm => by
  obtain ⟨⟨v, hv⟩, hx, hw⟩ := h
  obtain ⟨o', ho, _⟩ := hv.cells (Mb.read (Below.heap_alloc X o _ hv.lt) hm)
  have := (Array.getElem?_eq_some_iff.1 ho).1
  omega
/-- A text written behind the text so far. -/
theorem JLC.write {w : World} {tb : Nat} {l : List UInt8} (s : ByteArray) {X : World} (h : JLC w tb l X) (hlen : l.length + s.size ≤ 1000000) :
    Calls Tryz.prog 86 #[.pointer (some ⟨w.heap.size + 1, 0, none⟩), .string s] X fun e X' => ∃ r, e = .returned r ∧ JLC w tb (l ++ s.data.toList) X' ∧ Kq w.heap.size (Mb (w.heap.size + 1)) X X' := by
  obtain ⟨⟨v, hv⟩, hx, hw⟩ := h
  refine (ws_any w.heap.size (w.heap.size + 1) v (byteCells l) s X hv (by rw [byteCells_len]; omega) hw.size).mono ?_
  rintro e X' ⟨r, v', rfl, hv', hk⟩
  rw [cells_str] at hv'
  have hnm : ¬ Mb (w.heap.size + 1) X w.heap.size := fun hm => by
    rcases hv.mb.1 hm with e | e
    · omega
    · exact (hx.not_row (e := 5) (by decide) hv.2.2.1) e.symm
  exact ⟨r, rfl, ⟨⟨v', hv'⟩, (hk.2.1 _ hx.lt hnm).trans hx, hw.trans hk.1⟩, hk⟩
theorem evC_mem {l : List Cor} : ∀ (f a : Nat) (x : Int × Bool), a < l.length → x ∈ evC l f a → ∃ j : Nat, x.1 = (j : Int) ∧ j < l.length
  | 0, _, _, _, h => by simp [evC] at h
  | f + 1, a, x, ha, h => by
    simp only [evC, List.mem_append, List.mem_singleton, List.mem_flatMap] at h
    rcases h with (rfl | ⟨p, hp, hx⟩) | rfl
    · exact ⟨a, rfl, ha⟩
    · obtain ⟨j, rfl, hj, _⟩ := (kids_mem l _ _).1 hp
      exact evC_mem f _ x hj hx
    · exact ⟨a, rfl, ha⟩
theorem evC_len {N : List (Cor × Value)} {l : List Cor} (F : FineC N l) {pre : List (Int × Bool)} {x : Int × Bool} (h : pre ++ [x] <+: evC l l.length 0) : (evTC l pre).length + (stepC l x).length ≤ 272000 := by
  obtain ⟨t, ht⟩ := h
  have h1 := evTC_whole F
  rw [← ht, evTC_append, evTC_append, evTC_one] at h1
  have h2 := writeC_small F (fun k hk => word_all F k hk) l.length 0 F.pos
  rw [← h1] at h2
  simp at h2
  omega
abbrev actWC (A tb : Nat) (z : Int) (b : Bool) : Act := { tmps := #[.pointer (some ⟨tb, 0, none⟩), .pointer (some ⟨A, 0, none⟩), .string ⟨#[]⟩, .pointer (some ⟨A + 1, 0, none⟩), .int .i64 z, .bool b, undef, undef, undef, .pointer (some ⟨tb, 0, none⟩), .func (.func 163) #[] #[.pointer (some ⟨A + 1 + 1, 0, none⟩), .pointer (some ⟨A + 1 + 1 + 1, 0, none⟩)], .int .i64 z, .bool b, undef, undef, undef, undef, undef, undef, undef, undef, undef, undef, undef, undef, undef, undef, undef, undef, undef, undef, undef, undef, undef, undef, undef, undef, undef, undef], defers := [] }
set_option maxRecDepth 100000 in
set_option maxHeartbeats 4000000 in
theorem writeCores_any {N : List (Cor × Value)} {l : List Cor} (F : FineC N l) (hPd : ∀ (k : Nat) (h : k < N.length), PdNC ((k : Int), N[k])) (hz : ∀ (k : Nat) (h : k < l.length), l[k].small) (tb : Nat) (w : World) (hL : LT w) (hT : IsTreeC w.heap.size w tb N)
    (hD : ∀ (k : Nat) (h : k < l.length) (h2 : k < N.length), ∃ gk B, N[k].2 = .slice (some ⟨gk, 0, none⟩) l[k].data.length l[k].data.length ∧ w.ownsRow B 100 4 (.slice (some ⟨gk, 0, none⟩) l[k].data.length l[k].data.length) l[k].data.length (cellsD l[k].data)) :
    Calls Tryz.prog 71 #[.pointer (some ⟨tb, 0, none⟩)] w fun e W' => e = .returned (.string ⟨(writeC l l.length 0).toArray⟩) ∧ Below w.heap.size w W' := by
  have hF : ∀ f, Fence.wide.fn f := fun _ => trivial
  obtain ⟨T, hTe⟩ : ∃ T, T = writeC l l.length 0 := ⟨_, rfl⟩
  rw [← hTe]
  have HTe : Hid (T = writeC l l.length 0) := hTe
  clear hTe
  refine (callsIn_wide (n := 10)).1 ?_
  refine callsIn_of_wp_marks Tryz.func71 rfl trivial ?_ rfl
  simp only [Tryz.ntmps71, List.size_toArray, List.length_cons, List.length_nil, Nat.reduceAdd, Nat.reduceSub, Array.replicate_succ, Array.replicate_zero, List.push_toArray, List.append_toArray, List.nil_append, List.cons_append]
  gi_wp2_with (gi_at_call 119; refine (told_inC Fence.wide (10 - 1) hF rfl _ _ _).mono ?_; rintro e w' ⟨rfl, rfl⟩)
  obtain ⟨w4, hw4⟩ : ∃ w4, w4 = ((((w.alloc (.cells #[.pointer (some ⟨tb, 0, none⟩)] 87)).alloc (.cells #[.pointer none, .slice none 0 0] 137)).alloc (.cells #[.pointer (some ⟨tb, 0, none⟩)] 87)).alloc (.cells #[.int .i64 0] 2)) := ⟨_, rfl⟩
  have hs4 : w4.heap.size = w.heap.size + 4 := by rw [hw4]; simp
  have b4 : Below w.heap.size w w4 := by rw [hw4]; exact ((((Below.refl _ w).alloc (Nat.le_refl _) _).alloc (by simp) _).alloc (by simp; omega) _).alloc (by simp; omega) _
  have x0 : Boxed w4 w.heap.size 87 (.pointer (some ⟨tb, 0, none⟩)) := by rw [hw4]; exact (((Boxed.new w _ _).alloc _).alloc _).alloc _
  have x1 : w4.heap[w.heap.size + 1]? = some (.cells #[.pointer none, .slice none 0 0] 137 (0, 0)) := by
    have h := World.alloc_heap_new (w.alloc (.cells #[.pointer (some ⟨tb, 0, none⟩)] 87)) (.cells #[.pointer none, .slice none 0 0] 137)
    rw [World.size_alloc] at h
    rw [hw4]
    exact (Below.heap_alloc _ _ _ (by simp)).trans ((Below.heap_alloc _ _ _ (by simp)).trans h)
  have x2 : Boxed w4 (w.heap.size + 1 + 1) 87 (.pointer (some ⟨tb, 0, none⟩)) := by
    have := Boxed.new ((w.alloc (.cells #[.pointer (some ⟨tb, 0, none⟩)] 87)).alloc (.cells #[.pointer none, .slice none 0 0] 137)) 87 (.pointer (some ⟨tb, 0, none⟩))
    rw [World.size_alloc, World.size_alloc] at this
    rw [hw4]; exact this.alloc _
  have x3 : Boxed w4 (w.heap.size + 1 + 1 + 1) 2 (.int .i64 0) := by
    have := Boxed.new (((w.alloc (.cells #[.pointer (some ⟨tb, 0, none⟩)] 87)).alloc (.cells #[.pointer none, .slice none 0 0] 137)).alloc (.cells #[.pointer (some ⟨tb, 0, none⟩)] 87)) 2 (.int .i64 0)
    rw [World.size_alloc, World.size_alloc, World.size_alloc] at this
    rw [hw4]; exact this
  have j0 : JLC w tb (evTC l []) w4 := ⟨⟨.slice none 0 0, by omega, ⟨_, .inl rfl, x1⟩, World.ownsRow_nil _ _ _ _, by simp [Value.ownBlock]⟩, x0, b4⟩
  rw [← hw4]
  refine range_M (by omega : 1 ≤ 10) (gf := 163) (lb := #[.pointer (some ⟨w.heap.size + 1 + 1, 0, none⟩), .pointer (some ⟨w.heap.size + 1 + 1 + 1, 0, none⟩)]) rfl (enters_of Tryz.func163 (by kernel_rfl) rfl)
    (told_seqC F hPd F.pos w.heap.size tb (w.heap.size + 1 + 1) (w.heap.size + 1 + 1 + 1) w4 (by omega) x2.cell x3.cell (by omega) (by omega) (hT.below b4)) (Below.refl _ _) (by omega) (fun _ => rfl)
    (Mb (w.heap.size + 1)) (fun pre => JLC w tb (evTC l pre)) (jl_ownC l w tb _ (by omega)) j0
    (fun x a' _ => a' = actWC w.heap.size tb x.1 x.2) (fun _ _ _ _ _ _ h _ _ _ => h) ?assign ?body ?done
  case assign =>
    rintro l' pre x X K hI _ _ hK
    gi_wp2
    exact hK _ _ (Kq.refl _ _ _) hI rfl
  case body =>
    rintro l' pre ⟨z, b⟩ a' X hJ rfl hpx hs
    obtain ⟨j, hj1, hj⟩ := evC_mem l.length 0 (z, b) F.pos (hpx.subset (by simp))
    obtain rfl : z = (j : Int) := hj1
    have hlen := evC_len F hpx
    have hFr : ∀ f, (Fence.wide.inRound l').fn f := fun _ => trivial
    have hjn : j < N.length := by rw [F.nlen]; exact hj
    obtain ⟨ao, g, cap, hc, htb, hg, hao, hrow⟩ := hT.below hJ.2.2
    obtain rfl := hao (by intro h; rw [h] at hjn; simp at hjn)
    obtain ⟨c0, c1, c2, c3, c4, c5, c6⟩ := hrow j hjn
    obtain ⟨gk, B, hdv, hown⟩ := hD j hj hjn
    rw [F.at j hj] at c0 c1 c2 c3 c4 c5
    rw [hdv] at c6
    have d0 := hJ.2.1.cell
    have hjl : (j : Int) < (N.length : Int) := by omega
    have hj0 : (0 : Int) ≤ (j : Int) := by omega
    have hj3 : j < 1000 := by have := F.len; omega
    have hst : evTC l (pre ++ [((j : Int), b)]) = evTC l pre ++ stepC l ((j : Int), b) := by rw [evTC_append, evTC_one]
    have HJ : Hid (JLC w tb (evTC l pre) X) := hJ
    have HT : Hid (∀ u, Below w.heap.size w u → Calls Tryz.prog 121 #[l[j].val (.slice (some ⟨gk, 0, none⟩) l[j].data.length l[j].data.length)] u fun e w' => e = .returned (.string ⟨(wordC l[j]).toArray⟩) ∧ Below u.heap.size u w') := fun u hu => coreWord_any F j hj (hz j hj) gk _ B u (own_below hown hu) (hL.below hu)
    have hEnd : stepC l ((j : Int), false) = if mostK l[j].kind > 0 then [41] else [] := by simp [stepC, tailAt, kdC_at l j hj]
    have hTxt : stepC l ((j : Int), true) = blankC (j : Int) ++ wordC l[j] := by simp [stepC, wordAt, hj]
    obtain ⟨dv, hdve⟩ : ∃ dv, dv = Value.slice (some ⟨gk, 0, none⟩) l[j].data.length l[j].data.length := ⟨_, rfl⟩
    have hdvs : ∃ p n c, dv = .slice p n c := ⟨_, _, _, hdve⟩
    rw [← hdve] at c6 HT
    obtain ⟨tx, htx⟩ : ∃ tx : ByteArray, tx = ⟨(wordC l[j]).toArray⟩ := ⟨_, rfl⟩
    have htl : tx.data.toList = wordC l[j] := by rw [htx]
    rw [← htx] at HT
    rw [← htl] at hTxt
    obtain ⟨t, ht⟩ : ∃ t, t = l[j] := ⟨_, rfl⟩
    rw [← ht] at HT c0 c1 c2 c3 c4 c5 hEnd
    clear hdve htx htl ht hdv hown
    obtain ⟨pp, nn, cc, rfl⟩ := hdvs
    have jY : JLC w tb (evTC l pre) (X.alloc (.cells #[.int .i64 t.kind, .int .i64 t.parent, .int .i64 t.a, .int .i64 t.b, .string t.name, .slice pp nn cc] 85)) := HJ.out.below ((Below.refl _ X).alloc (Nat.le_refl _) (.cells #[.int .i64 t.kind, .int .i64 t.parent, .int .i64 t.a, .int .i64 t.b, .string t.name, .slice pp nn cc] 85))
    have kY : Kq w.heap.size (Mb (w.heap.size + 1)) X (X.alloc (.cells #[.int .i64 t.kind, .int .i64 t.parent, .int .i64 t.a, .int .i64 t.b, .string t.name, .slice pp nn cc] 85)) := HJ.out.kq ((Below.refl _ X).alloc (Nat.le_refl _) (.cells #[.int .i64 t.kind, .int .i64 t.parent, .int .i64 t.a, .int .i64 t.b, .string t.name, .slice pp nn cc] 85))
    have nY := HJ.out.not_new (.cells #[.int .i64 t.kind, .int .i64 t.parent, .int .i64 t.a, .int .i64 t.b, .string t.name, .slice pp nn cc] 85)
    have JY : Hid (JLC w tb (evTC l pre) (X.alloc (.cells #[.int .i64 t.kind, .int .i64 t.parent, .int .i64 t.a, .int .i64 t.b, .string t.name, .slice pp nn cc] 85))) := jY
    have KY : Hid (Kq w.heap.size (Mb (w.heap.size + 1)) X (X.alloc (.cells #[.int .i64 t.kind, .int .i64 t.parent, .int .i64 t.a, .int .i64 t.b, .string t.name, .slice pp nn cc] 85))) := kY
    have NY : Hid (¬ Mb (w.heap.size + 1) (X.alloc (.cells #[.int .i64 t.kind, .int .i64 t.parent, .int .i64 t.a, .int .i64 t.b, .string t.name, .slice pp nn cc] 85)) X.heap.size) := nY
    have e0 : (X.alloc (.cells #[.int .i64 t.kind, .int .i64 t.parent, .int .i64 t.a, .int .i64 t.b, .string t.name, .slice pp nn cc] 85)).cell? ⟨X.heap.size, 0, none⟩ = some (.int .i64 t.kind) := (cell_of_heap (World.alloc_heap_new X _) 0).trans rfl
    have E1 : Hid ((X.alloc (.cells #[.int .i64 t.kind, .int .i64 t.parent, .int .i64 t.a, .int .i64 t.b, .string t.name, .slice pp nn cc] 85)).cell? ⟨X.heap.size, 1, none⟩ = some (.int .i64 t.parent) ∧ (X.alloc (.cells #[.int .i64 t.kind, .int .i64 t.parent, .int .i64 t.a, .int .i64 t.b, .string t.name, .slice pp nn cc] 85)).cell? ⟨X.heap.size, 2, none⟩ = some (.int .i64 t.a) ∧ (X.alloc (.cells #[.int .i64 t.kind, .int .i64 t.parent, .int .i64 t.a, .int .i64 t.b, .string t.name, .slice pp nn cc] 85)).cell? ⟨X.heap.size, 3, none⟩ = some (.int .i64 t.b) ∧ (X.alloc (.cells #[.int .i64 t.kind, .int .i64 t.parent, .int .i64 t.a, .int .i64 t.b, .string t.name, .slice pp nn cc] 85)).cell? ⟨X.heap.size, 4, none⟩ = some (.string t.name) ∧ (X.alloc (.cells #[.int .i64 t.kind, .int .i64 t.parent, .int .i64 t.a, .int .i64 t.b, .string t.name, .slice pp nn cc] 85)).cell? ⟨X.heap.size, 5, none⟩ = some (.slice pp nn cc)) :=
      ⟨(cell_of_heap (World.alloc_heap_new X _) 1).trans rfl, (cell_of_heap (World.alloc_heap_new X _) 2).trans rfl, (cell_of_heap (World.alloc_heap_new X _) 3).trans rfl, (cell_of_heap (World.alloc_heap_new X _) 4).trans rfl, (cell_of_heap (World.alloc_heap_new X _) 5).trans rfl⟩
    have hsz : tx.data.toList.length = tx.size := by rw [Array.length_toList]; rfl
    clear hrow hao hJ jY kY nY
    cases b with
    | false =>
      rw [hEnd] at hst hlen
      have HKb : Hid (∀ u, Calls Tryz.prog 120 #[.int .i64 t.kind] u fun e w' => e = .returned (.tuple #[.int .i64 (leastK t.kind), .int .i64 (mostK t.kind)]) ∧ w' = u) := fun u => kidBounds_any _ u
      generalize leastK t.kind = lo at HKb
      generalize mostK t.kind = mo at HKb hst hlen
      by_cases hk : mo > 0
      · rw [if_pos hk] at hst hlen
        have hk2 : 0 < mo := hk
        have HST : Hid (evTC l (pre ++ [((j : Int), false)]) = evTC l pre ++ [41]) := hst
        have HW : Hid (∀ Y, JLC w tb (evTC l pre) Y → Calls Tryz.prog 86 #[.pointer (some ⟨w.heap.size + 1, 0, none⟩), .string ⟨#[41]⟩] Y fun e X' => ∃ r, e = .returned r ∧ JLC w tb (evTC l pre ++ [41]) X' ∧ Kq w.heap.size (Mb (w.heap.size + 1)) Y X') := fun Y hY => hY.write ⟨#[41]⟩ (by have : (⟨#[41]⟩ : ByteArray).size = 1 := rfl; omega)
        clear hst hlen hEnd hTxt HT hpx hk
        gi_wp2_with (first | (gi_at_call 120; refine (((callsIn_wide (n := 10 - 1 - 1 - 1)).2 (HKb.out _)).inRound l').mono ?_; rintro r X3 ⟨rfl, e3⟩; replace e3 := e3.symm; subst e3) | (gi_at_call 86; refine (((callsIn_wide (n := 10 - 1 - 1 - 1)).2 (HW.out _ JY.out)).inRound l').mono ?_; rintro r X' ⟨v, rfl, hJ', hk'⟩))
        exact ⟨KY.out.trans hk', by show JLC w tb (evTC l _) _; rw [HST.out]; exact hJ'⟩
      · rw [if_neg hk, List.append_nil] at hst
        have HST : Hid (evTC l (pre ++ [((j : Int), false)]) = evTC l pre) := hst
        have hk2 : ¬ 0 < mo := hk
        clear hst hlen hEnd hTxt HT hpx hk
        gi_wp2_with (first | (gi_at_call 120; refine (((callsIn_wide (n := 10 - 1 - 1 - 1)).2 (HKb.out _)).inRound l').mono ?_; rintro r X3 ⟨rfl, e3⟩; replace e3 := e3.symm; subst e3))
        exact ⟨KY.out, by show JLC w tb (evTC l _) _; rw [HST.out]; exact JY.out⟩
    | true =>
      rw [hTxt] at hst hlen
      have HW : Hid (∀ L Y, L.length ≤ 300000 → JLC w tb L Y → Calls Tryz.prog 86 #[.pointer (some ⟨w.heap.size + 1, 0, none⟩), .string tx] Y fun e X' => ∃ r, e = .returned r ∧ JLC w tb (L ++ tx.data.toList) X' ∧ Kq w.heap.size (Mb (w.heap.size + 1)) Y X') := fun L Y hL hY => hY.write tx (by simp at hlen; omega)
      by_cases hp : (j : Int) > 0
      · have hpb : 0 < (j : Int) := hp
        have hsp : blankC (j : Int) = [32] := by unfold blankC; rw [if_pos hp]
        rw [hsp] at hst hlen
        have HST : Hid (evTC l (pre ++ [((j : Int), true)]) = (evTC l pre ++ [32]) ++ tx.data.toList) := by show _ = _; rw [hst, List.append_assoc]
        have hlp : (evTC l pre ++ [32]).length ≤ 300000 := by simp at hlen ⊢; omega
        have HB : Hid (∀ Y, JLC w tb (evTC l pre) Y → Calls Tryz.prog 86 #[.pointer (some ⟨w.heap.size + 1, 0, none⟩), .string ⟨#[32]⟩] Y fun e X' => ∃ r, e = .returned r ∧ JLC w tb (evTC l pre ++ [32]) X' ∧ Kq w.heap.size (Mb (w.heap.size + 1)) Y X') := fun Y hY => hY.write ⟨#[32]⟩ (by have : (⟨#[32]⟩ : ByteArray).size = 1 := rfl; omega)
        have hsY : X.heap.size < (X.alloc (.cells #[.int .i64 t.kind, .int .i64 t.parent, .int .i64 t.a, .int .i64 t.b, .string t.name, .slice pp nn cc] 85)).heap.size := by simp
        clear hst hlen hEnd hTxt hpx hsp hp
        gi_wp2_with (first | (gi_at_call 121; refine (((callsIn_wide (n := 10 - 1 - 1 - 1)).2 (HT.out _ j2.2.2)).inRound l').mono ?_; rintro r X3 ⟨rfl, b3⟩) | (gi_at_call 86; refine (((callsIn_wide (n := 10 - 1 - 1 - 1)).2 (HW.out _ _ hlp (j2.below b3))).inRound l').mono ?_; rintro r X' ⟨v, rfl, hJ', hk'⟩) | (gi_at_call 86; refine (((callsIn_wide (n := 10 - 1 - 1 - 1)).2 (HB.out _ JY.out)).inRound l').mono ?_; rintro r X2 ⟨v, rfl, j2, k2⟩; obtain ⟨q1, q2, q3, q4, q5⟩ := E1.out; have r0 := (k2.cell hsY NY.out).trans e0; have r1 := (k2.cell hsY NY.out).trans q1; have r2 := (k2.cell hsY NY.out).trans q2; have r3 := (k2.cell hsY NY.out).trans q3; have r4 := (k2.cell hsY NY.out).trans q4; have r5 := (k2.cell hsY NY.out).trans q5; clear q1 q2 q3 q4 q5))
        exact ⟨((KY.out.trans k2).trans (j2.kq b3)).trans hk', by show JLC w tb (evTC l _) _; rw [HST.out]; exact hJ'⟩
      · have hpb : ¬ 0 < (j : Int) := hp
        have hsp : blankC (j : Int) = [] := by unfold blankC; rw [if_neg hp]
        rw [hsp, List.nil_append] at hst hlen
        have HST : Hid (evTC l (pre ++ [((j : Int), true)]) = evTC l pre ++ tx.data.toList) := hst
        have hlp : (evTC l pre).length ≤ 300000 := by omega
        obtain ⟨q1, q2, q3, q4, q5⟩ := E1.out
        clear hst hlen hEnd hTxt hpx hsp hp
        gi_wp2_with (first | (gi_at_call 121; refine (((callsIn_wide (n := 10 - 1 - 1 - 1)).2 (HT.out _ JY.out.2.2)).inRound l').mono ?_; rintro r X3 ⟨rfl, b3⟩) | (gi_at_call 86; refine (((callsIn_wide (n := 10 - 1 - 1 - 1)).2 (HW.out _ _ hlp (JY.out.below b3))).inRound l').mono ?_; rintro r X' ⟨v, rfl, hJ', hk'⟩))
        exact ⟨(KY.out.trans (JY.out.kq b3)).trans hk', by show JLC w tb (evTC l _) _; rw [HST.out]; exact hJ'⟩
  case done =>
    rintro X hJ hs hK
    have ew := evTC_whole F
    have hJ' : JLC w tb (evTC l (evC l l.length 0)) X := hJ
    rw [ew, ← show T = _ from HTe.out] at hJ'
    obtain ⟨⟨v, hv⟩, hx, hw⟩ := hJ'
    have HS : Hid (Calls Tryz.prog 87 #[.pointer (some ⟨w.heap.size + 1, 0, none⟩)] X fun e w' => e = .returned (.string ⟨T.toArray⟩) ∧ _ ∧ Below w.heap.size X w' ∧ OthersKept 5 (some (w.heap.size + 1)) X w') := Tryz.Builder_String_any_k w.heap.size (w.heap.size + 1) T X (IsBuilderF.of hv.is) hw.size
    clear ew hJ
    gi_wp2_with (gi_at_call 87; refine ((callsIn_wide (n := 10 - 1)).2 HS.out).mono ?_; rintro r X' ⟨rfl, -, hb, hok⟩)
    rw [hs4] at hK
    have hK' : X'.heap[w.heap.size + 1 + 1 + 1 + 1]? = some (.deferred (some [])) := hok _ _ hK (by simp; omega) (fun _ _ h => by cases h)
    refine ⟨by simp, .inl ⟨_, _, rfl, run_takeDeferred hK', ?_⟩⟩
    exact ⟨_, results_tmp rfl _ _ _, rfl, (hw.trans hb).trans (below_put _ _ _ _ (by omega))⟩
end Go.Proofs.YtebnonpdaddniaaGreatDoor
