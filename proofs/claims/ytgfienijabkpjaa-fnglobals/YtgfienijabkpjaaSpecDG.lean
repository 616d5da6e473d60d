/-
  The model's DefineGlobal and SetGlobal: a global put, in memory of its own; nothing that was there is turned.
-/
import Derived.Test.YtgfienijabkpjaaSpecPut
namespace Go.Proofs.Ytgfienijabkpjaa
open Go.RowKit Go.Extern.Stop Go.Stop Go.Extern Num Go.Lib

def codeDG (l : List Glb) (s : ByteArray) (v : Vlu) : Int := if askG l s ≠ 0 then askG l s else if vfault v ≠ 0 then vfault v else putC l s
def outDG (l : List Glb) (s : ByteArray) (v : Vlu) : List Glb := if askG l s ≠ 0 then [] else if vfault v ≠ 0 then [] else putL l s v
def codeSG (l : List Glb) (s : ByteArray) (v : Vlu) : Int := if askG l s ≠ 0 then askG l s else if vfault v ≠ 0 then vfault v else if atG l s = none then 4 else putC l s
def outSG (l : List Glb) (s : ByteArray) (v : Vlu) : List Glb := if askG l s ≠ 0 then [] else if vfault v ≠ 0 then [] else if atG l s = none then [] else putL l s v
/-- An answer of a code and globals in a row of its own. -/
def AnsD (w : World) (c : Int) (m : List Glb) (e : Ending) (w' : World) : Prop :=
  ∃ ao cp, e = .returned (.agg #[.int .i64 c, .slice ao m.length cp]) ∧ w'.ownsRow w.heap.size 33 5 (.slice ao m.length cp) m.length (cellsG m) ∧ Below w.heap.size w w'
theorem ask_glob {l : List Glb} {s : ByteArray} (h : askG l s = 0) : l.length ≤ 60 ∧ GFine l l.length := by
  refine GFine.of ?_
  unfold askG at h
  by_cases h0 : globFault l = 0
  · exact h0
  · rw [if_pos h0] at h; exact h
theorem dg_ask {l : List Glb} {s : ByteArray} {v : Vlu} (h : askG l s ≠ 0) : codeDG l s v = askG l s ∧ outDG l s v = [] := ⟨if_pos h, if_pos h⟩
theorem dg_val {l : List Glb} {s : ByteArray} {v : Vlu} (h0 : askG l s = 0) (h : vfault v ≠ 0) : codeDG l s v = vfault v ∧ outDG l s v = [] := by unfold codeDG outDG; simp [h0, h]
theorem dg_put {l : List Glb} {s : ByteArray} {v : Vlu} (h0 : askG l s = 0) (h : vfault v = 0) : codeDG l s v = putC l s ∧ outDG l s v = putL l s v := by unfold codeDG outDG; simp [h0, h]
theorem sg_ask {l : List Glb} {s : ByteArray} {v : Vlu} (h : askG l s ≠ 0) : codeSG l s v = askG l s ∧ outSG l s v = [] := ⟨if_pos h, if_pos h⟩
theorem sg_val {l : List Glb} {s : ByteArray} {v : Vlu} (h0 : askG l s = 0) (h : vfault v ≠ 0) : codeSG l s v = vfault v ∧ outSG l s v = [] := by unfold codeSG outSG; simp [h0, h]
theorem sg_none {l : List Glb} {s : ByteArray} {v : Vlu} (h0 : askG l s = 0) (h : vfault v = 0) (h2 : atG l s = none) : codeSG l s v = 4 ∧ outSG l s v = [] := by unfold codeSG outSG; simp [h0, h, h2]
theorem sg_put {l : List Glb} {s : ByteArray} {v : Vlu} (h0 : askG l s = 0) (h : vfault v = 0) (h2 : ¬ atG l s = none) : codeSG l s v = putC l s ∧ outSG l s v = putL l s v := by unfold codeSG outSG; simp [h0, h, h2]

set_option maxRecDepth 100000 in
set_option maxHeartbeats 4000000 in
theorem specDG_any (cap base g : Nat) (l : List Glb) (s : ByteArray) (v : Vlu) (w : World) (hl : l.length ≤ 1048576) (hcap : l.length ≤ cap) (hcm : cap ≤ 9223372036854775807) (h : w.ownsRow base 33 5 (.slice (some ⟨g, 0, none⟩) l.length cap) l.length (cellsG l)) (hz : ableG l) (hs : s.size ≤ 9223372036854775807) (hv : v.name.size ≤ 9223372036854775807) :
    Calls Try.prog 12 #[.slice (some ⟨g, 0, none⟩) l.length cap, .string s, v.val] w fun e w' => AnsD w (codeDG l s v) (outDG l s v) e w' := by
  obtain ⟨M, hM⟩ : ∃ M, M = outDG l s v := ⟨_, rfl⟩
  obtain ⟨C, hC⟩ : ∃ C, C = codeDG l s v := ⟨_, rfl⟩
  obtain ⟨c, hc⟩ : ∃ c, c = askG l s := ⟨_, rfl⟩
  obtain ⟨d, hd⟩ : ∃ d, d = vfault v := ⟨_, rfl⟩
  have HR : Hid (M = outDG l s v ∧ C = codeDG l s v ∧ c = askG l s ∧ d = vfault v) := ⟨hM, hC, hc, hd⟩
  rw [← hM, ← hC]
  obtain ⟨W, hW⟩ : ∃ W, W = (w.alloc (.cells #[.int .i64 v.kind, .int .i64 v.num, .string v.name] 26)).alloc (.cells #[.int .i64 0, .slice none 0 0] 30) := ⟨_, rfl⟩
  have HW : Hid (W = (w.alloc (.cells #[.int .i64 v.kind, .int .i64 v.num, .string v.name] 26)).alloc (.cells #[.int .i64 0, .slice none 0 0] 30)) := hW
  have HBW : Hid (Below w.heap.size w W) := by rw [hW]; exact ((Below.refl _ _).alloc (Nat.le_refl _) _).alloc (by simp) _
  have zW : W.heap.size = w.heap.size + 2 := by rw [hW]; simp
  have HVW : Hid (VluAt w.heap.size 0 v W) := by
    rw [hW]
    exact ⟨by rw [World.cell?_alloc_past _ _ _ (by simp), World.cell?_alloc_at _ _ _ _ rfl]; rfl, by rw [World.cell?_alloc_past _ _ _ (by simp), World.cell?_alloc_at _ _ _ _ rfl]; rfl, by rw [World.cell?_alloc_past _ _ _ (by simp), World.cell?_alloc_at _ _ _ _ rfl]; rfl⟩
  have HRW : Hid (W.cell? ⟨w.heap.size + 1, 0, none⟩ = some (.int .i64 0) ∧ W.cell? ⟨w.heap.size + 1, 1, none⟩ = some (.slice none 0 0) ∧ ∀ o, W.frozen? ⟨w.heap.size + 1, o, none⟩ = false) := by
    rw [hW]
    exact ⟨by rw [World.cell?_alloc_at _ _ _ _ (by simp)]; rfl, by rw [World.cell?_alloc_at _ _ _ _ (by simp)]; rfl, fun o => by rw [World.frozen?_alloc_at _ _ _ _ (by simp)]⟩
  have HO : Hid (W.ownsRow base 33 5 (.slice (some ⟨g, 0, none⟩) l.length cap) l.length (cellsG l)) := by rw [hW]; exact (h.alloc _).alloc _
  have HAs : Hid (Calls Try.prog 41 #[.slice (some ⟨g, 0, none⟩) l.length cap, .string s] W fun e w' => e = .returned (.int .i64 c) ∧ Below W.heap.size W w') := by rw [hc]; exact asked_any _ cap g l s W hl hcap hcm (fun _ => rfl) (RowG.of HO.out) hz hs
  have HFl : Hid (∀ u, VluAt w.heap.size 0 v u → Calls Try.prog 42 #[.pointer (some ⟨w.heap.size, 0, none⟩)] u fun e w' => e = .returned (.int .i64 d) ∧ w' = u) := fun u hu => by rw [hd]; exact l5Fault_any _ 0 v u hv hu
  clear hM hC hc hd hW h hz hs hv hl hcap hcm
  go_enter Try.func12, Try.ntmps12
  go_wp2_with fail
  rw [← HW.out]
  refine HAs.out.mono ?_
  rintro e w1 ⟨rfl, b1⟩
  have HV1 : Hid (VluAt w.heap.size 0 v w1) := HVW.out.below b1
  have r0 := cell_keep b1 HRW.out.1
  have r1 := cell_keep b1 HRW.out.2.1
  have rf : ∀ o, w1.frozen? ⟨w.heap.size + 1, o, none⟩ = false := fun o => by rw [(bcell b1).2 _ _ (by omega)]; exact HRW.out.2.2 o
  have HO1 : Hid (w1.ownsRow base 33 5 (.slice (some ⟨g, 0, none⟩) l.length cap) l.length (cellsG l)) := own_below HO.out b1
  have HB1 : Hid (Below w.heap.size w w1) := HBW.out.trans (b1.mono HBW.out.size)
  have z1 : w.heap.size + 1 < w1.heap.size := lt_of_cell r0
  clear b1 HAs HO HRW HVW HBW HW zW
  by_cases h0 : c = 0
  case neg =>
    have HE : Hid (C = c ∧ M = []) := by obtain ⟨e1, e2, e3, e4⟩ := HR.out; rw [e1, e2, e3]; exact dg_ask (by rw [← e3]; exact h0)
    have h0' : (c != 0) = true := by simpa using h0
    clear h0 HR
    go_wp2
    exact bodyPost_ret (v := .agg #[.int .i64 c, .slice none 0 0]) (by simp [results, Try.results12, go_sem, r0, r1]) rfl ⟨none, 0, by rw [HE.out.1, HE.out.2]; rfl, by rw [HE.out.2]; exact noneG _ _, by repeat (first | exact HB1.out | refine Below.setCell ?_ (by simp <;> omega) _)⟩
  subst h0
  go_wp2_with fail
  refine (HFl.out _ HV1.out).mono ?_
  rintro e w2 ⟨rfl, hw2⟩
  subst hw2
  by_cases h1 : d = 0
  case neg =>
    have HE : Hid (C = d ∧ M = []) := by obtain ⟨e1, e2, e3, e4⟩ := HR.out; rw [e1, e2, e4]; exact dg_val e3.symm (by rw [← e4]; exact h1)
    have h1' : (d != 0) = true := by simpa using h1
    clear h1 HR
    go_wp2
    exact bodyPost_ret (v := .agg #[.int .i64 d, .slice none 0 0]) (by simp [results, Try.results12, go_sem, r0, r1]) rfl ⟨none, 0, by rw [HE.out.1, HE.out.2]; rfl, by rw [HE.out.2]; exact noneG _ _, by repeat (first | exact HB1.out | refine Below.setCell ?_ (by simp <;> omega) _)⟩
  subst h1
  have HFn : Hid (l.length ≤ 60 ∧ GFine l l.length) := ask_glob HR.out.2.2.1.symm
  have c0 := HV1.out.c0
  have c1 := HV1.out.c1
  have c2 := HV1.out.c2
  have HE : Hid (C = putC l s ∧ M = putL l s v) := by obtain ⟨e1, e2, e3, e4⟩ := HR.out; rw [e1, e2]; exact dg_put e3.symm e4.symm
  have HPt : Hid (Calls Try.prog 43 #[.slice (some ⟨g, 0, none⟩) l.length cap, .string s, v.val] w2 fun e w' => AnsPut w2 M C e w') := by rw [HE.out.1, HE.out.2]; exact l7Put_any cap base g l s v _ HFn.out.1 (fun k hk => HFn.out.2.ver k hk hk) HO1.out
  clear HR HE HFn HO1 HV1
  go_wp2_with fail
  clear c0 c1 c2
  refine HPt.out.mono ?_
  rintro e w3 ⟨ao, cp, rfl, ho, hb⟩
  have HO3 : Hid (w3.ownsRow w.heap.size 33 5 (.slice ao M.length cp) M.length (cellsG M)) := own_base ho (by omega)
  have HNE : Hid (∀ g, (Value.slice ao M.length cp).ownBlock = some g → w.heap.size + 1 < g) := fun g hg => by have := ho.lt g hg; omega
  have HB3 : Hid (Below w.heap.size w w3) := HB1.out.trans (hb.mono (by omega))
  have s0 := cell_keep hb r0
  have s1 := cell_keep hb r1
  have sf : ∀ o, w3.frozen? ⟨w.heap.size + 1, o, none⟩ = false := fun o => by rw [(bcell hb).2 _ _ (by omega)]; exact rf o
  have z3 : w.heap.size + 1 < w3.heap.size := lt_of_cell s0
  obtain ⟨n, hn⟩ : ∃ n, n = M.length := ⟨_, rfl⟩
  have HN : Hid (n = M.length) := hn
  rw [← hn]
  clear hb ho r0 r1 rf HPt HB1 hn
  go_wp2
  refine bodyPost_ret (v := .agg #[.int .i64 C, .slice ao n cp]) (by simp [results, Try.results12, go_sem, s0, s1]) rfl ⟨ao, cp, by rw [HN.out], ?_, ?_⟩
  · repeat (first | exact HO3.out | refine own_set' ?_ (fun g hg e => by have := HNE.out g hg; simp at e; omega) _)
  · repeat (first | refine Below.setCell ?_ (by simp <;> omega) _ | exact HB3.out)
set_option maxRecDepth 100000 in
set_option maxHeartbeats 4000000 in
theorem specSG_any (cap base g : Nat) (l : List Glb) (s : ByteArray) (v : Vlu) (w : World) (hl : l.length ≤ 1048576) (hcap : l.length ≤ cap) (hcm : cap ≤ 9223372036854775807) (h : w.ownsRow base 33 5 (.slice (some ⟨g, 0, none⟩) l.length cap) l.length (cellsG l)) (hz : ableG l) (hs : s.size ≤ 9223372036854775807) (hv : v.name.size ≤ 9223372036854775807) :
    Calls Try.prog 13 #[.slice (some ⟨g, 0, none⟩) l.length cap, .string s, v.val] w fun e w' => AnsD w (codeSG l s v) (outSG l s v) e w' := by
  obtain ⟨M, hM⟩ : ∃ M, M = outSG l s v := ⟨_, rfl⟩
  obtain ⟨C, hC⟩ : ∃ C, C = codeSG l s v := ⟨_, rfl⟩
  obtain ⟨c, hc⟩ : ∃ c, c = askG l s := ⟨_, rfl⟩
  obtain ⟨d, hd⟩ : ∃ d, d = vfault v := ⟨_, rfl⟩
  have HR : Hid (M = outSG l s v ∧ C = codeSG l s v ∧ c = askG l s ∧ d = vfault v) := ⟨hM, hC, hc, hd⟩
  rw [← hM, ← hC]
  obtain ⟨W, hW⟩ : ∃ W, W = (w.alloc (.cells #[.int .i64 v.kind, .int .i64 v.num, .string v.name] 26)).alloc (.cells #[.int .i64 0, .slice none 0 0] 30) := ⟨_, rfl⟩
  have HW : Hid (W = (w.alloc (.cells #[.int .i64 v.kind, .int .i64 v.num, .string v.name] 26)).alloc (.cells #[.int .i64 0, .slice none 0 0] 30)) := hW
  have HBW : Hid (Below w.heap.size w W) := by rw [hW]; exact ((Below.refl _ _).alloc (Nat.le_refl _) _).alloc (by simp) _
  have zW : W.heap.size = w.heap.size + 2 := by rw [hW]; simp
  have HVW : Hid (VluAt w.heap.size 0 v W) := by
    rw [hW]
    exact ⟨by rw [World.cell?_alloc_past _ _ _ (by simp), World.cell?_alloc_at _ _ _ _ rfl]; rfl, by rw [World.cell?_alloc_past _ _ _ (by simp), World.cell?_alloc_at _ _ _ _ rfl]; rfl, by rw [World.cell?_alloc_past _ _ _ (by simp), World.cell?_alloc_at _ _ _ _ rfl]; rfl⟩
  have HRW : Hid (W.cell? ⟨w.heap.size + 1, 0, none⟩ = some (.int .i64 0) ∧ W.cell? ⟨w.heap.size + 1, 1, none⟩ = some (.slice none 0 0) ∧ ∀ o, W.frozen? ⟨w.heap.size + 1, o, none⟩ = false) := by
    rw [hW]
    exact ⟨by rw [World.cell?_alloc_at _ _ _ _ (by simp)]; rfl, by rw [World.cell?_alloc_at _ _ _ _ (by simp)]; rfl, fun o => by rw [World.frozen?_alloc_at _ _ _ _ (by simp)]⟩
  have HO : Hid (W.ownsRow base 33 5 (.slice (some ⟨g, 0, none⟩) l.length cap) l.length (cellsG l)) := by rw [hW]; exact (h.alloc _).alloc _
  have HAs : Hid (Calls Try.prog 41 #[.slice (some ⟨g, 0, none⟩) l.length cap, .string s] W fun e w' => e = .returned (.int .i64 c) ∧ Below W.heap.size W w') := by rw [hc]; exact asked_any _ cap g l s W hl hcap hcm (fun _ => rfl) (RowG.of HO.out) hz hs
  have HFl : Hid (∀ u, VluAt w.heap.size 0 v u → Calls Try.prog 42 #[.pointer (some ⟨w.heap.size, 0, none⟩)] u fun e w' => e = .returned (.int .i64 d) ∧ w' = u) := fun u hu => by rw [hd]; exact l5Fault_any _ 0 v u hv hu
  clear hM hC hc hd hW h hz hs hv hl hcap hcm
  go_enter Try.func13, Try.ntmps13
  go_wp2_with fail
  rw [← HW.out]
  refine HAs.out.mono ?_
  rintro e w1 ⟨rfl, b1⟩
  have HV1 : Hid (VluAt w.heap.size 0 v w1) := HVW.out.below b1
  have r0 := cell_keep b1 HRW.out.1
  have r1 := cell_keep b1 HRW.out.2.1
  have rf : ∀ o, w1.frozen? ⟨w.heap.size + 1, o, none⟩ = false := fun o => by rw [(bcell b1).2 _ _ (by omega)]; exact HRW.out.2.2 o
  have HO1 : Hid (w1.ownsRow base 33 5 (.slice (some ⟨g, 0, none⟩) l.length cap) l.length (cellsG l)) := own_below HO.out b1
  have HB1 : Hid (Below w.heap.size w w1) := HBW.out.trans (b1.mono HBW.out.size)
  have z1 : w.heap.size + 1 < w1.heap.size := lt_of_cell r0
  clear b1 HAs HO HRW HVW HBW HW zW
  by_cases h0 : c = 0
  case neg =>
    have HE : Hid (C = c ∧ M = []) := by obtain ⟨e1, e2, e3, e4⟩ := HR.out; rw [e1, e2, e3]; exact sg_ask (by rw [← e3]; exact h0)
    have h0' : (c != 0) = true := by simpa using h0
    clear h0 HR
    go_wp2
    exact bodyPost_ret (v := .agg #[.int .i64 c, .slice none 0 0]) (by simp [results, Try.results13, go_sem, r0, r1]) rfl ⟨none, 0, by rw [HE.out.1, HE.out.2]; rfl, by rw [HE.out.2]; exact noneG _ _, by repeat (first | exact HB1.out | refine Below.setCell ?_ (by simp <;> omega) _)⟩
  subst h0
  go_wp2_with fail
  refine (HFl.out _ HV1.out).mono ?_
  rintro e w2 ⟨rfl, hw2⟩
  subst hw2
  by_cases h1 : d = 0
  case neg =>
    have HE : Hid (C = d ∧ M = []) := by obtain ⟨e1, e2, e3, e4⟩ := HR.out; rw [e1, e2, e4]; exact sg_val e3.symm (by rw [← e4]; exact h1)
    have h1' : (d != 0) = true := by simpa using h1
    clear h1 HR
    go_wp2
    exact bodyPost_ret (v := .agg #[.int .i64 d, .slice none 0 0]) (by simp [results, Try.results13, go_sem, r0, r1]) rfl ⟨none, 0, by rw [HE.out.1, HE.out.2]; rfl, by rw [HE.out.2]; exact noneG _ _, by repeat (first | exact HB1.out | refine Below.setCell ?_ (by simp <;> omega) _)⟩
  subst h1
  have HFn : Hid (l.length ≤ 60 ∧ GFine l l.length) := ask_glob HR.out.2.2.1.symm
  have c0 := HV1.out.c0
  have c1 := HV1.out.c1
  have c2 := HV1.out.c2
  have HAt : Hid (Calls Try.prog 44 #[.slice (some ⟨g, 0, none⟩) l.length cap, .string s] w2 fun e w' => e = .returned (.int .i64 (atI (atG l s))) ∧ w' = w2) := l7At_any _ cap g l s w2 (by have := HFn.out.1; omega) (fun _ => rfl) (RowG.of HO1.out)
  go_wp2_with fail
  refine HAt.out.mono ?_
  rintro e w2' ⟨rfl, hw2'⟩
  subst hw2'
  by_cases h2 : atG l s = none
  case pos =>
    have HE : Hid (C = 4 ∧ M = []) := by obtain ⟨e1, e2, e3, e4⟩ := HR.out; rw [e1, e2]; exact sg_none e3.symm e4.symm h2
    have ha : atI (atG l s) = -1 := by rw [h2]; rfl
    rw [ha]
    clear h2 HR ha
    go_wp2
    exact bodyPost_ret (v := .agg #[.int .i64 4, .slice none 0 0]) (by simp [results, Try.results13, go_sem, r0, r1]) rfl ⟨none, 0, by rw [HE.out.1, HE.out.2]; rfl, by rw [HE.out.2]; exact noneG _ _, by repeat (first | exact HB1.out | refine Below.setCell ?_ (by simp <;> omega) _)⟩
  obtain ⟨k, ha⟩ : ∃ k : Nat, atI (atG l s) = (k : Int) := by
    cases hat : atG l s with
    | none => exact absurd hat h2
    | some k => exact ⟨k, rfl⟩
  rw [ha]
  have HE : Hid (C = putC l s ∧ M = putL l s v) := by obtain ⟨e1, e2, e3, e4⟩ := HR.out; rw [e1, e2]; exact sg_put e3.symm e4.symm h2
  have HPt : Hid (Calls Try.prog 43 #[.slice (some ⟨g, 0, none⟩) l.length cap, .string s, v.val] w2' fun e w' => AnsPut w2' M C e w') := by rw [HE.out.1, HE.out.2]; exact l7Put_any cap base g l s v _ HFn.out.1 (fun k hk => HFn.out.2.ver k hk hk) HO1.out
  clear HR HE HFn HO1 HV1 ha h2 HAt
  go_wp2_with fail
  clear c0 c1 c2
  refine HPt.out.mono ?_
  rintro e w3 ⟨ao, cp, rfl, ho, hb⟩
  have HO3 : Hid (w3.ownsRow w.heap.size 33 5 (.slice ao M.length cp) M.length (cellsG M)) := own_base ho (by omega)
  have HNE : Hid (∀ g, (Value.slice ao M.length cp).ownBlock = some g → w.heap.size + 1 < g) := fun g hg => by have := ho.lt g hg; omega
  have HB3 : Hid (Below w.heap.size w w3) := HB1.out.trans (hb.mono (by omega))
  have s0 := cell_keep hb r0
  have s1 := cell_keep hb r1
  have sf : ∀ o, w3.frozen? ⟨w.heap.size + 1, o, none⟩ = false := fun o => by rw [(bcell hb).2 _ _ (by omega)]; exact rf o
  have z3 : w.heap.size + 1 < w3.heap.size := lt_of_cell s0
  obtain ⟨n, hn⟩ : ∃ n, n = M.length := ⟨_, rfl⟩
  have HN : Hid (n = M.length) := hn
  rw [← hn]
  clear hb ho r0 r1 rf HPt HB1 hn
  go_wp2
  refine bodyPost_ret (v := .agg #[.int .i64 C, .slice ao n cp]) (by simp [results, Try.results13, go_sem, s0, s1]) rfl ⟨ao, cp, by rw [HN.out], ?_, ?_⟩
  · repeat (first | exact HO3.out | refine own_set' ?_ (fun g hg e => by have := HNE.out g hg; simp at e; omega) _)
  · repeat (first | refine Below.setCell ?_ (by simp <;> omega) _ | exact HB3.out)
end Go.Proofs.Ytgfienijabkpjaa
