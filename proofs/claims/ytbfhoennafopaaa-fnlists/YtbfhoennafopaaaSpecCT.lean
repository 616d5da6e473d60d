/-
  The model's l5Asked, l5Copy and ConsTo: a pair put behind the others, in memory of its own; nothing that was there is turned.
-/
import Derived.Test.YtbfhoennafopaaaSpecHF
import Derived.Test.YtbfhoennafopaaaConsMath
import Derived.Test.YtbfhoennafopaaaCtBox
import Derived.Deep.RegionHeld3
namespace Go.Proofs.Ytbfhoennafopaaa
open Go.RowKit Go.Extern.Stop Go.Stop Go.Extern Num Go.Lib

set_option maxHeartbeats 1000000 in
theorem l5Asked_any (ao : Option Addr) (cap g b : Nat) (l : List Pai) (t : Vlu) (w : World) (hl : l.length ≤ 1048576) (hao : 0 < l.length → ao = some ⟨g, 0, none⟩) (hr : RowP w g l) (hz : ableL l) (ht : t.name.size ≤ 9223372036854775807) (hv : VluAt b 0 t w) :
    Calls Try.prog 34 #[.slice ao l.length cap, .pointer (some ⟨b, 0, none⟩)] w fun e w' => e = .returned (.int .i64 (askV l t)) ∧ w' = w := by
  obtain ⟨R, hR⟩ : ∃ R, R = askV l t := ⟨_, rfl⟩
  obtain ⟨c, hc⟩ : ∃ c, c = heapFault l := ⟨_, rfl⟩
  obtain ⟨d, hd⟩ : ∃ d, d = vfault t := ⟨_, rfl⟩
  obtain ⟨i, hi⟩ : ∃ i, i = inH l.length t := ⟨_, rfl⟩
  have HC : Hid (Calls Try.prog 55 #[.slice ao l.length cap] w fun e w' => e = .returned (.int .i64 c) ∧ w' = w) := by rw [hc]; exact l5Heap_any ao cap g l w hl hao hr hz
  have HD : Hid (Calls Try.prog 56 #[.pointer (some ⟨b, 0, none⟩)] w fun e w' => e = .returned (.int .i64 d) ∧ w' = w) := by rw [hd]; exact l5Fault_any b 0 t w ht hv
  have HI : Hid (Calls Try.prog 57 #[.pointer (some ⟨b, 0, none⟩), .int .i64 (l.length : Int)] w fun e w' => e = .returned (.bool i) ∧ w' = w) := by rw [hi]; exact l5In_any b 0 l.length t w hv
  have HR : Hid (R = if c ≠ 0 then c else if d ≠ 0 then d else if i = true then 0 else 4) := by show R = _; rw [hR, hc, hd, hi]; rfl
  rw [← hR]
  clear hR hc hd hi hr hz hao hv ht
  by_cases h0 : c = 0
  case neg =>
    have HE : Hid (R = c) := by show R = c; rw [HR.out, if_pos h0]
    have h0' : (c != 0) = true := by simpa using h0
    clear h0 HR
    go_enter Try.func34, Try.ntmps34
    go_wp2_with fail
    refine HC.out.mono ?_
    rintro e w' ⟨rfl, rfl⟩
    go_wp2
    go_ret
    exact ⟨by rw [HE.out]; rfl, rfl⟩
  subst h0
  by_cases h1 : d = 0
  case neg =>
    have HE : Hid (R = d) := by show R = d; rw [HR.out, if_neg (by simp), if_pos h1]
    have h1' : (d != 0) = true := by simpa using h1
    clear h1 HR
    go_enter Try.func34, Try.ntmps34
    go_wp2_with fail
    refine HC.out.mono ?_
    rintro e w' ⟨rfl, rfl⟩
    go_wp2_with fail
    refine HD.out.mono ?_
    rintro e w' ⟨rfl, rfl⟩
    go_wp2
    go_ret
    exact ⟨by rw [HE.out]; rfl, rfl⟩
  subst h1
  have HE : Hid (R = if i = true then 0 else 4) := by show R = _; rw [HR.out, if_neg (by simp), if_neg (by simp)]
  clear HR
  cases i
  all_goals
    go_enter Try.func34, Try.ntmps34
    go_wp2_with fail
    refine HC.out.mono ?_
    rintro e w' ⟨rfl, rfl⟩
    go_wp2_with fail
    refine HD.out.mono ?_
    rintro e w' ⟨rfl, rfl⟩
    go_wp2_with fail
    refine HI.out.mono ?_
    rintro e w' ⟨rfl, rfl⟩
    go_wp2
    go_ret
    exact ⟨by rw [HE.out]; rfl, rfl⟩
theorem emptyP (w : World) : (w.alloc (.cells #[] 71)).ownsRow w.heap.size 71 6 (.slice (some ⟨w.heap.size, 0, none⟩) 0 0) 0 (cellsP []) :=
  ⟨by simp [cellsP], .inr ⟨w.heap.size, 0, _, rfl, Nat.le_refl _, heap_alloc_new w _, Nat.le_refl _, by unfold maxLen; omega, by simp, by simp [cellsP]⟩⟩
theorem l5Copy_any (cap base g : Nat) (l : List Pai) (w : World) (hl : l.length ≤ 4000) (h : w.ownsRow base 71 6 (.slice (some ⟨g, 0, none⟩) l.length cap) l.length (cellsP l)) :
    Calls Try.prog 35 #[.slice (some ⟨g, 0, none⟩) l.length cap] w fun e w' => ∃ bo c, e = .returned (.slice bo l.length c) ∧ w'.ownsRow w.heap.size 71 6 (.slice bo l.length c) l.length (cellsP l) ∧ Below w.heap.size w w' := by
  have HO : Hid (w.ownsRow base 71 6 (.slice (some ⟨g, 0, none⟩) l.length cap) l.length (cellsP l)) := h
  have HM : Hid ((w.alloc (.cells #[] 71)).ownsRow w.heap.size 71 6 (.slice (some ⟨w.heap.size, 0, none⟩) 0 0) 0 (cellsP [])) := emptyP w
  have HAd : Hid (∀ j, (⟨g, 0, none⟩ : Addr).add j = ⟨g, j, none⟩) := fun j => by unfold Addr.add; split <;> simp_all
  clear h
  by_cases h0 : l = []
  · subst h0
    go_enter Try.func35, Try.ntmps35
    go_wp2
    go_ret
    exact ⟨_, _, rfl, HM.out, (Below.refl _ _).alloc (Nat.le_refl _) _⟩
  · have hpos : 0 < l.length := List.length_pos_iff.2 h0
    obtain ⟨i0, hi, hz0, hz1, hz2⟩ := info_parts infoP
    obtain ⟨n, hn⟩ : ∃ n, n = l.length := ⟨_, rfl⟩
    have HN : Hid (n = l.length) := hn
    have hnl : n ≤ 4000 := by omega
    have hnp : 0 < n := by omega
    rw [← hn]
    clear h0 hpos hn hl
    go_enter Try.func35, Try.ntmps35
    go_wp2_with (first | (at_builtin; refine wpList_append_lies _ rfl (.tmp 3) (.tmp 4) 24 rfl w.heap.size 71 i0 _ 6 64 Try.underlying24 hi hz0 hz1 hz2 rfl (by decide) _ 0 (cellsP []) rfl ?c0 ⟨g, 0, none⟩ n cap (cellsP l) rfl ?c6 ?c1 ?c2 ?c7 ?c3 ?c4 ?c5 _ rfl ?_))
    case c0 => exact HM.out
    case c6 => rw [cellsP_length, HN.out]
    case c1 => exact fun j u hj => cell_laid _ (by rw [← HAd.out]; exact HO.out.cells (g := g) rfl j u hj)
    case c2 => exact cellsP_one l
    case c3 => unfold maxLen; omega
    case c4 => omega
    try (case c5 => simp)
    try (case c7 => exact hnp)
    intro g' cap' w2 hown2 hgrow2 hat2 _
    have HO2 : Hid (w2.ownsRow w.heap.size 71 6 (.slice (some ⟨g', 0, none⟩) n cap') n (cellsP l)) := by show World.ownsRow _ _ _ _ _ _ _; simpa [cellsP] using hown2
    have HB2 : Hid (Below w.heap.size w w2) := Below.grown ((Below.refl _ _).alloc (Nat.le_refl _) _) hgrow2 (by simp) (fun j hj => by simp [Value.ownBlock] at hj; omega)
    clear hown2 hgrow2 hat2
    go_wp2
    go_ret
    exact ⟨some ⟨g', 0, none⟩, cap', by simp, HO2.out, HB2.out⟩
theorem vKeep {w u v : World} {a b : Vlu} (h : u.cell? ⟨w.heap.size, 0, none⟩ = some (.int .i64 a.kind) ∧ u.cell? ⟨w.heap.size, 1, none⟩ = some (.int .i64 a.num) ∧ u.cell? ⟨w.heap.size, 2, none⟩ = some (.string a.name) ∧ u.cell? ⟨w.heap.size + 1, 0, none⟩ = some (.int .i64 b.kind) ∧ u.cell? ⟨w.heap.size + 1, 1, none⟩ = some (.int .i64 b.num) ∧ u.cell? ⟨w.heap.size + 1, 2, none⟩ = some (.string b.name)) (hb : Below u.heap.size u v) : v.cell? ⟨w.heap.size, 0, none⟩ = some (.int .i64 a.kind) ∧ v.cell? ⟨w.heap.size, 1, none⟩ = some (.int .i64 a.num) ∧ v.cell? ⟨w.heap.size, 2, none⟩ = some (.string a.name) ∧ v.cell? ⟨w.heap.size + 1, 0, none⟩ = some (.int .i64 b.kind) ∧ v.cell? ⟨w.heap.size + 1, 1, none⟩ = some (.int .i64 b.num) ∧ v.cell? ⟨w.heap.size + 1, 2, none⟩ = some (.string b.name) :=
  ⟨cell_keep hb h.1, cell_keep hb h.2.1, cell_keep hb h.2.2.1, cell_keep hb h.2.2.2.1, cell_keep hb h.2.2.2.2.1, cell_keep hb h.2.2.2.2.2⟩
theorem vOf {w u : World} {a b : Vlu} (h : CtB w a b u) : u.cell? ⟨w.heap.size, 0, none⟩ = some (.int .i64 a.kind) ∧ u.cell? ⟨w.heap.size, 1, none⟩ = some (.int .i64 a.num) ∧ u.cell? ⟨w.heap.size, 2, none⟩ = some (.string a.name) ∧ u.cell? ⟨w.heap.size + 1, 0, none⟩ = some (.int .i64 b.kind) ∧ u.cell? ⟨w.heap.size + 1, 1, none⟩ = some (.int .i64 b.num) ∧ u.cell? ⟨w.heap.size + 1, 2, none⟩ = some (.string b.name) := ⟨h.va.c0, h.va.c1, h.va.c2, h.vb.c0, h.vb.c1, h.vb.c2⟩
theorem vSet {w u : World} {a b : Vlu} {r o : Nat} {x : Value} (hr : w.heap.size + 1 < r) (h : u.cell? ⟨w.heap.size, 0, none⟩ = some (.int .i64 a.kind) ∧ u.cell? ⟨w.heap.size, 1, none⟩ = some (.int .i64 a.num) ∧ u.cell? ⟨w.heap.size, 2, none⟩ = some (.string a.name) ∧ u.cell? ⟨w.heap.size + 1, 0, none⟩ = some (.int .i64 b.kind) ∧ u.cell? ⟨w.heap.size + 1, 1, none⟩ = some (.int .i64 b.num) ∧ u.cell? ⟨w.heap.size + 1, 2, none⟩ = some (.string b.name)) : (u.setCell ⟨r, o, none⟩ x).cell? ⟨w.heap.size, 0, none⟩ = some (.int .i64 a.kind) ∧ (u.setCell ⟨r, o, none⟩ x).cell? ⟨w.heap.size, 1, none⟩ = some (.int .i64 a.num) ∧ (u.setCell ⟨r, o, none⟩ x).cell? ⟨w.heap.size, 2, none⟩ = some (.string a.name) ∧ (u.setCell ⟨r, o, none⟩ x).cell? ⟨w.heap.size + 1, 0, none⟩ = some (.int .i64 b.kind) ∧ (u.setCell ⟨r, o, none⟩ x).cell? ⟨w.heap.size + 1, 1, none⟩ = some (.int .i64 b.num) ∧ (u.setCell ⟨r, o, none⟩ x).cell? ⟨w.heap.size + 1, 2, none⟩ = some (.string b.name) := by
  have ne : ∀ k o', k ≤ w.heap.size + 1 → (⟨r, o, none⟩ : Addr) ≠ ⟨k, o', none⟩ := fun k o' hk e => by injection e with e1; omega
  refine ⟨?_, ?_, ?_, ?_, ?_, ?_⟩
  · rw [World.cell?_setCell_other _ _ _ _ (ne _ _ (by omega))]; exact h.1
  · rw [World.cell?_setCell_other _ _ _ _ (ne _ _ (by omega))]; exact h.2.1
  · rw [World.cell?_setCell_other _ _ _ _ (ne _ _ (by omega))]; exact h.2.2.1
  · rw [World.cell?_setCell_other _ _ _ _ (ne _ _ (by omega))]; exact h.2.2.2.1
  · rw [World.cell?_setCell_other _ _ _ _ (ne _ _ (by omega))]; exact h.2.2.2.2.1
  · rw [World.cell?_setCell_other _ _ _ _ (ne _ _ (by omega))]; exact h.2.2.2.2.2
set_option maxRecDepth 100000 in
set_option maxHeartbeats 4000000 in
theorem specCT_any (cap base g : Nat) (l : List Pai) (a b : Vlu) (w : World) (hl : l.length ≤ 1048576) (ho : w.ownsRow base 71 6 (.slice (some ⟨g, 0, none⟩) l.length cap) l.length (cellsP l)) (hz : ableL l) (ha : a.name.size ≤ 9223372036854775807) (hb : b.name.size ≤ 9223372036854775807) :
    Calls Try.prog 9 #[.slice (some ⟨g, 0, none⟩) l.length cap, a.val, b.val] w fun e w' => AnsV w (codeCT l a b) (outCT l a b) (valCT l a b) e w' := by
  obtain ⟨c, hc⟩ : ∃ c, c = askV l a := ⟨_, rfl⟩
  obtain ⟨d, hd⟩ : ∃ d, d = askV l b := ⟨_, rfl⟩
  have HA : Hid (∀ u k, Below w.heap.size w u → VluAt k 0 a u → Calls Try.prog 34 #[.slice (some ⟨g, 0, none⟩) l.length cap, .pointer (some ⟨k, 0, none⟩)] u fun e w' => e = .returned (.int .i64 c) ∧ w' = u) := fun u k hu hv => by rw [hc]; exact l5Asked_any _ cap g k l a u hl (fun _ => rfl) ((RowP.of ho).below hu) hz ha hv
  have HB : Hid (∀ u k, Below w.heap.size w u → VluAt k 0 b u → Calls Try.prog 34 #[.slice (some ⟨g, 0, none⟩) l.length cap, .pointer (some ⟨k, 0, none⟩)] u fun e w' => e = .returned (.int .i64 d) ∧ w' = u) := fun u k hu hv => by rw [hd]; exact l5Asked_any _ cap g k l b u hl (fun _ => rfl) ((RowP.of ho).below hu) hz hb hv
  have HST : Hid _ := CtB.start w a b
  have HO : Hid (w.ownsRow base 71 6 (.slice (some ⟨g, 0, none⟩) l.length cap) l.length (cellsP l)) := ho
  have key : ∃ (C : Int) (M : List Pai) (V : Vlu), C = codeCT l a b ∧ M = outCT l a b ∧ V = valCT l a b := ⟨_, _, _, rfl, rfl, rfl⟩
  obtain ⟨C, M, V, hC, hM, hV⟩ := key
  rw [← hC, ← hM, ← hV]
  have HR : Hid (C = codeCT l a b ∧ M = outCT l a b ∧ V = valCT l a b) := ⟨hC, hM, hV⟩
  have HX0 : Hid (c = askV l a) := hc
  have HX1 : Hid (d = askV l b) := hd
  obtain ⟨_, _, r0, r1, r2, r3, r4, rf, z, old⟩ := HST.out
  clear hC hM hV hc hd ho hz
  by_cases h0 : c = 0
  case neg =>
    have HE : Hid (C = c ∧ M = [] ∧ V = ⟨0, 0, ⟨#[]⟩⟩) := by
      obtain ⟨e1, e2, e3⟩ := HR.out
      have e : codeCT l a b = c := by unfold codeCT; rw [if_pos (by rw [← HX0.out]; exact h0), HX0.out]
      exact ⟨by rw [e1, e], by rw [e2]; unfold outCT; rw [if_neg (by rw [e]; exact h0)], by rw [e3]; unfold valCT; rw [if_neg (by rw [e]; exact h0)]⟩
    obtain ⟨rfl, rfl, rfl⟩ := HE.out
    have h0' : (C != 0) = true := by simpa using h0
    clear h0 HE HR
    go_enter Try.func9, Try.ntmps9
    go_wp2_with fail
    refine (HA.out _ _ HST.out.old HST.out.va.at).mono ?_
    rintro e w1 ⟨rfl, hw1⟩
    subst hw1
    go_wp2
    exact bodyPost_ret (v := .agg #[.int .i64 C, .slice none 0 0, .int .i64 0, .int .i64 0, .string ⟨#[]⟩]) (by simp [results, Try.results9, go_sem]) rfl ⟨none, 0, rfl, none_row _ _, by repeat (first | refine Below.setCell ?_ (by simp <;> omega) _ | refine Below.alloc ?_ (by simp <;> omega) _ | exact Below.refl _ _)⟩
  subst h0
  have HF0 : Hid (heapFault l = 0) := (askV_zero HX0.out.symm).1
  by_cases h1 : d = 0
  case neg =>
    have HE : Hid (C = d ∧ M = [] ∧ V = ⟨0, 0, ⟨#[]⟩⟩) := by
      obtain ⟨e1, e2, e3⟩ := HR.out
      have e0 : askV l b = inC l.length b := by unfold askV; rw [if_neg (by rw [HF0.out]; decide)]
      have e : codeCT l a b = d := by unfold codeCT; rw [if_neg (by rw [← HX0.out]; decide), if_pos (by rw [← e0, ← HX1.out]; exact h1), ← e0, HX1.out]
      exact ⟨by rw [e1, e], by rw [e2]; unfold outCT; rw [if_neg (by rw [e]; exact h1)], by rw [e3]; unfold valCT; rw [if_neg (by rw [e]; exact h1)]⟩
    obtain ⟨rfl, rfl, rfl⟩ := HE.out
    have h1' : (C != 0) = true := by simpa using h1
    clear h1 HE HR
    go_enter Try.func9, Try.ntmps9
    go_wp2_with fail
    refine (HA.out _ _ HST.out.old HST.out.va.at).mono ?_
    rintro e w1 ⟨rfl, hw1⟩
    subst hw1
    go_wp2_with fail
    refine (HB.out _ _ HST.out.old HST.out.vb.at).mono ?_
    rintro e w1 ⟨rfl, hw1⟩
    subst hw1
    go_wp2
    exact bodyPost_ret (v := .agg #[.int .i64 C, .slice none 0 0, .int .i64 0, .int .i64 0, .string ⟨#[]⟩]) (by simp [results, Try.results9, go_sem]) rfl ⟨none, 0, rfl, none_row _ _, by repeat (first | refine Below.setCell ?_ (by simp <;> omega) _ | refine Below.alloc ?_ (by simp <;> omega) _ | exact Below.refl _ _)⟩
  subst h1
  have e0 : inC l.length b = 0 := (askV_zero HX1.out.symm).2
  have hl4 : l.length ≤ 4000 := by
    by_cases h4 : 4000 < l.length
    · have := HF0.out; rw [heapFault, if_pos h4] at this; cases this
    · omega
  by_cases h2 : 4000 ≤ l.length
  case pos =>
    have HE : Hid (C = 2 ∧ M = [] ∧ V = ⟨0, 0, ⟨#[]⟩⟩) := by
      obtain ⟨e1, e2, e3⟩ := HR.out
      have e : codeCT l a b = 2 := by unfold codeCT; rw [if_neg (by rw [← HX0.out]; decide), if_neg (by rw [e0]; decide), if_pos h2]
      exact ⟨by rw [e1, e], by rw [e2]; unfold outCT; rw [if_neg (by rw [e]; decide)], by rw [e3]; unfold valCT; rw [if_neg (by rw [e]; decide)]⟩
    obtain ⟨rfl, rfl, rfl⟩ := HE.out
    have h2' : (4000 : Int) ≤ (l.length : Int) := by omega
    clear HE HR e0 h2
    go_enter Try.func9, Try.ntmps9
    go_wp2_with fail
    refine (HA.out _ _ HST.out.old HST.out.va.at).mono ?_
    rintro e w1 ⟨rfl, hw1⟩
    subst hw1
    go_wp2_with fail
    refine (HB.out _ _ HST.out.old HST.out.vb.at).mono ?_
    rintro e w1 ⟨rfl, hw1⟩
    subst hw1
    go_wp2
    exact bodyPost_ret (v := .agg #[.int .i64 2, .slice none 0 0, .int .i64 0, .int .i64 0, .string ⟨#[]⟩]) (by simp [results, Try.results9, go_sem]) rfl ⟨none, 0, rfl, none_row _ _, by repeat (first | refine Below.setCell ?_ (by simp <;> omega) _ | refine Below.alloc ?_ (by simp <;> omega) _ | exact Below.refl _ _)⟩
  have HE : Hid (C = 0 ∧ M = l ++ [⟨a, b⟩] ∧ V = ⟨5, (l.length : Int), ⟨#[]⟩⟩) := by
    obtain ⟨e1, e2, e3⟩ := HR.out
    have e : codeCT l a b = 0 := by unfold codeCT; rw [if_neg (by rw [← HX0.out]; decide), if_neg (by rw [e0]; decide), if_neg h2]
    exact ⟨by rw [e1, e], by rw [e2]; unfold outCT; rw [if_pos e], by rw [e3]; unfold valCT; rw [if_pos e]⟩
  obtain ⟨rfl, hM, rfl⟩ := HE.out
  have HM : Hid (M = l ++ [⟨a, b⟩]) := hM
  have h2' : ¬ (4000 : Int) ≤ (l.length : Int) := by omega
  clear HE HR e0 h2 hM
  go_enter Try.func9, Try.ntmps9
  go_wp2_with fail
  refine (HA.out _ _ HST.out.old HST.out.va.at).mono ?_
  rintro e w1 ⟨rfl, hw1⟩
  subst hw1
  go_wp2_with fail
  refine (HB.out _ _ HST.out.old HST.out.vb.at).mono ?_
  rintro e w1 ⟨rfl, hw1⟩
  subst hw1
  obtain ⟨i0, hi, hz0, hz1, hz2⟩ := info_parts infoP
  have HCp : Hid (∀ u : World, u.ownsRow base 71 6 (.slice (some ⟨g, 0, none⟩) l.length cap) l.length (cellsP l) → Calls Try.prog 35 #[.slice (some ⟨g, 0, none⟩) l.length cap] u fun e w' => ∃ bo c, e = .returned (.slice bo l.length c) ∧ w'.ownsRow u.heap.size 71 6 (.slice bo l.length c) l.length (cellsP l) ∧ Below u.heap.size u w') := fun u hu => l5Copy_any cap base g l u hl4 hu
  have HOW : Hid (World.ownsRow (((w.alloc (.cells #[.int .i64 a.kind, .int .i64 a.num, .string a.name] 26)).alloc (.cells #[.int .i64 b.kind, .int .i64 b.num, .string b.name] 26)).alloc (.cells #[.int .i64 0, .slice none 0 0, .int .i64 0, .int .i64 0, .string ⟨#[]⟩] 30)) base 71 6 (.slice (some ⟨g, 0, none⟩) l.length cap) l.length (cellsP l)) := ((HO.out.alloc _).alloc _).alloc _
  have HST : Hid (CtB w a b (((w.alloc (.cells #[.int .i64 a.kind, .int .i64 a.num, .string a.name] 26)).alloc (.cells #[.int .i64 b.kind, .int .i64 b.num, .string b.name] 26)).alloc (.cells #[.int .i64 0, .slice none 0 0, .int .i64 0, .int .i64 0, .string ⟨#[]⟩] 30))) := HST.out
  go_wp2_with fail
  clear r0 r1 r2 r3 r4 rf z old HA HB
  generalize (((w.alloc (.cells #[.int .i64 a.kind, .int .i64 a.num, .string a.name] 26)).alloc (.cells #[.int .i64 b.kind, .int .i64 b.num, .string b.name] 26)).alloc (.cells #[.int .i64 0, .slice none 0 0, .int .i64 0, .int .i64 0, .string ⟨#[]⟩] 30)) = W at HST HOW ⊢
  have zW := HST.out.z
  have HSE : Hid (∀ o, CtB w a b (W.alloc o).drew) := fun o => (HST.out.below ((Below.refl _ _).alloc (Nat.le_refl _) _)).below (Below.drew (Below.refl _ _))
  have HXb : Hid (∀ o : Obj, (W.alloc o).drew.heap[W.heap.size]? = some o) := fun o => heap_new' W o _ rfl
  have HOD : Hid (W.drew.ownsRow base 71 6 (.slice (some ⟨g, 0, none⟩) l.length cap) l.length (cellsP l)) := World.ownsRow.drew HOW.out
  have HOE : Hid (∀ o, (W.alloc o).drew.ownsRow base 71 6 (.slice (some ⟨g, 0, none⟩) l.length cap) l.length (cellsP l)) := fun o => World.ownsRow.drew (HOW.out.alloc _)
  have HSD : Hid (CtB w a b W.drew) := HST.out.below (Below.drew (Below.refl _ _))
  go_region_held3 (fun u => u.cell? ⟨w.heap.size, 0, none⟩ = some (.int .i64 a.kind) ∧ u.cell? ⟨w.heap.size, 1, none⟩ = some (.int .i64 a.num) ∧ u.cell? ⟨w.heap.size, 2, none⟩ = some (.string a.name) ∧ u.cell? ⟨w.heap.size + 1, 0, none⟩ = some (.int .i64 b.kind) ∧ u.cell? ⟨w.heap.size + 1, 1, none⟩ = some (.int .i64 b.num) ∧ u.cell? ⟨w.heap.size + 1, 2, none⟩ = some (.string b.name))
    (first | (with_reducible exact vKeep (by assumption) (by assumption)) | (with_reducible exact vOf HC3.out) | (with_reducible exact vOf HSD.out) | (with_reducible exact vOf (HSE.out _)) | (with_reducible exact vKeep (by assumption) ((Below.refl _ _).alloc (Nat.le_refl _) _)) | (with_reducible exact vSet (by omega) (vSet (by omega) (vSet (by omega) (vSet (by omega) (vSet (by omega) (vOf HC3.out)))))) | fail)
    (first
      | (go_at_call 35; refine (HCp.out _ HOD.out).mono ?_; rintro e w1 ⟨bo, cb, rfl, ho1, hb1⟩; have HC1 : Hid (CtB w a b w1) := (by show CtB w a b w1; with_reducible exact HSD.out.below hb1); have OA : Hid True := trivial; have zc1 := HC1.out.z; have zw1 : W.heap.size ≤ w1.heap.size := hb1.size; have HO1 : Hid (w1.ownsRow (W.heap.size) 71 6 (.slice bo l.length cb) l.length (cellsP l)) := own_base ho1 (Nat.le_refl _))
      | (go_at_call 35; refine (HCp.out _ (HOE.out _)).mono ?_; rintro e w1 ⟨bo, cb, rfl, ho1, hb1⟩; have HC1 : Hid (CtB w a b w1) := (by show CtB w a b w1; with_reducible exact (HSE.out _).below hb1); have OB : Hid True := trivial; have zc1 := HC1.out.z; have zw1 : W.heap.size ≤ w1.heap.size := (by have := hb1.size; simp at this; omega); have HO1 : Hid (w1.ownsRow (W.heap.size) 71 6 (.slice bo l.length cb) l.length (cellsP l)) := own_base ho1 (by simp))
      | (have _m := OA.out; refine step_append_lies _ (by rfl) _ _ _ (by rfl) (W.heap.size) 71 i0 _ 6 64 Try.underlying24 hi hz0 hz1 hz2 rfl (by decide) (.slice bo l.length cb) l.length (cellsP l) (by rfl) (by repeat (first | exact HO1.out | refine World.ownsRow.alloc ?_ _))
            ⟨w1.heap.size, 0, none⟩ 1 1 [.int .i64 a.kind, .int .i64 a.num, .string a.name, .int .i64 b.kind, .int .i64 b.num, .string b.name] (by rfl) (by rfl) (World.news_of_block (cs := #[.int .i64 a.kind, .int .i64 a.num, .string a.name, .int .i64 b.kind, .int .i64 b.num, .string b.name]) (t := 71) (fr := (0, 0)) (heap_new' _ _ _ (by simp))) (by simp [Value.oneCell'])
            (by decide) (by unfold maxLen; omega) (by omega) (by simp <;> omega) (w1.heap.size + 1) (by simp) ?_; intro g' cap' w3 hown3 hgrow3 hat3 hlt3; have HC3 : Hid (CtB w a b w3) := CtB.low (B := W.heap.size) (HC1.out.below ((Below.refl _ _).alloc (Nat.le_refl _) _)) (by omega) (below_of_grown hgrow3 (by simp <;> omega) (fun k hk => (HO1.out.lt k hk).1)); have k0 := HC3.out.r0; have k1 := HC3.out.r1; have k2 := HC3.out.r2; have k3 := HC3.out.r3; have k4 := HC3.out.r4; have kf := HC3.out.rf; have kz := HC3.out.z)
      | (have _m := OB.out; refine step_append_lies _ (by rfl) _ _ _ (by rfl) (W.heap.size) 71 i0 _ 6 64 Try.underlying24 hi hz0 hz1 hz2 rfl (by decide) (.slice bo l.length cb) l.length (cellsP l) (by rfl) (by repeat (first | exact HO1.out | refine World.ownsRow.alloc ?_ _))
            ⟨W.heap.size, 0, none⟩ 1 1 [.int .i64 a.kind, .int .i64 a.num, .string a.name, .int .i64 b.kind, .int .i64 b.num, .string b.name] (by rfl) (by rfl) (World.news_of_block (cs := #[.int .i64 a.kind, .int .i64 a.num, .string a.name, .int .i64 b.kind, .int .i64 b.num, .string b.name]) (t := 71) (fr := (0, 0)) ((hb1.block _ (by simp)).trans (HXb.out _))) (by simp [Value.oneCell'])
            (by decide) (by unfold maxLen; omega) (by omega) (by omega) (w1.heap.size) (by simp) ?_; intro g' cap' w3 hown3 hgrow3 hat3 hlt3; have HC3 : Hid (CtB w a b w3) := CtB.low (B := W.heap.size) HC1.out (by omega) (below_of_grown hgrow3 (by omega) (fun k hk => (HO1.out.lt k hk).1)); have k0 := HC3.out.r0; have k1 := HC3.out.r1; have k2 := HC3.out.r2; have k3 := HC3.out.r3; have k4 := HC3.out.r4; have kf := HC3.out.rf; have kz := HC3.out.z)
      | fail)
  all_goals
    have HN : Hid (M.length = l.length + 1 ∧ cellsP M = cellsP l ++ [.int .i64 a.kind, .int .i64 a.num, .string a.name, .int .i64 b.kind, .int .i64 b.num, .string b.name]) := by
      show _ ∧ _
      rw [HM.out]
      refine ⟨by simp, ?_⟩
      rw [cellsP_append]; simp [cellsP, Pai.cells]
    have HO3 : Hid (w3.ownsRow W.heap.size 71 6 (.slice (some ⟨g', 0, none⟩) (l.length + 1) cap') M.length (cellsP M)) := by show World.ownsRow _ _ _ _ _ _ _; rw [HN.out.1, HN.out.2]; exact hown3
    have old3 := HC3.out.old
    have HL : Hid (M.length = l.length + 1) := HN.out.1
    clear hown3 hgrow3 hat3
    go_wp2
    refine bodyPost_ret (v := .agg #[.int .i64 0, .slice (some ⟨g', 0, none⟩) (l.length + 1) cap', .int .i64 5, .int .i64 (l.length : Int), .string ⟨#[]⟩]) (by simp [results, Try.results9, go_sem, k0, k1, k2, k3, k4]) rfl ⟨some ⟨g', 0, none⟩, cap', by rw [HL.out], ?_, ?_⟩
    · refine own_base (base := W.heap.size) ?_ (by omega)
      rw [HL.out]
      have := HO3.out
      rw [HL.out] at this
      repeat (first | (with_reducible exact this) | refine own_set_low ?_ (by omega) _)
    · repeat (first | (with_reducible exact old3) | refine Below.setCell ?_ (by simp <;> omega) _)
end Go.Proofs.Ytbfhoennafopaaa
