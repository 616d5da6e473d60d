/-
  The model's l7Put: a global of a name put, in memory of its own; nothing that was there is turned.
-/
import Derived.Test.YtgfienijabkpjaaPutMath
import Derived.Test.YtgfienijabkpjaaVBox
import Derived.Test.YtgfienijabkpjaaRowKit0
import Derived.Deep.RegionHeld3
namespace Go.Proofs.Ytgfienijabkpjaa
open Go.RowKit Go.Extern.Stop Go.Stop Go.Extern Num Go.Lib

theorem emptyG (w : World) : (w.alloc (.cells #[] 33)).ownsRow w.heap.size 33 5 (.slice (some ⟨w.heap.size, 0, none⟩) 0 0) 0 (cellsG []) :=
  ⟨by simp [cellsG], .inr ⟨w.heap.size, 0, _, rfl, Nat.le_refl _, heap_alloc_new w _, Nat.le_refl _, by unfold maxLen; omega, by simp, by simp [cellsG]⟩⟩
theorem noneG (w : World) (B : Nat) : w.ownsRow B 33 5 (.slice none ([] : List Glb).length 0) ([] : List Glb).length (cellsG []) := ⟨by simp [cellsG], .inl ⟨rfl, rfl⟩⟩
/-- What l7Put answers: a row of its own and a code. -/
def AnsPut (w : World) (M : List Glb) (C : Int) (e : Ending) (w' : World) : Prop :=
  ∃ ao cp, e = .returned (.tuple #[.slice ao M.length cp, .int .i64 C]) ∧ w'.ownsRow w.heap.size 33 5 (.slice ao M.length cp) M.length (cellsG M) ∧ Below w.heap.size w w'
set_option maxRecDepth 100000 in
set_option maxHeartbeats 4000000 in
theorem l7Put_any (cap base g : Nat) (l : List Glb) (s : ByteArray) (v : Vlu) (w : World) (hl : l.length ≤ 60) (hver : ∀ (k : Nat) (hk : k < l.length), 1 ≤ l[k].ver ∧ l[k].ver ≤ 99999) (h : w.ownsRow base 33 5 (.slice (some ⟨g, 0, none⟩) l.length cap) l.length (cellsG l)) :
    Calls Try.prog 43 #[.slice (some ⟨g, 0, none⟩) l.length cap, .string s, v.val] w fun e w' => AnsPut w (putL l s v) (putC l s) e w' := by
  obtain ⟨M, hM⟩ : ∃ M, M = putL l s v := ⟨_, rfl⟩
  obtain ⟨C, hC⟩ : ∃ C, C = putC l s := ⟨_, rfl⟩
  have HMC : Hid (M = putL l s v ∧ C = putC l s) := ⟨hM, hC⟩
  rw [← hM, ← hC]
  obtain ⟨i0, hi, hz0, hz1, hz2⟩ := info_parts infoG
  have HO : Hid (w.ownsRow base 33 5 (.slice (some ⟨g, 0, none⟩) l.length cap) l.length (cellsG l)) := h
  have HVr : Hid (∀ (k : Nat) (hk : k < l.length), 1 ≤ l[k].ver ∧ l[k].ver ≤ 99999) := hver
  have HAt : Hid (∀ u, RowG u g l → Calls Try.prog 44 #[.slice (some ⟨g, 0, none⟩) l.length cap, .string s] u fun e w' => e = .returned (.int .i64 (atI (atG l s))) ∧ w' = u) := fun u hu => l7At_any _ cap g l s u (by omega) (fun _ => rfl) hu
  obtain ⟨W, hW⟩ : ∃ W, W = w.alloc (.cells #[.int .i64 v.kind, .int .i64 v.num, .string v.name] 26) := ⟨_, rfl⟩
  have HW : Hid (W = w.alloc (.cells #[.int .i64 v.kind, .int .i64 v.num, .string v.name] 26)) := hW
  have HBW : Hid (Below w.heap.size w W) := by rw [hW]; exact (Below.refl _ _).alloc (Nat.le_refl _) _
  have zW : W.heap.size = w.heap.size + 1 := by rw [hW]; simp
  have HVW : Hid (VluAt w.heap.size 0 v W) := by
    rw [hW]
    exact ⟨by rw [World.cell?_alloc_at _ _ _ _ rfl]; rfl, by rw [World.cell?_alloc_at _ _ _ _ rfl]; rfl, by rw [World.cell?_alloc_at _ _ _ _ rfl]; rfl⟩
  have HM : Hid ((W.alloc (.cells #[] 33)).ownsRow (w.heap.size + 1) 33 5 (.slice (some ⟨w.heap.size + 1, 0, none⟩) 0 0) 0 (cellsG [])) := by rw [← zW]; exact emptyG W
  have HAd : Hid (∀ j, (⟨g, 0, none⟩ : Addr).add j = ⟨g, j, none⟩) := fun j => by unfold Addr.add; split <;> simp_all
  clear h hver hM hC hW
  by_cases h0 : l = []
  case pos =>
    have HE : Hid (M = [⟨s, v, 1⟩] ∧ C = 0) := by obtain ⟨e1, e2⟩ := HMC.out; subst h0; rw [e1, e2]; exact ⟨rfl, rfl⟩
    have HA0 : Hid (∀ u, Calls Try.prog 44 #[.slice (some ⟨g, 0, none⟩) 0 cap, .string s] u fun e w' => e = .returned (.int .i64 (-1)) ∧ w' = u) := fun u => by
      subst h0
      exact l7At_any _ cap g [] s u (by simp) (fun _ => rfl) (fun k hk => absurd hk (by simp))
    have hl0 : l.length = 0 := by rw [h0]; rfl
    rw [hl0]
    obtain ⟨X, hX⟩ : ∃ X, X = W.alloc (.cells #[] 33) := ⟨_, rfl⟩
    have HX : Hid (X = W.alloc (.cells #[] 33)) := hX
    have HBX : Hid (Below W.heap.size W X) := by rw [hX]; exact (Below.refl _ _).alloc (Nat.le_refl _) _
    have HMX : Hid (World.ownsRow X (w.heap.size + 1) 33 5 (.slice (some ⟨w.heap.size + 1, 0, none⟩) 0 0) 0 (cellsG [])) := by rw [hX]; exact HM.out
    have zX : X.heap.size = w.heap.size + 2 := by rw [hX]; simp; omega
    have HVX : Hid (VluAt w.heap.size 0 v X) := HVW.out.below HBX.out
    clear h0 hl0 hX HMC HO HVr HAt HM
    have c0 := HVX.out.c0
    have c1 := HVX.out.c1
    have c2 := HVX.out.c2
    go_enter Try.func43, Try.ntmps43
    go_wp2_with fail
    rw [← HW.out, ← HX.out]
    refine (HA0.out _).mono ?_
    rintro e w1 ⟨rfl, hw1⟩
    subst hw1
    have HBx : Hid (Below w.heap.size w w1) := HBW.out.trans (HBX.out.mono HBW.out.size)
    go_wp2_with (at_builtin; refine wpList_append_lies _ rfl (.tmp 41) (.tmp 45) 24 rfl (w.heap.size + 1) 33 i0 _ 5 56 Try.underlying24 hi hz0 hz1 hz2 rfl (by decide) _ 0 (cellsG []) rfl (HMX.out.alloc _) ⟨_, 0, none⟩ 1 1 [.string s, .int .i64 v.kind, .int .i64 v.num, .string v.name, .int .i64 1] rfl rfl ?c1 ?c2 (by decide) ?c3 ?c4 ?c5 _ rfl ?_)
    case c1 => exact World.news_of_block (cs := #[.string s, .int .i64 v.kind, .int .i64 v.num, .string v.name, .int .i64 1]) (t := 33) (fr := (0, 0)) (heap_new' _ _ _ (by first | rfl | simp | omega | (simp; omega)))
    case c2 => intro u hu; simp at hu; rcases hu with rfl | rfl | rfl | rfl | rfl <;> rfl
    case c3 => unfold maxLen; omega
    case c4 => omega
    case c5 => first | omega | (simp; omega) | simp
    intro g' cap' w4 hown4 hgrow4 hat4 hlt4
    have HN : Hid (M.length = 0 + 1 ∧ cellsG M = cellsG [] ++ [.string s, .int .i64 v.kind, .int .i64 v.num, .string v.name, .int .i64 1]) := by
      show _ ∧ _
      rw [HE.out.1]
      exact ⟨by simp, by first | rfl | (rw [cellsG_append]; rfl)⟩
    have HO4 : Hid (w4.ownsRow (w.heap.size + 1) 33 5 (.slice (some ⟨g', 0, none⟩) M.length cap') M.length (cellsG M)) := by
      show World.ownsRow _ _ _ _ _ _ _
      rw [HN.out.1, HN.out.2]; exact hown4
    have HB4 : Hid (Below w.heap.size w w4) := Below.grown (HBx.out.alloc (by have := HBx.out.size; omega) _) hgrow4 (by simp; omega) (fun j hj => Nat.le_trans (by omega) (HMX.out.lt j hj).1)
    clear hown4 hgrow4 hat4 c0 c1 c2
    go_wp2
    exact bodyPost_ret (v := .tuple #[.slice (some ⟨g', 0, none⟩) (0 + 1) cap', .int .i64 0]) (by simp [results, Try.results43, go_sem]) rfl ⟨some ⟨g', 0, none⟩, cap', by rw [HN.out.1, HE.out.2], own_base HO4.out (by omega), HB4.out⟩
  have hpos : 0 < l.length := List.length_pos_iff.2 h0
  have HN : Hid (l.length ≤ 60 ∧ 0 < l.length) := ⟨hl, hpos⟩
  clear h0
  go_enter Try.func43, Try.ntmps43
  go_wp2_with (at_builtin; refine wpList_append_lies _ rfl (.tmp 10) (.tmp 11) 24 rfl (w.heap.size + 1) 33 i0 _ 5 56 Try.underlying24 hi hz0 hz1 hz2 rfl (by decide) _ 0 (cellsG []) rfl ?c0 ⟨g, 0, none⟩ l.length cap (cellsG l) rfl ?c6 ?c1 ?c2 ?c7 ?c3 ?c4 ?c5 _ rfl ?_)
  case c0 => rw [← HW.out]; exact HM.out
  case c6 => rw [cellsG_length]
  case c1 => exact fun j u hj => cell_laid _ (cell_laid _ (by rw [← HAd.out]; exact HO.out.cells (g := g) rfl j u hj))
  case c2 => exact cellsG_one l
  case c3 => unfold maxLen; omega
  case c4 => omega
  try (case c5 => first | omega | (simp; omega) | simp)
  try (case c7 => exact hpos)
  intro g2 cb w2 hown2 hgrow2 hat2 hlt2
  have HO2 : Hid (w2.ownsRow (w.heap.size + 1) 33 5 (.slice (some ⟨g2, 0, none⟩) l.length cb) l.length (cellsG l)) := by show World.ownsRow _ _ _ _ _ _ _; simpa [cellsG] using hown2
  have HB2 : Hid (Below W.heap.size W w2) := by
    rw [← HW.out] at hgrow2
    exact Below.grown ((Below.refl _ _).alloc (Nat.le_refl _) _) hgrow2 (by simp) (fun j hj => by simp [Value.ownBlock] at hj; omega)
  have HB2w : Hid (Below w.heap.size w w2) := HBW.out.trans (HB2.out.mono HBW.out.size)
  have HV2 : Hid (VluAt w.heap.size 0 v w2) := HVW.out.below HB2.out
  have HP2 : Hid (RowG w2 g l) := (RowG.of HO.out).below HB2w.out
  have z2 : w.heap.size + 1 ≤ w2.heap.size := by have := HB2.out.size; omega
  have hg2 : w.heap.size + 1 ≤ g2 ∧ g2 < w2.heap.size := by have := HO2.out.lt g2 rfl; omega
  clear hown2 hgrow2 hat2 HM HO HBW HVW HAd
  have c0 := HV2.out.c0
  have c1 := HV2.out.c1
  have c2 := HV2.out.c2
  go_wp2_with fail
  refine (HAt.out _ HP2.out).mono ?_
  rintro e w3 ⟨rfl, hw3⟩
  subst hw3
  cases hat : atG l s with
  | none =>
    have ha : atI none = -1 := rfl
    rw [ha]
    by_cases h6 : 60 ≤ l.length
    · have HE : Hid (M = [] ∧ C = 2) := by obtain ⟨e1, e2⟩ := HMC.out; rw [e1, e2, putL_none hat, putC_none hat, if_pos h6, if_pos h6]; exact ⟨rfl, rfl⟩
      have h6' : (60 : Int) ≤ (l.length : Int) := by omega
      clear h6 hat
      go_wp2
      exact bodyPost_ret (v := .tuple #[.slice none 0 0, .int .i64 2]) (by simp [results, Try.results43, go_sem]) rfl ⟨none, 0, by rw [HE.out.1, HE.out.2]; rfl, by rw [HE.out.1]; exact noneG _ _, HB2w.out⟩
    · have HE : Hid (M = l ++ [⟨s, v, 1⟩] ∧ C = 0) := by obtain ⟨e1, e2⟩ := HMC.out; rw [e1, e2, putL_none hat, putC_none hat, if_neg h6, if_neg h6]; exact ⟨rfl, rfl⟩
      have h6' : ¬ (60 : Int) ≤ (l.length : Int) := by omega
      clear hat HP2 HAt HMC HVr
      go_wp2_with (at_builtin; refine wpList_append_lies _ rfl (.tmp 41) (.tmp 45) 24 rfl (w.heap.size + 1) 33 i0 _ 5 56 Try.underlying24 hi hz0 hz1 hz2 rfl (by decide) _ l.length (cellsG l) rfl (HO2.out.alloc _) ⟨_, 0, none⟩ 1 1 [.string s, .int .i64 v.kind, .int .i64 v.num, .string v.name, .int .i64 1] rfl rfl ?c1 ?c2 (by decide) ?c3 ?c4 ?c5 _ rfl ?_)
      case c1 => exact World.news_of_block (cs := #[.string s, .int .i64 v.kind, .int .i64 v.num, .string v.name, .int .i64 1]) (t := 33) (fr := (0, 0)) (heap_new' _ _ _ (by first | rfl | simp | omega | (simp; omega)))
      case c2 => intro u hu; simp at hu; rcases hu with rfl | rfl | rfl | rfl | rfl <;> rfl
      case c3 => unfold maxLen; omega
      case c4 => omega
      case c5 => first | omega | (simp; omega) | simp
      intro g' cap' w4 hown4 hgrow4 hat4 hlt4
      have HN : Hid (M.length = l.length + 1 ∧ cellsG M = cellsG l ++ [.string s, .int .i64 v.kind, .int .i64 v.num, .string v.name, .int .i64 1]) := by
        show _ ∧ _
        rw [HE.out.1]
        exact ⟨by simp, by first | rfl | (rw [cellsG_append]; rfl)⟩
      have HO4 : Hid (w4.ownsRow (w.heap.size + 1) 33 5 (.slice (some ⟨g', 0, none⟩) M.length cap') M.length (cellsG M)) := by
        show World.ownsRow _ _ _ _ _ _ _
        rw [HN.out.1, HN.out.2]; exact hown4
      have HB4 : Hid (Below w.heap.size w w4) := Below.grown (HB2w.out.alloc (by have := HB2w.out.size; omega) _) hgrow4 (by simp; omega) (fun j hj => Nat.le_trans (by omega) (HO2.out.lt j hj).1)
      clear hown4 hgrow4 hat4 c0 c1 c2
      go_wp2
      exact bodyPost_ret (v := .tuple #[.slice (some ⟨g', 0, none⟩) (l.length + 1) cap', .int .i64 0]) (by simp [results, Try.results43, go_sem]) rfl ⟨some ⟨g', 0, none⟩, cap', by rw [HN.out.1, HE.out.2], own_base HO4.out (by omega), HB4.out⟩
  | some k =>
    obtain ⟨hk, _, _⟩ := atG_some hat
    have ha : atI (some k) = (k : Int) := rfl
    rw [ha]
    obtain ⟨r0, r1, r2, r3, r4⟩ := rowG_at HO2.out k hk
    obtain ⟨p, hp⟩ : ∃ p, p = (l[k]'hk).ver := ⟨_, rfl⟩
    have hpv := HVr.out k hk
    rw [← hp] at hpv r4
    have hkl : (k : Int) < (l.length : Int) := by omega
    by_cases h9 : 99999 ≤ p
    · have HE : Hid (M = [] ∧ C = 3) := by obtain ⟨e1, e2⟩ := HMC.out; rw [e1, e2, putL_some hat hk, putC_some hat hk, ← hp, if_pos h9, if_pos h9]; exact ⟨rfl, rfl⟩
      clear hat hp HP2 HAt HMC HVr r0 r1 r2 r3 c0 c1 c2
      go_wp2
      exact bodyPost_ret (v := .tuple #[.slice none 0 0, .int .i64 3]) (by simp [results, Try.results43, go_sem]) rfl ⟨none, 0, by rw [HE.out.1, HE.out.2]; rfl, by rw [HE.out.1]; exact noneG _ _, HB2w.out⟩
    · have HE : Hid (M = (l.take k ++ [⟨(l[k]'hk).name, v, p + 1⟩]) ++ l.drop (k + 1) ∧ C = 0) := by obtain ⟨e1, e2⟩ := HMC.out; rw [e1, e2, putL_some hat hk, putC_some hat hk, ← hp, if_neg h9, if_neg h9]; exact ⟨rfl, rfl⟩
      have HL : Hid (M.length = l.length) := by show M.length = _; rw [HE.out.1]; exact put_len l k hk _
      have HX : Hid (((((cellsG l).set (k * 5 + 1) (.int .i64 v.kind)).set (k * 5 + 2) (.int .i64 v.num)).set (k * 5 + 3) (.string v.name)).set (k * 5 + 4) (.int .i64 (p + 1)) = cellsG M) := by show _ = cellsG M; rw [HE.out.1]; exact put_cells l k hk v (p + 1)
      have hf : ∀ j, w3.frozen? ⟨g2, j, none⟩ = false := own_frozen HO2.out
      have HOx : Hid (∀ (a b c d : Value), ((((w3.setCell ⟨g2, k * 5 + 1, none⟩ a).setCell ⟨g2, k * 5 + 2, none⟩ b).setCell ⟨g2, k * 5 + 3, none⟩ c).setCell ⟨g2, k * 5 + 4, none⟩ d).ownsRow (w.heap.size + 1) 33 5 (.slice (some ⟨g2, 0, none⟩) l.length cb) l.length (((((cellsG l).set (k * 5 + 1) a).set (k * 5 + 2) b).set (k * 5 + 3) c).set (k * 5 + 4) d)) := fun a b c d => own_put (own_put (own_put (own_put HO2.out _ _) _ _) _ _) _ _
      clear hat hp HP2 HAt HMC HVr r0
      go_wp2
      exact bodyPost_ret (v := .tuple #[.slice (some ⟨g2, 0, none⟩) l.length cb, .int .i64 0]) (by simp [results, Try.results43, go_sem]) rfl ⟨some ⟨g2, 0, none⟩, cb, by rw [HL.out, HE.out.2], own_base (base := w.heap.size + 1) (by rw [HL.out, ← HX.out]; exact HOx.out _ _ _ _) (by omega), by repeat (first | exact HB2w.out | refine Below.setCell ?_ (by simp <;> omega) _)⟩
end Go.Proofs.Ytgfienijabkpjaa
