/-
  The program's TokensOf and SpotOf: the code, the place and the tokens of a text; nothing that was there is turned.
-/
import Derived.Test.YtnlfnicgfhfpfaaGreatDoorImplCut
namespace Go.Proofs.YtnlfnicgfhfpfaaGreatDoor
open Go.RowKit Go.Extern.Stop Go.Stop Go.Extern Num Go.Lib

theorem implOf_far (s : ByteArray) (w : World) (h : 400 < (s.size : Int)) :
    Calls Tryz.prog 6 #[.string s] w fun e w' => AnsT s w e w' := by
  go_enter Tryz.func6, Tryz.ntmps6
  go_wp2
  refine bodyPost_ret (v := .agg #[.int .i64 2, .int .i64 0, .slice none 0 0]) (by simp [results, Tryz.results6, go_sem]) rfl ⟨none, 0, 2, 0, [], rfl, Or.inl ⟨by omega, rfl, rfl, rfl⟩, World.ownsRow_nil _ _ _ _, ?_⟩
  repeat (first | exact Below.refl _ _ | refine Below.setCell ?_ (by simp) _ | refine Below.alloc ?_ (by simp <;> omega) _)
theorem implOf_near (s : ByteArray) (w : World) (hL : LR w) (h : s.size ≤ 400) :
    Calls Tryz.prog 6 #[.string s] w fun e w' => AnsT s w e w' := by
  have HT : Hid (∀ w, LR w → Calls Tryz.prog 18 #[.string s] w fun e w' => AnsT s w e w') := fun w hL => cut_any s w h hL
  go_enter Tryz.func6, Tryz.ntmps6
  go_wp2_with fail
  refine (HT.out _ (hL.alloc _)).mono ?_
  rintro e w1 ⟨ao, cap, c, a, l, rfl, hcut, hown, hb⟩
  have HO : Hid (World.ownsRow w1 _ 37 3 (.slice ao l.length cap) l.length (cellsOf l)) := hown
  clear hown
  obtain ⟨hc, hf⟩ := bcell hb
  go_wp2
  refine bodyPost_ret (v := .agg #[.int .i64 c, .int .i64 a, .slice ao l.length cap]) (by simp [results, Tryz.results6, go_sem, hc]) rfl ⟨ao, cap, c, a, l, rfl, hcut, ?_, ?_⟩
  · have h1 := own_base HO.out (show w.heap.size ≤ _ by simp)
    have h2 : ∀ g, (Value.slice ao l.length cap).ownBlock = some g → w.heap.size < g := fun g hg => by have := (HO.out.lt g hg).1; simp at this; omega
    repeat (first | exact h1 | refine own_set' ?_ (fun g hg => by have := h2 g hg; show g ≠ w.heap.size; omega) _)
  · repeat (first | exact Below.refl _ _ | refine Below.setCell ?_ (by simp) _ | refine Below.trans ?_ (hb.mono (by simp)) | refine Below.alloc ?_ (by simp <;> omega) _)
theorem implOf_any (s : ByteArray) (w : World) (hL : LR w) : Calls Tryz.prog 6 #[.string s] w fun e w' => AnsT s w e w' := by
  by_cases h : 400 < (s.size : Int)
  · exact implOf_far s w h
  · exact implOf_near s w hL (by omega)
theorem implSpot_any (s : ByteArray) (w : World) (c a : Int) (l : List Tok) (h : TOf s c a l) (hL : LR w) :
    Calls Tryz.prog 8 #[.string s] w fun e w' => e = .returned (IR c (spotV c a l)) ∧ Below w.heap.size w w' := by
  have HT : Hid (∀ w, LR w → Calls Tryz.prog 6 #[.string s] w fun e w' => ∃ ao cap, e = .returned (.agg #[.int .i64 c, .int .i64 a, .slice ao l.length cap]) ∧ Below w.heap.size w w') := fun w hL => by
    refine (implOf_any s w hL).mono ?_
    rintro e w' ⟨ao, cap, c', a', l', rfl, h', _, hb⟩
    obtain ⟨rfl, rfl, rfl⟩ := tof_one h' h
    exact ⟨ao, cap, rfl, hb⟩
  have hl := tof_len h
  clear h
  by_cases hz : c = 0
  · subst hz
    go_enter Tryz.func8, Tryz.ntmps8
    go_wp2_with (go_at_call 6; refine (HT.out _ (hL.alloc _)).mono ?_; rintro e w1 ⟨ao, cap, rfl, hb⟩; obtain ⟨hc, hf⟩ := bcell hb; have hz : w.heap.size < w1.heap.size := (by have := hb.size; simp at this; omega))
    refine bodyPost_ret (v := IR 0 l.length) (by simp [results, Tryz.results8, go_sem, hc, hz]) rfl ⟨rfl, ?_⟩
    repeat (first | exact Below.refl _ _ | refine Below.setCell ?_ (by simp) _ | refine Below.trans ?_ (hb.mono (by simp)) | refine Below.alloc ?_ (by first | omega | (simp <;> omega)) _)
  · have hz1 : (c != 0) = true := by simpa using hz
    have hv : spotV c a l = a := by unfold spotV; rw [if_neg hz]
    rw [hv]
    clear hv
    go_enter Tryz.func8, Tryz.ntmps8
    go_wp2_with (go_at_call 6; refine (HT.out _ (hL.alloc _)).mono ?_; rintro e w1 ⟨ao, cap, rfl, hb⟩; obtain ⟨hc, hf⟩ := bcell hb; have hz : w.heap.size < w1.heap.size := (by have := hb.size; simp at this; omega))
    refine bodyPost_ret (v := IR c a) (by simp [results, Tryz.results8, go_sem, hc, hz]) rfl ⟨rfl, ?_⟩
    repeat (first | exact Below.refl _ _ | refine Below.setCell ?_ (by simp) _ | refine Below.trans ?_ (hb.mono (by simp)) | refine Below.alloc ?_ (by first | omega | (simp <;> omega)) _)
end Go.Proofs.YtnlfnicgfhfpfaaGreatDoor
