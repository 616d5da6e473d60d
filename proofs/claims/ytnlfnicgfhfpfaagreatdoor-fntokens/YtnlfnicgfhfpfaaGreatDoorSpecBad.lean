/-
  The model's TokensOf at a text that goes wrong: the code, the place, and no slice at all; nothing that was there is turned.
-/
import Derived.Test.YtnlfnicgfhfpfaaGreatDoorSpecOf
namespace Go.Proofs.YtnlfnicgfhfpfaaGreatDoor
open Go.RowKit Go.Extern.Stop Go.Stop Go.Extern Num Go.Lib

theorem specOf_bad (s : ByteArray) (c a : Int) (l : List Tok) (h : TOf s c a l) (hc : c ≠ 0) (w : World) :
    Calls Tryz.prog 7 #[.string s] w fun e w' => e = .returned (.agg #[.int .i64 c, .int .i64 a, .slice none 0 0]) ∧ Below w.heap.size w w' := by
  rcases h with ⟨h1, rfl, rfl, rfl⟩ | ⟨h1, h2⟩
  · have h3 : 400 < (s.size : Int) := by omega
    clear h1 hc
    go_enter Tryz.func7, Tryz.ntmps7
    go_wp2
    refine bodyPost_ret (v := .agg #[.int .i64 2, .int .i64 0, .slice none 0 0]) (by simp [results, Tryz.results7, go_sem]) rfl ⟨rfl, ?_⟩
    repeat (first | exact Below.refl _ _ | refine Below.setCell ?_ (by simp) _ | refine Below.alloc ?_ (by simp <;> omega) _)
  · have HT : Hid (∀ w, Calls Tryz.prog 19 #[.string s] w fun e w' => e = .returned (.tuple #[.slice none 0 0, .int .i64 c, .int .i64 a]) ∧ Below w.heap.size w w') := fun w => by
      refine (l2Tokens_any s w h1).mono ?_
      rintro e w' ⟨v, c', a', l', rfl, h', _, hb, hv⟩
      obtain ⟨rfl, rfl, _⟩ := cut_one h' h2
      rcases hv with hv | rfl
      · exact absurd hv hc
      · exact ⟨rfl, hb⟩
    clear h2 hc
    go_enter Tryz.func7, Tryz.ntmps7
    go_wp2_with (go_at_call 19; refine (HT.out _).mono ?_; rintro e w1 ⟨rfl, hb⟩; obtain ⟨hc, hf⟩ := bcell hb)
    refine bodyPost_ret (v := .agg #[.int .i64 c, .int .i64 a, .slice none 0 0]) (by simp [results, Tryz.results7, go_sem, hc]) rfl ⟨rfl, ?_⟩
    repeat (first | exact Below.refl _ _ | refine Below.setCell ?_ (by simp) _ | refine Below.trans ?_ (hb.mono (by simp)) | refine Below.alloc ?_ (by simp <;> omega) _)
end Go.Proofs.YtnlfnicgfhfpfaaGreatDoor
