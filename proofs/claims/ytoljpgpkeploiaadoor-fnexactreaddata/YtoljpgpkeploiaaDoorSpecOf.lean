/-
  The model's TokensOf and SpotOf: the code, the place and the tokens of a text; nothing that was there is turned.
-/
import Derived.Test.YtoljpgpkeploiaaDoorSpecTokens
namespace Go.Proofs.YtoljpgpkeploiaaDoor
open Go.RowKit Go.Extern.Stop Go.Stop Go.Extern Num Go.Lib

/-- The code, the place and the tokens of a text. -/
def TOf (s : ByteArray) (c a : Int) (l : List Tok) : Prop := (400 < s.size ∧ c = 2 ∧ a = 0 ∧ l = []) ∨ (s.size ≤ 400 ∧ Cut s (skip s.data.toList 0) [] c a l)
theorem tof_one {s : ByteArray} {c a c' a' : Int} {l l' : List Tok} (h : TOf s c a l) (h' : TOf s c' a' l') : c = c' ∧ a = a' ∧ l = l' := by
  rcases h with ⟨h1, rfl, rfl, rfl⟩ | ⟨h1, h2⟩ <;> rcases h' with ⟨h3, rfl, rfl, rfl⟩ | ⟨h3, h4⟩
  · exact ⟨rfl, rfl, rfl⟩
  · omega
  · omega
  · exact cut_one h2 h4
theorem tof_len {s : ByteArray} {c a : Int} {l : List Tok} (h : TOf s c a l) : l.length ≤ 120 := by
  rcases h with ⟨_, _, _, rfl⟩ | ⟨_, h⟩
  · exact Nat.zero_le _
  · exact cut_len h (Nat.zero_le _)
theorem tof_total (s : ByteArray) : ∃ c a l, TOf s c a l := by
  by_cases h : 400 < s.size
  · exact ⟨2, 0, [], Or.inl ⟨h, rfl, rfl, rfl⟩⟩
  · obtain ⟨c, a, l, hc⟩ := cut_total s _ (skip s.data.toList 0) [] (Nat.le_refl _) (skip_idem _ _ 0 (Nat.le_refl _))
    exact ⟨c, a, l, Or.inr ⟨by omega, hc⟩⟩
/-- An answer of TokensOf. -/
def AnsT (s : ByteArray) (w : World) (e : Ending) (w' : World) : Prop :=
  ∃ ao cap c a l, e = .returned (.agg #[.int .i64 c, .int .i64 a, .slice ao l.length cap]) ∧ TOf s c a l ∧ w'.ownsRow w.heap.size 74 3 (.slice ao l.length cap) l.length (cellsOf l) ∧ Below w.heap.size w w'
theorem specOf_far (s : ByteArray) (w : World) (h : 400 < (s.size : Int)) :
    Calls Tryd.prog 34 #[.string s] w fun e w' => AnsT s w e w' := by
  go_enter Tryd.func34, Tryd.ntmps34
  go_wp2
  refine bodyPost_ret (v := .agg #[.int .i64 2, .int .i64 0, .slice none 0 0]) (by simp [results, Tryd.results34, go_sem]) rfl ⟨none, 0, 2, 0, [], rfl, Or.inl ⟨by omega, rfl, rfl, rfl⟩, World.ownsRow_nil _ _ _ _, ?_⟩
  repeat (first | exact Below.refl _ _ | refine Below.setCell ?_ (by simp) _ | refine Below.alloc ?_ (by simp <;> omega) _)
theorem specOf_near (s : ByteArray) (w : World) (h : s.size ≤ 400) :
    Calls Tryd.prog 34 #[.string s] w fun e w' => AnsT s w e w' := by
  have HT : Hid (∀ w, Calls Tryd.prog 62 #[.string s] w fun e w' => TRes s w e w') := fun w => l2Tokens_any s w h
  go_enter Tryd.func34, Tryd.ntmps34
  go_wp2_with fail
  refine (HT.out _).mono ?_
  rintro e w1 ⟨v, c, a, l, rfl, hcut, hown, hb, -⟩
  obtain ⟨ao, cap, rfl⟩ := own_form hown
  have HO : Hid (World.ownsRow w1 _ 74 3 (.slice ao l.length cap) l.length (cellsOf l)) := hown
  clear hown
  obtain ⟨hc, hf⟩ := bcell hb
  go_wp2
  refine bodyPost_ret (v := .agg #[.int .i64 c, .int .i64 a, .slice ao l.length cap]) (by simp [results, Tryd.results34, go_sem, hc]) rfl ⟨ao, cap, c, a, l, rfl, Or.inr ⟨h, hcut⟩, ?_, ?_⟩
  · have h1 := own_base HO.out (show w.heap.size ≤ _ by simp)
    have h2 : ∀ g, (Value.slice ao l.length cap).ownBlock = some g → w.heap.size < g := fun g hg => by have := (HO.out.lt g hg).1; simp at this; omega
    repeat (first | exact h1 | refine own_set' ?_ (fun g hg => by have := h2 g hg; show g ≠ w.heap.size; omega) _)
  · repeat (first | exact Below.refl _ _ | refine Below.setCell ?_ (by simp) _ | refine Below.trans ?_ (hb.mono (by simp)) | refine Below.alloc ?_ (by simp <;> omega) _)
theorem specOf_any (s : ByteArray) (w : World) : Calls Tryd.prog 34 #[.string s] w fun e w' => AnsT s w e w' := by
  by_cases h : 400 < (s.size : Int)
  · exact specOf_far s w h
  · exact specOf_near s w (by omega)
/-- The code and the value of SpotOf. -/
def spotV (c a : Int) (l : List Tok) : Int := if c = 0 then l.length else a
end Go.Proofs.YtoljpgpkeploiaaDoor
