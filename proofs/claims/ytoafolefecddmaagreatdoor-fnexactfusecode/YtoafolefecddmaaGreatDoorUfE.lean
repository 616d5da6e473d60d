/-
  Parts of the proof laid into one text, one behind the other: ImplUb, ImplOg, ImplUc. Contracts of the program's and the model's functions, and what they are proved of, as their theorems say.
-/
import Derived.Test.YtoafolefecddmaaGreatDoorUfC
import Derived.Test.YtoafolefecddmaaGreatDoorUfD
import Derived.Test.YtoafolefecddmaaGreatDoorCoB
import Derived.Test.YtoafolefecddmaaGreatDoorMkB
import Derived.Test.YtoafolefecddmaaGreatDoorHjE
namespace Go.Proofs.YtoafolefecddmaaGreatDoor
open Go.RowKit Go.Extern.Stop Go.Stop Go.Extern Num Go.Lib
theorem apartO_append {P N : List (Opr × Value)} (hp : apartO P) (hn : apartO N) (hx : ∀ (i k : Nat) (hi : i < P.length) (hk : k < N.length), farV P[i].2 N[k].2) : apartO (P ++ N) := by
  intro i j hi hj hne
  rw [List.length_append] at hi hj
  by_cases a : i < P.length <;> by_cases c : j < P.length
  · rw [List.getElem_append_left a, List.getElem_append_left c]; exact hp i j a c hne
  · rw [List.getElem_append_left a, List.getElem_append_right (by omega)]
    exact hx i (j - P.length) a (by omega)
  · rw [List.getElem_append_right (by omega), List.getElem_append_left c]
    intro g h1 h2
    exact hx j (i - P.length) c (by omega) g h2 h1
  · rw [List.getElem_append_right (by omega), List.getElem_append_right (by omega)]
    exact hn _ _ _ _ (by omega)
theorem apartO_one (x : Opr × Value) : apartO [x] := fun i j hi hj hne => by simp at hi hj; omega
theorem apartO_turn {Q : List Int} {P : List (Opr × Value)} (h : apartO P) : apartO (turnP Q P) := by
  intro i j hi hj hne
  rw [turnP_len] at hi hj
  have e : ∀ (k : Nat) (hk : k < P.length), ((turnP Q P)[k]'(by rw [turnP_len]; exact hk)).2 = P[k].2 := fun k hk => by simp [turnP]
  rw [e i hi, e j hj]
  exact h i j hi hj hne
def AnsUb (b : Blk) (l' : List Opr) (w : World) (e : Ending) (w' : World) : Prop := ∃ v P, e = .returned (.agg #[.int .i64 b.args, v]) ∧ OV w' w.heap.size v P ∧ P.map Prod.fst = l' ∧ apartO P ∧ Below w.heap.size w w'
structure UbS (W : World) (B rb : Nat) (M : List (Opr × Value)) (Q : List Int) (u : World) : Prop where
  rbat : RbAt u B rb M Q
  fz : ∀ j, u.frozen? ⟨rb, j, none⟩ = false
  ap : apartO M
  below : Below rb W u
theorem apartR.snoc {R : List RB} {r : RB} (h : apartR R) (hr : apartO r.P) (hx : ∀ (i : Nat) (hi : i < R.length) (b : Nat), footO R[i].v R[i].P b → ¬ footO r.v r.P b) : apartR (R ++ [r]) := by
  have key : ∀ (i : Nat) (hi : i < (R ++ [r]).length), (i < R.length ∧ ∃ h' : i < R.length, (R ++ [r])[i] = R[i]) ∨ (i = R.length ∧ (R ++ [r])[i] = r) := fun i hi => by
    by_cases q : i < R.length
    · exact .inl ⟨q, q, List.getElem_append_left q⟩
    · have e : i = R.length := by simp at hi; omega
      subst e
      exact .inr ⟨rfl, by simp⟩
  refine ⟨fun i j hi hj hne => ?_, fun i j hi hj hne m n hm hn => ?_, fun i hi => ?_⟩
  · rcases key i hi with ⟨-, a, ea⟩ | ⟨a, ea⟩ <;> rcases key j hj with ⟨-, c, ec⟩ | ⟨c, ec⟩
    · rw [ea, ec]; exact h.rows i j a c hne
    · rw [ea, ec]; exact fun g h1 h2 => hx i a g (.inl h1) (.inl h2)
    · rw [ea, ec]; exact fun g h1 h2 => hx j c g (.inl h2) (.inl h1)
    · omega
  · rcases key i hi with ⟨-, a, ea⟩ | ⟨a, ea⟩ <;> rcases key j hj with ⟨-, c, ec⟩ | ⟨c, ec⟩
    · have hm' : m < R[i].P.length := by rw [← ea]; exact hm
      have hn' : n < R[j].P.length := by rw [← ec]; exact hn
      have := h.data i j a c hne m n hm' hn'
      simpa only [ea, ec] using this
    · have hm' : m < R[i].P.length := by rw [← ea]; exact hm
      have hn' : n < r.P.length := by rw [← ec]; exact hn
      have : farV (R[i].P[m]).2 (r.P[n]).2 := fun g h1 h2 => hx i a g (.inr ⟨m, hm', h1⟩) (.inr ⟨n, hn', h2⟩)
      simpa only [ea, ec] using this
    · have hm' : m < r.P.length := by rw [← ea]; exact hm
      have hn' : n < R[j].P.length := by rw [← ec]; exact hn
      have : farV (r.P[m]).2 (R[j].P[n]).2 := fun g h1 h2 => hx j c g (.inr ⟨n, hn', h2⟩) (.inr ⟨m, hm', h1⟩)
      simpa only [ea, ec] using this
    · omega
  · rcases key i hi with ⟨-, a, ea⟩ | ⟨a, ea⟩
    · rw [ea]; exact h.each i a
    · rw [ea]; exact hr
theorem BV.setBox {w : World} {B g j : Nat} {v x : Value} {R : List RB} (h : BV w B v R) (hg : g < B) : BV (w.setCell ⟨g, j, none⟩ x) B v R :=
  ⟨own_set_low h.row hg x, fun i hi => (h.ops i hi).setLow hg⟩
def AnsI (c : Int) (l' : List Blk) (w : World) (e : Ending) (w' : World) : Prop := ∃ v R, e = .returned (.agg #[.int .i64 c, v]) ∧ BV w' w.heap.size v R ∧ R.map RB.blk = l' ∧ apartR R ∧ Below w.heap.size w w'
theorem ansNil (u : World) (B : Nat) : BV u B (.slice none 0 0) [] := ⟨⟨rfl, .inl ⟨rfl, rfl⟩⟩, fun i hi => by simp at hi⟩
theorem apartNil : apartR [] := ⟨fun i j hi => by simp at hi, fun i j hi => by simp at hi, fun i hi => by simp at hi⟩
end Go.Proofs.YtoafolefecddmaaGreatDoor
