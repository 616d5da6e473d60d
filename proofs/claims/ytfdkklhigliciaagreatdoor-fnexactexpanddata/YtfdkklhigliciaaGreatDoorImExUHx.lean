/-
  Parts of the proof laid into one text, one behind the other; each says at its head what is proved in it.
-/
import Derived.Test.YtfdkklhigliciaaGreatDoorImExTHx
/-
  The program's expand: the cores that a datum comes to, or the panic that carries a code, so deep as it may be.
-/
namespace Go.Proofs.YtfdkklhigliciaaGreatDoor
open Go.RowKit Go.Extern.Stop Go.Stop Go.Extern Num Go.Lib Go.Shelf

theorem expand_step (l : List Dat) (hF : Fine l) (hz : ∀ (k : Nat) (h : k < l.length), l[k].name.size ≤ 1048576) (n : Nat) (hX : ExI l n) : ExI l (n + 1) := by
  intro w B m tb a par so E C hs hc ha hn hsp hE h9
  have hC9 : C.length ≤ 900 := Nat.le_trans (expF_grows l (n + 1) a par E C) h9
  have H : XpS w B m tb l so E C := ⟨hs, hc, hF, hz, by omega, by omega⟩
  rw [expF_form hF n a par E C ha hsp] at h9 ⊢
  by_cases h0 : (formD l a).1 = 0
  case neg =>
    rw [if_neg h0]
    exact exp_err l w B m tb a par so E C H ha h0
  rw [if_pos h0] at h9 ⊢
  rcases form_cases hF ha h0 with ⟨s, hsl, hf⟩ | ⟨z, hf, hnm⟩ | ⟨k, p, hf, hp, hpl⟩ | ⟨N, b, hf, hN, hb⟩ | ⟨N, b, V, hf, hN, hb, hV, hVl⟩ | ⟨z, b, hf, hnm, hb⟩ | ⟨z, b, hf, hnm, hb⟩
  · rw [hf]
    have e : doF l (expF l n) (fmC (s : Int)) a par E C = (0, C ++ [coC 1 par 0 0 ⟨#[]⟩ (subD l s)]) := by simp [doF, fmC]
    show Calls _ _ _ _ fun e w' => AnsE B m tb l (doF l (expF l n) (fmC (s : Int)) a par E C) w e w'
    rw [e]
    exact exp_const l w B m tb a par so E C H ha s hsl hf
  · rw [hf]
    have e : doF l (expF l n) (fmN z) a par E C = (0, C ++ [{ meanC E z with parent := par }]) := by
      unfold meanC
      simp only [doF, fmN]
      cases findE E z with
      | none => rfl
      | some p => rfl
    show Calls _ _ _ _ fun e w' => AnsE B m tb l (doF l (expF l n) (fmN z) a par E C) w e w'
    rw [e]
    exact exp_name l w B m tb a par so E C H ha z hnm hf
  · rw [hf] at h9 ⊢
    exact exp_plain l n hX w B m tb a par so E C H ha hn k p hp hpl hf (by omega) h9
  · obtain ⟨j, rfl, hj⟩ := hb
    rw [hf] at h9 ⊢
    exact exp_lambda l n hX w B m tb a par so E C H ha hn N j ⟨j, rfl, hj⟩ hf (by omega) h9
  · obtain ⟨j, rfl, hj⟩ := hb
    rw [hf] at h9 ⊢
    obtain ⟨r1, Hr1⟩ : ∃ r1, r1 = expF l n j ((C.length + 1 : Nat) : Int) (N :: E) (letCores par N C) := ⟨_, rfl⟩
    have e : doF l (expF l n) (fmT N (j : Int) V) a par E C = if r1.1 = 0 then allF (fun b D => expF l n b C.length E D) V r1.2 else r1 := by rw [Hr1]; rfl
    have h9' : (if r1.1 = 0 then allF (fun b D => expF l n b C.length E D) V r1.2 else r1).2.length ≤ 900 := by rw [← e]; exact h9
    show Calls _ _ _ _ fun e w' => AnsE B m tb l (doF l (expF l n) (fmT N (j : Int) V) a par E C) w e w'
    rw [e]
    by_cases hr : r1.1 = 0
    · rw [if_pos hr] at h9'
      exact exp_let l n hX w B m tb a par so E C H ha hn N j V ⟨j, rfl, hj⟩ hV hVl hf (by omega) r1 _ Hr1 (fun _ => rfl) (Nat.le_trans (allF_grows (fun b D => expF_grows l n b C.length E D) V r1.2) h9') (fun _ => h9')
    · rw [if_neg hr] at h9'
      exact exp_let l n hX w B m tb a par so E C H ha hn N j V ⟨j, rfl, hj⟩ hV hVl hf (by omega) r1 _ Hr1 (fun _ => rfl) h9' (fun h => absurd h hr)
  · obtain ⟨j, rfl, hj⟩ := hb
    rw [hf] at h9 ⊢
    by_cases ha0 : a = 0
    · subst ha0
      exact exp_def l n hX w B m tb par so E C H ha hn z hnm j ⟨j, rfl, hj⟩ hf (by omega) h9
    · have e : doF l (expF l n) (fmD z (j : Int)) a par E C = (1, C) := by
        simp only [doF, fmD]
        rw [if_neg (by omega)]
      show Calls _ _ _ _ fun e w' => AnsE B m tb l (doF l (expF l n) (fmD z (j : Int)) a par E C) w e w'
      rw [e]
      exact exp_def0 l w B m tb a par so E C H ha z j hf ha0
  · obtain ⟨j, rfl, hj⟩ := hb
    rw [hf] at h9 ⊢
    cases hfe : findE E z with
    | none =>
      have e : doF l (expF l n) (fmS z (j : Int)) a par E C = expF l n j C.length E (C ++ [coC 7 par 0 0 z []]) := if_pos hfe
      have h9' : (expF l n j C.length E (C ++ [coC 7 par 0 0 z []])).2.length ≤ 900 := by rw [← e]; exact h9
      show Calls _ _ _ _ fun e w' => AnsE B m tb l (doF l (expF l n) (fmS z (j : Int)) a par E C) w e w'
      rw [e]
      exact exp_set l n hX w B m tb a par so E C H ha hn z hnm j ⟨j, rfl, hj⟩ hf hfe (by omega) h9'
    | some p =>
      have e : doF l (expF l n) (fmS z (j : Int)) a par E C = (1, C) := if_neg (show ¬ findE E z = none by rw [hfe]; simp)
      show Calls _ _ _ _ fun e w' => AnsE B m tb l (doF l (expF l n) (fmS z (j : Int)) a par E C) w e w'
      rw [e]
      exact exp_set0 l w B m tb a par so E C H ha z j hf p hfe
theorem expand_any (l : List Dat) (hF : Fine l) (hz : ∀ (k : Nat) (h : k < l.length), l[k].name.size ≤ 1048576) : ∀ n, ExI l n
  | 0 => fun w B m tb a par so E C _ _ ha hn _ _ _ => absurd ha (by omega)
  | n + 1 => expand_step l hF hz n (expand_any l hF hz n)
end Go.Proofs.YtfdkklhigliciaaGreatDoor
