/-
  Parts of the proof laid into one text, one behind the other; each says at its head what is proved in it.
-/
import Derived.Test.YtfdkklhigliciaaGreatDoorImExLHx
import Derived.Test.YtfdkklhigliciaaGreatDoorImExMHx
/-
  What is asked of the program's expand so deep; expandAll and addLambda from it.
-/
namespace Go.Proofs.YtfdkklhigliciaaGreatDoor
open Go.RowKit Go.Extern.Stop Go.Stop Go.Extern Num Go.Lib Go.Shelf

/-- The expander with the cores so far. -/
def XS (w : World) (B m tb : Nat) (l : List Dat) (C : List Cor) : Prop := ∃ P, Xp w B m tb l P ∧ P.map Prod.fst = C
theorem XS.below {w w' : World} {B m tb : Nat} {l : List Dat} {C : List Cor} (h : XS w B m tb l C) (hb : Below w.heap.size w w') : XS w' B m tb l C := by
  obtain ⟨P, h1, h2⟩ := h
  exact ⟨P, h1.below hb, h2⟩
theorem XS.lo {w : World} {B m tb : Nat} {l : List Dat} {C : List Cor} (h : XS w B m tb l C) : m < B ∧ B ≤ w.heap.size := by
  obtain ⟨P, h1, h2⟩ := h
  exact ⟨h1.lo, h1.hi⟩
theorem XS.tk {w : World} {B m tb : Nat} {l : List Dat} {C : List Cor} (h : XS w B m tb l C) : Tk w w.heap.size m tb l := by
  obtain ⟨P, h1, h2⟩ := h
  exact h1.tk
/-- What is answered: where there is no code, the expander holds the cores; else the panic that carries it; nothing else is turned. -/
def AnsE (B m tb : Nat) (l : List Dat) (r : Int × List Cor) (w : World) (e : Ending) (w' : World) : Prop :=
  ((r.1 = 0 ∧ e = .returned (.tuple #[]) ∧ XS w' B m tb l r.2) ∨ (r.1 ≠ 0 ∧ e = .panicked (pan r.1))) ∧ Kx B m w w'
theorem AnsE.pre {B m tb : Nat} {l : List Dat} {r : Int × List Cor} {w u w' : World} {e : Ending} (h : AnsE B m tb l r u e w') (hk : Kx B m w u) : AnsE B m tb l r w e w' := ⟨h.1, hk.trans h.2⟩
/-- What is expected of expand, so deep. -/
def ExI (l : List Dat) (n : Nat) : Prop := ∀ (w : World) (B m tb a : Nat) (par : Int) (so : Option Addr) (E : Env) (C : List Cor), XS w B m tb l C → chS w B so E → a < l.length → l.length ≤ a + n → Spot a par E → E.length + n ≤ 1000 → (expF l n a par E C).2.length ≤ 900 →
  Calls Tryz.prog 52 #[.pointer (some ⟨m, 0, none⟩), .int .i64 (a : Int), .int .i64 par, .pointer so] w fun e w' => AnsE B m tb l (expF l n a par E C) w e w'
set_option maxRecDepth 100000 in
set_option maxHeartbeats 2000000 in
theorem expandAll_of (l : List Dat) (n : Nat) (hX : ExI l n) (w : World) (B m tb : Nat) (ao : Option Addr) (cp : Nat) (L : List Int) (par : Int) (so : Option Addr) (E : Env) (C : List Cor) (h : XS w B m tb l C) (hc : chS w B so E) (hL : IRow w B ao L) (hb : ∀ b ∈ L, ∃ j : Nat, b = (j : Int) ∧ 0 < j ∧ j < l.length ∧ l.length ≤ j + n) (hp : 0 ≤ par) (hl : L.length ≤ 1000) (hE : E.length + n ≤ 1000) (hg : grows fun a D => expF l n a par E D) (h9 : (allF (fun a D => expF l n a par E D) L C).2.length ≤ 900) :
    Calls Tryz.prog 79 #[.pointer (some ⟨m, 0, none⟩), .slice ao L.length cp, .int .i64 par, .pointer so] w fun e w' => AnsE B m tb l (allF (fun a D => expF l n a par E D) L C) w e w' := by
  obtain ⟨fx, hfx⟩ : ∃ fx, fx = fun (a : Nat) (D : List Cor) => expF l n a par E D := ⟨_, rfl⟩
  have HX : Hid (∀ (u : World) (a : Nat) (D : List Cor), XS u B m tb l D → chS u B so E → 0 < a → a < l.length → l.length ≤ a + n → (fx a D).2.length ≤ 900 → Calls Tryz.prog 52 #[.pointer (some ⟨m, 0, none⟩), .int .i64 (a : Int), .int .i64 par, .pointer so] u fun e w' => AnsE B m tb l (fx a D) u e w') := fun u a D hs hch h0 ha hn h9 => by
    rw [hfx] at h9 ⊢
    exact hX u B m tb a par so E D hs hch ha hn (.inr ⟨h0, hp⟩) hE h9
  rw [← hfx] at hg h9 ⊢
  have H9 : Hid (∀ k, (allF fx (L.take k) C).2.length ≤ 900) := fun k => Nat.le_trans (allF_take_le hg L C k) h9
  have HB : Hid (∀ b ∈ L, ∃ j : Nat, b = (j : Int) ∧ 0 < j ∧ j < l.length ∧ l.length ≤ j + n) := hb
  have HS : Hid ((allF fx (L.take 0) C).1 = 0 ∧ XS w B m tb l (allF fx (L.take 0) C).2) := ⟨rfl, h⟩
  have HL : Hid (IRow w B ao L) := hL
  have HCh : Hid (chS w B so E) := hc
  have hmB : m < B := h.lo.1
  clear h hb hX hE hg h9 hfx hL hc
  go_enter Tryz.func79, Tryz.ntmps79
  go_wp2_with fail
  go_loopw [12] (fun i wr => ∃ k : Nat, k ≤ L.length ∧ i = .int .i64 (k : Int) ∧ Hid ((allF fx (L.take k) C).1 = 0 ∧ XS wr B m tb l (allF fx (L.take k) C).2) ∧ Hid (Kx B m w wr)) (fun i _ => L.length - (RowKit.intOf i).toNat)
  case atStart => exact ⟨0, Nat.zero_le _, rfl, HS.out, Kx.refl _ _ _⟩
  case round =>
    obtain ⟨k, hk, rfl, HS2, HK⟩ := hrel
    by_cases hlt : k < L.length
    · obtain ⟨h0, hs⟩ := HS2.out
      obtain ⟨q, off, rfl, hcq⟩ := (HL.out.keepX hmB HK.out).at (by intro e; subst e; simp at hlt)
      have c1 := hcq k hlt
      obtain ⟨j, hj, hj0, hj1, hj2⟩ := HB.out L[k] (List.getElem_mem hlt)
      rw [hj] at c1
      have hjt : L[k].toNat = j := by omega
      have e2 := allF_take (C := C) hlt h0
      rw [hjt] at e2
      have HC : Hid (Calls Tryz.prog 52 #[.pointer (some ⟨m, 0, none⟩), .int .i64 (j : Int), .int .i64 par, .pointer so] wr fun e w' => AnsE B m tb l (allF fx (L.take (k + 1)) C) wr e w') := by
        show Calls _ _ _ _ _
        rw [e2]
        exact HX.out wr j _ hs (HCh.out.keep hmB HK.out) hj0 hj1 hj2 (by rw [← e2]; exact H9.out (k + 1))
      obtain ⟨r, Hr⟩ : ∃ r, Hid (r = allF fx (L.take (k + 1)) C) := ⟨_, rfl⟩
      rw [← show r = _ from Hr.out] at HC
      clear hcq hs e2 hj hjt h0 HS2
      by_cases hz : r.1 = 0
      · have HC2 : Hid (Calls Tryz.prog 52 #[.pointer (some ⟨m, 0, none⟩), .int .i64 (j : Int), .int .i64 par, .pointer so] wr fun e w' => e = .returned (.tuple #[]) ∧ XS w' B m tb l r.2 ∧ Kx B m wr w') := HC.out.mono fun e w' h => by
          obtain ⟨⟨_, h1, h2⟩ | ⟨h1, _⟩, h3⟩ := h
          · exact ⟨h1, h2, h3⟩
          · exact absurd hz h1
        have HZ : Hid (r.1 = 0) := hz
        clear HC hz
        go_wp2_with fail
        refine HC2.out.mono ?_
        rintro e w2 ⟨rfl, h1, h2⟩
        have HS3 : Hid ((allF fx (L.take (k + 1)) C).1 = 0 ∧ XS w2 B m tb l (allF fx (L.take (k + 1)) C).2) := by
          show _ ∧ _
          rw [← show r = _ from Hr.out]
          exact ⟨HZ.out, h1⟩
        have HK2 : Hid (Kx B m w w2) := HK.out.trans h2
        clear h1 h2
        go_wp2
        exact ⟨⟨k + 1, by omega, by go_num, HS3.out, HK2.out⟩, by simp [RowKit.intOf]; omega⟩
      · have HC2 : Hid (Calls Tryz.prog 52 #[.pointer (some ⟨m, 0, none⟩), .int .i64 (j : Int), .int .i64 par, .pointer so] wr fun e w' => e = .panicked (pan r.1) ∧ Kx B m wr w') := HC.out.mono fun e w' h => by
          obtain ⟨⟨h0, _⟩ | ⟨_, h1⟩, h3⟩ := h
          · exact absurd h0 hz
          · exact ⟨h1, h3⟩
        have HP : Hid (allF fx L C = r) := by
          show _ = _
          have e3 := allF_part (f := fx) (L := L) (C := C) (k := k + 1) (by rw [← show r = _ from Hr.out]; exact hz)
          rw [e3, ← show r = _ from Hr.out]
        have HZ : Hid (r.1 ≠ 0) := hz
        clear HC hz
        go_wp2_with fail
        refine HC2.out.mono ?_
        rintro e w2 ⟨rfl, h2⟩
        have HR : Hid (AnsE B m tb l (allF fx L C) w (.panicked (pan r.1)) w2) := by
          show AnsE _ _ _ _ _ _ _ _
          rw [show allF fx L C = r from HP.out]
          exact ⟨.inr ⟨HZ.out, rfl⟩, HK.out.trans h2⟩
        clear h2
        exact ⟨rfl, HR.out⟩
    · have HR : Hid (AnsE B m tb l (allF fx L C) w (.returned (.tuple #[])) wr) := by
        obtain ⟨h0, hx⟩ := HS2.out
        rw [List.take_of_length_le (by omega)] at h0 hx
        exact ⟨.inl ⟨h0, rfl, hx⟩, HK.out⟩
      clear HS2
      go_wp2
      go_end0
      exact HR.out
end Go.Proofs.YtfdkklhigliciaaGreatDoor
