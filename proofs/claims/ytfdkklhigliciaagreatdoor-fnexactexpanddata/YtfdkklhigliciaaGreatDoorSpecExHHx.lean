/-
  Parts of the proof laid into one text, one behind the other; each says at its head what is proved in it.
-/
import Derived.Test.YtfdkklhigliciaaGreatDoorSpecExGHx
/-
  The model's l4Form: a keyword's form, from what l4Expand does.
-/
namespace Go.Proofs.YtfdkklhigliciaaGreatDoor
open Go.RowKit Go.Extern.Stop Go.Stop Go.Extern Num Go.Lib

/-- A core with data put behind the others. -/
theorem putD_any (w : World) (B m g dc : Nat) (l : List Dat) (C : List Cor) (F : List Frm) (f : Int) (E : Env) (k par : Int) (z : ByteArray) (D : List Dat) (dv : Value) (h : St w B m g dc l C F f E) (hl : C.length < 1000) (ho : w.ownsRow B 49 4 dv D.length (cellsD D)) :
    Calls Tryz.prog 40 #[.pointer (some ⟨m, 0, none⟩), .agg #[.int .i64 k, .int .i64 par, .int .i64 0, .int .i64 0, .string z, dv]] w fun e w' => e = .returned (.int .i64 (C.length : Nat)) ∧ AnsX B m g dc l F (0, C ++ [coC k par 0 0 z D]) w (.returned (.int .i64 0)) w' := by
  obtain ⟨P, h1, h2, h3, h4, _⟩ := h
  have hP : P.length = C.length := by rw [← h2, List.length_map]
  refine (l4Put_any w B m g dc l P F (coC k par 0 0 z D) dv h1 (by omega) ho).mono ?_
  rintro e w' ⟨rfl, hm, hk, hb⟩
  refine ⟨by rw [hP], rfl, fun _ => ⟨P ++ [(coC k par 0 0 z D, dv)], [], ?_, by rw [List.map_append, h2]; rfl, by rw [List.append_nil, List.length_append]; omega, ?_⟩, hk, hb⟩
  · rw [List.append_nil]; exact hm
  · rw [List.append_nil]; exact h4
set_option maxRecDepth 100000 in
set_option maxHeartbeats 4000000 in
theorem l4Form_of (l : List Dat) (hFi : Fine l) (n : Nat) (hX : ExS l n) (w : World) (B m g dc q off cp : Nat) (z : ByteArray) (L : List Int) (par f : Int) (E : Env) (C : List Cor) (F : List Frm) (h : St w B m g dc l C F f E) (hL : IRow w B (some ⟨q, off, none⟩) L) (hLc : L.length ≤ cp) (hLl : L.length ≤ 100) (hb : ∀ b ∈ L, ∃ j : Nat, b = (j : Int) ∧ j < l.length ∧ l.length ≤ j + n) (hE : E.length + 1 + n ≤ 1000) (h9 : (formF l (expF l n) z L par E C).2.length ≤ 900) :
    Calls Tryz.prog 45 #[.pointer (some ⟨m, 0, none⟩), .string z, .slice (some ⟨q, off, none⟩) L.length cp, .int .i64 par, .int .i64 f] w fun e w' => AnsX B m g dc l F (formF l (expF l n) z L par E C) w e w' := by
  have hBw : B ≤ w.heap.size := by obtain ⟨P, h1, _⟩ := h; exact h1.hi
  have hmB : m < B := by obtain ⟨P, h1, _⟩ := h; exact h1.lo
  have HC : Hid (∀ u c D, c ≠ 0 → Below w.heap.size w u → AnsX B m g dc l F (c, D) w (.returned (.int .i64 c)) u) := fun u c D hc hu => AnsX.code hc (Kp.of_below hu) (hu.mono (show m ≤ w.heap.size by omega))
  obtain ⟨R, HR⟩ : ∃ R, Hid (R = formF l (expF l n) z L par E C) := ⟨_, rfl⟩
  rw [← show R = _ from HR.out] at h9 ⊢
  have hC9 : C.length ≤ 900 := by
    have hall : ∀ (par : Int) (L : List Int) (D : List Cor), C.length ≤ D.length → C.length ≤ (allF (fun b D => expF l n b par E D) L D).2.length := fun par L D h => Nat.le_trans h (allF_grows (fun a D => expF_grows l n a par E D) L D)
    have h8 : C.length ≤ R.2.length := by
      have := expF_grows l (n + 1)
      rw [show R = _ from HR.out]
      unfold formF
      split
      · split <;> simp
      · split
        · split
          · exact hall _ _ _ (by simp)
          · exact Nat.le_refl _
        · split
          · split
            · exact hall _ _ _ (by simp)
            · exact Nat.le_refl _
          · split
            · unfold lamF
              split
              · split
                · exact Nat.le_refl _
                · split
                  · exact Nat.le_refl _
                  · exact Nat.le_trans (by simp) (expF_grows l n _ _ _ _)
              · exact Nat.le_refl _
            · split
              · unfold letG
                split
                · split
                  · exact Nat.le_refl _
                  · split
                    · exact Nat.le_refl _
                    · split
                      · exact Nat.le_trans (Nat.le_trans (by simp) (expF_grows l n _ _ _ _)) (allF_grows (fun a D => expF_grows l n a _ E D) _ _)
                      · exact Nat.le_trans (by simp) (expF_grows l n _ _ _ _)
                · exact Nat.le_refl _
              · split <;> (unfold asgF; split <;> first | exact Nat.le_refl _ | exact Nat.le_trans (by simp) (expF_grows l n _ _ _ _))
    omega
  have HSt : Hid (St w B m g dc l C F f E) := h
  have HLr : Hid (IRow w B (some ⟨q, off, none⟩) L) := hL
  have hg0 : w.cell? ⟨m, 0, none⟩ = some (.slice (some ⟨g, 0, none⟩) l.length dc) := by obtain ⟨P, h1, _⟩ := h; exact h1.hd
  have hrow : RowD w g l := by obtain ⟨P, h1, _⟩ := h; exact h1.row
  cases z1 : (z.toList == [113, 117, 111, 116, 101]) with
  | true =>
    have HR1 : Hid (R = if L.length = 2 then (0, C ++ [coC 1 par 0 0 ⟨#[]⟩ (subD l (L.getD 1 0).toNat)]) else (1, C)) := by show _ = _; rw [show R = _ from HR.out]; unfold formF; rw [if_pos z1]
    by_cases h2 : L.length = 2
    · obtain ⟨x0, x1, rfl⟩ : ∃ x0 x1, L = [x0, x1] := by
        match L, h2 with
        | [a, b], _ => exact ⟨a, b, rfl⟩
      obtain ⟨j1, rfl, j1l, -⟩ := hb x1 (by simp)
      obtain ⟨q', off', he, hc⟩ := hL.at (by simp)
      obtain ⟨rfl, rfl⟩ : q = q' ∧ off = off' := by simpa using he
      have c1 := hc 1 (by simp)
      simp only [List.getElem_cons_succ, List.getElem_cons_zero] at c1
      have HR2 : Hid (R = (0, C ++ [coC 1 par 0 0 ⟨#[]⟩ (subD l j1)])) := by show _ = _; rw [show R = _ from HR1.out, if_pos (show [x0, (j1 : Int)].length = 2 from rfl)]; rfl
      have HSb : Hid (∀ u, Below w.heap.size w u → Calls Tryz.prog 41 #[.slice (some ⟨g, 0, none⟩) l.length dc, .int .i64 (j1 : Int)] u fun e w' => ∃ q c, e = .returned (.slice (some ⟨q, 0, none⟩) (subD l j1).length c) ∧ w'.ownsRow B 49 4 (.slice (some ⟨q, 0, none⟩) (subD l j1).length c) (subD l j1).length (cellsD (subD l j1)) ∧ Below w.heap.size w w') := fun u hu => by
        refine (l3Sub_any g dc l j1 u (hrow.below hu) hFi j1l).mono ?_
        rintro e w' ⟨q, c, h1, h2, h3⟩
        exact ⟨q, c, h1, own_base h2 (by have := hu.size; omega), hu.trans (h3.mono hu.size)⟩
      have HPt : Hid (∀ u dv, Below w.heap.size w u → u.ownsRow B 49 4 dv (subD l j1).length (cellsD (subD l j1)) → Calls Tryz.prog 40 #[.pointer (some ⟨m, 0, none⟩), .agg #[.int .i64 1, .int .i64 par, .int .i64 0, .int .i64 0, .string ⟨#[]⟩, dv]] u fun e w' => e = .returned (.int .i64 (C.length : Nat)) ∧ AnsX B m g dc l F R w (.returned (.int .i64 0)) w') := fun u dv hu ho => by
        refine (putD_any u B m g dc l C F f E 1 par ⟨#[]⟩ (subD l j1) dv (HSt.out.below hu) (by omega) ho).mono ?_
        rintro e w' ⟨h1, h2⟩
        rw [show R = _ from HR2.out]
        exact ⟨h1, h2.pre (Kp.of_below hu) (hu.mono (show m ≤ w.heap.size by omega))⟩
      clear hc he hL h hX hb HR1 HR2 HR h9 hrow HSt HLr
      go_enter Tryz.func45, Tryz.ntmps45
      go_wp2_with fail
      go_region_with (first
        | (go_at_call 41; refine (HSb.out _ (by repeat (first | exact Below.refl _ _ | refine Below.drew ?_))).mono ?_; rintro e w3 ⟨tq, tc, rfl, ho, hb3⟩; have HTo : Hid (w3.ownsRow B 49 4 (.slice (some ⟨tq, 0, none⟩) (subD l j1).length tc) (subD l j1).length (cellsD (subD l j1))) := ho; have HBt : Hid (Below w.heap.size w w3) := hb3; clear ho hb3)
        | (go_at_call 40; refine (HPt.out _ _ HBt.out HTo.out).mono ?_; rintro e w4 ⟨rfl, hy⟩; have HY : Hid (AnsX B m g dc l F R w (.returned (.int .i64 0)) w4) := hy; clear hy)
        | fail)
      all_goals
        go_wp2
        go_ret
        exact HY.out
    · have HW : Hid (AnsX B m g dc l F R w (.returned (.int .i64 1)) w) := by rw [show R = _ from HR1.out, if_neg h2]; exact HC.out _ _ _ (by decide) (Below.refl _ _)
      have h2' : ((L.length : Int) != 2) = true := by simp; omega
      clear hL h hX hb HR1 HR h9 hrow HSt HLr hg0
      go_enter Tryz.func45, Tryz.ntmps45
      go_wp2
      go_ret
      exact HW.out
  | false =>
  cases z2 : (z.toList == [105, 102]) with
  | true =>
    have HR1 : Hid (R = if L.length = 4 then allF (fun a D => expF l n a C.length E D) (L.drop 1) (C ++ [coC 4 par 0 0 ⟨#[]⟩ []]) else (1, C)) := by show _ = _; rw [show R = _ from HR.out]; unfold formF; rw [if_neg (by rw [z1]; decide), if_pos z2]
    by_cases h2 : L.length = 4
    · have hR9 : (allF (fun a D => expF l n a C.length E D) (L.drop 1) (C ++ [coC 4 par 0 0 ⟨#[]⟩ []])).2.length ≤ 900 := by rw [← if_pos (c := L.length = 4) (t := allF (fun a D => expF l n a C.length E D) (L.drop 1) (C ++ [coC 4 par 0 0 ⟨#[]⟩ []])) (e := (1, C)) h2, ← show R = _ from HR1.out]; exact h9
      have HR2 : Hid (R = allF (fun a D => expF l n a C.length E D) (L.drop 1) (C ++ [coC 4 par 0 0 ⟨#[]⟩ []])) := by show _ = _; rw [show R = _ from HR1.out, if_pos h2]
      have HPt : Hid (∀ u, Below w.heap.size w u → Calls Tryz.prog 40 #[.pointer (some ⟨m, 0, none⟩), .agg #[.int .i64 4, .int .i64 par, .int .i64 0, .int .i64 0, .string ⟨#[]⟩, .slice none 0 0]] u fun e w' => e = .returned (.int .i64 (C.length : Nat)) ∧ St w' B m g dc l (C ++ [coC 4 par 0 0 ⟨#[]⟩ []]) F f E ∧ IRow w' B (some ⟨q, off + 1, none⟩) (L.drop 1) ∧ Kp B w w' ∧ Below m w w') := fun u hu => by
        refine (putS_any u B m g dc l C F f E 4 par 0 0 ⟨#[]⟩ (HSt.out.below hu) (by omega)).mono ?_
        rintro e w' ⟨h1, h2, h3, h4⟩
        exact ⟨h1, h2, ((HLr.out.keep (Kp.of_below hu)).keep h3).drop 1, (Kp.of_below hu).trans h3, (hu.mono (show m ≤ w.heap.size by omega)).trans h4⟩
      have HAl : Hid (∀ u c' nn, nn = L.length - 1 → St u B m g dc l (C ++ [coC 4 par 0 0 ⟨#[]⟩ []]) F f E → IRow u B (some ⟨q, off + 1, none⟩) (L.drop 1) → Calls Tryz.prog 46 #[.pointer (some ⟨m, 0, none⟩), .slice (some ⟨q, off + 1, none⟩) nn c', .int .i64 (C.length : Nat), .int .i64 f] u fun e w' => AnsX B m g dc l F R u e w') := fun u c' nn hnn hu hr => by
        rw [show R = _ from HR2.out, hnn, show L.length - 1 = (L.drop 1).length by simp]
        exact l4All_of l n hX u B m g dc _ c' (L.drop 1) C.length f E _ F hu hr (fun b h => hb b (List.mem_of_mem_drop h)) (by simp; omega) (by omega) (fun a D => expF_grows l n a _ E D) hR9
      have h2' : ((L.length : Int) != 4) = false := by simp; omega
      have hL1 : 1 ≤ L.length := by omega
      clear hR9 HR1 HR2 HR h9 hX hb hrow h hL HSt HLr HC
      go_enter Tryz.func45, Tryz.ntmps45
      go_wp2_with fail
      go_region_with (first
        | (go_at_call 40; refine (HPt.out _ (by repeat (first | exact Below.refl _ _ | refine Below.drew ?_))).mono ?_; rintro e wp ⟨rfl, hs, hr, hk⟩; have HSp : Hid (St wp B m g dc l (C ++ [coC 4 par 0 0 ⟨#[]⟩ []]) F f E) := hs; have HLp : Hid (IRow wp B (some ⟨q, off + 1, none⟩) (L.drop 1)) := hr; have HKp : Hid (Kp B w wp ∧ Below m w wp) := hk; clear hs hr hk)
        | (go_at_call 46; refine (HAl.out _ _ _ (by omega) HSp.out HLp.out).mono ?_; rintro e wx hx; have HXp : Hid (AnsX B m g dc l F R wp e wx) := hx; have he := hx.1; clear hx; subst he)
        | fail)
      all_goals
        have HW : Hid (AnsX B m g dc l F R w (.returned (.int .i64 R.1)) wx) := HXp.out.pre HKp.out.1 HKp.out.2
        clear HPt HAl HSp HLp HXp HKp
        obtain ⟨cc, hcc⟩ : ∃ cc, Hid (cc = R.1) := ⟨_, rfl⟩
        rw [← show cc = _ from hcc.out] at HW ⊢
        go_wp2
        go_ret
        exact HW.out
    · have HW : Hid (AnsX B m g dc l F R w (.returned (.int .i64 1)) w) := by rw [show R = _ from HR1.out, if_neg h2]; exact HC.out _ _ _ (by decide) (Below.refl _ _)
      have h2' : ((L.length : Int) != 4) = true := by simp; omega
      clear hL h hX hb HR1 HR h9 hrow HSt HLr hg0
      go_enter Tryz.func45, Tryz.ntmps45
      go_wp2
      go_ret
      exact HW.out
  | false =>
  cases z3 : (z.toList == [98, 101, 103, 105, 110]) with
  | true =>
    have HR1 : Hid (R = if 2 ≤ L.length then allF (fun a D => expF l n a C.length E D) (L.drop 1) (C ++ [coC 6 par 0 0 ⟨#[]⟩ []]) else (1, C)) := by show _ = _; rw [show R = _ from HR.out]; unfold formF; rw [if_neg (by rw [z1]; decide), if_neg (by rw [z2]; decide), if_pos z3]
    by_cases h2 : 2 ≤ L.length
    · have hR9 : (allF (fun a D => expF l n a C.length E D) (L.drop 1) (C ++ [coC 6 par 0 0 ⟨#[]⟩ []])).2.length ≤ 900 := by rw [← if_pos (c := 2 ≤ L.length) (t := allF (fun a D => expF l n a C.length E D) (L.drop 1) (C ++ [coC 6 par 0 0 ⟨#[]⟩ []])) (e := (1, C)) h2, ← show R = _ from HR1.out]; exact h9
      have HR2 : Hid (R = allF (fun a D => expF l n a C.length E D) (L.drop 1) (C ++ [coC 6 par 0 0 ⟨#[]⟩ []])) := by show _ = _; rw [show R = _ from HR1.out, if_pos h2]
      have HPt : Hid (∀ u, Below w.heap.size w u → Calls Tryz.prog 40 #[.pointer (some ⟨m, 0, none⟩), .agg #[.int .i64 6, .int .i64 par, .int .i64 0, .int .i64 0, .string ⟨#[]⟩, .slice none 0 0]] u fun e w' => e = .returned (.int .i64 (C.length : Nat)) ∧ St w' B m g dc l (C ++ [coC 6 par 0 0 ⟨#[]⟩ []]) F f E ∧ IRow w' B (some ⟨q, off + 1, none⟩) (L.drop 1) ∧ Kp B w w' ∧ Below m w w') := fun u hu => by
        refine (putS_any u B m g dc l C F f E 6 par 0 0 ⟨#[]⟩ (HSt.out.below hu) (by omega)).mono ?_
        rintro e w' ⟨h1, h2, h3, h4⟩
        exact ⟨h1, h2, ((HLr.out.keep (Kp.of_below hu)).keep h3).drop 1, (Kp.of_below hu).trans h3, (hu.mono (show m ≤ w.heap.size by omega)).trans h4⟩
      have HAl : Hid (∀ u c' nn, nn = L.length - 1 → St u B m g dc l (C ++ [coC 6 par 0 0 ⟨#[]⟩ []]) F f E → IRow u B (some ⟨q, off + 1, none⟩) (L.drop 1) → Calls Tryz.prog 46 #[.pointer (some ⟨m, 0, none⟩), .slice (some ⟨q, off + 1, none⟩) nn c', .int .i64 (C.length : Nat), .int .i64 f] u fun e w' => AnsX B m g dc l F R u e w') := fun u c' nn hnn hu hr => by
        rw [show R = _ from HR2.out, hnn, show L.length - 1 = (L.drop 1).length by simp]
        exact l4All_of l n hX u B m g dc _ c' (L.drop 1) C.length f E _ F hu hr (fun b h => hb b (List.mem_of_mem_drop h)) (by simp; omega) (by omega) (fun a D => expF_grows l n a _ E D) hR9
      have h2' : decide ((L.length : Int) < 2) = false := by simp; omega
      have hL1 : 1 ≤ L.length := by omega
      clear hR9 HR1 HR2 HR h9 hX hb hrow h hL HSt HLr HC
      go_enter Tryz.func45, Tryz.ntmps45
      go_wp2_with fail
      go_region_with (first
        | (go_at_call 40; refine (HPt.out _ (by repeat (first | exact Below.refl _ _ | refine Below.drew ?_))).mono ?_; rintro e wp ⟨rfl, hs, hr, hk⟩; have HSp : Hid (St wp B m g dc l (C ++ [coC 6 par 0 0 ⟨#[]⟩ []]) F f E) := hs; have HLp : Hid (IRow wp B (some ⟨q, off + 1, none⟩) (L.drop 1)) := hr; have HKp : Hid (Kp B w wp ∧ Below m w wp) := hk; clear hs hr hk)
        | (go_at_call 46; refine (HAl.out _ _ _ (by omega) HSp.out HLp.out).mono ?_; rintro e wx hx; have HXp : Hid (AnsX B m g dc l F R wp e wx) := hx; have he := hx.1; clear hx; subst he)
        | fail)
      all_goals
        have HW : Hid (AnsX B m g dc l F R w (.returned (.int .i64 R.1)) wx) := HXp.out.pre HKp.out.1 HKp.out.2
        clear HPt HAl HSp HLp HXp HKp
        obtain ⟨cc, hcc⟩ : ∃ cc, Hid (cc = R.1) := ⟨_, rfl⟩
        rw [← show cc = _ from hcc.out] at HW ⊢
        go_wp2
        go_ret
        exact HW.out
    · have HW : Hid (AnsX B m g dc l F R w (.returned (.int .i64 1)) w) := by rw [show R = _ from HR1.out, if_neg h2]; exact HC.out _ _ _ (by decide) (Below.refl _ _)
      have h2' : decide ((L.length : Int) < 2) = true := by simp; omega
      clear hL h hX hb HR1 HR h9 hrow HSt HLr hg0
      go_enter Tryz.func45, Tryz.ntmps45
      go_wp2
      go_ret
      exact HW.out
  | false =>
  cases z4 : (z.toList == [108, 97, 109, 98, 100, 97]) with
  | true =>
    have e1 : R = lamF l (expF l n) L par E C := by rw [show R = _ from HR.out]; unfold formF; rw [if_neg (by rw [z1]; decide), if_neg (by rw [z2]; decide), if_neg (by rw [z3]; decide), if_pos z4]
    have HX : Hid (Calls Tryz.prog 64 #[.pointer (some ⟨m, 0, none⟩), .slice (some ⟨q, off, none⟩) L.length cp, .int .i64 par, .int .i64 f] w fun e w' => AnsX B m g dc l F R w e w') := by
      rw [e1] at h9 ⊢
      exact l4Lambda_of l hFi n hX w B m g dc _ cp L par f E C F h hL hb hE h9
    clear e1 h9 HR hX hb hrow h hL HSt HLr HC
    go_enter Tryz.func45, Tryz.ntmps45
    go_wp2_with fail
    refine HX.out.mono ?_
    rintro e wx hx
    have HW : Hid (AnsX B m g dc l F R w e wx) := hx
    have he := hx.1
    clear hx HX
    subst he
    obtain ⟨cc, hcc⟩ : ∃ cc, Hid (cc = R.1) := ⟨_, rfl⟩
    rw [← show cc = _ from hcc.out] at HW ⊢
    go_wp2
    go_ret
    exact HW.out
  | false =>
  cases z5 : (z.toList == [108, 101, 116]) with
  | true =>
    have e1 : R = letG l (expF l n) L par E C := by rw [show R = _ from HR.out]; unfold formF; rw [if_neg (by rw [z1]; decide), if_neg (by rw [z2]; decide), if_neg (by rw [z3]; decide), if_neg (by rw [z4]; decide), if_pos z5]
    have HX : Hid (Calls Tryz.prog 65 #[.pointer (some ⟨m, 0, none⟩), .slice (some ⟨q, off, none⟩) L.length cp, .int .i64 par, .int .i64 f] w fun e w' => AnsX B m g dc l F R w e w') := by
      rw [e1] at h9 ⊢
      exact l4Let_of l hFi n hX w B m g dc _ cp L par f E C F h hL hb hE h9
    clear e1 h9 HR hX hb hrow h hL HSt HLr HC
    go_enter Tryz.func45, Tryz.ntmps45
    go_wp2_with fail
    refine HX.out.mono ?_
    rintro e wx hx
    have HW : Hid (AnsX B m g dc l F R w e wx) := hx
    have he := hx.1
    clear hx HX
    subst he
    obtain ⟨cc, hcc⟩ : ∃ cc, Hid (cc = R.1) := ⟨_, rfl⟩
    rw [← show cc = _ from hcc.out] at HW ⊢
    go_wp2
    go_ret
    exact HW.out
  | false =>
  have e0 : formF l (expF l n) z L par E C = if (z.toList == [100, 101, 102, 105, 110, 101]) = true then asgF l (expF l n) 8 L par E C else asgF l (expF l n) 7 L par E C := by unfold formF; rw [if_neg (by rw [z1]; decide), if_neg (by rw [z2]; decide), if_neg (by rw [z3]; decide), if_neg (by rw [z4]; decide), if_neg (by rw [z5]; decide)]
  have HX : Hid (∀ kd, R = asgF l (expF l n) kd L par E C → Calls Tryz.prog 66 #[.pointer (some ⟨m, 0, none⟩), .slice (some ⟨q, off, none⟩) L.length cp, .int .i64 par, .int .i64 f, .int .i64 kd] w fun e w' => AnsX B m g dc l F R w e w') := fun kd e1 => by
    rw [e1] at h9 ⊢
    exact l4Assign_of l n hX w B m g dc _ cp L par f kd E C F h hL hb (by omega) h9
  cases z6 : (z.toList == [100, 101, 102, 105, 110, 101]) with
  | true =>
    have HX2 : Hid (Calls Tryz.prog 66 #[.pointer (some ⟨m, 0, none⟩), .slice (some ⟨q, off, none⟩) L.length cp, .int .i64 par, .int .i64 f, .int .i64 8] w fun e w' => AnsX B m g dc l F R w e w') := HX.out 8 (by rw [show R = _ from HR.out, e0, if_pos z6])
    clear e0 h9 HR hX hb hrow h hL HSt HLr HC HX
    go_enter Tryz.func45, Tryz.ntmps45
    go_wp2_with fail
    refine HX2.out.mono ?_
    rintro e wx hx
    have HW : Hid (AnsX B m g dc l F R w e wx) := hx
    have he := hx.1
    clear hx HX2
    subst he
    obtain ⟨cc, hcc⟩ : ∃ cc, Hid (cc = R.1) := ⟨_, rfl⟩
    rw [← show cc = _ from hcc.out] at HW ⊢
    go_wp2
    go_ret
    exact HW.out
  | false =>
    have HX2 : Hid (Calls Tryz.prog 66 #[.pointer (some ⟨m, 0, none⟩), .slice (some ⟨q, off, none⟩) L.length cp, .int .i64 par, .int .i64 f, .int .i64 7] w fun e w' => AnsX B m g dc l F R w e w') := HX.out 7 (by rw [show R = _ from HR.out, e0, if_neg (by rw [z6]; decide)])
    clear e0 h9 HR hX hb hrow h hL HSt HLr HC HX
    go_enter Tryz.func45, Tryz.ntmps45
    go_wp2_with fail
    refine HX2.out.mono ?_
    rintro e wx hx
    have HW : Hid (AnsX B m g dc l F R w e wx) := hx
    have he := hx.1
    clear hx HX2
    subst he
    obtain ⟨cc, hcc⟩ : ∃ cc, Hid (cc = R.1) := ⟨_, rfl⟩
    rw [← show cc = _ from hcc.out] at HW ⊢
    go_wp2
    go_ret
    exact HW.out
end Go.Proofs.YtfdkklhigliciaaGreatDoor
