/-
  Parts of the proof laid into one text, one behind the other; each says at its head what is proved in it.
-/
import Derived.Test.YtfdkklhigliciaaGreatDoorSpecExHHx
/-
  The model's l4Expand at what is no list: a number, a Boolean, a name.
-/
namespace Go.Proofs.YtfdkklhigliciaaGreatDoor
open Go.RowKit Go.Extern.Stop Go.Stop Go.Extern Num Go.Lib

set_option maxRecDepth 100000 in
set_option maxHeartbeats 4000000 in
theorem l4Expand_atom (l : List Dat) (hFi : Fine l) (n : Nat) (w : World) (B m g dc a : Nat) (par f : Int) (E : Env) (C : List Cor) (F : List Frm) (h : St w B m g dc l C F f E) (ha : a < l.length) (hE : E.length + (n + 1) ≤ 1000) (h9 : (expF l (n + 1) a par E C).2.length ≤ 900) (hk : kindAt l a = 1 ∨ kindAt l a = 2 ∨ kindAt l a = 3) :
    Calls Tryz.prog 19 #[.pointer (some ⟨m, 0, none⟩), .int .i64 (a : Int), .int .i64 par, .int .i64 f] w fun e w' => AnsX B m g dc l F (expF l (n + 1) a par E C) w e w' := by
  have hBw : B ≤ w.heap.size := by obtain ⟨P, h1, _⟩ := h; exact h1.hi
  have hmB : m < B := by obtain ⟨P, h1, _⟩ := h; exact h1.lo
  have HC : Hid (∀ u c D, c ≠ 0 → Below w.heap.size w u → AnsX B m g dc l F (c, D) w (.returned (.int .i64 c)) u) := fun u c D hc hu => AnsX.code hc (Kp.of_below hu) (hu.mono (show m ≤ w.heap.size by omega))
  have hC9 : C.length ≤ 900 := Nat.le_trans (expF_grows l (n + 1) a par E C) h9
  obtain ⟨R, HR⟩ : ∃ R, Hid (R = expF l (n + 1) a par E C) := ⟨_, rfl⟩
  rw [← show R = _ from HR.out] at h9 ⊢
  have HSt : Hid (St w B m g dc l C F f E) := h
  have hg0 : w.cell? ⟨m, 0, none⟩ = some (.slice (some ⟨g, 0, none⟩) l.length dc) := by obtain ⟨P, h1, _⟩ := h; exact h1.hd
  have hrow : RowD w g l := by obtain ⟨P, h1, _⟩ := h; exact h1.row
  obtain ⟨k0, _, _, k3⟩ := hrow a ha
  obtain ⟨kd, Hkd⟩ : ∃ kd : Int, Hid (kd = l[a].kind) := ⟨l[a].kind, show l[a].kind = l[a].kind from rfl⟩
  obtain ⟨z, HZ⟩ : ∃ z : ByteArray, Hid (z = l[a].name) := ⟨l[a].name, show l[a].name = l[a].name from rfl⟩
  rw [← show kd = _ from Hkd.out] at k0
  rw [← show z = _ from HZ.out] at k3
  have ek : kindAt l a = kd := by rw [show kd = _ from Hkd.out]; unfold kindAt; simp [ha]
  have ez : nameAt l a = z := by rw [show z = _ from HZ.out]; unfold nameAt; simp [ha]
  have HR1 : Hid (R = if kd = 1 ∨ kd = 2 then ((0 : Int), C ++ [coC 1 par 0 0 ⟨#[]⟩ (subD l a)])
    else if kd = 3 then
      if kwB z = true then ((1 : Int), C)
      else match findE E z with
        | some (o, i) => ((0 : Int), C ++ [coC 2 par o i ⟨#[]⟩ []])
        | none => ((0 : Int), C ++ [coC 3 par 0 0 z []])
    else if (partsD l a).length = 0 then ((1 : Int), C)
    else if kindAt l ((partsD l a).getD 0 0) = 3 ∧ kwB (nameAt l ((partsD l a).getD 0 0)) = true then formF l (expF l n) (nameAt l ((partsD l a).getD 0 0)) (partsD l a) par E C
    else if 4 < (partsD l a).length then ((2 : Int), C)
    else allF (fun b D => expF l n b C.length E D) (partsD l a) (C ++ [coC 9 par 0 0 ⟨#[]⟩ []])) := by
    show _ = _
    rw [show R = _ from HR.out]
    simp only [expF, ek, ez]
    rfl
  rw [ek] at hk
  clear HR ek ez Hkd HZ
  by_cases h12 : kd = 1 ∨ kd = 2
  · have HR2 : Hid (R = (0, C ++ [coC 1 par 0 0 ⟨#[]⟩ (subD l a)])) := by show _ = _; rw [show R = _ from HR1.out, if_pos h12]
    have HSb : Hid (Calls Tryz.prog 41 #[.slice (some ⟨g, 0, none⟩) l.length dc, .int .i64 (a : Int)] w fun e w' => ∃ q c, e = .returned (.slice (some ⟨q, 0, none⟩) (subD l a).length c) ∧ w'.ownsRow B 49 4 (.slice (some ⟨q, 0, none⟩) (subD l a).length c) (subD l a).length (cellsD (subD l a)) ∧ Below w.heap.size w w') := by
      refine (l3Sub_any g dc l a w hrow hFi ha).mono ?_
      rintro e w' ⟨q, c, h1, h2, h3⟩
      exact ⟨q, c, h1, own_base h2 (by omega), h3⟩
    have HPt : Hid (∀ u dv, Below w.heap.size w u → u.ownsRow B 49 4 dv (subD l a).length (cellsD (subD l a)) → Calls Tryz.prog 40 #[.pointer (some ⟨m, 0, none⟩), .agg #[.int .i64 1, .int .i64 par, .int .i64 0, .int .i64 0, .string ⟨#[]⟩, dv]] u fun e w' => e = .returned (.int .i64 (C.length : Nat)) ∧ AnsX B m g dc l F R w (.returned (.int .i64 0)) w') := fun u dv hu ho => by
      refine (putD_any u B m g dc l C F f E 1 par ⟨#[]⟩ (subD l a) dv (HSt.out.below hu) (by omega) ho).mono ?_
      rintro e w' ⟨h1, h2⟩
      rw [show R = _ from HR2.out]
      exact ⟨h1, h2.pre (Kp.of_below hu) (hu.mono (show m ≤ w.heap.size by omega))⟩
    clear h HR1 HR2 h9 hrow HSt k3 HC
    rcases h12 with rfl | rfl
    all_goals
      go_enter Tryz.func19, Tryz.ntmps19
      go_wp2_with fail
      refine HSb.out.mono ?_
      rintro e w3 ⟨tq, tc, rfl, ho, hb3⟩
      have HTo : Hid (w3.ownsRow B 49 4 (.slice (some ⟨tq, 0, none⟩) (subD l a).length tc) (subD l a).length (cellsD (subD l a))) := ho
      have HBt : Hid (Below w.heap.size w w3) := hb3
      clear ho hb3 HSb
      go_wp2_with fail
      refine (HPt.out _ _ HBt.out HTo.out).mono ?_
      rintro e w4 ⟨rfl, hy⟩
      have HY : Hid (AnsX B m g dc l F R w (.returned (.int .i64 0)) w4) := hy
      clear hy
      go_wp2
      go_ret
      exact HY.out
  have e1 : (kd == 1) = false := by simp; omega
  have e2 : (kd == 2) = false := by simp; omega
  by_cases h3 : kd = 3
  · have HR2 : Hid (R = if kwB z = true then ((1 : Int), C)
      else match findE E z with
        | some (o, i) => ((0 : Int), C ++ [coC 2 par o i ⟨#[]⟩ []])
        | none => ((0 : Int), C ++ [coC 3 par 0 0 z []])) := by show _ = _; rw [show R = _ from HR1.out, if_neg h12, if_pos h3]
    have HKw : Hid (∀ u, Calls Tryz.prog 42 #[.string z] u fun e w' => e = .returned (.bool (kwB z)) ∧ Below u.heap.size u w') := fun u => specKw_any z u
    have HFd : Hid (∀ u, Below w.heap.size w u → Calls Tryz.prog 43 #[.pointer (some ⟨m, 0, none⟩), .int .i64 f, .string z] u fun e w' => e = .returned (fdV (findE E z)) ∧ w' = u) := fun u hu => by
      obtain ⟨P, h1, _, _, h4, h5⟩ := h.below hu
      exact l4Find_any u B m g dc l P F f E z h1 h5 (by omega) (fun x hx => by have := h4 x hx; omega)
    have HPt : Hid (∀ u (k : Int) (o i : Nat) (s : ByteArray), Below w.heap.size w u → Calls Tryz.prog 40 #[.pointer (some ⟨m, 0, none⟩), .agg #[.int .i64 k, .int .i64 par, .int .i64 (o : Int), .int .i64 (i : Int), .string s, .slice none 0 0]] u fun e w' => e = .returned (.int .i64 (C.length : Nat)) ∧ AnsX B m g dc l F (0, C ++ [coC k par o i s []]) w (.returned (.int .i64 0)) w') := fun u k o i s hu => by
      refine (putS_any u B m g dc l C F f E k par o i s (HSt.out.below hu) (by omega)).mono ?_
      rintro e w' ⟨h1, ⟨P, y1, y2, y3, y4, _⟩, h3, h4⟩
      exact ⟨h1, rfl, fun _ => ⟨P, [], by rw [List.append_nil]; exact y1, y2, by rw [List.append_nil]; exact y3, by rw [List.append_nil]; exact y4⟩, (Kp.of_below hu).trans h3, (hu.mono (show m ≤ w.heap.size by omega)).trans h4⟩
    have HCh : Hid (∀ c D, c ≠ 0 → R = (c, D) → ∀ u, Below w.heap.size w u → AnsX B m g dc l F R w (.returned (.int .i64 c)) u) := fun c D hc e u hu => by rw [e]; exact HC.out u c D hc hu
    clear h HR1 h9 hrow HSt HC h12
    subst h3
    go_enter Tryz.func19, Tryz.ntmps19
    go_wp2_with fail
    refine (HKw.out _).mono ?_
    rintro e w1 ⟨rfl, b1⟩
    have HB1 : Hid (Below w.heap.size w w1) := b1
    have k3' := cell_keep b1 k3
    have hg1 := cell_keep b1 hg0
    clear b1 HKw k0 k3 hg0
    cases hk : kwB z with
    | true =>
      have HW : Hid (AnsX B m g dc l F R w (.returned (.int .i64 1)) w1) := HCh.out 1 C (by decide) (by rw [show R = _ from HR2.out, if_pos hk]) _ HB1.out
      clear HR2 HCh hk
      go_wp2
      go_ret
      exact HW.out
    | false =>
      have HR3 : Hid (R = match findE E z with
        | some (o, i) => ((0 : Int), C ++ [coC 2 par o i ⟨#[]⟩ []])
        | none => ((0 : Int), C ++ [coC 3 par 0 0 z []])) := by show _ = _; rw [show R = _ from HR2.out, if_neg (by rw [hk]; decide)]
      clear HR2 HCh hk
      go_wp2_with fail
      refine (HFd.out _ HB1.out).mono ?_
      rintro e w2 ⟨rfl, hw2⟩
      replace hw2 := hw2.symm
      subst hw2
      rcases hf : findE E z with _ | ⟨o, i⟩
      · have HR4 : Hid (R = (0, C ++ [coC 3 par 0 0 z []])) := by show _ = _; rw [show R = _ from HR3.out, hf]
        have HP2 : Hid (Calls Tryz.prog 40 #[.pointer (some ⟨m, 0, none⟩), .agg #[.int .i64 3, .int .i64 par, .int .i64 0, .int .i64 0, .string z, .slice none 0 0]] w1 fun e w' => e = .returned (.int .i64 (C.length : Nat)) ∧ AnsX B m g dc l F R w (.returned (.int .i64 0)) w') := by rw [show R = _ from HR4.out]; exact HPt.out w1 3 0 0 z HB1.out
        clear HR3 HR4 HFd HPt hf
        simp only [fdV]
        go_wp2_with fail
        refine HP2.out.mono ?_
        rintro e w4 ⟨rfl, hy⟩
        have HY : Hid (AnsX B m g dc l F R w (.returned (.int .i64 0)) w4) := hy
        clear hy HP2
        go_wp2
        go_ret
        exact HY.out
      · have HR4 : Hid (R = (0, C ++ [coC 2 par o i ⟨#[]⟩ []])) := by show _ = _; rw [show R = _ from HR3.out, hf]
        have HP2 : Hid (Calls Tryz.prog 40 #[.pointer (some ⟨m, 0, none⟩), .agg #[.int .i64 2, .int .i64 par, .int .i64 (o : Int), .int .i64 (i : Int), .string ⟨#[]⟩, .slice none 0 0]] w1 fun e w' => e = .returned (.int .i64 (C.length : Nat)) ∧ AnsX B m g dc l F R w (.returned (.int .i64 0)) w') := by rw [show R = _ from HR4.out]; exact HPt.out w1 2 o i ⟨#[]⟩ HB1.out
        clear HR3 HR4 HFd HPt hf
        simp only [fdV]
        go_wp2_with fail
        refine HP2.out.mono ?_
        rintro e w4 ⟨rfl, hy⟩
        have HY : Hid (AnsX B m g dc l F R w (.returned (.int .i64 0)) w4) := hy
        clear hy HP2
        go_wp2
        go_ret
        exact HY.out
  exact absurd hk (by omega)
end Go.Proofs.YtfdkklhigliciaaGreatDoor
