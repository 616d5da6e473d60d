/-
  Parts of the proof laid into one text, one behind the other; each says at its head what is proved in it.
-/
import Derived.Test.YtfdkklhigliciaaGreatDoorSpecExFHx
/-
  The model's l4Let: the names and values of a let, pair by pair, then its body and its values, from what l4Expand does.
-/
namespace Go.Proofs.YtfdkklhigliciaaGreatDoor
open Go.RowKit Go.Extern.Stop Go.Stop Go.Extern Num Go.Lib

theorem own_two {w : World} {b1 b2 : Nat} {e1 e2 : TypeId} {s1 s2 n1 n2 : Nat} {v1 v2 : Value} {xs ys : List Value} (h1 : w.ownsRow b1 e1 s1 v1 n1 xs) (h2 : w.ownsRow b2 e2 s2 v2 n2 ys) (he : e1 ≠ e2) : ∀ g, v2.ownBlock = some g → v1.ownBlock ≠ some g := by
  intro g hg e
  rcases h1.2 with ⟨rfl, _⟩ | ⟨g1, cap, cur, rfl, _, hgg, _⟩
  · cases e
  · have : g1 = g := by simpa [Value.ownBlock] using e
    subst this
    exact own_neT h2 hgg he.symm g1 hg rfl
theorem letF_append (l : List Dat) : ∀ (A R : List Int) (N : List ByteArray) (V : List Int), letF l (A ++ R) N V = (letF l A N V).bind fun p => letF l R p.1 p.2
  | [], R, N, V => rfl
  | a :: A, R, N, V => by
    rcases hp : partsD l a with _ | ⟨x, _ | ⟨y, _ | ⟨z, q⟩⟩⟩
    · simp only [List.cons_append, letF, hp]; rfl
    · simp only [List.cons_append, letF, hp]; rfl
    · simp only [List.cons_append, letF, hp]
      by_cases h : symP l x = true ∧ idxF N (nameAt l x) = none
      · rw [if_pos h, if_pos h]
        exact letF_append l A R _ _
      · rw [if_neg h, if_neg h]
        rfl
    · simp only [List.cons_append, letF, hp]; rfl
theorem letF_on {l : List Dat} {R : List Int} {N : List ByteArray} {V : List Int} {k : Nat} {x y : Int} (hk : k < R.length) (h : letF l (R.take k) [] [] = some (N, V)) (hp : partsD l R[k] = [x, y]) (hc : symP l x = true ∧ idxF N (nameAt l x) = none) : letF l (R.take (k + 1)) [] [] = some (N ++ [nameAt l x], V ++ [y]) := by
  rw [List.take_succ_eq_append_getElem hk, letF_append, h]
  show letF l [R[k]] N V = _
  simp only [letF, hp, if_pos hc]
theorem letF_off {l : List Dat} {R : List Int} {N : List ByteArray} {V : List Int} {k : Nat} (hk : k < R.length) (h : letF l (R.take k) [] [] = some (N, V)) (hc : ∀ x y, partsD l R[k] = [x, y] → ¬ (symP l x = true ∧ idxF N (nameAt l x) = none)) : letF l R [] [] = none := by
  have e : R = R.take k ++ (R[k] :: R.drop (k + 1)) := by rw [← List.drop_eq_getElem_cons hk, List.take_append_drop]
  rw [e, letF_append, h]
  show letF l (R[k] :: R.drop (k + 1)) N V = none
  rcases hp : partsD l R[k] with _ | ⟨x, _ | ⟨y, _ | ⟨z, q⟩⟩⟩
  · simp only [letF, hp]
  · simp only [letF, hp]
  · simp only [letF, hp, if_neg (hc x y hp)]
  · simp only [letF, hp]
set_option maxRecDepth 100000 in
set_option maxHeartbeats 6000000 in
theorem l4Let_of (l : List Dat) (hFi : Fine l) (n : Nat) (hX : ExS l n) (w : World) (B m g dc : Nat) (ao : Option Addr) (cp : Nat) (L : List Int) (par f : Int) (E : Env) (C : List Cor) (F : List Frm) (h : St w B m g dc l C F f E) (hL : IRow w B ao L) (hb : ∀ b ∈ L, ∃ j : Nat, b = (j : Int) ∧ j < l.length ∧ l.length ≤ j + n) (hE : E.length + 1 + n ≤ 1000) (h9 : (letG l (expF l n) L par E C).2.length ≤ 900) :
    Calls Tryz.prog 65 #[.pointer (some ⟨m, 0, none⟩), .slice ao L.length cp, .int .i64 par, .int .i64 f] w fun e w' => AnsX B m g dc l F (letG l (expF l n) L par E C) w e w' := by
  have hBw : B ≤ w.heap.size := by obtain ⟨P, h1, _⟩ := h; exact h1.hi
  have hmB : m < B := by obtain ⟨P, h1, _⟩ := h; exact h1.lo
  have HC : Hid (∀ u c D, c ≠ 0 → Below w.heap.size w u → AnsX B m g dc l F (c, D) w (.returned (.int .i64 c)) u) := fun u c D hc hu => AnsX.code hc (Kp.of_below hu) (hu.mono (show m ≤ w.heap.size by omega))
  by_cases hln : L.length = 3
  case neg =>
    obtain ⟨R, hR⟩ : ∃ R, R = letG l (expF l n) L par E C := ⟨_, rfl⟩
    rw [← hR]
    have HR : Hid (R = (1, C)) := by show _ = _; rw [hR]; unfold letG; rw [if_neg (fun e => hln e.1)]
    have hln' : ((L.length : Int) != 3) = true := by simp; omega
    clear h9 hX h hL hb hR
    go_enter Tryz.func65, Tryz.ntmps65
    go_wp2_with fail
    have hne := bw_some w
    refine wp_region_below (by kernel_rfl) (by kernel_rfl) ?_
    repeat (go_big_quiet_step (fail))
    refine wpQuiet_nil ?_
    intro wq hw'
    obtain ⟨⟨_, b1⟩, rfl⟩ := hw'
    have HW : Hid (AnsX B m g dc l F R w (.returned (.int .i64 1)) wq) := by rw [show R = _ from HR.out]; exact HC.out _ _ _ (by decide) b1
    clear b1 hne
    go_wp2
    go_ret
    exact HW.out
  obtain ⟨x0, x1, x2, rfl⟩ : ∃ x0 x1 x2, L = [x0, x1, x2] := by
    match L, hln with
    | [a, b, c], _ => exact ⟨a, b, c, rfl⟩
  obtain ⟨j1, rfl, j1l, j1n⟩ := hb x1 (by simp)
  obtain ⟨j2, rfl, j2l, j2n⟩ := hb x2 (by simp)
  obtain ⟨q, off, rfl, hc⟩ := hL.at (by simp)
  have c1 := hc 1 (by simp)
  have c2 := hc 2 (by simp)
  simp only [List.getElem_cons_succ, List.getElem_cons_zero] at c1 c2
  obtain ⟨R, hR⟩ : ∃ R, R = letG l (expF l n) [x0, (j1 : Int), (j2 : Int)] par E C := ⟨_, rfl⟩
  rw [← hR] at h9 ⊢
  have HRR : Hid (R = if kindAt l j1 = 4 then match letF l (partsD l j1) [] [] with
      | none => (1, C)
      | some (N, V) => if 3 < N.length then (2, C) else if (expF l n j2 ((C.length + 1 : Nat) : Int) (N :: E) (C ++ [coC 9 par 0 0 ⟨#[]⟩ []] ++ [coC 5 C.length N.length 0 ⟨#[]⟩ []])).1 = 0 then allF (fun a D => expF l n a C.length E D) V (expF l n j2 ((C.length + 1 : Nat) : Int) (N :: E) (C ++ [coC 9 par 0 0 ⟨#[]⟩ []] ++ [coC 5 C.length N.length 0 ⟨#[]⟩ []])).2 else (expF l n j2 ((C.length + 1 : Nat) : Int) (N :: E) (C ++ [coC 9 par 0 0 ⟨#[]⟩ []] ++ [coC 5 C.length N.length 0 ⟨#[]⟩ []]))
    else (1, C)) := by
    show _ = _
    rw [hR]
    unfold letG
    simp only [hln, true_and]
    rfl
  have hg0 : w.cell? ⟨m, 0, none⟩ = some (.slice (some ⟨g, 0, none⟩) l.length dc) := by obtain ⟨P, h1, _⟩ := h; exact h1.hd
  have hrow : RowD w g l := by obtain ⟨P, h1, _⟩ := h; exact h1.row
  obtain ⟨kd, hkd⟩ : ∃ kd, kd = l[j1].kind := ⟨_, rfl⟩
  have hk0 := (hrow j1 j1l).1
  rw [← hkd] at hk0
  have HKd : Hid (kindAt l j1 = kd) := by show _ = _; unfold kindAt; rw [hkd]; simp [j1l]
  have HSt : Hid (St w B m g dc l C F f E) := h
  have HLr : Hid (IRow w B (some ⟨q, off, none⟩) [x0, (j1 : Int), (j2 : Int)]) := hL
  have q0 : ∀ p : BW w, p.x.cell? ⟨m, 0, none⟩ = some (.slice (some ⟨g, 0, none⟩) l.length dc) := fun p => p.cell hg0
  have q1 : ∀ p : BW w, p.x.cell? ⟨q, off + 1, none⟩ = some (.int .i64 (j1 : Int)) := fun p => p.cell c1
  have q2 : ∀ p : BW w, p.x.cell? ⟨g, j1 * 4, none⟩ = some (.int .i64 kd) := fun p => p.cell hk0
  have HPa : Hid (∀ u, Below w.heap.size w u → Calls Tryz.prog 44 #[.slice (some ⟨g, 0, none⟩) l.length dc, .int .i64 (j1 : Int)] u fun e w' => ∃ q c, e = .returned (.slice (some ⟨q, 0, none⟩) (partsD l j1).length c) ∧ w'.ownsRow u.heap.size 2 1 (.slice (some ⟨q, 0, none⟩) (partsD l j1).length c) (partsD l j1).length (cellsI (partsD l j1)) ∧ Below u.heap.size u w') := fun u hu => l3Parts_any g dc l j1 u (hrow.below hu) (by have := hFi.len; omega)
  have HPq : Hid (∀ u, Below w.heap.size w u → ∀ j : Nat, Calls Tryz.prog 44 #[.slice (some ⟨g, 0, none⟩) l.length dc, .int .i64 (j : Int)] u fun e w' => ∃ q c, e = .returned (.slice (some ⟨q, 0, none⟩) (partsD l j).length c) ∧ w'.ownsRow u.heap.size 2 1 (.slice (some ⟨q, 0, none⟩) (partsD l j).length c) (partsD l j).length (cellsI (partsD l j)) ∧ Below u.heap.size u w') := fun u hu j => l3Parts_any g dc l j u (hrow.below hu) (by have := hFi.len; omega)
  have hRl : (partsD l j1).length ≤ 80 := Nat.le_trans (partsTo_len _ _ _) hFi.len
  have HRm : Hid (∀ b ∈ partsD l j1, ∃ j : Nat, b = (j : Int) ∧ j < l.length ∧ j1 < j) := fun b hb' => mem_partsD hFi hb'
  have hne := bw_some w
  clear hc hL hb h hkd hrow hR
  by_cases hk4 : kd = 4
  case neg =>
    have HR2 : Hid (R = (1, C)) := by show _ = _; rw [show R = _ from HRR.out, show kindAt l j1 = kd from HKd.out, if_neg hk4]
    have hk4' : (kd != 4) = true := by simpa using hk4
    clear HRR h9 hX HPa HPq HRm HKd
    go_enter Tryz.func65, Tryz.ntmps65
    go_wp2_with fail
    refine wp_region_below (by kernel_rfl) (by kernel_rfl) ?_
    repeat (go_big_quiet_step (fail))
    refine wpQuiet_nil ?_
    intro wq hw'
    obtain ⟨⟨_, b1⟩, rfl⟩ := hw'
    have HW : Hid (AnsX B m g dc l F R w (.returned (.int .i64 1)) wq) := by rw [show R = _ from HR2.out]; exact HC.out _ _ _ (by decide) b1
    clear b1 hne q0 q1 q2
    go_wp2
    go_ret
    exact HW.out
  subst hk4
  have HR3 : Hid (R = match letF l (partsD l j1) [] [] with
      | none => (1, C)
      | some (N, V) => if 3 < N.length then (2, C) else if (expF l n j2 ((C.length + 1 : Nat) : Int) (N :: E) (C ++ [coC 9 par 0 0 ⟨#[]⟩ []] ++ [coC 5 C.length N.length 0 ⟨#[]⟩ []])).1 = 0 then allF (fun a D => expF l n a C.length E D) V (expF l n j2 ((C.length + 1 : Nat) : Int) (N :: E) (C ++ [coC 9 par 0 0 ⟨#[]⟩ []] ++ [coC 5 C.length N.length 0 ⟨#[]⟩ []])).2 else (expF l n j2 ((C.length + 1 : Nat) : Int) (N :: E) (C ++ [coC 9 par 0 0 ⟨#[]⟩ []] ++ [coC 5 C.length N.length 0 ⟨#[]⟩ []]))) := by show _ = _; rw [show R = _ from HRR.out, show kindAt l j1 = 4 from HKd.out, if_pos rfl]
  clear HRR HKd
  go_enter Tryz.func65, Tryz.ntmps65
  go_wp2_with fail
  refine wp_region_below (by kernel_rfl) (by kernel_rfl) ?_
  repeat (go_big_quiet_step (fail))
  refine wpQuiet_nil ?_
  intro wq hw'
  obtain ⟨⟨_, b1⟩, rfl⟩ := hw'
  have d0 := cell_keep b1 hg0
  have d1 := cell_keep b1 c1
  have HB1 : Hid (Below w.heap.size w wq) := b1
  have HPb : Hid (∀ u, Below wq.heap.size wq u → Calls Tryz.prog 44 #[.slice (some ⟨g, 0, none⟩) l.length dc, .int .i64 (j1 : Int)] u fun e w' => ∃ q c, e = .returned (.slice (some ⟨q, 0, none⟩) (partsD l j1).length c) ∧ w'.ownsRow wq.heap.size 2 1 (.slice (some ⟨q, 0, none⟩) (partsD l j1).length c) (partsD l j1).length (cellsI (partsD l j1)) ∧ Below wq.heap.size wq w') := fun u hu => by
    refine (HPa.out u (HB1.out.trans (hu.mono HB1.out.size))).mono ?_
    rintro e w' ⟨q, c, h1, h2, h3⟩
    exact ⟨q, c, h1, own_base h2 hu.size, hu.trans (h3.mono hu.size)⟩
  clear b1 hne q0 q1 q2 hg0 c1 c2 hk0 HPa
  go_wp2_with fail
  go_region_with (first
    | (go_at_call 44; refine (HPb.out _ (by repeat (first | exact Below.refl _ _ | refine Below.drew ?_))).mono ?_; rintro e w2 ⟨pq, pc, rfl, ho, hb2⟩; have HO : Hid (w2.ownsRow wq.heap.size 2 1 (.slice (some ⟨pq, 0, none⟩) (partsD l j1).length pc) (partsD l j1).length (cellsI (partsD l j1))) := ho; have HB2 : Hid (Below wq.heap.size wq w2) := hb2; clear ho hb2)
    | fail)
  all_goals
    have HB3 : Hid (Below w.heap.size w w2) := HB1.out.trans (HB2.out.mono HB1.out.size)
    obtain ⟨Rs, hRs⟩ : ∃ Rs, Rs = partsD l j1 := ⟨_, rfl⟩
    rw [← hRs] at HO hRl HRm ⊢
    have HR4 : Hid (R = match letF l Rs [] [] with
      | none => (1, C)
      | some (N, V) => if 3 < N.length then (2, C) else if (expF l n j2 ((C.length + 1 : Nat) : Int) (N :: E) (C ++ [coC 9 par 0 0 ⟨#[]⟩ []] ++ [coC 5 C.length N.length 0 ⟨#[]⟩ []])).1 = 0 then allF (fun a D => expF l n a C.length E D) V (expF l n j2 ((C.length + 1 : Nat) : Int) (N :: E) (C ++ [coC 9 par 0 0 ⟨#[]⟩ []] ++ [coC 5 C.length N.length 0 ⟨#[]⟩ []])).2 else (expF l n j2 ((C.length + 1 : Nat) : Int) (N :: E) (C ++ [coC 9 par 0 0 ⟨#[]⟩ []] ++ [coC 5 C.length N.length 0 ⟨#[]⟩ []]))) := by show _ = _; rw [hRs]; exact HR3.out
    have HBq : Hid (Below wq.heap.size wq w2) := HB2.out
    clear hRs HR3 HPb HB1 HB2
    go_wp2_with fail
    obtain ⟨i0, hi, hz0, hz1, hz2⟩ := info_parts infoT
    obtain ⟨i1, ki, kz0, kz1, kz2⟩ := info_parts infoI
    have d0' := cell_keep HBq.out d0
    go_loopw [10, 11, 12] (fun v x i wr => ∃ (k nq nc vq vc : Nat) (N : List ByteArray) (V : List Int), k ≤ Rs.length ∧ i = .int .i64 (k : Int) ∧ v = .slice (some ⟨nq, 0, none⟩) N.length nc ∧ x = .slice (some ⟨vq, 0, none⟩) V.length vc ∧ N.length ≤ k ∧ V.length ≤ k ∧ Hid (letF l (Rs.take k) [] [] = some (N, V)) ∧ Hid (∀ b ∈ V, ∃ j : Nat, b = (j : Int) ∧ j < l.length ∧ l.length ≤ j + n) ∧ Hid (wr.ownsRow w2.heap.size 9 1 v N.length (cellsT N)) ∧ Hid (wr.ownsRow w2.heap.size 2 1 x V.length (cellsI V)) ∧ Hid (Below w2.heap.size w2 wr)) (fun _ _ i _ => Rs.length - (RowKit.intOf i).toNat)
    case atStart =>
      have hs1 : (w2.alloc (.cells #[] 9)).ownsRow w2.heap.size 9 1 (.slice (some ⟨w2.heap.size, 0, none⟩) 0 0) 0 (cellsT []) := World.ownsRow_made _ #[] 0 (Nat.le_refl _) (Nat.zero_le _) rfl
      have hs2 : ((w2.alloc (.cells #[] 9)).alloc (.cells #[] 2)).ownsRow (w2.alloc (.cells #[] 9)).heap.size 2 1 (.slice (some ⟨(w2.alloc (.cells #[] 9)).heap.size, 0, none⟩) 0 0) 0 (cellsI []) := World.ownsRow_made _ #[] 0 (Nat.le_refl _) (Nat.zero_le _) rfl
      have hv : ∀ b ∈ ([] : List Int), ∃ j : Nat, b = (j : Int) ∧ j < l.length ∧ l.length ≤ j + n := fun b hb => by cases hb
      rw [World.size_alloc] at hs2
      exact ⟨0, _, _, _, _, [], [], Nat.zero_le _, rfl, rfl, rfl, Nat.le_refl _, Nat.le_refl _, rfl, hv, hs1.alloc _, own_base hs2 (by omega), ((Below.refl _ _).alloc (Nat.le_refl _) _).alloc (by simp) _⟩
    case round =>
      obtain ⟨k, nq, nc, vq, vc, N, V, hk, rfl, rfl, rfl, hNk, hVk, HN, HV, HNo, HVo, HBr⟩ := hrel
      have hw2 : w.heap.size ≤ w2.heap.size := HB3.out.size
      have hwr : w2.heap.size ≤ wr.heap.size := HBr.out.size
      have HBw : Hid (Below w.heap.size w wr) := HB3.out.trans (HBr.out.mono hw2)
      by_cases hlt : k < Rs.length
      · obtain ⟨j, hj, hjl, hjj⟩ := HRm.out Rs[k] (List.getElem_mem hlt)
        have r1 := cell_keep HBr.out (rowI_at HO.out k hlt)
        rw [hj] at r1
        have d0r := cell_keep HBr.out d0'
        obtain ⟨T, HT⟩ : ∃ T, Hid (T = partsD l j) := ⟨_, rfl⟩
        have HTm : Hid (∀ b ∈ T, ∃ i : Nat, b = (i : Int) ∧ i < l.length ∧ l.length ≤ i + n) := fun b hb => by
          rw [show T = _ from HT.out] at hb
          obtain ⟨i, h1, h2, h3⟩ := mem_partsD hFi hb
          exact ⟨i, h1, h2, by omega⟩
        have hTl : T.length ≤ 80 := by rw [show T = _ from HT.out]; exact Nat.le_trans (partsTo_len _ _ _) hFi.len
        have HPj : Hid (∀ u, Below wr.heap.size wr u → Calls Tryz.prog 44 #[.slice (some ⟨g, 0, none⟩) l.length dc, .int .i64 (j : Int)] u fun e w' => ∃ q c, e = .returned (.slice (some ⟨q, 0, none⟩) T.length c) ∧ w'.ownsRow wr.heap.size 2 1 (.slice (some ⟨q, 0, none⟩) T.length c) T.length (cellsI T) ∧ Below wr.heap.size wr w') := fun u hu => by
          rw [show T = _ from HT.out]
          refine (HPq.out u (HBw.out.trans (hu.mono HBw.out.size)) j).mono ?_
          rintro e w' ⟨q, c, h1, h2, h3⟩
          exact ⟨q, c, h1, own_base h2 hu.size, hu.trans (h3.mono hu.size)⟩
        go_wp2_with fail
        go_region_with (first
          | (go_at_call 44; refine (HPj.out _ (by repeat (first | exact Below.refl _ _ | refine Below.drew ?_))).mono ?_; rintro e w3 ⟨tq, tc, rfl, ho, hb3⟩; have HTo : Hid (w3.ownsRow wr.heap.size 2 1 (.slice (some ⟨tq, 0, none⟩) T.length tc) T.length (cellsI T)) := ho; have HBt : Hid (Below wr.heap.size wr w3) := hb3; clear ho hb3)
          | fail)
        all_goals
          have HB4 : Hid (Below w.heap.size w w3) := HBw.out.trans (HBt.out.mono HBw.out.size)
          clear HPj r1 d0r
          by_cases hT2 : T.length = 2
          case neg =>
            have hT2' : ((T.length : Int) != 2) = true := by simp; omega
            have HW : Hid (AnsX B m g dc l F R w (.returned (.int .i64 1)) w3) := by
              rw [show R = _ from HR4.out, letF_off hlt HN.out (fun x y e _ => by rw [hj, ← show T = _ from HT.out] at e; rw [e] at hT2; exact hT2 rfl)]
              exact HC.out _ _ _ (by decide) HB4.out
            clear HR4 HT HTm HN hj
            go_wp2
            go_ret
            exact HW.out
          obtain ⟨x, y, rfl⟩ : ∃ x y, T = [x, y] := by
            match T, hT2 with
            | [a, b], _ => exact ⟨a, b, rfl⟩
          obtain ⟨jx, rfl, jxl, -⟩ := HTm.out x (by simp)
          obtain ⟨jy, rfl, jyl, jyn⟩ := HTm.out y (by simp)
          have t0 := rowI_at HTo.out 0 (by simp)
          simp only [List.getElem_cons_zero] at t0
          have HPm : Hid (Calls Tryz.prog 99 #[.pointer (some ⟨m, 0, none⟩), .int .i64 (jx : Int), .slice (some ⟨nq, 0, none⟩) N.length nc] w3 fun e w' => e = .returned (pmV l jx N) ∧ Below w3.heap.size w3 w') := by
            obtain ⟨P, h1, _⟩ := HSt.out.below HB4.out
            exact l4Param_any w3 B m g dc l P F jx N _ h1 jxl (own_base (own_below HNo.out HBt.out) (by omega)) (by omega)
          obtain ⟨z, HZ⟩ : ∃ z, Hid (z = nameAt l jx) := ⟨_, rfl⟩
          by_cases hs : symP l jx = true ∧ idxF N (nameAt l jx) = none
          · have HN2 : Hid (letF l (Rs.take (k + 1)) [] [] = some (N ++ [z], V ++ [(jy : Int)])) := by
              show _ = _
              rw [letF_on hlt HN.out (by rw [hj]; exact (show _ = _ from HT.out).symm) hs, show z = _ from HZ.out]
            have HVp : Hid (pmV l jx N = .tuple #[.string z, .int .i64 0]) := by
              show _ = _
              unfold pmV
              rw [if_pos hs, ← show z = _ from HZ.out]
            have HV2 : Hid (∀ b ∈ V ++ [(jy : Int)], ∃ j : Nat, b = (j : Int) ∧ j < l.length ∧ l.length ≤ j + n) := fun b hb => by
              rcases List.mem_append.1 hb with hb | hb
              · exact HV.out b hb
              · obtain rfl : b = (jy : Int) := by simpa using hb
                exact ⟨jy, rfl, jyl, jyn⟩
            clear hj hs HZ HN HV HT HTm HR4
            go_wp2_with fail
            refine HPm.out.mono ?_
            rintro e w4 ⟨rfl, b4⟩
            rw [HVp.out]
            have HNo4 : Hid (w4.ownsRow w2.heap.size 9 1 (.slice (some ⟨nq, 0, none⟩) N.length nc) N.length (cellsT N)) := own_below (own_below HNo.out HBt.out) b4
            have HVo4 : Hid (w4.ownsRow w2.heap.size 2 1 (.slice (some ⟨vq, 0, none⟩) V.length vc) V.length (cellsI V)) := own_below (own_below HVo.out HBt.out) b4
            have HTo4 : Hid (w4.ownsRow wr.heap.size 2 1 (.slice (some ⟨tq, 0, none⟩) [(jx : Int), (jy : Int)].length tc) [(jx : Int), (jy : Int)].length (cellsI [(jx : Int), (jy : Int)])) := own_below HTo.out b4
            have HB5 : Hid (Below w2.heap.size w2 w4) := HBr.out.trans ((HBt.out.trans (b4.mono HBt.out.size)).mono hwr)
            have hz3 : w2.heap.size ≤ w4.heap.size := HB5.out.size
            clear HVp HPm b4 HNo HVo HTo t0
            go_wp2_with (first | (at_builtin; refine wpList_append_lies _ rfl (.tmp 75) (.tmp 77) 113 rfl w2.heap.size 9 i0 _ 1 16 Tryz.underlying113 hi hz0 hz1 hz2 rfl (by decide) _ N.length (cellsT N) rfl (HNo4.out.alloc _) ⟨_, 0, none⟩ 1 1 [.string z] rfl rfl ?c1 ?c2 (by decide) ?c3 ?c4 ?c5 _ rfl ?_))
            case c1 => exact newsT (heap_new' _ _ _ (by simp))
            case c2 => intro u hu; simp at hu; subst hu; rfl
            case c3 => unfold maxLen; omega
            case c4 => omega
            case c5 => simp; omega
            intro g' cap' w5 hown1 hgrow1 _ _
            have HNo5 : Hid (w5.ownsRow w2.heap.size 9 1 (.slice (some ⟨g', 0, none⟩) (N.length + 1) cap') (N ++ [z]).length (cellsT (N ++ [z]))) := by
              rw [cellsT_append, List.length_append]
              exact hown1
            have HB6 : Hid (Below w2.heap.size w2 w5) := (HB5.out.alloc hz3 _).grown hgrow1 (by simp; omega) (fun j hj => (HNo4.out.lt j hj).1)
            have HVo5 : Hid (w5.ownsRow w2.heap.size 2 1 (.slice (some ⟨vq, 0, none⟩) V.length vc) V.length (cellsI V)) := own_apart (HVo4.out.alloc _) hgrow1 (own_two HNo4.out HVo4.out (by decide))
            have t1 := rowI_at (own_apart (HTo4.out.alloc _) hgrow1 (own_two HNo4.out HTo4.out (by decide))) 1 (by simp)
            simp only [List.getElem_cons_succ, List.getElem_cons_zero] at t1
            have hz5 : w2.heap.size ≤ w5.heap.size := HB6.out.size
            clear hown1 hgrow1 HNo4 HVo4 HTo4 HB5
            go_wp2_with (first | (at_builtin; refine wpList_append_lies _ rfl (.tmp 79) (.tmp 83) 81 rfl w2.heap.size 2 i1 _ 1 8 Tryz.underlying81 ki kz0 kz1 kz2 rfl (by decide) _ V.length (cellsI V) rfl (HVo5.out.alloc _) ⟨_, 0, none⟩ 1 1 [.int .i64 (jy : Int)] rfl rfl ?e1 ?e2 (by decide) ?e3 ?e4 ?e5 _ rfl ?_))
            case e1 => exact newsI (heap_new' _ _ _ (by simp))
            case e2 => intro u hu; simp at hu; subst hu; rfl
            case e3 => unfold maxLen; omega
            case e4 => omega
            case e5 => simp; omega
            intro g2 cap2 w6 hown2 hgrow2 _ _
            have HVo6 : Hid (w6.ownsRow w2.heap.size 2 1 (.slice (some ⟨g2, 0, none⟩) (V.length + 1) cap2) (V ++ [(jy : Int)]).length (cellsI (V ++ [(jy : Int)]))) := by
              rw [cellsI_append, List.length_append]
              exact hown2
            have HNo6 : Hid (w6.ownsRow w2.heap.size 9 1 (.slice (some ⟨g', 0, none⟩) (N.length + 1) cap') (N ++ [z]).length (cellsT (N ++ [z]))) := own_apart (HNo5.out.alloc _) hgrow2 (own_two HVo5.out HNo5.out (by decide))
            have HB7 : Hid (Below w2.heap.size w2 w6) := (HB6.out.alloc hz5 _).grown hgrow2 (by simp; omega) (fun j hj => (HVo5.out.lt j hj).1)
            clear hown2 hgrow2 HNo5 HVo5 HB6 t1
            go_wp2
            exact ⟨⟨k + 1, g', cap', g2, cap2, N ++ [z], V ++ [(jy : Int)], by omega, by go_num, by simp, by simp, by simp; omega, by simp; omega, HN2.out, HV2.out, HNo6.out, HVo6.out, HB7.out⟩, by simp [RowKit.intOf]; omega⟩
          · have HVp : Hid (pmV l jx N = .tuple #[.string ⟨#[]⟩, .int .i64 1]) := by
              show _ = _
              unfold pmV
              rw [if_neg hs]
            have HR5 : Hid (R = (1, C)) := by
              show _ = _
              rw [show R = _ from HR4.out, letF_off hlt HN.out (fun x y e => by
                rw [hj, ← show _ = _ from HT.out] at e
                obtain ⟨rfl, rfl⟩ : (jx : Int) = x ∧ (jy : Int) = y := by simpa using e
                exact hs)]
            clear hj hs HZ HN HR4 HT HTm
            go_wp2_with fail
            refine HPm.out.mono ?_
            rintro e w4 ⟨rfl, b4⟩
            rw [HVp.out]
            have HW : Hid (AnsX B m g dc l F R w (.returned (.int .i64 1)) w4) := by rw [show R = _ from HR5.out]; exact HC.out _ _ _ (by decide) (HB4.out.trans (b4.mono HB4.out.size))
            clear HVp HPm b4 HNo HVo
            go_wp2
            go_ret
            exact HW.out
      · have HN2 : Hid (letF l Rs [] [] = some (N, V)) := by
          have := HN.out
          rw [List.take_of_length_le (by omega)] at this
          exact this
        by_cases h3 : 3 < N.length
        · have HW : Hid (AnsX B m g dc l F R w (.returned (.int .i64 2)) wr) := by
            rw [show R = _ from HR4.out, HN2.out]
            simp only [if_pos h3]
            exact HC.out _ _ _ (by decide) HBw.out
          clear HR4 HN2 HN
          go_wp2
          go_ret
          exact HW.out
        · obtain ⟨Q, HQ⟩ : ∃ Q, Hid (Q = (expF l n j2 ((C.length + 1 : Nat) : Int) (N :: E) (C ++ [coC 9 par 0 0 ⟨#[]⟩ []] ++ [coC 5 C.length N.length 0 ⟨#[]⟩ []]))) := ⟨_, rfl⟩
          obtain ⟨fV, HfV⟩ : ∃ fV, Hid (fV = fun (a : Nat) (D : List Cor) => expF l n a C.length E D) := ⟨_, rfl⟩
          have HR5 : Hid (R = if Q.1 = 0 then allF fV V Q.2 else Q) := by
            show _ = _
            rw [show R = _ from HR4.out, HN2.out]
            simp only [if_neg h3]
            rw [show Q = _ from HQ.out, show fV = _ from HfV.out]
          have hgr : grows fV := by rw [show fV = _ from HfV.out]; exact fun a D => expF_grows l n a _ E D
          have hQ9 : Q.2.length ≤ 900 := by
            rw [show R = _ from HR5.out] at h9
            split at h9
            · exact Nat.le_trans (allF_grows hgr V Q.2) h9
            · exact h9
          have hC9 : C.length + 2 ≤ 900 := by
            have h8 := expF_grows l n j2 ((C.length + 1 : Nat) : Int) (N :: E) (C ++ [coC 9 par 0 0 ⟨#[]⟩ []] ++ [coC 5 C.length N.length 0 ⟨#[]⟩ []])
            rw [← show Q = _ from HQ.out] at h8
            simp at h8
            omega
          have hFl : F.length ≤ C.length := HSt.out.len
          obtain ⟨cn, Hcn⟩ : ∃ cn : Nat, Hid (cn = C.length + 1) := ⟨_, rfl⟩
          obtain ⟨C2, HC2⟩ : ∃ C2, Hid (C2 = (C ++ [coC 9 par 0 0 ⟨#[]⟩ []] ++ [coC 5 C.length N.length 0 ⟨#[]⟩ []])) := ⟨_, rfl⟩
          have hC2 : C2.length = C.length + 2 := by rw [show C2 = _ from HC2.out]; simp
          have HP1 : Hid (Calls Tryz.prog 40 #[.pointer (some ⟨m, 0, none⟩), .agg #[.int .i64 9, .int .i64 par, .int .i64 0, .int .i64 0, .string ⟨#[]⟩, .slice none 0 0]] wr fun e w' => e = .returned (.int .i64 (C.length : Nat)) ∧ St w' B m g dc l (C ++ [coC 9 par 0 0 ⟨#[]⟩ []]) F f E ∧ Kp B wr w' ∧ Below m wr w') := putS_any wr B m g dc l C F f E 9 par 0 0 ⟨#[]⟩ (HSt.out.below HBw.out) (by omega)
          have HP2 : Hid (∀ u, St u B m g dc l (C ++ [coC 9 par 0 0 ⟨#[]⟩ []]) F f E → Calls Tryz.prog 40 #[.pointer (some ⟨m, 0, none⟩), .agg #[.int .i64 5, .int .i64 (C.length : Nat), .int .i64 (N.length : Int), .int .i64 0, .string ⟨#[]⟩, .slice none 0 0]] u fun e w' => e = .returned (.int .i64 (cn : Nat)) ∧ St w' B m g dc l C2 F f E ∧ Kp B u w' ∧ Below m u w') := fun u hu => by
            have := putS_any u B m g dc l _ F f E 5 (C.length : Nat) N.length 0 ⟨#[]⟩ hu (by simp; omega)
            rw [show (C ++ [coC 9 par 0 0 ⟨#[]⟩ []]).length = cn by rw [show cn = _ from Hcn.out]; simp, ← show C2 = _ from HC2.out] at this
            exact this
          clear HR4 HN2 HN HO HRm HPq
          go_wp2_with fail
          refine HP1.out.mono ?_
          rintro e w3 ⟨rfl, hs, hk3, hb3⟩
          have HS3 : Hid (St w3 B m g dc l (C ++ [coC 9 par 0 0 ⟨#[]⟩ []]) F f E) := hs
          have HK3 : Hid (Kp B w w3 ∧ Below m w w3) := ⟨(Kp.of_below HBw.out).trans hk3, (HBw.out.mono (show m ≤ w.heap.size by omega)).trans hb3⟩
          have HN3 : Hid (w3.ownsRow B 9 1 (.slice (some ⟨nq, 0, none⟩) N.length nc) N.length (cellsT N)) := hk3.own typ_nex.2.2.1 typ_nex.2.2.2.1 (own_base HNo.out (by omega))
          have HV3 : Hid (w3.ownsRow B 2 1 (.slice (some ⟨vq, 0, none⟩) V.length vc) V.length (cellsI V)) := hk3.own typ_ni.1 typ_ni.2 (own_base HVo.out (by omega))
          clear hs hk3 hb3 HP1 HNo HVo
          go_wp2_with fail
          refine (HP2.out _ HS3.out).mono ?_
          rintro e w4 ⟨rfl, hs, hk4, hb4⟩
          have HS4 : Hid (St w4 B m g dc l C2 F f E) := hs
          have HK4 : Hid (Kp B w w4 ∧ Below m w w4) := ⟨HK3.out.1.trans hk4, HK3.out.2.trans hb4⟩
          have HL4 : Hid (IRow w4 B (some ⟨q, off, none⟩) [x0, (j1 : Int), (j2 : Int)]) := HLr.out.keep HK4.out.1
          have HN4 : Hid (w4.ownsRow B 9 1 (.slice (some ⟨nq, 0, none⟩) N.length nc) N.length (cellsT N)) := hk4.own typ_nex.2.2.1 typ_nex.2.2.2.1 HN3.out
          have HV4 : Hid (w4.ownsRow B 2 1 (.slice (some ⟨vq, 0, none⟩) V.length vc) V.length (cellsI V)) := hk4.own typ_ni.1 typ_ni.2 HV3.out
          obtain ⟨q', off', he, hc3⟩ := HL4.out.at (by simp)
          obtain ⟨rfl, rfl⟩ : q = q' ∧ off = off' := by simpa using he
          have e2 := hc3 2 (by simp)
          simp only [List.getElem_cons_succ, List.getElem_cons_zero] at e2
          have HBd : Hid (∀ u, Below w4.heap.size w4 u → Calls Tryz.prog 100 #[.pointer (some ⟨m, 0, none⟩), .slice (some ⟨nq, 0, none⟩) N.length nc, .int .i64 f] u fun e w' => e = .returned (.int .i64 (F.length : Nat)) ∧ St w' B m g dc l C2 (F ++ [(N, f, .slice (some ⟨nq, 0, none⟩) N.length nc)]) F.length (N :: E) ∧ w'.cell? ⟨q, off + 2, none⟩ = some (.int .i64 (j2 : Int)) ∧ w'.ownsRow B 2 1 (.slice (some ⟨vq, 0, none⟩) V.length vc) V.length (cellsI V) ∧ Kp B w w' ∧ Below m w w') := fun u hu => by
            refine (bindS_any u B m g dc l _ F f E N _ (HS4.out.below hu) (by omega) (by omega) (by omega) (own_below HN4.out hu)).mono ?_
            rintro e w' ⟨h1, h2, h3, h4⟩
            obtain ⟨q', off', he, hc'⟩ := ((HL4.out.keep (Kp.of_below hu)).keep h3).at (by simp)
            obtain ⟨rfl, rfl⟩ : q = q' ∧ off = off' := by simpa using he
            exact ⟨h1, h2, hc' 2 (by simp), h3.own typ_ni.1 typ_ni.2 (own_below HV4.out hu), (HK4.out.1.trans (Kp.of_below hu)).trans h3, (HK4.out.2.trans (hu.mono (show m ≤ w4.heap.size by have := HK4.out.1.size; omega))).trans h4⟩
          have HXX : Hid (∀ u, St u B m g dc l C2 (F ++ [(N, f, .slice (some ⟨nq, 0, none⟩) N.length nc)]) F.length (N :: E) → Calls Tryz.prog 19 #[.pointer (some ⟨m, 0, none⟩), .int .i64 (j2 : Int), .int .i64 (cn : Nat), .int .i64 (F.length : Nat)] u fun e w' => AnsX B m g dc l F Q u e w') := fun u hu => by
            rw [show C2 = _ from HC2.out] at hu
            rw [show cn = _ from Hcn.out]
            rw [show Q = _ from HQ.out] at hQ9 ⊢
            exact (hX u B m g dc j2 ((C.length + 1 : Nat) : Int) F.length (N :: E) _ _ hu j2l j2n (by simp; omega) hQ9).mono fun e w' h => h.more
          have HAl : Hid (∀ (u : World) (G : List Frm), St u B m g dc l Q.2 (F ++ G) f E → u.ownsRow B 2 1 (.slice (some ⟨vq, 0, none⟩) V.length vc) V.length (cellsI V) → (allF fV V Q.2).2.length ≤ 900 → Calls Tryz.prog 46 #[.pointer (some ⟨m, 0, none⟩), .slice (some ⟨vq, 0, none⟩) V.length vc, .int .i64 (C.length : Nat), .int .i64 f] u fun e w' => AnsX B m g dc l F (allF fV V Q.2) u e w') := fun u G hu ho h9' => by
            rw [show fV = _ from HfV.out] at h9' ⊢
            exact (l4All_of l n hX u B m g dc (some ⟨vq, 0, none⟩) vc V (C.length : Nat) f E Q.2 (F ++ G) hu (IRow.of ho (Nat.le_refl _)) HV.out (by omega) (by omega) (fun a D => expF_grows l n a _ E D) h9').mono fun e w' h => h.more
          have HCh : Hid (∀ G, chainF (F ++ G) f E) := fun G => by obtain ⟨P, _, _, _, _, h5⟩ := HSt.out; exact h5.more G
          clear hX HP2 hs hk4 hb4 HS4 HS3 HL4 hc3 he HN4 HN3 HV3 HV4 HBr HBw HB3 hgr HQ HfV HC2 Hcn
          go_wp2_with fail
          go_region_with (first
            | (go_at_call 100; refine (HBd.out _ (by repeat (first | exact Below.refl _ _ | refine Below.drew ?_))).mono ?_; rintro e wp ⟨rfl, hs, e2, hov, hk⟩; have HSp : Hid (St wp B m g dc l C2 (F ++ [(N, f, .slice (some ⟨nq, 0, none⟩) N.length nc)]) F.length (N :: E)) := hs; have HKp : Hid (Kp B w wp ∧ Below m w wp) := hk; have HVp : Hid (wp.ownsRow B 2 1 (.slice (some ⟨vq, 0, none⟩) V.length vc) V.length (cellsI V)) := hov; clear hs hk hov)
            | (go_at_call 19; refine (HXX.out _ HSp.out).mono ?_; rintro e wx hx; have HXp : Hid (AnsX B m g dc l F Q wp e wx) := hx; have he := hx.1; clear hx; subst he)
            | fail)
          all_goals
            have HKx : Hid (Kp B w wx ∧ Below m w wx) := ⟨HKp.out.1.trans HXp.out.2.2.1, HKp.out.2.trans HXp.out.2.2.2⟩
            have HVx : Hid (wx.ownsRow B 2 1 (.slice (some ⟨vq, 0, none⟩) V.length vc) V.length (cellsI V)) := HXp.out.2.2.1.own typ_ni.1 typ_ni.2 HVp.out
            obtain ⟨cc, Hcc⟩ : ∃ cc, Hid (cc = Q.1) := ⟨_, rfl⟩
            rw [← show cc = _ from Hcc.out]
            by_cases hz : cc = 0
            · have hz1 : Q.1 = 0 := by rw [← show cc = _ from Hcc.out]; exact hz
              obtain ⟨P, G, y1, y2, y3, y4⟩ := HXp.out.2.1 hz1
              have HAm : Hid (Calls Tryz.prog 46 #[.pointer (some ⟨m, 0, none⟩), .slice (some ⟨vq, 0, none⟩) V.length vc, .int .i64 (C.length : Nat), .int .i64 f] wx fun e w' => AnsX B m g dc l F R wx e w') := by
                have e5 : R = allF fV V Q.2 := by rw [show R = _ from HR5.out, if_pos hz1]
                rw [e5] at h9 ⊢
                exact HAl.out wx G ⟨P, y1, y2, y3, y4, HCh.out G⟩ HVx.out h9
              subst hz
              clear y1 y2 y3 y4 HAl HXX HBd HSp HKp HXp HR5 HVx HVp HCh hz1 Hcc
              go_wp2_with fail
              refine HAm.out.mono ?_
              rintro e wy hy
              have HY : Hid (AnsX B m g dc l F R wx e wy) := hy
              have he := hy.1
              clear hy
              subst he
              have HW : Hid (AnsX B m g dc l F R w (.returned (.int .i64 R.1)) wy) := HY.out.pre HKx.out.1 HKx.out.2
              clear HY HKx HAm
              obtain ⟨c9, Hc9⟩ : ∃ c9, Hid (c9 = R.1) := ⟨_, rfl⟩
              rw [← show c9 = _ from Hc9.out] at HW ⊢
              go_wp2
              go_ret
              exact HW.out
            · have HW : Hid (AnsX B m g dc l F R w (.returned (.int .i64 cc)) wx) := by
                have e5 : R = Q := by rw [show R = _ from HR5.out, if_neg (by rw [← show cc = _ from Hcc.out]; exact hz)]
                rw [e5, show cc = _ from Hcc.out]
                have := HXp.out.pre HKp.out.1 HKp.out.2
                exact this
              have hz' : (cc != 0) = true := by simpa using hz
              clear HAl HXX HBd HSp HKp HXp HR5 HVx HVp HCh Hcc hz
              go_wp2
              go_ret
              exact HW.out
end Go.Proofs.YtfdkklhigliciaaGreatDoor
