/-
  Parts of the proof laid into one text, one behind the other; each says at its head what is proved in it.
-/
import Derived.Test.YtfdkklhigliciaaGreatDoorXaI
/-
  The model's l4Lambda: the names of a lambda, one by one, then its body, from what l4Expand does.
-/
namespace Go.Proofs.YtfdkklhigliciaaGreatDoor
open Go.RowKit Go.Extern.Stop Go.Stop Go.Extern Num Go.Lib

theorem parF_append (l : List Dat) : ∀ (A R : List Int) (N : List ByteArray), parF l (A ++ R) N = (parF l A N).bind (parF l R)
  | [], R, N => rfl
  | a :: A, R, N => by
    show (if symP l a = true ∧ idxF N (nameAt l a) = none then parF l (A ++ R) (N ++ [nameAt l a]) else none) = _
    by_cases h : symP l a = true ∧ idxF N (nameAt l a) = none
    · rw [if_pos h, parF_append l A R]
      show _ = (if symP l a = true ∧ idxF N (nameAt l a) = none then parF l A (N ++ [nameAt l a]) else none).bind _
      rw [if_pos h]
    · rw [if_neg h]
      show _ = (if symP l a = true ∧ idxF N (nameAt l a) = none then parF l A (N ++ [nameAt l a]) else none).bind _
      rw [if_neg h]
      rfl
theorem parF_on {l : List Dat} {R : List Int} {N : List ByteArray} {k : Nat} (hk : k < R.length) (h : parF l (R.take k) [] = some N) (hc : symP l R[k] = true ∧ idxF N (nameAt l R[k]) = none) : parF l (R.take (k + 1)) [] = some (N ++ [nameAt l R[k]]) := by
  rw [List.take_succ_eq_append_getElem hk, parF_append, h]
  show (if symP l R[k] = true ∧ idxF N (nameAt l R[k]) = none then some (N ++ [nameAt l R[k]]) else none) = _
  rw [if_pos hc]
theorem parF_off {l : List Dat} {R : List Int} {N : List ByteArray} {k : Nat} (hk : k < R.length) (h : parF l (R.take k) [] = some N) (hc : ¬ (symP l R[k] = true ∧ idxF N (nameAt l R[k]) = none)) : parF l R [] = none := by
  have e : R = R.take k ++ (R[k] :: R.drop (k + 1)) := by rw [← List.drop_eq_getElem_cons hk, List.take_append_drop]
  rw [e, parF_append, h]
  show (if symP l R[k] = true ∧ idxF N (nameAt l R[k]) = none then parF l (R.drop (k + 1)) (N ++ [nameAt l R[k]]) else none) = _
  rw [if_neg hc]
theorem AnsX.more {B m g dc : Nat} {l : List Dat} {F A : List Frm} {r : Int × List Cor} {w w' : World} {e : Ending} (h : AnsX B m g dc l (F ++ A) r w e w') : AnsX B m g dc l F r w e w' := by
  obtain ⟨h1, h2, h3⟩ := h
  refine ⟨h1, fun hz => ?_, h3⟩
  obtain ⟨P, G, k⟩ := h2 hz
  rw [List.append_assoc] at k
  exact ⟨P, A ++ G, k⟩
/-- A frame put behind the others. -/
theorem bindS_any (w : World) (B m g dc : Nat) (l : List Dat) (C : List Cor) (F : List Frm) (f : Int) (E : Env) (N : List ByteArray) (nv : Value) (h : St w B m g dc l C F f E) (hl : F.length + 1 ≤ C.length) (hC : C.length ≤ 1000) (hN : N.length ≤ 3) (ho : w.ownsRow B 9 1 nv N.length (cellsT N)) :
    Calls Tryz.prog 100 #[.pointer (some ⟨m, 0, none⟩), nv, .int .i64 f] w fun e w' => e = .returned (.int .i64 (F.length : Nat)) ∧ St w' B m g dc l C (F ++ [(N, f, nv)]) F.length (N :: E) ∧ Kp B w w' ∧ Below m w w' := by
  obtain ⟨P, h1, h2, h3, h4, h5⟩ := h
  refine (l4Bind_any w B m g dc l P F N f nv h1 (by omega) ho).mono ?_
  rintro e w' ⟨rfl, hm, hk, hb⟩
  have hP : P.length = C.length := by rw [← h2, List.length_map]
  refine ⟨rfl, ⟨P, hm, h2, by rw [List.length_append, hP]; simpa using hl, fun x hx => ?_, F.length, f, nv, rfl, by simp, h5.more _⟩, hk, hb⟩
  rcases List.mem_append.1 hx with hx | hx
  · exact h4 x hx
  · obtain rfl : x = (N, f, nv) := by simpa using hx
    exact hN
theorem newsT' {W : World} {b : Nat} {x : Value} {ty : TypeId} {fr : Nat × Nat} (h : W.heap[b]? = some (.cells #[x] ty fr)) : ∀ j u, [x][j]? = some u → W.cell? ((⟨b, 0, none⟩ : Addr).add j) = some u := newsT h
set_option maxRecDepth 100000 in
set_option maxHeartbeats 2000000 in
theorem l4Lambda_of (l : List Dat) (hFi : Fine l) (n : Nat) (hX : ExS l n) (w : World) (B m g dc : Nat) (ao : Option Addr) (cp : Nat) (L : List Int) (par f : Int) (E : Env) (C : List Cor) (F : List Frm) (h : St w B m g dc l C F f E) (hL : IRow w B ao L) (hb : ∀ b ∈ L, ∃ j : Nat, b = (j : Int) ∧ j < l.length ∧ l.length ≤ j + n) (hE : E.length + 1 + n ≤ 1000) (h9 : (lamF l (expF l n) L par E C).2.length ≤ 900) :
    Calls Tryz.prog 64 #[.pointer (some ⟨m, 0, none⟩), .slice ao L.length cp, .int .i64 par, .int .i64 f] w fun e w' => AnsX B m g dc l F (lamF l (expF l n) L par E C) w e w' := by
  have hBw : B ≤ w.heap.size := by obtain ⟨P, h1, _⟩ := h; exact h1.hi
  have hmB : m < B := by obtain ⟨P, h1, _⟩ := h; exact h1.lo
  have HC : Hid (∀ u c D, c ≠ 0 → Below w.heap.size w u → AnsX B m g dc l F (c, D) w (.returned (.int .i64 c)) u) := fun u c D hc hu => AnsX.code hc (Kp.of_below hu) (hu.mono (show m ≤ w.heap.size by omega))
  by_cases hln : L.length = 3
  case neg =>
    obtain ⟨R, hR⟩ : ∃ R, R = lamF l (expF l n) L par E C := ⟨_, rfl⟩
    rw [← hR]
    have HR : Hid (R = (1, C)) := by show _ = _; rw [hR]; unfold lamF; rw [if_neg (fun e => hln e.1)]
    have hln' : ((L.length : Int) != 3) = true := by simp; omega
    clear h9 hX h hL hb hR
    go_enter Tryz.func64, Tryz.ntmps64
    go_wp2_with fail
    have hne := bw_some w
    refine wp_region_below (by kernel_rfl) (by kernel_rfl) ?_
    repeat (go_big_quiet_step (fail))
    refine wpQuiet_nil ?_
    intro wq hw'
    obtain ⟨⟨_, b1⟩, rfl⟩ := hw'
    have HW : Hid (AnsX B m g dc l F R w (.returned (.int .i64 1)) wq) := by rw [show R = _ from HR.out]; exact HC.out _ _ _ (by decide) b1
    clear b1 hne
    go_wp2
    go_ret
    exact HW.out
  obtain ⟨x0, x1, x2, rfl⟩ : ∃ x0 x1 x2, L = [x0, x1, x2] := by
    match L, hln with
    | [a, b, c], _ => exact ⟨a, b, c, rfl⟩
  obtain ⟨j1, rfl, j1l, -⟩ := hb x1 (by simp)
  obtain ⟨j2, rfl, j2l, j2n⟩ := hb x2 (by simp)
  obtain ⟨q, off, rfl, hc⟩ := hL.at (by simp)
  have c1 := hc 1 (by simp)
  have c2 := hc 2 (by simp)
  simp only [List.getElem_cons_succ, List.getElem_cons_zero] at c1 c2
  obtain ⟨R, hR⟩ : ∃ R, R = lamF l (expF l n) [x0, (j1 : Int), (j2 : Int)] par E C := ⟨_, rfl⟩
  rw [← hR] at h9 ⊢
  have HRR : Hid (R = if kindAt l j1 = 4 then match parF l (partsD l j1) [] with
      | none => (1, C)
      | some N => if 3 < N.length then (2, C) else expF l n j2 C.length (N :: E) (C ++ [coC 5 par N.length 0 ⟨#[]⟩ []])
    else (1, C)) := by
    show _ = _
    rw [hR]
    unfold lamF
    simp only [hln, true_and]
    rfl
  have hg0 : w.cell? ⟨m, 0, none⟩ = some (.slice (some ⟨g, 0, none⟩) l.length dc) := by obtain ⟨P, h1, _⟩ := h; exact h1.hd
  have hrow : RowD w g l := by obtain ⟨P, h1, _⟩ := h; exact h1.row
  obtain ⟨kd, hkd⟩ : ∃ kd, kd = l[j1].kind := ⟨_, rfl⟩
  have hk0 := (hrow j1 j1l).1
  rw [← hkd] at hk0
  have HKd : Hid (kindAt l j1 = kd) := by show _ = _; unfold kindAt; rw [hkd]; simp [j1l]
  have HSt : Hid (St w B m g dc l C F f E) := h
  have HLr : Hid (IRow w B (some ⟨q, off, none⟩) [x0, (j1 : Int), (j2 : Int)]) := hL
  have q0 : ∀ p : BW w, p.x.cell? ⟨m, 0, none⟩ = some (.slice (some ⟨g, 0, none⟩) l.length dc) := fun p => p.cell hg0
  have q1 : ∀ p : BW w, p.x.cell? ⟨q, off + 1, none⟩ = some (.int .i64 (j1 : Int)) := fun p => p.cell c1
  have q2 : ∀ p : BW w, p.x.cell? ⟨g, j1 * 4, none⟩ = some (.int .i64 kd) := fun p => p.cell hk0
  have HPa : Hid (∀ u, Below w.heap.size w u → Calls Tryz.prog 44 #[.slice (some ⟨g, 0, none⟩) l.length dc, .int .i64 (j1 : Int)] u fun e w' => ∃ q c, e = .returned (.slice (some ⟨q, 0, none⟩) (partsD l j1).length c) ∧ w'.ownsRow u.heap.size 2 1 (.slice (some ⟨q, 0, none⟩) (partsD l j1).length c) (partsD l j1).length (cellsI (partsD l j1)) ∧ Below u.heap.size u w') := fun u hu => l3Parts_any g dc l j1 u (hrow.below hu) (by have := hFi.len; omega)
  have hRl : (partsD l j1).length ≤ 80 := Nat.le_trans (partsTo_len _ _ _) hFi.len
  have HRm : Hid (∀ b ∈ partsD l j1, ∃ j : Nat, b = (j : Int) ∧ j < l.length) := fun b hb' => by
    obtain ⟨j, h1, h2, _⟩ := mem_partsD hFi hb'
    exact ⟨j, h1, h2⟩
  have hne := bw_some w
  clear hc hL hb h hkd hrow hR
  by_cases hk4 : kd = 4
  case neg =>
    have HR2 : Hid (R = (1, C)) := by show _ = _; rw [show R = _ from HRR.out, show kindAt l j1 = kd from HKd.out, if_neg hk4]
    have hk4' : (kd != 4) = true := by simpa using hk4
    clear HRR h9 hX HPa HRm HKd
    go_enter Tryz.func64, Tryz.ntmps64
    go_wp2_with fail
    refine wp_region_below (by kernel_rfl) (by kernel_rfl) ?_
    repeat (go_big_quiet_step (fail))
    refine wpQuiet_nil ?_
    intro wq hw'
    obtain ⟨⟨_, b1⟩, rfl⟩ := hw'
    have HW : Hid (AnsX B m g dc l F R w (.returned (.int .i64 1)) wq) := by rw [show R = _ from HR2.out]; exact HC.out _ _ _ (by decide) b1
    clear b1 hne q0 q1 q2
    go_wp2
    go_ret
    exact HW.out
  subst hk4
  have HR3 : Hid (R = match parF l (partsD l j1) [] with
      | none => (1, C)
      | some N => if 3 < N.length then (2, C) else expF l n j2 C.length (N :: E) (C ++ [coC 5 par N.length 0 ⟨#[]⟩ []])) := by show _ = _; rw [show R = _ from HRR.out, show kindAt l j1 = 4 from HKd.out, if_pos rfl]
  clear HRR HKd
  go_enter Tryz.func64, Tryz.ntmps64
  go_wp2_with fail
  refine wp_region_below (by kernel_rfl) (by kernel_rfl) ?_
  repeat (go_big_quiet_step (fail))
  refine wpQuiet_nil ?_
  intro wq hw'
  obtain ⟨⟨_, b1⟩, rfl⟩ := hw'
  have d0 := cell_keep b1 hg0
  have d1 := cell_keep b1 c1
  have HB1 : Hid (Below w.heap.size w wq) := b1
  have HPb : Hid (∀ u, Below wq.heap.size wq u → Calls Tryz.prog 44 #[.slice (some ⟨g, 0, none⟩) l.length dc, .int .i64 (j1 : Int)] u fun e w' => ∃ q c, e = .returned (.slice (some ⟨q, 0, none⟩) (partsD l j1).length c) ∧ w'.ownsRow wq.heap.size 2 1 (.slice (some ⟨q, 0, none⟩) (partsD l j1).length c) (partsD l j1).length (cellsI (partsD l j1)) ∧ Below wq.heap.size wq w') := fun u hu => by
    refine (HPa.out u (HB1.out.trans (hu.mono HB1.out.size))).mono ?_
    rintro e w' ⟨q, c, h1, h2, h3⟩
    exact ⟨q, c, h1, own_base h2 hu.size, hu.trans (h3.mono hu.size)⟩
  clear b1 hne q0 q1 q2 hg0 c1 c2 hk0 HPa
  go_wp2_with fail
  go_region_with (first
    | (go_at_call 44; refine (HPb.out _ (by repeat (first | exact Below.refl _ _ | refine Below.drew ?_))).mono ?_; rintro e w2 ⟨pq, pc, rfl, ho, hb2⟩; have HO : Hid (w2.ownsRow wq.heap.size 2 1 (.slice (some ⟨pq, 0, none⟩) (partsD l j1).length pc) (partsD l j1).length (cellsI (partsD l j1))) := ho; have HB2 : Hid (Below wq.heap.size wq w2) := hb2; clear ho hb2)
    | fail)
  all_goals
    have HB3 : Hid (Below w.heap.size w w2) := HB1.out.trans (HB2.out.mono HB1.out.size)
    obtain ⟨Rs, hRs⟩ : ∃ Rs, Rs = partsD l j1 := ⟨_, rfl⟩
    rw [← hRs] at HO hRl HRm ⊢
    have HR4 : Hid (R = match parF l Rs [] with
      | none => (1, C)
      | some N => if 3 < N.length then (2, C) else expF l n j2 C.length (N :: E) (C ++ [coC 5 par N.length 0 ⟨#[]⟩ []])) := by show _ = _; rw [hRs]; exact HR3.out
    clear hRs HR3 HPb HB1 HB2
    go_wp2_with fail
    obtain ⟨i0, hi, hz0, hz1, hz2⟩ := info_parts infoT
    go_loopw [10, 11] (fun v i wr => ∃ (k nq nc : Nat) (N : List ByteArray), k ≤ Rs.length ∧ i = .int .i64 (k : Int) ∧ v = .slice (some ⟨nq, 0, none⟩) N.length nc ∧ N.length ≤ k ∧ Hid (parF l (Rs.take k) [] = some N) ∧ Hid (wr.ownsRow w2.heap.size 9 1 v N.length (cellsT N)) ∧ Hid (Below w2.heap.size w2 wr)) (fun _ i _ => Rs.length - (RowKit.intOf i).toNat)
    case atStart => exact ⟨0, _, _, [], Nat.zero_le _, rfl, rfl, Nat.le_refl _, rfl, World.ownsRow_made _ #[] 0 (Nat.le_refl _) (Nat.zero_le _) rfl, (Below.refl _ _).alloc (Nat.le_refl _) _⟩
    case round =>
      obtain ⟨k, nq, nc, N, hk, rfl, rfl, hNk, HN, HNo, HBr⟩ := hrel
      have hw2 : w.heap.size ≤ w2.heap.size := HB3.out.size
      have hwr : w2.heap.size ≤ wr.heap.size := HBr.out.size
      have HBw : Hid (Below w.heap.size w wr) := HB3.out.trans (HBr.out.mono hw2)
      by_cases hlt : k < Rs.length
      · obtain ⟨j, hj, hjl⟩ := HRm.out Rs[k] (List.getElem_mem hlt)
        have r1 := cell_keep HBr.out (rowI_at HO.out k hlt)
        rw [hj] at r1
        have HPm : Hid (Calls Tryz.prog 99 #[.pointer (some ⟨m, 0, none⟩), .int .i64 (j : Int), .slice (some ⟨nq, 0, none⟩) N.length nc] wr fun e w' => e = .returned (pmV l j N) ∧ Below wr.heap.size wr w') := by
          obtain ⟨P, h1, _⟩ := HSt.out.below HBw.out
          exact l4Param_any wr B m g dc l P F j N _ h1 hjl (own_base HNo.out (by omega)) (by omega)
        obtain ⟨z, HZ⟩ : ∃ z, Hid (z = nameAt l j) := ⟨_, rfl⟩
        by_cases hs : symP l Rs[k] = true ∧ idxF N (nameAt l Rs[k]) = none
        · have HN2 : Hid (parF l (Rs.take (k + 1)) [] = some (N ++ [z])) := by
            show _ = _
            rw [parF_on hlt HN.out hs, hj, show z = _ from HZ.out]
          have HV : Hid (pmV l j N = .tuple #[.string z, .int .i64 0]) := by
            show _ = _
            rw [hj] at hs
            unfold pmV
            rw [if_pos hs, ← show z = _ from HZ.out]
          clear hj hs HZ HN
          go_wp2_with fail
          refine HPm.out.mono ?_
          rintro e w3 ⟨rfl, b3⟩
          rw [HV.out]
          have HNo3 : Hid (w3.ownsRow w2.heap.size 9 1 (.slice (some ⟨nq, 0, none⟩) N.length nc) N.length (cellsT N)) := own_below HNo.out b3
          have HB4 : Hid (Below w2.heap.size w2 w3) := HBr.out.trans (b3.mono hwr)
          have hz3 : w2.heap.size ≤ w3.heap.size := HB4.out.size
          clear HV HPm b3 HNo
          go_wp2_with (first | (at_builtin; refine wpList_append_lies _ rfl (.tmp 59) (.tmp 61) 113 rfl w2.heap.size 9 i0 _ 1 16 Tryz.underlying113 hi hz0 hz1 hz2 rfl (by decide) _ N.length (cellsT N) rfl (HNo3.out.alloc _) ⟨_, 0, none⟩ 1 1 [.string z] rfl rfl ?c1 ?c2 (by decide) ?c3 ?c4 ?c5 _ rfl ?_))
          case c1 => exact newsT (heap_new' _ _ _ (by simp))
          case c2 => intro u hu; simp at hu; subst hu; rfl
          case c3 => unfold maxLen; omega
          case c4 => omega
          case c5 => simp; omega
          intro g' cap' w4 hown1 hgrow1 _ _
          have HO1 : Hid (w4.ownsRow w2.heap.size 9 1 (.slice (some ⟨g', 0, none⟩) (N.length + 1) cap') (N ++ [z]).length (cellsT (N ++ [z]))) := by
            rw [cellsT_append, List.length_append]
            exact hown1
          have HB5 : Hid (Below w2.heap.size w2 w4) := (HB4.out.alloc hz3 _).grown hgrow1 (by simp; omega) (fun j hj => (HNo3.out.lt j hj).1)
          clear hown1 hgrow1
          go_wp2
          exact ⟨⟨k + 1, g', cap', N ++ [z], by omega, by go_num, by simp, by simp; omega, HN2.out, HO1.out, HB5.out⟩, by simp [RowKit.intOf]; omega⟩
        · have HV : Hid (pmV l j N = .tuple #[.string ⟨#[]⟩, .int .i64 1]) := by
            show _ = _
            rw [hj] at hs
            unfold pmV
            rw [if_neg hs]
          have HR5 : Hid (R = (1, C)) := by show _ = _; rw [show R = _ from HR4.out, parF_off hlt HN.out hs]
          clear hj hs HZ HN HR4
          go_wp2_with fail
          refine HPm.out.mono ?_
          rintro e w3 ⟨rfl, b3⟩
          rw [HV.out]
          have HW : Hid (AnsX B m g dc l F R w (.returned (.int .i64 1)) w3) := by rw [show R = _ from HR5.out]; exact HC.out _ _ _ (by decide) (HBw.out.trans (b3.mono HBw.out.size))
          clear HV HPm b3 HNo
          go_wp2
          go_ret
          exact HW.out
      · have HN2 : Hid (parF l Rs [] = some N) := by
          have := HN.out
          rw [List.take_of_length_le (by omega)] at this
          exact this
        by_cases h3 : 3 < N.length
        · have HW : Hid (AnsX B m g dc l F R w (.returned (.int .i64 2)) wr) := by
            rw [show R = _ from HR4.out, HN2.out]
            simp only [if_pos h3]
            exact HC.out _ _ _ (by decide) HBw.out
          clear HR4 HN2 HN
          go_wp2
          go_ret
          exact HW.out
        · have HR5 : Hid (R = expF l n j2 C.length (N :: E) (C ++ [coC 5 par N.length 0 ⟨#[]⟩ []])) := by
            show _ = _
            rw [show R = _ from HR4.out, HN2.out]
            simp only [if_neg h3]
          have hC9 : C.length + 1 ≤ 900 := by
            have h8 := expF_grows l n j2 C.length (N :: E) (C ++ [coC 5 par N.length 0 ⟨#[]⟩ []])
            rw [← show R = _ from HR5.out] at h8
            simp at h8
            omega
          have hFl : F.length ≤ C.length := HSt.out.len
          have HP : Hid (Calls Tryz.prog 40 #[.pointer (some ⟨m, 0, none⟩), .agg #[.int .i64 5, .int .i64 par, .int .i64 (N.length : Int), .int .i64 0, .string ⟨#[]⟩, .slice none 0 0]] wr fun e w' => e = .returned (.int .i64 (C.length : Nat)) ∧ St w' B m g dc l (C ++ [coC 5 par N.length 0 ⟨#[]⟩ []]) F f E ∧ Kp B wr w' ∧ Below m wr w') := putS_any wr B m g dc l C F f E 5 par N.length 0 ⟨#[]⟩ (HSt.out.below HBw.out) (by omega)
          clear HR4 HN2 HN HO HRm
          go_wp2_with fail
          refine HP.out.mono ?_
          rintro e w3 ⟨rfl, hs, hk3, hb3⟩
          have HS3 : Hid (St w3 B m g dc l (C ++ [coC 5 par N.length 0 ⟨#[]⟩ []]) F f E) := hs
          have HK3 : Hid (Kp B w w3 ∧ Below m w w3) := ⟨(Kp.of_below HBw.out).trans hk3, (HBw.out.mono (show m ≤ w.heap.size by omega)).trans hb3⟩
          have HL3 : Hid (IRow w3 B (some ⟨q, off, none⟩) [x0, (j1 : Int), (j2 : Int)]) := HLr.out.keep HK3.out.1
          have HN3 : Hid (w3.ownsRow B 9 1 (.slice (some ⟨nq, 0, none⟩) N.length nc) N.length (cellsT N)) := hk3.own typ_nex.2.2.1 typ_nex.2.2.2.1 (own_base HNo.out (by omega))
          obtain ⟨q', off', he, hc3⟩ := HL3.out.at (by simp)
          obtain ⟨rfl, rfl⟩ : q = q' ∧ off = off' := by simpa using he
          have e2 := hc3 2 (by simp)
          simp only [List.getElem_cons_succ, List.getElem_cons_zero] at e2
          have HBd : Hid (∀ u, Below w3.heap.size w3 u → Calls Tryz.prog 100 #[.pointer (some ⟨m, 0, none⟩), .slice (some ⟨nq, 0, none⟩) N.length nc, .int .i64 f] u fun e w' => e = .returned (.int .i64 (F.length : Nat)) ∧ St w' B m g dc l (C ++ [coC 5 par N.length 0 ⟨#[]⟩ []]) (F ++ [(N, f, .slice (some ⟨nq, 0, none⟩) N.length nc)]) F.length (N :: E) ∧ w'.cell? ⟨q, off + 2, none⟩ = some (.int .i64 (j2 : Int)) ∧ Kp B w w' ∧ Below m w w') := fun u hu => by
            refine (bindS_any u B m g dc l _ F f E N _ (HS3.out.below hu) (by simp; omega) (by simp; omega) (by omega) (own_below HN3.out hu)).mono ?_
            rintro e w' ⟨h1, h2, h3, h4⟩
            obtain ⟨q', off', he, hc'⟩ := ((HL3.out.keep (Kp.of_below hu)).keep h3).at (by simp)
            obtain ⟨rfl, rfl⟩ : q = q' ∧ off = off' := by simpa using he
            exact ⟨h1, h2, hc' 2 (by simp), (HK3.out.1.trans (Kp.of_below hu)).trans h3, (HK3.out.2.trans (hu.mono (show m ≤ w3.heap.size by have := HK3.out.1.size; omega))).trans h4⟩
          have HXX : Hid (∀ u, St u B m g dc l (C ++ [coC 5 par N.length 0 ⟨#[]⟩ []]) (F ++ [(N, f, .slice (some ⟨nq, 0, none⟩) N.length nc)]) F.length (N :: E) → Calls Tryz.prog 19 #[.pointer (some ⟨m, 0, none⟩), .int .i64 (j2 : Int), .int .i64 (C.length : Nat), .int .i64 (F.length : Nat)] u fun e w' => AnsX B m g dc l F R u e w') := fun u hu => by
            rw [show R = _ from HR5.out] at h9 ⊢
            exact (hX u B m g dc j2 C.length F.length (N :: E) _ _ hu j2l j2n (by simp; omega) h9).mono fun e w' h => h.more
          clear hX h9 HR5 HP hs hk3 hb3 HNo HS3 HL3 hc3 he HN3 HBr HBw HB3
          go_wp2_with fail
          go_region_with (first
            | (go_at_call 100; refine (HBd.out _ (by repeat (first | exact Below.refl _ _ | refine Below.drew ?_))).mono ?_; rintro e wp ⟨rfl, hs, e2, hk⟩; have HSp : Hid (St wp B m g dc l (C ++ [coC 5 par N.length 0 ⟨#[]⟩ []]) (F ++ [(N, f, .slice (some ⟨nq, 0, none⟩) N.length nc)]) F.length (N :: E)) := hs; have HKp : Hid (Kp B w wp ∧ Below m w wp) := hk; clear hs hk)
            | (go_at_call 19; refine (HXX.out _ HSp.out).mono ?_; rintro e wx hx; have HXp : Hid (AnsX B m g dc l F R wp e wx) := hx; have he := hx.1; clear hx; subst he)
            | fail)
          all_goals
            have HW : Hid (AnsX B m g dc l F R w (.returned (.int .i64 R.1)) wx) := HXp.out.pre HKp.out.1 HKp.out.2
            clear HXX HBd HSp HXp HKp
            obtain ⟨cc, hcc⟩ : ∃ cc, Hid (cc = R.1) := ⟨_, rfl⟩
            rw [← show cc = _ from hcc.out] at HW ⊢
            go_wp2
            go_ret
            exact HW.out
end Go.Proofs.YtfdkklhigliciaaGreatDoor
