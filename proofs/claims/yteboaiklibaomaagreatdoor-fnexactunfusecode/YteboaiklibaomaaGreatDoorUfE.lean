/-
  Parts of the proof laid into one text, one behind the other; each says at its head what is proved in it.
-/
import Derived.Test.YteboaiklibaomaaGreatDoorUfC
import Derived.Test.YteboaiklibaomaaGreatDoorUfD
import Derived.Test.YteboaiklibaomaaGreatDoorCoB
import Derived.Test.YteboaiklibaomaaGreatDoorMkB
import Derived.Test.YteboaiklibaomaaGreatDoorHjE
/-
  The program's unfuseBlock: the operations of a block taken apart, in rows of their own, apart from one another; nothing that was there is turned.
-/
namespace Go.Proofs.YteboaiklibaomaaGreatDoor
open Go.RowKit Go.Extern.Stop Go.Stop Go.Extern Num Go.Lib

theorem apartO_append {P N : List (Opr × Value)} (hp : apartO P) (hn : apartO N) (hx : ∀ (i k : Nat) (hi : i < P.length) (hk : k < N.length), farV P[i].2 N[k].2) : apartO (P ++ N) := by
  intro i j hi hj hne
  rw [List.length_append] at hi hj
  by_cases a : i < P.length <;> by_cases c : j < P.length
  · rw [List.getElem_append_left a, List.getElem_append_left c]; exact hp i j a c hne
  · rw [List.getElem_append_left a, List.getElem_append_right (by omega)]
    exact hx i (j - P.length) a (by omega)
  · rw [List.getElem_append_right (by omega), List.getElem_append_left c]
    intro g h1 h2
    exact hx j (i - P.length) c (by omega) g h2 h1
  · rw [List.getElem_append_right (by omega), List.getElem_append_right (by omega)]
    exact hn _ _ _ _ (by omega)
theorem apartO_one (x : Opr × Value) : apartO [x] := fun i j hi hj hne => by simp at hi hj; omega
theorem apartO_two {x y : Opr × Value} (h : farV x.2 y.2) : apartO [x, y] := fun i j hi hj hne => by
  simp at hi hj
  match i, j with
  | 0, 0 => exact absurd rfl hne
  | 0, 1 => exact h
  | 1, 0 => exact fun g h1 h2 => h g h2 h1
  | 1, 1 => exact absurd rfl hne
  | _ + 2, _ => omega
  | 0, _ + 2 => omega
  | 1, _ + 2 => omega
theorem apartO_turn {Q : List Int} {P : List (Opr × Value)} (h : apartO P) : apartO (turnP Q P) := by
  intro i j hi hj hne
  rw [turnP_len] at hi hj
  have e : ∀ (k : Nat) (hk : k < P.length), ((turnP Q P)[k]'(by rw [turnP_len]; exact hk)).2 = P[k].2 := fun k hk => by simp [turnP]
  rw [e i hi, e j hj]
  exact h i j hi hj hne
theorem split_fine {n : Nat} (t : Opr) (hf : fine1 n t) (hk : 12 < t.kind) (ao : Option Addr) (cap B : Nat) : ∃ s1 s2, splitO t = [s1, s2] ∧ ∀ (w : World), w.ownsRow B 133 4 (.slice ao t.data.length cap) t.data.length (cellsD t.data) → Calls Tryz.prog 60 #[fusV (fusK t.kind), t.val (.slice ao t.data.length cap)] w fun e w' => ∃ v v2, e = .returned (.tuple #[s1.val v, s2.val v2]) ∧ w'.ownsRow (w.heap.size + 4) 133 4 v s1.data.length (cellsD s1.data) ∧ w'.ownsRow (w.heap.size + 4) 133 4 v2 s2.data.length (cellsD s2.data) ∧ farV v v2 ∧ Below w.heap.size w w' := by
  have hb := opBnd hf.1
  have hs := hf.2.2
  obtain ⟨he, hT, -⟩ := fault_parts hf.1
  have hk2 := hb.k2
  obtain k | k | k | k : t.kind = 13 ∨ t.kind = 14 ∨ t.kind = 15 ∨ t.kind = 16 := by omega
  · have hn := nums_of he 0 (by rw [k]; rfl)
    simp [numsL] at hn
    obtain ⟨z1, z2, z3, z4⟩ := hn
    refine ⟨opK 1 0 0 0 0 t.data, opK 12 0 0 0 0 [], by unfold splitO; rw [if_pos k], fun w ho => ?_⟩
    have h := split_1 1 12 13 t ao cap B w hs ho
    rw [z1, z2, z3, z4] at h
    rw [show fusV (fusK t.kind) = .agg #[.int .i64 1, .int .i64 1, .int .i64 12, .int .i64 13] by rw [k]; rfl]
    exact h
  all_goals
    have hd : t.data = [] := by
      unfold extraT at hT
      rw [k] at hT
      simp [namedO, constO] at hT
      exact hT.2
  · have hn := nums_of he 2 (by rw [k]; rfl)
    simp [numsL] at hn
    obtain ⟨z3, z4⟩ := hn
    refine ⟨opK 2 t.a t.b 0 0 [], opK 12 0 0 0 0 [], by unfold splitO; rw [if_neg (by omega), if_pos k], fun w ho => ?_⟩
    have h := split_2 2 12 14 t ao cap B w hs ho
    rw [z3, z4] at h
    rw [show fusV (fusK t.kind) = .agg #[.int .i64 2, .int .i64 2, .int .i64 12, .int .i64 14] by rw [k]; rfl]
    rw [hd] at h ⊢
    exact h
  · refine ⟨opK 2 t.a t.b 0 0 [], opK 2 t.c t.d 0 0 [], by unfold splitO; rw [if_neg (by omega), if_neg (by omega), if_pos k], fun w ho => ?_⟩
    have h := split_2 4 2 15 t ao cap B w hs ho
    rw [show fusV (fusK t.kind) = .agg #[.int .i64 4, .int .i64 2, .int .i64 2, .int .i64 15] by rw [k]; rfl]
    rw [hd] at h ⊢
    exact h
  · have hn := nums_of he 3 (by rw [k]; rfl)
    simp [numsL] at hn
    refine ⟨opK 2 t.a t.b 0 0 [], opK 6 t.c 0 0 0 [], by unfold splitO; rw [if_neg (by omega), if_neg (by omega), if_neg (by omega), if_pos k], fun w ho => ?_⟩
    have h := split_2 8 6 16 t ao cap B w hs ho
    rw [hn] at h
    rw [show fusV (fusK t.kind) = .agg #[.int .i64 8, .int .i64 2, .int .i64 6, .int .i64 16] by rw [k]; rfl]
    rw [hd] at h ⊢
    exact h
theorem fusK_lt {n : Nat} {t : Opr} (hf : fine1 n t) : decide (fusK t.kind < 4) = decide (12 < t.kind) := by
  have hk2 := (opBnd hf.1).k2
  by_cases h : 12 < t.kind
  · obtain k | k | k | k : t.kind = 13 ∨ t.kind = 14 ∨ t.kind = 15 ∨ t.kind = 16 := by omega
    all_goals rw [k]; rfl
  · have e : fusK t.kind = 4 := by unfold fusK; rw [if_neg (by omega), if_neg (by omega), if_neg (by omega), if_neg (by omega)]
    rw [e]; simp; omega
theorem splitO_one {t : Opr} (h : ¬ 12 < t.kind) : splitO t = [t] := by
  unfold splitO; rw [if_neg (by omega), if_neg (by omega), if_neg (by omega), if_neg (by omega)]
theorem bcellB {B : Nat} {W w1 : World} (hb : Below B W w1) : (∀ b o, b < B → w1.cell? ⟨b, o, none⟩ = W.cell? ⟨b, o, none⟩) ∧ (∀ b o, b < B → w1.frozen? ⟨b, o, none⟩ = W.frozen? ⟨b, o, none⟩) :=
  ⟨fun b o h => hb.cell (p := ⟨b, o, none⟩) h, fun b o h => hb.frozen (p := ⟨b, o, none⟩) h⟩
def AnsUb (b : Blk) (l' : List Opr) (w : World) (e : Ending) (w' : World) : Prop := ∃ v P, e = .returned (.agg #[.int .i64 b.args, v]) ∧ OV w' w.heap.size v P ∧ P.map Prod.fst = l' ∧ apartO P ∧ Below w.heap.size w w'
/-- What unfuseBlock keeps from round to round. -/
structure UbS (W : World) (B rb : Nat) (M : List (Opr × Value)) (Q : List Int) (u : World) : Prop where
  rbat : RbAt u B rb M Q
  fz : ∀ j, u.frozen? ⟨rb, j, none⟩ = false
  ap : apartO M
  below : Below rb W u
theorem UbS.next {W u X u' : World} {B rb : Nat} {M N : List (Opr × Value)} {Q : List Int} (h : UbS W B rb M Q u) (hX : Below u.heap.size u X) (hrb : rb ≤ u.heap.size) (hr : RbAt u' B rb (M ++ N) (Q ++ List.replicate 1 (M.length : Int))) (hf : ∀ j, u'.frozen? ⟨rb, j, none⟩ = false) (hb : Below rb X u') (hN : apartO N) (hd : ∀ (k : Nat) (hk : k < N.length) (g : Nat), N[k].2.ownBlock = some g → u.heap.size ≤ g) : UbS W B rb (M ++ N) (Q ++ List.replicate 1 (M.length : Int)) u' := by
  refine ⟨hr, hf, apartO_append h.ap hN (fun i k hi hk g h1 h2 => ?_), (h.below.trans (hX.mono hrb)).trans hb⟩
  obtain ⟨v, -, hov⟩ := h.rbat.ops
  have a := (hov.data i hi).lt g h1
  have c := hd k hk g h2
  omega
set_option maxRecDepth 100000 in
set_option maxHeartbeats 2000000 in
theorem unfuseBlock_any (b : Blk) (gk B : Nat) (w : World) (hb : FineB b) (hO : RowOp w B gk b.ops) (hF : FU w) :
    Calls Tryz.prog 36 #[b.val (.slice (some ⟨gk, 0, none⟩) b.ops.length b.ops.length)] w fun e w' => AnsUb b (unfO b.ops) w e w' := by
  obtain ⟨W, hW⟩ : ∃ W, W = (((w.alloc (.cells #[.int .i64 b.args, .slice (some ⟨gk, 0, none⟩) b.ops.length b.ops.length] 51)).alloc (.cells #[.int .i64 0, .slice none 0 0] 51)).alloc (.cells #[.slice none 0 0, .slice none 0 0] 83)) := ⟨_, rfl⟩
  have HW : Hid (W = (((w.alloc (.cells #[.int .i64 b.args, .slice (some ⟨gk, 0, none⟩) b.ops.length b.ops.length] 51)).alloc (.cells #[.int .i64 0, .slice none 0 0] 51)).alloc (.cells #[.slice none 0 0, .slice none 0 0] 83))) := hW
  have hb0 : Below w.heap.size w W := by rw [hW]; exact (((Below.refl _ _).alloc (Nat.le_refl _) _).alloc (by simp) _).alloc (by simp; omega) _
  have HB0 : Hid (Below w.heap.size w W) := hb0
  have HWs : Hid (W.heap.size = w.heap.size + 3) := by show _ = _; rw [hW]; simp
  have a0 : W.cell? ⟨w.heap.size, 0, none⟩ = some (.int .i64 b.args) := by rw [hW]; simp [go_sem]
  have a1 : W.cell? ⟨w.heap.size, 1, none⟩ = some (.slice (some ⟨gk, 0, none⟩) b.ops.length b.ops.length) := by rw [hW]; simp [go_sem]
  have z0 : W.cell? ⟨w.heap.size + 1, 0, none⟩ = some (.int .i64 0) := by rw [hW]; simp [go_sem]
  have z1 : W.cell? ⟨w.heap.size + 1, 1, none⟩ = some (.slice none 0 0) := by rw [hW]; simp [go_sem]
  have zf : ∀ j, W.frozen? ⟨w.heap.size + 1, j, none⟩ = false := fun j => by rw [hW]; simp [go_sem]
  have HK : Hid (∀ u, Below (w.heap.size + 2) W u → u.cell? ⟨w.heap.size, 0, none⟩ = some (.int .i64 b.args) ∧ u.cell? ⟨w.heap.size + 1, 0, none⟩ = some (.int .i64 0) ∧ u.cell? ⟨w.heap.size + 1, 1, none⟩ = some (.slice none 0 0) ∧ (∀ j, u.frozen? ⟨w.heap.size + 1, j, none⟩ = false)) := fun u hu => by
    obtain ⟨hc, hf⟩ := bcellB hu
    exact ⟨by rw [hc _ _ (by omega)]; exact a0, by rw [hc _ _ (by omega)]; exact z0, by rw [hc _ _ (by omega)]; exact z1, fun j => by rw [hf _ _ (by omega)]; exact zf j⟩
  have HS0 : Hid (UbS W (w.heap.size + 3) (w.heap.size + 2) [] [] W) := by
    refine ⟨⟨⟨.slice none 0 0, by rw [hW]; simp [go_sem], ⟨⟨rfl, .inl ⟨rfl, rfl⟩⟩, fun i hi => by simp at hi⟩⟩, ⟨none, 0, by rw [hW]; simp [go_sem], ⟨rfl, .inl ⟨rfl, rfl⟩⟩⟩⟩, fun j => by rw [hW]; simp [go_sem], fun i j hi => by simp at hi, Below.refl _ _⟩
  have HBu : Hid (∀ u, Below (w.heap.size + 2) W u → Below w.heap.size w u) := fun u hu => hb0.trans (hu.mono (by omega))
  have HO : Hid (∀ u, Below w.heap.size w u → RowOp u B gk b.ops) := fun u hu => hO.below hu
  have HFI : Hid (∀ (k : Int) (u : World), Below w.heap.size w u → Calls Tryz.prog 38 #[.int .i64 k] u fun e w' => e = .returned (.tuple #[fusV (fusK k), .bool (decide (fusK k < 4))]) ∧ Below u.heap.size u w') := fun k u hu => fusionInto_any k u (hF.below hu)
  have HFn : Hid (∀ t ∈ b.ops, fine1 b.ops.length t) := hb.ops
  have hl := hb.len
  have HI : Hid (∀ k, k ≤ b.ops.length → FInv b.ops 2 (unfS b.ops k) ∧ (unfS b.ops k).2.length = k) := fun k hk => unfS_inv hb.ops k hk
  clear hW hb0 a0 z0 z1 zf hO hF hb
  go_enter Tryz.func36, Tryz.ntmps36
  go_wp2_with fail
  rw [← HW.out]
  clear HW
  go_loopw [13] (fun i wr => ∃ (j : Nat) (M : List (Opr × Value)) (Q : List Int), j ≤ b.ops.length ∧ i = .int .i64 (j : Int) ∧ Hid (UbS W (w.heap.size + 3) (w.heap.size + 2) M Q wr) ∧ Hid ((unfS b.ops j).1 = M.map Prod.fst ∧ (unfS b.ops j).2 = Q)) (fun i _ => b.ops.length - (RowKit.intOf i).toNat)
  case atStart => exact ⟨0, [], [], Nat.zero_le _, rfl, HS0.out, ⟨rfl, rfl⟩⟩
  case round =>
    obtain ⟨j, M, Q, hj, rfl, HS, HU⟩ := hrel
    have HBw : Hid (Below w.heap.size w wr) := HBu.out _ HS.out.below
    have hws : w.heap.size + 3 ≤ wr.heap.size := by have := HS.out.below.size; have := HWs.out; omega
    have hib := HI.out j hj
    have hMl : M.length ≤ 400 := by have h1 := hib.1.news; rw [HU.out.1, hib.2] at h1; simp at h1; omega
    have HQj : Hid (Q.length = j) := by show _ = _; rw [← HU.out.2]; exact hib.2
    have hQl : Q.length ≤ 200 := by rw [HQj.out]; omega
    by_cases hlt : j < b.ops.length
    · obtain ⟨e0, e1, e2, e3, e4, e5, gy, e6, hdy⟩ := HO.out wr HBw.out j hlt
      have hfn := HFn.out _ (List.getElem_mem hlt)
      obtain ⟨t, ht⟩ : ∃ t, t = b.ops[j]'hlt := ⟨_, rfl⟩
      rw [← ht] at e0 e1 e2 e3 e4 e5 e6 hdy hfn
      have HUn : Hid (unfS b.ops (j + 1) = putF (unfS b.ops j) 1 (splitO t)) := by show _ = _; rw [unfS_succ hlt, ht]
      have HD : Hid (∀ u, Below wr.heap.size wr u → u.ownsRow B 133 4 (.slice (some ⟨gy, 0, none⟩) t.data.length t.data.length) t.data.length (cellsD t.data)) := fun u hu => own_below hdy hu
      have hlk := fusK_lt hfn
      obtain ⟨x0, x1, x2, x3, hx⟩ : ∃ x0 x1 x2 x3 : Int, fusV (fusK t.kind) = .agg #[.int .i64 x0, .int .i64 x1, .int .i64 x2, .int .i64 x3] := ⟨_, _, _, _, rfl⟩
      have HFt0 : Hid (∀ u, Below wr.heap.size wr u → Calls Tryz.prog 38 #[.int .i64 t.kind] u fun e w' => e = .returned (.tuple #[.agg #[.int .i64 x0, .int .i64 x1, .int .i64 x2, .int .i64 x3], .bool (decide (12 < t.kind))]) ∧ Below u.heap.size u w') := fun u hu => by rw [← hx, ← hlk]; exact HFI.out t.kind u (HBw.out.trans (hu.mono HBw.out.size))
      have HEnd : Hid (∀ (N : List (Opr × Value)) (X u' : World), N.map Prod.fst = splitO t → Below wr.heap.size wr X → RbAt u' (w.heap.size + 3) (w.heap.size + 2) (M ++ N) (Q ++ List.replicate 1 (M.length : Int)) → (∀ j, u'.frozen? ⟨w.heap.size + 2, j, none⟩ = false) → Below (w.heap.size + 2) X u' → apartO N → (∀ (k : Nat) (hk : k < N.length) (g : Nat), N[k].2.ownBlock = some g → wr.heap.size ≤ g) → ∃ (M' : List (Opr × Value)) (Q' : List Int), UbS W (w.heap.size + 3) (w.heap.size + 2) M' Q' u' ∧ (unfS b.ops (j + 1)).1 = M'.map Prod.fst ∧ (unfS b.ops (j + 1)).2 = Q') := fun N X u' h1 h2 h3 h4 h5 h6 h7 => by
        refine ⟨_, _, HS.out.next h2 (by omega) h3 h4 h5 h6 h7, ?_, ?_⟩
        · rw [HUn.out, List.map_append, h1]
          show (unfS b.ops j).1 ++ splitO t = _
          rw [HU.out.1]
        · rw [HUn.out]
          show (unfS b.ops j).2 ++ List.replicate 1 ((unfS b.ops j).1.length : Int) = _
          rw [HU.out.2, HU.out.1]; simp
      have HRb : Hid (∀ u, Below wr.heap.size wr u → RbAt u (w.heap.size + 3) (w.heap.size + 2) M Q ∧ ∀ j, u.frozen? ⟨w.heap.size + 2, j, none⟩ = false) := fun u hu => ⟨HS.out.rbat.below hu, fun j => by rw [(bcell hu).2 _ _ (by omega)]; exact HS.out.fz j⟩
      by_cases hk : 12 < t.kind
      · obtain ⟨s1, s2, hse, hsp⟩ := split_fine t hfn hk (some ⟨gy, 0, none⟩) t.data.length B
        rw [hx] at hsp
        have HFt : Hid (∀ u, Below wr.heap.size wr u → Calls Tryz.prog 38 #[.int .i64 t.kind] u fun e w' => e = .returned (.tuple #[.agg #[.int .i64 x0, .int .i64 x1, .int .i64 x2, .int .i64 x3], .bool true]) ∧ Below u.heap.size u w') := fun u hu => by have := HFt0.out u hu; rw [decide_eq_true hk] at this; exact this
        have HSp : Hid (∀ u, Below wr.heap.size wr u → Calls Tryz.prog 60 #[.agg #[.int .i64 x0, .int .i64 x1, .int .i64 x2, .int .i64 x3], t.val (.slice (some ⟨gy, 0, none⟩) t.data.length t.data.length)] u fun e w' => ∃ v v2, e = .returned (.tuple #[s1.val v, s2.val v2]) ∧ w'.ownsRow (u.heap.size + 4) 133 4 v s1.data.length (cellsD s1.data) ∧ w'.ownsRow (u.heap.size + 4) 133 4 v2 s2.data.length (cellsD s2.data) ∧ farV v v2 ∧ Below u.heap.size u w') := fun u hu => hsp u (HD.out u hu)
        have HSe : Hid (splitO t = [s1, s2]) := hse
        clear hse hsp hk HFt0 hx hlk hfn ht hdy hib HD
        go_wp2_with fail
        refine (HFt.out _ (bnewK _ _)).mono ?_
        rintro e w1 ⟨rfl, b1⟩
        obtain ⟨hc, hf⟩ := bcell b1
        have p0 : w1.cell? ⟨wr.heap.size, 0, none⟩ = some (.int .i64 t.kind) := by rw [hc _ _ (by simp)]; simp [go_sem]
        have p1 : w1.cell? ⟨wr.heap.size, 1, none⟩ = some (.int .i64 t.a) := by rw [hc _ _ (by simp)]; simp [go_sem]
        have p2 : w1.cell? ⟨wr.heap.size, 2, none⟩ = some (.int .i64 t.b) := by rw [hc _ _ (by simp)]; simp [go_sem]
        have p3 : w1.cell? ⟨wr.heap.size, 3, none⟩ = some (.int .i64 t.c) := by rw [hc _ _ (by simp)]; simp [go_sem]
        have p4 : w1.cell? ⟨wr.heap.size, 4, none⟩ = some (.int .i64 t.d) := by rw [hc _ _ (by simp)]; simp [go_sem]
        have p5 : w1.cell? ⟨wr.heap.size, 5, none⟩ = some (.string t.name) := by rw [hc _ _ (by simp)]; simp [go_sem]
        have p6 : w1.cell? ⟨wr.heap.size, 6, none⟩ = some (.slice (some ⟨gy, 0, none⟩) t.data.length t.data.length) := by rw [hc _ _ (by simp)]; simp [go_sem]
        have HB1 : Hid (Below wr.heap.size wr w1) := (bnewK wr _).trans (b1.mono (by simp))
        have hz1 : wr.heap.size < w1.heap.size := by have := b1.size; simp at this; omega
        clear hc hf b1 HFt e0 e1 e2 e3 e4 e5 e6
        go_wp2_with fail
        refine (HSp.out _ (HB1.out.alloc HB1.out.size _)).mono ?_
        rintro e w2 ⟨v1, v2, rfl, o1, o2, hfar, b2⟩
        obtain ⟨a1, c1, rfl⟩ := own_form o1
        obtain ⟨a2, c2, rfl⟩ := own_form o2
        have HB2 : Hid (Below wr.heap.size wr w2) := (HB1.out.alloc HB1.out.size _).trans (b2.mono (by simp; omega))
        have HO1 : Hid (w2.ownsRow wr.heap.size 133 4 (.slice a1 s1.data.length c1) s1.data.length (cellsD s1.data)) := own_base o1 (by simp; omega)
        have HO2 : Hid (w2.ownsRow wr.heap.size 133 4 (.slice a2 s2.data.length c2) s2.data.length (cellsD s2.data)) := own_base o2 (by simp; omega)
        have HFa : Hid (farV (.slice a1 s1.data.length c1) (.slice a2 s2.data.length c2)) := hfar
        have hz2 : wr.heap.size < w2.heap.size := by have := b2.size; simp at this; omega
        clear b2 o1 o2 hfar HSp p0 p1 p2 p3 p4 p5 p6
        go_wp2_with fail
        obtain ⟨X, hX⟩ : ∃ X, X = ((w2.alloc (.cells #[.int .i64 s1.kind, .int .i64 s1.a, .int .i64 s1.b, .int .i64 s1.c, .int .i64 s1.d, .string s1.name, .slice a1 s1.data.length c1] 66)).alloc (.cells #[.int .i64 s2.kind, .int .i64 s2.a, .int .i64 s2.b, .int .i64 s2.c, .int .i64 s2.d, .string s2.name, .slice a2 s2.data.length c2] 66)).alloc (.cells #[.int .i64 s1.kind, .int .i64 s1.a, .int .i64 s1.b, .int .i64 s1.c, .int .i64 s1.d, .string s1.name, .slice a1 s1.data.length c1, .int .i64 s2.kind, .int .i64 s2.a, .int .i64 s2.b, .int .i64 s2.c, .int .i64 s2.d, .string s2.name, .slice a2 s2.data.length c2] 66) := ⟨_, rfl⟩
        have hb2X : Below w2.heap.size w2 X := by rw [hX]; exact (((Below.refl _ _).alloc (Nat.le_refl _) _).alloc (by simp) _).alloc (by simp; omega) _
        have HBX : Hid (Below wr.heap.size wr X) := HB2.out.trans (hb2X.mono HB2.out.size)
        have hXr : X.ownsRow (w.heap.size + 3) 66 7 (.slice (some ⟨w2.heap.size + 2, 0, none⟩) 2 2) 2 (cellsOp [(s1, .slice a1 s1.data.length c1), (s2, .slice a2 s2.data.length c2)]) := by
          rw [hX]; exact ownNewO _ _ _ 2 _ (by simp) (by omega) (by omega) (by rfl)
        have hXd : ∀ (i : Nat) (h : i < [(s1, Value.slice a1 s1.data.length c1), (s2, Value.slice a2 s2.data.length c2)].length), X.ownsRow (w.heap.size + 3) 133 4 ([(s1, Value.slice a1 s1.data.length c1), (s2, Value.slice a2 s2.data.length c2)][i]).2 ([(s1, Value.slice a1 s1.data.length c1), (s2, Value.slice a2 s2.data.length c2)][i]).1.data.length (cellsD ([(s1, Value.slice a1 s1.data.length c1), (s2, Value.slice a2 s2.data.length c2)][i]).1.data) := fun i h => by
          match i, h with
          | 0, _ => exact own_base (own_below HO1.out hb2X) (by omega)
          | 1, _ => exact own_base (own_below HO2.out hb2X) (by omega)
          | _ + 2, h => exact absurd h (by simp)
        rw [← hX]
        have hXs : w.heap.size + 3 ≤ X.heap.size := by have := hb2X.size; omega
        clear hX
        refine (put_any 1 M [(s1, .slice a1 s1.data.length c1), (s2, .slice a2 s2.data.length c2)] Q (w.heap.size + 3) (w.heap.size + 2) (w2.heap.size + 2) X (by omega) (by simp) (by simp) (by omega) (by omega) (by omega) hXs (HRb.out _ HBX.out).1 (HRb.out _ HBX.out).2 hXr hXd (cellsOp_one' _ (fun x hx => by simp at hx; rcases hx with rfl | rfl <;> rfl))).mono ?_
        rintro e w4 ⟨rfl, hR4, hF4, b4⟩
        obtain ⟨M', Q', hn1, hn2, hn3⟩ := HEnd.out _ X w4 (by rw [HSe.out]; rfl) HBX.out hR4 hF4 b4 (apartO_two HFa.out) (fun k hk g hg => by
          match k, hk, hg with
          | 0, _, hg => exact (HO1.out.lt g hg).1
          | 1, _, hg => exact (HO2.out.lt g hg).1
          | _ + 2, hk, _ => exact absurd hk (by simp))
        have HN1 : Hid (UbS W (w.heap.size + 3) (w.heap.size + 2) M' Q' w4) := hn1
        have HN2 : Hid ((unfS b.ops (j + 1)).1 = M'.map Prod.fst ∧ (unfS b.ops (j + 1)).2 = Q') := ⟨hn2, hn3⟩
        clear hn1 hn2 hn3 hR4 hF4 b4 hXr hXd hb2X HEnd HRb
        go_wp2
        exact ⟨⟨j + 1, M', Q', by omega, by go_num, HN1.out, HN2.out⟩, by simp [RowKit.intOf]; omega⟩
      · have HFt : Hid (∀ u, Below wr.heap.size wr u → Calls Tryz.prog 38 #[.int .i64 t.kind] u fun e w' => e = .returned (.tuple #[.agg #[.int .i64 x0, .int .i64 x1, .int .i64 x2, .int .i64 x3], .bool false]) ∧ Below u.heap.size u w') := fun u hu => by have := HFt0.out u hu; rw [decide_eq_false hk] at this; exact this
        have HCo : Hid (∀ u, Below wr.heap.size wr u → Calls Tryz.prog 52 #[t.val (.slice (some ⟨gy, 0, none⟩) t.data.length t.data.length)] u fun e w' => ∃ v, e = .returned (t.val v) ∧ w'.ownsRow (u.heap.size + 2) 133 4 v t.data.length (cellsD t.data) ∧ Below u.heap.size u w') := fun u hu => copyOp_any t (some ⟨gy, 0, none⟩) t.data.length B u hfn.2.2 (HD.out u hu)
        have HSe : Hid (splitO t = [t]) := splitO_one hk
        clear hk HFt0 hx hlk hfn ht hdy hib HD
        go_wp2_with fail
        refine (HFt.out _ (bnewK _ _)).mono ?_
        rintro e w1 ⟨rfl, b1⟩
        obtain ⟨hc, hf⟩ := bcell b1
        have p0 : w1.cell? ⟨wr.heap.size, 0, none⟩ = some (.int .i64 t.kind) := by rw [hc _ _ (by simp)]; simp [go_sem]
        have p1 : w1.cell? ⟨wr.heap.size, 1, none⟩ = some (.int .i64 t.a) := by rw [hc _ _ (by simp)]; simp [go_sem]
        have p2 : w1.cell? ⟨wr.heap.size, 2, none⟩ = some (.int .i64 t.b) := by rw [hc _ _ (by simp)]; simp [go_sem]
        have p3 : w1.cell? ⟨wr.heap.size, 3, none⟩ = some (.int .i64 t.c) := by rw [hc _ _ (by simp)]; simp [go_sem]
        have p4 : w1.cell? ⟨wr.heap.size, 4, none⟩ = some (.int .i64 t.d) := by rw [hc _ _ (by simp)]; simp [go_sem]
        have p5 : w1.cell? ⟨wr.heap.size, 5, none⟩ = some (.string t.name) := by rw [hc _ _ (by simp)]; simp [go_sem]
        have p6 : w1.cell? ⟨wr.heap.size, 6, none⟩ = some (.slice (some ⟨gy, 0, none⟩) t.data.length t.data.length) := by rw [hc _ _ (by simp)]; simp [go_sem]
        have HB1 : Hid (Below wr.heap.size wr w1) := (bnewK wr _).trans (b1.mono (by simp))
        have hz1 : wr.heap.size < w1.heap.size := by have := b1.size; simp at this; omega
        clear hc hf b1 HFt e0 e1 e2 e3 e4 e5 e6
        go_wp2_with fail
        refine (HCo.out _ (HB1.out.alloc HB1.out.size _)).mono ?_
        rintro e w2 ⟨v1, rfl, o1, b2⟩
        obtain ⟨a1, c1, rfl⟩ := own_form o1
        have HB2 : Hid (Below wr.heap.size wr w2) := (HB1.out.alloc HB1.out.size _).trans (b2.mono (by simp; omega))
        have HO1 : Hid (w2.ownsRow wr.heap.size 133 4 (.slice a1 t.data.length c1) t.data.length (cellsD t.data)) := own_base o1 (by simp; omega)
        have hz2 : wr.heap.size < w2.heap.size := by have := b2.size; simp at this; omega
        clear b2 o1 HCo p0 p1 p2 p3 p4 p5 p6
        go_wp2_with fail
        obtain ⟨X, hX⟩ : ∃ X, X = w2.alloc (.cells #[.int .i64 t.kind, .int .i64 t.a, .int .i64 t.b, .int .i64 t.c, .int .i64 t.d, .string t.name, .slice a1 t.data.length c1] 66) := ⟨_, rfl⟩
        have hb2X : Below w2.heap.size w2 X := by rw [hX]; exact bnewK _ _
        have HBX : Hid (Below wr.heap.size wr X) := HB2.out.trans (hb2X.mono HB2.out.size)
        have hXr : X.ownsRow (w.heap.size + 3) 66 7 (.slice (some ⟨w2.heap.size, 0, none⟩) 1 1) 1 (cellsOp [(t, .slice a1 t.data.length c1)]) := by
          rw [hX]; exact ownNewO _ _ _ 1 _ rfl (by omega) (by omega) (by rfl)
        have hXd : ∀ (i : Nat) (h : i < [(t, Value.slice a1 t.data.length c1)].length), X.ownsRow (w.heap.size + 3) 133 4 ([(t, Value.slice a1 t.data.length c1)][i]).2 ([(t, Value.slice a1 t.data.length c1)][i]).1.data.length (cellsD ([(t, Value.slice a1 t.data.length c1)][i]).1.data) := fun i h => by
          match i, h with
          | 0, _ => exact own_base (own_below HO1.out hb2X) (by omega)
          | _ + 1, h => exact absurd h (by simp)
        rw [← hX]
        have hXs : w.heap.size + 3 ≤ X.heap.size := by have := hb2X.size; omega
        clear hX
        refine (put_any 1 M [(t, .slice a1 t.data.length c1)] Q (w.heap.size + 3) (w.heap.size + 2) w2.heap.size X (by omega) (by simp) (by simp) (by omega) (by omega) (by omega) hXs (HRb.out _ HBX.out).1 (HRb.out _ HBX.out).2 hXr hXd (cellsOp_one' _ (fun x hx => by simp at hx; subst hx; rfl))).mono ?_
        rintro e w4 ⟨rfl, hR4, hF4, b4⟩
        obtain ⟨M', Q', hn1, hn2, hn3⟩ := HEnd.out _ X w4 (by rw [HSe.out]; rfl) HBX.out hR4 hF4 b4 (apartO_one _) (fun k hk g hg => by
          match k, hk, hg with
          | 0, _, hg => exact (HO1.out.lt g hg).1
          | _ + 1, hk, _ => exact absurd hk (by simp))
        have HN1 : Hid (UbS W (w.heap.size + 3) (w.heap.size + 2) M' Q' w4) := hn1
        have HN2 : Hid ((unfS b.ops (j + 1)).1 = M'.map Prod.fst ∧ (unfS b.ops (j + 1)).2 = Q') := ⟨hn2, hn3⟩
        clear hn1 hn2 hn3 hR4 hF4 b4 hXr hXd hb2X HEnd HRb
        go_wp2
        exact ⟨⟨j + 1, M', Q', by omega, by go_num, HN1.out, HN2.out⟩, by simp [RowKit.intOf]; omega⟩
    · have hje : j = b.ops.length := by omega
      have HTg : Hid (∀ x ∈ M, hasT x.1 = true → 0 ≤ tgtO x.1 ∧ tgtO x.1 < (Q.length : Int)) := fun x hx hh => by
        have h1 := hib.1.ops x.1 (by rw [HU.out.1]; exact List.mem_map.2 ⟨x, hx, rfl⟩)
        have := h1.2.1 hh
        have := HQj.out
        omega
      have HBk : Hid (Calls Tryz.prog 53 #[.pointer (some ⟨w.heap.size + 2, 0, none⟩), .int .i64 b.args] wr fun e w' => ∃ v', e = .returned (.agg #[.int .i64 b.args, v']) ∧ OV w' (w.heap.size + 3) v' (turnP Q M) ∧ (∀ b, v'.ownBlock = some b → wr.heap.size ≤ b) ∧ Below wr.heap.size wr w') := block_any M Q b.args (w.heap.size + 3) (w.heap.size + 2) wr (by omega) (by omega) HS.out.rbat (by omega) HTg.out
      have HE : Hid ((turnP Q M).map Prod.fst = unfO b.ops) := by
        show _ = _
        rw [turnP_fst]
        show _ = ((unfS b.ops b.ops.length).1).map (turnO (unfS b.ops b.ops.length).2)
        rw [← hje, HU.out.1, HU.out.2]
      have HA : Hid (apartO (turnP Q M)) := apartO_turn HS.out.ap
      obtain ⟨q0, q1, q2, qf⟩ := HK.out wr HS.out.below
      have HKu : Hid (∀ u, Below wr.heap.size wr u → u.cell? ⟨w.heap.size + 1, 0, none⟩ = some (.int .i64 0) ∧ u.cell? ⟨w.heap.size + 1, 1, none⟩ = some (.slice none 0 0) ∧ (∀ j, u.frozen? ⟨w.heap.size + 1, j, none⟩ = false)) := fun u hu => ⟨cell_keep hu q1, cell_keep hu q2, fun j => by rw [(bcell hu).2 _ _ (by omega)]; exact qf j⟩
      clear hib HTg hje q1 q2 qf
      go_wp2_with fail
      refine HBk.out.mono ?_
      rintro e w2 ⟨v', rfl, ov, -, b2⟩
      obtain ⟨a2, c2, rfl⟩ := own_form ov.row
      have HO2 : Hid (OV w2 (w.heap.size + 3) (.slice a2 (turnP Q M).length c2) (turnP Q M)) := ov
      obtain ⟨q1, q2, qf⟩ := HKu.out w2 b2
      have HB2 : Hid (Below w.heap.size w w2) := HBw.out.trans (b2.mono HBw.out.size)
      obtain ⟨m, hm⟩ : ∃ m, m = (turnP Q M).length := ⟨_, rfl⟩
      rw [← hm] at HO2 ⊢
      clear ov b2 hm HKu HBk
      go_wp2
      refine bodyPost_ret (v := .agg #[.int .i64 b.args, .slice a2 m c2]) (by simp [results, Tryz.results36, go_sem, q1, q2]) rfl ⟨_, _, rfl, ?_, HE.out, HA.out, ?_⟩
      · exact ((HO2.out.setLow (by omega)).setLow (by omega)).base (by omega)
      · repeat (first | refine Below.setCell ?_ (by simp) _ | exact HB2.out)
end Go.Proofs.YteboaiklibaomaaGreatDoor
/-
  The program's OpFault, blockFault and blocksFault at what it has made itself: slices that are longer than they tell, or none; nothing that was there is turned.
-/
namespace Go.Proofs.YteboaiklibaomaaGreatDoor
open Go.RowKit Go.Extern.Stop Go.Stop Go.Extern Num Go.Lib

set_option maxRecDepth 100000 in
set_option maxHeartbeats 4000000 in
theorem implOFG_any (t : Opr) (ao : Option Addr) (cap B : Nat) (w : World) (ht : t.small) (hd : w.ownsRow B 133 4 (.slice ao t.data.length cap) t.data.length (cellsD t.data)) (hL : LT w) :
    Calls Tryz.prog 88 #[t.val (.slice ao t.data.length cap)] w fun e w' => e = .returned (.int .i64 (opFault t)) ∧ Below w.heap.size w w' := by
  have HSh : Hid (∀ x, Calls Tryz.prog 106 #[.int .i64 t.kind] x fun e w' => e = .returned (.tuple #[shpV (wordO t.kind) (numsO t.kind) (namedO t.kind) (constO t.kind), .bool (inO t.kind)]) ∧ Below x.heap.size x w') := fun x => shapeOf_any t.kind x
  have HFi : Hid (∀ x, Calls Tryz.prog 109 #[shpV (wordO t.kind) (numsO t.kind) (namedO t.kind) (constO t.kind), t.val (.slice ao t.data.length cap)] x fun e w' => e = .returned (.bool (!(extraN t || extraT t))) ∧ Below x.heap.size x w') := fun x => fits_any t _ _ _ x
  have HOp : Hid (∀ x, Calls Tryz.prog 72 #[t.val (.slice ao t.data.length cap)] x fun e w' => e = .returned t.num ∧ Below x.heap.size x w') := fun x => operationOf_any t _ x
  have HIn : Hid (∀ x, Calls Tryz.prog 110 #[.agg #[.int .i64 t.a, .int .i64 t.b, .int .i64 t.c, .int .i64 t.d]] x fun e w' => e = .returned (.bool (!(outO t))) ∧ Below x.heap.size x w') := fun x => areIn_any t.a t.b t.c t.d x
  have HAr : Hid (∀ x, Calls Tryz.prog 111 #[t.num] x fun e w' => e = .returned (.bool (t.kind == 10 || t.kind == 11)) ∧ Below x.heap.size x w') := fun x => hasArgs_any t x
  have HSy : Hid (∀ x, Calls Tryz.prog 112 #[.string t.name] x fun e w' => e = .returned (.bool (symL t.name.data.toList)) ∧ w' = x) := fun x => isSym_any t.name x (by have := ht.name; omega)
  have HDa : Hid (∀ x, Below w.heap.size w x → Calls Tryz.prog 113 #[.slice ao t.data.length cap] x fun e w' => e = .returned (.int .i64 (dataFault t.data)) ∧ Below x.heap.size x w') := fun x hx => implDF_any _ _ B t.data x (own_below hd hx) ht.names (hL.below hx)
  obtain ⟨R, hR⟩ : ∃ R, R = opFault t := ⟨_, rfl⟩
  rw [← hR]
  have HR : Hid (R = opFault t) := hR
  clear hR ht hd hL
  obtain ⟨sw, hsw⟩ : ∃ sw, sw = wordO t.kind := ⟨_, rfl⟩
  obtain ⟨n, hn⟩ : ∃ n, n = numsO t.kind := ⟨_, rfl⟩
  obtain ⟨na, hna⟩ : ∃ na, na = namedO t.kind := ⟨_, rfl⟩
  obtain ⟨co, hco⟩ : ∃ co, co = constO t.kind := ⟨_, rfl⟩
  obtain ⟨ok, hok⟩ : ∃ ok, ok = inO t.kind := ⟨_, rfl⟩
  obtain ⟨ff, hff⟩ : ∃ ff, ff = (!(extraN t || extraT t)) := ⟨_, rfl⟩
  rw [← hsw, ← hn, ← hna, ← hco] at HSh HFi
  rw [← hok] at HSh
  rw [← hff] at HFi
  have HK : Hid (R = (if ok then (if ff then (if outO t then 3 else if manyO t then 3 else if na && !(symL t.name.data.toList) then 5 else if co then dataFault t.data else 0) else 1) else 1)) := by
    show _ = _
    rw [HR.out, hok, hff, hna, hco]
    unfold opFault inO
    cases (decide (1 ≤ t.kind) && decide (t.kind ≤ 16))
    · rfl
    · cases extraN t <;> cases extraT t <;> rfl
  clear HR hsw hn hna hco hok hff
  obtain ⟨W, hW⟩ : ∃ W, W = w.alloc (.cells #[.int .i64 t.kind, .int .i64 t.a, .int .i64 t.b, .int .i64 t.c, .int .i64 t.d, .string t.name, .slice ao t.data.length cap] 66) := ⟨_, rfl⟩
  have HW : Hid (W = w.alloc (.cells #[.int .i64 t.kind, .int .i64 t.a, .int .i64 t.b, .int .i64 t.c, .int .i64 t.d, .string t.name, .slice ao t.data.length cap] 66)) := hW
  have HB0 : Hid (Below w.heap.size w W) := by rw [hW]; exact bnew _ _
  have HO0 : Hid (OBx W w.heap.size t (.slice ao t.data.length cap)) := by rw [hW]; exact newO _ _ _ _
  have c0 := HO0.out.c0
  clear hW
  go_enter Tryz.func88, Tryz.ntmps88
  go_wp2_with fail
  rw [← HW.out]
  refine (HSh.out _).mono ?_
  rintro e w1 ⟨rfl, b1⟩
  have HB1 : Hid (Below w.heap.size w w1) := HB0.out.trans (b1.mono HB0.out.size)
  have HO1 : Hid (OBx w1 w.heap.size t (.slice ao t.data.length cap)) := HO0.out.below b1
  clear b1 c0 HB0 HO0 HW HSh
  cases ok
  · go_wp2
    go_ret
    exact ⟨by rw [show R = _ from HK.out]; rfl, HB1.out.alloc HB1.out.size _⟩
  have HK1 : Hid (R = (if ff then (if outO t then 3 else if manyO t then 3 else if na && !(symL t.name.data.toList) then 5 else if co then dataFault t.data else 0) else 1)) := HK.out
  have HO1' : Hid (OBx (w1.alloc (.cells #[.string sw, .int .i64 (n : Int), .bool na, .bool co] 166)) w.heap.size t (.slice ao t.data.length cap)) := HO1.out.below (bnew _ _)
  have HS1' : Hid (SBx (w1.alloc (.cells #[.string sw, .int .i64 (n : Int), .bool na, .bool co] 166)) w1.heap.size sw n na co) := newS _ _ _ _ _ _
  have HB1' : Hid (Below w.heap.size w (w1.alloc (.cells #[.string sw, .int .i64 (n : Int), .bool na, .bool co] 166))) := HB1.out.alloc HB1.out.size _
  clear HK
  have o0 := HO1'.out.c0
  have o1 := HO1'.out.c1
  have o2 := HO1'.out.c2
  have o3 := HO1'.out.c3
  have o4 := HO1'.out.c4
  have o5 := HO1'.out.c5
  have o6 := HO1'.out.c6
  go_wp2_with fail
  clear o0 o1 o2 o3 o4 o5 o6
  generalize w1.alloc (.cells #[.string sw, .int .i64 (n : Int), .bool na, .bool co] 166) = X1 at HO1' HS1' HB1' ⊢
  refine (HFi.out _).mono ?_
  rintro e w2 ⟨rfl, b2⟩
  have HO2 : Hid (OBx w2 w.heap.size t (.slice ao t.data.length cap)) := HO1'.out.below b2
  have HS2 : Hid (SBx w2 w1.heap.size sw n na co) := HS1'.out.below b2
  have HB2 : Hid (Below w.heap.size w w2) := HB1'.out.trans (b2.mono HB1'.out.size)
  clear b2 HO1' HS1' HB1' HO1 HB1 HFi
  cases ff
  · go_wp2
    go_ret
    exact ⟨by rw [show R = _ from HK1.out]; rfl, HB2.out⟩
  have HK2 : Hid (R = (if outO t then 3 else if manyO t then 3 else if na && !(symL t.name.data.toList) then 5 else if co then dataFault t.data else 0)) := HK1.out
  clear HK1
  have o0 := HO2.out.c0
  have o1 := HO2.out.c1
  have o2 := HO2.out.c2
  have o3 := HO2.out.c3
  have o4 := HO2.out.c4
  have o5 := HO2.out.c5
  have o6 := HO2.out.c6
  go_wp2_with fail
  clear o0 o1 o2 o3 o4 o5 o6
  refine (HOp.out _).mono ?_
  rintro e w3 ⟨rfl, b3⟩
  have HO3 : Hid (OBx (w3.alloc (.cells #[.int .i64 t.kind, .string t.name, .int .i64 t.a, .int .i64 t.b, .int .i64 t.c, .int .i64 t.d] 121)) w.heap.size t (.slice ao t.data.length cap)) := (HO2.out.below b3).below (bnew _ _)
  have HS3 : Hid (SBx (w3.alloc (.cells #[.int .i64 t.kind, .string t.name, .int .i64 t.a, .int .i64 t.b, .int .i64 t.c, .int .i64 t.d] 121)) w1.heap.size sw n na co) := (HS2.out.below b3).below (bnew _ _)
  have HB3 : Hid (Below w.heap.size w (w3.alloc (.cells #[.int .i64 t.kind, .string t.name, .int .i64 t.a, .int .i64 t.b, .int .i64 t.c, .int .i64 t.d] 121))) := (HB2.out.trans (b3.mono HB2.out.size)).alloc (Nat.le_trans HB2.out.size b3.size) _
  have HN3 : Hid (NBx (w3.alloc (.cells #[.int .i64 t.kind, .string t.name, .int .i64 t.a, .int .i64 t.b, .int .i64 t.c, .int .i64 t.d] 121)) w3.heap.size t) := newN _ _ _
  clear b3 HO2 HS2 HB2 HOp
  go_wp2_with fail
  generalize w3.alloc (.cells #[.int .i64 t.kind, .string t.name, .int .i64 t.a, .int .i64 t.b, .int .i64 t.c, .int .i64 t.d] 121) = X3 at HO3 HS3 HB3 HN3 ⊢
  refine (HIn.out _).mono ?_
  rintro e w4 ⟨rfl, b4⟩
  have HO4 : Hid (OBx w4 w.heap.size t (.slice ao t.data.length cap)) := HO3.out.below b4
  have HS4 : Hid (SBx w4 w1.heap.size sw n na co) := HS3.out.below b4
  have HB4 : Hid (Below w.heap.size w w4) := HB3.out.trans (b4.mono HB3.out.size)
  have HN4 : Hid (NBx w4 w3.heap.size t) := HN3.out.below b4
  clear b4 HO3 HS3 HB3 HN3 HIn
  obtain ⟨ou, hou⟩ : ∃ ou, ou = outO t := ⟨_, rfl⟩
  rw [← hou] at HK2 ⊢
  clear hou
  cases ou
  case true =>
    go_wp2
    go_ret
    exact ⟨by rw [show R = _ from HK2.out]; rfl, HB4.out⟩
  have HK3 : Hid (R = (if manyO t then 3 else if na && !(symL t.name.data.toList) then 5 else if co then dataFault t.data else 0)) := HK2.out
  clear HK2
  have k0 := HN4.out.c0
  have k1 := HN4.out.c1
  have k2 := HN4.out.c2
  have k3 := HN4.out.c3
  have k4 := HN4.out.c4
  have k5 := HN4.out.c5
  go_wp2_with fail
  clear k0 k1 k2 k3 k4 k5
  refine (HAr.out _).mono ?_
  rintro e w5 ⟨rfl, b5⟩
  have HO5 : Hid (OBx w5 w.heap.size t (.slice ao t.data.length cap)) := HO4.out.below b5
  have HS5 : Hid (SBx w5 w1.heap.size sw n na co) := HS4.out.below b5
  have HB5 : Hid (Below w.heap.size w w5) := HB4.out.trans (b5.mono HB4.out.size)
  have HN5 : Hid (NBx w5 w3.heap.size t) := HN4.out.below b5
  clear b5 HO4 HS4 HB4 HN4 HAr
  have k2 := HN5.out.c2
  have o5 := HO5.out.c5
  have o6 := HO5.out.c6
  have s2 := HS5.out.c2
  have s3 := HS5.out.c3
  have HV : Hid (manyO t = ((t.kind == 10 || t.kind == 11) && decide (3 < t.a))) := rfl
  cases ha : (t.kind == 10 || t.kind == 11) <;> cases h3 : decide (3 < t.a) <;> cases na <;> cases co <;> cases sy : symL t.name.data.toList
  all_goals
    have HV2 : Hid (manyO t = ((t.kind == 10 || t.kind == 11) && decide (3 < t.a))) := HV.out
    rw [ha, h3] at HV2
    rw [show manyO t = _ from HV2.out, sy] at HK3
    first | (have h3p : 3 < t.a := of_decide_eq_true h3) | (have h3p : ¬ (3 < t.a) := of_decide_eq_false h3)
    clear HV HV2 ha h3
    go_wp2_with (first | (go_at_call 112; refine (HSy.out _).mono ?_; rintro e w' ⟨rfl, hw'⟩; replace hw' := hw'.symm; subst hw'; rw [sy]) | (go_at_call 113; refine (HDa.out _ HB5.out).mono ?_; rintro e w6 ⟨rfl, b6⟩))
    go_ret
    first | exact ⟨by rw [show R = _ from HK3.out]; rfl, HB5.out⟩ | exact ⟨by rw [show R = _ from HK3.out]; rfl, HB5.out.trans (b6.mono HB5.out.size)⟩
set_option maxRecDepth 100000 in
set_option maxHeartbeats 2000000 in
theorem blockFaultG_any (b : Blk) (ao : Option Addr) (cp : Nat) (w : World) (hs : b.small) (hO : SeeO w (.slice ao b.ops.length cp) b.ops) (hL : LT w) :
    Calls Tryz.prog 61 #[b.val (.slice ao b.ops.length cp)] w fun e w' => e = .returned (.int .i64 (blkFault b)) ∧ Below w.heap.size w w' := by
  obtain ⟨R, hR⟩ : ∃ R, R = blkFault b := ⟨_, rfl⟩
  rw [← hR]
  have hl : b.ops.length ≤ 1048576 := hs.len
  have HBn : Hid (Below w.heap.size w (w.alloc (.cells #[.int .i64 b.args, .slice ao b.ops.length cp] 51))) := bnew _ _
  by_cases ha : b.args < 0
  · have HR : Hid (R = 3) := by show _ = _; rw [hR]; unfold blkFault; rw [if_pos (by simp [ha])]
    clear hR hO
    go_enter Tryz.func61, Tryz.ntmps61
    go_wp2
    go_ret
    exact ⟨by rw [HR.out]; rfl, HBn.out⟩
  by_cases hb : 3 < b.args
  · have HR : Hid (R = 3) := by show _ = _; rw [hR]; unfold blkFault; rw [if_pos (by simp [hb])]
    clear hR hO
    go_enter Tryz.func61, Tryz.ntmps61
    go_wp2
    go_ret
    exact ⟨by rw [HR.out]; rfl, HBn.out⟩
  have HR0 : Hid (R = if 200 < b.ops.length then 2 else firstC opFault b.ops) := by show _ = _; rw [hR]; unfold blkFault; rw [if_neg (by simp only [Bool.or_eq_true, decide_eq_true_eq]; omega)]
  clear hR
  by_cases h200 : 200 < b.ops.length
  · have HR : Hid (R = 2) := by show _ = _; rw [HR0.out, if_pos h200]
    clear HR0 hO
    go_enter Tryz.func61, Tryz.ntmps61
    go_wp2
    go_ret
    exact ⟨by rw [HR.out]; rfl, HBn.out⟩
  have HR : Hid (R = firstC opFault b.ops) := by show _ = _; rw [HR0.out, if_neg h200]
  have HO : Hid (SeeO w (.slice ao b.ops.length cp) b.ops) := hO
  have HS : Hid (b.small) := hs
  have HL : Hid (LT w) := hL
  clear HR0 hO hs hL
  go_enter Tryz.func61, Tryz.ntmps61
  go_wp2_with fail
  go_loopw [21] (fun i wr => ∃ j : Nat, j ≤ b.ops.length ∧ i = .int .i64 (j : Int) ∧ Hid (∀ (k : Nat) (h : k < b.ops.length), k < j → opFault b.ops[k] = 0) ∧ Hid (Below w.heap.size w wr)) (fun i _ => b.ops.length - (RowKit.intOf i).toNat)
  case atStart => exact ⟨0, Nat.zero_le _, rfl, fun k _ hk => by omega, HBn.out⟩
  case round =>
    obtain ⟨j, hj, rfl, HJ, HW⟩ := hrel
    by_cases hlt : j < b.ops.length
    · obtain ⟨ao', cp', ev, hrow⟩ := HO.out.below HW.out
      obtain ⟨rfl, rfl⟩ : ao = ao' ∧ cp = cp' := by simp at ev; exact ev
      obtain ⟨B, gk, rfl, hrw⟩ := hrow (by omega)
      have hox := hrw j hlt
      clear ev hrow hrw
      have hsm := HS.out.names j hlt
      obtain ⟨t, ht⟩ : ∃ t, t = b.ops[j]'hlt := ⟨_, rfl⟩
      rw [← ht] at hox hsm
      obtain ⟨c0, c1, c2, c3, c4, c5, ad, cd, c6, hod⟩ := hox
      obtain ⟨c, hc⟩ : ∃ c, c = opFault t := ⟨_, rfl⟩
      have HX : Hid (∀ u, Below wr.heap.size wr u → Calls Tryz.prog 88 #[t.val (.slice ad t.data.length cd)] u fun e w' => e = .returned (.int .i64 c) ∧ Below u.heap.size u w') := fun u hu => by rw [hc]; exact implOFG_any t ad cd B u hsm (own_below hod hu) ((HL.out.below HW.out).below hu)
      have HC : Hid (opFault (b.ops[j]'hlt) = c) := by show _ = _; rw [← ht, hc]
      clear hsm hc ht hod
      by_cases hz : c = 0
      · subst hz
        go_wp2_with (go_at_call 88; refine (HX.out _ (bnew _ _)).mono ?_; rintro e w1 ⟨rfl, b1⟩)
        refine ⟨⟨j + 1, by omega, by go_num, fun k hk hkj => ?_, HW.out.trans (((bnew wr _).trans (b1.mono (by simp))).mono HW.out.size)⟩, by simp [RowKit.intOf]; omega⟩
        by_cases e : k < j
        · exact HJ.out k hk e
        · have : k = j := by omega
          subst this; exact HC.out
      · have hcn : (c != 0) = true := by rw [bne_iff_ne]; exact hz
        have HF : Hid (R = c) := by show _ = _; rw [HR.out, firstC_hit b.ops j hlt HJ.out (by rw [HC.out]; exact hz), HC.out]
        clear hz
        go_wp2_with (go_at_call 88; refine (HX.out _ (bnew _ _)).mono ?_; rintro e w1 ⟨rfl, b1⟩)
        go_ret
        exact ⟨by rw [HF.out]; rfl, HW.out.trans (((bnew wr _).trans (b1.mono (by simp))).mono HW.out.size)⟩
    · have HF : Hid (R = 0) := by
        show _ = _
        rw [HR.out]; exact firstC_none b.ops (fun k hk _ => HJ.out k hk (by omega))
      go_wp2
      go_ret
      exact ⟨by rw [HF.out]; rfl, HW.out⟩
set_option maxRecDepth 100000 in
set_option maxHeartbeats 2000000 in
theorem blocksFaultG_any (ao : Option Addr) (cp : Nat) (l : List Blk) (w : World) (hl : l.length ≤ 1048576) (hz : ∀ (k : Nat) (h : k < l.length), l[k].small) (hB : SeeB w (.slice ao l.length cp) l) (hL : LT w) :
    Calls Tryz.prog 37 #[.slice ao l.length cp] w fun e w' => e = .returned (.int .i64 (codeFault9 l)) ∧ Below w.heap.size w w' := by
  obtain ⟨R, hR⟩ : ∃ R, R = codeFault9 l := ⟨_, rfl⟩
  rw [← hR]
  by_cases h60 : 60 < l.length
  · have HR : Hid (R = 2) := by show _ = _; rw [hR]; unfold codeFault9; rw [if_pos h60]
    clear hR hB hz
    go_enter Tryz.func37, Tryz.ntmps37
    go_wp2
    go_ret
    exact ⟨by rw [HR.out]; rfl, Below.refl _ _⟩
  have HR : Hid (R = firstC blkFault l) := by show _ = _; rw [hR]; unfold codeFault9; rw [if_neg h60]
  have HB : Hid (SeeB w (.slice ao l.length cp) l) := hB
  have HZ : Hid (∀ (k : Nat) (h : k < l.length), l[k].small) := hz
  have HL : Hid (LT w) := hL
  clear hR hB hz hL
  go_enter Tryz.func37, Tryz.ntmps37
  go_wp2_with fail
  go_loopw [11] (fun i wr => ∃ j : Nat, j ≤ l.length ∧ i = .int .i64 (j : Int) ∧ Hid (∀ (k : Nat) (h : k < l.length), k < j → blkFault l[k] = 0) ∧ Hid (Below w.heap.size w wr)) (fun i _ => l.length - (RowKit.intOf i).toNat)
  case atStart => exact ⟨0, Nat.zero_le _, rfl, fun k _ hk => by omega, Below.refl _ _⟩
  case round =>
    obtain ⟨j, hj, rfl, HJ, HW⟩ := hrel
    by_cases hlt : j < l.length
    · obtain ⟨ao', cp', ev, hrow⟩ := HB.out.below HW.out
      obtain ⟨rfl, rfl⟩ : ao = ao' ∧ cp = cp' := by simp at ev; exact ev
      obtain ⟨g, rfl, hrw⟩ := hrow (by omega)
      obtain ⟨p0, vx, p1, ho⟩ := hrw j hlt
      obtain ⟨ax, cx, rfl, -⟩ := id ho
      clear ev hrow hrw
      have hsm := HZ.out j hlt
      obtain ⟨t, ht⟩ : ∃ t, t = l[j]'hlt := ⟨_, rfl⟩
      rw [← ht] at p0 p1 ho hsm
      obtain ⟨c, hc⟩ : ∃ c, c = blkFault t := ⟨_, rfl⟩
      have HX : Hid (∀ u, Below wr.heap.size wr u → Calls Tryz.prog 61 #[t.val (.slice ax t.ops.length cx)] u fun e w' => e = .returned (.int .i64 c) ∧ Below u.heap.size u w') := fun u hu => by rw [hc]; exact blockFaultG_any t ax cx u hsm (ho.below hu) ((HL.out.below HW.out).below hu)
      have HC : Hid (blkFault (l[j]'hlt) = c) := by show _ = _; rw [← ht, hc]
      clear ho hc hsm ht
      by_cases hz : c = 0
      · subst hz
        go_wp2_with (go_at_call 61; refine (HX.out _ (bnew _ _)).mono ?_; rintro e w1 ⟨rfl, b1⟩)
        refine ⟨⟨j + 1, by omega, by go_num, fun k hk hkj => ?_, HW.out.trans (((bnew wr _).trans (b1.mono (by simp))).mono HW.out.size)⟩, by simp [RowKit.intOf]; omega⟩
        by_cases e : k < j
        · exact HJ.out k hk e
        · have : k = j := by omega
          subst this; exact HC.out
      · have hcn : (c != 0) = true := by rw [bne_iff_ne]; exact hz
        have HF : Hid (R = c) := by show _ = _; rw [HR.out, firstC_hit l j hlt HJ.out (by rw [HC.out]; exact hz), HC.out]
        clear hz
        go_wp2_with (go_at_call 61; refine (HX.out _ (bnew _ _)).mono ?_; rintro e w1 ⟨rfl, b1⟩)
        go_ret
        exact ⟨by rw [HF.out]; rfl, HW.out.trans (((bnew wr _).trans (b1.mono (by simp))).mono HW.out.size)⟩
    · have HF : Hid (R = 0) := by
        show _ = _
        rw [HR.out]; exact firstC_none l (fun k hk _ => HJ.out k hk (by omega))
      go_wp2
      go_ret
      exact ⟨by rw [HF.out]; rfl, HW.out⟩
end Go.Proofs.YteboaiklibaomaaGreatDoor
/-
  The program's turnEach at blocks, with unfuseBlock: blocks taken apart, in rows of their own, apart from one another; UnfuseCode; nothing that was there is turned.
-/
namespace Go.Proofs.YteboaiklibaomaaGreatDoor
open Go.RowKit Go.Extern.Stop Go.Stop Go.Extern Num Go.Lib

theorem apartR.snoc {R : List RB} {r : RB} (h : apartR R) (hr : apartO r.P) (hx : ∀ (i : Nat) (hi : i < R.length) (b : Nat), footO R[i].v R[i].P b → ¬ footO r.v r.P b) : apartR (R ++ [r]) := by
  have key : ∀ (i : Nat) (hi : i < (R ++ [r]).length), (i < R.length ∧ ∃ h' : i < R.length, (R ++ [r])[i] = R[i]) ∨ (i = R.length ∧ (R ++ [r])[i] = r) := fun i hi => by
    by_cases q : i < R.length
    · exact .inl ⟨q, q, List.getElem_append_left q⟩
    · have e : i = R.length := by simp at hi; omega
      subst e
      exact .inr ⟨rfl, by simp⟩
  refine ⟨fun i j hi hj hne => ?_, fun i j hi hj hne m n hm hn => ?_, fun i hi => ?_⟩
  · rcases key i hi with ⟨-, a, ea⟩ | ⟨a, ea⟩ <;> rcases key j hj with ⟨-, c, ec⟩ | ⟨c, ec⟩
    · rw [ea, ec]; exact h.rows i j a c hne
    · rw [ea, ec]; exact fun g h1 h2 => hx i a g (.inl h1) (.inl h2)
    · rw [ea, ec]; exact fun g h1 h2 => hx j c g (.inl h2) (.inl h1)
    · omega
  · rcases key i hi with ⟨-, a, ea⟩ | ⟨a, ea⟩ <;> rcases key j hj with ⟨-, c, ec⟩ | ⟨c, ec⟩
    · have hm' : m < R[i].P.length := by rw [← ea]; exact hm
      have hn' : n < R[j].P.length := by rw [← ec]; exact hn
      have := h.data i j a c hne m n hm' hn'
      simpa only [ea, ec] using this
    · have hm' : m < R[i].P.length := by rw [← ea]; exact hm
      have hn' : n < r.P.length := by rw [← ec]; exact hn
      have : farV (R[i].P[m]).2 (r.P[n]).2 := fun g h1 h2 => hx i a g (.inr ⟨m, hm', h1⟩) (.inr ⟨n, hn', h2⟩)
      simpa only [ea, ec] using this
    · have hm' : m < r.P.length := by rw [← ea]; exact hm
      have hn' : n < R[j].P.length := by rw [← ec]; exact hn
      have : farV (r.P[m]).2 (R[j].P[n]).2 := fun g h1 h2 => hx j c g (.inr ⟨n, hn', h2⟩) (.inr ⟨m, hm', h1⟩)
      simpa only [ea, ec] using this
    · omega
  · rcases key i hi with ⟨-, a, ea⟩ | ⟨a, ea⟩
    · rw [ea]; exact h.each i a
    · rw [ea]; exact hr

set_option maxRecDepth 100000 in
set_option maxHeartbeats 2000000 in
theorem turnUB_any (g cap B : Nat) (l : List Blk) (w : World)  (hl : l.length ≤ 60) (hf : ∀ (k : Nat) (h : k < l.length), FineB l[k]) (hB : RowBl w B g l) (hF : FU w) :
    Calls Tryz.prog 28 #[.slice (some ⟨g, 0, none⟩) l.length cap, .func (.func 36) #[] #[]] w fun e w' => ∃ v R, e = .returned v ∧ BV w' w.heap.size v R ∧ R.map RB.blk = l.map (unfB) ∧ apartR R ∧ Below w.heap.size w w' := by
  have HB : Hid (RowBl w B g l) := hB
  have HUb : Hid (∀ (k : Nat) (h : k < l.length) (gk : Nat) (u : World), Below w.heap.size w u → RowOp u B gk l[k].ops → Calls Tryz.prog 36 #[l[k].val (.slice (some ⟨gk, 0, none⟩) l[k].ops.length l[k].ops.length)] u fun e w' => AnsUb l[k] (unfB l[k]).ops u e w') := fun k hk gk u hu hr => unfuseBlock_any l[k] gk B u (hf k hk) hr (hF.below hu)
  obtain ⟨i0, hi, hz0, hz1, hz2⟩ := info_parts infoBl
  clear hB hf hF
  go_enter Tryz.func28, Tryz.ntmps28
  go_wp2_with fail
  go_loopw [5, 10] (fun v i wr => ∃ (R : List RB) (am : Option Addr) (cm : Nat), R.length ≤ l.length ∧ v = .slice am R.length cm ∧ i = .int .i64 (R.length : Int) ∧ Hid (BV wr w.heap.size (.slice am R.length cm) R) ∧ Hid (R.map RB.blk = (l.take R.length).map (unfB)) ∧ Hid (apartR R) ∧ Hid (Below w.heap.size w wr)) (fun _ i _ => l.length - (RowKit.intOf i).toNat)
  case atStart => exact ⟨[], none, 0, Nat.zero_le _, rfl, rfl, ⟨⟨rfl, .inl ⟨rfl, rfl⟩⟩, fun i hi => by simp at hi⟩, by show _ = _; simp, ⟨fun i j hi => by simp at hi, fun i j hi => by simp at hi, fun i hi => by simp at hi⟩, Below.refl _ _⟩
  case round =>
    obtain ⟨R, am, cm, hR, rfl, rfl, HV, HM, HA, HW⟩ := hrel
    have hws : w.heap.size ≤ wr.heap.size := HW.out.size
    by_cases hlt : R.length < l.length
    · obtain ⟨p0, gk, p1, hio⟩ := HB.out.below HW.out R.length hlt
      have HUk : Hid (∀ u, Below wr.heap.size wr u → Calls Tryz.prog 36 #[l[R.length].val (.slice (some ⟨gk, 0, none⟩) l[R.length].ops.length l[R.length].ops.length)] u fun e w' => AnsUb l[R.length] ((unfB) l[R.length]).ops u e w') := fun u hu => HUb.out R.length hlt gk u (HW.out.trans (hu.mono HW.out.size)) (hio.below hu).row
      obtain ⟨b, hb⟩ : ∃ b, b = l[R.length]'hlt := ⟨_, rfl⟩
      have HTk : Hid ((l.take (R.length + 1)).map (unfB) = (l.take R.length).map (unfB) ++ [(unfB) b]) := by show _ = _; rw [List.take_add_one, List.getElem?_eq_getElem hlt, hb, List.map_append]; rfl
      rw [← hb] at p0 p1 HUk
      clear hb hio
      go_wp2_with fail
      refine (HUk.out _ (bnewK _ _)).mono ?_
      rintro e w3 ⟨v3, P3, rfl, ov, hP3, hap, b3⟩
      obtain ⟨a3, c3, rfl⟩ := own_form ov.row
      have HB3 : Hid (Below wr.heap.size wr w3) := (bnewK wr _).trans (b3.mono (by simp))
      have hz3 : wr.heap.size ≤ w3.heap.size := HB3.out.size
      have HV3 : Hid (BV w3 w.heap.size (.slice am R.length cm) R) := HV.out.below HB3.out
      have HO3 : Hid (OV w3 w.heap.size (.slice a3 P3.length c3) P3) := ov.base (by simp; omega)
      have HA3 : Hid (apartR (R ++ [⟨b.args, .slice a3 P3.length c3, P3⟩])) := HA.out.snoc hap (fun i hi q h1 h2 => by
        have h3 := ((HV.out.ops i hi).foot h1).2
        have h4 := (ov.foot h2).1
        simp at h4; omega)
      have HBk : Hid (RB.blk ⟨b.args, .slice a3 P3.length c3, P3⟩ = (unfB) b) := by show (⟨b.args, P3.map Prod.fst⟩ : Blk) = _; rw [hP3]; rfl
      have HBw3 : Hid (Below w.heap.size w w3) := HW.out.trans (HB3.out.mono HW.out.size)
      clear ov hP3 hap b3 p0 p1
      go_wp2_with (at_builtin; refine wpList_append_lies _ rfl (.tmp 14) (.tmp 18) 24 rfl w.heap.size 51 i0 _ 2 32 Tryz.underlying24 hi hz0 hz1 hz2 rfl (by decide) _ R.length (cellsR R) rfl (own_below HV3.out.row (bnewK _ _)) ⟨_, 0, none⟩ 1 1 [.int .i64 b.args, .slice a3 P3.length c3] rfl rfl ?f1 ?f2 (by decide) ?f3 ?f4 ?f5 _ rfl ?_)
      case f1 => exact World.news_of_block (cs := #[.int .i64 b.args, .slice a3 P3.length c3]) (t := 51) (fr := (0, 0)) (heap_new' _ _ _ (by simp))
      case f2 => intro u hu; simp at hu; rcases hu with rfl | rfl <;> rfl
      case f3 => unfold maxLen; omega
      case f4 => omega
      case f5 => simp; omega
      intro g' cap' w5 hown5 hgrow5 _ _
      have hsn := BV.snoc (HV3.out.below (bnewK _ _)) rfl (HO3.out.below (bnewK _ _)) hown5 hgrow5
      have HB5 : Hid (Below w.heap.size w w5) := (HBw3.out.alloc HBw3.out.size _).grown hgrow5 (by simp; omega) (fun k hk => (HV3.out.row.lt k hk).1)
      obtain ⟨R', hR'⟩ : ∃ R', R' = R ++ [⟨b.args, .slice a3 P3.length c3, P3⟩] := ⟨_, rfl⟩
      have hl' : R'.length = R.length + 1 := by rw [hR']; simp
      rw [← hR'] at hsn HA3
      have HM5 : Hid (R'.map RB.blk = (l.take R'.length).map (unfB)) := by show _ = _; rw [hl', HTk.out, hR', List.map_append, HM.out]; simp only [List.map_cons, List.map_nil]; rw [HBk.out]
      have HV5 : Hid (BV w5 w.heap.size (.slice (some ⟨g', 0, none⟩) R'.length cap') R') := by rw [hl']; exact hsn
      clear hsn hgrow5 hown5 hR'
      go_wp2
      exact ⟨⟨R', some ⟨g', 0, none⟩, cap', by omega, by rw [hl'], by rw [hl']; go_num, HV5.out, HM5.out, HA3.out, HB5.out⟩, by simp [RowKit.intOf]; omega⟩
    · have HE : Hid (R.map RB.blk = l.map (unfB)) := by
        show _ = _
        rw [HM.out, show R.length = l.length by omega, List.take_length]
      clear HM
      go_wp2
      go_ret
      exact ⟨_, R, rfl, HV.out, HE.out, HA.out, HW.out⟩

theorem BV.setBox {w : World} {B g j : Nat} {v x : Value} {R : List RB} (h : BV w B v R) (hg : g < B) : BV (w.setCell ⟨g, j, none⟩ x) B v R :=
  ⟨own_set_low h.row hg x, fun i hi => (h.ops i hi).setLow hg⟩
def AnsI (c : Int) (l' : List Blk) (w : World) (e : Ending) (w' : World) : Prop := ∃ v R, e = .returned (.agg #[.int .i64 c, v]) ∧ BV w' w.heap.size v R ∧ R.map RB.blk = l' ∧ apartR R ∧ Below w.heap.size w w'
theorem ansNil (u : World) (B : Nat) : BV u B (.slice none 0 0) [] := ⟨⟨rfl, .inl ⟨rfl, rfl⟩⟩, fun i hi => by simp at hi⟩
theorem apartNil : apartR [] := ⟨fun i j hi => by simp at hi, fun i j hi => by simp at hi, fun i hi => by simp at hi⟩
set_option maxRecDepth 100000 in
set_option maxHeartbeats 2000000 in
theorem implUc_any (g cap B : Nat) (l : List Blk) (ok : Bool) (w : World) (hl : l.length ≤ 1048576) (hz : ∀ (k : Nat) (h : k < l.length), l[k].small) (hB : RowBl w B g l) (hL : LT w) (hF : FU w) (hok : OkR l ok) :
    Calls Tryz.prog 16 #[.slice (some ⟨g, 0, none⟩) l.length cap] w fun e w' => AnsI (codeU ok l) (blksU ok l) w e w' := by
  obtain ⟨W, hW⟩ : ∃ W, W = w.alloc (.cells #[.int .i64 0, .slice none 0 0] 26) := ⟨_, rfl⟩
  have HW : Hid (W = w.alloc (.cells #[.int .i64 0, .slice none 0 0] 26)) := hW
  have hb0 : Below w.heap.size w W := by rw [hW]; exact bnewK _ _
  have r0 : W.cell? ⟨w.heap.size, 0, none⟩ = some (.int .i64 0) := by rw [hW]; simp [go_sem]
  have r1 : W.cell? ⟨w.heap.size, 1, none⟩ = some (.slice none 0 0) := by rw [hW]; simp [go_sem]
  have rf : ∀ j, W.frozen? ⟨w.heap.size, j, none⟩ = false := fun j => by rw [hW]; simp [go_sem]
  have rl : w.heap.size < W.heap.size := by rw [hW]; simp
  have HQ : Hid (∀ u, Below W.heap.size W u → u.cell? ⟨w.heap.size, 0, none⟩ = some (.int .i64 0) ∧ u.cell? ⟨w.heap.size, 1, none⟩ = some (.slice none 0 0) ∧ (∀ j, u.frozen? ⟨w.heap.size, j, none⟩ = false) ∧ w.heap.size < u.heap.size) := fun u hu => ⟨cell_keep hu r0, cell_keep hu r1, fun j => by rw [(bcell hu).2 _ _ rl]; exact rf j, Nat.lt_of_lt_of_le rl hu.size⟩
  have HBw : Hid (∀ u, Below W.heap.size W u → Below w.heap.size w u) := fun u hu => hb0.trans (hu.mono hb0.size)
  have HCF : Hid (Calls Tryz.prog 26 #[.slice (some ⟨g, 0, none⟩) l.length cap] W fun e w' => e = .returned (.int .i64 (codeF ok l)) ∧ Below W.heap.size W w') := implCF_any g cap B l ok W hl hz (hB.below hb0) (hL.below hb0) hok
  have HFi : Hid (codeF ok l = 0 → l.length ≤ 60 ∧ ∀ (k : Nat) (h : k < l.length), FineB l[k]) := fun h0 => fineB_of h0 hok hz
  have HL : Hid (∀ u, Below w.heap.size w u → LT u ∧ FU u ∧ RowBl u B g l) := fun u hu => ⟨hL.below hu, hF.below hu, hB.below hu⟩
  obtain ⟨C, hC⟩ : ∃ C, C = codeU ok l := ⟨_, rfl⟩
  obtain ⟨V, hV⟩ : ∃ V, V = blksU ok l := ⟨_, rfl⟩
  rw [← hC, ← hV]
  obtain ⟨D, hD⟩ : ∃ D, D = codeF ok l := ⟨_, rfl⟩
  rw [← hD] at HCF
  have HD : Hid (codeF ok l = D) := hD.symm
  have HC : Hid (C = (if D ≠ 0 then D else if manyU l then 2 else 0) ∧ V = if D ≠ 0 then [] else if manyU l then [] else l.map unfB) := ⟨by rw [hC]; unfold codeU; rw [← hD], by rw [hV]; unfold blksU; rw [← hD]⟩
  clear hC hV hD hB hz hok hW r0 r1 rf rl hb0 hL hF
  go_enter Tryz.func16, Tryz.ntmps16
  go_wp2_with fail
  rw [← HW.out]
  refine HCF.out.mono ?_
  rintro e w1 ⟨rfl, b1⟩
  have HB1 : Hid (Below W.heap.size W w1) := b1
  clear b1 HCF HW
  by_cases hn : D = 0
  · obtain ⟨h60, hfine⟩ := HFi.out (by rw [HD.out]; exact hn)
    have HFn : Hid (∀ (k : Nat) (h : k < l.length), FineB l[k]) := hfine
    have HC2 : Hid (C = (if manyU l then 2 else 0) ∧ V = if manyU l then [] else l.map unfB) := by have := HC.out; rw [hn] at this; exact this
    have hx1 := HL.out w1 (HBw.out _ HB1.out)
    have HTu : Hid (Calls Tryz.prog 28 #[.slice (some ⟨g, 0, none⟩) l.length cap, .func (.func 36) #[] #[]] w1 fun e w' => ∃ v R, e = .returned v ∧ BV w' w1.heap.size v R ∧ R.map RB.blk = l.map unfB ∧ apartR R ∧ Below w1.heap.size w1 w') := turnUB_any g cap B l w1 h60 hfine hx1.2.2 hx1.2.1
    subst hn
    clear hx1 hfine HC HFi
    go_wp2_with fail
    refine HTu.out.mono ?_
    rintro e w2 ⟨v, R, rfl, hv, hM, hap, b2⟩
    have HV : Hid (BV w2 w1.heap.size v R) := hv
    have HM : Hid (R.map RB.blk = l.map unfB) := hM
    have HA : Hid (apartR R) := hap
    have HB2 : Hid (Below W.heap.size W w2) := HB1.out.trans (b2.mono HB1.out.size)
    have h12 : w1.heap.size ≤ w2.heap.size := b2.size
    have hw1 : w.heap.size < w1.heap.size := (HQ.out w1 HB1.out).2.2.2
    obtain ⟨av, cv, rfl⟩ := own_form hv.row
    have HSee : Hid (SeeB w2 (.slice av R.length cv) (l.map unfB)) := by have := hv.see; rw [hM] at this; exact this
    have HRl : Hid (R.length = (l.map unfB).length) := by show _ = _; rw [← hM]; simp
    have HBF : Hid (Calls Tryz.prog 37 #[.slice av R.length cv] w2 fun e w' => e = .returned (.int .i64 (if manyU l then 2 else 0)) ∧ Below w2.heap.size w2 w') := by
      have hs := HSee.out
      rw [HRl.out] at hs ⊢
      rw [← unf_nine h60 HFn.out]
      exact blocksFaultG_any av cv (l.map unfB) w2 (by simp; omega) (fun k hk => by
        have hk' : k < l.length := by simpa using hk
        rw [List.getElem_map]
        exact (unf_small (HFn.out k hk')).1) hs (HL.out w2 (HBw.out _ HB2.out)).1
    clear hv hM hap b2 HTu
    cases hm : manyU l
    · have HE : Hid (C = 0 ∧ V = l.map unfB) := by have := HC2.out; rw [hm] at this; exact this
      have HBF2 : Hid (Calls Tryz.prog 37 #[.slice av R.length cv] w2 fun e w' => e = .returned (.int .i64 0) ∧ Below w2.heap.size w2 w') := by have := HBF.out; rw [hm] at this; exact this
      clear HBF HC2 hm
      go_wp2_with fail
      refine HBF2.out.mono ?_
      rintro e w3 ⟨rfl, b3⟩
      have HV3 : Hid (BV w3 w1.heap.size (.slice av R.length cv) R) := HV.out.below b3
      have HB3 : Hid (Below W.heap.size W w3) := HB2.out.trans (b3.mono HB2.out.size)
      obtain ⟨q0, q1, qf, ql⟩ := HQ.out w3 HB3.out
      have HBx : Hid (Below w.heap.size w w3) := HBw.out _ HB3.out
      clear b3 HBF2
      go_wp2
      refine bodyPost_ret (v := .agg #[.int .i64 0, .slice av R.length cv]) (by simp [results, Tryz.results16, go_sem, q0, q1]) rfl ⟨.slice av R.length cv, R, by rw [HE.out.1], ?_, by rw [HE.out.2, HM.out], HA.out, ?_⟩
      · exact ((HV3.out.setBox hw1).setBox hw1).base (by omega)
      · repeat (first | refine Below.setCell ?_ (by simp) _ | exact HBx.out)
    · have HE : Hid (C = 2 ∧ V = []) := by have := HC2.out; rw [hm] at this; exact this
      have HBF2 : Hid (Calls Tryz.prog 37 #[.slice av R.length cv] w2 fun e w' => e = .returned (.int .i64 2) ∧ Below w2.heap.size w2 w') := by have := HBF.out; rw [hm] at this; exact this
      clear HBF HC2 hm
      go_wp2_with fail
      refine HBF2.out.mono ?_
      rintro e w3 ⟨rfl, b3⟩
      have HB3 : Hid (Below W.heap.size W w3) := HB2.out.trans (b3.mono HB2.out.size)
      obtain ⟨q0, q1, qf, ql⟩ := HQ.out w3 HB3.out
      have HBx : Hid (Below w.heap.size w w3) := HBw.out _ HB3.out
      clear b3 HBF2
      go_wp2
      refine bodyPost_ret (v := .agg #[.int .i64 2, .slice none 0 0]) (by simp [results, Tryz.results16, go_sem, q0, q1]) rfl ⟨.slice none 0 0, [], by rw [HE.out.1], ansNil _ _, by rw [HE.out.2]; rfl, apartNil, ?_⟩
      repeat (first | refine Below.setCell ?_ (by simp) _ | exact HBx.out)
  · have HE : Hid (C = D ∧ V = []) := by have := HC.out; rw [if_pos hn, if_pos hn] at this; exact this
    have hcn : (D != 0) = true := by rw [bne_iff_ne]; exact hn
    obtain ⟨q0, q1, qf, ql⟩ := HQ.out w1 HB1.out
    have HBx : Hid (Below w.heap.size w w1) := HBw.out _ HB1.out
    clear hn HQ HC
    go_wp2
    refine bodyPost_ret (v := .agg #[.int .i64 D, .slice none 0 0]) (by simp [results, Tryz.results16, go_sem, q0, q1]) rfl ⟨.slice none 0 0, [], by rw [HE.out.1], ansNil _ _, by rw [HE.out.2]; rfl, apartNil, ?_⟩
    repeat (first | refine Below.setCell ?_ (by simp) _ | exact HBx.out)
end Go.Proofs.YteboaiklibaomaaGreatDoor
