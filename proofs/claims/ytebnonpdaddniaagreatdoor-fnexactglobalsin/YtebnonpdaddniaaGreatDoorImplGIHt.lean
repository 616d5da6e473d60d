/-
  Parts of the proof laid into one text, one behind the other; each says at its head what is proved in it.
-/
import Derived.Test.YtebnonpdaddniaaGreatDoorImplCoEHt
import Derived.Test.YtebnonpdaddniaaGreatDoorCoTextHt
import Derived.Test.YtebnonpdaddniaaGreatDoorStStrHt
/-
  slices.Contains at texts, and the program's GlobalsIn: the names of cores without fault, each once; nothing that was there is turned.
-/
namespace Go.Proofs.YtebnonpdaddniaaGreatDoor
open Go.RowKit Go.Extern.Stop Go.Stop Go.Extern Num Go.Lib Go.Shelf

/-- Whether a text is one of a list. -/
def hasN (L : List ByteArray) (z : ByteArray) : Bool := L.any fun y => z.toList == y.toList
theorem hasN_hit {z : ByteArray} {L : List ByteArray} (k : Nat) (h : k < L.length) (hp : (z.toList == L[k].toList) = true) : hasN L z = true := List.any_eq_true.2 ⟨L[k], List.getElem_mem h, hp⟩
theorem hasN_none {z : ByteArray} {L : List ByteArray} (h : ∀ (k : Nat) (hk : k < L.length), (z.toList == L[k].toList) = false) : hasN L z = false := by
  unfold hasN
  rw [List.any_eq_false]
  intro t ht
  obtain ⟨k, hk, rfl⟩ := List.getElem_of_mem ht
  rw [h k hk]; decide
/-- The names up to a core, each once. -/
def namesTo (l : List Cor) : Nat → List ByteArray
  | 0 => []
  | k + 1 => match l[k]? with
    | none => namesTo l k
    | some t => if namedK t.kind = true ∧ hasN (namesTo l k) t.name = false then namesTo l k ++ [t.name] else namesTo l k
theorem namesTo_next (l : List Cor) (k : Nat) (h : k < l.length) : namesTo l (k + 1) = if namedK l[k].kind = true ∧ hasN (namesTo l k) l[k].name = false then namesTo l k ++ [l[k].name] else namesTo l k := by
  simp only [namesTo, List.getElem?_eq_getElem h]
theorem namesTo_len (l : List Cor) : ∀ k, (namesTo l k).length ≤ k
  | 0 => by simp [namesTo]
  | k + 1 => by
    have ih := namesTo_len l k
    simp only [namesTo]
    split
    · omega
    · split
      · simp; omega
      · omega
set_option maxRecDepth 100000 in
set_option maxHeartbeats 1000000 in
theorem indexT_some (L : List ByteArray) (z : ByteArray) (g co : Nat) (w : World) (hl : L.length ≤ 1000) (hc : ∀ (k : Nat) (h : k < L.length), w.cell? ⟨g, k, none⟩ = some (.string L[k])) :
    Calls Tryz.prog 122 #[.slice (some ⟨g, 0, none⟩) L.length co, .string z] w fun e w' => (∃ k : Int, e = .returned (.int .i64 k) ∧ decide (0 ≤ k) = hasN L z) ∧ w' = w := by
  have HC : Hid (∀ (k : Nat) (h : k < L.length), w.cell? ⟨g, k, none⟩ = some (.string L[k])) := hc
  clear hc
  go_enter Tryz.func122, Tryz.ntmps122
  go_wp2_with fail
  go_loopw [8] (fun i wr => ∃ j : Nat, j ≤ L.length ∧ i = .int .i64 (j : Int) ∧ wr = w ∧ Hid (∀ (k : Nat) (hk : k < L.length), k < j → (z.toList == L[k].toList) = false)) (fun i _ => L.length - (RowKit.intOf i).toNat)
  case atStart => exact ⟨0, Nat.zero_le _, rfl, by trivial, fun k _ hk => by omega⟩
  case round =>
    obtain ⟨j, hj, rfl, rfl, HJ⟩ := hrel
    by_cases hlt : j < L.length
    · have q0 := HC.out j hlt
      obtain ⟨t, ht⟩ : ∃ t, t = L[j]'hlt := ⟨_, rfl⟩
      rw [← ht] at q0
      cases hx : (z.toList == t.toList) with
      | true =>
        have HA : Hid (hasN L z = true) := hasN_hit j hlt (by rw [← ht, hx])
        clear ht
        go_wp2
        go_ret
        exact ⟨⟨(j : Int), rfl, by rw [HA.out]; simp⟩, rfl⟩
      | false =>
        have HJ2 : Hid (∀ (k : Nat) (hk : k < L.length), k < j + 1 → (z.toList == L[k].toList) = false) := fun k hk hkj => by
          by_cases e : k < j
          · exact HJ.out k hk e
          · have : k = j := by omega
            subst this; rw [← ht]; exact hx
        clear HJ ht
        go_wp2
        exact ⟨⟨j + 1, by omega, by go_num, by trivial, HJ2.out⟩, by simp [RowKit.intOf]; omega⟩
    · have HA : Hid (hasN L z = false) := hasN_none (fun k hk => HJ.out k hk (by omega))
      clear HJ
      go_wp2
      go_ret
      exact ⟨⟨-1, rfl, by rw [HA.out]; rfl⟩, rfl⟩
set_option maxHeartbeats 1000000 in
theorem indexT_none (z : ByteArray) (ao : Option Addr) (co : Nat) (w : World) : Calls Tryz.prog 122 #[.slice ao 0 co, .string z] w fun e w' => (∃ k : Int, e = .returned (.int .i64 k) ∧ decide (0 ≤ k) = hasN [] z) ∧ w' = w := by
  go_enter Tryz.func122, Tryz.ntmps122
  go_wp2_with fail
  go_loopw [8] (fun i wr => i = .int .i64 0 ∧ wr = w) (fun i _ => 0)
  case atStart => exact ⟨rfl, rfl⟩
  case round =>
    obtain ⟨rfl, rfl⟩ := hrel
    go_wp2
    go_ret
    exact ⟨⟨-1, rfl, rfl⟩, rfl⟩
set_option maxHeartbeats 1000000 in
theorem containsT_any (v : Value) (base : Nat) (L : List ByteArray) (z : ByteArray) (w : World) (hl : L.length ≤ 1000) (h : w.ownsRow base 9 1 v L.length (cellsT L)) :
    Calls Tryz.prog 73 #[v, .string z] w fun e w' => e = .returned (.bool (hasN L z)) ∧ w' = w := by
  have H : Hid (Calls Tryz.prog 122 #[v, .string z] w fun e w' => (∃ k : Int, e = .returned (.int .i64 k) ∧ decide (0 ≤ k) = hasN L z) ∧ w' = w) := by
    cases L with
    | nil =>
      obtain ⟨ao, ca, rfl⟩ := own_form h
      exact indexT_none z ao ca w
    | cons t r =>
      obtain ⟨g1, c1, rfl, _, _⟩ := h.form (by simp)
      exact indexT_some (t :: r) z g1 c1 w hl (fun k hk => rowT_at h k hk)
  clear h
  generalize hasN L z = D at H ⊢
  go_enter Tryz.func73, Tryz.ntmps73
  go_wp2_with fail
  refine H.out.mono ?_
  rintro e w' ⟨⟨k, rfl, hk⟩, e1⟩
  replace e1 := e1.symm
  subst e1
  have HK : Hid (decide (0 ≤ k) = D) := hk
  clear hk H
  go_wp2
  go_ret
  exact ⟨by rw [← HK.out]; rfl, rfl⟩
/-- A core without fault has a name where it is of a global, and nowhere else. -/
theorem named_name {l : List Cor} {i : Nat} {t : Cor} (h : oneC l i t = 0) : (namedK t.kind = true ∧ t.name.toList ≠ []) ∨ (namedK t.kind = false ∧ t.name.toList = []) := by
  cases hn : namedK t.kind with
  | true =>
    refine .inl ⟨rfl, fun h0 => ?_⟩
    have h1 := (core_nm h ((namedK_iff _).1 hn)).2
    have : t.name.data.toList.length = t.name.size := by rw [Array.length_toList]; rfl
    rw [Lib.toList_data] at h0
    rw [h0] at this
    simp at this
    omega
  | false =>
    refine .inr ⟨rfl, ?_⟩
    have hb := (oneC_parts h).1
    unfold bareC at hb
    rw [hn] at hb
    simp only [Bool.and_eq_true, Bool.false_or] at hb
    simpa using hb.1.2
/-- What GlobalsIn answers. -/
def AnsGI (l : List Cor) (w : World) (e : Ending) (w' : World) : Prop :=
  ((coreF l ≠ 0 ∧ e = .returned (.agg #[.int .i64 (coreF l), .slice none 0 0])) ∨ (coreF l = 0 ∧ ∃ ao ca, e = .returned (.agg #[.int .i64 0, .slice ao (namesTo l l.length).length ca]) ∧ w'.ownsRow w.heap.size 9 1 (.slice ao (namesTo l l.length).length ca) (namesTo l l.length).length (cellsT (namesTo l l.length)))) ∧ Below w.heap.size w w'
set_option maxRecDepth 100000 in
set_option maxHeartbeats 2000000 in
theorem implGI_any (B g cap : Nat) (l : List Cor) (w : World) (h : IsC w B g cap l) (hz : ∀ (k : Nat) (h : k < l.length), l[k].small) (hL : LT w) :
    Calls Tryz.prog 34 #[.slice (some ⟨g, 0, none⟩) l.length cap] w fun e w' => AnsGI l w e w' := by
  obtain ⟨P, hP, hrow, hN⟩ := h
  have HT : Hid (∀ o : Obj, Calls Tryz.prog 57 #[.slice (some ⟨g, 0, none⟩) l.length cap] (w.alloc o) fun e w' => AnsCt P l (w.alloc o) e w') := fun o =>
    coreTree_any B g cap P l hP _ (hrow.alloc o) (hN.below ((Below.refl _ w).alloc (Nat.le_refl _) o)) hz (hL.alloc o)
  by_cases hf : coreF l = 0
  · have F : FineC P l := FineC.of hP hf
    have HT' : Hid (∀ o : Obj, Calls Tryz.prog 57 #[.slice (some ⟨g, 0, none⟩) l.length cap] (w.alloc o) fun e w' => ∃ r, e = .returned (.tuple #[.pointer (some ⟨r, 0, none⟩), .int .i64 0]) ∧ OwnTC (w.heap.size + 1) r P w' ∧ Below (w.heap.size + 1) (w.alloc o) w') := fun o =>
      (HT.out o).mono fun e w' h => by
        rcases h with ⟨h, -⟩ | ⟨-, r, h1, h2, h3⟩
        · exact absurd hf h
        · rw [World.size_alloc] at h2 h3; exact ⟨r, h1, h2, h3⟩
    have HF : Hid (FineC P l) := F
    have HZ : Hid (coreF l = 0) := hf
    have HS : Hid (∀ (k : Nat) (h : k < l.length), l[k].small) := hz
    have HDv : Hid (∀ (k : Nat) (h : k < P.length), ∃ p n c, P[k].2 = .slice p n c) := fun k hk => by
      obtain ⟨gk, q1, -⟩ := hN P[k] (List.getElem_mem hk)
      exact ⟨_, _, _, q1⟩
    obtain ⟨i0, hi, hz0, hz1, hz2⟩ := info_parts infoT
    have hl160 := F.len
    clear HT hf hz hL hrow hN hP F
    go_enter Tryz.func34, Tryz.ntmps34
    go_wp2_with fail
    refine (HT'.out _).mono ?_
    rintro e w1 ⟨r, rfl, ho, hb⟩
    obtain ⟨hc1, hf1⟩ := bcell (W := w.alloc (.cells #[.int .i64 0, .slice none 0 0] 58)) (by rw [World.size_alloc]; exact hb)
    have HB1 : Hid (Below w.heap.size w w1) := ((Below.refl _ w).alloc (Nat.le_refl _) _).trans (hb.mono (by omega))
    have hs1 : w.heap.size < w1.heap.size := by have := hb.size; simp at this; omega
    have d0 : w1.cell? ⟨w.heap.size, 0, none⟩ = some (.int .i64 0) := by rw [hc1 _ _ (by simp)]; simp
    have d1 : w1.cell? ⟨w.heap.size, 1, none⟩ = some (.slice none 0 0) := by rw [hc1 _ _ (by simp)]; simp
    have f0 : w1.frozen? ⟨w.heap.size, 0, none⟩ = false := by rw [hf1 _ _ (by simp)]; simp
    have f1 : w1.frozen? ⟨w.heap.size, 1, none⟩ = false := by rw [hf1 _ _ (by simp)]; simp
    have HBx : Hid (w1.cell? ⟨w.heap.size, 0, none⟩ = some (.int .i64 0) ∧ w1.cell? ⟨w.heap.size, 1, none⟩ = some (.slice none 0 0) ∧ w1.frozen? ⟨w.heap.size, 0, none⟩ = false ∧ w1.frozen? ⟨w.heap.size, 1, none⟩ = false) := ⟨d0, d1, f0, f1⟩
    have HT1 : Hid (IsTreeC w1.heap.size w1 r P) := ho.tree
    clear hc1 hf1 ho hb d0 d1 f0 f1
    obtain ⟨ao, gn, cn, hcn, htb, hgn, hao, hrn⟩ := HT1.out
    obtain rfl := hao (by intro h0; have h1 := HF.out.nlen; have h2 := HF.out.pos; rw [h0] at h1; simp at h1; omega)
    have HRn : Hid (RowNC w1 gn P) := hrn
    have hnl : P.length = l.length := HF.out.nlen
    clear hao hrn htb hgn
    rw [hnl] at hcn
    go_wp2_with fail
    go_loopw [5, 22] (fun v x wr => ∃ (k : Nat) (ao : Option Addr) (c : Nat) (L : List ByteArray), k ≤ l.length ∧ x = .int .i64 (k : Int) ∧ v = .slice ao L.length c ∧ L.length ≤ k ∧ Hid (L = namesTo l k) ∧ Hid (wr.ownsRow w1.heap.size 9 1 (.slice ao L.length c) L.length (cellsT L)) ∧ Hid (Below w1.heap.size w1 wr)) (fun _ x _ => l.length - (RowKit.intOf x).toNat)
    case atStart => exact ⟨0, none, 0, [], Nat.zero_le _, rfl, rfl, Nat.le_refl _, rfl, World.ownsRow_nil _ _ _ _, Below.refl _ _⟩
    case round =>
      obtain ⟨k, ao, c, L, hk, rfl, rfl, hLk, HL, HO, HB⟩ := hrel
      have hsr : w1.heap.size ≤ wr.heap.size := HB.out.size
      by_cases hlt : k < l.length
      · have hkP : k < P.length := by omega
        obtain ⟨c0, c1, c2, c3, c4, c5, c6⟩ := HRn.out k hkP
        obtain ⟨pp, nn, cc, hdv⟩ := HDv.out k hkP
        rw [hdv] at c6
        rw [HF.out.at k hlt] at c0 c1 c2 c3 c4 c5
        replace c0 := cell_keep HB.out c0
        replace c1 := cell_keep HB.out c1
        replace c2 := cell_keep HB.out c2
        replace c3 := cell_keep HB.out c3
        replace c4 := cell_keep HB.out c4
        replace c5 := cell_keep HB.out c5
        replace c6 := cell_keep HB.out c6
        have hnm := named_name (HF.out.ok k hlt hlt)
        have HNx := namesTo_next l k hlt
        rw [← HL.out] at HNx
        have hsm := (HS.out k hlt).name
        obtain ⟨t, ht⟩ : ∃ t, t = l[k]'hlt := ⟨_, rfl⟩
        rw [← ht] at c0 c1 c2 c3 c4 c5 hnm HNx hsm
        clear ht
        have HNx2 : Hid (namesTo l (k + 1) = if namedK t.kind = true ∧ hasN L t.name = false then L ++ [t.name] else L) := HNx
        clear HNx hdv
        obtain ⟨z, hze⟩ : ∃ z, z = t.name := ⟨_, rfl⟩
        rw [← hze] at c5 hnm HNx2 hsm
        clear hze
        have HCo : Hid (∀ u, Below wr.heap.size wr u → Calls Tryz.prog 73 #[.slice ao L.length c, .string z] u fun e w' => e = .returned (.bool (hasN L z)) ∧ w' = u) := fun u hu => containsT_any _ w1.heap.size L z u (by omega) (own_below HO.out hu)
        have bN : Below wr.heap.size wr (wr.alloc (.cells #[.int .i64 t.parent, .int .i64 t.kind, .int .i64 t.parent, .int .i64 t.a, .int .i64 t.b, .string z, .slice pp nn cc] 118)) := (Below.refl _ wr).alloc (Nat.le_refl _) _
        have BN : Hid _ := bN
        rcases hnm with ⟨h1, h2⟩ | ⟨h1, h2⟩
        · have h3 : z.toList.isEmpty = false := by simpa using h2
          cases hh : hasN L z with
          | true =>
            rw [hh] at HCo
            have HL2 : Hid (L = namesTo l (k + 1)) := by show _ = _; rw [HNx2.out, hh]; simp
            clear HNx2 hh h1 bN
            go_wp2_with (first | (go_at_call 73; refine (HCo.out _ ((Below.refl _ wr).alloc (Nat.le_refl _) _)).mono ?_; rintro e w' ⟨rfl, hw'⟩; replace hw' := hw'.symm; subst hw'))
            exact ⟨⟨k + 1, ao, c, L, by omega, by go_num, rfl, by omega, HL2.out, HO.out.alloc _, HB.out.alloc hsr _⟩, by simp [RowKit.intOf]; omega⟩
          | false =>
            rw [hh] at HCo
            have HL2 : Hid (L ++ [z] = namesTo l (k + 1)) := by show _ = _; rw [HNx2.out, hh, h1]; simp
            have HCl : Hid (∀ u, Calls Tryz.prog 74 #[.string z] u fun e w' => e = .returned (.string z) ∧ Below u.heap.size u w') := fun u => clone_any z u (by omega)
            clear HNx2 hh h1 bN
            go_wp2_with (first | (go_at_call 73; refine (HCo.out _ ((Below.refl _ wr).alloc (Nat.le_refl _) _)).mono ?_; rintro e w' ⟨rfl, hw'⟩; replace hw' := hw'.symm; subst hw'))
            refine (HCl.out _).mono ?_
            rintro e wc ⟨rfl, bc⟩
            have HOc : Hid (wc.ownsRow w1.heap.size 9 1 (.slice ao L.length c) L.length (cellsT L)) := own_below (HO.out.alloc _) bc
            have HBc : Hid (Below w1.heap.size w1 wc) := (HB.out.alloc hsr _).trans (bc.mono (by simp; omega))
            have hsc : w1.heap.size ≤ wc.heap.size := HBc.out.size
            clear bc c0 c1 c2 c3 c4 c5 c6
            go_wp2_with (first | (at_builtin; refine wpList_append_lies _ rfl (.tmp 38) (.tmp 43) 56 rfl w1.heap.size 9 i0 _ 1 16 Tryz.underlying56 hi hz0 hz1 hz2 rfl (by decide) _ L.length (cellsT L) rfl (HOc.out.alloc _) ⟨_, 0, none⟩ 1 1 [.string z] rfl rfl ?c1 ?c2 (by decide) ?c3 ?c4 ?c5 _ rfl ?_))
            case c1 => exact newsT (heap_new' _ _ _ (by simp))
            case c2 => intro u hu; simp at hu; subst hu; rfl
            case c3 => unfold maxLen; omega
            case c4 => omega
            case c5 => simp; omega
            intro g' cap' w3 hown1 hgrow1 _ _
            have HO1 : Hid (w3.ownsRow w1.heap.size 9 1 (.slice (some ⟨g', 0, none⟩) (L ++ [z]).length cap') (L ++ [z]).length (cellsT (L ++ [z]))) := by
              rw [cellsT_append, List.length_append]
              exact hown1
            have HB3 : Hid (Below w1.heap.size w1 w3) := (HBc.out.alloc hsc _).grown hgrow1 (by simp; omega) (fun j hj => (HOc.out.lt j hj).1)
            clear hown1 hgrow1
            go_wp2
            exact ⟨⟨k + 1, some ⟨g', 0, none⟩, cap', L ++ [z], by omega, by go_num, by simp, by simp; omega, HL2.out, HO1.out, HB3.out⟩, by simp [RowKit.intOf]; omega⟩
        · have HL2 : Hid (L = namesTo l (k + 1)) := by show _ = _; rw [HNx2.out, h1]; simp
          clear HNx2 h1 bN
          go_wp2_with fail
          refine ⟨⟨k + 1, ao, c, L, by omega, by go_num, rfl, by omega, HL2.out, HO.out.alloc _, HB.out.alloc hsr _⟩, by simp [RowKit.intOf]; omega⟩
      · have HE : Hid (L = namesTo l l.length) := by
          have hkl : k = l.length := by omega
          show _ = _; rw [HL.out, hkl]
        obtain ⟨q0, q1, q2, q3⟩ := HBx.out
        replace q0 := cell_keep HB.out q0
        replace q1 := cell_keep HB.out q1
        have q4 : wr.frozen? ⟨w.heap.size, 0, none⟩ = false := by rw [(bcell HB.out).2 _ _ hs1]; exact q2
        have q5 : wr.frozen? ⟨w.heap.size, 1, none⟩ = false := by rw [(bcell HB.out).2 _ _ hs1]; exact q3
        clear q2 q3
        have HOe : Hid (wr.ownsRow w1.heap.size 9 1 (.slice ao L.length c) L.length (cellsT L)) := HO.out
        go_wp2_with fail
        have e0 : ((wr.setCell ⟨w.heap.size, 0, none⟩ (.int .i64 0)).setCell ⟨w.heap.size, 1, none⟩ (.slice ao L.length c)).cell? ⟨w.heap.size, 0, none⟩ = some (.int .i64 0) := by
          rw [World.cell?_setCell_other _ _ _ _ (by intro e; injection e with _ e2 _; exact absurd e2 (by decide))]
          exact World.cell?_setCell_same' _ _ _ (by rw [q0]; rfl)
        have e1 : ((wr.setCell ⟨w.heap.size, 0, none⟩ (.int .i64 0)).setCell ⟨w.heap.size, 1, none⟩ (.slice ao L.length c)).cell? ⟨w.heap.size, 1, none⟩ = some (.slice ao L.length c) := by
          refine World.cell?_setCell_same' _ _ _ ?_
          rw [World.cell?_setCell_other _ _ _ _ (by intro e; injection e with _ e2 _; exact absurd e2 (by decide)), q1]
          rfl
        refine bodyPost_ret (v := .agg #[.int .i64 0, .slice ao L.length c]) (by simp [results, Tryz.results34, go_sem, e0, e1]) rfl ⟨.inr ⟨HZ.out, ao, c, by rw [← HE.out], ?_⟩, ?_⟩
        · rw [← HE.out]
          have hnb : ∀ gg, (Value.slice ao L.length c).ownBlock = some gg → gg ≠ w.heap.size := fun gg hgg => by have := (HOe.out.lt gg hgg).1; omega
          exact own_base (own_set' (own_set' HOe.out hnb _) hnb _) (by omega)
        · exact Below.setCell (Below.setCell (HB1.out.trans (HB.out.mono (by omega))) (Nat.le_refl _) _) (Nat.le_refl _) _
  · have HT' : Hid (∀ o : Obj, Calls Tryz.prog 57 #[.slice (some ⟨g, 0, none⟩) l.length cap] (w.alloc o) fun e w' => e = .returned (.tuple #[.pointer none, .int .i64 (coreF l)]) ∧ Below (w.heap.size + 1) (w.alloc o) w') := fun o =>
      (HT.out o).mono fun e w' h => by
        rcases h with ⟨_, h1, h2⟩ | ⟨h, -⟩
        · rw [World.size_alloc] at h2; exact ⟨h1, h2⟩
        · exact absurd h hf
    have HZ : Hid (coreF l ≠ 0) := hf
    obtain ⟨c, hc⟩ : ∃ c, c = coreF l := ⟨_, rfl⟩
    have HC : Hid (c = coreF l) := hc
    have hne : (c != 0) = true := by rw [hc]; simpa using hf
    rw [← hc] at HT'
    clear HT hz hL hrow hN hP hf hc
    go_enter Tryz.func34, Tryz.ntmps34
    go_wp2_with fail
    refine (HT'.out _).mono ?_
    rintro e w1 ⟨rfl, hb⟩
    obtain ⟨hc1, hf1⟩ := bcell (W := w.alloc (.cells #[.int .i64 0, .slice none 0 0] 58)) (by rw [World.size_alloc]; exact hb)
    have HB1 : Hid (Below w.heap.size w w1) := ((Below.refl _ w).alloc (Nat.le_refl _) _).trans (hb.mono (by omega))
    clear hb
    go_wp2
    refine bodyPost_ret (v := .agg #[.int .i64 c, .slice none 0 0]) (by simp [results, Tryz.results34, go_sem, hc1]) rfl ⟨.inl ⟨HZ.out, by rw [HC.out]⟩, ?_⟩
    repeat (first | exact HB1.out | refine Below.setCell ?_ (by simp) _)
end Go.Proofs.YtebnonpdaddniaaGreatDoor
