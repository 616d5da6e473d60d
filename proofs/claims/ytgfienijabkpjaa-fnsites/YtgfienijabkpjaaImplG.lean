/-
  The program's globalsOf: globals that have no fault as rows and a map; GlobalsFault; nothing that was there is turned.
-/
import Derived.Test.YtgfienijabkpjaaImplG0
import Derived.Test.YtgfienijabkpjaaImplG1
import Derived.Test.YtgfienijabkpjaaImplG2
import Derived.Test.YtgfienijabkpjaaSpecG
namespace Go.Proofs.Ytgfienijabkpjaa
open Go.RowKit Go.Extern.Stop Go.Stop Go.Extern Num Go.Lib

theorem zc_len : Try.zeroCells79.toList.length = 301 := by simp
theorem zc_all : Try.zeroCells79.all (·.oneCell') = true := by kernel_rfl
theorem zb_size (b : Nat) : ((Try.zeroCells79.setIfInBounds 0 (.map (some (b))))).size = 301 := by simp
theorem zb_all (b : Nat) : ((Try.zeroCells79.setIfInBounds 0 (.map (some (b))))).all (·.oneCell') = true := by
  rw [Array.all_eq_true_iff_forall_mem]
  intro v hv
  rcases Array.mem_or_eq_of_mem_setIfInBounds hv with h | rfl
  · exact (Array.all_eq_true_iff_forall_mem.1 zc_all) v h
  · rfl
theorem zb_gl (b : Nat) : GlC ((Try.zeroCells79.setIfInBounds 0 (.map (some (b))))).toList b [] :=
  ⟨by rw [Array.length_toList, zb_size], fun v hv => (Array.all_eq_true_iff_forall_mem.1 (zb_all b)) v (Array.mem_toList_iff.1 hv), by simp, fun k h => by simp at h, by simp⟩
theorem infoGl : (Try.prog.info? 79).map (·.size) = some 301 := by kernel_rfl
theorem buildZ (w : World) : (Instr.build 79 #[]).run Try.prog w = .ok (.agg Try.zeroCells79) w := by kernel_rfl
theorem buildB (b : Nat) (w : World) : (Instr.build 79 #[(0, .map (some b))]).run Try.prog w = .ok (.agg (Try.zeroCells79.setIfInBounds 0 (.map (some (b))))) w := by kernel_rfl
/-- Globals put into a block. -/
theorem storeGl (w : World) (b : Nat) (C : Array Value) (hC : C.size = 301) (h1 : C.all (·.oneCell') = true) (ht : w.there b 0 301) :
    (Instr.storeAt 79 (.pointer (some ⟨b, 0, none⟩)) (.agg C)).run Try.prog w = .ok () (w.setCells b 0 C.toList) :=
  run_storeAt_mid w b 0 79 C (by rw [hC]; exact ht) (by rw [infoGl, hC]) h1
theorem loadGl (w : World) (b : Nat) (C : List Value) (hC : C.length = 301) (hr : w.rangeAt b 0 C) :
    (loadVar 79 ⟨b, 0, none⟩).run Try.prog w = .ok (.agg C.toArray) w :=
  run_loadVar_mid w b 0 79 C _ hr Try.underlying79 rfl (by rw [infoGl, hC])
theorem loadAtGl (w : World) (b : Nat) (C : List Value) (hC : C.length = 301) (hr : w.rangeAt b 0 C) :
    (Instr.loadAt 79 (.pointer (some ⟨b, 0, none⟩))).run Try.prog w = .ok (.agg C.toArray) w :=
  run_loadAt_mid w b 0 79 C _ hr Try.underlying79 rfl (by rw [infoGl, hC])
theorem there_new (w : World) (C : Array Value) (t : TypeId) (hC : C.size = 301) : (w.alloc (.cells C t)).there w.heap.size 0 301 := fun j hj => by
  rw [Nat.zero_add, World.cell?_alloc_at _ _ _ _ rfl, World.frozen?_alloc_at _ _ _ _ rfl]
  exact ⟨by simp [hC, hj], rfl⟩
theorem there_below {w w' : World} {b n : Nat} (h : w.there b 0 n) (hb : Below w.heap.size w w') : w'.there b 0 n := fun j hj => by
  obtain ⟨v, hv⟩ := Option.isSome_iff_exists.1 (h j hj).1
  have hlt : b < w.heap.size := lt_of_cell hv
  exact ⟨by rw [cell_keep hb hv]; rfl, by rw [(bcell hb).2 _ _ hlt]; exact (h j hj).2⟩
theorem below_setCells {n b : Nat} {w w' : World} (h : Below n w w') (hb : n ≤ b) : ∀ (vs : List Value) (o : Nat), Below n w (w'.setCells b o vs) := by
  intro vs
  induction vs generalizing w' with
  | nil => intro o; exact h
  | cons v r ih => intro o; rw [World.setCells]; exact ih (h.setCell hb _) (o + 1)
theorem there_same {w w' : World} {b n : Nat} (h : w'.heap[b]? = w.heap[b]?) (ht : w.there b 0 n) : w'.there b 0 n := fun j hj => by
  have := ht j hj
  unfold World.cell? World.frozen? at this ⊢
  simp only [h] at this ⊢
  exact this
theorem heap_setCells {b i : Nat} (hi : i ≠ b) : ∀ (vs : List Value) (o : Nat) (w : World), (w.setCells b o vs).heap[i]? = w.heap[i]? := by
  intro vs
  induction vs with
  | nil => intro o w; rfl
  | cons v r ih => intro o w; rw [World.setCells, ih]; exact RowKit.Below.heap_setCell _ _ _ _ hi
theorem ldSet (W : World) (B : Nat) (C : Array Value) (hC : C.size = 301) (ht : W.there B 0 301) : (loadVar 79 ⟨B, 0, none⟩).run Try.prog (W.setCells B 0 C.toList) = .ok (.agg C) (W.setCells B 0 C.toList) := by
  have h := loadGl (W.setCells B 0 C.toList) B C.toList (by rw [Array.length_toList, hC]) (World.rangeAt_setCells_same _ _ _ _ (by rw [Array.length_toList, hC]; exact ht))
  rw [Array.toArray_toList] at h
  exact h
/-- What globalsOf answers. -/
def AnsGl (w : World) (l : List Glb) (c : Int) (e : Ending) (w' : World) : Prop :=
  ∃ C : Array Value, e = .returned (.tuple #[.agg C, .int .i64 c]) ∧ C.size = 301 ∧ C.all (·.oneCell') = true ∧ (c = 0 → ∃ b, w.heap.size ≤ b ∧ GlC C.toList b (l.map rwOf) ∧ MapW w' b ((l.map rwOf).map Rw.name) ∧ ((l.map rwOf).map Rw.name).Nodup) ∧ Below w.heap.size w w'
set_option maxRecDepth 100000 in
set_option maxHeartbeats 2000000 in
theorem gof_many (ao : Option Addr) (cap : Nat) (l : List Glb) (w : World) (hl : l.length ≤ 1048576) (hm : 60 < l.length) :
    Calls Try.prog 48 #[.slice ao l.length cap] w fun e w' => AnsGl w l 2 e w' := by
  have hm' : (60 : Int) < (l.length : Int) := by omega
  have hbz := buildZ
  have HT : Hid ((w.alloc (.cells Try.zeroCells79 79)).there w.heap.size 0 Try.zeroCells79.size) := by rw [show Try.zeroCells79.size = 301 by simp]; exact there_new w _ _ (by simp)
  obtain ⟨W, hW⟩ : ∃ W, W = (w.alloc (.cells Try.zeroCells79 79)).setCells w.heap.size 0 Try.zeroCells79.toList := ⟨_, rfl⟩
  have hld : (loadVar 79 ⟨w.heap.size, 0, none⟩).run Try.prog W = .ok (.agg Try.zeroCells79) W := by
    have h := loadGl W w.heap.size Try.zeroCells79.toList zc_len (by rw [hW]; exact World.rangeAt_setCells_same _ _ _ _ (by rw [show Try.zeroCells79.toList.length = 301 by simp]; exact there_new w _ _ (by simp)))
    rw [Array.toArray_toList] at h
    exact h
  have HB : Hid (Below w.heap.size w W) := by rw [hW]; exact below_setCells ((Below.refl _ _).alloc (Nat.le_refl _) _) (Nat.le_refl _) _ _
  have HW : Hid (W = (w.alloc (.cells Try.zeroCells79 79)).setCells w.heap.size 0 Try.zeroCells79.toList) := hW
  clear hW
  go_enter Try.func48, Try.ntmps48
  go_wp2_with (refine wpList_store_mid rfl 79 _ _ rfl w.heap.size 0 Try.zeroCells79 rfl rfl HT.out (by rw [infoGl]; simp) zc_all ?_; rw [← HW.out])
  refine bodyPost_ret (v := .tuple #[.agg Try.zeroCells79, .int .i64 2]) ?_ rfl ⟨Try.zeroCells79, rfl, by simp, zc_all, fun e => absurd e (by decide), HB.out⟩
  rw [results_cell_tmp rfl]
  simp [asAddr, Result.andThen, hld]
theorem goneG_of (l : List Glb) (k : Nat) (t : Glb) (h : goneR t ≠ 0) : goneG l k t = goneR t := by
  unfold goneR at h ⊢
  unfold goneG symC at *
  by_cases h1 : symL t.name.data.toList = true
  · rw [if_pos h1] at h ⊢
    rw [if_neg (by rw [h1]; simp)]
    simp only [ne_eq, not_true_eq_false, if_false] at h ⊢
    by_cases h2 : vfault t.value = 0
    · simp only [h2, not_true_eq_false, if_false] at h ⊢
      by_cases h3 : 1 ≤ t.ver ∧ t.ver ≤ 99999
      · rw [if_pos h3] at h; exact absurd rfl h
      · rw [if_neg h3, if_pos h3]
    · simp only [h2, not_false_eq_true, if_true]
  · have h1' : symL t.name.data.toList = false := by simpa using h1
    rw [if_neg h1, if_pos h1']; rfl
theorem goneG_zero_of (l : List Glb) (k : Nat) (t : Glb) (h : goneR t = 0) : symL t.name.data.toList = true ∧ goneG l k t = if (atG (l.take k) t.name).isSome = true then 1 else 0 := by
  unfold goneR symC at h
  unfold goneG
  by_cases h1 : symL t.name.data.toList = true
  · rw [if_pos h1] at h
    simp only [ne_eq, not_true_eq_false, if_false] at h
    refine ⟨h1, ?_⟩
    rw [if_neg (by rw [h1]; simp)]
    by_cases h2 : vfault t.value = 0
    · simp only [h2, ne_eq, not_true_eq_false, if_false] at h ⊢
      by_cases h3 : 1 ≤ t.ver ∧ t.ver ≤ 99999
      · rw [if_neg (by simpa using h3)]
      · rw [if_neg h3] at h; exact absurd h (by decide)
    · rw [if_pos h2] at h; exact absurd h h2
  · rw [if_neg h1] at h; simp at h
/-- A name stands among the first ones, or not. -/
theorem names_hit (l : List Glb) (k j : Nat) (s : ByteArray) (h : atG (l.take k) s = some j) : ∃ hj : j < ((l.take k).map rwOf).length, (((l.take k).map rwOf)[j]'hj).name = nW s := by
  obtain ⟨hj, h1, _⟩ := atG_some h
  exact ⟨by simpa using hj, by simp only [List.getElem_map, rwOf, h1]⟩
theorem names_miss (l : List Glb) (k : Nat) (s : ByteArray) (F : GFine l k) (hk : k ≤ l.length) (hs : symL s.data.toList = true) (h : atG (l.take k) s = none) : nW s ∉ ((l.take k).map rwOf).map Rw.name := by
  intro hm
  rw [List.map_map] at hm
  obtain ⟨t, ht, he⟩ := List.mem_map.1 hm
  obtain ⟨j, hj, rfl⟩ := List.getElem_of_mem ht
  have hjk : j < k := by rw [List.length_take] at hj; omega
  have hjl : j < l.length := by omega
  have hsy := F.sym j hjl hjk
  rw [List.getElem_take] at he
  have := nW_inj hsy hs he
  exact atG_none.1 h j hj (by rw [List.getElem_take]; exact this)
theorem rows_take (l : List Glb) (k : Nat) (h : k < l.length) : (l.take (k + 1)).map rwOf = (l.take k).map rwOf ++ [rwOf (l[k]'h)] := by
  rw [takeG l k h, List.map_append]; rfl
set_option maxRecDepth 100000 in
set_option maxHeartbeats 4000000 in
theorem gof_few (ao : Option Addr) (cap g : Nat) (l : List Glb) (w : World) (hm : ¬ 60 < l.length) (hao : 0 < l.length → ao = some ⟨g, 0, none⟩) (hr : RowG w g l) (hz : ableG l) :
    Calls Try.prog 48 #[.slice ao l.length cap] w fun e w' => AnsGl w l (globFault l) e w' := by
  obtain ⟨R, hR⟩ : ∃ R, R = globFault l := ⟨_, rfl⟩
  rw [← hR]
  have HF : Hid (R = globFrom l 0 (l.drop 0)) := by show R = _; rw [hR, globFault, if_neg hm]; rfl
  have HP : Hid (RowG w g l) := hr
  have HZ : Hid (ableG l) := hz
  have HA : Hid (0 < l.length → ao = some ⟨g, 0, none⟩) := hao
  clear hR hr hz hao
  have hm' : ¬ (60 : Int) < (l.length : Int) := by omega
  have hbz := buildZ
  have hmk := makeMapW
  have HT0 : Hid ((((w.alloc (.cells Try.zeroCells79 79)).alloc (.map #[] 0)).alloc (.cells Try.zeroCells79 79)).there (w.heap.size + 2) 0 ((Try.zeroCells79.setIfInBounds 0 (.map (some (w.heap.size + 1))))).size) := by
    rw [zb_size]
    have := there_new ((w.alloc (.cells Try.zeroCells79 79)).alloc (.map #[] 0)) Try.zeroCells79 79 (by simp)
    rwa [show ((w.alloc (.cells Try.zeroCells79 79)).alloc (.map #[] 0)).heap.size = w.heap.size + 2 by simp] at this
  obtain ⟨W, hW⟩ : ∃ W, W = (((w.alloc (.cells Try.zeroCells79 79)).alloc (.map #[] 0)).alloc (.cells Try.zeroCells79 79)).setCells (w.heap.size + 2) 0 ((Try.zeroCells79.setIfInBounds 0 (.map (some (w.heap.size + 1))))).toList := ⟨_, rfl⟩
  have HW : Hid (W = (((w.alloc (.cells Try.zeroCells79 79)).alloc (.map #[] 0)).alloc (.cells Try.zeroCells79 79)).setCells (w.heap.size + 2) 0 ((Try.zeroCells79.setIfInBounds 0 (.map (some (w.heap.size + 1))))).toList) := hW
  have HS : Hid (GlAt W (w.heap.size + 2) (w.heap.size + 1) ((l.take 0).map rwOf) ∧ W.there w.heap.size 0 301 ∧ Below w.heap.size w W) := by
    have hbel : Below (w.heap.size + 2) ((w.alloc (.cells Try.zeroCells79 79)).alloc (.map #[] 0)) W := by
      rw [hW]
      exact below_setCells ((Below.refl _ _).alloc (by simp) _) (Nat.le_refl _) _ _
    have hbel' : Below ((w.alloc (.cells Try.zeroCells79 79)).alloc (.map #[] 0)).heap.size ((w.alloc (.cells Try.zeroCells79 79)).alloc (.map #[] 0)) W := by simpa using hbel
    have hm0 : MapW ((w.alloc (.cells Try.zeroCells79 79)).alloc (.map #[] 0)) (w.heap.size + 1) [] := by
      have := MapW.made (w.alloc (.cells Try.zeroCells79 79))
      rwa [show (w.alloc (.cells Try.zeroCells79 79)).heap.size = w.heap.size + 1 by simp] at this
    refine ⟨⟨by omega, by simpa using hm0.below hbel', by simp, fun j => ?_, ((Try.zeroCells79.setIfInBounds 0 (.map (some (w.heap.size + 1))))).toList, ?_, ?_⟩, ?_, ?_⟩
    · rw [hW, World.frozen?_setCells, World.frozen?_alloc_at _ _ _ _ (by simp)]
    · rw [hW]; exact World.rangeAt_setCells_same _ _ _ _ (by rw [Array.length_toList]; exact HT0.out)
    · exact zb_gl _
    · refine there_below ?_ hbel'
      exact World.there_alloc (there_new w _ _ (by simp)) _
    · exact Below.trans (((Below.refl _ _).alloc (Nat.le_refl _) _).alloc (by simp) _) (hbel.mono (by omega))
  clear hW
  go_enter Try.func48, Try.ntmps48
  go_wp2_with (refine wpList_store_mid rfl 79 _ _ rfl (w.heap.size + 2) 0 (Try.zeroCells79.setIfInBounds 0 (.map (some (w.heap.size + 1)))) rfl rfl HT0.out (by rw [infoGl, zb_size]) (zb_all _) ?_; rw [← HW.out])
  go_loopw [21] (fun i wr => ∃ k : Nat, k ≤ l.length ∧ i = .int .i64 (k : Int) ∧ Hid (R = globFrom l k (l.drop k)) ∧ Hid (GFine l k) ∧ Hid (GlAt wr (w.heap.size + 2) (w.heap.size + 1) ((l.take k).map rwOf) ∧ wr.there w.heap.size 0 301 ∧ Below w.heap.size w wr)) (fun i _ => l.length - (RowKit.intOf i).toNat)
  case atStart => exact ⟨0, Nat.zero_le _, rfl, HF.out, GFine.zero l, HS.out⟩
  case round =>
    clear HS HW HT0 HF hmk
    obtain ⟨k, hk, rfl, HK, HGF, HH⟩ := hrel
    by_cases hlt : k < l.length
    · obtain rfl := HA.out (by omega)
      have hrow := HP.out.below HH.out.2.2 k hlt
      obtain ⟨t, ht⟩ : ∃ t, t = l[k]'hlt := ⟨_, rfl⟩
      rw [← ht] at hrow
      obtain ⟨a0, a1, a2, a3, a4⟩ := hrow
      have hzt : t.able := by rw [ht]; exact HZ.out k hlt
      obtain ⟨c0, hc0⟩ : ∃ c, c = goneR t := ⟨_, rfl⟩
      have HC0 : Hid (∀ w, Calls Try.prog 75 #[t.val] w fun e w' => (∃ r : Rw, e = .returned (.tuple #[r.val, .int .i64 c0]) ∧ (c0 = 0 → r = rwOf t)) ∧ Below w.heap.size w w') := fun w => by rw [hc0]; exact rowOf_any t w hzt
      have HX : Hid (t = l[k]'hlt ∧ c0 = goneR t) := ⟨ht, hc0⟩
      clear ht hc0 hzt
      have zw := HH.out.2.2.size
      go_wp2_with fail
      refine (HC0.out _).mono ?_
      rintro e w1 ⟨⟨r, rfl, hr0⟩, hb1⟩
      have HR0 : Hid (c0 = 0 → r = rwOf t) := hr0
      have BX1 : Hid (Below wr.heap.size wr w1) := ((Below.refl _ _).alloc (Nat.le_refl _) _).trans (hb1.mono (by simp))
      have z1 : wr.heap.size < w1.heap.size := by have := hb1.size; simp at this; omega
      clear hb1 hr0 a0 a1 a2 a3 a4
      by_cases h0 : c0 = 0
      case neg =>
        have HE : Hid (R = c0 ∧ c0 ≠ 0) := by
          obtain ⟨e1, e2⟩ := HX.out
          have e : goneG l k (l[k]'hlt) = c0 := by rw [← e1, e2]; exact goneG_of l k t (by rw [← e2]; exact h0)
          exact ⟨by rw [HK.out, globFrom_bad l k hlt (by rw [e]; exact h0), e], h0⟩
        have h0' : (c0 != 0) = true := by simpa using h0
        have HTu : Hid (∀ o, (w1.alloc o).there w.heap.size 0 Try.zeroCells79.size) := fun o => by rw [show Try.zeroCells79.size = 301 by simp]; exact World.there_alloc (there_below HH.out.2.1 BX1.out) o
        have HBu : Hid (∀ o, Below w.heap.size w ((w1.alloc o).setCells w.heap.size 0 Try.zeroCells79.toList)) := fun o => below_setCells ((HH.out.2.2.trans (BX1.out.mono zw)).alloc (by omega) o) (Nat.le_refl _) _ _
        clear HK h0 HX HGF HH HP HZ HC0 HR0
        go_wp2_with (refine wpList_store_mid rfl 79 _ _ rfl w.heap.size 0 Try.zeroCells79 rfl rfl (HTu.out _) (by rw [infoGl]; simp) zc_all ?_)
        refine bodyPost_ret (v := .tuple #[.agg Try.zeroCells79, .int .i64 c0]) ?_ rfl ⟨Try.zeroCells79, by rw [HE.out.1], by simp, zc_all, fun e => absurd (HE.out.1 ▸ e) HE.out.2, HBu.out _⟩
        rw [results_cell_tmp rfl]
        simp only [Array.getD_eq_getD_getElem?, List.getElem?_toArray, List.getElem?_cons_succ, List.getElem?_cons_zero, Option.getD_some, asAddr, Sem.run_pure, Result.andThen_ok]
        rw [ldSet _ _ _ (by simp) (by have := HTu.out; rw [show Try.zeroCells79.size = 301 by simp] at this; exact this _)]
        rfl
      subst h0
      obtain rfl : r = rwOf t := HR0.out rfl
      clear HR0
      obtain ⟨ok, hok⟩ : ∃ ok, ok = (atG (l.take k) t.name).isSome := ⟨_, rfl⟩
      have hsy : symL t.name.data.toList = true := (goneG_zero_of l k t HX.out.2.symm).1
      have HFd : Hid (∀ u, Below wr.heap.size wr u → Calls Try.prog 46 #[.pointer (some ⟨w.heap.size + 2, 0, none⟩), (rwOf t).name.val] u fun e w' => (∃ q : Rw, e = .returned (.tuple #[q.val, .bool ok])) ∧ Below u.heap.size u w') := fun u hu => by
        cases hat : atG (l.take k) t.name with
        | none =>
          rw [hok, hat]
          refine (find_miss _ _ _ (nW t.name) u (HH.out.1.below hu) (nW_fit hsy) (names_miss l k t.name HGF.out hk hsy hat)).mono ?_
          rintro e w' ⟨rfl, hb⟩
          exact ⟨⟨_, rfl⟩, hb⟩
        | some j =>
          rw [hok, hat]
          obtain ⟨hj, hn⟩ := names_hit l k j t.name hat
          have h := find_hit _ _ _ j hj u (HH.out.1.below hu)
          rw [hn] at h
          refine h.mono ?_
          rintro e w' ⟨rfl, hb⟩
          exact ⟨⟨_, rfl⟩, hb⟩
      have HOK : Hid (ok = (atG (l.take k) t.name).isSome ∧ symL t.name.data.toList = true) := ⟨hok, hsy⟩
      clear hok hsy
      go_wp2_with fail
      refine (HFd.out _ (BX1.out.alloc (by omega) _)).mono ?_
      rintro e w2 ⟨⟨q, rfl⟩, hb2⟩
      obtain ⟨hc2, _⟩ := bcell hb2
      have d0 : w2.cell? ⟨w1.heap.size, 0, none⟩ = some (.int .u8 (rwOf t).name.tag) := by rw [hc2 _ _ (by simp), World.cell?_alloc_at _ _ _ _ rfl]; rfl
      have d1 : w2.cell? ⟨w1.heap.size, 1, none⟩ = some (.int .u64 (rwOf t).name.rest) := by rw [hc2 _ _ (by simp), World.cell?_alloc_at _ _ _ _ rfl]; rfl
      have d2 : w2.cell? ⟨w1.heap.size, 2, none⟩ = some (.int .u8 (rwOf t).value.tag) := by rw [hc2 _ _ (by simp), World.cell?_alloc_at _ _ _ _ rfl]; rfl
      have d3 : w2.cell? ⟨w1.heap.size, 3, none⟩ = some (.int .u64 (rwOf t).value.rest) := by rw [hc2 _ _ (by simp), World.cell?_alloc_at _ _ _ _ rfl]; rfl
      have d4 : w2.cell? ⟨w1.heap.size, 4, none⟩ = some (.int .i64 (rwOf t).ver) := by rw [hc2 _ _ (by simp), World.cell?_alloc_at _ _ _ _ rfl]; rfl
      have z2 : w1.heap.size < w2.heap.size := by have := hb2.size; simp at this; omega
      have BX2 : Hid (Below wr.heap.size wr w2) := (BX1.out.alloc (by omega) _).trans (hb2.mono (by simp; omega))
      clear hb2 hc2 BX1
      cases ok
      case true =>
        have HE : Hid (R = 1) := by
          obtain ⟨e1, e2⟩ := HX.out
          have e : goneG l k (l[k]'hlt) = 1 := by rw [← e1, (goneG_zero_of l k t e2.symm).2, if_pos HOK.out.1.symm]
          show R = 1; rw [HK.out, globFrom_bad l k hlt (by rw [e]; decide), e]
        have HTu : Hid (∀ o, (w2.alloc o).there w.heap.size 0 Try.zeroCells79.size) := fun o => by rw [show Try.zeroCells79.size = 301 by simp]; exact World.there_alloc (there_below HH.out.2.1 BX2.out) o
        have HBu : Hid (∀ o, Below w.heap.size w ((w2.alloc o).setCells w.heap.size 0 Try.zeroCells79.toList)) := fun o => below_setCells ((HH.out.2.2.trans (BX2.out.mono zw)).alloc (by omega) o) (Nat.le_refl _) _ _
        clear HK HX HGF HH HP HZ HC0 HOK HFd
        go_wp2_with (refine wpList_store_mid rfl 79 _ _ rfl w.heap.size 0 Try.zeroCells79 rfl rfl (HTu.out _) (by rw [infoGl]; simp) zc_all ?_)
        refine bodyPost_ret (v := .tuple #[.agg Try.zeroCells79, .int .i64 1]) ?_ rfl ⟨Try.zeroCells79, by rw [HE.out], by simp, zc_all, fun e => absurd (HE.out ▸ e) (by decide), HBu.out _⟩
        rw [results_cell_tmp rfl]
        simp only [Array.getD_eq_getD_getElem?, List.getElem?_toArray, List.getElem?_cons_succ, List.getElem?_cons_zero, Option.getD_some, asAddr, Sem.run_pure, Result.andThen_ok]
        rw [ldSet _ _ _ (by simp) (by have := HTu.out; rw [show Try.zeroCells79.size = 301 by simp] at this; exact this _)]
        rfl
      have hat : atG (l.take k) t.name = none := by
        have := HOK.out.1
        cases h : atG (l.take k) t.name with
        | none => rfl
        | some j => rw [h] at this; cases this
      have HAd : Hid (∀ u, Below wr.heap.size wr u → Calls Try.prog 68 #[.pointer (some ⟨w.heap.size + 2, 0, none⟩), (rwOf t).val] u fun e w' => e = .returned (.tuple #[]) ∧ GlAt w' (w.heap.size + 2) (w.heap.size + 1) ((l.take k).map rwOf ++ [rwOf t]) ∧ (∀ B, B ≤ w.heap.size + 2 → B ≤ w.heap.size + 1 → Below B u w')) := fun u hu =>
        add_any _ _ _ (rwOf t) u (HH.out.1.below hu) (nW_fit HOK.out.2) (names_miss l k t.name HGF.out hk HOK.out.2 hat) (by rw [List.length_map, List.length_take]; omega)
      have HE : Hid (R = globFrom l (k + 1) (l.drop (k + 1)) ∧ GFine l (k + 1) ∧ (l.take (k + 1)).map rwOf = (l.take k).map rwOf ++ [rwOf t]) := by
        obtain ⟨e1, e2⟩ := HX.out
        have e : goneG l k (l[k]'hlt) = 0 := by rw [← e1, (goneG_zero_of l k t e2.symm).2, hat]; rfl
        exact ⟨by rw [HK.out, globFrom_ok l k hlt e], HGF.out.next hlt e, by rw [rows_take l k hlt, ← e1]⟩
      clear HK HX HGF HOK HFd hat
      go_wp2_with fail
      refine (HAd.out _ (BX2.out.alloc (by omega) _)).mono ?_
      rintro e w3 ⟨rfl, hg3, hb3⟩
      have HN : Hid (GlAt w3 (w.heap.size + 2) (w.heap.size + 1) ((l.take (k + 1)).map rwOf) ∧ w3.there w.heap.size 0 301 ∧ Below w.heap.size w w3) := by
        have hb := hb3 (w.heap.size + 1) (by omega) (Nat.le_refl _)
        refine ⟨by rw [HE.out.2.2]; exact hg3, there_same (hb.block w.heap.size (by omega)) (World.there_alloc (there_below HH.out.2.1 BX2.out) _), ?_⟩
        exact ((HH.out.2.2.trans (BX2.out.mono zw)).alloc (by omega) _).trans (hb.mono (by omega))
      clear hg3 hb3 d0 d1 d2 d3 d4
      go_wp2
      exact ⟨⟨k + 1, by omega, by go_num, HE.out.1, HE.out.2.1, HN.out⟩, by simp [RowKit.intOf]; omega⟩
    · have hkl : k = l.length := by omega
      subst hkl
      have HE : Hid (R = 0) := by show R = 0; rw [HK.out, globFrom_end l l.length (Nat.le_refl _)]
      obtain ⟨C, hC, hgl⟩ := HH.out.1.cells
      have HC : Hid (wr.rangeAt (w.heap.size + 2) 0 C) := hC
      have HGL : Hid (GlC C (w.heap.size + 1) (l.map rwOf)) := by rw [List.take_length] at hgl; exact hgl
      have HCs : Hid (C.toArray.size = 301) := by show C.toArray.size = 301; simp [hgl.len]
      have HCa : Hid (C.toArray.all (·.oneCell') = true) := all_oneCell_toArray hgl.one
      have HTu : Hid (wr.there w.heap.size 0 C.toArray.size) := by rw [HCs.out]; exact HH.out.2.1
      clear HK hC hgl HGF
      go_wp2_with (first | (refine wpList_load_mid rfl 79 _ rfl (w.heap.size + 2) 0 rfl C _ HC.out Try.underlying79 rfl (by rw [infoGl]; have := HCs.out; simp at this; rw [this]) ?_) | (refine wpList_store_mid rfl 79 _ _ rfl w.heap.size 0 C.toArray rfl rfl HTu.out (by rw [infoGl, HCs.out]) HCa.out ?_))
      refine bodyPost_ret (v := .tuple #[.agg C.toArray, .int .i64 0]) ?_ rfl ⟨C.toArray, by rw [HE.out], HCs.out, HCa.out, fun _ => ⟨w.heap.size + 1, by omega, by simpa using HGL.out, ?_, ?_⟩, ?_⟩
      · rw [results_cell_tmp rfl]
        simp only [Array.getD_eq_getD_getElem?, List.getElem?_toArray, List.getElem?_cons_succ, List.getElem?_cons_zero, Option.getD_some, asAddr, Sem.run_pure, Result.andThen_ok]
        rw [ldSet _ _ _ HCs.out HH.out.2.1]
        rfl
      · have := HH.out.1.map
        rw [List.take_length] at this
        exact this.keep (heap_setCells (by omega) _ _ _)
      · have := HH.out.1.dup
        rw [List.take_length] at this
        exact this
      · exact below_setCells HH.out.2.2 (Nat.le_refl _) _ _
theorem globalsOf_any (ao : Option Addr) (cap g : Nat) (l : List Glb) (w : World) (hl : l.length ≤ 1048576) (hao : 0 < l.length → ao = some ⟨g, 0, none⟩) (hr : RowG w g l) (hz : ableG l) :
    Calls Try.prog 48 #[.slice ao l.length cap] w fun e w' => AnsGl w l (globFault l) e w' := by
  by_cases hm : 60 < l.length
  · have h := gof_many ao cap l w hl hm
    have e : globFault l = 2 := by rw [globFault, if_pos hm]
    rw [e]; exact h
  · exact gof_few ao cap g l w hm hao hr hz
set_option maxHeartbeats 1000000 in
theorem implGF_any (ao : Option Addr) (cap g : Nat) (l : List Glb) (w : World) (hl : l.length ≤ 1048576) (hao : 0 < l.length → ao = some ⟨g, 0, none⟩) (hr : RowG w g l) (hz : ableG l) :
    Calls Try.prog 15 #[.slice ao l.length cap] w fun e w' => e = .returned (.int .i64 (globFault l)) ∧ Below w.heap.size w w' := by
  obtain ⟨R, hR⟩ : ∃ R, R = globFault l := ⟨_, rfl⟩
  have HC : Hid (∀ u, u = w → Calls Try.prog 48 #[.slice ao l.length cap] u fun e w' => AnsGl w l R e w') := fun u hu => by rw [hR, hu]; exact globalsOf_any ao cap g l w hl hao hr hz
  rw [← hR]
  clear hR hl hao hr hz
  go_enter Try.func15, Try.ntmps15
  go_wp2_with fail
  refine (HC.out _ rfl).mono ?_
  rintro e w1 ⟨C, rfl, hCs, hCa, _, hb⟩
  have HB : Hid (Below w.heap.size w ((w1.alloc (.cells Try.zeroCells79 79)).setCells w1.heap.size 0 C.toList)) := below_setCells (hb.alloc hb.size _) hb.size _ _
  have HT : Hid ((w1.alloc (.cells Try.zeroCells79 79)).there w1.heap.size 0 C.size) := by rw [hCs]; exact there_new w1 _ _ (by simp)
  have HCa : Hid (C.all (·.oneCell') = true) := hCa
  clear hb hCa
  go_wp2_with (refine wpList_store_mid rfl 79 _ _ rfl w1.heap.size 0 C rfl rfl HT.out (by rw [infoGl, hCs]) HCa.out ?_)
  go_ret
  exact ⟨rfl, HB.out⟩
end Go.Proofs.Ytgfienijabkpjaa
