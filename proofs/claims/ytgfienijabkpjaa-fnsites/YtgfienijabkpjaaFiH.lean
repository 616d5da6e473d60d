/-
  Parts of the proof laid into one text, one behind the other; each says at its head what is proved in it.
-/
import Derived.Test.YtgfienijabkpjaaFiB
import Derived.Test.YtgfienijabkpjaaFiE
import Derived.Test.YtgfienijabkpjaaFiD
import Derived.Test.YtgfienijabkpjaaFiA
import Derived.Test.YtgfienijabkpjaaImplLG
import Derived.Test.YtgfienijabkpjaaFiG
import Derived.Test.YtgfienijabkpjaaFiF
/-
  The model's DrawFetchSite: globals in a row of their own, a name, a site; nothing that was there is turned.
-/
namespace Go.Proofs.Ytgfienijabkpjaa
open Go.RowKit Go.Extern.Stop Go.Stop Go.Extern Num Go.Lib

/-- A box that holds a site. -/
structure StA (x : Nat) (t : Ste) (u : World) : Prop where
  c0 : u.cell? ⟨x, 0, none⟩ = some (.int .i64 t.ver)
  c1 : u.cell? ⟨x, 1, none⟩ = some (.int .i64 t.value.kind)
  c2 : u.cell? ⟨x, 2, none⟩ = some (.int .i64 t.value.num)
  c3 : u.cell? ⟨x, 3, none⟩ = some (.string t.value.name)
  ff : ∀ o, u.frozen? ⟨x, o, none⟩ = false
theorem StA.below {x : Nat} {t : Ste} {u v : World} (h : StA x t u) (hb : Below u.heap.size u v) : StA x t v := ⟨cell_keep hb h.c0, cell_keep hb h.c1, cell_keep hb h.c2, cell_keep hb h.c3, fun o => by rw [(bcell hb).2 _ _ (lt_of_cell h.c0)]; exact h.ff o⟩
theorem StA.only {x b : Nat} {t : Ste} {u v : World} (h : StA x t u) (o : Only b u v) (hx : x ≠ b) : StA x t v := by
  have hl : x < u.heap.size := lt_of_cell h.c0
  have e : ∀ j, v.cell? ⟨x, j, none⟩ = u.cell? ⟨x, j, none⟩ := fun j => o.cell (p := ⟨x, j, none⟩) hl hx
  exact ⟨(e 0).trans h.c0, (e 1).trans h.c1, (e 2).trans h.c2, (e 3).trans h.c3, fun j => (o.frozen (p := ⟨x, j, none⟩) hl hx).trans (h.ff j)⟩
theorem stA_new (u : World) (t : Ste) (T : TypeId) : StA u.heap.size t (u.alloc (.cells #[.int .i64 t.ver, .int .i64 t.value.kind, .int .i64 t.value.num, .string t.value.name] T)) :=
  ⟨by rw [World.cell?_alloc_at _ _ _ _ rfl]; rfl, by rw [World.cell?_alloc_at _ _ _ _ rfl]; rfl, by rw [World.cell?_alloc_at _ _ _ _ rfl]; rfl, by rw [World.cell?_alloc_at _ _ _ _ rfl]; rfl, fun o => by rw [World.frozen?_alloc_at _ _ _ _ rfl]⟩
theorem StA.ver {x : Nat} {t : Ste} {u : World} (h : StA x t u) (n : Int) : StA x ⟨n, t.value⟩ (u.setCell ⟨x, 0, none⟩ (.int .i64 n)) :=
  ⟨by rw [World.cell?_setCell_same _ _ _ h.c0], by rw [World.cell?_setCell_other _ _ _ _ (by simp)]; exact h.c1, by rw [World.cell?_setCell_other _ _ _ _ (by simp)]; exact h.c2, by rw [World.cell?_setCell_other _ _ _ _ (by simp)]; exact h.c3, fun o => by rw [World.frozen?_setCell]; exact h.ff o⟩
theorem StA.value {x : Nat} {t : Ste} {u : World} (h : StA x t u) (v : Vlu) : StA x ⟨t.ver, v⟩ (((u.setCell ⟨x, 1, none⟩ (.int .i64 v.kind)).setCell ⟨x, 2, none⟩ (.int .i64 v.num)).setCell ⟨x, 3, none⟩ (.string v.name)) := by
  have o : ∀ (q : World) (i j : Nat) (y : Value), i ≠ j → (q.setCell ⟨x, i, none⟩ y).cell? ⟨x, j, none⟩ = q.cell? ⟨x, j, none⟩ := fun q i j y h => World.cell?_setCell_other _ _ _ _ (fun e => h (by injection e))
  refine ⟨?_, ?_, ?_, ?_, fun j => by rw [World.frozen?_setCell, World.frozen?_setCell, World.frozen?_setCell]; exact h.ff j⟩
  · rw [o _ 3 0 _ (by decide), o _ 2 0 _ (by decide), o _ 1 0 _ (by decide)]; exact h.c0
  · rw [o _ 3 1 _ (by decide), o _ 2 1 _ (by decide), World.cell?_setCell_same _ _ _ h.c1]
  · rw [o _ 3 2 _ (by decide), World.cell?_setCell_same _ _ _ (by rw [o _ 1 2 _ (by decide)]; exact h.c2)]
  · rw [World.cell?_setCell_same _ _ _ (by rw [o _ 2 3 _ (by decide), o _ 1 3 _ (by decide)]; exact h.c3)]
theorem StA.whole {x : Nat} {t : Ste} {u : World} (h : StA x t u) (t' : Ste) : StA x t' ((((u.setCell ⟨x, 0, none⟩ (.int .i64 t'.ver)).setCell ⟨x, 1, none⟩ (.int .i64 t'.value.kind)).setCell ⟨x, 2, none⟩ (.int .i64 t'.value.num)).setCell ⟨x, 3, none⟩ (.string t'.value.name)) := (h.ver t'.ver).value t'.value
/-- The box of the answer's site, as it was laid. -/
abbrev sZ : Ste := ⟨0, ⟨0, 0, ⟨#[]⟩⟩⟩
/-- What is drawn for FetchSite. -/
def DsRes (w : World) (e : Ending) (w' : World) : Prop :=
  ∃ (ao c : Nat) (l : List Glb) (s : ByteArray) (t : Ste), e = .returned (.tuple #[.slice (some ⟨ao, 0, none⟩) l.length c, .string s, t.val]) ∧ World.ownsRow w' w.heap.size 33 5 (.slice (some ⟨ao, 0, none⟩) l.length c) l.length (cellsG l) ∧ ShortG l ∧ 1 ≤ l.length ∧ l.length ≤ 61 ∧ s.size ≤ 20 ∧ t.value.name.size ≤ 20 ∧ Below w.heap.size w w'
/-- What lies there while a site is drawn. -/
structure DsW (w w1 : World) (ao c : Nat) (l : List Glb) (ca : Option Addr) (len cap : Nat) (k : Int) (sb : Nat) (t : Ste) (u : World) : Prop where
  src : SrcAt u (w.heap.size + 1) ca len cap k
  row : World.ownsRow u w1.heap.size 33 5 (.slice (some ⟨ao, 0, none⟩) l.length c) l.length (cellsG l)
  box : StA sb t u
  res : StA w.heap.size sZ u
  old : Below w.heap.size w u
theorem DsW.only {w w1 u u' : World} {ao c len cap sb : Nat} {l : List Glb} {ca : Option Addr} {k k' : Int} {t : Ste} (h : DsW w w1 ao c l ca len cap k sb t u) (o : Only (w.heap.size + 1) u u') (hs : SrcAt u' (w.heap.size + 1) ca len cap k') (hb : w.heap.size + 1 < w1.heap.size) (hsb : w.heap.size + 1 < sb) : DsW w w1 ao c l ca len cap k' sb t u' :=
  ⟨hs, own_onlyG h.row o hb, h.box.only o (by omega), h.res.only o (by omega), h.old.trans (o.below (by omega) h.old.size)⟩
theorem DsW.below {w w1 u u' : World} {ao c len cap sb : Nat} {l : List Glb} {ca : Option Addr} {k : Int} {t : Ste} (h : DsW w w1 ao c l ca len cap k sb t u) (hb : Below u.heap.size u u') : DsW w w1 ao c l ca len cap k sb t u' :=
  ⟨h.src.below hb, own_below h.row hb, h.box.below hb, h.res.below hb, h.old.trans (hb.mono h.old.size)⟩
theorem DsW.put {w w1 u u' : World} {ao c len cap sb : Nat} {l : List Glb} {ca : Option Addr} {k : Int} {t t' : Ste} (h : DsW w w1 ao c l ca len cap k sb t u) (hg : u.grownBy u' (some sb)) (hbx : StA sb t' u') (hsb : w.heap.size + 1 < sb) (hao : ao < sb) (hc : ∀ cb co, ca = some ⟨cb, co, none⟩ → 0 < len → cb ≠ sb) (hf : ∀ o, u'.frozen? ⟨w.heap.size, o, none⟩ = false) : DsW w w1 ao c l ca len cap k sb t' u' :=
  ⟨h.src.keep sb (fun i hi hix => hg.block i hi (by simpa using hix)) (by omega) hc, own_apart h.row hg (fun g hg' e => by have h1 : ao = g := (by simpa [Value.ownBlock] using hg'); have h2 := Option.some.inj e; omega), hbx, ⟨hg.cell h.res.c0 (by simp; omega), hg.cell h.res.c1 (by simp; omega), hg.cell h.res.c2 (by simp; omega), hg.cell h.res.c3 (by simp; omega), hf⟩, h.old.trans (below_of_grown hg h.old.size (fun i hi => by have := Option.some.inj hi; omega))⟩
set_option maxRecDepth 100000 in
set_option maxHeartbeats 8000000 in
theorem drawDS_any (w : World) (ca : Option Addr) (len cap : Nat) (h : Bytes w ca len) (hmax : (len : Int) ≤ 9223372036854775807) :
    Calls Try.prog 16 #[.slice ca len cap] w fun e w' => DsRes w e w' := by
  have HBy : Hid (Bytes w ca len) := h
  clear h
  go_enter Try.func16, Try.ntmps16
  go_wp2_with fail
  refine (source_any _ ca len cap (HBy.out.below ((Below.refl _ _).alloc (Nat.le_refl _) _))).mono ?_
  rintro e w1 ⟨rfl, h1, b1⟩
  simp only [World.size_alloc] at h1 b1 ⊢
  have hlt := h1.lt
  have hcode := h1.code
  have hb1' : Below (w.alloc (.cells #[.int .i64 0, .int .i64 0, .int .i64 0, .string ⟨#[]⟩] 39)).heap.size (w.alloc (.cells #[.int .i64 0, .int .i64 0, .int .i64 0, .string ⟨#[]⟩] 39)) w1 := by simpa using b1
  have ZZ : Hid (StA w.heap.size sZ w1) := (stA_new w sZ 39).below hb1'
  have HB1 : Hid (Below w.heap.size w w1) := ((Below.refl _ _).alloc (Nat.le_refl _) _).trans (b1.mono (by omega))
  clear b1 hb1'
  go_wp2_with fail
  refine (l7Bent_any w1 w1.heap.size (w.heap.size + 1) ca len cap hlt hcode (Nat.le_refl _) hmax 0 h1 (by omega) (by omega)).mono ?_
  rintro e w2 ⟨ao, c, l, k2, rfl, ho, hn, hl1, hl2, kk1, kk2, hs2, hb2⟩
  have HO2 : Hid (World.ownsRow w2 w1.heap.size 33 5 (.slice (some ⟨ao, 0, none⟩) l.length c) l.length (cellsG l)) := ho
  have HN : Hid (ShortG l ∧ 1 ≤ l.length ∧ l.length ≤ 61) := ⟨hn, hl1, hl2⟩
  have HS2 : Hid (SrcAt w2 (w.heap.size + 1) ca len cap k2) := hs2
  have ZZ2 : Hid (StA w.heap.size sZ w2) := by
    have z := ZZ.out
    have cc : ∀ o, w2.cell? ⟨w.heap.size, o, none⟩ = w1.cell? ⟨w.heap.size, o, none⟩ := fun o => hb2.cell (p := ⟨w.heap.size, o, none⟩) (by show w.heap.size < w.heap.size + 1; omega)
    exact ⟨(cc 0).trans z.c0, (cc 1).trans z.c1, (cc 2).trans z.c2, (cc 3).trans z.c3, fun o => (hb2.frozen (p := ⟨w.heap.size, o, none⟩) (by show w.heap.size < w.heap.size + 1; omega)).trans (z.ff o)⟩
  have HB2 : Hid (Below w.heap.size w w2) := HB1.out.trans (hb2.mono (by omega))
  have hao : ao < w2.heap.size := (ho.lt ao rfl).2
  have HCd : Hid (∀ cb co, ca = some ⟨cb, co, none⟩ → 0 < len → cb < w1.heap.size) := hcode
  have z12 : w1.heap.size ≤ w2.heap.size := hb2.size
  clear ho hn hs2 hb2 h1 hcode hl1 hl2
  go_wp2_with fail
  refine (l7Name_any _ _ ca len cap k2 HS2.out hmax (by omega) (by omega)).mono ?_
  rintro e w3 ⟨s, k3, rfl, hs20, k31, k32, h3, o3⟩
  have z23 : w2.heap.size ≤ w3.heap.size := o3.size
  obtain ⟨Y, hY⟩ : ∃ Y, Y = w3.alloc (.cells #[.int .i64 0, .int .i64 0, .int .i64 0, .string ⟨#[]⟩] 39) := ⟨_, rfl⟩
  have HY : Hid (Y = w3.alloc (.cells #[.int .i64 0, .int .i64 0, .int .i64 0, .string ⟨#[]⟩] 39)) := hY
  have hbY : Below w3.heap.size w3 Y := by rw [hY]; exact (Below.refl _ _).alloc (Nat.le_refl _) _
  have HDY : Hid (DsW w w1 ao c l ca len cap k3 w3.heap.size sZ Y) :=
    ⟨h3.below hbY, own_below (own_onlyG HO2.out o3 hlt) hbY, by rw [hY]; exact stA_new w3 sZ _, (ZZ2.out.only o3 (by omega)).below hbY, (HB2.out.trans (o3.below (by omega) HB2.out.size)).trans (hbY.mono (Nat.le_trans HB2.out.size z23))⟩
  have hsb : w.heap.size + 1 < w3.heap.size := by omega
  have hasb : ao < w3.heap.size := by omega
  have HCs : Hid (∀ cb co, ca = some ⟨cb, co, none⟩ → 0 < len → cb ≠ w3.heap.size) := fun cb co e1 e2 => by have := HCd.out cb co e1 e2; omega
  obtain ⟨i0, hi0⟩ : ∃ i, i = atI (atG l s) := ⟨_, rfl⟩
  have HAt : Hid (∀ u, World.ownsRow u w1.heap.size 33 5 (.slice (some ⟨ao, 0, none⟩) l.length c) l.length (cellsG l) → Calls Try.prog 44 #[.slice (some ⟨ao, 0, none⟩) l.length c, .string s] u fun e w' => e = .returned (.int .i64 i0) ∧ w' = u) := fun u hu => by
    rw [hi0]; exact l7At_any _ c ao l s u (by have := HN.out.2.2; omega) (fun _ => rfl) (RowG.of hu)
  have HI : Hid (i0 = atI (atG l s)) := hi0
  clear h3 o3 hY hbY hi0 HO2 ZZ2 HB2 HB1 ZZ HBy HCd
  go_wp2_with fail
  rw [← HY.out]
  refine (HAt.out _ HDY.out.row).mono ?_
  rintro e w4 ⟨rfl, hw4⟩
  replace hw4 := hw4.symm
  subst hw4
  clear HY HAt
  obtain ⟨ve, va, hk3a⟩ : ∃ (ve : Int) (va : Int), k2 ≤ k3 := ⟨0, 0, k31⟩
  clear hk3a ve va
  have k3l : 0 ≤ k3 := by omega
  have k3u : k3 ≤ 1000 := by omega
  clear k31 k32 kk1 kk2
  cases hat : atG l s with
  | none =>
    obtain rfl : i0 = -1 := by rw [HI.out, hat]; rfl
    clear hat HI
    go_wp2_with fail
    refine (next_any _ _ ca len cap (k3) _ HDY.out.src hmax (by omega) (by omega)).mono ?_
    rintro e w6 ⟨r, q, rfl, r0, r1, hw6⟩
    rw [if_neg (by omega)] at r1
    have H6 : Hid (DsW w w1 ao c l ca len cap (k3 + 1) w3.heap.size (sZ) w6) := by
      have o6 : Only (w.heap.size + 1) Y w6 := by rw [hw6]; exact only_next _ _ _ q
      exact HDY.out.only o6 (by rw [hw6]; exact HDY.out.src.next q) hlt hsb
    clear hw6 HDY
    have f6 := H6.out.box.ff
    by_cases c0 : r = 0
    · subst c0
      go_wp2_with fail
      refine (pick_any _ _ w6.heap.size 3 ca len cap (k3 + 1) (H6.out.src.alloc _) hmax (by omega) (by omega) (by have := H6.out.src.lt; omega) (by omega) (by omega) AnyI (cells3 w6 1 3 100000 2)).mono ?_
      rintro e w7 ⟨v, k7, rfl, _, k71, k72, h7, o7⟩
      have H7 : Hid (DsW w w1 ao c l ca len cap k7 w3.heap.size (sZ) w7) := (H6.out.below ((Below.refl _ _).alloc (Nat.le_refl _) _)).only o7 h7 hlt hsb
      have b0 := H7.out.box.c0
      have bf := H7.out.box.ff
      clear h7 o7 H6 f6
      go_wp2_with fail
      clear b0 bf
      have H8 : Hid (DsW w w1 ao c l ca len cap k7 w3.heap.size ⟨v, (sZ).value⟩ (w7.setCell ⟨w3.heap.size, 0, none⟩ (.int .i64 v))) := H7.out.put (gb_set (gb_refl _ _) _) (H7.out.box.ver v) hsb hasb HCs.out (fun o => by rw [World.frozen?_setCell]; exact H7.out.res.ff o)
      have ht20 : (sZ).value.name.size ≤ 20 := Nat.zero_le _
      clear H7
      generalize w7.setCell ⟨w3.heap.size, 0, none⟩ (.int .i64 v) = X at H8 ⊢
      refine wp_region_facts (by kernel_rfl) 5 (fun v => Below X.heap.size X v) (fun u v => Below u.heap.size u v) (fun i a u => match i with | 0 => (fun a u => a = .slice (some ⟨ao, 0, none⟩) l.length c) a u | 1 => (fun a u => a = .string s) a u | 2 => (fun a u => a = (⟨v, (sZ).value⟩ : Ste).val) a u | 3 => (fun a u => a = .slice (some ⟨ao, 0, none⟩) l.length c) a u | 4 => (fun a u => a = .string s) a u | _ => True) (by kernel_rfl) [0, 1, 2, 3, 4] (by kernel_rfl) ?b0 ?bk ?fk ⟨?s0, ?s1, ?s2, ?s3, ?s4, trivial⟩ _ rfl [(0, some 50), (1, some 51), (2, some 52), (3, some 2), (4, some 3)] (by kernel_rfl) ?last
      case b0 => exact Below.drew (Below.refl _ _)
      case bk => exact fun u v h hb => h.trans (hb.mono h.size)
      case fk => intro i a u u' h hb; match i, h with | 0, h => exact (h) | 1, h => exact (h) | 2, h => exact (h) | 3, h => exact (h) | 4, h => exact (h) | _ + 5, _ => exact trivial
      case s0 =>
        refine StepF.of rfl [] (by kernel_rfl) ?_
        intro vs u hB hf K hK
        clear hf
        simp only [putsA, List.foldl_nil, Act.put, List.setIfInBounds_toArray] at hK ⊢
        rw [if_pos (by rfl)]
        go_simp
        exact hK.out _ _ (Below.refl _ _) rfl
      case s1 =>
        refine StepF.of rfl [] (by kernel_rfl) ?_
        intro vs u hB hf K hK
        clear hf
        simp only [putsA, List.foldl_nil, Act.put, List.setIfInBounds_toArray] at hK ⊢
        rw [if_pos (by rfl)]
        go_simp
        exact hK.out _ _ (Below.refl _ _) rfl
      case s2 =>
        refine StepF.of rfl [] (by kernel_rfl) ?_
        intro vs u hB hf K hK
        clear hf
        simp only [putsA, List.foldl_nil, Act.put, List.setIfInBounds_toArray] at hK ⊢
        rw [if_pos (by rfl)]
        have y0 := (H8.out.below hB).box.c0
        have y1 := (H8.out.below hB).box.c1
        have y2 := (H8.out.below hB).box.c2
        have y3 := (H8.out.below hB).box.c3
        go_simp
        exact hK.out _ _ (Below.refl _ _) rfl
      case s3 =>
        refine StepF.of rfl [(0, some 50)] (by kernel_rfl) ?_
        intro vs u hB hf K hK
        have f0 : (fun a u => a = .slice (some ⟨ao, 0, none⟩) l.length c) (vs 0) u := hf.1
        clear hf
        simp only [putsA, List.foldl_cons, List.foldl_nil, Act.put, List.setIfInBounds_toArray, List.set_cons_zero, List.set_cons_succ] at hK ⊢
        generalize vs 0 = v0 at f0 hK ⊢
        rw [if_pos (by rfl)]
        subst f0
        go_simp
        exact hK.out _ _ (Below.refl _ _) rfl
      case s4 =>
        refine StepF.of rfl [(0, some 50), (1, some 51), (3, some 2)] (by kernel_rfl) ?_
        intro vs u hB hf K hK
        have f0 : (fun a u => a = .slice (some ⟨ao, 0, none⟩) l.length c) (vs 0) u := hf.1
        have f1 : (fun a u => a = .string s) (vs 1) u := hf.2.1
        have f3 : (fun a u => a = .slice (some ⟨ao, 0, none⟩) l.length c) (vs 3) u := hf.2.2.1
        clear hf
        simp only [putsA, List.foldl_cons, List.foldl_nil, Act.put, List.setIfInBounds_toArray, List.set_cons_zero, List.set_cons_succ] at hK ⊢
        generalize vs 0 = v0 at f0 hK ⊢
        generalize vs 1 = v1 at f1 hK ⊢
        generalize vs 3 = v3 at f3 hK ⊢
        rw [if_pos (by rfl)]
        subst f1
        clear f0 f3
        go_simp
        exact hK.out _ _ (Below.refl _ _) rfl
      case last =>
        intro vs u hB hf K hK
        have f0 : (fun a u => a = .slice (some ⟨ao, 0, none⟩) l.length c) (vs 0) u := hf.1
        have f1 : (fun a u => a = .string s) (vs 1) u := hf.2.1
        have f2 : (fun a u => a = (⟨v, (sZ).value⟩ : Ste).val) (vs 2) u := hf.2.2.1
        have f3 : (fun a u => a = .slice (some ⟨ao, 0, none⟩) l.length c) (vs 3) u := hf.2.2.2.1
        have f4 : (fun a u => a = .string s) (vs 4) u := hf.2.2.2.2.1
        clear hf
        simp only [putsA, List.foldl_cons, List.foldl_nil, Act.put, List.setIfInBounds_toArray, List.set_cons_zero, List.set_cons_succ]
        generalize vs 0 = v0 at f0 ⊢
        generalize vs 1 = v1 at f1 ⊢
        generalize vs 2 = v2 at f2 ⊢
        generalize vs 3 = v3 at f3 ⊢
        generalize vs 4 = v4 at f4 ⊢
        rw [if_pos (by rfl)]
        subst f2 f3 f4
        clear f0 f1
        have HDu : Hid (DsW w w1 ao c l ca len cap _ w3.heap.size (⟨v, (sZ).value⟩ : Ste) u) := H8.out.below hB
        have y0 := HDu.out.res.c0
        have y1 := HDu.out.res.c1
        have y2 := HDu.out.res.c2
        have y3 := HDu.out.res.c3
        have yf := HDu.out.res.ff
        clear hB
        go_simp
        refine hK.out _ _ ?_
        clear hK
        go_wp2
        refine bodyPost_ret (v := .tuple #[.slice (some ⟨ao, 0, none⟩) l.length c, .string s, (⟨v, (sZ).value⟩ : Ste).val]) (by simp [results, Try.results16, go_sem, y0, y1, y2, y3]) rfl ⟨ao, c, l, s, (⟨v, (sZ).value⟩ : Ste), rfl, ?_, HN.out.1, HN.out.2.1, HN.out.2.2, hs20, ht20, ?_⟩
        · refine own_base (base := w1.heap.size) ?_ (by omega)
          repeat (first | refine own_set_low ?_ (by omega) _ | exact HDu.out.row)
        · repeat (first | refine Below.setCell ?_ (by simp) _ | exact HDu.out.old)
    have d0 : (r == 0) = false := by simpa using c0
    by_cases c1 : r = 1
    · subst c1
      go_wp2_with fail
      refine (bentV_any _ _ ca len cap (k3 + 1) _ H6.out.src hmax (by omega) (by omega)).mono ?_
      rintro e w7 ⟨v, k7, rfl, hn7, k71, k72, h7, o7⟩
      have H7 : Hid (DsW w w1 ao c l ca len cap k7 w3.heap.size (sZ) w7) := H6.out.only o7 h7 hlt hsb
      have b1 := H7.out.box.c1
      have b2 := H7.out.box.c2
      have b3 := H7.out.box.c3
      have bf := H7.out.box.ff
      clear h7 o7 H6 f6
      go_wp2_with fail
      clear b1 b2 b3 bf
      have H8 : Hid (DsW w w1 ao c l ca len cap k7 w3.heap.size ⟨(sZ).ver, v⟩ (((w7.setCell ⟨w3.heap.size, 1, none⟩ (.int .i64 v.kind)).setCell ⟨w3.heap.size, 2, none⟩ (.int .i64 v.num)).setCell ⟨w3.heap.size, 3, none⟩ (.string v.name))) := H7.out.put (gb_set (gb_set (gb_set (gb_refl _ _) _) _) _) (H7.out.box.value v) hsb hasb HCs.out (fun o => by rw [World.frozen?_setCell, World.frozen?_setCell, World.frozen?_setCell]; exact H7.out.res.ff o)
      have ht20 : v.name.size ≤ 20 := hn7
      clear H7
      generalize ((w7.setCell ⟨w3.heap.size, 1, none⟩ (.int .i64 v.kind)).setCell ⟨w3.heap.size, 2, none⟩ (.int .i64 v.num)).setCell ⟨w3.heap.size, 3, none⟩ (.string v.name) = X at H8 ⊢
      refine wp_region_facts (by kernel_rfl) 5 (fun v => Below X.heap.size X v) (fun u v => Below u.heap.size u v) (fun i a u => match i with | 0 => (fun a u => a = .slice (some ⟨ao, 0, none⟩) l.length c) a u | 1 => (fun a u => a = .string s) a u | 2 => (fun a u => a = (⟨(sZ).ver, v⟩ : Ste).val) a u | 3 => (fun a u => a = .slice (some ⟨ao, 0, none⟩) l.length c) a u | 4 => (fun a u => a = .string s) a u | _ => True) (by kernel_rfl) [0, 1, 2, 3, 4] (by kernel_rfl) ?b0 ?bk ?fk ⟨?s0, ?s1, ?s2, ?s3, ?s4, trivial⟩ _ rfl [(0, some 50), (1, some 51), (2, some 52), (3, some 2), (4, some 3)] (by kernel_rfl) ?last
      case b0 => exact Below.drew (Below.refl _ _)
      case bk => exact fun u v h hb => h.trans (hb.mono h.size)
      case fk => intro i a u u' h hb; match i, h with | 0, h => exact (h) | 1, h => exact (h) | 2, h => exact (h) | 3, h => exact (h) | 4, h => exact (h) | _ + 5, _ => exact trivial
      case s0 =>
        refine StepF.of rfl [] (by kernel_rfl) ?_
        intro vs u hB hf K hK
        clear hf
        simp only [putsA, List.foldl_nil, Act.put, List.setIfInBounds_toArray] at hK ⊢
        rw [if_pos (by rfl)]
        go_simp
        exact hK.out _ _ (Below.refl _ _) rfl
      case s1 =>
        refine StepF.of rfl [] (by kernel_rfl) ?_
        intro vs u hB hf K hK
        clear hf
        simp only [putsA, List.foldl_nil, Act.put, List.setIfInBounds_toArray] at hK ⊢
        rw [if_pos (by rfl)]
        go_simp
        exact hK.out _ _ (Below.refl _ _) rfl
      case s2 =>
        refine StepF.of rfl [] (by kernel_rfl) ?_
        intro vs u hB hf K hK
        clear hf
        simp only [putsA, List.foldl_nil, Act.put, List.setIfInBounds_toArray] at hK ⊢
        rw [if_pos (by rfl)]
        have y0 := (H8.out.below hB).box.c0
        have y1 := (H8.out.below hB).box.c1
        have y2 := (H8.out.below hB).box.c2
        have y3 := (H8.out.below hB).box.c3
        go_simp
        exact hK.out _ _ (Below.refl _ _) rfl
      case s3 =>
        refine StepF.of rfl [(0, some 50)] (by kernel_rfl) ?_
        intro vs u hB hf K hK
        have f0 : (fun a u => a = .slice (some ⟨ao, 0, none⟩) l.length c) (vs 0) u := hf.1
        clear hf
        simp only [putsA, List.foldl_cons, List.foldl_nil, Act.put, List.setIfInBounds_toArray, List.set_cons_zero, List.set_cons_succ] at hK ⊢
        generalize vs 0 = v0 at f0 hK ⊢
        rw [if_pos (by rfl)]
        subst f0
        go_simp
        exact hK.out _ _ (Below.refl _ _) rfl
      case s4 =>
        refine StepF.of rfl [(0, some 50), (1, some 51), (3, some 2)] (by kernel_rfl) ?_
        intro vs u hB hf K hK
        have f0 : (fun a u => a = .slice (some ⟨ao, 0, none⟩) l.length c) (vs 0) u := hf.1
        have f1 : (fun a u => a = .string s) (vs 1) u := hf.2.1
        have f3 : (fun a u => a = .slice (some ⟨ao, 0, none⟩) l.length c) (vs 3) u := hf.2.2.1
        clear hf
        simp only [putsA, List.foldl_cons, List.foldl_nil, Act.put, List.setIfInBounds_toArray, List.set_cons_zero, List.set_cons_succ] at hK ⊢
        generalize vs 0 = v0 at f0 hK ⊢
        generalize vs 1 = v1 at f1 hK ⊢
        generalize vs 3 = v3 at f3 hK ⊢
        rw [if_pos (by rfl)]
        subst f1
        clear f0 f3
        go_simp
        exact hK.out _ _ (Below.refl _ _) rfl
      case last =>
        intro vs u hB hf K hK
        have f0 : (fun a u => a = .slice (some ⟨ao, 0, none⟩) l.length c) (vs 0) u := hf.1
        have f1 : (fun a u => a = .string s) (vs 1) u := hf.2.1
        have f2 : (fun a u => a = (⟨(sZ).ver, v⟩ : Ste).val) (vs 2) u := hf.2.2.1
        have f3 : (fun a u => a = .slice (some ⟨ao, 0, none⟩) l.length c) (vs 3) u := hf.2.2.2.1
        have f4 : (fun a u => a = .string s) (vs 4) u := hf.2.2.2.2.1
        clear hf
        simp only [putsA, List.foldl_cons, List.foldl_nil, Act.put, List.setIfInBounds_toArray, List.set_cons_zero, List.set_cons_succ]
        generalize vs 0 = v0 at f0 ⊢
        generalize vs 1 = v1 at f1 ⊢
        generalize vs 2 = v2 at f2 ⊢
        generalize vs 3 = v3 at f3 ⊢
        generalize vs 4 = v4 at f4 ⊢
        rw [if_pos (by rfl)]
        subst f2 f3 f4
        clear f0 f1
        have HDu : Hid (DsW w w1 ao c l ca len cap _ w3.heap.size (⟨(sZ).ver, v⟩ : Ste) u) := H8.out.below hB
        have y0 := HDu.out.res.c0
        have y1 := HDu.out.res.c1
        have y2 := HDu.out.res.c2
        have y3 := HDu.out.res.c3
        have yf := HDu.out.res.ff
        clear hB
        go_simp
        refine hK.out _ _ ?_
        clear hK
        go_wp2
        refine bodyPost_ret (v := .tuple #[.slice (some ⟨ao, 0, none⟩) l.length c, .string s, (⟨(sZ).ver, v⟩ : Ste).val]) (by simp [results, Try.results16, go_sem, y0, y1, y2, y3]) rfl ⟨ao, c, l, s, ⟨(sZ).ver, v⟩, rfl, ?_, HN.out.1, HN.out.2.1, HN.out.2.2, hs20, ht20, ?_⟩
        · refine own_base (base := w1.heap.size) ?_ (by omega)
          repeat (first | refine own_set_low ?_ (by omega) _ | exact HDu.out.row)
        · repeat (first | refine Below.setCell ?_ (by simp) _ | exact HDu.out.old)
    have d1 : (r == 1) = false := by simpa using c1
    have ht20 : (sZ).value.name.size ≤ 20 := Nat.zero_le _
    clear f6
    go_wp2_with fail
    refine wp_region_facts (by kernel_rfl) 5 (fun v => Below w6.heap.size w6 v) (fun u v => Below u.heap.size u v) (fun i a u => match i with | 0 => (fun a u => a = .slice (some ⟨ao, 0, none⟩) l.length c) a u | 1 => (fun a u => a = .string s) a u | 2 => (fun a u => a = (sZ).val) a u | 3 => (fun a u => a = .slice (some ⟨ao, 0, none⟩) l.length c) a u | 4 => (fun a u => a = .string s) a u | _ => True) (by kernel_rfl) [0, 1, 2, 3, 4] (by kernel_rfl) ?b0 ?bk ?fk ⟨?s0, ?s1, ?s2, ?s3, ?s4, trivial⟩ _ rfl [(0, some 50), (1, some 51), (2, some 52), (3, some 2), (4, some 3)] (by kernel_rfl) ?last
    case b0 => exact Below.drew (Below.refl _ _)
    case bk => exact fun u v h hb => h.trans (hb.mono h.size)
    case fk => intro i a u u' h hb; match i, h with | 0, h => exact (h) | 1, h => exact (h) | 2, h => exact (h) | 3, h => exact (h) | 4, h => exact (h) | _ + 5, _ => exact trivial
    case s0 =>
      refine StepF.of rfl [] (by kernel_rfl) ?_
      intro vs u hB hf K hK
      clear hf
      simp only [putsA, List.foldl_nil, Act.put, List.setIfInBounds_toArray] at hK ⊢
      rw [if_pos (by rfl)]
      go_simp
      exact hK.out _ _ (Below.refl _ _) rfl
    case s1 =>
      refine StepF.of rfl [] (by kernel_rfl) ?_
      intro vs u hB hf K hK
      clear hf
      simp only [putsA, List.foldl_nil, Act.put, List.setIfInBounds_toArray] at hK ⊢
      rw [if_pos (by rfl)]
      go_simp
      exact hK.out _ _ (Below.refl _ _) rfl
    case s2 =>
      refine StepF.of rfl [] (by kernel_rfl) ?_
      intro vs u hB hf K hK
      clear hf
      simp only [putsA, List.foldl_nil, Act.put, List.setIfInBounds_toArray] at hK ⊢
      rw [if_pos (by rfl)]
      have y0 := (H6.out.below hB).box.c0
      have y1 := (H6.out.below hB).box.c1
      have y2 := (H6.out.below hB).box.c2
      have y3 := (H6.out.below hB).box.c3
      go_simp
      exact hK.out _ _ (Below.refl _ _) rfl
    case s3 =>
      refine StepF.of rfl [(0, some 50)] (by kernel_rfl) ?_
      intro vs u hB hf K hK
      have f0 : (fun a u => a = .slice (some ⟨ao, 0, none⟩) l.length c) (vs 0) u := hf.1
      clear hf
      simp only [putsA, List.foldl_cons, List.foldl_nil, Act.put, List.setIfInBounds_toArray, List.set_cons_zero, List.set_cons_succ] at hK ⊢
      generalize vs 0 = v0 at f0 hK ⊢
      rw [if_pos (by rfl)]
      subst f0
      go_simp
      exact hK.out _ _ (Below.refl _ _) rfl
    case s4 =>
      refine StepF.of rfl [(0, some 50), (1, some 51), (3, some 2)] (by kernel_rfl) ?_
      intro vs u hB hf K hK
      have f0 : (fun a u => a = .slice (some ⟨ao, 0, none⟩) l.length c) (vs 0) u := hf.1
      have f1 : (fun a u => a = .string s) (vs 1) u := hf.2.1
      have f3 : (fun a u => a = .slice (some ⟨ao, 0, none⟩) l.length c) (vs 3) u := hf.2.2.1
      clear hf
      simp only [putsA, List.foldl_cons, List.foldl_nil, Act.put, List.setIfInBounds_toArray, List.set_cons_zero, List.set_cons_succ] at hK ⊢
      generalize vs 0 = v0 at f0 hK ⊢
      generalize vs 1 = v1 at f1 hK ⊢
      generalize vs 3 = v3 at f3 hK ⊢
      rw [if_pos (by rfl)]
      subst f1
      clear f0 f3
      go_simp
      exact hK.out _ _ (Below.refl _ _) rfl
    case last =>
      intro vs u hB hf K hK
      have f0 : (fun a u => a = .slice (some ⟨ao, 0, none⟩) l.length c) (vs 0) u := hf.1
      have f1 : (fun a u => a = .string s) (vs 1) u := hf.2.1
      have f2 : (fun a u => a = (sZ).val) (vs 2) u := hf.2.2.1
      have f3 : (fun a u => a = .slice (some ⟨ao, 0, none⟩) l.length c) (vs 3) u := hf.2.2.2.1
      have f4 : (fun a u => a = .string s) (vs 4) u := hf.2.2.2.2.1
      clear hf
      simp only [putsA, List.foldl_cons, List.foldl_nil, Act.put, List.setIfInBounds_toArray, List.set_cons_zero, List.set_cons_succ]
      generalize vs 0 = v0 at f0 ⊢
      generalize vs 1 = v1 at f1 ⊢
      generalize vs 2 = v2 at f2 ⊢
      generalize vs 3 = v3 at f3 ⊢
      generalize vs 4 = v4 at f4 ⊢
      rw [if_pos (by rfl)]
      subst f2 f3 f4
      clear f0 f1
      have HDu : Hid (DsW w w1 ao c l ca len cap _ w3.heap.size (sZ) u) := H6.out.below hB
      have y0 := HDu.out.res.c0
      have y1 := HDu.out.res.c1
      have y2 := HDu.out.res.c2
      have y3 := HDu.out.res.c3
      have yf := HDu.out.res.ff
      clear hB
      go_simp
      refine hK.out _ _ ?_
      clear hK
      go_wp2
      refine bodyPost_ret (v := .tuple #[.slice (some ⟨ao, 0, none⟩) l.length c, .string s, (sZ).val]) (by simp [results, Try.results16, go_sem, y0, y1, y2, y3]) rfl ⟨ao, c, l, s, sZ, rfl, ?_, HN.out.1, HN.out.2.1, HN.out.2.2, hs20, ht20, ?_⟩
      · refine own_base (base := w1.heap.size) ?_ (by omega)
        repeat (first | refine own_set_low ?_ (by omega) _ | exact HDu.out.row)
      · repeat (first | refine Below.setCell ?_ (by simp) _ | exact HDu.out.old)
  | some j =>
    obtain ⟨hj, _⟩ := atG_some hat
    obtain rfl : i0 = (j : Int) := by rw [HI.out, hat]; rfl
    have hj0 : (0 : Int) ≤ (j : Int) := by omega
    have hj1 : (j : Int) < (l.length : Int) := by omega
    obtain ⟨tj, htj⟩ : ∃ t, t = l[j]'hj := ⟨_, rfl⟩
    have HRow : Hid (∀ u, World.ownsRow u w1.heap.size 33 5 (.slice (some ⟨ao, 0, none⟩) l.length c) l.length (cellsG l) → u.cell? ⟨ao, j * 5, none⟩ = some (.string tj.name) ∧ u.cell? ⟨ao, j * 5 + 1, none⟩ = some (.int .i64 tj.value.kind) ∧ u.cell? ⟨ao, j * 5 + 2, none⟩ = some (.int .i64 tj.value.num) ∧ u.cell? ⟨ao, j * 5 + 3, none⟩ = some (.string tj.value.name) ∧ u.cell? ⟨ao, j * 5 + 4, none⟩ = some (.int .i64 tj.ver)) := fun u hu => by
      rw [htj]; exact RowG.of hu j hj
    have htj20 : tj.value.name.size ≤ 20 := by rw [htj]; exact (HN.out.1 j hj).2
    clear hat HI htj
    go_wp2_with fail
    refine (chance_any _ _ ca len cap k3 _ HDY.out.src hmax (by omega) (by omega)).mono ?_
    rintro e w5 ⟨t5, rfl, h5, o5⟩
    have H5 : Hid (DsW w w1 ao c l ca len cap (k3 + 1) w3.heap.size sZ w5) := HDY.out.only o5 h5 hlt hsb
    clear h5 o5 HDY
    cases t5 with
    | false =>
      clear HRow
      go_wp2_with fail
      refine (next_any _ _ ca len cap ((k3 + 1)) _ H5.out.src hmax (by omega) (by omega)).mono ?_
      rintro e w6 ⟨r, q, rfl, r0, r1, hw6⟩
      rw [if_neg (by omega)] at r1
      have H6 : Hid (DsW w w1 ao c l ca len cap ((k3 + 1) + 1) w3.heap.size (sZ) w6) := by
        have o6 : Only (w.heap.size + 1) w5 w6 := by rw [hw6]; exact only_next _ _ _ q
        exact H5.out.only o6 (by rw [hw6]; exact H5.out.src.next q) hlt hsb
      clear hw6 H5
      have f6 := H6.out.box.ff
      by_cases c0 : r = 0
      · subst c0
        go_wp2_with fail
        refine (pick_any _ _ w6.heap.size 3 ca len cap ((k3 + 1) + 1) (H6.out.src.alloc _) hmax (by omega) (by omega) (by have := H6.out.src.lt; omega) (by omega) (by omega) AnyI (cells3 w6 1 3 100000 2)).mono ?_
        rintro e w7 ⟨v, k7, rfl, _, k71, k72, h7, o7⟩
        have H7 : Hid (DsW w w1 ao c l ca len cap k7 w3.heap.size (sZ) w7) := (H6.out.below ((Below.refl _ _).alloc (Nat.le_refl _) _)).only o7 h7 hlt hsb
        have b0 := H7.out.box.c0
        have bf := H7.out.box.ff
        clear h7 o7 H6 f6
        go_wp2_with fail
        clear b0 bf
        have H8 : Hid (DsW w w1 ao c l ca len cap k7 w3.heap.size ⟨v, (sZ).value⟩ (w7.setCell ⟨w3.heap.size, 0, none⟩ (.int .i64 v))) := H7.out.put (gb_set (gb_refl _ _) _) (H7.out.box.ver v) hsb hasb HCs.out (fun o => by rw [World.frozen?_setCell]; exact H7.out.res.ff o)
        have ht20 : (sZ).value.name.size ≤ 20 := Nat.zero_le _
        clear H7
        generalize w7.setCell ⟨w3.heap.size, 0, none⟩ (.int .i64 v) = X at H8 ⊢
        refine wp_region_facts (by kernel_rfl) 5 (fun v => Below X.heap.size X v) (fun u v => Below u.heap.size u v) (fun i a u => match i with | 0 => (fun a u => a = .slice (some ⟨ao, 0, none⟩) l.length c) a u | 1 => (fun a u => a = .string s) a u | 2 => (fun a u => a = (⟨v, (sZ).value⟩ : Ste).val) a u | 3 => (fun a u => a = .slice (some ⟨ao, 0, none⟩) l.length c) a u | 4 => (fun a u => a = .string s) a u | _ => True) (by kernel_rfl) [0, 1, 2, 3, 4] (by kernel_rfl) ?b0 ?bk ?fk ⟨?s0, ?s1, ?s2, ?s3, ?s4, trivial⟩ _ rfl [(0, some 50), (1, some 51), (2, some 52), (3, some 2), (4, some 3)] (by kernel_rfl) ?last
        case b0 => exact Below.drew (Below.refl _ _)
        case bk => exact fun u v h hb => h.trans (hb.mono h.size)
        case fk => intro i a u u' h hb; match i, h with | 0, h => exact (h) | 1, h => exact (h) | 2, h => exact (h) | 3, h => exact (h) | 4, h => exact (h) | _ + 5, _ => exact trivial
        case s0 =>
          refine StepF.of rfl [] (by kernel_rfl) ?_
          intro vs u hB hf K hK
          clear hf
          simp only [putsA, List.foldl_nil, Act.put, List.setIfInBounds_toArray] at hK ⊢
          rw [if_pos (by rfl)]
          go_simp
          exact hK.out _ _ (Below.refl _ _) rfl
        case s1 =>
          refine StepF.of rfl [] (by kernel_rfl) ?_
          intro vs u hB hf K hK
          clear hf
          simp only [putsA, List.foldl_nil, Act.put, List.setIfInBounds_toArray] at hK ⊢
          rw [if_pos (by rfl)]
          go_simp
          exact hK.out _ _ (Below.refl _ _) rfl
        case s2 =>
          refine StepF.of rfl [] (by kernel_rfl) ?_
          intro vs u hB hf K hK
          clear hf
          simp only [putsA, List.foldl_nil, Act.put, List.setIfInBounds_toArray] at hK ⊢
          rw [if_pos (by rfl)]
          have y0 := (H8.out.below hB).box.c0
          have y1 := (H8.out.below hB).box.c1
          have y2 := (H8.out.below hB).box.c2
          have y3 := (H8.out.below hB).box.c3
          go_simp
          exact hK.out _ _ (Below.refl _ _) rfl
        case s3 =>
          refine StepF.of rfl [(0, some 50)] (by kernel_rfl) ?_
          intro vs u hB hf K hK
          have f0 : (fun a u => a = .slice (some ⟨ao, 0, none⟩) l.length c) (vs 0) u := hf.1
          clear hf
          simp only [putsA, List.foldl_cons, List.foldl_nil, Act.put, List.setIfInBounds_toArray, List.set_cons_zero, List.set_cons_succ] at hK ⊢
          generalize vs 0 = v0 at f0 hK ⊢
          rw [if_pos (by rfl)]
          subst f0
          go_simp
          exact hK.out _ _ (Below.refl _ _) rfl
        case s4 =>
          refine StepF.of rfl [(0, some 50), (1, some 51), (3, some 2)] (by kernel_rfl) ?_
          intro vs u hB hf K hK
          have f0 : (fun a u => a = .slice (some ⟨ao, 0, none⟩) l.length c) (vs 0) u := hf.1
          have f1 : (fun a u => a = .string s) (vs 1) u := hf.2.1
          have f3 : (fun a u => a = .slice (some ⟨ao, 0, none⟩) l.length c) (vs 3) u := hf.2.2.1
          clear hf
          simp only [putsA, List.foldl_cons, List.foldl_nil, Act.put, List.setIfInBounds_toArray, List.set_cons_zero, List.set_cons_succ] at hK ⊢
          generalize vs 0 = v0 at f0 hK ⊢
          generalize vs 1 = v1 at f1 hK ⊢
          generalize vs 3 = v3 at f3 hK ⊢
          rw [if_pos (by rfl)]
          subst f1
          clear f0 f3
          go_simp
          exact hK.out _ _ (Below.refl _ _) rfl
        case last =>
          intro vs u hB hf K hK
          have f0 : (fun a u => a = .slice (some ⟨ao, 0, none⟩) l.length c) (vs 0) u := hf.1
          have f1 : (fun a u => a = .string s) (vs 1) u := hf.2.1
          have f2 : (fun a u => a = (⟨v, (sZ).value⟩ : Ste).val) (vs 2) u := hf.2.2.1
          have f3 : (fun a u => a = .slice (some ⟨ao, 0, none⟩) l.length c) (vs 3) u := hf.2.2.2.1
          have f4 : (fun a u => a = .string s) (vs 4) u := hf.2.2.2.2.1
          clear hf
          simp only [putsA, List.foldl_cons, List.foldl_nil, Act.put, List.setIfInBounds_toArray, List.set_cons_zero, List.set_cons_succ]
          generalize vs 0 = v0 at f0 ⊢
          generalize vs 1 = v1 at f1 ⊢
          generalize vs 2 = v2 at f2 ⊢
          generalize vs 3 = v3 at f3 ⊢
          generalize vs 4 = v4 at f4 ⊢
          rw [if_pos (by rfl)]
          subst f2 f3 f4
          clear f0 f1
          have HDu : Hid (DsW w w1 ao c l ca len cap _ w3.heap.size (⟨v, (sZ).value⟩ : Ste) u) := H8.out.below hB
          have y0 := HDu.out.res.c0
          have y1 := HDu.out.res.c1
          have y2 := HDu.out.res.c2
          have y3 := HDu.out.res.c3
          have yf := HDu.out.res.ff
          clear hB
          go_simp
          refine hK.out _ _ ?_
          clear hK
          go_wp2
          refine bodyPost_ret (v := .tuple #[.slice (some ⟨ao, 0, none⟩) l.length c, .string s, (⟨v, (sZ).value⟩ : Ste).val]) (by simp [results, Try.results16, go_sem, y0, y1, y2, y3]) rfl ⟨ao, c, l, s, (⟨v, (sZ).value⟩ : Ste), rfl, ?_, HN.out.1, HN.out.2.1, HN.out.2.2, hs20, ht20, ?_⟩
          · refine own_base (base := w1.heap.size) ?_ (by omega)
            repeat (first | refine own_set_low ?_ (by omega) _ | exact HDu.out.row)
          · repeat (first | refine Below.setCell ?_ (by simp) _ | exact HDu.out.old)
      have d0 : (r == 0) = false := by simpa using c0
      by_cases c1 : r = 1
      · subst c1
        go_wp2_with fail
        refine (bentV_any _ _ ca len cap ((k3 + 1) + 1) _ H6.out.src hmax (by omega) (by omega)).mono ?_
        rintro e w7 ⟨v, k7, rfl, hn7, k71, k72, h7, o7⟩
        have H7 : Hid (DsW w w1 ao c l ca len cap k7 w3.heap.size (sZ) w7) := H6.out.only o7 h7 hlt hsb
        have b1 := H7.out.box.c1
        have b2 := H7.out.box.c2
        have b3 := H7.out.box.c3
        have bf := H7.out.box.ff
        clear h7 o7 H6 f6
        go_wp2_with fail
        clear b1 b2 b3 bf
        have H8 : Hid (DsW w w1 ao c l ca len cap k7 w3.heap.size ⟨(sZ).ver, v⟩ (((w7.setCell ⟨w3.heap.size, 1, none⟩ (.int .i64 v.kind)).setCell ⟨w3.heap.size, 2, none⟩ (.int .i64 v.num)).setCell ⟨w3.heap.size, 3, none⟩ (.string v.name))) := H7.out.put (gb_set (gb_set (gb_set (gb_refl _ _) _) _) _) (H7.out.box.value v) hsb hasb HCs.out (fun o => by rw [World.frozen?_setCell, World.frozen?_setCell, World.frozen?_setCell]; exact H7.out.res.ff o)
        have ht20 : v.name.size ≤ 20 := hn7
        clear H7
        generalize ((w7.setCell ⟨w3.heap.size, 1, none⟩ (.int .i64 v.kind)).setCell ⟨w3.heap.size, 2, none⟩ (.int .i64 v.num)).setCell ⟨w3.heap.size, 3, none⟩ (.string v.name) = X at H8 ⊢
        refine wp_region_facts (by kernel_rfl) 5 (fun v => Below X.heap.size X v) (fun u v => Below u.heap.size u v) (fun i a u => match i with | 0 => (fun a u => a = .slice (some ⟨ao, 0, none⟩) l.length c) a u | 1 => (fun a u => a = .string s) a u | 2 => (fun a u => a = (⟨(sZ).ver, v⟩ : Ste).val) a u | 3 => (fun a u => a = .slice (some ⟨ao, 0, none⟩) l.length c) a u | 4 => (fun a u => a = .string s) a u | _ => True) (by kernel_rfl) [0, 1, 2, 3, 4] (by kernel_rfl) ?b0 ?bk ?fk ⟨?s0, ?s1, ?s2, ?s3, ?s4, trivial⟩ _ rfl [(0, some 50), (1, some 51), (2, some 52), (3, some 2), (4, some 3)] (by kernel_rfl) ?last
        case b0 => exact Below.drew (Below.refl _ _)
        case bk => exact fun u v h hb => h.trans (hb.mono h.size)
        case fk => intro i a u u' h hb; match i, h with | 0, h => exact (h) | 1, h => exact (h) | 2, h => exact (h) | 3, h => exact (h) | 4, h => exact (h) | _ + 5, _ => exact trivial
        case s0 =>
          refine StepF.of rfl [] (by kernel_rfl) ?_
          intro vs u hB hf K hK
          clear hf
          simp only [putsA, List.foldl_nil, Act.put, List.setIfInBounds_toArray] at hK ⊢
          rw [if_pos (by rfl)]
          go_simp
          exact hK.out _ _ (Below.refl _ _) rfl
        case s1 =>
          refine StepF.of rfl [] (by kernel_rfl) ?_
          intro vs u hB hf K hK
          clear hf
          simp only [putsA, List.foldl_nil, Act.put, List.setIfInBounds_toArray] at hK ⊢
          rw [if_pos (by rfl)]
          go_simp
          exact hK.out _ _ (Below.refl _ _) rfl
        case s2 =>
          refine StepF.of rfl [] (by kernel_rfl) ?_
          intro vs u hB hf K hK
          clear hf
          simp only [putsA, List.foldl_nil, Act.put, List.setIfInBounds_toArray] at hK ⊢
          rw [if_pos (by rfl)]
          have y0 := (H8.out.below hB).box.c0
          have y1 := (H8.out.below hB).box.c1
          have y2 := (H8.out.below hB).box.c2
          have y3 := (H8.out.below hB).box.c3
          go_simp
          exact hK.out _ _ (Below.refl _ _) rfl
        case s3 =>
          refine StepF.of rfl [(0, some 50)] (by kernel_rfl) ?_
          intro vs u hB hf K hK
          have f0 : (fun a u => a = .slice (some ⟨ao, 0, none⟩) l.length c) (vs 0) u := hf.1
          clear hf
          simp only [putsA, List.foldl_cons, List.foldl_nil, Act.put, List.setIfInBounds_toArray, List.set_cons_zero, List.set_cons_succ] at hK ⊢
          generalize vs 0 = v0 at f0 hK ⊢
          rw [if_pos (by rfl)]
          subst f0
          go_simp
          exact hK.out _ _ (Below.refl _ _) rfl
        case s4 =>
          refine StepF.of rfl [(0, some 50), (1, some 51), (3, some 2)] (by kernel_rfl) ?_
          intro vs u hB hf K hK
          have f0 : (fun a u => a = .slice (some ⟨ao, 0, none⟩) l.length c) (vs 0) u := hf.1
          have f1 : (fun a u => a = .string s) (vs 1) u := hf.2.1
          have f3 : (fun a u => a = .slice (some ⟨ao, 0, none⟩) l.length c) (vs 3) u := hf.2.2.1
          clear hf
          simp only [putsA, List.foldl_cons, List.foldl_nil, Act.put, List.setIfInBounds_toArray, List.set_cons_zero, List.set_cons_succ] at hK ⊢
          generalize vs 0 = v0 at f0 hK ⊢
          generalize vs 1 = v1 at f1 hK ⊢
          generalize vs 3 = v3 at f3 hK ⊢
          rw [if_pos (by rfl)]
          subst f1
          clear f0 f3
          go_simp
          exact hK.out _ _ (Below.refl _ _) rfl
        case last =>
          intro vs u hB hf K hK
          have f0 : (fun a u => a = .slice (some ⟨ao, 0, none⟩) l.length c) (vs 0) u := hf.1
          have f1 : (fun a u => a = .string s) (vs 1) u := hf.2.1
          have f2 : (fun a u => a = (⟨(sZ).ver, v⟩ : Ste).val) (vs 2) u := hf.2.2.1
          have f3 : (fun a u => a = .slice (some ⟨ao, 0, none⟩) l.length c) (vs 3) u := hf.2.2.2.1
          have f4 : (fun a u => a = .string s) (vs 4) u := hf.2.2.2.2.1
          clear hf
          simp only [putsA, List.foldl_cons, List.foldl_nil, Act.put, List.setIfInBounds_toArray, List.set_cons_zero, List.set_cons_succ]
          generalize vs 0 = v0 at f0 ⊢
          generalize vs 1 = v1 at f1 ⊢
          generalize vs 2 = v2 at f2 ⊢
          generalize vs 3 = v3 at f3 ⊢
          generalize vs 4 = v4 at f4 ⊢
          rw [if_pos (by rfl)]
          subst f2 f3 f4
          clear f0 f1
          have HDu : Hid (DsW w w1 ao c l ca len cap _ w3.heap.size (⟨(sZ).ver, v⟩ : Ste) u) := H8.out.below hB
          have y0 := HDu.out.res.c0
          have y1 := HDu.out.res.c1
          have y2 := HDu.out.res.c2
          have y3 := HDu.out.res.c3
          have yf := HDu.out.res.ff
          clear hB
          go_simp
          refine hK.out _ _ ?_
          clear hK
          go_wp2
          refine bodyPost_ret (v := .tuple #[.slice (some ⟨ao, 0, none⟩) l.length c, .string s, (⟨(sZ).ver, v⟩ : Ste).val]) (by simp [results, Try.results16, go_sem, y0, y1, y2, y3]) rfl ⟨ao, c, l, s, ⟨(sZ).ver, v⟩, rfl, ?_, HN.out.1, HN.out.2.1, HN.out.2.2, hs20, ht20, ?_⟩
          · refine own_base (base := w1.heap.size) ?_ (by omega)
            repeat (first | refine own_set_low ?_ (by omega) _ | exact HDu.out.row)
          · repeat (first | refine Below.setCell ?_ (by simp) _ | exact HDu.out.old)
      have d1 : (r == 1) = false := by simpa using c1
      have ht20 : (sZ).value.name.size ≤ 20 := Nat.zero_le _
      clear f6
      go_wp2_with fail
      refine wp_region_facts (by kernel_rfl) 5 (fun v => Below w6.heap.size w6 v) (fun u v => Below u.heap.size u v) (fun i a u => match i with | 0 => (fun a u => a = .slice (some ⟨ao, 0, none⟩) l.length c) a u | 1 => (fun a u => a = .string s) a u | 2 => (fun a u => a = (sZ).val) a u | 3 => (fun a u => a = .slice (some ⟨ao, 0, none⟩) l.length c) a u | 4 => (fun a u => a = .string s) a u | _ => True) (by kernel_rfl) [0, 1, 2, 3, 4] (by kernel_rfl) ?b0 ?bk ?fk ⟨?s0, ?s1, ?s2, ?s3, ?s4, trivial⟩ _ rfl [(0, some 50), (1, some 51), (2, some 52), (3, some 2), (4, some 3)] (by kernel_rfl) ?last
      case b0 => exact Below.drew (Below.refl _ _)
      case bk => exact fun u v h hb => h.trans (hb.mono h.size)
      case fk => intro i a u u' h hb; match i, h with | 0, h => exact (h) | 1, h => exact (h) | 2, h => exact (h) | 3, h => exact (h) | 4, h => exact (h) | _ + 5, _ => exact trivial
      case s0 =>
        refine StepF.of rfl [] (by kernel_rfl) ?_
        intro vs u hB hf K hK
        clear hf
        simp only [putsA, List.foldl_nil, Act.put, List.setIfInBounds_toArray] at hK ⊢
        rw [if_pos (by rfl)]
        go_simp
        exact hK.out _ _ (Below.refl _ _) rfl
      case s1 =>
        refine StepF.of rfl [] (by kernel_rfl) ?_
        intro vs u hB hf K hK
        clear hf
        simp only [putsA, List.foldl_nil, Act.put, List.setIfInBounds_toArray] at hK ⊢
        rw [if_pos (by rfl)]
        go_simp
        exact hK.out _ _ (Below.refl _ _) rfl
      case s2 =>
        refine StepF.of rfl [] (by kernel_rfl) ?_
        intro vs u hB hf K hK
        clear hf
        simp only [putsA, List.foldl_nil, Act.put, List.setIfInBounds_toArray] at hK ⊢
        rw [if_pos (by rfl)]
        have y0 := (H6.out.below hB).box.c0
        have y1 := (H6.out.below hB).box.c1
        have y2 := (H6.out.below hB).box.c2
        have y3 := (H6.out.below hB).box.c3
        go_simp
        exact hK.out _ _ (Below.refl _ _) rfl
      case s3 =>
        refine StepF.of rfl [(0, some 50)] (by kernel_rfl) ?_
        intro vs u hB hf K hK
        have f0 : (fun a u => a = .slice (some ⟨ao, 0, none⟩) l.length c) (vs 0) u := hf.1
        clear hf
        simp only [putsA, List.foldl_cons, List.foldl_nil, Act.put, List.setIfInBounds_toArray, List.set_cons_zero, List.set_cons_succ] at hK ⊢
        generalize vs 0 = v0 at f0 hK ⊢
        rw [if_pos (by rfl)]
        subst f0
        go_simp
        exact hK.out _ _ (Below.refl _ _) rfl
      case s4 =>
        refine StepF.of rfl [(0, some 50), (1, some 51), (3, some 2)] (by kernel_rfl) ?_
        intro vs u hB hf K hK
        have f0 : (fun a u => a = .slice (some ⟨ao, 0, none⟩) l.length c) (vs 0) u := hf.1
        have f1 : (fun a u => a = .string s) (vs 1) u := hf.2.1
        have f3 : (fun a u => a = .slice (some ⟨ao, 0, none⟩) l.length c) (vs 3) u := hf.2.2.1
        clear hf
        simp only [putsA, List.foldl_cons, List.foldl_nil, Act.put, List.setIfInBounds_toArray, List.set_cons_zero, List.set_cons_succ] at hK ⊢
        generalize vs 0 = v0 at f0 hK ⊢
        generalize vs 1 = v1 at f1 hK ⊢
        generalize vs 3 = v3 at f3 hK ⊢
        rw [if_pos (by rfl)]
        subst f1
        clear f0 f3
        go_simp
        exact hK.out _ _ (Below.refl _ _) rfl
      case last =>
        intro vs u hB hf K hK
        have f0 : (fun a u => a = .slice (some ⟨ao, 0, none⟩) l.length c) (vs 0) u := hf.1
        have f1 : (fun a u => a = .string s) (vs 1) u := hf.2.1
        have f2 : (fun a u => a = (sZ).val) (vs 2) u := hf.2.2.1
        have f3 : (fun a u => a = .slice (some ⟨ao, 0, none⟩) l.length c) (vs 3) u := hf.2.2.2.1
        have f4 : (fun a u => a = .string s) (vs 4) u := hf.2.2.2.2.1
        clear hf
        simp only [putsA, List.foldl_cons, List.foldl_nil, Act.put, List.setIfInBounds_toArray, List.set_cons_zero, List.set_cons_succ]
        generalize vs 0 = v0 at f0 ⊢
        generalize vs 1 = v1 at f1 ⊢
        generalize vs 2 = v2 at f2 ⊢
        generalize vs 3 = v3 at f3 ⊢
        generalize vs 4 = v4 at f4 ⊢
        rw [if_pos (by rfl)]
        subst f2 f3 f4
        clear f0 f1
        have HDu : Hid (DsW w w1 ao c l ca len cap _ w3.heap.size (sZ) u) := H6.out.below hB
        have y0 := HDu.out.res.c0
        have y1 := HDu.out.res.c1
        have y2 := HDu.out.res.c2
        have y3 := HDu.out.res.c3
        have yf := HDu.out.res.ff
        clear hB
        go_simp
        refine hK.out _ _ ?_
        clear hK
        go_wp2
        refine bodyPost_ret (v := .tuple #[.slice (some ⟨ao, 0, none⟩) l.length c, .string s, (sZ).val]) (by simp [results, Try.results16, go_sem, y0, y1, y2, y3]) rfl ⟨ao, c, l, s, sZ, rfl, ?_, HN.out.1, HN.out.2.1, HN.out.2.2, hs20, ht20, ?_⟩
        · refine own_base (base := w1.heap.size) ?_ (by omega)
          repeat (first | refine own_set_low ?_ (by omega) _ | exact HDu.out.row)
        · repeat (first | refine Below.setCell ?_ (by simp) _ | exact HDu.out.old)
    | true =>
      go_wp2_with fail
      refine wp_region_facts (by kernel_rfl) 11 (fun v => Below w5.heap.size w5 v) (fun u v => Below u.heap.size u v) (fun i a u => match i with | 0 => (fun a u => a = .slice (some ⟨ao, 0, none⟩) l.length c) a u | 1 => (fun a u => a = .int .i64 (j : Int)) a u | 2 => (fun a u => a = Value.pointer (some ⟨ao, j * 5, none⟩)) a u | 3 => (fun a u => a = Value.pointer (some ⟨ao, j * 5 + 4, none⟩)) a u | 4 => (fun a u => a = .int .i64 tj.ver) a u | 5 => (fun a u => a = .slice (some ⟨ao, 0, none⟩) l.length c) a u | 6 => (fun a u => a = .int .i64 (j : Int)) a u | 7 => (fun a u => a = Value.pointer (some ⟨ao, j * 5, none⟩)) a u | 8 => (fun a u => a = Value.pointer (some ⟨ao, j * 5 + 1, none⟩)) a u | 9 => (fun a u => a = tj.value.val) a u | 10 => (fun a u => a = (Ste.mk tj.ver tj.value).val) a u | _ => True) (by kernel_rfl) [0, 1, 2, 3, 4, 5, 6, 7, 8, 9, 10] (by kernel_rfl) ?b0 ?bk ?fk ⟨?s0, ?s1, ?s2, ?s3, ?s4, ?s5, ?s6, ?s7, ?s8, ?s9, ?s10, trivial⟩ _ rfl [(0, some 26), (1, some 27), (2, some 28), (3, some 29), (4, some 30), (5, some 31), (6, some 32), (7, some 33), (8, some 34), (9, some 35), (10, some 36)] (by kernel_rfl) ?last
      case b0 => exact Below.drew (Below.refl _ _)
      case bk => exact fun u v h hb => h.trans (hb.mono h.size)
      case fk => intro i a u u' h hb; match i, h with | 0, h => exact (h) | 1, h => exact (h) | 2, h => exact (h) | 3, h => exact (h) | 4, h => exact (h) | 5, h => exact (h) | 6, h => exact (h) | 7, h => exact (h) | 8, h => exact (h) | 9, h => exact (h) | 10, h => exact (h) | _ + 11, _ => exact trivial
      case s0 =>
        refine StepF.of rfl [] (by kernel_rfl) ?_
        intro vs u hB hf K hK
        clear hf
        simp only [putsA, List.foldl_nil, Act.put, List.setIfInBounds_toArray] at hK ⊢
        rw [if_pos (by rfl)]
        go_simp
        exact hK.out _ _ (Below.refl _ _) rfl
      case s1 =>
        refine StepF.of rfl [] (by kernel_rfl) ?_
        intro vs u hB hf K hK
        clear hf
        simp only [putsA, List.foldl_nil, Act.put, List.setIfInBounds_toArray] at hK ⊢
        rw [if_pos (by rfl)]
        go_simp
        exact hK.out _ _ (Below.refl _ _) rfl
      case s2 =>
        refine StepF.of rfl [(0, some 26), (1, some 27)] (by kernel_rfl) ?_
        intro vs u hB hf K hK
        have f0 : (fun a u => a = .slice (some ⟨ao, 0, none⟩) l.length c) (vs 0) u := hf.1
        have f1 : (fun a u => a = .int .i64 (j : Int)) (vs 1) u := hf.2.1
        clear hf
        simp only [putsA, List.foldl_cons, List.foldl_nil, Act.put, List.setIfInBounds_toArray, List.set_cons_zero, List.set_cons_succ] at hK ⊢
        generalize vs 0 = v0 at f0 hK ⊢
        generalize vs 1 = v1 at f1 hK ⊢
        rw [if_pos (by rfl)]
        subst f0 f1
        go_simp
        exact hK.out _ _ (Below.refl _ _) rfl
      case s3 =>
        refine StepF.of rfl [(2, some 28)] (by kernel_rfl) ?_
        intro vs u hB hf K hK
        have f2 : (fun a u => a = Value.pointer (some ⟨ao, j * 5, none⟩)) (vs 2) u := hf.1
        clear hf
        simp only [putsA, List.foldl_cons, List.foldl_nil, Act.put, List.setIfInBounds_toArray, List.set_cons_zero, List.set_cons_succ] at hK ⊢
        generalize vs 2 = v2 at f2 hK ⊢
        rw [if_pos (by rfl)]
        subst f2
        go_simp
        exact hK.out _ _ (Below.refl _ _) rfl
      case s4 =>
        refine StepF.of rfl [(3, some 29)] (by kernel_rfl) ?_
        intro vs u hB hf K hK
        have f3 : (fun a u => a = Value.pointer (some ⟨ao, j * 5 + 4, none⟩)) (vs 3) u := hf.1
        clear hf
        simp only [putsA, List.foldl_cons, List.foldl_nil, Act.put, List.setIfInBounds_toArray, List.set_cons_zero, List.set_cons_succ] at hK ⊢
        generalize vs 3 = v3 at f3 hK ⊢
        rw [if_pos (by rfl)]
        subst f3
        have y0 := (HRow.out u (H5.out.below hB).row).2.2.2.2
        go_simp
        exact hK.out _ _ (Below.refl _ _) rfl
      case s5 =>
        refine StepF.of rfl [] (by kernel_rfl) ?_
        intro vs u hB hf K hK
        clear hf
        simp only [putsA, List.foldl_nil, Act.put, List.setIfInBounds_toArray] at hK ⊢
        rw [if_pos (by rfl)]
        go_simp
        exact hK.out _ _ (Below.refl _ _) rfl
      case s6 =>
        refine StepF.of rfl [] (by kernel_rfl) ?_
        intro vs u hB hf K hK
        clear hf
        simp only [putsA, List.foldl_nil, Act.put, List.setIfInBounds_toArray] at hK ⊢
        rw [if_pos (by rfl)]
        go_simp
        exact hK.out _ _ (Below.refl _ _) rfl
      case s7 =>
        refine StepF.of rfl [(5, some 31), (6, some 32)] (by kernel_rfl) ?_
        intro vs u hB hf K hK
        have f5 : (fun a u => a = .slice (some ⟨ao, 0, none⟩) l.length c) (vs 5) u := hf.1
        have f6 : (fun a u => a = .int .i64 (j : Int)) (vs 6) u := hf.2.1
        clear hf
        simp only [putsA, List.foldl_cons, List.foldl_nil, Act.put, List.setIfInBounds_toArray, List.set_cons_zero, List.set_cons_succ] at hK ⊢
        generalize vs 5 = v5 at f5 hK ⊢
        generalize vs 6 = v6 at f6 hK ⊢
        rw [if_pos (by rfl)]
        subst f5 f6
        go_simp
        exact hK.out _ _ (Below.refl _ _) rfl
      case s8 =>
        refine StepF.of rfl [(7, some 33)] (by kernel_rfl) ?_
        intro vs u hB hf K hK
        have f7 : (fun a u => a = Value.pointer (some ⟨ao, j * 5, none⟩)) (vs 7) u := hf.1
        clear hf
        simp only [putsA, List.foldl_cons, List.foldl_nil, Act.put, List.setIfInBounds_toArray, List.set_cons_zero, List.set_cons_succ] at hK ⊢
        generalize vs 7 = v7 at f7 hK ⊢
        rw [if_pos (by rfl)]
        subst f7
        go_simp
        exact hK.out _ _ (Below.refl _ _) rfl
      case s9 =>
        refine StepF.of rfl [(8, some 34)] (by kernel_rfl) ?_
        intro vs u hB hf K hK
        have f8 : (fun a u => a = Value.pointer (some ⟨ao, j * 5 + 1, none⟩)) (vs 8) u := hf.1
        clear hf
        simp only [putsA, List.foldl_cons, List.foldl_nil, Act.put, List.setIfInBounds_toArray, List.set_cons_zero, List.set_cons_succ] at hK ⊢
        generalize vs 8 = v8 at f8 hK ⊢
        rw [if_pos (by rfl)]
        subst f8
        have y1 := (HRow.out u (H5.out.below hB).row).2.1
        have y2 := (HRow.out u (H5.out.below hB).row).2.2.1
        have y3 := (HRow.out u (H5.out.below hB).row).2.2.2.1
        go_simp
        exact hK.out _ _ (Below.refl _ _) rfl
      case s10 =>
        refine StepF.of rfl [(4, some 30), (9, some 35)] (by kernel_rfl) ?_
        intro vs u hB hf K hK
        have f4 : (fun a u => a = .int .i64 tj.ver) (vs 4) u := hf.1
        have f9 : (fun a u => a = tj.value.val) (vs 9) u := hf.2.1
        clear hf
        simp only [putsA, List.foldl_cons, List.foldl_nil, Act.put, List.setIfInBounds_toArray, List.set_cons_zero, List.set_cons_succ] at hK ⊢
        generalize vs 4 = v4 at f4 hK ⊢
        generalize vs 9 = v9 at f9 hK ⊢
        rw [if_pos (by rfl)]
        subst f4 f9
        go_simp
        exact hK.out _ _ (Below.refl _ _) rfl
      case last =>
        intro vs u hB hf K hK
        have f0 : (fun a u => a = .slice (some ⟨ao, 0, none⟩) l.length c) (vs 0) u := hf.1
        have f1 : (fun a u => a = .int .i64 (j : Int)) (vs 1) u := hf.2.1
        have f2 : (fun a u => a = Value.pointer (some ⟨ao, j * 5, none⟩)) (vs 2) u := hf.2.2.1
        have f3 : (fun a u => a = Value.pointer (some ⟨ao, j * 5 + 4, none⟩)) (vs 3) u := hf.2.2.2.1
        have f4 : (fun a u => a = .int .i64 tj.ver) (vs 4) u := hf.2.2.2.2.1
        have f5 : (fun a u => a = .slice (some ⟨ao, 0, none⟩) l.length c) (vs 5) u := hf.2.2.2.2.2.1
        have f6 : (fun a u => a = .int .i64 (j : Int)) (vs 6) u := hf.2.2.2.2.2.2.1
        have f7 : (fun a u => a = Value.pointer (some ⟨ao, j * 5, none⟩)) (vs 7) u := hf.2.2.2.2.2.2.2.1
        have f8 : (fun a u => a = Value.pointer (some ⟨ao, j * 5 + 1, none⟩)) (vs 8) u := hf.2.2.2.2.2.2.2.2.1
        have f9 : (fun a u => a = tj.value.val) (vs 9) u := hf.2.2.2.2.2.2.2.2.2.1
        have f10 : (fun a u => a = (Ste.mk tj.ver tj.value).val) (vs 10) u := hf.2.2.2.2.2.2.2.2.2.2.1
        clear hf
        simp only [putsA, List.foldl_cons, List.foldl_nil, Act.put, List.setIfInBounds_toArray, List.set_cons_zero, List.set_cons_succ]
        generalize vs 0 = v0 at f0 ⊢
        generalize vs 1 = v1 at f1 ⊢
        generalize vs 2 = v2 at f2 ⊢
        generalize vs 3 = v3 at f3 ⊢
        generalize vs 4 = v4 at f4 ⊢
        generalize vs 5 = v5 at f5 ⊢
        generalize vs 6 = v6 at f6 ⊢
        generalize vs 7 = v7 at f7 ⊢
        generalize vs 8 = v8 at f8 ⊢
        generalize vs 9 = v9 at f9 ⊢
        generalize vs 10 = v10 at f10 ⊢
        rw [if_pos (by rfl)]
        subst f10
        clear f0 f1 f2 f3 f4 f5 f6 f7 f8 f9
        have HDu : Hid (DsW w w1 ao c l ca len cap (k3 + 1) w3.heap.size sZ u) := H5.out.below hB
        have b0 := HDu.out.box.c0
        have b1 := HDu.out.box.c1
        have b2 := HDu.out.box.c2
        have b3 := HDu.out.box.c3
        have bf := HDu.out.box.ff
        clear hB H5
        go_simp
        refine hK.out _ _ ?_
        clear hK b0 b1 b2 b3 bf
        have H9 : Hid (DsW w w1 ao c l ca len cap (k3 + 1) w3.heap.size ⟨tj.ver, tj.value⟩ ((((u.setCell ⟨w3.heap.size, 0, none⟩ (.int .i64 tj.ver)).setCell ⟨w3.heap.size, 1, none⟩ (.int .i64 tj.value.kind)).setCell ⟨w3.heap.size, 2, none⟩ (.int .i64 tj.value.num)).setCell ⟨w3.heap.size, 3, none⟩ (.string tj.value.name))) := HDu.out.put (gb_set (gb_set (gb_set (gb_set (gb_refl _ _) _) _) _) _) (HDu.out.box.whole ⟨tj.ver, tj.value⟩) hsb hasb HCs.out (fun o => by rw [World.frozen?_setCell, World.frozen?_setCell, World.frozen?_setCell, World.frozen?_setCell]; exact HDu.out.res.ff o)
        clear HDu
        generalize (((u.setCell ⟨w3.heap.size, 0, none⟩ (.int .i64 tj.ver)).setCell ⟨w3.heap.size, 1, none⟩ (.int .i64 tj.value.kind)).setCell ⟨w3.heap.size, 2, none⟩ (.int .i64 tj.value.num)).setCell ⟨w3.heap.size, 3, none⟩ (.string tj.value.name) = u9 at H9 ⊢
        go_wp2_with fail
        refine (next_any _ _ ca len cap ((k3 + 1)) _ H9.out.src hmax (by omega) (by omega)).mono ?_
        rintro e w6 ⟨r, q, rfl, r0, r1, hw6⟩
        rw [if_neg (by omega)] at r1
        have H6 : Hid (DsW w w1 ao c l ca len cap ((k3 + 1) + 1) w3.heap.size (⟨tj.ver, tj.value⟩ : Ste) w6) := by
          have o6 : Only (w.heap.size + 1) u9 w6 := by rw [hw6]; exact only_next _ _ _ q
          exact H9.out.only o6 (by rw [hw6]; exact H9.out.src.next q) hlt hsb
        clear hw6 H9
        have f6 := H6.out.box.ff
        by_cases c0 : r = 0
        · subst c0
          go_wp2_with fail
          refine (pick_any _ _ w6.heap.size 3 ca len cap ((k3 + 1) + 1) (H6.out.src.alloc _) hmax (by omega) (by omega) (by have := H6.out.src.lt; omega) (by omega) (by omega) AnyI (cells3 w6 1 3 100000 2)).mono ?_
          rintro e w7 ⟨v, k7, rfl, _, k71, k72, h7, o7⟩
          have H7 : Hid (DsW w w1 ao c l ca len cap k7 w3.heap.size (⟨tj.ver, tj.value⟩ : Ste) w7) := (H6.out.below ((Below.refl _ _).alloc (Nat.le_refl _) _)).only o7 h7 hlt hsb
          have b0 := H7.out.box.c0
          have bf := H7.out.box.ff
          clear h7 o7 H6 f6
          go_wp2_with fail
          clear b0 bf
          have H8 : Hid (DsW w w1 ao c l ca len cap k7 w3.heap.size ⟨v, (⟨tj.ver, tj.value⟩ : Ste).value⟩ (w7.setCell ⟨w3.heap.size, 0, none⟩ (.int .i64 v))) := H7.out.put (gb_set (gb_refl _ _) _) (H7.out.box.ver v) hsb hasb HCs.out (fun o => by rw [World.frozen?_setCell]; exact H7.out.res.ff o)
          have ht20 : (⟨tj.ver, tj.value⟩ : Ste).value.name.size ≤ 20 := htj20
          clear H7
          generalize w7.setCell ⟨w3.heap.size, 0, none⟩ (.int .i64 v) = X at H8 ⊢
          refine wp_region_facts (by kernel_rfl) 5 (fun v => Below X.heap.size X v) (fun u v => Below u.heap.size u v) (fun i a u => match i with | 0 => (fun a u => a = .slice (some ⟨ao, 0, none⟩) l.length c) a u | 1 => (fun a u => a = .string s) a u | 2 => (fun a u => a = (⟨v, (⟨tj.ver, tj.value⟩ : Ste).value⟩ : Ste).val) a u | 3 => (fun a u => a = .slice (some ⟨ao, 0, none⟩) l.length c) a u | 4 => (fun a u => a = .string s) a u | _ => True) (by kernel_rfl) [0, 1, 2, 3, 4] (by kernel_rfl) ?b0 ?bk ?fk ⟨?s0, ?s1, ?s2, ?s3, ?s4, trivial⟩ _ rfl [(0, some 50), (1, some 51), (2, some 52), (3, some 2), (4, some 3)] (by kernel_rfl) ?last
          case b0 => exact Below.drew (Below.refl _ _)
          case bk => exact fun u v h hb => h.trans (hb.mono h.size)
          case fk => intro i a u u' h hb; match i, h with | 0, h => exact (h) | 1, h => exact (h) | 2, h => exact (h) | 3, h => exact (h) | 4, h => exact (h) | _ + 5, _ => exact trivial
          case s0 =>
            refine StepF.of rfl [] (by kernel_rfl) ?_
            intro vs u hB hf K hK
            clear hf
            simp only [putsA, List.foldl_nil, Act.put, List.setIfInBounds_toArray] at hK ⊢
            rw [if_pos (by rfl)]
            go_simp
            exact hK.out _ _ (Below.refl _ _) rfl
          case s1 =>
            refine StepF.of rfl [] (by kernel_rfl) ?_
            intro vs u hB hf K hK
            clear hf
            simp only [putsA, List.foldl_nil, Act.put, List.setIfInBounds_toArray] at hK ⊢
            rw [if_pos (by rfl)]
            go_simp
            exact hK.out _ _ (Below.refl _ _) rfl
          case s2 =>
            refine StepF.of rfl [] (by kernel_rfl) ?_
            intro vs u hB hf K hK
            clear hf
            simp only [putsA, List.foldl_nil, Act.put, List.setIfInBounds_toArray] at hK ⊢
            rw [if_pos (by rfl)]
            have y0 := (H8.out.below hB).box.c0
            have y1 := (H8.out.below hB).box.c1
            have y2 := (H8.out.below hB).box.c2
            have y3 := (H8.out.below hB).box.c3
            go_simp
            exact hK.out _ _ (Below.refl _ _) rfl
          case s3 =>
            refine StepF.of rfl [(0, some 50)] (by kernel_rfl) ?_
            intro vs u hB hf K hK
            have f0 : (fun a u => a = .slice (some ⟨ao, 0, none⟩) l.length c) (vs 0) u := hf.1
            clear hf
            simp only [putsA, List.foldl_cons, List.foldl_nil, Act.put, List.setIfInBounds_toArray, List.set_cons_zero, List.set_cons_succ] at hK ⊢
            generalize vs 0 = v0 at f0 hK ⊢
            rw [if_pos (by rfl)]
            subst f0
            go_simp
            exact hK.out _ _ (Below.refl _ _) rfl
          case s4 =>
            refine StepF.of rfl [(0, some 50), (1, some 51), (3, some 2)] (by kernel_rfl) ?_
            intro vs u hB hf K hK
            have f0 : (fun a u => a = .slice (some ⟨ao, 0, none⟩) l.length c) (vs 0) u := hf.1
            have f1 : (fun a u => a = .string s) (vs 1) u := hf.2.1
            have f3 : (fun a u => a = .slice (some ⟨ao, 0, none⟩) l.length c) (vs 3) u := hf.2.2.1
            clear hf
            simp only [putsA, List.foldl_cons, List.foldl_nil, Act.put, List.setIfInBounds_toArray, List.set_cons_zero, List.set_cons_succ] at hK ⊢
            generalize vs 0 = v0 at f0 hK ⊢
            generalize vs 1 = v1 at f1 hK ⊢
            generalize vs 3 = v3 at f3 hK ⊢
            rw [if_pos (by rfl)]
            subst f1
            clear f0 f3
            go_simp
            exact hK.out _ _ (Below.refl _ _) rfl
          case last =>
            intro vs u hB hf K hK
            have f0 : (fun a u => a = .slice (some ⟨ao, 0, none⟩) l.length c) (vs 0) u := hf.1
            have f1 : (fun a u => a = .string s) (vs 1) u := hf.2.1
            have f2 : (fun a u => a = (⟨v, (⟨tj.ver, tj.value⟩ : Ste).value⟩ : Ste).val) (vs 2) u := hf.2.2.1
            have f3 : (fun a u => a = .slice (some ⟨ao, 0, none⟩) l.length c) (vs 3) u := hf.2.2.2.1
            have f4 : (fun a u => a = .string s) (vs 4) u := hf.2.2.2.2.1
            clear hf
            simp only [putsA, List.foldl_cons, List.foldl_nil, Act.put, List.setIfInBounds_toArray, List.set_cons_zero, List.set_cons_succ]
            generalize vs 0 = v0 at f0 ⊢
            generalize vs 1 = v1 at f1 ⊢
            generalize vs 2 = v2 at f2 ⊢
            generalize vs 3 = v3 at f3 ⊢
            generalize vs 4 = v4 at f4 ⊢
            rw [if_pos (by rfl)]
            subst f2 f3 f4
            clear f0 f1
            have HDu : Hid (DsW w w1 ao c l ca len cap _ w3.heap.size (⟨v, (⟨tj.ver, tj.value⟩ : Ste).value⟩ : Ste) u) := H8.out.below hB
            have y0 := HDu.out.res.c0
            have y1 := HDu.out.res.c1
            have y2 := HDu.out.res.c2
            have y3 := HDu.out.res.c3
            have yf := HDu.out.res.ff
            clear hB
            go_simp
            refine hK.out _ _ ?_
            clear hK
            go_wp2
            refine bodyPost_ret (v := .tuple #[.slice (some ⟨ao, 0, none⟩) l.length c, .string s, (⟨v, (⟨tj.ver, tj.value⟩ : Ste).value⟩ : Ste).val]) (by simp [results, Try.results16, go_sem, y0, y1, y2, y3]) rfl ⟨ao, c, l, s, ⟨v, (⟨tj.ver, tj.value⟩ : Ste).value⟩, rfl, ?_, HN.out.1, HN.out.2.1, HN.out.2.2, hs20, ht20, ?_⟩
            · refine own_base (base := w1.heap.size) ?_ (by omega)
              repeat (first | refine own_set_low ?_ (by omega) _ | exact HDu.out.row)
            · repeat (first | refine Below.setCell ?_ (by simp) _ | exact HDu.out.old)
        have d0 : (r == 0) = false := by simpa using c0
        by_cases c1 : r = 1
        · subst c1
          go_wp2_with fail
          refine (bentV_any _ _ ca len cap ((k3 + 1) + 1) _ H6.out.src hmax (by omega) (by omega)).mono ?_
          rintro e w7 ⟨v, k7, rfl, hn7, k71, k72, h7, o7⟩
          have H7 : Hid (DsW w w1 ao c l ca len cap k7 w3.heap.size (⟨tj.ver, tj.value⟩ : Ste) w7) := H6.out.only o7 h7 hlt hsb
          have b1 := H7.out.box.c1
          have b2 := H7.out.box.c2
          have b3 := H7.out.box.c3
          have bf := H7.out.box.ff
          clear h7 o7 H6 f6
          go_wp2_with fail
          clear b1 b2 b3 bf
          have H8 : Hid (DsW w w1 ao c l ca len cap k7 w3.heap.size ⟨(⟨tj.ver, tj.value⟩ : Ste).ver, v⟩ (((w7.setCell ⟨w3.heap.size, 1, none⟩ (.int .i64 v.kind)).setCell ⟨w3.heap.size, 2, none⟩ (.int .i64 v.num)).setCell ⟨w3.heap.size, 3, none⟩ (.string v.name))) := H7.out.put (gb_set (gb_set (gb_set (gb_refl _ _) _) _) _) (H7.out.box.value v) hsb hasb HCs.out (fun o => by rw [World.frozen?_setCell, World.frozen?_setCell, World.frozen?_setCell]; exact H7.out.res.ff o)
          have ht20 : v.name.size ≤ 20 := hn7
          clear H7
          generalize ((w7.setCell ⟨w3.heap.size, 1, none⟩ (.int .i64 v.kind)).setCell ⟨w3.heap.size, 2, none⟩ (.int .i64 v.num)).setCell ⟨w3.heap.size, 3, none⟩ (.string v.name) = X at H8 ⊢
          refine wp_region_facts (by kernel_rfl) 5 (fun v => Below X.heap.size X v) (fun u v => Below u.heap.size u v) (fun i a u => match i with | 0 => (fun a u => a = .slice (some ⟨ao, 0, none⟩) l.length c) a u | 1 => (fun a u => a = .string s) a u | 2 => (fun a u => a = (⟨(⟨tj.ver, tj.value⟩ : Ste).ver, v⟩ : Ste).val) a u | 3 => (fun a u => a = .slice (some ⟨ao, 0, none⟩) l.length c) a u | 4 => (fun a u => a = .string s) a u | _ => True) (by kernel_rfl) [0, 1, 2, 3, 4] (by kernel_rfl) ?b0 ?bk ?fk ⟨?s0, ?s1, ?s2, ?s3, ?s4, trivial⟩ _ rfl [(0, some 50), (1, some 51), (2, some 52), (3, some 2), (4, some 3)] (by kernel_rfl) ?last
          case b0 => exact Below.drew (Below.refl _ _)
          case bk => exact fun u v h hb => h.trans (hb.mono h.size)
          case fk => intro i a u u' h hb; match i, h with | 0, h => exact (h) | 1, h => exact (h) | 2, h => exact (h) | 3, h => exact (h) | 4, h => exact (h) | _ + 5, _ => exact trivial
          case s0 =>
            refine StepF.of rfl [] (by kernel_rfl) ?_
            intro vs u hB hf K hK
            clear hf
            simp only [putsA, List.foldl_nil, Act.put, List.setIfInBounds_toArray] at hK ⊢
            rw [if_pos (by rfl)]
            go_simp
            exact hK.out _ _ (Below.refl _ _) rfl
          case s1 =>
            refine StepF.of rfl [] (by kernel_rfl) ?_
            intro vs u hB hf K hK
            clear hf
            simp only [putsA, List.foldl_nil, Act.put, List.setIfInBounds_toArray] at hK ⊢
            rw [if_pos (by rfl)]
            go_simp
            exact hK.out _ _ (Below.refl _ _) rfl
          case s2 =>
            refine StepF.of rfl [] (by kernel_rfl) ?_
            intro vs u hB hf K hK
            clear hf
            simp only [putsA, List.foldl_nil, Act.put, List.setIfInBounds_toArray] at hK ⊢
            rw [if_pos (by rfl)]
            have y0 := (H8.out.below hB).box.c0
            have y1 := (H8.out.below hB).box.c1
            have y2 := (H8.out.below hB).box.c2
            have y3 := (H8.out.below hB).box.c3
            go_simp
            exact hK.out _ _ (Below.refl _ _) rfl
          case s3 =>
            refine StepF.of rfl [(0, some 50)] (by kernel_rfl) ?_
            intro vs u hB hf K hK
            have f0 : (fun a u => a = .slice (some ⟨ao, 0, none⟩) l.length c) (vs 0) u := hf.1
            clear hf
            simp only [putsA, List.foldl_cons, List.foldl_nil, Act.put, List.setIfInBounds_toArray, List.set_cons_zero, List.set_cons_succ] at hK ⊢
            generalize vs 0 = v0 at f0 hK ⊢
            rw [if_pos (by rfl)]
            subst f0
            go_simp
            exact hK.out _ _ (Below.refl _ _) rfl
          case s4 =>
            refine StepF.of rfl [(0, some 50), (1, some 51), (3, some 2)] (by kernel_rfl) ?_
            intro vs u hB hf K hK
            have f0 : (fun a u => a = .slice (some ⟨ao, 0, none⟩) l.length c) (vs 0) u := hf.1
            have f1 : (fun a u => a = .string s) (vs 1) u := hf.2.1
            have f3 : (fun a u => a = .slice (some ⟨ao, 0, none⟩) l.length c) (vs 3) u := hf.2.2.1
            clear hf
            simp only [putsA, List.foldl_cons, List.foldl_nil, Act.put, List.setIfInBounds_toArray, List.set_cons_zero, List.set_cons_succ] at hK ⊢
            generalize vs 0 = v0 at f0 hK ⊢
            generalize vs 1 = v1 at f1 hK ⊢
            generalize vs 3 = v3 at f3 hK ⊢
            rw [if_pos (by rfl)]
            subst f1
            clear f0 f3
            go_simp
            exact hK.out _ _ (Below.refl _ _) rfl
          case last =>
            intro vs u hB hf K hK
            have f0 : (fun a u => a = .slice (some ⟨ao, 0, none⟩) l.length c) (vs 0) u := hf.1
            have f1 : (fun a u => a = .string s) (vs 1) u := hf.2.1
            have f2 : (fun a u => a = (⟨(⟨tj.ver, tj.value⟩ : Ste).ver, v⟩ : Ste).val) (vs 2) u := hf.2.2.1
            have f3 : (fun a u => a = .slice (some ⟨ao, 0, none⟩) l.length c) (vs 3) u := hf.2.2.2.1
            have f4 : (fun a u => a = .string s) (vs 4) u := hf.2.2.2.2.1
            clear hf
            simp only [putsA, List.foldl_cons, List.foldl_nil, Act.put, List.setIfInBounds_toArray, List.set_cons_zero, List.set_cons_succ]
            generalize vs 0 = v0 at f0 ⊢
            generalize vs 1 = v1 at f1 ⊢
            generalize vs 2 = v2 at f2 ⊢
            generalize vs 3 = v3 at f3 ⊢
            generalize vs 4 = v4 at f4 ⊢
            rw [if_pos (by rfl)]
            subst f2 f3 f4
            clear f0 f1
            have HDu : Hid (DsW w w1 ao c l ca len cap _ w3.heap.size (⟨(⟨tj.ver, tj.value⟩ : Ste).ver, v⟩ : Ste) u) := H8.out.below hB
            have y0 := HDu.out.res.c0
            have y1 := HDu.out.res.c1
            have y2 := HDu.out.res.c2
            have y3 := HDu.out.res.c3
            have yf := HDu.out.res.ff
            clear hB
            go_simp
            refine hK.out _ _ ?_
            clear hK
            go_wp2
            refine bodyPost_ret (v := .tuple #[.slice (some ⟨ao, 0, none⟩) l.length c, .string s, (⟨(⟨tj.ver, tj.value⟩ : Ste).ver, v⟩ : Ste).val]) (by simp [results, Try.results16, go_sem, y0, y1, y2, y3]) rfl ⟨ao, c, l, s, ⟨(⟨tj.ver, tj.value⟩ : Ste).ver, v⟩, rfl, ?_, HN.out.1, HN.out.2.1, HN.out.2.2, hs20, ht20, ?_⟩
            · refine own_base (base := w1.heap.size) ?_ (by omega)
              repeat (first | refine own_set_low ?_ (by omega) _ | exact HDu.out.row)
            · repeat (first | refine Below.setCell ?_ (by simp) _ | exact HDu.out.old)
        have d1 : (r == 1) = false := by simpa using c1
        have ht20 : (⟨tj.ver, tj.value⟩ : Ste).value.name.size ≤ 20 := htj20
        clear f6
        go_wp2_with fail
        refine wp_region_facts (by kernel_rfl) 5 (fun v => Below w6.heap.size w6 v) (fun u v => Below u.heap.size u v) (fun i a u => match i with | 0 => (fun a u => a = .slice (some ⟨ao, 0, none⟩) l.length c) a u | 1 => (fun a u => a = .string s) a u | 2 => (fun a u => a = (⟨tj.ver, tj.value⟩ : Ste).val) a u | 3 => (fun a u => a = .slice (some ⟨ao, 0, none⟩) l.length c) a u | 4 => (fun a u => a = .string s) a u | _ => True) (by kernel_rfl) [0, 1, 2, 3, 4] (by kernel_rfl) ?b0 ?bk ?fk ⟨?s0, ?s1, ?s2, ?s3, ?s4, trivial⟩ _ rfl [(0, some 50), (1, some 51), (2, some 52), (3, some 2), (4, some 3)] (by kernel_rfl) ?last
        case b0 => exact Below.drew (Below.refl _ _)
        case bk => exact fun u v h hb => h.trans (hb.mono h.size)
        case fk => intro i a u u' h hb; match i, h with | 0, h => exact (h) | 1, h => exact (h) | 2, h => exact (h) | 3, h => exact (h) | 4, h => exact (h) | _ + 5, _ => exact trivial
        case s0 =>
          refine StepF.of rfl [] (by kernel_rfl) ?_
          intro vs u hB hf K hK
          clear hf
          simp only [putsA, List.foldl_nil, Act.put, List.setIfInBounds_toArray] at hK ⊢
          rw [if_pos (by rfl)]
          go_simp
          exact hK.out _ _ (Below.refl _ _) rfl
        case s1 =>
          refine StepF.of rfl [] (by kernel_rfl) ?_
          intro vs u hB hf K hK
          clear hf
          simp only [putsA, List.foldl_nil, Act.put, List.setIfInBounds_toArray] at hK ⊢
          rw [if_pos (by rfl)]
          go_simp
          exact hK.out _ _ (Below.refl _ _) rfl
        case s2 =>
          refine StepF.of rfl [] (by kernel_rfl) ?_
          intro vs u hB hf K hK
          clear hf
          simp only [putsA, List.foldl_nil, Act.put, List.setIfInBounds_toArray] at hK ⊢
          rw [if_pos (by rfl)]
          have y0 := (H6.out.below hB).box.c0
          have y1 := (H6.out.below hB).box.c1
          have y2 := (H6.out.below hB).box.c2
          have y3 := (H6.out.below hB).box.c3
          go_simp
          exact hK.out _ _ (Below.refl _ _) rfl
        case s3 =>
          refine StepF.of rfl [(0, some 50)] (by kernel_rfl) ?_
          intro vs u hB hf K hK
          have f0 : (fun a u => a = .slice (some ⟨ao, 0, none⟩) l.length c) (vs 0) u := hf.1
          clear hf
          simp only [putsA, List.foldl_cons, List.foldl_nil, Act.put, List.setIfInBounds_toArray, List.set_cons_zero, List.set_cons_succ] at hK ⊢
          generalize vs 0 = v0 at f0 hK ⊢
          rw [if_pos (by rfl)]
          subst f0
          go_simp
          exact hK.out _ _ (Below.refl _ _) rfl
        case s4 =>
          refine StepF.of rfl [(0, some 50), (1, some 51), (3, some 2)] (by kernel_rfl) ?_
          intro vs u hB hf K hK
          have f0 : (fun a u => a = .slice (some ⟨ao, 0, none⟩) l.length c) (vs 0) u := hf.1
          have f1 : (fun a u => a = .string s) (vs 1) u := hf.2.1
          have f3 : (fun a u => a = .slice (some ⟨ao, 0, none⟩) l.length c) (vs 3) u := hf.2.2.1
          clear hf
          simp only [putsA, List.foldl_cons, List.foldl_nil, Act.put, List.setIfInBounds_toArray, List.set_cons_zero, List.set_cons_succ] at hK ⊢
          generalize vs 0 = v0 at f0 hK ⊢
          generalize vs 1 = v1 at f1 hK ⊢
          generalize vs 3 = v3 at f3 hK ⊢
          rw [if_pos (by rfl)]
          subst f1
          clear f0 f3
          go_simp
          exact hK.out _ _ (Below.refl _ _) rfl
        case last =>
          intro vs u hB hf K hK
          have f0 : (fun a u => a = .slice (some ⟨ao, 0, none⟩) l.length c) (vs 0) u := hf.1
          have f1 : (fun a u => a = .string s) (vs 1) u := hf.2.1
          have f2 : (fun a u => a = (⟨tj.ver, tj.value⟩ : Ste).val) (vs 2) u := hf.2.2.1
          have f3 : (fun a u => a = .slice (some ⟨ao, 0, none⟩) l.length c) (vs 3) u := hf.2.2.2.1
          have f4 : (fun a u => a = .string s) (vs 4) u := hf.2.2.2.2.1
          clear hf
          simp only [putsA, List.foldl_cons, List.foldl_nil, Act.put, List.setIfInBounds_toArray, List.set_cons_zero, List.set_cons_succ]
          generalize vs 0 = v0 at f0 ⊢
          generalize vs 1 = v1 at f1 ⊢
          generalize vs 2 = v2 at f2 ⊢
          generalize vs 3 = v3 at f3 ⊢
          generalize vs 4 = v4 at f4 ⊢
          rw [if_pos (by rfl)]
          subst f2 f3 f4
          clear f0 f1
          have HDu : Hid (DsW w w1 ao c l ca len cap _ w3.heap.size (⟨tj.ver, tj.value⟩ : Ste) u) := H6.out.below hB
          have y0 := HDu.out.res.c0
          have y1 := HDu.out.res.c1
          have y2 := HDu.out.res.c2
          have y3 := HDu.out.res.c3
          have yf := HDu.out.res.ff
          clear hB
          go_simp
          refine hK.out _ _ ?_
          clear hK
          go_wp2
          refine bodyPost_ret (v := .tuple #[.slice (some ⟨ao, 0, none⟩) l.length c, .string s, (⟨tj.ver, tj.value⟩ : Ste).val]) (by simp [results, Try.results16, go_sem, y0, y1, y2, y3]) rfl ⟨ao, c, l, s, ⟨tj.ver, tj.value⟩, rfl, ?_, HN.out.1, HN.out.2.1, HN.out.2.2, hs20, ht20, ?_⟩
          · refine own_base (base := w1.heap.size) ?_ (by omega)
            repeat (first | refine own_set_low ?_ (by omega) _ | exact HDu.out.row)
          · repeat (first | refine Below.setCell ?_ (by simp) _ | exact HDu.out.old)
end Go.Proofs.Ytgfienijabkpjaa
/-
  What is found behind a put: globals without fault, the new one by its name, all others as they were; no program in it.
-/
namespace Go.Proofs.Ytgfienijabkpjaa
open Go.RowKit Go.Extern.Stop Go.Stop Go.Extern Num Go.Lib

/-- No two have one name. -/
def AptG (l : List Glb) : Prop := ∀ (i j : Nat) (hi : i < l.length) (hj : j < l.length), i < j → l[i].name ≠ l[j].name
theorem GFine.apt {l : List Glb} (h : GFine l l.length) : AptG l := fun i j hi hj hij => by
  have := atG_none.1 (h.apart j hj hj) i (by rw [List.length_take]; omega)
  rw [List.getElem_take] at this
  exact this
theorem AptG.at {l : List Glb} (h : AptG l) (i : Nat) (hi : i < l.length) : atG l l[i].name = some i := by
  cases e : atG l l[i].name with
  | none => exact absurd rfl (atG_none.1 e i hi)
  | some k =>
    obtain ⟨hk, h1, h2⟩ := atG_some e
    rcases Nat.lt_trichotomy k i with hlt | heq | hgt
    · exact absurd h1 (h k i hk hi hlt)
    · rw [heq]
    · exact absurd rfl (h2 i hi hgt)
theorem fine_fault {l : List Glb} (hl : l.length ≤ 60) (h1 : ∀ (k : Nat) (h : k < l.length), symL l[k].name.data.toList = true ∧ vfault l[k].value = 0) (h2 : ∀ (k : Nat) (h : k < l.length), 1 ≤ l[k].ver ∧ l[k].ver ≤ 99999) (h3 : AptG l) : globFault l = 0 := by
  have step : ∀ (k : Nat) (h : k < l.length), goneG l k (l[k]'h) = 0 := fun k h => by
    unfold goneG
    have hn : atG (l.take k) (l[k]'h).name = none := atG_none.2 (fun j hj => by
      rw [List.length_take] at hj
      rw [List.getElem_take]
      exact h3 j k (by omega) h (by omega))
    rw [if_neg (by rw [(h1 k h).1]; simp), if_neg (by simp [(h1 k h).2]), if_neg (by simpa using h2 k h), hn]
    rfl
  have key : ∀ d k, l.length - k ≤ d → globFrom l k (l.drop k) = 0 := by
    intro d
    induction d with
    | zero => intro k hk; exact globFrom_end l k (by omega)
    | succ d ih =>
      intro k hk
      by_cases hlt : k < l.length
      · rw [globFrom_ok l k hlt (step k hlt)]; exact ih (k + 1) (by omega)
      · exact globFrom_end l k (by omega)
  unfold globFault
  rw [if_neg (by omega)]
  have := key l.length 0 (by omega)
  rwa [List.drop_zero] at this
/-- All of it: what FnGlobals asks of a put. -/
theorem put_math {l : List Glb} {s : ByteArray} {v : Vlu} (h : codeDG l s v = 0) :
    askG l s = 0 ∧ globFault (outDG l s v) = 0 ∧ codeLG (outDG l s v) s = 0 ∧ (valLG (outDG l s v) s).value = v ∧ (codeLG l s = 0 ∨ (valLG (outDG l s v) s).ver = 1) ∧ (codeLG l s ≠ 0 ∨ (valLG (outDG l s v) s).ver = (valLG l s).ver + 1) ∧ codeSG l s v = codeLG l s ∧ (codeLG l s = 0 → 1 ≤ (valLG l s).ver ∧ (valLG l s).ver ≤ 99999) ∧
    ∀ (i : Nat) (hi : i < l.length), (l[i]'hi).name ≠ s → valLG (outDG l s v) (l[i]'hi).name = l[i]'hi := by
  have h0 : askG l s = 0 := by
    by_cases e : askG l s = 0
    · exact e
    · rw [(dg_ask e).1] at h; exact absurd h e
  have h1 : vfault v = 0 := by
    by_cases e : vfault v = 0
    · exact e
    · rw [(dg_val h0 e).1] at h; exact absurd h e
  obtain ⟨e1, e2⟩ := dg_put (l := l) (s := s) h0 h1
  rw [e2]
  rw [e1] at h
  obtain ⟨_, hsy, hl60, hf⟩ := ask_fine2 h0
  have hfine := putL_fine l s v hf hsy h1
  have hlen := putL_len l s v hl60
  have hap := hf.apt
  have ask_of : ∀ (M : List Glb) (x : ByteArray), globFault M = 0 → symL x.data.toList = true → askG M x = 0 := fun M x h2 h3 => by
    unfold askG symC
    rw [if_neg (by simp [h2]), if_pos h3]
  cases hat : atG l s with
  | none =>
    rw [putC_none hat] at h
    have h6 : ¬ 60 ≤ l.length := fun e => by rw [if_pos e] at h; simp at h
    have eM : putL l s v = l ++ [⟨s, v, 1⟩] := by rw [putL_none hat, if_neg h6]
    rw [eM] at hfine hlen ⊢
    have hne := atG_none.1 hat
    have gl : ∀ (i : Nat) (hi : i < l.length) (hi2 : i < (l ++ [(⟨s, v, 1⟩ : Glb)]).length), (l ++ [(⟨s, v, 1⟩ : Glb)])[i]'hi2 = l[i]'hi := fun i hi hi2 => List.getElem_append_left hi
    have gn : (l ++ [(⟨s, v, 1⟩ : Glb)])[l.length]'(by simp) = ⟨s, v, 1⟩ := by rw [List.getElem_append_right (Nat.le_refl _)]; simp
    have hA : AptG (l ++ [(⟨s, v, 1⟩ : Glb)]) := fun i j hi hj hij => by
      have hj' : j ≤ l.length := by simp at hj; omega
      rw [gl i (by omega)]
      by_cases e : j < l.length
      · rw [gl j e]; exact hap i j (by omega) e hij
      · have : j = l.length := by omega
        subst this
        rw [gn]; exact hne i (by omega)
    have hF : globFault (l ++ [(⟨s, v, 1⟩ : Glb)]) = 0 := fine_fault hlen hfine (fun k hk => by
      by_cases e : k < l.length
      · rw [gl k e]; exact hf.ver k e e
      · have : k = l.length := by simp at hk; omega
        subst this
        rw [gn]; exact ⟨Int.le_refl _, by show (1 : Int) ≤ 99999; omega⟩) hA
    have hs : atG (l ++ [(⟨s, v, 1⟩ : Glb)]) s = some l.length := by
      have := hA.at l.length (by simp)
      rwa [gn] at this
    obtain ⟨a1, a2⟩ := lg_some (ask_of _ s hF hsy) hs (by simp)
    obtain ⟨b1, b2⟩ := lg_none h0 hat
    rw [a2, gn]
    refine ⟨h0, hF, a1, rfl, Or.inr rfl, Or.inl (by rw [b1]; decide), by rw [(sg_none h0 h1 hat).1, b1], fun e => by rw [b1] at e; simp at e, fun i hi hn => ?_⟩
    have hai := hA.at i (by simp; omega)
    rw [gl i hi] at hai
    obtain ⟨_, c2⟩ := lg_some (ask_of _ _ hF (hf.sym i hi hi)) hai (by simp; omega)
    rw [c2, gl i hi]
  | some k =>
    obtain ⟨hk, hnm, _⟩ := atG_some hat
    rw [putC_some hat hk] at h
    have h9 : ¬ 99999 ≤ (l[k]'hk).ver := fun e => by rw [if_pos e] at h; simp at h
    have hv := hf.ver k hk hk
    have eM : putL l s v = (l.take k ++ [⟨(l[k]'hk).name, v, (l[k]'hk).ver + 1⟩]) ++ l.drop (k + 1) := by rw [putL_some hat hk, if_neg h9]
    rw [eM, ← set_take l k hk] at hfine hlen ⊢
    have gn : ∀ h2, (l.set k ⟨(l[k]'hk).name, v, (l[k]'hk).ver + 1⟩)[k]'h2 = ⟨(l[k]'hk).name, v, (l[k]'hk).ver + 1⟩ := fun h2 => List.getElem_set_self _
    have gl : ∀ (i : Nat) (hi : i < l.length) (hik : i ≠ k) (h2), (l.set k ⟨(l[k]'hk).name, v, (l[k]'hk).ver + 1⟩)[i]'h2 = l[i]'hi := fun i hi hik h2 => List.getElem_set_ne (Ne.symm hik) _
    have hl2 : (l.set k ⟨(l[k]'hk).name, v, (l[k]'hk).ver + 1⟩).length = l.length := List.length_set
    have gname : ∀ (i : Nat) (hi : i < l.length) (h2), ((l.set k ⟨(l[k]'hk).name, v, (l[k]'hk).ver + 1⟩)[i]'h2).name = (l[i]'hi).name := fun i hi h2 => by
      by_cases e : i = k
      · subst e; rw [gn]
      · rw [gl i hi e]
    have hA : AptG (l.set k ⟨(l[k]'hk).name, v, (l[k]'hk).ver + 1⟩) := fun i j hi hj hij => by
      rw [gname i (by omega), gname j (by omega)]; exact hap i j (by omega) (by omega) hij
    have hF : globFault (l.set k ⟨(l[k]'hk).name, v, (l[k]'hk).ver + 1⟩) = 0 := fine_fault hlen hfine (fun i hi => by
      by_cases e : i = k
      · subst e; rw [gn]; exact ⟨by show 1 ≤ (l[i]'hk).ver + 1; omega, by show (l[i]'hk).ver + 1 ≤ 99999; omega⟩
      · rw [gl i (by omega) e]; exact hf.ver i (by omega) (by omega)) hA
    have hs : atG (l.set k ⟨(l[k]'hk).name, v, (l[k]'hk).ver + 1⟩) s = some k := by
      have h5 := hA.at k (by omega)
      have h6 : ((l.set k ⟨(l[k]'hk).name, v, (l[k]'hk).ver + 1⟩)[k]'(by omega)).name = s := (gname k hk _).trans hnm
      rwa [h6] at h5
    obtain ⟨a1, a2⟩ := lg_some (ask_of _ s hF hsy) hs (by omega)
    obtain ⟨b1, b2⟩ := lg_some h0 hat hk
    rw [a2, gn, b2]
    have hp : putC l s = 0 := by rw [putC_some hat hk, if_neg h9]
    refine ⟨h0, hF, a1, rfl, Or.inl b1, Or.inr rfl, by rw [(sg_put (v := v) h0 h1 (by rw [hat]; simp)).1, b1, hp], fun _ => hv, fun i hi hn => ?_⟩
    have hik : i ≠ k := fun e => hn (by subst e; exact hnm)
    have hai := hA.at i (by omega)
    rw [gname i hi] at hai
    obtain ⟨_, c2⟩ := lg_some (ask_of _ _ hF (hf.sym i hi hi)) hai (by omega)
    rw [c2, gl i hi hik]
end Go.Proofs.Ytgfienijabkpjaa
/-
  What FnSites asks of a site that was fetched: it is the global's, it hits again, and no longer behind another definition; no program in it.
-/
namespace Go.Proofs.Ytgfienijabkpjaa
open Go.RowKit Go.Extern.Stop Go.Stop Go.Extern Num Go.Lib

theorem lg_at {l : List Glb} {s : ByteArray} (h0 : askG l s = 0) (h : codeLG l s = 0) : ∃ k, ∃ hk : k < l.length, atG l s = some k ∧ valLG l s = l[k]'hk := by
  cases hat : atG l s with
  | none => rw [(lg_none h0 hat).1] at h; simp at h
  | some k =>
    obtain ⟨hk, _⟩ := atG_some hat
    exact ⟨k, hk, rfl, (lg_some h0 hat hk).2⟩
/-- The site of a version and a value. -/
def v77 : Vlu := ⟨1, 77, ⟨#[]⟩⟩
theorem v77_fine : vfault v77 = 0 := by decide +kernel
theorem eqVB_refl (a : Vlu) : eqVB a a = true := (eqVB_iff a a).2 rfl
theorem codeSF_of {l : List Glb} {s : ByteArray} {k : Nat} (h0 : askG l s = 0) (hat : atG l s = some k) (hk : k < l.length) (t : Ste) (hm : memC t = 0) (hp : (l[k]'hk).ver ≠ t.ver ∨ (l[k]'hk).value = t.value) : codeSF l s t = 0 := by
  unfold codeSF parts
  rw [if_neg (by simp [h0]), if_neg (by simp [hm]), hat]
  have e : l.getD k gZ = l[k]'hk := by simp [List.getD, hk]
  simp only [e]
  rcases hp with h | h
  · have : ((l[k]'hk).ver == t.ver) = false := by simpa using h
    rw [this]; rfl
  · rw [h, eqVB_refl]; simp
theorem site_math {l : List Glb} {s : ByteArray} {t : Ste} (h : (outFS l s t).1 = 0) :
    ∃ T : Glb, (outFS l s t).2.2 = (T.value, T.ver) ∧ codeLG l s = 0 ∧ valLG l s = T ∧ outFS l s ⟨T.ver, T.value⟩ = (0, true, T.value, T.ver) ∧ codeSF l s ⟨T.ver, T.value⟩ = 0 ∧ (codeDG l s v77 = 0 ∨ codeDG l s v77 = 3) ∧
      (codeDG l s v77 = 0 → outFS (outDG l s v77) s ⟨T.ver, T.value⟩ = (0, false, v77, T.ver + 1)) := by
  have hc : codeSF l s t = 0 := by
    by_cases e : codeSF l s t = 0
    · exact e
    · rw [fs_bad e] at h; exact absurd h e
  have h0 : askG l s = 0 := by
    unfold codeSF at hc
    by_cases e : askG l s = 0
    · exact e
    · rw [if_pos e] at hc; exact absurd hc e
  have hm : memC t = 0 := by
    unfold codeSF at hc
    rw [if_neg (by simp [h0])] at hc
    by_cases e : memC t = 0
    · exact e
    · rw [if_pos e] at hc; exact absurd hc e
  cases hat : atG l s with
  | none => rw [fs_none hc hat] at h; simp at h
  | some k =>
    obtain ⟨hk, hnm, _⟩ := atG_some hat
    obtain ⟨_, hsy, hl60, hf⟩ := ask_fine2 h0
    have hv := hf.ver k hk hk
    have hvl := hf.val k hk hk
    have e : l.getD k gZ = l[k]'hk := by simp [List.getD, hk]
    have hmt : memC ⟨(l[k]'hk).ver, (l[k]'hk).value⟩ = 0 := by
      unfold memC
      rw [if_neg (by show ¬ (l[k]'hk).ver = 0; omega), if_pos hv]; exact hvl
    have hct : codeSF l s ⟨(l[k]'hk).ver, (l[k]'hk).value⟩ = 0 := codeSF_of h0 hat hk _ hmt (Or.inr rfl)
    obtain ⟨b1, b2⟩ := lg_some h0 hat hk
    refine ⟨l[k]'hk, ?_, b1, b2, ?_, hct, ?_, fun hd => ?_⟩
    · rw [fs_some hc hat hk]
      by_cases hev : (l[k]'hk).ver = t.ver
      · rw [if_pos hev]
        have hpt : parts l s t = false := by
          unfold codeSF at hc
          rw [if_neg (by simp [h0]), if_neg (by simp [hm])] at hc
          by_cases e2 : parts l s t = true
          · rw [if_pos e2] at hc; simp at hc
          · simpa using e2
        unfold parts at hpt
        rw [hat] at hpt
        simp only [e, hev, BEq.rfl, Bool.true_and, Bool.not_eq_false'] at hpt
        rw [(eqVB_iff _ _).1 hpt, hev]
      · rw [if_neg hev]
    · rw [fs_some hct hat hk, if_pos rfl]
    · rw [(dg_put h0 v77_fine).1, putC_some hat hk]
      by_cases h9 : 99999 ≤ (l[k]'hk).ver
      · rw [if_pos h9]; exact Or.inr rfl
      · rw [if_neg h9]; exact Or.inl rfl
    · obtain ⟨m1, m2, m3, m4, m5, m6, _, _, _⟩ := put_math hd
      have hM0 : askG (outDG l s v77) s = 0 := by
        unfold askG symC
        rw [if_neg (by simp [m2]), if_pos hsy]
      obtain ⟨j, hj, ha, hvj⟩ := lg_at hM0 m3
      rw [hvj] at m4 m6
      have hver : ((outDG l s v77)[j]'hj).ver = (l[k]'hk).ver + 1 := by
        rcases m6 with h6 | h6
        · exact absurd b1 h6
        · rw [h6, b2]
      have hcM : codeSF (outDG l s v77) s ⟨(l[k]'hk).ver, (l[k]'hk).value⟩ = 0 := codeSF_of hM0 ha hj _ hmt (Or.inl (by rw [hver]; show ¬ (l[k]'hk).ver + 1 = (l[k]'hk).ver; omega))
      rw [fs_some hcM ha hj, if_neg (by rw [hver]; show ¬ (l[k]'hk).ver + 1 = (l[k]'hk).ver; omega), m4, hver]
end Go.Proofs.Ytgfienijabkpjaa
/-
  The law FnGlobals answers true at all bytes: what is defined is there, with another version, and all others stay; nothing that was there is turned.
-/
namespace Go.Proofs.Ytgfienijabkpjaa
open Go.RowKit Go.Extern.Stop Go.Stop Go.Extern Num Go.Lib

/-- The box of a GlobalResult. -/
structure LkA (x : Nat) (c : Int) (t : Glb) (u : World) : Prop where
  c0 : u.cell? ⟨x, 0, none⟩ = some (.int .i64 c)
  c1 : u.cell? ⟨x, 1, none⟩ = some (.string t.name)
  c2 : u.cell? ⟨x, 2, none⟩ = some (.int .i64 t.value.kind)
  c3 : u.cell? ⟨x, 3, none⟩ = some (.int .i64 t.value.num)
  c4 : u.cell? ⟨x, 4, none⟩ = some (.string t.value.name)
  c5 : u.cell? ⟨x, 5, none⟩ = some (.int .i64 t.ver)
theorem LkA.below {x : Nat} {c : Int} {t : Glb} {u v : World} (h : LkA x c t u) (hb : Below u.heap.size u v) : LkA x c t v := ⟨cell_keep hb h.c0, cell_keep hb h.c1, cell_keep hb h.c2, cell_keep hb h.c3, cell_keep hb h.c4, cell_keep hb h.c5⟩
theorem LkA.grown {x : Nat} {c : Int} {t : Glb} {u v : World} {r : Option Nat} (h : LkA x c t u) (hg : u.grownBy v r) (hx : some x ≠ r) : LkA x c t v := ⟨hg.cell h.c0 hx, hg.cell h.c1 hx, hg.cell h.c2 hx, hg.cell h.c3 hx, hg.cell h.c4 hx, hg.cell h.c5 hx⟩
theorem lkA_new (u : World) (c : Int) (t : Glb) (T : TypeId) : LkA u.heap.size c t (u.alloc (.cells #[.int .i64 c, .string t.name, .int .i64 t.value.kind, .int .i64 t.value.num, .string t.value.name, .int .i64 t.ver] T)) :=
  ⟨by rw [World.cell?_alloc_at _ _ _ _ rfl]; rfl, by rw [World.cell?_alloc_at _ _ _ _ rfl]; rfl, by rw [World.cell?_alloc_at _ _ _ _ rfl]; rfl, by rw [World.cell?_alloc_at _ _ _ _ rfl]; rfl, by rw [World.cell?_alloc_at _ _ _ _ rfl]; rfl, by rw [World.cell?_alloc_at _ _ _ _ rfl]; rfl⟩
def LkZ (n x : Nat) (u : World) : Prop := n ≤ x ∧ u.heap[x]? = some (.cells #[.int .i64 0, .string ⟨#[]⟩, .int .i64 0, .int .i64 0, .string ⟨#[]⟩, .int .i64 0] 35 (0, 0))
theorem LkZ.below {n x : Nat} {u v : World} (h : LkZ n x u) (hb : Below u.heap.size u v) : LkZ n x v := ⟨h.1, by rw [hb.block x (lt_blk h.2)]; exact h.2⟩
theorem LkZ.cells {n x : Nat} {u : World} (h : LkZ n x u) : u.cell? ⟨x, 0, none⟩ = some (.int .i64 0) ∧ u.cell? ⟨x, 1, none⟩ = some (.string ⟨#[]⟩) ∧ u.cell? ⟨x, 2, none⟩ = some (.int .i64 0) ∧ u.cell? ⟨x, 3, none⟩ = some (.int .i64 0) ∧ u.cell? ⟨x, 4, none⟩ = some (.string ⟨#[]⟩) ∧ u.cell? ⟨x, 5, none⟩ = some (.int .i64 0) ∧ ∀ o, u.frozen? ⟨x, o, none⟩ = false :=
  ⟨by rw [cell_of_row u x 0 _ _ _ h.2]; rfl, by rw [cell_of_row u x 1 _ _ _ h.2]; rfl, by rw [cell_of_row u x 2 _ _ _ h.2]; rfl, by rw [cell_of_row u x 3 _ _ _ h.2]; rfl, by rw [cell_of_row u x 4 _ _ _ h.2]; rfl, by rw [cell_of_row u x 5 _ _ _ h.2]; rfl, fun o => by unfold World.frozen?; simp [h.2]⟩
theorem LkZ.put {n x : Nat} {u : World} {c : Int} {t : Glb} (h : LkZ n x u) : LkA x c t ((((((u.setCell ⟨x, 0, none⟩ (.int .i64 c)).setCell ⟨x, 1, none⟩ (.string t.name)).setCell ⟨x, 2, none⟩ (.int .i64 t.value.kind)).setCell ⟨x, 3, none⟩ (.int .i64 t.value.num)).setCell ⟨x, 4, none⟩ (.string t.value.name)).setCell ⟨x, 5, none⟩ (.int .i64 t.ver)) ∧ u.grownBy ((((((u.setCell ⟨x, 0, none⟩ (.int .i64 c)).setCell ⟨x, 1, none⟩ (.string t.name)).setCell ⟨x, 2, none⟩ (.int .i64 t.value.kind)).setCell ⟨x, 3, none⟩ (.int .i64 t.value.num)).setCell ⟨x, 4, none⟩ (.string t.value.name)).setCell ⟨x, 5, none⟩ (.int .i64 t.ver)) (some x) := by
  obtain ⟨c0, c1, c2, c3, c4, c5, _⟩ := h.cells
  refine ⟨?_, gb_set (gb_set (gb_set (gb_set (gb_set (gb_set (gb_refl _ _) _) _) _) _) _) _⟩
  have o : ∀ (v : World) (i j : Nat) (y : Value), i ≠ j → (v.setCell ⟨x, i, none⟩ y).cell? ⟨x, j, none⟩ = v.cell? ⟨x, j, none⟩ := fun v i j y h => World.cell?_setCell_other _ _ _ _ (fun e => h (by injection e))
  refine ⟨?_, ?_, ?_, ?_, ?_, ?_⟩
  · rw [o _ 5 0 _ (by decide), o _ 4 0 _ (by decide), o _ 3 0 _ (by decide), o _ 2 0 _ (by decide), o _ 1 0 _ (by decide), World.cell?_setCell_same _ _ _ c0]
  · rw [o _ 5 1 _ (by decide), o _ 4 1 _ (by decide), o _ 3 1 _ (by decide), o _ 2 1 _ (by decide), World.cell?_setCell_same _ _ _ (by rw [o _ 0 1 _ (by decide)]; exact c1)]
  · rw [o _ 5 2 _ (by decide), o _ 4 2 _ (by decide), o _ 3 2 _ (by decide), World.cell?_setCell_same _ _ _ (by rw [o _ 1 2 _ (by decide), o _ 0 2 _ (by decide)]; exact c2)]
  · rw [o _ 5 3 _ (by decide), o _ 4 3 _ (by decide), World.cell?_setCell_same _ _ _ (by rw [o _ 2 3 _ (by decide), o _ 1 3 _ (by decide), o _ 0 3 _ (by decide)]; exact c3)]
  · rw [o _ 5 4 _ (by decide), World.cell?_setCell_same _ _ _ (by rw [o _ 3 4 _ (by decide), o _ 2 4 _ (by decide), o _ 1 4 _ (by decide), o _ 0 4 _ (by decide)]; exact c4)]
  · rw [World.cell?_setCell_same _ _ _ (by rw [o _ 4 5 _ (by decide), o _ 3 5 _ (by decide), o _ 2 5 _ (by decide), o _ 1 5 _ (by decide), o _ 0 5 _ (by decide)]; exact c5)]
/-- What lies there behind both calls. -/
structure FgW (w : World) (g cl : Nat) (l : List Glb) (vb : Nat) (v : Vlu) (rb : Nat) (c0 : Int) (aq : Option Addr) (cq : Nat) (M : List Glb) (sb : Nat) (c1 : Int) (sl : Value) (u : World) : Prop where
  old : Below w.heap.size w u
  row : World.ownsRow u w.heap.size 33 5 (.slice (some ⟨g, 0, none⟩) l.length cl) l.length (cellsG l)
  val : VBox vb v u
  rbx : GrA rb c0 (.slice aq M.length cq) u
  rrow : World.ownsRow u w.heap.size 33 5 (.slice aq M.length cq) M.length (cellsG M)
  sbx : GrA sb c1 sl u
theorem FgW.below {w u u' : World} {g cl vb rb cq sb : Nat} {l M : List Glb} {v : Vlu} {c0 c1 : Int} {aq : Option Addr} {sl : Value} (h : FgW w g cl l vb v rb c0 aq cq M sb c1 sl u) (hb : Below u.heap.size u u') : FgW w g cl l vb v rb c0 aq cq M sb c1 sl u' :=
  ⟨h.old.trans (hb.mono h.old.size), own_below h.row hb, h.val.below hb, h.rbx.below hb, own_below h.rrow hb, h.sbx.below hb⟩
theorem FgW.grown {w u u' : World} {g cl vb rb cq sb x : Nat} {l M : List Glb} {v : Vlu} {c0 c1 : Int} {aq : Option Addr} {sl : Value} (h : FgW w g cl l vb v rb c0 aq cq M sb c1 sl u) (hg : u.grownBy u' (some x)) (hx : w.heap.size ≤ x) (h1 : ∀ g', (Value.slice (some ⟨g, 0, none⟩) l.length cl).ownBlock = some g' → g' ≠ x) (h2 : ∀ g', (Value.slice aq M.length cq).ownBlock = some g' → g' ≠ x) (h3 : vb ≠ x) (h4 : rb ≠ x) (h5 : sb ≠ x) : FgW w g cl l vb v rb c0 aq cq M sb c1 sl u' :=
  ⟨h.old.trans (below_of_grown hg h.old.size (fun k hk => by have := Option.some.inj hk; omega)), own_apart h.row hg (fun g' hg' e => h1 g' hg' (Option.some.inj e).symm), ⟨hg.cell h.val.c0 (by simpa using h3), hg.cell h.val.c1 (by simpa using h3), hg.cell h.val.c2 (by simpa using h3)⟩, h.rbx.grown hg (by simpa using h4), own_apart h.rrow hg (fun g' hg' e => h2 g' hg' (Option.some.inj e).symm), h.sbx.grown hg (by simpa using h5)⟩
theorem bytes_self (a : ByteArray) : (a.toList == a.toList) = true := by simp
theorem eqVal (v : Vlu) (u : World) : (binOp .eql 26 v.val v.val).run Try.prog u = .ok (.bool true) u := by
  have h := bytes_self v.name
  go_simp
theorem neqGlb (t : Glb) (u : World) : (binOp .neq 33 t.val t.val).run Try.prog u = .ok (.bool false) u := by
  have h1 := bytes_self t.name
  have h2 := bytes_self t.value.name
  go_simp
set_option maxRecDepth 100000 in
set_option maxHeartbeats 8000000 in
theorem lawFG_any (w : World) (ca : Option Addr) (len cap : Nat) (h : Bytes w ca len) (hmax : (len : Int) ≤ 9223372036854775807) :
    Calls Try.prog 3 #[.slice ca len cap] w fun e w' => e = .returned (.bool true) ∧ Below w.heap.size w w' := by
  have HD : Hid (Calls Try.prog 9 #[.slice ca len cap] w fun e w' => DgRes w e w') := drawDG_any w ca len cap h hmax
  clear h hmax
  go_enter Try.func3, Try.ntmps3
  go_wp2_with fail
  refine (big_any _ ca len cap).mono ?_
  rintro e w0 ⟨t, rfl, hw0⟩
  replace hw0 := hw0.symm
  subst hw0
  cases t with
  | true =>
    go_wp2
    go_ret
    exact ⟨rfl, Below.refl _ _⟩
  | false =>
  go_wp2_with fail
  refine HD.out.mono ?_
  rintro e w1 ⟨g, cl, l, s, v, rfl, ho, hn, hl1, hl2, hs, hv, hb⟩
  have hab := ableG_short hn
  have hlm : l.length ≤ 1048576 := by omega
  have hcp := own_caps ho
  have HPD : Hid (∀ u, World.ownsRow u w.heap.size 33 5 (.slice (some ⟨g, 0, none⟩) l.length cl) l.length (cellsG l) → Calls Try.prog 12 #[.slice (some ⟨g, 0, none⟩) l.length cl, .string s, v.val] u fun e w' => AnsD u (codeDG l s v) (outDG l s v) e w') := fun u hu => specDG_any cl _ g l s v u hlm hcp.1 hcp.2 hu hab (by omega) (by omega)
  have HPS : Hid (∀ u, World.ownsRow u w.heap.size 33 5 (.slice (some ⟨g, 0, none⟩) l.length cl) l.length (cellsG l) → Calls Try.prog 13 #[.slice (some ⟨g, 0, none⟩) l.length cl, .string s, v.val] u fun e w' => AnsD u (codeSG l s v) (outSG l s v) e w') := fun u hu => specSG_any cl _ g l s v u hlm hcp.1 hcp.2 hu hab (by omega) (by omega)
  have HID : Hid (∀ u, World.ownsRow u w.heap.size 33 5 (.slice (some ⟨g, 0, none⟩) l.length cl) l.length (cellsG l) → Calls Try.prog 10 #[.slice (some ⟨g, 0, none⟩) l.length cl, .string s, v.val] u fun e w' => AnsD u (codeDG l s v) (outDG l s v) e w') := fun u hu => implDG_any _ cl g l s v u hlm (fun _ => rfl) (RowG.of hu) hab (by omega) (by omega)
  have HIS : Hid (∀ u, World.ownsRow u w.heap.size 33 5 (.slice (some ⟨g, 0, none⟩) l.length cl) l.length (cellsG l) → Calls Try.prog 11 #[.slice (some ⟨g, 0, none⟩) l.length cl, .string s, v.val] u fun e w' => AnsD u (codeSG l s v) (outSG l s v) e w') := fun u hu => implSG_any _ cl g l s v u hlm (fun _ => rfl) (RowG.of hu) hab (by omega) (by omega)
  have HLl : Hid (∀ u, World.ownsRow u w.heap.size 33 5 (.slice (some ⟨g, 0, none⟩) l.length cl) l.length (cellsG l) → Calls Try.prog 14 #[.slice (some ⟨g, 0, none⟩) l.length cl, .string s] u fun e w' => e = .returned (GR (codeLG l s) (valLG l s)) ∧ Below u.heap.size u w') := fun u hu => implLG_any _ cl g l s u hlm (fun _ => rfl) (RowG.of hu) hab (by omega)
  have hMs := outDG_short l s v hn hs hv
  have hM1 := outDG_some l s v
  have hM6 := outDG_len l s v
  have HMt : Hid (codeDG l s v = 0 → _) := fun h0 => put_math h0
  generalize outDG l s v = M at HPD HID hMs hM1 hM6 HMt
  generalize codeDG l s v = c0 at HPD HID hM1 HMt
  generalize outSG l s v = M1 at HPS HIS
  generalize codeSG l s v = c1 at HPS HIS HMt
  have hMa := ableG_short hMs
  have HLM : Hid (∀ u (aq : Option Addr) (cq : Nat) (x : ByteArray), 1 ≤ M.length → x.size ≤ 20 → World.ownsRow u w.heap.size 33 5 (.slice aq M.length cq) M.length (cellsG M) → Calls Try.prog 14 #[.slice aq M.length cq, .string x] u fun e w' => e = .returned (GR (codeLG M x) (valLG M x)) ∧ Below u.heap.size u w') := fun u aq cq x h1 hx hu => by
    obtain ⟨gq, cqq, hv, _, _⟩ := hu.form (by omega)
    obtain ⟨rfl, rfl⟩ : aq = some ⟨gq, 0, none⟩ ∧ cq = cqq := by simp at hv; exact hv
    exact implLG_any _ cq gq M x u (by omega) (fun _ => rfl) (RowG.of hu) hMa (by omega)
  have HGF : Hid (∀ u (aq : Option Addr) (cq : Nat), 1 ≤ M.length → World.ownsRow u w.heap.size 33 5 (.slice aq M.length cq) M.length (cellsG M) → Calls Try.prog 15 #[.slice aq M.length cq] u fun e w' => e = .returned (.int .i64 (globFault M)) ∧ Below u.heap.size u w') := fun u aq cq h1 hu => by
    obtain ⟨gq, cqq, hv, _, _⟩ := hu.form (by omega)
    obtain ⟨rfl, rfl⟩ : aq = some ⟨gq, 0, none⟩ ∧ cq = cqq := by simp at hv; exact hv
    exact implGF_any _ cq gq M u (by omega) (fun _ => rfl) (RowG.of hu) hMa
  have HLs : Hid (ShortG l ∧ l.length ≤ 61 ∧ s.size ≤ 20 ∧ (c0 = 0 → 1 ≤ M.length)) := ⟨hn, hl2, hs, hM1⟩
  have HO1 : Hid (World.ownsRow w1 w.heap.size 33 5 (.slice (some ⟨g, 0, none⟩) l.length cl) l.length (cellsG l)) := ho
  have HB1 : Hid (Below w.heap.size w w1) := hb
  have hw1 : w.heap.size ≤ w1.heap.size := hb.size
  clear hab hlm hcp hMs hM1 hM6 hMa hn hl1 hl2 hs hv hb ho HD
  go_wp2_with fail
  refine (HID.out _ (HO1.out.alloc _)).mono ?_
  rintro e w2 ⟨aq, cq, rfl, o2, b2⟩
  have hbx : Below w1.heap.size w1 w2 := ((Below.refl _ _).alloc (Nat.le_refl _) _).trans (b2.mono (by simp))
  have a0 : w2.cell? ⟨w1.heap.size, 0, none⟩ = some (.int .i64 v.kind) := cell_keep b2 (by rw [World.cell?_alloc_at _ _ _ _ rfl]; rfl)
  have a1 : w2.cell? ⟨w1.heap.size, 1, none⟩ = some (.int .i64 v.num) := cell_keep b2 (by rw [World.cell?_alloc_at _ _ _ _ rfl]; rfl)
  have a2 : w2.cell? ⟨w1.heap.size, 2, none⟩ = some (.string v.name) := cell_keep b2 (by rw [World.cell?_alloc_at _ _ _ _ rfl]; rfl)
  have HO2 : Hid (World.ownsRow w2 w.heap.size 33 5 (.slice (some ⟨g, 0, none⟩) l.length cl) l.length (cellsG l)) := own_below HO1.out hbx
  have HM2 : Hid (World.ownsRow w2 w.heap.size 33 5 (.slice aq M.length cq) M.length (cellsG M)) := own_base o2 (by simp; omega)
  have HB2 : Hid (Below w.heap.size w w2) := HB1.out.trans (hbx.mono hw1)
  have z2 : w1.heap.size < w2.heap.size := lt_of_cell a0
  have HV2 : Hid (VBox w1.heap.size v w2) := ⟨a0, a1, a2⟩
  clear b2 o2 hbx HO1 HB1
  go_wp2_with fail
  clear a0 a1 a2
  refine (HIS.out _ (HO2.out.alloc _)).mono ?_
  rintro e w4 ⟨aS, cS, rfl, o4, b4⟩
  have hbx : Below w2.heap.size w2 w4 := ((Below.refl _ _).alloc (Nat.le_refl _) _).trans (b4.mono (by simp))
  have r0 : w4.cell? ⟨w2.heap.size, 0, none⟩ = some (.int .i64 c0) := cell_keep b4 (by rw [World.cell?_alloc_at _ _ _ _ rfl]; rfl)
  have r1 : w4.cell? ⟨w2.heap.size, 1, none⟩ = some (.slice aq M.length cq) := cell_keep b4 (by rw [World.cell?_alloc_at _ _ _ _ rfl]; rfl)
  have z4 : w2.heap.size < w4.heap.size := lt_of_cell r0
  obtain ⟨U, hU⟩ : ∃ U, U = w4.alloc (.cells #[.int .i64 c1, .slice aS M1.length cS] 30) := ⟨_, rfl⟩
  have HU : Hid (U = w4.alloc (.cells #[.int .i64 c1, .slice aS M1.length cS] 30)) := hU
  have hb4U : Below w4.heap.size w4 U := by rw [hU]; exact (Below.refl _ _).alloc (Nat.le_refl _) _
  have HF : Hid (FgW w g cl l w1.heap.size v w2.heap.size c0 aq cq M w4.heap.size c1 (.slice aS M1.length cS) U) :=
    ⟨(HB2.out.trans (hbx.mono HB2.out.size)).trans (hb4U.mono (by omega)), own_below (own_below HO2.out hbx) hb4U, (HV2.out.below hbx).below hb4U, ⟨cell_keep hb4U r0, cell_keep hb4U r1⟩, own_below (own_below HM2.out hbx) hb4U, by rw [hU]; exact ⟨by rw [World.cell?_alloc_at _ _ _ _ rfl]; rfl, by rw [World.cell?_alloc_at _ _ _ _ rfl]; rfl⟩⟩
  have zU : w4.heap.size < U.heap.size := by rw [hU]; simp
  clear b4 o4 hbx hb4U HO2 HM2 HB2 HV2 hU
  by_cases h0 : c0 = 0
  case neg =>
    have h0' : (c0 != 0) = true := by simpa using h0
    clear HLl HLM HGF HMt HID HIS HLs h0
    go_wp2_with fail
    rw [← HU.out]
    clear HU r0 r1
    refine wp_region_facts (by kernel_rfl) 18 (fun v => Below U.heap.size U v) (fun u v => Below u.heap.size u v) (fun i a u => match i with | 0 => (fun a u => a = .slice (some ⟨g, 0, none⟩) l.length cl) a u | 1 => (fun a u => a = .string s) a u | 2 => (fun a u => a = v.val) a u | 3 => (fun a u => ∃ (a' : Option Addr) (c' : Nat), a = .agg #[.int .i64 c0, .slice a' M.length c']) a u | 4 => (fun a u => a = .int .i64 c0) a u | 5 => (fun a u => a = Value.pointer (some ⟨w2.heap.size, 0, none⟩)) a u | 6 => (fun a u => a = .int .i64 c0) a u | 7 => (fun a u => a = .bool true) a u | 8 => (fun a u => a = .bool true) a u | 9 => (fun a u => a = .slice (some ⟨g, 0, none⟩) l.length cl) a u | 10 => (fun a u => a = .string s) a u | 11 => (fun a u => a = v.val) a u | 12 => (fun a u => ∃ (a' : Option Addr) (c' : Nat), a = .agg #[.int .i64 c1, .slice a' M1.length c']) a u | 13 => (fun a u => a = .int .i64 c1) a u | 14 => (fun a u => a = Value.pointer (some ⟨w4.heap.size, 0, none⟩)) a u | 15 => (fun a u => a = .int .i64 c1) a u | 16 => (fun a u => a = .bool true) a u | 17 => (fun a u => a = .bool true) a u | _ => True) (by kernel_rfl) [0, 1, 2, 3, 4, 5, 6, 7, 8, 9, 10, 11, 12, 13, 14, 15, 16, 17] (by kernel_rfl) ?b0 ?bk ?fk ⟨?s0, ?s1, ?s2, ?s3, ?s4, ?s5, ?s6, ?s7, ?s8, ?s9, ?s10, ?s11, ?s12, ?s13, ?s14, ?s15, ?s16, ?s17, trivial⟩ _ rfl [(0, some 31), (1, some 32), (2, some 33), (3, some 34), (4, some 35), (5, some 36), (6, some 37), (7, some 38), (8, some 39), (9, some 40), (10, some 41), (11, some 42), (12, some 43), (13, some 44), (14, some 45), (15, some 46), (16, some 47), (17, some 48)] (by kernel_rfl) ?last
    case b0 => exact Below.drew (Below.refl _ _)
    case bk => exact fun u v h hb => h.trans (hb.mono h.size)
    case fk => intro i a u u' h hb; match i, h with | 0, h => exact (h) | 1, h => exact (h) | 2, h => exact (h) | 3, h => exact (h) | 4, h => exact (h) | 5, h => exact (h) | 6, h => exact (h) | 7, h => exact (h) | 8, h => exact (h) | 9, h => exact (h) | 10, h => exact (h) | 11, h => exact (h) | 12, h => exact (h) | 13, h => exact (h) | 14, h => exact (h) | 15, h => exact (h) | 16, h => exact (h) | 17, h => exact (h) | _ + 18, _ => exact trivial
    case s0 =>
      refine StepF.of rfl [] (by kernel_rfl) ?_
      intro vs u hB hf K hK
      clear hf
      simp only [putsA, List.foldl_nil, Act.put, List.setIfInBounds_toArray] at hK ⊢
      rw [if_pos (by rfl)]
      go_simp
      exact hK.out _ _ (Below.refl _ _) rfl
    case s1 =>
      refine StepF.of rfl [] (by kernel_rfl) ?_
      intro vs u hB hf K hK
      clear hf
      simp only [putsA, List.foldl_nil, Act.put, List.setIfInBounds_toArray] at hK ⊢
      rw [if_pos (by rfl)]
      go_simp
      exact hK.out _ _ (Below.refl _ _) rfl
    case s2 =>
      refine StepF.of rfl [] (by kernel_rfl) ?_
      intro vs u hB hf K hK
      clear hf
      simp only [putsA, List.foldl_nil, Act.put, List.setIfInBounds_toArray] at hK ⊢
      rw [if_pos (by rfl)]
      have y0 := (HF.out.below hB).val.c0
      have y1 := (HF.out.below hB).val.c1
      have y2 := (HF.out.below hB).val.c2
      go_simp
      exact hK.out _ _ (Below.refl _ _) rfl
    case s3 =>
      refine StepF.of rfl [(0, some 31), (1, some 32), (2, some 33)] (by kernel_rfl) ?_
      intro vs u hB hf K hK
      have f0 : (fun a u => a = .slice (some ⟨g, 0, none⟩) l.length cl) (vs 0) u := hf.1
      have f1 : (fun a u => a = .string s) (vs 1) u := hf.2.1
      have f2 : (fun a u => a = v.val) (vs 2) u := hf.2.2.1
      clear hf
      simp only [putsA, List.foldl_cons, List.foldl_nil, Act.put, List.setIfInBounds_toArray, List.set_cons_zero, List.set_cons_succ] at hK ⊢
      generalize vs 0 = v0 at f0 hK ⊢
      generalize vs 1 = v1 at f1 hK ⊢
      generalize vs 2 = v2 at f2 hK ⊢
      rw [if_pos (by rfl)]
      subst f0 f1 f2
      go_simp
      refine (HPD.out _ (HF.out.below hB).row).mono ?_
      rintro e w7 ⟨a', c', rfl, _, b7⟩
      exact hK.out _ _ b7 ⟨a', c', rfl⟩
    case s4 =>
      refine StepF.of rfl [(3, some 34)] (by kernel_rfl) ?_
      intro vs u hB hf K hK
      have f3 : (fun a u => ∃ (a' : Option Addr) (c' : Nat), a = .agg #[.int .i64 c0, .slice a' M.length c']) (vs 3) u := hf.1
      clear hf
      simp only [putsA, List.foldl_cons, List.foldl_nil, Act.put, List.setIfInBounds_toArray, List.set_cons_zero, List.set_cons_succ] at hK ⊢
      generalize vs 3 = v3 at f3 hK ⊢
      rw [if_pos (by rfl)]
      obtain ⟨a', c', rfl⟩ := f3
      go_simp
      exact hK.out _ _ (Below.refl _ _) rfl
    case s5 =>
      refine StepF.of rfl [] (by kernel_rfl) ?_
      intro vs u hB hf K hK
      clear hf
      simp only [putsA, List.foldl_nil, Act.put, List.setIfInBounds_toArray] at hK ⊢
      rw [if_pos (by rfl)]
      go_simp
      exact hK.out _ _ (Below.refl _ _) rfl
    case s6 =>
      refine StepF.of rfl [(5, some 36)] (by kernel_rfl) ?_
      intro vs u hB hf K hK
      have f5 : (fun a u => a = Value.pointer (some ⟨w2.heap.size, 0, none⟩)) (vs 5) u := hf.1
      clear hf
      simp only [putsA, List.foldl_cons, List.foldl_nil, Act.put, List.setIfInBounds_toArray, List.set_cons_zero, List.set_cons_succ] at hK ⊢
      generalize vs 5 = v5 at f5 hK ⊢
      rw [if_pos (by rfl)]
      subst f5
      have y0 := (HF.out.below hB).rbx.c0
      go_simp
      exact hK.out _ _ (Below.refl _ _) rfl
    case s7 =>
      refine StepF.of rfl [(4, some 35), (6, some 37)] (by kernel_rfl) ?_
      intro vs u hB hf K hK
      have f4 : (fun a u => a = .int .i64 c0) (vs 4) u := hf.1
      have f6 : (fun a u => a = .int .i64 c0) (vs 6) u := hf.2.1
      clear hf
      simp only [putsA, List.foldl_cons, List.foldl_nil, Act.put, List.setIfInBounds_toArray, List.set_cons_zero, List.set_cons_succ] at hK ⊢
      generalize vs 4 = v4 at f4 hK ⊢
      generalize vs 6 = v6 at f6 hK ⊢
      rw [if_pos (by rfl)]
      subst f4 f6
      go_simp
      exact hK.out _ _ (Below.refl _ _) rfl
    case s8 =>
      refine StepF.of rfl [(3, some 34), (7, some 38)] (by kernel_rfl) ?_
      intro vs u hB hf K hK
      have f3 : (fun a u => ∃ (a' : Option Addr) (c' : Nat), a = .agg #[.int .i64 c0, .slice a' M.length c']) (vs 3) u := hf.1
      have f7 : (fun a u => a = .bool true) (vs 7) u := hf.2.1
      clear hf
      simp only [putsA, List.foldl_cons, List.foldl_nil, Act.put, List.setIfInBounds_toArray, List.set_cons_zero, List.set_cons_succ] at hK ⊢
      generalize vs 3 = v3 at f3 hK ⊢
      generalize vs 7 = v7 at f7 hK ⊢
      rw [if_pos (by rfl)]
      subst f7
      clear f3
      go_simp
      exact hK.out _ _ (Below.refl _ _) rfl
    case s9 =>
      refine StepF.of rfl [(8, some 39)] (by kernel_rfl) ?_
      intro vs u hB hf K hK
      have f8 : (fun a u => a = .bool true) (vs 8) u := hf.1
      clear hf
      simp only [putsA, List.foldl_cons, List.foldl_nil, Act.put, List.setIfInBounds_toArray, List.set_cons_zero, List.set_cons_succ] at hK ⊢
      generalize vs 8 = v8 at f8 hK ⊢
      subst f8
      rw [if_pos (by rfl)]
      go_simp
      exact hK.out _ _ (Below.refl _ _) rfl
    case s10 =>
      refine StepF.of rfl [(8, some 39)] (by kernel_rfl) ?_
      intro vs u hB hf K hK
      have f8 : (fun a u => a = .bool true) (vs 8) u := hf.1
      clear hf
      simp only [putsA, List.foldl_cons, List.foldl_nil, Act.put, List.setIfInBounds_toArray, List.set_cons_zero, List.set_cons_succ] at hK ⊢
      generalize vs 8 = v8 at f8 hK ⊢
      subst f8
      rw [if_pos (by rfl)]
      go_simp
      exact hK.out _ _ (Below.refl _ _) rfl
    case s11 =>
      refine StepF.of rfl [(8, some 39)] (by kernel_rfl) ?_
      intro vs u hB hf K hK
      have f8 : (fun a u => a = .bool true) (vs 8) u := hf.1
      clear hf
      simp only [putsA, List.foldl_cons, List.foldl_nil, Act.put, List.setIfInBounds_toArray, List.set_cons_zero, List.set_cons_succ] at hK ⊢
      generalize vs 8 = v8 at f8 hK ⊢
      subst f8
      rw [if_pos (by rfl)]
      have y0 := (HF.out.below hB).val.c0
      have y1 := (HF.out.below hB).val.c1
      have y2 := (HF.out.below hB).val.c2
      go_simp
      exact hK.out _ _ (Below.refl _ _) rfl
    case s12 =>
      refine StepF.of rfl [(8, some 39), (9, some 40), (10, some 41), (11, some 42)] (by kernel_rfl) ?_
      intro vs u hB hf K hK
      have f8 : (fun a u => a = .bool true) (vs 8) u := hf.1
      have f9 : (fun a u => a = .slice (some ⟨g, 0, none⟩) l.length cl) (vs 9) u := hf.2.1
      have f10 : (fun a u => a = .string s) (vs 10) u := hf.2.2.1
      have f11 : (fun a u => a = v.val) (vs 11) u := hf.2.2.2.1
      clear hf
      simp only [putsA, List.foldl_cons, List.foldl_nil, Act.put, List.setIfInBounds_toArray, List.set_cons_zero, List.set_cons_succ] at hK ⊢
      generalize vs 8 = v8 at f8 hK ⊢
      generalize vs 9 = v9 at f9 hK ⊢
      generalize vs 10 = v10 at f10 hK ⊢
      generalize vs 11 = v11 at f11 hK ⊢
      subst f8
      rw [if_pos (by rfl)]
      subst f9 f10 f11
      go_simp
      refine (HPS.out _ (HF.out.below hB).row).mono ?_
      rintro e w7 ⟨a', c', rfl, _, b7⟩
      exact hK.out _ _ b7 ⟨a', c', rfl⟩
    case s13 =>
      refine StepF.of rfl [(8, some 39), (12, some 43)] (by kernel_rfl) ?_
      intro vs u hB hf K hK
      have f8 : (fun a u => a = .bool true) (vs 8) u := hf.1
      have f12 : (fun a u => ∃ (a' : Option Addr) (c' : Nat), a = .agg #[.int .i64 c1, .slice a' M1.length c']) (vs 12) u := hf.2.1
      clear hf
      simp only [putsA, List.foldl_cons, List.foldl_nil, Act.put, List.setIfInBounds_toArray, List.set_cons_zero, List.set_cons_succ] at hK ⊢
      generalize vs 8 = v8 at f8 hK ⊢
      generalize vs 12 = v12 at f12 hK ⊢
      subst f8
      rw [if_pos (by rfl)]
      obtain ⟨a', c', rfl⟩ := f12
      go_simp
      exact hK.out _ _ (Below.refl _ _) rfl
    case s14 =>
      refine StepF.of rfl [(8, some 39)] (by kernel_rfl) ?_
      intro vs u hB hf K hK
      have f8 : (fun a u => a = .bool true) (vs 8) u := hf.1
      clear hf
      simp only [putsA, List.foldl_cons, List.foldl_nil, Act.put, List.setIfInBounds_toArray, List.set_cons_zero, List.set_cons_succ] at hK ⊢
      generalize vs 8 = v8 at f8 hK ⊢
      subst f8
      rw [if_pos (by rfl)]
      go_simp
      exact hK.out _ _ (Below.refl _ _) rfl
    case s15 =>
      refine StepF.of rfl [(8, some 39), (14, some 45)] (by kernel_rfl) ?_
      intro vs u hB hf K hK
      have f8 : (fun a u => a = .bool true) (vs 8) u := hf.1
      have f14 : (fun a u => a = Value.pointer (some ⟨w4.heap.size, 0, none⟩)) (vs 14) u := hf.2.1
      clear hf
      simp only [putsA, List.foldl_cons, List.foldl_nil, Act.put, List.setIfInBounds_toArray, List.set_cons_zero, List.set_cons_succ] at hK ⊢
      generalize vs 8 = v8 at f8 hK ⊢
      generalize vs 14 = v14 at f14 hK ⊢
      subst f8
      rw [if_pos (by rfl)]
      subst f14
      have y0 := (HF.out.below hB).sbx.c0
      go_simp
      exact hK.out _ _ (Below.refl _ _) rfl
    case s16 =>
      refine StepF.of rfl [(8, some 39), (13, some 44), (15, some 46)] (by kernel_rfl) ?_
      intro vs u hB hf K hK
      have f8 : (fun a u => a = .bool true) (vs 8) u := hf.1
      have f13 : (fun a u => a = .int .i64 c1) (vs 13) u := hf.2.1
      have f15 : (fun a u => a = .int .i64 c1) (vs 15) u := hf.2.2.1
      clear hf
      simp only [putsA, List.foldl_cons, List.foldl_nil, Act.put, List.setIfInBounds_toArray, List.set_cons_zero, List.set_cons_succ] at hK ⊢
      generalize vs 8 = v8 at f8 hK ⊢
      generalize vs 13 = v13 at f13 hK ⊢
      generalize vs 15 = v15 at f15 hK ⊢
      subst f8
      rw [if_pos (by rfl)]
      subst f13 f15
      go_simp
      exact hK.out _ _ (Below.refl _ _) rfl
    case s17 =>
      refine StepF.of rfl [(8, some 39), (16, some 47)] (by kernel_rfl) ?_
      intro vs u hB hf K hK
      have f8 : (fun a u => a = .bool true) (vs 8) u := hf.1
      have f16 : (fun a u => a = .bool true) (vs 16) u := hf.2.1
      clear hf
      simp only [putsA, List.foldl_cons, List.foldl_nil, Act.put, List.setIfInBounds_toArray, List.set_cons_zero, List.set_cons_succ] at hK ⊢
      generalize vs 8 = v8 at f8 hK ⊢
      generalize vs 16 = v16 at f16 hK ⊢
      rw [if_pos (by rfl)]
      subst f8 f16
      go_simp
      exact hK.out _ _ (Below.refl _ _) rfl
    case last =>
      intro vs u hB hf K hK
      have f0 : (fun a u => a = .slice (some ⟨g, 0, none⟩) l.length cl) (vs 0) u := hf.1
      have f1 : (fun a u => a = .string s) (vs 1) u := hf.2.1
      have f2 : (fun a u => a = v.val) (vs 2) u := hf.2.2.1
      have f3 : (fun a u => ∃ (a' : Option Addr) (c' : Nat), a = .agg #[.int .i64 c0, .slice a' M.length c']) (vs 3) u := hf.2.2.2.1
      have f4 : (fun a u => a = .int .i64 c0) (vs 4) u := hf.2.2.2.2.1
      have f5 : (fun a u => a = Value.pointer (some ⟨w2.heap.size, 0, none⟩)) (vs 5) u := hf.2.2.2.2.2.1
      have f6 : (fun a u => a = .int .i64 c0) (vs 6) u := hf.2.2.2.2.2.2.1
      have f7 : (fun a u => a = .bool true) (vs 7) u := hf.2.2.2.2.2.2.2.1
      have f8 : (fun a u => a = .bool true) (vs 8) u := hf.2.2.2.2.2.2.2.2.1
      have f9 : (fun a u => a = .slice (some ⟨g, 0, none⟩) l.length cl) (vs 9) u := hf.2.2.2.2.2.2.2.2.2.1
      have f10 : (fun a u => a = .string s) (vs 10) u := hf.2.2.2.2.2.2.2.2.2.2.1
      have f11 : (fun a u => a = v.val) (vs 11) u := hf.2.2.2.2.2.2.2.2.2.2.2.1
      have f12 : (fun a u => ∃ (a' : Option Addr) (c' : Nat), a = .agg #[.int .i64 c1, .slice a' M1.length c']) (vs 12) u := hf.2.2.2.2.2.2.2.2.2.2.2.2.1
      have f13 : (fun a u => a = .int .i64 c1) (vs 13) u := hf.2.2.2.2.2.2.2.2.2.2.2.2.2.1
      have f14 : (fun a u => a = Value.pointer (some ⟨w4.heap.size, 0, none⟩)) (vs 14) u := hf.2.2.2.2.2.2.2.2.2.2.2.2.2.2.1
      have f15 : (fun a u => a = .int .i64 c1) (vs 15) u := hf.2.2.2.2.2.2.2.2.2.2.2.2.2.2.2.1
      have f16 : (fun a u => a = .bool true) (vs 16) u := hf.2.2.2.2.2.2.2.2.2.2.2.2.2.2.2.2.1
      have f17 : (fun a u => a = .bool true) (vs 17) u := hf.2.2.2.2.2.2.2.2.2.2.2.2.2.2.2.2.2.1
      clear hf
      simp only [putsA, List.foldl_cons, List.foldl_nil, Act.put, List.setIfInBounds_toArray, List.set_cons_zero, List.set_cons_succ]
      generalize vs 0 = v0 at f0 ⊢
      generalize vs 1 = v1 at f1 ⊢
      generalize vs 2 = v2 at f2 ⊢
      generalize vs 3 = v3 at f3 ⊢
      generalize vs 4 = v4 at f4 ⊢
      generalize vs 5 = v5 at f5 ⊢
      generalize vs 6 = v6 at f6 ⊢
      generalize vs 7 = v7 at f7 ⊢
      generalize vs 8 = v8 at f8 ⊢
      generalize vs 9 = v9 at f9 ⊢
      generalize vs 10 = v10 at f10 ⊢
      generalize vs 11 = v11 at f11 ⊢
      generalize vs 12 = v12 at f12 ⊢
      generalize vs 13 = v13 at f13 ⊢
      generalize vs 14 = v14 at f14 ⊢
      generalize vs 15 = v15 at f15 ⊢
      generalize vs 16 = v16 at f16 ⊢
      generalize vs 17 = v17 at f17 ⊢
      rw [if_pos (by rfl)]
      subst f17
      clear f0 f1 f2 f3 f4 f5 f6 f7 f8 f9 f10 f11 f12 f13 f14 f15 f16
      have HBu : Hid (Below w.heap.size w u) := (HF.out.below hB).old
      clear hB
      go_simp
      refine hK.out _ _ ?_
      clear hK
      go_wp2
      go_ret
      exact ⟨rfl, HBu.out⟩
  subst h0
  obtain ⟨m1, m2, m3, m4, m5, m6, m7, m8, m9⟩ := HMt.out rfl
  have HM1 : Hid (1 ≤ M.length) := HLs.out.2.2.2 rfl
  obtain ⟨cw, hcw⟩ : ∃ c, c = codeLG l s := ⟨_, rfl⟩
  obtain ⟨Tw, hTw⟩ : ∃ t, t = valLG l s := ⟨_, rfl⟩
  obtain ⟨Tn, hTn⟩ : ∃ t, t = valLG M s := ⟨_, rfl⟩
  rw [← hcw, ← hTn] at m5
  rw [← hcw, ← hTw, ← hTn] at m6
  rw [← hTn] at m4
  rw [← hcw] at m7
  rw [← hcw, ← hTw] at m8
  rw [← hcw, ← hTw] at HLl
  have HLn : Hid (∀ u (aq : Option Addr) (cq : Nat), World.ownsRow u w.heap.size 33 5 (.slice aq M.length cq) M.length (cellsG M) → Calls Try.prog 14 #[.slice aq M.length cq, .string s] u fun e w' => e = .returned (GR 0 Tn) ∧ Below u.heap.size u w') := fun u aq cq hu => by
    have := HLM.out u aq cq s HM1.out HLs.out.2.2.1 hu
    rw [m3, ← hTn] at this
    exact this
  have HGf : Hid (∀ u (aq : Option Addr) (cq : Nat), World.ownsRow u w.heap.size 33 5 (.slice aq M.length cq) M.length (cellsG M) → Calls Try.prog 15 #[.slice aq M.length cq] u fun e w' => e = .returned (.int .i64 0) ∧ Below u.heap.size u w') := fun u aq cq hu => by
    have := HGF.out u aq cq HM1.out hu
    rw [m2] at this
    exact this
  have HMt2 : Hid (∀ (i : Nat) (hi : i < l.length), (l[i]'hi).name ≠ s → valLG M (l[i]'hi).name = l[i]'hi) := m9
  have HMv : Hid (Tn.value = v) := m4
  have HMa : Hid (cw = 0 ∨ Tn.ver = 1) := m5
  have HMb : Hid (cw ≠ 0 ∨ Tn.ver = Tw.ver + 1) := m6
  have HMc : Hid (c1 = cw) := m7
  have HMd : Hid (cw = 0 → 1 ≤ Tw.ver ∧ Tw.ver ≤ 99999) := m8
  clear m1 m2 m3 m4 m5 m6 m7 m8 m9 hcw hTw hTn HMt HPD HPS HID HIS HGF
  go_wp2_with fail
  rw [← HU.out]
  clear HU r0 r1
  refine (HLl.out _ HF.out.row).mono ?_
  rintro e w6 ⟨rfl, b6⟩
  have z6 : U.heap.size ≤ w6.heap.size := b6.size
  have hb6 : Below U.heap.size U (w6.alloc (.cells #[.int .i64 cw, .string Tw.name, .int .i64 Tw.value.kind, .int .i64 Tw.value.num, .string Tw.value.name, .int .i64 Tw.ver] 35)) := b6.alloc b6.size _
  have HF6 : Hid (FgW w g cl l w1.heap.size v w2.heap.size 0 aq cq M w4.heap.size c1 (.slice aS M1.length cS) (w6.alloc (.cells #[.int .i64 cw, .string Tw.name, .int .i64 Tw.value.kind, .int .i64 Tw.value.num, .string Tw.value.name, .int .i64 Tw.ver] 35))) := HF.out.below hb6
  have HK6 : Hid (LkA w6.heap.size cw Tw (w6.alloc (.cells #[.int .i64 cw, .string Tw.name, .int .i64 Tw.value.kind, .int .i64 Tw.value.num, .string Tw.value.name, .int .i64 Tw.ver] 35))) := lkA_new w6 cw Tw _
  have r1 := (HF.out.below b6).rbx.c1
  have z26 : w2.heap.size < w6.heap.size := by omega
  clear b6 hb6 HF HLl
  go_wp2_with fail
  clear r1
  refine (HLn.out _ aq cq HF6.out.rrow).mono ?_
  rintro e w7 ⟨rfl, b7⟩
  have z7 : w6.heap.size < w7.heap.size := by have := b7.size; simp at this; omega
  obtain ⟨Y, hY⟩ : ∃ Y, Y = w7.alloc (.cells #[.int .i64 0, .string Tn.name, .int .i64 Tn.value.kind, .int .i64 Tn.value.num, .string Tn.value.name, .int .i64 Tn.ver] 35) := ⟨_, rfl⟩
  have HY : Hid (Y = w7.alloc (.cells #[.int .i64 0, .string Tn.name, .int .i64 Tn.value.kind, .int .i64 Tn.value.num, .string Tn.value.name, .int .i64 Tn.ver] 35)) := hY
  have hb7 : Below w7.heap.size w7 Y := by rw [hY]; exact (Below.refl _ _).alloc (Nat.le_refl _) _
  have HFY : Hid (FgW w g cl l w1.heap.size v w2.heap.size 0 aq cq M w4.heap.size c1 (.slice aS M1.length cS) Y) := (HF6.out.below b7).below hb7
  have HKY : Hid (LkA w6.heap.size cw Tw Y ∧ LkA w7.heap.size 0 Tn Y) := ⟨(HK6.out.below b7).below hb7, by rw [hY]; exact lkA_new w7 0 Tn _⟩
  have zY : w7.heap.size < Y.heap.size := by rw [hY]; simp
  clear b7 hb7 HF6 HK6 hY HLn
  go_wp2_with fail
  rw [← HY.out]
  clear HY
  go_loopw [10, 11] (fun i _ wr => ∃ k : Nat, k ≤ l.length ∧ i = .int .i64 (k : Int) ∧ w7.heap.size < wr.heap.size ∧ Hid (FgW w g cl l w1.heap.size v w2.heap.size 0 aq cq M w4.heap.size c1 (.slice aS M1.length cS) wr) ∧ Hid (LkA w6.heap.size cw Tw wr ∧ LkA w7.heap.size 0 Tn wr)) (fun i _ _ => l.length - (RowKit.intOf i).toNat)
  case atStart => exact ⟨0, Nat.zero_le _, rfl, zY, HFY.out, HKY.out⟩
  case round =>
    clear HFY HKY
    obtain ⟨k, hk, rfl, hzr, HF, HK⟩ := hrel
    have hl61 := HLs.out.2.1
    by_cases hlt : k < l.length
    · obtain ⟨tk, htk⟩ : ∃ t, t = l[k]'hlt := ⟨_, rfl⟩
      obtain ⟨ck, hck⟩ : ∃ c, c = codeLG M tk.name := ⟨_, rfl⟩
      obtain ⟨Tk, hTk⟩ : ∃ t, t = valLG M tk.name := ⟨_, rfl⟩
      have HLk : Hid (∀ u, World.ownsRow u w.heap.size 33 5 (.slice aq M.length cq) M.length (cellsG M) → Calls Try.prog 14 #[.slice aq M.length cq, .string tk.name] u fun e w' => e = .returned (GR ck Tk) ∧ Below u.heap.size u w') := fun u hu => by
        rw [hck, hTk]; exact HLM.out u aq cq tk.name HM1.out (by rw [htk]; exact (HLs.out.1 k hlt).1) hu
      have HTk : Hid (tk.name ≠ s → Tk = tk) := fun hne => by
        rw [hTk, htk]; exact HMt2.out k hlt (by rw [← htk]; exact hne)
      have HRow : Hid (∀ u, World.ownsRow u w.heap.size 33 5 (.slice (some ⟨g, 0, none⟩) l.length cl) l.length (cellsG l) → u.cell? ⟨g, k * 5, none⟩ = some (.string tk.name) ∧ u.cell? ⟨g, k * 5 + 1, none⟩ = some (.int .i64 tk.value.kind) ∧ u.cell? ⟨g, k * 5 + 2, none⟩ = some (.int .i64 tk.value.num) ∧ u.cell? ⟨g, k * 5 + 3, none⟩ = some (.string tk.value.name) ∧ u.cell? ⟨g, k * 5 + 4, none⟩ = some (.int .i64 tk.ver)) := fun u hu => by
        rw [htk]; exact RowG.of hu k hlt
      have hi1 : (k : Int) < (l.length : Int) := by omega
      have hi0 : (0 : Int) ≤ (k : Int) := by omega
      clear hck hTk htk
      go_wp2_with fail
      refine wp_region_facts (by kernel_rfl) 9 (fun v => Below wr.heap.size wr v) (fun u v => Below u.heap.size u v) (fun i a u => match i with | 0 => (fun a u => a = Value.pointer (some ⟨w2.heap.size, 1, none⟩)) a u | 1 => (fun a u => a = .slice aq M.length cq) a u | 2 => (fun a u => a = .slice (some ⟨g, 0, none⟩) l.length cl) a u | 3 => (fun a u => a = .int .i64 (k : Int)) a u | 4 => (fun a u => a = Value.pointer (some ⟨g, k * 5, none⟩)) a u | 5 => (fun a u => a = Value.pointer (some ⟨g, k * 5, none⟩)) a u | 6 => (fun a u => a = .string tk.name) a u | 7 => (fun a u => a = GR ck Tk) a u | 8 => (fun a u => ∃ x, a = .pointer (some ⟨x, 0, none⟩) ∧ LkZ wr.heap.size x u) a u | _ => True) (by kernel_rfl) [0, 1, 2, 3, 4, 5, 6, 7, 8] (by kernel_rfl) ?b0 ?bk ?fk ⟨?s0, ?s1, ?s2, ?s3, ?s4, ?s5, ?s6, ?s7, ?s8, trivial⟩ _ rfl [(0, some 62), (1, some 63), (2, some 64), (3, some 65), (4, some 66), (5, some 67), (6, some 68), (7, some 69), (8, some 11)] (by kernel_rfl) ?last
      case b0 => exact Below.drew (Below.refl _ _)
      case bk => exact fun u v h hb => h.trans (hb.mono h.size)
      case fk => intro i a u u' h hb; match i, h with | 0, h => exact (h) | 1, h => exact (h) | 2, h => exact (h) | 3, h => exact (h) | 4, h => exact (h) | 5, h => exact (h) | 6, h => exact (h) | 7, h => exact (h) | 8, h => exact (let ⟨x, e, hz⟩ := h; ⟨x, e, hz.below hb⟩) | _ + 9, _ => exact trivial
      case s0 =>
        refine StepF.of rfl [] (by kernel_rfl) ?_
        intro vs u hB hf K hK
        clear hf
        simp only [putsA, List.foldl_nil, Act.put, List.setIfInBounds_toArray] at hK ⊢
        rw [if_pos (by rfl)]
        go_simp
        exact hK.out _ _ (Below.refl _ _) rfl
      case s1 =>
        refine StepF.of rfl [(0, some 62)] (by kernel_rfl) ?_
        intro vs u hB hf K hK
        have f0 : (fun a u => a = Value.pointer (some ⟨w2.heap.size, 1, none⟩)) (vs 0) u := hf.1
        clear hf
        simp only [putsA, List.foldl_cons, List.foldl_nil, Act.put, List.setIfInBounds_toArray, List.set_cons_zero, List.set_cons_succ] at hK ⊢
        generalize vs 0 = v0 at f0 hK ⊢
        rw [if_pos (by rfl)]
        subst f0
        have y0 := (HF.out.below hB).rbx.c1
        go_simp
        exact hK.out _ _ (Below.refl _ _) rfl
      case s2 =>
        refine StepF.of rfl [] (by kernel_rfl) ?_
        intro vs u hB hf K hK
        clear hf
        simp only [putsA, List.foldl_nil, Act.put, List.setIfInBounds_toArray] at hK ⊢
        rw [if_pos (by rfl)]
        go_simp
        exact hK.out _ _ (Below.refl _ _) rfl
      case s3 =>
        refine StepF.of rfl [] (by kernel_rfl) ?_
        intro vs u hB hf K hK
        clear hf
        simp only [putsA, List.foldl_nil, Act.put, List.setIfInBounds_toArray] at hK ⊢
        rw [if_pos (by rfl)]
        go_simp
        exact hK.out _ _ (Below.refl _ _) rfl
      case s4 =>
        refine StepF.of rfl [(2, some 64), (3, some 65)] (by kernel_rfl) ?_
        intro vs u hB hf K hK
        have f2 : (fun a u => a = .slice (some ⟨g, 0, none⟩) l.length cl) (vs 2) u := hf.1
        have f3 : (fun a u => a = .int .i64 (k : Int)) (vs 3) u := hf.2.1
        clear hf
        simp only [putsA, List.foldl_cons, List.foldl_nil, Act.put, List.setIfInBounds_toArray, List.set_cons_zero, List.set_cons_succ] at hK ⊢
        generalize vs 2 = v2 at f2 hK ⊢
        generalize vs 3 = v3 at f3 hK ⊢
        rw [if_pos (by rfl)]
        subst f2 f3
        go_simp
        exact hK.out _ _ (Below.refl _ _) rfl
      case s5 =>
        refine StepF.of rfl [(4, some 66)] (by kernel_rfl) ?_
        intro vs u hB hf K hK
        have f4 : (fun a u => a = Value.pointer (some ⟨g, k * 5, none⟩)) (vs 4) u := hf.1
        clear hf
        simp only [putsA, List.foldl_cons, List.foldl_nil, Act.put, List.setIfInBounds_toArray, List.set_cons_zero, List.set_cons_succ] at hK ⊢
        generalize vs 4 = v4 at f4 hK ⊢
        rw [if_pos (by rfl)]
        subst f4
        go_simp
        exact hK.out _ _ (Below.refl _ _) rfl
      case s6 =>
        refine StepF.of rfl [(5, some 67)] (by kernel_rfl) ?_
        intro vs u hB hf K hK
        have f5 : (fun a u => a = Value.pointer (some ⟨g, k * 5, none⟩)) (vs 5) u := hf.1
        clear hf
        simp only [putsA, List.foldl_cons, List.foldl_nil, Act.put, List.setIfInBounds_toArray, List.set_cons_zero, List.set_cons_succ] at hK ⊢
        generalize vs 5 = v5 at f5 hK ⊢
        rw [if_pos (by rfl)]
        subst f5
        have y0 := (HRow.out u (HF.out.below hB).row).1
        go_simp
        exact hK.out _ _ (Below.refl _ _) rfl
      case s7 =>
        refine StepF.of rfl [(1, some 63), (6, some 68)] (by kernel_rfl) ?_
        intro vs u hB hf K hK
        have f1 : (fun a u => a = .slice aq M.length cq) (vs 1) u := hf.1
        have f6 : (fun a u => a = .string tk.name) (vs 6) u := hf.2.1
        clear hf
        simp only [putsA, List.foldl_cons, List.foldl_nil, Act.put, List.setIfInBounds_toArray, List.set_cons_zero, List.set_cons_succ] at hK ⊢
        generalize vs 1 = v1 at f1 hK ⊢
        generalize vs 6 = v6 at f6 hK ⊢
        rw [if_pos (by rfl)]
        subst f1 f6
        go_simp
        refine (HLk.out _ (HF.out.below hB).rrow).mono ?_
        rintro e w8 ⟨rfl, b8⟩
        exact hK.out _ _ b8 rfl
      case s8 =>
        refine StepF.of rfl [] (by kernel_rfl) ?_
        intro vs u hB hf K hK
        clear hf
        simp only [putsA, List.foldl_nil, Act.put, List.setIfInBounds_toArray] at hK ⊢
        rw [if_pos (by rfl)]
        go_simp
        exact hK.out _ _ ((Below.refl _ _).alloc (Nat.le_refl _) _) ⟨_, rfl, hB.size, heap_alloc_new _ _⟩
      case last =>
        intro vs u hB hf K hK
        have f0 : (fun a u => a = Value.pointer (some ⟨w2.heap.size, 1, none⟩)) (vs 0) u := hf.1
        have f1 : (fun a u => a = .slice aq M.length cq) (vs 1) u := hf.2.1
        have f2 : (fun a u => a = .slice (some ⟨g, 0, none⟩) l.length cl) (vs 2) u := hf.2.2.1
        have f3 : (fun a u => a = .int .i64 (k : Int)) (vs 3) u := hf.2.2.2.1
        have f4 : (fun a u => a = Value.pointer (some ⟨g, k * 5, none⟩)) (vs 4) u := hf.2.2.2.2.1
        have f5 : (fun a u => a = Value.pointer (some ⟨g, k * 5, none⟩)) (vs 5) u := hf.2.2.2.2.2.1
        have f6 : (fun a u => a = .string tk.name) (vs 6) u := hf.2.2.2.2.2.2.1
        have f7 : (fun a u => a = GR ck Tk) (vs 7) u := hf.2.2.2.2.2.2.2.1
        have f8 : (fun a u => ∃ x, a = .pointer (some ⟨x, 0, none⟩) ∧ LkZ wr.heap.size x u) (vs 8) u := hf.2.2.2.2.2.2.2.2.1
        clear hf
        simp only [putsA, List.foldl_cons, List.foldl_nil, Act.put, List.setIfInBounds_toArray, List.set_cons_zero, List.set_cons_succ]
        generalize vs 0 = v0 at f0 ⊢
        generalize vs 1 = v1 at f1 ⊢
        generalize vs 2 = v2 at f2 ⊢
        generalize vs 3 = v3 at f3 ⊢
        generalize vs 4 = v4 at f4 ⊢
        generalize vs 5 = v5 at f5 ⊢
        generalize vs 6 = v6 at f6 ⊢
        generalize vs 7 = v7 at f7 ⊢
        generalize vs 8 = v8 at f8 ⊢
        rw [if_pos (by rfl)]
        subst f7
        obtain ⟨x, rfl, hx⟩ := f8
        clear f0 f1 f2 f3 f4 f5 f6
        obtain ⟨y0, y1, y2, y3, y4, y5, yf⟩ := hx.cells
        go_simp
        refine hK.out _ _ ?_
        clear hK y0 y1 y2 y3 y4 y5 yf
        have hp := hx.put (c := ck) (t := Tk)
        generalize (((((u.setCell ⟨x, 0, none⟩ (.int .i64 ck)).setCell ⟨x, 1, none⟩ (.string Tk.name)).setCell ⟨x, 2, none⟩ (.int .i64 Tk.value.kind)).setCell ⟨x, 3, none⟩ (.int .i64 Tk.value.num)).setCell ⟨x, 4, none⟩ (.string Tk.value.name)).setCell ⟨x, 5, none⟩ (.int .i64 Tk.ver) = u1 at hp ⊢
        obtain ⟨hbx, hgr⟩ := hp
        have hxr := hx.1
        have HF1 : Hid (FgW w g cl l w1.heap.size v w2.heap.size 0 aq cq M w4.heap.size c1 (.slice aS M1.length cS) u1) := (HF.out.below hB).grown hgr (by have := HF.out.old.size; omega) (fun g' hg' => by have := (HF.out.row.lt g' hg').2; omega) (fun g' hg' => by have := (HF.out.rrow.lt g' hg').2; omega) (by omega) (by omega) (by omega)
        have HK1 : Hid (LkA w6.heap.size cw Tw u1 ∧ LkA w7.heap.size 0 Tn u1) := ⟨(HK.out.1.below hB).grown hgr (by simp; omega), (HK.out.2.below hB).grown hgr (by simp; omega)⟩
        have HX1 : Hid (LkA x ck Tk u1) := hbx
        have hz1 : w7.heap.size < u1.heap.size := by have := hB.size; have := hgr.size; omega
        clear hbx hgr hx hB HF HK HLk
        by_cases hne : tk.name = s
        · have hbe : (tk.name.toList == s.toList) = true := (bytes_eq _ _).2 hne
          have e0 : ∀ p : BW u1, p.x.cell? ⟨g, k * 5, none⟩ = some (.string tk.name) := fun p => p.cell (HRow.out u1 HF1.out.row).1
          have hnb := bw_some u1
          clear hne HTk
          go_wp2_with fail
          refine wp_region_below (by kernel_rfl) (by kernel_rfl) ?_
          repeat (go_big_quiet_step (fail))
          refine wpQuiet_nil ?_
          intro wq hw'
          obtain ⟨⟨_, bq⟩, rfl⟩ := hw'
          have HF2 : Hid (FgW w g cl l w1.heap.size v w2.heap.size 0 aq cq M w4.heap.size c1 (.slice aS M1.length cS) _) := HF1.out.below bq
          have HK2 : Hid (LkA w6.heap.size cw Tw _ ∧ LkA w7.heap.size 0 Tn _) := ⟨HK1.out.1.below bq, HK1.out.2.below bq⟩
          have hz2 := Nat.lt_of_lt_of_le hz1 bq.size
          clear bq e0 hnb
          go_wp2
          exact ⟨⟨k + 1, by omega, by go_num, hz2, HF2.out, HK2.out⟩, by simp [RowKit.intOf]; omega⟩
        · obtain rfl : Tk = tk := HTk.out hne
          have hbe : (Tk.name.toList == s.toList) = false := by
            cases hq : (Tk.name.toList == s.toList) with
            | false => rfl
            | true => exact absurd ((bytes_eq _ _).1 hq) hne
          have e0 : ∀ p : BW u1, p.x.cell? ⟨g, k * 5, none⟩ = some (.string Tk.name) := fun p => p.cell (HRow.out u1 HF1.out.row).1
          have e1 : ∀ p : BW u1, p.x.cell? ⟨g, k * 5 + 1, none⟩ = some (.int .i64 Tk.value.kind) := fun p => p.cell (HRow.out u1 HF1.out.row).2.1
          have e2 : ∀ p : BW u1, p.x.cell? ⟨g, k * 5 + 2, none⟩ = some (.int .i64 Tk.value.num) := fun p => p.cell (HRow.out u1 HF1.out.row).2.2.1
          have e3 : ∀ p : BW u1, p.x.cell? ⟨g, k * 5 + 3, none⟩ = some (.string Tk.value.name) := fun p => p.cell (HRow.out u1 HF1.out.row).2.2.2.1
          have e4 : ∀ p : BW u1, p.x.cell? ⟨g, k * 5 + 4, none⟩ = some (.int .i64 Tk.ver) := fun p => p.cell (HRow.out u1 HF1.out.row).2.2.2.2
          have d1 : ∀ p : BW u1, p.x.cell? ⟨x, 1, none⟩ = some (.string Tk.name) := fun p => p.cell HX1.out.c1
          have d2 : ∀ p : BW u1, p.x.cell? ⟨x, 2, none⟩ = some (.int .i64 Tk.value.kind) := fun p => p.cell HX1.out.c2
          have d3 : ∀ p : BW u1, p.x.cell? ⟨x, 3, none⟩ = some (.int .i64 Tk.value.num) := fun p => p.cell HX1.out.c3
          have d4 : ∀ p : BW u1, p.x.cell? ⟨x, 4, none⟩ = some (.string Tk.value.name) := fun p => p.cell HX1.out.c4
          have d5 : ∀ p : BW u1, p.x.cell? ⟨x, 5, none⟩ = some (.int .i64 Tk.ver) := fun p => p.cell HX1.out.c5
          have hnb := bw_some u1
          have hq1 := bytes_self Tk.name
          have hq2 := bytes_self Tk.value.name
          clear hne HTk
          go_wp2_with fail
          refine wp_region_below (by kernel_rfl) (by kernel_rfl) ?_
          repeat (go_big_quiet_step (fail))
          refine wpQuiet_nil ?_
          intro wq hw'
          obtain ⟨⟨_, bq⟩, rfl⟩ := hw'
          have HF2 : Hid (FgW w g cl l w1.heap.size v w2.heap.size 0 aq cq M w4.heap.size c1 (.slice aS M1.length cS) _) := HF1.out.below bq
          have HK2 : Hid (LkA w6.heap.size cw Tw _ ∧ LkA w7.heap.size 0 Tn _) := ⟨HK1.out.1.below bq, HK1.out.2.below bq⟩
          have hz2 := Nat.lt_of_lt_of_le hz1 bq.size
          clear bq e0 e1 e2 e3 e4 d1 d2 d3 d4 d5 hnb
          go_wp2
          exact ⟨⟨k + 1, by omega, by go_num, hz2, HF2.out, HK2.out⟩, by simp [RowKit.intOf]; omega⟩
    · have hi1 : ¬ (k : Int) < (l.length : Int) := by omega
      obtain ⟨nn, ⟨nk, nm, nv⟩, nr⟩ := Tn
      have hTv : Vlu.mk nk nm nv = v := HMv.out
      subst hTv
      have y0 := HF.out.val.c0
      have y1 := HF.out.val.c1
      have y2 := HF.out.val.c2
      have p0 := HK.out.1.c0
      have p5 := HK.out.1.c5
      have q0 := HK.out.2.c0
      have q2 := HK.out.2.c2
      have q3 := HK.out.2.c3
      have q4 := HK.out.2.c4
      have q5 := HK.out.2.c5
      have r0 := HF.out.sbx.c0
      have r1 := HF.out.rbx.c1
      have hb1 := bytes_self nv
      have hcc : c1 = cw := HMc.out
      subst hcc
      have HGf2 : Hid (Calls Try.prog 15 #[.slice aq M.length cq] wr fun e w' => e = .returned (.int .i64 0) ∧ Below wr.heap.size wr w') := HGf.out wr aq cq HF.out.rrow
      have HBo : Hid (Below w.heap.size w wr) := HF.out.old
      by_cases hc : c1 = 0
      · have hv1 : nr = Tw.ver + 1 := HMb.out.resolve_left (fun h => h hc)
        obtain ⟨hw1', hw2'⟩ := HMd.out hc
        have hwr : IntKind.i64.wrap (Tw.ver + 1) = Tw.ver + 1 := by rw [IntKind.wrap_i64]; omega
        subst hc
        subst hv1
        clear HF HK HMv HMa HMb HMc HMd HGf HMt2 HLM HLs
        go_wp2_with fail
        refine HGf2.out.mono ?_
        rintro e w9 ⟨rfl, b9⟩
        go_wp2
        go_ret
        exact ⟨rfl, HBo.out.trans (b9.mono HBo.out.size)⟩
      · have hv1 : nr = 1 := HMa.out.resolve_left hc
        have hc' : (c1 == 0) = false := by simpa using hc
        have hc2 : (c1 != 0) = true := by simpa using hc
        subst hv1
        clear HF HK HMv HMa HMb HMc HMd HGf HMt2 HLM HLs hc
        go_wp2_with fail
        refine HGf2.out.mono ?_
        rintro e w9 ⟨rfl, b9⟩
        go_wp2
        go_ret
        exact ⟨rfl, HBo.out.trans (b9.mono HBo.out.size)⟩
end Go.Proofs.Ytgfienijabkpjaa
/-
  The law FnSites answers true at all bytes: what is fetched by a site is what the global is, also behind another definition; nothing that was there is turned.
-/
namespace Go.Proofs.Ytgfienijabkpjaa
open Go.RowKit Go.Extern.Stop Go.Stop Go.Extern Num Go.Lib

/-- A box that holds an answer of FetchSite. -/
def FkA (b : Nat) (R : Int × Bool × Vlu × Int) (w : World) : Prop := ∀ (o : Nat) (v : Value), (frL R)[o]? = some v → w.cell? ⟨b, o, none⟩ = some v
theorem FkA.below {b : Nat} {R : Int × Bool × Vlu × Int} {w w' : World} (h : FkA b R w) (hb : Below w.heap.size w w') : FkA b R w' := fun o v e => cell_keep hb (h o v e)
theorem fkA_new (u : World) (R : Int × Bool × Vlu × Int) (T : TypeId) : FkA u.heap.size R (u.alloc (.cells #[.int .i64 R.1, .bool R.2.1, .int .i64 R.2.2.1.kind, .int .i64 R.2.2.1.num, .string R.2.2.1.name, .int .i64 R.2.2.2, .int .i64 R.2.2.1.kind, .int .i64 R.2.2.1.num, .string R.2.2.1.name] T)) := fun o v e => by
  rw [World.cell?_alloc_at _ _ _ _ rfl]; simpa using e
set_option maxRecDepth 100000 in
set_option maxHeartbeats 8000000 in
theorem lawSI_any (w : World) (ca : Option Addr) (len cap : Nat) (h : Bytes w ca len) (hmax : (len : Int) ≤ 9223372036854775807) :
    Calls Try.prog 4 #[.slice ca len cap] w fun e w' => e = .returned (.bool true) ∧ Below w.heap.size w w' := by
  have HD : Hid (Calls Try.prog 16 #[.slice ca len cap] w fun e w' => DsRes w e w') := drawDS_any w ca len cap h hmax
  clear h hmax
  go_enter Try.func4, Try.ntmps4
  go_wp2_with fail
  refine (big_any _ ca len cap).mono ?_
  rintro e w0 ⟨t, rfl, hw0⟩
  replace hw0 := hw0.symm
  subst hw0
  cases t with
  | true =>
    go_wp2
    go_ret
    exact ⟨rfl, Below.refl _ _⟩
  | false =>
  go_wp2_with fail
  refine HD.out.mono ?_
  rintro e w1 ⟨g, cl, l, s, t, rfl, ho, hn, hl1, hl2, hs, ht, hb⟩
  have hab := ableG_short hn
  have hlm : l.length ≤ 1048576 := by omega
  have hcp := own_caps ho
  obtain ⟨R, hR⟩ : ∃ R, R = outFS l s t := ⟨_, rfl⟩
  have HPF : Hid (∀ u, World.ownsRow u w.heap.size 33 5 (.slice (some ⟨g, 0, none⟩) l.length cl) l.length (cellsG l) → Calls Try.prog 18 #[.slice (some ⟨g, 0, none⟩) l.length cl, .string s, t.val] u fun e w' => e = .returned (FR R) ∧ Below u.heap.size u w') := fun u hu => by rw [hR]; exact specFS_any _ cl g l s t u hlm hcp.1 hcp.2 (fun _ => rfl) (RowG.of hu) hab (by omega) (by omega)
  have HIF : Hid (∀ u (t' : Ste), t'.value.name.size ≤ 20 → World.ownsRow u w.heap.size 33 5 (.slice (some ⟨g, 0, none⟩) l.length cl) l.length (cellsG l) → Calls Try.prog 17 #[.slice (some ⟨g, 0, none⟩) l.length cl, .string s, t'.val] u fun e w' => e = .returned (FR (outFS l s t')) ∧ Below u.heap.size u w') := fun u t' h1 hu => implFS_any _ cl g l s t' u hlm (fun _ => rfl) (RowG.of hu) hab (by omega) (by omega)
  have HIS : Hid (∀ u (t' : Ste), t'.value.name.size ≤ 20 → World.ownsRow u w.heap.size 33 5 (.slice (some ⟨g, 0, none⟩) l.length cl) l.length (cellsG l) → Calls Try.prog 19 #[.slice (some ⟨g, 0, none⟩) l.length cl, .string s, t'.val] u fun e w' => e = .returned (.int .i64 (codeSF l s t')) ∧ Below u.heap.size u w') := fun u t' h1 hu => implSF_any _ cl g l s t' u hlm (fun _ => rfl) (RowG.of hu) hab (by omega) (by omega)
  have HID : Hid (∀ u, World.ownsRow u w.heap.size 33 5 (.slice (some ⟨g, 0, none⟩) l.length cl) l.length (cellsG l) → Calls Try.prog 10 #[.slice (some ⟨g, 0, none⟩) l.length cl, .string s, .agg #[.int .i64 1, .int .i64 77, .string ⟨#[]⟩]] u fun e w' => AnsD u (codeDG l s v77) (outDG l s v77) e w') := fun u hu => implDG_any _ cl g l s v77 u hlm (fun _ => rfl) (RowG.of hu) hab (by omega) (by show 0 ≤ _; omega)
  have HLl : Hid (∀ u, World.ownsRow u w.heap.size 33 5 (.slice (some ⟨g, 0, none⟩) l.length cl) l.length (cellsG l) → Calls Try.prog 14 #[.slice (some ⟨g, 0, none⟩) l.length cl, .string s] u fun e w' => e = .returned (GR (codeLG l s) (valLG l s)) ∧ Below u.heap.size u w') := fun u hu => implLG_any _ cl g l s u hlm (fun _ => rfl) (RowG.of hu) hab (by omega)
  have hMs := outDG_short l s v77 hn hs (by show 0 ≤ 20; omega)
  have hM1 := outDG_some l s v77
  have hM6 := outDG_len l s v77
  have HMt : Hid (R.1 = 0 → _) := fun h0 => by rw [hR] at h0; exact site_math h0
  have HRo : Hid (R = outFS l s t) := hR
  generalize hMM : outDG l s v77 = M at HID hMs hM1 hM6 HMt
  clear hMM
  generalize codeDG l s v77 = cd at HID hM1 HMt
  have hMa := ableG_short hMs
  have HFM : Hid (∀ u (aq : Option Addr) (cq : Nat) (t' : Ste), 1 ≤ M.length → t'.value.name.size ≤ 20 → World.ownsRow u w.heap.size 33 5 (.slice aq M.length cq) M.length (cellsG M) → Calls Try.prog 17 #[.slice aq M.length cq, .string s, t'.val] u fun e w' => e = .returned (FR (outFS M s t')) ∧ Below u.heap.size u w') := fun u aq cq t' h1 h2 hu => by
    obtain ⟨gq, cqq, hv, _, _⟩ := hu.form (by omega)
    obtain ⟨rfl, rfl⟩ : aq = some ⟨gq, 0, none⟩ ∧ cq = cqq := by simp at hv; exact hv
    exact implFS_any _ cq gq M s t' u (by omega) (fun _ => rfl) (RowG.of hu) hMa (by omega) (by omega)
  have HLs : Hid (ShortG l ∧ s.size ≤ 20 ∧ t.value.name.size ≤ 20 ∧ (cd = 0 → 1 ≤ M.length)) := ⟨hn, hs, ht, hM1⟩
  have HO1 : Hid (World.ownsRow w1 w.heap.size 33 5 (.slice (some ⟨g, 0, none⟩) l.length cl) l.length (cellsG l)) := ho
  have HB1 : Hid (Below w.heap.size w w1) := hb
  have hw1 : w.heap.size ≤ w1.heap.size := hb.size
  have HF1 : Hid (∀ u, World.ownsRow u w.heap.size 33 5 (.slice (some ⟨g, 0, none⟩) l.length cl) l.length (cellsG l) → Calls Try.prog 17 #[.slice (some ⟨g, 0, none⟩) l.length cl, .string s, t.val] u fun e w' => e = .returned (FR R) ∧ Below u.heap.size u w') := fun u hu => by rw [hR]; exact HIF.out u t ht hu
  clear hab hlm hcp hMs hM1 hM6 hMa hn hl1 hl2 hs ht hb ho HD hR
  go_wp2_with fail
  refine (HF1.out _ (HO1.out.alloc _)).mono ?_
  rintro e w2 ⟨rfl, b2⟩
  have hbx : Below w1.heap.size w1 w2 := ((Below.refl _ _).alloc (Nat.le_refl _) _).trans (b2.mono (by simp))
  have HT2 : Hid (StA w1.heap.size t w2) := (stA_new w1 t 39).below b2
  have HO2 : Hid (World.ownsRow w2 w.heap.size 33 5 (.slice (some ⟨g, 0, none⟩) l.length cl) l.length (cellsG l)) := own_below HO1.out hbx
  have HB2 : Hid (Below w.heap.size w w2) := HB1.out.trans (hbx.mono hw1)
  have z2 : w1.heap.size < w2.heap.size := lt_of_cell HT2.out.c0
  obtain ⟨U, hU⟩ : ∃ U, U = w2.alloc (.cells #[.int .i64 R.1, .bool R.2.1, .int .i64 R.2.2.1.kind, .int .i64 R.2.2.1.num, .string R.2.2.1.name, .int .i64 R.2.2.2, .int .i64 R.2.2.1.kind, .int .i64 R.2.2.1.num, .string R.2.2.1.name] 43) := ⟨_, rfl⟩
  have HU : Hid (U = w2.alloc (.cells #[.int .i64 R.1, .bool R.2.1, .int .i64 R.2.2.1.kind, .int .i64 R.2.2.1.num, .string R.2.2.1.name, .int .i64 R.2.2.2, .int .i64 R.2.2.1.kind, .int .i64 R.2.2.1.num, .string R.2.2.1.name] 43)) := hU
  have hbU : Below w2.heap.size w2 U := by rw [hU]; exact (Below.refl _ _).alloc (Nat.le_refl _) _
  have HOU : Hid (World.ownsRow U w.heap.size 33 5 (.slice (some ⟨g, 0, none⟩) l.length cl) l.length (cellsG l)) := own_below HO2.out hbU
  have HTU : Hid (StA w1.heap.size t U) := HT2.out.below hbU
  have HFU : Hid (FkA w2.heap.size R U) := by rw [hU]; exact fkA_new w2 R _
  have HBU : Hid (Below w.heap.size w U) := HB2.out.trans (hbU.mono HB2.out.size)
  have zU : w2.heap.size < U.heap.size := by rw [hU]; simp
  clear b2 hbx hbU hU HO1 HB1 HF1 HO2 HT2 HB2
  by_cases h0 : R.1 = 0
  case neg =>
    have h0' : (R.1 != 0) = true := by simpa using h0
    clear HMt HRo HIF HIS HID HLl HFM HLs h0
    go_wp2_with fail
    rw [← HU.out]
    clear HU
    refine wp_region_facts (by kernel_rfl) 8 (fun v => Below U.heap.size U v) (fun u v => Below u.heap.size u v) (fun i a u => match i with | 0 => (fun a u => a = .slice (some ⟨g, 0, none⟩) l.length cl) a u | 1 => (fun a u => a = .string s) a u | 2 => (fun a u => a = t.val) a u | 3 => (fun a u => a = FR R) a u | 4 => (fun a u => a = .int .i64 R.1) a u | 5 => (fun a u => a = Value.pointer (some ⟨w2.heap.size, 0, none⟩)) a u | 6 => (fun a u => a = .int .i64 R.1) a u | 7 => (fun a u => a = .bool true) a u | _ => True) (by kernel_rfl) [0, 1, 2, 3, 4, 5, 6, 7] (by kernel_rfl) ?b0 ?bk ?fk ⟨?s0, ?s1, ?s2, ?s3, ?s4, ?s5, ?s6, ?s7, trivial⟩ _ rfl [(0, some 26), (1, some 27), (2, some 28), (3, some 29), (4, some 30), (5, some 31), (6, some 32), (7, some 33)] (by kernel_rfl) ?last
    case b0 => exact Below.drew (Below.refl _ _)
    case bk => exact fun u v h hb => h.trans (hb.mono h.size)
    case fk => intro i a u u' h hb; match i, h with | 0, h => exact (h) | 1, h => exact (h) | 2, h => exact (h) | 3, h => exact (h) | 4, h => exact (h) | 5, h => exact (h) | 6, h => exact (h) | 7, h => exact (h) | _ + 8, _ => exact trivial
    case s0 =>
      refine StepF.of rfl [] (by kernel_rfl) ?_
      intro vs u hB hf K hK
      clear hf
      simp only [putsA, List.foldl_nil, Act.put, List.setIfInBounds_toArray] at hK ⊢
      rw [if_pos (by rfl)]
      go_simp
      exact hK.out _ _ (Below.refl _ _) rfl
    case s1 =>
      refine StepF.of rfl [] (by kernel_rfl) ?_
      intro vs u hB hf K hK
      clear hf
      simp only [putsA, List.foldl_nil, Act.put, List.setIfInBounds_toArray] at hK ⊢
      rw [if_pos (by rfl)]
      go_simp
      exact hK.out _ _ (Below.refl _ _) rfl
    case s2 =>
      refine StepF.of rfl [] (by kernel_rfl) ?_
      intro vs u hB hf K hK
      clear hf
      simp only [putsA, List.foldl_nil, Act.put, List.setIfInBounds_toArray] at hK ⊢
      rw [if_pos (by rfl)]
      have y0 := (HTU.out.below hB).c0
      have y1 := (HTU.out.below hB).c1
      have y2 := (HTU.out.below hB).c2
      have y3 := (HTU.out.below hB).c3
      go_simp
      exact hK.out _ _ (Below.refl _ _) rfl
    case s3 =>
      refine StepF.of rfl [(0, some 26), (1, some 27), (2, some 28)] (by kernel_rfl) ?_
      intro vs u hB hf K hK
      have f0 : (fun a u => a = .slice (some ⟨g, 0, none⟩) l.length cl) (vs 0) u := hf.1
      have f1 : (fun a u => a = .string s) (vs 1) u := hf.2.1
      have f2 : (fun a u => a = t.val) (vs 2) u := hf.2.2.1
      clear hf
      simp only [putsA, List.foldl_cons, List.foldl_nil, Act.put, List.setIfInBounds_toArray, List.set_cons_zero, List.set_cons_succ] at hK ⊢
      generalize vs 0 = v0 at f0 hK ⊢
      generalize vs 1 = v1 at f1 hK ⊢
      generalize vs 2 = v2 at f2 hK ⊢
      rw [if_pos (by rfl)]
      subst f0 f1 f2
      go_simp
      refine (HPF.out _ (own_below HOU.out hB)).mono ?_
      rintro e w7 ⟨rfl, b7⟩
      exact hK.out _ _ b7 rfl
    case s4 =>
      refine StepF.of rfl [(3, some 29)] (by kernel_rfl) ?_
      intro vs u hB hf K hK
      have f3 : (fun a u => a = FR R) (vs 3) u := hf.1
      clear hf
      simp only [putsA, List.foldl_cons, List.foldl_nil, Act.put, List.setIfInBounds_toArray, List.set_cons_zero, List.set_cons_succ] at hK ⊢
      generalize vs 3 = v3 at f3 hK ⊢
      rw [if_pos (by rfl)]
      subst f3
      go_simp
      exact hK.out _ _ (Below.refl _ _) rfl
    case s5 =>
      refine StepF.of rfl [] (by kernel_rfl) ?_
      intro vs u hB hf K hK
      clear hf
      simp only [putsA, List.foldl_nil, Act.put, List.setIfInBounds_toArray] at hK ⊢
      rw [if_pos (by rfl)]
      go_simp
      exact hK.out _ _ (Below.refl _ _) rfl
    case s6 =>
      refine StepF.of rfl [(5, some 31)] (by kernel_rfl) ?_
      intro vs u hB hf K hK
      have f5 : (fun a u => a = Value.pointer (some ⟨w2.heap.size, 0, none⟩)) (vs 5) u := hf.1
      clear hf
      simp only [putsA, List.foldl_cons, List.foldl_nil, Act.put, List.setIfInBounds_toArray, List.set_cons_zero, List.set_cons_succ] at hK ⊢
      generalize vs 5 = v5 at f5 hK ⊢
      rw [if_pos (by rfl)]
      subst f5
      have y0 := (HFU.out.below hB) 0 _ rfl
      go_simp
      exact hK.out _ _ (Below.refl _ _) rfl
    case s7 =>
      refine StepF.of rfl [(4, some 30), (6, some 32)] (by kernel_rfl) ?_
      intro vs u hB hf K hK
      have f4 : (fun a u => a = .int .i64 R.1) (vs 4) u := hf.1
      have f6 : (fun a u => a = .int .i64 R.1) (vs 6) u := hf.2.1
      clear hf
      simp only [putsA, List.foldl_cons, List.foldl_nil, Act.put, List.setIfInBounds_toArray, List.set_cons_zero, List.set_cons_succ] at hK ⊢
      generalize vs 4 = v4 at f4 hK ⊢
      generalize vs 6 = v6 at f6 hK ⊢
      rw [if_pos (by rfl)]
      subst f4 f6
      go_simp
      exact hK.out _ _ (Below.refl _ _) rfl
    case last =>
      intro vs u hB hf K hK
      have f0 : (fun a u => a = .slice (some ⟨g, 0, none⟩) l.length cl) (vs 0) u := hf.1
      have f1 : (fun a u => a = .string s) (vs 1) u := hf.2.1
      have f2 : (fun a u => a = t.val) (vs 2) u := hf.2.2.1
      have f3 : (fun a u => a = FR R) (vs 3) u := hf.2.2.2.1
      have f4 : (fun a u => a = .int .i64 R.1) (vs 4) u := hf.2.2.2.2.1
      have f5 : (fun a u => a = Value.pointer (some ⟨w2.heap.size, 0, none⟩)) (vs 5) u := hf.2.2.2.2.2.1
      have f6 : (fun a u => a = .int .i64 R.1) (vs 6) u := hf.2.2.2.2.2.2.1
      have f7 : (fun a u => a = .bool true) (vs 7) u := hf.2.2.2.2.2.2.2.1
      clear hf
      simp only [putsA, List.foldl_cons, List.foldl_nil, Act.put, List.setIfInBounds_toArray, List.set_cons_zero, List.set_cons_succ]
      generalize vs 0 = v0 at f0 ⊢
      generalize vs 1 = v1 at f1 ⊢
      generalize vs 2 = v2 at f2 ⊢
      generalize vs 3 = v3 at f3 ⊢
      generalize vs 4 = v4 at f4 ⊢
      generalize vs 5 = v5 at f5 ⊢
      generalize vs 6 = v6 at f6 ⊢
      generalize vs 7 = v7 at f7 ⊢
      rw [if_pos (by rfl)]
      subst f7
      clear f0 f1 f2 f3 f4 f5 f6
      have HBu : Hid (Below w.heap.size w u) := HBU.out.trans (hB.mono HBU.out.size)
      clear hB
      go_simp
      refine hK.out _ _ ?_
      clear hK
      go_wp2
      go_ret
      exact ⟨rfl, HBu.out⟩
  obtain ⟨T, m1, m2, m3, m4, m5, m6, m7⟩ := HMt.out h0
  rw [← HRo.out] at m1
  obtain ⟨rc, rh, rv, rr⟩ := R
  simp only at h0 m1
  obtain ⟨rfl, rfl⟩ : rv = T.value ∧ rr = T.ver := by simpa using m1
  subst h0
  have hT20 : T.value.name.size ≤ 20 := by
    cases hat : atG l s with
    | none =>
      have : valLG l s = gZ := by unfold valLG; rw [hat]; split <;> rfl
      rw [← m3, this]; exact Nat.zero_le _
    | some k =>
      obtain ⟨hk, _⟩ := atG_some hat
      have hgk : l.getD k gZ = l[k]'hk := by simp [List.getD, hk]
      have : valLG l s = gZ ∨ valLG l s = l[k]'hk := by
        unfold valLG; rw [hat]
        split
        · exact Or.inl rfl
        · exact Or.inr hgk
      rw [← m3]
      rcases this with e | e
      · rw [e]; exact Nat.zero_le _
      · rw [e]; exact (HLs.out.1 k hk).2
  have HL1 : Hid (∀ u, World.ownsRow u w.heap.size 33 5 (.slice (some ⟨g, 0, none⟩) l.length cl) l.length (cellsG l) → Calls Try.prog 14 #[.slice (some ⟨g, 0, none⟩) l.length cl, .string s] u fun e w' => e = .returned (GR 0 T) ∧ Below u.heap.size u w') := fun u hu => by
    have := HLl.out u hu
    rw [m2, m3] at this
    exact this
  have HF2 : Hid (∀ u, World.ownsRow u w.heap.size 33 5 (.slice (some ⟨g, 0, none⟩) l.length cl) l.length (cellsG l) → Calls Try.prog 17 #[.slice (some ⟨g, 0, none⟩) l.length cl, .string s, .agg #[.int .i64 T.ver, .int .i64 T.value.kind, .int .i64 T.value.num, .string T.value.name]] u fun e w' => e = .returned (FR (0, true, T.value, T.ver)) ∧ Below u.heap.size u w') := fun u hu => by
    have := HIF.out u ⟨T.ver, T.value⟩ hT20 hu
    rw [m4] at this
    exact this
  have HS2 : Hid (∀ u, World.ownsRow u w.heap.size 33 5 (.slice (some ⟨g, 0, none⟩) l.length cl) l.length (cellsG l) → Calls Try.prog 19 #[.slice (some ⟨g, 0, none⟩) l.length cl, .string s, .agg #[.int .i64 T.ver, .int .i64 T.value.kind, .int .i64 T.value.num, .string T.value.name]] u fun e w' => e = .returned (.int .i64 0) ∧ Below u.heap.size u w') := fun u hu => by
    have := HIS.out u ⟨T.ver, T.value⟩ hT20 hu
    rw [m5] at this
    exact this
  have HF3 : Hid (cd = 0 → ∀ u (aq : Option Addr) (cq : Nat), World.ownsRow u w.heap.size 33 5 (.slice aq M.length cq) M.length (cellsG M) → Calls Try.prog 17 #[.slice aq M.length cq, .string s, .agg #[.int .i64 T.ver, .int .i64 T.value.kind, .int .i64 T.value.num, .string T.value.name]] u fun e w' => e = .returned (FR (0, false, v77, T.ver + 1)) ∧ Below u.heap.size u w') := fun hc u aq cq hu => by
    have := HFM.out u aq cq ⟨T.ver, T.value⟩ (HLs.out.2.2.2 hc) hT20 hu
    rw [m7 hc] at this
    exact this
  have HC3 : Hid (cd = 0 ∨ cd = 3) := m6
  clear m1 m2 m3 m4 m5 m6 m7 HMt HRo HLl HIF HIS HFM HPF HTU hT20
  go_wp2_with fail
  rw [← HU.out]
  clear HU
  refine (HL1.out _ HOU.out).mono ?_
  rintro e w3 ⟨rfl, b3⟩
  obtain ⟨A3, hA3⟩ : ∃ A, A = w3.alloc (.cells #[.int .i64 0, .string T.name, .int .i64 T.value.kind, .int .i64 T.value.num, .string T.value.name, .int .i64 T.ver] 35) := ⟨_, rfl⟩
  have HA3 : Hid (A3 = w3.alloc (.cells #[.int .i64 0, .string T.name, .int .i64 T.value.kind, .int .i64 T.value.num, .string T.value.name, .int .i64 T.ver] 35)) := hA3
  have hb3 : Below U.heap.size U A3 := by rw [hA3]; exact b3.alloc b3.size _
  have z3 : U.heap.size ≤ w3.heap.size := b3.size
  have HO3 : Hid (World.ownsRow A3 w.heap.size 33 5 (.slice (some ⟨g, 0, none⟩) l.length cl) l.length (cellsG l)) := own_below HOU.out hb3
  have HF3b : Hid (FkA w2.heap.size (0, rh, T.value, T.ver) A3) := HFU.out.below hb3
  have HK3 : Hid (LkA w3.heap.size 0 T A3) := by rw [hA3]; exact lkA_new w3 0 T _
  have HB3 : Hid (Below w.heap.size w A3) := HBU.out.trans (hb3.mono HBU.out.size)
  have f5 := (HFU.out.below b3) 5 _ rfl
  have f6 := (HFU.out.below b3) 6 _ rfl
  have f7 := (HFU.out.below b3) 7 _ rfl
  have f8 := (HFU.out.below b3) 8 _ rfl
  have z23 : w2.heap.size < w3.heap.size := by omega
  have zA3 : w3.heap.size < A3.heap.size := by rw [hA3]; simp
  clear b3 hb3 hA3 HOU HFU HBU HL1
  go_wp2_with fail
  rw [← HA3.out]
  clear HA3 f5 f6 f7 f8
  refine (HF2.out _ HO3.out).mono ?_
  rintro e w4 ⟨rfl, b4⟩
  obtain ⟨A4, hA4⟩ : ∃ A, A = w4.alloc (.cells #[.int .i64 0, .bool true, .int .i64 T.value.kind, .int .i64 T.value.num, .string T.value.name, .int .i64 T.ver, .int .i64 T.value.kind, .int .i64 T.value.num, .string T.value.name] 43) := ⟨_, rfl⟩
  have HA4 : Hid (A4 = w4.alloc (.cells #[.int .i64 0, .bool true, .int .i64 T.value.kind, .int .i64 T.value.num, .string T.value.name, .int .i64 T.ver, .int .i64 T.value.kind, .int .i64 T.value.num, .string T.value.name] 43)) := hA4
  have hb4 : Below A3.heap.size A3 A4 := by rw [hA4]; exact b4.alloc b4.size _
  have z4 : A3.heap.size ≤ w4.heap.size := b4.size
  have HO4 : Hid (World.ownsRow A4 w.heap.size 33 5 (.slice (some ⟨g, 0, none⟩) l.length cl) l.length (cellsG l)) := own_below HO3.out hb4
  have HF4 : Hid (FkA w2.heap.size (0, rh, T.value, T.ver) A4) := HF3b.out.below hb4
  have HK4 : Hid (LkA w3.heap.size 0 T A4) := HK3.out.below hb4
  have HG4 : Hid (FkA w4.heap.size (0, true, T.value, T.ver) A4) := by rw [hA4]; exact fkA_new w4 (0, true, T.value, T.ver) _
  have HB4 : Hid (Below w.heap.size w A4) := HB3.out.trans (hb4.mono HB3.out.size)
  have zA4 : w4.heap.size < A4.heap.size := by rw [hA4]; simp
  clear b4 hb4 hA4 HO3 HF3b HK3 HB3
  go_wp2_with fail
  rw [← HA4.out]
  clear HA4
  refine (HID.out _ HO4.out).mono ?_
  rintro e w5 ⟨aq, cq, rfl, o5, b5⟩
  obtain ⟨A5, hA5⟩ : ∃ A, A = w5.alloc (.cells #[.int .i64 cd, .slice aq M.length cq] 30) := ⟨_, rfl⟩
  have HA5 : Hid (A5 = w5.alloc (.cells #[.int .i64 cd, .slice aq M.length cq] 30)) := hA5
  have hb5 : Below A4.heap.size A4 A5 := by rw [hA5]; exact b5.alloc b5.size _
  have z5 : A4.heap.size ≤ w5.heap.size := b5.size
  have HO5 : Hid (World.ownsRow A5 w.heap.size 33 5 (.slice (some ⟨g, 0, none⟩) l.length cl) l.length (cellsG l)) := own_below HO4.out hb5
  have HM5 : Hid (World.ownsRow A5 w.heap.size 33 5 (.slice aq M.length cq) M.length (cellsG M)) := by rw [hA5]; exact (own_base o5 HB4.out.size).alloc _
  have HF5 : Hid (FkA w2.heap.size (0, rh, T.value, T.ver) A5) := HF4.out.below hb5
  have HK5 : Hid (LkA w3.heap.size 0 T A5) := HK4.out.below hb5
  have HG5 : Hid (FkA w4.heap.size (0, true, T.value, T.ver) A5) := HG4.out.below hb5
  have HR5 : Hid (GrA w5.heap.size cd (.slice aq M.length cq) A5) := by rw [hA5]; exact ⟨by rw [World.cell?_alloc_at _ _ _ _ rfl]; rfl, by rw [World.cell?_alloc_at _ _ _ _ rfl]; rfl⟩
  have HB5 : Hid (Below w.heap.size w A5) := HB4.out.trans (hb5.mono HB4.out.size)
  have zA5 : w5.heap.size < A5.heap.size := by rw [hA5]; simp
  have q5 := (HF4.out.below b5) 5 _ rfl
  have q6 := (HF4.out.below b5) 6 _ rfl
  have q7 := (HF4.out.below b5) 7 _ rfl
  have q8 := (HF4.out.below b5) 8 _ rfl
  have z25 : w2.heap.size < w5.heap.size := by omega
  clear b5 hb5 hA5 o5 HO4 HF4 HK4 HG4 HB4 HID HF2
  by_cases hc : cd = 0
  case neg =>
    have hc3 : cd = 3 := HC3.out.resolve_left hc
    subst hc3
    clear q5 q6 q7 q8
    go_wp2
    go_ret
    rw [← HA5.out]
    exact ⟨rfl, HB5.out⟩
  have HF9 := HF3.out hc
  subst hc
  have HF9' : Hid (∀ u (aq : Option Addr) (cq : Nat), World.ownsRow u w.heap.size 33 5 (.slice aq M.length cq) M.length (cellsG M) → Calls Try.prog 17 #[.slice aq M.length cq, .string s, .agg #[.int .i64 T.ver, .int .i64 T.value.kind, .int .i64 T.value.num, .string T.value.name]] u fun e w' => e = .returned (FR (0, false, v77, T.ver + 1)) ∧ Below u.heap.size u w') := HF9
  clear HF9 HF3
  go_wp2_with fail
  rw [← HA5.out]
  clear HA5 q5 q6 q7 q8
  refine (HF9'.out _ aq cq HM5.out).mono ?_
  rintro e w6 ⟨rfl, b6⟩
  obtain ⟨A6, hA6⟩ : ∃ A, A = w6.alloc (.cells #[.int .i64 0, .bool false, .int .i64 1, .int .i64 77, .string ⟨#[]⟩, .int .i64 (T.ver + 1), .int .i64 1, .int .i64 77, .string ⟨#[]⟩] 43) := ⟨_, rfl⟩
  have HA6 : Hid (A6 = w6.alloc (.cells #[.int .i64 0, .bool false, .int .i64 1, .int .i64 77, .string ⟨#[]⟩, .int .i64 (T.ver + 1), .int .i64 1, .int .i64 77, .string ⟨#[]⟩] 43)) := hA6
  have hb6 : Below A5.heap.size A5 A6 := by rw [hA6]; exact b6.alloc b6.size _
  have z6 : A5.heap.size ≤ w6.heap.size := b6.size
  have HO6 : Hid (World.ownsRow A6 w.heap.size 33 5 (.slice (some ⟨g, 0, none⟩) l.length cl) l.length (cellsG l)) := own_below HO5.out hb6
  have HB6 : Hid (Below w.heap.size w A6) := HB5.out.trans (hb6.mono HB5.out.size)
  have p2 := (HF5.out.below b6) 2 _ rfl
  have p3 := (HF5.out.below b6) 3 _ rfl
  have p4 := (HF5.out.below b6) 4 _ rfl
  have p5 := (HF5.out.below b6) 5 _ rfl
  have p6 := (HF5.out.below b6) 6 _ rfl
  have p7 := (HF5.out.below b6) 7 _ rfl
  have p8 := (HF5.out.below b6) 8 _ rfl
  have k2 := (HK5.out.below b6).c2
  have k3 := (HK5.out.below b6).c3
  have k4 := (HK5.out.below b6).c4
  have g1 := (HG5.out.below b6) 1 _ rfl
  have g2 := (HG5.out.below b6) 2 _ rfl
  have g3 := (HG5.out.below b6) 3 _ rfl
  have g4 := (HG5.out.below b6) 4 _ rfl
  have y1 : w2.heap.size < w6.heap.size := by omega
  have y2 : w3.heap.size < w6.heap.size := by omega
  have y3 : w4.heap.size < w6.heap.size := by omega
  have hbs := bytes_self T.value.name
  have HS6 : Hid (∀ u, u = A6 → Calls Try.prog 19 #[.slice (some ⟨g, 0, none⟩) l.length cl, .string s, .agg #[.int .i64 T.ver, .int .i64 T.value.kind, .int .i64 T.value.num, .string T.value.name]] u fun e w' => e = .returned (.int .i64 0) ∧ Below A6.heap.size A6 w') := fun u hu => by rw [hu]; exact HS2.out A6 HO6.out
  have HV6 : Hid (A6.cell? ⟨w6.heap.size, 0, none⟩ = some (.int .i64 0) ∧ A6.cell? ⟨w6.heap.size, 1, none⟩ = some (.bool false) ∧ A6.cell? ⟨w6.heap.size, 3, none⟩ = some (.int .i64 77)) := by
    rw [hA6]
    exact ⟨by rw [World.cell?_alloc_at _ _ _ _ rfl]; rfl, by rw [World.cell?_alloc_at _ _ _ _ rfl]; rfl, by rw [World.cell?_alloc_at _ _ _ _ rfl]; rfl⟩
  clear b6 hb6 hA6 HF5 HK5 HG5 HB5 HO5 HM5 HR5 HS2 HF9'
  go_wp2_with fail
  refine (HS6.out _ HA6.out.symm).mono ?_
  clear p2 p3 p4 p5 p6 p7 p8 k2 k3 k4 g1 g2 g3 g4
  rintro e w7 ⟨rfl, b7⟩
  have x0 := cell_keep b7 HV6.out.1
  have x1 := cell_keep b7 HV6.out.2.1
  have x3 := cell_keep b7 HV6.out.2.2
  have HB7 : Hid (Below w.heap.size w w7) := HB6.out.trans (b7.mono HB6.out.size)
  clear b7
  go_wp2
  go_ret
  exact ⟨rfl, HB7.out⟩
end Go.Proofs.Ytgfienijabkpjaa
