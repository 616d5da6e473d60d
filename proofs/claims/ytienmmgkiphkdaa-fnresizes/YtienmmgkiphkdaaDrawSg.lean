/-
  The model's draws of lists and of stacks that may have a fault: l12DrawList, l12Bent; nothing that was there is turned but the count.
-/
import Derived.Test.YtienmmgkiphkdaaDrawBase
import Derived.Test.YtienmmgkiphkdaaSgOpenM
namespace Go.Proofs.Ytienmmgkiphkdaa
open Go.RowKit Go.Extern.Stop Go.Stop Go.Extern Num Go.Lib

theorem onlyKeeps {b : Nat} {w w' : World} (h : Only b w w') : Keeps (fun x => x = b) w w' := ⟨h.os, h.tape, h.output, h.size, h.block⟩
theorem own_only {w w' : World} {base b : Nat} {e : TypeId} {size n : Nat} {v : Value} {xs : List Value} (h : w.ownsRow base e size v n xs) (o : Only b w w') (hb : b < base) : w'.ownsRow base e size v n xs :=
  (onlyKeeps o).own h (fun g hg e => by have := (h.lt g hg).1; omega)
theorem SgB.only {T Tb : TypeId} {w w' : World} {b B c : Nat} {size : Int} {v : Value} {P : List (List Int × Value)} (h : SgB T Tb w b B size v P) (o : Only c w w') (hb : b ≠ c) (hB : c < B) : SgB T Tb w' b B size v P :=
  ⟨by rw [o.block b h.lt hb]; exact h.blk, h.pv.keeps (onlyKeeps o) (fun x hx e => by have := (h.pv.foot hx).1; omega)⟩
/-- What a draw of a list comes to. -/
def ListD (w : World) (b : Nat) (ca : Option Addr) (len cap : Nat) (k : Int) (e : Ending) (w' : World) : Prop :=
  ∃ (x : Value) (l : List Int) (k' : Int), e = .returned x ∧ w'.ownsRow w.heap.size 2 1 x l.length (cellsI l) ∧ l.length ≤ 19 ∧ k ≤ k' ∧ k' ≤ k + 30 ∧ SrcAt w' b ca len cap k' ∧ Only b w w'
set_option maxRecDepth 100000 in
set_option maxHeartbeats 1500000 in
theorem listD_any (w : World) (b : Nat) (ca : Option Addr) (len cap : Nat) (k : Int) (h : SrcAt w b ca len cap k) (hmax : (len : Int) ≤ 9223372036854775807) (k0 : 0 ≤ k) (k1 : k ≤ 999999999000) :
    Calls Try.prog 71 #[.pointer (some ⟨b, 0, none⟩)] w fun e w' => ListD w b ca len cap k e w' := by
  have hlt := h.lt
  have HC : Hid (∀ cb co, ca = some ⟨cb, co, none⟩ → 0 < len → cb < w.heap.size) := h.code
  have HS : Hid (SrcAt w b ca len cap k) := h
  obtain ⟨i0, hi, hz0, hz1, hz2⟩ := info_parts infoI
  clear h
  go_enter Try.func71, Try.ntmps71
  go_wp2_with fail
  refine (next_any _ b ca len cap k _ (HS.out.alloc _) hmax k0 (by omega)).mono ?_
  rintro e w1 ⟨r, q, rfl, r0, r1, hw1⟩
  rw [if_neg (by omega)] at r1
  have HS1 : Hid (SrcAt w1 b ca len cap (k + 1)) := by show SrcAt _ _ _ _ _ _; rw [hw1]; exact (HS.out.alloc _).next q
  have oo : Only b (w.alloc (.cells #[] 2)) w1 := by rw [hw1]; exact only_next _ b k q
  have O1 : Hid (Only b w w1) := ((Only.refl b w).alloc _).trans oo
  have HO1 : Hid (w1.ownsRow w.heap.size 2 1 (.slice (some ⟨w.heap.size, 0, none⟩) 0 0) 0 (cellsI [])) := own_only (emptyIk w) oo hlt
  obtain ⟨m, rfl⟩ : ∃ m : Nat, r = (m : Int) := ⟨r.toNat, by omega⟩
  clear hw1 oo
  go_wp2_with fail
  go_loopw [3, 4] (fun v c wr => ∃ (am : Option Addr) (cm : Nat) (l : List Int) (m' : Nat) (k' : Int), v = .slice am l.length cm ∧ c = .int .i64 (m' : Int) ∧ l.length + m' ≤ 19 ∧ k + 1 ≤ k' ∧ k' ≤ k + 1 + (l.length : Int) ∧ Hid (wr.ownsRow w.heap.size 2 1 (.slice am l.length cm) l.length (cellsI l)) ∧ Hid (SrcAt wr b ca len cap k') ∧ Hid (Only b w wr)) (fun _ c _ => (RowKit.intOf c).toNat)
  case atStart => exact ⟨_, _, [], m, k + 1, rfl, rfl, by simp; omega, by omega, by simp, HO1.out, HS1.out, O1.out⟩
  case round =>
    obtain ⟨am, cm, l, m', k', rfl, rfl, hlm, hk1, hk2, HO, HS2, HB2⟩ := hrel
    by_cases hm : 0 < m'
    · have hm0 : (0 : Int) < (m' : Int) := by omega
      go_wp2_with fail
      refine (next_any _ b ca len cap k' _ HS2.out hmax (by omega) (by omega)).mono ?_
      rintro e w2 ⟨x, q2, rfl, x0, x1, hw2⟩
      have oo : Only b wr w2 := by rw [hw2]; exact only_next _ b k' q2
      have HS3 : Hid (SrcAt w2 b ca len cap (k' + 1)) := by show SrcAt _ _ _ _ _ _; rw [hw2]; exact HS2.out.next q2
      have HO3 : Hid (w2.ownsRow w.heap.size 2 1 (.slice am l.length cm) l.length (cellsI l)) := own_only HO.out oo hlt
      have HB3 : Hid (Only b w w2) := HB2.out.trans oo
      have hz3 : w.heap.size ≤ w2.heap.size := HB3.out.size
      clear hw2 oo
      go_wp2_with (at_builtin; refine wpList_append_lies _ rfl (.tmp 12) (.tmp 15) 33 rfl w.heap.size 2 i0 _ 1 8 Try.underlying33 hi hz0 hz1 hz2 rfl (by decide) _ l.length (cellsI l) rfl (HO3.out.alloc _) ⟨_, 0, none⟩ 1 1 [.int .i64 x] rfl rfl ?c1 ?c2 (by decide) ?c3 ?c4 ?c5 _ rfl ?_)
      case c1 => exact World.news_of_block (cs := #[.int .i64 x]) (t := 2) (fr := (0, 0)) (heap_new' _ _ _ (by simp))
      case c2 => intro u hu; simp at hu; subst hu; rfl
      case c3 => unfold maxLen; omega
      case c4 => omega
      case c5 => simp; omega
      intro g' cap' w4 hown4 hgrow4 _ _
      have HO4 : Hid (w4.ownsRow w.heap.size 2 1 (.slice (some ⟨g', 0, none⟩) (l ++ [x]).length cap') (l ++ [x]).length (cellsI (l ++ [x]))) := by rw [cellsI_append, List.length_append]; exact hown4
      have HS4 : Hid (SrcAt w4 b ca len cap (k' + 1)) := (HS3.out.alloc _).grown hgrow4 (fun g hg => (HO3.out.lt g hg).1) hlt HC.out
      have HB4 : Hid (Only b w w4) := (HB3.out.alloc _).grown hgrow4 (fun g hg => (HO3.out.lt g hg).1)
      clear hown4 hgrow4
      go_wp2
      exact ⟨⟨some ⟨g', 0, none⟩, cap', l ++ [x], m' - 1, k' + 1, by simp, by go_num, by simp; omega, by omega, by simp; omega, HO4.out, HS4.out, HB4.out⟩, by simp [RowKit.intOf]; omega⟩
    · have hm0 : ¬ (0 : Int) < (m' : Int) := by omega
      go_wp2
      go_ret
      exact ⟨_, l, k', rfl, HO.out, by omega, by omega, by omega, HS2.out, HB2.out⟩
/-- What a draw of a stack comes to. -/
def BentD (w : World) (b : Nat) (ca : Option Addr) (len cap : Nat) (k : Int) (e : Ending) (w' : World) : Prop :=
  ∃ (size : Int) (v : Value) (P : List (List Int × Value)) (k' : Int), e = .returned (segV size v) ∧ PV 78 w' w.heap.size v P ∧ SmallS (P.map Prod.fst) ∧ k ≤ k' ∧ k' ≤ k + 40 ∧ SrcAt w' b ca len cap k' ∧ Only b w w'
theorem small_more {P : List (List Int × Value)} {n : Nat} (h1 : P.length ≤ n) (h2 : (P.map Prod.fst).flatten.length ≤ n) (hn : n ≤ 1000) (l : List Int) (x : Value) (hl : l.length ≤ 1) : SmallS ((P ++ [(l, x)]).map Prod.fst) := by
  refine ⟨by simp; omega, ?_⟩
  rw [List.map_append, List.flatten_append, List.length_append]
  have h3 : (([(l, x)] : List (List Int × Value)).map Prod.fst).flatten.length = l.length := by simp
  omega
theorem SgB.size {T Tb : TypeId} {w : World} {b B : Nat} {s : Int} {v : Value} {P : List (List Int × Value)} (h : SgB T Tb w b B s v P) (h1 : T ≠ Tb) (h2 : 2 ≠ Tb) (s' : Int) : SgB T Tb (w.setCell ⟨b, 0, none⟩ (.int .i64 s')) b B s' v P :=
  ⟨by rw [heap_setCell_same w b 0 _ Tb _ h.blk]; rfl, own_set' h.pv.row (fun g hg => h.far h1 h2 g (.inl hg)) _, fun i hi => own_set' (h.pv.iv.items i hi) (fun g hg => h.far h1 h2 g (.inr ⟨i, hi, hg⟩)) _, h.pv.iv.apart⟩
theorem own_one (w : World) : (w.alloc (.cells #[.int .i64 1] 2)).ownsRow w.heap.size 2 1 (.slice (some ⟨w.heap.size, 0, none⟩) 1 1) ([1] : List Int).length (cellsI [1]) :=
  ⟨rfl, .inr ⟨w.heap.size, 1, #[.int .i64 1], rfl, Nat.le_refl _, heap_alloc_new _ _, Nat.le_refl _, by unfold maxLen; omega, by simp, by simp [cellsI]⟩⟩
set_option maxRecDepth 100000 in
set_option maxHeartbeats 1500000 in
theorem bentD_any (w : World) (b : Nat) (ca : Option Addr) (len cap : Nat) (k : Int) (h : SrcAt w b ca len cap k) (hmax : (len : Int) ≤ 9223372036854775807) (k0 : 0 ≤ k) (k1 : k ≤ 999999998000) :
    Calls Try.prog 45 #[.pointer (some ⟨b, 0, none⟩)] w fun e w' => BentD w b ca len cap k e w' := by
  have hlt := h.lt
  have HC : Hid (∀ cb co, ca = some ⟨cb, co, none⟩ → 0 < len → cb < w.heap.size) := h.code
  have HS : Hid (SrcAt w b ca len cap k) := h
  obtain ⟨i0, hi, hz0, hz1, hz2⟩ := info_parts infoI
  obtain ⟨j0, hj, hy0, hy1, hy2⟩ := info_parts infoSp
  have hrb0 : (w.alloc (.cells #[.int .i64 0, .slice none 0 0] 26)).heap[w.heap.size]? = some (.cells #[.int .i64 0, .slice none 0 0] 26) := heap_alloc_new _ _
  clear h
  go_enter Try.func45, Try.ntmps45
  go_wp2_with fail
  refine (next_any _ b ca len cap k _ (HS.out.alloc _) hmax k0 (by omega)).mono ?_
  rintro e w1 ⟨r, q, rfl, r0, r1, hw1⟩
  rw [if_neg (by omega)] at r1
  have HS1 : Hid (SrcAt w1 b ca len cap (k + 1)) := by show SrcAt _ _ _ _ _ _; rw [hw1]; exact (HS.out.alloc _).next q
  have oo : Only b (w.alloc (.cells #[.int .i64 0, .slice none 0 0] 26)) w1 := by rw [hw1]; exact only_next _ b k q
  have O1 : Hid (Only b w w1) := ((Only.refl b w).alloc _).trans oo
  have HR1 : Hid (w1.heap[w.heap.size]? = some (.cells #[.int .i64 0, .slice none 0 0] 26)) := by show _ = _; rw [oo.block _ (by simp) (Nat.ne_of_gt hlt)]; exact hrb0
  clear hw1 oo hrb0
  go_wp2_with fail
  refine (listD_any _ b ca len cap (k + 1) HS1.out hmax (by omega) (by omega)).mono ?_
  rintro e w2 ⟨x, l, k2, rfl, ho, hl, k21, k22, h2, o2⟩
  have HS2 : Hid (SrcAt w2 b ca len cap k2) := h2
  have O2 : Hid (Only b w w2) := O1.out.trans o2
  have HR2 : Hid (w2.heap[w.heap.size]? = some (.cells #[.int .i64 0, .slice none 0 0] 26)) := by show _ = _; rw [o2.block _ (Array.getElem?_eq_some_iff.1 HR1.out).1 (Nat.ne_of_gt hlt)]; exact HR1.out
  obtain ⟨size, hsz⟩ : ∃ size, size = 1 + r := ⟨_, rfl⟩
  have HOp : Hid (Calls Try.prog 53 #[.int .i64 size, x] w2 fun e w' => ∃ v P, e = .returned (segV size v) ∧ PV 78 w' w2.heap.size v P ∧ P.map Prod.fst = openL size.toNat l ∧ Below w2.heap.size w2 w') := l12Open_any size x l w2 (by omega) (by omega) (seeI_own ho)
  have HBd : Hid (∀ P : List (List Int × Value), P.map Prod.fst = openL size.toNat l → P.length ≤ 19 ∧ (P.map Prod.fst).flatten.length ≤ 19) := fun P hP => by
    obtain ⟨q1, q2⟩ := openL_both size.toNat (by omega) l
    have h3 : (P.map Prod.fst).flatten.length ≤ 19 := by rw [hP, q2]; exact hl
    refine ⟨?_, h3⟩
    have h4 : ∀ ps : List (List Int), FineP size.toNat ps → ps.length ≤ ps.flatten.length := fun ps => by
      induction ps with
      | nil => intro _; simp
      | cons p r ih => intro h; have := ih h.2.2.2; have := h.1; simp only [List.length_cons, List.flatten_cons, List.length_append]; omega
    rw [← List.length_map (f := Prod.fst), hP]
    have := h4 _ q1
    rw [q2] at this
    omega
  obtain ⟨ax, cx, rfl⟩ := own_form ho
  clear h2 o2 ho HR1 HS1 O1 HS
  go_wp2_with fail
  rw [← hsz]
  refine HOp.out.mono ?_
  rintro e w3 ⟨v, P, rfl, o3, m3, b3⟩
  obtain ⟨av, cv, hv⟩ := o3.form
  obtain ⟨u3, hu3⟩ : ∃ u, u = w3.alloc (.cells #[.int .i64 size, v] 26) := ⟨_, rfl⟩
  have HU3 : Hid (u3 = w3.alloc (.cells #[.int .i64 size, v] 26)) := hu3
  have HG3 : Hid (SgB 78 26 u3 w3.heap.size w2.heap.size size v P) := by rw [hu3]; exact SgB.new o3
  have hb3 : Below w2.heap.size w2 u3 := by rw [hu3]; exact b3.alloc b3.size _
  have HP : Hid (P.length ≤ 19 ∧ (P.map Prod.fst).flatten.length ≤ 19) := HBd.out P m3
  have HS3 : Hid (SrcAt u3 b ca len cap k2) := HS2.out.below hb3
  have O3 : Hid (Only b w u3) := O2.out.fresh hb3
  have HR3 : Hid (u3.heap[w.heap.size]? = some (.cells #[.int .i64 0, .slice none 0 0] 26)) := by show _ = _; rw [hb3.block _ (Array.getElem?_eq_some_iff.1 HR2.out).1]; exact HR2.out
  have hz2 : w.heap.size < w2.heap.size := (Array.getElem?_eq_some_iff.1 HR2.out).1
  have hz3 : w2.heap.size ≤ w3.heap.size := b3.size
  obtain ⟨s0, hs0⟩ : ∃ s0, s0 = size := ⟨_, rfl⟩
  obtain ⟨bx, hbx⟩ : ∃ bx, bx = w3.heap.size := ⟨_, rfl⟩
  have HBx : Hid (bx = w3.heap.size) := hbx
  rw [← hbx] at hz3 HG3
  subst hv
  clear hu3 b3 hb3 m3 o3 HS2 O2 HR2 HOp HBd hsz hbx
  go_wp2_with fail
  rw [← HU3.out, ← HBx.out]
  clear HU3 HBx
  refine (next_any _ b ca len cap k2 _ HS3.out hmax (by omega) (by omega)).mono ?_
  rintro e w4 ⟨x, q4, rfl, x0, x1, hw4⟩
  have oo : Only b u3 w4 := by rw [hw4]; exact only_next _ b k2 q4
  have HS4 : Hid (SrcAt w4 b ca len cap (k2 + 1)) := by show SrcAt _ _ _ _ _ _; rw [hw4]; exact HS3.out.next q4
  have O4 : Hid (Only b w w4) := O3.out.trans oo
  have HG4 : Hid (SgB 78 26 w4 bx w2.heap.size size (.slice av P.length cv) P) := HG3.out.only oo (by omega) (by omega)
  have HR4 : Hid (w4.heap[w.heap.size]? = some (.cells #[.int .i64 0, .slice none 0 0] 26)) := by show _ = _; rw [oo.block _ (Array.getElem?_eq_some_iff.1 HR3.out).1 (Nat.ne_of_gt hlt)]; exact HR3.out
  clear hw4 oo HS3 O3 HG3 HR3 x1
  have HEnd : Hid (∀ (u : World) (sz : Int) (vv : Value) (Q : List (List Int × Value)) (k' : Int), SgB 78 26 u bx w2.heap.size sz vv Q → SmallS (Q.map Prod.fst) → k2 ≤ k' → k' ≤ k2 + 5 → SrcAt u b ca len cap k' → Only b w u → BentD w b ca len cap k (.returned (segV sz vv)) ((u.setCell ⟨w.heap.size, 0, none⟩ (.int .i64 sz)).setCell ⟨w.heap.size, 1, none⟩ vv)) := fun u sz vv Q k' hg hsm hk1 hk2 hs ho => by
    refine ⟨sz, vv, Q, k', rfl, ?_, hsm, by omega, by omega, ?_, ?_⟩
    · exact ((hg.pv.setLow hz2).setLow hz2).base (Nat.le_of_lt hz2)
    · exact (hs.put _ _ _ (by omega) (fun cb co e hl => by have := HC.out cb co e hl; omega)).put _ _ _ (by omega) (fun cb co e hl => by have := HC.out cb co e hl; omega)
    · exact (ho.put (Nat.le_refl _) _).put (Nat.le_refl _) _
  have hzb : w.heap.size < bx := by omega
  have hzn : w.heap.size ≠ bx := by omega
  by_cases c0 : x = 0
  · subst c0
    go_wp2_with fail
    refine (pick_any _ b w4.heap.size 4 ca len cap (k2 + 1) (HS4.out.alloc _) hmax (by omega) (by omega) (Nat.ne_of_gt HS4.out.lt) (by omega) (by omega) AnyI (fun j hj => ints_at w4 [0, 1, 64, 65] _ AnyI (fun _ _ => trivial) j (by simpa using hj))).mono ?_
    rintro e w5 ⟨y, k5, rfl, -, k51, k52, h5, o5⟩
    have HS5 : Hid (SrcAt w5 b ca len cap k5) := h5
    have hzc : w4.heap.size < w5.heap.size := by have := o5.size; simp at this; omega
    have O5 : Hid (Only b w w5) := (O4.out.alloc _).trans o5
    have HG5 : Hid (SgB 78 26 w5 bx w2.heap.size size (.slice av P.length cv) P) := (HG4.out.below ((Below.refl _ _).alloc (Nat.le_refl _) _)).only o5 (by omega) (by omega)
    have HR5 : Hid (w5.heap[w.heap.size]? = some (.cells #[.int .i64 0, .slice none 0 0] 26)) := by
      have h0 := (Array.getElem?_eq_some_iff.1 HR4.out).1
      show _ = _
      rw [o5.block _ (by simp; omega) (Nat.ne_of_gt hlt), Below.heap_alloc _ _ _ h0]; exact HR4.out
    have HSm : Hid (SmallS (P.map Prod.fst)) := ⟨by have := HP.out.1; simp; omega, by have := HP.out.2; omega⟩
    have HE : Hid (BentD w b ca len cap k (.returned (segV y (.slice av P.length cv))) (((w5.setCell ⟨bx, 0, none⟩ (.int .i64 y)).setCell ⟨w.heap.size, 0, none⟩ (.int .i64 y)).setCell ⟨w.heap.size, 1, none⟩ (.slice av P.length cv))) := HEnd.out _ y _ P k5 (HG5.out.size (by decide) (by decide) y) HSm.out (by omega) (by omega) (HS5.out.put _ _ _ (by have := hlt; omega) (fun cb co e hl => by have := HC.out cb co e hl; omega)) (O5.out.put (by omega) _)
    clear h5 o5 HG4 HR4 HS4 O4
    have r0' : w5.cell? ⟨w.heap.size, 0, none⟩ = some (.int .i64 0) := by rw [cell_of_row w5 _ 0 _ _ _ HR5.out]; rfl
    have r1' : w5.cell? ⟨w.heap.size, 1, none⟩ = some (.slice none 0 0) := by rw [cell_of_row w5 _ 1 _ _ _ HR5.out]; rfl
    have rf : ∀ j, w5.frozen? ⟨w.heap.size, j, none⟩ = false := fun j => by simp [World.frozen?, HR5.out]
    have qf : ∀ j, w5.frozen? ⟨bx, j, none⟩ = false := HG5.out.fz
    obtain ⟨q0, q1⟩ := HG5.out.at
    go_wp2
    exact bodyPost_ret (v := segV y (.slice av P.length cv)) (by simp [results, Try.results45, go_sem, r0', r1']) rfl HE.out
  have d0 : (x == 0) = false := by simpa using c0
  by_cases c1 : x = 1
  · subst c1
    obtain ⟨wa, hwa⟩ : ∃ wa, wa = w4.alloc (.cells #[(.slice none 0 0)] 78) := ⟨_, rfl⟩
    have hb4 : Below w4.heap.size w4 wa := by rw [hwa]; exact (Below.refl _ _).alloc (Nat.le_refl _) _
    have HGa : Hid (SgB 78 26 wa bx w2.heap.size size (.slice av P.length cv) P) := HG4.out.below hb4
    have HSa : Hid (SrcAt wa b ca len cap (k2 + 1)) := HS4.out.below hb4
    have Oa : Hid (Only b w wa) := O4.out.fresh hb4
    have HRa : Hid (wa.heap[w.heap.size]? = some (.cells #[.int .i64 0, .slice none 0 0] 26)) := by show _ = _; rw [hb4.block _ (Array.getElem?_eq_some_iff.1 HR4.out).1]; exact HR4.out
    have HIa : Hid (IV wa w2.heap.size (P ++ [([], (.slice none 0 0))])) := by
      exact iv_none HGa.out.pv.iv
    have HSm : Hid (SmallS ((P ++ [(([] : List Int), (.slice none 0 0 : Value))]).map Prod.fst)) := small_more HP.out.1 HP.out.2 (by omega) _ _ (by simp)
    have HWa : Hid (wa = w4.alloc (.cells #[(.slice none 0 0)] 78)) := hwa
    have hPl : P.length ≤ 19 := HP.out.1
    have hbl : bx < w4.heap.size := HG4.out.lt
    have hza : w4.heap.size < wa.heap.size := by rw [hwa]; simp
    obtain ⟨q0, q1⟩ := HG4.out.at
    have qf : ∀ j, w4.frozen? ⟨bx, j, none⟩ = false := HG4.out.fz
    have hrow : w4.alloc (.cells #[(.slice none 0 0)] 78) = wa := hwa.symm
    have HRw : Hid ((w4.alloc (.cells #[(.slice none 0 0)] 78)).ownsRow w2.heap.size 78 1 (.slice av P.length cv) P.length (P.map Prod.snd)) := by rw [← hwa]; exact HGa.out.pv.row
    clear hwa hrow hb4
    go_wp2_with (at_builtin; refine wpList_append_lies _ rfl (.tmp 21) (.tmp 23) 24 rfl w2.heap.size 78 j0 _ 1 24 Try.underlying24 hj hy0 hy1 hy2 rfl (by decide) _ P.length (P.map Prod.snd) rfl HRw.out ⟨_, 0, none⟩ 1 1 [(.slice none 0 0)] rfl rfl ?c1 ?c2 (by decide) ?c3 ?c4 ?c5 _ rfl ?_)
    case c1 => exact World.news_of_block (cs := #[(.slice none 0 0)]) (t := 78) (fr := (0, 0)) (heap_new' _ _ _ (by simp))
    case c2 => intro u hu; simp at hu; subst hu; rfl
    case c3 => unfold maxLen; omega
    case c4 => omega
    case c5 => simp; omega
    intro g' cap' w5 hown5 hgrow5 _ _
    rw [← HWa.out] at hgrow5
    have hfar := HGa.out.far (by decide) (by decide)
    have HPn : PV 78 w5 w2.heap.size (.slice (some ⟨g', 0, none⟩) (P.length + 1) cap') (P ++ [([], (.slice none 0 0))]) := HGa.out.pv.snoc (by decide) rfl HIa.out hown5 hgrow5
    have hbk : w5.heap[bx]? = some (.cells #[.int .i64 size, .slice av P.length cv] 26) := blk_grown HGa.out.blk hgrow5 (fun e => hfar bx (.inl e.symm) rfl)
    have hft : ∀ g, (Value.slice av P.length cv).ownBlock = some g → w2.heap.size ≤ g := fun g hg => (HGa.out.pv.foot (.inl hg)).1
    have HS5 : Hid (SrcAt w5 b ca len cap (k2 + 1)) := HSa.out.grown hgrow5 hft (by omega) (fun cb co e hl => by have := HC.out cb co e hl; omega)
    have O5 : Hid (Only b w w5) := Oa.out.grown hgrow5 (fun g hg => by have := hft g hg; omega)
    have HR5 : Hid (w5.heap[w.heap.size]? = some (.cells #[.int .i64 0, .slice none 0 0] 26)) := blk_grown HRa.out hgrow5 (fun e => by have := hft _ e.symm; omega)
    have hz5 : wa.heap.size ≤ w5.heap.size := hgrow5.size
    have HE : Hid (BentD w b ca len cap k (.returned (segV size (.slice (some ⟨g', 0, none⟩) (P.length + 1) cap'))) (((w5.setCell ⟨bx, 1, none⟩ (.slice (some ⟨g', 0, none⟩) (P.length + 1) cap')).setCell ⟨w.heap.size, 0, none⟩ (.int .i64 size)).setCell ⟨w.heap.size, 1, none⟩ (.slice (some ⟨g', 0, none⟩) (P.length + 1) cap'))) := HEnd.out _ size _ _ (k2 + 1) (SgB.store hbk HPn (by decide) (by decide)) HSm.out (by omega) (by omega) (HS5.out.put _ _ _ (by omega) (fun cb co e hl => by have := HC.out cb co e hl; omega)) (O5.out.put (by omega) _)
    have r0' : w5.cell? ⟨w.heap.size, 0, none⟩ = some (.int .i64 0) := by rw [cell_of_row w5 _ 0 _ _ _ HR5.out]; rfl
    have r1' : w5.cell? ⟨w.heap.size, 1, none⟩ = some (.slice none 0 0) := by rw [cell_of_row w5 _ 1 _ _ _ HR5.out]; rfl
    have rf : ∀ j, w5.frozen? ⟨w.heap.size, j, none⟩ = false := fun j => by simp [World.frozen?, HR5.out]
    have qf5 : ∀ j, w5.frozen? ⟨bx, j, none⟩ = false := fun j => by simp [World.frozen?, hbk]
    have q05 : w5.cell? ⟨bx, 0, none⟩ = some (.int .i64 size) := by rw [cell_of_row w5 _ 0 _ _ _ hbk]; rfl
    have q15 : w5.cell? ⟨bx, 1, none⟩ = some (.slice av P.length cv) := by rw [cell_of_row w5 _ 1 _ _ _ hbk]; rfl
    clear hown5 hgrow5 hfar HPn hbk hft HIa HGa HSa Oa HRa HG4 HR4 HS4 O4 q0 q1 qf HWa HRw
    go_wp2
    exact bodyPost_ret (v := segV size (.slice (some ⟨g', 0, none⟩) (P.length + 1) cap')) (by simp [results, Try.results45, go_sem, r0', r1']) rfl HE.out
  have d1 : (x == 1) = false := by simpa using c1
  by_cases c2 : x = 2
  · subst c2
    obtain ⟨wa, hwa⟩ : ∃ wa, wa = (w4.alloc (.cells #[.int .i64 1] 2)).alloc (.cells #[(.slice (some ⟨w4.heap.size, 0, none⟩) 1 1)] 78) := ⟨_, rfl⟩
    have hb4 : Below w4.heap.size w4 wa := by rw [hwa]; exact ((Below.refl _ _).alloc (Nat.le_refl _) _).alloc (by simp) _
    have HGa : Hid (SgB 78 26 wa bx w2.heap.size size (.slice av P.length cv) P) := HG4.out.below hb4
    have HSa : Hid (SrcAt wa b ca len cap (k2 + 1)) := HS4.out.below hb4
    have Oa : Hid (Only b w wa) := O4.out.fresh hb4
    have HRa : Hid (wa.heap[w.heap.size]? = some (.cells #[.int .i64 0, .slice none 0 0] 26)) := by show _ = _; rw [hb4.block _ (Array.getElem?_eq_some_iff.1 HR4.out).1]; exact HR4.out
    have HIa : Hid (IV wa w2.heap.size (P ++ [([1], (.slice (some ⟨w4.heap.size, 0, none⟩) 1 1))])) := by
      have h1 : IV (w4.alloc (.cells #[.int .i64 1] 2)) w2.heap.size (P ++ [([1], .slice (some ⟨w4.heap.size, 0, none⟩) 1 1)]) := HG4.out.pv.iv.snoc ((Below.refl _ _).alloc (Nat.le_refl _) _) (by have := HG4.out.lt; omega) (own_one w4)
      rw [hwa]; exact h1.below ((Below.refl _ _).alloc (Nat.le_refl _) _)
    have HSm : Hid (SmallS ((P ++ [(([1] : List Int), (.slice (some ⟨w4.heap.size, 0, none⟩) 1 1 : Value))]).map Prod.fst)) := small_more HP.out.1 HP.out.2 (by omega) _ _ (by simp)
    have HWa : Hid (wa = (w4.alloc (.cells #[.int .i64 1] 2)).alloc (.cells #[(.slice (some ⟨w4.heap.size, 0, none⟩) 1 1)] 78)) := hwa
    have hPl : P.length ≤ 19 := HP.out.1
    have hbl : bx < w4.heap.size := HG4.out.lt
    have hza : w4.heap.size < wa.heap.size := by rw [hwa]; simp; omega
    obtain ⟨q0, q1⟩ := HG4.out.at
    have qf : ∀ j, w4.frozen? ⟨bx, j, none⟩ = false := HG4.out.fz
    have hrow : (w4.alloc (.cells #[.int .i64 1] 2)).alloc (.cells #[(.slice (some ⟨w4.heap.size, 0, none⟩) 1 1)] 78) = wa := hwa.symm
    have HRw : Hid (((w4.alloc (.cells #[.int .i64 1] 2)).alloc (.cells #[(.slice (some ⟨w4.heap.size, 0, none⟩) 1 1)] 78)).ownsRow w2.heap.size 78 1 (.slice av P.length cv) P.length (P.map Prod.snd)) := by rw [← hwa]; exact HGa.out.pv.row
    clear hwa hrow hb4
    go_wp2_with (at_builtin; refine wpList_append_lies _ rfl (.tmp 29) (.tmp 32) 24 rfl w2.heap.size 78 j0 _ 1 24 Try.underlying24 hj hy0 hy1 hy2 rfl (by decide) _ P.length (P.map Prod.snd) rfl HRw.out ⟨_, 0, none⟩ 1 1 [(.slice (some ⟨w4.heap.size, 0, none⟩) 1 1)] rfl rfl ?c1 ?c2 (by decide) ?c3 ?c4 ?c5 _ rfl ?_)
    case c1 => exact World.news_of_block (cs := #[(.slice (some ⟨w4.heap.size, 0, none⟩) 1 1)]) (t := 78) (fr := (0, 0)) (heap_new' _ _ _ (by simp))
    case c2 => intro u hu; simp at hu; subst hu; rfl
    case c3 => unfold maxLen; omega
    case c4 => omega
    case c5 => simp; omega
    intro g' cap' w5 hown5 hgrow5 _ _
    rw [← HWa.out] at hgrow5
    have hfar := HGa.out.far (by decide) (by decide)
    have HPn : PV 78 w5 w2.heap.size (.slice (some ⟨g', 0, none⟩) (P.length + 1) cap') (P ++ [([1], (.slice (some ⟨w4.heap.size, 0, none⟩) 1 1))]) := HGa.out.pv.snoc (by decide) rfl HIa.out hown5 hgrow5
    have hbk : w5.heap[bx]? = some (.cells #[.int .i64 size, .slice av P.length cv] 26) := blk_grown HGa.out.blk hgrow5 (fun e => hfar bx (.inl e.symm) rfl)
    have hft : ∀ g, (Value.slice av P.length cv).ownBlock = some g → w2.heap.size ≤ g := fun g hg => (HGa.out.pv.foot (.inl hg)).1
    have HS5 : Hid (SrcAt w5 b ca len cap (k2 + 1)) := HSa.out.grown hgrow5 hft (by omega) (fun cb co e hl => by have := HC.out cb co e hl; omega)
    have O5 : Hid (Only b w w5) := Oa.out.grown hgrow5 (fun g hg => by have := hft g hg; omega)
    have HR5 : Hid (w5.heap[w.heap.size]? = some (.cells #[.int .i64 0, .slice none 0 0] 26)) := blk_grown HRa.out hgrow5 (fun e => by have := hft _ e.symm; omega)
    have hz5 : wa.heap.size ≤ w5.heap.size := hgrow5.size
    have HE : Hid (BentD w b ca len cap k (.returned (segV size (.slice (some ⟨g', 0, none⟩) (P.length + 1) cap'))) (((w5.setCell ⟨bx, 1, none⟩ (.slice (some ⟨g', 0, none⟩) (P.length + 1) cap')).setCell ⟨w.heap.size, 0, none⟩ (.int .i64 size)).setCell ⟨w.heap.size, 1, none⟩ (.slice (some ⟨g', 0, none⟩) (P.length + 1) cap'))) := HEnd.out _ size _ _ (k2 + 1) (SgB.store hbk HPn (by decide) (by decide)) HSm.out (by omega) (by omega) (HS5.out.put _ _ _ (by omega) (fun cb co e hl => by have := HC.out cb co e hl; omega)) (O5.out.put (by omega) _)
    have r0' : w5.cell? ⟨w.heap.size, 0, none⟩ = some (.int .i64 0) := by rw [cell_of_row w5 _ 0 _ _ _ HR5.out]; rfl
    have r1' : w5.cell? ⟨w.heap.size, 1, none⟩ = some (.slice none 0 0) := by rw [cell_of_row w5 _ 1 _ _ _ HR5.out]; rfl
    have rf : ∀ j, w5.frozen? ⟨w.heap.size, j, none⟩ = false := fun j => by simp [World.frozen?, HR5.out]
    have qf5 : ∀ j, w5.frozen? ⟨bx, j, none⟩ = false := fun j => by simp [World.frozen?, hbk]
    have q05 : w5.cell? ⟨bx, 0, none⟩ = some (.int .i64 size) := by rw [cell_of_row w5 _ 0 _ _ _ hbk]; rfl
    have q15 : w5.cell? ⟨bx, 1, none⟩ = some (.slice av P.length cv) := by rw [cell_of_row w5 _ 1 _ _ _ hbk]; rfl
    clear hown5 hgrow5 hfar HPn hbk hft HIa HGa HSa Oa HRa HG4 HR4 HS4 O4 q0 q1 qf HWa HRw
    go_wp2
    exact bodyPost_ret (v := segV size (.slice (some ⟨g', 0, none⟩) (P.length + 1) cap')) (by simp [results, Try.results45, go_sem, r0', r1']) rfl HE.out
  have d2 : (x == 2) = false := by simpa using c2
  have r0 : w4.cell? ⟨w.heap.size, 0, none⟩ = some (.int .i64 0) := by rw [cell_of_row w4 _ 0 _ _ _ HR4.out]; rfl
  have r1 : w4.cell? ⟨w.heap.size, 1, none⟩ = some (.slice none 0 0) := by rw [cell_of_row w4 _ 1 _ _ _ HR4.out]; rfl
  have rf : ∀ j, w4.frozen? ⟨w.heap.size, j, none⟩ = false := fun j => by simp [World.frozen?, HR4.out]
  obtain ⟨q0, q1⟩ := HG4.out.at
  have HSm : Hid (SmallS (P.map Prod.fst)) := ⟨by have := HP.out.1; simp; omega, by have := HP.out.2; omega⟩
  clear c0 c1 c2
  go_wp2
  exact bodyPost_ret (v := segV size (.slice av P.length cv)) (by simp [results, Try.results45, go_sem, r0, r1]) rfl (HEnd.out _ _ _ P _ HG4.out HSm.out (by omega) (by omega) HS4.out O4.out)
end Go.Proofs.Ytienmmgkiphkdaa
