/-
  The library's slices.Reverse at bytes, and the program's nameOfBits by it: a name comes back from its number; nothing that was there is turned.
-/
import Derived.Test.YtgfienijabkpjaaImplBits
import Derived.Test.YtgfienijabkpjaaFldKit
import Derived.Deep.RegionLaw
import Derived.Deep.DrawnRows
import Derived.Shelf.RegionOpenPlain
import Derived.Laws.IdiomStrings
namespace Go.Proofs.Ytgfienijabkpjaa
open Go.RowKit Go.Extern.Stop Go.Stop Go.Extern Num Go.Lib

attribute [local go_sem ↓] Go.wp_at_zero Go.wp_at_succ
def cellsU (l : List UInt8) : List Value := l.map fun b => .int .u8 (b.toNat : Int)
theorem cellsU_len (l : List UInt8) : (cellsU l).length = l.length := by simp [cellsU]
theorem cellsU_snoc (l : List UInt8) (b : UInt8) : cellsU (l ++ [b]) = cellsU l ++ [.int .u8 (b.toNat : Int)] := by simp [cellsU]
theorem infoU : (Try.prog.info? 5).map (fun i => (i.zero, i.size, i.bytes)) = some (some (.int .u8 0), 1, 1) := by kernel_rfl
theorem rowU_at {w : World} {base g cap : Nat} {l : List UInt8} (h : w.ownsRow base 5 1 (.slice (some ⟨g, 0, none⟩) l.length cap) l.length (cellsU l)) (k : Nat) (hk : k < l.length) :
    w.cell? ⟨g, k, none⟩ = some (.int .u8 (l[k].toNat : Int)) := by
  have ha : ∀ j, (⟨g, 0, none⟩ : Addr).add j = ⟨g, j, none⟩ := fun j => by unfold Addr.add; split <;> simp_all
  rw [← ha]
  exact h.cells (g := g) rfl k _ (by simp [cellsU, hk])
/-- A list whose first k and last k are turned around. -/
def revK (l : List UInt8) (k : Nat) : List UInt8 := (List.range l.length).map fun j => if j < k ∨ l.length - k ≤ j then l.getD (l.length - 1 - j) 0 else l.getD j 0
theorem revK_len (l : List UInt8) (k : Nat) : (revK l k).length = l.length := by simp [revK]
theorem revK_zero (l : List UInt8) : revK l 0 = l := by
  apply List.ext_getElem (by simp [revK])
  intro j h1 h2
  simp only [revK, List.getElem_map, List.getElem_range]
  rw [if_neg (by omega)]
  simp [List.getD_eq_getElem?_getD, h2]
theorem revK_end (l : List UInt8) (k : Nat) (h : l.length ≤ 2 * k + 1) : revK l k = l.reverse := by
  apply List.ext_getElem (by simp [revK])
  intro j h1 h2
  rw [revK_len] at h1
  simp only [revK, List.getElem_map, List.getElem_range, List.getElem_reverse]
  by_cases hj : j < k ∨ l.length - k ≤ j
  · rw [if_pos hj]
    simp [List.getD_eq_getElem?_getD, show l.length - 1 - j < l.length by omega]
  · rw [if_neg hj]
    have e : l.length - 1 - j = j := by omega
    simp only [e]
    simp [List.getD_eq_getElem?_getD, h1]
theorem revK_at (l : List UInt8) (k j : Nat) (hj : j < l.length) (h : ¬ (j < k ∨ l.length - k ≤ j)) : (revK l k)[j]'(by rw [revK_len]; exact hj) = l[j] := by
  simp only [revK, List.getElem_map, List.getElem_range]
  rw [if_neg h]
  simp [List.getD_eq_getElem?_getD, hj]
theorem revK_step (l : List UInt8) (k : Nat) (h : 2 * k + 1 < l.length) : ((revK l k).set k (l[l.length - 1 - k]'(by omega))).set (l.length - 1 - k) (l[k]'(by omega)) = revK l (k + 1) := by
  apply List.ext_getElem (by simp [revK])
  intro j h1 h2
  have hj : j < l.length := by rw [revK_len] at h2; exact h2
  rw [List.getElem_set, List.getElem_set]
  by_cases e1 : l.length - 1 - k = j
  · rw [if_pos e1]
    simp only [revK, List.getElem_map, List.getElem_range]
    rw [if_pos (by omega)]
    have e : l.length - 1 - j = k := by omega
    rw [e]; simp [List.getD_eq_getElem?_getD, show k < l.length by omega]
  · rw [if_neg e1]
    by_cases e2 : k = j
    · rw [if_pos e2]
      subst e2
      simp only [revK, List.getElem_map, List.getElem_range]
      rw [if_pos (by omega)]
      simp [List.getD_eq_getElem?_getD, show l.length - 1 - k < l.length by omega]
    · rw [if_neg e2]
      simp only [revK, List.getElem_map, List.getElem_range]
      by_cases e3 : j < k ∨ l.length - k ≤ j
      · rw [if_pos e3, if_pos (by omega)]
      · rw [if_neg e3, if_neg (by omega)]
theorem cellsU_set (l : List UInt8) (j : Nat) (b : UInt8) : (cellsU l).set j (.int .u8 (b.toNat : Int)) = cellsU (l.set j b) := by
  unfold cellsU; rw [List.map_set]
theorem rev_next {wr : World} {base g cap k m : Nat} {l : List UInt8} (lk : k < l.length) (lm : m < l.length) (hk : k < m) (hm : k + m + 1 = l.length) (ho : wr.ownsRow base 5 1 (.slice (some ⟨g, 0, none⟩) l.length cap) l.length (cellsU (revK l k))) :
    ((wr.setCell ⟨g, k, none⟩ (.int .u8 ((l[m]'lm).toNat : Int))).setCell ⟨g, m, none⟩ (.int .u8 ((l[k]'lk).toNat : Int))).ownsRow base 5 1 (.slice (some ⟨g, 0, none⟩) l.length cap) l.length (cellsU (revK l (k + 1))) := by
  have h := own_put (own_put ho k (.int .u8 ((l[m]'lm).toNat : Int))) m (.int .u8 ((l[k]'lk).toNat : Int))
  have em : m = l.length - 1 - k := by omega
  rw [cellsU_set, cellsU_set] at h
  have e := revK_step l k (by omega)
  simp only [← em] at e
  rw [e] at h
  exact h
set_option maxHeartbeats 1000000 in
theorem rev_any (g cap base : Nat) (l : List UInt8) (w : World) (h1 : 1 ≤ l.length) (hl : l.length ≤ 12) (h : w.ownsRow base 5 1 (.slice (some ⟨g, 0, none⟩) l.length cap) l.length (cellsU l)) :
    Calls Try.prog 92 #[.slice (some ⟨g, 0, none⟩) l.length cap] w fun e w' => e = .returned (.tuple #[]) ∧ w'.ownsRow base 5 1 (.slice (some ⟨g, 0, none⟩) l.length cap) l.length (cellsU l.reverse) ∧ w.grownBy w' (some g) := by
  have HO : Hid (w.ownsRow base 5 1 (.slice (some ⟨g, 0, none⟩) l.length cap) l.length (cellsU (revK l 0))) := by show World.ownsRow _ _ _ _ _ _ _; rw [revK_zero]; exact h
  clear h
  have mixed : Try.prog.follows .mixedOrders = true := by kernel_rfl
  go_enter Try.func92, Try.ntmps92
  go_wp2_with fail
  go_loopw [2, 3] (fun i j wr => ∃ k m : Nat, k + m + 1 = l.length ∧ i = .int .i64 (k : Int) ∧ j = .int .i64 (m : Int) ∧ Hid (k ≤ m + 1) ∧ Hid (wr.ownsRow base 5 1 (.slice (some ⟨g, 0, none⟩) l.length cap) l.length (cellsU (revK l k))) ∧ Hid (w.grownBy wr (some g))) (fun _ j _ => (RowKit.intOf j).toNat)
  case atStart => exact ⟨0, l.length - 1, by omega, rfl, by congr 1; omega, by show 0 ≤ _; omega, HO.out, gb_refl _ _⟩
  case round =>
    obtain ⟨k, m, hm, rfl, rfl, HKM, HR, HG⟩ := hrel
    by_cases hlt : k < m
    · have lk : k < l.length := by omega
      have lm : m < l.length := by omega
      have HX : Hid _ := rev_next lk lm hlt hm HR.out
      have c0 : wr.cell? ⟨g, k, none⟩ = some (.int .u8 ((l[k]'lk).toNat : Int)) := by
        have := HR.out
        rw [← revK_len l k] at this
        have := rowU_at this k (by rw [revK_len]; omega)
        rw [revK_at l k k (by omega) (by omega)] at this
        exact this
      have c1 : wr.cell? ⟨g, m, none⟩ = some (.int .u8 ((l[m]'lm).toNat : Int)) := by
        have := HR.out
        rw [← revK_len l k] at this
        have := rowU_at this m (by rw [revK_len]; omega)
        rw [revK_at l k m (by omega) (by omega)] at this
        exact this
      have ff : ∀ j, wr.frozen? ⟨g, j, none⟩ = false := own_frozen HR.out
      have gl : g < wr.heap.size := (HR.out.lt g rfl).2
      have nkm : k ≠ m := by omega
      have HM : Hid (k + m + 1 = l.length) := hm
      clear hm HKM
      go_wp2_with fail
      go_region_o
      all_goals
        go_wp2
        exact ⟨⟨k + 1, m - 1, by have := HM.out; omega, by go_num, by congr 1; omega, by show _ ≤ _; omega, World.ownsRow.drew HX.out, gb_below (gb_set (gb_set HG.out _) _) (Below.drew (Below.refl _ _))⟩, by simp [RowKit.intOf]; omega⟩
    · have HF : Hid (wr.ownsRow base 5 1 (.slice (some ⟨g, 0, none⟩) l.length cap) l.length (cellsU l.reverse)) := by
        have := HR.out
        rw [revK_end l k (by have := HKM.out; omega)] at this
        exact this
      clear HR
      go_wp2
      exact bodyPost_end (v := .tuple #[]) (by simp [results, Try.results92]) rfl ⟨rfl, HF.out, HG.out⟩
theorem sym_digit (b : UInt8) (h : symB b = true) (i : Nat) (hi : i = dig b - 1) (h2 : i < 34) : (⟨#[97, 98, 99, 100, 101, 102, 103, 104, 105, 106, 107, 108, 109, 110, 111, 112, 113, 114, 115, 116, 117, 118, 119, 120, 121, 122, 43, 45, 42, 47, 60, 61, 63, 33]⟩ : ByteArray)[i]'h2 = b := by
  have h3 := (dig_facts b h).2.2.2
  rw [← hi] at h3
  have e : symAll[i]'h2 = b := by
    rw [List.getElem?_eq_getElem h2] at h3
    exact Option.some.inj h3
  rw [← e]; rfl
set_option maxRecDepth 100000 in
set_option maxHeartbeats 1000000 in
theorem name_any (l : List UInt8) (w : World) (ha : l.all symB = true) (h1 : 1 ≤ l.length) (hl : l.length ≤ 12) :
    Calls Try.prog 78 #[.int .u64 (bitsL l : Int)] w fun e w' => e = .returned (.string ⟨l.toArray⟩) ∧ Below w.heap.size w w' := by
  have HA : Hid (l.all symB = true) := ha
  obtain ⟨V0, hV0⟩ : ∃ V, V = bitsL l := ⟨_, rfl⟩
  rw [← hV0]
  have HV0 : Hid (V0 = bitsL (l.take l.length)) := by show V0 = _; rw [List.take_length]; exact hV0
  obtain ⟨i0, hi, hz0, hz1, hz2⟩ := info_parts infoU
  clear ha hV0
  go_enter Try.func78, Try.ntmps78
  go_wp2_with fail
  go_loopw [0, 3] (fun b v wr => ∃ p V : Nat, p ≤ l.length ∧ b = .int .u64 (V : Int) ∧ Hid (V = bitsL (l.take p)) ∧ Hid (wr.ownsRow w.heap.size 5 1 v (l.length - p) (cellsU (l.drop p).reverse)) ∧ Hid (Below w.heap.size w wr)) (fun b _ _ => (RowKit.intOf b).toNat)
  case atStart => exact ⟨l.length, V0, Nat.le_refl _, rfl, HV0.out, ⟨by simp [cellsU], .inl ⟨rfl, by omega⟩⟩, Below.refl _ _⟩
  case round =>
    obtain ⟨p, V, hp, rfl, HV, HR, HB⟩ := hrel
    by_cases h0 : p = 0
    · subst h0
      have hV : V = 0 := by rw [HV.out]; rfl
      subst hV
      obtain ⟨a, c, rfl⟩ := own_form HR.out
      have HR2 : Hid (wr.ownsRow w.heap.size 5 1 (.slice a l.length c) l.length (cellsU l.reverse)) := HR.out
      obtain ⟨g, c', hv, _, _⟩ := HR2.out.form (by omega)
      obtain ⟨rfl, rfl⟩ : a = some ⟨g, 0, none⟩ ∧ c = c' := by simp at hv; exact hv
      have HC : Hid (Calls Try.prog 92 #[.slice (some ⟨g, 0, none⟩) l.length c] wr fun e w' => e = .returned (.tuple #[]) ∧ w'.ownsRow w.heap.size 5 1 (.slice (some ⟨g, 0, none⟩) l.length c) l.length (cellsU l) ∧ wr.grownBy w' (some g)) := by
        have := rev_any g c w.heap.size l.reverse wr (by simpa using h1) (by simpa using hl) (by rw [List.length_reverse]; exact HR2.out)
        rw [List.length_reverse, List.reverse_reverse] at this
        exact this
      clear HR HV hv
      go_wp2_with fail
      refine HC.out.mono ?_
      rintro e w2 ⟨rfl, ho2, hg2⟩
      have HO2 : Hid (w2.ownsRow w.heap.size 5 1 (.slice (some ⟨g, 0, none⟩) l.length c) l.length (cellsU l)) := ho2
      have HB2 : Hid (Below w.heap.size w w2) := Below.grown HB.out hg2 HB.out.size (fun j hj => by have := (HR2.out.lt g rfl).1; injection hj with e; omega)
      have hcv : (convert 22 9 (.slice (some ⟨g, 0, none⟩) l.length c)).run Try.prog w2 = .ok (.string ⟨l.toArray⟩) w2 := run_convert_bytes_back w2 _ _ _ ⟨g, 0, none⟩ c l Try.underlying22 Try.underlying5 Try.underlying9 (fun j hj => by
        have ha : ∀ j, (⟨g, 0, none⟩ : Addr).add j = ⟨g, j, none⟩ := fun j => by unfold Addr.add; split <;> simp_all
        rw [ha]; exact rowU_at HO2.out j hj)
      clear ho2 hg2
      go_wp2
      go_ret
      exact ⟨rfl, HB2.out⟩
    · obtain ⟨q, rfl⟩ : ∃ q, p = q + 1 := ⟨p - 1, by omega⟩
      have hq : q < l.length := by omega
      have hsb : symB (l[q]'hq) = true := by have := HA.out; rw [List.all_eq_true] at this; exact this _ (List.getElem_mem _)
      have et : l.take (q + 1) = l.take q ++ [l[q]'hq] := by rw [List.take_add_one, List.getElem?_eq_getElem hq]; rfl
      have hbp := bitsL_pos (l.take q) (l[q]'hq) hsb
      rw [← et, ← HV.out] at hbp
      obtain ⟨D, hD⟩ : ∃ D, D = dig (l[q]'hq) := ⟨_, rfl⟩
      obtain ⟨Z, hZ⟩ : ∃ Z, Z = bitsL (l.take q) := ⟨_, rfl⟩
      rw [← hD, ← hZ] at hbp
      have hVb : V ≤ 3379220508056640625 := by
        have h2 := bitsL_lt (l.take (q + 1)) (by have := HA.out; rw [List.all_eq_true] at this ⊢; intro x hx; exact this x (List.mem_of_mem_take hx))
        have h3 := pow35 (l.take (q + 1)).length (by rw [List.length_take]; omega)
        rw [HV.out]; omega
      have hd1 : 1 ≤ D ∧ D ≤ 34 := by rw [hD]; exact ⟨(dig_facts _ hsb).1, (dig_facts _ hsb).2.1⟩
      obtain ⟨hv0, hv1, hv2⟩ := hbp
      have hpos : (0 : Int) < (V : Int) := by omega
      have hrem : (V : Int).tmod 35 = (D : Int) := by rw [Int.tmod_eq_emod_of_nonneg (by omega)]; omega
      have hquo : (V : Int).tdiv 35 = (Z : Int) := by rw [Int.tdiv_eq_ediv_of_nonneg (by omega)]; omega
      obtain ⟨a, c, rfl⟩ := own_form HR.out
      obtain ⟨b, hb⟩ : ∃ b, b = l[q]'hq := ⟨_, rfl⟩
      have hdl : D - 1 < 34 := by omega
      have hx : (⟨#[97, 98, 99, 100, 101, 102, 103, 104, 105, 106, 107, 108, 109, 110, 111, 112, 113, 114, 115, 116, 117, 118, 119, 120, 121, 122, 43, 45, 42, 47, 60, 61, 63, 33]⟩ : ByteArray)[D - 1]'hdl = b := by rw [hb]; exact sym_digit _ hsb (D - 1) (by rw [hD]) hdl
      obtain ⟨n, hn⟩ : ∃ n, n = l.length - (q + 1) := ⟨_, rfl⟩
      have HN : Hid (n = l.length - (q + 1)) := hn
      have HR2 : Hid (wr.ownsRow w.heap.size 5 1 (.slice a n c) n (cellsU (l.drop (q + 1)).reverse)) := by rw [hn]; exact HR.out
      have HQ : Hid (cellsU (l.drop q).reverse = cellsU (l.drop (q + 1)).reverse ++ [.int .u8 (b.toNat : Int)]) := by
        show _ = _
        rw [List.drop_eq_getElem_cons hq, List.reverse_cons, cellsU_snoc, hb]
      have HZ : Hid (Z = bitsL (l.take q)) := hZ
      have hnl : n ≤ 12 := by omega
      have hvz : Z < V := by omega
      have hwz : IntKind.u64.wrap (Z : Int) = (Z : Int) := by simp [IntKind.wrap, IntKind.bits, IntKind.signed]; omega
      have zw := HB.out.size
      rw [← hn]
      clear hb hD hZ HR hn hv1 hv2 HV et hsb
      go_wp2_with (first | (at_builtin; refine wpList_append_lies _ rfl (.tmp 8) (.tmp 13) 22 rfl w.heap.size 5 i0 _ 1 1 Try.underlying22 hi hz0 hz1 hz2 rfl (by decide) _ n (cellsU (l.drop (q + 1)).reverse) rfl ?c0 ⟨_, 0, none⟩ 1 1 [.int .u8 (b.toNat : Int)] rfl rfl ?c1 ?c2 (by decide) ?c3 ?c4 ?c5 _ rfl ?_))
      case c0 => exact HR2.out.alloc _
      try (case c1 => exact World.news_of_block (cs := #[.int .u8 (b.toNat : Int)]) (t := 5) (fr := (0, 0)) (heap_new' _ _ _ (by simp)))
      case c2 => rfl
      case c3 => unfold maxLen; omega
      case c4 => omega
      case c5 => omega
      intro g' cap' w2 hown2 hgrow2 hat2 _
      have HB2 : Hid (Below w.heap.size w w2) := Below.grown (HB.out.alloc zw _) hgrow2 (by simp; omega) (fun j hj => (HR2.out.lt j hj).1)
      have HR3 : Hid (w2.ownsRow w.heap.size 5 1 (.slice (some ⟨g', 0, none⟩) (n + 1) cap') (l.length - q) (cellsU (l.drop q).reverse)) := by
        show World.ownsRow _ _ _ _ _ _ _
        rw [HQ.out]
        have e : l.length - q = n + 1 := by have := HN.out; omega
        rw [e]; exact hown2
      clear hown2 hgrow2 hat2 HR2 hx
      go_wp2
      exact ⟨⟨q, Z, by omega, by go_num, HZ.out, HR3.out, HB2.out⟩, by simp [RowKit.intOf]; omega⟩
end Go.Proofs.Ytgfienijabkpjaa
