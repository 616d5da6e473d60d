/-
  The model's draws of pairs, l5Right: a row of its own, the count goes on, and nothing that was there is turned but the count.
-/
import Derived.Test.YtbfhoennafopaaaDrawV
import Derived.Test.YtbfhoennafopaaaStPair
import Derived.Deep.AppendLies
namespace Go.Proofs.Ytbfhoennafopaaa
open Go.RowKit Go.Extern.Stop Go.Stop Go.Extern Num Go.Lib

theorem own_onlyP {w w' : World} {base b : Nat} {e : TypeId} {size n : Nat} {v : Value} {xs : List Value} (h : w.ownsRow base e size v n xs) (o : Only b w w') (hb : b < base) : w'.ownsRow base e size v n xs := by
  refine ⟨h.1, ?_⟩
  rcases h.2 with hn | ⟨g, cap, cur, rfl, hbg, hgg, rest⟩
  · exact .inl hn
  · refine .inr ⟨g, cap, cur, rfl, hbg, ?_, rest⟩
    rw [o.block g (Array.getElem?_eq_some_iff.1 hgg).1 (by omega)]; exact hgg
/-- Pairs whose names are short. -/
def ShortP (l : List Pai) : Prop := ∀ (k : Nat) (h : k < l.length), l[k].head.name.size ≤ 20 ∧ l[k].tail.name.size ≤ 20
theorem ShortP.next {l : List Pai} {p : Pai} (h : ShortP l) (h1 : p.head.name.size ≤ 20) (h2 : p.tail.name.size ≤ 20) : ShortP (l ++ [p]) := fun k hk => by
  by_cases e : k < l.length
  · rw [List.getElem_append_left e]; exact h k e
  · have : k = l.length := by simp at hk; omega
    subst this
    simp [h1, h2]
theorem pair_next {W w1 : World} {B b g' c' len cap : Nat} {ca : Option Addr} {cnt : Int} {v : Value} {l : List Pai} {p : Pai}
    (hown : W.ownsRow B 71 6 v l.length (cellsP l)) (hs : SrcAt W b ca len cap cnt) (hbB : b < B) (hC : ∀ cb co, ca = some ⟨cb, co, none⟩ → 0 < len → cb < B)
    (hown' : w1.ownsRow B 71 6 (.slice (some ⟨g', 0, none⟩) (l.length + 1) c') (l.length + 1) (cellsP l ++ [.int .i64 p.head.kind, .int .i64 p.head.num, .string p.head.name, .int .i64 p.tail.kind, .int .i64 p.tail.num, .string p.tail.name])) (hgrow : W.grownBy w1 v.ownBlock) :
    w1.ownsRow B 71 6 (.slice (some ⟨g', 0, none⟩) (l ++ [p]).length c') (l ++ [p]).length (cellsP (l ++ [p])) ∧ SrcAt w1 b ca len cap cnt ∧ Below b W w1 := by
  have hbl := hs.lt
  refine ⟨?_, ?_, below_of_grown hgrow (by omega) (fun r e => by have := (hown.lt r e).1; omega)⟩
  · rw [cellsP_append, List.length_append]
    exact hown'
  · cases hv : v.ownBlock with
    | none => exact hs.keep W.heap.size (fun i hi _ => hgrow.block i hi (by rw [hv]; simp)) (by omega) (fun cb co e hl => Nat.ne_of_lt (hs.code cb co e hl))
    | some g =>
      have hg := (hown.lt g hv).1
      exact hs.keep g (fun i hi hn => hgrow.block i hi (by rw [hv]; intro e; exact hn (Option.some.inj e))) (by omega) (fun cb co e hl => by have := hC cb co e hl; omega)
/-- What a draw of pairs comes to. -/
def PairsRes (w : World) (B b : Nat) (ca : Option Addr) (len cap : Nat) (k : Int) (n K : Nat) (e : Ending) (w' : World) : Prop :=
  ∃ (ao c : Nat) (l : List Pai) (k' : Int), e = .returned (.slice (some ⟨ao, 0, none⟩) l.length c) ∧ w'.ownsRow B 71 6 (.slice (some ⟨ao, 0, none⟩) l.length c) l.length (cellsP l) ∧ ShortP l ∧ l.length ≤ n ∧ k ≤ k' ∧ k' ≤ k + K ∧ SrcAt w' b ca len cap k' ∧ Below b w w'
set_option maxRecDepth 100000 in
set_option maxHeartbeats 2000000 in
theorem right_any (w : World) (B b : Nat) (ca : Option Addr) (len cap : Nat) (hbB : b < B) (hC : ∀ cb co, ca = some ⟨cb, co, none⟩ → 0 < len → cb < B) (hBw : B ≤ w.heap.size) (hmax : (len : Int) ≤ 9223372036854775807) (k : Int) (h : SrcAt w b ca len cap k) (k0 : 0 ≤ k) (k1 : k ≤ 999999990000) :
    Calls Try.prog 48 #[.pointer (some ⟨b, 0, none⟩)] w fun e w' => PairsRes w B b ca len cap k 10 200 e w' := by
  have HC : Hid (∀ cb co, ca = some ⟨cb, co, none⟩ → 0 < len → cb < B) := hC
  have HS : Hid (SrcAt w b ca len cap k) := h
  have hbw := h.lt
  clear h hC
  obtain ⟨i0, hi, hz0, hz1, hz2⟩ := info_parts infoP
  go_enter Try.func48, Try.ntmps48
  go_wp2_with fail
  refine (next_any _ b ca len cap k _ (HS.out.alloc _) hmax k0 (by omega)).mono ?_
  rintro e w1 ⟨r, q, rfl, r0, r1, hw1⟩
  rw [if_neg (by omega)] at r1
  have HS1 : Hid (SrcAt w1 b ca len cap (k + 1)) := by show SrcAt _ _ _ _ _ _; rw [hw1]; exact (HS.out.alloc _).next q
  have o1 : Only b w w1 := by rw [hw1]; exact ((Only.refl b w).alloc _).trans (only_next _ b k q)
  have HB1 : Hid (Below b w w1) := o1.below (Nat.le_refl _) (Nat.le_of_lt hbw)
  have HO1 : Hid (w1.ownsRow B 71 6 (.slice (some ⟨w.heap.size, 0, none⟩) 0 0) 0 (cellsP [])) := by
    show World.ownsRow _ _ _ _ _ _ _
    refine ⟨by simp [cellsP], .inr ⟨w.heap.size, 0, #[], rfl, hBw, ?_, Nat.le_refl _, by unfold maxLen; omega, by simp, by simp [cellsP]⟩⟩
    rw [hw1]
    exact (Below.heap_setCell _ ⟨b, 1, none⟩ _ w.heap.size (Nat.ne_of_gt hbw)).trans (heap_alloc_new _ _)
  have hz1' : B ≤ w1.heap.size := Nat.le_trans hBw o1.size
  obtain ⟨m, rfl⟩ : ∃ m : Nat, r = (m : Int) := ⟨r.toNat, by omega⟩
  clear hw1 o1
  go_wp2_with fail
  go_loopw [3, 4, 5] (fun v c _ wr => ∃ (ao ca' : Nat) (l : List Pai) (m' : Nat) (k' : Int), v = .slice (some ⟨ao, 0, none⟩) l.length ca' ∧ c = .int .i64 (m' : Int) ∧ l.length + m' ≤ 9 ∧ k + 1 ≤ k' ∧ k' ≤ k + 1 + 10 * (l.length : Int) ∧ B ≤ wr.heap.size ∧ Hid (wr.ownsRow B 71 6 (.slice (some ⟨ao, 0, none⟩) l.length ca') l.length (cellsP l)) ∧ Hid (ShortP l) ∧ Hid (SrcAt wr b ca len cap k') ∧ Hid (Below b w wr)) (fun _ c _ _ => (RowKit.intOf c).toNat)
  case atStart => exact ⟨_, _, [], m, k + 1, rfl, rfl, by simp; omega, by omega, by simp, hz1', HO1, (fun _ h => by cases h), HS1, HB1⟩
  case round =>
    obtain ⟨ao, ca', l, m', k', rfl, rfl, hlm, hk1, hk2, hBr, HO, HN, HS2, HB2⟩ := hrel
    by_cases hm : 0 < m'
    · have hm0 : (0 : Int) < (m' : Int) := by omega
      have hbr := HS2.out.lt
      go_wp2_with fail
      refine (drawV_any _ b ca len cap k' _ HS2.out hmax (by omega) (by omega)).mono ?_
      rintro e w2 ⟨t1, k2, rfl, hn1, k21, k22, h2, o2⟩
      have HS3 : Hid (SrcAt w2 b ca len cap k2) := h2
      have HO3 : Hid (w2.ownsRow B 71 6 (.slice (some ⟨ao, 0, none⟩) l.length ca') l.length (cellsP l)) := own_onlyP HO.out o2 hbB
      have HB3 : Hid (Below b w w2) := HB2.out.trans (o2.below (Nat.le_refl _) (Nat.le_of_lt hbr))
      have hz2' : B ≤ w2.heap.size := Nat.le_trans hBr o2.size
      have hbr2 := h2.lt
      clear h2 o2
      go_wp2_with fail
      refine (drawV_any _ b ca len cap k2 _ HS3.out hmax (by omega) (by omega)).mono ?_
      rintro e w3 ⟨t2, k3, rfl, hn2, k31, k32, h3, o3⟩
      have HS4 : Hid (SrcAt w3 b ca len cap k3) := h3
      have HO4 : Hid (w3.ownsRow B 71 6 (.slice (some ⟨ao, 0, none⟩) l.length ca') l.length (cellsP l)) := own_onlyP HO3.out o3 hbB
      have HB4 : Hid (Below b w w3) := HB3.out.trans (o3.below (Nat.le_refl _) (Nat.le_of_lt hbr2))
      have hz3' : B ≤ w3.heap.size := Nat.le_trans hz2' o3.size
      clear h3 o3
      go_wp2_with (at_builtin; refine wpList_append_lies _ rfl (.tmp 15) (.tmp 23) 24 rfl B 71 i0 _ 6 64 Try.underlying24 hi hz0 hz1 hz2 rfl (by decide) _ l.length (cellsP l) rfl (HO4.out.alloc _) ⟨_, 0, none⟩ 1 1 [.int .i64 t1.kind, .int .i64 t1.num, .string t1.name, .int .i64 t2.kind, .int .i64 t2.num, .string t2.name] rfl rfl ?c1 ?c2 (by decide) ?c3 ?c4 ?c5 _ rfl ?_)
      case c1 => exact World.news_of_block (cs := #[.int .i64 t1.kind, .int .i64 t1.num, .string t1.name, .int .i64 t2.kind, .int .i64 t2.num, .string t2.name]) (t := 71) (fr := (0, 0)) (heap_new' _ _ _ (by simp))
      case c2 => intro u hu; simp at hu; rcases hu with rfl | rfl | rfl | rfl | rfl | rfl <;> rfl
      case c3 => unfold maxLen; omega
      case c4 => omega
      case c5 => simp; omega
      intro g' cap' w4 hown4 hgrow4 _ _
      obtain ⟨R1, R2, R3⟩ := pair_next (p := ⟨t1, t2⟩) (HO4.out.alloc _) (HS4.out.alloc _) hbB HC.out hown4 hgrow4
      have HR1 : Hid (w4.ownsRow B 71 6 (.slice (some ⟨g', 0, none⟩) (l ++ [(⟨t1, t2⟩ : Pai)]).length cap') (l ++ [(⟨t1, t2⟩ : Pai)]).length (cellsP (l ++ [(⟨t1, t2⟩ : Pai)]))) := R1
      have HR2 : Hid (SrcAt w4 b ca len cap k3) := R2
      have HR3 : Hid (Below b w w4) := (HB4.out.alloc (Nat.le_of_lt HS4.out.lt) _).trans R3
      have hz4 : B ≤ w4.heap.size := by have := hgrow4.size; simp at this; omega
      have HSh : Hid (ShortP (l ++ [(⟨t1, t2⟩ : Pai)])) := HN.out.next hn1 hn2
      clear hown4 hgrow4 R1 R2 R3
      go_wp2
      exact ⟨⟨g', cap', l ++ [(⟨t1, t2⟩ : Pai)], m' - 1, k3, by simp, by go_num, by simp; omega, by omega, by simp; omega, hz4, HR1, HSh, HR2, HR3⟩, by simp [RowKit.intOf]; omega⟩
    · have hm0 : ¬ (0 : Int) < (m' : Int) := by omega
      go_wp2
      go_ret
      exact ⟨ao, ca', l, k', rfl, HO.out, HN.out, by omega, by omega, by omega, HS2.out, HB2.out⟩
end Go.Proofs.Ytbfhoennafopaaa
