/-
  Parts of the proof laid into one text, one behind the other; each says at its head what is proved in it.
-/
import Derived.Test.YtgfienijabkpjaaStGlobal
import Derived.Test.YtgfienijabkpjaaFiA
import Derived.Test.YtgfienijabkpjaaFldKit
import Derived.Test.YtgfienijabkpjaaFacts
import Derived.Test.YtgfienijabkpjaaFiD
import Derived.Test.YtgfienijabkpjaaMkGlobal
/-
  The model's l7New and l7Name: globals of the primitives, in a row of their own; a name. Nothing that was there is turned but the count.
-/
namespace Go.Proofs.Ytgfienijabkpjaa
open Go.RowKit Go.Extern.Stop Go.Stop Go.Extern Num Go.Lib

theorem namesG_any (w : World) : Calls Try.prog 93 #[] w fun e w' => e = .returned (.slice (some ⟨w.heap.size, 0, none⟩) 16 16) ∧ w' = w.alloc (.cells #[.string ⟨#[43]⟩, .string ⟨#[45]⟩, .string ⟨#[42]⟩, .string ⟨#[113, 117, 111]⟩, .string ⟨#[114, 101, 109]⟩, .string ⟨#[60]⟩, .string ⟨#[61]⟩, .string ⟨#[99, 111, 110, 115]⟩, .string ⟨#[99, 97, 114]⟩, .string ⟨#[99, 100, 114]⟩, .string ⟨#[110, 117, 108, 108, 63]⟩, .string ⟨#[112, 97, 105, 114, 63]⟩, .string ⟨#[101, 113, 63]⟩, .string ⟨#[110, 111, 116]⟩, .string ⟨#[108, 105, 115, 116]⟩, .string ⟨#[99, 97, 108, 108, 47, 99, 99]⟩] 9) := by
  go_enter Try.func93, Try.ntmps93
  go_wp2
  go_ret
  exact ⟨rfl, rfl⟩
theorem namesG_cell (w : World) (k : Nat) (hk : k < 16) : ∃ s : ByteArray, (w.alloc (.cells #[.string ⟨#[43]⟩, .string ⟨#[45]⟩, .string ⟨#[42]⟩, .string ⟨#[113, 117, 111]⟩, .string ⟨#[114, 101, 109]⟩, .string ⟨#[60]⟩, .string ⟨#[61]⟩, .string ⟨#[99, 111, 110, 115]⟩, .string ⟨#[99, 97, 114]⟩, .string ⟨#[99, 100, 114]⟩, .string ⟨#[110, 117, 108, 108, 63]⟩, .string ⟨#[112, 97, 105, 114, 63]⟩, .string ⟨#[101, 113, 63]⟩, .string ⟨#[110, 111, 116]⟩, .string ⟨#[108, 105, 115, 116]⟩, .string ⟨#[99, 97, 108, 108, 47, 99, 99]⟩] 9)).cell? ⟨w.heap.size, k, none⟩ = some (.string s) ∧ s.size ≤ 20 :=
  strs_at w [⟨#[43]⟩, ⟨#[45]⟩, ⟨#[42]⟩, ⟨#[113, 117, 111]⟩, ⟨#[114, 101, 109]⟩, ⟨#[60]⟩, ⟨#[61]⟩, ⟨#[99, 111, 110, 115]⟩, ⟨#[99, 97, 114]⟩, ⟨#[99, 100, 114]⟩, ⟨#[110, 117, 108, 108, 63]⟩, ⟨#[112, 97, 105, 114, 63]⟩, ⟨#[101, 113, 63]⟩, ⟨#[110, 111, 116]⟩, ⟨#[108, 105, 115, 116]⟩, ⟨#[99, 97, 108, 108, 47, 99, 99]⟩] 9 20 (by decide) k (by simpa using hk)
/-- Globals whose names are short. -/
def ShortG (l : List Glb) : Prop := ∀ (k : Nat) (h : k < l.length), l[k].name.size ≤ 20 ∧ l[k].value.name.size ≤ 20
theorem ShortG.mem {l : List Glb} : ShortG l ↔ ∀ t ∈ l, t.name.size ≤ 20 ∧ t.value.name.size ≤ 20 :=
  ⟨fun h t ht => by obtain ⟨j, hj, rfl⟩ := List.getElem_of_mem ht; exact h j hj, fun h k hk => h _ (List.getElem_mem hk)⟩
theorem ShortG.next {l : List Glb} {t : Glb} (h : ShortG l) (h1 : t.name.size ≤ 20) (h2 : t.value.name.size ≤ 20) : ShortG (l ++ [t]) :=
  ShortG.mem.2 (fun x hx => by
    rcases List.mem_append.1 hx with hx | hx
    · exact ShortG.mem.1 h x hx
    · obtain rfl := List.mem_singleton.1 hx
      exact ⟨h1, h2⟩)
set_option maxRecDepth 100000 in
set_option maxHeartbeats 4000000 in
theorem newG_any (p : Int) (w : World) :
    Calls Try.prog 82 #[.int .i64 p] w fun e w' => ∃ (ao cp : Nat) (l : List Glb), e = .returned (.slice (some ⟨ao, 0, none⟩) 16 cp) ∧ l.length = 16 ∧ w'.ownsRow w.heap.size 33 5 (.slice (some ⟨ao, 0, none⟩) 16 cp) 16 (cellsG l) ∧ ShortG l ∧ Below w.heap.size w w' := by
  obtain ⟨i0, hi, hz0, hz1, hz2⟩ := info_parts infoG
  go_enter Try.func82, Try.ntmps82
  go_wp2_with fail
  refine (namesG_any _).mono ?_
  rintro e w1 ⟨rfl, hw1⟩
  have HCE : Hid (∀ k, k < 16 → ∃ s : ByteArray, w1.cell? ⟨w.heap.size + 1, k, none⟩ = some (.string s) ∧ s.size ≤ 20) := fun k hk => by
    have h0 := namesG_cell (w.alloc (.cells #[] 33)) k hk
    rw [← hw1] at h0
    rwa [show (w.alloc (.cells #[] 33)).heap.size = w.heap.size + 1 by simp] at h0
  have HB1 : Hid (Below w.heap.size w w1) := by rw [hw1]; exact ((Below.refl _ _).alloc (Nat.le_refl _) _).alloc (by simp) _
  have HO1 : Hid (w1.ownsRow w.heap.size 33 5 (.slice (some ⟨w.heap.size, 0, none⟩) 0 0) 0 (cellsG [])) := by
    rw [hw1]
    refine World.ownsRow.alloc ?_ _
    exact ⟨by simp [cellsG], .inr ⟨w.heap.size, 0, _, rfl, Nat.le_refl _, heap_alloc_new w _, Nat.le_refl _, by unfold maxLen; omega, by simp, by simp [cellsG]⟩⟩
  have z1 : w.heap.size + 1 < w1.heap.size := by rw [hw1]; simp
  clear hw1
  go_wp2_with fail
  go_loopw [3, 5] (fun v i wr => ∃ (k ao cp : Nat) (l : List Glb), k ≤ 16 ∧ i = .int .i64 (k : Int) ∧ v = .slice (some ⟨ao, 0, none⟩) k cp ∧ l.length = k ∧ Hid (wr.ownsRow w.heap.size 33 5 (.slice (some ⟨ao, 0, none⟩) k cp) k (cellsG l)) ∧ Hid (ShortG l) ∧ Hid (∀ j, j < 16 → ∃ s : ByteArray, wr.cell? ⟨w.heap.size + 1, j, none⟩ = some (.string s) ∧ s.size ≤ 20) ∧ Hid (Below w.heap.size w wr ∧ ao ≠ w.heap.size + 1)) (fun _ i _ => 16 - (RowKit.intOf i).toNat)
  case atStart => exact ⟨0, w.heap.size, 0, [], Nat.zero_le _, rfl, rfl, rfl, HO1.out, (fun _ h => by cases h), HCE.out, HB1.out, by omega⟩
  case round =>
    clear HO1 HCE HB1
    obtain ⟨k, ao, cp, l, hk, rfl, rfl, hll, HO, HSh, HCE, HB⟩ := hrel
    have HLl : Hid (l.length = k) := hll
    clear hll
    by_cases hlt : k < 16
    · obtain ⟨s, c0, hs20⟩ := HCE.out k hlt
      have HN : Hid (cellsG (l ++ [⟨s, ⟨8, (k : Int), ⟨#[]⟩⟩, p⟩]) = cellsG l ++ [.string s, .int .i64 8, .int .i64 (k : Int), .string ⟨#[]⟩, .int .i64 p]) := by
        show _ = _
        rw [cellsG_append]; rfl
      have zw := HB.out.1.size
      have zc : w.heap.size + 1 < wr.heap.size := lt_of_cell c0
      go_wp2_with (at_builtin; refine wpList_append_lies _ rfl (.tmp 14) (.tmp 23) 24 rfl w.heap.size 33 i0 _ 5 56 Try.underlying24 hi hz0 hz1 hz2 rfl (by decide) _ k (cellsG l) rfl (HO.out.alloc _) ⟨_, 0, none⟩ 1 1 [.string s, .int .i64 8, .int .i64 (k : Int), .string ⟨#[]⟩, .int .i64 p] rfl rfl ?c1 ?c2 (by decide) ?c3 ?c4 ?c5 _ rfl ?_)
      case c1 => exact World.news_of_block (cs := #[.string s, .int .i64 8, .int .i64 (k : Int), .string ⟨#[]⟩, .int .i64 p]) (t := 33) (fr := (0, 0)) (heap_new' _ _ _ (by simp))
      case c2 => intro u hu; simp at hu; rcases hu with rfl | rfl | rfl | rfl | rfl <;> rfl
      case c3 => unfold maxLen; omega
      case c4 => omega
      case c5 => simp; omega
      intro g' cap' w4 hown4 hgrow4 hat4 hlt4
      have HO4 : Hid (w4.ownsRow w.heap.size 33 5 (.slice (some ⟨g', 0, none⟩) (k + 1) cap') (k + 1) (cellsG (l ++ [⟨s, ⟨8, (k : Int), ⟨#[]⟩⟩, p⟩]))) := by
        show World.ownsRow _ _ _ _ _ _ _
        rw [HN.out]; exact hown4
      have HB4 : Hid (Below w.heap.size w w4) := Below.grown (HB.out.1.alloc zw _) hgrow4 (by simp; omega) (fun j hj => (HO.out.lt j hj).1)
      have HC4 : Hid (∀ j, j < 16 → ∃ s : ByteArray, w4.cell? ⟨w.heap.size + 1, j, none⟩ = some (.string s) ∧ s.size ≤ 20) := fun j hj => by
        obtain ⟨s', h1, h2⟩ := HCE.out j hj
        exact ⟨s', hgrow4.cell (by rw [World.cell?_alloc_past _ _ _ zc]; exact h1) (by have := HB.out.2; simp [Value.ownBlock]; omega), h2⟩
      have HD4 : Hid (Below w.heap.size w w4 ∧ g' ≠ w.heap.size + 1) := ⟨HB4.out, fun e => by
        rcases hat4 with h | h
        · have := HB.out.2; simp [Value.ownBlock] at h; omega
        · omega⟩
      have HS4 : Hid (ShortG (l ++ [⟨s, ⟨8, (k : Int), ⟨#[]⟩⟩, p⟩])) := HSh.out.next hs20 (Nat.zero_le _)
      have HL4 : Hid ((l ++ [(⟨s, ⟨8, (k : Int), ⟨#[]⟩⟩, p⟩ : Glb)]).length = k + 1) := by show List.length _ = _; rw [List.length_append, HLl.out]; rfl
      clear hown4 hgrow4 hat4 HO HCE HB HB4 c0
      go_wp2
      exact ⟨⟨k + 1, g', cap', _, by omega, by go_num, rfl, HL4.out, HO4.out, HS4.out, HC4.out, HD4.out⟩, by simp [RowKit.intOf]; omega⟩
    · have hk16 : k = 16 := by omega
      subst hk16
      go_wp2
      go_ret
      exact ⟨ao, cp, l, rfl, HLl.out, HO.out, HSh.out, HB.out.1⟩
theorem ints_at (w : World) (L : List Int) (t : TypeId) (Pr : Int → Prop) (hB : ∀ x ∈ L, Pr x) (j : Nat) (hj : j < L.length) :
    ∃ s : Int, (w.alloc (.cells (L.map (Value.int .i64)).toArray t)).cell? ⟨w.heap.size, j, none⟩ = some (.int .i64 s) ∧ Pr s := by
  refine ⟨L[j], ?_, hB _ (List.getElem_mem hj)⟩
  rw [cell_of_row _ w.heap.size j _ t (0, 0) (heap_alloc_new w _)]
  simp [hj]
set_option maxRecDepth 100000 in
set_option maxHeartbeats 2000000 in
theorem l7Name_any (w : World) (b : Nat) (ca : Option Addr) (len cap : Nat) (k : Int) (h : SrcAt w b ca len cap k) (hmax : (len : Int) ≤ 9223372036854775807) (k0 : 0 ≤ k) (k1 : k ≤ 999999999000) :
    Calls Try.prog 36 #[.pointer (some ⟨b, 0, none⟩)] w fun e w' => StrRes w b ca len cap k 2 e w' := by
  have hlt := h.lt
  go_enter Try.func36, Try.ntmps36
  go_wp2_with fail
  refine (next_any _ b ca len cap k _ (h.alloc _) hmax k0 (by omega)).mono ?_
  rintro e w1 ⟨r, q, rfl, r0, r1, hw1⟩
  rw [if_neg (by omega)] at r1
  have HS1 : Hid (SrcAt w1 b ca len cap (k + 1)) := by show SrcAt _ _ _ _ _ _; rw [hw1]; exact (h.alloc _).next q
  have O1 : Hid (Only b w w1) := by show Only _ _ _; rw [hw1]; exact ((Only.refl b w).alloc _).trans (only_next _ b k q)
  have HC1 : Hid (∀ j, j < 7 → ∃ s : ByteArray, w1.cell? ⟨w.heap.size, j, none⟩ = some (.string s) ∧ s.size ≤ 20) := fun j hj => by
    obtain ⟨s, h1, h2⟩ := strs_at w [⟨#[103]⟩, ⟨#[104]⟩, ⟨#[99, 97, 114]⟩, ⟨#[43]⟩, ⟨#[113]⟩, ⟨#[65]⟩, ⟨#[]⟩] 9 20 (by decide) j (by simpa using hj)
    refine ⟨s, ?_, h2⟩
    rw [hw1]
    exact (World.cell?_of_block (Below.heap_setCell _ ⟨b, 1, none⟩ _ w.heap.size (Nat.ne_of_gt hlt))).trans h1
  have z1 : w.heap.size < w1.heap.size := by rw [hw1]; simp
  clear hw1 h
  go_wp2_with fail
  refine (pick_any _ b w1.heap.size 8 ca len cap (k + 1) (HS1.out.alloc _) hmax (by omega) (by omega) (by have := HS1.out.lt; omega) (by omega) (by omega) (fun v => 0 ≤ v ∧ v < 7) (fun j hj => ints_at w1 [0, 1, 2, 3, 0, 1, 4, r] 2 (fun v => 0 ≤ v ∧ v < 7) (by intro x hx; simp at hx; rcases hx with rfl | rfl | rfl | rfl | rfl | rfl | rfl | rfl <;> omega) j (by simpa using hj))).mono ?_
  rintro e w2 ⟨v, k2, rfl, hv, k21, k22, h2, o2⟩
  obtain ⟨v0, v1⟩ := hv
  obtain ⟨s, hs, hz⟩ := HC1.out v.toNat (by omega)
  have hc : w2.cell? ⟨w.heap.size, v.toNat, none⟩ = some (.string s) := by
    rw [o2.cell (by simp; omega) (by simp; omega), World.cell?_alloc_past _ _ _ z1]; exact hs
  have HS2 : Hid (SrcAt w2 b ca len cap k2) := h2
  have O2 : Hid (Only b w w2) := (O1.out.alloc _).trans o2
  clear h2 o2 hs HS1 HC1
  go_wp2
  go_ret
  exact ⟨s, k2, rfl, hz, by omega, by omega, HS2.out, O2.out⟩
end Go.Proofs.Ytgfienijabkpjaa
/-
  A region that draws its order, by facts, as in Facts; and what is counted: each operation may use up so much of a budget, whatever the order.
-/
namespace Go.Proofs.Ytgfienijabkpjaa
open Go

section
variable {P : Program} {ops : Array Oper} {Q : Exit → Act → World → Prop}

/-- What those that are listed use up. -/
def sumP (c : Nat → Nat) (L : Nat → Bool) : Nat → Nat
  | 0 => 0
  | k + 1 => sumP c L k + (if L k then c k else 0)
theorem sumP_same (c : Nat → Nat) (L L' : Nat → Bool) : ∀ k, (∀ j < k, L j = L' j) → sumP c L k = sumP c L' k
  | 0, _ => rfl
  | k + 1, h => by rw [sumP, sumP, sumP_same c L L' k (fun j hj => h j (by omega)), h k (by omega)]
theorem sumP_more (c : Nat → Nat) (L : Nat → Bool) (i : Nat) (hL : L i = false) : ∀ k, i < k → sumP c (moreF L i) k = sumP c L k + c i
  | 0, h => by omega
  | k + 1, h => by
    rw [sumP, sumP]
    by_cases hk : k = i
    · subst hk
      rw [sumP_same c (moreF L k) L k (fun j hj => by simp [moreF, Nat.ne_of_lt hj]), hL]
      simp [moreF]
    · have := sumP_more c L i hL k (by omega)
      simp only [moreF, hk, if_false] at this ⊢
      omega
theorem sumP_le (c : Nat → Nat) (L : Nat → Bool) : ∀ k, sumP c L k ≤ sumP c (fun _ => true) k
  | 0 => Nat.le_refl _
  | k + 1 => by rw [sumP, sumP]; have := sumP_le c L k; simp only [if_true]; split <;> omega
theorem sumP_none (c : Nat → Nat) : ∀ k, sumP c (fun _ => false) k = 0
  | 0 => rfl
  | k + 1 => by rw [sumP, sumP_none c k]; simp
/-- The law. -/
theorem any_factsP {z : Nat} (hok : FactsOk ops z) {a0 : Act} {c : Nat → Nat} {T : Nat} (hT : sumP c (fun _ => true) ops.size = T) {B : Nat → World → Prop} {G : World → World → Prop} {F : Nat → Value → World → Prop}
    (hF : ∀ i v w w', F i v w → G w w' → F i v w')
    (step : ∀ i o, ops[i]? = some o → i ≠ z → ∀ vs w p, p + c i ≤ T → B p w → (∀ j, depB ops i j = true → F j (vs j) w) → ∀ K : Act → World → Prop, (∀ v w', B (p + c i) w' → G w w' → F i v w' → K ((fillA a0 ops (depB ops i) vs ops.size).put o.dst v) w') → if Region.wanted o (yielded ops (fillA a0 ops (depB ops i) vs ops.size).tmps) = true then Oper.wp P o (fillA a0 ops (depB ops i) vs ops.size) w K NoQ else K ((fillA a0 ops (depB ops i) vs ops.size).put o.dst undef) w)
    (last : ∀ vs w p, p ≤ T → B p w → (∀ j, j < ops.size → j ≠ z → F j (vs j) w) → wpOp P ops Q z (fun b w' => Q .normal b w') (fillA a0 ops (fun j => j != z) vs ops.size) w) :
    ∀ (fuel : Nat) (listed : Array Bool) (vs : Nat → Value) (w : World), listed.size = ops.size → leftF (fun j => listed.getD j false) ops.size ≤ fuel → listed.getD z false = false → (∀ i j, listed.getD i false = true → depB ops i j = true → listed.getD j false = true) → B (sumP c (fun j => listed.getD j false) ops.size) w → (∀ j, j < ops.size → listed.getD j false = true → F j (vs j) w) → wpAny P .any ops Q fuel listed (fillA a0 ops (fun j => listed.getD j false) vs ops.size) w := by
  have leT : ∀ listed : Array Bool, sumP c (fun j => listed.getD j false) ops.size ≤ T := fun listed => by rw [← hT]; exact sumP_le c _ _
  have fin : ∀ (listed : Array Bool) (vs : Nat → Value) (w : World), listed.getD z false = false → B (sumP c (fun j => listed.getD j false) ops.size) w → (∀ j, j < ops.size → listed.getD j false = true → F j (vs j) w) → (∀ j, j < ops.size → j ≠ z → listed.getD j false = true) → wpOp P ops Q z (fun b w' => Q .normal b w') (fillA a0 ops (fun j => listed.getD j false) vs ops.size) w := fun listed vs w hz hb hf hall => by
    rw [fillA_ext a0 ops (fun j => listed.getD j false) (fun j => j != z) vs vs ops.size (fun j hj => ⟨by
      by_cases e : j = z
      · subst e; simp only [hz]; simp
      · simp [hall j hj e, e], fun _ => rfl⟩)]
    exact last vs w _ (leT listed) hb (fun j hj e => hf j hj (hall j hj e))
  have endz : ∀ (listed : Array Bool) (vs : Nat → Value) (w : World), listed.size = ops.size → listed.getD z false = false → B (sumP c (fun j => listed.getD j false) ops.size) w → (∀ j, j < ops.size → listed.getD j false = true → F j (vs j) w) → Region.ready .any ops listed = [] → Q .normal (fillA a0 ops (fun j => listed.getD j false) vs ops.size) w := fun listed vs w hs hz hb hf hr => by
    have hall := allF_listed hok hs hr
    have hzn : ¬ z < ops.size := fun h => by rw [hall z h] at hz; cases hz
    have := fin listed vs w hz hb hf (fun j hj _ => hall j hj)
    unfold wpOp at this
    rw [Array.getElem?_eq_none (Nat.le_of_not_lt hzn)] at this
    exact this
  intro fuel
  induction fuel with
  | zero =>
    intro listed vs w hs hl hz hdc hb hf
    have hall := leftF_zero _ _ (Nat.le_zero.1 hl)
    have hr : Region.ready .any ops listed = [] := List.eq_nil_iff_forall_not_mem.2 (fun j hj => by
      have h := (memF_ready hs).1 hj
      have := hall j h.1
      simp only [h.2.1] at this
      cases this)
    exact ⟨hr, endz listed vs w hs hz hb hf hr⟩
  | succ fuel ih =>
    intro listed vs w hs hl hz hdc hb hf
    refine ⟨endz listed vs w hs hz hb hf, fun i hi => ?_⟩
    obtain ⟨hin, hiu, hid⟩ := (memF_ready hs).1 hi
    obtain ⟨o, ho⟩ : ∃ o, ops[i]? = some o := ⟨_, Array.getElem?_eq_getElem hin⟩
    have hdo : dstAt ops i = o.dst := by unfold dstAt; rw [ho]; rfl
    by_cases hiz : i = z
    · subst hiz
      have hall : ∀ d j, ops.size - j ≤ d → j < ops.size → j ≠ i → listed.getD j false = true := by
        intro d
        induction d with
        | zero => intro j h1 h2; omega
        | succ d ihd =>
          intro j h1 h2 h3
          obtain ⟨k, hk, hd⟩ := hok.sink hin j h2 h3
          by_cases hki : k = i
          · subst hki; exact hid j hd
          · have := hok.dep k j hd
            exact hdc k j (ihd k (by omega) hk hki) hd
      refine wpOp_mono (fun a' w' h => ?_) (fin listed vs w hz hb hf (fun j hj e => hall _ j (Nat.le_refl _) hj e))
      have hr : Region.ready .any ops (listed.setIfInBounds i true) = [] := List.eq_nil_iff_forall_not_mem.2 (fun j hj => by
        have hj' := (memF_ready (by simp [hs])).1 hj
        have := hj'.2.1
        rw [getDF_more (by omega)] at this
        simp only [moreF] at this
        by_cases e : j = i
        · simp [e] at this
        · rw [if_neg e, hall _ j (Nat.le_refl _) hj'.1 e] at this; cases this)
      cases fuel with
      | zero => exact ⟨hr, h⟩
      | succ f => exact ⟨fun _ => h, fun j hj => by rw [hr] at hj; cases hj⟩
    · have e2 : (moreF (fun j => listed.getD j false) i) = fun j => (listed.setIfInBounds i true).getD j false := funext fun j => (getDF_more (by omega) j).symm
      have e3 : sumP c (fun j => (listed.setIfInBounds i true).getD j false) ops.size = sumP c (fun j => listed.getD j false) ops.size + c i := by rw [← e2]; exact sumP_more c _ i hiu ops.size hin
      refine op_fill hok ho (G := fun v w' => B (sumP c (fun j => listed.getD j false) ops.size + c i) w' ∧ G w w' ∧ F i v w') hiu hid (fun K' hK => step i o ho hiz vs w _ (by rw [← e3]; exact leT _) hb (fun j hj => hf j (by have := hok.dep i j hj; omega) (hid j hj)) K' (fun v w' b g f => hK v w' ⟨b, g, f⟩)) (fun v w' ⟨bb, g, f⟩ => ?_)
      have e1 := fillA_put a0 ops (fun j => listed.getD j false) vs i v hiu (fun j hj d hd => hok.dst i d hd j hj) ops.size hin
      rw [hdo] at e1
      rw [e1, e2]
      refine ih _ _ _ (by simp [hs]) ?_ ?_ ?_ (by rw [e3]; exact bb) ?_
      · have := leftF_more (fun j => listed.getD j false) i hiu ops.size hin
        rw [e2] at this
        omega
      · rw [getDF_more (by omega)]; simp only [moreF]; rw [if_neg (Ne.symm hiz)]; exact hz
      · intro x y hx hy
        rw [getDF_more (by omega)] at hx ⊢
        simp only [moreF] at hx ⊢
        by_cases ex : x = i
        · subst ex
          split
          · rfl
          · exact hid y hy
        · rw [if_neg ex] at hx
          split
          · rfl
          · exact hdc x y hx hy
      · intro j hj hjl
        rw [getDF_more (by omega)] at hjl
        simp only [moreF] at hjl
        simp only [updF]
        by_cases ej : j = i
        · subst ej; simp only [if_true]; exact f
        · rw [if_neg ej] at hjl
          rw [if_neg ej]
          exact hF j (vs j) w w' (hf j hj hjl) g
/-- One step of the law, for number i. -/
def StepP (P : Program) (ops : Array Oper) (a0 : Act) (c : Nat → Nat) (T : Nat) (B : Nat → World → Prop) (G : World → World → Prop) (F : Nat → Value → World → Prop) (i : Nat) : Prop :=
  ∀ o, ops[i]? = some o → ∀ vs w p, p + c i ≤ T → B p w → (∀ j, depB ops i j = true → F j (vs j) w) → ∀ K : Act → World → Prop, (∀ v w', B (p + c i) w' → G w w' → F i v w' → K ((fillA a0 ops (depB ops i) vs ops.size).put o.dst v) w') → if Region.wanted o (yielded ops (fillA a0 ops (depB ops i) vs ops.size).tmps) = true then Oper.wp P o (fillA a0 ops (depB ops i) vs ops.size) w K NoQ else K ((fillA a0 ops (depB ops i) vs ops.size).put o.dst undef) w
theorem StepP.of {a0 : Act} {c : Nat → Nat} {T : Nat} {B : Nat → World → Prop} {G : World → World → Prop} {F : Nat → Value → World → Prop} {i : Nat} {o : Oper} (ho : ops[i]? = some o) (js : List (Nat × Option Tmp)) (hjs : pickF ops (depB ops i) ops.size = js) (n : Nat) (hn : c i = n)
    (h : ∀ vs w p, p + n ≤ T → B p w → FactsOf F vs w js → ∀ K : Act → World → Prop, Shut (∀ v w', B (p + n) w' → G w w' → F i v w' → K ((putsA a0 vs js).put o.dst v) w') → if Region.wanted o (yielded ops (putsA a0 vs js).tmps) = true then Oper.wp P o (putsA a0 vs js) w K NoQ else K ((putsA a0 vs js).put o.dst undef) w) : StepP P ops a0 c T B G F i := by
  intro o' ho' vs w p hp hB hf K hK
  rw [ho] at ho'
  obtain rfl := Option.some.inj ho'
  subst hn
  rw [fillA_puts, hjs] at hK ⊢
  exact h vs w p hp hB (factsOf_all js (fun j hj => hf j.1 (by rw [← hjs] at hj; exact (mem_pick _ j hj).2))) K hK
/-- The law as it is used. -/
theorem wp_region_factsP {id : Nat} {a0 : Act} {w0 : World} (hm : P.follows .mixedOrders = true) (z : Nat) (c : Nat → Nat) (T : Nat) (B : Nat → World → Prop) (G : World → World → Prop) (F : Nat → Value → World → Prop) (hok : factsOk ops z = true) (hT : sumP c (fun _ => true) ops.size = T) (is : List Nat) (his : (List.range ops.size).filter (fun i => i != z) = is) (hB0 : B 0 w0.drew)
    (hF : ∀ i v w w', F i v w → G w w' → F i v w') (hS : AllF (StepP P ops a0 c T B G F) is)
    (oz : Oper) (hoz : ops[z]? = some oz) (js : List (Nat × Option Tmp)) (hjs : pickF ops (fun j => j != z) ops.size = js)
    (last : ∀ vs w p, p ≤ T → B p w → FactsOf F vs w js → ∀ K : Act → World → Prop, Shut (∀ a w', Q .normal a w' → K a w') → if Region.wanted oz (yielded ops (putsA a0 vs js).tmps) = true then Oper.wp P oz (putsA a0 vs js) w K Q else K ((putsA a0 vs js).put oz.dst undef) w) : (Code.region id ops true).wp P Q a0 w0 := by
  refine wp_region_any hm ?_
  have h0 : ∀ j, (Array.replicate ops.size false).getD j false = false := fun j => by
    simp only [Array.getD_eq_getD_getElem?, Array.getElem?_replicate]
    split <;> rfl
  have hL : (fun j => (Array.replicate ops.size false).getD j false) = fun _ => false := funext h0
  have := any_factsP (FactsOk.of hok) (P := P) (Q := Q) (a0 := a0) hT hF
    (fun i o ho hz vs w p hp hb hf K hK => by
      have hi : i ∈ is := by
        rw [← his, List.mem_filter, List.mem_range]
        refine ⟨?_, by simp [hz]⟩
        rcases Nat.lt_or_ge i ops.size with g | g
        · exact g
        · rw [Array.getElem?_eq_none g] at ho; cases ho
      exact allF_mem hS i hi o ho vs w p hp hb hf K hK)
    (fun vs w p hp hb hf => by
      rw [fillA_puts, hjs]
      exact wpOp_step hoz (fun K hK => last vs w p hp hb (factsOf_all js (fun j hj => by rw [← hjs] at hj; have := mem_pick _ j hj; exact hf j.1 this.1 (by simpa using this.2))) K hK))
    ops.size (Array.replicate ops.size false) (fun _ => undef) w0.drew (by simp) (leftF_le _ _) (h0 z) (fun i j h => by rw [h0 i] at h; cases h) (by rw [hL, sumP_none]; exact hB0) (fun j _ h => by rw [h0 j] at h; cases h)
  rw [hL, fillA_none] at this
  exact this
end
end Go.Proofs.Ytgfienijabkpjaa
/-
  The model's l7Right: globals that were defined one behind the other, in a row of their own; nothing that was there is turned but the count.
-/
namespace Go.Proofs.Ytgfienijabkpjaa
open Go.RowKit Go.Extern.Stop Go.Stop Go.Extern Num Go.Lib

theorem own_onlyG {w w' : World} {base b : Nat} {e : TypeId} {size n : Nat} {v : Value} {xs : List Value} (h : w.ownsRow base e size v n xs) (o : Only b w w') (hb : b < base) : w'.ownsRow base e size v n xs := by
  refine ⟨h.1, ?_⟩
  rcases h.2 with hn | ⟨g, cap, cur, rfl, hbg, hgg, rest⟩
  · exact .inl hn
  · refine .inr ⟨g, cap, cur, rfl, hbg, ?_, rest⟩
    rw [o.block g (Array.getElem?_eq_some_iff.1 hgg).1 (by omega)]; exact hgg
theorem only_below {b : Nat} {w w' : World} (h : Below w.heap.size w w') : Only b w w' := ⟨h.os, h.tape, h.output, h.size, fun i hi _ => h.block i hi⟩
theorem own_caps {w : World} {base g c : Nat} {l : List Glb} (h : World.ownsRow w base 33 5 (.slice (some ⟨g, 0, none⟩) l.length c) l.length (cellsG l)) : l.length ≤ c ∧ c ≤ 9223372036854775807 := by
  rcases h.2 with ⟨e, _⟩ | ⟨g', cap, cur, e, _, _, h1, h2, _⟩
  · cases e
  · injection e with _ _ e2
    subst e2
    exact ⟨h1, by unfold maxLen at h2; exact h2⟩
theorem ableG_short {l : List Glb} (h : ShortG l) : ableG l := fun k hk => by have := h k hk; unfold Glb.able; omega
theorem outDG_short (l : List Glb) (s : ByteArray) (v : Vlu) (hl : ShortG l) (hs : s.size ≤ 20) (hv : v.name.size ≤ 20) : ShortG (outDG l s v) := by
  refine ShortG.mem.2 (fun t ht => ?_)
  have hl' := ShortG.mem.1 hl
  unfold outDG at ht
  by_cases h0 : askG l s = 0
  · rw [if_neg (by simp [h0])] at ht
    by_cases h1 : vfault v = 0
    · rw [if_neg (by simp [h1])] at ht
      cases hat : atG l s with
      | none =>
        rw [putL_none hat] at ht
        by_cases h6 : 60 ≤ l.length
        · rw [if_pos h6] at ht; cases ht
        · rw [if_neg h6] at ht
          rcases List.mem_append.1 ht with h | h
          · exact hl' t h
          · obtain rfl := List.mem_singleton.1 h
            exact ⟨hs, hv⟩
      | some k =>
        obtain ⟨hk, hn, _⟩ := atG_some hat
        rw [putL_some hat hk] at ht
        by_cases h9 : 99999 ≤ (l[k]'hk).ver
        · rw [if_pos h9] at ht; cases ht
        · rw [if_neg h9] at ht
          rcases List.mem_append.1 ht with h | h
          · rcases List.mem_append.1 h with h | h
            · exact hl' t (List.mem_of_mem_take h)
            · obtain rfl := List.mem_singleton.1 h
              exact ⟨(hl k hk).1, hv⟩
          · exact hl' t (List.mem_of_mem_drop h)
    · rw [if_pos h1] at ht; cases ht
  · rw [if_pos h0] at ht; cases ht
theorem outDG_some (l : List Glb) (s : ByteArray) (v : Vlu) (h : codeDG l s v = 0) : 1 ≤ (outDG l s v).length := by
  unfold codeDG at h
  unfold outDG
  by_cases h0 : askG l s = 0
  · rw [if_neg (by simp [h0])] at h ⊢
    by_cases h1 : vfault v = 0
    · rw [if_neg (by simp [h1])] at h ⊢
      cases hat : atG l s with
      | none =>
        rw [putC_none hat] at h
        rw [putL_none hat]
        by_cases h6 : 60 ≤ l.length
        · rw [if_pos h6] at h; simp at h
        · rw [if_neg h6]; simp
      | some k =>
        obtain ⟨hk, hn, _⟩ := atG_some hat
        rw [putC_some hat hk] at h
        rw [putL_some hat hk]
        by_cases h9 : 99999 ≤ (l[k]'hk).ver
        · rw [if_pos h9] at h; simp at h
        · rw [if_neg h9, put_len l k hk]; omega
    · rw [if_pos h1] at h; exact absurd h h1
  · rw [if_pos h0] at h; exact absurd h h0
/-- Globals that were drawn. -/
def GlobsRes (w : World) (B b : Nat) (ca : Option Addr) (len cap : Nat) (k : Int) (n K : Nat) (e : Ending) (w' : World) : Prop :=
  ∃ (ao c : Nat) (l : List Glb) (k' : Int), e = .returned (.slice (some ⟨ao, 0, none⟩) l.length c) ∧ World.ownsRow w' B 33 5 (.slice (some ⟨ao, 0, none⟩) l.length c) l.length (cellsG l) ∧ ShortG l ∧ 1 ≤ l.length ∧ l.length ≤ n ∧ k ≤ k' ∧ k' ≤ k + K ∧ SrcAt w' b ca len cap k' ∧ Below b w w'
/-- What is there in the region of one definition. -/
def DgB (wr : World) (b : Nat) (ca : Option Addr) (len cap : Nat) (k : Int) (p : Nat) (u : World) : Prop := ∃ k2 : Int, SrcAt u b ca len cap k2 ∧ k ≤ k2 ∧ k2 ≤ k + (p : Int) ∧ Only b wr u
theorem DgB.below {wr u v : World} {b len cap p : Nat} {ca : Option Addr} {k : Int} (h : DgB wr b ca len cap k p u) (hb : Below u.heap.size u v) : DgB wr b ca len cap k (p + 0) v := by
  obtain ⟨k2, h1, h2, h3, h4⟩ := h
  exact ⟨k2, h1.below hb, h2, by omega, h4.trans (only_below hb)⟩
set_option maxRecDepth 100000 in
set_option maxHeartbeats 4000000 in
theorem l7Right_any (w : World) (B b : Nat) (ca : Option Addr) (len cap : Nat) (hbB : b < B) (hBw : B ≤ w.heap.size) (hmax : (len : Int) ≤ 9223372036854775807) (k : Int) (h : SrcAt w b ca len cap k) (k0 : 0 ≤ k) (k1 : k ≤ 999999990000) :
    Calls Try.prog 62 #[.pointer (some ⟨b, 0, none⟩)] w fun e w' => GlobsRes w B b ca len cap k 60 100 e w' := by
  have hbw := h.lt
  go_enter Try.func62, Try.ntmps62
  go_wp2_with fail
  refine (newG_any 1 w).mono ?_
  rintro e w1 ⟨ao1, c1, l1, rfl, hl1, ho1, hs1, hb1⟩
  rw [← hl1] at ho1
  have HO1 : Hid (World.ownsRow w1 B 33 5 (.slice (some ⟨ao1, 0, none⟩) l1.length c1) l1.length (cellsG l1)) := own_base ho1 hBw
  have HSh1 : Hid (ShortG l1) := hs1
  have HL1 : Hid (l1.length = 16) := hl1
  have HS1 : Hid (SrcAt w1 b ca len cap k) := h.below hb1
  have HB1 : Hid (Below b w w1) := hb1.mono (Nat.le_of_lt hbw)
  have hz1' : B ≤ w1.heap.size := Nat.le_trans hBw hb1.size
  clear ho1 hs1 hb1 h hl1
  go_wp2_with fail
  refine (next_any _ b ca len cap k _ HS1.out hmax k0 (by omega)).mono ?_
  rintro e w2 ⟨r, q, rfl, r0, r1, hw2⟩
  rw [if_neg (by omega)] at r1
  have o2 : Only b w1 w2 := by rw [hw2]; exact only_next _ b k q
  have HS2 : Hid (SrcAt w2 b ca len cap (k + 1)) := by show SrcAt _ _ _ _ _ _; rw [hw2]; exact HS1.out.next q
  have HO2 : Hid (World.ownsRow w2 B 33 5 (.slice (some ⟨ao1, 0, none⟩) l1.length c1) l1.length (cellsG l1)) := own_onlyG HO1.out o2 hbB
  have HB2 : Hid (Below b w w2) := HB1.out.trans (o2.below (Nat.le_refl _) (Nat.le_of_lt HS1.out.lt))
  have hz2' : B ≤ w2.heap.size := Nat.le_trans hz1' o2.size
  obtain ⟨m, rfl⟩ : ∃ m : Nat, r = (m : Int) := ⟨r.toNat, by omega⟩
  clear hw2 o2 HS1 HO1 HB1
  go_wp2_with fail
  go_loopw [3, 4, 5] (fun v c _ wr => ∃ (ao ca' : Nat) (l : List Glb) (m' : Nat) (k' : Int), v = .slice (some ⟨ao, 0, none⟩) l.length ca' ∧ c = .int .i64 (m' : Int) ∧ m' ≤ 5 ∧ Hid (1 ≤ l.length ∧ l.length ≤ 60) ∧ k + 1 ≤ k' ∧ k' ≤ k + 1 + 10 * (5 - (m' : Int)) ∧ B ≤ wr.heap.size ∧ Hid (World.ownsRow wr B 33 5 (.slice (some ⟨ao, 0, none⟩) l.length ca') l.length (cellsG l)) ∧ Hid (ShortG l) ∧ Hid (SrcAt wr b ca len cap k') ∧ Hid (Below b w wr)) (fun _ c _ _ => (RowKit.intOf c).toNat)
  case atStart => exact ⟨ao1, c1, l1, m, k + 1, by have := HL1.out; rw [this], rfl, by omega, ⟨by rw [HL1.out]; omega, by rw [HL1.out]; omega⟩, by omega, by omega, hz2', HO2.out, HSh1.out, HS2.out, HB2.out⟩
  case round =>
    obtain ⟨ao, ca', l, m', k', rfl, rfl, hm5, HLN, hk1, hk2, hBr, HO, HSh, HS, HB⟩ := hrel
    by_cases hm : 0 < m'
    · have hm0 : (0 : Int) < (m' : Int) := by omega
      have hbr := HS.out.lt
      clear HL1 HSh1 HS2 HO2 HB2
      go_wp2_with fail
      refine wp_region_factsP (by kernel_rfl) 10 (fun i => if i = 3 then 1 else if i = 7 then 5 else 0) 6 (fun p u => DgB wr b ca len cap k' p u) (fun u v => Only b u v) (fun i a u => match i with | 0 => (fun a u => a = .slice (some ⟨ao, 0, none⟩) l.length ca') a u | 1 => (fun a u => ∃ g, a = .slice (some ⟨g, 0, none⟩) 4 4 ∧ wr.heap.size ≤ g ∧ g < u.heap.size ∧ ∀ j, j < 4 → ∃ s : ByteArray, u.cell? ⟨g, j, none⟩ = some (.string s) ∧ s.size ≤ 20) a u | 2 => (fun a u => a = Value.pointer (some ⟨b, 0, none⟩)) a u | 3 => (fun a u => ∃ r : Int, a = .int .i64 r ∧ 0 ≤ r ∧ r < 4) a u | 4 => (fun a u => ∃ (g j : Nat) (s : ByteArray), a = .pointer (some ⟨g, j, none⟩) ∧ g ≠ b ∧ g < u.heap.size ∧ u.cell? ⟨g, j, none⟩ = some (.string s) ∧ s.size ≤ 20) a u | 5 => (fun a u => ∃ s : ByteArray, a = .string s ∧ s.size ≤ 20) a u | 6 => (fun a u => a = Value.pointer (some ⟨b, 0, none⟩)) a u | 7 => (fun a u => ∃ t : Vlu, a = t.val ∧ t.name.size ≤ 20) a u | 8 => (fun a u => ∃ (aq : Option Addr) (cq : Nat) (cc : Int) (M : List Glb), a = .agg #[.int .i64 cc, .slice aq M.length cq] ∧ World.ownsRow u B 33 5 (.slice aq M.length cq) M.length (cellsG M) ∧ ShortG M ∧ M.length ≤ 60 ∧ (cc = 0 → 1 ≤ M.length)) a u | 9 => (fun a u => ∃ x, a = .pointer (some ⟨x, 0, none⟩) ∧ GrZ wr.heap.size x u ∧ x ≠ b) a u | _ => True) (by kernel_rfl) (by kernel_rfl) [0, 1, 2, 3, 4, 5, 6, 7, 8, 9] (by kernel_rfl) ?b0 ?fk ⟨?s0, ?s1, ?s2, ?s3, ?s4, ?s5, ?s6, ?s7, ?s8, ?s9, trivial⟩ _ rfl [(0, some 13), (1, some 14), (2, some 15), (3, some 16), (4, some 17), (5, some 18), (6, some 19), (7, some 20), (8, some 21), (9, some 5)] (by kernel_rfl) ?last
      case b0 => exact ⟨k', HS.out.below (Below.drew (Below.refl _ _)), by omega, by omega, (Only.refl _ _).drewN 1⟩
      case fk => intro i a u u' h hb; match i, h with | 0, h => exact (h) | 1, h => exact (let ⟨g, e, h1, h2, h3⟩ := h; ⟨g, e, h1, Nat.lt_of_lt_of_le h2 hb.size, fun j hj => let ⟨s, a1, a2⟩ := h3 j hj; ⟨s, (hb.cell (p := ⟨g, j, none⟩) h2 (show g ≠ b by omega)).trans a1, a2⟩⟩) | 2, h => exact (h) | 3, h => exact (h) | 4, h => exact (let ⟨g, j, s, e, h0, h1, h2, h3⟩ := h; ⟨g, j, s, e, h0, Nat.lt_of_lt_of_le h1 hb.size, (hb.cell (p := ⟨g, j, none⟩) h1 h0).trans h2, h3⟩) | 5, h => exact (h) | 6, h => exact (h) | 7, h => exact (h) | 8, h => exact (let ⟨aq, cq, cc, M, e, o, h2⟩ := h; ⟨aq, cq, cc, M, e, own_onlyG o hb hbB, h2⟩) | 9, h => exact (let ⟨x, e, hz, hx⟩ := h; ⟨x, e, ⟨hz.1, (hb.block x (lt_blk hz.2) hx).trans hz.2⟩, hx⟩) | _ + 10, _ => exact trivial
      case s0 =>
        refine StepP.of rfl [] (by kernel_rfl) 0 (by rfl) ?_
        intro vs u p hp hB hf K hK
        clear hf
        simp only [putsA, List.foldl_nil, Act.put, List.setIfInBounds_toArray] at hK ⊢
        rw [if_pos (by rfl)]
        go_simp
        exact hK.out _ _ (hB.below (Below.refl _ _)) (Only.refl _ _) rfl
      case s1 =>
        refine StepP.of rfl [] (by kernel_rfl) 0 (by rfl) ?_
        intro vs u p hp hB hf K hK
        clear hf
        simp only [putsA, List.foldl_nil, Act.put, List.setIfInBounds_toArray] at hK ⊢
        rw [if_pos (by rfl)]
        go_simp
        obtain ⟨kq, hq1, hq2, hq3, hq4⟩ := hB
        exact hK.out _ _ ⟨kq, hq1.alloc _, hq2, by omega, hq4.alloc _⟩ ((Only.refl _ _).alloc _) ⟨_, rfl, hq4.size, by simp, fun j hj => strs_at u [⟨#[103]⟩, ⟨#[104]⟩, ⟨#[99, 97, 114]⟩, ⟨#[43]⟩] 9 20 (by decide) j (by simpa using hj)⟩
      case s2 =>
        refine StepP.of rfl [] (by kernel_rfl) 0 (by rfl) ?_
        intro vs u p hp hB hf K hK
        clear hf
        simp only [putsA, List.foldl_nil, Act.put, List.setIfInBounds_toArray] at hK ⊢
        rw [if_pos (by rfl)]
        go_simp
        exact hK.out _ _ (hB.below (Below.refl _ _)) (Only.refl _ _) rfl
      case s3 =>
        refine StepP.of rfl [(2, some 15)] (by kernel_rfl) 1 (by rfl) ?_
        intro vs u p hp hB hf K hK
        have f2 : (fun a u => a = Value.pointer (some ⟨b, 0, none⟩)) (vs 2) u := hf.1
        clear hf
        simp only [putsA, List.foldl_cons, List.foldl_nil, Act.put, List.setIfInBounds_toArray, List.set_cons_zero, List.set_cons_succ] at hK ⊢
        generalize vs 2 = v2 at f2 hK ⊢
        rw [if_pos (by rfl)]
        subst f2
        obtain ⟨kq, hq1, hq2, hq3, hq4⟩ := hB
        go_simp
        refine (next_any _ b ca len cap kq _ hq1 hmax (by omega) (by omega)).mono ?_
        rintro e w5 ⟨r5, q5, rfl, r50, r51, rfl⟩
        rw [if_neg (by omega)] at r51
        exact hK.out _ _ ⟨kq + 1, hq1.next q5, by omega, by omega, hq4.trans (only_next _ b kq q5)⟩ (only_next _ b kq q5) ⟨r5, rfl, r50, by omega⟩
      case s4 =>
        refine StepP.of rfl [(1, some 14), (3, some 16)] (by kernel_rfl) 0 (by rfl) ?_
        intro vs u p hp hB hf K hK
        have f1 : (fun a u => ∃ g, a = .slice (some ⟨g, 0, none⟩) 4 4 ∧ wr.heap.size ≤ g ∧ g < u.heap.size ∧ ∀ j, j < 4 → ∃ s : ByteArray, u.cell? ⟨g, j, none⟩ = some (.string s) ∧ s.size ≤ 20) (vs 1) u := hf.1
        have f3 : (fun a u => ∃ r : Int, a = .int .i64 r ∧ 0 ≤ r ∧ r < 4) (vs 3) u := hf.2.1
        clear hf
        simp only [putsA, List.foldl_cons, List.foldl_nil, Act.put, List.setIfInBounds_toArray, List.set_cons_zero, List.set_cons_succ] at hK ⊢
        generalize vs 1 = v1 at f1 hK ⊢
        generalize vs 3 = v3 at f3 hK ⊢
        rw [if_pos (by rfl)]
        obtain ⟨g, rfl, hg1, hg2, hg3⟩ := f1
        obtain ⟨r5, rfl, r50, r51⟩ := f3
        obtain ⟨j5, rfl⟩ : ∃ j : Nat, r5 = (j : Int) := ⟨r5.toNat, by omega⟩
        obtain ⟨s5, hs5, hz5⟩ := hg3 j5 (by omega)
        go_simp
        exact hK.out _ _ (hB.below (Below.refl _ _)) (Only.refl _ _) ⟨g, j5, s5, by simp, by omega, hg2, hs5, hz5⟩
      case s5 =>
        refine StepP.of rfl [(4, some 17)] (by kernel_rfl) 0 (by rfl) ?_
        intro vs u p hp hB hf K hK
        have f4 : (fun a u => ∃ (g j : Nat) (s : ByteArray), a = .pointer (some ⟨g, j, none⟩) ∧ g ≠ b ∧ g < u.heap.size ∧ u.cell? ⟨g, j, none⟩ = some (.string s) ∧ s.size ≤ 20) (vs 4) u := hf.1
        clear hf
        simp only [putsA, List.foldl_cons, List.foldl_nil, Act.put, List.setIfInBounds_toArray, List.set_cons_zero, List.set_cons_succ] at hK ⊢
        generalize vs 4 = v4 at f4 hK ⊢
        rw [if_pos (by rfl)]
        obtain ⟨g, j, s5, rfl, _, _, hs5, hz5⟩ := f4
        go_simp
        exact hK.out _ _ (hB.below (Below.refl _ _)) (Only.refl _ _) ⟨s5, rfl, hz5⟩
      case s6 =>
        refine StepP.of rfl [] (by kernel_rfl) 0 (by rfl) ?_
        intro vs u p hp hB hf K hK
        clear hf
        simp only [putsA, List.foldl_nil, Act.put, List.setIfInBounds_toArray] at hK ⊢
        rw [if_pos (by rfl)]
        go_simp
        exact hK.out _ _ (hB.below (Below.refl _ _)) (Only.refl _ _) rfl
      case s7 =>
        refine StepP.of rfl [(3, some 16), (6, some 19)] (by kernel_rfl) 5 (by rfl) ?_
        intro vs u p hp hB hf K hK
        have f3 : (fun a u => ∃ r : Int, a = .int .i64 r ∧ 0 ≤ r ∧ r < 4) (vs 3) u := hf.1
        have f6 : (fun a u => a = Value.pointer (some ⟨b, 0, none⟩)) (vs 6) u := hf.2.1
        clear hf
        simp only [putsA, List.foldl_cons, List.foldl_nil, Act.put, List.setIfInBounds_toArray, List.set_cons_zero, List.set_cons_succ] at hK ⊢
        generalize vs 3 = v3 at f3 hK ⊢
        generalize vs 6 = v6 at f6 hK ⊢
        rw [if_pos (by rfl)]
        subst f6
        clear f3
        obtain ⟨kq, hq1, hq2, hq3, hq4⟩ := hB
        go_simp
        refine (drawV_any _ b ca len cap kq _ hq1 hmax (by omega) (by omega)).mono ?_
        rintro e w5 ⟨t5, k5, rfl, hn5, k51, k52, h5, o5⟩
        exact hK.out _ _ ⟨k5, h5, by omega, by omega, hq4.trans o5⟩ o5 ⟨t5, rfl, hn5⟩
      case s8 =>
        refine StepP.of rfl [(0, some 13), (5, some 18), (7, some 20)] (by kernel_rfl) 0 (by rfl) ?_
        intro vs u p hp hB hf K hK
        have f0 : (fun a u => a = .slice (some ⟨ao, 0, none⟩) l.length ca') (vs 0) u := hf.1
        have f5 : (fun a u => ∃ s : ByteArray, a = .string s ∧ s.size ≤ 20) (vs 5) u := hf.2.1
        have f7 : (fun a u => ∃ t : Vlu, a = t.val ∧ t.name.size ≤ 20) (vs 7) u := hf.2.2.1
        clear hf
        simp only [putsA, List.foldl_cons, List.foldl_nil, Act.put, List.setIfInBounds_toArray, List.set_cons_zero, List.set_cons_succ] at hK ⊢
        generalize vs 0 = v0 at f0 hK ⊢
        generalize vs 5 = v5 at f5 hK ⊢
        generalize vs 7 = v7 at f7 hK ⊢
        rw [if_pos (by rfl)]
        subst f0
        obtain ⟨s5, rfl, hz5⟩ := f5
        obtain ⟨t5, rfl, hn5⟩ := f7
        have hown := own_onlyG HO.out (let ⟨_, _, _, _, h⟩ := hB; h) hbB
        have hBu : B ≤ u.heap.size := Nat.le_trans hBr (let ⟨_, _, _, _, h⟩ := hB; h.size)
        go_simp
        refine (specDG_any ca' B ao l s5 t5 u (by have := HLN.out.2; omega) (own_caps HO.out).1 (own_caps HO.out).2 hown (ableG_short HSh.out) (by omega) (by omega)).mono ?_
        rintro e w5 ⟨aq, cq, rfl, o5, b5⟩
        exact hK.out _ _ (hB.below b5) (only_below b5) ⟨aq, cq, _, _, rfl, own_base o5 hBu, outDG_short l s5 t5 HSh.out hz5 hn5, outDG_len l s5 t5, outDG_some l s5 t5⟩
      case s9 =>
        refine StepP.of rfl [] (by kernel_rfl) 0 (by rfl) ?_
        intro vs u p hp hB hf K hK
        clear hf
        simp only [putsA, List.foldl_nil, Act.put, List.setIfInBounds_toArray] at hK ⊢
        rw [if_pos (by rfl)]
        go_simp
        have hzu : wr.heap.size ≤ u.heap.size := (let ⟨_, _, _, _, h⟩ := hB; h.size)
        exact hK.out _ _ (hB.below ((Below.refl _ _).alloc (Nat.le_refl _) _)) ((Only.refl _ _).alloc _) ⟨_, rfl, ⟨hzu, heap_alloc_new _ _⟩, by omega⟩
      case last =>
        intro vs u p hp hB hf K hK
        have f0 : (fun a u => a = .slice (some ⟨ao, 0, none⟩) l.length ca') (vs 0) u := hf.1
        have f1 : (fun a u => ∃ g, a = .slice (some ⟨g, 0, none⟩) 4 4 ∧ wr.heap.size ≤ g ∧ g < u.heap.size ∧ ∀ j, j < 4 → ∃ s : ByteArray, u.cell? ⟨g, j, none⟩ = some (.string s) ∧ s.size ≤ 20) (vs 1) u := hf.2.1
        have f2 : (fun a u => a = Value.pointer (some ⟨b, 0, none⟩)) (vs 2) u := hf.2.2.1
        have f3 : (fun a u => ∃ r : Int, a = .int .i64 r ∧ 0 ≤ r ∧ r < 4) (vs 3) u := hf.2.2.2.1
        have f4 : (fun a u => ∃ (g j : Nat) (s : ByteArray), a = .pointer (some ⟨g, j, none⟩) ∧ g ≠ b ∧ g < u.heap.size ∧ u.cell? ⟨g, j, none⟩ = some (.string s) ∧ s.size ≤ 20) (vs 4) u := hf.2.2.2.2.1
        have f5 : (fun a u => ∃ s : ByteArray, a = .string s ∧ s.size ≤ 20) (vs 5) u := hf.2.2.2.2.2.1
        have f6 : (fun a u => a = Value.pointer (some ⟨b, 0, none⟩)) (vs 6) u := hf.2.2.2.2.2.2.1
        have f7 : (fun a u => ∃ t : Vlu, a = t.val ∧ t.name.size ≤ 20) (vs 7) u := hf.2.2.2.2.2.2.2.1
        have f8 : (fun a u => ∃ (aq : Option Addr) (cq : Nat) (cc : Int) (M : List Glb), a = .agg #[.int .i64 cc, .slice aq M.length cq] ∧ World.ownsRow u B 33 5 (.slice aq M.length cq) M.length (cellsG M) ∧ ShortG M ∧ M.length ≤ 60 ∧ (cc = 0 → 1 ≤ M.length)) (vs 8) u := hf.2.2.2.2.2.2.2.2.1
        have f9 : (fun a u => ∃ x, a = .pointer (some ⟨x, 0, none⟩) ∧ GrZ wr.heap.size x u ∧ x ≠ b) (vs 9) u := hf.2.2.2.2.2.2.2.2.2.1
        clear hf
        simp only [putsA, List.foldl_cons, List.foldl_nil, Act.put, List.setIfInBounds_toArray, List.set_cons_zero, List.set_cons_succ]
        generalize vs 0 = v0 at f0 ⊢
        generalize vs 1 = v1 at f1 ⊢
        generalize vs 2 = v2 at f2 ⊢
        generalize vs 3 = v3 at f3 ⊢
        generalize vs 4 = v4 at f4 ⊢
        generalize vs 5 = v5 at f5 ⊢
        generalize vs 6 = v6 at f6 ⊢
        generalize vs 7 = v7 at f7 ⊢
        generalize vs 8 = v8 at f8 ⊢
        generalize vs 9 = v9 at f9 ⊢
        rw [if_pos (by rfl)]
        obtain ⟨aq, cq, cc, M, rfl, o6, hSM, hM60, hM1⟩ := f8
        obtain ⟨x, rfl, hx, hxb⟩ := f9
        clear f0 f1 f2 f3 f4 f5 f6 f7
        obtain ⟨z0, z1, zf⟩ := hx.cells
        go_simp
        refine hK.out _ _ ?_
        clear hK z0 z1 zf
        have hp := hx.put (c := cc) (s := .slice aq M.length cq)
        generalize (u.setCell ⟨x, 0, none⟩ (.int .i64 cc)).setCell ⟨x, 1, none⟩ (.slice aq M.length cq) = u1 at hp ⊢
        obtain ⟨hbx, hgr⟩ := hp
        obtain ⟨k2, hs2, hk21, hk22, ho2⟩ := hB
        have hcode := HS.out.code
        have HSu : Hid (SrcAt u1 b ca len cap k2) := hs2.keep x (fun i hi hix => hgr.block i hi (by simpa using hix)) (Ne.symm hxb) (fun cb co e1 e2 => by have := hcode cb co e1 e2; have := hx.1; omega)
        have HOu : Hid (World.ownsRow u1 B 33 5 (.slice (some ⟨ao, 0, none⟩) l.length ca') l.length (cellsG l)) := own_apart (own_onlyG HO.out ho2 hbB) hgr (fun g hg e => by have h1 := (HO.out.lt g hg).2; have h2 := Option.some.inj e; have := hx.1; omega)
        have HOM : Hid (World.ownsRow u1 B 33 5 (.slice aq M.length cq) M.length (cellsG M)) := own_apart o6 hgr (fun g hg e => (own_neG o6 hx.2 (by decide) g hg) (Option.some.inj e).symm)
        have HBu : Hid (Below b w u1) := (HB.out.trans (ho2.below (Nat.le_refl _) (Nat.le_of_lt hbr))).trans (below_of_grown hgr (by have := ho2.size; omega) (fun i hi => by have := Option.some.inj hi; have := hx.1; omega))
        have hBu : B ≤ u1.heap.size := Nat.le_trans hBr (Nat.le_trans ho2.size hgr.size)
        have x0 := hbx.c0
        have x1 := hbx.c1
        have HSM : Hid (ShortG M) := hSM
        clear hbx hgr o6 hx hs2 ho2 hSM
        by_cases h0 : cc = 0
        · subst h0
          have hM1' := hM1 rfl
          have HMN : Hid (1 ≤ M.length ∧ M.length ≤ 60) := ⟨hM1', hM60⟩
          obtain ⟨gq, cqq, hv, _, _⟩ := HOM.out.form (by omega)
          obtain ⟨rfl, rfl⟩ : aq = some ⟨gq, 0, none⟩ ∧ cq = cqq := by simp at hv; exact hv
          clear hM1 hM1' hM60 hv
          go_wp2
          exact ⟨⟨gq, cq, M, m' - 1, k2, rfl, by go_num, by omega, HMN.out, by omega, by omega, hBu, HOM.out, HSM.out, HSu.out, HBu.out⟩, by simp [RowKit.intOf]; omega⟩
        · have h0' : (cc == 0) = false := by simpa using h0
          clear h0 hM1
          go_wp2
          exact ⟨⟨ao, ca', l, m' - 1, k2, rfl, by go_num, by omega, HLN.out, by omega, by omega, hBu, HOu.out, HSh.out, HSu.out, HBu.out⟩, by simp [RowKit.intOf]; omega⟩
    · have hm0 : ¬ (0 : Int) < (m' : Int) := by omega
      go_wp2
      go_ret
      exact ⟨ao, ca', l, k', rfl, HO.out, HSh.out, HLN.out.1, HLN.out.2, by omega, by omega, HS.out, HB.out⟩
end Go.Proofs.Ytgfienijabkpjaa
/-
  The model's l7Bent and DrawDefineGlobal: globals in a row of their own, a name, a value; nothing that was there is turned but the count.
-/
namespace Go.Proofs.Ytgfienijabkpjaa
open Go.RowKit Go.Extern.Stop Go.Stop Go.Extern Num Go.Lib

theorem cells_cons (t : Glb) (R : List Glb) : cellsG (t :: R) = [.string t.name, .int .i64 t.value.kind, .int .i64 t.value.num, .string t.value.name, .int .i64 t.ver] ++ cellsG R := rfl
theorem madeG61 (w : World) : (w.alloc (.cells (madeCells #[.string ⟨#[]⟩, .int .i64 0, .int .i64 0, .string ⟨#[]⟩, .int .i64 0] (61 * 5)) 33)).ownsRow w.heap.size 33 5 (.slice (some ⟨w.heap.size, 0, none⟩) 61 61) 61 (cellsG (List.replicate 61 gZ)) := by
  refine ⟨by rw [cellsG_length, List.length_replicate], .inr ⟨w.heap.size, 61, _, rfl, Nat.le_refl _, heap_alloc_new w _, Nat.le_refl _, by unfold maxLen; omega, by simp [madeCells], ?_⟩⟩
  rw [List.take_of_length_le (by simp [madeCells])]
  kernel_rfl
theorem makeG61 (w : World) : (Instr.makeSlice 24 (.int .i64 61) (.int .i64 61)).run Try.prog w = .ok (.slice (some ⟨w.heap.size, 0, none⟩) 61 61) (w.alloc (.cells (madeCells #[.string ⟨#[]⟩, .int .i64 0, .int .i64 0, .string ⟨#[]⟩, .int .i64 0] (61 * 5)) 33)) := by
  obtain ⟨i0, hi, hz0, hz1, hz2⟩ := info_parts infoG
  have := run_make (P := Try.prog) w 24 33 i0 _ Try.underlying24 hi hz0 .i64 .i64 61 61 (by omega) (by omega) (by rw [hz2]; omega) (by omega)
  rw [this, hz1]
  simp [Value.cells]
set_option maxRecDepth 100000 in
set_option maxHeartbeats 4000000 in
theorem l7Bent_any (w : World) (B b : Nat) (ca : Option Addr) (len cap : Nat) (hbB : b < B) (hC : ∀ cb co, ca = some ⟨cb, co, none⟩ → 0 < len → cb < B) (hBw : B ≤ w.heap.size) (hmax : (len : Int) ≤ 9223372036854775807) (k : Int) (h : SrcAt w b ca len cap k) (k0 : 0 ≤ k) (k1 : k ≤ 999999980000) :
    Calls Try.prog 35 #[.pointer (some ⟨b, 0, none⟩)] w fun e w' => GlobsRes w B b ca len cap k 61 150 e w' := by
  have HC : Hid (∀ cb co, ca = some ⟨cb, co, none⟩ → 0 < len → cb < B) := hC
  have hmk := makeG61
  have hbw := h.lt
  go_enter Try.func35, Try.ntmps35
  go_wp2_with fail
  refine (l7Right_any _ B b ca len cap hbB hBw hmax k h k0 (by omega)).mono ?_
  rintro e w1 ⟨ao, c, l, k1', rfl, ho, hn, hl1, hl2, k11, k12, hs, hb⟩
  obtain ⟨n, hnl⟩ : ∃ n, n = l.length := ⟨_, rfl⟩
  rw [← hnl] at ho hl1 hl2 ⊢
  obtain ⟨t, R, rfl⟩ : ∃ t R, l = t :: R := by
    cases l with
    | nil => simp at hnl; omega
    | cons t R => exact ⟨t, R, rfl⟩
  have HNL : Hid (n = R.length + 1) := by show n = _; rw [hnl]; rfl
  have HO : Hid (World.ownsRow w1 B 33 5 (.slice (some ⟨ao, 0, none⟩) n c) n (cellsG (t :: R))) := ho
  have HN : Hid (ShortG (t :: R)) := hn
  have HS : Hid (SrcAt w1 b ca len cap k1') := hs
  have HB : Hid (Below b w w1) := hb
  have hz1' : B ≤ w1.heap.size := Nat.le_trans hBw hb.size
  have hao : B ≤ ao := (ho.lt ao rfl).1
  have hl0 : (0 : Int) < (n : Int) := by omega
  clear ho hn hs hb h hC hnl
  go_wp2_with fail
  refine (next_any _ b ca len cap k1' _ HS.out hmax (by omega) (by omega)).mono ?_
  rintro e w2 ⟨r, q, rfl, r0, r1, hw2⟩
  rw [if_neg (by omega)] at r1
  have o2 : Only b w1 w2 := by rw [hw2]; exact only_next w1 b k1' q
  have HS2 : Hid (SrcAt w2 b ca len cap (k1' + 1)) := by show SrcAt _ _ _ _ _ _; rw [hw2]; exact HS.out.next q
  have HO2 : Hid (World.ownsRow w2 B 33 5 (.slice (some ⟨ao, 0, none⟩) n c) n (cellsG (t :: R))) := own_onlyG HO.out o2 hbB
  have HB2 : Hid (Below b w w2) := HB.out.trans (o2.below (Nat.le_refl _) (Nat.le_of_lt HS.out.lt))
  have hz2' : B ≤ w2.heap.size := Nat.le_trans hz1' o2.size
  have HF : Hid (∀ (u : World) (t' : Glb) (k9 : Int), World.ownsRow u B 33 5 (.slice (some ⟨ao, 0, none⟩) n c) n (cellsG (t' :: R)) → t'.name.size ≤ 20 → t'.value.name.size ≤ 20 → k ≤ k9 → k9 ≤ k + 150 → SrcAt u b ca len cap k9 → Below b w u → GlobsRes w B b ca len cap k 61 150 (.returned (.slice (some ⟨ao, 0, none⟩) n c)) u) := fun u t' k9 h1 h2 h3 h4 h5 h6 h7 => by
    have e : n = (t' :: R).length := HNL.out
    have h8 : ShortG (t' :: R) := ShortG.mem.2 (fun x hx => by
      rcases List.mem_cons.1 hx with rfl | hx
      · exact ⟨h2, h3⟩
      · exact ShortG.mem.1 HN.out x (List.mem_cons_of_mem _ hx))
    rw [e] at h1 ⊢
    exact ⟨ao, c, t' :: R, k9, rfl, h1, h8, by simp, by rw [← e]; omega, h4, h5, h6, h7⟩
  have ht20 := HN.out 0 (by simp)
  have ht1 : t.name.size ≤ 20 := ht20.1
  have ht2 : t.value.name.size ≤ 20 := ht20.2
  have hCao : ∀ cb co, ca = some ⟨cb, co, none⟩ → 0 < len → cb ≠ ao := fun cb co e1 e2 => by have := HC.out cb co e1 e2; omega
  have HCao : Hid (∀ cb co, ca = some ⟨cb, co, none⟩ → 0 < len → cb ≠ ao) := hCao
  have hbao : b ≠ ao := by omega
  clear hw2 o2 ht20 hCao
  by_cases c0 : r = 0
  · subst c0
    go_wp2_with fail
    refine (pick_any _ b w2.heap.size 3 ca len cap (k1' + 1) (HS2.out.alloc _) hmax (by omega) (by omega) (by have := HS2.out.lt; omega) (by omega) (by omega) AnyI (cells3 w2 0 99999 100000 2)).mono ?_
    rintro e w3 ⟨v, k3, rfl, _, k31, k32, h3, o3⟩
    have HS3 : Hid (SrcAt w3 b ca len cap k3) := h3
    have HO3 : Hid (World.ownsRow w3 B 33 5 (.slice (some ⟨ao, 0, none⟩) n c) n (cellsG (t :: R))) := own_onlyG (HO2.out.alloc _) o3 hbB
    have HB3 : Hid (Below b w w3) := (HB2.out.alloc (by have := HS2.out.lt; omega) _).trans (o3.below (Nat.le_refl _) (by have := HS2.out.lt; simp; omega))
    obtain ⟨x4, e4⟩ := own_cell HO3.out 4 (by rw [cellsG_length]; simp; omega)
    have ff : ∀ j, w3.frozen? ⟨ao, j, none⟩ = false := own_frozen HO3.out
    clear h3 o3
    go_wp2
    go_ret
    exact HF.out _ ⟨t.name, t.value, v⟩ k3 (own_put HO3.out 4 (.int .i64 v)) ht1 ht2 (by omega) (by omega) (HS3.out.put ao 4 _ hbao HCao.out) (HB3.out.setCell (by simp; omega) _)
  have d0 : (r == 0) = false := by simpa using c0
  by_cases c1 : r = 1
  · subst c1
    go_wp2_with fail
    refine (next_any _ b ca len cap (k1' + 1) _ (HS2.out.alloc _) hmax (by omega) (by omega)).mono ?_
    rintro e w3 ⟨r3, q3, rfl, r30, r31, hw3⟩
    rw [if_neg (by omega)] at r31
    obtain ⟨s, hs, hz⟩ : ∃ s : ByteArray, (w2.alloc (.cells #[.string ⟨#[]⟩, .string ⟨#[99, 97, 114]⟩, .string ⟨#[65]⟩] 9)).cell? ⟨w2.heap.size, r3.toNat, none⟩ = some (.string s) ∧ s.size ≤ 20 :=
      strs_at w2 [⟨#[]⟩, ⟨#[99, 97, 114]⟩, ⟨#[65]⟩] 9 20 (by decide) r3.toNat (by simp; omega)
    have o3 : Only b (w2.alloc (.cells #[.string ⟨#[]⟩, .string ⟨#[99, 97, 114]⟩, .string ⟨#[65]⟩] 9)) w3 := by rw [hw3]; exact only_next _ b _ q3
    have HS3 : Hid (SrcAt w3 b ca len cap (k1' + 1 + 1)) := by show SrcAt _ _ _ _ _ _; rw [hw3]; exact (HS2.out.alloc _).next q3
    have HO3 : Hid (World.ownsRow w3 B 33 5 (.slice (some ⟨ao, 0, none⟩) n c) n (cellsG (t :: R))) := own_onlyG (HO2.out.alloc _) o3 hbB
    have HB3 : Hid (Below b w w3) := (HB2.out.alloc (by have := HS2.out.lt; omega) _).trans (o3.below (Nat.le_refl _) (by have := HS2.out.lt; simp; omega))
    have hc : w3.cell? ⟨w2.heap.size, r3.toNat, none⟩ = some (.string s) := by rw [o3.cell (by simp) (by have := HS2.out.lt; simp; omega)]; exact hs
    obtain ⟨x0, e0⟩ := own_cell HO3.out 0 (by rw [cellsG_length]; simp)
    have ff : ∀ j, w3.frozen? ⟨ao, j, none⟩ = false := own_frozen HO3.out
    have r32 : r3 < 3 := by omega
    clear hw3 hs r31 o3
    go_wp2
    go_ret
    exact HF.out _ ⟨s, t.value, t.ver⟩ (k1' + 1 + 1) (own_put HO3.out 0 (.string s)) hz ht2 (by omega) (by omega) (HS3.out.put ao 0 _ hbao HCao.out) (HB3.out.setCell (by simp; omega) _)
  have d1 : (r == 1) = false := by simpa using c1
  by_cases c2 : r = 2
  · subst c2
    go_wp2_with fail
    refine (bentV_any _ b ca len cap (k1' + 1) _ HS2.out hmax (by omega) (by omega)).mono ?_
    rintro e w3 ⟨v, k3, rfl, hn1, k31, k32, h3, o3⟩
    have HS3 : Hid (SrcAt w3 b ca len cap k3) := h3
    have HO3 : Hid (World.ownsRow w3 B 33 5 (.slice (some ⟨ao, 0, none⟩) n c) n (cellsG (t :: R))) := own_onlyG HO2.out o3 hbB
    have HB3 : Hid (Below b w w3) := HB2.out.trans (o3.below (Nat.le_refl _) (Nat.le_of_lt HS2.out.lt))
    obtain ⟨x1, e1⟩ := own_cell HO3.out 1 (by rw [cellsG_length]; simp; omega)
    obtain ⟨x2, e2⟩ := own_cell HO3.out 2 (by rw [cellsG_length]; simp; omega)
    obtain ⟨x3, e3⟩ := own_cell HO3.out 3 (by rw [cellsG_length]; simp; omega)
    have ff : ∀ j, w3.frozen? ⟨ao, j, none⟩ = false := own_frozen HO3.out
    clear h3 o3
    go_wp2
    go_ret
    exact HF.out _ ⟨t.name, v, t.ver⟩ k3 (own_put (own_put (own_put HO3.out 1 (.int .i64 v.kind)) 2 (.int .i64 v.num)) 3 (.string v.name)) ht1 hn1 (by omega) (by omega) (((HS3.out.put ao 1 _ hbao HCao.out).put ao 2 _ hbao HCao.out).put ao 3 _ hbao HCao.out) (((HB3.out.setCell (by simp; omega) _).setCell (by simp; omega) _).setCell (by simp; omega) _)
  have d2 : (r == 2) = false := by simpa using c2
  by_cases c3 : r = 3
  · subst c3
    go_wp2
    go_ret
    refine ⟨w2.heap.size, 61, List.replicate 61 gZ, k1' + 1, by simp, ?_, fun j hj => by rw [List.getElem_replicate]; exact ⟨Nat.zero_le _, Nat.zero_le _⟩, by simp, by simp, by omega, by omega, HS2.out.alloc _, HB2.out.alloc (Nat.le_of_lt HS2.out.lt) _⟩
    rw [List.length_replicate]
    exact own_base (madeG61 w2) hz2'
  have d3 : (r == 3) = false := by simpa using c3
  go_wp2
  go_ret
  exact HF.out _ t (k1' + 1) HO2.out ht1 ht2 (by omega) (by omega) HS2.out HB2.out
/-- The box of the answer's value, as it was laid. -/
structure Z3 (w u : World) : Prop where
  a0 : u.cell? ⟨w.heap.size, 0, none⟩ = some (.int .i64 0)
  a1 : u.cell? ⟨w.heap.size, 1, none⟩ = some (.int .i64 0)
  a2 : u.cell? ⟨w.heap.size, 2, none⟩ = some (.string ⟨#[]⟩)
  fa : ∀ o, u.frozen? ⟨w.heap.size, o, none⟩ = false
theorem Z3.low {w u v : World} (h : Z3 w u) (hb : Below (w.heap.size + 1) u v) : Z3 w v := by
  have c0 : ∀ o, v.cell? ⟨w.heap.size, o, none⟩ = u.cell? ⟨w.heap.size, o, none⟩ := fun o => hb.cell (p := ⟨w.heap.size, o, none⟩) (by show w.heap.size < w.heap.size + 1; omega)
  exact ⟨(c0 0).trans h.a0, (c0 1).trans h.a1, (c0 2).trans h.a2, fun o => (hb.frozen (p := ⟨w.heap.size, o, none⟩) (by show w.heap.size < w.heap.size + 1; omega)).trans (h.fa o)⟩
/-- What is drawn for DefineGlobal. -/
def DgRes (w : World) (e : Ending) (w' : World) : Prop :=
  ∃ (ao c : Nat) (l : List Glb) (s : ByteArray) (v : Vlu), e = .returned (.tuple #[.slice (some ⟨ao, 0, none⟩) l.length c, .string s, v.val]) ∧ World.ownsRow w' w.heap.size 33 5 (.slice (some ⟨ao, 0, none⟩) l.length c) l.length (cellsG l) ∧ ShortG l ∧ 1 ≤ l.length ∧ l.length ≤ 61 ∧ s.size ≤ 20 ∧ v.name.size ≤ 20 ∧ Below w.heap.size w w'
set_option maxRecDepth 100000 in
set_option maxHeartbeats 2000000 in
theorem drawDG_any (w : World) (ca : Option Addr) (len cap : Nat) (h : Bytes w ca len) (hmax : (len : Int) ≤ 9223372036854775807) :
    Calls Try.prog 9 #[.slice ca len cap] w fun e w' => DgRes w e w' := by
  have HBy : Hid (Bytes w ca len) := h
  clear h
  go_enter Try.func9, Try.ntmps9
  go_wp2_with fail
  refine (source_any _ ca len cap (HBy.out.below ((Below.refl _ _).alloc (Nat.le_refl _) _))).mono ?_
  rintro e w1 ⟨rfl, h1, b1⟩
  simp only [World.size_alloc] at h1 b1 ⊢
  have hlt := h1.lt
  have hcode := h1.code
  have ZZ : Hid (Z3 w w1) := by
    have c0 : ∀ o v, (#[Value.int .i64 0, .int .i64 0, .string ⟨#[]⟩] : Array Value)[o]? = some v → w1.cell? ⟨w.heap.size, o, none⟩ = some v := fun o v hv => by
      refine (b1.cell (p := ⟨w.heap.size, o, none⟩) (by show w.heap.size < w.heap.size + 1; omega)).trans ?_
      rw [World.cell?_alloc_at _ _ _ _ rfl]; exact hv
    refine ⟨c0 0 _ rfl, c0 1 _ rfl, c0 2 _ rfl, fun o => ?_⟩
    rw [b1.frozen (p := ⟨w.heap.size, o, none⟩) (by show w.heap.size < w.heap.size + 1; omega), World.frozen?_alloc_at _ _ _ _ rfl]
  have HB1 : Hid (Below w.heap.size w w1) := ((Below.refl _ _).alloc (Nat.le_refl _) _).trans (b1.mono (by omega))
  clear b1
  go_wp2_with fail
  refine (l7Bent_any w1 w1.heap.size (w.heap.size + 1) ca len cap hlt hcode (Nat.le_refl _) hmax 0 h1 (by omega) (by omega)).mono ?_
  rintro e w2 ⟨ao, c, l, k2, rfl, ho, hn, hl1, hl2, kk1, kk2, hs2, hb2⟩
  have HO2 : Hid (World.ownsRow w2 w1.heap.size 33 5 (.slice (some ⟨ao, 0, none⟩) l.length c) l.length (cellsG l)) := ho
  have HN : Hid (ShortG l ∧ 1 ≤ l.length ∧ l.length ≤ 61) := ⟨hn, hl1, hl2⟩
  have HS2 : Hid (SrcAt w2 (w.heap.size + 1) ca len cap k2) := hs2
  have ZZ2 : Hid (Z3 w w2) := ZZ.out.low hb2
  have HB2 : Hid (Below w.heap.size w w2) := HB1.out.trans (hb2.mono (by omega))
  clear ho hn hs2 hb2 h1 hcode hl1 hl2
  go_wp2_with fail
  refine (l7Name_any _ _ ca len cap k2 HS2.out hmax (by omega) (by omega)).mono ?_
  rintro e w3 ⟨s, k3, rfl, hs20, k31, k32, h3, o3⟩
  have HS3 : Hid (SrcAt w3 (w.heap.size + 1) ca len cap k3) := h3
  have b3 := o3.below (Nat.le_refl _) (Nat.le_of_lt HS2.out.lt)
  have HO3 : Hid (World.ownsRow w3 w1.heap.size 33 5 (.slice (some ⟨ao, 0, none⟩) l.length c) l.length (cellsG l)) := own_onlyG HO2.out o3 hlt
  have ZZ3 : Hid (Z3 w w3) := ZZ2.out.low b3
  have HB3 : Hid (Below w.heap.size w w3) := HB2.out.trans (b3.mono (by omega))
  clear h3 o3 b3
  go_wp2_with fail
  refine (bentV_any _ _ ca len cap k3 _ HS3.out hmax (by omega) (by omega)).mono ?_
  rintro e w4 ⟨t, k4, rfl, hn2, k41, k42, h4, o4⟩
  have b4 := o4.below (Nat.le_refl _) (Nat.le_of_lt HS3.out.lt)
  have HO4 : Hid (World.ownsRow w4 w1.heap.size 33 5 (.slice (some ⟨ao, 0, none⟩) l.length c) l.length (cellsG l)) := own_onlyG HO3.out o4 hlt
  obtain ⟨z0, z1, z2, zf⟩ := ZZ3.out.low b4
  have HB4 : Hid (Below w.heap.size w w4) := HB3.out.trans (b4.mono (by omega))
  clear h4 o4 b4
  go_wp2
  refine bodyPost_ret (v := .tuple #[.slice (some ⟨ao, 0, none⟩) l.length c, .string s, t.val]) (by simp [results, Try.results9, go_sem, z0, z1, z2]) rfl ⟨ao, c, l, s, t, rfl, ?_, HN.out.1, HN.out.2.1, HN.out.2.2, hs20, hn2, ?_⟩
  · refine own_base (base := w1.heap.size) ?_ HB1.out.size
    repeat (first | refine own_set_low ?_ (by omega) _ | exact HO4.out)
  · repeat (first | refine Below.setCell ?_ (by simp) _ | exact HB4.out)
end Go.Proofs.Ytgfienijabkpjaa
