/-
  Parts of the proof laid into one text, one behind the other; each says at its head what is proved in it.
-/
import Derived.Test.YtebnonpdaddniaaGreatDoorHcJ
import Derived.Test.YtebnonpdaddniaaGreatDoorHcD
import Derived.Test.YtebnonpdaddniaaGreatDoorHcI
import Derived.Test.YtebnonpdaddniaaGreatDoorFacts
/-
  The model's l4Name, l4Line, l4Around, l4Kids: whether a name is a global's, whether a core hangs on an open one, the lambda so many out, the places of a core's kids; nothing that was there is turned.
-/
namespace Go.Proofs.YtebnonpdaddniaaGreatDoor
open Go.RowKit Go.Extern.Stop Go.Stop Go.Extern Num Go.Lib

theorem l4Name_any (z : ByteArray) (w : World) (hz : z.size ≤ 9223372036854775807) :
    Calls Tryz.prog 137 #[.string z] w fun e w' => e = .returned (.bool (namC z)) ∧ Below w.heap.size w w' := by
  have HS : Hid (∀ w, Calls Tryz.prog 99 #[.string z] w fun e w' => e = .returned (.bool (symL z.data.toList)) ∧ w' = w) := fun w => sym_any z w hz
  have HK : Hid (∀ w, Calls Tryz.prog 104 #[.string z] w fun e w' => e = .returned (.bool (kwB z)) ∧ Below w.heap.size w w') := fun w => specKw_any z w
  have HR : Hid (namC z = (symL z.data.toList && !kwB z)) := rfl
  generalize namC z = R at HR ⊢
  generalize symL z.data.toList = s at HS HR
  generalize kwB z = q at HK HR
  cases s with
  | false =>
    obtain rfl : R = false := HR.out
    go_enter Tryz.func137, Tryz.ntmps137
    go_wp2_with (first | (go_at_call 99; refine (HS.out _).mono ?_; rintro e w' ⟨rfl, hw'⟩; replace hw' := hw'.symm; subst hw'))
    go_ret
    exact ⟨rfl, Below.refl _ _⟩
  | true =>
    obtain rfl : R = !q := HR.out
    go_enter Tryz.func137, Tryz.ntmps137
    go_wp2_with (first | (go_at_call 99; refine (HS.out _).mono ?_; rintro e w' ⟨rfl, hw'⟩; replace hw' := hw'.symm; subst hw') | (go_at_call 104; refine (HK.out _).mono ?_; rintro e w1 ⟨rfl, b1⟩))
    go_ret
    exact ⟨rfl, b1⟩
/-- Whose kid it is. -/
def parZ (l : List Cor) (k : Nat) : Int := (l[k]?.map (·.parent)).getD (-1)
theorem parZ_at (l : List Cor) (k : Nat) (h : k < l.length) : parZ l k = l[k].parent := by simp [parZ, h]
set_option maxHeartbeats 1000000 in
theorem l4Line_any (B g cap : Nat) (l : List Cor) (w : World) (i : Nat) (hR : RowC w B g l) (hi : i < l.length) (hi0 : 0 < i) (hlm : l.length ≤ 160) (hp : ParsC (zC (l.take i))) :
    Calls Tryz.prog 136 #[.slice (some ⟨g, 0, none⟩) l.length cap, .int .i64 (i : Int)] w fun e w' => e = .returned (.bool (decide (l[i].parent ∈ upLC (zC (l.take i)) ((i : Int) - 1)))) ∧ w' = w := by
  have HR : Hid (RowC w B g l) := hR
  have HP : Hid (ParsC (zC (l.take i))) := hp
  have hci := (HR.out i hi).2.1
  have HL : Hid ((zC (l.take i)).length = i) := by show _ = _; rw [zC_len, List.length_take]; omega
  have HA : Hid (∀ (j : Nat) (h : j < l.length) (h2 : j < (zC (l.take i)).length), (zC (l.take i))[j].1.parent = l[j].parent) := fun j h h2 => by
    rw [zC_at (l.take i) j (by rw [zC_len] at h2; exact h2)]; simp
  clear hR hp
  obtain ⟨p, hpe⟩ : ∃ p, p = (l[i]'hi).parent := ⟨_, rfl⟩
  rw [← hpe] at hci ⊢
  clear hpe
  generalize zC (l.take i) = Z at HP HL HA ⊢
  obtain ⟨R, hRe⟩ : ∃ R : Bool, R = decide (p ∈ upLC Z ((i : Int) - 1)) := ⟨_, rfl⟩
  rw [← hRe]
  have HE : Hid (R = decide (p ∈ upLC Z ((i : Int) - 1))) := hRe
  clear hRe
  go_enter Tryz.func136, Tryz.ntmps136
  go_wp2_with fail
  go_loopw [5, 6] (fun u v wr => ∃ (b : Int) (n : Nat), (n : Int) + b < (i : Int) ∧ n ≤ 200 ∧ -1 ≤ b ∧ u = .int .i64 (n : Int) ∧ v = .int .i64 b ∧ Hid (decide (p ∈ upLC Z b) = R) ∧ Hid (wr = w)) (fun _ v _ => ((RowKit.intOf v) + 1).toNat)
  case atStart => exact ⟨(i : Int) - 1, 0, by omega, by omega, by omega, rfl, rfl, HE.out.symm, rfl⟩
  case round =>
    obtain ⟨b, n, hb, hn, hb1, rfl, rfl, HD, HW⟩ := hrel
    have hciw : wr.cell? ⟨g, i * 6 + 1, none⟩ = some (.int .i64 p) := by rw [HW.out]; exact hci
    clear hci
    by_cases h0 : 0 ≤ b
    · obtain ⟨k, rfl⟩ := Int.eq_ofNat_of_zero_le h0
      have hk : k < l.length := by omega
      have hn200 : (n : Int) < 200 := by omega
      have hc1 : wr.cell? ⟨g, k * 6 + 1, none⟩ = some (.int .i64 (l[k]'hk).parent) := by rw [HW.out]; exact (HR.out k hk).2.1
      have hkz : k < Z.length := by have := HL.out; omega
      have hup := upL_atC HP.out k hkz
      have hpk := HP.out k hkz
      rw [HA.out k hk hkz] at hup hpk
      by_cases he : (k : Int) = p
      · have hb1' : ((k : Int) == p) = true := by simpa using he
        have HF : Hid (true = R) := by
          have := HD.out
          rw [hup, he] at this
          rw [← this]; simp [Hid]
        clear he hup hpk
        go_wp2
        go_ret
        exact ⟨by rw [← HF.out]; rfl, HW.out⟩
      · have hb1' : ((k : Int) == p) = false := by simpa using he
        have HF : Hid (decide (p ∈ upLC Z (l[k]'hk).parent) = R) := by
          have := HD.out
          rw [hup] at this
          rw [← this]
          show decide _ = decide _
          congr 1
          simp [Ne.symm he]
        clear he hup
        go_wp2
        exact ⟨⟨(l[k]'hk).parent, n + 1, by omega, by omega, hpk.2, by go_num, rfl, HF.out, HW.out⟩, by simp [RowKit.intOf]; omega⟩
    · have HF : Hid (false = R) := by
        have := HD.out
        rw [show b = -1 by omega, upL_negC] at this
        rw [← this]; simp [Hid]
      go_wp2
      go_ret
      exact ⟨by rw [← HF.out]; rfl, HW.out⟩
set_option maxHeartbeats 1000000 in
theorem l4Around_any (B g cap : Nat) (l : List Cor) (w : World) (i : Nat) (o : Int) (hR : RowC w B g l) (hi : i < l.length) (_hlm : l.length ≤ 160) (hp : ParsC (zC (l.take i))) (hp1 : -1 ≤ l[i].parent) (hp2 : l[i].parent < (i : Int)) (ho : 0 ≤ o) (ho2 : o ≤ 160) :
    Calls Tryz.prog 180 #[.slice (some ⟨g, 0, none⟩) l.length cap, .int .i64 (i : Int), .int .i64 o] w fun e w' => e = .returned (.int .i64 (aroF l (upLC (zC (l.take i)) l[i].parent) o)) ∧ w' = w := by
  have HR : Hid (RowC w B g l) := hR
  have HP : Hid (ParsC (zC (l.take i))) := hp
  have hci := (HR.out i hi).2.1
  have HL : Hid ((zC (l.take i)).length = i) := by show _ = _; rw [zC_len, List.length_take]; omega
  have HA : Hid (∀ (j : Nat) (h : j < l.length) (h2 : j < (zC (l.take i)).length), (zC (l.take i))[j].1.parent = l[j].parent) := fun j h h2 => by
    rw [zC_at (l.take i) j (by rw [zC_len] at h2; exact h2)]; simp
  clear hR hp
  obtain ⟨p, hpe⟩ : ∃ p, p = (l[i]'hi).parent := ⟨_, rfl⟩
  rw [← hpe] at hci hp1 hp2 ⊢
  clear hpe
  generalize zC (l.take i) = Z at HP HL HA ⊢
  obtain ⟨R, hRe⟩ : ∃ R : Int, R = aroF l (upLC Z p) o := ⟨_, rfl⟩
  rw [← hRe]
  have HE : Hid (R = aroF l (upLC Z p) o) := hRe
  clear hRe
  go_enter Tryz.func180, Tryz.ntmps180
  go_wp2_with fail
  go_loopw [2, 7] (fun x v wr => ∃ (b : Int) (m : Int), b < (i : Int) ∧ -1 ≤ b ∧ 0 ≤ m ∧ m ≤ 160 ∧ x = .int .i64 m ∧ v = .int .i64 b ∧ Hid (aroF l (upLC Z b) m = R) ∧ Hid (wr = w)) (fun _ v _ => ((RowKit.intOf v) + 1).toNat)
  case atStart => exact ⟨p, o, hp2, hp1, ho, ho2, rfl, rfl, HE.out.symm, rfl⟩
  case round =>
    obtain ⟨b, m, hb, hb1, hm, hm2, rfl, rfl, HD, HW⟩ := hrel
    clear hci
    by_cases h0 : 0 ≤ b
    · obtain ⟨k, rfl⟩ := Int.eq_ofNat_of_zero_le h0
      have hk : k < l.length := by omega
      have hc0 : wr.cell? ⟨g, k * 6, none⟩ = some (.int .i64 (l[k]'hk).kind) := by rw [HW.out]; exact (HR.out k hk).1
      have hc1 : wr.cell? ⟨g, k * 6 + 1, none⟩ = some (.int .i64 (l[k]'hk).parent) := by rw [HW.out]; exact (HR.out k hk).2.1
      have hkz : k < Z.length := by have := HL.out; omega
      have hup := upL_atC HP.out k hkz
      have hpk := HP.out k hkz
      rw [HA.out k hk hkz] at hup hpk
      have HD1 : Hid ((if kdC l k = 5 then (if m = 0 then (k : Int) else aroF l (upLC Z (l[k]'hk).parent) (m - 1)) else aroF l (upLC Z (l[k]'hk).parent) m) = R) := by
        have := HD.out
        rw [hup] at this
        show _ = _
        simpa only [aroF, Int.toNat_natCast] using this
      clear hup HD
      rw [kdC_at l k hk] at HD1
      by_cases he : (l[k]'hk).kind = 5
      · have hb1' : ((l[k]'hk).kind == 5) = true := by simpa using he
        rw [if_pos he] at HD1
        clear he
        by_cases hm0 : m = 0
        · have hb2' : (m == 0) = true := by simpa using hm0
          rw [if_pos hm0] at HD1
          clear hm0
          go_wp2
          go_ret
          exact ⟨by rw [← HD1.out]; rfl, HW.out⟩
        · have hb2' : (m == 0) = false := by simpa using hm0
          rw [if_neg hm0] at HD1
          go_wp2
          exact ⟨⟨(l[k]'hk).parent, m - 1, by omega, hpk.2, by omega, by omega, by go_num, rfl, HD1.out, HW.out⟩, by simp [RowKit.intOf]; omega⟩
      · have hb1' : ((l[k]'hk).kind == 5) = false := by simpa using he
        rw [if_neg he] at HD1
        clear he
        go_wp2
        exact ⟨⟨(l[k]'hk).parent, m, by omega, hpk.2, by omega, by omega, rfl, rfl, HD1.out, HW.out⟩, by simp [RowKit.intOf]; omega⟩
    · have HF : Hid (-1 = R) := by
        have := HD.out
        rw [show b = -1 by omega, upL_negC] at this
        exact this
      go_wp2
      go_ret
      exact ⟨by rw [← HF.out]; rfl, HW.out⟩
/-- The places, below k, of the parts of a place. -/
def kidsTo (l : List Cor) (a : Int) : Nat → List Int
  | 0 => []
  | k + 1 => if parZ l k = a then kidsTo l a k ++ [(k : Int)] else kidsTo l a k
def kidsD (l : List Cor) (a : Int) : List Int := kidsTo l a l.length
theorem kidsTo_len (l : List Cor) (a : Int) (k : Nat) : (kidsTo l a k).length ≤ k := by
  induction k with
  | zero => simp [kidsTo]
  | succ k ih =>
    simp only [kidsTo]
    split
    · rw [List.length_append]; simp; omega
    · omega
set_option maxRecDepth 100000 in
set_option maxHeartbeats 2000000 in
theorem l4Kids_any (B g cap : Nat) (l : List Cor) (a : Int) (w : World) (hR : RowC w B g l) (hl : l.length ≤ 1048576) :
    Calls Tryz.prog 93 #[.slice (some ⟨g, 0, none⟩) l.length cap, .int .i64 a] w fun e w' => ∃ q c, e = .returned (.slice (some ⟨q, 0, none⟩) (kidsD l a).length c) ∧ w'.ownsRow w.heap.size 2 1 (.slice (some ⟨q, 0, none⟩) (kidsD l a).length c) (kidsD l a).length (cellsI (kidsD l a)) ∧ Below w.heap.size w w' := by
  have HR : Hid (RowC w B g l) := hR
  obtain ⟨i0, hi, hz0, hz1, hz2⟩ := info_parts infoI
  clear hR
  go_enter Tryz.func93, Tryz.ntmps93
  go_wp2_with fail
  go_loopw [5, 6] (fun v i wr => ∃ (k q c : Nat) (L : List Int), k ≤ l.length ∧ i = .int .i64 (k : Int) ∧ v = .slice (some ⟨q, 0, none⟩) L.length c ∧ L.length ≤ k ∧ Hid (L = kidsTo l a k) ∧ Hid (wr.ownsRow w.heap.size 2 1 (.slice (some ⟨q, 0, none⟩) L.length c) L.length (cellsI L)) ∧ Hid (Below w.heap.size w wr)) (fun _ i _ => l.length - (RowKit.intOf i).toNat)
  case atStart => exact ⟨0, _, _, [], Nat.zero_le _, rfl, rfl, Nat.le_refl _, rfl, World.ownsRow_made _ #[] 0 (Nat.le_refl _) (Nat.zero_le _) rfl, (Below.refl _ _).alloc (Nat.le_refl _) _⟩
  case round =>
    obtain ⟨k, q, c, L, hk, rfl, rfl, hLk, HL, HO, HB⟩ := hrel
    have hz : w.heap.size ≤ wr.heap.size := HB.out.size
    by_cases hlt : k < l.length
    · have c1 : wr.cell? ⟨g, k * 6 + 1, none⟩ = some (.int .i64 (l[k]'hlt).parent) := (HR.out.below HB.out k hlt).2.1
      by_cases he : (l[k]'hlt).parent = a
      · have hb : ((l[k]'hlt).parent == a) = true := by simpa using he
        have HL2 : Hid (L ++ [(k : Int)] = kidsTo l a (k + 1)) := by
          show _ = _
          rw [kidsTo, parZ_at l k hlt, if_pos he, HL.out]
        clear he
        go_wp2_with (first | (at_builtin; refine wpList_append_lies _ rfl (.tmp 21) (.tmp 23) 127 rfl w.heap.size 2 i0 _ 1 8 Tryz.underlying127 hi hz0 hz1 hz2 rfl (by decide) _ L.length (cellsI L) rfl (HO.out.alloc _) ⟨_, 0, none⟩ 1 1 [.int .i64 (k : Int)] rfl rfl ?c1 ?c2 (by decide) ?c3 ?c4 ?c5 _ rfl ?_))
        case c1 => exact newsI (heap_new' _ _ _ (by simp))
        case c2 => intro u hu; simp at hu; subst hu; rfl
        case c3 => unfold maxLen; omega
        case c4 => omega
        case c5 => simp; omega
        intro g' cap' w1 hown1 hgrow1 _ _
        have HO1 : Hid (w1.ownsRow w.heap.size 2 1 (.slice (some ⟨g', 0, none⟩) (L ++ [(k : Int)]).length cap') (L ++ [(k : Int)]).length (cellsI (L ++ [(k : Int)]))) := by
          rw [cellsI_append, List.length_append]
          exact hown1
        have HB1 : Hid (Below w.heap.size w w1) := (HB.out.alloc hz _).grown hgrow1 (by simp; omega) (fun j hj => (HO.out.lt j hj).1)
        clear hown1 hgrow1
        go_wp2
        exact ⟨⟨k + 1, g', cap', L ++ [(k : Int)], by omega, by go_num, by simp, by simp; omega, HL2.out, HO1.out, HB1.out⟩, by simp [RowKit.intOf]; omega⟩
      · have hb : ((l[k]'hlt).parent == a) = false := by simpa using he
        have HL2 : Hid (L = kidsTo l a (k + 1)) := by
          show _ = _
          rw [kidsTo, parZ_at l k hlt, if_neg he, HL.out]
        clear he
        go_wp2
        exact ⟨⟨k + 1, q, c, L, by omega, by go_num, rfl, by omega, HL2.out, HO.out, HB.out⟩, by simp [RowKit.intOf]; omega⟩
    · have HF : Hid (L = kidsD l a) := by
        have hkl : k = l.length := by omega
        show L = kidsTo l a l.length
        rw [HL.out, hkl]
      go_wp2
      go_ret
      rw [← HF.out]
      exact ⟨q, c, rfl, HO.out, HB.out⟩
end Go.Proofs.YtebnonpdaddniaaGreatDoor
/-
  What is wrong with a core, in the model's order: its bareness, its parent, its line, its name, its data, whether it is a definition behind the first core, its place; and it is what CoMath tells.
-/
namespace Go.Proofs.YtebnonpdaddniaaGreatDoor
open Go.RowKit

/-- Whether the numbers of a core are right. -/
def placeB (l : List Cor) (i : Nat) (t : Cor) : Bool :=
  if t.kind = 5 then decide (0 ≤ t.a) && decide (t.a ≤ 3)
  else if t.kind = 2 then decide (0 ≤ t.b) && decide (t.b < poF l t.a (upLC (zC (l.take i)) t.parent) 0)
  else true
/-- Whether it hangs on no open one. -/
def lineBad (l : List Cor) (i : Nat) (p : Int) : Bool := decide (0 < i) && !(decide (p ∈ upLC (zC (l.take i)) ((i : Int) - 1)))
def defBad (i : Nat) (t : Cor) : Bool := t.kind == 8 && decide (0 < i)
def dataBad (t : Cor) : Bool := t.kind == 1 && !(dataFault t.data == 0)
def nameBad (t : Cor) : Bool := namedK t.kind && !namC t.name
def oneM (l : List Cor) (i : Nat) (t : Cor) : Int :=
  if bareC t = false then 1 else if parBad i t.parent = true then 3 else if lineBad l i t.parent = true then 1 else if nameBad t = true then 5
  else if dataBad t = true then dataFault t.data else if defBad i t = true then 1 else if placeB l i t = false then 3 else 0
theorem lf_model (l : List Cor) (i : Nat) (hi : i ≤ l.length) (p : Int) : lfDC (zC (l.take i)) p = if parBad i p = true then 3 else if lineBad l i p = true then 1 else 0 := by
  have hz : (zC (l.take i)).length = i := by rw [zC_len, List.length_take]; omega
  unfold lfDC parBad lineBad
  rw [hz]
  by_cases h0 : i = 0
  · subst h0
    by_cases hp : p = -1
    · subst hp; simp
    · have h2 : p < 0 ∨ ((0 : Nat) : Int) ≤ p := by omega
      rw [if_neg (by simp [hp]), if_pos h2]
      simp [hp]
  · have hp : 0 < i := by omega
    rw [if_neg (by simp [h0])]
    by_cases h2 : p < 0 ∨ (i : Int) ≤ p
    · rw [if_pos h2]
      have : ¬ (0 ≤ p ∧ p ≤ (i : Int) - 1) := by omega
      by_cases ha : 0 ≤ p
      · have hb : ¬ p ≤ (i : Int) - 1 := by omega
        simp [ha, hb, hp]
      · simp [ha, hp]
    · rw [if_neg h2]
      have ha : 0 ≤ p := by omega
      have hb : p ≤ (i : Int) - 1 := by omega
      have hb2 : p < (i : Int) := by omega
      by_cases hm : p ∈ upLC (zC (l.take i)) ((i : Int) - 1)
      · simp [ha, hb, h0, hp, hm]
      · simp [ha, hb, h0, hp, hm]
theorem namedK_iff (k : Int) : namedK k = true ↔ (k = 3 ∨ k = 7 ∨ k = 8) := by simp [namedK, or_assoc]
theorem oneC_model (l : List Cor) (i : Nat) (hi : i ≤ l.length) (t : Cor) : oneC l i t = oneM l i t := by
  unfold oneC oneM
  by_cases hb : bareC t = false
  · rw [if_pos hb, if_pos hb]
  · rw [if_neg hb, if_neg hb, lf_model l i hi]
    by_cases h1 : parBad i t.parent = true
    · simp [h1]
    · rw [if_neg h1, if_neg h1]
      by_cases h2 : lineBad l i t.parent = true
      · simp [h2]
      · rw [if_neg h2, if_neg h2]
        simp only [ne_eq, not_true_eq_false, if_false]
        unfold contC nameBad dataBad defBad placeB
        rcases kinds9 t.kind with h | h | h | h | h | h | h | h | h | h
        · by_cases hd : dataFault t.data = 0 <;> simp [h, namedK, hd]
        · by_cases ha : 0 ≤ t.b <;> by_cases hc : t.b < poF l t.a (upLC (zC (l.take i)) t.parent) 0 <;> simp [h, namedK, ha, hc]
        · cases hn : namC t.name <;> simp [h, namedK]
        · simp [h, namedK]
        · by_cases ha : 0 ≤ t.a <;> by_cases hc : t.a ≤ 3 <;> simp [h, namedK, ha, hc]
        · simp [h, namedK]
        · cases hn : namC t.name <;> simp [h, namedK]
        · cases hn : namC t.name <;> by_cases h0 : i = 0 <;> simp [h, namedK, h0] <;> omega
        · simp [h, namedK]
        · have g1 : t.kind ≠ 1 := by omega
          have g2 : t.kind ≠ 2 := by omega
          have g3 : t.kind ≠ 3 := by omega
          have g5 : t.kind ≠ 5 := by omega
          have g7 : t.kind ≠ 7 := by omega
          have g8 : t.kind ≠ 8 := by omega
          simp [g1, g2, g3, g5, g7, g8, namedK]
/-- The cores ahead are without fault: a lambda's parameters are few. -/
theorem okC_lam {l : List Cor} {i : Nat} (hok : okC l i) (k : Nat) (hk : k < l.length) (hki : k < i) (h5 : l[k].kind = 5) : 0 ≤ l[k].a ∧ l[k].a ≤ 3 := by
  have h1 := (oneC_parts (hok k hk hki)).2.2
  unfold contC at h1
  rw [if_neg (by omega), if_neg (by omega), if_pos h5] at h1
  by_cases h : 0 ≤ l[k].a ∧ l[k].a ≤ 3
  · exact h
  · rw [if_neg h] at h1; exact absurd h1 (by decide)
theorem aroF_kind (l : List Cor) : ∀ (xs : List Int) (o : Int), aroF l xs o = -1 ∨ (aroF l xs o ∈ xs ∧ kdC l (aroF l xs o).toNat = 5)
  | [], _ => .inl rfl
  | x :: r, o => by
    simp only [aroF]
    by_cases hk : kdC l x.toNat = 5
    · rw [if_pos hk]
      by_cases ho : o = 0
      · rw [if_pos ho]; exact .inr ⟨by simp, hk⟩
      · rw [if_neg ho]
        rcases aroF_kind l r (o - 1) with h | ⟨h1, h2⟩
        · exact .inl h
        · exact .inr ⟨by simp [h1], h2⟩
    · rw [if_neg hk]
      rcases aroF_kind l r o with h | ⟨h1, h2⟩
      · exact .inl h
      · exact .inr ⟨by simp [h1], h2⟩
theorem poF_far (l : List Cor) (out : Int) : ∀ (xs : List Int) (n : Int), out < n ∨ n + xs.length ≤ out → poF l out xs n = 0
  | [], _, _ => rfl
  | x :: r, n, h => by
    simp only [poF]
    simp only [List.length_cons] at h
    by_cases hk : kdC l x.toNat = 5
    · rw [if_pos hk, if_neg (by omega)]
      exact poF_far l out r (n + 1) (by omega)
    · rw [if_neg hk]
      exact poF_far l out r n (by omega)
end Go.Proofs.YtebnonpdaddniaaGreatDoor
/-
  The model's l4Place, l4One and l4Fault, and its CoreFault: what is wrong with cores; nothing that was there is turned.
-/
namespace Go.Proofs.YtebnonpdaddniaaGreatDoor
open Go.RowKit Go.Extern.Stop Go.Stop Go.Extern Num Go.Lib

theorem placeB_five {l : List Cor} {i : Nat} {t : Cor} (h : t.kind = 5) : placeB l i t = (decide (0 ≤ t.a) && decide (t.a ≤ 3)) := by unfold placeB; rw [if_pos h]
theorem placeB_two {l : List Cor} {i : Nat} {t : Cor} (h : t.kind = 2) : placeB l i t = (decide (0 ≤ t.b) && decide (t.b < poF l t.a (upLC (zC (l.take i)) t.parent) 0)) := by unfold placeB; rw [if_neg (by omega), if_pos h]
theorem placeB_else {l : List Cor} {i : Nat} {t : Cor} (h2 : t.kind ≠ 2) (h5 : t.kind ≠ 5) : placeB l i t = true := by unfold placeB; rw [if_neg h5, if_neg h2]
set_option maxRecDepth 100000 in
set_option maxHeartbeats 2000000 in
theorem l4Place_any (B g cap : Nat) (l : List Cor) (w : World) (i : Nat) (hR : RowC w B g l) (hi : i < l.length) (hlm : l.length ≤ 160) (hok : okC l i) (hpar : parBad i l[i].parent = false) :
    Calls Tryz.prog 138 #[.slice (some ⟨g, 0, none⟩) l.length cap, .int .i64 (i : Int)] w fun e w' => e = .returned (.bool (placeB l i l[i])) ∧ Below w.heap.size w w' := by
  obtain ⟨c0, c1, c2, c3, -⟩ := hR i hi
  have hp2 := parBad_lt hpar
  have hp : ParsC (zC (l.take i)) := parsC_of (l := l) (k := i) (by omega) (by simp [zC, Function.comp_def]) hok
  have hlen : (zC (l.take i)).length = i := by rw [zC_len, List.length_take]; omega
  obtain ⟨t, ht⟩ : ∃ t, t = l[i]'hi := ⟨_, rfl⟩
  rw [← ht] at c0 c1 c2 c3 hp2 ⊢
  by_cases h5 : t.kind = 5
  · rw [h5] at c0
    rw [placeB_five h5]
    clear hR hok hpar hp hlen ht h5
    go_enter Tryz.func138, Tryz.ntmps138
    go_wp2_with (go_at_call 98; refine (l1In_any _ _ _ _).mono ?_; rintro e w' ⟨rfl, hw'⟩; replace hw' := hw'.symm; subst hw')
    go_ret
    exact ⟨rfl, Below.refl _ _⟩
  · by_cases h2 : t.kind = 2
    · rw [h2] at c0
      rw [placeB_two h2]
      have HIa : Hid (∀ w, Calls Tryz.prog 98 #[.int .i64 t.a, .int .i64 0, .int .i64 160] w fun e w' => e = .returned (.bool (decide (0 ≤ t.a) && decide (t.a ≤ 160))) ∧ w' = w) := fun w => l1In_any _ _ _ w
      cases ha : (decide (0 ≤ t.a) && decide (t.a ≤ 160)) with
      | false =>
        rw [ha] at HIa
        have hpo : poF l t.a (upLC (zC (l.take i)) t.parent) 0 = 0 := by
          have hl := upL_lenC hp (i + 1) t.parent (by omega) (by omega) hp2.2
          refine poF_far l t.a _ 0 ?_
          simp only [Bool.and_eq_false_iff, decide_eq_false_iff_not] at ha
          omega
        have HR : Hid ((decide (0 ≤ t.b) && decide (t.b < poF l t.a (upLC (zC (l.take i)) t.parent) 0)) = false) := by
          show _ = _
          rw [hpo]
          by_cases hb : 0 ≤ t.b
          · have : ¬ t.b < 0 := by omega
            simp [this]
          · simp [hb]
        rw [HR.out]
        clear hR hok hpar hp hlen ht h5 h2 ha hpo HR
        go_enter Tryz.func138, Tryz.ntmps138
        go_wp2_with (go_at_call 98; refine (HIa.out _).mono ?_; rintro e w' ⟨rfl, hw'⟩; replace hw' := hw'.symm; subst hw')
        go_ret
        exact ⟨rfl, Below.refl _ _⟩
      | true =>
        rw [ha] at HIa
        simp only [Bool.and_eq_true, decide_eq_true_eq] at ha
        have HA : Hid (∀ cap, Calls Tryz.prog 180 #[.slice (some ⟨g, 0, none⟩) l.length cap, .int .i64 (i : Int), .int .i64 t.a] w fun e w' => e = .returned (.int .i64 (aroF l (upLC (zC (l.take i)) t.parent) t.a)) ∧ w' = w) := fun cap => by
          rw [ht]; exact l4Around_any B g cap l w i _ hR hi hlm hp (by rw [← ht]; omega) (by rw [← ht]; omega) (by rw [← ht]; omega) (by rw [← ht]; omega)
        have hpa := po_aro l t.a (upLC (zC (l.take i)) t.parent) 0 (upL_pos hp _ (by omega))
        have hkd := aroF_kind l (upLC (zC (l.take i)) t.parent) t.a
        have hup := fun x hx => upL_mem hp (i + 1) t.parent (by omega) (by omega) x hx
        rw [show t.a - 0 = t.a by omega] at hpa
        generalize aroF l (upLC (zC (l.take i)) t.parent) t.a = fn at HA hpa hkd
        generalize poF l t.a (upLC (zC (l.take i)) t.parent) 0 = po at hpa ⊢
        rcases hpa with ⟨h1, h0⟩ | ⟨h0, h1⟩
        · subst h1 h0
          have HR : Hid ((decide (0 ≤ t.b) && decide (t.b < 0)) = false) := by
            show _ = _
            by_cases hb : 0 ≤ t.b
            · have : ¬ t.b < 0 := by omega
              simp [this]
            · simp [hb]
          rw [HR.out]
          clear hR hok hpar hp hlen ht h5 h2 ha hkd hup HR
          go_enter Tryz.func138, Tryz.ntmps138
          go_wp2_with (first | (go_at_call 98; refine (HIa.out _).mono ?_; rintro e w' ⟨rfl, hw'⟩; replace hw' := hw'.symm; subst hw') | (go_at_call 180; refine (HA.out _).mono ?_; rintro e w' ⟨rfl, hw'⟩; replace hw' := hw'.symm; subst hw'))
          have hne := bw_some w
          refine wp_region_below (by kernel_rfl) (by kernel_rfl) ?_
          repeat (go_big_quiet_step (fail))
          refine wpQuiet_nil ?_
          intro wq hw'
          obtain ⟨⟨_, bq⟩, rfl⟩ := hw'
          have HB : Hid (Below w.heap.size w wq) := bq
          clear bq
          go_wp2
          go_ret
          exact ⟨rfl, HB.out⟩
        · rcases hkd with hk | ⟨hk1, hk2⟩
          · omega
          · obtain ⟨j, rfl⟩ := Int.eq_ofNat_of_zero_le h0
            have hj := hup _ hk1
            have hjl : j < l.length := by omega
            rw [Int.toNat_natCast] at h1 hk2
            rw [kdC_at l j hjl] at hk2
            rw [naC_at l j hjl] at h1
            have hlam := okC_lam hok j hjl (by omega) hk2
            have e2 := (hR j hjl).2.2.1
            rw [← h1] at hlam e2
            have HR : Hid ((decide (0 ≤ t.b) && decide (t.b < po)) = (decide (0 ≤ t.b) && decide (t.b ≤ po - 1))) := by
              show _ = _
              congr 1
              by_cases hb : t.b < po
              · have : t.b ≤ po - 1 := by omega
                simp [hb, this]
              · have : ¬ t.b ≤ po - 1 := by omega
                simp [hb, this]
            rw [HR.out]
            have hjn : (j : Int) < (l.length : Int) := by omega
            have hj0 : (0 : Int) ≤ (j : Int) := by omega
            clear hR hok hpar hp hlen ht h5 h2 ha hup HR hk1 hk2 h1 hj
            go_enter Tryz.func138, Tryz.ntmps138
            go_wp2_with (first | (go_at_call 98; refine (HIa.out _).mono ?_; rintro e w' ⟨rfl, hw'⟩; replace hw' := hw'.symm; subst hw') | (go_at_call 180; refine (HA.out _).mono ?_; rintro e w' ⟨rfl, hw'⟩; replace hw' := hw'.symm; subst hw'))
            have q3 : ∀ p : BW w, p.x.cell? ⟨g, i * 6 + 3, none⟩ = some (.int .i64 t.b) := fun p => p.cell c3
            have q2 : ∀ p : BW w, p.x.cell? ⟨g, j * 6 + 2, none⟩ = some (.int .i64 po) := fun p => p.cell e2
            have hne := bw_some w
            have HL : Hid (∀ p : BW w, Calls Tryz.prog 98 #[.int .i64 t.b, .int .i64 0, .int .i64 (po - 1)] p.x fun e w' => e = .returned (.bool (decide (0 ≤ t.b) && decide (t.b ≤ po - 1))) ∧ Below p.x.heap.size p.x w') := fun p => (l1In_any _ _ _ _).mono fun e w' ⟨h1, h2⟩ => ⟨h1, by rw [h2]; exact Below.refl _ _⟩
            refine wp_region_below (by kernel_rfl) (by kernel_rfl) ?_
            repeat (go_big_quiet_step ((go_at_call 98; exact calls_bw (HL.out _))))
            refine wpQuiet_nil ?_
            intro wq hw'
            obtain ⟨⟨_, bq⟩, rfl⟩ := hw'
            have HB : Hid (Below w.heap.size w wq) := bq
            clear bq
            go_wp2
            go_ret
            exact ⟨rfl, HB.out⟩
    · have e5 : (t.kind == 5) = false := by simpa using h5
      have e2 : (t.kind != 2) = true := by simpa using h2
      rw [placeB_else h2 h5]
      clear hR hok hpar hp hlen ht h5 h2
      go_enter Tryz.func138, Tryz.ntmps138
      go_wp2
      go_ret
      exact ⟨rfl, Below.refl _ _⟩
theorem lineBad_of {l : List Cor} {i : Nat} {p : Int} : lineBad l i p = (decide (0 < i) && !(decide (p ∈ upLC (zC (l.take i)) ((i : Int) - 1)))) := rfl
set_option maxRecDepth 100000 in
set_option maxHeartbeats 4000000 in
theorem l4One_any (B g cap : Nat) (l : List Cor) (w : World) (i : Nat) (hR : RowC w B g l) (hi : i < l.length) (hlm : l.length ≤ 160) (hok : okC l i) (hz : l[i].small) :
    Calls Tryz.prog 91 #[.slice (some ⟨g, 0, none⟩) l.length cap, .int .i64 (i : Int)] w fun e w' => e = .returned (.int .i64 (oneM l i l[i])) ∧ Below w.heap.size w w' := by
  have HR : Hid (RowC w B g l) := hR
  have HOk : Hid (okC l i) := hok
  obtain ⟨c0, c1, -, -, c4, gk, c5, hrow⟩ := hR i hi
  have HBr : Hid (Calls Tryz.prog 135 #[.pointer (some ⟨g, i * 6, none⟩)] w fun e w' => e = .returned (.bool (bareC l[i])) ∧ w' = w) := by
    obtain ⟨d0, d1, d2, d3, d4, gk', d5, -⟩ := hR i hi
    exact l4Bare_any _ _ _ g (i * 6) w d0 d2 d3 d4 d5
  have HPl : Hid (∀ u, Below w.heap.size w u → parBad i l[i].parent = false → Calls Tryz.prog 138 #[.slice (some ⟨g, 0, none⟩) l.length cap, .int .i64 (i : Int)] u fun e w' => e = .returned (.bool (placeB l i l[i])) ∧ Below u.heap.size u w') := fun u hu hp => l4Place_any B g cap l u i (hR.below hu) hi hlm hok hp
  have HLi : Hid (0 < i → Calls Tryz.prog 136 #[.slice (some ⟨g, 0, none⟩) l.length cap, .int .i64 (i : Int)] w fun e w' => e = .returned (.bool (decide (l[i].parent ∈ upLC (zC (l.take i)) ((i : Int) - 1)))) ∧ w' = w) := fun h0 =>
    l4Line_any B g cap l w i hR hi h0 hlm (parsC_of (l := l) (k := i) (by omega) (by simp [zC, Function.comp_def]) hok)
  have HD : Hid (∀ u, Below w.heap.size w u → Calls Tryz.prog 60 #[.slice (some ⟨gk, 0, none⟩) l[i].data.length l[i].data.length] u fun e w' => e = .returned (.int .i64 (dataFault l[i].data)) ∧ w' = u) := fun u hu => l3Fault_any _ _ B _ u (own_below hrow hu) (name_le hz.names)
  have HNm : Hid (∀ u, Calls Tryz.prog 72 #[.int .i64 l[i].kind] u fun e w' => e = .returned (.bool (namedK l[i].kind)) ∧ w' = u) := fun u => l4Named_any _ u
  have HNa : Hid (∀ u, Calls Tryz.prog 137 #[.string l[i].name] u fun e w' => e = .returned (.bool (namC l[i].name)) ∧ Below u.heap.size u w') := fun u => l4Name_any _ u (by have := hz.name; omega)
  obtain ⟨t, ht⟩ : ∃ t, t = l[i]'hi := ⟨_, rfl⟩
  rw [← ht] at c0 c1 c4 c5 HBr HPl HLi HD HNm HNa ⊢
  clear hR hok hz hrow
  have HRes : Hid (oneM l i t = if bareC t = false then 1 else if parBad i t.parent = true then 3 else if lineBad l i t.parent = true then 1 else if nameBad t = true then 5
    else if dataBad t = true then dataFault t.data else if defBad i t = true then 1 else if placeB l i t = false then 3 else 0) := rfl
  generalize oneM l i t = R at HRes ⊢
  have hi160 : (i : Int) < 1000 := by omega
  have hin : (i : Int) < (l.length : Int) := by omega
  clear ht hlm
  cases hb : bareC t with
  | false =>
    rw [hb] at HBr HRes
    obtain rfl : R = 1 := by rw [HRes.out]; rfl
    go_enter Tryz.func91, Tryz.ntmps91
    go_wp2_with (go_at_call 135; refine HBr.out.mono ?_; rintro e w' ⟨rfl, hw'⟩; replace hw' := hw'.symm; subst hw')
    go_ret
    exact ⟨rfl, Below.refl _ _⟩
  | true =>
    rw [hb] at HBr HRes
    have HRe : Hid (R = if parBad i t.parent = true then 3 else if lineBad l i t.parent = true then 1 else if nameBad t = true then 5
      else if dataBad t = true then dataFault t.data else if defBad i t = true then 1 else if placeB l i t = false then 3 else 0) := by show _ = _; rw [HRes.out]; rfl
    clear HRes hb
    go_enter Tryz.func91, Tryz.ntmps91
    go_upto_region 4 with (go_at_call 135; refine HBr.out.mono ?_; rintro e w' ⟨rfl, hw'⟩; replace hw' := hw'.symm; subst hw')
    go_cut [35] from 7 to 83 (fun v wx => v = .bool (parBad i t.parent) ∧ wx = w)
    case first =>
      by_cases hk0 : i = 0
      · have hkz : ((i : Int) == 0) = true := by rw [beq_iff_eq]; omega
        have HV : Hid (parBad i t.parent = (t.parent != -1)) := by show parBad i t.parent = _; rw [hk0]; simp [parBad]
        have hkn : ¬ 0 < (i : Int) := by omega
        clear hk0
        cases hm : (t.parent != -1)
        all_goals
          go_wp2
          go_meet
          exact ⟨by rw [HV.out, hm], rfl⟩
      · have hkz : ((i : Int) == 0) = false := by rw [beq_eq_false_iff_ne]; omega
        have hkp : 0 < (i : Int) := by omega
        have HV : Hid (parBad i t.parent = !(decide (0 ≤ t.parent) && decide (t.parent ≤ (i : Int) - 1))) := by
          have h1 : (i == 0) = false := by simpa using hk0
          have h2 : 0 < i := by omega
          show parBad i t.parent = _
          simp [parBad, h1, h2]
        clear hk0
        cases hin2 : (decide (0 ≤ t.parent) && decide (t.parent ≤ (i : Int) - 1))
        all_goals
          go_wp2_with (go_at_call 98; refine (l1In_any _ _ _ _).mono ?_; rintro e w' ⟨rfl, hw'⟩; replace hw' := hw'.symm; subst hw')
          go_meet
          exact ⟨by rw [HV.out, hin2]; rfl, rfl⟩
    case rest =>
      obtain ⟨rfl, hwc⟩ := hcut
      replace hwc := hwc.symm; subst hwc
      cases hpb : parBad i t.parent with
      | true =>
        rw [hpb] at HRe
        have HC : Hid (R = 3) := HRe.out
        go_wp2
        go_ret
        exact ⟨by rw [HC.out]; rfl, Below.refl _ _⟩
      | false =>
        have HP0 : Hid (parBad i t.parent = false) := hpb
        have HRf : Hid (R = if lineBad l i t.parent = true then 1 else if nameBad t = true then 5
          else if dataBad t = true then dataFault t.data else if defBad i t = true then 1 else if placeB l i t = false then 3 else 0) := by show _ = _; rw [HRe.out, hpb]; rfl
        clear HRe hpb
        go_upto_region 6 with fail
        go_cut [43] from 7 to 83 (fun v wx => v = .bool (lineBad l i t.parent) ∧ wx = w)
        case first =>
          by_cases hk0 : 0 < (i : Int)
          · have HL2 : Hid (Calls Tryz.prog 136 #[.slice (some ⟨g, 0, none⟩) l.length cap, .int .i64 (i : Int)] w fun e w' => e = .returned (.bool (decide (t.parent ∈ upLC (zC (l.take i)) ((i : Int) - 1)))) ∧ w' = w) := HLi.out (by omega)
            have HV : Hid (lineBad l i t.parent = !(decide (t.parent ∈ upLC (zC (l.take i)) ((i : Int) - 1)))) := by
              have h2 : 0 < i := by omega
              show lineBad l i t.parent = _
              simp [lineBad, h2]
            cases hli : decide (t.parent ∈ upLC (zC (l.take i)) ((i : Int) - 1))
            all_goals
              rw [hli] at HL2
              go_wp2_with (go_at_call 136; refine HL2.out.mono ?_; rintro e w' ⟨rfl, hw'⟩; replace hw' := hw'.symm; subst hw')
              go_meet
              exact ⟨by rw [HV.out, hli]; rfl, rfl⟩
          · have HV : Hid (lineBad l i t.parent = false) := by
              have h2 : ¬ 0 < i := by omega
              show lineBad l i t.parent = _
              simp [lineBad, h2]
            go_wp2
            go_meet
            exact ⟨by rw [HV.out], rfl⟩
        case rest =>
          obtain ⟨rfl, hwc⟩ := hcut
          replace hwc := hwc.symm; subst hwc
          cases hlb : lineBad l i t.parent with
          | true =>
            rw [hlb] at HRf
            have HC : Hid (R = 1) := HRf.out
            go_wp2
            go_ret
            exact ⟨by rw [HC.out]; rfl, Below.refl _ _⟩
          | false =>
            have HRg : Hid (R = if nameBad t = true then 5
              else if dataBad t = true then dataFault t.data else if defBad i t = true then 1 else if placeB l i t = false then 3 else 0) := by show _ = _; rw [HRf.out, hlb]; rfl
            clear HRf hlb
            go_upto_region 8 with fail
            go_cut [56] from 7 to 83 (fun v wx => v = .bool (nameBad t) ∧ Below w.heap.size w wx)
            case first =>
              have HV : Hid (nameBad t = (namedK t.kind && !namC t.name)) := rfl
              cases hnk : namedK t.kind <;> cases hnc : namC t.name
              all_goals
                rw [hnk] at HNm
                rw [hnc] at HNa
                go_wp2_with (first | (go_at_call 72; refine (HNm.out _).mono ?_; rintro e w' ⟨rfl, hw'⟩; replace hw' := hw'.symm; subst hw') | (go_at_call 137; refine (HNa.out _).mono ?_; rintro e w1 ⟨rfl, b1⟩))
                go_meet
                exact ⟨by rw [HV.out, hnk, hnc]; rfl, by first | exact b1 | exact Below.refl _ _⟩
            case rest =>
              obtain ⟨rfl, hwc⟩ := hcut
              have HB : Hid (Below w.heap.size w wc) := hwc
              replace c0 := cell_keep hwc c0
              replace c1 := cell_keep hwc c1
              replace c4 := cell_keep hwc c4
              replace c5 := cell_keep hwc c5
              clear hwc
              cases hnb : nameBad t with
              | true =>
                rw [hnb] at HRg
                have HC : Hid (R = 5) := HRg.out
                go_wp2
                go_ret
                exact ⟨by rw [HC.out]; rfl, HB.out⟩
              | false =>
                have HRh : Hid (R = if dataBad t = true then dataFault t.data else if defBad i t = true then 1 else if placeB l i t = false then 3 else 0) := by show _ = _; rw [HRg.out, hnb]; rfl
                clear HRg hnb
                have HP2 : Hid (Calls Tryz.prog 138 #[.slice (some ⟨g, 0, none⟩) l.length cap, .int .i64 (i : Int)] wc fun e w' => e = .returned (.bool (placeB l i t)) ∧ Below wc.heap.size wc w') := HPl.out wc HB.out HP0.out
                have HD2 : Hid (Calls Tryz.prog 60 #[.slice (some ⟨gk, 0, none⟩) t.data.length t.data.length] wc fun e w' => e = .returned (.int .i64 (dataFault t.data)) ∧ w' = wc) := HD.out wc HB.out
                by_cases hk1 : t.kind = 1
                · have e1 : (t.kind == 1) = true := by simpa using hk1
                  have e8 : (t.kind == 8) = false := by simp [hk1]
                  have HPl1 : Hid (placeB l i t = true) := placeB_else (by omega) (by omega)
                  have HDb : Hid (dataBad t = !(dataFault t.data == 0)) := by show _ = _; simp [dataBad, hk1]
                  have HDf : Hid (defBad i t = false) := by show _ = _; simp [defBad, hk1]
                  clear hk1
                  generalize dataFault t.data = df at HD2 HRh HDb
                  by_cases hd : df = 0
                  · subst hd
                    have HC : Hid (R = 0) := by
                      have e := HRh.out
                      rw [HDb.out, HDf.out, HPl1.out] at e
                      exact e
                    rw [HPl1.out] at HP2
                    go_wp2_with (first | (go_at_call 60; refine HD2.out.mono ?_; rintro e w' ⟨rfl, hw'⟩; replace hw' := hw'.symm; subst hw') | (go_at_call 138; refine HP2.out.mono ?_; rintro e w2 ⟨rfl, b2⟩))
                    go_ret
                    exact ⟨by rw [HC.out]; rfl, HB.out.trans (b2.mono HB.out.size)⟩
                  · have hne : (df != 0) = true := by simpa using hd
                    have HC : Hid (R = df) := by
                      have e := HRh.out
                      rw [HDb.out, show (df == 0) = false by simpa using hd] at e
                      exact e
                    clear hd
                    go_wp2_with (first | (go_at_call 60; refine HD2.out.mono ?_; rintro e w' ⟨rfl, hw'⟩; replace hw' := hw'.symm; subst hw'))
                    go_ret
                    exact ⟨by rw [HC.out]; rfl, HB.out⟩
                · have e1 : (t.kind == 1) = false := by simpa using hk1
                  have HDb : Hid (dataBad t = false) := by show _ = _; simp [dataBad, hk1]
                  have HRi : Hid (R = if defBad i t = true then 1 else if placeB l i t = false then 3 else 0) := by show _ = _; rw [HRh.out, HDb.out]; rfl
                  clear HRh HDb hk1 HD2
                  by_cases hk8 : t.kind = 8
                  · have e8 : (t.kind == 8) = true := by simpa using hk8
                    have HPl1 : Hid (placeB l i t = true) := placeB_else (by omega) (by omega)
                    rw [HPl1.out] at HP2 HRi
                    by_cases hi0 : 0 < (i : Int)
                    · have HC : Hid (R = 1) := by
                        have h2 : 0 < i := by omega
                        have e := HRi.out
                        simp [defBad, hk8, h2] at e
                        exact e
                      clear hk8
                      go_wp2
                      go_ret
                      exact ⟨by rw [HC.out]; rfl, HB.out⟩
                    · have HC : Hid (R = 0) := by
                        have h2 : i = 0 := by omega
                        have e := HRi.out
                        simp [defBad, hk8, h2] at e
                        exact e
                      clear hk8
                      go_wp2_with (go_at_call 138; refine HP2.out.mono ?_; rintro e w2 ⟨rfl, b2⟩)
                      go_ret
                      exact ⟨by rw [HC.out]; rfl, HB.out.trans (b2.mono HB.out.size)⟩
                  · have e8 : (t.kind == 8) = false := by simpa using hk8
                    have HRj : Hid (R = if placeB l i t = false then 3 else 0) := by
                      show _ = _
                      rw [HRi.out]; simp [defBad, hk8]
                    clear hk8 HRi
                    cases hp : placeB l i t with
                    | false =>
                      rw [hp] at HP2 HRj
                      have HC : Hid (R = 3) := HRj.out
                      go_wp2_with (go_at_call 138; refine HP2.out.mono ?_; rintro e w2 ⟨rfl, b2⟩)
                      go_ret
                      exact ⟨by rw [HC.out]; rfl, HB.out.trans (b2.mono HB.out.size)⟩
                    | true =>
                      rw [hp] at HP2 HRj
                      have HC : Hid (R = 0) := HRj.out
                      go_wp2_with (go_at_call 138; refine HP2.out.mono ?_; rintro e w2 ⟨rfl, b2⟩)
                      go_ret
                      exact ⟨by rw [HC.out]; rfl, HB.out.trans (b2.mono HB.out.size)⟩
end Go.Proofs.YtebnonpdaddniaaGreatDoor
/-
  The model's l4Fault, and its CoreFault: what is wrong with cores; nothing that was there is turned.
-/
namespace Go.Proofs.YtebnonpdaddniaaGreatDoor
open Go.RowKit Go.Extern.Stop Go.Stop Go.Extern Num Go.Lib

theorem parZ_kids (l : List Cor) (a : Int) : ∀ k, k ≤ l.length → (kidsTo l a k).length = ((l.take k).filter fun t => t.parent == a).length
  | 0, _ => rfl
  | k + 1, h => by
    have ih := parZ_kids l a k (by omega)
    have hk : k < l.length := by omega
    rw [takeC l k hk, List.filter_append, List.length_append, ← ih, kidsTo, parZ_at l k hk]
    by_cases hp : l[k].parent = a
    · rw [if_pos hp, List.length_append]; simp [hp]
    · rw [if_neg hp]; simp [hp]
theorem kidsD_len (l : List Cor) (a : Int) : (kidsD l a).length = kidN l a := by
  have := parZ_kids l a l.length (Nat.le_refl _)
  rw [List.take_length] at this
  exact this
set_option maxRecDepth 100000 in
set_option maxHeartbeats 4000000 in
theorem l4Fault_few (B g cap : Nat) (l : List Cor) (w : World) (hR : RowC w B g l) (h1 : 1 ≤ (l.length : Int)) (h160 : (l.length : Int) ≤ 160) (hz : ∀ (k : Nat) (h : k < l.length), l[k].small) :
    Calls Tryz.prog 55 #[.slice (some ⟨g, 0, none⟩) l.length cap] w fun e w' => e = .returned (.int .i64 (coreF l)) ∧ Below w.heap.size w w' := by
  have HR : Hid (RowC w B g l) := hR
  have HZ : Hid (∀ (k : Nat) (h : k < l.length), l[k].small) := hz
  have HF : Hid (coreF l = if onesC l l.length 0 ≠ 0 then onesC l l.length 0 else if kidsAll l l.length 0 = true then 0 else 1) := by show coreF l = _; unfold coreF; rw [if_neg (by omega)]
  clear hR hz
  obtain ⟨R, hRe⟩ : ∃ R : Int, R = coreF l := ⟨_, rfl⟩
  rw [← hRe] at HF ⊢
  clear hRe
  go_enter Tryz.func55, Tryz.ntmps55
  go_wp2_with fail
  go_loopw [3, 4] (fun v x wr => ∃ k : Nat, k ≤ l.length ∧ v = .int .i64 (k : Int) ∧ Hid (okC l k) ∧ Hid (Below w.heap.size w wr)) (fun v _ _ => l.length - (RowKit.intOf v).toNat)
  case atStart => exact ⟨0, Nat.zero_le _, rfl, fun j _ hj => by omega, Below.refl _ _⟩
  case round =>
    obtain ⟨k, hk, rfl, HK, HB⟩ := hrel
    by_cases hlt : k < l.length
    · have HO : Hid (Calls Tryz.prog 91 #[.slice (some ⟨g, 0, none⟩) l.length cap, .int .i64 (k : Int)] wr fun e w' => e = .returned (.int .i64 (oneC l k (l[k]'hlt))) ∧ Below wr.heap.size wr w') := by
        rw [oneC_model l k (by omega)]
        exact l4One_any B g cap l wr k (HR.out.below HB.out) hlt (by omega) HK.out (HZ.out k hlt)
      have HNx : Hid (oneC l k (l[k]'hlt) = 0 → okC l (k + 1)) := fun h => okC_next HK.out hlt h
      have HHit : Hid (oneC l k (l[k]'hlt) ≠ 0 → R = oneC l k (l[k]'hlt)) := fun h => by
        have := onesC_hit HK.out hlt h
        rw [HF.out, this, if_pos h]
      generalize oneC l k (l[k]'hlt) = c at HO HNx HHit
      by_cases hc : c = 0
      · subst hc
        go_wp2_with (go_at_call 91; refine HO.out.mono ?_; rintro e w1 ⟨rfl, b1⟩)
        exact ⟨⟨k + 1, by omega, by go_num, HNx.out (by trivial), HB.out.trans (b1.mono HB.out.size)⟩, by simp [RowKit.intOf]; omega⟩
      · have hne : (c != 0) = true := by simpa using hc
        have HC : Hid (R = c) := HHit.out hc
        clear hc HHit HNx
        go_wp2_with (go_at_call 91; refine HO.out.mono ?_; rintro e w1 ⟨rfl, b1⟩)
        go_ret
        exact ⟨by rw [HC.out]; rfl, HB.out.trans (b1.mono HB.out.size)⟩
    · obtain rfl : k = l.length := by omega
      have HOn : Hid (onesC l l.length 0 = 0) := onesC_end HK.out
      have HF2 : Hid (R = if kidsAll l l.length 0 = true then 0 else 1) := by show _ = _; rw [HF.out, HOn.out, if_neg (by simp)]
      obtain ⟨wo, rfl⟩ : ∃ wo, wo = wr := ⟨wr, rfl⟩
      go_wp2_with fail
      go_loopw [5] (fun v wt => ∃ a : Nat, a ≤ l.length ∧ v = .int .i64 (a : Int) ∧ Hid (∀ j, j < a → manyK (kdC l j) (kidN l (j : Int)) = true) ∧ Hid (Below w.heap.size w wt)) (fun v _ => l.length - (RowKit.intOf v).toNat)
      case atStart => exact ⟨0, Nat.zero_le _, rfl, fun j hj => by omega, HB.out⟩
      case round =>
        obtain ⟨k, hk, rfl, HM, HBt⟩ := hrel
        by_cases hat : k < l.length
        · obtain ⟨kd, hkd⟩ : ∃ kd, kd = (l[k]'hat).kind := ⟨_, rfl⟩
          obtain ⟨kn, hkn⟩ : ∃ kn, kn = (kidsD l (k : Int)).length := ⟨_, rfl⟩
          obtain ⟨mk, hmk⟩ : ∃ mk, mk = manyK kd kn := ⟨_, rfl⟩
          have HMk : Hid (manyK (kdC l k) (kidN l (k : Int)) = mk) := by show _ = _; rw [kdC_at l k hat, ← hkd, ← kidsD_len, ← hkn, hmk]
          obtain ⟨W, hW⟩ : ∃ W, W = wr := ⟨_, rfl⟩
          subst hW
          have hC : Hid (∀ u, Below W.heap.size W u → u.cell? ⟨g, k * 6, none⟩ = some (.int .i64 kd)) := fun u hu => by rw [hkd]; exact ((HR.out.below HBt.out).below hu k hat).1
          have HKi : Hid (∀ u, Below W.heap.size W u → Calls Tryz.prog 93 #[.slice (some ⟨g, 0, none⟩) l.length cap, .int .i64 (k : Int)] u fun e w' => ∃ q c, e = .returned (.slice (some ⟨q, 0, none⟩) kn c) ∧ Below u.heap.size u w') := fun u hu => (l4Kids_any B g cap l (k : Int) u ((HR.out.below HBt.out).below hu) (by omega)).mono fun e w' ⟨q, c, h1, _, h3⟩ => ⟨q, c, by rw [hkn]; exact h1, h3⟩
          have hkn160 : kn ≤ 160 := by rw [hkn]; have := kidsTo_len l (k : Int) l.length; unfold kidsD; omega
          have HMa : Hid (∀ u, Calls Tryz.prog 92 #[.int .i64 kd, .int .i64 (kn : Int)] u fun e w' => e = .returned (.bool mk) ∧ w' = u) := fun u => by rw [hmk]; exact l4Many_any kd kn hkn160 u
          clear hkd hkn hmk
          have hkl : (k : Int) < (l.length : Int) := by omega
          go_wp2_with fail
          refine wp_region_facts (by kernel_rfl) 10 (fun v => Below W.heap.size W v) (fun u v => Below u.heap.size u v) (fun i vv u => match i with | 0 => (fun v _ => v = .slice (some ⟨g, 0, none⟩) l.length cap) vv u | 1 => (fun v _ => v = .int .i64 (k : Int)) vv u | 2 => (fun v _ => v = .pointer (some ⟨g, k * 6, none⟩)) vv u | 3 => (fun v _ => v = .pointer (some ⟨g, k * 6, none⟩)) vv u | 4 => (fun v _ => v = .int .i64 kd) vv u | 5 => (fun v _ => v = .slice (some ⟨g, 0, none⟩) l.length cap) vv u | 6 => (fun v _ => v = .int .i64 (k : Int)) vv u | 7 => (fun v _ => ∃ q c, v = .slice (some ⟨q, 0, none⟩) kn c) vv u | 8 => (fun v _ => v = .int .i64 (kn : Int)) vv u | 9 => (fun v _ => v = .bool mk) vv u | _ => True) (by kernel_rfl) [0, 1, 2, 3, 4, 5, 6, 7, 8, 9] (by kernel_rfl) ?b0 ?bk ?fk ⟨?s0, ?s1, ?s2, ?s3, ?s4, ?s5, ?s6, ?s7, ?s8, ?s9, trivial⟩ _ rfl [(0, some 32), (1, some 33), (2, some 34), (3, some 35), (4, some 36), (5, some 37), (6, some 38), (7, some 39), (8, some 40), (9, some 41)] (by kernel_rfl) ?last
          case b0 => exact Below.drew (Below.refl _ _)
          case bk => exact fun u v h hb => h.trans (hb.mono h.size)
          case fk => intro i vv u u' h hb; match i, h with | 0, h => exact (h) | 1, h => exact (h) | 2, h => exact (h) | 3, h => exact (h) | 4, h => exact (h) | 5, h => exact (h) | 6, h => exact (h) | 7, h => exact (h) | 8, h => exact (h) | 9, h => exact (h) | _ + 10, _ => exact trivial
          case s0 =>
            refine StepF.of rfl [] (by kernel_rfl) ?_
            intro vs u hB hf K hK
            clear hf
            simp only [putsA, List.foldl_nil, Act.put, List.setIfInBounds_toArray] at hK ⊢
            rw [if_pos (by rfl)]
            go_simp
            exact hK.out _ _ (Below.refl _ _) rfl
          case s1 =>
            refine StepF.of rfl [] (by kernel_rfl) ?_
            intro vs u hB hf K hK
            clear hf
            simp only [putsA, List.foldl_nil, Act.put, List.setIfInBounds_toArray] at hK ⊢
            rw [if_pos (by rfl)]
            go_simp
            exact hK.out _ _ (Below.refl _ _) rfl
          case s2 =>
            refine StepF.of rfl [(0, some 32), (1, some 33)] (by kernel_rfl) ?_
            intro vs u hB hf K hK
            have f0 : (fun v _ => v = .slice (some ⟨g, 0, none⟩) l.length cap) (vs 0) u := hf.1
            have f1 : (fun v _ => v = .int .i64 (k : Int)) (vs 1) u := hf.2.1
            clear hf
            simp only [putsA, List.foldl_cons, List.foldl_nil, Act.put, List.setIfInBounds_toArray, List.set_cons_zero, List.set_cons_succ] at hK ⊢
            generalize vs 0 = v0 at f0 hK ⊢
            generalize vs 1 = v1 at f1 hK ⊢
            subst f0 f1
            rw [if_pos (by rfl)]
            go_simp
            exact hK.out _ _ (Below.refl _ _) rfl
          case s3 =>
            refine StepF.of rfl [(2, some 34)] (by kernel_rfl) ?_
            intro vs u hB hf K hK
            have f2 : (fun v _ => v = .pointer (some ⟨g, k * 6, none⟩)) (vs 2) u := hf.1
            clear hf
            simp only [putsA, List.foldl_cons, List.foldl_nil, Act.put, List.setIfInBounds_toArray, List.set_cons_zero, List.set_cons_succ] at hK ⊢
            generalize vs 2 = v2 at f2 hK ⊢
            subst f2
            rw [if_pos (by rfl)]
            go_simp
            exact hK.out _ _ (Below.refl _ _) rfl
          case s4 =>
            refine StepF.of rfl [(3, some 35)] (by kernel_rfl) ?_
            intro vs u hB hf K hK
            have f3 : (fun v _ => v = .pointer (some ⟨g, k * 6, none⟩)) (vs 3) u := hf.1
            clear hf
            simp only [putsA, List.foldl_cons, List.foldl_nil, Act.put, List.setIfInBounds_toArray, List.set_cons_zero, List.set_cons_succ] at hK ⊢
            generalize vs 3 = v3 at f3 hK ⊢
            subst f3
            rw [if_pos (by rfl)]
            have c0 := hC.out u hB
            go_simp
            exact hK.out _ _ (Below.refl _ _) rfl
          case s5 =>
            refine StepF.of rfl [] (by kernel_rfl) ?_
            intro vs u hB hf K hK
            clear hf
            simp only [putsA, List.foldl_nil, Act.put, List.setIfInBounds_toArray] at hK ⊢
            rw [if_pos (by rfl)]
            go_simp
            exact hK.out _ _ (Below.refl _ _) rfl
          case s6 =>
            refine StepF.of rfl [] (by kernel_rfl) ?_
            intro vs u hB hf K hK
            clear hf
            simp only [putsA, List.foldl_nil, Act.put, List.setIfInBounds_toArray] at hK ⊢
            rw [if_pos (by rfl)]
            go_simp
            exact hK.out _ _ (Below.refl _ _) rfl
          case s7 =>
            refine StepF.of rfl [(5, some 37), (6, some 38)] (by kernel_rfl) ?_
            intro vs u hB hf K hK
            have f5 : (fun v _ => v = .slice (some ⟨g, 0, none⟩) l.length cap) (vs 5) u := hf.1
            have f6 : (fun v _ => v = .int .i64 (k : Int)) (vs 6) u := hf.2.1
            clear hf
            simp only [putsA, List.foldl_cons, List.foldl_nil, Act.put, List.setIfInBounds_toArray, List.set_cons_zero, List.set_cons_succ] at hK ⊢
            generalize vs 5 = v5 at f5 hK ⊢
            generalize vs 6 = v6 at f6 hK ⊢
            subst f5 f6
            rw [if_pos (by rfl)]
            go_simp
            refine (HKi.out u hB).mono ?_
            rintro e w' ⟨q, c, rfl, hb⟩
            exact hK.out _ _ hb ⟨q, c, rfl⟩
          case s8 =>
            refine StepF.of rfl [(7, some 39)] (by kernel_rfl) ?_
            intro vs u hB hf K hK
            have f7 : (fun v _ => ∃ q c, v = .slice (some ⟨q, 0, none⟩) kn c) (vs 7) u := hf.1
            clear hf
            simp only [putsA, List.foldl_cons, List.foldl_nil, Act.put, List.setIfInBounds_toArray, List.set_cons_zero, List.set_cons_succ] at hK ⊢
            generalize vs 7 = v7 at f7 hK ⊢
            obtain ⟨q, c, rfl⟩ := f7
            rw [if_pos (by rfl)]
            go_simp
            exact hK.out _ _ (Below.refl _ _) rfl
          case s9 =>
            refine StepF.of rfl [(4, some 36), (7, some 39), (8, some 40)] (by kernel_rfl) ?_
            intro vs u hB hf K hK
            have f4 : (fun v _ => v = .int .i64 kd) (vs 4) u := hf.1
            have f7 : (fun v _ => ∃ q c, v = .slice (some ⟨q, 0, none⟩) kn c) (vs 7) u := hf.2.1
            have f8 : (fun v _ => v = .int .i64 (kn : Int)) (vs 8) u := hf.2.2.1
            clear hf
            simp only [putsA, List.foldl_cons, List.foldl_nil, Act.put, List.setIfInBounds_toArray, List.set_cons_zero, List.set_cons_succ] at hK ⊢
            generalize vs 4 = v4 at f4 hK ⊢
            generalize vs 7 = v7 at f7 hK ⊢
            generalize vs 8 = v8 at f8 hK ⊢
            subst f4 f8
            clear f7
            rw [if_pos (by rfl)]
            go_simp
            refine (HMa.out u).mono ?_
            rintro e w' ⟨rfl, rfl⟩
            exact hK.out _ _ (Below.refl _ _) rfl
          case last =>
            intro vs u hB hf K hK
            have f0 : (fun v _ => v = .slice (some ⟨g, 0, none⟩) l.length cap) (vs 0) u := hf.1
            have f1 : (fun v _ => v = .int .i64 (k : Int)) (vs 1) u := hf.2.1
            have f2 : (fun v _ => v = .pointer (some ⟨g, k * 6, none⟩)) (vs 2) u := hf.2.2.1
            have f3 : (fun v _ => v = .pointer (some ⟨g, k * 6, none⟩)) (vs 3) u := hf.2.2.2.1
            have f4 : (fun v _ => v = .int .i64 kd) (vs 4) u := hf.2.2.2.2.1
            have f5 : (fun v _ => v = .slice (some ⟨g, 0, none⟩) l.length cap) (vs 5) u := hf.2.2.2.2.2.1
            have f6 : (fun v _ => v = .int .i64 (k : Int)) (vs 6) u := hf.2.2.2.2.2.2.1
            have f7 : (fun v _ => ∃ q c, v = .slice (some ⟨q, 0, none⟩) kn c) (vs 7) u := hf.2.2.2.2.2.2.2.1
            have f8 : (fun v _ => v = .int .i64 (kn : Int)) (vs 8) u := hf.2.2.2.2.2.2.2.2.1
            have f9 : (fun v _ => v = .bool mk) (vs 9) u := hf.2.2.2.2.2.2.2.2.2.1
            clear hf
            simp only [putsA, List.foldl_cons, List.foldl_nil, Act.put, List.setIfInBounds_toArray, List.set_cons_zero, List.set_cons_succ]
            generalize vs 0 = v0 at f0 ⊢
            generalize vs 1 = v1 at f1 ⊢
            generalize vs 2 = v2 at f2 ⊢
            generalize vs 3 = v3 at f3 ⊢
            generalize vs 4 = v4 at f4 ⊢
            generalize vs 5 = v5 at f5 ⊢
            generalize vs 6 = v6 at f6 ⊢
            generalize vs 7 = v7 at f7 ⊢
            generalize vs 8 = v8 at f8 ⊢
            generalize vs 9 = v9 at f9 ⊢
            rw [if_pos (by rfl)]
            obtain ⟨q, c, rfl⟩ := f7
            subst f0 f1 f2 f3 f4 f5 f6 f8 f9
            have HU : Hid (Below W.heap.size W u) := hB
            go_simp
            refine hK.out _ _ ?_
            clear hB hK
            clear HKi HMa hC
            cases mk with
            | true =>
              go_wp2
              exact ⟨⟨k + 1, by omega, by go_num, fun j hj => by
                by_cases e : j = k
                · subst e; exact HMk.out
                · exact HM.out j (by omega), HBt.out.trans (HU.out.mono HBt.out.size)⟩, by simp [RowKit.intOf]; omega⟩
            | false =>
              have HV : Hid (R = 1) := by
                show _ = _
                rw [HF2.out, kidsAll_hit HM.out hat HMk.out]; rfl
              go_wp2
              go_ret
              exact ⟨by rw [HV.out]; rfl, HBt.out.trans (HU.out.mono HBt.out.size)⟩
        · have HV : Hid (R = 0) := by
            show _ = _
            rw [HF2.out, kidsAll_end (fun j hj => HM.out j (by omega))]; rfl
          go_wp2
          go_ret
          exact ⟨by rw [HV.out]; rfl, HBt.out⟩
theorem l4Fault_wrong (ao : Option Addr) (n cap : Nat) (w : World) (h : (n : Int) < 1 ∨ 160 < (n : Int)) :
    Calls Tryz.prog 55 #[.slice ao n cap] w fun e w' => e = .returned (.int .i64 2) ∧ w' = w := by
  by_cases h1 : (n : Int) < 1
  · clear h
    go_enter Tryz.func55, Tryz.ntmps55
    go_wp2
    go_ret
    exact ⟨rfl, rfl⟩
  · have h2 : 160 < (n : Int) := by omega
    clear h
    go_enter Tryz.func55, Tryz.ntmps55
    go_wp2
    go_ret
    exact ⟨rfl, rfl⟩
theorem l4Fault_any (B g cap : Nat) (l : List Cor) (w : World) (hR : RowC w B g l) (hz : ∀ (k : Nat) (h : k < l.length), l[k].small) :
    Calls Tryz.prog 55 #[.slice (some ⟨g, 0, none⟩) l.length cap] w fun e w' => e = .returned (.int .i64 (coreF l)) ∧ Below w.heap.size w w' := by
  by_cases h : (l.length : Int) < 1 ∨ 160 < (l.length : Int)
  · refine (l4Fault_wrong _ _ _ w h).mono ?_
    rintro e w' ⟨rfl, rfl⟩
    have e2 : coreF l = 2 := by unfold coreF; rw [if_pos (by omega)]
    exact ⟨by rw [e2], Below.refl _ _⟩
  · exact l4Fault_few B g cap l w hR (by omega) (by omega) hz
theorem specCoF_any (B g cap : Nat) (l : List Cor) (w : World) (hR : RowC w B g l) (hz : ∀ (k : Nat) (h : k < l.length), l[k].small) :
    Calls Tryz.prog 17 #[.slice (some ⟨g, 0, none⟩) l.length cap] w fun e w' => e = .returned (.int .i64 (coreF l)) ∧ Below w.heap.size w w' := by
  have HF : Hid (Calls Tryz.prog 55 #[.slice (some ⟨g, 0, none⟩) l.length cap] w fun e w' => e = .returned (.int .i64 (coreF l)) ∧ Below w.heap.size w w') := l4Fault_any B g cap l w hR hz
  clear hR hz
  generalize coreF l = c at HF ⊢
  go_enter Tryz.func17, Tryz.ntmps17
  go_wp2_with (go_at_call 55; refine HF.out.mono ?_; rintro e w1 ⟨rfl, b1⟩)
  go_ret
  exact ⟨rfl, b1⟩
end Go.Proofs.YtebnonpdaddniaaGreatDoor
