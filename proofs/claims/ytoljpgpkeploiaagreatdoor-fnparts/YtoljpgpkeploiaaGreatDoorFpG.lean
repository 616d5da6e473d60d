/-
  Parts of the proof laid into one text, one behind the other; each says at its head what is proved in it.
-/
import Derived.Test.YtoljpgpkeploiaaGreatDoorStDatum
import Derived.Test.YtoljpgpkeploiaaGreatDoorFpB
import Derived.Deep.CutRange
import Derived.Test.YtoljpgpkeploiaaGreatDoorIntRow
/-
  Data, plainly, and the model's l3Bare, l3Deep and l3Line: what a datum has, how deep it lies, whether its list is still open; nothing is turned.
-/
namespace Go.Proofs.YtoljpgpkeploiaaGreatDoor
open Go.RowKit Go.Extern.Stop Go.Stop Go.Extern Num Go.Lib

/-- The data that lie in a row. -/
def RowD (w : World) (g : Nat) (l : List Dat) : Prop := ∀ (k : Nat) (h : k < l.length), w.cell? ⟨g, k * 4, none⟩ = some (.int .i64 l[k].kind) ∧ w.cell? ⟨g, k * 4 + 1, none⟩ = some (.int .i64 l[k].parent) ∧ w.cell? ⟨g, k * 4 + 2, none⟩ = some (.int .i64 l[k].num) ∧ w.cell? ⟨g, k * 4 + 3, none⟩ = some (.string l[k].name)
theorem RowD.below {w w' : World} {g : Nat} {l : List Dat} (h : RowD w g l) (hb : Below w.heap.size w w') : RowD w' g l := fun k hk => ⟨cell_keep hb (h k hk).1, cell_keep hb (h k hk).2.1, cell_keep hb (h k hk).2.2.1, cell_keep hb (h k hk).2.2.2⟩
theorem RowD.of {w : World} {base g cap : Nat} {l : List Dat} (h : w.ownsRow base 61 4 (.slice (some ⟨g, 0, none⟩) l.length cap) l.length (cellsD l)) : RowD w g l := fun k hk => rowD_at h k hk
/-- Whose part it is. -/
def par (l : List Dat) (k : Nat) : Int := (l[k]?.map (·.parent)).getD (-1)
theorem par_at (l : List Dat) (k : Nat) (h : k < l.length) : par l k = l[k].parent := by simp [par, h]
/-- How many data there are from a place up. -/
def deepF (l : List Dat) : Nat → Int → Nat
  | 0, _ => 0
  | f + 1, a => if a < 0 then 0 else deepF l f (par l a.toNat) + 1
theorem deepF_neg (l : List Dat) (f : Nat) (a : Int) (h : a < 0) : deepF l f a = 0 := by cases f <;> simp [deepF, h]
theorem deepF_at (l : List Dat) (f k : Nat) (h : k < l.length) : deepF l (f + 1) (k : Int) = deepF l f l[k].parent + 1 := by
  have h0 : ¬ ((k : Int) < 0) := by omega
  simp only [deepF, if_neg h0, Int.toNat_natCast, par_at l k h]
/-- Whether, from a place up, p is met, and is a list. -/
def lineF (l : List Dat) (p : Int) : Nat → Int → Bool
  | 0, _ => false
  | f + 1, a => if a < 0 then false else if a = p then ((l[a.toNat]?.map (·.kind)).getD 0 == 4) else lineF l p f (par l a.toNat)
theorem lineF_neg (l : List Dat) (p : Int) (f : Nat) (a : Int) (h : a < 0) : lineF l p f a = false := by cases f <;> simp [lineF, h]
theorem lineF_hit (l : List Dat) (f k : Nat) (h : k < l.length) : lineF l (k : Int) (f + 1) (k : Int) = (l[k].kind == 4) := by
  have h0 : ¬ ((k : Int) < 0) := by omega
  simp [lineF, h]
theorem lineF_on (l : List Dat) (p : Int) (f k : Nat) (h : k < l.length) (hp : (k : Int) ≠ p) : lineF l p (f + 1) (k : Int) = lineF l p f l[k].parent := by
  have h0 : ¬ ((k : Int) < 0) := by omega
  simp only [lineF, if_neg h0, if_neg hp, Int.toNat_natCast, par_at l k h]
def lineB (l : List Dat) (i : Nat) : Bool := lineF l (par l i) i ((i : Int) - 1)

set_option maxHeartbeats 1000000 in
theorem l3Deep_any (g cap : Nat) (l : List Dat) (w : World) (i : Nat) (a : Int) (hR : RowD w g l) (hi : i < l.length) (hp : ∀ (j : Nat) (h : j < l.length), j ≤ i → l[j].parent ≤ (j : Int)) (ha : a ≤ (i : Int)) :
    Calls Tryz.prog 60 #[.slice (some ⟨g, 0, none⟩) l.length cap, .int .i64 a] w fun e w' => e = .returned (.int .i64 (deepF l 100 a : Nat)) ∧ w' = w := by
  have HR : Hid (RowD w g l) := hR
  have HP : Hid (∀ (j : Nat) (h : j < l.length), j ≤ i → l[j].parent ≤ (j : Int)) := hp
  clear hR hp
  obtain ⟨R, hRe⟩ : ∃ R : Nat, R = deepF l 100 a := ⟨_, rfl⟩
  rw [← hRe]
  have HE : Hid (R = deepF l 100 a) := hRe
  clear hRe
  go_enter Tryz.func60, Tryz.ntmps60
  go_wp2_with fail
  go_loopw [1, 5] (fun v m wr => ∃ (b : Int) (n : Nat), b ≤ (i : Int) ∧ n ≤ 100 ∧ v = .int .i64 b ∧ m = .int .i64 (n : Int) ∧ Hid (n + deepF l (100 - n) b = R) ∧ Hid (wr = w)) (fun _ m _ => 100 - (RowKit.intOf m).toNat)
  case atStart => exact ⟨a, 0, ha, by omega, rfl, rfl, by show 0 + deepF l 100 a = R; rw [HE.out]; omega, rfl⟩
  case round =>
    obtain ⟨b, n, hb, hn, rfl, rfl, HD, HW⟩ := hrel
    by_cases h0 : 0 ≤ b
    · obtain ⟨k, rfl⟩ := Int.eq_ofNat_of_zero_le h0
      by_cases h1 : (n : Int) < 100
      · have hk : k < l.length := by omega
        have hc : wr.cell? ⟨g, k * 4 + 1, none⟩ = some (.int .i64 (l[k]'hk).parent) := by rw [HW.out]; exact (HR.out k hk).2.1
        have hpk := HP.out k hk (by omega)
        have HD2 : Hid ((n + 1) + deepF l (100 - (n + 1)) (l[k]'hk).parent = R) := by
          have := HD.out
          show (n + 1) + _ = R
          rw [← this, show 100 - n = (100 - (n + 1)) + 1 by omega, deepF_at l _ k hk]; omega
        go_wp2
        exact ⟨⟨(l[k]'hk).parent, n + 1, by omega, by omega, rfl, by go_num, HD2.out, HW.out⟩, by simp [RowKit.intOf]; omega⟩
      · have HF : Hid ((n : Int) = (R : Int)) := by
          have := HD.out
          rw [show 100 - n = 0 by omega] at this
          simp [deepF] at this
          show (n : Int) = (R : Int)
          omega
        go_wp2
        go_ret
        exact ⟨by rw [HF.out]; rfl, HW.out⟩
    · have HF : Hid ((n : Int) = (R : Int)) := by
        have := HD.out
        rw [deepF_neg l _ b (by omega)] at this
        show (n : Int) = (R : Int)
        omega
      go_wp2
      go_ret
      exact ⟨by rw [HF.out]; rfl, HW.out⟩
set_option maxHeartbeats 1000000 in
theorem l3Line_any (g cap : Nat) (l : List Dat) (w : World) (i : Nat) (hR : RowD w g l) (hi : i < l.length) (hi0 : 0 < i) (hlm : l.length ≤ 1048576) (hp : ∀ (j : Nat) (h : j < l.length), j < i → l[j].parent < (j : Int)) :
    Calls Tryz.prog 59 #[.slice (some ⟨g, 0, none⟩) l.length cap, .int .i64 (i : Int)] w fun e w' => e = .returned (.bool (lineB l i)) ∧ w' = w := by
  have HR : Hid (RowD w g l) := hR
  have HP : Hid (∀ (j : Nat) (h : j < l.length), j < i → l[j].parent < (j : Int)) := hp
  have hci := (HR.out i hi).2.1
  have HPI : Hid (par l i = (l[i]'hi).parent) := par_at l i hi
  clear hR hp
  obtain ⟨R, hRe⟩ : ∃ R : Bool, R = lineB l i := ⟨_, rfl⟩
  rw [← hRe]
  have HE : Hid (R = lineB l i) := hRe
  clear hRe
  go_enter Tryz.func59, Tryz.ntmps59
  go_wp2_with fail
  go_loopw [5] (fun v wr => ∃ (b : Int) (f : Nat), b < (f : Int) ∧ b < (i : Int) ∧ v = .int .i64 b ∧ Hid (lineF l (par l i) f b = R) ∧ Hid (wr = w)) (fun v _ => ((RowKit.intOf v) + 1).toNat)
  case atStart => exact ⟨(i : Int) - 1, i, by omega, by omega, rfl, HE.out.symm, rfl⟩
  case round =>
    obtain ⟨b, f, hf, hb, rfl, HD, HW⟩ := hrel
    have hciw : wr.cell? ⟨g, i * 4 + 1, none⟩ = some (.int .i64 (l[i]'hi).parent) := by rw [HW.out]; exact hci
    clear hci
    by_cases h0 : 0 ≤ b
    · obtain ⟨k, rfl⟩ := Int.eq_ofNat_of_zero_le h0
      have hk : k < l.length := by omega
      obtain ⟨f', rfl⟩ : ∃ f', f = f' + 1 := ⟨f - 1, by omega⟩
      have hc0 : wr.cell? ⟨g, k * 4, none⟩ = some (.int .i64 (l[k]'hk).kind) := by rw [HW.out]; exact (HR.out k hk).1
      have hc1 : wr.cell? ⟨g, k * 4 + 1, none⟩ = some (.int .i64 (l[k]'hk).parent) := by rw [HW.out]; exact (HR.out k hk).2.1
      by_cases he : (k : Int) = (l[i]'hi).parent
      · have hb1 : ((k : Int) == (l[i]'hi).parent) = true := by simpa using he
        have HF : Hid (((l[k]'hk).kind == 4) = R) := by
          have := HD.out
          rw [HPI.out, ← he, lineF_hit l f' k hk] at this
          exact this
        clear he
        go_wp2
        go_ret
        exact ⟨by rw [← HF.out]; rfl, HW.out⟩
      · have hb1 : ((k : Int) == (l[i]'hi).parent) = false := by simpa using he
        have hpk := HP.out k hk (by omega)
        have HF : Hid (lineF l (par l i) f' (l[k]'hk).parent = R) := by
          have := HD.out
          rw [lineF_on l (par l i) f' k hk (by rw [HPI.out]; exact he)] at this
          exact this
        clear he
        go_wp2
        exact ⟨⟨(l[k]'hk).parent, f', by omega, by omega, rfl, HF.out, HW.out⟩, by simp [RowKit.intOf]; omega⟩
    · have HF : Hid (false = R) := by
        have := HD.out
        rw [lineF_neg l _ _ b (by omega)] at this
        exact this
      go_wp2
      go_ret
      exact ⟨by rw [← HF.out]; rfl, HW.out⟩
/-- A datum has nothing but what its kind has. -/
def bareB (t : Dat) : Bool := decide (1 ≤ t.kind ∧ t.kind ≤ 4) && ((t.kind == 1 || t.kind == 2) || t.num == 0) && (t.kind == 3 || (t.name.data.toList == []))
theorem bare_of (t : Dat) (b1 b2 b3 bi bn bz : Bool) (e1 : (t.kind == 1) = b1) (e2 : (t.kind == 2) = b2) (e3 : (t.kind == 3) = b3) (hin : (decide (1 ≤ t.kind) && decide (t.kind ≤ 4)) = bi) (en : (t.num == 0) = bn) (ez : (t.name.toList == []) = bz) : bareB t = (bi && ((b1 || b2) || bn) && (b3 || bz)) := by
  have h1 : decide (1 ≤ t.kind ∧ t.kind ≤ 4) = bi := by rw [← hin]; simp
  have h2 : (t.name.data.toList == []) = bz := by rw [← ez, ByteArray.toList_eq]
  unfold bareB
  rw [h1, h2, e1, e2, e3, en]
set_option maxHeartbeats 4000000 in
theorem l3Bare_any (g k : Nat) (t : Dat) (w : World) (c0 : w.cell? ⟨g, k, none⟩ = some (.int .i64 t.kind)) (c2 : w.cell? ⟨g, k + 2, none⟩ = some (.int .i64 t.num)) (c3 : w.cell? ⟨g, k + 3, none⟩ = some (.string t.name)) :
    Calls Tryz.prog 55 #[.pointer (some ⟨g, k, none⟩)] w fun e w' => e = .returned (.bool (bareB t)) ∧ w' = w := by
  have hk : ((t.kind == 1) = true ∧ (t.kind == 2) = false ∧ (t.kind == 3) = false ∧ (decide (1 ≤ t.kind) && decide (t.kind ≤ 4)) = true) ∨ ((t.kind == 1) = false ∧ (t.kind == 2) = true ∧ (t.kind == 3) = false ∧ (decide (1 ≤ t.kind) && decide (t.kind ≤ 4)) = true) ∨ ((t.kind == 1) = false ∧ (t.kind == 2) = false ∧ (t.kind == 3) = true ∧ (decide (1 ≤ t.kind) && decide (t.kind ≤ 4)) = true) ∨ ((t.kind == 1) = false ∧ (t.kind == 2) = false ∧ (t.kind == 3) = false ∧ (decide (1 ≤ t.kind) && decide (t.kind ≤ 4)) = true) ∨ ((t.kind == 1) = false ∧ (t.kind == 2) = false ∧ (t.kind == 3) = false ∧ (decide (1 ≤ t.kind) && decide (t.kind ≤ 4)) = false) := by
    by_cases h1 : t.kind = 1
    · simp [h1]
    · by_cases h2 : t.kind = 2
      · simp [h2]
      · by_cases h3 : t.kind = 3
        · simp [h3]
        · by_cases h4 : 1 ≤ t.kind ∧ t.kind ≤ 4
          · simp [h1, h2, h3, h4]
          · have : (decide (1 ≤ t.kind) && decide (t.kind ≤ 4)) = false := by
              by_cases h5 : 1 ≤ t.kind
              · have h6 : ¬ t.kind ≤ 4 := fun h6 => h4 ⟨h5, h6⟩
                simp [h6]
              · simp [h5]
            simp [h1, h2, h3, this]
  rcases hk with ⟨e1, e2, e3, hin⟩ | ⟨e1, e2, e3, hin⟩ | ⟨e1, e2, e3, hin⟩ | ⟨e1, e2, e3, hin⟩ | ⟨e1, e2, e3, hin⟩ <;> cases en : (t.num == 0) <;> cases ez : (t.name.toList == [])
  all_goals
    have HB : Hid _ := bare_of t _ _ _ _ _ _ e1 e2 e3 hin en ez
    rw [HB.out]
    clear HB
    go_enter Tryz.func55, Tryz.ntmps55
    go_wp2_with (go_at_call 57; refine (l1In_any _ _ _ _).mono ?_; rintro e w' ⟨rfl, rfl⟩)
    go_ret
    exact ⟨rfl, rfl⟩
end Go.Proofs.YtoljpgpkeploiaaGreatDoor
/-
  The model's DataFault: what is wrong with data, datum by datum; nothing is turned.
-/
namespace Go.Proofs.YtoljpgpkeploiaaGreatDoor
open Go.RowKit Go.Extern.Stop Go.Stop Go.Extern Num Go.Lib

def rangeBad (t : Dat) : Bool := (t.kind == 1 && !(inB t.num)) || (t.kind == 2 && !(decide (0 ≤ t.num) && decide (t.num ≤ 1)))
def symBad (t : Dat) : Bool := t.kind == 3 && !(symL t.name.data.toList)
def parBad (i : Nat) (p : Int) : Bool := (i == 0 && p != -1) || (decide (0 < i) && !(decide (0 ≤ p) && decide (p ≤ (i : Int) - 1)))
/-- What is wrong with the datum at a place. -/
def chkD (l : List Dat) (i : Nat) (t : Dat) : Int :=
  if bareB t = false then 1 else if rangeBad t = true then 3 else if symBad t = true then 5 else if parBad i t.parent = true then 3 else if (decide (0 < i) && !(lineB l i)) = true then 1 else if 12 < deepF l 100 (i : Int) then 2 else 0
/-- The first fault, from a place on. -/
def faultFrom (l : List Dat) : Nat → List Dat → Int
  | _, [] => 0
  | i, t :: r => if chkD l i t = 0 then faultFrom l (i + 1) r else chkD l i t
def dataFault (l : List Dat) : Int := if l.length < 1 ∨ 80 < l.length then 2 else faultFrom l 0 l
/-- All is well up to a place. -/
def okUpto (l : List Dat) (k : Nat) : Prop := ∀ (j : Nat) (h : j < l.length), j < k → chkD l j l[j] = 0
theorem faultFrom_drop (l : List Dat) (k : Nat) (hok : okUpto l k) (hk : k ≤ l.length) : faultFrom l 0 l = faultFrom l k (l.drop k) := by
  induction k with
  | zero => simp
  | succ k ih =>
    have hk' : k < l.length := by omega
    rw [ih (fun j h hj => hok j h (by omega)) (by omega), List.drop_eq_getElem_cons hk', faultFrom, if_pos (hok k hk' (by omega))]
theorem fault_hit (l : List Dat) (k : Nat) (hk : k < l.length) (hok : okUpto l k) (hc : chkD l k l[k] ≠ 0) : faultFrom l 0 l = chkD l k l[k] := by
  rw [faultFrom_drop l k hok (by omega), List.drop_eq_getElem_cons hk, faultFrom, if_neg hc]
theorem fault_end (l : List Dat) (hok : okUpto l l.length) : faultFrom l 0 l = 0 := by
  rw [faultFrom_drop l l.length hok (Nat.le_refl _)]; simp [faultFrom]
theorem okUpto_next {l : List Dat} {k : Nat} (h : okUpto l k) (hk : k < l.length) (hc : chkD l k l[k] = 0) : okUpto l (k + 1) := by
  intro j hj hjk
  by_cases e : j < k
  · exact h j hj e
  · have : j = k := by omega
    subst this; exact hc
theorem parBad_lt {i : Nat} {p : Int} (h : parBad i p = false) : p < (i : Int) ∧ -1 ≤ p := by
  unfold parBad at h
  by_cases h0 : i = 0
  · subst h0
    simp at h
    omega
  · have h1 : 0 < i := by omega
    have h2 : (i == 0) = false := by simpa using h0
    rw [h2] at h
    simp [h1] at h
    omega
theorem chk_par {l : List Dat} {i : Nat} {t : Dat} (h : chkD l i t = 0) : t.parent < (i : Int) ∧ -1 ≤ t.parent := by
  apply parBad_lt
  unfold chkD at h
  cases hp : parBad i t.parent with
  | false => rfl
  | true =>
    exfalso
    rw [hp] at h
    split at h
    · cases h
    · split at h
      · cases h
      · split at h
        · cases h
        · simp at h
theorem chk_bare {l : List Dat} {k : Nat} {t : Dat} (h : bareB t = false) : chkD l k t = 1 := by simp [chkD, h]
theorem chk_range {l : List Dat} {k : Nat} {t : Dat} (h : bareB t = true) (h2 : rangeBad t = true) : chkD l k t = 3 := by simp [chkD, h, h2]
theorem chk_sym {l : List Dat} {k : Nat} {t : Dat} (h : bareB t = true) (h2 : rangeBad t = false) (h3 : symBad t = true) : chkD l k t = 5 := by simp [chkD, h, h2, h3]
theorem chk_parent {l : List Dat} {k : Nat} {t : Dat} (h : bareB t = true) (h2 : rangeBad t = false) (h3 : symBad t = false) (h4 : parBad k t.parent = true) : chkD l k t = 3 := by simp [chkD, h, h2, h3, h4]
theorem chk_line {l : List Dat} {k : Nat} {t : Dat} (h : bareB t = true) (h2 : rangeBad t = false) (h3 : symBad t = false) (h4 : parBad k t.parent = false) (h5 : (decide (0 < k) && !(lineB l k)) = true) : chkD l k t = 1 := by
  unfold chkD
  rw [h, h2, h3, h4, if_neg (by decide), if_neg (by decide), if_neg (by decide), if_neg (by decide), if_pos h5]
theorem chk_deep {l : List Dat} {k : Nat} {t : Dat} (h : bareB t = true) (h2 : rangeBad t = false) (h3 : symBad t = false) (h4 : parBad k t.parent = false) (h5 : (decide (0 < k) && !(lineB l k)) = false) : chkD l k t = if 12 < deepF l 100 (k : Int) then 2 else 0 := by
  unfold chkD
  rw [h, h2, h3, h4, h5, if_neg (by decide), if_neg (by decide), if_neg (by decide), if_neg (by decide), if_neg (by decide)]
def KF (t : Dat) : Prop := ((t.kind == 1) = true ∧ (t.kind == 2) = false ∧ (t.kind == 3) = false) ∨ ((t.kind == 1) = false ∧ (t.kind == 2) = true ∧ (t.kind == 3) = false) ∨ ((t.kind == 1) = false ∧ (t.kind == 2) = false ∧ (t.kind == 3) = true) ∨ ((t.kind == 1) = false ∧ (t.kind == 2) = false ∧ (t.kind == 3) = false)
theorem kf (t : Dat) : KF t := by
  unfold KF
  by_cases h1 : t.kind = 1
  · simp [h1]
  · by_cases h2 : t.kind = 2
    · simp [h2]
    · by_cases h3 : t.kind = 3
      · simp [h3]
      · simp [h1, h2, h3]
set_option maxRecDepth 100000 in
set_option maxHeartbeats 8000000 in
theorem l3Fault_few (g cap : Nat) (l : List Dat) (w : World) (hR : RowD w g l) (h1 : 1 ≤ (l.length : Int)) (h80 : (l.length : Int) ≤ 80) (hz : ∀ (k : Nat) (h : k < l.length), l[k].name.size ≤ 9223372036854775807) :
    Calls Tryz.prog 29 #[.slice (some ⟨g, 0, none⟩) l.length cap] w fun e w' => e = .returned (.int .i64 (faultFrom l 0 l)) ∧ w' = w := by
  have HR : Hid (RowD w g l) := hR
  have HZ : Hid (∀ (k : Nat) (h : k < l.length), l[k].name.size ≤ 9223372036854775807) := hz
  clear hR hz
  obtain ⟨R, hRe⟩ : ∃ R : Int, R = faultFrom l 0 l := ⟨_, rfl⟩
  rw [← hRe]
  have HE : Hid (R = faultFrom l 0 l) := hRe
  clear hRe
  go_enter Tryz.func29, Tryz.ntmps29
  go_wp2_with fail
  go_loopw [3, 4] (fun v x wr => ∃ k : Nat, k ≤ l.length ∧ v = .int .i64 (k : Int) ∧ Hid (okUpto l k) ∧ Hid (wr = w)) (fun v _ _ => l.length - (RowKit.intOf v).toNat)
  case atStart => exact ⟨0, Nat.zero_le _, rfl, fun j _ hj => by omega, rfl⟩
  case round =>
    obtain ⟨k, hk, rfl, HK, HW⟩ := hrel
    have hww : wr = w := HW.out
    subst hww
    by_cases hlt : k < l.length
    · obtain ⟨t, ht⟩ : ∃ t, t = l[k]'hlt := ⟨_, rfl⟩
      have HT : Hid (t = l[k]'hlt) := ht
      have hcs := HR.out k hlt
      rw [← ht] at hcs
      clear ht
      obtain ⟨c0, c1, c2, c3⟩ := hcs
      have HBr : Hid (Calls Tryz.prog 55 #[.pointer (some ⟨g, k * 4, none⟩)] wr fun e w' => e = .returned (.bool (bareB t)) ∧ w' = wr) := l3Bare_any g (k * 4) t wr c0 c2 c3
      have HRet : Hid (chkD l k t ≠ 0 → R = chkD l k t) := fun h => by rw [HE.out, fault_hit l k hlt HK.out (by rw [← HT.out]; exact h), ← HT.out]
      have HNu : Hid (∀ w, Calls Tryz.prog 56 #[.int .i64 t.num] w fun e w' => e = .returned (.bool (inB t.num)) ∧ w' = w) := fun w => l1Num_any t.num w
      have HSy : Hid (∀ w, Calls Tryz.prog 58 #[.string t.name] w fun e w' => e = .returned (.bool (symL t.name.data.toList)) ∧ w' = w) := fun w => sym_any t.name w (by rw [HT.out]; exact HZ.out k hlt)
      cases hb : bareB t
      · rw [hb] at HBr
        have HC : Hid (R = 1) := by
          have e := chk_bare (l := l) (k := k) hb
          have := HRet.out (by rw [e]; decide)
          show R = 1
          rw [this, e]
        clear hb
        go_wp2_with (go_at_call 55; refine HBr.out.mono ?_; rintro e w' ⟨rfl, rfl⟩)
        go_ret
        exact ⟨by rw [HC.out]; rfl, rfl⟩
      rw [hb] at HBr
      have HBa : Hid (bareB t = true) := hb
      clear hb
      go_upto_region 9 with (go_at_call 55; refine HBr.out.mono ?_; rintro e w' ⟨rfl, hw'⟩; replace hw' := hw'.symm; subst hw')
      go_cut [52] from 13 to 100 (fun v wx => v = .bool (rangeBad t) ∧ wx = wr)
      case first =>
        rcases kf t with ⟨e1, e2, -⟩ | ⟨e1, e2, -⟩ | ⟨e1, e2, -⟩ | ⟨e1, e2, -⟩ <;> cases hnu : inB t.num <;> cases h01 : (decide (0 ≤ t.num) && decide (t.num ≤ 1))
        all_goals
          have HV : Hid (rangeBad t = ((t.kind == 1 && !(inB t.num)) || (t.kind == 2 && !(decide (0 ≤ t.num) && decide (t.num ≤ 1))))) := rfl
          go_wp2_with (first | (go_at_call 56; refine (HNu.out _).mono ?_; rintro e w' ⟨rfl, hw'⟩; replace hw' := hw'.symm; subst hw') | (go_at_call 57; refine (l1In_any _ _ _ _).mono ?_; rintro e w' ⟨rfl, hw'⟩; replace hw' := hw'.symm; subst hw'))
          go_meet
          exact ⟨by rw [HV.out, e1, e2, hnu, h01]; rfl, rfl⟩
      case rest =>
        obtain ⟨rfl, hwc⟩ := hcut
        replace hwc := hwc.symm; subst hwc
        rcases Bool.eq_false_or_eq_true (rangeBad t) with hrb | hrb
        · rw [hrb]
          have HC : Hid (R = 3) := by
            have e := chk_range (l := l) (k := k) HBa.out hrb
            have := HRet.out (by rw [e]; decide)
            show R = 3
            rw [this, e]
          go_wp2
          go_ret
          exact ⟨by rw [HC.out]; rfl, rfl⟩
        rw [hrb]
        have HRa : Hid (rangeBad t = false) := hrb
        clear hrb
        go_upto_region 11 with fail
        go_cut [65] from 13 to 100 (fun v wx => v = .bool (symBad t) ∧ wx = wr)
        case first =>
          rcases kf t with ⟨-, -, e3⟩ | ⟨-, -, e3⟩ | ⟨-, -, e3⟩ | ⟨-, -, e3⟩ <;> cases hsy : symL t.name.data.toList
          all_goals
            have HV : Hid (symBad t = (t.kind == 3 && !(symL t.name.data.toList))) := rfl
            go_wp2_with (go_at_call 58; refine (HSy.out _).mono ?_; rintro e w' ⟨rfl, hw'⟩; replace hw' := hw'.symm; subst hw')
            go_meet
            exact ⟨by rw [HV.out, e3, hsy]; rfl, rfl⟩
        case rest =>
          obtain ⟨rfl, hwc⟩ := hcut
          replace hwc := hwc.symm; subst hwc
          rcases Bool.eq_false_or_eq_true (symBad t) with hsb | hsb
          · rw [hsb]
            have HC : Hid (R = 5) := by
              have e := chk_sym (l := l) (k := k) HBa.out HRa.out hsb
              have := HRet.out (by rw [e]; decide)
              show R = 5
              rw [this, e]
            go_wp2
            go_ret
            exact ⟨by rw [HC.out]; rfl, rfl⟩
          rw [hsb]
          have HSa : Hid (symBad t = false) := hsb
          clear hsb
          go_upto_region 13 with fail
          go_cut [88] from 13 to 100 (fun v wx => v = .bool (parBad k t.parent) ∧ wx = wr)
          case first =>
            by_cases hk0 : k = 0
            · have hkz : ((k : Int) == 0) = true := by rw [beq_iff_eq]; omega
              have HV : Hid (parBad k t.parent = (t.parent != -1)) := by show parBad k t.parent = _; rw [hk0]; simp [parBad]
              have hkn : ¬ 0 < (k : Int) := by omega
              clear hk0
              cases hm : (t.parent != -1)
              all_goals
                go_wp2
                go_meet
                exact ⟨by rw [HV.out, hm], rfl⟩
            · have hkz : ((k : Int) == 0) = false := by rw [beq_eq_false_iff_ne]; omega
              have hkp : 0 < (k : Int) := by omega
              have HV : Hid (parBad k t.parent = !(decide (0 ≤ t.parent) && decide (t.parent ≤ (k : Int) - 1))) := by
                have h1 : (k == 0) = false := by simpa using hk0
                have h2 : 0 < k := by omega
                show parBad k t.parent = _
                simp [parBad, h1, h2]
              clear hk0
              cases hin : (decide (0 ≤ t.parent) && decide (t.parent ≤ (k : Int) - 1))
              all_goals
                go_wp2_with (go_at_call 57; refine (l1In_any _ _ _ _).mono ?_; rintro e w' ⟨rfl, hw'⟩; replace hw' := hw'.symm; subst hw')
                go_meet
                exact ⟨by rw [HV.out, hin]; rfl, rfl⟩
          case rest =>
            obtain ⟨rfl, hwc⟩ := hcut
            replace hwc := hwc.symm; subst hwc
            rcases Bool.eq_false_or_eq_true (parBad k t.parent) with hpb | hpb
            · rw [hpb]
              have HC : Hid (R = 3) := by
                have e := chk_parent (l := l) (k := k) HBa.out HRa.out HSa.out hpb
                have := HRet.out (by rw [e]; decide)
                show R = 3
                rw [this, e]
              go_wp2
              go_ret
              exact ⟨by rw [HC.out]; rfl, rfl⟩
            rw [hpb]
            have HPa : Hid (parBad k t.parent = false) := hpb
            clear hpb
            have HPl : Hid (∀ (j : Nat) (h : j < l.length), j < k → l[j].parent < (j : Int)) := fun j h hj => (chk_par (HK.out j h hj)).1
            have HPm : Hid (∀ (j : Nat) (h : j < l.length), j ≤ k → l[j].parent ≤ (j : Int)) := fun j h hj => by
              by_cases e : j < k
              · have := HPl.out j h e; omega
              · have : j = k := by omega
                subst this
                have := (parBad_lt HPa.out).1
                rw [← HT.out]; omega
            go_upto_region 15 with fail
            go_cut [96] from 13 to 100 (fun v wx => v = .bool (decide (0 < k) && !(lineB l k)) ∧ wx = wr)
            case first =>
              by_cases hk0 : 0 < (k : Int)
              · have HV : Hid ((decide (0 < k) && !(lineB l k)) = !(lineB l k)) := by
                  have h2 : 0 < k := by omega
                  show (decide (0 < k) && !(lineB l k)) = _
                  simp [h2]
                have HLi : Hid (Calls Tryz.prog 59 #[.slice (some ⟨g, 0, none⟩) l.length cap, .int .i64 (k : Int)] wr fun e w' => e = .returned (.bool (lineB l k)) ∧ w' = wr) := l3Line_any g cap l wr k HR.out hlt (by omega) (by omega) HPl.out
                cases hli : lineB l k
                all_goals
                  rw [hli] at HLi
                  go_wp2_with (go_at_call 59; refine HLi.out.mono ?_; rintro e w' ⟨rfl, hw'⟩; replace hw' := hw'.symm; subst hw')
                  go_meet
                  exact ⟨by rw [HV.out, hli]; rfl, rfl⟩
              · have HV : Hid ((decide (0 < k) && !(lineB l k)) = false) := by
                  have h2 : ¬ 0 < k := by omega
                  show (decide (0 < k) && !(lineB l k)) = _
                  simp [h2]
                go_wp2
                go_meet
                exact ⟨by rw [HV.out], rfl⟩
            case rest =>
              obtain ⟨rfl, hwc⟩ := hcut
              replace hwc := hwc.symm; subst hwc
              rcases Bool.eq_false_or_eq_true (decide (0 < k) && !(lineB l k)) with hlb | hlb
              · rw [hlb]
                have HC : Hid (R = 1) := by
                  have e := chk_line (l := l) (k := k) HBa.out HRa.out HSa.out HPa.out hlb
                  have := HRet.out (by rw [e]; decide)
                  show R = 1
                  rw [this, e]
                go_wp2
                go_ret
                exact ⟨by rw [HC.out]; rfl, rfl⟩
              rw [hlb]
              have HD : Hid (Calls Tryz.prog 60 #[.slice (some ⟨g, 0, none⟩) l.length cap, .int .i64 (k : Int)] wr fun e w' => e = .returned (.int .i64 (deepF l 100 (k : Int) : Nat)) ∧ w' = wr) := l3Deep_any g cap l wr k (k : Int) HR.out hlt HPm.out (Int.le_refl _)
              have HCk : Hid (chkD l k t = if 12 < deepF l 100 (k : Int) then 2 else 0) := chk_deep HBa.out HRa.out HSa.out HPa.out hlb
              clear hlb
              generalize deepF l 100 (k : Int) = dp at HD HCk
              by_cases h12 : 12 < (dp : Int)
              · have HC : Hid (R = 2) := by
                  have e := HCk.out
                  rw [if_pos (by omega)] at e
                  have := HRet.out (by rw [e]; decide)
                  show R = 2
                  rw [this, e]
                go_wp2_with (go_at_call 60; refine HD.out.mono ?_; rintro e w' ⟨rfl, hw'⟩; replace hw' := hw'.symm; subst hw')
                go_ret
                exact ⟨by rw [HC.out]; rfl, rfl⟩
              · have HN : Hid (okUpto l (k + 1)) := okUpto_next HK.out hlt (by
                  have e := HCk.out
                  rw [if_neg (by omega)] at e
                  rw [← HT.out]; exact e)
                go_wp2_with (go_at_call 60; refine HD.out.mono ?_; rintro e w' ⟨rfl, hw'⟩; replace hw' := hw'.symm; subst hw')
                exact ⟨⟨k + 1, by omega, by go_num, HN.out, trivial⟩, by simp [RowKit.intOf]; omega⟩
    · have HC : Hid (R = 0) := by
        have hkl : k = l.length := by omega
        have hok := HK.out
        rw [hkl] at hok
        show R = 0
        rw [HE.out, fault_end l hok]
      go_wp2
      go_ret
      exact ⟨by rw [HC.out]; rfl, rfl⟩
theorem l3Fault_none (ao : Option Addr) (n cap : Nat) (w : World) (h : (n : Int) < 1) :
    Calls Tryz.prog 29 #[.slice ao n cap] w fun e w' => e = .returned (.int .i64 2) ∧ w' = w := by
  go_enter Tryz.func29, Tryz.ntmps29
  go_wp2
  go_ret
  exact ⟨rfl, rfl⟩
theorem l3Fault_many (ao : Option Addr) (n cap : Nat) (w : World) (h1 : ¬ (n : Int) < 1) (h : 80 < (n : Int)) :
    Calls Tryz.prog 29 #[.slice ao n cap] w fun e w' => e = .returned (.int .i64 2) ∧ w' = w := by
  go_enter Tryz.func29, Tryz.ntmps29
  go_wp2
  go_ret
  exact ⟨rfl, rfl⟩
theorem l3Fault_any (ao : Option Addr) (cap base : Nat) (l : List Dat) (w : World) (h : w.ownsRow base 61 4 (.slice ao l.length cap) l.length (cellsD l)) (hz : ∀ (k : Nat) (h : k < l.length), l[k].name.size ≤ 9223372036854775807) :
    Calls Tryz.prog 29 #[.slice ao l.length cap] w fun e w' => e = .returned (.int .i64 (dataFault l)) ∧ w' = w := by
  by_cases h1 : (l.length : Int) < 1
  · have e : dataFault l = 2 := by unfold dataFault; rw [if_pos (by omega)]
    rw [e]; exact l3Fault_none ao l.length cap w h1
  · by_cases h2 : 80 < (l.length : Int)
    · have e : dataFault l = 2 := by unfold dataFault; rw [if_pos (by omega)]
      rw [e]; exact l3Fault_many ao l.length cap w h1 h2
    · have e : dataFault l = faultFrom l 0 l := by unfold dataFault; rw [if_neg (by omega)]
      rw [e]
      obtain ⟨g, c, hv, _, _⟩ := h.form (by omega)
      obtain ⟨rfl, rfl⟩ : ao = some ⟨g, 0, none⟩ ∧ cap = c := by simp at hv; exact hv
      exact l3Fault_few g cap l w (RowD.of h) (by omega) (by omega) hz
theorem name_le {l : List Dat} (h : ∀ (k : Nat) (h : k < l.length), l[k].name.size ≤ 1048576) : ∀ (k : Nat) (h : k < l.length), l[k].name.size ≤ 9223372036854775807 := fun k hk => by have := h k hk; omega
end Go.Proofs.YtoljpgpkeploiaaGreatDoor
/-
  The model's l3Asked, l3Parts and PartsOf: the places of a datum's parts; nothing that was there is turned.
-/
namespace Go.Proofs.YtoljpgpkeploiaaGreatDoor
open Go.RowKit Go.Extern.Stop Go.Stop Go.Extern Num Go.Lib

/-- The places, below k, of the parts of a place. -/
def partsTo (l : List Dat) (a : Int) : Nat → List Int
  | 0 => []
  | k + 1 => if par l k = a then partsTo l a k ++ [(k : Int)] else partsTo l a k
def partsD (l : List Dat) (a : Int) : List Int := partsTo l a l.length
theorem partsTo_len (l : List Dat) (a : Int) (k : Nat) : (partsTo l a k).length ≤ k := by
  induction k with
  | zero => simp [partsTo]
  | succ k ih =>
    simp only [partsTo]
    split
    · rw [List.length_append]; simp; omega
    · omega
set_option maxRecDepth 100000 in
set_option maxHeartbeats 2000000 in
theorem l3Parts_any (g cap : Nat) (l : List Dat) (a : Int) (w : World) (hR : RowD w g l) (hl : l.length ≤ 1048576) :
    Calls Tryz.prog 39 #[.slice (some ⟨g, 0, none⟩) l.length cap, .int .i64 a] w fun e w' => ∃ q c, e = .returned (.slice (some ⟨q, 0, none⟩) (partsD l a).length c) ∧ w'.ownsRow w.heap.size 2 1 (.slice (some ⟨q, 0, none⟩) (partsD l a).length c) (partsD l a).length (cellsI (partsD l a)) ∧ Below w.heap.size w w' := by
  have HR : Hid (RowD w g l) := hR
  obtain ⟨i0, hi, hz0, hz1, hz2⟩ := info_parts infoI
  clear hR
  go_enter Tryz.func39, Tryz.ntmps39
  go_wp2_with fail
  go_loopw [5, 6] (fun v i wr => ∃ (k q c : Nat) (L : List Int), k ≤ l.length ∧ i = .int .i64 (k : Int) ∧ v = .slice (some ⟨q, 0, none⟩) L.length c ∧ L.length ≤ k ∧ Hid (L = partsTo l a k) ∧ Hid (wr.ownsRow w.heap.size 2 1 (.slice (some ⟨q, 0, none⟩) L.length c) L.length (cellsI L)) ∧ Hid (Below w.heap.size w wr)) (fun _ i _ => l.length - (RowKit.intOf i).toNat)
  case atStart => exact ⟨0, _, _, [], Nat.zero_le _, rfl, rfl, Nat.le_refl _, rfl, World.ownsRow_made _ #[] 0 (Nat.le_refl _) (Nat.zero_le _) rfl, (Below.refl _ _).alloc (Nat.le_refl _) _⟩
  case round =>
    obtain ⟨k, q, c, L, hk, rfl, rfl, hLk, HL, HO, HB⟩ := hrel
    have hz : w.heap.size ≤ wr.heap.size := HB.out.size
    by_cases hlt : k < l.length
    · have c1 : wr.cell? ⟨g, k * 4 + 1, none⟩ = some (.int .i64 (l[k]'hlt).parent) := (HR.out.below HB.out k hlt).2.1
      by_cases he : (l[k]'hlt).parent = a
      · have hb : ((l[k]'hlt).parent == a) = true := by simpa using he
        have HL2 : Hid (L ++ [(k : Int)] = partsTo l a (k + 1)) := by
          show _ = _
          rw [partsTo, par_at l k hlt, if_pos he, HL.out]
        clear he
        go_wp2_with (first | (at_builtin; refine wpList_append_lies _ rfl (.tmp 21) (.tmp 23) 38 rfl w.heap.size 2 i0 _ 1 8 Tryz.underlying38 hi hz0 hz1 hz2 rfl (by decide) _ L.length (cellsI L) rfl (HO.out.alloc _) ⟨_, 0, none⟩ 1 1 [.int .i64 (k : Int)] rfl rfl ?c1 ?c2 (by decide) ?c3 ?c4 ?c5 _ rfl ?_))
        case c1 => exact newsI (heap_new' _ _ _ (by simp))
        case c2 => intro u hu; simp at hu; subst hu; rfl
        case c3 => unfold maxLen; omega
        case c4 => omega
        case c5 => simp; omega
        intro g' cap' w1 hown1 hgrow1 _ _
        have HO1 : Hid (w1.ownsRow w.heap.size 2 1 (.slice (some ⟨g', 0, none⟩) (L ++ [(k : Int)]).length cap') (L ++ [(k : Int)]).length (cellsI (L ++ [(k : Int)]))) := by
          rw [cellsI_append, List.length_append]
          exact hown1
        have HB1 : Hid (Below w.heap.size w w1) := (HB.out.alloc hz _).grown hgrow1 (by simp; omega) (fun j hj => (HO.out.lt j hj).1)
        clear hown1 hgrow1
        go_wp2
        exact ⟨⟨k + 1, g', cap', L ++ [(k : Int)], by omega, by go_num, by simp, by simp; omega, HL2.out, HO1.out, HB1.out⟩, by simp [RowKit.intOf]; omega⟩
      · have hb : ((l[k]'hlt).parent == a) = false := by simpa using he
        have HL2 : Hid (L = partsTo l a (k + 1)) := by
          show _ = _
          rw [partsTo, par_at l k hlt, if_neg he, HL.out]
        clear he
        go_wp2
        exact ⟨⟨k + 1, q, c, L, by omega, by go_num, rfl, by omega, HL2.out, HO.out, HB.out⟩, by simp [RowKit.intOf]; omega⟩
    · have HF : Hid (L = partsD l a) := by
        have hkl : k = l.length := by omega
        show L = partsTo l a l.length
        rw [HL.out, hkl]
      go_wp2
      go_ret
      rw [← HF.out]
      exact ⟨q, c, rfl, HO.out, HB.out⟩
/-- What is asked ahead of a place. -/
def askD (l : List Dat) (a : Int) : Int := if dataFault l ≠ 0 then dataFault l else if 0 ≤ a ∧ a ≤ (l.length : Int) - 1 then 0 else 3
theorem l3Asked_any (ao : Option Addr) (cap base : Nat) (l : List Dat) (a : Int) (w : World) (h : w.ownsRow base 61 4 (.slice ao l.length cap) l.length (cellsD l)) (hl : l.length ≤ 1048576) (hz : ∀ (k : Nat) (h : k < l.length), l[k].name.size ≤ 9223372036854775807) :
    Calls Tryz.prog 34 #[.slice ao l.length cap, .int .i64 a] w fun e w' => e = .returned (.int .i64 (askD l a)) ∧ w' = w := by
  have HF : Hid (Calls Tryz.prog 29 #[.slice ao l.length cap] w fun e w' => e = .returned (.int .i64 (dataFault l)) ∧ w' = w) := l3Fault_any ao cap base l w h hz
  clear h hz
  by_cases hf : dataFault l = 0
  · cases hin : (decide (0 ≤ a) && decide (a ≤ (l.length : Int) - 1))
    · have e : askD l a = 3 := by
        unfold askD
        rw [if_neg (by simpa using hf), if_neg]
        intro h
        simp [h] at hin
      rw [e]
      rw [hf] at HF
      clear e hf
      go_enter Tryz.func34, Tryz.ntmps34
      go_wp2_with (first | (go_at_call 29; refine HF.out.mono ?_; rintro e w' ⟨rfl, rfl⟩) | (go_at_call 57; refine (l1In_any _ _ _ _).mono ?_; rintro e w' ⟨rfl, rfl⟩))
      go_ret
      exact ⟨rfl, rfl⟩
    · have e : askD l a = 0 := by
        unfold askD
        rw [if_neg (by simpa using hf), if_pos]
        simpa using hin
      rw [e]
      rw [hf] at HF
      clear e hf
      go_enter Tryz.func34, Tryz.ntmps34
      go_wp2_with (first | (go_at_call 29; refine HF.out.mono ?_; rintro e w' ⟨rfl, rfl⟩) | (go_at_call 57; refine (l1In_any _ _ _ _).mono ?_; rintro e w' ⟨rfl, rfl⟩))
      go_ret
      exact ⟨rfl, rfl⟩
  · have e : askD l a = dataFault l := by unfold askD; rw [if_pos hf]
    rw [e]
    have hb : (dataFault l != 0) = true := by simpa using hf
    clear e hf
    go_enter Tryz.func34, Tryz.ntmps34
    go_wp2_with (go_at_call 29; refine HF.out.mono ?_; rintro e w' ⟨rfl, rfl⟩)
    go_ret
    exact ⟨rfl, rfl⟩
/-- An answer of PartsOf. -/
def AnsP (l : List Dat) (a : Int) (w : World) (e : Ending) (w' : World) : Prop :=
  ∃ ao c, e = .returned (.agg #[.int .i64 (askD l a), .slice ao (if askD l a = 0 then partsD l a else []).length c]) ∧ w'.ownsRow w.heap.size 2 1 (.slice ao (if askD l a = 0 then partsD l a else []).length c) (if askD l a = 0 then partsD l a else []).length (cellsI (if askD l a = 0 then partsD l a else [])) ∧ Below w.heap.size w w'
end Go.Proofs.YtoljpgpkeploiaaGreatDoor
/-
  The model's l3Sub and SubData: a datum with all its parts, as data by themselves; nothing that was there is turned.
-/
namespace Go.Proofs.YtoljpgpkeploiaaGreatDoor
open Go.RowKit Go.Extern.Stop Go.Stop Go.Extern Num Go.Lib

/-- A datum as part of what is taken out at a place. -/
def shiftD (a i : Nat) (t : Dat) : Dat := ⟨t.kind, if i = a then -1 else t.parent - (a : Int), t.num, t.name⟩
/-- What is taken out, from a place on. -/
def subFrom (l : List Dat) (a : Nat) : Nat → Nat → List Dat
  | 0, _ => []
  | f + 1, i => match l[i]? with
    | none => []
    | some t => if i = a ∨ deepF l 100 (a : Int) < deepF l 100 (i : Int) then shiftD a i t :: subFrom l a f (i + 1) else []
def subD (l : List Dat) (a : Nat) : List Dat := subFrom l a l.length a
theorem subFrom_end (l : List Dat) (a f i : Nat) (h : l.length ≤ i) : subFrom l a f i = [] := by
  cases f with
  | zero => rfl
  | succ f => simp [subFrom, List.getElem?_eq_none h]
theorem subFrom_on (l : List Dat) (a f i : Nat) (h : i < l.length) (hd : i = a ∨ deepF l 100 (a : Int) < deepF l 100 (i : Int)) : subFrom l a (f + 1) i = shiftD a i l[i] :: subFrom l a f (i + 1) := by
  simp only [subFrom, List.getElem?_eq_getElem h, if_pos hd]
theorem subFrom_off (l : List Dat) (a f i : Nat) (h : i < l.length) (hd : ¬ (i = a ∨ deepF l 100 (a : Int) < deepF l 100 (i : Int))) : subFrom l a (f + 1) i = [] := by
  simp only [subFrom, List.getElem?_eq_getElem h, if_neg hd]
theorem news4 {W : World} {b : Nat} {x y z v : Value} {ty : TypeId} {fr : Nat × Nat} (h : W.heap[b]? = some (.cells #[x, y, z, v] ty fr)) : ∀ j u, [x, y, z, v][j]? = some u → W.cell? ((⟨b, 0, none⟩ : Addr).add j) = some u := by
  intro j u hj
  have ha : ∀ j, (⟨b, 0, none⟩ : Addr).add j = ⟨b, j, none⟩ := fun j => by unfold Addr.add; split <;> simp_all
  rw [ha, cell_of_row W b j _ ty fr h]
  match j, hj with
  | 0, hj => simpa using hj
  | 1, hj => simpa using hj
  | 2, hj => simpa using hj
  | 3, hj => simpa using hj
/-- Data with which nothing is wrong. -/
structure Fine (l : List Dat) : Prop where
  pos : 0 < l.length
  len : l.length ≤ 80
  ok : okUpto l l.length
theorem fine_of {l : List Dat} (h : dataFault l = 0) : Fine l := by
  unfold dataFault at h
  split at h
  · cases h
  · rename_i hn
    refine ⟨by omega, by omega, ?_⟩
    have key : ∀ k, k ≤ l.length → okUpto l k := by
      intro k
      induction k with
      | zero => intro _ j _ hj; omega
      | succ k ih =>
        intro hk
        have h1 := ih (by omega)
        refine okUpto_next h1 (by omega) ?_
        by_cases hc : chkD l k (l[k]'(by omega)) = 0
        · exact hc
        · exfalso
          rw [fault_hit l k (by omega) h1 hc] at h
          exact hc h
    exact key l.length (Nat.le_refl _)
theorem Fine.parent {l : List Dat} (h : Fine l) (j : Nat) (hj : j < l.length) : l[j].parent < (j : Int) ∧ -1 ≤ l[j].parent := chk_par (h.ok j hj hj)
theorem Fine.le {l : List Dat} (h : Fine l) (i : Nat) : ∀ (j : Nat) (hj : j < l.length), j ≤ i → l[j].parent ≤ (j : Int) := fun j hj _ => by have := (h.parent j hj).1; omega
/-- Behind an append of one datum. -/
theorem datD_next {w W w1 : World} {B g c g' c' : Nat} {l : List Dat} {t : Dat}
    (hown : W.ownsRow B 61 4 (.slice (some ⟨g, 0, none⟩) l.length c) l.length (cellsD l)) (hb : Below B w W) (hB : B ≤ W.heap.size)
    (hown' : w1.ownsRow B 61 4 (.slice (some ⟨g', 0, none⟩) (l.length + 1) c') (l.length + 1) (cellsD l ++ [.int .i64 t.kind, .int .i64 t.parent, .int .i64 t.num, .string t.name])) (hgrow : W.grownBy w1 (Value.slice (some ⟨g, 0, none⟩) l.length c).ownBlock) :
    w1.ownsRow B 61 4 (.slice (some ⟨g', 0, none⟩) (l ++ [t]).length c') (l ++ [t]).length (cellsD (l ++ [t])) ∧ Below B w w1 := by
  refine ⟨?_, hb.grown hgrow hB (fun j hj => (hown.lt j hj).1)⟩
  rw [cellsD_append, List.length_append]
  exact hown'
set_option maxRecDepth 100000 in
set_option maxHeartbeats 4000000 in
theorem l3Sub_any (g cap : Nat) (l : List Dat) (a : Nat) (w : World) (hR : RowD w g l) (hF : Fine l) (ha : a < l.length) :
    Calls Tryz.prog 35 #[.slice (some ⟨g, 0, none⟩) l.length cap, .int .i64 (a : Int)] w fun e w' => ∃ q c, e = .returned (.slice (some ⟨q, 0, none⟩) (subD l a).length c) ∧ w'.ownsRow w.heap.size 61 4 (.slice (some ⟨q, 0, none⟩) (subD l a).length c) (subD l a).length (cellsD (subD l a)) ∧ Below w.heap.size w w' := by
  have HR : Hid (RowD w g l) := hR
  have HF : Hid (Fine l) := hF
  have hlen : l.length ≤ 80 := hF.len
  obtain ⟨i0, hi, hz0, hz1, hz2⟩ := info_parts infoD
  clear hR hF
  have HD : Hid (∀ (i : Nat) (u : World), i < l.length → RowD u g l → Calls Tryz.prog 60 #[.slice (some ⟨g, 0, none⟩) l.length cap, .int .i64 (i : Int)] u fun e w' => e = .returned (.int .i64 (deepF l 100 (i : Int) : Nat)) ∧ w' = u) := fun i u hi hu => l3Deep_any g cap l u i (i : Int) hu hi (HF.out.le i) (Int.le_refl _)
  obtain ⟨dp, hdp⟩ : ∃ dp, dp = deepF l 100 (a : Int) := ⟨_, rfl⟩
  have HDa : Hid (Calls Tryz.prog 60 #[.slice (some ⟨g, 0, none⟩) l.length cap, .int .i64 (a : Int)] w fun e w' => e = .returned (.int .i64 (dp : Int)) ∧ w' = w) := by rw [hdp]; exact HD.out a w ha HR.out
  have HDP : Hid (dp = deepF l 100 (a : Int)) := hdp
  clear hdp
  go_enter Tryz.func35, Tryz.ntmps35
  go_wp2_with fail
  refine HDa.out.mono ?_
  rintro e w' ⟨rfl, hw'⟩
  replace hw' := hw'.symm
  subst hw'
  go_wp2_with fail
  go_loopw [6, 7, 8] (fun v m x wr => ∃ (i q c f : Nat) (D : List Dat), a ≤ i ∧ i ≤ l.length ∧ m = .int .i64 (i : Int) ∧ v = .slice (some ⟨q, 0, none⟩) D.length c ∧ D.length ≤ i ∧ f + i = l.length + a ∧ Hid (D ++ subFrom l a f i = subD l a) ∧ Hid (wr.ownsRow w.heap.size 61 4 (.slice (some ⟨q, 0, none⟩) D.length c) D.length (cellsD D)) ∧ Hid (Below w.heap.size w wr)) (fun _ m _ _ => l.length - (RowKit.intOf m).toNat)
  case atStart => exact ⟨a, _, _, l.length, [], Nat.le_refl _, by omega, rfl, rfl, Nat.zero_le _, rfl, rfl, World.ownsRow_made _ #[] 0 (Nat.le_refl _) (Nat.zero_le _) rfl, (Below.refl _ _).alloc (Nat.le_refl _) _⟩
  case round =>
    obtain ⟨i, q, c, f, D, hai, hil, rfl, rfl, hDi, hfi, HT, HO, HB⟩ := hrel
    have hz : w.heap.size ≤ wr.heap.size := HB.out.size
    by_cases hlt : i < l.length
    · obtain ⟨c0, c1, c2, c3⟩ := HR.out.below HB.out i hlt
      have hpl := (HF.out.parent i hlt).1
      have hpm := (HF.out.parent i hlt).2
      obtain ⟨f', rfl⟩ : ∃ f', f = f' + 1 := ⟨f - 1, by omega⟩
      by_cases hia : i = a
      · have hb : ((i : Int) == (a : Int)) = true := by rw [beq_iff_eq]; omega
        have HN : Hid ((D ++ [⟨(l[i]'hlt).kind, -1, (l[i]'hlt).num, (l[i]'hlt).name⟩]) ++ subFrom l a f' (i + 1) = subD l a) := by
          have := HT.out
          rw [subFrom_on l a f' i hlt (Or.inl hia)] at this
          show _ = _
          rw [← this]
          simp [shiftD, hia]
        clear hia
        go_wp2_with (first | (at_builtin; refine wpList_append_lies _ rfl (.tmp 45) (.tmp 47) 25 rfl w.heap.size 61 i0 _ 4 40 Tryz.underlying25 hi hz0 hz1 hz2 rfl (by decide) _ D.length (cellsD D) rfl ?c0 ⟨_, 0, none⟩ 1 1 [.int .i64 (l[i]'hlt).kind, .int .i64 (-1), .int .i64 (l[i]'hlt).num, .string (l[i]'hlt).name] rfl rfl ?c1 ?c2 (by decide) ?c3 ?c4 ?c5 _ rfl ?_))
        case c0 => exact (HO.out.alloc _).alloc _
        case c1 => exact news4 (heap_new' _ _ _ (by simp))
        case c2 => intro u hu; simp at hu; rcases hu with rfl | rfl | rfl | rfl <;> rfl
        case c3 => unfold maxLen; omega
        case c4 => omega
        case c5 => simp; omega
        intro g' cap' w1 hown1 hgrow1 _ _
        have R : Hid _ := datD_next (t := ⟨(l[i]'hlt).kind, -1, (l[i]'hlt).num, (l[i]'hlt).name⟩) ((HO.out.alloc _).alloc _) ((HB.out.alloc hz _).alloc (by simp; omega) _) (by simp; omega) hown1 hgrow1
        clear hown1 hgrow1
        go_wp2
        exact ⟨⟨i + 1, g', cap', f', D ++ [_], by omega, by omega, by go_num, by simp, by simp; omega, by omega, HN.out, R.out.1, R.out.2⟩, by simp [RowKit.intOf]; omega⟩
      · have hb : ((i : Int) == (a : Int)) = false := by rw [beq_eq_false_iff_ne]; omega
        obtain ⟨di, hdi⟩ : ∃ di, di = deepF l 100 (i : Int) := ⟨_, rfl⟩
        have HDi : Hid (Calls Tryz.prog 60 #[.slice (some ⟨g, 0, none⟩) l.length cap, .int .i64 (i : Int)] wr fun e w' => e = .returned (.int .i64 (di : Int)) ∧ w' = wr) := by rw [hdi]; exact HD.out i wr hlt (HR.out.below HB.out)
        by_cases hd : (dp : Int) < (di : Int)
        · have HN : Hid ((D ++ [⟨(l[i]'hlt).kind, (l[i]'hlt).parent - (a : Int), (l[i]'hlt).num, (l[i]'hlt).name⟩]) ++ subFrom l a f' (i + 1) = subD l a) := by
            have := HT.out
            rw [subFrom_on l a f' i hlt (Or.inr (by rw [← HDP.out, ← hdi]; omega))] at this
            show _ = _
            rw [← this]
            simp [shiftD, hia]
          clear hia hdi
          go_wp2_with (first | (go_at_call 60; refine HDi.out.mono ?_; rintro e w' ⟨rfl, hw'⟩; replace hw' := hw'.symm; subst hw') | (at_builtin; refine wpList_append_lies _ rfl (.tmp 45) (.tmp 47) 25 rfl w.heap.size 61 i0 _ 4 40 Tryz.underlying25 hi hz0 hz1 hz2 rfl (by decide) _ D.length (cellsD D) rfl ?c0 ⟨_, 0, none⟩ 1 1 [.int .i64 (l[i]'hlt).kind, .int .i64 ((l[i]'hlt).parent - (a : Int)), .int .i64 (l[i]'hlt).num, .string (l[i]'hlt).name] rfl rfl ?c1 ?c2 (by decide) ?c3 ?c4 ?c5 _ rfl ?_))
          case c0 => exact (HO.out.alloc _).alloc _
          case c1 => exact news4 (heap_new' _ _ _ (by simp))
          case c2 => intro u hu; simp at hu; rcases hu with rfl | rfl | rfl | rfl <;> rfl
          case c3 => unfold maxLen; omega
          case c4 => omega
          case c5 => simp; omega
          intro g' cap' w1 hown1 hgrow1 _ _
          have R : Hid _ := datD_next (t := ⟨(l[i]'hlt).kind, (l[i]'hlt).parent - (a : Int), (l[i]'hlt).num, (l[i]'hlt).name⟩) ((HO.out.alloc _).alloc _) ((HB.out.alloc hz _).alloc (by simp; omega) _) (by simp; omega) hown1 hgrow1
          clear hown1 hgrow1
          go_wp2
          exact ⟨⟨i + 1, g', cap', f', D ++ [_], by omega, by omega, by go_num, by simp, by simp; omega, by omega, HN.out, R.out.1, R.out.2⟩, by simp [RowKit.intOf]; omega⟩
        · have HN : Hid (D = subD l a) := by
            have := HT.out
            rw [subFrom_off l a f' i hlt (by rw [← HDP.out, ← hdi]; omega), List.append_nil] at this
            exact this
          clear hia hdi
          go_wp2_with (go_at_call 60; refine HDi.out.mono ?_; rintro e w' ⟨rfl, hw'⟩; replace hw' := hw'.symm; subst hw')
          go_ret
          rw [← HN.out]
          exact ⟨q, c, rfl, HO.out, HB.out⟩
    · have HN : Hid (D = subD l a) := by
        have := HT.out
        rw [subFrom_end l a f i (by omega), List.append_nil] at this
        exact this
      go_wp2
      go_ret
      rw [← HN.out]
      exact ⟨q, c, rfl, HO.out, HB.out⟩
/-- An answer of SubData. -/
def outS (l : List Dat) (a : Int) : List Dat := if askD l a = 0 then subD l a.toNat else []
def AnsS (l : List Dat) (a : Int) (w : World) (e : Ending) (w' : World) : Prop :=
  ∃ ao c, e = .returned (.agg #[.int .i64 (askD l a), .int .i64 0, .slice ao (outS l a).length c]) ∧ w'.ownsRow w.heap.size 61 4 (.slice ao (outS l a).length c) (outS l a).length (cellsD (outS l a)) ∧ Below w.heap.size w w'
theorem ask_zero {l : List Dat} {a : Int} (h : askD l a = 0) : Fine l ∧ 0 ≤ a ∧ a < (l.length : Int) := by
  have hd : dataFault l = 0 := by
    by_cases hd : dataFault l = 0
    · exact hd
    · simp [askD, hd] at h
  unfold askD at h
  rw [if_neg (by simpa using hd)] at h
  split at h
  · rename_i h1
    exact ⟨fine_of hd, by omega, by omega⟩
  · cases h
theorem specSub_any (ao : Option Addr) (cap base : Nat) (l : List Dat) (a : Int) (w : World) (h : w.ownsRow base 61 4 (.slice ao l.length cap) l.length (cellsD l)) (hl : l.length ≤ 1048576) (hz : ∀ (k : Nat) (h : k < l.length), l[k].name.size ≤ 9223372036854775807) :
    Calls Tryz.prog 16 #[.slice ao l.length cap, .int .i64 a] w fun e w' => AnsS l a w e w' := by
  have HA : Hid (∀ o, Calls Tryz.prog 34 #[.slice ao l.length cap, .int .i64 a] (w.alloc o) fun e w' => e = .returned (.int .i64 (askD l a)) ∧ w' = w.alloc o) := fun o => l3Asked_any ao cap base l a (w.alloc o) (h.alloc _) hl hz
  by_cases hf : askD l a = 0
  · obtain ⟨hfi, ha0, ha1⟩ := ask_zero hf
    obtain ⟨g, c, hv, _, _⟩ := h.form hfi.pos
    obtain ⟨rfl, rfl⟩ : ao = some ⟨g, 0, none⟩ ∧ cap = c := by simp at hv; exact hv
    obtain ⟨k, rfl⟩ := Int.eq_ofNat_of_zero_le ha0
    have HP : Hid (∀ o, Calls Tryz.prog 35 #[.slice (some ⟨g, 0, none⟩) l.length cap, .int .i64 (k : Int)] (w.alloc o) fun e w' => ∃ q c, e = .returned (.slice (some ⟨q, 0, none⟩) (subD l k).length c) ∧ w'.ownsRow (w.alloc o).heap.size 61 4 (.slice (some ⟨q, 0, none⟩) (subD l k).length c) (subD l k).length (cellsD (subD l k)) ∧ Below (w.alloc o).heap.size (w.alloc o) w') := fun o => l3Sub_any g cap l k (w.alloc o) (RowD.of (h.alloc _)) hfi (by omega)
    have ho : outS l (k : Int) = subD l k := by simp [outS, hf]
    unfold AnsS
    rw [hf] at HA
    rw [hf, ho]
    clear hv h hf hz ho hfi
    generalize subD l k = L at HP
    go_enter Tryz.func16, Tryz.ntmps16
    go_wp2_with fail
    refine (HA.out _).mono ?_
    rintro e w' ⟨rfl, rfl⟩
    go_wp2_with fail
    refine (HP.out _).mono ?_
    rintro e w1 ⟨q, c, rfl, hown, hb⟩
    have HO : Hid (World.ownsRow w1 _ 61 4 (.slice (some ⟨q, 0, none⟩) L.length c) L.length (cellsD L)) := hown
    clear hown
    obtain ⟨hc, hf⟩ := bcell hb
    go_wp2
    refine bodyPost_ret (v := .agg #[.int .i64 0, .int .i64 0, .slice (some ⟨q, 0, none⟩) L.length c]) (by simp [results, Tryz.results16, go_sem, hc]) rfl ⟨_, _, rfl, ?_, ?_⟩
    · have h1 := own_base HO.out (show w.heap.size ≤ _ by simp)
      have h2 : ∀ g, (Value.slice (some ⟨q, 0, none⟩) L.length c).ownBlock = some g → w.heap.size < g := fun g hg => by have := (HO.out.lt g hg).1; simp at this; omega
      repeat (first | exact h1 | refine own_set' ?_ (fun g hg => by have := h2 g hg; show g ≠ w.heap.size; omega) _)
    · repeat (first | exact Below.refl _ _ | refine Below.setCell ?_ (by simp) _ | refine Below.trans ?_ (hb.mono (by simp)) | refine Below.alloc ?_ (by simp <;> omega) _)
  · have hb : (askD l a != 0) = true := by simpa using hf
    have ho : outS l a = [] := by simp [outS, hf]
    unfold AnsS
    rw [ho]
    clear hf h hz ho
    go_enter Tryz.func16, Tryz.ntmps16
    go_wp2_with (go_at_call 34; refine (HA.out _).mono ?_; rintro e w' ⟨rfl, rfl⟩)
    refine bodyPost_ret (v := .agg #[.int .i64 (askD l a), .int .i64 0, .slice none 0 0]) (by simp [results, Tryz.results16, go_sem]) rfl ⟨none, 0, rfl, World.ownsRow_nil _ _ _ _, ?_⟩
    repeat (first | exact Below.refl _ _ | refine Below.setCell ?_ (by simp) _ | refine Below.alloc ?_ (by simp <;> omega) _)
end Go.Proofs.YtoljpgpkeploiaaGreatDoor
