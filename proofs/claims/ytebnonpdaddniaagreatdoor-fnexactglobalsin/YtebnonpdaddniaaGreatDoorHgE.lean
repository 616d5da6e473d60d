/-
  Parts of the proof laid into one text, one behind the other; each says at its head what is proved in it.
-/
import Derived.Test.YtebnonpdaddniaaGreatDoorHtC
import Derived.Test.YtebnonpdaddniaaGreatDoorHtD
import Derived.Deep.CutRange
import Derived.Lib.Join
/-
  Data, plainly, and the model's l3Bare, l3Deep and l3Line: what a datum has, how deep it lies, whether its list is still open; nothing is turned.
-/
namespace Go.Proofs.YtebnonpdaddniaaGreatDoor
open Go.RowKit Go.Extern.Stop Go.Stop Go.Extern Num Go.Lib

/-- The data that lie in a row. -/
def RowD (w : World) (g : Nat) (l : List Dat) : Prop := ∀ (k : Nat) (h : k < l.length), w.cell? ⟨g, k * 4, none⟩ = some (.int .i64 l[k].kind) ∧ w.cell? ⟨g, k * 4 + 1, none⟩ = some (.int .i64 l[k].parent) ∧ w.cell? ⟨g, k * 4 + 2, none⟩ = some (.int .i64 l[k].num) ∧ w.cell? ⟨g, k * 4 + 3, none⟩ = some (.string l[k].name)
theorem RowD.below {w w' : World} {g : Nat} {l : List Dat} (h : RowD w g l) (hb : Below w.heap.size w w') : RowD w' g l := fun k hk => ⟨cell_keep hb (h k hk).1, cell_keep hb (h k hk).2.1, cell_keep hb (h k hk).2.2.1, cell_keep hb (h k hk).2.2.2⟩
theorem RowD.of {w : World} {base g cap : Nat} {l : List Dat} (h : w.ownsRow base 100 4 (.slice (some ⟨g, 0, none⟩) l.length cap) l.length (cellsD l)) : RowD w g l := fun k hk => rowD_at h k hk
/-- Whose part it is. -/
def par (l : List Dat) (k : Nat) : Int := (l[k]?.map (·.parent)).getD (-1)
theorem par_at (l : List Dat) (k : Nat) (h : k < l.length) : par l k = l[k].parent := by simp [par, h]
/-- How many data there are from a place up. -/
def deepF (l : List Dat) : Nat → Int → Nat
  | 0, _ => 0
  | f + 1, a => if a < 0 then 0 else deepF l f (par l a.toNat) + 1
theorem deepF_neg (l : List Dat) (f : Nat) (a : Int) (h : a < 0) : deepF l f a = 0 := by cases f <;> simp [deepF, h]
theorem deepF_at (l : List Dat) (f k : Nat) (h : k < l.length) : deepF l (f + 1) (k : Int) = deepF l f l[k].parent + 1 := by
  have h0 : ¬ ((k : Int) < 0) := by omega
  simp only [deepF, if_neg h0, Int.toNat_natCast, par_at l k h]
/-- Whether, from a place up, p is met, and is a list. -/
def lineF (l : List Dat) (p : Int) : Nat → Int → Bool
  | 0, _ => false
  | f + 1, a => if a < 0 then false else if a = p then ((l[a.toNat]?.map (·.kind)).getD 0 == 4) else lineF l p f (par l a.toNat)
theorem lineF_neg (l : List Dat) (p : Int) (f : Nat) (a : Int) (h : a < 0) : lineF l p f a = false := by cases f <;> simp [lineF, h]
theorem lineF_hit (l : List Dat) (f k : Nat) (h : k < l.length) : lineF l (k : Int) (f + 1) (k : Int) = (l[k].kind == 4) := by
  have h0 : ¬ ((k : Int) < 0) := by omega
  simp [lineF, h]
theorem lineF_on (l : List Dat) (p : Int) (f k : Nat) (h : k < l.length) (hp : (k : Int) ≠ p) : lineF l p (f + 1) (k : Int) = lineF l p f l[k].parent := by
  have h0 : ¬ ((k : Int) < 0) := by omega
  simp only [lineF, if_neg h0, if_neg hp, Int.toNat_natCast, par_at l k h]
def lineB (l : List Dat) (i : Nat) : Bool := lineF l (par l i) i ((i : Int) - 1)

set_option maxHeartbeats 1000000 in
theorem l3Deep_any (g cap : Nat) (l : List Dat) (w : World) (i : Nat) (a : Int) (hR : RowD w g l) (hi : i < l.length) (hp : ∀ (j : Nat) (h : j < l.length), j ≤ i → l[j].parent ≤ (j : Int)) (ha : a ≤ (i : Int)) :
    Calls Tryz.prog 101 #[.slice (some ⟨g, 0, none⟩) l.length cap, .int .i64 a] w fun e w' => e = .returned (.int .i64 (deepF l 100 a : Nat)) ∧ w' = w := by
  have HR : Hid (RowD w g l) := hR
  have HP : Hid (∀ (j : Nat) (h : j < l.length), j ≤ i → l[j].parent ≤ (j : Int)) := hp
  clear hR hp
  obtain ⟨R, hRe⟩ : ∃ R : Nat, R = deepF l 100 a := ⟨_, rfl⟩
  rw [← hRe]
  have HE : Hid (R = deepF l 100 a) := hRe
  clear hRe
  go_enter Tryz.func101, Tryz.ntmps101
  go_wp2_with fail
  go_loopw [1, 5] (fun v m wr => ∃ (b : Int) (n : Nat), b ≤ (i : Int) ∧ n ≤ 100 ∧ v = .int .i64 b ∧ m = .int .i64 (n : Int) ∧ Hid (n + deepF l (100 - n) b = R) ∧ Hid (wr = w)) (fun _ m _ => 100 - (RowKit.intOf m).toNat)
  case atStart => exact ⟨a, 0, ha, by omega, rfl, rfl, by show 0 + deepF l 100 a = R; rw [HE.out]; omega, rfl⟩
  case round =>
    obtain ⟨b, n, hb, hn, rfl, rfl, HD, HW⟩ := hrel
    by_cases h0 : 0 ≤ b
    · obtain ⟨k, rfl⟩ := Int.eq_ofNat_of_zero_le h0
      by_cases h1 : (n : Int) < 100
      · have hk : k < l.length := by omega
        have hc : wr.cell? ⟨g, k * 4 + 1, none⟩ = some (.int .i64 (l[k]'hk).parent) := by rw [HW.out]; exact (HR.out k hk).2.1
        have hpk := HP.out k hk (by omega)
        have HD2 : Hid ((n + 1) + deepF l (100 - (n + 1)) (l[k]'hk).parent = R) := by
          have := HD.out
          show (n + 1) + _ = R
          rw [← this, show 100 - n = (100 - (n + 1)) + 1 by omega, deepF_at l _ k hk]; omega
        go_wp2
        exact ⟨⟨(l[k]'hk).parent, n + 1, by omega, by omega, rfl, by go_num, HD2.out, HW.out⟩, by simp [RowKit.intOf]; omega⟩
      · have HF : Hid ((n : Int) = (R : Int)) := by
          have := HD.out
          rw [show 100 - n = 0 by omega] at this
          simp [deepF] at this
          show (n : Int) = (R : Int)
          omega
        go_wp2
        go_ret
        exact ⟨by rw [HF.out]; rfl, HW.out⟩
    · have HF : Hid ((n : Int) = (R : Int)) := by
        have := HD.out
        rw [deepF_neg l _ b (by omega)] at this
        show (n : Int) = (R : Int)
        omega
      go_wp2
      go_ret
      exact ⟨by rw [HF.out]; rfl, HW.out⟩
set_option maxHeartbeats 1000000 in
theorem l3Line_any (g cap : Nat) (l : List Dat) (w : World) (i : Nat) (hR : RowD w g l) (hi : i < l.length) (hi0 : 0 < i) (hlm : l.length ≤ 1048576) (hp : ∀ (j : Nat) (h : j < l.length), j < i → l[j].parent < (j : Int)) :
    Calls Tryz.prog 100 #[.slice (some ⟨g, 0, none⟩) l.length cap, .int .i64 (i : Int)] w fun e w' => e = .returned (.bool (lineB l i)) ∧ w' = w := by
  have HR : Hid (RowD w g l) := hR
  have HP : Hid (∀ (j : Nat) (h : j < l.length), j < i → l[j].parent < (j : Int)) := hp
  have hci := (HR.out i hi).2.1
  have HPI : Hid (par l i = (l[i]'hi).parent) := par_at l i hi
  clear hR hp
  obtain ⟨R, hRe⟩ : ∃ R : Bool, R = lineB l i := ⟨_, rfl⟩
  rw [← hRe]
  have HE : Hid (R = lineB l i) := hRe
  clear hRe
  go_enter Tryz.func100, Tryz.ntmps100
  go_wp2_with fail
  go_loopw [5] (fun v wr => ∃ (b : Int) (f : Nat), b < (f : Int) ∧ b < (i : Int) ∧ v = .int .i64 b ∧ Hid (lineF l (par l i) f b = R) ∧ Hid (wr = w)) (fun v _ => ((RowKit.intOf v) + 1).toNat)
  case atStart => exact ⟨(i : Int) - 1, i, by omega, by omega, rfl, HE.out.symm, rfl⟩
  case round =>
    obtain ⟨b, f, hf, hb, rfl, HD, HW⟩ := hrel
    have hciw : wr.cell? ⟨g, i * 4 + 1, none⟩ = some (.int .i64 (l[i]'hi).parent) := by rw [HW.out]; exact hci
    clear hci
    by_cases h0 : 0 ≤ b
    · obtain ⟨k, rfl⟩ := Int.eq_ofNat_of_zero_le h0
      have hk : k < l.length := by omega
      obtain ⟨f', rfl⟩ : ∃ f', f = f' + 1 := ⟨f - 1, by omega⟩
      have hc0 : wr.cell? ⟨g, k * 4, none⟩ = some (.int .i64 (l[k]'hk).kind) := by rw [HW.out]; exact (HR.out k hk).1
      have hc1 : wr.cell? ⟨g, k * 4 + 1, none⟩ = some (.int .i64 (l[k]'hk).parent) := by rw [HW.out]; exact (HR.out k hk).2.1
      by_cases he : (k : Int) = (l[i]'hi).parent
      · have hb1 : ((k : Int) == (l[i]'hi).parent) = true := by simpa using he
        have HF : Hid (((l[k]'hk).kind == 4) = R) := by
          have := HD.out
          rw [HPI.out, ← he, lineF_hit l f' k hk] at this
          exact this
        clear he
        go_wp2
        go_ret
        exact ⟨by rw [← HF.out]; rfl, HW.out⟩
      · have hb1 : ((k : Int) == (l[i]'hi).parent) = false := by simpa using he
        have hpk := HP.out k hk (by omega)
        have HF : Hid (lineF l (par l i) f' (l[k]'hk).parent = R) := by
          have := HD.out
          rw [lineF_on l (par l i) f' k hk (by rw [HPI.out]; exact he)] at this
          exact this
        clear he
        go_wp2
        exact ⟨⟨(l[k]'hk).parent, f', by omega, by omega, rfl, HF.out, HW.out⟩, by simp [RowKit.intOf]; omega⟩
    · have HF : Hid (false = R) := by
        have := HD.out
        rw [lineF_neg l _ _ b (by omega)] at this
        exact this
      go_wp2
      go_ret
      exact ⟨by rw [← HF.out]; rfl, HW.out⟩
/-- A datum has nothing but what its kind has. -/
def bareB (t : Dat) : Bool := decide (1 ≤ t.kind ∧ t.kind ≤ 4) && ((t.kind == 1 || t.kind == 2) || t.num == 0) && (t.kind == 3 || (t.name.data.toList == []))
theorem bare_of (t : Dat) (b1 b2 b3 bi bn bz : Bool) (e1 : (t.kind == 1) = b1) (e2 : (t.kind == 2) = b2) (e3 : (t.kind == 3) = b3) (hin : (decide (1 ≤ t.kind) && decide (t.kind ≤ 4)) = bi) (en : (t.num == 0) = bn) (ez : (t.name.toList == []) = bz) : bareB t = (bi && ((b1 || b2) || bn) && (b3 || bz)) := by
  have h1 : decide (1 ≤ t.kind ∧ t.kind ≤ 4) = bi := by rw [← hin]; simp
  have h2 : (t.name.data.toList == []) = bz := by rw [← ez, ByteArray.toList_eq]
  unfold bareB
  rw [h1, h2, e1, e2, e3, en]
set_option maxHeartbeats 4000000 in
theorem l3Bare_any (g k : Nat) (t : Dat) (w : World) (c0 : w.cell? ⟨g, k, none⟩ = some (.int .i64 t.kind)) (c2 : w.cell? ⟨g, k + 2, none⟩ = some (.int .i64 t.num)) (c3 : w.cell? ⟨g, k + 3, none⟩ = some (.string t.name)) :
    Calls Tryz.prog 96 #[.pointer (some ⟨g, k, none⟩)] w fun e w' => e = .returned (.bool (bareB t)) ∧ w' = w := by
  have hk : ((t.kind == 1) = true ∧ (t.kind == 2) = false ∧ (t.kind == 3) = false ∧ (decide (1 ≤ t.kind) && decide (t.kind ≤ 4)) = true) ∨ ((t.kind == 1) = false ∧ (t.kind == 2) = true ∧ (t.kind == 3) = false ∧ (decide (1 ≤ t.kind) && decide (t.kind ≤ 4)) = true) ∨ ((t.kind == 1) = false ∧ (t.kind == 2) = false ∧ (t.kind == 3) = true ∧ (decide (1 ≤ t.kind) && decide (t.kind ≤ 4)) = true) ∨ ((t.kind == 1) = false ∧ (t.kind == 2) = false ∧ (t.kind == 3) = false ∧ (decide (1 ≤ t.kind) && decide (t.kind ≤ 4)) = true) ∨ ((t.kind == 1) = false ∧ (t.kind == 2) = false ∧ (t.kind == 3) = false ∧ (decide (1 ≤ t.kind) && decide (t.kind ≤ 4)) = false) := by
    by_cases h1 : t.kind = 1
    · simp [h1]
    · by_cases h2 : t.kind = 2
      · simp [h2]
      · by_cases h3 : t.kind = 3
        · simp [h3]
        · by_cases h4 : 1 ≤ t.kind ∧ t.kind ≤ 4
          · simp [h1, h2, h3, h4]
          · have : (decide (1 ≤ t.kind) && decide (t.kind ≤ 4)) = false := by
              by_cases h5 : 1 ≤ t.kind
              · have h6 : ¬ t.kind ≤ 4 := fun h6 => h4 ⟨h5, h6⟩
                simp [h6]
              · simp [h5]
            simp [h1, h2, h3, this]
  rcases hk with ⟨e1, e2, e3, hin⟩ | ⟨e1, e2, e3, hin⟩ | ⟨e1, e2, e3, hin⟩ | ⟨e1, e2, e3, hin⟩ | ⟨e1, e2, e3, hin⟩ <;> cases en : (t.num == 0) <;> cases ez : (t.name.toList == [])
  all_goals
    have HB : Hid _ := bare_of t _ _ _ _ _ _ e1 e2 e3 hin en ez
    rw [HB.out]
    clear HB
    go_enter Tryz.func96, Tryz.ntmps96
    go_wp2_with (go_at_call 98; refine (l1In_any _ _ _ _).mono ?_; rintro e w' ⟨rfl, rfl⟩)
    go_ret
    exact ⟨rfl, rfl⟩
end Go.Proofs.YtebnonpdaddniaaGreatDoor
/-
  The model's DataFault: what is wrong with data, datum by datum; nothing is turned.
-/
namespace Go.Proofs.YtebnonpdaddniaaGreatDoor
open Go.RowKit Go.Extern.Stop Go.Stop Go.Extern Num Go.Lib

def rangeBad (t : Dat) : Bool := (t.kind == 1 && !(inB t.num)) || (t.kind == 2 && !(decide (0 ≤ t.num) && decide (t.num ≤ 1)))
def symBad (t : Dat) : Bool := t.kind == 3 && !(symL t.name.data.toList)
def parBad (i : Nat) (p : Int) : Bool := (i == 0 && p != -1) || (decide (0 < i) && !(decide (0 ≤ p) && decide (p ≤ (i : Int) - 1)))
/-- What is wrong with the datum at a place. -/
def chkD (l : List Dat) (i : Nat) (t : Dat) : Int :=
  if bareB t = false then 1 else if rangeBad t = true then 3 else if symBad t = true then 5 else if parBad i t.parent = true then 3 else if (decide (0 < i) && !(lineB l i)) = true then 1 else if 12 < deepF l 100 (i : Int) then 2 else 0
/-- The first fault, from a place on. -/
def faultFrom (l : List Dat) : Nat → List Dat → Int
  | _, [] => 0
  | i, t :: r => if chkD l i t = 0 then faultFrom l (i + 1) r else chkD l i t
def dataFault (l : List Dat) : Int := if l.length < 1 ∨ 80 < l.length then 2 else faultFrom l 0 l
/-- All is well up to a place. -/
def okUpto (l : List Dat) (k : Nat) : Prop := ∀ (j : Nat) (h : j < l.length), j < k → chkD l j l[j] = 0
theorem faultFrom_drop (l : List Dat) (k : Nat) (hok : okUpto l k) (hk : k ≤ l.length) : faultFrom l 0 l = faultFrom l k (l.drop k) := by
  induction k with
  | zero => simp
  | succ k ih =>
    have hk' : k < l.length := by omega
    rw [ih (fun j h hj => hok j h (by omega)) (by omega), List.drop_eq_getElem_cons hk', faultFrom, if_pos (hok k hk' (by omega))]
theorem fault_hit (l : List Dat) (k : Nat) (hk : k < l.length) (hok : okUpto l k) (hc : chkD l k l[k] ≠ 0) : faultFrom l 0 l = chkD l k l[k] := by
  rw [faultFrom_drop l k hok (by omega), List.drop_eq_getElem_cons hk, faultFrom, if_neg hc]
theorem fault_end (l : List Dat) (hok : okUpto l l.length) : faultFrom l 0 l = 0 := by
  rw [faultFrom_drop l l.length hok (Nat.le_refl _)]; simp [faultFrom]
theorem okUpto_next {l : List Dat} {k : Nat} (h : okUpto l k) (hk : k < l.length) (hc : chkD l k l[k] = 0) : okUpto l (k + 1) := by
  intro j hj hjk
  by_cases e : j < k
  · exact h j hj e
  · have : j = k := by omega
    subst this; exact hc
theorem parBad_lt {i : Nat} {p : Int} (h : parBad i p = false) : p < (i : Int) ∧ -1 ≤ p := by
  unfold parBad at h
  by_cases h0 : i = 0
  · subst h0
    simp at h
    omega
  · have h1 : 0 < i := by omega
    have h2 : (i == 0) = false := by simpa using h0
    rw [h2] at h
    simp [h1] at h
    omega
theorem chk_par {l : List Dat} {i : Nat} {t : Dat} (h : chkD l i t = 0) : t.parent < (i : Int) ∧ -1 ≤ t.parent := by
  apply parBad_lt
  unfold chkD at h
  cases hp : parBad i t.parent with
  | false => rfl
  | true =>
    exfalso
    rw [hp] at h
    split at h
    · cases h
    · split at h
      · cases h
      · split at h
        · cases h
        · simp at h
theorem chk_bare {l : List Dat} {k : Nat} {t : Dat} (h : bareB t = false) : chkD l k t = 1 := by simp [chkD, h]
theorem chk_range {l : List Dat} {k : Nat} {t : Dat} (h : bareB t = true) (h2 : rangeBad t = true) : chkD l k t = 3 := by simp [chkD, h, h2]
theorem chk_sym {l : List Dat} {k : Nat} {t : Dat} (h : bareB t = true) (h2 : rangeBad t = false) (h3 : symBad t = true) : chkD l k t = 5 := by simp [chkD, h, h2, h3]
theorem chk_parent {l : List Dat} {k : Nat} {t : Dat} (h : bareB t = true) (h2 : rangeBad t = false) (h3 : symBad t = false) (h4 : parBad k t.parent = true) : chkD l k t = 3 := by simp [chkD, h, h2, h3, h4]
theorem chk_line {l : List Dat} {k : Nat} {t : Dat} (h : bareB t = true) (h2 : rangeBad t = false) (h3 : symBad t = false) (h4 : parBad k t.parent = false) (h5 : (decide (0 < k) && !(lineB l k)) = true) : chkD l k t = 1 := by
  unfold chkD
  rw [h, h2, h3, h4, if_neg (by decide), if_neg (by decide), if_neg (by decide), if_neg (by decide), if_pos h5]
theorem chk_deep {l : List Dat} {k : Nat} {t : Dat} (h : bareB t = true) (h2 : rangeBad t = false) (h3 : symBad t = false) (h4 : parBad k t.parent = false) (h5 : (decide (0 < k) && !(lineB l k)) = false) : chkD l k t = if 12 < deepF l 100 (k : Int) then 2 else 0 := by
  unfold chkD
  rw [h, h2, h3, h4, h5, if_neg (by decide), if_neg (by decide), if_neg (by decide), if_neg (by decide), if_neg (by decide)]
def KF (t : Dat) : Prop := ((t.kind == 1) = true ∧ (t.kind == 2) = false ∧ (t.kind == 3) = false) ∨ ((t.kind == 1) = false ∧ (t.kind == 2) = true ∧ (t.kind == 3) = false) ∨ ((t.kind == 1) = false ∧ (t.kind == 2) = false ∧ (t.kind == 3) = true) ∨ ((t.kind == 1) = false ∧ (t.kind == 2) = false ∧ (t.kind == 3) = false)
theorem kf (t : Dat) : KF t := by
  unfold KF
  by_cases h1 : t.kind = 1
  · simp [h1]
  · by_cases h2 : t.kind = 2
    · simp [h2]
    · by_cases h3 : t.kind = 3
      · simp [h3]
      · simp [h1, h2, h3]
set_option maxRecDepth 100000 in
set_option maxHeartbeats 8000000 in
theorem l3Fault_few (g cap : Nat) (l : List Dat) (w : World) (hR : RowD w g l) (h1 : 1 ≤ (l.length : Int)) (h80 : (l.length : Int) ≤ 80) (hz : ∀ (k : Nat) (h : k < l.length), l[k].name.size ≤ 9223372036854775807) :
    Calls Tryz.prog 60 #[.slice (some ⟨g, 0, none⟩) l.length cap] w fun e w' => e = .returned (.int .i64 (faultFrom l 0 l)) ∧ w' = w := by
  have HR : Hid (RowD w g l) := hR
  have HZ : Hid (∀ (k : Nat) (h : k < l.length), l[k].name.size ≤ 9223372036854775807) := hz
  clear hR hz
  obtain ⟨R, hRe⟩ : ∃ R : Int, R = faultFrom l 0 l := ⟨_, rfl⟩
  rw [← hRe]
  have HE : Hid (R = faultFrom l 0 l) := hRe
  clear hRe
  go_enter Tryz.func60, Tryz.ntmps60
  go_wp2_with fail
  go_loopw [3, 4] (fun v x wr => ∃ k : Nat, k ≤ l.length ∧ v = .int .i64 (k : Int) ∧ Hid (okUpto l k) ∧ Hid (wr = w)) (fun v _ _ => l.length - (RowKit.intOf v).toNat)
  case atStart => exact ⟨0, Nat.zero_le _, rfl, fun j _ hj => by omega, rfl⟩
  case round =>
    obtain ⟨k, hk, rfl, HK, HW⟩ := hrel
    have hww : wr = w := HW.out
    subst hww
    by_cases hlt : k < l.length
    · obtain ⟨t, ht⟩ : ∃ t, t = l[k]'hlt := ⟨_, rfl⟩
      have HT : Hid (t = l[k]'hlt) := ht
      have hcs := HR.out k hlt
      rw [← ht] at hcs
      clear ht
      obtain ⟨c0, c1, c2, c3⟩ := hcs
      have HBr : Hid (Calls Tryz.prog 96 #[.pointer (some ⟨g, k * 4, none⟩)] wr fun e w' => e = .returned (.bool (bareB t)) ∧ w' = wr) := l3Bare_any g (k * 4) t wr c0 c2 c3
      have HRet : Hid (chkD l k t ≠ 0 → R = chkD l k t) := fun h => by rw [HE.out, fault_hit l k hlt HK.out (by rw [← HT.out]; exact h), ← HT.out]
      have HNu : Hid (∀ w, Calls Tryz.prog 97 #[.int .i64 t.num] w fun e w' => e = .returned (.bool (inB t.num)) ∧ w' = w) := fun w => l1Num_any t.num w
      have HSy : Hid (∀ w, Calls Tryz.prog 99 #[.string t.name] w fun e w' => e = .returned (.bool (symL t.name.data.toList)) ∧ w' = w) := fun w => sym_any t.name w (by rw [HT.out]; exact HZ.out k hlt)
      cases hb : bareB t
      · rw [hb] at HBr
        have HC : Hid (R = 1) := by
          have e := chk_bare (l := l) (k := k) hb
          have := HRet.out (by rw [e]; decide)
          show R = 1
          rw [this, e]
        clear hb
        go_wp2_with (go_at_call 96; refine HBr.out.mono ?_; rintro e w' ⟨rfl, rfl⟩)
        go_ret
        exact ⟨by rw [HC.out]; rfl, rfl⟩
      rw [hb] at HBr
      have HBa : Hid (bareB t = true) := hb
      clear hb
      go_upto_region 9 with (go_at_call 96; refine HBr.out.mono ?_; rintro e w' ⟨rfl, hw'⟩; replace hw' := hw'.symm; subst hw')
      go_cut [52] from 13 to 100 (fun v wx => v = .bool (rangeBad t) ∧ wx = wr)
      case first =>
        rcases kf t with ⟨e1, e2, -⟩ | ⟨e1, e2, -⟩ | ⟨e1, e2, -⟩ | ⟨e1, e2, -⟩ <;> cases hnu : inB t.num <;> cases h01 : (decide (0 ≤ t.num) && decide (t.num ≤ 1))
        all_goals
          have HV : Hid (rangeBad t = ((t.kind == 1 && !(inB t.num)) || (t.kind == 2 && !(decide (0 ≤ t.num) && decide (t.num ≤ 1))))) := rfl
          go_wp2_with (first | (go_at_call 97; refine (HNu.out _).mono ?_; rintro e w' ⟨rfl, hw'⟩; replace hw' := hw'.symm; subst hw') | (go_at_call 98; refine (l1In_any _ _ _ _).mono ?_; rintro e w' ⟨rfl, hw'⟩; replace hw' := hw'.symm; subst hw'))
          go_meet
          exact ⟨by rw [HV.out, e1, e2, hnu, h01]; rfl, rfl⟩
      case rest =>
        obtain ⟨rfl, hwc⟩ := hcut
        replace hwc := hwc.symm; subst hwc
        rcases Bool.eq_false_or_eq_true (rangeBad t) with hrb | hrb
        · rw [hrb]
          have HC : Hid (R = 3) := by
            have e := chk_range (l := l) (k := k) HBa.out hrb
            have := HRet.out (by rw [e]; decide)
            show R = 3
            rw [this, e]
          go_wp2
          go_ret
          exact ⟨by rw [HC.out]; rfl, rfl⟩
        rw [hrb]
        have HRa : Hid (rangeBad t = false) := hrb
        clear hrb
        go_upto_region 11 with fail
        go_cut [65] from 13 to 100 (fun v wx => v = .bool (symBad t) ∧ wx = wr)
        case first =>
          rcases kf t with ⟨-, -, e3⟩ | ⟨-, -, e3⟩ | ⟨-, -, e3⟩ | ⟨-, -, e3⟩ <;> cases hsy : symL t.name.data.toList
          all_goals
            have HV : Hid (symBad t = (t.kind == 3 && !(symL t.name.data.toList))) := rfl
            go_wp2_with (go_at_call 99; refine (HSy.out _).mono ?_; rintro e w' ⟨rfl, hw'⟩; replace hw' := hw'.symm; subst hw')
            go_meet
            exact ⟨by rw [HV.out, e3, hsy]; rfl, rfl⟩
        case rest =>
          obtain ⟨rfl, hwc⟩ := hcut
          replace hwc := hwc.symm; subst hwc
          rcases Bool.eq_false_or_eq_true (symBad t) with hsb | hsb
          · rw [hsb]
            have HC : Hid (R = 5) := by
              have e := chk_sym (l := l) (k := k) HBa.out HRa.out hsb
              have := HRet.out (by rw [e]; decide)
              show R = 5
              rw [this, e]
            go_wp2
            go_ret
            exact ⟨by rw [HC.out]; rfl, rfl⟩
          rw [hsb]
          have HSa : Hid (symBad t = false) := hsb
          clear hsb
          go_upto_region 13 with fail
          go_cut [88] from 13 to 100 (fun v wx => v = .bool (parBad k t.parent) ∧ wx = wr)
          case first =>
            by_cases hk0 : k = 0
            · have hkz : ((k : Int) == 0) = true := by rw [beq_iff_eq]; omega
              have HV : Hid (parBad k t.parent = (t.parent != -1)) := by show parBad k t.parent = _; rw [hk0]; simp [parBad]
              have hkn : ¬ 0 < (k : Int) := by omega
              clear hk0
              cases hm : (t.parent != -1)
              all_goals
                go_wp2
                go_meet
                exact ⟨by rw [HV.out, hm], rfl⟩
            · have hkz : ((k : Int) == 0) = false := by rw [beq_eq_false_iff_ne]; omega
              have hkp : 0 < (k : Int) := by omega
              have HV : Hid (parBad k t.parent = !(decide (0 ≤ t.parent) && decide (t.parent ≤ (k : Int) - 1))) := by
                have h1 : (k == 0) = false := by simpa using hk0
                have h2 : 0 < k := by omega
                show parBad k t.parent = _
                simp [parBad, h1, h2]
              clear hk0
              cases hin : (decide (0 ≤ t.parent) && decide (t.parent ≤ (k : Int) - 1))
              all_goals
                go_wp2_with (go_at_call 98; refine (l1In_any _ _ _ _).mono ?_; rintro e w' ⟨rfl, hw'⟩; replace hw' := hw'.symm; subst hw')
                go_meet
                exact ⟨by rw [HV.out, hin]; rfl, rfl⟩
          case rest =>
            obtain ⟨rfl, hwc⟩ := hcut
            replace hwc := hwc.symm; subst hwc
            rcases Bool.eq_false_or_eq_true (parBad k t.parent) with hpb | hpb
            · rw [hpb]
              have HC : Hid (R = 3) := by
                have e := chk_parent (l := l) (k := k) HBa.out HRa.out HSa.out hpb
                have := HRet.out (by rw [e]; decide)
                show R = 3
                rw [this, e]
              go_wp2
              go_ret
              exact ⟨by rw [HC.out]; rfl, rfl⟩
            rw [hpb]
            have HPa : Hid (parBad k t.parent = false) := hpb
            clear hpb
            have HPl : Hid (∀ (j : Nat) (h : j < l.length), j < k → l[j].parent < (j : Int)) := fun j h hj => (chk_par (HK.out j h hj)).1
            have HPm : Hid (∀ (j : Nat) (h : j < l.length), j ≤ k → l[j].parent ≤ (j : Int)) := fun j h hj => by
              by_cases e : j < k
              · have := HPl.out j h e; omega
              · have : j = k := by omega
                subst this
                have := (parBad_lt HPa.out).1
                rw [← HT.out]; omega
            go_upto_region 15 with fail
            go_cut [96] from 13 to 100 (fun v wx => v = .bool (decide (0 < k) && !(lineB l k)) ∧ wx = wr)
            case first =>
              by_cases hk0 : 0 < (k : Int)
              · have HV : Hid ((decide (0 < k) && !(lineB l k)) = !(lineB l k)) := by
                  have h2 : 0 < k := by omega
                  show (decide (0 < k) && !(lineB l k)) = _
                  simp [h2]
                have HLi : Hid (Calls Tryz.prog 100 #[.slice (some ⟨g, 0, none⟩) l.length cap, .int .i64 (k : Int)] wr fun e w' => e = .returned (.bool (lineB l k)) ∧ w' = wr) := l3Line_any g cap l wr k HR.out hlt (by omega) (by omega) HPl.out
                cases hli : lineB l k
                all_goals
                  rw [hli] at HLi
                  go_wp2_with (go_at_call 100; refine HLi.out.mono ?_; rintro e w' ⟨rfl, hw'⟩; replace hw' := hw'.symm; subst hw')
                  go_meet
                  exact ⟨by rw [HV.out, hli]; rfl, rfl⟩
              · have HV : Hid ((decide (0 < k) && !(lineB l k)) = false) := by
                  have h2 : ¬ 0 < k := by omega
                  show (decide (0 < k) && !(lineB l k)) = _
                  simp [h2]
                go_wp2
                go_meet
                exact ⟨by rw [HV.out], rfl⟩
            case rest =>
              obtain ⟨rfl, hwc⟩ := hcut
              replace hwc := hwc.symm; subst hwc
              rcases Bool.eq_false_or_eq_true (decide (0 < k) && !(lineB l k)) with hlb | hlb
              · rw [hlb]
                have HC : Hid (R = 1) := by
                  have e := chk_line (l := l) (k := k) HBa.out HRa.out HSa.out HPa.out hlb
                  have := HRet.out (by rw [e]; decide)
                  show R = 1
                  rw [this, e]
                go_wp2
                go_ret
                exact ⟨by rw [HC.out]; rfl, rfl⟩
              rw [hlb]
              have HD : Hid (Calls Tryz.prog 101 #[.slice (some ⟨g, 0, none⟩) l.length cap, .int .i64 (k : Int)] wr fun e w' => e = .returned (.int .i64 (deepF l 100 (k : Int) : Nat)) ∧ w' = wr) := l3Deep_any g cap l wr k (k : Int) HR.out hlt HPm.out (Int.le_refl _)
              have HCk : Hid (chkD l k t = if 12 < deepF l 100 (k : Int) then 2 else 0) := chk_deep HBa.out HRa.out HSa.out HPa.out hlb
              clear hlb
              generalize deepF l 100 (k : Int) = dp at HD HCk
              by_cases h12 : 12 < (dp : Int)
              · have HC : Hid (R = 2) := by
                  have e := HCk.out
                  rw [if_pos (by omega)] at e
                  have := HRet.out (by rw [e]; decide)
                  show R = 2
                  rw [this, e]
                go_wp2_with (go_at_call 101; refine HD.out.mono ?_; rintro e w' ⟨rfl, hw'⟩; replace hw' := hw'.symm; subst hw')
                go_ret
                exact ⟨by rw [HC.out]; rfl, rfl⟩
              · have HN : Hid (okUpto l (k + 1)) := okUpto_next HK.out hlt (by
                  have e := HCk.out
                  rw [if_neg (by omega)] at e
                  rw [← HT.out]; exact e)
                go_wp2_with (go_at_call 101; refine HD.out.mono ?_; rintro e w' ⟨rfl, hw'⟩; replace hw' := hw'.symm; subst hw')
                exact ⟨⟨k + 1, by omega, by go_num, HN.out, trivial⟩, by simp [RowKit.intOf]; omega⟩
    · have HC : Hid (R = 0) := by
        have hkl : k = l.length := by omega
        have hok := HK.out
        rw [hkl] at hok
        show R = 0
        rw [HE.out, fault_end l hok]
      go_wp2
      go_ret
      exact ⟨by rw [HC.out]; rfl, rfl⟩
theorem l3Fault_none (ao : Option Addr) (n cap : Nat) (w : World) (h : (n : Int) < 1) :
    Calls Tryz.prog 60 #[.slice ao n cap] w fun e w' => e = .returned (.int .i64 2) ∧ w' = w := by
  go_enter Tryz.func60, Tryz.ntmps60
  go_wp2
  go_ret
  exact ⟨rfl, rfl⟩
theorem l3Fault_many (ao : Option Addr) (n cap : Nat) (w : World) (h1 : ¬ (n : Int) < 1) (h : 80 < (n : Int)) :
    Calls Tryz.prog 60 #[.slice ao n cap] w fun e w' => e = .returned (.int .i64 2) ∧ w' = w := by
  go_enter Tryz.func60, Tryz.ntmps60
  go_wp2
  go_ret
  exact ⟨rfl, rfl⟩
theorem l3Fault_any (ao : Option Addr) (cap base : Nat) (l : List Dat) (w : World) (h : w.ownsRow base 100 4 (.slice ao l.length cap) l.length (cellsD l)) (hz : ∀ (k : Nat) (h : k < l.length), l[k].name.size ≤ 9223372036854775807) :
    Calls Tryz.prog 60 #[.slice ao l.length cap] w fun e w' => e = .returned (.int .i64 (dataFault l)) ∧ w' = w := by
  by_cases h1 : (l.length : Int) < 1
  · have e : dataFault l = 2 := by unfold dataFault; rw [if_pos (by omega)]
    rw [e]; exact l3Fault_none ao l.length cap w h1
  · by_cases h2 : 80 < (l.length : Int)
    · have e : dataFault l = 2 := by unfold dataFault; rw [if_pos (by omega)]
      rw [e]; exact l3Fault_many ao l.length cap w h1 h2
    · have e : dataFault l = faultFrom l 0 l := by unfold dataFault; rw [if_neg (by omega)]
      rw [e]
      obtain ⟨g, c, hv, _, _⟩ := h.form (by omega)
      obtain ⟨rfl, rfl⟩ : ao = some ⟨g, 0, none⟩ ∧ cap = c := by simp at hv; exact hv
      exact l3Fault_few g cap l w (RowD.of h) (by omega) (by omega) hz
theorem name_le {l : List Dat} (h : ∀ (k : Nat) (h : k < l.length), l[k].name.size ≤ 1048576) : ∀ (k : Nat) (h : k < l.length), l[k].name.size ≤ 9223372036854775807 := fun k hk => by have := h k hk; omega
end Go.Proofs.YtebnonpdaddniaaGreatDoor
/-
  The model's l3Asked, l3Parts and PartsOf: the places of a datum's parts; nothing that was there is turned.
-/
namespace Go.Proofs.YtebnonpdaddniaaGreatDoor
open Go.RowKit Go.Extern.Stop Go.Stop Go.Extern Num Go.Lib

/-- The places, below k, of the parts of a place. -/
def partsTo (l : List Dat) (a : Int) : Nat → List Int
  | 0 => []
  | k + 1 => if par l k = a then partsTo l a k ++ [(k : Int)] else partsTo l a k
def partsD (l : List Dat) (a : Int) : List Int := partsTo l a l.length
theorem partsTo_len (l : List Dat) (a : Int) (k : Nat) : (partsTo l a k).length ≤ k := by
  induction k with
  | zero => simp [partsTo]
  | succ k ih =>
    simp only [partsTo]
    split
    · rw [List.length_append]; simp; omega
    · omega
set_option maxRecDepth 100000 in
set_option maxHeartbeats 2000000 in
theorem l3Parts_any (g cap : Nat) (l : List Dat) (a : Int) (w : World) (hR : RowD w g l) (hl : l.length ≤ 1048576) :
    Calls Tryz.prog 106 #[.slice (some ⟨g, 0, none⟩) l.length cap, .int .i64 a] w fun e w' => ∃ q c, e = .returned (.slice (some ⟨q, 0, none⟩) (partsD l a).length c) ∧ w'.ownsRow w.heap.size 2 1 (.slice (some ⟨q, 0, none⟩) (partsD l a).length c) (partsD l a).length (cellsI (partsD l a)) ∧ Below w.heap.size w w' := by
  have HR : Hid (RowD w g l) := hR
  obtain ⟨i0, hi, hz0, hz1, hz2⟩ := info_parts infoI
  clear hR
  go_enter Tryz.func106, Tryz.ntmps106
  go_wp2_with fail
  go_loopw [5, 6] (fun v i wr => ∃ (k q c : Nat) (L : List Int), k ≤ l.length ∧ i = .int .i64 (k : Int) ∧ v = .slice (some ⟨q, 0, none⟩) L.length c ∧ L.length ≤ k ∧ Hid (L = partsTo l a k) ∧ Hid (wr.ownsRow w.heap.size 2 1 (.slice (some ⟨q, 0, none⟩) L.length c) L.length (cellsI L)) ∧ Hid (Below w.heap.size w wr)) (fun _ i _ => l.length - (RowKit.intOf i).toNat)
  case atStart => exact ⟨0, _, _, [], Nat.zero_le _, rfl, rfl, Nat.le_refl _, rfl, World.ownsRow_made _ #[] 0 (Nat.le_refl _) (Nat.zero_le _) rfl, (Below.refl _ _).alloc (Nat.le_refl _) _⟩
  case round =>
    obtain ⟨k, q, c, L, hk, rfl, rfl, hLk, HL, HO, HB⟩ := hrel
    have hz : w.heap.size ≤ wr.heap.size := HB.out.size
    by_cases hlt : k < l.length
    · have c1 : wr.cell? ⟨g, k * 4 + 1, none⟩ = some (.int .i64 (l[k]'hlt).parent) := (HR.out.below HB.out k hlt).2.1
      by_cases he : (l[k]'hlt).parent = a
      · have hb : ((l[k]'hlt).parent == a) = true := by simpa using he
        have HL2 : Hid (L ++ [(k : Int)] = partsTo l a (k + 1)) := by
          show _ = _
          rw [partsTo, par_at l k hlt, if_pos he, HL.out]
        clear he
        go_wp2_with (first | (at_builtin; refine wpList_append_lies _ rfl (.tmp 21) (.tmp 23) 127 rfl w.heap.size 2 i0 _ 1 8 Tryz.underlying127 hi hz0 hz1 hz2 rfl (by decide) _ L.length (cellsI L) rfl (HO.out.alloc _) ⟨_, 0, none⟩ 1 1 [.int .i64 (k : Int)] rfl rfl ?c1 ?c2 (by decide) ?c3 ?c4 ?c5 _ rfl ?_))
        case c1 => exact newsI (heap_new' _ _ _ (by simp))
        case c2 => intro u hu; simp at hu; subst hu; rfl
        case c3 => unfold maxLen; omega
        case c4 => omega
        case c5 => simp; omega
        intro g' cap' w1 hown1 hgrow1 _ _
        have HO1 : Hid (w1.ownsRow w.heap.size 2 1 (.slice (some ⟨g', 0, none⟩) (L ++ [(k : Int)]).length cap') (L ++ [(k : Int)]).length (cellsI (L ++ [(k : Int)]))) := by
          rw [cellsI_append, List.length_append]
          exact hown1
        have HB1 : Hid (Below w.heap.size w w1) := (HB.out.alloc hz _).grown hgrow1 (by simp; omega) (fun j hj => (HO.out.lt j hj).1)
        clear hown1 hgrow1
        go_wp2
        exact ⟨⟨k + 1, g', cap', L ++ [(k : Int)], by omega, by go_num, by simp, by simp; omega, HL2.out, HO1.out, HB1.out⟩, by simp [RowKit.intOf]; omega⟩
      · have hb : ((l[k]'hlt).parent == a) = false := by simpa using he
        have HL2 : Hid (L = partsTo l a (k + 1)) := by
          show _ = _
          rw [partsTo, par_at l k hlt, if_neg he, HL.out]
        clear he
        go_wp2
        exact ⟨⟨k + 1, q, c, L, by omega, by go_num, rfl, by omega, HL2.out, HO.out, HB.out⟩, by simp [RowKit.intOf]; omega⟩
    · have HF : Hid (L = partsD l a) := by
        have hkl : k = l.length := by omega
        show L = partsTo l a l.length
        rw [HL.out, hkl]
      go_wp2
      go_ret
      rw [← HF.out]
      exact ⟨q, c, rfl, HO.out, HB.out⟩
/-- What is asked ahead of a place. -/
def askD (l : List Dat) (a : Int) : Int := if dataFault l ≠ 0 then dataFault l else if 0 ≤ a ∧ a ≤ (l.length : Int) - 1 then 0 else 3
/-- An answer of PartsOf. -/
def AnsP (l : List Dat) (a : Int) (w : World) (e : Ending) (w' : World) : Prop :=
  ∃ ao c, e = .returned (.agg #[.int .i64 (askD l a), .slice ao (if askD l a = 0 then partsD l a else []).length c]) ∧ w'.ownsRow w.heap.size 2 1 (.slice ao (if askD l a = 0 then partsD l a else []).length c) (if askD l a = 0 then partsD l a else []).length (cellsI (if askD l a = 0 then partsD l a else [])) ∧ Below w.heap.size w w'
end Go.Proofs.YtebnonpdaddniaaGreatDoor
/-
  The model's l3Sub and SubData: a datum with all its parts, as data by themselves; nothing that was there is turned.
-/
namespace Go.Proofs.YtebnonpdaddniaaGreatDoor
open Go.RowKit Go.Extern.Stop Go.Stop Go.Extern Num Go.Lib

/-- A datum as part of what is taken out at a place. -/
def shiftD (a i : Nat) (t : Dat) : Dat := ⟨t.kind, if i = a then -1 else t.parent - (a : Int), t.num, t.name⟩
/-- What is taken out, from a place on. -/
def subFrom (l : List Dat) (a : Nat) : Nat → Nat → List Dat
  | 0, _ => []
  | f + 1, i => match l[i]? with
    | none => []
    | some t => if i = a ∨ deepF l 100 (a : Int) < deepF l 100 (i : Int) then shiftD a i t :: subFrom l a f (i + 1) else []
def subD (l : List Dat) (a : Nat) : List Dat := subFrom l a l.length a
theorem subFrom_end (l : List Dat) (a f i : Nat) (h : l.length ≤ i) : subFrom l a f i = [] := by
  cases f with
  | zero => rfl
  | succ f => simp [subFrom, List.getElem?_eq_none h]
theorem subFrom_on (l : List Dat) (a f i : Nat) (h : i < l.length) (hd : i = a ∨ deepF l 100 (a : Int) < deepF l 100 (i : Int)) : subFrom l a (f + 1) i = shiftD a i l[i] :: subFrom l a f (i + 1) := by
  simp only [subFrom, List.getElem?_eq_getElem h, if_pos hd]
theorem subFrom_off (l : List Dat) (a f i : Nat) (h : i < l.length) (hd : ¬ (i = a ∨ deepF l 100 (a : Int) < deepF l 100 (i : Int))) : subFrom l a (f + 1) i = [] := by
  simp only [subFrom, List.getElem?_eq_getElem h, if_neg hd]
theorem news4 {W : World} {b : Nat} {x y z v : Value} {ty : TypeId} {fr : Nat × Nat} (h : W.heap[b]? = some (.cells #[x, y, z, v] ty fr)) : ∀ j u, [x, y, z, v][j]? = some u → W.cell? ((⟨b, 0, none⟩ : Addr).add j) = some u := by
  intro j u hj
  have ha : ∀ j, (⟨b, 0, none⟩ : Addr).add j = ⟨b, j, none⟩ := fun j => by unfold Addr.add; split <;> simp_all
  rw [ha, cell_of_row W b j _ ty fr h]
  match j, hj with
  | 0, hj => simpa using hj
  | 1, hj => simpa using hj
  | 2, hj => simpa using hj
  | 3, hj => simpa using hj
/-- Data with which nothing is wrong. -/
structure Fine (l : List Dat) : Prop where
  pos : 0 < l.length
  len : l.length ≤ 80
  ok : okUpto l l.length
theorem fine_of {l : List Dat} (h : dataFault l = 0) : Fine l := by
  unfold dataFault at h
  split at h
  · cases h
  · rename_i hn
    refine ⟨by omega, by omega, ?_⟩
    have key : ∀ k, k ≤ l.length → okUpto l k := by
      intro k
      induction k with
      | zero => intro _ j _ hj; omega
      | succ k ih =>
        intro hk
        have h1 := ih (by omega)
        refine okUpto_next h1 (by omega) ?_
        by_cases hc : chkD l k (l[k]'(by omega)) = 0
        · exact hc
        · exfalso
          rw [fault_hit l k (by omega) h1 hc] at h
          exact hc h
    exact key l.length (Nat.le_refl _)
theorem Fine.parent {l : List Dat} (h : Fine l) (j : Nat) (hj : j < l.length) : l[j].parent < (j : Int) ∧ -1 ≤ l[j].parent := chk_par (h.ok j hj hj)
theorem Fine.le {l : List Dat} (h : Fine l) (i : Nat) : ∀ (j : Nat) (hj : j < l.length), j ≤ i → l[j].parent ≤ (j : Int) := fun j hj _ => by have := (h.parent j hj).1; omega
/-- Behind an append of one datum. -/
theorem datD_next {w W w1 : World} {B g c g' c' : Nat} {l : List Dat} {t : Dat}
    (hown : W.ownsRow B 100 4 (.slice (some ⟨g, 0, none⟩) l.length c) l.length (cellsD l)) (hb : Below B w W) (hB : B ≤ W.heap.size)
    (hown' : w1.ownsRow B 100 4 (.slice (some ⟨g', 0, none⟩) (l.length + 1) c') (l.length + 1) (cellsD l ++ [.int .i64 t.kind, .int .i64 t.parent, .int .i64 t.num, .string t.name])) (hgrow : W.grownBy w1 (Value.slice (some ⟨g, 0, none⟩) l.length c).ownBlock) :
    w1.ownsRow B 100 4 (.slice (some ⟨g', 0, none⟩) (l ++ [t]).length c') (l ++ [t]).length (cellsD (l ++ [t])) ∧ Below B w w1 := by
  refine ⟨?_, hb.grown hgrow hB (fun j hj => (hown.lt j hj).1)⟩
  rw [cellsD_append, List.length_append]
  exact hown'
set_option maxRecDepth 100000 in
set_option maxHeartbeats 4000000 in
theorem l3Sub_any (g cap : Nat) (l : List Dat) (a : Nat) (w : World) (hR : RowD w g l) (hF : Fine l) (ha : a < l.length) :
    Calls Tryz.prog 103 #[.slice (some ⟨g, 0, none⟩) l.length cap, .int .i64 (a : Int)] w fun e w' => ∃ q c, e = .returned (.slice (some ⟨q, 0, none⟩) (subD l a).length c) ∧ w'.ownsRow w.heap.size 100 4 (.slice (some ⟨q, 0, none⟩) (subD l a).length c) (subD l a).length (cellsD (subD l a)) ∧ Below w.heap.size w w' := by
  have HR : Hid (RowD w g l) := hR
  have HF : Hid (Fine l) := hF
  have hlen : l.length ≤ 80 := hF.len
  obtain ⟨i0, hi, hz0, hz1, hz2⟩ := info_parts infoD
  clear hR hF
  have HD : Hid (∀ (i : Nat) (u : World), i < l.length → RowD u g l → Calls Tryz.prog 101 #[.slice (some ⟨g, 0, none⟩) l.length cap, .int .i64 (i : Int)] u fun e w' => e = .returned (.int .i64 (deepF l 100 (i : Int) : Nat)) ∧ w' = u) := fun i u hi hu => l3Deep_any g cap l u i (i : Int) hu hi (HF.out.le i) (Int.le_refl _)
  obtain ⟨dp, hdp⟩ : ∃ dp, dp = deepF l 100 (a : Int) := ⟨_, rfl⟩
  have HDa : Hid (Calls Tryz.prog 101 #[.slice (some ⟨g, 0, none⟩) l.length cap, .int .i64 (a : Int)] w fun e w' => e = .returned (.int .i64 (dp : Int)) ∧ w' = w) := by rw [hdp]; exact HD.out a w ha HR.out
  have HDP : Hid (dp = deepF l 100 (a : Int)) := hdp
  clear hdp
  go_enter Tryz.func103, Tryz.ntmps103
  go_wp2_with fail
  refine HDa.out.mono ?_
  rintro e w' ⟨rfl, hw'⟩
  replace hw' := hw'.symm
  subst hw'
  go_wp2_with fail
  go_loopw [6, 7, 8] (fun v m x wr => ∃ (i q c f : Nat) (D : List Dat), a ≤ i ∧ i ≤ l.length ∧ m = .int .i64 (i : Int) ∧ v = .slice (some ⟨q, 0, none⟩) D.length c ∧ D.length ≤ i ∧ f + i = l.length + a ∧ Hid (D ++ subFrom l a f i = subD l a) ∧ Hid (wr.ownsRow w.heap.size 100 4 (.slice (some ⟨q, 0, none⟩) D.length c) D.length (cellsD D)) ∧ Hid (Below w.heap.size w wr)) (fun _ m _ _ => l.length - (RowKit.intOf m).toNat)
  case atStart => exact ⟨a, _, _, l.length, [], Nat.le_refl _, by omega, rfl, rfl, Nat.zero_le _, rfl, rfl, World.ownsRow_made _ #[] 0 (Nat.le_refl _) (Nat.zero_le _) rfl, (Below.refl _ _).alloc (Nat.le_refl _) _⟩
  case round =>
    obtain ⟨i, q, c, f, D, hai, hil, rfl, rfl, hDi, hfi, HT, HO, HB⟩ := hrel
    have hz : w.heap.size ≤ wr.heap.size := HB.out.size
    by_cases hlt : i < l.length
    · obtain ⟨c0, c1, c2, c3⟩ := HR.out.below HB.out i hlt
      have hpl := (HF.out.parent i hlt).1
      have hpm := (HF.out.parent i hlt).2
      obtain ⟨f', rfl⟩ : ∃ f', f = f' + 1 := ⟨f - 1, by omega⟩
      by_cases hia : i = a
      · have hb : ((i : Int) == (a : Int)) = true := by rw [beq_iff_eq]; omega
        have HN : Hid ((D ++ [⟨(l[i]'hlt).kind, -1, (l[i]'hlt).num, (l[i]'hlt).name⟩]) ++ subFrom l a f' (i + 1) = subD l a) := by
          have := HT.out
          rw [subFrom_on l a f' i hlt (Or.inl hia)] at this
          show _ = _
          rw [← this]
          simp [shiftD, hia]
        clear hia
        go_wp2_with (first | (at_builtin; refine wpList_append_lies _ rfl (.tmp 45) (.tmp 47) 47 rfl w.heap.size 100 i0 _ 4 40 Tryz.underlying47 hi hz0 hz1 hz2 rfl (by decide) _ D.length (cellsD D) rfl ?c0 ⟨_, 0, none⟩ 1 1 [.int .i64 (l[i]'hlt).kind, .int .i64 (-1), .int .i64 (l[i]'hlt).num, .string (l[i]'hlt).name] rfl rfl ?c1 ?c2 (by decide) ?c3 ?c4 ?c5 _ rfl ?_))
        case c0 => exact (HO.out.alloc _).alloc _
        case c1 => exact news4 (heap_new' _ _ _ (by simp))
        case c2 => intro u hu; simp at hu; rcases hu with rfl | rfl | rfl | rfl <;> rfl
        case c3 => unfold maxLen; omega
        case c4 => omega
        case c5 => simp; omega
        intro g' cap' w1 hown1 hgrow1 _ _
        have R : Hid _ := datD_next (t := ⟨(l[i]'hlt).kind, -1, (l[i]'hlt).num, (l[i]'hlt).name⟩) ((HO.out.alloc _).alloc _) ((HB.out.alloc hz _).alloc (by simp; omega) _) (by simp; omega) hown1 hgrow1
        clear hown1 hgrow1
        go_wp2
        exact ⟨⟨i + 1, g', cap', f', D ++ [_], by omega, by omega, by go_num, by simp, by simp; omega, by omega, HN.out, R.out.1, R.out.2⟩, by simp [RowKit.intOf]; omega⟩
      · have hb : ((i : Int) == (a : Int)) = false := by rw [beq_eq_false_iff_ne]; omega
        obtain ⟨di, hdi⟩ : ∃ di, di = deepF l 100 (i : Int) := ⟨_, rfl⟩
        have HDi : Hid (Calls Tryz.prog 101 #[.slice (some ⟨g, 0, none⟩) l.length cap, .int .i64 (i : Int)] wr fun e w' => e = .returned (.int .i64 (di : Int)) ∧ w' = wr) := by rw [hdi]; exact HD.out i wr hlt (HR.out.below HB.out)
        by_cases hd : (dp : Int) < (di : Int)
        · have HN : Hid ((D ++ [⟨(l[i]'hlt).kind, (l[i]'hlt).parent - (a : Int), (l[i]'hlt).num, (l[i]'hlt).name⟩]) ++ subFrom l a f' (i + 1) = subD l a) := by
            have := HT.out
            rw [subFrom_on l a f' i hlt (Or.inr (by rw [← HDP.out, ← hdi]; omega))] at this
            show _ = _
            rw [← this]
            simp [shiftD, hia]
          clear hia hdi
          go_wp2_with (first | (go_at_call 101; refine HDi.out.mono ?_; rintro e w' ⟨rfl, hw'⟩; replace hw' := hw'.symm; subst hw') | (at_builtin; refine wpList_append_lies _ rfl (.tmp 45) (.tmp 47) 47 rfl w.heap.size 100 i0 _ 4 40 Tryz.underlying47 hi hz0 hz1 hz2 rfl (by decide) _ D.length (cellsD D) rfl ?c0 ⟨_, 0, none⟩ 1 1 [.int .i64 (l[i]'hlt).kind, .int .i64 ((l[i]'hlt).parent - (a : Int)), .int .i64 (l[i]'hlt).num, .string (l[i]'hlt).name] rfl rfl ?c1 ?c2 (by decide) ?c3 ?c4 ?c5 _ rfl ?_))
          case c0 => exact (HO.out.alloc _).alloc _
          case c1 => exact news4 (heap_new' _ _ _ (by simp))
          case c2 => intro u hu; simp at hu; rcases hu with rfl | rfl | rfl | rfl <;> rfl
          case c3 => unfold maxLen; omega
          case c4 => omega
          case c5 => simp; omega
          intro g' cap' w1 hown1 hgrow1 _ _
          have R : Hid _ := datD_next (t := ⟨(l[i]'hlt).kind, (l[i]'hlt).parent - (a : Int), (l[i]'hlt).num, (l[i]'hlt).name⟩) ((HO.out.alloc _).alloc _) ((HB.out.alloc hz _).alloc (by simp; omega) _) (by simp; omega) hown1 hgrow1
          clear hown1 hgrow1
          go_wp2
          exact ⟨⟨i + 1, g', cap', f', D ++ [_], by omega, by omega, by go_num, by simp, by simp; omega, by omega, HN.out, R.out.1, R.out.2⟩, by simp [RowKit.intOf]; omega⟩
        · have HN : Hid (D = subD l a) := by
            have := HT.out
            rw [subFrom_off l a f' i hlt (by rw [← HDP.out, ← hdi]; omega), List.append_nil] at this
            exact this
          clear hia hdi
          go_wp2_with (go_at_call 101; refine HDi.out.mono ?_; rintro e w' ⟨rfl, hw'⟩; replace hw' := hw'.symm; subst hw')
          go_ret
          rw [← HN.out]
          exact ⟨q, c, rfl, HO.out, HB.out⟩
    · have HN : Hid (D = subD l a) := by
        have := HT.out
        rw [subFrom_end l a f i (by omega), List.append_nil] at this
        exact this
      go_wp2
      go_ret
      rw [← HN.out]
      exact ⟨q, c, rfl, HO.out, HB.out⟩
/-- An answer of SubData. -/
def outS (l : List Dat) (a : Int) : List Dat := if askD l a = 0 then subD l a.toNat else []
def AnsS (l : List Dat) (a : Int) (w : World) (e : Ending) (w' : World) : Prop :=
  ∃ ao c, e = .returned (.agg #[.int .i64 (askD l a), .int .i64 0, .slice ao (outS l a).length c]) ∧ w'.ownsRow w.heap.size 100 4 (.slice ao (outS l a).length c) (outS l a).length (cellsD (outS l a)) ∧ Below w.heap.size w w'
theorem ask_zero {l : List Dat} {a : Int} (h : askD l a = 0) : Fine l ∧ 0 ≤ a ∧ a < (l.length : Int) := by
  have hd : dataFault l = 0 := by
    by_cases hd : dataFault l = 0
    · exact hd
    · simp [askD, hd] at h
  unfold askD at h
  rw [if_neg (by simpa using hd)] at h
  split at h
  · rename_i h1
    exact ⟨fine_of hd, by omega, by omega⟩
  · cases h
end Go.Proofs.YtebnonpdaddniaaGreatDoor
/-
  Data with which nothing is wrong, as a tree, plainly: who is above whom; a datum and all below it stand side by side; its parts divide what stands behind it. No program in it.
-/
namespace Go.Proofs.YtebnonpdaddniaaGreatDoor
open Go.RowKit Go.Extern.Stop Go.Stop Go.Extern Num Go.Lib

/-- Whether a is met from b up. -/
def inCh (l : List Dat) (a : Nat) : Nat → Int → Prop
  | 0, _ => False
  | f + 1, b => 0 ≤ b ∧ (b = (a : Int) ∨ inCh l a f (par l b.toNat))
/-- a is k, or above it. -/
def Abv (l : List Dat) (a k : Nat) : Prop := ∃ f, inCh l a f (k : Int)
theorem abv_self (l : List Dat) (k : Nat) : Abv l k k := ⟨1, by omega, Or.inl rfl⟩
theorem abv_up {l : List Dat} {a k p : Nat} (hp : par l k = (p : Int)) (h : Abv l a p) : Abv l a k := by
  obtain ⟨f, hf⟩ := h
  refine ⟨f + 1, by omega, Or.inr ?_⟩
  rw [Int.toNat_natCast, hp]; exact hf
theorem abv_inv {l : List Dat} {a k : Nat} (h : Abv l a k) : k = a ∨ ∃ p : Nat, par l k = (p : Int) ∧ Abv l a p := by
  obtain ⟨f, hf⟩ := h
  cases f with
  | zero => exact hf.elim
  | succ f =>
    obtain ⟨_, h | h⟩ := hf
    · left; omega
    · right
      rw [Int.toNat_natCast] at h
      cases f with
      | zero => exact h.elim
      | succ f =>
        obtain ⟨p, hp⟩ := Int.eq_ofNat_of_zero_le h.1
        exact ⟨p, hp, f + 1, by rw [← hp]; exact h⟩
section
variable {l : List Dat}
theorem Fine.parlt (F : Fine l) {k p : Nat} (hk : k < l.length) (hp : par l k = (p : Int)) : p < k := by
  have := (F.parent k hk).1
  rw [par_at l k hk] at hp
  omega
theorem Fine.parneg (F : Fine l) {k : Nat} (hk : k < l.length) (h : ¬ ∃ p : Nat, par l k = (p : Int)) : par l k = -1 := by
  have h2 := (F.parent k hk).2
  rw [par_at l k hk] at h ⊢
  by_cases h0 : 0 ≤ l[k].parent
  · obtain ⟨p, hp⟩ := Int.eq_ofNat_of_zero_le h0
    exact absurd ⟨p, hp⟩ h
  · omega
theorem abv_le (F : Fine l) {a : Nat} : ∀ (k : Nat), k < l.length → Abv l a k → a ≤ k := by
  intro k
  induction k using Nat.strongRecOn with
  | _ k ih =>
    intro hk h
    rcases abv_inv h with h | ⟨p, hp, h⟩
    · omega
    · have hlt := F.parlt hk hp
      have := ih p hlt (by omega) h
      omega
/-- How deep. -/
def dep (l : List Dat) (k : Nat) : Nat := deepF l 100 (k : Int)
theorem deep_fuel (F : Fine l) : ∀ (k : Nat), k < l.length → ∀ f g, k < f → k < g → deepF l f (k : Int) = deepF l g (k : Int) := by
  intro k
  induction k using Nat.strongRecOn with
  | _ k ih =>
    intro hk f g hf hg
    obtain ⟨f', rfl⟩ : ∃ f', f = f' + 1 := ⟨f - 1, by omega⟩
    obtain ⟨g', rfl⟩ : ∃ g', g = g' + 1 := ⟨g - 1, by omega⟩
    rw [deepF_at l f' k hk, deepF_at l g' k hk]
    by_cases h : ∃ p : Nat, par l k = (p : Int)
    · obtain ⟨p, hp⟩ := h
      have hlt := F.parlt hk hp
      rw [par_at l k hk] at hp
      rw [hp, ih p hlt (by omega) f' g' (by omega) (by omega)]
    · have := F.parneg hk h
      rw [par_at l k hk] at this
      rw [this, deepF_neg l _ _ (by omega), deepF_neg l _ _ (by omega)]
theorem dep_par (F : Fine l) {k p : Nat} (hk : k < l.length) (hp : par l k = (p : Int)) : dep l k = dep l p + 1 := by
  have hlt := F.parlt hk hp
  have h80 := F.len
  rw [par_at l k hk] at hp
  unfold dep
  rw [deepF_at l 99 k hk, hp, deep_fuel F p (by omega) 99 100 (by omega) (by omega)]
theorem dep_pos (l : List Dat) {k : Nat} (hk : k < l.length) : 1 ≤ dep l k := by
  unfold dep
  rw [deepF_at l 99 k hk]; omega
theorem abv_dep (F : Fine l) {a : Nat} : ∀ (k : Nat), k < l.length → Abv l a k → k = a ∨ dep l a < dep l k := by
  intro k
  induction k using Nat.strongRecOn with
  | _ k ih =>
    intro hk h
    rcases abv_inv h with h | ⟨p, hp, h⟩
    · exact Or.inl h
    · right
      have hlt := F.parlt hk hp
      have hd := dep_par F hk hp
      rcases ih p hlt (by omega) h with h | h
      · subst h; omega
      · omega
/-- The line: whose part a datum is, is above the one ahead of it, and a list. -/
theorem line_abv : ∀ (f : Nat) (p : Int) (k : Nat), k < l.length → lineF l p f (k : Int) = true → ∃ q : Nat, p = (q : Int) ∧ Abv l q k := by
  intro f
  induction f with
  | zero => intro p k _ h; cases h
  | succ f ih =>
    intro p k hk h
    by_cases he : (k : Int) = p
    · exact ⟨k, he.symm, abv_self l k⟩
    · rw [lineF_on l p f k hk he] at h
      have hpk := par_at l k hk
      by_cases hn : 0 ≤ l[k].parent
      · obtain ⟨j, hj⟩ := Int.eq_ofNat_of_zero_le hn
        rw [hj] at h hpk
        by_cases hjl : j < l.length
        · obtain ⟨q, hq, hab⟩ := ih p j hjl h
          exact ⟨q, hq, abv_up hpk hab⟩
        · exfalso
          cases f with
          | zero => cases h
          | succ f =>
            have h0 : ¬ ((j : Int) < 0) := by omega
            simp only [lineF, if_neg h0, Int.toNat_natCast] at h
            have hnone : l[j]? = none := List.getElem?_eq_none (by omega)
            simp only [hnone, Option.map_none, Option.getD_none] at h
            split at h
            · cases h
            · have : par l j = -1 := by simp [par, hnone]
              rw [this, lineF_neg l p f (-1) (by omega)] at h
              cases h
      · rw [lineF_neg l p f _ (by omega)] at h; cases h
theorem Fine.line (F : Fine l) {k : Nat} (hk : k + 1 < l.length) : ∃ q : Nat, par l (k + 1) = (q : Int) ∧ Abv l q k := by
  have hc := F.ok (k + 1) hk hk
  have h1 : lineB l (k + 1) = true := by
    cases hl : lineB l (k + 1) with
    | true => rfl
    | false =>
      exfalso
      unfold chkD at hc
      have hb : (decide (0 < k + 1) && !(lineB l (k + 1))) = true := by simp [hl]
      rw [hb] at hc
      split at hc
      · cases hc
      · split at hc
        · cases hc
        · split at hc
          · cases hc
          · split at hc
            · cases hc
            · simp at hc
  unfold lineB at h1
  have e : ((k + 1 : Nat) : Int) - 1 = (k : Int) := by omega
  rw [e] at h1
  exact line_abv _ _ k (by omega) h1
/-- Where all that is below a datum ends. -/
def endD (l : List Dat) (a : Nat) : Nat := a + (subD l a).length
/-- What subFrom tells of a run of places. -/
theorem run_of (l : List Dat) (a : Nat) : ∀ (f i : Nat), i ≤ l.length → l.length - i ≤ f → a < i →
    (∀ j, i ≤ j → j < i + (subFrom l a f i).length → j < l.length ∧ dep l a < dep l j) ∧ (i + (subFrom l a f i).length < l.length → dep l (i + (subFrom l a f i).length) ≤ dep l a) ∧ i + (subFrom l a f i).length ≤ l.length := by
  intro f
  induction f with
  | zero =>
    intro i hi hf _
    have : i = l.length := by omega
    refine ⟨fun j h1 h2 => ?_, fun h => ?_, ?_⟩
    · simp [subFrom] at h2; omega
    · simp [subFrom] at h; omega
    · simp [subFrom]; omega
  | succ f ih =>
    intro i hi hf hai
    by_cases h : i < l.length
    · by_cases hd : i = a ∨ deepF l 100 (a : Int) < deepF l 100 (i : Int)
      · rw [subFrom_on l a f i h hd]
        obtain ⟨h1, h2, h3⟩ := ih (i + 1) (by omega) (by omega) (by omega)
        have e : i + (shiftD a i l[i] :: subFrom l a f (i + 1)).length = i + 1 + (subFrom l a f (i + 1)).length := by simp; omega
        rw [e]
        refine ⟨fun j hj1 hj2 => ?_, h2, h3⟩
        by_cases hij : j = i
        · subst hij
          refine ⟨h, ?_⟩
          rcases hd with hd | hd
          · omega
          · exact hd
        · exact h1 j (by omega) hj2
      · rw [subFrom_off l a f i h hd]
        refine ⟨fun j hj1 hj2 => ?_, fun _ => ?_, ?_⟩
        · simp at hj2; omega
        · have : ¬ deepF l 100 (a : Int) < deepF l 100 (i : Int) := fun h => hd (Or.inr h)
          simp only [List.length_nil, Nat.add_zero]
          unfold dep; omega
        · simp; omega
    · rw [subFrom_end l a _ i (by omega)]
      refine ⟨fun j hj1 hj2 => ?_, fun h' => ?_, ?_⟩
      · simp at hj2; omega
      · simp at h'; omega
      · simp; omega
theorem end_facts (l : List Dat) (a : Nat) (ha : a < l.length) : a < endD l a ∧ endD l a ≤ l.length ∧ (∀ j, a < j → j < endD l a → dep l a < dep l j) ∧ (endD l a < l.length → dep l (endD l a) ≤ dep l a) := by
  have hs : ∃ f, l.length = f + 1 := ⟨l.length - 1, by omega⟩
  obtain ⟨f, hf⟩ := hs
  have e : subD l a = shiftD a a l[a] :: subFrom l a f (a + 1) := by
    unfold subD
    rw [hf, subFrom_on l a f a ha (Or.inl rfl)]
  obtain ⟨h1, h2, h3⟩ := run_of l a f (a + 1) (by omega) (by omega) (by omega)
  have e2 : endD l a = a + 1 + (subFrom l a f (a + 1)).length := by unfold endD; rw [e]; simp; omega
  rw [e2]
  exact ⟨by omega, h3, fun j hj1 hj2 => (h1 j (by omega) hj2).2, h2⟩
/-- All between a datum and its end is below it. -/
theorem below_abv (F : Fine l) (a : Nat) (ha : a < l.length) : ∀ j, a ≤ j → j < endD l a → Abv l a j := by
  obtain ⟨h1, h2, h3, h4⟩ := end_facts l a ha
  intro j
  induction j with
  | zero =>
    intro hj _
    have : a = 0 := by omega
    subst this; exact abv_self l 0
  | succ j ih =>
    intro hj he
    by_cases hja : j + 1 = a
    · rw [hja]; exact abv_self l a
    · have hj1 := ih (by omega) (by omega)
      have hjl : j + 1 < l.length := by omega
      obtain ⟨q, hq, hab⟩ := F.line hjl
      -- q is above j, and so is a: one of them is above the other
      have hd := dep_par F hjl hq
      have hdj := h3 (j + 1) (by omega) he
      have key : ∀ (k : Nat), k < l.length → Abv l a k → Abv l q k → dep l a ≤ dep l q → Abv l a q := by
        intro k
        induction k using Nat.strongRecOn with
        | _ k ihk =>
          intro hk hA hQ hdq
          rcases abv_inv hQ with h | ⟨p, hp, hQ'⟩
          · rw [h] at hA; exact hA
          · rcases abv_inv hA with h' | ⟨p', hp', hA'⟩
            · exfalso
              subst h'
              have hlt := F.parlt hk hp
              have := dep_par F hk hp
              rcases abv_dep F p (by omega) hQ' with e | e
              · subst e; omega
              · omega
            · have : p = p' := by omega
              subst this
              exact ihk p (F.parlt hk hp) (by have := F.parlt hk hp; omega) hA' hQ' hdq
      exact abv_up hq (key j (by omega) hj1 hab (by omega))
/-- Nothing behind its end is below a datum. -/
theorem behind_not (F : Fine l) (a : Nat) (ha : a < l.length) : ∀ j, endD l a ≤ j → j < l.length → ¬ Abv l a j := by
  obtain ⟨h1, h2, h3, h4⟩ := end_facts l a ha
  intro j
  induction j using Nat.strongRecOn with
  | _ j ih =>
    intro hj hjl hA
    rcases abv_inv hA with h | ⟨p, hp, hA'⟩
    · omega
    · have hlt := F.parlt hjl hp
      by_cases hpe : endD l a ≤ p
      · exact ih p hlt hpe (by omega) hA'
      · -- the list is below a, yet its part stands behind a's end
        obtain ⟨i, rfl⟩ : ∃ i, j = i + 1 := ⟨j - 1, by omega⟩
        obtain ⟨q, hq, hab⟩ := F.line hjl
        have : q = p := by omega
        subst this
        by_cases hie : endD l a ≤ i
        · -- from i up one comes to q: so a is above i
          have tr : ∀ (k : Nat), k < l.length → Abv l q k → Abv l a k := by
            intro k
            induction k using Nat.strongRecOn with
            | _ k ihk =>
              intro hk hQ
              rcases abv_inv hQ with h | ⟨p, hp', hQ'⟩
              · rw [h]; exact hA'
              · exact abv_up hp' (ihk p (F.parlt hk hp') (by have := F.parlt hk hp'; omega) hQ')
          exact ih i (by omega) hie (by omega) (tr i (by omega) hab)
        · have hje : i + 1 = endD l a := by omega
          have hd := h4 (by omega)
          rw [← hje] at hd
          have hdp := dep_par F hjl hp
          rcases abv_dep F q (by omega) hA' with e | e
          · subst e; omega
          · omega
end
end Go.Proofs.YtebnonpdaddniaaGreatDoor
namespace Go.Proofs.YtebnonpdaddniaaGreatDoor
open Go.RowKit Go.Extern.Stop Go.Stop Go.Extern Num Go.Lib

theorem chk_all {l : List Dat} {i : Nat} {t : Dat} (h : chkD l i t = 0) : bareB t = true ∧ rangeBad t = false ∧ symBad t = false ∧ parBad i t.parent = false ∧ (0 < i → lineB l i = true) ∧ deepF l 100 (i : Int) ≤ 12 := by
  unfold chkD at h
  by_cases h1 : bareB t = false
  · rw [if_pos h1] at h; cases h
  rw [if_neg h1] at h
  by_cases h2 : rangeBad t = true
  · rw [if_pos h2] at h; cases h
  rw [if_neg h2] at h
  by_cases h3 : symBad t = true
  · rw [if_pos h3] at h; cases h
  rw [if_neg h3] at h
  by_cases h4 : parBad i t.parent = true
  · rw [if_pos h4] at h; cases h
  rw [if_neg h4] at h
  by_cases h5 : (decide (0 < i) && !(lineB l i)) = true
  · rw [if_pos h5] at h; cases h
  rw [if_neg h5] at h
  by_cases h6 : 12 < deepF l 100 (i : Int)
  · rw [if_pos h6] at h; cases h
  refine ⟨by simpa using h1, by simpa using h2, by simpa using h3, by simpa using h4, fun h0 => ?_, by omega⟩
  cases hb : lineB l i with
  | true => rfl
  | false => exact absurd (by simp [hb, h0]) h5
/-- What a datum is. -/
theorem kindD_cases {t : Dat} (hb : bareB t = true) (hr : rangeBad t = false) (hs : symBad t = false) :
    (t.kind = 1 ∧ inB t.num = true ∧ t.name.data.toList = []) ∨ (t.kind = 2 ∧ (t.num = 0 ∨ t.num = 1) ∧ t.name.data.toList = []) ∨ (t.kind = 3 ∧ t.num = 0 ∧ symL t.name.data.toList = true) ∨ (t.kind = 4 ∧ t.num = 0 ∧ t.name.data.toList = []) := by
  obtain ⟨k, p, n, z⟩ := t
  simp only [bareB, Bool.and_eq_true, decide_eq_true_eq, Bool.or_eq_true, beq_iff_eq] at hb
  obtain ⟨⟨hk, hn⟩, hz⟩ := hb
  have hk4 : k = 1 ∨ k = 2 ∨ k = 3 ∨ k = 4 := by omega
  rcases hk4 with rfl | rfl | rfl | rfl
  · left
    refine ⟨rfl, ?_, ?_⟩
    · simpa [rangeBad] using hr
    · simpa using hz
  · right; left
    refine ⟨rfl, ?_, ?_⟩
    · have : 0 ≤ n ∧ n ≤ 1 := by simpa [rangeBad] using hr
      show n = 0 ∨ n = 1
      omega
    · simpa using hz
  · right; right; left
    refine ⟨rfl, by simpa using hn, by simpa [symBad] using hs⟩
  · right; right; right
    exact ⟨rfl, by simpa using hn, by simpa using hz⟩
section
variable {l : List Dat}
theorem Fine.kinds (F : Fine l) (k : Nat) (hk : k < l.length) : (l[k].kind = 1 ∧ inB l[k].num = true ∧ l[k].name.data.toList = []) ∨ (l[k].kind = 2 ∧ (l[k].num = 0 ∨ l[k].num = 1) ∧ l[k].name.data.toList = []) ∨ (l[k].kind = 3 ∧ l[k].num = 0 ∧ symL l[k].name.data.toList = true) ∨ (l[k].kind = 4 ∧ l[k].num = 0 ∧ l[k].name.data.toList = []) := by
  obtain ⟨h1, h2, h3, _⟩ := chk_all (F.ok k hk hk)
  exact kindD_cases h1 h2 h3
theorem Fine.deep (F : Fine l) (k : Nat) (hk : k < l.length) : dep l k ≤ 12 := (chk_all (F.ok k hk hk)).2.2.2.2.2
theorem Fine.first (F : Fine l) : par l 0 = -1 := by
  have h := F.parent 0 F.pos
  rw [par_at l 0 F.pos]
  omega
/-- All but the first are parts of a list. -/
theorem line_kind : ∀ (f : Nat) (p : Int) (k : Int), lineF l p f k = true → 0 ≤ p ∧ (l[p.toNat]?.map (·.kind)).getD 0 = 4 := by
  intro f
  induction f with
  | zero => intro p k h; cases h
  | succ f ih =>
    intro p k h
    unfold lineF at h
    split at h
    · cases h
    · split at h
      · rename_i h0 h1
        subst h1
        exact ⟨by omega, by simpa using h⟩
      · exact ih p _ h
theorem Fine.list (F : Fine l) {k : Nat} (hk : k < l.length) (h0 : 0 < k) : ∃ (q : Nat) (hq : q < l.length), par l k = (q : Int) ∧ q < k ∧ l[q].kind = 4 := by
  have h1 := (chk_all (F.ok k hk hk)).2.2.2.2.1 h0
  obtain ⟨hp, hkd⟩ := line_kind _ _ _ h1
  obtain ⟨q, hq⟩ := Int.eq_ofNat_of_zero_le hp
  have hlt := F.parlt hk hq
  rw [hq] at hkd
  refine ⟨q, by omega, hq, hlt, ?_⟩
  simpa [show q < l.length by omega] using hkd
theorem abv_trans (F : Fine l) {a p : Nat} (hA : Abv l a p) : ∀ (k : Nat), k < l.length → Abv l p k → Abv l a k := by
  intro k
  induction k using Nat.strongRecOn with
  | _ k ih =>
    intro hk hQ
    rcases abv_inv hQ with h | ⟨q, hq, hQ'⟩
    · rw [h]; exact hA
    · have := F.parlt hk hq
      exact abv_up hq (ih q this (by omega) hQ')
theorem abv_part {a p : Nat} (h : par l p = (a : Int)) : Abv l a p := abv_up h (abv_self l a)
/-- Two parts of one datum: the one ahead ends ahead of the other. -/
theorem parts_apart (F : Fine l) {a p q : Nat} (hp : par l p = (a : Int)) (hq : par l q = (a : Int)) (hpq : p < q) (hql : q < l.length) : endD l p ≤ q := by
  by_cases h : endD l p ≤ q
  · exact h
  · exfalso
    have hA := below_abv F p (by omega) q (by omega) (by omega)
    have hlt := F.parlt (k := p) (by omega) hp
    rcases abv_inv hA with e | ⟨r, hr, hA'⟩
    · omega
    · have : r = a := by omega
      subst this
      have := abv_le F r (by have := F.parlt hql hq; omega) hA'
      omega
/-- A part ends where its list ends, or ahead of it. -/
theorem part_in (F : Fine l) {a p : Nat} (hp : par l p = (a : Int)) (hpl : p < l.length) : a < p ∧ p < endD l a ∧ endD l p ≤ endD l a := by
  have hlt := F.parlt hpl hp
  have hpe : p < endD l a := by
    by_cases h : p < endD l a
    · exact h
    · exact absurd (abv_part hp) (behind_not F a (by omega) p (by omega) hpl)
  refine ⟨hlt, hpe, ?_⟩
  by_cases h : endD l p ≤ endD l a
  · exact h
  · exfalso
    have he := (end_facts l p hpl).2.1
    have hA := below_abv F p hpl (endD l a) (by omega) (by omega)
    exact behind_not F a (by omega) (endD l a) (Nat.le_refl _) (by omega) (abv_trans F (abv_part hp) _ (by omega) hA)
/-- All that is below a datum, is a part of it or below one. -/
theorem abv_via (F : Fine l) {a : Nat} : ∀ (k : Nat), k < l.length → Abv l a k → k ≠ a → ∃ p : Nat, par l p = (a : Int) ∧ p ≤ k ∧ Abv l p k := by
  intro k
  induction k using Nat.strongRecOn with
  | _ k ih =>
    intro hk hA hne
    rcases abv_inv hA with e | ⟨q, hq, hA'⟩
    · exact absurd e hne
    · have hlt := F.parlt hk hq
      by_cases hqa : q = a
      · subst hqa
        exact ⟨k, hq, Nat.le_refl _, abv_self l k⟩
      · obtain ⟨p, hp, hpk, hpA⟩ := ih q hlt (by omega) hA' hqa
        exact ⟨p, hp, by omega, abv_up hq hpA⟩
/-- How much a row of parts takes. -/
def spanL (l : List Dat) (L : List Int) : Nat := (L.map fun p => endD l p.toNat - p.toNat).sum
theorem parts_to_mem (l : List Dat) (a : Int) (k : Nat) (p : Int) : p ∈ partsTo l a k ↔ ∃ j : Nat, p = (j : Int) ∧ j < k ∧ par l j = a := by
  induction k with
  | zero => simp [partsTo]
  | succ k ih =>
    simp only [partsTo]
    split
    · rename_i h
      rw [List.mem_append, ih]
      constructor
      · rintro (⟨j, h1, h2, h3⟩ | h1)
        · exact ⟨j, h1, by omega, h3⟩
        · exact ⟨k, by simpa using h1, by omega, h⟩
      · rintro ⟨j, h1, h2, h3⟩
        by_cases hj : j < k
        · exact Or.inl ⟨j, h1, hj, h3⟩
        · right
          have : j = k := by omega
          subst this; simp [h1]
    · rename_i h
      rw [ih]
      constructor
      · rintro ⟨j, h1, h2, h3⟩; exact ⟨j, h1, by omega, h3⟩
      · rintro ⟨j, h1, h2, h3⟩
        by_cases hj : j < k
        · exact ⟨j, h1, hj, h3⟩
        · have : j = k := by omega
          subst this; exact absurd h3 h
theorem parts_mem (l : List Dat) (a : Int) (p : Int) : p ∈ partsD l a ↔ ∃ j : Nat, p = (j : Int) ∧ j < l.length ∧ par l j = a := parts_to_mem l a l.length p
/-- Up to a place the parts take all there is, and a bit more. -/
theorem span_to (F : Fine l) (a : Nat) (ha : a < l.length) : ∀ k, a + 1 ≤ k → k ≤ endD l a →
    (partsTo l a k = [] ∧ k = a + 1) ∨ (∃ p : Nat, p < k ∧ par l p = (a : Int) ∧ a + 1 + spanL l (partsTo l a k) = endD l p ∧ k ≤ endD l p ∧ ∀ q : Nat, q < k → par l q = (a : Int) → q ≤ p) := by
  obtain ⟨e1, e2, e3, e4⟩ := end_facts l a ha
  intro k
  induction k with
  | zero => intro h _; omega
  | succ k ih =>
    intro hk hke
    by_cases hka : k = a
    · subst hka
      left
      refine ⟨?_, rfl⟩
      have hne : ∀ p, p ∉ partsTo l (k : Int) (k + 1) := by
        intro p hp
        obtain ⟨j, _, hj, hjp⟩ := (parts_to_mem l _ _ _).1 hp
        have := F.parlt (k := j) (by omega) hjp
        omega
      exact List.eq_nil_iff_forall_not_mem.2 hne
    · have hkl : k < l.length := by omega
      right
      rcases ih (by omega) (by omega) with ⟨h1, h2⟩ | ⟨p, hp, hpa, hs, hkp, hmax⟩
      · -- the first part
        have hA := below_abv F a ha k (by omega) (by omega)
        obtain ⟨q, hq, hqk, _⟩ := abv_via F k hkl hA (by omega)
        have := F.parlt (k := q) (by omega) hq
        have hqk' : q = k := by omega
        subst hqk'
        refine ⟨q, by omega, hq, ?_, ?_, fun r hr _ => by omega⟩
        · have := (end_facts l q hkl).1
          simp only [partsTo, if_pos hq, h1, spanL]
          simp
          omega
        · have := (end_facts l q hkl).1
          omega
      · by_cases hkp' : k < endD l p
        · have hno : ¬ par l k = (a : Int) := by
            intro h
            have := parts_apart F hpa h hp hkl
            omega
          refine ⟨p, by omega, hpa, ?_, by omega, fun q hq hqa => ?_⟩
          · simp only [partsTo, if_neg hno]; exact hs
          · by_cases hqk : q < k
            · exact hmax q hqk hqa
            · have : q = k := by omega
              subst this; exact absurd hqa hno
        · have hkE : k = endD l p := by omega
          have hA := below_abv F a ha k (by omega) (by omega)
          obtain ⟨q, hq, hqk, hqA⟩ := abv_via F k hkl hA (by omega)
          have hqk' : q = k := by
            by_cases h : q = k
            · exact h
            · exfalso
              have hqp := hmax q (by omega) hq
              have hin : k < endD l q := by
                by_cases h' : k < endD l q
                · exact h'
                · exact absurd hqA (behind_not F q (by omega) k (by omega) hkl)
              by_cases hqp' : q = p
              · subst hqp'; omega
              · have := parts_apart F hq hpa (by omega) (by omega)
                omega
          subst hqk'
          refine ⟨q, by omega, hq, ?_, ?_, fun r hr _ => by omega⟩
          · have := (end_facts l q hkl).1
            have hs' : spanL l (partsTo l a q ++ [(q : Int)]) = spanL l (partsTo l a q) + (endD l q - q) := by simp [spanL]
            simp only [partsTo, if_pos hq]
            rw [hs']
            omega
          · have := (end_facts l q hkl).1
            omega
theorem parts_stop (F : Fine l) (a : Nat) (ha : a < l.length) : ∀ k, endD l a ≤ k → k ≤ l.length → partsTo l a k = partsTo l a (endD l a) := by
  intro k
  induction k with
  | zero => intro h _; have := (end_facts l a ha).1; omega
  | succ k ih =>
    intro h1 h2
    by_cases he : endD l a = k + 1
    · rw [he]
    · have hno : ¬ par l k = (a : Int) := by
        intro h
        have := part_in F h (by omega)
        omega
      rw [partsTo, if_neg hno]
      exact ih (by omega) (by omega)
/-- The parts of a datum divide what stands behind it. -/
theorem span_all (F : Fine l) (a : Nat) (ha : a < l.length) : a + 1 + spanL l (partsD l a) = endD l a := by
  obtain ⟨e1, e2, e3, e4⟩ := end_facts l a ha
  unfold partsD
  rw [parts_stop F a ha l.length e2 (Nat.le_refl _)]
  rcases span_to F a ha (endD l a) (by omega) (Nat.le_refl _) with ⟨h1, h2⟩ | ⟨p, hp, hpa, hs, hkp, _⟩
  · rw [h1]; simp [spanL]; omega
  · have := (part_in F hpa (by omega)).2.2
    omega
end
end Go.Proofs.YtebnonpdaddniaaGreatDoor
/-
  The text of data, plainly, and its length. No program in it.
-/
namespace Go.Proofs.YtebnonpdaddniaaGreatDoor
open Go.RowKit Go.Extern.Stop Go.Stop Go.Extern Num Go.Lib

/-- The text of a datum with no parts. -/
def leafT (t : Dat) : List UInt8 := if t.kind = 1 then itoa t.num else if t.kind = 2 then (if t.num = 0 then [35, 102] else [35, 116]) else t.name.data.toList
/-- Texts with a blank between. -/
def joinP (W : Nat → List UInt8) (L : List Int) : List UInt8 := Lib.join (L.map fun p => W p.toNat) [32]
theorem joinP_nil (W : Nat → List UInt8) : joinP W [] = [] := rfl
theorem joinP_one (W : Nat → List UInt8) (p : Int) : joinP W [p] = W p.toNat := by simp [joinP, join_one]
theorem joinP_next (W : Nat → List UInt8) (L : List Int) (p : Int) (h : L ≠ []) : joinP W (L ++ [p]) = joinP W L ++ ([32] ++ W p.toNat) := by
  cases L with
  | nil => exact absurd rfl h
  | cons a r =>
    simp only [joinP, List.cons_append, List.map_cons, List.map_append, List.map_nil, join_cons, List.append_assoc]
    simp [joinTail]
theorem ints_next (L : List Int) (k : Nat) (h : k < L.length) : L.take (k + 1) = L.take k ++ [L[k]] := by
  rw [List.take_add_one, List.getElem?_eq_getElem h]; rfl
theorem joinP_take0 (W : Nat → List UInt8) (L : List Int) (h : 0 < L.length) : joinP W (L.take (0 + 1)) = joinP W (L.take 0) ++ W (L[0]).toNat := by
  rw [ints_next L 0 h]
  simp [joinP_one, joinP_nil]
theorem joinP_take (W : Nat → List UInt8) (L : List Int) (k : Nat) (h : k < L.length) (hk : 0 < k) : joinP W (L.take (k + 1)) = joinP W (L.take k) ++ ([32] ++ W (L[k]).toNat) := by
  rw [ints_next L k h]
  refine joinP_next W _ _ ?_
  intro e
  have := congrArg List.length e
  rw [List.length_take, List.length_nil] at this
  omega
theorem jt_append (a b : List (List UInt8)) : joinTail [32] (a ++ b) = joinTail [32] a ++ joinTail [32] b := by simp [joinTail]
theorem joinP_take_len (W : Nat → List UInt8) (L : List Int) : ∀ k, k ≤ L.length → (joinP W (L.take k)).length ≤ (joinP W L).length := by
  intro k hk
  cases L with
  | nil => simp
  | cons a r =>
    cases k with
    | zero => simp [joinP_nil]
    | succ k =>
      have e : (a :: r).take (k + 1) = a :: r.take k := rfl
      rw [e]
      simp only [joinP, List.map_cons, join_cons, List.length_append]
      have h2 : r.map (fun p => W p.toNat) = (r.take k).map (fun p => W p.toNat) ++ (r.drop k).map (fun p => W p.toNat) := by rw [← List.map_append, List.take_append_drop]
      have h3 : (joinTail [32] (r.map fun p => W p.toNat)).length = (joinTail [32] ((r.take k).map fun p => W p.toNat)).length + (joinTail [32] ((r.drop k).map fun p => W p.toNat)).length := by
        rw [h2, jt_append, List.length_append]
      omega
/-- The text of the datum at a place; fuel as many as stand from there on. -/
def writeF (l : List Dat) : Nat → Nat → List UInt8
  | 0, _ => []
  | f + 1, a => if (l[a]?.map (·.kind)).getD 0 = 4 then [40] ++ joinP (fun p => writeF l f p) (partsD l (a : Int)) ++ [41] else ((l[a]?).map leafT).getD []
theorem write_list (l : List Dat) (f a : Nat) (h : a < l.length) (hk : l[a].kind = 4) : writeF l (f + 1) a = [40] ++ joinP (writeF l f) (partsD l (a : Int)) ++ [41] := by
  simp only [writeF, List.getElem?_eq_getElem h, Option.map_some, Option.getD_some, if_pos hk]
theorem write_leaf (l : List Dat) (f a : Nat) (h : a < l.length) (hk : l[a].kind ≠ 4) : writeF l (f + 1) a = leafT l[a] := by
  simp only [writeF, List.getElem?_eq_getElem h, Option.map_some, Option.getD_some, if_neg hk]
theorem leaf_len {l : List Dat} (F : Fine l) (a : Nat) (h : a < l.length) (hk : l[a].kind ≠ 4) : (leafT l[a]).length ≤ 12 := by
  rcases F.kinds a h with ⟨h1, h2, _⟩ | ⟨h1, h2, _⟩ | ⟨h1, _, h2⟩ | ⟨h1, _⟩
  · have := itoa_len _ h2
    simp [leafT, h1]; omega
  · rcases h2 with h2 | h2 <;> simp [leafT, h1, h2]
  · simp only [symL, Bool.and_eq_true, decide_eq_true_eq] at h2
    simp only [leafT, h1]
    simp
    have := h2.2.2
    simpa using this
  · exact absurd h1 hk
theorem parts_len {l : List Dat} (F : Fine l) (W : Nat → List UInt8) (hW : ∀ p, p < l.length → (W p).length + 1 ≤ 20 * (endD l p - p)) (a : Nat) : ∀ k, k ≤ l.length →
    partsTo l (a : Int) k = [] ∨ (partsTo l (a : Int) k ≠ [] ∧ ∃ p : Nat, p < k ∧ par l p = (a : Int) ∧ (joinP W (partsTo l (a : Int) k)).length + 1 ≤ 20 * (endD l p - (a + 1))) := by
  intro k
  induction k with
  | zero => intro _; exact Or.inl rfl
  | succ k ih =>
    intro hk
    have hkl : k < l.length := by omega
    simp only [partsTo]
    by_cases hp : par l k = (a : Int)
    · rw [if_pos hp]
      right
      have hlt := (part_in F hp hkl).1
      have hek := (end_facts l k hkl).1
      have hw := hW k hkl
      refine ⟨by simp, k, by omega, hp, ?_⟩
      rcases ih (by omega) with h | ⟨hne, p, hpk, hpa, hlen⟩
      · rw [h]
        simp only [List.nil_append, joinP_one, Int.toNat_natCast]
        omega
      · rw [joinP_next W _ _ hne]
        have := parts_apart F hpa hp hpk hkl
        have hpl := (part_in F hpa (by omega)).1
        have hpe := (end_facts l p (by omega)).1
        simp only [List.length_append, Int.toNat_natCast, List.length_cons, List.length_nil]
        omega
    · rw [if_neg hp]
      rcases ih (by omega) with h | ⟨hne, p, hpk, hpa, hlen⟩
      · exact Or.inl h
      · exact Or.inr ⟨hne, p, by omega, hpa, hlen⟩
theorem write_len {l : List Dat} (F : Fine l) : ∀ (f a : Nat), a < l.length → (writeF l f a).length + 1 ≤ 20 * (endD l a - a) := by
  intro f
  induction f with
  | zero => intro a ha; have := (end_facts l a ha).1; simp [writeF]; omega
  | succ f ih =>
    intro a ha
    have he := (end_facts l a ha).1
    by_cases hk : l[a].kind = 4
    · rw [write_list l f a ha hk]
      rcases parts_len F (writeF l f) ih a l.length (Nat.le_refl _) with h | ⟨_, p, hpk, hpa, hlen⟩
      · have : partsD l (a : Int) = [] := h
        rw [this, joinP_nil]
        simp; omega
      · have hi := part_in F hpa hpk
        have : (joinP (writeF l f) (partsD l (a : Int))).length + 1 ≤ 20 * (endD l p - (a + 1)) := hlen
        simp only [List.length_append, List.length_cons, List.length_nil]
        omega
    · rw [write_leaf l f a ha hk]
      have := leaf_len F a ha hk
      omega
theorem write_small {l : List Dat} (F : Fine l) (f a : Nat) (ha : a < l.length) : (writeF l f a).length ≤ 1600 := by
  have := write_len F f a ha
  have := (end_facts l a ha).2.1
  have := F.len
  omega
end Go.Proofs.YtebnonpdaddniaaGreatDoor
