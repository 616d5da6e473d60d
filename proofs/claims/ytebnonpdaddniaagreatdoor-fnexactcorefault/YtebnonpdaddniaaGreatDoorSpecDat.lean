/-
  Data, plainly, and the model's l3Bare, l3Deep and l3Line: what a datum has, how deep it lies, whether its list is still open; nothing is turned.
-/
import Derived.Test.YtebnonpdaddniaaGreatDoorStDatum
import Derived.Test.YtebnonpdaddniaaGreatDoorSpecSym
namespace Go.Proofs.YtebnonpdaddniaaGreatDoor
open Go.RowKit Go.Extern.Stop Go.Stop Go.Extern Num Go.Lib

/-- The data that lie in a row. -/
def RowD (w : World) (g : Nat) (l : List Dat) : Prop := ∀ (k : Nat) (h : k < l.length), w.cell? ⟨g, k * 4, none⟩ = some (.int .i64 l[k].kind) ∧ w.cell? ⟨g, k * 4 + 1, none⟩ = some (.int .i64 l[k].parent) ∧ w.cell? ⟨g, k * 4 + 2, none⟩ = some (.int .i64 l[k].num) ∧ w.cell? ⟨g, k * 4 + 3, none⟩ = some (.string l[k].name)
theorem RowD.below {w w' : World} {g : Nat} {l : List Dat} (h : RowD w g l) (hb : Below w.heap.size w w') : RowD w' g l := fun k hk => ⟨cell_keep hb (h k hk).1, cell_keep hb (h k hk).2.1, cell_keep hb (h k hk).2.2.1, cell_keep hb (h k hk).2.2.2⟩
theorem RowD.of {w : World} {base g cap : Nat} {l : List Dat} (h : w.ownsRow base 100 4 (.slice (some ⟨g, 0, none⟩) l.length cap) l.length (cellsD l)) : RowD w g l := fun k hk => rowD_at h k hk
/-- Whose part it is. -/
def par (l : List Dat) (k : Nat) : Int := (l[k]?.map (·.parent)).getD (-1)
theorem par_at (l : List Dat) (k : Nat) (h : k < l.length) : par l k = l[k].parent := by simp [par, h]
/-- How many data there are from a place up. -/
def deepF (l : List Dat) : Nat → Int → Nat
  | 0, _ => 0
  | f + 1, a => if a < 0 then 0 else deepF l f (par l a.toNat) + 1
theorem deepF_neg (l : List Dat) (f : Nat) (a : Int) (h : a < 0) : deepF l f a = 0 := by cases f <;> simp [deepF, h]
theorem deepF_at (l : List Dat) (f k : Nat) (h : k < l.length) : deepF l (f + 1) (k : Int) = deepF l f l[k].parent + 1 := by
  have h0 : ¬ ((k : Int) < 0) := by omega
  simp only [deepF, if_neg h0, Int.toNat_natCast, par_at l k h]
/-- Whether, from a place up, p is met, and is a list. -/
def lineF (l : List Dat) (p : Int) : Nat → Int → Bool
  | 0, _ => false
  | f + 1, a => if a < 0 then false else if a = p then ((l[a.toNat]?.map (·.kind)).getD 0 == 4) else lineF l p f (par l a.toNat)
theorem lineF_neg (l : List Dat) (p : Int) (f : Nat) (a : Int) (h : a < 0) : lineF l p f a = false := by cases f <;> simp [lineF, h]
theorem lineF_hit (l : List Dat) (f k : Nat) (h : k < l.length) : lineF l (k : Int) (f + 1) (k : Int) = (l[k].kind == 4) := by
  have h0 : ¬ ((k : Int) < 0) := by omega
  simp [lineF, h]
theorem lineF_on (l : List Dat) (p : Int) (f k : Nat) (h : k < l.length) (hp : (k : Int) ≠ p) : lineF l p (f + 1) (k : Int) = lineF l p f l[k].parent := by
  have h0 : ¬ ((k : Int) < 0) := by omega
  simp only [lineF, if_neg h0, if_neg hp, Int.toNat_natCast, par_at l k h]
def lineB (l : List Dat) (i : Nat) : Bool := lineF l (par l i) i ((i : Int) - 1)

set_option maxHeartbeats 1000000 in
theorem l3Deep_any (g cap : Nat) (l : List Dat) (w : World) (i : Nat) (a : Int) (hR : RowD w g l) (hi : i < l.length) (hp : ∀ (j : Nat) (h : j < l.length), j ≤ i → l[j].parent ≤ (j : Int)) (ha : a ≤ (i : Int)) :
    Calls Tryz.prog 101 #[.slice (some ⟨g, 0, none⟩) l.length cap, .int .i64 a] w fun e w' => e = .returned (.int .i64 (deepF l 100 a : Nat)) ∧ w' = w := by
  have HR : Hid (RowD w g l) := hR
  have HP : Hid (∀ (j : Nat) (h : j < l.length), j ≤ i → l[j].parent ≤ (j : Int)) := hp
  clear hR hp
  obtain ⟨R, hRe⟩ : ∃ R : Nat, R = deepF l 100 a := ⟨_, rfl⟩
  rw [← hRe]
  have HE : Hid (R = deepF l 100 a) := hRe
  clear hRe
  go_enter Tryz.func101, Tryz.ntmps101
  go_wp2_with fail
  go_loopw [1, 5] (fun v m wr => ∃ (b : Int) (n : Nat), b ≤ (i : Int) ∧ n ≤ 100 ∧ v = .int .i64 b ∧ m = .int .i64 (n : Int) ∧ Hid (n + deepF l (100 - n) b = R) ∧ Hid (wr = w)) (fun _ m _ => 100 - (RowKit.intOf m).toNat)
  case atStart => exact ⟨a, 0, ha, by omega, rfl, rfl, by show 0 + deepF l 100 a = R; rw [HE.out]; omega, rfl⟩
  case round =>
    obtain ⟨b, n, hb, hn, rfl, rfl, HD, HW⟩ := hrel
    by_cases h0 : 0 ≤ b
    · obtain ⟨k, rfl⟩ := Int.eq_ofNat_of_zero_le h0
      by_cases h1 : (n : Int) < 100
      · have hk : k < l.length := by omega
        have hc : wr.cell? ⟨g, k * 4 + 1, none⟩ = some (.int .i64 (l[k]'hk).parent) := by rw [HW.out]; exact (HR.out k hk).2.1
        have hpk := HP.out k hk (by omega)
        have HD2 : Hid ((n + 1) + deepF l (100 - (n + 1)) (l[k]'hk).parent = R) := by
          have := HD.out
          show (n + 1) + _ = R
          rw [← this, show 100 - n = (100 - (n + 1)) + 1 by omega, deepF_at l _ k hk]; omega
        go_wp2
        exact ⟨⟨(l[k]'hk).parent, n + 1, by omega, by omega, rfl, by go_num, HD2.out, HW.out⟩, by simp [RowKit.intOf]; omega⟩
      · have HF : Hid ((n : Int) = (R : Int)) := by
          have := HD.out
          rw [show 100 - n = 0 by omega] at this
          simp [deepF] at this
          show (n : Int) = (R : Int)
          omega
        go_wp2
        go_ret
        exact ⟨by rw [HF.out]; rfl, HW.out⟩
    · have HF : Hid ((n : Int) = (R : Int)) := by
        have := HD.out
        rw [deepF_neg l _ b (by omega)] at this
        show (n : Int) = (R : Int)
        omega
      go_wp2
      go_ret
      exact ⟨by rw [HF.out]; rfl, HW.out⟩
set_option maxHeartbeats 1000000 in
theorem l3Line_any (g cap : Nat) (l : List Dat) (w : World) (i : Nat) (hR : RowD w g l) (hi : i < l.length) (hi0 : 0 < i) (hlm : l.length ≤ 1048576) (hp : ∀ (j : Nat) (h : j < l.length), j < i → l[j].parent < (j : Int)) :
    Calls Tryz.prog 100 #[.slice (some ⟨g, 0, none⟩) l.length cap, .int .i64 (i : Int)] w fun e w' => e = .returned (.bool (lineB l i)) ∧ w' = w := by
  have HR : Hid (RowD w g l) := hR
  have HP : Hid (∀ (j : Nat) (h : j < l.length), j < i → l[j].parent < (j : Int)) := hp
  have hci := (HR.out i hi).2.1
  have HPI : Hid (par l i = (l[i]'hi).parent) := par_at l i hi
  clear hR hp
  obtain ⟨R, hRe⟩ : ∃ R : Bool, R = lineB l i := ⟨_, rfl⟩
  rw [← hRe]
  have HE : Hid (R = lineB l i) := hRe
  clear hRe
  go_enter Tryz.func100, Tryz.ntmps100
  go_wp2_with fail
  go_loopw [5] (fun v wr => ∃ (b : Int) (f : Nat), b < (f : Int) ∧ b < (i : Int) ∧ v = .int .i64 b ∧ Hid (lineF l (par l i) f b = R) ∧ Hid (wr = w)) (fun v _ => ((RowKit.intOf v) + 1).toNat)
  case atStart => exact ⟨(i : Int) - 1, i, by omega, by omega, rfl, HE.out.symm, rfl⟩
  case round =>
    obtain ⟨b, f, hf, hb, rfl, HD, HW⟩ := hrel
    have hciw : wr.cell? ⟨g, i * 4 + 1, none⟩ = some (.int .i64 (l[i]'hi).parent) := by rw [HW.out]; exact hci
    clear hci
    by_cases h0 : 0 ≤ b
    · obtain ⟨k, rfl⟩ := Int.eq_ofNat_of_zero_le h0
      have hk : k < l.length := by omega
      obtain ⟨f', rfl⟩ : ∃ f', f = f' + 1 := ⟨f - 1, by omega⟩
      have hc0 : wr.cell? ⟨g, k * 4, none⟩ = some (.int .i64 (l[k]'hk).kind) := by rw [HW.out]; exact (HR.out k hk).1
      have hc1 : wr.cell? ⟨g, k * 4 + 1, none⟩ = some (.int .i64 (l[k]'hk).parent) := by rw [HW.out]; exact (HR.out k hk).2.1
      by_cases he : (k : Int) = (l[i]'hi).parent
      · have hb1 : ((k : Int) == (l[i]'hi).parent) = true := by simpa using he
        have HF : Hid (((l[k]'hk).kind == 4) = R) := by
          have := HD.out
          rw [HPI.out, ← he, lineF_hit l f' k hk] at this
          exact this
        clear he
        go_wp2
        go_ret
        exact ⟨by rw [← HF.out]; rfl, HW.out⟩
      · have hb1 : ((k : Int) == (l[i]'hi).parent) = false := by simpa using he
        have hpk := HP.out k hk (by omega)
        have HF : Hid (lineF l (par l i) f' (l[k]'hk).parent = R) := by
          have := HD.out
          rw [lineF_on l (par l i) f' k hk (by rw [HPI.out]; exact he)] at this
          exact this
        clear he
        go_wp2
        exact ⟨⟨(l[k]'hk).parent, f', by omega, by omega, rfl, HF.out, HW.out⟩, by simp [RowKit.intOf]; omega⟩
    · have HF : Hid (false = R) := by
        have := HD.out
        rw [lineF_neg l _ _ b (by omega)] at this
        exact this
      go_wp2
      go_ret
      exact ⟨by rw [← HF.out]; rfl, HW.out⟩
/-- A datum has nothing but what its kind has. -/
def bareB (t : Dat) : Bool := decide (1 ≤ t.kind ∧ t.kind ≤ 4) && ((t.kind == 1 || t.kind == 2) || t.num == 0) && (t.kind == 3 || (t.name.data.toList == []))
theorem bare_of (t : Dat) (b1 b2 b3 bi bn bz : Bool) (e1 : (t.kind == 1) = b1) (e2 : (t.kind == 2) = b2) (e3 : (t.kind == 3) = b3) (hin : (decide (1 ≤ t.kind) && decide (t.kind ≤ 4)) = bi) (en : (t.num == 0) = bn) (ez : (t.name.toList == []) = bz) : bareB t = (bi && ((b1 || b2) || bn) && (b3 || bz)) := by
  have h1 : decide (1 ≤ t.kind ∧ t.kind ≤ 4) = bi := by rw [← hin]; simp
  have h2 : (t.name.data.toList == []) = bz := by rw [← ez, ByteArray.toList_eq]
  unfold bareB
  rw [h1, h2, e1, e2, e3, en]
set_option maxHeartbeats 4000000 in
theorem l3Bare_any (g k : Nat) (t : Dat) (w : World) (c0 : w.cell? ⟨g, k, none⟩ = some (.int .i64 t.kind)) (c2 : w.cell? ⟨g, k + 2, none⟩ = some (.int .i64 t.num)) (c3 : w.cell? ⟨g, k + 3, none⟩ = some (.string t.name)) :
    Calls Tryz.prog 96 #[.pointer (some ⟨g, k, none⟩)] w fun e w' => e = .returned (.bool (bareB t)) ∧ w' = w := by
  have hk : ((t.kind == 1) = true ∧ (t.kind == 2) = false ∧ (t.kind == 3) = false ∧ (decide (1 ≤ t.kind) && decide (t.kind ≤ 4)) = true) ∨ ((t.kind == 1) = false ∧ (t.kind == 2) = true ∧ (t.kind == 3) = false ∧ (decide (1 ≤ t.kind) && decide (t.kind ≤ 4)) = true) ∨ ((t.kind == 1) = false ∧ (t.kind == 2) = false ∧ (t.kind == 3) = true ∧ (decide (1 ≤ t.kind) && decide (t.kind ≤ 4)) = true) ∨ ((t.kind == 1) = false ∧ (t.kind == 2) = false ∧ (t.kind == 3) = false ∧ (decide (1 ≤ t.kind) && decide (t.kind ≤ 4)) = true) ∨ ((t.kind == 1) = false ∧ (t.kind == 2) = false ∧ (t.kind == 3) = false ∧ (decide (1 ≤ t.kind) && decide (t.kind ≤ 4)) = false) := by
    by_cases h1 : t.kind = 1
    · simp [h1]
    · by_cases h2 : t.kind = 2
      · simp [h2]
      · by_cases h3 : t.kind = 3
        · simp [h3]
        · by_cases h4 : 1 ≤ t.kind ∧ t.kind ≤ 4
          · simp [h1, h2, h3, h4]
          · have : (decide (1 ≤ t.kind) && decide (t.kind ≤ 4)) = false := by
              by_cases h5 : 1 ≤ t.kind
              · have h6 : ¬ t.kind ≤ 4 := fun h6 => h4 ⟨h5, h6⟩
                simp [h6]
              · simp [h5]
            simp [h1, h2, h3, this]
  rcases hk with ⟨e1, e2, e3, hin⟩ | ⟨e1, e2, e3, hin⟩ | ⟨e1, e2, e3, hin⟩ | ⟨e1, e2, e3, hin⟩ | ⟨e1, e2, e3, hin⟩ <;> cases en : (t.num == 0) <;> cases ez : (t.name.toList == [])
  all_goals
    have HB : Hid _ := bare_of t _ _ _ _ _ _ e1 e2 e3 hin en ez
    rw [HB.out]
    clear HB
    go_enter Tryz.func96, Tryz.ntmps96
    go_wp2_with (go_at_call 98; refine (l1In_any _ _ _ _).mono ?_; rintro e w' ⟨rfl, rfl⟩)
    go_ret
    exact ⟨rfl, rfl⟩
end Go.Proofs.YtebnonpdaddniaaGreatDoor
