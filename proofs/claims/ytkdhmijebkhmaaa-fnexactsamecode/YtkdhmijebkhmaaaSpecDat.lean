/-
  Data, plainly, and the model's l3Bare, l3Deep and l3Line: what a datum has, how deep it lies, whether its list is still open; nothing is turned.
-/
import Derived.Test.YtkdhmijebkhmaaaStDatum
import Derived.Test.YtkdhmijebkhmaaaSpecSym
namespace Go.Proofs.Ytkdhmijebkhmaaa
open Go.RowKit Go.Extern.Stop Go.Stop Go.Extern Num Go.Lib

/-- The data that lie in a row. -/
def RowD (w : World) (g : Nat) (l : List Dat) : Prop := ∀ (k : Nat) (h : k < l.length), w.cell? ⟨g, k * 4, none⟩ = some (.int .i64 l[k].kind) ∧ w.cell? ⟨g, k * 4 + 1, none⟩ = some (.int .i64 l[k].parent) ∧ w.cell? ⟨g, k * 4 + 2, none⟩ = some (.int .i64 l[k].num) ∧ w.cell? ⟨g, k * 4 + 3, none⟩ = some (.string l[k].name)
theorem RowD.below {w w' : World} {g : Nat} {l : List Dat} (h : RowD w g l) (hb : Below w.heap.size w w') : RowD w' g l := fun k hk => ⟨cell_keep hb (h k hk).1, cell_keep hb (h k hk).2.1, cell_keep hb (h k hk).2.2.1, cell_keep hb (h k hk).2.2.2⟩
theorem RowD.of {w : World} {base g cap : Nat} {l : List Dat} (h : w.ownsRow base 54 4 (.slice (some ⟨g, 0, none⟩) l.length cap) l.length (cellsD l)) : RowD w g l := fun k hk => rowD_at h k hk
/-- Whose part it is. -/
def par (l : List Dat) (k : Nat) : Int := (l[k]?.map (·.parent)).getD (-1)
theorem par_at (l : List Dat) (k : Nat) (h : k < l.length) : par l k = l[k].parent := by simp [par, h]
/-- How many data there are from a place up. -/
def deepF (l : List Dat) : Nat → Int → Nat
  | 0, _ => 0
  | f + 1, a => if a < 0 then 0 else deepF l f (par l a.toNat) + 1
theorem deepF_neg (l : List Dat) (f : Nat) (a : Int) (h : a < 0) : deepF l f a = 0 := by cases f <;> simp [deepF, h]
theorem deepF_at (l : List Dat) (f k : Nat) (h : k < l.length) : deepF l (f + 1) (k : Int) = deepF l f l[k].parent + 1 := by
  have h0 : ¬ ((k : Int) < 0) := by omega
  simp only [deepF, if_neg h0, Int.toNat_natCast, par_at l k h]
/-- Whether, from a place up, p is met, and is a list. -/
def lineF (l : List Dat) (p : Int) : Nat → Int → Bool
  | 0, _ => false
  | f + 1, a => if a < 0 then false else if a = p then ((l[a.toNat]?.map (·.kind)).getD 0 == 4) else lineF l p f (par l a.toNat)
theorem lineF_neg (l : List Dat) (p : Int) (f : Nat) (a : Int) (h : a < 0) : lineF l p f a = false := by cases f <;> simp [lineF, h]
theorem lineF_hit (l : List Dat) (f k : Nat) (h : k < l.length) : lineF l (k : Int) (f + 1) (k : Int) = (l[k].kind == 4) := by
  have h0 : ¬ ((k : Int) < 0) := by omega
  simp [lineF, h]
theorem lineF_on (l : List Dat) (p : Int) (f k : Nat) (h : k < l.length) (hp : (k : Int) ≠ p) : lineF l p (f + 1) (k : Int) = lineF l p f l[k].parent := by
  have h0 : ¬ ((k : Int) < 0) := by omega
  simp only [lineF, if_neg h0, if_neg hp, Int.toNat_natCast, par_at l k h]
def lineB (l : List Dat) (i : Nat) : Bool := lineF l (par l i) i ((i : Int) - 1)

/-- A datum has nothing but what its kind has. -/
def bareB (t : Dat) : Bool := decide (1 ≤ t.kind ∧ t.kind ≤ 4) && ((t.kind == 1 || t.kind == 2) || t.num == 0) && (t.kind == 3 || (t.name.data.toList == []))
theorem bare_of (t : Dat) (b1 b2 b3 bi bn bz : Bool) (e1 : (t.kind == 1) = b1) (e2 : (t.kind == 2) = b2) (e3 : (t.kind == 3) = b3) (hin : (decide (1 ≤ t.kind) && decide (t.kind ≤ 4)) = bi) (en : (t.num == 0) = bn) (ez : (t.name.toList == []) = bz) : bareB t = (bi && ((b1 || b2) || bn) && (b3 || bz)) := by
  have h1 : decide (1 ≤ t.kind ∧ t.kind ≤ 4) = bi := by rw [← hin]; simp
  have h2 : (t.name.data.toList == []) = bz := by rw [← ez, ByteArray.toList_eq]
  unfold bareB
  rw [h1, h2, e1, e2, e3, en]
end Go.Proofs.Ytkdhmijebkhmaaa
