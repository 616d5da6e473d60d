/-
  The program's readNum and ParseNum: of a text that is the text of a number within the bounds that number, of every other text the code; nothing that was there is turned.
-/
import Derived.Test.YtebnonpdaddniaaGreatDoorTexts
import Derived.Test.YtebnonpdaddniaaGreatDoorImplNum
import Derived.Test.YtebnonpdaddniaaGreatDoorParseA
namespace Go.Proofs.YtebnonpdaddniaaGreatDoor
open Go.RowKit Go.Extern.Stop Go.Stop Go.Extern Num Go.Lib

/-- What the listed variables hold that ParseNum reads. -/
structure LW (w : World) : Prop where
  lt : LT w
  es : ∃ te pe, w.cell? ⟨7, 0, none⟩ = some (.iface te pe)
theorem LW.lr {w : World} (h : LW w) : LR w := ⟨h.lt.tab, h.es⟩
theorem LW.below {w w' : World} (h : LW w) (hb : Below w.heap.size w w') : LW w' := by
  refine ⟨h.lt.below hb, ?_⟩
  obtain ⟨te, pe, e⟩ := h.es
  exact ⟨te, pe, by rw [hb.cell (lt_of_cell e)]; exact e⟩
theorem LW.alloc {w : World} (h : LW w) (o : Obj) : LW (w.alloc o) := h.below ((Below.refl _ _).alloc (Nat.le_refl _) _)
theorem LW.drew {w : World} (h : LW w) : LW w.drew := h.below (Below.refl _ _).drew

theorem implParse_good (s : ByteArray) (w : World) (v : Int) (hv : inB v = true) (h : itoa v = s.data.toList) (hL : LW w) :
    Calls Tryz.prog 81 #[.string s] w fun e w' => e = .returned (IR 0 v) ∧ Below w.heap.size w w' := by
  have HR : Hid (∀ w, LW w → Calls Tryz.prog 128 #[.string s] w fun e w' => e = .returned (.tuple #[.int .i64 v, .nilIface]) ∧ Below w.heap.size w w') := fun w hL => read_good s w v hv h hL.lr
  clear hv h
  go_enter Tryz.func81, Tryz.ntmps81
  go_wp2_with fail
  refine (HR.out _ (hL.alloc _)).mono ?_
  rintro e w1 ⟨rfl, hq⟩
  obtain ⟨hc, hf⟩ := bcell hq
  have hz : w.heap.size < w1.heap.size := by have := hq.size; simp at this; omega
  go_wp2_with fail
  refine (intAnswer_nil _ _).mono ?_
  rintro e w2 ⟨rfl, hq2⟩
  obtain ⟨hc2, hf2⟩ := bcell hq2
  go_wp2
  exact bodyPost_ret (v := IR 0 v) (by simp [results, Tryz.results81, go_sem, hc, hc2, hz]) rfl ⟨rfl, by
    repeat (first | exact Below.refl _ _ | refine Below.setCell ?_ (by simp) _ | refine Below.trans ?_ (hq2.mono (by omega)) | refine Below.trans ?_ (hq.mono (by simp)) | refine Below.alloc ?_ (by simp <;> omega) _)⟩
theorem implParse_bad (s : ByteArray) (w : World) (hs : s.size ≤ 9223372036854775807) (h : ∀ v, inB v = true → itoa v ≠ s.data.toList) (hL : LW w) :
    Calls Tryz.prog 81 #[.string s] w fun e w' => e = .returned (IR 5 0) ∧ Below w.heap.size w w' := by
  have HR : Hid (∀ w, LW w → Calls Tryz.prog 128 #[.string s] w fun e w' => e = .returned (.tuple #[.int .i64 0, NN 5]) ∧ Below w.heap.size w w') := fun w hL => read_bad s w hs h hL.lr
  clear h
  go_enter Tryz.func81, Tryz.ntmps81
  go_wp2_with fail
  refine (HR.out _ (hL.alloc _)).mono ?_
  rintro e w1 ⟨rfl, hq⟩
  obtain ⟨hc, hf⟩ := bcell hq
  have hz : w.heap.size < w1.heap.size := by have := hq.size; simp at this; omega
  go_wp2_with fail
  refine (intAnswer_hit _ _ _ (by decide) ((hL.alloc _).below hq).lt.et).mono ?_
  rintro e w2 ⟨rfl, hq2⟩
  obtain ⟨hc2, hf2⟩ := bcell hq2
  go_wp2
  exact bodyPost_ret (v := IR 5 0) (by simp [results, Tryz.results81, go_sem, hc, hc2, hz]) rfl ⟨rfl, by
    repeat (first | exact Below.refl _ _ | refine Below.setCell ?_ (by simp) _ | refine Below.trans ?_ (hq2.mono (by omega)) | refine Below.trans ?_ (hq.mono (by simp)) | refine Below.alloc ?_ (by simp <;> omega) _)⟩
end Go.Proofs.YtebnonpdaddniaaGreatDoor
