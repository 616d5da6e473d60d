/-
  The program's byteKind and takeToken: what a byte is to the machine; a token behind the others, or the code; nothing below the variable of the tokens is turned.
-/
import Derived.Test.YtnlfnicgfhfpfaaGreatDoorImplTok
import Derived.Test.YtnlfnicgfhfpfaaGreatDoorSpecOf
import Derived.Deep.RegionLaw
import Derived.Deep.AppendLies
namespace Go.Proofs.YtnlfnicgfhfpfaaGreatDoor
open Go.RowKit Go.Extern.Stop Go.Stop Go.Extern Num Go.Lib

/-- What a byte is to the machine. -/
def kindB (b : UInt8) : Int := if b = 32 then 1 else if b = 10 then 2 else if b = 59 then 3 else if markB b = 0 then 5 else 4
theorem mark_cases (b : UInt8) : markB b = 0 ↔ b ≠ 40 ∧ b ≠ 41 ∧ b ≠ 39 := by
  unfold markB
  split
  · simp_all
  · split
    · simp_all
    · split <;> simp_all
theorem kind_end (s : ByteArray) (k : Nat) (w : World) (hk : s.size ≤ k) :
    Calls Tryz.prog 30 #[.string s, .int .i64 (k : Int)] w fun e w' => e = .returned (.int .i64 0) ∧ w' = w := by
  go_enter Tryz.func30, Tryz.ntmps30
  go_wp2
  go_ret
  exact ⟨rfl, rfl⟩
theorem kind_at (s : ByteArray) (k : Nat) (w : World) (hk : k < s.size) :
    Calls Tryz.prog 30 #[.string s, .int .i64 (k : Int)] w fun e w' => e = .returned (.int .i64 (kindB (s[k]'hk))) ∧ w' = w := by
  cases c1 : (((s[k]'hk).toNat : Int) == 32)
  · have n1 : (s[k]'hk) ≠ 32 := byte_ne _ 32 (by omega) c1
    cases c2 : (((s[k]'hk).toNat : Int) == 10)
    · have n2 : (s[k]'hk) ≠ 10 := byte_ne _ 10 (by omega) c2
      cases c3 : (((s[k]'hk).toNat : Int) == 59)
      · have n3 : (s[k]'hk) ≠ 59 := byte_ne _ 59 (by omega) c3
        cases c4 : (((s[k]'hk).toNat : Int) == 40)
        · have n4 : (s[k]'hk) ≠ 40 := byte_ne _ 40 (by omega) c4
          cases c5 : (((s[k]'hk).toNat : Int) == 41)
          · have n5 : (s[k]'hk) ≠ 41 := byte_ne _ 41 (by omega) c5
            cases c6 : (((s[k]'hk).toNat : Int) == 39)
            · have n6 : (s[k]'hk) ≠ 39 := byte_ne _ 39 (by omega) c6
              have e : Hid (kindB (s[k]'hk) = 5) := by show kindB (s[k]'hk) = 5; unfold kindB; rw [if_neg n1, if_neg n2, if_neg n3, if_pos ((mark_cases _).2 ⟨n4, n5, n6⟩)]
              clear n1 n2 n3 n4 n5 n6
              go_enter Tryz.func30, Tryz.ntmps30
              go_wp2
              go_ret
              exact ⟨by rw [e.out]; rfl, rfl⟩
            · have n6 : (s[k]'hk) = 39 := byte_is _ 39 (by omega) c6
              have e : Hid (kindB (s[k]'hk) = 4) := by show kindB (s[k]'hk) = 4; rw [n6]; rfl
              clear n1 n2 n3 n4 n5 n6
              go_enter Tryz.func30, Tryz.ntmps30
              go_wp2
              go_ret
              exact ⟨by rw [e.out]; rfl, rfl⟩
          · have n6 : (s[k]'hk) = 41 := byte_is _ 41 (by omega) c5
            have e : Hid (kindB (s[k]'hk) = 4) := by show kindB (s[k]'hk) = 4; rw [n6]; rfl
            clear n1 n2 n3 n4 n6
            go_enter Tryz.func30, Tryz.ntmps30
            go_wp2
            go_ret
            exact ⟨by rw [e.out]; rfl, rfl⟩
        · have n6 : (s[k]'hk) = 40 := byte_is _ 40 (by omega) c4
          have e : Hid (kindB (s[k]'hk) = 4) := by show kindB (s[k]'hk) = 4; rw [n6]; rfl
          clear n1 n2 n3 n6
          go_enter Tryz.func30, Tryz.ntmps30
          go_wp2
          go_ret
          exact ⟨by rw [e.out]; rfl, rfl⟩
      · have n6 : (s[k]'hk) = 59 := byte_is _ 59 (by omega) c3
        have e : Hid (kindB (s[k]'hk) = 3) := by show kindB (s[k]'hk) = 3; rw [n6]; rfl
        clear n1 n2 n6
        go_enter Tryz.func30, Tryz.ntmps30
        go_wp2
        go_ret
        exact ⟨by rw [e.out]; rfl, rfl⟩
    · have n6 : (s[k]'hk) = 10 := byte_is _ 10 (by omega) c2
      have e : Hid (kindB (s[k]'hk) = 2) := by show kindB (s[k]'hk) = 2; rw [n6]; rfl
      clear n1 n6
      go_enter Tryz.func30, Tryz.ntmps30
      go_wp2
      go_ret
      exact ⟨by rw [e.out]; rfl, rfl⟩
  · have n6 : (s[k]'hk) = 32 := byte_is _ 32 (by omega) c1
    have e : Hid (kindB (s[k]'hk) = 1) := by show kindB (s[k]'hk) = 1; rw [n6]; rfl
    clear n6
    go_enter Tryz.func30, Tryz.ntmps30
    go_wp2
    go_ret
    exact ⟨by rw [e.out]; rfl, rfl⟩

theorem take_bad (s : ByteArray) (w : World) (p : Value) (hs : s.size ≤ 281474976710656) (hL : LR w) (ht : readTok s = none) :
    Calls Tryz.prog 31 #[p, .string s] w fun e w' => e = .returned (.int .i64 5) ∧ Below w.heap.size w w' := by
  have HX : Hid (∀ w, LR w → Calls Tryz.prog 49 #[.string s] w fun e w' => (∃ t : Tok, e = .returned (.tuple #[t.val, .bool false])) ∧ Below w.heap.size w w') := fun w hL => by
    refine (readToken_any s w hs hL).mono ?_
    rintro e w' ⟨⟨t, b, rfl, h⟩, hb⟩
    rcases h with ⟨_, h⟩ | ⟨rfl, _⟩
    · rw [ht] at h; cases h
    · exact ⟨⟨t, rfl⟩, hb⟩
  clear ht
  go_enter Tryz.func31, Tryz.ntmps31
  go_wp2_with (go_at_call 49; refine (HX.out _ hL).mono ?_; rintro e w1 ⟨⟨t, rfl⟩, hq⟩)
  go_ret
  refine ⟨rfl, ?_⟩
  have := hq.size
  repeat (first | exact hq | refine Below.setCell ?_ (by first | omega | (simp; omega)) _ | refine Below.alloc ?_ (by first | omega | (simp; omega)) _)
theorem take_many (s : ByteArray) (w : World) (b n cap : Nat) (ao : Option Addr) (hs : s.size ≤ 281474976710656) (hL : LR w) (hcell : w.cell? ⟨b, 0, none⟩ = some (.slice ao n cap)) (hn : n = 120) {t : Tok} (ht : readTok s = some t) :
    Calls Tryz.prog 31 #[.pointer (some ⟨b, 0, none⟩), .string s] w fun e w' => e = .returned (.int .i64 2) ∧ Below w.heap.size w w' := by
  subst hn
  have HX : Hid (∀ w, LR w → Calls Tryz.prog 49 #[.string s] w fun e w' => e = .returned (.tuple #[t.val, .bool true]) ∧ Below w.heap.size w w') := fun w hL => by
    refine (readToken_any s w hs hL).mono ?_
    rintro e w' ⟨⟨t', b, rfl, h⟩, hb⟩
    rcases h with ⟨rfl, h⟩ | ⟨_, h⟩
    · rw [ht] at h; obtain rfl := Option.some.inj h; exact ⟨rfl, hb⟩
    · rw [ht] at h; cases h
  clear ht
  have hbl := lt_of_cell hcell
  have hbl' : b < w.heap.size := hbl
  have HC : Hid (w.cell? ⟨b, 0, none⟩ = some (.slice ao 120 cap)) := hcell
  clear hcell hbl
  go_enter Tryz.func31, Tryz.ntmps31
  go_wp2_with fail
  refine (HX.out _ hL).mono ?_
  rintro e w1 ⟨rfl, hq⟩
  have hcx : w1.cell? ⟨b, 0, none⟩ = some (.slice ao 120 cap) := (hq.cell hbl').trans HC.out
  have hbx : b < w1.heap.size := by have := hq.size; omega
  go_wp2
  go_ret
  refine ⟨rfl, ?_⟩
  have := hq.size
  repeat (first | exact hq | refine Below.setCell ?_ (by first | omega | (simp; omega)) _ | refine Below.alloc ?_ (by first | omega | (simp; omega)) _)
theorem tok_news {W : World} {b : Nat} {t : Tok} {ty : TypeId} {fr : Nat × Nat} (h : W.heap[b]? = some (.cells #[.int .i64 t.kind, .int .i64 t.num, .string t.name] ty fr)) : ∀ j u, [Value.int .i64 t.kind, .int .i64 t.num, .string t.name][j]? = some u → W.cell? ((⟨b, 0, none⟩ : Addr).add j) = some u := news3 h
theorem own_drew {w : World} {base : Nat} {e : TypeId} {size n : Nat} {v : Value} {xs : List Value} (h : w.ownsRow base e size v n xs) : w.drew.ownsRow base e size v n xs := h
theorem take_end {w W w1 : World} {b base cap gg cap' : Nat} {ao : Option Addr} {l : List Tok} {t : Tok} (hb : b < base) (hbw : b ≤ w.heap.size)
    (hag : ∀ g, (Value.slice ao l.length cap).ownBlock = some g → base ≤ g ∧ g < w.heap.size)
    (hown1 : w1.ownsRow base 37 3 (.slice (some ⟨gg, 0, none⟩) (l.length + 1) cap') (l.length + 1) (cellsOf l ++ [.int .i64 t.kind, .int .i64 t.num, .string t.name])) (hgrow : W.grownBy w1 (Value.slice ao l.length cap).ownBlock)
    (hB : Below b w W) (hW : b ≤ W.heap.size) {old : Value} (hcb : w1.cell? ⟨b, 0, none⟩ = some old) (hfb : w1.frozen? ⟨b, 0, none⟩ = false) :
    (w1.setCell ⟨b, 0, none⟩ (.slice (some ⟨gg, 0, none⟩) (l.length + 1) cap')).cell? ⟨b, 0, none⟩ = some (.slice (some ⟨gg, 0, none⟩) (l.length + 1) cap') ∧ (w1.setCell ⟨b, 0, none⟩ (.slice (some ⟨gg, 0, none⟩) (l.length + 1) cap')).frozen? ⟨b, 0, none⟩ = false ∧
      (w1.setCell ⟨b, 0, none⟩ (.slice (some ⟨gg, 0, none⟩) (l.length + 1) cap')).ownsRow base 37 3 (.slice (some ⟨gg, 0, none⟩) (l.length + 1) cap') (l.length + 1) (cellsOf (l ++ [t])) ∧ Below b w (w1.setCell ⟨b, 0, none⟩ (.slice (some ⟨gg, 0, none⟩) (l.length + 1) cap')) := by
  have _ := hbw
  refine ⟨World.cell?_setCell_same _ _ _ hcb, (World.frozen?_setCell _ _ _ _).trans hfb, ?_, (hB.grown hgrow hW (fun k hk => by have := (hag k hk).1; omega)).setCell (Nat.le_refl _) _⟩
  rw [cellsOf_append]
  exact own_set_low hown1 hb _
set_option maxRecDepth 100000 in
set_option maxHeartbeats 2000000 in
theorem take_next (s : ByteArray) (w : World) (b base cap : Nat) (ao : Option Addr) (l : List Tok) (hs : s.size ≤ 281474976710656) (hL : LR w) (hcell : w.cell? ⟨b, 0, none⟩ = some (.slice ao l.length cap)) (hfz : w.frozen? ⟨b, 0, none⟩ = false)
    (hown : w.ownsRow base 37 3 (.slice ao l.length cap) l.length (cellsOf l)) (hb : b < base) (hbase : base ≤ w.heap.size) (hl : l.length < 120) {t : Tok} (ht : readTok s = some t) :
    Calls Tryz.prog 31 #[.pointer (some ⟨b, 0, none⟩), .string s] w fun e w' => e = .returned (.int .i64 0) ∧ ∃ g cap', w'.cell? ⟨b, 0, none⟩ = some (.slice (some ⟨g, 0, none⟩) (l.length + 1) cap') ∧ w'.frozen? ⟨b, 0, none⟩ = false ∧
      w'.ownsRow base 37 3 (.slice (some ⟨g, 0, none⟩) (l.length + 1) cap') (l.length + 1) (cellsOf (l ++ [t])) ∧ Below b w w' := by
  have HX : Hid (∀ w, LR w → Calls Tryz.prog 49 #[.string s] w fun e w' => e = .returned (.tuple #[t.val, .bool true]) ∧ Below w.heap.size w w') := fun w hL => by
    refine (readToken_any s w hs hL).mono ?_
    rintro e w' ⟨⟨t', b, rfl, h⟩, hb⟩
    rcases h with ⟨rfl, h⟩ | ⟨_, h⟩
    · rw [ht] at h; obtain rfl := Option.some.inj h; exact ⟨rfl, hb⟩
    · rw [ht] at h; cases h
  clear ht
  have hbl : b < w.heap.size := lt_of_cell hcell
  have hag : ∀ g, (Value.slice ao l.length cap).ownBlock = some g → base ≤ g ∧ g < w.heap.size := hown.lt
  have HC : Hid (w.cell? ⟨b, 0, none⟩ = some (.slice ao l.length cap)) := hcell
  have HF : Hid (w.frozen? ⟨b, 0, none⟩ = false) := hfz
  have HO : Hid (w.ownsRow base 37 3 (.slice ao l.length cap) l.length (cellsOf l)) := hown
  clear hcell hfz hown
  obtain ⟨i0, hi, hz0, hz1, hz2⟩ := info_parts tokInfo
  go_enter Tryz.func31, Tryz.ntmps31
  go_wp2_with fail
  refine (HX.out _ hL).mono ?_
  rintro e wx ⟨rfl, hq⟩
  have hcx : wx.cell? ⟨b, 0, none⟩ = some (.slice ao l.length cap) := (hq.cell hbl).trans HC.out
  have hfx : wx.frozen? ⟨b, 0, none⟩ = false := (hq.frozen hbl).trans HF.out
  have HOx : Hid (wx.ownsRow base 37 3 (.slice ao l.length cap) l.length (cellsOf l)) := own_below HO.out hq
  have hzx : w.heap.size ≤ wx.heap.size := hq.size
  have hbx : b < wx.heap.size := by omega
  have hf0 : ∀ o, (wx.alloc o).frozen? ⟨b, 0, none⟩ = false := fun o => (World.frozen?_alloc_past _ _ _ hbx).trans hfx
  have hf2 : ∀ o o', ((wx.alloc o).alloc o').drew.frozen? ⟨b, 0, none⟩ = false := fun o o' => (World.frozen?_alloc_past _ _ _ (by simp; omega)).trans (hf0 o)
  have hc2 : ∀ o o', ((wx.alloc o).alloc o').drew.cell? ⟨b, 0, none⟩ = some (.slice ao l.length cap) := fun o o' => (World.cell?_alloc_past _ _ _ (by simp; omega)).trans ((World.cell?_alloc_past _ _ _ hbx).trans hcx)
  go_wp2_with fail
  go_region_law
    ((refine step_append_lies _ (by rfl) _ _ _ (by rfl) base 37 i0 _ 3 32 Tryz.underlying25 hi hz0 hz1 hz2 rfl (by omega) _ l.length (cellsOf l) (by rfl) (by repeat (first | exact HOx.out | refine World.ownsRow.alloc ?_ _ | refine own_drew ?_))
        ⟨_, 0, none⟩ 1 1 [.int .i64 t.kind, .int .i64 t.num, .string t.name] (by rfl) (by rfl) (tok_news (heap_new' _ _ _ (by simp))) (by simp [Value.oneCell'])
        (by omega) (by unfold maxLen; omega) (by omega) (by simp; omega) _ rfl ?_; intro gg cap' w1 hown1 hgrow hat hlt; have hcb : w1.cell? ⟨b, 0, none⟩ = some (.slice ao l.length cap) := (hgrow.cell_far ⟨b, 0, none⟩ (by simp; omega) (by intro h; have := hag b h.symm; omega)).trans (hc2 _ _); have hfb : w1.frozen? ⟨b, 0, none⟩ = false := (hgrow.frozen_far ⟨b, 0, none⟩ (by simp; omega) (by intro h; have := hag b h.symm; omega)).trans (hf2 _ _)))
  all_goals
    have R := take_end (t := t) hb (by omega) hag hown1 hgrow (show Below b w _ from by repeat (first | exact hq.mono (by omega) | refine Below.drew ?_ | refine Below.alloc ?_ (by first | omega | (simp; omega)) _)) (by simp; omega) hcb hfb
    have RR : Hid _ := R
    clear R hown1 hgrow
    go_wp2
    go_ret
    exact ⟨rfl, _, _, RR.out⟩
end Go.Proofs.YtnlfnicgfhfpfaaGreatDoor
