/-
  The program's wordIn, heapWith and hasRoom: a value as a word of a heap; nothing that was there is turned.
-/
import Derived.Test.YtbfhoennafopaaaImplHeap
namespace Go.Proofs.Ytbfhoennafopaaa
open Go.RowKit Go.Extern.Stop Go.Stop Go.Extern Num Go.Lib

/-- What is wrong with a value among so many pairs. -/
def inC (n : Nat) (t : Vlu) : Int := if vfault t ≠ 0 then vfault t else if inH n t = true then 0 else 4
/-- What is wrong with pairs, or with a value among them. -/
def askV (l : List Pai) (t : Vlu) : Int := if heapFault l ≠ 0 then heapFault l else inC l.length t
theorem inC_zero {n : Nat} {t : Vlu} (h : inC n t = 0) : vfault t = 0 := by
  unfold inC at h
  by_cases h0 : vfault t = 0
  · exact h0
  · rw [if_pos h0] at h; exact absurd h h0
set_option maxHeartbeats 1000000 in
theorem wordIn_any (B h : Nat) (cs : List (Wd × Wd)) (t : Vlu) (w : World) (H : Heap w B h cs) (hn : cs.length ≤ 4000) (hz : t.name.size ≤ 9223372036854775807) :
    Calls Try.prog 30 #[.pointer (some ⟨h, 0, none⟩), t.val] w fun e w' => (∃ x : Wd, e = .returned (.tuple #[x.val, .int .i64 (inC cs.length t)]) ∧ (inC cs.length t = 0 → x = wdOf t)) ∧ Below w.heap.size w w' := by
  obtain ⟨c, hc⟩ : ∃ c, c = vfault t := ⟨_, rfl⟩
  obtain ⟨x, hx⟩ : ∃ x, x = wdOf t := ⟨_, rfl⟩
  obtain ⟨R, hR⟩ : ∃ R, R = inC cs.length t := ⟨_, rfl⟩
  have HC : Hid (∀ w, Calls Try.prog 52 #[t.val] w fun e w' => e = .returned (.tuple #[x.val, .int .i64 c]) ∧ Below w.heap.size w w') := fun w => by rw [hx, hc]; exact wordOf_any t w hz
  have HX : Hid (x = wdOf t) := hx
  have HH : Hid (Heap w B h cs) := H
  rw [← hR]
  by_cases h0 : c = 0
  case neg =>
    have HR : Hid (R = c ∧ c ≠ 0) := ⟨by rw [hR, inC, if_pos (by rw [← hc]; exact h0), hc], h0⟩
    have h0' : (c != 0) = true := by simpa using h0
    clear hc hx hR H h0 hz
    go_enter Try.func30, Try.ntmps30
    go_wp2_with fail
    refine (HC.out _).mono ?_
    rintro e w1 ⟨rfl, hb1⟩
    have q0 : w1.cell? ⟨w.heap.size + 1, 0, none⟩ = some (.int .u8 0) := by rw [(bcell hb1).1 _ _ (by simp), World.cell?_alloc_at _ _ _ _ (by simp)]; rfl
    have q1 : w1.cell? ⟨w.heap.size + 1, 1, none⟩ = some (.int .u64 0) := by rw [(bcell hb1).1 _ _ (by simp), World.cell?_alloc_at _ _ _ _ (by simp)]; rfl
    have qf : ∀ o, w1.frozen? ⟨w.heap.size + 1, o, none⟩ = false := fun o => by rw [(bcell hb1).2 _ _ (by simp), World.frozen?_alloc_at _ _ _ _ (by simp)]
    have z1 : w.heap.size + 1 < w1.heap.size := by have := hb1.size; simp at this; omega
    have B1 : Hid (Below w.heap.size w w1) := Below.trans (by repeat (first | exact Below.refl _ _ | refine Below.alloc ?_ (by simp <;> omega) _)) (hb1.mono (by simp <;> omega))
    clear hb1
    go_wp2
    exact bodyPost_ret (v := .tuple #[.agg #[.int .u8 0, .int .u64 0], .int .i64 c]) (by simp [results, Try.results30, go_sem, q0, q1, z1]) rfl ⟨⟨⟨0, 0⟩, by rw [HR.out.1], fun e => absurd (HR.out.1 ▸ e) HR.out.2⟩, by repeat (first | refine Below.setCell ?_ (by simp <;> omega) _ | refine Below.alloc ?_ (by have := B1.out.size; simp <;> omega) _ | exact B1.out)⟩
  subst h0
  obtain ⟨b, hb⟩ : ∃ b, b = inW cs.length x := ⟨_, rfl⟩
  have HHo : Hid (∀ u, Below w.heap.size w u → Calls Try.prog 53 #[.pointer (some ⟨h, 0, none⟩), x.val] u fun e w' => e = .returned (.bool b) ∧ Below u.heap.size u w') := fun u hu => by rw [hb]; exact holds_any B h cs x u (HH.out.keep hu) hn
  have HR : Hid (R = if b = true then 0 else 4) := by
    show R = _
    rw [hR, inC, if_neg (by rw [← hc]; simp), hb, hx, inW_of _ _ hc.symm]
  clear hc hx hR H hz hb
  go_enter Try.func30, Try.ntmps30
  go_wp2_with fail
  refine (HC.out _).mono ?_
  rintro e w1 ⟨rfl, hb1⟩
  have q0 : w1.cell? ⟨w.heap.size + 1, 0, none⟩ = some (.int .u8 0) := by rw [(bcell hb1).1 _ _ (by simp), World.cell?_alloc_at _ _ _ _ (by simp)]; rfl
  have q1 : w1.cell? ⟨w.heap.size + 1, 1, none⟩ = some (.int .u64 0) := by rw [(bcell hb1).1 _ _ (by simp), World.cell?_alloc_at _ _ _ _ (by simp)]; rfl
  have qf : ∀ o, w1.frozen? ⟨w.heap.size + 1, o, none⟩ = false := fun o => by rw [(bcell hb1).2 _ _ (by simp), World.frozen?_alloc_at _ _ _ _ (by simp)]
  have z1 : w.heap.size + 1 < w1.heap.size := by have := hb1.size; simp at this; omega
  have B1 : Hid (Below w.heap.size w w1) := Below.trans (by repeat (first | exact Below.refl _ _ | refine Below.alloc ?_ (by simp <;> omega) _)) (hb1.mono (by simp <;> omega))
  clear hb1
  go_wp2_with fail
  refine (HHo.out _ (B1.out.alloc B1.out.size _)).mono ?_
  rintro e w2 ⟨rfl, hb2⟩
  have r0 : w2.cell? ⟨w.heap.size + 1, 0, none⟩ = some (.int .u8 0) := by rw [(bcell hb2).1 _ _ (by simp; omega), World.cell?_alloc_past _ _ _ z1]; exact q0
  have r1 : w2.cell? ⟨w.heap.size + 1, 1, none⟩ = some (.int .u64 0) := by rw [(bcell hb2).1 _ _ (by simp; omega), World.cell?_alloc_past _ _ _ z1]; exact q1
  have rf : ∀ o, w2.frozen? ⟨w.heap.size + 1, o, none⟩ = false := fun o => by rw [(bcell hb2).2 _ _ (by simp; omega), World.frozen?_alloc_past _ _ _ z1]; exact qf o
  have d0 : w2.cell? ⟨w1.heap.size, 0, none⟩ = some (.int .u8 x.tag) := by rw [(bcell hb2).1 _ _ (by simp), World.cell?_alloc_at _ _ _ _ rfl]; rfl
  have d1 : w2.cell? ⟨w1.heap.size, 1, none⟩ = some (.int .u64 x.rest) := by rw [(bcell hb2).1 _ _ (by simp), World.cell?_alloc_at _ _ _ _ rfl]; rfl
  have z2 : w.heap.size + 1 < w2.heap.size := by have := hb2.size; simp at this; omega
  have B2 : Hid (Below w.heap.size w w2) := (B1.out.alloc B1.out.size _).trans (hb2.mono (by have := B1.out.size; simp; omega))
  clear hb2 q0 q1 qf
  cases b
  · have HE : Hid (R = 4) := by show R = 4; rw [HR.out]; rfl
    clear HR
    go_wp2
    exact bodyPost_ret (v := .tuple #[.agg #[.int .u8 0, .int .u64 0], .int .i64 4]) (by simp [results, Try.results30, go_sem, r0, r1]) rfl ⟨⟨⟨0, 0⟩, by rw [HE.out], fun e => by rw [HE.out] at e; cases e⟩, by repeat (first | refine Below.setCell ?_ (by simp <;> omega) _ | exact B2.out)⟩
  · have HE : Hid (R = 0) := by show R = 0; rw [HR.out]; rfl
    clear HR
    go_wp2
    exact bodyPost_ret (v := .tuple #[.agg #[.int .u8 x.tag, .int .u64 x.rest], .int .i64 0]) (by simp [results, Try.results30, go_sem, r0, r1]) rfl ⟨⟨x, by rw [HE.out], fun _ => HX.out⟩, by repeat (first | refine Below.setCell ?_ (by simp <;> omega) _ | exact B2.out)⟩
theorem size_any (B h : Nat) (cs : List (Wd × Wd)) (w : World) (H : Heap w B h cs) :
    Calls Try.prog 54 #[.pointer (some ⟨h, 0, none⟩)] w fun e w' => e = .returned (.int .i64 (cs.length : Int)) ∧ w' = w := by
  obtain ⟨v, bs, K⟩ := H
  obtain ⟨a, c, rfl⟩ := own_form K.fd.2.1
  have c0 := K.fd.1
  rw [K.len] at c0
  clear K
  go_enter Try.func54, Try.ntmps54
  go_wp2
  go_ret
  exact ⟨rfl, rfl⟩
theorem room_any (B h : Nat) (cs : List (Wd × Wd)) (m : Nat) (w : World) (H : Heap w B h cs) (hn : cs.length ≤ 4000) (hm : m ≤ 4000) :
    Calls Try.prog 31 #[.pointer (some ⟨h, 0, none⟩), .int .i64 (m : Int)] w fun e w' => e = .returned (.bool (decide (cs.length + m ≤ 4000))) ∧ w' = w := by
  obtain ⟨n, hn'⟩ : ∃ n : Nat, n = cs.length := ⟨_, rfl⟩
  have HS : Hid (∀ u, u = w → Calls Try.prog 54 #[.pointer (some ⟨h, 0, none⟩)] u fun e w' => e = .returned (.int .i64 (n : Int)) ∧ w' = u) := fun u hu => by rw [hn', hu]; exact size_any B h cs w H
  have hd : decide (cs.length + m ≤ 4000) = decide ((n : Int) + (m : Int) ≤ 4000) := by rw [hn', decide_eq_decide]; omega
  have hnl : n ≤ 4000 := by omega
  rw [hd]
  clear hn' H hd hn
  go_enter Try.func31, Try.ntmps31
  go_wp2_with (go_at_call 54; refine (HS.out _ rfl).mono ?_; rintro e w' ⟨rfl, hw'⟩; replace hw' := hw'.symm; subst hw')
  go_ret
  exact ⟨rfl, rfl⟩
end Go.Proofs.Ytbfhoennafopaaa
