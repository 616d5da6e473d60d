/-
  Parts of the proof laid into one text, one behind the other; each says at its head what is proved in it.
-/
import Derived.Test.YtgfienijabkpjaaDoorImplHeap
import Derived.Shelf.RegionOpenPlain
import Derived.Test.YtgfienijabkpjaaDoorImplBits
import Derived.Test.YtgfienijabkpjaaDoorFldKit
import Derived.Deep.RegionLaw
import Derived.Deep.DrawnRows
import Derived.Laws.IdiomStrings
import Derived.Test.YtgfienijabkpjaaDoorImplVF
/-
  The program's wordIn, heapWith and hasRoom: a value as a word of a heap; nothing that was there is turned.
-/
namespace Go.Proofs.YtgfienijabkpjaaDoor
open Go.RowKit Go.Extern.Stop Go.Stop Go.Extern Num Go.Lib

/-- What is wrong with a value among so many pairs. -/
def inC (n : Nat) (t : Vlu) : Int := if vfault t ≠ 0 then vfault t else if inH n t = true then 0 else 4
/-- What is wrong with pairs, or with a value among them. -/
def askV (l : List Pai) (t : Vlu) : Int := if heapFault l ≠ 0 then heapFault l else inC l.length t
theorem inC_zero {n : Nat} {t : Vlu} (h : inC n t = 0) : vfault t = 0 := by
  unfold inC at h
  by_cases h0 : vfault t = 0
  · exact h0
  · rw [if_pos h0] at h; exact absurd h h0
set_option maxHeartbeats 1000000 in
theorem wordIn_any (B h : Nat) (cs : List (Wd × Wd)) (t : Vlu) (w : World) (H : Heap w B h cs) (hn : cs.length ≤ 4000) (hz : t.name.size ≤ 9223372036854775807) :
    Calls Tryd.prog 57 #[.pointer (some ⟨h, 0, none⟩), t.val] w fun e w' => (∃ x : Wd, e = .returned (.tuple #[x.val, .int .i64 (inC cs.length t)]) ∧ (inC cs.length t = 0 → x = wdOf t)) ∧ Below w.heap.size w w' := by
  obtain ⟨c, hc⟩ : ∃ c, c = vfault t := ⟨_, rfl⟩
  obtain ⟨x, hx⟩ : ∃ x, x = wdOf t := ⟨_, rfl⟩
  obtain ⟨R, hR⟩ : ∃ R, R = inC cs.length t := ⟨_, rfl⟩
  have HC : Hid (∀ w, Calls Tryd.prog 54 #[t.val] w fun e w' => e = .returned (.tuple #[x.val, .int .i64 c]) ∧ Below w.heap.size w w') := fun w => by rw [hx, hc]; exact wordOf_any t w hz
  have HX : Hid (x = wdOf t) := hx
  have HH : Hid (Heap w B h cs) := H
  rw [← hR]
  by_cases h0 : c = 0
  case neg =>
    have HR : Hid (R = c ∧ c ≠ 0) := ⟨by rw [hR, inC, if_pos (by rw [← hc]; exact h0), hc], h0⟩
    have h0' : (c != 0) = true := by simpa using h0
    clear hc hx hR H h0 hz
    go_enter Tryd.func57, Tryd.ntmps57
    go_wp2_with fail
    refine (HC.out _).mono ?_
    rintro e w1 ⟨rfl, hb1⟩
    have q0 : w1.cell? ⟨w.heap.size + 1, 0, none⟩ = some (.int .u8 0) := by rw [(bcell hb1).1 _ _ (by simp), World.cell?_alloc_at _ _ _ _ (by simp)]; rfl
    have q1 : w1.cell? ⟨w.heap.size + 1, 1, none⟩ = some (.int .u64 0) := by rw [(bcell hb1).1 _ _ (by simp), World.cell?_alloc_at _ _ _ _ (by simp)]; rfl
    have qf : ∀ o, w1.frozen? ⟨w.heap.size + 1, o, none⟩ = false := fun o => by rw [(bcell hb1).2 _ _ (by simp), World.frozen?_alloc_at _ _ _ _ (by simp)]
    have z1 : w.heap.size + 1 < w1.heap.size := by have := hb1.size; simp at this; omega
    have B1 : Hid (Below w.heap.size w w1) := Below.trans (by repeat (first | exact Below.refl _ _ | refine Below.alloc ?_ (by simp <;> omega) _)) (hb1.mono (by simp <;> omega))
    clear hb1
    go_wp2
    exact bodyPost_ret (v := .tuple #[.agg #[.int .u8 0, .int .u64 0], .int .i64 c]) (by simp [results, Tryd.results57, go_sem, q0, q1, z1]) rfl ⟨⟨⟨0, 0⟩, by rw [HR.out.1], fun e => absurd (HR.out.1 ▸ e) HR.out.2⟩, by repeat (first | refine Below.setCell ?_ (by simp <;> omega) _ | refine Below.alloc ?_ (by have := B1.out.size; simp <;> omega) _ | exact B1.out)⟩
  subst h0
  obtain ⟨b, hb⟩ : ∃ b, b = inW cs.length x := ⟨_, rfl⟩
  have HHo : Hid (∀ u, Below w.heap.size w u → Calls Tryd.prog 55 #[.pointer (some ⟨h, 0, none⟩), x.val] u fun e w' => e = .returned (.bool b) ∧ Below u.heap.size u w') := fun u hu => by rw [hb]; exact holds_any B h cs x u (HH.out.keep hu) hn
  have HR : Hid (R = if b = true then 0 else 4) := by
    show R = _
    rw [hR, inC, if_neg (by rw [← hc]; simp), hb, hx, inW_of _ _ hc.symm]
  clear hc hx hR H hz hb
  go_enter Tryd.func57, Tryd.ntmps57
  go_wp2_with fail
  refine (HC.out _).mono ?_
  rintro e w1 ⟨rfl, hb1⟩
  have q0 : w1.cell? ⟨w.heap.size + 1, 0, none⟩ = some (.int .u8 0) := by rw [(bcell hb1).1 _ _ (by simp), World.cell?_alloc_at _ _ _ _ (by simp)]; rfl
  have q1 : w1.cell? ⟨w.heap.size + 1, 1, none⟩ = some (.int .u64 0) := by rw [(bcell hb1).1 _ _ (by simp), World.cell?_alloc_at _ _ _ _ (by simp)]; rfl
  have qf : ∀ o, w1.frozen? ⟨w.heap.size + 1, o, none⟩ = false := fun o => by rw [(bcell hb1).2 _ _ (by simp), World.frozen?_alloc_at _ _ _ _ (by simp)]
  have z1 : w.heap.size + 1 < w1.heap.size := by have := hb1.size; simp at this; omega
  have B1 : Hid (Below w.heap.size w w1) := Below.trans (by repeat (first | exact Below.refl _ _ | refine Below.alloc ?_ (by simp <;> omega) _)) (hb1.mono (by simp <;> omega))
  clear hb1
  go_wp2_with fail
  refine (HHo.out _ (B1.out.alloc B1.out.size _)).mono ?_
  rintro e w2 ⟨rfl, hb2⟩
  have r0 : w2.cell? ⟨w.heap.size + 1, 0, none⟩ = some (.int .u8 0) := by rw [(bcell hb2).1 _ _ (by simp; omega), World.cell?_alloc_past _ _ _ z1]; exact q0
  have r1 : w2.cell? ⟨w.heap.size + 1, 1, none⟩ = some (.int .u64 0) := by rw [(bcell hb2).1 _ _ (by simp; omega), World.cell?_alloc_past _ _ _ z1]; exact q1
  have rf : ∀ o, w2.frozen? ⟨w.heap.size + 1, o, none⟩ = false := fun o => by rw [(bcell hb2).2 _ _ (by simp; omega), World.frozen?_alloc_past _ _ _ z1]; exact qf o
  have d0 : w2.cell? ⟨w1.heap.size, 0, none⟩ = some (.int .u8 x.tag) := by rw [(bcell hb2).1 _ _ (by simp), World.cell?_alloc_at _ _ _ _ rfl]; rfl
  have d1 : w2.cell? ⟨w1.heap.size, 1, none⟩ = some (.int .u64 x.rest) := by rw [(bcell hb2).1 _ _ (by simp), World.cell?_alloc_at _ _ _ _ rfl]; rfl
  have z2 : w.heap.size + 1 < w2.heap.size := by have := hb2.size; simp at this; omega
  have B2 : Hid (Below w.heap.size w w2) := (B1.out.alloc B1.out.size _).trans (hb2.mono (by have := B1.out.size; simp; omega))
  clear hb2 q0 q1 qf
  cases b
  · have HE : Hid (R = 4) := by show R = 4; rw [HR.out]; rfl
    clear HR
    go_wp2
    exact bodyPost_ret (v := .tuple #[.agg #[.int .u8 0, .int .u64 0], .int .i64 4]) (by simp [results, Tryd.results57, go_sem, r0, r1]) rfl ⟨⟨⟨0, 0⟩, by rw [HE.out], fun e => by rw [HE.out] at e; cases e⟩, by repeat (first | refine Below.setCell ?_ (by simp <;> omega) _ | exact B2.out)⟩
  · have HE : Hid (R = 0) := by show R = 0; rw [HR.out]; rfl
    clear HR
    go_wp2
    exact bodyPost_ret (v := .tuple #[.agg #[.int .u8 x.tag, .int .u64 x.rest], .int .i64 0]) (by simp [results, Tryd.results57, go_sem, r0, r1]) rfl ⟨⟨x, by rw [HE.out], fun _ => HX.out⟩, by repeat (first | refine Below.setCell ?_ (by simp <;> omega) _ | exact B2.out)⟩
theorem size_any (B h : Nat) (cs : List (Wd × Wd)) (w : World) (H : Heap w B h cs) :
    Calls Tryd.prog 96 #[.pointer (some ⟨h, 0, none⟩)] w fun e w' => e = .returned (.int .i64 (cs.length : Int)) ∧ w' = w := by
  obtain ⟨v, bs, K⟩ := H
  obtain ⟨a, c, rfl⟩ := own_form K.fd.2.1
  have c0 := K.fd.1
  rw [K.len] at c0
  clear K
  go_enter Tryd.func96, Tryd.ntmps96
  go_wp2
  go_ret
  exact ⟨rfl, rfl⟩
theorem room_any (B h : Nat) (cs : List (Wd × Wd)) (m : Nat) (w : World) (H : Heap w B h cs) (hn : cs.length ≤ 4000) (hm : m ≤ 4000) :
    Calls Tryd.prog 77 #[.pointer (some ⟨h, 0, none⟩), .int .i64 (m : Int)] w fun e w' => e = .returned (.bool (decide (cs.length + m ≤ 4000))) ∧ w' = w := by
  obtain ⟨n, hn'⟩ : ∃ n : Nat, n = cs.length := ⟨_, rfl⟩
  have HS : Hid (∀ u, u = w → Calls Tryd.prog 96 #[.pointer (some ⟨h, 0, none⟩)] u fun e w' => e = .returned (.int .i64 (n : Int)) ∧ w' = u) := fun u hu => by rw [hn', hu]; exact size_any B h cs w H
  have hd : decide (cs.length + m ≤ 4000) = decide ((n : Int) + (m : Int) ≤ 4000) := by rw [hn', decide_eq_decide]; omega
  have hnl : n ≤ 4000 := by omega
  rw [hd]
  clear hn' H hd hn
  go_enter Tryd.func77, Tryd.ntmps77
  go_wp2_with (go_at_call 96; refine (HS.out _ rfl).mono ?_; rintro e w' ⟨rfl, hw'⟩; replace hw' := hw'.symm; subst hw')
  go_ret
  exact ⟨rfl, rfl⟩
end Go.Proofs.YtgfienijabkpjaaDoor
/-
  A pair put in front, in plain words: its code, the pairs there are then, and the value that is the pair.
-/
namespace Go.Proofs.YtgfienijabkpjaaDoor
open Go.RowKit Go.Extern.Stop Go.Stop Go.Extern Num Go.Lib

def codeCT (l : List Pai) (a b : Vlu) : Int :=
  if askV l a ≠ 0 then askV l a else if inC l.length b ≠ 0 then inC l.length b else if 4000 ≤ l.length then 2 else 0
def outCT (l : List Pai) (a b : Vlu) : List Pai := if codeCT l a b = 0 then l ++ [⟨a, b⟩] else []
def valCT (l : List Pai) (a b : Vlu) : Vlu := if codeCT l a b = 0 then ⟨5, (l.length : Int), ⟨#[]⟩⟩ else ⟨0, 0, ⟨#[]⟩⟩
theorem ct_zero {l : List Pai} {a b : Vlu} (h : codeCT l a b = 0) : askV l a = 0 ∧ inC l.length b = 0 ∧ l.length < 4000 := by
  unfold codeCT at h
  by_cases h1 : askV l a = 0
  · by_cases h2 : inC l.length b = 0
    · by_cases h3 : 4000 ≤ l.length
      · rw [if_neg (by rw [h1]; decide), if_neg (by rw [h2]; decide), if_pos h3] at h; cases h
      · exact ⟨h1, h2, by omega⟩
    · rw [if_neg (by rw [h1]; decide), if_pos h2] at h; exact absurd h h2
  · rw [if_pos h1] at h; exact absurd h h1
theorem outCT_len (l : List Pai) (a b : Vlu) : (outCT l a b).length ≤ 4000 := by
  unfold outCT
  split
  · rename_i h; have := (ct_zero h).2.2; simp; omega
  · simp
theorem askV_zero {l : List Pai} {t : Vlu} (h : askV l t = 0) : heapFault l = 0 ∧ inC l.length t = 0 := by
  unfold askV at h
  by_cases h1 : heapFault l = 0
  · rw [if_neg (by rw [h1]; decide)] at h; exact ⟨h1, h⟩
  · rw [if_pos h1] at h; exact absurd h h1
theorem pfault_zero {i : Nat} {p : Pai} (h : pfault i p = 0) : vfault p.head = 0 ∧ vfault p.tail = 0 := by
  unfold pfault at h
  by_cases h1 : vfault p.head = 0
  · by_cases h2 : vfault p.tail = 0
    · exact ⟨h1, h2⟩
    · rw [if_neg (by rw [h1]; decide), if_pos h2] at h; exact absurd h h2
  · rw [if_pos h1] at h; exact absurd h h1
theorem heapFrom_each : ∀ (l : List Pai) (i : Nat), heapFrom i l = 0 → ∀ (k : Nat) (h : k < l.length), pfault (i + k) l[k] = 0
  | [], _, _, _, h => by cases h
  | p :: r, i, h, k, hk => by
    by_cases h0 : pfault i p = 0
    · rw [heapFrom, if_neg (by rw [h0]; decide)] at h
      cases k with
      | zero => simpa using h0
      | succ k =>
        have := heapFrom_each r (i + 1) h k (by simpa using hk)
        simpa [Nat.add_assoc, Nat.add_comm 1 k] using this
    · rw [heapFrom, if_pos h0] at h; exact absurd h h0
theorem heap_fine {l : List Pai} (h : heapFault l = 0) : ∀ (k : Nat) (h : k < l.length), vfault l[k].head = 0 ∧ vfault l[k].tail = 0 := by
  have h1 : ¬ 4000 < l.length := fun h1 => by rw [heapFault, if_pos h1] at h; cases h
  rw [heapFault, if_neg h1] at h
  intro k hk
  exact pfault_zero (heapFrom_each l 0 h k hk)
end Go.Proofs.YtgfienijabkpjaaDoor
/-
  The program's heapWith: pairs and a value among them as a heap and a word; nothing that was there is turned.
-/
namespace Go.Proofs.YtgfienijabkpjaaDoor
open Go.RowKit Go.Extern.Stop Go.Stop Go.Extern Num Go.Lib

theorem Heap.base {w : World} {B B' h : Nat} {cs : List (Wd × Wd)} (H : Heap w B h cs) (hB : B' ≤ B) : Heap w B' h cs := by
  obtain ⟨v, bs, K⟩ := H
  exact ⟨v, bs, ⟨by have := K.hB; omega, K.fz, ⟨K.fd.1, own_base K.fd.2.1 hB, K.fd.2.2⟩, K.len, K.each, fun b hb => ⟨(K.ap b hb).1, (K.ap b hb).2.1, by have := (K.ap b hb).2.2; omega⟩⟩⟩
/-- A store ahead of the heap. -/
theorem Heap.low {w : World} {B h r o : Nat} {cs : List (Wd × Wd)} {u : Value} (H : Heap w B h cs) (hr : r < B) : Heap (w.setCell ⟨r, o, none⟩ u) B h cs := by
  obtain ⟨v, bs, K⟩ := H
  exact ⟨v, bs, K.other (by have := K.hB; omega) (fun e => by have := (K.fd.2.1.lt r e).1; omega) (fun b hb => by have := (K.ap b hb).2.2; omega)⟩
theorem Heap.lay {w : World} {B h : Nat} {cs : List (Wd × Wd)} (H : Heap w B h cs) (o : Obj) : Heap (w.alloc o) B h cs := H.keep ((Below.refl _ _).alloc (Nat.le_refl _) _)
theorem Heap.drew {w : World} {B h : Nat} {cs : List (Wd × Wd)} (H : Heap w B h cs) : Heap w.drew B h cs := H.keep (Below.drew (Below.refl _ _))
theorem fault_len {l : List Pai} (h : heapFault l = 0) : l.length ≤ 4000 := by
  by_cases h1 : 4000 < l.length
  · rw [heapFault, if_pos h1] at h; cases h
  · omega
set_option maxHeartbeats 1000000 in
theorem heapWith_any (ao : Option Addr) (cap g : Nat) (l : List Pai) (t : Vlu) (w : World) (hl : l.length ≤ 1048576) (hao : 0 < l.length → ao = some ⟨g, 0, none⟩) (hr : RowP w g l) (hz : ableL l) (ht : t.name.size ≤ 9223372036854775807) :
    Calls Tryd.prog 34 #[.slice ao l.length cap, t.val] w fun e w' => (∃ p, ∃ x : Wd, e = .returned (.tuple #[.pointer p, x.val, .int .i64 (askV l t)]) ∧ (askV l t = 0 → x = wdOf t ∧ ∃ h, p = some ⟨h, 0, none⟩ ∧ Heap w' w.heap.size h (wordsP l))) ∧ Below w.heap.size w w' := by
  obtain ⟨R, hR⟩ : ∃ R, R = askV l t := ⟨_, rfl⟩
  obtain ⟨c, hc⟩ : ∃ c, c = heapFault l := ⟨_, rfl⟩
  have HP : Hid (∀ u, Below w.heap.size w u → Calls Tryd.prog 26 #[.slice ao l.length cap] u fun e w' => (∃ p, e = .returned (.tuple #[.pointer p, .int .i64 c]) ∧ (c = 0 → ∃ h, p = some ⟨h, 0, none⟩ ∧ Heap w' u.heap.size h (wordsP l))) ∧ Below u.heap.size u w') := fun u hu => by
    refine (heapOf_any ao cap g l u hl hao (hr.below hu) hz).mono ?_
    rw [← hc]
    rintro e w' ⟨⟨p, rfl, hp⟩, hb⟩
    exact ⟨⟨p, rfl, hp⟩, hb⟩
  rw [← hR]
  by_cases h0 : c = 0
  case neg =>
    have HR : Hid (R = c ∧ c ≠ 0) := ⟨by rw [hR, askV, if_pos (by rw [← hc]; exact h0), hc], h0⟩
    have h0' : (c != 0) = true := by simpa using h0
    clear hc hR h0 hz ht hao hr
    go_enter Tryd.func34, Tryd.ntmps34
    go_wp2_with fail
    refine (HP.out _ ?_).mono ?_
    · repeat (first | exact Below.refl _ _ | refine Below.alloc ?_ (by simp <;> omega) _)
    rintro e w1 ⟨⟨p, rfl, _⟩, hb1⟩
    have q0 : w1.cell? ⟨w.heap.size + 1, 0, none⟩ = some (.int .u8 0) := by rw [(bcell hb1).1 _ _ (by simp), World.cell?_alloc_at _ _ _ _ (by simp)]; rfl
    have q1 : w1.cell? ⟨w.heap.size + 1, 1, none⟩ = some (.int .u64 0) := by rw [(bcell hb1).1 _ _ (by simp), World.cell?_alloc_at _ _ _ _ (by simp)]; rfl
    have qf : ∀ o, w1.frozen? ⟨w.heap.size + 1, o, none⟩ = false := fun o => by rw [(bcell hb1).2 _ _ (by simp), World.frozen?_alloc_at _ _ _ _ (by simp)]
    have z1 : w.heap.size + 1 < w1.heap.size := by have := hb1.size; simp at this; omega
    have B1 : Hid (Below w.heap.size w w1) := Below.trans (by repeat (first | exact Below.refl _ _ | refine Below.alloc ?_ (by simp <;> omega) _)) (hb1.mono (by simp <;> omega))
    clear hb1
    go_wp2
    exact bodyPost_ret (v := .tuple #[.pointer none, .agg #[.int .u8 0, .int .u64 0], .int .i64 c]) (by simp [results, Tryd.results34, go_sem, q0, q1]) rfl ⟨⟨none, ⟨0, 0⟩, by rw [HR.out.1], fun e => absurd (HR.out.1 ▸ e) HR.out.2⟩, by repeat (first | refine Below.setCell ?_ (by simp <;> omega) _ | exact B1.out)⟩
  subst h0
  have HL : Hid (l.length ≤ 4000) := fault_len hc.symm
  obtain ⟨d, hd⟩ : ∃ d, d = inC l.length t := ⟨_, rfl⟩
  have HR : Hid (R = d) := by show R = d; rw [hR, askV, if_neg (by rw [← hc]; simp), hd]
  have HW : Hid (∀ u h, Heap u (w.heap.size + 1 + 1) h (wordsP l) → Calls Tryd.prog 57 #[.pointer (some ⟨h, 0, none⟩), t.val] u fun e w' => (∃ x : Wd, e = .returned (.tuple #[x.val, .int .i64 d]) ∧ (d = 0 → x = wdOf t)) ∧ Below u.heap.size u w') := fun u h H => by
    have := wordIn_any (w.heap.size + 1 + 1) h (wordsP l) t u H (by rw [wordsP_len]; exact HL.out) ht
    rw [wordsP_len, ← hd] at this
    exact this
  clear hc hR hz ht hao hr hd
  go_enter Tryd.func34, Tryd.ntmps34
  go_wp2_with fail
  refine (HP.out _ ?_).mono ?_
  · repeat (first | exact Below.refl _ _ | refine Below.alloc ?_ (by simp <;> omega) _)
  rintro e w1 ⟨⟨p, rfl, hp⟩, hb1⟩
  obtain ⟨h, rfl, hH⟩ := hp (by simp)
  have HH1 : Hid (Heap w1 (w.heap.size + 1 + 1) h (wordsP l)) := by show Heap _ _ _ _; simpa using hH
  have q0 : w1.cell? ⟨w.heap.size + 1, 0, none⟩ = some (.int .u8 0) := by rw [(bcell hb1).1 _ _ (by simp), World.cell?_alloc_at _ _ _ _ (by simp)]; rfl
  have q1 : w1.cell? ⟨w.heap.size + 1, 1, none⟩ = some (.int .u64 0) := by rw [(bcell hb1).1 _ _ (by simp), World.cell?_alloc_at _ _ _ _ (by simp)]; rfl
  have qf : ∀ o, w1.frozen? ⟨w.heap.size + 1, o, none⟩ = false := fun o => by rw [(bcell hb1).2 _ _ (by simp), World.frozen?_alloc_at _ _ _ _ (by simp)]
  have t0 : w1.cell? ⟨w.heap.size, 0, none⟩ = some (.int .i64 t.kind) := by rw [(bcell hb1).1 _ _ (by simp; omega), World.cell?_alloc_past _ _ _ (by simp), World.cell?_alloc_at _ _ _ _ rfl]; rfl
  have t1 : w1.cell? ⟨w.heap.size, 1, none⟩ = some (.int .i64 t.num) := by rw [(bcell hb1).1 _ _ (by simp; omega), World.cell?_alloc_past _ _ _ (by simp), World.cell?_alloc_at _ _ _ _ rfl]; rfl
  have t2 : w1.cell? ⟨w.heap.size, 2, none⟩ = some (.string t.name) := by rw [(bcell hb1).1 _ _ (by simp; omega), World.cell?_alloc_past _ _ _ (by simp), World.cell?_alloc_at _ _ _ _ rfl]; rfl
  have z1 : w.heap.size + 1 < w1.heap.size := by have := hb1.size; simp at this; omega
  have B1 : Hid (Below w.heap.size w w1) := Below.trans (by repeat (first | exact Below.refl _ _ | refine Below.alloc ?_ (by simp <;> omega) _)) (hb1.mono (by simp <;> omega))
  clear hb1 hp hH
  go_wp2_with fail
  refine (HW.out _ _ HH1.out).mono ?_
  rintro e w2 ⟨⟨x, rfl, hx⟩, hb2⟩
  have HH2 : Hid (Heap w2 (w.heap.size + 1 + 1) h (wordsP l)) := HH1.out.keep hb2
  have HX : Hid (d = 0 → x = wdOf t) := hx
  have r0 : w2.cell? ⟨w.heap.size + 1, 0, none⟩ = some (.int .u8 0) := cell_keep hb2 q0
  have r1 : w2.cell? ⟨w.heap.size + 1, 1, none⟩ = some (.int .u64 0) := cell_keep hb2 q1
  have rf : ∀ o, w2.frozen? ⟨w.heap.size + 1, o, none⟩ = false := fun o => by rw [(bcell hb2).2 _ _ z1]; exact qf o
  have z2 : w.heap.size + 1 < w2.heap.size := by have := hb2.size; omega
  have B2 : Hid (Below w.heap.size w w2) := B1.out.trans (hb2.mono B1.out.size)
  clear hb2 q0 q1 qf t0 t1 t2 hx
  have mixed : Tryd.prog.follows .mixedOrders = true := by kernel_rfl
  go_wp2_with fail
  go_region_o
  all_goals
    go_wp2
    exact bodyPost_ret (v := .tuple #[.pointer (some ⟨h, 0, none⟩), .agg #[.int .u8 x.tag, .int .u64 x.rest], .int .i64 d]) (by simp [results, Tryd.results34, go_sem, r0, r1, z2]) rfl ⟨⟨some ⟨h, 0, none⟩, x, by rw [HR.out], fun e => ⟨HX.out (HR.out ▸ e), h, rfl, Heap.base (B := w.heap.size + 1 + 1) (by repeat (first | refine Heap.drew ?_ | refine Heap.lay ?_ _ | refine Heap.low ?_ (by omega) | exact HH2.out)) (by omega)⟩⟩, by repeat (first | refine Below.drew ?_ | refine Below.setCell ?_ (by simp <;> omega) _ | refine Below.alloc ?_ (by simp <;> omega) _ | exact B2.out)⟩
end Go.Proofs.YtgfienijabkpjaaDoor
/-
  The library's slices.Reverse at bytes, and the program's nameOfBits by it: a name comes back from its number; nothing that was there is turned.
-/
namespace Go.Proofs.YtgfienijabkpjaaDoor
open Go.RowKit Go.Extern.Stop Go.Stop Go.Extern Num Go.Lib

attribute [local go_sem ↓] Go.wp_at_zero Go.wp_at_succ
def cellsU (l : List UInt8) : List Value := l.map fun b => .int .u8 (b.toNat : Int)
theorem cellsU_len (l : List UInt8) : (cellsU l).length = l.length := by simp [cellsU]
theorem cellsU_snoc (l : List UInt8) (b : UInt8) : cellsU (l ++ [b]) = cellsU l ++ [.int .u8 (b.toNat : Int)] := by simp [cellsU]
theorem infoU : (Tryd.prog.info? 5).map (fun i => (i.zero, i.size, i.bytes)) = some (some (.int .u8 0), 1, 1) := by kernel_rfl
theorem rowU_at {w : World} {base g cap : Nat} {l : List UInt8} (h : w.ownsRow base 5 1 (.slice (some ⟨g, 0, none⟩) l.length cap) l.length (cellsU l)) (k : Nat) (hk : k < l.length) :
    w.cell? ⟨g, k, none⟩ = some (.int .u8 (l[k].toNat : Int)) := by
  have ha : ∀ j, (⟨g, 0, none⟩ : Addr).add j = ⟨g, j, none⟩ := fun j => by unfold Addr.add; split <;> simp_all
  rw [← ha]
  exact h.cells (g := g) rfl k _ (by simp [cellsU, hk])
/-- A list whose first k and last k are turned around. -/
def revK (l : List UInt8) (k : Nat) : List UInt8 := (List.range l.length).map fun j => if j < k ∨ l.length - k ≤ j then l.getD (l.length - 1 - j) 0 else l.getD j 0
theorem revK_len (l : List UInt8) (k : Nat) : (revK l k).length = l.length := by simp [revK]
theorem revK_zero (l : List UInt8) : revK l 0 = l := by
  apply List.ext_getElem (by simp [revK])
  intro j h1 h2
  simp only [revK, List.getElem_map, List.getElem_range]
  rw [if_neg (by omega)]
  simp [List.getD_eq_getElem?_getD, h2]
theorem revK_end (l : List UInt8) (k : Nat) (h : l.length ≤ 2 * k + 1) : revK l k = l.reverse := by
  apply List.ext_getElem (by simp [revK])
  intro j h1 h2
  rw [revK_len] at h1
  simp only [revK, List.getElem_map, List.getElem_range, List.getElem_reverse]
  by_cases hj : j < k ∨ l.length - k ≤ j
  · rw [if_pos hj]
    simp [List.getD_eq_getElem?_getD, show l.length - 1 - j < l.length by omega]
  · rw [if_neg hj]
    have e : l.length - 1 - j = j := by omega
    simp only [e]
    simp [List.getD_eq_getElem?_getD, h1]
theorem revK_at (l : List UInt8) (k j : Nat) (hj : j < l.length) (h : ¬ (j < k ∨ l.length - k ≤ j)) : (revK l k)[j]'(by rw [revK_len]; exact hj) = l[j] := by
  simp only [revK, List.getElem_map, List.getElem_range]
  rw [if_neg h]
  simp [List.getD_eq_getElem?_getD, hj]
theorem revK_step (l : List UInt8) (k : Nat) (h : 2 * k + 1 < l.length) : ((revK l k).set k (l[l.length - 1 - k]'(by omega))).set (l.length - 1 - k) (l[k]'(by omega)) = revK l (k + 1) := by
  apply List.ext_getElem (by simp [revK])
  intro j h1 h2
  have hj : j < l.length := by rw [revK_len] at h2; exact h2
  rw [List.getElem_set, List.getElem_set]
  by_cases e1 : l.length - 1 - k = j
  · rw [if_pos e1]
    simp only [revK, List.getElem_map, List.getElem_range]
    rw [if_pos (by omega)]
    have e : l.length - 1 - j = k := by omega
    rw [e]; simp [List.getD_eq_getElem?_getD, show k < l.length by omega]
  · rw [if_neg e1]
    by_cases e2 : k = j
    · rw [if_pos e2]
      subst e2
      simp only [revK, List.getElem_map, List.getElem_range]
      rw [if_pos (by omega)]
      simp [List.getD_eq_getElem?_getD, show l.length - 1 - k < l.length by omega]
    · rw [if_neg e2]
      simp only [revK, List.getElem_map, List.getElem_range]
      by_cases e3 : j < k ∨ l.length - k ≤ j
      · rw [if_pos e3, if_pos (by omega)]
      · rw [if_neg e3, if_neg (by omega)]
theorem cellsU_set (l : List UInt8) (j : Nat) (b : UInt8) : (cellsU l).set j (.int .u8 (b.toNat : Int)) = cellsU (l.set j b) := by
  unfold cellsU; rw [List.map_set]
theorem rev_next {wr : World} {base g cap k m : Nat} {l : List UInt8} (lk : k < l.length) (lm : m < l.length) (hk : k < m) (hm : k + m + 1 = l.length) (ho : wr.ownsRow base 5 1 (.slice (some ⟨g, 0, none⟩) l.length cap) l.length (cellsU (revK l k))) :
    ((wr.setCell ⟨g, k, none⟩ (.int .u8 ((l[m]'lm).toNat : Int))).setCell ⟨g, m, none⟩ (.int .u8 ((l[k]'lk).toNat : Int))).ownsRow base 5 1 (.slice (some ⟨g, 0, none⟩) l.length cap) l.length (cellsU (revK l (k + 1))) := by
  have h := own_put (own_put ho k (.int .u8 ((l[m]'lm).toNat : Int))) m (.int .u8 ((l[k]'lk).toNat : Int))
  have em : m = l.length - 1 - k := by omega
  rw [cellsU_set, cellsU_set] at h
  have e := revK_step l k (by omega)
  simp only [← em] at e
  rw [e] at h
  exact h
set_option maxHeartbeats 1000000 in
theorem rev_any (g cap base : Nat) (l : List UInt8) (w : World) (h1 : 1 ≤ l.length) (hl : l.length ≤ 12) (h : w.ownsRow base 5 1 (.slice (some ⟨g, 0, none⟩) l.length cap) l.length (cellsU l)) :
    Calls Tryd.prog 100 #[.slice (some ⟨g, 0, none⟩) l.length cap] w fun e w' => e = .returned (.tuple #[]) ∧ w'.ownsRow base 5 1 (.slice (some ⟨g, 0, none⟩) l.length cap) l.length (cellsU l.reverse) ∧ w.grownBy w' (some g) := by
  have HO : Hid (w.ownsRow base 5 1 (.slice (some ⟨g, 0, none⟩) l.length cap) l.length (cellsU (revK l 0))) := by show World.ownsRow _ _ _ _ _ _ _; rw [revK_zero]; exact h
  clear h
  have mixed : Tryd.prog.follows .mixedOrders = true := by kernel_rfl
  go_enter Tryd.func100, Tryd.ntmps100
  go_wp2_with fail
  go_loopw [2, 3] (fun i j wr => ∃ k m : Nat, k + m + 1 = l.length ∧ i = .int .i64 (k : Int) ∧ j = .int .i64 (m : Int) ∧ Hid (k ≤ m + 1) ∧ Hid (wr.ownsRow base 5 1 (.slice (some ⟨g, 0, none⟩) l.length cap) l.length (cellsU (revK l k))) ∧ Hid (w.grownBy wr (some g))) (fun _ j _ => (RowKit.intOf j).toNat)
  case atStart => exact ⟨0, l.length - 1, by omega, rfl, by congr 1; omega, by show 0 ≤ _; omega, HO.out, gb_refl _ _⟩
  case round =>
    obtain ⟨k, m, hm, rfl, rfl, HKM, HR, HG⟩ := hrel
    by_cases hlt : k < m
    · have lk : k < l.length := by omega
      have lm : m < l.length := by omega
      have HX : Hid _ := rev_next lk lm hlt hm HR.out
      have c0 : wr.cell? ⟨g, k, none⟩ = some (.int .u8 ((l[k]'lk).toNat : Int)) := by
        have := HR.out
        rw [← revK_len l k] at this
        have := rowU_at this k (by rw [revK_len]; omega)
        rw [revK_at l k k (by omega) (by omega)] at this
        exact this
      have c1 : wr.cell? ⟨g, m, none⟩ = some (.int .u8 ((l[m]'lm).toNat : Int)) := by
        have := HR.out
        rw [← revK_len l k] at this
        have := rowU_at this m (by rw [revK_len]; omega)
        rw [revK_at l k m (by omega) (by omega)] at this
        exact this
      have ff : ∀ j, wr.frozen? ⟨g, j, none⟩ = false := own_frozen HR.out
      have gl : g < wr.heap.size := (HR.out.lt g rfl).2
      have nkm : k ≠ m := by omega
      have HM : Hid (k + m + 1 = l.length) := hm
      clear hm HKM
      go_wp2_with fail
      go_region_o
      all_goals
        go_wp2
        exact ⟨⟨k + 1, m - 1, by have := HM.out; omega, by go_num, by congr 1; omega, by show _ ≤ _; omega, World.ownsRow.drew HX.out, gb_below (gb_set (gb_set HG.out _) _) (Below.drew (Below.refl _ _))⟩, by simp [RowKit.intOf]; omega⟩
    · have HF : Hid (wr.ownsRow base 5 1 (.slice (some ⟨g, 0, none⟩) l.length cap) l.length (cellsU l.reverse)) := by
        have := HR.out
        rw [revK_end l k (by have := HKM.out; omega)] at this
        exact this
      clear HR
      go_wp2
      exact bodyPost_end (v := .tuple #[]) (by simp [results, Tryd.results100]) rfl ⟨rfl, HF.out, HG.out⟩
theorem sym_digit (b : UInt8) (h : symB b = true) (i : Nat) (hi : i = dig b - 1) (h2 : i < 34) : (⟨#[97, 98, 99, 100, 101, 102, 103, 104, 105, 106, 107, 108, 109, 110, 111, 112, 113, 114, 115, 116, 117, 118, 119, 120, 121, 122, 43, 45, 42, 47, 60, 61, 63, 33]⟩ : ByteArray)[i]'h2 = b := by
  have h3 := (dig_facts b h).2.2.2
  rw [← hi] at h3
  have e : symAll[i]'h2 = b := by
    rw [List.getElem?_eq_getElem h2] at h3
    exact Option.some.inj h3
  rw [← e]; rfl
set_option maxRecDepth 100000 in
set_option maxHeartbeats 1000000 in
theorem name_any (l : List UInt8) (w : World) (ha : l.all symB = true) (h1 : 1 ≤ l.length) (hl : l.length ≤ 12) :
    Calls Tryd.prog 85 #[.int .u64 (bitsL l : Int)] w fun e w' => e = .returned (.string ⟨l.toArray⟩) ∧ Below w.heap.size w w' := by
  have HA : Hid (l.all symB = true) := ha
  obtain ⟨V0, hV0⟩ : ∃ V, V = bitsL l := ⟨_, rfl⟩
  rw [← hV0]
  have HV0 : Hid (V0 = bitsL (l.take l.length)) := by show V0 = _; rw [List.take_length]; exact hV0
  obtain ⟨i0, hi, hz0, hz1, hz2⟩ := info_parts infoU
  clear ha hV0
  go_enter Tryd.func85, Tryd.ntmps85
  go_wp2_with fail
  go_loopw [0, 3] (fun b v wr => ∃ p V : Nat, p ≤ l.length ∧ b = .int .u64 (V : Int) ∧ Hid (V = bitsL (l.take p)) ∧ Hid (wr.ownsRow w.heap.size 5 1 v (l.length - p) (cellsU (l.drop p).reverse)) ∧ Hid (Below w.heap.size w wr)) (fun b _ _ => (RowKit.intOf b).toNat)
  case atStart => exact ⟨l.length, V0, Nat.le_refl _, rfl, HV0.out, ⟨by simp [cellsU], .inl ⟨rfl, by omega⟩⟩, Below.refl _ _⟩
  case round =>
    obtain ⟨p, V, hp, rfl, HV, HR, HB⟩ := hrel
    by_cases h0 : p = 0
    · subst h0
      have hV : V = 0 := by rw [HV.out]; rfl
      subst hV
      obtain ⟨a, c, rfl⟩ := own_form HR.out
      have HR2 : Hid (wr.ownsRow w.heap.size 5 1 (.slice a l.length c) l.length (cellsU l.reverse)) := HR.out
      obtain ⟨g, c', hv, _, _⟩ := HR2.out.form (by omega)
      obtain ⟨rfl, rfl⟩ : a = some ⟨g, 0, none⟩ ∧ c = c' := by simp at hv; exact hv
      have HC : Hid (Calls Tryd.prog 100 #[.slice (some ⟨g, 0, none⟩) l.length c] wr fun e w' => e = .returned (.tuple #[]) ∧ w'.ownsRow w.heap.size 5 1 (.slice (some ⟨g, 0, none⟩) l.length c) l.length (cellsU l) ∧ wr.grownBy w' (some g)) := by
        have := rev_any g c w.heap.size l.reverse wr (by simpa using h1) (by simpa using hl) (by rw [List.length_reverse]; exact HR2.out)
        rw [List.length_reverse, List.reverse_reverse] at this
        exact this
      clear HR HV hv
      go_wp2_with fail
      refine HC.out.mono ?_
      rintro e w2 ⟨rfl, ho2, hg2⟩
      have HO2 : Hid (w2.ownsRow w.heap.size 5 1 (.slice (some ⟨g, 0, none⟩) l.length c) l.length (cellsU l)) := ho2
      have HB2 : Hid (Below w.heap.size w w2) := Below.grown HB.out hg2 HB.out.size (fun j hj => by have := (HR2.out.lt g rfl).1; injection hj with e; omega)
      have hcv : (convert 22 9 (.slice (some ⟨g, 0, none⟩) l.length c)).run Tryd.prog w2 = .ok (.string ⟨l.toArray⟩) w2 := run_convert_bytes_back w2 _ _ _ ⟨g, 0, none⟩ c l Tryd.underlying22 Tryd.underlying5 Tryd.underlying9 (fun j hj => by
        have ha : ∀ j, (⟨g, 0, none⟩ : Addr).add j = ⟨g, j, none⟩ := fun j => by unfold Addr.add; split <;> simp_all
        rw [ha]; exact rowU_at HO2.out j hj)
      clear ho2 hg2
      go_wp2
      go_ret
      exact ⟨rfl, HB2.out⟩
    · obtain ⟨q, rfl⟩ : ∃ q, p = q + 1 := ⟨p - 1, by omega⟩
      have hq : q < l.length := by omega
      have hsb : symB (l[q]'hq) = true := by have := HA.out; rw [List.all_eq_true] at this; exact this _ (List.getElem_mem _)
      have et : l.take (q + 1) = l.take q ++ [l[q]'hq] := by rw [List.take_add_one, List.getElem?_eq_getElem hq]; rfl
      have hbp := bitsL_pos (l.take q) (l[q]'hq) hsb
      rw [← et, ← HV.out] at hbp
      obtain ⟨D, hD⟩ : ∃ D, D = dig (l[q]'hq) := ⟨_, rfl⟩
      obtain ⟨Z, hZ⟩ : ∃ Z, Z = bitsL (l.take q) := ⟨_, rfl⟩
      rw [← hD, ← hZ] at hbp
      have hVb : V ≤ 3379220508056640625 := by
        have h2 := bitsL_lt (l.take (q + 1)) (by have := HA.out; rw [List.all_eq_true] at this ⊢; intro x hx; exact this x (List.mem_of_mem_take hx))
        have h3 := pow35 (l.take (q + 1)).length (by rw [List.length_take]; omega)
        rw [HV.out]; omega
      have hd1 : 1 ≤ D ∧ D ≤ 34 := by rw [hD]; exact ⟨(dig_facts _ hsb).1, (dig_facts _ hsb).2.1⟩
      obtain ⟨hv0, hv1, hv2⟩ := hbp
      have hpos : (0 : Int) < (V : Int) := by omega
      have hrem : (V : Int).tmod 35 = (D : Int) := by rw [Int.tmod_eq_emod_of_nonneg (by omega)]; omega
      have hquo : (V : Int).tdiv 35 = (Z : Int) := by rw [Int.tdiv_eq_ediv_of_nonneg (by omega)]; omega
      obtain ⟨a, c, rfl⟩ := own_form HR.out
      obtain ⟨b, hb⟩ : ∃ b, b = l[q]'hq := ⟨_, rfl⟩
      have hdl : D - 1 < 34 := by omega
      have hx : (⟨#[97, 98, 99, 100, 101, 102, 103, 104, 105, 106, 107, 108, 109, 110, 111, 112, 113, 114, 115, 116, 117, 118, 119, 120, 121, 122, 43, 45, 42, 47, 60, 61, 63, 33]⟩ : ByteArray)[D - 1]'hdl = b := by rw [hb]; exact sym_digit _ hsb (D - 1) (by rw [hD]) hdl
      obtain ⟨n, hn⟩ : ∃ n, n = l.length - (q + 1) := ⟨_, rfl⟩
      have HN : Hid (n = l.length - (q + 1)) := hn
      have HR2 : Hid (wr.ownsRow w.heap.size 5 1 (.slice a n c) n (cellsU (l.drop (q + 1)).reverse)) := by rw [hn]; exact HR.out
      have HQ : Hid (cellsU (l.drop q).reverse = cellsU (l.drop (q + 1)).reverse ++ [.int .u8 (b.toNat : Int)]) := by
        show _ = _
        rw [List.drop_eq_getElem_cons hq, List.reverse_cons, cellsU_snoc, hb]
      have HZ : Hid (Z = bitsL (l.take q)) := hZ
      have hnl : n ≤ 12 := by omega
      have hvz : Z < V := by omega
      have hwz : IntKind.u64.wrap (Z : Int) = (Z : Int) := by simp [IntKind.wrap, IntKind.bits, IntKind.signed]; omega
      have zw := HB.out.size
      rw [← hn]
      clear hb hD hZ HR hn hv1 hv2 HV et hsb
      go_wp2_with (first | (at_builtin; refine wpList_append_lies _ rfl (.tmp 8) (.tmp 13) 22 rfl w.heap.size 5 i0 _ 1 1 Tryd.underlying22 hi hz0 hz1 hz2 rfl (by decide) _ n (cellsU (l.drop (q + 1)).reverse) rfl ?c0 ⟨_, 0, none⟩ 1 1 [.int .u8 (b.toNat : Int)] rfl rfl ?c1 ?c2 (by decide) ?c3 ?c4 ?c5 _ rfl ?_))
      case c0 => exact HR2.out.alloc _
      try (case c1 => exact World.news_of_block (cs := #[.int .u8 (b.toNat : Int)]) (t := 5) (fr := (0, 0)) (heap_new' _ _ _ (by simp)))
      case c2 => rfl
      case c3 => unfold maxLen; omega
      case c4 => omega
      case c5 => omega
      intro g' cap' w2 hown2 hgrow2 hat2 _
      have HB2 : Hid (Below w.heap.size w w2) := Below.grown (HB.out.alloc zw _) hgrow2 (by simp; omega) (fun j hj => (HR2.out.lt j hj).1)
      have HR3 : Hid (w2.ownsRow w.heap.size 5 1 (.slice (some ⟨g', 0, none⟩) (n + 1) cap') (l.length - q) (cellsU (l.drop q).reverse)) := by
        show World.ownsRow _ _ _ _ _ _ _
        rw [HQ.out]
        have e : l.length - q = n + 1 := by have := HN.out; omega
        rw [e]; exact hown2
      clear hown2 hgrow2 hat2 HR2 hx
      go_wp2
      exact ⟨⟨q, Z, by omega, by go_num, HZ.out, HR3.out, HB2.out⟩, by simp [RowKit.intOf]; omega⟩
end Go.Proofs.YtgfienijabkpjaaDoor
/-
  The program's value: a value comes back from the word that tells it; nothing that was there is turned.
-/
namespace Go.Proofs.YtgfienijabkpjaaDoor
open Go.RowKit Go.Extern.Stop Go.Stop Go.Extern Num Go.Lib

theorem val_1 (n : Int) (w : World) (h1 : -1000000000 ≤ n) (h2 : n ≤ 1000000000) :
    Calls Tryd.prog 59 #[.agg #[.int .u8 1, .int .u64 (n - (-1000000000))]] w fun e w' => e = .returned (.agg #[.int .i64 1, .int .i64 n, .string ⟨#[]⟩]) ∧ Below w.heap.size w w' := by
  obtain ⟨m, hm⟩ : ∃ m, m = n - (-1000000000) := ⟨_, rfl⟩
  have hn : m + (-1000000000) = n := by omega
  rw [← hm]
  have hm1 : 0 ≤ m := by omega
  have hm2 : m ≤ 2000000000 := by omega
  clear hm
  go_enter Tryd.func59, Tryd.ntmps59
  go_wp2_with (go_at_call 82; refine (bounds_1 _).mono ?_; rintro e w' ⟨rfl, rfl⟩)
  exact bodyPost_ret (v := .agg #[.int .i64 1, .int .i64 n, .string ⟨#[]⟩]) (by simp [results, Tryd.results59, go_sem]; try omega) rfl ⟨rfl, by repeat (first | exact Below.refl _ _ | refine Below.setCell ?_ (by simp) _ | refine Below.alloc ?_ (by simp <;> omega) _ | refine Below.drew ?_)⟩
theorem val_2 (n : Int) (w : World) (h1 : 0 ≤ n) (h2 : n ≤ 1) :
    Calls Tryd.prog 59 #[.agg #[.int .u8 2, .int .u64 (n - (0))]] w fun e w' => e = .returned (.agg #[.int .i64 2, .int .i64 n, .string ⟨#[]⟩]) ∧ Below w.heap.size w w' := by
  obtain ⟨m, hm⟩ : ∃ m, m = n - (0) := ⟨_, rfl⟩
  have hn : m + (0) = n := by omega
  rw [← hm]
  have hm1 : 0 ≤ m := by omega
  have hm2 : m ≤ 2000000000 := by omega
  clear hm
  go_enter Tryd.func59, Tryd.ntmps59
  go_wp2_with (go_at_call 82; refine (bounds_2 _).mono ?_; rintro e w' ⟨rfl, rfl⟩)
  exact bodyPost_ret (v := .agg #[.int .i64 2, .int .i64 n, .string ⟨#[]⟩]) (by simp [results, Tryd.results59, go_sem]; try omega) rfl ⟨rfl, by repeat (first | exact Below.refl _ _ | refine Below.setCell ?_ (by simp) _ | refine Below.alloc ?_ (by simp <;> omega) _ | refine Below.drew ?_)⟩
theorem val_5 (n : Int) (w : World) (h1 : 0 ≤ n) (h2 : n ≤ 99999) :
    Calls Tryd.prog 59 #[.agg #[.int .u8 5, .int .u64 (n - (0))]] w fun e w' => e = .returned (.agg #[.int .i64 5, .int .i64 n, .string ⟨#[]⟩]) ∧ Below w.heap.size w w' := by
  obtain ⟨m, hm⟩ : ∃ m, m = n - (0) := ⟨_, rfl⟩
  have hn : m + (0) = n := by omega
  rw [← hm]
  have hm1 : 0 ≤ m := by omega
  have hm2 : m ≤ 2000000000 := by omega
  clear hm
  go_enter Tryd.func59, Tryd.ntmps59
  go_wp2_with (go_at_call 82; refine (bounds_5 _).mono ?_; rintro e w' ⟨rfl, rfl⟩)
  exact bodyPost_ret (v := .agg #[.int .i64 5, .int .i64 n, .string ⟨#[]⟩]) (by simp [results, Tryd.results59, go_sem]; try omega) rfl ⟨rfl, by repeat (first | exact Below.refl _ _ | refine Below.setCell ?_ (by simp) _ | refine Below.alloc ?_ (by simp <;> omega) _ | refine Below.drew ?_)⟩
theorem val_6 (n : Int) (w : World) (h1 : 0 ≤ n) (h2 : n ≤ 99999) :
    Calls Tryd.prog 59 #[.agg #[.int .u8 6, .int .u64 (n - (0))]] w fun e w' => e = .returned (.agg #[.int .i64 6, .int .i64 n, .string ⟨#[]⟩]) ∧ Below w.heap.size w w' := by
  obtain ⟨m, hm⟩ : ∃ m, m = n - (0) := ⟨_, rfl⟩
  have hn : m + (0) = n := by omega
  rw [← hm]
  have hm1 : 0 ≤ m := by omega
  have hm2 : m ≤ 2000000000 := by omega
  clear hm
  go_enter Tryd.func59, Tryd.ntmps59
  go_wp2_with (go_at_call 82; refine (bounds_6 _).mono ?_; rintro e w' ⟨rfl, rfl⟩)
  exact bodyPost_ret (v := .agg #[.int .i64 6, .int .i64 n, .string ⟨#[]⟩]) (by simp [results, Tryd.results59, go_sem]; try omega) rfl ⟨rfl, by repeat (first | exact Below.refl _ _ | refine Below.setCell ?_ (by simp) _ | refine Below.alloc ?_ (by simp <;> omega) _ | refine Below.drew ?_)⟩
theorem val_7 (n : Int) (w : World) (h1 : 0 ≤ n) (h2 : n ≤ 99999) :
    Calls Tryd.prog 59 #[.agg #[.int .u8 7, .int .u64 (n - (0))]] w fun e w' => e = .returned (.agg #[.int .i64 7, .int .i64 n, .string ⟨#[]⟩]) ∧ Below w.heap.size w w' := by
  obtain ⟨m, hm⟩ : ∃ m, m = n - (0) := ⟨_, rfl⟩
  have hn : m + (0) = n := by omega
  rw [← hm]
  have hm1 : 0 ≤ m := by omega
  have hm2 : m ≤ 2000000000 := by omega
  clear hm
  go_enter Tryd.func59, Tryd.ntmps59
  go_wp2_with (go_at_call 82; refine (bounds_7 _).mono ?_; rintro e w' ⟨rfl, rfl⟩)
  exact bodyPost_ret (v := .agg #[.int .i64 7, .int .i64 n, .string ⟨#[]⟩]) (by simp [results, Tryd.results59, go_sem]; try omega) rfl ⟨rfl, by repeat (first | exact Below.refl _ _ | refine Below.setCell ?_ (by simp) _ | refine Below.alloc ?_ (by simp <;> omega) _ | refine Below.drew ?_)⟩
theorem val_8 (n : Int) (w : World) (h1 : 0 ≤ n) (h2 : n ≤ 99999) :
    Calls Tryd.prog 59 #[.agg #[.int .u8 8, .int .u64 (n - (0))]] w fun e w' => e = .returned (.agg #[.int .i64 8, .int .i64 n, .string ⟨#[]⟩]) ∧ Below w.heap.size w w' := by
  obtain ⟨m, hm⟩ : ∃ m, m = n - (0) := ⟨_, rfl⟩
  have hn : m + (0) = n := by omega
  rw [← hm]
  have hm1 : 0 ≤ m := by omega
  have hm2 : m ≤ 2000000000 := by omega
  clear hm
  go_enter Tryd.func59, Tryd.ntmps59
  go_wp2_with (go_at_call 82; refine (bounds_8 _).mono ?_; rintro e w' ⟨rfl, rfl⟩)
  exact bodyPost_ret (v := .agg #[.int .i64 8, .int .i64 n, .string ⟨#[]⟩]) (by simp [results, Tryd.results59, go_sem]; try omega) rfl ⟨rfl, by repeat (first | exact Below.refl _ _ | refine Below.setCell ?_ (by simp) _ | refine Below.alloc ?_ (by simp <;> omega) _ | refine Below.drew ?_)⟩
theorem val_3 (n : Int) (w : World) (h1 : 0 ≤ n) (h2 : n ≤ 0) :
    Calls Tryd.prog 59 #[.agg #[.int .u8 3, .int .u64 (n - (0))]] w fun e w' => e = .returned (.agg #[.int .i64 3, .int .i64 n, .string ⟨#[]⟩]) ∧ Below w.heap.size w w' := by
  obtain ⟨m, hm⟩ : ∃ m, m = n - (0) := ⟨_, rfl⟩
  have hn : m + (0) = n := by omega
  rw [← hm]
  have hm1 : 0 ≤ m := by omega
  have hm2 : m ≤ 2000000000 := by omega
  clear hm
  go_enter Tryd.func59, Tryd.ntmps59
  go_wp2_with (go_at_call 82; refine (bounds_3 _).mono ?_; rintro e w' ⟨rfl, rfl⟩)
  exact bodyPost_ret (v := .agg #[.int .i64 3, .int .i64 n, .string ⟨#[]⟩]) (by simp [results, Tryd.results59, go_sem]; try omega) rfl ⟨rfl, by repeat (first | exact Below.refl _ _ | refine Below.setCell ?_ (by simp) _ | refine Below.alloc ?_ (by simp <;> omega) _ | refine Below.drew ?_)⟩
theorem val_9 (n : Int) (w : World) (h1 : 0 ≤ n) (h2 : n ≤ 0) :
    Calls Tryd.prog 59 #[.agg #[.int .u8 9, .int .u64 (n - (0))]] w fun e w' => e = .returned (.agg #[.int .i64 9, .int .i64 n, .string ⟨#[]⟩]) ∧ Below w.heap.size w w' := by
  obtain ⟨m, hm⟩ : ∃ m, m = n - (0) := ⟨_, rfl⟩
  have hn : m + (0) = n := by omega
  rw [← hm]
  have hm1 : 0 ≤ m := by omega
  have hm2 : m ≤ 2000000000 := by omega
  clear hm
  go_enter Tryd.func59, Tryd.ntmps59
  go_wp2_with (go_at_call 82; refine (bounds_9 _).mono ?_; rintro e w' ⟨rfl, rfl⟩)
  exact bodyPost_ret (v := .agg #[.int .i64 9, .int .i64 n, .string ⟨#[]⟩]) (by simp [results, Tryd.results59, go_sem]; try omega) rfl ⟨rfl, by repeat (first | exact Below.refl _ _ | refine Below.setCell ?_ (by simp) _ | refine Below.alloc ?_ (by simp <;> omega) _ | refine Below.drew ?_)⟩
theorem val_4 (z : ByteArray) (w : World) (hy : symL z.data.toList = true) :
    Calls Tryd.prog 59 #[.agg #[.int .u8 4, .int .u64 (bitsL z.data.toList : Int)]] w fun e w' => e = .returned (.agg #[.int .i64 4, .int .i64 0, .string z]) ∧ Below w.heap.size w w' := by
  obtain ⟨V, hV⟩ : ∃ V, V = bitsL z.data.toList := ⟨_, rfl⟩
  have HC : Hid (∀ w, Calls Tryd.prog 85 #[.int .u64 (V : Int)] w fun e w' => e = .returned (.string z) ∧ Below w.heap.size w w') := fun w => by
    obtain ⟨ha, h1, h2⟩ := symL_facts z hy
    have hl : z.data.toList.length = z.size := by rw [Array.length_toList]; rfl
    rw [hV]
    have := name_any z.data.toList w ha (by omega) (by omega)
    simpa using this
  rw [← hV]
  clear hV hy
  go_enter Tryd.func59, Tryd.ntmps59
  go_wp2_with fail
  refine (HC.out _).mono ?_
  rintro e w1 ⟨rfl, hb1⟩
  obtain ⟨hc1, hf1⟩ := bcell hb1
  have z1 : w.heap.size + 1 < w1.heap.size := by have := hb1.size; simp at this; omega
  have q0 : w1.cell? ⟨w.heap.size + 1, 0, none⟩ = some (.int .i64 0) := by rw [hc1 _ _ (by simp), World.cell?_alloc_at _ _ _ _ (by simp)]; rfl
  have q1 : w1.cell? ⟨w.heap.size + 1, 1, none⟩ = some (.int .i64 0) := by rw [hc1 _ _ (by simp), World.cell?_alloc_at _ _ _ _ (by simp)]; rfl
  have q2 : w1.cell? ⟨w.heap.size + 1, 2, none⟩ = some (.string ⟨#[]⟩) := by rw [hc1 _ _ (by simp), World.cell?_alloc_at _ _ _ _ (by simp)]; rfl
  have B1 : Below w.heap.size w w1 := Below.trans (by repeat (first | exact Below.refl _ _ | refine Below.setCell ?_ (by simp) _ | refine Below.alloc ?_ (by simp <;> omega) _ | refine Below.drew ?_)) (hb1.mono (by simp <;> omega))
  clear hb1
  go_wp2
  exact bodyPost_ret (v := .agg #[.int .i64 4, .int .i64 0, .string z]) (by simp [results, Tryd.results59, go_sem, q0, q1, q2]) rfl ⟨rfl, by repeat (first | refine Below.setCell ?_ (by simp <;> omega) _ | exact B1)⟩
theorem empty_of (z : ByteArray) (h : z.data.toList = []) : z = ⟨#[]⟩ := by
  obtain ⟨⟨l⟩⟩ := z
  simp at h
  subst h
  rfl
theorem fine_1 (n : Int) (z : ByteArray) (h : vfault ⟨1, n, z⟩ = 0) : -1000000000 ≤ n ∧ n ≤ 1000000000 ∧ z = ⟨#[]⟩ := by
  by_cases hz : z.data.toList = []
  · refine ⟨?_, ?_, empty_of z hz⟩ <;> (by_cases hn : -1000000000 ≤ n ∧ n ≤ 1000000000 <;> simp [vfault, hz, inB] at h hn ⊢ <;> omega)
  · simp [vfault, hz] at h
theorem fine_2 (n : Int) (z : ByteArray) (h : vfault ⟨2, n, z⟩ = 0) : 0 ≤ n ∧ n ≤ 1 ∧ z = ⟨#[]⟩ := by
  by_cases hz : z.data.toList = []
  · refine ⟨?_, ?_, empty_of z hz⟩ <;> (by_cases hn : 0 ≤ n ∧ n ≤ 1 <;> simp [vfault, hz] at h hn ⊢ <;> omega)
  · simp [vfault, hz] at h
theorem fine_5 (n : Int) (z : ByteArray) (h : vfault ⟨5, n, z⟩ = 0) : 0 ≤ n ∧ n ≤ 99999 ∧ z = ⟨#[]⟩ := by
  by_cases hz : z.data.toList = []
  · refine ⟨?_, ?_, empty_of z hz⟩ <;> (by_cases hn : 0 ≤ n ∧ n ≤ 99999 <;> simp [vfault, hz] at h hn ⊢ <;> omega)
  · simp [vfault, hz] at h
theorem fine_6 (n : Int) (z : ByteArray) (h : vfault ⟨6, n, z⟩ = 0) : 0 ≤ n ∧ n ≤ 99999 ∧ z = ⟨#[]⟩ := by
  by_cases hz : z.data.toList = []
  · refine ⟨?_, ?_, empty_of z hz⟩ <;> (by_cases hn : 0 ≤ n ∧ n ≤ 99999 <;> simp [vfault, hz] at h hn ⊢ <;> omega)
  · simp [vfault, hz] at h
theorem fine_7 (n : Int) (z : ByteArray) (h : vfault ⟨7, n, z⟩ = 0) : 0 ≤ n ∧ n ≤ 99999 ∧ z = ⟨#[]⟩ := by
  by_cases hz : z.data.toList = []
  · refine ⟨?_, ?_, empty_of z hz⟩ <;> (by_cases hn : 0 ≤ n ∧ n ≤ 99999 <;> simp [vfault, hz] at h hn ⊢ <;> omega)
  · simp [vfault, hz] at h
theorem fine_8 (n : Int) (z : ByteArray) (h : vfault ⟨8, n, z⟩ = 0) : 0 ≤ n ∧ n ≤ 99999 ∧ z = ⟨#[]⟩ := by
  by_cases hz : z.data.toList = []
  · refine ⟨?_, ?_, empty_of z hz⟩ <;> (by_cases hn : 0 ≤ n ∧ n ≤ 99999 <;> simp [vfault, hz] at h hn ⊢ <;> omega)
  · simp [vfault, hz] at h
theorem fine_3 (n : Int) (z : ByteArray) (h : vfault ⟨3, n, z⟩ = 0) : 0 ≤ n ∧ n ≤ 0 ∧ z = ⟨#[]⟩ := by
  by_cases hz : z.data.toList = []
  · refine ⟨?_, ?_, empty_of z hz⟩ <;> (by_cases hn : 0 ≤ n ∧ n ≤ 0 <;> simp [vfault, hz] at h hn ⊢ <;> omega)
  · simp [vfault, hz] at h
theorem fine_9 (n : Int) (z : ByteArray) (h : vfault ⟨9, n, z⟩ = 0) : 0 ≤ n ∧ n ≤ 0 ∧ z = ⟨#[]⟩ := by
  by_cases hz : z.data.toList = []
  · refine ⟨?_, ?_, empty_of z hz⟩ <;> (by_cases hn : 0 ≤ n ∧ n ≤ 0 <;> simp [vfault, hz] at h hn ⊢ <;> omega)
  · simp [vfault, hz] at h
theorem value_any (t : Vlu) (w : World) (h : vfault t = 0) :
    Calls Tryd.prog 59 #[(wdOf t).val] w fun e w' => e = .returned t.val ∧ Below w.heap.size w w' := by
  obtain ⟨k, n, z⟩ := t
  show Calls Tryd.prog 59 #[.agg #[.int .u8 (wdOf ⟨k, n, z⟩).tag, .int .u64 (wdOf ⟨k, n, z⟩).rest]] w fun e w' => e = .returned (.agg #[.int .i64 k, .int .i64 n, .string z]) ∧ Below w.heap.size w w'
  rcases vkinds k with rfl | rfl | rfl | rfl | rfl | rfl | rfl | rfl | rfl | hk
  · obtain ⟨h1, h2, hz⟩ := fine_1 n z h
    subst hz
    have e2 : wdOf ⟨1, n, ⟨#[]⟩⟩ = ⟨1, n - (-1000000000)⟩ := by unfold wdOf; rw [if_pos h]; simp [least]
    rw [e2]; exact val_1 n w h1 h2
  · obtain ⟨h1, h2, hz⟩ := fine_2 n z h
    subst hz
    have e2 : wdOf ⟨2, n, ⟨#[]⟩⟩ = ⟨2, n - (0)⟩ := by unfold wdOf; rw [if_pos h]; simp [least]
    rw [e2]; exact val_2 n w h1 h2
  · obtain ⟨h1, h2, hz⟩ := fine_3 n z h
    subst hz
    have e2 : wdOf ⟨3, n, ⟨#[]⟩⟩ = ⟨3, n - (0)⟩ := by unfold wdOf; rw [if_pos h]; simp [least]
    rw [e2]; exact val_3 n w h1 h2
  · have hn : n = 0 := by
      by_cases hn : n = 0
      · exact hn
      · simp [vfault, hn] at h
    subst hn
    have hy : symL z.data.toList = true := by
      cases hy : symL z.data.toList
      · simp [vfault, hy] at h
      · rfl
    have e2 : wdOf ⟨4, 0, z⟩ = ⟨4, (bitsL z.data.toList : Int)⟩ := by unfold wdOf; rw [if_pos h]; simp
    rw [e2]; exact val_4 z w hy
  · obtain ⟨h1, h2, hz⟩ := fine_5 n z h
    subst hz
    have e2 : wdOf ⟨5, n, ⟨#[]⟩⟩ = ⟨5, n - (0)⟩ := by unfold wdOf; rw [if_pos h]; simp [least]
    rw [e2]; exact val_5 n w h1 h2
  · obtain ⟨h1, h2, hz⟩ := fine_6 n z h
    subst hz
    have e2 : wdOf ⟨6, n, ⟨#[]⟩⟩ = ⟨6, n - (0)⟩ := by unfold wdOf; rw [if_pos h]; simp [least]
    rw [e2]; exact val_6 n w h1 h2
  · obtain ⟨h1, h2, hz⟩ := fine_7 n z h
    subst hz
    have e2 : wdOf ⟨7, n, ⟨#[]⟩⟩ = ⟨7, n - (0)⟩ := by unfold wdOf; rw [if_pos h]; simp [least]
    rw [e2]; exact val_7 n w h1 h2
  · obtain ⟨h1, h2, hz⟩ := fine_8 n z h
    subst hz
    have e2 : wdOf ⟨8, n, ⟨#[]⟩⟩ = ⟨8, n - (0)⟩ := by unfold wdOf; rw [if_pos h]; simp [least]
    rw [e2]; exact val_8 n w h1 h2
  · obtain ⟨h1, h2, hz⟩ := fine_9 n z h
    subst hz
    have e2 : wdOf ⟨9, n, ⟨#[]⟩⟩ = ⟨9, n - (0)⟩ := by unfold wdOf; rw [if_pos h]; simp [least]
    rw [e2]; exact val_9 n w h1 h2
  · simp only [vfault] at h
    rw [if_pos hk] at h
    cases h
end Go.Proofs.YtgfienijabkpjaaDoor
