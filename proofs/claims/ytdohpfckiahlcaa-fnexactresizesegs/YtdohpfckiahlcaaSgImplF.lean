/-
  The program's sizeFault, partsFault, itemsIn, manyFault, SegsFault and DepthSegs, and the library's cmp.Or at int64: what they tell of a stack in pieces; nothing that was there is turned.
-/
import Derived.Test.YtdohpfckiahlcaaSgSpecF
import Derived.Test.YtdohpfckiahlcaaFacts
namespace Go.Proofs.Ytdohpfckiahlcaa
open Go.RowKit Go.Extern.Stop Go.Stop Go.Extern Num Go.Lib

/-- The first code that is not 0. -/
def orL : List Int → Int
  | [] => 0
  | x :: r => if x = 0 then orL r else x
theorem orL_drop (l : List Int) : ∀ k, k ≤ l.length → (∀ (j : Nat) (hj : j < l.length), j < k → l[j] = 0) → orL l = orL (l.drop k) := by
  induction l with
  | nil => intro k _ _; simp
  | cons x r ih =>
    intro k hk h
    cases k with
    | zero => rfl
    | succ k =>
      have h0 : x = 0 := h 0 (by simp) (by omega)
      rw [List.drop_succ_cons]
      rw [show orL (x :: r) = orL r by simp [orL, h0]]
      exact ih k (by simpa using hk) (fun j hj hjk => h (j + 1) (by simpa using hj) (by omega))
theorem orI_any (v : Value) (l : List Int) (w : World) (hl : l.length ≤ 1048576) (h : SeeI w v l) :
    Calls Try.prog 29 #[v] w fun e w' => e = .returned (.int .i64 (orL l)) ∧ w' = w := by
  obtain ⟨a, c, rfl, hc⟩ := h
  have HC : Hid (0 < l.length → ∃ b off, a = some ⟨b, off, none⟩ ∧ ∀ (k : Nat) (h : k < l.length), w.cell? ⟨b, off + k, none⟩ = some (.int .i64 l[k])) := hc
  obtain ⟨R, hR⟩ : ∃ R, R = orL l := ⟨_, rfl⟩
  have HR : Hid (R = orL l) := hR
  rw [← hR]
  clear hc hR
  go_enter Try.func29, Try.ntmps29
  go_wp2_with fail
  go_loopw [8] (fun i wr => ∃ k : Nat, k ≤ l.length ∧ i = .int .i64 (k : Int) ∧ Hid (∀ (j : Nat) (hj : j < l.length), j < k → l[j] = 0) ∧ wr = w) (fun i _ => l.length - (RowKit.intOf i).toNat)
  case atStart => exact ⟨0, Nat.zero_le _, rfl, fun j _ hj => absurd hj (Nat.not_lt_zero j), rfl⟩
  case round =>
    obtain ⟨k, hk, rfl, HJ, hw⟩ := hrel
    subst hw
    by_cases hlt : k < l.length
    · obtain ⟨g, off, rfl, h2⟩ := HC.out (by omega)
      have cz := h2 k hlt
      have HRk : Hid (R = if (l[k]'hlt) = 0 then orL (l.drop (k + 1)) else (l[k]'hlt)) := by
        show R = _
        rw [HR.out, orL_drop l k hk HJ.out, List.drop_eq_getElem_cons hlt]; rfl
      have HN : Hid ((l[k]'hlt) = 0 → ∀ (j : Nat) (hj : j < l.length), j < k + 1 → l[j] = 0) := fun h j hj hjk => by
        by_cases e : j < k
        · exact HJ.out j hj e
        · have : j = k := by omega
          subst this; exact h
      obtain ⟨m, hm⟩ : ∃ m, m = (l[k]'hlt) := ⟨_, rfl⟩
      rw [← hm] at cz HRk HN
      clear h2 HJ HR hm
      cases h4 : (m != 0) with
      | true =>
        have HE : Hid (R = m) := by
          have h5 : m ≠ 0 := by simpa using h4
          show R = m; rw [HRk.out, if_neg h5]
        clear HN HRk
        go_wp2
        go_ret
        exact ⟨by rw [HE.out]; rfl, rfl⟩
      | false =>
        have HE : Hid (∀ (j : Nat) (hj : j < l.length), j < k + 1 → l[j] = 0) := HN.out (by simpa using h4)
        clear HN HRk
        go_wp2
        exact ⟨⟨k + 1, by omega, by go_num, HE.out, by trivial⟩, by simp [RowKit.intOf]; omega⟩
    · have HE : Hid (R = 0) := by
        show R = 0
        rw [HR.out, orL_drop l k hk HJ.out, List.drop_eq_nil_of_le (by omega)]; rfl
      clear HR
      go_wp2
      go_ret
      exact ⟨by rw [HE.out]; rfl, rfl⟩
theorem sizeFault_any (n : Int) (w : World) :
    Calls Try.prog 30 #[.int .i64 n] w fun e w' => e = .returned (.int .i64 (if sizeB n then 0 else 3)) ∧ w' = w := by
  obtain ⟨R, hR⟩ : ∃ R : Int, R = if sizeB n then 0 else 3 := ⟨_, rfl⟩
  have HR : Hid (R = if sizeB n then 0 else 3) := hR
  rw [← hR]
  clear hR
  by_cases h1 : n < 1
  · have HE : Hid (R = 3) := by show R = 3; rw [HR.out, if_neg]; unfold sizeB; simp; omega
    clear HR
    go_enter Try.func30, Try.ntmps30
    go_wp2
    go_ret
    exact ⟨by rw [HE.out]; rfl, rfl⟩
  by_cases h2 : 64 < n
  · have HE : Hid (R = 3) := by show R = 3; rw [HR.out, if_neg]; unfold sizeB; simp; omega
    clear HR
    go_enter Try.func30, Try.ntmps30
    go_wp2
    go_ret
    exact ⟨by rw [HE.out]; rfl, rfl⟩
  · have HE : Hid (R = 0) := by show R = 0; rw [HR.out, if_pos]; unfold sizeB; simp; omega
    clear HR
    go_enter Try.func30, Try.ntmps30
    go_wp2
    go_ret
    exact ⟨by rw [HE.out]; rfl, rfl⟩
theorem manyFault_any (n : Int) (w : World) :
    Calls Try.prog 31 #[.int .i64 n] w fun e w' => e = .returned (.int .i64 (if 4000 < n then 2 else 0)) ∧ w' = w := by
  obtain ⟨R, hR⟩ : ∃ R : Int, R = if 4000 < n then 2 else 0 := ⟨_, rfl⟩
  have HR : Hid (R = if 4000 < n then 2 else 0) := hR
  rw [← hR]
  clear hR
  by_cases h2 : 4000 < n
  · have HE : Hid (R = 2) := by show R = 2; rw [HR.out, if_pos h2]
    clear HR
    go_enter Try.func31, Try.ntmps31
    go_wp2
    go_ret
    exact ⟨by rw [HE.out]; rfl, rfl⟩
  · have HE : Hid (R = 0) := by show R = 0; rw [HR.out, if_neg h2]
    clear HR
    go_enter Try.func31, Try.ntmps31
    go_wp2
    go_ret
    exact ⟨by rw [HE.out]; rfl, rfl⟩
/-- What the program asks of a part. -/
def askP (size : Int) (m k n : Nat) : Bool := (if k + 1 = m then decide (1 ≤ n) else decide (size ≤ (n : Int))) && decide ((n : Int) ≤ size)
def askS (size : Int) (ps : List (List Int)) : Bool := (List.range ps.length).all fun k => askP size ps.length k (ps.getD k []).length
theorem askS_ok {size : Int} {ps : List (List Int)} (h : 1 ≤ size) : askS size ps = okS size ps := by
  unfold askS okS
  have h1 : ∀ k, k ∈ List.range ps.length → askP size ps.length k (ps.getD k []).length = partOk size ps.length k (ps.getD k []).length := fun k hk => by
    have hk' := List.mem_range.1 hk
    generalize (ps.getD k []).length = n
    unfold askP partOk
    by_cases e : k + 1 = ps.length
    · rw [if_pos e, show decide (ps.length ≤ k + 1) = true by simp; omega]; simp
    · rw [if_neg e, show decide (ps.length ≤ k + 1) = false by simp; omega, Bool.false_or]
      rw [Bool.eq_iff_iff]
      simp
      omega
  generalize List.range ps.length = L at h1
  clear h
  induction L with
  | nil => rfl
  | cons x r ih => rw [List.all_cons, List.all_cons, h1 x (by simp), ih (fun k hk => h1 k (by simp [hk]))]
theorem askS_true {size : Int} {ps : List (List Int)} (h : ∀ (k : Nat) (hk : k < ps.length), askP size ps.length k ps[k].length = true) : askS size ps = true := by
  unfold askS
  rw [List.all_eq_true]
  intro k hk
  have hk' : k < ps.length := List.mem_range.1 hk
  rw [getD_at ps k hk']
  exact h k hk'
theorem askS_false {size : Int} {ps : List (List Int)} {k : Nat} (hk : k < ps.length) (h : askP size ps.length k ps[k].length = false) : askS size ps = false := by
  cases e : askS size ps with
  | false => rfl
  | true =>
    unfold askS at e
    rw [List.all_eq_true] at e
    have := e k (List.mem_range.2 hk)
    rw [getD_at ps k hk, h] at this
    exact absurd this (by decide)
set_option maxRecDepth 100000 in
set_option maxHeartbeats 2000000 in
theorem partsFault_any (size : Int) (v : Value) (ps : List (List Int)) (w : World) (hs : SmallS ps) (h : SeeP w v ps) :
    Calls Try.prog 41 #[segV size v] w fun e w' => e = .returned (.int .i64 (if askS size ps then 0 else 1)) ∧ Below w.heap.size w w' := by
  have hl := hs.len
  have HZ : Hid (SmallS ps) := hs
  obtain ⟨a, c, rfl, hc⟩ := h
  have HC : Hid (0 < ps.length → ∃ b off, a = some ⟨b, off, none⟩ ∧ ∀ (k : Nat) (h : k < ps.length), ∃ u, (w.alloc (.cells #[.int .i64 size, .slice a ps.length c] 28)).cell? ⟨b, off + k, none⟩ = some u ∧ SeeI w u ps[k]) := fun hl => by
    obtain ⟨b, off, e, h2⟩ := hc hl
    exact ⟨b, off, e, fun k hk => by obtain ⟨u, q1, q2⟩ := h2 k hk; exact ⟨u, cell_laid _ q1, q2⟩⟩
  obtain ⟨R, hR⟩ : ∃ R : Int, R = if askS size ps then 0 else 1 := ⟨_, rfl⟩
  have HR : Hid (R = if askS size ps then 0 else 1) := hR
  rw [← hR]
  clear hs hc hR
  go_enter Try.func41, Try.ntmps41
  go_wp2_with fail
  go_loopw [9] (fun i wr => ∃ k : Nat, k ≤ ps.length ∧ i = .int .i64 (k : Int) ∧ Hid (∀ (j : Nat) (hj : j < ps.length), j < k → askP size ps.length j ps[j].length = true) ∧ wr = w.alloc (.cells #[.int .i64 size, .slice a ps.length c] 28)) (fun i _ => ps.length - (RowKit.intOf i).toNat)
  case atStart => exact ⟨0, Nat.zero_le _, rfl, fun j _ hj => absurd hj (Nat.not_lt_zero j), rfl⟩
  case round =>
    obtain ⟨k, hk, rfl, HJ, hw⟩ := hrel
    subst hw
    by_cases hlt : k < ps.length
    · obtain ⟨g, off, rfl, h2⟩ := HC.out (by omega)
      obtain ⟨u, cz, ai, ci, rfl, -⟩ := h2 k hlt
      have hml : (ps[k]'hlt).length ≤ 1048576 := HZ.out.part k hlt
      have HO : Hid (askP size ps.length k (ps[k]'hlt).length = true → ∀ (j : Nat) (hj : j < ps.length), j < k + 1 → askP size ps.length j ps[j].length = true) := fun h j hj hjk => by
        by_cases e : j < k
        · exact HJ.out j hj e
        · have : j = k := by omega
          subst this; exact h
      have HF : Hid (askP size ps.length k (ps[k]'hlt).length = false → R = 1) := fun h => by rw [HR.out, askS_false hlt h]; rfl
      obtain ⟨m, hm⟩ : ∃ m, m = (ps[k]'hlt).length := ⟨_, rfl⟩
      rw [← hm] at cz hml HO HF
      clear h2 HJ hm HR HC
      cases h3 : ((k : Int) == (ps.length : Int) - 1) with
      | true =>
        have h3' : k + 1 = ps.length := by have : (k : Int) = (ps.length : Int) - 1 := by simpa using h3
                                           omega
        have HO2 : Hid (1 ≤ m → (m : Int) ≤ size → ∀ (j : Nat) (hj : j < ps.length), j < k + 1 → askP size ps.length j ps[j].length = true) := fun q1 q2 => HO.out (by unfold askP; rw [if_pos h3']; simp; omega)
        have HF2 : Hid (m < 1 ∨ size < (m : Int) → R = 1) := fun q => HF.out (by unfold askP; rw [if_pos h3']; simp; omega)
        clear HO HF h3'
        by_cases h1 : (m : Int) < 1
        · have HE : Hid (R = 1) := HF2.out (.inl (by omega))
          clear HF2 HO2
          go_wp2
          go_ret
          exact ⟨by rw [HE.out]; rfl, (Below.refl _ _).alloc (Nat.le_refl _) _⟩
        by_cases h2 : size < (m : Int)
        · have HE : Hid (R = 1) := HF2.out (.inr h2)
          clear HF2 HO2
          go_wp2
          go_ret
          exact ⟨by rw [HE.out]; rfl, (Below.refl _ _).alloc (Nat.le_refl _) _⟩
        · have HE : Hid (∀ (j : Nat) (hj : j < ps.length), j < k + 1 → askP size ps.length j ps[j].length = true) := HO2.out (by omega) (by omega)
          clear HF2 HO2
          go_wp2
          exact ⟨⟨k + 1, by omega, by go_num, HE.out, by trivial⟩, by simp [RowKit.intOf]; omega⟩
      | false =>
        have h3' : ¬ k + 1 = ps.length := by
          intro e
          have : ((k : Int) == (ps.length : Int) - 1) = true := by rw [beq_iff_eq]; omega
          rw [h3] at this; cases this
        have HO2 : Hid (size ≤ (m : Int) → (m : Int) ≤ size → ∀ (j : Nat) (hj : j < ps.length), j < k + 1 → askP size ps.length j ps[j].length = true) := fun q1 q2 => HO.out (by unfold askP; rw [if_neg h3']; simp; omega)
        have HF2 : Hid ((m : Int) < size ∨ size < (m : Int) → R = 1) := fun q => HF.out (by unfold askP; rw [if_neg h3']; simp; omega)
        clear HO HF h3'
        by_cases h1 : (m : Int) < size
        · have HE : Hid (R = 1) := HF2.out (.inl h1)
          clear HF2 HO2
          go_wp2
          go_ret
          exact ⟨by rw [HE.out]; rfl, (Below.refl _ _).alloc (Nat.le_refl _) _⟩
        by_cases h2 : size < (m : Int)
        · have HE : Hid (R = 1) := HF2.out (.inr h2)
          clear HF2 HO2
          go_wp2
          go_ret
          exact ⟨by rw [HE.out]; rfl, (Below.refl _ _).alloc (Nat.le_refl _) _⟩
        · have HE : Hid (∀ (j : Nat) (hj : j < ps.length), j < k + 1 → askP size ps.length j ps[j].length = true) := HO2.out (by omega) (by omega)
          clear HF2 HO2
          go_wp2
          exact ⟨⟨k + 1, by omega, by go_num, HE.out, by trivial⟩, by simp [RowKit.intOf]; omega⟩
    · have HE : Hid (R = 0) := by
        show R = 0
        rw [HR.out, askS_true (fun j hj => HJ.out j hj (by omega))]; rfl
      clear HR HJ HC
      go_wp2
      go_ret
      exact ⟨by rw [HE.out]; rfl, (Below.refl _ _).alloc (Nat.le_refl _) _⟩
set_option maxRecDepth 100000 in
set_option maxHeartbeats 2000000 in
theorem itemsIn_any (size : Int) (v : Value) (ps : List (List Int)) (w : World) (hs : SmallS ps) (h : SeeP w v ps) :
    Calls Try.prog 42 #[segV size v] w fun e w' => e = .returned (.int .i64 (ps.flatten.length : Int)) ∧ Below w.heap.size w w' := by
  have hl := hs.len
  have HZ : Hid (SmallS ps) := hs
  have HT : Hid (∀ u, Below w.heap.size w u → SeeP u v ps) := fun u hu => h.below hu
  obtain ⟨a, c, rfl, -⟩ := id h
  obtain ⟨R, hR⟩ : ∃ R : Nat, R = ps.flatten.length := ⟨_, rfl⟩
  have HR : Hid (R = ps.flatten.length) := hR
  rw [← hR]
  clear hs h hR
  go_enter Try.func42, Try.ntmps42
  go_wp2_with fail
  go_loopw [3, 9] (fun x i wr => ∃ k n : Nat, k ≤ ps.length ∧ n ≤ 1048576 ∧ x = .int .i64 (n : Int) ∧ i = .int .i64 (k : Int) ∧ Hid (n = (ps.take k).flatten.length) ∧ Hid (Below w.heap.size w wr)) (fun _ i _ => ps.length - (RowKit.intOf i).toNat)
  case atStart => exact ⟨0, 0, Nat.zero_le _, by omega, rfl, rfl, by show _ = _; simp, (Below.refl _ _).alloc (Nat.le_refl _) _⟩
  case round =>
    obtain ⟨k, n, hk, hn, rfl, rfl, HN, HB⟩ := hrel
    by_cases hlt : k < ps.length
    · obtain ⟨a', c', e', hc⟩ := HT.out wr HB.out
      obtain ⟨rfl, rfl⟩ : a = a' ∧ c = c' := by simp at e'; exact e'
      obtain ⟨g, off, rfl, h2⟩ := hc (by omega)
      obtain ⟨u, cz, ai, ci, rfl, -⟩ := h2 k hlt
      have hml : (ps[k]'hlt).length ≤ 1048576 := HZ.out.part k hlt
      have HN1 : Hid ((ps.take (k + 1)).flatten.length = n + (ps[k]'hlt).length) := by show _ = _; rw [HN.out]; exact flat_len_next ps k hlt
      have hup : n + (ps[k]'hlt).length ≤ 1048576 := by have := HZ.out.upto (k + 1); rw [HN1.out] at this; exact this
      obtain ⟨m, hm⟩ : ∃ m, m = (ps[k]'hlt).length := ⟨_, rfl⟩
      rw [← hm] at cz hml HN1 hup
      clear h2 HN hm hc e'
      go_wp2
      exact ⟨⟨k + 1, n + m, by omega, by omega, by go_num, by go_num, HN1.out.symm, HB.out.alloc HB.out.size _⟩, by simp [RowKit.intOf]; omega⟩
    · have HE : Hid (n = R) := by
        show n = R
        rw [HN.out, HR.out, List.take_of_length_le (by omega)]
      clear HR HN
      go_wp2
      go_ret
      exact ⟨by rw [HE.out]; rfl, HB.out⟩

theorem see3 (u : World) (x y z : Int) (T : TypeId) : SeeI (u.alloc (.cells #[.int .i64 x, .int .i64 y, .int .i64 z] T)) (.slice (some ⟨u.heap.size, 0, none⟩) 3 3) [x, y, z] :=
  ⟨_, _, rfl, fun _ => ⟨_, _, rfl, fun k hk => by
    rw [World.cell?_alloc_at _ _ _ _ rfl]
    match k, hk with
    | 0, _ => rfl
    | 1, _ => rfl
    | 2, _ => rfl⟩⟩
theorem faultS_or (size : Int) (ps : List (List Int)) : orL [if sizeB size then 0 else 3, if askS size ps then 0 else 1, if 4000 < (ps.flatten.length : Int) then 2 else 0] = faultS size ps := by
  unfold faultS
  cases h : sizeB size with
  | false => simp [orL]
  | true =>
    have h1 : 1 ≤ size := by unfold sizeB at h; simp at h; exact h.1
    rw [askS_ok h1]
    cases h2 : okS size ps with
    | false => simp [orL]
    | true =>
      by_cases h3 : 4000 < ps.flatten.length
      · have h3' : (4000 : Int) < (ps.flatten.length : Int) := by omega
        simp only [if_pos h3, if_pos h3', orL]; simp
      · have h3' : ¬ (4000 : Int) < (ps.flatten.length : Int) := by omega
        simp only [if_neg h3, if_neg h3', orL]; simp
set_option maxRecDepth 100000 in
set_option maxHeartbeats 2000000 in
theorem implSF_any (size : Int) (v : Value) (ps : List (List Int)) (w : World) (hs : SmallS ps) (h : SeeP w v ps) :
    Calls Try.prog 27 #[segV size v] w fun e w' => e = .returned (.int .i64 (faultS size ps)) ∧ Below w.heap.size w w' := by
  rw [← faultS_or]
  obtain ⟨X0, hX0⟩ : ∃ X : Int, X = if sizeB size then 0 else 3 := ⟨_, rfl⟩
  obtain ⟨X1, hX1⟩ : ∃ X : Int, X = if askS size ps then 0 else 1 := ⟨_, rfl⟩
  obtain ⟨X3, hX3⟩ : ∃ X : Int, X = if 4000 < (ps.flatten.length : Int) then 2 else 0 := ⟨_, rfl⟩
  obtain ⟨X2, hX2⟩ : ∃ X : Int, X = (ps.flatten.length : Int) := ⟨_, rfl⟩
  rw [← hX0, ← hX1, ← hX3]
  obtain ⟨R, hR⟩ : ∃ R : Int, R = orL [X0, X1, X3] := ⟨_, rfl⟩
  rw [← hR]
  obtain ⟨a, c, e, -⟩ := id h
  have HA : Hid (∀ u, Below (w.alloc (.cells #[.int .i64 size, .slice a ps.length c] 28)).heap.size (w.alloc (.cells #[.int .i64 size, .slice a ps.length c] 28)) u → SegAt u w.heap.size size (.slice a ps.length c)) := fun u hu => (SegAt.new w size _ _).below hu
  have hb0 : ∀ u, Below (w.alloc (.cells #[.int .i64 size, .slice a ps.length c] 28)).heap.size (w.alloc (.cells #[.int .i64 size, .slice a ps.length c] 28)) u → Below w.heap.size w u := fun u hu => ((Below.refl _ _).alloc (Nat.le_refl _) _).trans (hu.mono (by simp))
  have HS0 : Hid (∀ u, Calls Try.prog 30 #[.int .i64 size] u fun e w' => e = .returned (.int .i64 X0) ∧ Below u.heap.size u w') := fun u => (sizeFault_any size u).mono fun e w' ⟨h1, h2⟩ => ⟨by rw [hX0]; exact h1, by rw [h2]; exact Below.refl _ _⟩
  have HS1 : Hid (∀ u, Below (w.alloc (.cells #[.int .i64 size, .slice a ps.length c] 28)).heap.size (w.alloc (.cells #[.int .i64 size, .slice a ps.length c] 28)) u → Calls Try.prog 41 #[segV size (.slice a ps.length c)] u fun e w' => e = .returned (.int .i64 X1) ∧ Below u.heap.size u w') := fun u hu => by rw [hX1, ← e]; exact partsFault_any size v ps u hs (h.below (hb0 u hu))
  have HS2 : Hid (∀ u, Below (w.alloc (.cells #[.int .i64 size, .slice a ps.length c] 28)).heap.size (w.alloc (.cells #[.int .i64 size, .slice a ps.length c] 28)) u → Calls Try.prog 42 #[segV size (.slice a ps.length c)] u fun e w' => e = .returned (.int .i64 X2) ∧ Below u.heap.size u w') := fun u hu => by rw [hX2, ← e]; exact itemsIn_any size v ps u hs (h.below (hb0 u hu))
  have HS3 : Hid (∀ u, Calls Try.prog 31 #[.int .i64 X2] u fun e w' => e = .returned (.int .i64 X3) ∧ Below u.heap.size u w') := fun u => (manyFault_any X2 u).mono fun e w' ⟨h1, h2⟩ => ⟨by rw [hX3, ← hX2]; exact h1, by rw [h2]; exact Below.refl _ _⟩
  have HS4 : Hid (∀ (u : World) (x : Value), SeeI u x [X0, X1, X3] → Calls Try.prog 29 #[x] u fun e w' => e = .returned (.int .i64 R) ∧ Below u.heap.size u w') := fun u x hx => (orI_any x _ u (by simp) hx).mono fun e w' ⟨h1, h2⟩ => ⟨by rw [hR]; exact h1, by rw [h2]; exact Below.refl _ _⟩
  subst e
  clear h hs hX0 hX1 hX2 hX3 hR hb0
  go_enter Try.func27, Try.ntmps27
  go_wp2_with fail
  refine wp_region_facts (by kernel_rfl) 10 (fun v => Below (w.alloc (.cells #[.int .i64 size, .slice a ps.length c] 28)).heap.size (w.alloc (.cells #[.int .i64 size, .slice a ps.length c] 28)) v) (fun u v => Below u.heap.size u v) (fun i v u => match i with | 0 => (fun v u => v = .pointer (some ⟨w.heap.size, 0, none⟩)) v u | 1 => (fun v u => v = .int .i64 size) v u | 2 => (fun v u => v = .int .i64 (X0)) v u | 3 => (fun v u => v = segV size (.slice a ps.length c)) v u | 4 => (fun v u => v = .int .i64 (X1)) v u | 5 => (fun v u => v = segV size (.slice a ps.length c)) v u | 6 => (fun v u => v = .int .i64 (X2)) v u | 7 => (fun v u => v = .int .i64 (X3)) v u | 8 => (fun v u => SeeI u v [X0, X1, X3]) v u | 9 => (fun v u => v = .int .i64 (R)) v u | _ => True) (by kernel_rfl) [0, 1, 2, 3, 4, 5, 6, 7, 8, 9] (by kernel_rfl) ?b0 ?bk ?fk ⟨?s0, ?s1, ?s2, ?s3, ?s4, ?s5, ?s6, ?s7, ?s8, ?s9, trivial⟩ _ rfl [(0, some 3), (1, some 4), (2, some 5), (3, some 6), (4, some 7), (5, some 8), (6, some 9), (7, some 10), (8, some 11), (9, some 12)] (by kernel_rfl) ?last
  case b0 => exact Below.drew (Below.refl _ _)
  case bk => exact fun u v h hb => h.trans (hb.mono h.size)
  case fk => intro i v u u' h hb; match i, h with | 0, h => exact (h) | 1, h => exact (h) | 2, h => exact (h) | 3, h => exact (h) | 4, h => exact (h) | 5, h => exact (h) | 6, h => exact (h) | 7, h => exact (h) | 8, h => exact (h.below hb) | 9, h => exact (h) | _ + 10, _ => exact trivial
  case s0 =>
    refine StepF.of rfl [] (by kernel_rfl) ?_
    intro vs u hB hf K hK
    clear hf
    simp only [putsA, List.foldl_nil, Act.put, List.setIfInBounds_toArray] at hK ⊢
    rw [if_pos (by rfl)]
    go_simp
    exact hK.out _ _ (Below.refl _ _) rfl
  case s1 =>
    refine StepF.of rfl [(0, some 3)] (by kernel_rfl) ?_
    intro vs u hB hf K hK
    have f0 : (fun v u => v = .pointer (some ⟨w.heap.size, 0, none⟩)) (vs 0) u := hf.1
    clear hf
    simp only [putsA, List.foldl_cons, List.foldl_nil, Act.put, List.setIfInBounds_toArray, List.set_cons_zero, List.set_cons_succ] at hK ⊢
    generalize vs 0 = v0 at f0 hK ⊢
    rw [if_pos (by rfl)]
    subst f0
    have c0' := (HA.out u hB).c0
    go_simp
    exact hK.out _ _ (Below.refl _ _) rfl
  case s2 =>
    refine StepF.of rfl [(1, some 4)] (by kernel_rfl) ?_
    intro vs u hB hf K hK
    have f1 : (fun v u => v = .int .i64 size) (vs 1) u := hf.1
    clear hf
    simp only [putsA, List.foldl_cons, List.foldl_nil, Act.put, List.setIfInBounds_toArray, List.set_cons_zero, List.set_cons_succ] at hK ⊢
    generalize vs 1 = v1 at f1 hK ⊢
    rw [if_pos (by rfl)]
    subst f1
    go_simp
    refine (HS0.out u).mono ?_
    rintro e w4 ⟨rfl, b4⟩
    exact hK.out _ _ b4 rfl
  case s3 =>
    refine StepF.of rfl [] (by kernel_rfl) ?_
    intro vs u hB hf K hK
    clear hf
    simp only [putsA, List.foldl_nil, Act.put, List.setIfInBounds_toArray] at hK ⊢
    rw [if_pos (by rfl)]
    have c0' := (HA.out u hB).c0
    have c1' := (HA.out u hB).c1
    go_simp
    exact hK.out _ _ (Below.refl _ _) rfl
  case s4 =>
    refine StepF.of rfl [(2, some 5), (3, some 6)] (by kernel_rfl) ?_
    intro vs u hB hf K hK
    have f2 : (fun v u => v = .int .i64 (X0)) (vs 2) u := hf.1
    have f3 : (fun v u => v = segV size (.slice a ps.length c)) (vs 3) u := hf.2.1
    clear hf
    simp only [putsA, List.foldl_cons, List.foldl_nil, Act.put, List.setIfInBounds_toArray, List.set_cons_zero, List.set_cons_succ] at hK ⊢
    generalize vs 2 = v2 at f2 hK ⊢
    generalize vs 3 = v3 at f3 hK ⊢
    rw [if_pos (by rfl)]
    subst f3
    clear f2
    go_simp
    refine (HS1.out u hB).mono ?_
    rintro e w4 ⟨rfl, b4⟩
    exact hK.out _ _ b4 rfl
  case s5 =>
    refine StepF.of rfl [] (by kernel_rfl) ?_
    intro vs u hB hf K hK
    clear hf
    simp only [putsA, List.foldl_nil, Act.put, List.setIfInBounds_toArray] at hK ⊢
    rw [if_pos (by rfl)]
    have c0' := (HA.out u hB).c0
    have c1' := (HA.out u hB).c1
    go_simp
    exact hK.out _ _ (Below.refl _ _) rfl
  case s6 =>
    refine StepF.of rfl [(4, some 7), (5, some 8)] (by kernel_rfl) ?_
    intro vs u hB hf K hK
    have f4 : (fun v u => v = .int .i64 (X1)) (vs 4) u := hf.1
    have f5 : (fun v u => v = segV size (.slice a ps.length c)) (vs 5) u := hf.2.1
    clear hf
    simp only [putsA, List.foldl_cons, List.foldl_nil, Act.put, List.setIfInBounds_toArray, List.set_cons_zero, List.set_cons_succ] at hK ⊢
    generalize vs 4 = v4 at f4 hK ⊢
    generalize vs 5 = v5 at f5 hK ⊢
    rw [if_pos (by rfl)]
    subst f5
    clear f4
    go_simp
    refine (HS2.out u hB).mono ?_
    rintro e w4 ⟨rfl, b4⟩
    exact hK.out _ _ b4 rfl
  case s7 =>
    refine StepF.of rfl [(6, some 9)] (by kernel_rfl) ?_
    intro vs u hB hf K hK
    have f6 : (fun v u => v = .int .i64 (X2)) (vs 6) u := hf.1
    clear hf
    simp only [putsA, List.foldl_cons, List.foldl_nil, Act.put, List.setIfInBounds_toArray, List.set_cons_zero, List.set_cons_succ] at hK ⊢
    generalize vs 6 = v6 at f6 hK ⊢
    rw [if_pos (by rfl)]
    subst f6
    go_simp
    refine (HS3.out u).mono ?_
    rintro e w4 ⟨rfl, b4⟩
    exact hK.out _ _ b4 rfl
  case s8 =>
    refine StepF.of rfl [(2, some 5), (4, some 7), (7, some 10)] (by kernel_rfl) ?_
    intro vs u hB hf K hK
    have f2 : (fun v u => v = .int .i64 (X0)) (vs 2) u := hf.1
    have f4 : (fun v u => v = .int .i64 (X1)) (vs 4) u := hf.2.1
    have f7 : (fun v u => v = .int .i64 (X3)) (vs 7) u := hf.2.2.1
    clear hf
    simp only [putsA, List.foldl_cons, List.foldl_nil, Act.put, List.setIfInBounds_toArray, List.set_cons_zero, List.set_cons_succ] at hK ⊢
    generalize vs 2 = v2 at f2 hK ⊢
    generalize vs 4 = v4 at f4 hK ⊢
    generalize vs 7 = v7 at f7 hK ⊢
    rw [if_pos (by rfl)]
    subst f2
    subst f4
    subst f7
    go_simp
    refine hK.out _ _ ((Below.refl _ _).alloc (Nat.le_refl _) _) ?_
    exact see3 _ _ _ _ _
  case s9 =>
    refine StepF.of rfl [(7, some 10), (8, some 11)] (by kernel_rfl) ?_
    intro vs u hB hf K hK
    have f7 : (fun v u => v = .int .i64 (X3)) (vs 7) u := hf.1
    have f8 : (fun v u => SeeI u v [X0, X1, X3]) (vs 8) u := hf.2.1
    clear hf
    simp only [putsA, List.foldl_cons, List.foldl_nil, Act.put, List.setIfInBounds_toArray, List.set_cons_zero, List.set_cons_succ] at hK ⊢
    generalize vs 7 = v7 at f7 hK ⊢
    generalize vs 8 = v8 at f8 hK ⊢
    rw [if_pos (by rfl)]
    clear f7
    obtain ⟨ar, cr, rfl, -⟩ := id f8
    go_simp
    refine (HS4.out u _ f8).mono ?_
    rintro e w4 ⟨rfl, b4⟩
    exact hK.out _ _ b4 rfl
  case last =>
    intro vs u hB hf K hK
    have f0 : (fun v u => v = .pointer (some ⟨w.heap.size, 0, none⟩)) (vs 0) u := hf.1
    have f1 : (fun v u => v = .int .i64 size) (vs 1) u := hf.2.1
    have f2 : (fun v u => v = .int .i64 (X0)) (vs 2) u := hf.2.2.1
    have f3 : (fun v u => v = segV size (.slice a ps.length c)) (vs 3) u := hf.2.2.2.1
    have f4 : (fun v u => v = .int .i64 (X1)) (vs 4) u := hf.2.2.2.2.1
    have f5 : (fun v u => v = segV size (.slice a ps.length c)) (vs 5) u := hf.2.2.2.2.2.1
    have f6 : (fun v u => v = .int .i64 (X2)) (vs 6) u := hf.2.2.2.2.2.2.1
    have f7 : (fun v u => v = .int .i64 (X3)) (vs 7) u := hf.2.2.2.2.2.2.2.1
    have f8 : (fun v u => SeeI u v [X0, X1, X3]) (vs 8) u := hf.2.2.2.2.2.2.2.2.1
    have f9 : (fun v u => v = .int .i64 (R)) (vs 9) u := hf.2.2.2.2.2.2.2.2.2.1
    clear hf
    simp only [putsA, List.foldl_cons, List.foldl_nil, Act.put, List.setIfInBounds_toArray, List.set_cons_zero, List.set_cons_succ]
    generalize vs 0 = v0 at f0 ⊢
    generalize vs 1 = v1 at f1 ⊢
    generalize vs 2 = v2 at f2 ⊢
    generalize vs 3 = v3 at f3 ⊢
    generalize vs 4 = v4 at f4 ⊢
    generalize vs 5 = v5 at f5 ⊢
    generalize vs 6 = v6 at f6 ⊢
    generalize vs 7 = v7 at f7 ⊢
    generalize vs 8 = v8 at f8 ⊢
    generalize vs 9 = v9 at f9 ⊢
    rw [if_pos (by rfl)]
    subst f9
    clear f0 f1 f2 f3 f4 f5 f6 f7 f8
    go_simp
    refine hK.out _ _ ?_
    have HBl : Hid (Below (w.alloc (.cells #[.int .i64 size, .slice a ps.length c] 28)).heap.size (w.alloc (.cells #[.int .i64 size, .slice a ps.length c] 28)) u) := hB
    clear hB hK
    go_wp2
    go_ret
    exact ⟨rfl, ((Below.refl _ _).alloc (Nat.le_refl _) _).trans (HBl.out.mono (by simp))⟩
end Go.Proofs.Ytdohpfckiahlcaa
