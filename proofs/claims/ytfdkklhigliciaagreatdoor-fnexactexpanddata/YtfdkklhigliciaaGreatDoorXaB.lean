/-
  Parts of the proof laid into one text, one behind the other; each says at its head what is proved in it.
-/
import Derived.Test.YtfdkklhigliciaaGreatDoorXaA
import Derived.WalkLawsBesides
import Derived.Laws.IdiomStrings
import Derived.Deep.RegionWith
import Derived.BigRegion
import Derived.Shelf.Strconv.Itoa4
import Derived.Shelf.Strconv.ParseIntPublic10
import Derived.Shelf.LaysM
import Derived.Shelf.LaysC
import Derived.Lib.AtoiTie
import Derived.Test.YtfdkklhigliciaaGreatDoorProg
import Derived.Lib.AppendIntMem
import Derived.Lib.AtoiErrMem
import Derived.Stop.LaidErr
/-
  The model's l1Digits answers the decimal text of a number within the bounds, whatever the world; nothing that was there is turned.
-/
namespace Go.Proofs.YtfdkklhigliciaaGreatDoor
open Go.RowKit Go.Extern.Stop Go.Stop Go.Extern Num Go.Lib

/-- A string of these bytes. -/
abbrev S (l : List UInt8) : Value := .string ⟨l.toArray⟩
/-- The byte of a digit. -/
def digB (d : Nat) : UInt8 := UInt8.ofNat (48 + d)
/-- 'string([]byte{x})'. -/
theorem conv_one (d : Nat) (hd : d < 10) (W : World) (b : Nat) (x : Int) (hx : x = 48 + (d : Int)) (hc : W.cell? ⟨b, 0, none⟩ = some (.int .u8 x)) :
    (convert 102 9 (.slice (some ⟨b, 0, none⟩) 1 1)).run Tryz.prog W = .ok (S [digB d]) W := by
  have := run_convert_bytes_back (P := Tryz.prog) W 102 9 5 ⟨b, 0, none⟩ 1 [digB d] Tryz.underlying102 Tryz.underlying5 Tryz.underlying9 (by
    intro j hj
    have hj0 : j = 0 := by simpa using hj
    subst hj0
    have e : (digB d).toNat = 48 + d := by unfold digB; simp [UInt8.toNat_ofNat']; omega
    simp only [List.getElem_cons_zero, e]
    show W.cell? ⟨b, 0, none⟩ = _
    rw [hc, hx]; simp)
  simpa using this
theorem ret_str {a b : List UInt8} (h : a = b) : Ending.returned (S a) = .returned (S b) := by rw [h]

set_option maxRecDepth 100000 in
theorem dig_small (n : Int) (w : World) (h0 : 0 ≤ n) (h1 : n < 10) :
    Calls Tryz.prog 89 #[.int .i64 n] w fun e w' => e = .returned (S (decDigits n.toNat)) ∧ Below w.heap.size w w' := by
  have hcv := fun W b => conv_one n.toNat (by omega) W b (48 + n) (by omega)
  go_enter Tryz.func89, Tryz.ntmps89
  go_wp2
  go_ret
  exact ⟨ret_str (decDigits_one (i := n.toNat) (by omega)).symm, (Below.refl _ _).alloc (Nat.le_refl _) _⟩

theorem add_dig (u d : Nat) (hu : u ≤ 1000000000) (w : World) : (Op.stringOp .add ⟨(decDigits u).toArray⟩ ⟨[digB d].toArray⟩).run Tryz.prog w = .ok (S (decDigits u ++ [digB d])) w := by
  have h : (decDigits u).length ≤ 10 := by rw [decDigits_length]; exact nDigits_le_of_lt u 9 (by omega)
  exact run_string_add_lists w _ _ (by omega) (by simp)
theorem add_min (u : Nat) (hu : u ≤ 1000000000) (w : World) : (Op.stringOp .add ⟨#[45]⟩ ⟨(decDigits u).toArray⟩).run Tryz.prog w = .ok (S (45 :: decDigits u)) w := by
  have h : (decDigits u).length ≤ 10 := by rw [decDigits_length]; exact nDigits_le_of_lt u 9 (by omega)
  exact run_string_add_lists w [45] _ (by simp) (by omega)
theorem dig_step (u q r : Nat) (hu : ¬ u < 10) (hq : q = u / 10) (hr : r = u % 10) : decDigits q ++ [digB r] = decDigits u := by
  subst hq; subst hr
  conv => rhs; rw [decDigits, dif_neg hu]
  rfl
theorem wrapDig (n : Int) (h : 0 ≤ n) : IntKind.u8.wrap (IntKind.i64.wrap (48 + n.tmod 10)) = 48 + ((n % 10).toNat : Int) := by
  rw [Int.tmod_eq_emod_of_nonneg h, IntKind.wrap_i64]
  have e : (48 + n % 10 + 9223372036854775808) % 18446744073709551616 - 9223372036854775808 = 48 + n % 10 := by omega
  rw [e, IntKind.wrap_u8]
  omega
theorem wrapDiv (n : Int) (h : 0 ≤ n) (h1 : n ≤ 1000000000) : IntKind.i64.wrap (n.tdiv 10) = n / 10 := by
  rw [Int.tdiv_eq_ediv_of_nonneg h, IntKind.wrap_i64]
  omega
set_option maxRecDepth 100000 in
set_option maxHeartbeats 1000000 in
theorem dig_big (n : Int) (w : World) (h0 : 10 ≤ n) (h1 : n ≤ 1000000000)
    (ih : ∀ w, Calls Tryz.prog 89 #[.int .i64 (n / 10)] w fun e w' => e = .returned (S (decDigits (n / 10).toNat)) ∧ Below w.heap.size w w') :
    Calls Tryz.prog 89 #[.int .i64 n] w fun e w' => e = .returned (S (decDigits n.toNat)) ∧ Below w.heap.size w w' := by
  have hcv := fun W b => conv_one (n % 10).toNat (by omega) W b (IntKind.u8.wrap (IntKind.i64.wrap (48 + n.tmod 10))) (wrapDig n (by omega))
  have IH : Hid (∀ w, Calls Tryz.prog 89 #[.int .i64 (n / 10)] w fun e w' => e = .returned (S (decDigits (n / 10).toNat)) ∧ Below w.heap.size w w') := ih
  clear ih
  have hsa := fun (w : World) => add_dig (n / 10).toNat (n % 10).toNat (by omega) w
  have HD : Hid (IntKind.i64.wrap (n.tdiv 10) = n / 10) := wrapDiv n (by omega) h1
  go_enter Tryz.func89, Tryz.ntmps89
  go_wp2_with fail
  go_region_with (go_at_call 89; rw [HD.out]; refine (IH.out _).mono ?_; rintro e w1 ⟨rfl, hq⟩; obtain ⟨hc, hf⟩ := bcell hq)
  all_goals
    go_wp2
    go_ret
    refine ⟨ret_str (dig_step n.toNat _ _ (by omega) (by omega) (by omega)), ?_⟩
    repeat (first | exact Below.refl _ _ | refine Below.drew ?_ | refine Below.alloc ?_ (by first | exact Nat.le_refl _ | (have := hq.size; simp at this ⊢; omega)) _ | refine Below.trans ?_ (hq.mono (by simp)))

theorem dig_nat (u : Nat) : ∀ w, u ≤ 1000000000 → Calls Tryz.prog 89 #[.int .i64 (u : Int)] w fun e w' => e = .returned (S (decDigits u)) ∧ Below w.heap.size w w' := by
  induction u using Nat.strongRecOn with
  | _ u ih =>
    intro w hu
    by_cases h : u < 10
    · exact dig_small (u : Int) w (by omega) (by omega)
    · refine dig_big (u : Int) w (by omega) (by omega) (fun w => ?_)
      have := ih (u / 10) (by omega) w (by omega)
      exact this
set_option maxRecDepth 100000 in
theorem dig_neg (n : Int) (w : World) (h0 : n < 0) (h1 : -1000000000 ≤ n) :
    Calls Tryz.prog 89 #[.int .i64 n] w fun e w' => e = .returned (S (45 :: decDigits n.natAbs)) ∧ Below w.heap.size w w' := by
  have IH : Hid (∀ w, Calls Tryz.prog 89 #[.int .i64 (-n)] w fun e w' => e = .returned (S (decDigits n.natAbs)) ∧ Below w.heap.size w w') := fun w => by
    have := dig_nat n.natAbs w (by omega)
    rwa [show ((n.natAbs : Nat) : Int) = -n by omega] at this
  have hsa := fun (w : World) => add_min n.natAbs (by omega) w
  go_enter Tryz.func89, Tryz.ntmps89
  go_wp2_with (go_at_call 89; refine (IH.out _).mono ?_; rintro e w1 ⟨rfl, hq⟩)
  go_ret
  exact ⟨rfl, hq⟩
theorem l1Digits_any (n : Int) (w : World) (h : inB n = true) :
    Calls Tryz.prog 89 #[.int .i64 n] w fun e w' => e = .returned (S (itoa n)) ∧ Below w.heap.size w w' := by
  rw [inB_iff] at h
  by_cases hn : n < 0
  · have e : itoa n = 45 :: decDigits n.natAbs := by unfold itoa; rw [if_pos hn]
    rw [e]; exact dig_neg n w hn h.1
  · have e : itoa n = decDigits n.toNat := by unfold itoa; rw [if_neg hn]
    have := dig_nat n.toNat w (by omega)
    rw [e]
    rwa [show ((n.toNat : Nat) : Int) = n by omega] at this
end Go.Proofs.YtfdkklhigliciaaGreatDoor
/-
  strconv.FormatInt at base 10 and strconv.ParseInt at base 10 and 64 bits, at this program's numbers: the text of a number; the number of a text, or an error; nothing that was there is turned.
-/
namespace Go.Proofs.YtfdkklhigliciaaGreatDoor
open Go.Shelf

def Tryz.laysM173_ren : Go.Shelf.Ren := ⟨fun | 173 => 133 | 246 => 165 | 283 => 181 | 284 => 182 | 285 => 183 | 286 => 184 | 129 => 197 | 317 => 196 | 318 => 198 | 319 => 199 | 320 => 200 | 337 => 204 | 338 => 205 | n => n, fun | 2 => 2 | 3 => 3 | 9 => 9 | 4 => 4 | 171 => 265 | 0 => 0 | 53 => 266 | 37 => 102 | 5 => 5 | 173 => 269 | 212 => 293 | 51 => 294 | 20 => 20 | 213 => 295 | 46 => 296 | 232 => 302 | 233 => 303 | n => n, fun | 17 => 1 | 18 => 2 | 19 => 3 | n => n⟩
theorem Tryz.laysM173 : Go.Proofs.LaysM.n173 Tryz.prog Tryz.laysM173_ren := {
  mixed := by kernel_rfl
  f129 := Tryz.func197.trans (congrArg some (by kernel_rfl))
  f173 := Tryz.func133.trans (congrArg some (by kernel_rfl))
  f246 := Tryz.func165.trans (congrArg some (by kernel_rfl))
  f283 := Tryz.func181.trans (congrArg some (by kernel_rfl))
  f284 := Tryz.func182.trans (congrArg some (by kernel_rfl))
  f285 := Tryz.func183.trans (congrArg some (by kernel_rfl))
  f286 := Tryz.func184.trans (congrArg some (by kernel_rfl))
  f317 := Tryz.func196.trans (congrArg some (by kernel_rfl))
  f318 := Tryz.func198.trans (congrArg some (by kernel_rfl))
  f319 := Tryz.func199.trans (congrArg some (by kernel_rfl))
  f320 := Tryz.func200.trans (congrArg some (by kernel_rfl))
  f337 := Tryz.func204.trans (congrArg some (by kernel_rfl))
  f338 := Tryz.func205.trans (congrArg some (by kernel_rfl))
  t0 := Tryz.underlying0
  a0 := Tryz.isAgg0
  z0 := Tryz.sizeOf0
  v0 := Tryz.zeroValue0
  t2 := Tryz.underlying2
  a2 := Tryz.isAgg2
  z2 := Tryz.sizeOf2
  v2 := Tryz.zeroValue2
  t3 := Tryz.underlying3
  a3 := Tryz.isAgg3
  z3 := Tryz.sizeOf3
  v3 := Tryz.zeroValue3
  t4 := Tryz.underlying4
  a4 := Tryz.isAgg4
  z4 := Tryz.sizeOf4
  v4 := Tryz.zeroValue4
  t5 := Tryz.underlying5
  a5 := Tryz.isAgg5
  z5 := Tryz.sizeOf5
  v5 := Tryz.zeroValue5
  t9 := Tryz.underlying9
  a9 := Tryz.isAgg9
  z9 := Tryz.sizeOf9
  v9 := Tryz.zeroValue9
  t20 := Tryz.underlying20
  a20 := Tryz.isAgg20
  z20 := Tryz.sizeOf20
  v20 := Tryz.zeroValue20
  t37 := Tryz.underlying102
  a37 := Tryz.isAgg102
  z37 := Tryz.sizeOf102
  v37 := Tryz.zeroValue102
  t46 := Tryz.underlying296
  a46 := Tryz.isAgg296
  z46 := Tryz.sizeOf296
  v46 := Tryz.zeroValue296
  t51 := Tryz.underlying294
  a51 := Tryz.isAgg294
  z51 := Tryz.sizeOf294
  v51 := Tryz.zeroValue294
  t53 := Tryz.underlying266
  a53 := Tryz.isAgg266
  z53 := Tryz.sizeOf266
  v53 := Tryz.zeroValue266
  t171 := Tryz.underlying265
  a171 := Tryz.isAgg265
  z171 := Tryz.sizeOf265
  v171 := Tryz.zeroValue265
  t173 := Tryz.underlying269
  a173 := Tryz.isAgg269
  z173 := Tryz.sizeOf269
  v173 := Tryz.zeroValue269
  t212 := Tryz.underlying293
  a212 := Tryz.isAgg293
  z212 := Tryz.sizeOf293
  v212 := Tryz.zeroValue293
  t213 := Tryz.underlying295
  a213 := Tryz.isAgg295
  z213 := Tryz.sizeOf295
  t232 := Tryz.underlying302
  a232 := Tryz.isAgg302
  z232 := Tryz.sizeOf302
  v232 := Tryz.zeroValue302
  t233 := Tryz.underlying303
  a233 := Tryz.isAgg303
  z233 := Tryz.sizeOf303
  v233 := Tryz.zeroValue303
  g17 := by kernel_rfl
  g18 := by kernel_rfl
  g19 := by kernel_rfl
  i0 := by kernel_rfl
  i2 := by kernel_rfl
  i3 := by kernel_rfl
  i4 := by kernel_rfl
  i5 := by kernel_rfl
  i9 := by kernel_rfl
  i20 := by kernel_rfl
  i37 := by kernel_rfl
  i46 := by kernel_rfl
  i51 := by kernel_rfl
  i53 := by kernel_rfl
  i171 := by kernel_rfl
  i173 := by kernel_rfl
  i212 := by kernel_rfl
  i232 := by kernel_rfl
  i233 := by kernel_rfl
  m17 := by kernel_rfl
  m18 := by kernel_rfl
  m19 := by kernel_rfl }
def Tryz.laysC174_ren : Go.Shelf.Ren := ⟨fun | 174 => 203 | 247 => 207 | 245 => 208 | 287 => 209 | 279 => 210 | 280 => 211 | 281 => 212 | 282 => 213 | 321 => 214 | 322 => 215 | 316 => 113 | 171 => 217 | 205 => 216 | 243 => 218 | 246 => 165 | 283 => 181 | 284 => 182 | 285 => 183 | 286 => 184 | 129 => 197 | 317 => 196 | 318 => 198 | 319 => 199 | 320 => 200 | 337 => 204 | 338 => 205 | n => n, fun | 9 => 9 | 3 => 3 | 2 => 2 | 75 => 169 | 85 => 288 | 4 => 4 | 167 => 304 | 5 => 5 | 53 => 266 | 175 => 305 | 46 => 296 | 168 => 307 | 37 => 102 | 0 => 0 | 210 => 312 | 21 => 21 | 127 => 216 | 145 => 316 | 143 => 314 | 171 => 265 | 173 => 269 | 212 => 293 | 51 => 294 | 20 => 20 | 213 => 295 | 232 => 302 | 233 => 303 | 80 => 173 | n => n, fun | 15 => 5 | 16 => 6 | 17 => 1 | 18 => 2 | 19 => 3 | n => n⟩
theorem Tryz.laysC174 : Go.Proofs.LaysC.n174 Tryz.prog Tryz.laysC174_ren := {
  mixed := by kernel_rfl
  f129 := Tryz.func197.trans (congrArg some (by kernel_rfl))
  f171 := Tryz.func217.trans (congrArg some (by kernel_rfl))
  f174 := Tryz.func203.trans (congrArg some (by kernel_rfl))
  f205 := Tryz.func216.trans (congrArg some (by kernel_rfl))
  f243 := Tryz.func218.trans (congrArg some (by kernel_rfl))
  f245 := Tryz.func208.trans (congrArg some (by kernel_rfl))
  f246 := Tryz.func165.trans (congrArg some (by kernel_rfl))
  f247 := Tryz.func207.trans (congrArg some (by kernel_rfl))
  f279 := Tryz.func210.trans (congrArg some (by kernel_rfl))
  f280 := Tryz.func211.trans (congrArg some (by kernel_rfl))
  f281 := Tryz.func212.trans (congrArg some (by kernel_rfl))
  f282 := Tryz.func213.trans (congrArg some (by kernel_rfl))
  f283 := Tryz.func181.trans (congrArg some (by kernel_rfl))
  f284 := Tryz.func182.trans (congrArg some (by kernel_rfl))
  f285 := Tryz.func183.trans (congrArg some (by kernel_rfl))
  f286 := Tryz.func184.trans (congrArg some (by kernel_rfl))
  f287 := Tryz.func209.trans (congrArg some (by kernel_rfl))
  f316 := Tryz.func113.trans (congrArg some (by kernel_rfl))
  f317 := Tryz.func196.trans (congrArg some (by kernel_rfl))
  f318 := Tryz.func198.trans (congrArg some (by kernel_rfl))
  f319 := Tryz.func199.trans (congrArg some (by kernel_rfl))
  f320 := Tryz.func200.trans (congrArg some (by kernel_rfl))
  f321 := Tryz.func214.trans (congrArg some (by kernel_rfl))
  f322 := Tryz.func215.trans (congrArg some (by kernel_rfl))
  f337 := Tryz.func204.trans (congrArg some (by kernel_rfl))
  f338 := Tryz.func205.trans (congrArg some (by kernel_rfl))
  t0 := Tryz.underlying0
  a0 := Tryz.isAgg0
  z0 := Tryz.sizeOf0
  v0 := Tryz.zeroValue0
  t2 := Tryz.underlying2
  a2 := Tryz.isAgg2
  z2 := Tryz.sizeOf2
  v2 := Tryz.zeroValue2
  t3 := Tryz.underlying3
  a3 := Tryz.isAgg3
  z3 := Tryz.sizeOf3
  v3 := Tryz.zeroValue3
  t4 := Tryz.underlying4
  a4 := Tryz.isAgg4
  z4 := Tryz.sizeOf4
  v4 := Tryz.zeroValue4
  t5 := Tryz.underlying5
  a5 := Tryz.isAgg5
  z5 := Tryz.sizeOf5
  v5 := Tryz.zeroValue5
  t9 := Tryz.underlying9
  a9 := Tryz.isAgg9
  z9 := Tryz.sizeOf9
  v9 := Tryz.zeroValue9
  t20 := Tryz.underlying20
  a20 := Tryz.isAgg20
  z20 := Tryz.sizeOf20
  v20 := Tryz.zeroValue20
  t21 := Tryz.underlying21
  a21 := Tryz.isAgg21
  z21 := Tryz.sizeOf21
  v21 := Tryz.zeroValue21
  t37 := Tryz.underlying102
  a37 := Tryz.isAgg102
  z37 := Tryz.sizeOf102
  v37 := Tryz.zeroValue102
  t46 := Tryz.underlying296
  a46 := Tryz.isAgg296
  z46 := Tryz.sizeOf296
  v46 := Tryz.zeroValue296
  t51 := Tryz.underlying294
  a51 := Tryz.isAgg294
  z51 := Tryz.sizeOf294
  v51 := Tryz.zeroValue294
  t53 := Tryz.underlying266
  a53 := Tryz.isAgg266
  z53 := Tryz.sizeOf266
  v53 := Tryz.zeroValue266
  t75 := Tryz.underlying169
  a75 := Tryz.isAgg169
  z75 := Tryz.sizeOf169
  v75 := Tryz.zeroValue169
  t85 := Tryz.underlying288
  a85 := Tryz.isAgg288
  z85 := Tryz.sizeOf288
  v85 := Tryz.zeroValue288
  t127 := Tryz.underlying216
  a127 := Tryz.isAgg216
  z127 := Tryz.sizeOf216
  v127 := Tryz.zeroValue216
  t143 := Tryz.underlying314
  a143 := Tryz.isAgg314
  z143 := Tryz.sizeOf314
  v143 := Tryz.zeroValue314
  t145 := Tryz.underlying316
  a145 := Tryz.isAgg316
  z145 := Tryz.sizeOf316
  v145 := Tryz.zeroValue316
  t167 := Tryz.underlying304
  a167 := Tryz.isAgg304
  z167 := Tryz.sizeOf304
  v167 := Tryz.zeroValue304
  t168 := Tryz.underlying307
  a168 := Tryz.isAgg307
  z168 := Tryz.sizeOf307
  v168 := Tryz.zeroValue307
  t171 := Tryz.underlying265
  a171 := Tryz.isAgg265
  z171 := Tryz.sizeOf265
  v171 := Tryz.zeroValue265
  t173 := Tryz.underlying269
  a173 := Tryz.isAgg269
  z173 := Tryz.sizeOf269
  v173 := Tryz.zeroValue269
  t175 := Tryz.underlying305
  a175 := Tryz.isAgg305
  z175 := Tryz.sizeOf305
  v175 := Tryz.zeroValue305
  t210 := Tryz.underlying312
  a210 := Tryz.isAgg312
  z210 := Tryz.sizeOf312
  v210 := Tryz.zeroValue312
  t212 := Tryz.underlying293
  a212 := Tryz.isAgg293
  z212 := Tryz.sizeOf293
  v212 := Tryz.zeroValue293
  t213 := Tryz.underlying295
  a213 := Tryz.isAgg295
  z213 := Tryz.sizeOf295
  t232 := Tryz.underlying302
  a232 := Tryz.isAgg302
  z232 := Tryz.sizeOf302
  v232 := Tryz.zeroValue302
  t233 := Tryz.underlying303
  a233 := Tryz.isAgg303
  z233 := Tryz.sizeOf303
  v233 := Tryz.zeroValue303
  g15 := by kernel_rfl
  g16 := by kernel_rfl
  g17 := by kernel_rfl
  g18 := by kernel_rfl
  g19 := by kernel_rfl
  t80 := Tryz.underlying173
  a80 := Tryz.isAgg173
  z80 := Tryz.sizeOf173
  v80 := Tryz.zeroValue173
  i0 := by kernel_rfl
  i2 := by kernel_rfl
  i3 := by kernel_rfl
  i4 := by kernel_rfl
  i5 := by kernel_rfl
  i9 := by kernel_rfl
  i20 := by kernel_rfl
  i21 := by kernel_rfl
  i37 := by kernel_rfl
  i46 := by kernel_rfl
  i51 := by kernel_rfl
  i53 := by kernel_rfl
  i75 := by kernel_rfl
  i80 := by kernel_rfl
  i85 := by kernel_rfl
  i127 := by kernel_rfl
  i143 := by kernel_rfl
  i145 := by kernel_rfl
  i167 := by kernel_rfl
  i168 := by kernel_rfl
  i171 := by kernel_rfl
  i173 := by kernel_rfl
  i175 := by kernel_rfl
  i210 := by kernel_rfl
  i212 := by kernel_rfl
  i232 := by kernel_rfl
  i233 := by kernel_rfl
  m15 := by kernel_rfl
  m16 := by kernel_rfl
  m17 := by kernel_rfl
  m18 := by kernel_rfl
  m19 := by kernel_rfl
  c0 := by kernel_rfl
  c2 := by kernel_rfl
  c3 := by kernel_rfl
  c4 := by kernel_rfl
  c5 := by kernel_rfl
  c9 := by kernel_rfl
  c20 := by kernel_rfl
  c21 := by kernel_rfl
  c37 := by kernel_rfl
  c46 := by kernel_rfl
  c51 := by kernel_rfl
  c53 := by kernel_rfl
  c75 := by kernel_rfl
  c80 := by kernel_rfl
  c85 := by kernel_rfl
  c127 := by kernel_rfl
  c143 := by kernel_rfl
  c145 := by kernel_rfl
  c167 := by kernel_rfl
  c168 := by kernel_rfl
  c171 := by kernel_rfl
  c173 := by kernel_rfl
  c175 := by kernel_rfl
  c210 := by kernel_rfl
  c212 := by kernel_rfl
  c213 := by kernel_rfl
  c232 := by kernel_rfl
  c233 := by kernel_rfl }

open Go.RowKit Go.Sort Go.Lib in
theorem formatInt10 (n : Int) (h0 : -9223372036854775808 ≤ n) (h1 : n ≤ 9223372036854775807) (w : World) (htab : Lib.TabIs Tryz.prog w "internal/strconv.uint64pow10" .u64 Lib.pow10Tab) :
    Calls Tryz.prog 133 #[.int .i64 n, .int .i64 10] w fun e w' => e = .returned (.string ⟨(Lib.itoa n).toArray⟩) ∧ ∃ k os, w' = grow (w.drewN k) os := Any.strconv_FormatInt_10 Tryz.laysM173 n h0 h1 w htab
open Go.RowKit in
theorem parseInt10_ok (s : ByteArray) (hmax : s.size ≤ 9223372036854775806) (v : Int) (h : Lib.parseIntB 64 s.data.toList = .ok v) (w : World) :
    Calls Tryz.prog 203 #[.string s, .int .i64 10, .int .i64 64] w fun e w' => e = .returned (.tuple #[.int .i64 v, .nilIface]) ∧ (w' = w ∨ ∃ t, w' = Lib.bytesWorld w 5 t) := Any.strconv_ParseInt_10_at64_ok Tryz.laysC174 s hmax v h w
open Go.RowKit in
theorem parseInt10_no (s : ByteArray) (hlim : s.size ≤ 281474976710656) (h : Lib.parseIntB 64 s.data.toList = Lib.NumEnd.ofOption none) (ev : Value) (w : World) (hv : w.cell? ⟨5, 0, none⟩ = some ev) (hev : ev = .nilIface ∨ ∃ te pe, ev = .iface te pe) :
    Calls Tryz.prog 203 #[.string s, .int .i64 10, .int .i64 64] w fun e w' => ∃ N, e = .returned (.tuple #[.int .i64 (0), .iface 307 (.pointer (some ⟨N, 0, none⟩))]) ∧ Below w.heap.size w w' :=
  (Any.strconv_ParseInt_10_at64_syntax Tryz.laysC174 s hlim h ev w hv hev).mono fun _ _ ⟨N, he, _, _, hb⟩ => ⟨N, he, hb⟩
end Go.Proofs.YtfdkklhigliciaaGreatDoor
/-
  The program's writeNum: the text of a number within the bounds, an error beyond them; nothing that was there is turned.
-/
namespace Go.Proofs.YtfdkklhigliciaaGreatDoor
open Go.RowKit Go.Extern.Stop Go.Stop Go.Extern Num Go.Lib

/-- What the listed table holds that the text of a number reads. -/
def TB (w : World) : Prop := Lib.TabIs Tryz.prog w "internal/strconv.uint64pow10" .u64 Lib.pow10Tab
theorem TB.below {w w' : World} (h : TB w) (hb : Below w.heap.size w w') : TB w' := tabBelow_of_tabIs h w' hb
theorem TB.alloc {w : World} (h : TB w) (o : Obj) : TB (w.alloc o) := h.below ((Below.refl _ _).alloc (Nat.le_refl _) _)
theorem TB.drew {w : World} (h : TB w) : TB w.drew := h.below (Below.refl _ _).drew

/-- A TextResult as a value. -/
abbrev TR (c : Int) (l : List UInt8) : Value := .agg #[.int .i64 c, S l]

theorem fmt_in (n : Int) (w : World) (h : inB n = true) (hL : TB w) :
    Calls Tryz.prog 133 #[.int .i64 n, .int .i64 10] w fun e w' => e = .returned (S (itoa n)) ∧ Below w.heap.size w w' := by
  rw [inB_iff] at h
  refine (formatInt10 n (by omega) (by omega) w hL).mono ?_
  rintro e w' ⟨rfl, k, os, rfl⟩
  exact ⟨rfl, below_grow _ w (Nat.le_refl _) k os⟩

theorem writeNum_yes (n : Int) (w : World) (h : inB n = true) (hL : TB w) :
    Calls Tryz.prog 101 #[.int .i64 n] w fun e w' => e = .returned (.tuple #[S (itoa n), .nilIface]) ∧ Below w.heap.size w w' := by
  have HC : Hid (inB n = true) := h
  clear h
  go_enter Tryz.func101, Tryz.ntmps101
  go_wp2_with (first | (go_at_call 134; refine (check_yes _ _ _ HC.out).mono ?_; rintro e w' ⟨rfl, rfl⟩) | (go_at_call 133; refine (fmt_in _ _ HC.out hL).mono ?_; rintro e w1 ⟨rfl, hq⟩))
  go_ret2
  exact ⟨rfl, hq⟩
theorem writeNum_no (n : Int) (w : World) (h : inB n = false) :
    Calls Tryz.prog 101 #[.int .i64 n] w fun e w' => e = .returned (.tuple #[S [], NN 3]) ∧ w' = w := by
  have HC : Hid (inB n = false) := h
  clear h
  go_enter Tryz.func101, Tryz.ntmps101
  go_wp2_with (first | (go_at_call 134; refine (check_no _ _ _ HC.out).mono ?_; rintro e w' ⟨rfl, rfl⟩))
  go_ret2
  exact ⟨rfl, rfl⟩

end Go.Proofs.YtfdkklhigliciaaGreatDoor
/-
  The program's NumText, and the model's NumText: the text of a number within the bounds, the code beyond them; nothing that was there is turned.
-/
namespace Go.Proofs.YtfdkklhigliciaaGreatDoor
open Go.RowKit Go.Extern.Stop Go.Stop Go.Extern Num Go.Lib

/-- What the listed variables hold that the text of a number reads. -/
structure LT (w : World) : Prop where
  et : ET w
  tab : TB w
theorem LT.below {w w' : World} (h : LT w) (hb : Below w.heap.size w w') : LT w' :=
  ⟨h.et.below hb, h.tab.below hb⟩
theorem LT.alloc {w : World} (h : LT w) (o : Obj) : LT (w.alloc o) := h.below ((Below.refl _ _).alloc (Nat.le_refl _) _)
theorem LT.drew {w : World} (h : LT w) : LT w.drew := h.below (Below.refl _ _).drew

theorem implText_yes (n : Int) (w : World) (h : inB n = true) (hL : LT w) :
    Calls Tryz.prog 69 #[.int .i64 n] w fun e w' => e = .returned (TR 0 (itoa n)) ∧ Below w.heap.size w w' := by
  have HC : Hid (inB n = true) := h
  clear h
  go_enter Tryz.func69, Tryz.ntmps69
  go_wp2_with fail
  refine (writeNum_yes _ _ HC.out (TB.alloc hL.tab _)).mono ?_
  rintro e w1 ⟨rfl, hq⟩
  obtain ⟨hc, hf⟩ := bcell hq
  have hz : w.heap.size < w1.heap.size := by have := hq.size; simp at this; omega
  go_wp2_with fail
  refine (numCode_nil _).mono ?_
  rintro e w2 ⟨rfl, hq2⟩
  obtain ⟨hc2, hf2⟩ := bcell hq2
  go_wp2
  exact bodyPost_ret (v := TR 0 (itoa n)) (by simp [results, Tryz.results69, go_sem, hc, hc2, hz]) rfl ⟨rfl, by
    repeat (first | exact Below.refl _ _ | refine Below.setCell ?_ (by simp) _ | refine Below.trans ?_ (hq2.mono (by omega)) | refine Below.trans ?_ (hq.mono (by simp)) | refine Below.alloc ?_ (by simp <;> omega) _)⟩
theorem implText_no (n : Int) (w : World) (h : inB n = false) (hE : ET w) :
    Calls Tryz.prog 69 #[.int .i64 n] w fun e w' => e = .returned (TR 3 []) ∧ Below w.heap.size w w' := by
  have HC : Hid (inB n = false) := h
  clear h
  go_enter Tryz.func69, Tryz.ntmps69
  go_wp2_with fail
  refine (writeNum_no _ _ HC.out).mono ?_
  rintro e w1 ⟨rfl, rfl⟩
  go_wp2_with fail
  refine (numCode_hit _ _ (hE.alloc _)).mono ?_
  rintro e w2 ⟨rfl, hq2⟩
  obtain ⟨hc2, hf2⟩ := bcell hq2
  go_wp2
  exact bodyPost_ret (v := TR 3 []) (by simp [results, Tryz.results69, go_sem, hc2]) rfl ⟨rfl, by
    repeat (first | exact Below.refl _ _ | refine Below.setCell ?_ (by simp) _ | refine Below.trans ?_ (hq2.mono (by simp)) | refine Below.alloc ?_ (by simp <;> omega) _)⟩

theorem eqTR_same (c : Int) (l : List UInt8) (w : World) :
    Calls Tryz.prog 16 #[TR c l, TR c l] w fun e w' => e = .returned (.bool true) ∧ Below w.heap.size w w' := by
  go_enter Tryz.func16, Tryz.ntmps16
  go_wp2
  go_ret
  refine ⟨rfl, ?_⟩
  repeat (first | exact Below.refl _ _ | refine Below.alloc ?_ (by simp <;> omega) _ | refine Below.drew ?_)
end Go.Proofs.YtfdkklhigliciaaGreatDoor
/-
  What the longer lists give a walk: the table of powers of ten, the handle of the type error, and what strconv.ErrSyntax holds.
-/
namespace Go.Proofs.YtfdkklhigliciaaGreatDoor
open Go.ChangeShapes Go.WideShapes Go.ChangeAt Go.RowKit Go.Lib

theorem gPow : Tryz.prog.globalNamed "internal/strconv.uint64pow10" = some 1 := by kernel_rfl
theorem gPowType : (Tryz.prog.globals[1]?).map (·.type) = some 293 := by kernel_rfl
theorem cellsPow : Tryz.prog.cellsOf 293 = 20 := by kernel_rfl
theorem cellsU64 : Tryz.prog.cellsOf 266 = 1 := by kernel_rfl
theorem tab_of_laid {r : List (String × DataW Unit)} {W : World} (h : laidMet Tryz.prog (("internal/strconv.uint64pow10", Rows.laid_internal_strconv_uint64pow10) :: r) W) : TabIs Tryz.prog W "internal/strconv.uint64pow10" .u64 pow10Tab :=
  tabIs_of_head (rest := r) gPow gPowType Tryz.underlying293 Tryz.underlying266 cellsU64 cellsPow h

theorem lt_of_laid {W : World} (h : laidMetH Tryz.prog [("math/bits.deBruijn32tab", Rows.laid_math_bits_deBruijn32tab), ("math/bits.deBruijn64tab", Rows.laid_math_bits_deBruijn64tab), ("internal/strconv.uint64pow10", Rows.laid_internal_strconv_uint64pow10), ("errors.errorType", Rows.laid_errors_errorType)] W) : LT W := by
  have h' : laidMet Tryz.prog [("math/bits.deBruijn32tab", Rows.laid_math_bits_deBruijn32tab), ("math/bits.deBruijn64tab", Rows.laid_math_bits_deBruijn64tab), ("internal/strconv.uint64pow10", Rows.laid_internal_strconv_uint64pow10)] W ∧ handlesMet Tryz.prog [("errors.errorType", Rows.laid_errors_errorType)] W := h
  exact ⟨et_of_handles h'.2, tab_of_laid h'.1.tail.tail⟩
end Go.Proofs.YtfdkklhigliciaaGreatDoor
