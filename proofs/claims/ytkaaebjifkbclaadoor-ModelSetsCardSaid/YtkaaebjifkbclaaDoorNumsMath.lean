/-
  Plain mathematics of decimal texts, no program in it: what number a row of digits says (up to 2^64 - 1), what a signed text says, and that a number's numeral says the number. No conditions.
-/
import Derived.Lib.ParseIntBCases
import Derived.Lib.ItoaNum
import Derived.Lib.ItoaLen
import Derived.Lib.Strings
namespace Go.Proofs.YtkaaebjifkbclaaDoor.Nu
open Go

/-- The number that the digits say, going on from what those ahead of them said; none at a byte that is no digit, and from 2^64 on. -/
def numFrom (acc : Nat) : List UInt8 → Option Nat
  | [] => some acc
  | c :: r => if 48 ≤ c.toNat ∧ c.toNat ≤ 57 ∧ acc * 10 + (c.toNat - 48) < 18446744073709551616 then numFrom (acc * 10 + (c.toNat - 48)) r else none

/-- 1 to 20 digits, at most 2^64 - 1. -/
def parseU (l : List UInt8) : Option Nat := if l = [] ∨ 20 < l.length then none else numFrom 0 l

def okOf : Lib.NumEnd Nat → Option Nat
  | .ok u => some u
  | _ => none

theorem okOf_M : ∀ (l : List UInt8) (acc : Nat), okOf (Lib.parseUintM 18446744073709551615 acc l) = numFrom acc l
  | [], acc => rfl
  | c :: r, acc => by
    unfold Lib.parseUintM numFrom
    by_cases hd : 48 ≤ c.toNat ∧ c.toNat ≤ 57
    · rw [if_pos hd]
      by_cases h1 : 1844674407370955162 ≤ acc
      · rw [if_pos h1, if_neg (by omega)]; rfl
      · rw [if_neg h1]
        by_cases h2 : 18446744073709551615 < acc * 10 + (c.toNat - 48)
        · rw [if_pos h2, if_neg (by omega)]; rfl
        · rw [if_neg h2, if_pos (by omega)]; exact okOf_M r _
    · rw [if_neg hd, if_neg (by omega)]; rfl

theorem okOf_B (l : List UInt8) : okOf (Lib.parseUintB 64 l) = if l = [] then none else numFrom 0 l := by
  unfold Lib.parseUintB
  by_cases h : l = []
  · rw [if_pos h, if_pos h]; rfl
  · rw [if_neg h, if_neg h]; exact okOf_M l 0

theorem parseU_long {l : List UInt8} (h : 20 < l.length) : parseU l = none := by rw [parseU, if_pos (Or.inr h)]
theorem parseU_short {l : List UInt8} (h : ¬ 20 < l.length) : parseU l = okOf (Lib.parseUintB 64 l) := by
  rw [okOf_B, parseU]
  by_cases h0 : l = []
  · rw [if_pos (Or.inl h0), if_pos h0]
  · rw [if_neg (by rintro (h1 | h1) <;> contradiction), if_neg h0]

theorem numFrom_append : ∀ (l m : List UInt8) (acc : Nat), numFrom acc (l ++ m) = (numFrom acc l).bind fun a => numFrom a m
  | [], m, acc => rfl
  | c :: r, m, acc => by
    rw [List.cons_append, numFrom, numFrom]
    split
    · exact numFrom_append r m _
    · rfl

theorem numFrom_lt : ∀ (l : List UInt8) (acc n : Nat), acc < 18446744073709551616 → numFrom acc l = some n → n < 18446744073709551616
  | [], acc, n, h, e => by rw [numFrom] at e; cases e; exact h
  | c :: r, acc, n, h, e => by
    rw [numFrom] at e
    split at e
    · rename_i hc; exact numFrom_lt r _ n hc.2.2 e
    · cases e

theorem parseU_lt {l : List UInt8} {n : Nat} (h : parseU l = some n) : n < 18446744073709551616 := by
  rw [parseU] at h
  split at h
  · cases h
  · exact numFrom_lt l 0 n (by omega) h

theorem parseU_len {l : List UInt8} {n : Nat} (h : parseU l = some n) : 1 ≤ l.length ∧ l.length ≤ 20 := by
  rw [parseU] at h
  split at h
  · cases h
  · rename_i hc
    refine ⟨?_, by omega⟩
    rcases l with _ | ⟨c, r⟩
    · exact absurd (Or.inl rfl) hc
    · simp

/-- A byte that is no digit, anywhere. -/
theorem numFrom_bad : ∀ (l : List UInt8) (acc : Nat) (c : UInt8), c ∈ l → ¬ (48 ≤ c.toNat ∧ c.toNat ≤ 57) → numFrom acc l = none
  | [], _, c, h, _ => by cases h
  | d :: r, acc, c, h, hc => by
    rw [numFrom]
    split
    · rename_i hd
      rcases List.mem_cons.1 h with rfl | h
      · exact absurd ⟨hd.1, hd.2.1⟩ hc
      · exact numFrom_bad r _ c h hc
    · rfl

theorem parseU_bad {l : List UInt8} {c : UInt8} (h : c ∈ l) (hc : ¬ (48 ≤ c.toNat ∧ c.toNat ≤ 57)) : parseU l = none := by
  rw [parseU]; split
  · rfl
  · exact numFrom_bad l 0 c h hc

/-! ### Numerals -/

theorem dd_small {n : Nat} (h : n < 10) : Lib.decDigits n = [UInt8.ofNat (48 + n)] := Lib.decDigits_one h
theorem dd_big {n : Nat} (h : ¬ n < 10) : Lib.decDigits n = Lib.decDigits (n / 10) ++ Lib.decDigits (n % 10) := by
  rw [Lib.decDigits, dif_neg h, dd_small (Nat.mod_lt n (by omega))]

theorem digit_toNat {d : Nat} (h : d < 10) : (UInt8.ofNat (48 + d)).toNat = 48 + d := by
  rw [UInt8.toNat_ofNat']; omega

theorem dd_len (n : Nat) : (Lib.decDigits n).length = Lib.nDigits n := Lib.decDigits_length n
theorem dd_len_pos (n : Nat) : 1 ≤ (Lib.decDigits n).length := by rw [dd_len]; exact Lib.nDigits_pos n
theorem dd_len_le {n : Nat} (h : n < 18446744073709551616) : (Lib.decDigits n).length ≤ 20 := by rw [dd_len]; exact Lib.nDigits_le20 n h
theorem dd_ne (n : Nat) : Lib.decDigits n ≠ [] := fun h => by have := dd_len_pos n; rw [h] at this; simp at this

theorem dd_digits (n : Nat) : ∀ c ∈ Lib.decDigits n, 48 ≤ c.toNat ∧ c.toNat ≤ 57 := by
  induction n using Nat.strongRecOn with
  | _ n ih =>
    intro c hc
    by_cases h : n < 10
    · rw [dd_small h] at hc
      rw [List.mem_singleton.1 hc, digit_toNat h]; omega
    · rw [dd_big h, List.mem_append] at hc
      rcases hc with hc | hc
      · exact ih _ (by omega) c hc
      · exact ih _ (by omega) c hc

theorem numFrom_dd (n : Nat) : n < 18446744073709551616 → numFrom 0 (Lib.decDigits n) = some n := by
  induction n using Nat.strongRecOn with
  | _ n ih =>
    intro hn
    by_cases h : n < 10
    · rw [dd_small h, numFrom, digit_toNat h, if_pos (by omega), numFrom]; congr 1; omega
    · rw [dd_big h, numFrom_append, ih (n / 10) (by omega) (by omega), dd_small (Nat.mod_lt n (by omega))]
      show numFrom (n / 10) _ = _
      rw [numFrom, digit_toNat (Nat.mod_lt n (by omega)), if_pos (by omega), numFrom]; congr 1; omega

theorem numFrom_zeros (k : Nat) (l : List UInt8) : numFrom 0 (List.replicate k 48 ++ l) = numFrom 0 l := by
  induction k with
  | zero => rfl
  | succ k ih =>
    rw [List.replicate_succ, List.cons_append, numFrom]
    have e : (48 : UInt8).toNat = 48 := rfl
    rw [e, if_pos (by omega)]
    exact ih

theorem parseU_dd {n : Nat} (h : n < 18446744073709551616) : parseU (Lib.decDigits n) = some n := by
  rw [parseU, if_neg, numFrom_dd n h]
  rintro (h1 | h1)
  · exact dd_ne n h1
  · have := dd_len_le h; omega

theorem parseU_zeros {n : Nat} (k : Nat) (h : n < 18446744073709551616) (hk : k + (Lib.decDigits n).length ≤ 20) : parseU (List.replicate k 48 ++ Lib.decDigits n) = some n := by
  rw [parseU, if_neg, numFrom_zeros, numFrom_dd n h]
  rintro (h1 | h1)
  · exact dd_ne n (List.append_eq_nil_iff.1 h1).2
  · rw [List.length_append, List.length_replicate] at h1; omega

theorem parseU_zeros_long {n : Nat} (k : Nat) (hk : 20 < k + (Lib.decDigits n).length) : parseU (List.replicate k 48 ++ Lib.decDigits n) = none :=
  parseU_long (by rw [List.length_append, List.length_replicate]; exact hk)

theorem dd_inj {a b : Nat} (ha : a < 18446744073709551616) (hb : b < 18446744073709551616) (h : Lib.decDigits a = Lib.decDigits b) : a = b := by
  have h1 := numFrom_dd a ha
  rw [h, numFrom_dd b hb] at h1
  exact (Option.some.inj h1).symm

/-! ### Signs -/

def isNeg (l : List UInt8) : Bool := l.head? == some 45
def unsign (l : List UInt8) : List UInt8 := if isNeg l then l.tail else l

/-- Perhaps '-', and 1 to 19 digits: the number, if it is from -2^63 to 2^63 - 1. -/
def signedU (l : List UInt8) : Option Int :=
  if 19 < (unsign l).length then none else
    match parseU (unsign l) with
    | none => none
    | some n => if isNeg l then (if 9223372036854775808 < n then none else some (-(n : Int))) else if 9223372036854775808 ≤ n then none else some (n : Int)

theorem signedU_bounds {l : List UInt8} {v : Int} (h : signedU l = some v) : -9223372036854775808 ≤ v ∧ v ≤ 9223372036854775807 := by
  unfold signedU at h
  split at h
  · cases h
  · split at h
    · cases h
    · rename_i n _
      split at h
      · split at h
        · cases h
        · cases h; omega
      · split at h
        · cases h
        · cases h; omega

theorem isNeg_dd (n : Nat) : isNeg (Lib.decDigits n) = false := by
  unfold isNeg
  cases hd : Lib.decDigits n with
  | nil => rfl
  | cons c r =>
    have hc := dd_digits n c (by rw [hd]; exact List.mem_cons_self)
    simp only [List.head?_cons, beq_eq_false_iff_ne, ne_eq, Option.some.injEq]
    rintro rfl
    have e : (45 : UInt8).toNat = 45 := rfl
    rw [e] at hc; omega

theorem unsign_dd (n : Nat) : unsign (Lib.decDigits n) = Lib.decDigits n := by rw [unsign, isNeg_dd]; rfl
theorem isNeg_dash (l : List UInt8) : isNeg (45 :: l) = true := rfl
theorem unsign_dash (l : List UInt8) : unsign (45 :: l) = l := rfl

theorem nDigits19 {n : Nat} (h : n < 9223372036854775808 ∨ n = 9223372036854775808) : Lib.nDigits n ≤ 19 := by
  by_cases h1 : Lib.nDigits n ≤ 19
  · exact h1
  · exfalso
    have hlow : ∀ (k m : Nat), k < Lib.nDigits m → 1 ≤ k → 10 ^ k ≤ m := by
      intro k
      induction k with
      | zero => intro m _ h; omega
      | succ k ih =>
        intro m hm _
        by_cases hs : m < 10
        · rw [Lib.nDigits_small hs] at hm; omega
        · rw [Lib.nDigits_big hs] at hm
          rw [Nat.pow_succ]
          rcases Nat.eq_zero_or_pos k with rfl | hk
          · simp; omega
          · have := ih (m / 10) (by omega) hk; omega
    have := hlow 19 n (by omega) (by omega)
    have e : (10 : Nat) ^ 19 = 10000000000000000000 := by decide
    rw [e] at this; omega

theorem signedU_dd_small {n : Nat} (h : n < 9223372036854775808) : signedU (Lib.decDigits n) = some (n : Int) := by
  have h19 : (Lib.decDigits n).length ≤ 19 := by rw [dd_len]; exact nDigits19 (Or.inl h)
  unfold signedU
  rw [unsign_dd, isNeg_dd, if_neg (by omega), parseU_dd (by omega)]
  simp only [Bool.false_eq_true, if_false]
  rw [if_neg (by omega)]

theorem signedU_dd_big {n : Nat} (hn : n < 18446744073709551616) (h : 9223372036854775808 ≤ n) : signedU (Lib.decDigits n) = none := by
  unfold signedU
  rw [unsign_dd, isNeg_dd]
  split
  · rfl
  · rw [parseU_dd hn]
    simp only [Bool.false_eq_true, if_false]
    rw [if_pos h]

theorem signedU_dash_small {n : Nat} (h : n ≤ 9223372036854775808) : signedU (45 :: Lib.decDigits n) = some (-(n : Int)) := by
  have h19 : (Lib.decDigits n).length ≤ 19 := by rw [dd_len]; exact nDigits19 (by omega)
  unfold signedU
  rw [unsign_dash, isNeg_dash, if_neg (by omega), parseU_dd (by omega)]
  simp only [if_true]
  rw [if_neg (by omega)]

theorem signedU_dash_big {n : Nat} (hn : n < 18446744073709551616) (h : 9223372036854775808 < n) : signedU (45 :: Lib.decDigits n) = none := by
  unfold signedU
  rw [unsign_dash, isNeg_dash]
  split
  · rfl
  · rw [parseU_dd hn]
    simp only [if_true]
    rw [if_pos h]

/-- A byte that is no digit anywhere, but for a dash ahead. -/
theorem signedU_bad {l : List UInt8} {c : UInt8} (h : c ∈ unsign l) (hc : ¬ (48 ≤ c.toNat ∧ c.toNat ≤ 57)) : signedU l = none := by
  unfold signedU
  split
  · rfl
  · rw [parseU_bad h hc]

theorem signedU_cases (l : List UInt8) :
    (19 < (unsign l).length ∧ signedU l = none) ∨ (¬ 19 < (unsign l).length ∧ parseU (unsign l) = none ∧ signedU l = none) ∨
    ∃ n, ¬ 19 < (unsign l).length ∧ parseU (unsign l) = some n ∧
      ((isNeg l = true ∧ 9223372036854775808 < n ∧ signedU l = none) ∨ (isNeg l = true ∧ n ≤ 9223372036854775808 ∧ signedU l = some (-(n : Int))) ∨
       (isNeg l = false ∧ 9223372036854775808 ≤ n ∧ signedU l = none) ∨ (isNeg l = false ∧ n < 9223372036854775808 ∧ signedU l = some (n : Int))) := by
  by_cases h19 : 19 < (unsign l).length
  · exact Or.inl ⟨h19, by rw [signedU, if_pos h19]⟩
  · refine Or.inr ?_
    cases hp : parseU (unsign l) with
    | none => exact Or.inl ⟨h19, rfl, by rw [signedU, if_neg h19, hp]⟩
    | some n =>
      refine Or.inr ⟨n, h19, rfl, ?_⟩
      cases hn : isNeg l
      · by_cases hb : 9223372036854775808 ≤ n
        · exact Or.inr (Or.inr (Or.inl ⟨rfl, hb, by rw [signedU, if_neg h19, hp, hn]; simp only [Bool.false_eq_true, if_false]; rw [if_pos hb]⟩))
        · exact Or.inr (Or.inr (Or.inr ⟨rfl, by omega, by rw [signedU, if_neg h19, hp, hn]; simp only [Bool.false_eq_true, if_false]; rw [if_neg hb]⟩))
      · by_cases hb : 9223372036854775808 < n
        · exact Or.inl ⟨rfl, hb, by rw [signedU, if_neg h19, hp, hn]; simp only [if_true]; rw [if_pos hb]⟩
        · exact Or.inr (Or.inl ⟨rfl, by omega, by rw [signedU, if_neg h19, hp, hn]; simp only [if_true]; rw [if_neg hb]⟩)

theorem hasPrefix_dash (l : List UInt8) : Lib.hasPrefix l [45] = isNeg l := by
  cases l with
  | nil => rfl
  | cons c r =>
    unfold Lib.hasPrefix isNeg
    simp only [List.isPrefixOf, Bool.and_true, List.head?_cons]
    by_cases h : c = 45
    · subst h; rfl
    · have h1 : (45 == c) = false := by rw [beq_eq_false_iff_ne]; exact fun e => h e.symm
      have h2 : (some c == some (45 : UInt8)) = false := by rw [beq_eq_false_iff_ne]; exact fun e => h (Option.some.inj e)
      rw [h1, h2]
theorem trimPrefix_dash (l : List UInt8) : Lib.trimPrefix l [45] = unsign l := by
  unfold Lib.trimPrefix unsign
  rw [hasPrefix_dash]
  cases l <;> rfl

end Go.Proofs.YtkaaebjifkbclaaDoor.Nu
