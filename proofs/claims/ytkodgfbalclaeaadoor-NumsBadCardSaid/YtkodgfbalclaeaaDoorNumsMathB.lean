/-
  Plain mathematics of decimal texts, second part, no program in it: numerals are ordered as their numbers are; a numeral with noughts ahead; a numeral with a byte put in. No conditions.
-/
import Derived.Test.YtkodgfbalclaeaaDoorNumsMath
import GoSem.Op.String
namespace Go.Proofs.YtkodgfbalclaeaaDoor
open Go

theorem less_snoc (x y : UInt8) : ∀ (l m : List UInt8), l.length = m.length → Op.bytesLess (l ++ [x]) (m ++ [y]) = (Op.bytesLess l m || (l == m && decide (x < y)))
  | [], [], _ => by simp [Op.bytesLess]
  | [], b :: m, h => by simp at h
  | a :: l, [], h => by simp at h
  | a :: l, b :: m, h => by
    simp only [List.cons_append, Op.bytesLess]
    rw [less_snoc x y l m (by simpa using h)]
    by_cases hab : a = b
    · subst hab; simp
    · have e : (a == b) = false := beq_eq_false_iff_ne.2 hab
      simp [e]

theorem less_self : ∀ l : List UInt8, Op.bytesLess l l = false
  | [] => rfl
  | a :: l => by simp [Op.bytesLess, less_self l]

theorem byte_lt {a b : Nat} (ha : a < 10) (hb : b < 10) : decide (UInt8.ofNat (48 + a) < UInt8.ofNat (48 + b)) = decide (a < b) := by
  have h1 := digit_toNat ha
  have h2 := digit_toNat hb
  by_cases h : a < b
  · rw [decide_eq_true h, decide_eq_true (UInt8.lt_iff_toNat_lt.2 (by omega))]
  · rw [decide_eq_false h, decide_eq_false (fun e => by have := UInt8.lt_iff_toNat_lt.1 e; omega)]

theorem nDigits_le (b : Nat) : ∀ a, a ≤ b → Lib.nDigits a ≤ Lib.nDigits b := by
  induction b using Nat.strongRecOn with
  | _ b ih =>
    intro a hab
    by_cases hb : b < 10
    · rw [Lib.nDigits_small hb, Lib.nDigits_small (by omega)]; omega
    · rw [Lib.nDigits_big hb]
      by_cases ha : a < 10
      · rw [Lib.nDigits_small ha]; omega
      · rw [Lib.nDigits_big ha]
        have := ih (b / 10) (by omega) (a / 10) (by omega)
        omega

theorem dd_less (b : Nat) : ∀ a, a < 18446744073709551616 → b < 18446744073709551616 → Lib.nDigits a = Lib.nDigits b → Op.bytesLess (Lib.decDigits a) (Lib.decDigits b) = decide (a < b) := by
  induction b using Nat.strongRecOn with
  | _ b ih =>
    intro a ha hb hn
    by_cases hb10 : b < 10
    · have ha10 : a < 10 := by
        by_cases h : a < 10
        · exact h
        · rw [Lib.nDigits_small hb10, Lib.nDigits_big h] at hn
          have := Lib.nDigits_pos (a / 10); omega
      rw [dd_small hb10, dd_small ha10]
      have e := byte_lt ha10 hb10
      simp only [Op.bytesLess, Bool.and_false, Bool.or_false]
      exact e
    · have ha10 : ¬ a < 10 := fun h => by
        rw [Lib.nDigits_small h, Lib.nDigits_big hb10] at hn
        have := Lib.nDigits_pos (b / 10); omega
      rw [Lib.nDigits_big hb10, Lib.nDigits_big ha10] at hn
      have hn' : Lib.nDigits (a / 10) = Lib.nDigits (b / 10) := by omega
      rw [dd_big ha10, dd_big hb10, dd_small (Nat.mod_lt a (by omega)), dd_small (Nat.mod_lt b (by omega)),
        less_snoc _ _ _ _ (by rw [dd_len, dd_len]; exact hn'), ih (b / 10) (by omega) (a / 10) (by omega) (by omega) hn', byte_lt (Nat.mod_lt a (by omega)) (Nat.mod_lt b (by omega))]
      by_cases h1 : a / 10 < b / 10
      · rw [decide_eq_true h1, decide_eq_true (show a < b by omega)]; rfl
      · rw [decide_eq_false h1]
        by_cases h2 : a / 10 = b / 10
        · rw [h2]
          simp only [beq_self_eq_true, Bool.true_and, Bool.false_or]
          by_cases h3 : a % 10 < b % 10
          · rw [decide_eq_true h3, decide_eq_true (show a < b by omega)]
          · rw [decide_eq_false h3, decide_eq_false (show ¬ a < b by omega)]
        · have e : (Lib.decDigits (a / 10) == Lib.decDigits (b / 10)) = false := beq_eq_false_iff_ne.2 fun e => h2 (dd_inj (by omega) (by omega) e)
          rw [e, decide_eq_false (show ¬ a < b by omega)]; rfl

/-! ### A byte put in -/

def putIn (l : List UInt8) (k : Nat) (c : UInt8) : List UInt8 := l.take k ++ (c :: l.drop k)

theorem mem_putIn (l : List UInt8) (k : Nat) (c : UInt8) : c ∈ putIn l k c := by simp [putIn]
theorem parseU_putIn (l : List UInt8) (k : Nat) (c : UInt8) (hc : ¬ (48 ≤ c.toNat ∧ c.toNat ≤ 57)) : parseU (putIn l k c) = none := parseU_bad (mem_putIn l k c) hc

theorem signedU_putIn (n : Nat) (k : Nat) (c : UInt8) (hc : ¬ (48 ≤ c.toNat ∧ c.toNat ≤ 57)) (h : ¬ (c = 45 ∧ k = 0)) : signedU (putIn (Lib.decDigits n) k c) = none := by
  refine signedU_bad (c := c) ?_ hc
  have hneg : isNeg (putIn (Lib.decDigits n) k c) = false := by
    cases k with
    | zero =>
      have e : putIn (Lib.decDigits n) 0 c = c :: Lib.decDigits n := by simp [putIn]
      rw [e]
      unfold isNeg
      rw [List.head?_cons]
      exact beq_eq_false_iff_ne.2 fun e => h ⟨Option.some.inj e, rfl⟩
    | succ k =>
      have hd := isNeg_dd n
      cases hl : Lib.decDigits n with
      | nil => exact absurd hl (dd_ne n)
      | cons d r =>
        rw [hl] at hd
        have e : putIn (d :: r) (k + 1) c = d :: putIn r k c := by simp [putIn]
        rw [e]
        unfold isNeg at hd ⊢
        rw [List.head?_cons] at hd ⊢
        exact hd
  rw [unsign, hneg]
  exact mem_putIn _ _ _

end Go.Proofs.YtkodgfbalclaeaaDoor
