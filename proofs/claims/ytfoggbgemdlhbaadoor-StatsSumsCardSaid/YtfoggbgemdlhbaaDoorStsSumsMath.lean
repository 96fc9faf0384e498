/-
  Plain mathematics for StatsSums (S1): what is counted beside how many commands of each Op there were; a line's words. No conditions.
-/
import Derived.Test.YtfoggbgemdlhbaaDoorStsMath
import Derived.Test.YtfoggbgemdlhbaaDoorWordsMath
namespace Go.Proofs.YtfoggbgemdlhbaaDoor.Sc
open Go

/-- Behind k commands: m of each Op that counted. -/
structure Inv (f m : Nat → Nat) (k : Nat) : Prop where
  g : f 0 = m 1
  gh : f 4 + f 5 = m 1
  s : f 1 = m 2
  c : f 12 + f 13 + f 14 ≤ m 2
  d : f 6 + f 7 ≤ m 5
  t : f 2 = m 4
  th : f 15 + f 16 ≤ m 4
  fl : f 3 = m 6
  ev : f 17 = 0
  all : ∀ i, m i ≤ k
theorem inv0 : Inv none0 none0 0 := ⟨rfl, rfl, rfl, by decide, by decide, rfl, by decide, rfl, rfl, fun _ => Nat.le_refl _⟩
theorem Inv.mono {f m : Nat → Nat} {k : Nat} (h : Inv f m k) : Inv f m (k + 1) := ⟨h.g, h.gh, h.s, h.c, h.d, h.t, h.th, h.fl, h.ev, fun i => Nat.le_succ_of_le (h.all i)⟩
theorem inc_at {f : Nat → Nat} {j : Nat} (h : f j < 1000) (i : Nat) : inc f j i = if i = j then f j + 1 else f i := by
  unfold inc up
  rw [Nat.mod_eq_of_lt (by omega)]
def upm (m : Nat → Nat) (q : Nat) : Nat → Nat := up m q (m q + 1)
theorem Inv.step {f m : Nat → Nat} {k : Nat} (h : Inv f m k) (hk : k < 200) (q : Nat) (st : Int) (hc dn : Bool) : Inv (opC f q st hc dn) (upm m q) (k + 1) := by
  have h1 := h.all 1; have h2 := h.all 2; have h4 := h.all 4; have h5 := h.all 5; have h6 := h.all 6; have hq := h.all q
  have a0 := h.g; have a1 := h.gh; have a2 := h.s; have a3 := h.c; have a4 := h.d; have a5 := h.t; have a6 := h.th; have a7 := h.fl; have a8 := h.ev
  have hall : ∀ i, upm m q i ≤ k + 1 := fun i => by unfold upm up; have := h.all i; split <;> omega
  have b0 : f 0 < 1000 := by omega
  have b1 : f 1 < 1000 := by omega
  have b2 : f 2 < 1000 := by omega
  have b3 : f 3 < 1000 := by omega
  have b4 : f 4 < 1000 := by omega
  have b5 : f 5 < 1000 := by omega
  have b6 : f 6 < 1000 := by omega
  have b7 : f 7 < 1000 := by omega
  have b12 : f 12 < 1000 := by omega
  have b13 : f 13 < 1000 := by omega
  have b14 : f 14 < 1000 := by omega
  have b15 : f 15 < 1000 := by omega
  have b16 : f 16 < 1000 := by omega
  unfold opC
  by_cases e1 : (q : Int) = 1
  · obtain rfl : q = 1 := by omega
    rw [if_pos e1]
    unfold getC
    split
    · have e := inc_at b0
      have e4 := inc_at (f := inc f 0) (j := 4) (by rw [e]; simp; omega)
      refine ⟨?_, ?_, ?_, ?_, ?_, ?_, ?_, ?_, ?_, hall⟩ <;> (try simp only [e4, e, upm, up]) <;> (try simp) <;> omega
    · have e := inc_at b0
      have e4 := inc_at (f := inc f 0) (j := 5) (by rw [e]; simp; omega)
      refine ⟨?_, ?_, ?_, ?_, ?_, ?_, ?_, ?_, ?_, hall⟩ <;> (try simp only [e4, e, upm, up]) <;> (try simp) <;> omega
  rw [if_neg e1]
  by_cases e2 : (q : Int) = 2
  · obtain rfl : q = 2 := by omega
    rw [if_pos e2]
    have e := inc_at b1
    unfold stoC
    split
    · unfold bad tri
      by_cases s2 : st = 2
      · subst s2
        have e3 := inc_at (f := inc f 1) (j := 12) (by rw [e]; simp; omega)
        rw [if_neg (by decide), if_pos rfl]
        refine ⟨?_, ?_, ?_, ?_, ?_, ?_, ?_, ?_, ?_, hall⟩ <;> (try simp only [e3, e, upm, up]) <;> (try simp) <;> omega
      · by_cases s5 : st = 5
        · subst s5
          have e3 := inc_at (f := inc f 1) (j := 14) (by rw [e]; simp; omega)
          rw [if_neg (by decide), if_neg (by decide), if_pos rfl]
          refine ⟨?_, ?_, ?_, ?_, ?_, ?_, ?_, ?_, ?_, hall⟩ <;> (try simp only [e3, e, upm, up]) <;> (try simp) <;> omega
        · rw [if_neg s2, if_neg s5]
          split
          · have e3 := inc_at (f := inc f 1) (j := 13) (by rw [e]; simp; omega)
            refine ⟨?_, ?_, ?_, ?_, ?_, ?_, ?_, ?_, ?_, hall⟩ <;> (try simp only [e3, e, upm, up]) <;> (try simp) <;> omega
          · refine ⟨?_, ?_, ?_, ?_, ?_, ?_, ?_, ?_, ?_, hall⟩ <;> (try simp only [e, upm, up]) <;> (try simp) <;> omega
    · refine ⟨?_, ?_, ?_, ?_, ?_, ?_, ?_, ?_, ?_, hall⟩ <;> (try simp only [e, upm, up]) <;> (try simp) <;> omega
  rw [if_neg e2]
  by_cases e3 : (q : Int) = 3
  · obtain rfl : q = 3 := by omega
    rw [if_pos e3]
    unfold matC tri inc
    split <;> split <;> (try split) <;> refine ⟨?_, ?_, ?_, ?_, ?_, ?_, ?_, ?_, ?_, hall⟩ <;> (try simp only [upm, up]) <;> (try simp) <;> omega
  rw [if_neg e3]
  by_cases e4 : (q : Int) = 4
  · obtain rfl : q = 4 := by omega
    rw [if_pos e4]
    have e := inc_at b2
    unfold tri
    split
    · have e3 := inc_at (f := inc f 2) (j := 15) (by rw [e]; simp; omega)
      refine ⟨?_, ?_, ?_, ?_, ?_, ?_, ?_, ?_, ?_, hall⟩ <;> (try simp only [e3, e, upm, up]) <;> (try simp) <;> omega
    · split
      · have e3 := inc_at (f := inc f 2) (j := 16) (by rw [e]; simp; omega)
        refine ⟨?_, ?_, ?_, ?_, ?_, ?_, ?_, ?_, ?_, hall⟩ <;> (try simp only [e3, e, upm, up]) <;> (try simp) <;> omega
      · refine ⟨?_, ?_, ?_, ?_, ?_, ?_, ?_, ?_, ?_, hall⟩ <;> (try simp only [e, upm, up]) <;> (try simp) <;> omega
  rw [if_neg e4]
  by_cases e5 : (q : Int) = 5
  · obtain rfl : q = 5 := by omega
    rw [if_pos e5]
    unfold tri
    split
    · have e := inc_at b6
      refine ⟨?_, ?_, ?_, ?_, ?_, ?_, ?_, ?_, ?_, hall⟩ <;> (try simp only [e, upm, up]) <;> (try simp) <;> omega
    · split
      · have e := inc_at b7
        refine ⟨?_, ?_, ?_, ?_, ?_, ?_, ?_, ?_, ?_, hall⟩ <;> (try simp only [e, upm, up]) <;> (try simp) <;> omega
      · refine ⟨?_, ?_, ?_, ?_, ?_, ?_, ?_, ?_, ?_, hall⟩ <;> (try simp only [upm, up]) <;> (try simp) <;> omega
  rw [if_neg e5]
  by_cases e6 : (q : Int) = 6
  · obtain rfl : q = 6 := by omega
    rw [if_pos e6]
    have e := inc_at b3
    refine ⟨?_, ?_, ?_, ?_, ?_, ?_, ?_, ?_, ?_, hall⟩ <;> (try simp only [e, upm, up]) <;> (try simp) <;> omega
  rw [if_neg e6]
  have n1 : ¬ 1 = q := by omega
  have n2 : ¬ 2 = q := by omega
  have n4 : ¬ 4 = q := by omega
  have n5 : ¬ 5 = q := by omega
  have n6 : ¬ 6 = q := by omega
  refine ⟨?_, ?_, ?_, ?_, ?_, ?_, ?_, ?_, ?_, hall⟩ <;> (try simp only [upm, up, n1, n2, n4, n5, n6, if_false]) <;> omega
theorem Inv.other {f m : Nat → Nat} {k : Nat} (h : Inv f m k) (op st : Int) (hc dn : Bool) (ho : op < 0 ∨ 7 < op) : Inv (opC f op st hc dn) m (k + 1) := by
  unfold opC
  rw [if_neg (by omega), if_neg (by omega), if_neg (by omega), if_neg (by omega), if_neg (by omega), if_neg (by omega)]
  exact h.mono

/-- A line's words. -/
theorem split_ln {x : List UInt8} (h0 : x ≠ []) (hx : 32 ∉ x) (n : Nat) : splitS (ln x n) = [[83, 84, 65, 84], x, Lib.decDigits n] := by
  have e : ln x n = [83, 84, 65, 84] ++ 32 :: (x ++ 32 :: Lib.decDigits n) := by unfold ln; simp
  rw [e, splitS_word (by decide) (by decide), splitS_word h0 hx, splitS_one (Nu.dd_ne n) (fun hm => by have := (Nu.dd_digits n _ hm).1; revert this; decide)]
theorem nm_key {i : Nat} (h : i < 18) : ∃ x, nm[i]? = some x ∧ x ≠ [] ∧ 32 ∉ x ∧ x.length ≤ 100 := by
  have e : i = 0 ∨ i = 1 ∨ i = 2 ∨ i = 3 ∨ i = 4 ∨ i = 5 ∨ i = 6 ∨ i = 7 ∨ i = 8 ∨ i = 9 ∨ i = 10 ∨ i = 11 ∨ i = 12 ∨ i = 13 ∨ i = 14 ∨ i = 15 ∨ i = 16 ∨ i = 17 := by omega
  rcases e with rfl | rfl | rfl | rfl | rfl | rfl | rfl | rfl | rfl | rfl | rfl | rfl | rfl | rfl | rfl | rfl | rfl | rfl <;> exact ⟨_, rfl, by decide, by decide, by decide⟩
end Go.Proofs.YtfoggbgemdlhbaaDoor.Sc
