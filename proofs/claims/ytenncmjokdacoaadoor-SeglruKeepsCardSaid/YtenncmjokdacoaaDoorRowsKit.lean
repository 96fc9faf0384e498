/-
  Small plain facts for the statements of this layer: masks, ends of rows behind a call, slices of ints that came in. No conditions.
-/
import Derived.Test.YtenncmjokdacoaaDoorRowsHas
namespace Go.Proofs.YtenncmjokdacoaaDoor
open Go Go.RowKit Go.Lib

/-- A slice of ints that came in. -/
def Nums (w : World) (a : Option Addr) (n : Nat) (zs : List Int) : Prop := zs.length = n ∧ ∀ j z, zs[j]? = some z → ∃ b o, a = some ⟨b, o, none⟩ ∧ b < w.heap.size ∧ w.cell? ⟨b, o + j, none⟩ = some (.int .i64 z)
theorem i64_and1 (n : Int) : bits .and .i64 n 1 = n % 2 := by
  have hm : (BitVec.ofInt 64 1).toNat = 2 ^ 1 - 1 := by decide
  have key : (BitVec.ofInt 64 n &&& BitVec.ofInt 64 1).toNat = (n % ((2 ^ 64 : Nat) : Int)).toNat % 2 ^ 1 := by
    rw [BitVec.toNat_and, BitVec.toNat_ofInt, hm, Nat.and_two_pow_sub_one_eq_mod]
  show IntKind.i64.wrap ((BitVec.ofInt 64 n &&& BitVec.ofInt 64 1).toNat : Nat) = n % 2
  rw [key, IntKind.wrap_i64]
  omega
theorem i64_and7 (n : Int) : bits .and .i64 n 7 = n % 8 := by
  have hm : (BitVec.ofInt 64 7).toNat = 2 ^ 3 - 1 := by decide
  have key : (BitVec.ofInt 64 n &&& BitVec.ofInt 64 7).toNat = (n % ((2 ^ 64 : Nat) : Int)).toNat % 2 ^ 3 := by
    rw [BitVec.toNat_and, BitVec.toNat_ofInt, hm, Nat.and_two_pow_sub_one_eq_mod]
  show IntKind.i64.wrap ((BitVec.ofInt 64 n &&& BitVec.ofInt 64 7).toNat : Nat) = n % 8
  rw [key, IntKind.wrap_i64]
  omega
theorem i64_and31 (n : Int) : bits .and .i64 n 31 = n % 32 := by
  have hm : (BitVec.ofInt 64 31).toNat = 2 ^ 5 - 1 := by decide
  have key : (BitVec.ofInt 64 n &&& BitVec.ofInt 64 31).toNat = (n % ((2 ^ 64 : Nat) : Int)).toNat % 2 ^ 5 := by
    rw [BitVec.toNat_and, BitVec.toNat_ofInt, hm, Nat.and_two_pow_sub_one_eq_mod]
  show IntKind.i64.wrap ((BitVec.ofInt 64 n &&& BitVec.ofInt 64 31).toNat : Nat) = n % 32
  rw [key, IntKind.wrap_i64]
  omega
theorem i64_and1023 (n : Int) : bits .and .i64 n 1023 = n % 1024 := by
  have hm : (BitVec.ofInt 64 1023).toNat = 2 ^ 10 - 1 := by decide
  have key : (BitVec.ofInt 64 n &&& BitVec.ofInt 64 1023).toNat = (n % ((2 ^ 64 : Nat) : Int)).toNat % 2 ^ 10 := by
    rw [BitVec.toNat_and, BitVec.toNat_ofInt, hm, Nat.and_two_pow_sub_one_eq_mod]
  show IntKind.i64.wrap ((BitVec.ofInt 64 n &&& BitVec.ofInt 64 1023).toNat : Nat) = n % 1024
  rw [key, IntKind.wrap_i64]
  omega
theorem i64_and65535 (n : Int) : bits .and .i64 n 65535 = n % 65536 := by
  have hm : (BitVec.ofInt 64 65535).toNat = 2 ^ 16 - 1 := by decide
  have key : (BitVec.ofInt 64 n &&& BitVec.ofInt 64 65535).toNat = (n % ((2 ^ 64 : Nat) : Int)).toNat % 2 ^ 16 := by
    rw [BitVec.toNat_and, BitVec.toNat_ofInt, hm, Nat.and_two_pow_sub_one_eq_mod]
  show IntKind.i64.wrap ((BitVec.ofInt 64 n &&& BitVec.ofInt 64 65535).toNat : Nat) = n % 65536
  rw [key, IntKind.wrap_i64]
  omega
theorem frontL_len (L : List (List Int)) (i : Nat) (z : Int) : (frontL L i z).length = L.length := by unfold frontL; rw [List.length_set, takeL_len]
theorem backL_len (L : List (List Int)) (i : Nat) (z : Int) : (backL L i z).length = L.length := by unfold backL; rw [List.length_set, takeL_len]
theorem opFront_len (L : List (List Int)) (r z : Int) : (opFront L r z).length = L.length := by
  unfold opFront
  split
  · exact frontL_len ..
  · rfl
theorem opBack_len (L : List (List Int)) (r z : Int) : (opBack L r z).length = L.length := by
  unfold opBack
  split
  · exact backL_len ..
  · rfl
theorem opFront_no {L : List (List Int)} {r z : Int} (h : ¬ May L.length r z) : opFront L r z = L := if_neg h
theorem opBack_no {L : List (List Int)} {r z : Int} (h : ¬ May L.length r z) : opBack L r z = L := if_neg h
theorem opFront_yes {L : List (List Int)} {r z : Int} (h : May L.length r z) : opFront L r z = frontL L r.toNat z := if_pos h
theorem opBack_yes {L : List (List Int)} {r z : Int} (h : May L.length r z) : opBack L r z = backL L r.toNat z := if_pos h
theorem frontL_row {L : List (List Int)} {i : Nat} (hi : i < L.length) (z : Int) : (frontL L i z)[i]? = some (z :: (takeL L z)[i]?.getD []) := by
  unfold frontL; rw [List.getElem?_set_self (by rw [takeL_len]; exact hi)]
theorem backL_row {L : List (List Int)} {i : Nat} (hi : i < L.length) (z : Int) : (backL L i z)[i]? = some ((takeL L z)[i]?.getD [] ++ [z]) := by
  unfold backL; rw [List.getElem?_set_self (by rw [takeL_len]; exact hi)]
theorem rowAt_of {L : List (List Int)} {r : Int} (h : 0 ≤ r) {l : List Int} (hl : L[r.toNat]? = some l) : rowAt L r = l := by unfold rowAt; rw [if_pos h, hl]; rfl
theorem first_front {L : List (List Int)} {r z : Int} (h : May L.length r z) : firstOf (rowAt (opFront L r z) r) = z := by
  have h1 := h.1
  have h2 := h.2.1
  rw [opFront_yes h, rowAt_of h1 (frontL_row (by omega) z)]; rfl
theorem last_back {L : List (List Int)} {r z : Int} (h : May L.length r z) : lastOf (rowAt (opBack L r z) r) = z := by
  have h1 := h.1
  have h2 := h.2.1
  rw [opBack_yes h, rowAt_of h1 (backL_row (by omega) z)]; unfold lastOf; simp
/-- A number that is folded to one that is not below 0. -/
theorem fold_neg (n : Int) : ∃ j : Nat, (n < 0 ∧ n = -(j : Int) - 1) ∨ (¬ n < 0 ∧ n = j) := by
  by_cases h : n < 0
  · exact ⟨(-(n + 1)).toNat, .inl ⟨h, by omega⟩⟩
  · exact ⟨n.toNat, .inr ⟨h, by omega⟩⟩
theorem nodup_at {l : List Int} (h : l.Nodup) {i j : Nat} {z : Int} (hi : l[i]? = some z) (hj : l[j]? = some z) : i = j := by
  obtain ⟨h2, h3⟩ := List.getElem?_eq_some_iff.1 hi
  obtain ⟨h4, h5⟩ := List.getElem?_eq_some_iff.1 hj
  have hp := List.pairwise_iff_getElem.1 h
  rcases Nat.lt_trichotomy i j with e | e | e
  · exact absurd (h3.trans h5.symm) (hp i j h2 h4 e)
  · exact e
  · exact absurd (h5.trans h3.symm) (hp j i h4 h2 e)
theorem drewn_below {B : Nat} {w w' : World} (h : Below B w w') (n : Nat) : Below B w (w'.drewN n) := ⟨h.os, h.tape, h.output, h.size, h.block⟩
end Go.Proofs.YtenncmjokdacoaaDoor
