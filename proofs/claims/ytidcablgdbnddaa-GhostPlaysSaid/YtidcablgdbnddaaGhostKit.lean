/-
  Small plain facts for the statements of this layer: what cuts and adds make of rows of numbers, slices of numbers that came in. No conditions.
-/
import Derived.Test.YtidcablgdbnddaaGhostShown
namespace Go.Proofs.Ytidcablgdbnddaa
open Go Go.RowKit Go.Lib

/-- A slice of numbers that came in. -/
def Nums (w : World) (a : Option Addr) (n : Nat) (zs : List Int) : Prop := zs.length = n ∧ ∀ j z, zs[j]? = some z → u64ok z ∧ ∃ b o, a = some ⟨b, o, none⟩ ∧ b < w.heap.size ∧ w.cell? ⟨b, o + j, none⟩ = some (.int .u64 z)
theorem cut_cut {a b : Nat} (h : a ≤ b) (l : List Int) : cutL a (cutL b l) = cutL a l := by
  unfold cutL
  rw [List.length_drop, List.drop_drop]
  congr 1
  omega
theorem cut_zero (l : List Int) : cutL 0 l = [] := by unfold cutL; rw [Nat.sub_zero, List.drop_length]
theorem cut_snoc {k : Nat} (hk : 1 ≤ k) (l : List Int) (z : Int) : cutL k (l ++ [z]) = cutL (k - 1) l ++ [z] := by
  unfold cutL
  rw [List.length_append, List.length_singleton, List.drop_append_of_le_length (by omega), show l.length + 1 - k = l.length - (k - 1) by omega]
theorem cut_has {k : Nat} (hk : 1 ≤ k) (l : List Int) (z : Int) : z ∈ cutL k (l ++ [z]) := by rw [cut_snoc hk]; simp
theorem add_all {m : Nat} {l : List Int} {z : Int} (h : l.length < m) : addL m l z = rmL l z ++ [z] := by
  unfold addL
  have := rm_len l z
  exact cut_all (by rw [List.length_append, List.length_singleton]; omega)
/-- A number that is folded to one that is not below 0. -/
theorem fold_neg (n : Int) : ∃ j : Nat, (n < 0 ∧ n = -(j : Int) - 1) ∨ (¬ n < 0 ∧ n = j) := by
  by_cases h : n < 0
  · exact ⟨(-(n + 1)).toNat, .inl ⟨h, by omega⟩⟩
  · exact ⟨n.toNat, .inr ⟨h, by omega⟩⟩
end Go.Proofs.Ytidcablgdbnddaa
