/-
  Plain mathematics of numbers that come in steps of three. No program in it. No conditions.
-/
import Derived.Test.YtidcablgdbnddaaGhostKit
namespace Go.Proofs.Ytidcablgdbnddaa
open Go

/-- The number that comes i-th. -/
def nth (x : Int) (i : Nat) : Int := (x + (i : Int) * 3) % 18446744073709551616
def nths (x : Int) (n : Nat) : List Int := (List.range n).map (nth x)
theorem nth_ok (x : Int) (i : Nat) : u64ok (nth x i) := by unfold nth u64ok; omega
theorem sub_three (x a b : Int) : x + a * 3 - (x + b * 3) = 3 * (a - b) := by omega
theorem three_zero {d : Int} (h1 : -200 < d) (h2 : d < 200) (h : 3 * d % 18446744073709551616 = 0) : d = 0 := by omega
theorem nth_inj {x : Int} {i j : Nat} (hi : i < 200) (hj : j < 200) (h : nth x i = nth x j) : i = j := by
  have h1 : 3 * ((i : Int) - (j : Int)) % 18446744073709551616 = 0 := by
    rw [← sub_three x]
    exact Int.emod_eq_emod_iff_emod_sub_eq_zero.1 h
  clear h
  have h2 := three_zero (by clear h1; omega) (by clear h1; omega) h1
  clear h1
  omega
theorem nths_len (x : Int) (n : Nat) : (nths x n).length = n := by simp [nths]
theorem nths_succ (x : Int) (n : Nat) : nths x (n + 1) = nths x n ++ [nth x n] := by unfold nths; rw [List.range_succ, List.map_append, List.map_singleton]
theorem nths_new {x : Int} {i : Nat} (hi : i < 200) : nth x i ∉ nths x i := by
  intro h
  obtain ⟨j, hj, e⟩ := List.mem_map.1 h
  have h1 := List.mem_range.1 hj
  have := nth_inj (by omega) hi e
  omega
theorem cut_mem {m : Nat} {l : List Int} {z : Int} (h : z ∈ cutL m l) : z ∈ l := (List.drop_sublist _ _).mem h
theorem cut_add (m : Nat) (l : List Int) (z : Int) : cutL m (cutL m l ++ [z]) = cutL m (l ++ [z]) := by
  by_cases h : m = 0
  · subst h; rw [cut_zero, cut_zero]
  · rw [cut_snoc (by omega), cut_snoc (by omega), cut_cut (by omega)]
theorem add_next {m : Nat} {x : Int} {i : Nat} (hi : i < 200) : addL m (cutL m (nths x i)) (nth x i) = cutL m (nths x (i + 1)) := by
  unfold addL
  rw [rm_no (fun h => nths_new hi (cut_mem h)), cut_add, nths_succ]
theorem cut_nths (m : Nat) (x : Int) (n : Nat) : cutL m (nths x n) = ((List.range n).drop (n - m)).map (nth x) := by
  unfold cutL
  rw [nths_len]
  unfold nths
  rw [List.map_drop]
theorem cut_nths_at {m : Nat} {x : Int} {n i : Nat} (h1 : n - m ≤ i) (h2 : i < n) : (cutL m (nths x n))[i - (n - m)]? = some (nth x i) := by
  rw [cut_nths, List.getElem?_map, List.getElem?_drop, show n - m + (i - (n - m)) = i by omega, List.getElem?_range h2, Option.map_some]
theorem cut_nths_mem {m : Nat} {x : Int} {n i : Nat} (hn : n ≤ 200) (h2 : i < n) : nth x i ∈ cutL m (nths x n) ↔ n - m ≤ i := by
  constructor
  · intro h
    rw [cut_nths] at h
    obtain ⟨j, hj, e⟩ := List.mem_map.1 h
    obtain ⟨q, hq, e2⟩ := List.mem_iff_getElem.1 hj
    rw [List.getElem_drop, List.getElem_range] at e2
    rw [List.length_drop, List.length_range] at hq
    have := nth_inj (by omega) (by omega) e
    omega
  · intro h
    exact List.mem_of_getElem? (cut_nths_at h h2)
theorem nths_zero (x : Int) : nths x 0 = [] := by simp [nths]
theorem cut_nil (m : Nat) : cutL m [] = [] := by simp [cutL]
theorem nth_wrap (x i : Nat) : ∃ z, z = nth x i ∧ IntKind.u64.wrap ((x : Int) + (i : Int) * 3) = z := ⟨_, rfl, by unfold nth; rw [IntKind.wrap_u64]⟩
end Go.Proofs.Ytidcablgdbnddaa
