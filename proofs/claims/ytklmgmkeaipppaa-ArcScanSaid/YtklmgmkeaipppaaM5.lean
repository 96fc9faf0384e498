/-
  Small plain facts for the statements of this layer: what cuts and adds make of rows of numbers, slices of numbers that came in. No conditions.
  Who was removed is not there, and the others are: the statement, walked. No conditions.
-/
import Derived.Test.YtklmgmkeaipppaaGhostHas
import Derived.Maps.AppendAt
namespace Go.Proofs.Ytklmgmkeaipppaa.Gh
open Go Go.RowKit Go.Lib

/-- A slice of numbers that came in. -/
def Nums (w : World) (a : Option Addr) (n : Nat) (zs : List Int) : Prop := zs.length = n ∧ ∀ j z, zs[j]? = some z → u64ok z ∧ ∃ b o, a = some ⟨b, o, none⟩ ∧ b < w.heap.size ∧ w.cell? ⟨b, o + j, none⟩ = some (.int .u64 z)
theorem cut_cut {a b : Nat} (h : a ≤ b) (l : List Int) : cutL a (cutL b l) = cutL a l := by
  unfold cutL
  rw [List.length_drop, List.drop_drop]
  congr 1
  omega
theorem cut_zero (l : List Int) : cutL 0 l = [] := by unfold cutL; rw [Nat.sub_zero, List.drop_length]
theorem cut_snoc {k : Nat} (hk : 1 ≤ k) (l : List Int) (z : Int) : cutL k (l ++ [z]) = cutL (k - 1) l ++ [z] := by
  unfold cutL
  rw [List.length_append, List.length_singleton, List.drop_append_of_le_length (by omega), show l.length + 1 - k = l.length - (k - 1) by omega]
theorem cut_has {k : Nat} (hk : 1 ≤ k) (l : List Int) (z : Int) : z ∈ cutL k (l ++ [z]) := by rw [cut_snoc hk]; simp
theorem add_all {m : Nat} {l : List Int} {z : Int} (h : l.length < m) : addL m l z = rmL l z ++ [z] := by
  unfold addL
  have := rm_len l z
  exact cut_all (by rw [List.length_append, List.length_singleton]; omega)
/-- A number that is folded to one that is not below 0. -/
theorem fold_neg (n : Int) : ∃ j : Nat, (n < 0 ∧ n = -(j : Int) - 1) ∨ (¬ n < 0 ∧ n = j) := by
  by_cases h : n < 0
  · exact ⟨(-(n + 1)).toNat, .inl ⟨h, by omega⟩⟩
  · exact ⟨n.toNat, .inr ⟨h, by omega⟩⟩
end Go.Proofs.Ytklmgmkeaipppaa.Gh
namespace Go.Proofs.Ytklmgmkeaipppaa.Gh
open Go Go.RowKit Go.Lib

/-- A row of numbers of the call's own, read. -/
def Cel (w : World) (g : Nat) (zs : List Int) : Prop := ∀ j z, zs[j]? = some z → w.cell? ⟨g, j, none⟩ = some (.int .u64 z)
theorem cel_of {w : World} {base g n c : Nat} {zs : List Int} (h : w.ownsRow base 29 1 (.slice (some ⟨g, 0, none⟩) n c) n (uc zs)) : Cel w g zs := by
  intro j z hj
  have hl : zs.length = n := by have := h.1; rw [uc_len] at this; omega
  have h1 := h.cellAt j (by have := (List.getElem?_eq_some_iff.1 hj).1; omega)
  rw [h1, uc_at hj]
theorem own_only {D : Nat → Prop} {w w' : World} {base : Nat} {e : TypeId} {v : Value} {n : Nat} {xs : List Value} (h : w.ownsRow base e 1 v n xs) (ho : Only D w w') (hd : ∀ b, v.ownBlock = some b → ¬ D b) : w'.ownsRow base e 1 v n xs := by
  refine ⟨h.1, ?_⟩
  rcases h.2 with hn | ⟨g, cap, cur, hv, hb, hg, rest⟩
  · exact .inl hn
  · refine .inr ⟨g, cap, cur, hv, hb, ?_, rest⟩
    rw [ho.block g (Array.getElem?_eq_some_iff.1 hg).1 (hd g (by rw [hv]; rfl))]
    exact hg
theorem own_base_le {w : World} {base : Nat} {e : TypeId} {v : Value} {n : Nat} {xs : List Value} (h : w.ownsRow base e 1 v n xs) {b : Nat} (hb : v.ownBlock = some b) : base ≤ b ∧ b < w.heap.size := by
  rcases h.2 with ⟨rfl, _⟩ | ⟨g, cap, cur, rfl, h1, hg, _⟩
  · simp [Value.ownBlock] at hb
  · obtain rfl : g = b := by simpa [Value.ownBlock] using hb
    exact ⟨h1, (Array.getElem?_eq_some_iff.1 hg).1⟩
theorem own_below {w w' : World} {base : Nat} {e : TypeId} {v : Value} {n : Nat} {xs : List Value} (h : w.ownsRow base e 1 v n xs) (hb : Below w.heap.size w w') : w'.ownsRow base e 1 v n xs := own_only h (Below.only (D := fun _ => False) hb) (fun _ _ => id)
end Go.Proofs.Ytklmgmkeaipppaa.Gh
