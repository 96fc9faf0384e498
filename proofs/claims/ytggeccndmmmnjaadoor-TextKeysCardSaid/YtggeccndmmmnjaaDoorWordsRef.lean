/-
  Contracts of the document's own answers for layer 2 (ambryref02.Split, Join, Same) and of words.Join at this program. Conditions: a split line has at most 2^43 words, joined texts take at most 2^47 bytes.
-/
import Derived.Test.YtggeccndmmmnjaaDoorWordsSplit
import Derived.OwnWalk
import Derived.Laws.OwnMore
import Derived.Deep.AppendLies
namespace Go.Proofs.YtggeccndmmmnjaaDoor
open Go Go.Shelf Go.RowKit

/-- A slice of texts, read through its cells. -/
def Texts (w : World) (v : Value) (xs : List (List UInt8)) : Prop :=
  ∃ a c, v = .slice a xs.length c ∧ xs.length ≤ c ∧ ∀ j x, xs[j]? = some x → ∃ b o, a = some ⟨b, o, none⟩ ∧ b < w.heap.size ∧ w.cell? ⟨b, o + j, none⟩ = some (.string (S x))
theorem Texts.below {w w' : World} {v : Value} {xs : List (List UInt8)} (h : Texts w v xs) (hb : Below w.heap.size w w') : Texts w' v xs := by
  obtain ⟨a, c, hv, hcap, hx⟩ := h
  refine ⟨a, c, hv, hcap, fun j x hj => ?_⟩
  obtain ⟨b, o, ha, hlt, hc⟩ := hx j x hj
  exact ⟨b, o, ha, Nat.lt_of_lt_of_le hlt hb.size, (hb.cell (p := ⟨b, o + j, none⟩) hlt).trans hc⟩
theorem texts_of_row {w : World} {n₀ : Nat} {v : Value} {xs : List (List UInt8)} (h : w.ownsRow n₀ 9 1 v xs.length (cellsOf xs)) : Texts w v xs := by
  have hlt := h.lt
  have hcs := @World.ownsRow.cells _ _ _ _ _ _ _ h
  rcases h.2 with ⟨rfl, h0⟩ | ⟨g, cap, cur, rfl, hb, hg, hcap, _⟩
  · refine ⟨none, 0, by rw [h0], by omega, fun j x hj => ?_⟩
    rw [List.eq_nil_of_length_eq_zero h0] at hj; simp at hj
  · refine ⟨some ⟨g, 0, none⟩, cap, rfl, hcap, fun j x hj => ⟨g, 0, rfl, (hlt g rfl).2, ?_⟩⟩
    have := hcs rfl j (.string (S x)) (by simp [cellsOf, hj])
    rw [addr_plain] at this; exact this

end Go.Proofs.YtggeccndmmmnjaaDoor
