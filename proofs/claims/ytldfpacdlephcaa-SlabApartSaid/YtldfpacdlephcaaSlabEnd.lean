/-
  What the claims of layer 7 share: how slices of ints that came in are read. No conditions.
-/
import Derived.Test.YtldfpacdlephcaaSlabShown
import Derived.SliceStrings
import Derived.SizedLaws
import Derived.Handy
namespace Go.Proofs.Ytldfpacdlephcaa
open Go Go.ChangeShapes Go.WideShapes Go.ChangeAt Go.RowKit

theorem own : ownKnob Try.prog.godebug = none := by kernel_rfl
theorem laidOut : laidOutB Try.prog = true := by kernel_rfl
theorem cellsInt : Try.prog.cellsOf 3 = 1 := by kernel_rfl

theorem ints_given {H : Type} {enc : TypeId × Value → H} {W : World} {held : Bool} {a : Option Addr} {n c : Nat} {d : DataW H} {p : List MemPlace}
    (h : DataW.Trod enc Try.prog W 0 (fun _ => true) held 22 (.slice a n c) d p) : ∃ zs : List Int, zs.length = n ∧ Sz.Ints W (.slice a n c) zs ∧ n ≤ 9223372036854775807 ∧ ∀ z ∈ zs, -9223372036854775808 ≤ z ∧ z ≤ 9223372036854775807 := by
  obtain ⟨fuel, hf⟩ := h
  rcases open_ints Try.underlying22 Try.underlying3 cellsInt hf with ⟨hcs, -⟩ | ⟨a', len, cap, ss, hcs, _, hl, hm, hz, -, hcell, hwf⟩
  · simp [Value.cells] at hcs
    obtain ⟨rfl, rfl, rfl⟩ := hcs
    exact ⟨[], rfl, ⟨none, 0, rfl, fun j x hj => by simp at hj⟩, Nat.zero_le _, fun z hz => by cases hz⟩
  · simp [Value.cells] at hcs
    obtain ⟨rfl, rfl, rfl⟩ := hcs
    simp only [if_true] at hz
    have hxl : (ss.take n).length = n := by rw [List.length_take]; omega
    refine ⟨ss.take n, hxl, ⟨some a', c, by rw [hxl], fun j z hj => ?_⟩, by unfold maxLen at hm; omega, fun z hz => ?_⟩
    · rw [List.getElem?_take] at hj
      by_cases hjn : j < n
      · rw [if_pos hjn] at hj
        have hc := hcell j (by omega)
        have hsp : a'.spot = none := by simpa [Addr.add] using World.cell?_spot (hcell 0 (by omega))
        obtain ⟨b, o, sp⟩ := a'
        have hsp' : sp = none := hsp
        subst hsp'
        rw [addr_plain, List.getD, hj] at hc
        exact ⟨b, o, rfl, cell_lt hc, hc⟩
      · rw [if_neg hjn] at hj; simp at hj
    · have := hwf z (List.mem_of_mem_take hz)
      simpa [Lit.wf, IntKind.min, IntKind.max, IntKind.signed, IntKind.bits] using this
end Go.Proofs.Ytldfpacdlephcaa
