/-
  The law TextKeys for any arguments; a row of texts as a claim's arguments give it. Conditions: the package variables hold what they were laid with.
-/
import Derived.Test.YtggeccndmmmnjaaDoorTxKeysA
import Derived.Test.YtggeccndmmmnjaaDoorTxKeysB
import Derived.Test.YtggeccndmmmnjaaDoorTxClose
import Derived.SliceStrings
import Derived.SizedLaws
import Derived.Carry
namespace Go.Proofs.YtggeccndmmmnjaaDoor
open Go Go.ChangeShapes Go.WideShapes Go.ChangeAt Go.RowKit

theorem laidOut : laidOutB Tryd.prog = true := by kernel_rfl
theorem cellsText : Tryd.prog.cellsOf 9 = 1 := by kernel_rfl
theorem texts_given {H : Type} {enc : TypeId × Value → H} {W : World} {held : Bool} {a : Option Addr} {n c : Nat} {d : DataW H} {p : List MemPlace}
    (h : DataW.Trod enc Tryd.prog W 0 (fun _ => true) held 25 (.slice a n c) d p) : ∃ xs : List (List UInt8), xs.length = n ∧ Texts W (.slice a n c) xs ∧ c ≤ maxLen := by
  obtain ⟨fuel, hf⟩ := h
  rcases open_strings Tryd.underlying25 Tryd.underlying9 cellsText hf with ⟨hcs, -⟩ | ⟨a', len, cap, ss, hcs, _, hl, hm, hz, -, hcell, -⟩
  · simp [Value.cells] at hcs
    obtain ⟨rfl, rfl, rfl⟩ := hcs
    exact ⟨[], rfl, ⟨none, 0, rfl, Nat.le_refl _, fun j x hj => by simp at hj⟩, Nat.zero_le _⟩
  · simp [Value.cells] at hcs
    obtain ⟨rfl, rfl, rfl⟩ := hcs
    simp only [if_true] at hz
    have hxl : ((ss.take n).map (·.data.toList)).length = n := by rw [List.length_map, List.length_take]; omega
    refine ⟨(ss.take n).map (·.data.toList), hxl, ⟨some a', c, by rw [hxl], by omega, fun j x hj => ?_⟩, hm⟩
    rw [List.getElem?_map, List.getElem?_take] at hj
    obtain ⟨s, hs, rfl⟩ := Option.map_eq_some_iff.1 hj
    by_cases hjn : j < n
    · rw [if_pos hjn] at hs
      have hc := hcell j (by omega)
      have hsp : a'.spot = none := by simpa [Addr.add] using World.cell?_spot (hcell 0 (by omega))
      obtain ⟨b, o, sp⟩ := a'
      have hsp' : sp = none := hsp
      subst hsp'
      rw [addr_plain, List.getD, hs] at hc
      exact ⟨b, o, rfl, cell_lt hc, by rw [S_of]; exact hc⟩
    · rw [if_neg hjn] at hs; simp at hs


theorem keys_law (a : Option Addr) (n c : Nat) (xs : List (List UInt8)) (hn : xs.length = n) (tk bad : Bool) (w : World) (hT : Texts w (.slice a n c) xs) (hc : c ≤ maxLen) (hv : Nu.Vars w) :
    Calls Tryd.prog 4 #[.slice a n c, .bool tk, .bool bad] w fun e w' => e = .returned (.bool true) ∧ Below w.heap.size w w' := by
  subst hn
  have hl0 : xs.length ≤ c := by obtain ⟨_, _, e, h, _⟩ := hT; cases e; exact h
  have hl : xs.length ≤ 9223372036854775807 := by unfold maxLen at hc; omega
  cases tk
  · exact Tx.keys_a false bad rfl a c xs w hT hl hv
  · exact Tx.keys_b true bad rfl a c xs w hT hl hv
end Go.Proofs.YtggeccndmmmnjaaDoor
