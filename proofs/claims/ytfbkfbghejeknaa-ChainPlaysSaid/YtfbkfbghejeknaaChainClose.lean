/-
  What the claims of layer 9 share: how slices of texts, of ints and of bools that came in are read. No conditions.
-/
import Derived.Test.YtfbkfbghejeknaaChainSame
import Derived.Test.YtfbkfbghejeknaaChainMeans
import Derived.SliceStrings
import Derived.SizedLaws
import Derived.Deep.Grids
import Derived.Handy
namespace Go.Proofs.Ytfbkfbghejeknaa
open Go Go.ChangeShapes Go.WideShapes Go.ChangeAt Go.RowKit Go.Deep

theorem own : ownKnob Try.prog.godebug = none := by kernel_rfl
theorem laidOut : laidOutB Try.prog = true := by kernel_rfl
theorem cellsText : Try.prog.cellsOf 9 = 1 := by kernel_rfl
theorem cellsInt : Try.prog.cellsOf 3 = 1 := by kernel_rfl
theorem cellsBool : Try.prog.cellsOf 4 = 1 := by kernel_rfl
theorem plain_of {w : World} {a : Addr} {v : Value} (h : w.cell? (a.add 0) = some v) : a.spot = none := by simpa [Addr.add] using World.cell?_spot h

theorem texts_given {H : Type} {enc : TypeId × Value → H} {W : World} {held : Bool} {a : Option Addr} {n c : Nat} {d : DataW H} {p : List MemPlace}
    (h : DataW.Trod enc Try.prog W 0 (fun _ => true) held 36 (.slice a n c) d p) : ∃ xs : List ByteArray, xs.length = n ∧ Strs W a n xs ∧ ∀ x ∈ xs, x.size ≤ 9223372036854775807 := by
  obtain ⟨fuel, hf⟩ := h
  rcases open_strings Try.underlying36 Try.underlying9 cellsText hf with ⟨hcs, -⟩ | ⟨a', len, cap, ss, hcs, _, hl, hm, hz, -, hcell, hsz⟩
  · simp [Value.cells] at hcs
    obtain ⟨rfl, rfl, rfl⟩ := hcs
    exact ⟨[], rfl, ⟨rfl, fun j x hj => by simp at hj⟩, fun x hx => by cases hx⟩
  · simp [Value.cells] at hcs
    obtain ⟨rfl, rfl, rfl⟩ := hcs
    simp only [if_true] at hz
    have hxl : (ss.take n).length = n := by rw [List.length_take]; omega
    refine ⟨ss.take n, hxl, ⟨hxl, fun j x hj => ?_⟩, fun x hx => hsz x (List.mem_of_mem_take hx)⟩
    rw [List.getElem?_take] at hj
    by_cases hjn : j < n
    · rw [if_pos hjn] at hj
      have hc := hcell j (by omega)
      have hsp := plain_of (hcell 0 (by omega))
      obtain ⟨b, o, sp⟩ := a'
      have hsp' : sp = none := hsp
      subst hsp'
      rw [addr_plain, List.getD, hj] at hc
      exact ⟨b, o, rfl, cell_lt hc, hc⟩
    · rw [if_neg hjn] at hj; simp at hj
theorem ints_given {H : Type} {enc : TypeId × Value → H} {W : World} {held : Bool} {a : Option Addr} {n c : Nat} {d : DataW H} {p : List MemPlace}
    (h : DataW.Trod enc Try.prog W 0 (fun _ => true) held 39 (.slice a n c) d p) : ∃ zs : List Int, zs.length = n ∧ Nums W a n zs := by
  obtain ⟨fuel, hf⟩ := h
  rcases open_ints Try.underlying39 Try.underlying3 cellsInt hf with ⟨hcs, -⟩ | ⟨a', len, cap, ss, hcs, _, hl, hm, hz, -, hcell, -⟩
  · simp [Value.cells] at hcs
    obtain ⟨rfl, rfl, rfl⟩ := hcs
    exact ⟨[], rfl, rfl, fun j x hj => by simp at hj⟩
  · simp [Value.cells] at hcs
    obtain ⟨rfl, rfl, rfl⟩ := hcs
    simp only [if_true] at hz
    have hxl : (ss.take n).length = n := by rw [List.length_take]; omega
    refine ⟨ss.take n, hxl, hxl, fun j z hj => ?_⟩
    rw [List.getElem?_take] at hj
    by_cases hjn : j < n
    · rw [if_pos hjn] at hj
      have hc := hcell j (by omega)
      have hsp := plain_of (hcell 0 (by omega))
      obtain ⟨b, o, sp⟩ := a'
      have hsp' : sp = none := hsp
      subst hsp'
      rw [addr_plain, List.getD, hj] at hc
      exact ⟨b, o, rfl, cell_lt hc, hc⟩
    · rw [if_neg hjn] at hj; simp at hj
theorem bools_given {H : Type} {enc : TypeId × Value → H} {W : World} {held : Bool} {a : Option Addr} {n c : Nat} {d : DataW H} {p : List MemPlace}
    (h : DataW.Trod enc Try.prog W 0 (fun _ => true) held 54 (.slice a n c) d p) : ∃ B : Nat → Bool, Bools W a n B := by
  obtain ⟨fuel, hf⟩ := h
  rcases open_bools Try.underlying54 Try.underlying4 cellsBool hf with ⟨hcs, -⟩ | ⟨a', len, cap, B, hcs, _, hl, hm, -, hcell⟩
  · simp [Value.cells] at hcs
    obtain ⟨rfl, rfl, rfl⟩ := hcs
    exact ⟨fun _ => false, fun j hj => by omega⟩
  · simp [Value.cells] at hcs
    obtain ⟨rfl, rfl, rfl⟩ := hcs
    refine ⟨B, fun j hj => ?_⟩
    have hc := hcell j (by omega)
    have hsp := plain_of (hcell 0 (by omega))
    obtain ⟨b, o, sp⟩ := a'
    have hsp' : sp = none := hsp
    subst hsp'
    rw [addr_plain] at hc
    exact ⟨b, o, rfl, cell_lt hc, hc⟩
end Go.Proofs.Ytfbkfbghejeknaa
