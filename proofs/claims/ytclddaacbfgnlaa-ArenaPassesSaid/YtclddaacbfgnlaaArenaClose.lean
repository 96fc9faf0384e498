/-
  What the claims of layer 6 share: how slices of ints and of bytes that came in are read. No conditions.
-/
import Derived.Test.YtclddaacbfgnlaaArenaGrantsB
import Derived.Test.YtclddaacbfgnlaaArenaPasses
import Derived.SliceStrings
import Derived.SizedLaws
import Derived.Handy
namespace Go.Proofs.Ytclddaacbfgnlaa
open Go Go.ChangeShapes Go.WideShapes Go.ChangeAt Go.RowKit

theorem own : ownKnob Try.prog.godebug = none := by kernel_rfl
theorem laidOut : laidOutB Try.prog = true := by kernel_rfl
theorem cellsInt : Try.prog.cellsOf 3 = 1 := by kernel_rfl
theorem cellsByte : Try.prog.cellsOf 5 = 1 := by kernel_rfl

theorem ints_given {H : Type} {enc : TypeId × Value → H} {W : World} {held : Bool} {a : Option Addr} {n c : Nat} {d : DataW H} {p : List MemPlace}
    (h : DataW.Trod enc Try.prog W 0 (fun _ => true) held 36 (.slice a n c) d p) : ∃ zs : List Int, zs.length = n ∧ Ints W (.slice a n c) zs ∧ n ≤ 9223372036854775807 ∧ ∀ z ∈ zs, -9223372036854775808 ≤ z ∧ z ≤ 9223372036854775807 := by
  obtain ⟨fuel, hf⟩ := h
  rcases open_ints Try.underlying36 Try.underlying3 cellsInt hf with ⟨hcs, -⟩ | ⟨a', len, cap, ss, hcs, _, hl, hm, hz, -, hcell, hwf⟩
  · simp [Value.cells] at hcs
    obtain ⟨rfl, rfl, rfl⟩ := hcs
    exact ⟨[], rfl, ⟨none, 0, rfl, fun j x hj => by simp at hj⟩, Nat.zero_le _, fun z hz => by cases hz⟩
  · simp [Value.cells] at hcs
    obtain ⟨rfl, rfl, rfl⟩ := hcs
    simp only [if_true] at hz
    have hxl : (ss.take n).length = n := by rw [List.length_take]; omega
    refine ⟨ss.take n, hxl, ⟨some a', c, by rw [hxl], fun j z hj => ?_⟩, by unfold maxLen at hm; omega, fun z hz => ?_⟩
    · rw [List.getElem?_take] at hj
      by_cases hjn : j < n
      · rw [if_pos hjn] at hj
        have hc := hcell j (by omega)
        have hsp : a'.spot = none := by simpa [Addr.add] using World.cell?_spot (hcell 0 (by omega))
        obtain ⟨b, o, sp⟩ := a'
        have hsp' : sp = none := hsp
        subst hsp'
        rw [addr_plain, List.getD, hj] at hc
        exact ⟨b, o, rfl, cell_lt hc, hc⟩
      · rw [if_neg hjn] at hj; simp at hj
    · have := hwf z (List.mem_of_mem_take hz)
      simpa [Lit.wf, IntKind.min, IntKind.max, IntKind.signed, IntKind.bits] using this

theorem bytes_given {H : Type} {enc : TypeId × Value → H} {W : World} {held : Bool} {a : Option Addr} {n c : Nat} {d : DataW H} {p : List MemPlace}
    (h : DataW.Trod enc Try.prog W 0 (fun _ => true) held 32 (.slice a n c) d p) : ∃ l : List UInt8, l.length = n ∧ Byts W (.slice a n c) l ∧ n ≤ c ∧ c ≤ 9223372036854775807 := by
  obtain ⟨fuel, hf⟩ := h
  rcases open_ints Try.underlying32 Try.underlying5 cellsByte hf with ⟨hcs, -⟩ | ⟨a', len, cap, ss, hcs, _, hl, hm, hz, -, hcell, hwf⟩
  · simp [Value.cells] at hcs
    obtain ⟨rfl, rfl, rfl⟩ := hcs
    exact ⟨[], rfl, ⟨none, 0, rfl, fun j x hj => by simp at hj⟩, Nat.zero_le _, Nat.zero_le _⟩
  · simp [Value.cells] at hcs
    obtain ⟨rfl, rfl, rfl⟩ := hcs
    simp only [if_true] at hz
    have hxl : ((ss.take n).map fun z => UInt8.ofNat z.toNat).length = n := by rw [List.length_map, List.length_take]; omega
    refine ⟨(ss.take n).map fun z => UInt8.ofNat z.toNat, hxl, ⟨some a', c, by rw [hxl], fun j b hj => ?_⟩, hl, by unfold maxLen at hm; omega⟩
    rw [List.getElem?_map, List.getElem?_take] at hj
    by_cases hjn : j < n
    · rw [if_pos hjn] at hj
      have hss : ss[j]? = some ss[j] := List.getElem?_eq_getElem (by omega)
      rw [hss] at hj
      have hb : UInt8.ofNat ss[j].toNat = b := by simpa using hj
      have hc := hcell j (by omega)
      have hsp : a'.spot = none := by simpa [Addr.add] using World.cell?_spot (hcell 0 (by omega))
      obtain ⟨b', o, sp⟩ := a'
      have hsp' : sp = none := hsp
      subst hsp'
      rw [addr_plain, List.getD, hss] at hc
      have hw := hwf ss[j] (List.getElem_mem _)
      have hr : 0 ≤ ss[j] ∧ ss[j] ≤ 255 := by simpa [Lit.wf, IntKind.min, IntKind.max, IntKind.signed, IntKind.bits] using hw
      have e : ((b.toNat : Nat) : Int) = ss[j] := by
        rw [← hb, UInt8.toNat_ofNat', Nat.mod_eq_of_lt (by omega)]; omega
      refine ⟨b', o, rfl, cell_lt hc, ?_⟩
      rw [e]; exact hc
    · rw [if_neg hjn] at hj; simp at hj
end Go.Proofs.Ytclddaacbfgnlaa
