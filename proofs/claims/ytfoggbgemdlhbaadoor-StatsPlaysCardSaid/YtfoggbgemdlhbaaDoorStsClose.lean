/-
  From what a row lists of the package variables to what the contracts ask of the world; how slices of ints and of commands that came in are read. No conditions.
-/
import Derived.Test.YtfoggbgemdlhbaaDoorStsShown
import Derived.Test.YtfoggbgemdlhbaaDoorRows
import Derived.Test.YtfoggbgemdlhbaaDoorTie
import Derived.Test.YtfoggbgemdlhbaaDoorCards
import Derived.Stop.LaidErr
import Derived.Lib.LaidTab
import Derived.ProofKit
import Derived.Handy
import Derived.Lay
import Derived.SevenTiedAt
import Derived.MakeChecks
import Derived.Carry
import Derived.SliceStrings
import Derived.SizedLaws
namespace Go.Proofs.YtfoggbgemdlhbaaDoor
open Go Go.ChangeShapes Go.WideShapes Go.ChangeAt Go.RowKit

theorem own : ownKnob Tryd.prog.godebug = none := by kernel_rfl
theorem tTab : (Tryd.prog.globals[2]?).map (·.type) = some 104 := by kernel_rfl
theorem cells9 : Tryd.prog.cellsOf 9 = 1 := by kernel_rfl
theorem cells23 : Tryd.prog.cellsOf 28 = 1 := by kernel_rfl
theorem cellsI : Tryd.prog.cellsOf 3 = 1 := by kernel_rfl
theorem cells65 : Tryd.prog.cellsOf 104 = 20 := by kernel_rfl

abbrev laid3 : List (String × DataW Unit) := [("math/bits.deBruijn32tab", Rows.laid_math_bits_deBruijn32tab), ("math/bits.deBruijn64tab", Rows.laid_math_bits_deBruijn64tab), ("internal/strconv.uint64pow10", Rows.laid_internal_strconv_uint64pow10)]
theorem tab_of {W : World} (h : laidMet Tryd.prog laid3 W) : Nu.TabV W :=
  ⟨Lib.tabIs_of_head Nu.gTab tTab Tryd.underlying104 Tryd.underlying28 cells23 cells65 h.tail.tail⟩

/-- A slice of ints, read through its cells. -/
def Ints (w : World) (v : Value) (zs : List Int) : Prop :=
  ∃ a c, v = .slice a zs.length c ∧ ∀ j z, zs[j]? = some z → (-9223372036854775808 ≤ z ∧ z ≤ 9223372036854775807) ∧ ∃ b o, a = some ⟨b, o, none⟩ ∧ b < w.heap.size ∧ w.cell? ⟨b, o + j, none⟩ = some (.int .i64 z)
theorem Ints.below {w w' : World} {v : Value} {zs : List Int} (h : Ints w v zs) (hb : Below w.heap.size w w') : Ints w' v zs := by
  obtain ⟨a, c, hv, hx⟩ := h
  refine ⟨a, c, hv, fun j z hj => ?_⟩
  obtain ⟨hz, b, o, ha, hlt, hc⟩ := hx j z hj
  exact ⟨hz, b, o, ha, Nat.lt_of_lt_of_le hlt hb.size, (hb.cell (p := ⟨b, o + j, none⟩) hlt).trans hc⟩
theorem ints_given {H : Type} {enc : TypeId × Value → H} {W : World} {held : Bool} {a : Option Addr} {n c : Nat} {d : DataW H} {p : List MemPlace}
    (h : DataW.Trod enc Tryd.prog W 0 (fun _ => true) held 23 (.slice a n c) d p) : ∃ zs : List Int, zs.length = n ∧ Ints W (.slice a n c) zs := by
  obtain ⟨fuel, hf⟩ := h
  rcases open_ints Tryd.underlying23 Tryd.underlying3 cellsI hf with ⟨hcs, -⟩ | ⟨a', len, cap, ss, hcs, _, hl, hm, hz, -, hcell, hwf⟩
  · simp [Value.cells] at hcs
    obtain ⟨rfl, rfl, rfl⟩ := hcs
    exact ⟨[], rfl, ⟨none, 0, rfl, fun j x hj => by simp at hj⟩⟩
  · simp [Value.cells] at hcs
    obtain ⟨rfl, rfl, rfl⟩ := hcs
    simp only [if_true] at hz
    have hxl : (ss.take n).length = n := by rw [List.length_take]; omega
    refine ⟨ss.take n, hxl, ⟨some a', c, by rw [hxl], fun j z hj => ?_⟩⟩
    rw [List.getElem?_take] at hj
    by_cases hjn : j < n
    · rw [if_pos hjn] at hj
      have hc := hcell j (by omega)
      have hsp : a'.spot = none := by simpa [Addr.add] using World.cell?_spot (hcell 0 (by omega))
      have hr : -9223372036854775808 ≤ z ∧ z ≤ 9223372036854775807 := by simpa [Lit.wf, IntKind.min, IntKind.max, IntKind.signed, IntKind.bits] using hwf z (List.mem_of_getElem? hj)
      obtain ⟨b, o, sp⟩ := a'
      have hsp' : sp = none := hsp
      subst hsp'
      rw [addr_plain, List.getD, hj] at hc
      exact ⟨hr, b, o, rfl, cell_lt hc, hc⟩
    · rw [if_neg hjn] at hj; simp at hj
end Go.Proofs.YtfoggbgemdlhbaaDoor
