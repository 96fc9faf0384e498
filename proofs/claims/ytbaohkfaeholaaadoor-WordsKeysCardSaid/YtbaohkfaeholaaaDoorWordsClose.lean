/-
  What the cards of layer 2 share: the listed variables, and how a slice of texts or of ints that came in is read. No conditions.
-/
import Derived.Test.YtbaohkfaeholaaaDoorWordsGaps
import Derived.Test.YtbaohkfaeholaaaDoorRows
import Derived.Test.YtbaohkfaeholaaaDoorTie
import Derived.Test.YtbaohkfaeholaaaDoorCards
import Derived.SliceStrings
import Derived.SizedLaws
import Derived.ProofKit
import Derived.Handy
import Derived.Lay
import Derived.SevenTiedAt
import Derived.MakeChecks
namespace Go.Proofs.YtbaohkfaeholaaaDoor
open Go Go.ChangeShapes Go.WideShapes Go.ChangeAt Go.RowKit

theorem own : ownKnob Tryd.prog.godebug = none := by kernel_rfl
theorem laidOut : laidOutB Tryd.prog = true := by kernel_rfl
theorem cellsText : Tryd.prog.cellsOf 9 = 1 := by kernel_rfl
theorem cellsInt : Tryd.prog.cellsOf 3 = 1 := by kernel_rfl
abbrev laid2 : List (String × DataW Unit) := [("unicode/utf8.acceptRanges", Rows.laid_unicode_utf8_acceptRanges), ("unicode/utf8.first", Rows.laid_unicode_utf8_first)]

theorem cell_lt {w : World} {b o : Nat} {v : Value} (h : w.cell? ⟨b, o, none⟩ = some v) : b < w.heap.size := by
  by_cases hb : b < w.heap.size
  · exact hb
  · rw [World.cell?, Array.getElem?_eq_none (by show w.heap.size ≤ b; omega)] at h; simp at h

theorem texts_given {H : Type} {enc : TypeId × Value → H} {W : World} {held : Bool} {a : Option Addr} {n c : Nat} {d : DataW H} {p : List MemPlace}
    (h : DataW.Trod enc Tryd.prog W 0 (fun _ => true) held 26 (.slice a n c) d p) : ∃ xs : List (List UInt8), xs.length = n ∧ Texts W (.slice a n c) xs ∧ c ≤ maxLen := by
  obtain ⟨fuel, hf⟩ := h
  rcases open_strings Tryd.underlying26 Tryd.underlying9 cellsText hf with ⟨hcs, -⟩ | ⟨a', len, cap, ss, hcs, _, hl, hm, hz, -, hcell, -⟩
  · simp [Value.cells] at hcs
    obtain ⟨rfl, rfl, rfl⟩ := hcs
    exact ⟨[], rfl, ⟨none, 0, rfl, Nat.le_refl _, fun j x hj => by simp at hj⟩, Nat.zero_le _⟩
  · simp [Value.cells] at hcs
    obtain ⟨rfl, rfl, rfl⟩ := hcs
    simp only [if_true] at hz
    have hxl : ((ss.take n).map (·.data.toList)).length = n := by rw [List.length_map, List.length_take]; omega
    refine ⟨(ss.take n).map (·.data.toList), hxl, ⟨some a', c, by rw [hxl], by omega, fun j x hj => ?_⟩, hm⟩
    rw [List.getElem?_map, List.getElem?_take] at hj
    obtain ⟨s, hs, rfl⟩ := Option.map_eq_some_iff.1 hj
    by_cases hjn : j < n
    · rw [if_pos hjn] at hs
      have hc := hcell j (by omega)
      have hsp : a'.spot = none := by simpa [Addr.add] using World.cell?_spot (hcell 0 (by omega))
      obtain ⟨b, o, sp⟩ := a'
      have hsp' : sp = none := hsp
      subst hsp'
      rw [addr_plain, List.getD, hs] at hc
      exact ⟨b, o, rfl, cell_lt hc, by rw [S_of]; exact hc⟩
    · rw [if_neg hjn] at hs; simp at hs

theorem ints_given {H : Type} {enc : TypeId × Value → H} {W : World} {held : Bool} {a : Option Addr} {n c : Nat} {d : DataW H} {p : List MemPlace}
    (h : DataW.Trod enc Tryd.prog W 0 (fun _ => true) held 34 (.slice a n c) d p) : ∃ zs : List Int, zs.length = n ∧ Ints W (.slice a n c) zs := by
  obtain ⟨fuel, hf⟩ := h
  rcases open_ints Tryd.underlying34 Tryd.underlying3 cellsInt hf with ⟨hcs, -⟩ | ⟨a', len, cap, ss, hcs, _, hl, hm, hz, -, hcell, -⟩
  · simp [Value.cells] at hcs
    obtain ⟨rfl, rfl, rfl⟩ := hcs
    exact ⟨[], rfl, none, 0, rfl, fun j x hj => by simp at hj⟩
  · simp [Value.cells] at hcs
    obtain ⟨rfl, rfl, rfl⟩ := hcs
    simp only [if_true] at hz
    have hxl : (ss.take n).length = n := by rw [List.length_take]; omega
    refine ⟨ss.take n, hxl, some a', c, by rw [hxl], fun j z hj => ?_⟩
    rw [List.getElem?_take] at hj
    by_cases hjn : j < n
    · rw [if_pos hjn] at hj
      have hc := hcell j (by omega)
      have hsp : a'.spot = none := by simpa [Addr.add] using World.cell?_spot (hcell 0 (by omega))
      obtain ⟨b, o, sp⟩ := a'
      have hsp' : sp = none := hsp
      subst hsp'
      rw [addr_plain, List.getD, hj] at hc
      exact ⟨b, o, rfl, cell_lt hc, hc⟩
    · rw [if_neg hjn] at hj; simp at hj

/-- The laws as the cards hand over. -/
theorem back_law (a : Option Addr) (n c : Nat) (xs : List (List UInt8)) (hn : xs.length = n) (behind : ByteArray) (cr : Bool) (w : World) (hT : Texts w (.slice a n c) xs) (hc : c ≤ maxLen) (hbs : behind.size ≤ 140737488355328) :
    Calls Tryd.prog 7 #[.slice a n c, .string behind, .bool cr] w fun e w' => e = .returned (.bool true) ∧ Below w.heap.size w w' := by
  subst hn
  have hl : xs.length ≤ c := by obtain ⟨_, _, e, h, _⟩ := hT; cases e; exact h
  exact back_walk a c xs behind cr w hT (by unfold maxLen at hc; omega) hbs
theorem gaps_law (a : Option Addr) (n c : Nat) (xs : List (List UInt8)) (hn : xs.length = n) (ga : Option Addr) (m gc : Nat) (zs : List Int) (hm : zs.length = m) (w : World) (hT : Texts w (.slice a n c) xs) (hc : c ≤ maxLen) (hG : Ints w (.slice ga m gc) zs) :
    Calls Tryd.prog 9 #[.slice a n c, .slice ga m gc] w fun e w' => e = .returned (.bool true) ∧ Below w.heap.size w w' := by
  subst hn hm
  have hl : xs.length ≤ c := by obtain ⟨_, _, e, h, _⟩ := hT; cases e; exact h
  exact gaps_walk a c xs ga gc zs w hT hG (by unfold maxLen at hc; omega)
end Go.Proofs.YtbaohkfaeholaaaDoor
