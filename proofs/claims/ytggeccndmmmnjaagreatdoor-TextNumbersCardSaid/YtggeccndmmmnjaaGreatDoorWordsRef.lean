/-
  Contracts of the document's own answers for layer 2 (ambryref02.Split, Join, Same) and of words.Join at this program. Conditions: a split line has at most 2^43 words, joined texts take at most 2^47 bytes.
-/
import Derived.Test.YtggeccndmmmnjaaGreatDoorWordsSplit
import Derived.OwnWalk
import Derived.Laws.OwnMore
import Derived.Deep.AppendLies
namespace Go.Proofs.YtggeccndmmmnjaaGreatDoor
open Go Go.Shelf Go.RowKit

/-- A slice of texts, read through its cells. -/
def Texts (w : World) (v : Value) (xs : List (List UInt8)) : Prop :=
  ∃ a c, v = .slice a xs.length c ∧ xs.length ≤ c ∧ ∀ j x, xs[j]? = some x → ∃ b o, a = some ⟨b, o, none⟩ ∧ b < w.heap.size ∧ w.cell? ⟨b, o + j, none⟩ = some (.string (S x))
theorem Texts.below {w w' : World} {v : Value} {xs : List (List UInt8)} (h : Texts w v xs) (hb : Below w.heap.size w w') : Texts w' v xs := by
  obtain ⟨a, c, hv, hcap, hx⟩ := h
  refine ⟨a, c, hv, hcap, fun j x hj => ?_⟩
  obtain ⟨b, o, ha, hlt, hc⟩ := hx j x hj
  exact ⟨b, o, ha, Nat.lt_of_lt_of_le hlt hb.size, (hb.cell (p := ⟨b, o + j, none⟩) hlt).trans hc⟩
theorem texts_of_row {w : World} {n₀ : Nat} {v : Value} {xs : List (List UInt8)} (h : w.ownsRow n₀ 9 1 v xs.length (cellsOf xs)) : Texts w v xs := by
  have hlt := h.lt
  have hcs := @World.ownsRow.cells _ _ _ _ _ _ _ h
  rcases h.2 with ⟨rfl, h0⟩ | ⟨g, cap, cur, rfl, hb, hg, hcap, _⟩
  · refine ⟨none, 0, by rw [h0], by omega, fun j x hj => ?_⟩
    rw [List.eq_nil_of_length_eq_zero h0] at hj; simp at hj
  · refine ⟨some ⟨g, 0, none⟩, cap, rfl, hcap, fun j x hj => ⟨g, 0, rfl, (hlt g rfl).2, ?_⟩⟩
    have := hcs rfl j (.string (S x)) (by simp [cellsOf, hj])
    rw [addr_plain] at this; exact this

set_option maxHeartbeats 1000000 in
set_option maxRecDepth 100000 in
theorem same_sizes (a b : Option Addr) (ca cb n m : Nat) (hne : n ≠ m) (w : World) :
    Calls Tryz.prog 19 #[.slice a n ca, .slice b m cb] w fun e w' => e = .returned (.bool false) ∧ w = w' := by
  have i0 : ¬ (n : Int) = (m : Int) := by omega
  go_enter Tryz.func19, Tryz.ntmps19
  go_wp2_with fail
  go_ret
  exact ⟨rfl, rfl⟩

set_option maxHeartbeats 1000000 in
set_option maxRecDepth 100000 in
theorem same_texts (v : Value) (u : Value) (xs : List (List UInt8)) (hn : xs.length < 9223372036854775807) (w : World) (hv : Texts w v xs) (hu : Texts w u xs) :
    Calls Tryz.prog 19 #[v, u] w fun e w' => e = .returned (.bool true) ∧ Below w.heap.size w w' := by
  obtain ⟨a, ca, rfl, _, ha⟩ := hv
  obtain ⟨b, cb, rfl, _, hb⟩ := hu
  have HA := hid ha
  have HB := hid hb
  clear ha hb
  go_enter Tryz.func19, Tryz.ntmps19
  go_wp2_with fail
  go_loopw [5] (fun i wr => ∃ k : Nat, k ≤ xs.length ∧ i = .int .i64 k ∧ Below w.heap.size w wr) (fun i _ => xs.length - (intOf i).toNat)
  case atStart => exact ⟨0, by omega, rfl, Below.refl _ _⟩
  case round =>
    obtain ⟨k, hk, rfl, hbw⟩ := hrel
    by_cases hlt : k < xs.length
    · obtain ⟨x, hx⟩ : ∃ x, xs[k]? = some x := ⟨_, List.getElem?_eq_getElem hlt⟩
      obtain ⟨ba, oa, rfl, l1, h1⟩ := HA.out k x hx
      obtain ⟨bb, ob, rfl, l2, h2⟩ := HB.out k x hx
      have g1 : wr.cell? ⟨ba, oa + k, none⟩ = some (.string (S x)) := (hbw.cell (p := ⟨ba, oa + k, none⟩) l1).trans h1
      have g2 : wr.cell? ⟨bb, ob + k, none⟩ = some (.string (S x)) := (hbw.cell (p := ⟨bb, ob + k, none⟩) l2).trans h2
      clear HA HB hx h1 h2 l1 l2
      generalize S x = X at g1 g2
      go_wp2_with fail
      go_region
      go_wp2_with fail
      go_roundw
      case rel => exact ⟨k + 1, by omega, by go_num, hbw.drew⟩
      case measure => simp [intOf] <;> omega
    · clear HA HB
      go_wp2_with fail
      go_ret
      exact ⟨rfl, hbw⟩
end Go.Proofs.YtggeccndmmmnjaaGreatDoor
