/-
  Counting the ids of a segmented row: plain lists, and what the two local arrays hold. No conditions.
-/
import Derived.Test.YtenncmjokdacoaaDoorSegHas
namespace Go.Proofs.YtenncmjokdacoaaDoor.Sr
open Go Go.RowKit Go.Lib

def hc (hs : List Nat) : List Value := hs.map fun h : Nat => Value.int .i64 (h : Int)
theorem hc_at {hs : List Nat} {k h : Nat} (e : hs[k]? = some h) : (hc hs)[k]? = some (.int .i64 (h : Int)) := by simp [hc, e]
theorem hc_set (hs : List Nat) (k h : Nat) : hc (hs.set k h) = (hc hs).set k (.int .i64 (h : Int)) := by simp [hc, List.map_set]
theorem infoTimes : (Tryd.prog.info? 42).map (fun i => (i.zero, i.size)) = some (some (.agg (Array.replicate 64 (.int .i64 0))), 64) := by kernel_rfl
theorem infoIn : (Tryd.prog.info? 41).map (fun i => (i.zero, i.size)) = some (some (.agg (Array.replicate 64 (.bool false))), 64) := by kernel_rfl
/-- How often each of the 64 stands among xs; whether it does. -/
def cnts (xs : List Int) : List Nat := (List.range 64).map fun (j : Nat) => xs.count (Int.ofNat j)
def inB (xs : List Int) : List Value := (List.range 64).map fun (j : Nat) => Value.bool (decide ((Int.ofNat j) ∈ xs))
theorem cnts_at {xs : List Int} {j : Nat} (h : j < 64) : (cnts xs)[j]? = some (xs.count (j : Int)) := by unfold cnts; rw [List.getElem?_map, List.getElem?_range h]; rfl
theorem inB_at {xs : List Int} {j : Nat} (h : j < 64) : (inB xs)[j]? = some (.bool (decide ((j : Int) ∈ xs))) := by unfold inB; rw [List.getElem?_map, List.getElem?_range h]; rfl
theorem cnts_nil : cnts [] = List.replicate 64 0 := by decide
theorem inB_nil : inB [] = List.replicate 64 (.bool false) := by
  unfold inB
  apply List.ext_getElem?
  intro i
  rw [List.getElem?_map, List.getElem?_replicate]
  by_cases h : i < 64
  · rw [List.getElem?_range h, if_pos h]; simp
  · rw [if_neg h, List.getElem?_eq_none (by simp; omega)]; rfl
theorem times_made : ∃ Z : Array Value, Z.toList = hc (cnts []) ∧ ∀ W : World, (zeroValue 42).run Tryd.prog W = .ok (.agg Z) W := by
  refine ⟨Array.replicate 64 (.int .i64 0), by rw [cnts_nil]; simp [hc], fun W => ?_⟩
  obtain ⟨i0, hi, hx⟩ := Option.map_eq_some_iff.1 infoTimes
  simp only [Prod.mk.injEq] at hx
  generalize Array.replicate 64 (Value.int .i64 0) = Z at *
  simp [zeroValue, typeInfo, hi, hx.1]
theorem in_made : ∃ Z : Array Value, Z.toList = inB [] ∧ ∀ W : World, (zeroValue 41).run Tryd.prog W = .ok (.agg Z) W := by
  refine ⟨Array.replicate 64 (.bool false), by rw [inB_nil]; simp, fun W => ?_⟩
  obtain ⟨i0, hi, hx⟩ := Option.map_eq_some_iff.1 infoIn
  simp only [Prod.mk.injEq] at hx
  generalize Array.replicate 64 (Value.bool false) = Z at *
  simp [zeroValue, typeInfo, hi, hx.1]
theorem cnts_snoc {xs : List Int} {j : Nat} (h : j < 64) : cnts (xs ++ [(j : Int)]) = (cnts xs).set j (xs.count (j : Int) + 1) := by
  apply List.ext_getElem?
  intro k
  rw [List.getElem?_set]
  have hl : (cnts xs).length = 64 := by simp [cnts]
  by_cases hk : k < 64
  · rw [cnts_at hk]
    by_cases e : j = k
    · subst e
      rw [if_pos rfl, if_pos (by rw [hl]; exact hk), List.count_append, List.count_singleton_self]
    · rw [if_neg e, cnts_at hk, List.count_append, List.count_singleton]
      have : ((j : Int) == (k : Int)) = false := by rw [beq_eq_false_iff_ne]; omega
      rw [this]; rfl
  · rw [List.getElem?_eq_none (by simp [cnts]; omega), if_neg (by omega), List.getElem?_eq_none (by omega)]
theorem inB_same {xs ys : List Int} (h : ∀ z, z ∈ xs ↔ z ∈ ys) : inB xs = inB ys := by
  unfold inB
  refine List.map_congr_left (fun j _ => ?_)
  congr 1
  exact decide_eq_decide.2 (h _)
theorem inB_set {xs ys : List Int} {j : Nat} (hj : j < 64) (h : ∀ z, z ∈ ys ↔ z = (j : Int) ∨ z ∈ xs) : inB ys = (inB xs).set j (.bool true) := by
  apply List.ext_getElem?
  intro k
  rw [List.getElem?_set]
  have hl : (inB xs).length = 64 := by simp [inB]
  by_cases hk : k < 64
  · rw [inB_at hk]
    by_cases e : j = k
    · subst e
      rw [if_pos rfl, if_pos (by rw [hl]; exact hk), decide_eq_true ((h _).2 (.inl rfl))]
    · rw [if_neg e, inB_at hk]
      congr 2
      refine decide_eq_decide.2 ((h _).trans ⟨fun g => g.resolve_left (fun g => e (by omega)), .inr⟩)
  · rw [List.getElem?_eq_none (by simp [inB]; omega), if_neg (by omega), List.getElem?_eq_none (by omega)]
theorem cnt_in {xs : List Int} (hn : xs.Nodup) (z : Int) : (xs.count z = 1 ∧ decide (z ∈ xs) = true) ∨ (xs.count z = 0 ∧ decide (z ∈ xs) = false) := by
  by_cases h : z ∈ xs
  · left
    have h1 := List.nodup_iff_count.1 hn z
    have h2 := List.count_pos_iff.2 h
    exact ⟨by omega, decide_eq_true h⟩
  · right; exact ⟨List.count_eq_zero.2 h, decide_eq_false h⟩
/-- Only so small ids stand. -/
def Small (s : Sg) : Prop := ∀ z ∈ s.L.flatten, z ≤ 63
theorem Small.new : Small Sg.new := fun z hz => by simp [Sg.new] at hz
theorem Small.ins {s : Sg} (h : Small s) (ok : s.Ok) {z : Int} (hz : 0 ≤ z ∧ z ≤ 63) : Small (s.ins z) := fun y hy => by
  rcases (ins_mem ok ⟨hz.1, by omega⟩).1 hy with rfl | g
  · exact hz.2
  · exact h y g
theorem Small.tch {s : Sg} (h : Small s) (z : Int) : Small (s.tch z) := fun y hy => h y (by rwa [tch_L] at hy)
theorem Small.stp {s : Sg} (h : Small s) (ok : s.Ok) : Small s.stp := fun y hy => h y ((stp_perm ok).mem_iff.2 hy)
theorem inB_stp {s : Sg} (ok : s.Ok) : inB s.stp.L.flatten = inB s.L.flatten := inB_same (fun _ => (stp_perm ok).mem_iff.symm)
theorem take_flat_le (L : List (List Int)) (k : Nat) : (L.take k).flatten.length ≤ L.flatten.length := by
  conv => rhs; rw [← List.take_append_drop k L]
  rw [List.flatten_append, List.length_append]; omega
end Go.Proofs.YtenncmjokdacoaaDoor.Sr
