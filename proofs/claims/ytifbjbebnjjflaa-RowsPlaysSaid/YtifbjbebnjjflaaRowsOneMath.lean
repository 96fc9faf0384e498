/-
  Counting the ids of rows: plain lists, and what the local array holds. No conditions.
-/
import Derived.Test.YtifbjbebnjjflaaRowsTurn
namespace Go.Proofs.Ytifbjbebnjjflaa
open Go Go.RowKit Go.Lib

/-- A step of a script: three ints. -/
structure Op10 (w : World) (b o : Nat) (kd r z : Int) : Prop where
  e0 : w.cell? ⟨b, o, none⟩ = some (.int .i64 kd)
  e1 : w.cell? ⟨b, o + 1, none⟩ = some (.int .i64 r)
  e2 : w.cell? ⟨b, o + 2, none⟩ = some (.int .i64 z)
  lt : b < w.heap.size
  rz : i64ok r ∧ i64ok z
def Ops (w : World) (a : Option Addr) (n : Nat) : Prop := ∀ i, i < n → ∃ b off kd r z, a = some ⟨b, off, none⟩ ∧ Op10 w b (off + i * 3) kd r z

/-- Only so small ids stand. -/
def Small (L : List (List Int)) : Prop := ∀ z ∈ L.flatten, z ≤ 31
theorem mem_front {L : List (List Int)} {r z y : Int} (h : y ∈ (opFront L r z).flatten) : y = z ∨ y ∈ L.flatten := by
  unfold opFront at h
  split at h
  · rename_i hm
    have hi : r.toNat < (takeL L z).length := by rw [takeL_len]; obtain ⟨h1, h2, _⟩ := hm; omega
    have hi' : (takeL L z)[r.toNat]? = some ([] ++ (takeL L z)[r.toNat]?.getD []) := by rw [List.getElem?_eq_getElem hi]; rfl
    have := (flat_ins z hi').mem_iff.1 h
    rcases List.mem_cons.1 this with e | e
    · exact .inl e
    · exact .inr (mem_take.1 e).1
  · exact .inr h
theorem mem_back {L : List (List Int)} {r z y : Int} (h : y ∈ (opBack L r z).flatten) : y = z ∨ y ∈ L.flatten := by
  unfold opBack at h
  split at h
  · rename_i hm
    have hi : r.toNat < (takeL L z).length := by rw [takeL_len]; obtain ⟨h1, h2, _⟩ := hm; omega
    have hi' : (takeL L z)[r.toNat]? = some ((takeL L z)[r.toNat]?.getD [] ++ []) := by rw [List.getElem?_eq_getElem hi, List.append_nil]; rfl
    have := (flat_ins z hi').mem_iff.1 h
    rcases List.mem_cons.1 this with e | e
    · exact .inl e
    · exact .inr (mem_take.1 e).1
  · exact .inr h
theorem Small.front {L : List (List Int)} (h : Small L) (r : Int) {z : Int} (hz : z ≤ 31) : Small (opFront L r z) := fun y hy => (mem_front hy).elim (fun e => by rw [e]; exact hz) (h y)
theorem Small.back {L : List (List Int)} (h : Small L) (r : Int) {z : Int} (hz : z ≤ 31) : Small (opBack L r z) := fun y hy => (mem_back hy).elim (fun e => by rw [e]; exact hz) (h y)
theorem Small.take {L : List (List Int)} (h : Small L) (z : Int) : Small (takeL L z) := fun y hy => h y (mem_take.1 hy).1
theorem row_take (L : List (List Int)) (z : Int) : rowOf (takeL L z) z = none := rowOf_none'.2 not_take

/-! The local array -/
def hc (hs : List Nat) : List Value := hs.map fun h : Nat => Value.int .i64 (h : Int)
theorem hc_at {hs : List Nat} {k h : Nat} (e : hs[k]? = some h) : (hc hs)[k]? = some (.int .i64 (h : Int)) := by simp [hc, e]
theorem hc_set (hs : List Nat) (k h : Nat) : hc (hs.set k h) = (hc hs).set k (.int .i64 (h : Int)) := by simp [hc, List.map_set]
theorem infoHeld : (Try.prog.info? 38).map (fun i => (i.zero, i.size)) = some (some (.agg (Array.replicate 32 (.int .i64 0))), 32) := by kernel_rfl
/-- How often each of the 32 stands among xs. -/
def cnts (xs : List Int) : List Nat := (List.range 32).map fun (j : Nat) => xs.count (Int.ofNat j)
theorem cnts_at {xs : List Int} {j : Nat} (h : j < 32) : (cnts xs)[j]? = some (xs.count (j : Int)) := by unfold cnts; rw [List.getElem?_map, List.getElem?_range h]; rfl
theorem cnts_nil : cnts [] = List.replicate 32 0 := by decide
theorem held_made : ∃ Z : Array Value, Z.toList = hc (cnts []) ∧ ∀ W : World, (zeroValue 38).run Try.prog W = .ok (.agg Z) W := by
  refine ⟨Array.replicate 32 (.int .i64 0), by rw [cnts_nil]; simp [hc], fun W => ?_⟩
  obtain ⟨i0, hi, hx⟩ := Option.map_eq_some_iff.1 infoHeld
  simp only [Prod.mk.injEq] at hx
  generalize Array.replicate 32 (Value.int .i64 0) = Z at *
  simp [zeroValue, typeInfo, hi, hx.1]
theorem cnts_snoc {xs : List Int} {j : Nat} (h : j < 32) : cnts (xs ++ [(j : Int)]) = (cnts xs).set j (xs.count (j : Int) + 1) := by
  apply List.ext_getElem?
  intro k
  rw [List.getElem?_set]
  have hl : (cnts xs).length = 32 := by simp [cnts]
  by_cases hk : k < 32
  · rw [cnts_at hk]
    by_cases e : j = k
    · subst e
      rw [if_pos rfl, if_pos (by rw [hl]; exact hk), List.count_append, List.count_singleton_self]
    · rw [if_neg e, cnts_at hk, List.count_append, List.count_singleton]
      have : ((j : Int) == (k : Int)) = false := by rw [beq_eq_false_iff_ne]; omega
      rw [this]; rfl
  · rw [List.getElem?_eq_none (by simp [cnts]; omega), if_neg (by omega), List.getElem?_eq_none (by omega)]
/-- Those from j on. -/
def rem (xs : List Int) (j : Nat) : Nat := (xs.filter fun z => decide ((j : Int) ≤ z)).length
theorem rem_step : ∀ (xs : List Int) (j : Nat), rem xs j = xs.count (j : Int) + rem xs (j + 1)
  | [], _ => rfl
  | x :: xs, j => by
    have ih := rem_step xs j
    unfold rem at ih ⊢
    rw [List.count_cons]
    by_cases h1 : (j : Int) ≤ x
    · rw [List.filter_cons_of_pos (by simpa using h1), List.length_cons, ih]
      by_cases h2 : x = (j : Int)
      · have e2 : (x == (j : Int)) = true := by rw [beq_iff_eq]; exact h2
        rw [List.filter_cons_of_neg (by simp; omega), e2]; simp; omega
      · have e2 : (x == (j : Int)) = false := by rw [beq_eq_false_iff_ne]; exact h2
        rw [List.filter_cons_of_pos (by simp; omega), e2, List.length_cons]; simp; omega
    · have e2 : (x == (j : Int)) = false := by rw [beq_eq_false_iff_ne]; omega
      rw [List.filter_cons_of_neg (by simpa using h1), List.filter_cons_of_neg (by simp; omega), ih, e2]; simp
theorem rem_zero {xs : List Int} (h : ∀ z ∈ xs, 0 ≤ z) : rem xs 0 = xs.length := by
  unfold rem; rw [List.filter_eq_self.2 (fun z hz => by simpa using h z hz)]
theorem rem_end {xs : List Int} (h : ∀ z ∈ xs, z ≤ 31) : rem xs 32 = 0 := by
  unfold rem; rw [List.length_eq_zero_iff, List.filter_eq_nil_iff]
  intro z hz
  have := h z hz
  simp; omega
theorem take_flat_le (L : List (List Int)) (k : Nat) : (L.take k).flatten.length ≤ L.flatten.length := by
  conv => rhs; rw [← List.take_append_drop k L]
  rw [List.flatten_append, List.length_append]; omega
theorem count_row {L : List (List Int)} (hg : GoodL L) (z : Int) : (L.flatten.count z = 1 ∧ ∃ i, rowOf L z = some i) ∨ (L.flatten.count z = 0 ∧ rowOf L z = none) := by
  by_cases h : z ∈ L.flatten
  · refine .inl ⟨?_, ?_⟩
    · have h1 := List.nodup_iff_count.1 hg.nd z
      have h2 := List.count_pos_iff.2 h
      omega
    · cases e : rowOf L z with
      | none => exact absurd h (rowOf_none'.1 e)
      | some i => exact ⟨i, rfl⟩
  · exact .inr ⟨List.count_eq_zero.2 h, rowOf_none'.2 h⟩
end Go.Proofs.Ytifbjbebnjjflaa
