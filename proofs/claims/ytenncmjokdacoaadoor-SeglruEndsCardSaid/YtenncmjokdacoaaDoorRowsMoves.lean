/-
  The others stay in order: the statement, walked. No conditions.
-/
import Derived.Test.YtenncmjokdacoaaDoorRowsKit
namespace Go.Proofs.YtenncmjokdacoaaDoor
open Go Go.RowKit Go.Lib

/-- A row of ints of the call's own, read. -/
def Cel (w : World) (g : Nat) (zs : List Int) : Prop := ∀ j z, zs[j]? = some z → w.cell? ⟨g, j, none⟩ = some (.int .i64 z)
theorem cel_of {w : World} {base g n c : Nat} {zs : List Int} (h : w.ownsRow base 3 1 (.slice (some ⟨g, 0, none⟩) n c) n (ic zs)) : Cel w g zs := by
  intro j z hj
  have hl : zs.length = n := by have := h.1; rw [ic_len] at this; omega
  have h1 := h.cellAt j (by have := (List.getElem?_eq_some_iff.1 hj).1; omega)
  rw [h1, ic_at hj]
theorem Cel.only {w w' : World} {D : Nat → Prop} {g : Nat} {zs : List Int} (h : Cel w g zs) (ho : Only D w w') (hd : ¬ D g) : Cel w' g zs := fun j z hj => (ho.cell (p := ⟨g, j, none⟩) (cell_lt (h j z hj)) hd).trans (h j z hj)
theorem Cel.below {w w' : World} {g : Nat} {zs : List Int} (h : Cel w g zs) (hb : Below w.heap.size w w') : Cel w' g zs := fun j z hj => (hb.cell (p := ⟨g, j, none⟩) (cell_lt (h j z hj))).trans (h j z hj)
theorem one_len {L : List (List Int)} (h : L.length = 1) : L = [rowAt L 0] := by
  match L, h with
  | [l], _ => rfl
/-- One of a row goes to its front. -/
theorem moved {L : List (List Int)} (hg : GoodL L) (h1 : L.length = 1) {p : Nat} {z : Int} (hp : (rowAt L 0)[p]? = some z) :
    May L.length 0 z ∧ (rowAt (opFront L 0 z) 0).length = (rowAt L 0).length ∧ (rowAt (opFront L 0 z) 0)[0]? = some z ∧
    (∀ i, i < p → (rowAt (opFront L 0 z) 0)[i + 1]? = (rowAt L 0)[i]?) ∧ (∀ i, p < i → (rowAt (opFront L 0 z) 0)[i]? = (rowAt L 0)[i]?) ∧ (∀ i y, (rowAt L 0)[i]? = some y → (y = z ↔ i = p)) := by
  have hL := one_len h1
  have hin : (rowAt L 0) ∈ L := by
    have h2 : rowAt L 0 ∈ [rowAt L 0] := List.mem_singleton.2 rfl
    rwa [← hL] at h2
  have hnd := (flat_nodup hg.nd).1 _ hin
  have hz := hg.rng z (List.mem_flatten.2 ⟨_, hin, List.mem_of_getElem? hp⟩)
  have hm : May L.length 0 z := ⟨by omega, by omega, hz.1, hz.2⟩
  have hs : rowAt L 0 = (rowAt L 0).take p ++ z :: (rowAt L 0).drop (p + 1) := by rw [← drop_cons hp, List.take_append_drop]
  have hpl := (List.getElem?_eq_some_iff.1 hp).1
  have hL0 : L[0]? = some ((rowAt L 0).take p ++ z :: (rowAt L 0).drop (p + 1)) := by
    have h0 : ∀ l : List Int, L = [l] → L[0]? = some l := fun l e => by rw [e]; rfl
    exact (h0 _ hL).trans (congrArg some hs)
  have hr : rowAt (opFront L 0 z) 0 = z :: ((rowAt L 0).take p ++ (rowAt L 0).drop (p + 1)) := by
    rw [opFront_yes hm, rowAt_of (by omega) (frontL_row (i := 0) (by omega) z), take_split hg.nd hL0, List.getElem?_set_self (by omega)]; rfl
  have htl : ((rowAt L 0).take p).length = p := by rw [List.length_take]; omega
  refine ⟨hm, ?_, ?_, fun i hi => ?_, fun i hi => ?_, fun i y hy => ⟨fun e => ?_, fun e => ?_⟩⟩
  · rw [hr, List.length_cons, List.length_append, htl, List.length_drop]; omega
  · rw [hr]; rfl
  · rw [hr, List.getElem?_cons_succ, List.getElem?_append_left (by omega), List.getElem?_take_of_lt hi]
  · obtain ⟨k, rfl⟩ : ∃ k, i = k + 1 := ⟨i - 1, by omega⟩
    rw [hr, List.getElem?_cons_succ, List.getElem?_append_right (by omega), htl, List.getElem?_drop]
    congr 1; omega
  · subst e
    exact nodup_at hnd hy hp
  · subst e; rw [hp] at hy; exact (Option.some.inj hy).symm

end Go.Proofs.YtenncmjokdacoaaDoor
