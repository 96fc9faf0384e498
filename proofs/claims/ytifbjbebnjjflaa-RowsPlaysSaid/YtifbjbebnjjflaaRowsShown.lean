/-
  What the statements of this layer ask first: five calls on two rows answer as they must. No conditions.
-/
import Derived.Test.YtifbjbebnjjflaaRowsHas
namespace Go.Proofs.Ytifbjbebnjjflaa
open Go Go.RowKit Go.Lib

set_option maxRecDepth 100000 in
set_option maxHeartbeats 2000000 in
theorem shown_any (w : World) : Calls Try.prog 8 #[] w fun e w' => e = .returned (.bool true) ∧ Below w.heap.size w w' := by
  have hnew := has_new 2 (by decide) (by decide) w
  have k5 : i64ok 5 := by unfold i64ok; omega
  have k6 : i64ok 6 := by unfold i64ok; omega
  have k7 : i64ok 7 := by unfold i64ok; omega
  have K := hid (And.intro k5 (And.intro k6 k7))
  clear k5 k6 k7
  go_enter Try.func8, Try.ntmps8
  go_wp2_with fail
  refine hnew.mono ?_
  rintro e w1 ⟨P, rfl, h1⟩
  clear hnew
  have hc := has_front h1 0 5 K.out.1
  rw [show decide (May (List.replicate 2 ([] : List Int)).length 0 5) = true by decide, show opFront (List.replicate 2 []) 0 5 = [[5], []] by decide] at hc
  clear h1
  go_wp2_with fail
  refine hc.mono ?_
  rintro e w2 ⟨rfl, h2, -⟩
  clear hc
  have hc := has_front h2 0 6 K.out.2.1
  rw [show decide (May ([[5], []] : List (List Int)).length 0 6) = true by decide, show opFront [[5], []] 0 6 = [[6, 5], []] by decide] at hc
  clear h2
  go_wp2_with fail
  refine hc.mono ?_
  rintro e w3 ⟨rfl, h3, -⟩
  clear hc
  have hc := has_back h3 0 7 K.out.2.2
  rw [show decide (May ([[6, 5], []] : List (List Int)).length 0 7) = true by decide, show opBack [[6, 5], []] 0 7 = [[6, 5, 7], []] by decide] at hc
  clear h3
  go_wp2_with fail
  refine hc.mono ?_
  rintro e w4 ⟨rfl, h4, -⟩
  clear hc
  have hc := has_front h4 1 5 K.out.1
  rw [show decide (May ([[6, 5, 7], []] : List (List Int)).length 1 5) = true by decide, show opFront [[6, 5, 7], []] 1 5 = [[6, 7], [5]] by decide] at hc
  clear h4
  go_wp2_with fail
  refine hc.mono ?_
  rintro e w5 ⟨rfl, h5, -⟩
  clear hc
  have hc := has_all h5 0
  rw [show rowAt ([[6, 7], [5]] : List (List Int)) 0 = [6, 7] by decide] at hc
  go_wp2_with fail
  refine hc.mono ?_
  rintro e w6 ⟨v, rfl, o6, b6⟩
  clear hc
  have h6 := h5.after b6
  clear h5 b6
  obtain ⟨g, cap, rfl, -, -, -⟩ := row_pos o6 (by decide)
  have c0 := o6.cellAt 0 (by decide)
  have c1 := o6.cellAt 1 (by decide)
  replace c0 : w6.cell? ⟨g, 0, none⟩ = some (.int .i64 6) := c0
  replace c1 : w6.cell? ⟨g, 1, none⟩ = some (.int .i64 7) := c1
  clear o6
  have hr := has_row h6 5 K.out.1
  rw [show rv (rowOf ([[6, 7], [5]] : List (List Int)) 5) = 1 by decide] at hr
  have ht := has_take h6 5 K.out.1
  rw [show (rowOf ([[6, 7], [5]] : List (List Int)) 5).isSome = true by decide, show takeL ([[6, 7], [5]] : List (List Int)) 5 = [[6, 7], []] by decide] at ht
  clear h6
  go_wp2_with fail
  refine hr.mono ?_
  rintro e w7 ⟨rfl, rfl⟩
  clear hr
  go_wp2_with fail
  refine ht.mono ?_
  rintro e w8 ⟨rfl, h8, -⟩
  clear ht
  have ht := has_take h8 5 K.out.1
  rw [show (rowOf ([[6, 7], []] : List (List Int)) 5).isSome = false by decide] at ht
  clear h8
  go_wp2_with fail
  refine ht.mono ?_
  rintro e w9 ⟨rfl, h9, -⟩
  clear ht
  have hb := hid h9.below
  clear h9
  go_wp2_with fail
  go_ret
  exact ⟨rfl, hb.out⟩
end Go.Proofs.Ytifbjbebnjjflaa
