/-
  What the statements of this layer ask first: a few calls on a ghost of two answer as they must. No conditions.
-/
import Derived.Test.YtidcablgdbnddaaGhostHas
namespace Go.Proofs.Ytidcablgdbnddaa
open Go Go.RowKit Go.Lib

set_option maxRecDepth 100000 in
set_option maxHeartbeats 2000000 in
theorem shown_any (w : World) : Calls Try.prog 7 #[] w fun e w' => e = .returned (.bool true) ∧ Below w.heap.size w w' := by
  have hnew := has_new 2 w
  have k1 : u64ok 1 := by unfold u64ok; omega
  have k2 : u64ok 2 := by unfold u64ok; omega
  have k3 : u64ok 3 := by unfold u64ok; omega
  have K := hid (And.intro k1 (And.intro k2 k3))
  clear k1 k2 k3
  go_enter Try.func7, Try.ntmps7
  go_wp2_with fail
  refine hnew.mono ?_
  rintro e w1 ⟨P, rfl, h1⟩
  replace h1 : HasG w P 2 [] (fun _ => False) w1 := h1
  clear hnew
  have hc := has_add h1 1 K.out.1 (by decide)
  rw [show addL 2 ([] : List Int) 1 = [1] by decide] at hc
  clear h1
  go_wp2_with fail
  refine hc.mono ?_
  rintro e w2 ⟨rfl, h2, -⟩
  clear hc
  have hc := has_add h2 2 K.out.2.1 (by decide)
  rw [show addL 2 ([1] : List Int) 2 = [1, 2] by decide] at hc
  clear h2
  go_wp2_with fail
  refine hc.mono ?_
  rintro e w3 ⟨rfl, h3, -⟩
  clear hc
  have hc := has_add h3 3 K.out.2.2 (by decide)
  rw [show addL 2 ([1, 2] : List Int) 3 = [2, 3] by decide] at hc
  clear h3
  go_wp2_with fail
  refine hc.mono ?_
  rintro e w4 ⟨rfl, h4, -⟩
  clear hc
  have hc := has_add h4 2 K.out.2.1 (by decide)
  rw [show addL 2 ([2, 3] : List Int) 2 = [3, 2] by decide] at hc
  clear h4
  go_wp2_with fail
  refine hc.mono ?_
  rintro e w5 ⟨rfl, h5, -⟩
  clear hc
  have hc := has_all h5
  go_wp2_with fail
  refine hc.mono ?_
  rintro e w6 ⟨v, rfl, o6, b6⟩
  clear hc
  have h6 := h5.after b6
  clear h5 b6
  obtain ⟨g, cap, rfl, -, -, -⟩ := row_pos o6 (by decide)
  have c0 := o6.cellAt 0 (by decide)
  have c1 := o6.cellAt 1 (by decide)
  replace c0 : w6.cell? ⟨g, 0, none⟩ = some (.int .u64 3) := c0
  replace c1 : w6.cell? ⟨g, 1, none⟩ = some (.int .u64 2) := c1
  clear o6
  have hr := has_has h6 3 K.out.2.2
  rw [show decide ((3 : Int) ∈ ([3, 2] : List Int)) = true by decide] at hr
  have hs := has_has h6 1 K.out.1
  rw [show decide ((1 : Int) ∈ ([3, 2] : List Int)) = false by decide] at hs
  have ht := has_remove h6 3 K.out.2.2
  rw [show decide ((3 : Int) ∈ ([3, 2] : List Int)) = true by decide, show rmL ([3, 2] : List Int) 3 = [2] by decide] at ht
  clear h6
  go_wp2_with fail
  refine hr.mono ?_
  rintro e w7 ⟨rfl, rfl⟩
  clear hr
  go_wp2_with fail
  refine hs.mono ?_
  rintro e w7 ⟨rfl, rfl⟩
  clear hs
  go_wp2_with fail
  refine ht.mono ?_
  rintro e w8 ⟨rfl, h8, -⟩
  clear ht
  have ht := has_len h8
  have hb := hid h8.below
  clear h8
  go_wp2_with fail
  refine ht.mono ?_
  rintro e w9 ⟨rfl, rfl⟩
  clear ht
  go_wp2_with fail
  go_ret
  exact ⟨rfl, hb.out⟩
end Go.Proofs.Ytidcablgdbnddaa
