/-
  What stage 19's laws share: their small case is told, and counts beside arguments. Conditions: the table that Text reads is laid.
-/
import Derived.Test.YtfoggbgemdlhbaaDoorStsLines
namespace Go.Proofs.YtfoggbgemdlhbaaDoor.Sc
open Go Go.RowKit

/-- What came in lies below B; what a call leaves of it. -/
theorem only_below {P B : Nat} {w w' : World} (h : Only (fun b => b = P) w w') (hB : B ≤ w.heap.size) (hP : B ≤ P) : Below B w w' := h.below hB fun _ hx => by rw [hx]; exact hP
theorem nm_at' {i : Nat} (h : i < 18) : ∃ x, nm[i]? = some x ∧ x.length ≤ 100 := by
  have e : i = 0 ∨ i = 1 ∨ i = 2 ∨ i = 3 ∨ i = 4 ∨ i = 5 ∨ i = 6 ∨ i = 7 ∨ i = 8 ∨ i = 9 ∨ i = 10 ∨ i = 11 ∨ i = 12 ∨ i = 13 ∨ i = 14 ∨ i = 15 ∨ i = 16 ∨ i = 17 := by omega
  rcases e with rfl | rfl | rfl | rfl | rfl | rfl | rfl | rfl | rfl | rfl | rfl | rfl | rfl | rfl | rfl | rfl | rfl | rfl <;> exact ⟨_, rfl, by decide⟩

theorem dd1 : Lib.decDigits 1 = [49] := Nu.dd_small (by decide)
theorem dd2 : Lib.decDigits 2 = [50] := Nu.dd_small (by decide)
theorem dd0 : Lib.decDigits 0 = [48] := Nu.dd_small (by decide)
def fShown : Nat → Nat := cnt (cnt none0 1 1 false false 0) 2 2 false false 2
theorem fShown_ok : Ok fShown := (ok0.cnt _ _ _ _ _).cnt _ _ _ _ _
def zc (op : Int) : Md.Cm := ⟨op, 0, ⟨#[]⟩, ⟨#[]⟩, 0, 0, false, 0, false, 0, 0, false, false, 0, 0, false⟩

set_option maxRecDepth 100000 in
set_option maxHeartbeats 1000000 in
theorem shown_any (w : World) (hv : Nu.TabV w) : Calls Tryd.prog 6 #[] w fun e w' => e = .returned (.bool true) ∧ Below w.heap.size w w' := by
  have hn := new_any w
  have HV : Hid (∀ W, Below w.heap.size w W → Nu.TabV W) := hidc (fun W hb => hv.below hb)
  clear hv
  go_enter Tryd.func6, Tryd.ntmps6
  go_wp2_with fail
  refine hn.mono ?_
  rintro e w1 ⟨rfl, h1, b1⟩
  clear hn
  have c1 := count_any h1 (zc 1) 1 0 (by decide)
  unfold zc cc ac at c1
  go_wp2_with fail
  refine c1.mono ?_
  rintro e w2 ⟨rfl, h2, o2⟩
  have b2 := b1.trans (only_below o2 b1.size (Nat.le_refl _))
  have c2 := count_any h2 (zc 2) 2 2 (by decide)
  unfold zc cc ac at c2
  clear c1 o2 b1 h1
  go_wp2_with fail
  refine c2.mono ?_
  rintro e w3 ⟨rfl, h3, o3⟩
  have b3 := b2.trans (only_below o3 b2.size (Nat.le_refl _))
  have c3 := lines_any h3 (HV.out _ b3)
  clear c2 o3 b2 h2 h3 HV
  go_wp2_with fail
  refine c3.mono ?_
  rintro e w4 ⟨B, rfl, -, h4, b4⟩
  have b5 := b3.trans (b4.mono b3.size)
  have e0 : w4.cell? ⟨B, 0, none⟩ = some (.string ⟨#[83, 84, 65, 84, 32, 99, 109, 100, 95, 103, 101, 116, 32, 49]⟩) := h4.cell (by rw [List.getElem?_map, lns_at _ (by decide)]; show some (Value.string (S (ln _ 1))) = _; unfold ln; rw [dd1]; rfl)
  have e4 : w4.cell? ⟨B, 4, none⟩ = some (.string ⟨#[83, 84, 65, 84, 32, 103, 101, 116, 95, 104, 105, 116, 115, 32, 49]⟩) := h4.cell (by rw [List.getElem?_map, lns_at _ (by decide)]; show some (Value.string (S (ln _ 1))) = _; unfold ln; rw [dd1]; rfl)
  have e17 : w4.cell? ⟨B, 17, none⟩ = some (.string ⟨#[83, 84, 65, 84, 32, 101, 118, 105, 99, 116, 105, 111, 110, 115, 32, 50]⟩) := h4.cell (by rw [List.getElem?_map, lns_at _ (by decide)]; show some (Value.string (S (ln _ 2))) = _; unfold ln; rw [dd2]; rfl)
  clear h4 b4 c3 b3
  go_wp2_with fail
  go_ret
  exact ⟨rfl, b5⟩
end Go.Proofs.YtfoggbgemdlhbaaDoor.Sc
