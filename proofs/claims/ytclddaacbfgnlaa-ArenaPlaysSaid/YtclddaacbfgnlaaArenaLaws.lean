/-
  The laws' common head (shown) and the law ArenaFull at this program. No conditions but that the numbers are an int's.
-/
import Derived.Test.YtclddaacbfgnlaaArenaRead
namespace Go.Proofs.Ytclddaacbfgnlaa
open Go Go.RowKit Go.Lib

theorem only_below {B O : Nat} {w w1 w2 : World} (hb : Below B w w1) (ho : Only (fun b => b = O) w1 w2) (hB : B ≤ w.heap.size) (hO : B ≤ O) : Below B w w2 :=
  hb.trans (ho.below (Nat.le_trans hB hb.size) (fun x hx => by subst hx; exact hO))

/-- A state of pages of 512 noughts. -/
def stw (ow : List Int) : St := { size := 512, ow := ow, pg := fun _ => List.replicate 512 0 }
theorem sh0 : newSt 2 512 = stw [-1, -1] := rfl
theorem sh1 : (stw [-1, -1]).grant 5 = (0, 0, stw [5, -1]) := rfl
theorem sh2 : (stw [5, -1]).grant 5 = (1, 0, stw [5, 5]) := rfl
theorem sh3 : (stw [5, 5]).grant 5 = (-1, 5, stw [5, 5]) := rfl
theorem sh4 : (stw [5, 5]).ret 0 = (0, stw [-1, 5]) := rfl
theorem sh5 : (stw [-1, 5]).grant 7 = (0, 0, stw [7, 5]) := rfl
theorem sh6 : pagesOf (stw [7, 5]).ow 5 = [1] := rfl
theorem page512 : pageB 512 = true := by decide

set_option maxHeartbeats 1000000 in
set_option maxRecDepth 100000 in
theorem shown_any (w : World) : Calls Try.prog 7 #[] w fun e w' => e = .returned (.bool true) ∧ Below w.heap.size w w' := by
  have hnew := fun w => new_ok 2 512 (by omega) (by omega) (by omega) (by omega) page512 w
  rw [sh0] at hnew
  have HG1 : Hid (∀ P O R w, AIs P O R (stw [-1, -1]) w → _) := hid fun P O R w h => by
    have := @grant_any P O R (stw [-1, -1]) w h 5
    rw [sh1] at this; exact this
  have HG2 : Hid (∀ P O R w, AIs P O R (stw [5, -1]) w → _) := hid fun P O R w h => by
    have := @grant_any P O R (stw [5, -1]) w h 5
    rw [sh2] at this; exact this
  have HG3 : Hid (∀ P O R w, AIs P O R (stw [5, 5]) w → _) := hid fun P O R w h => by
    have := @grant_any P O R (stw [5, 5]) w h 5
    rw [sh3] at this; exact this
  have HG4 : Hid (∀ P O R w, AIs P O R (stw [5, 5]) w → _) := hid fun P O R w h => by
    have := @return_any P O R (stw [5, 5]) w h 0
    rw [sh4] at this; exact this
  have HG5 : Hid (∀ P O R w, AIs P O R (stw [-1, 5]) w → _) := hid fun P O R w h => by
    have := @grant_any P O R (stw [-1, 5]) w h 7
    rw [sh5] at this; exact this
  have HG6 : Hid (∀ P O R w, AIs P O R (stw [7, 5]) w → _) := hid fun P O R w h => by
    have := @pages_any P O R (stw [7, 5]) w h 5
    rw [sh6] at this; exact this
  go_enter Try.func7, Try.ntmps7
  go_wp2_with fail
  refine (hnew _).mono ?_
  rintro e w1 ⟨P, O, R, rfl, h, b1, -, hO, -⟩
  clear hnew
  have H := hid h
  clear h
  go_wp2_with fail
  refine (HG1.out P O R _ H.out).mono ?_
  rintro e w2 ⟨rfl, h, ho⟩
  have b2 := only_below b1 ho (Nat.le_refl _) hO
  clear H HG1 ho b1
  have H := hid h
  clear h
  go_wp2_with fail
  refine (HG2.out P O R _ H.out).mono ?_
  rintro e w3 ⟨rfl, h, ho⟩
  have b3 := only_below b2 ho (Nat.le_refl _) hO
  clear H HG2 ho b2
  have H := hid h
  clear h
  go_wp2_with fail
  refine (HG3.out P O R _ H.out).mono ?_
  rintro e w4 ⟨rfl, h, ho⟩
  have b4 := only_below b3 ho (Nat.le_refl _) hO
  clear H HG3 ho b3
  have H := hid h
  clear h
  go_wp2_with fail
  refine (HG4.out P O R _ H.out).mono ?_
  rintro e w5 ⟨rfl, h, ho⟩
  have b5 := only_below b4 ho (Nat.le_refl _) hO
  clear H HG4 ho b4
  have H := hid h
  clear h
  go_wp2_with fail
  refine (HG5.out P O R _ H.out).mono ?_
  rintro e w6 ⟨rfl, h, ho⟩
  have b6 := only_below b5 ho (Nat.le_refl _) hO
  clear H HG5 ho b5
  have H := hid h
  clear h
  go_wp2_with fail
  refine (HG6.out P O R _ H.out).mono ?_
  rintro e w7 ⟨v, rfl, hown, hb⟩
  have b7 := b6.trans (hb.mono b6.size)
  have h7 := H.out.below hb
  have HP := hid (page_size h7)
  obtain ⟨g, c, rfl, hg, -⟩ := hown.form (by decide)
  have hc : w7.cell? ⟨g, 0, none⟩ = some (.int .i64 1) := hown.cellAt 0 (by decide)
  clear H HG6 hb b6 h7 hg hown
  go_wp2_with fail
  refine HP.out.mono ?_
  rintro e w8 ⟨rfl, rfl⟩
  clear HP
  go_wp2_with fail
  go_ret
  exact ⟨rfl, b7⟩
end Go.Proofs.Ytclddaacbfgnlaa
