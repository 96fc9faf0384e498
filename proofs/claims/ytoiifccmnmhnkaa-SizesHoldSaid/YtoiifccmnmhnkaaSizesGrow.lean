/-
  The law SizesGrow at this program. No conditions.
-/
import Derived.Test.YtoiifccmnmhnkaaSizesLawsB
import Derived.BigRegion
namespace Go.Proofs.Ytoiifccmnmhnkaa
open Go Go.RowKit Go.Lib

theorem new_row (k m : Nat) (hk : k < 8129) (hm : m < 296) (w : World) :
    Calls Try.prog 9 #[.int .i64 (512 + (k : Int) * 8), .int .i64 (105 + (m : Int))] w fun e w' => ∃ g c, e = .returned (.tuple #[.slice (some ⟨g, 0, none⟩) (row (512 + k * 8) (105 + m)).length c, .int .i64 0]) ∧
      (∀ (i x : Nat), (row (512 + k * 8) (105 + m))[i]? = some x → w'.cell? ⟨g, i, none⟩ = some (.int .i64 x)) ∧ Ints w' (.slice (some ⟨g, 0, none⟩) (row (512 + k * 8) (105 + m)).length c) (ints (row (512 + k * 8) (105 + m))) ∧ g < w'.heap.size ∧ Below w.heap.size w w' := by
  have h := new_ok (512 + k * 8) (105 + m) (by omega) (by omega) (page_of (by omega) (by omega) (by omega)) (by omega) (by omega) w
  rw [show ((512 + k * 8 : Nat) : Int) = 512 + (k : Int) * 8 from by omega, show ((105 + m : Nat) : Int) = 105 + (m : Int) from by omega] at h
  have hl := (row_first (page := 512 + k * 8) (f := 105 + m) (by omega)).2
  refine h.mono fun e w' ⟨v, he, ho, hb⟩ => ?_
  obtain ⟨g, c, rfl, hg, hlt⟩ := ho.form (by omega)
  refine ⟨g, c, he, fun i x hx => ?_, ints_of_row ho, hlt, hb⟩
  have hi : i < (row (512 + k * 8) (105 + m)).length := (List.getElem?_eq_some_iff.1 hx).1
  rw [ho.cellAt i (by omega)]
  simp [cellsOf, hx]

set_option maxHeartbeats 2000000 in
set_option maxRecDepth 100000 in
theorem grow_law (page : Int) (_ : -9223372036854775808 ≤ page) (_ : page ≤ 9223372036854775807) (f : Int) (_ : -9223372036854775808 ≤ f) (_ : f ≤ 9223372036854775807) (w : World) :
    Calls Try.prog 6 #[.int .i64 page, .int .i64 f] w fun e w' => e = .returned (.bool true) ∧ Below w.heap.size w w' := by
  obtain ⟨k, hk, hpk⟩ := fold_lit page 8129 (by decide)
  obtain ⟨m, hm, hmk⟩ := fold_lit f 296 (by decide)
  have eK : ((8129 : Nat) : Int) = 8129 := rfl
  have eM : ((296 : Nat) : Int) = 296 := rfl
  rw [eK] at hpk
  rw [eM] at hmk
  clear eK eM
  have c1 := new_row k m hk hm
  have hN := (row_first (page := 512 + k * 8) (f := 105 + m) (by omega)).2
  have hN3 := row_len (512 + k * 8) (105 + m)
  have HF : Hid (∀ j : Nat, j + 1 < (row (512 + k * 8) (105 + m)).length - 1 → ∃ x y Q : Nat, (row (512 + k * 8) (105 + m))[j]? = some x ∧ (row (512 + k * 8) (105 + m))[j + 1]? = some y ∧ (x : Int) * (105 + (m : Int)) = (Q : Int) ∧ Q ≤ 16000000 ∧ x ≤ 40000 ∧ Q / 100 ≤ y ∧ (y ≤ Q / 100 + 7 ∨ y ≤ x + 8) ∧ y ≤ 70000) := hid fun j hj => by
    obtain ⟨x, hx⟩ : ∃ x, (row (512 + k * 8) (105 + m))[j]? = some x := ⟨_, List.getElem?_eq_getElem (by omega)⟩
    obtain ⟨y, hy⟩ : ∃ y, (row (512 + k * 8) (105 + m))[j + 1]? = some y := ⟨_, List.getElem?_eq_getElem (by omega)⟩
    obtain ⟨a1, a2, a3, a4⟩ := row_at (by omega) (by omega) hx
    obtain ⟨b1, b2, b3, b4⟩ := row_at (by omega) (by omega) hy
    have hg := row_step hx hy hj
    obtain ⟨g1, g2, g3, g4⟩ := grow_facts x (105 + m) a1
    have hQ := mul_bound (s := x) (f := 105 + m) (by omega) (by omega)
    rw [← hg] at g1 g2 g3 g4
    refine ⟨x, y, x * (105 + m), hx, hy, by rw [Int.natCast_mul, Int.natCast_add]; rfl, hQ, by omega, g3, by omega, by omega⟩
  generalize row (512 + k * 8) (105 + m) = xs at *
  rcases hpk with ⟨s0, s1⟩ | ⟨s0, s00, s1⟩
  all_goals
    rcases hmk with ⟨p0, p1⟩ | ⟨p0, p00, p1⟩
  all_goals
    go_enter Try.func6, Try.ntmps6
    go_wp2_with fail
    refine (shown_any _).mono ?_
    rintro e w1 ⟨rfl, b1⟩
    go_wp2_with fail
    refine (c1 _).mono ?_
    rintro e w2 ⟨g, c, rfl, hc, hI, hg, b2⟩
    have b2 := Below.then b1 b2
    have HC := hid hc
    clear hc hI c1
    go_wp2_with fail
    go_loopw [8] (fun i wr => ∃ j : Nat, j + 1 ≤ xs.length ∧ i = .int .i64 ((j + 1 : Nat) : Int) ∧ Below w2.heap.size w2 wr) (fun i _ => 100 - (intOf i).toNat)
    case atStart => exact ⟨0, by omega, rfl, Below.refl _ _⟩
    case round =>
      obtain ⟨j, hj, rfl, hb⟩ := hrel
      by_cases hlt : j + 1 < xs.length - 1
      · obtain ⟨x, y, Q, hx, hy, e1, hQ, hx4, hy1, hy2, hy3⟩ := HF.out j hlt
        have g1 : wr.cell? ⟨g, j, none⟩ = some (.int .i64 x) := (hb.cell (p := ⟨g, j, none⟩) hg).trans (HC.out j x hx)
        have g2 : wr.cell? ⟨g, j + 1, none⟩ = some (.int .i64 y) := (hb.cell (p := ⟨g, j + 1, none⟩) hg).trans (HC.out (j + 1) y hy)
        clear hx hy HF HC
        go_wp2_with fail
        clear e1
        have hcase : ((Q : Int) / 100 + 7 < (x : Int) + 8 ∧ (y : Int) ≤ (x : Int) + 8) ∨ ((x : Int) + 8 ≤ (Q : Int) / 100 + 7 ∧ (y : Int) ≤ (Q : Int) / 100 + 7) := by omega
        have d1 : decide ((y : Int) < (Q : Int) / 100) = false := by simp; omega
        have hj2 : (0 : Int) ≤ (j : Int) + 1 := by omega
        have hj1 : (j : Int) + 1 < (xs.length : Int) := by omega
        have hj0 : (j : Int) < (xs.length : Int) := by omega
        clear hy1 hy2
        rcases hcase with ⟨q1, q2⟩ | ⟨q1, q2⟩
        all_goals
          go_region
          go_wp2_with fail
          go_roundw
          case rel => exact ⟨j + 1, by omega, by go_num, hb.drew⟩
          case measure => simp [intOf] <;> omega
      · clear HF HC
        go_wp2_with fail
        go_ret
        exact ⟨rfl, b2.trans (hb.mono b2.size)⟩
end Go.Proofs.Ytoiifccmnmhnkaa
