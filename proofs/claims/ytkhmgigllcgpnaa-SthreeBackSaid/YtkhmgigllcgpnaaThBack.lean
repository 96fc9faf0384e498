/-
  Who comes back from the ghost goes to main: the statement, walked. No conditions but those of the calls.
-/
import Derived.Test.YtkhmgigllcgpnaaThHas
namespace Go.Proofs.Ytkhmgigllcgpnaa.Th
open Go Go.RowKit Go.Lib

theorem ins_g0 (x : Int) : (st0.ins 1 x).g = [] := by
  have h : st0.g = [] := by rw [st0_is]
  unfold Th.ins
  split
  · show Gh.rmL st0.g x = []; rw [h]; rfl
  · exact h
set_option maxRecDepth 100000 in
set_option maxHeartbeats 2000000 in
theorem back_law (x o : Nat) (hx : x < 18446744073709551616) (ho : o < 18446744073709551616) (w : World) :
    Calls Try.prog 7 #[.int .u64 x, .int .u64 o] w fun e w' => e = .returned (.bool true) ∧ Below w.heap.size w w' := by
  have hsh := shown_any w
  have HX : Hid (u64ok (x : Int) ∧ u64ok (o : Int)) := hid ⟨by unfold u64ok; omega, by unfold u64ok; omega⟩
  have HK := hid (back (x : Int) (o : Int))
  have hxo := hid (show ((o : Int) = (x : Int)) ↔ o = x by omega)
  clear hx ho
  go_enter Try.func7, Try.ntmps7
  go_wp2_with fail
  refine hsh.mono ?_
  rintro e w1 ⟨rfl, b1⟩
  have hnew := tt_new w1
  have B1 := hid b1
  clear hsh b1
  go_wp2_with fail
  refine hnew.mono ?_
  rintro e w2 ⟨P, rfl, h2⟩
  have hc := tt_cap h2 10 (small_i64 (by omega) (by omega))
  clear hnew h2
  go_wp2_with fail
  refine hc.mono ?_
  rintro e w3 ⟨rfl, h3, -⟩
  replace h3 : TT w1 P st0 (fun _ => False) w3 := h3
  have hi := tt_insert h3 1 (x : Int) (small_i64 (by decide) (by decide)) HX.out.1
  generalize st0.insB 1 = A1 at *
  clear hc h3
  go_wp2_with fail
  refine hi.mono ?_
  rintro e w4 ⟨rfl, h4, -⟩
  have he := tt_evict h4 (by rw [ins_g0]; decide) 1 (small_i64 (by decide) (by decide))
  rw [HK.out.1] at he
  clear hi h4
  go_wp2_with fail
  refine he.mono ?_
  rintro e w5 ⟨rfl, h5, -⟩
  have hg := tt_ghosts h5
  rw [HK.out.2.1] at hg
  clear he h5
  go_wp2_with fail
  refine hg.mono ?_
  rintro e w6 ⟨v, rfl, ho, h6, -⟩
  obtain ⟨g, cap, rfl, -, -, -⟩ := row_pos ho Nat.one_pos
  have c0 := ho.cellAt 0 Nat.one_pos
  replace c0 : w6.cell? ⟨g, 0, none⟩ = some (.int .u64 (x : Int)) := c0
  have hi := tt_insert h6 2 (o : Int) (small_i64 (by decide) (by decide)) HX.out.2
  rw [HK.out.2.2.1] at hi
  clear hg ho h6
  go_wp2_with fail
  refine hi.mono ?_
  rintro e w7 ⟨rfl, h7, -⟩
  have hi := tt_insert h7 3 (x : Int) (small_i64 (by decide) (by decide)) HX.out.1
  rw [HK.out.2.2.2.1] at hi
  have HL := hid HK.out.2.2.2.2
  clear h7 HK c0
  go_wp2_with fail
  refine hi.mono ?_
  rintro e w8 ⟨rfl, h8, -⟩
  generalize (((st0.ins 1 (x : Int)).evict 1).ins 2 (o : Int)).ins 3 (x : Int) = s8 at *
  by_cases e : o = x
  · have hL := HL.out.1 (hxo.out.2 e)
    have ha := tt_all h8 0
    rw [show rowAt s8.L 0 = [3] by rw [hL]; rfl] at ha
    have HA1 : Hid (∀ w9, TT w1 P s8 (fun _ => False) w9 → Calls Try.prog 16 #[.pointer (some ⟨P, 0, none⟩), .int .i64 1] w9 fun e w' => ∃ v, e = .returned v ∧ w'.ownsRow w9.heap.size 3 1 v ([2] : List Int).length (ic [2]) ∧ TT w1 P s8 (fun _ => False) w' ∧ Below w9.heap.size w9 w') := hid (fun w9 h => by
      have := tt_all h 1
      rw [show rowAt s8.L 1 = [2] by rw [hL]; rfl] at this
      exact this)
    subst e
    clear hi h8 HL hL hxo
    go_wp2_with fail
    refine ha.mono ?_
    rintro e w9 ⟨v, rfl, ho, h9, b9⟩
    obtain ⟨g1, cap1, rfl, -, -, l1⟩ := row_pos ho (by decide)
    have d0 := ho.cellAt 0 (by decide)
    replace d0 : w9.cell? ⟨g1, 0, none⟩ = some (.int .i64 3) := d0
    have ha1 := HA1.out _ h9
    clear ha ho HA1 h9
    go_wp2_with fail
    refine ha1.mono ?_
    rintro e w10 ⟨v, rfl, ho, h10, b10⟩
    obtain ⟨g2, cap2, rfl, -, -, -⟩ := row_pos ho (by decide)
    have d2 := ho.cellAt 0 (by decide)
    replace d2 : w10.cell? ⟨g2, 0, none⟩ = some (.int .i64 2) := d2
    have d1 : w10.cell? ⟨g1, 0, none⟩ = some (.int .i64 3) := (b10.cell (p := ⟨g1, 0, none⟩) l1).trans d0
    have HB := hid (Below.then B1.out h10.below)
    clear ha1 ho h10 b10 b9 d0
    go_wp2_with fail
    go_ret
    exact ⟨rfl, HB.out⟩
  · have hL := HL.out.2 (fun h => e (hxo.out.1 h))
    have ne : ((o : Int) == (x : Int)) = false := beq_eq_false_iff_ne.2 (fun h => e (hxo.out.1 h))
    have ne2 : (o == x) = false := beq_eq_false_iff_ne.2 e
    have ha := tt_all h8 0
    rw [show rowAt s8.L 0 = [2] by rw [hL.1]; rfl] at ha
    have HA1 : Hid (∀ w9, TT w1 P s8 (fun _ => False) w9 → Calls Try.prog 16 #[.pointer (some ⟨P, 0, none⟩), .int .i64 1] w9 fun e w' => ∃ v, e = .returned v ∧ w'.ownsRow w9.heap.size 3 1 v ([3] : List Int).length (ic [3]) ∧ TT w1 P s8 (fun _ => False) w' ∧ Below w9.heap.size w9 w') := hid (fun w9 h => by
      have := tt_all h 1
      rw [show rowAt s8.L 1 = [3] by rw [hL.1]; rfl] at this
      exact this)
    have HG := hid hL.2
    clear hi h8 HL hL hxo e
    go_wp2_with fail
    refine ha.mono ?_
    rintro e w9 ⟨v, rfl, ho, h9, b9⟩
    obtain ⟨g1, cap1, rfl, -, -, l1⟩ := row_pos ho (by decide)
    have d0 := ho.cellAt 0 (by decide)
    replace d0 : w9.cell? ⟨g1, 0, none⟩ = some (.int .i64 2) := d0
    have ha1 := HA1.out _ h9
    clear ha ho HA1 h9
    go_wp2_with fail
    refine ha1.mono ?_
    rintro e w10 ⟨v, rfl, ho, h10, b10⟩
    obtain ⟨g2, cap2, rfl, -, -, -⟩ := row_pos ho (by decide)
    have d2 := ho.cellAt 0 (by decide)
    replace d2 : w10.cell? ⟨g2, 0, none⟩ = some (.int .i64 3) := d2
    have d1 : w10.cell? ⟨g1, 0, none⟩ = some (.int .i64 2) := (b10.cell (p := ⟨g1, 0, none⟩) l1).trans d0
    have hg := tt_ghosts h10
    rw [HG.out] at hg
    clear ha1 ho h10 b10 b9 d0 HG
    go_wp2_with fail
    refine hg.mono ?_
    rintro e w11 ⟨v, rfl, ho, h11, -⟩
    obtain ⟨a9, c9, rfl⟩ := row_form ho
    have HB := hid (Below.then B1.out h11.below)
    clear hg ho h11
    go_wp2_with fail
    go_ret
    exact ⟨rfl, HB.out⟩
end Go.Proofs.Ytkhmgigllcgpnaa.Th
