/-
  The small case that must work (shown) at this program: it is true. No conditions. And the law of Size (ItemSizes), for any two numbers of an int.
-/
import Derived.Test.YtdbaldkinjdeaaaItemEnc
import Derived.Laws.StructEq
namespace Go.Proofs.Ytdbaldkinjdeaaa
open Go Go.RowKit Go.Lib

def x0 : It := ⟨⟨#[107]⟩, 5, ⟨#[118]⟩, 0, 258, 0, false, false⟩
theorem x0_ok : x0.Ok := ⟨by decide, by decide, by decide, by decide, by decide, by decide⟩
theorem x0_right : x0.right = true := by decide
theorem x0_enc : x0.enc = [1, 0, 0, 0, 5, 0, 0, 0, 1, 0, 0, 0, 0, 0, 0, 0, 0, 0, 0, 0, 0, 0, 0, 0, 2, 1, 0, 0, 0, 0, 0, 0, 0, 0, 0, 0, 0, 0, 0, 0, 107, 118] := by decide

set_option maxHeartbeats 2000000 in
set_option maxRecDepth 100000 in
theorem shown_any (w : World) : Calls Try.prog 9 #[] w fun e w' => e = .returned (.bool true) ∧ Below w.heap.size w w' := by
  have he := enc_ok x0 x0_ok x0_right w
  have hs := fun w => size_any 1 1 w
  rw [show sizeZ 1 1 = 42 from by decide] at hs
  rw [x0_enc] at he
  simp only [It.v, It.cells, x0] at he
  go_enter Try.func9, Try.ntmps9
  go_wp2_with fail
  refine he.mono ?_
  rintro e w1 ⟨g, rfl, hg, hB, hb⟩
  have c0 : w1.cell? ⟨g, 0, none⟩ = some (.int .u8 1) := hB.cell rfl
  have c4 : w1.cell? ⟨g, 4, none⟩ = some (.int .u8 5) := hB.cell rfl
  have c24 : w1.cell? ⟨g, 24, none⟩ = some (.int .u8 2) := hB.cell rfl
  have c25 : w1.cell? ⟨g, 25, none⟩ = some (.int .u8 1) := hB.cell rfl
  have c41 : w1.cell? ⟨g, 41, none⟩ = some (.int .u8 118) := hB.cell rfl
  have HB := hid hb
  clear he hB hb hg
  go_wp2_with fail
  refine (hs _).mono ?_
  rintro e w2 ⟨rfl, rfl⟩
  go_wp2_with fail
  go_ret
  exact ⟨rfl, HB.out⟩

set_option maxHeartbeats 2000000 in
set_option maxRecDepth 100000 in
theorem sizes_law (k v : Int) (_k0 : -9223372036854775808 ≤ k) (_k1 : k ≤ 9223372036854775807) (_v0 : -9223372036854775808 ≤ v) (_v1 : v ≤ 9223372036854775807) (w : World) :
    Calls Try.prog 7 #[.int .i64 k, .int .i64 v] w fun e w' => e = .returned (.bool true) ∧ Below w.heap.size w w' := by
  have hs := fun w => size_any k v w
  by_cases h : cntB k = true ∧ cntB v = true
  · obtain ⟨k0, k1⟩ := cntB_yes h.1
    obtain ⟨v0, v1⟩ := cntB_yes h.2
    have e : sizeZ k v = wrap64 (wrap64 (40 + k) + v) := by unfold sizeZ wrap64; rw [if_pos h]; omega
    rw [e] at hs
    have d1 : ¬ k < 0 := by omega
    have d2 : ¬ v < 0 := by omega
    have d3 : ¬ 65536 < k := by omega
    have d4 : ¬ 65536 < v := by omega
    clear h e k0 k1 v0 v1
    go_enter Try.func7, Try.ntmps7
    go_wp2_with fail
    refine (shown_any _).mono ?_
    rintro e w1 ⟨rfl, b1⟩
    go_wp2_with fail
    refine (hs _).mono ?_
    rintro e w2 ⟨rfl, rfl⟩
    go_wp2_with fail
    go_ret
    exact ⟨ret_bool (by simp; unfold wrap64; omega), b1⟩
  · have e : sizeZ k v = -1 := by unfold sizeZ; rw [if_neg h]
    rw [e] at hs
    have h' : k < 0 ∨ (0 ≤ k ∧ v < 0) ∨ (0 ≤ k ∧ 0 ≤ v ∧ 65536 < k) ∨ (0 ≤ k ∧ 0 ≤ v ∧ k ≤ 65536 ∧ 65536 < v) := by
      unfold cntB at h; simp at h; omega
    clear h e
    rcases h' with h1 | ⟨h1, h2⟩ | ⟨h1, h2, h3⟩ | ⟨h1, h2, h3, h4⟩
    all_goals
      go_enter Try.func7, Try.ntmps7
      go_wp2_with fail
      refine (shown_any _).mono ?_
      rintro e w1 ⟨rfl, b1⟩
      go_wp2_with fail
      refine (hs _).mono ?_
      rintro e w2 ⟨rfl, rfl⟩
      go_wp2_with fail
      go_ret
      exact ⟨rfl, b1⟩
end Go.Proofs.Ytdbaldkinjdeaaa
