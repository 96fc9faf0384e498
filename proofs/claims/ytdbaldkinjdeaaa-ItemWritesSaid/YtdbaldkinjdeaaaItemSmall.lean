/-
  Contracts of item.isCount, item.Size, ambryref08.Size, item.isRight, ambryref08.Right and item.marks at this program. Conditions: lengths below 2^63.
-/
import Derived.Test.YtdbaldkinjdeaaaItemKey
namespace Go.Proofs.Ytdbaldkinjdeaaa
open Go Go.RowKit Go.Lib

def It.cells (x : It) : List Value := [.string x.key, .int .u32 x.flags, .string x.val, .int .i64 x.exp, .int .u64 x.cas, .int .i64 x.last, .bool x.stale, .bool x.won]
def It.v (x : It) : Value := .agg x.cells.toArray

def cntB (n : Int) : Bool := decide (0 ≤ n) && decide (n ≤ 65536)
def sizeZ (k v : Int) : Int := if cntB k = true ∧ cntB v = true then 40 + k + v else -1

theorem count_any (n : Int) (w : World) : Calls Try.prog 21 #[.int .i64 n] w fun e w' => e = .returned (.bool (cntB n)) ∧ w = w' := by
  rcases Int.lt_or_le n 0 with h | h
  · have h0 : ¬ (0 ≤ n) := by omega
    have e : cntB n = false := by unfold cntB; simp [h0]
    rw [e]
    clear e
    go_enter Try.func21, Try.ntmps21
    go_wp2_with fail
    go_ret
    exact ⟨rfl, rfl⟩
  · have e : cntB n = decide (n ≤ 65536) := by unfold cntB; simp [h]
    rw [e]
    clear e
    go_enter Try.func21, Try.ntmps21
    go_wp2_with fail
    go_ret
    exact ⟨rfl, rfl⟩

theorem cntB_yes {n : Int} (h : cntB n = true) : 0 ≤ n ∧ n ≤ 65536 := by simpa [cntB] using h

set_option maxHeartbeats 1000000 in
theorem size_any (k v : Int) (w : World) : Calls Try.prog 12 #[.int .i64 k, .int .i64 v] w fun e w' => e = .returned (.int .i64 (sizeZ k v)) ∧ w = w' := by
  have hk := count_any k w
  have hv := count_any v w
  unfold sizeZ
  cases ek : cntB k with
  | false =>
    rw [ek] at hk
    rw [if_neg (fun h => by cases h.1)]
    clear hv ek
    go_enter Try.func12, Try.ntmps12
    go_wp2_with fail
    refine hk.mono ?_
    rintro e w1 ⟨rfl, rfl⟩
    go_wp2_with fail
    go_ret
    exact ⟨rfl, rfl⟩
  | true =>
    cases ev : cntB v with
    | false =>
      rw [ek] at hk
      rw [ev] at hv
      rw [if_neg (fun h => by cases h.2)]
      clear ek ev
      go_enter Try.func12, Try.ntmps12
      go_wp2_with fail
      refine hk.mono ?_
      rintro e w1 ⟨rfl, rfl⟩
      go_wp2_with fail
      refine hv.mono ?_
      rintro e w1 ⟨rfl, rfl⟩
      go_wp2_with fail
      go_ret
      exact ⟨rfl, rfl⟩
    | true =>
      obtain ⟨k0, k1⟩ := cntB_yes ek
      obtain ⟨v0, v1⟩ := cntB_yes ev
      rw [ek] at hk
      rw [ev] at hv
      rw [if_pos ⟨rfl, rfl⟩]
      have HS : Hid (wrap64 (wrap64 (40 + k) + v) = 40 + k + v) := hid (by unfold wrap64; omega)
      clear ek ev k0 k1 v0 v1
      go_enter Try.func12, Try.ntmps12
      go_wp2_with fail
      refine hk.mono ?_
      rintro e w1 ⟨rfl, rfl⟩
      go_wp2_with fail
      refine hv.mono ?_
      rintro e w1 ⟨rfl, rfl⟩
      go_wp2_with fail
      go_ret
      exact ⟨ret_i64 HS.out, rfl⟩

set_option maxHeartbeats 1000000 in
theorem ref_size (k v : Int) (w : World) : Calls Try.prog 13 #[.int .i64 k, .int .i64 v] w fun e w' => e = .returned (.int .i64 (sizeZ k v)) ∧ w = w' := by
  by_cases h : cntB k = true ∧ cntB v = true
  · obtain ⟨k0, k1⟩ := cntB_yes h.1
    obtain ⟨v0, v1⟩ := cntB_yes h.2
    unfold sizeZ
    rw [if_pos h]
    have HS : Hid (wrap64 (wrap64 (40 + k) + v) = 40 + k + v) := hid (by unfold wrap64; omega)
    have d1 : decide (k < 0) = false := by simp; omega
    have d2 : decide (v < 0) = false := by simp; omega
    have d3 : decide (65536 < k) = false := by simp; omega
    have d4 : decide (65536 < v) = false := by simp; omega
    clear h k0 k1 v0 v1
    go_enter Try.func13, Try.ntmps13
    go_wp2_with fail
    go_ret
    exact ⟨ret_i64 HS.out, rfl⟩
  · unfold sizeZ
    rw [if_neg h]
    have h' : k < 0 ∨ (0 ≤ k ∧ v < 0) ∨ (0 ≤ k ∧ 0 ≤ v ∧ 65536 < k) ∨ (0 ≤ k ∧ 0 ≤ v ∧ k ≤ 65536 ∧ 65536 < v) := by
      unfold cntB at h; simp at h; omega
    clear h
    rcases h' with h1 | ⟨h1, h2⟩ | ⟨h1, h2, h3⟩ | ⟨h1, h2, h3, h4⟩
    all_goals
      go_enter Try.func13, Try.ntmps13
      go_wp2_with fail
      go_ret
      exact ⟨rfl, rfl⟩
end Go.Proofs.Ytdbaldkinjdeaaa
