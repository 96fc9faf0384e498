/-
  The laws HashOf, HashParts, HashSplits at this program. Conditions: a text takes at most 2^48 bytes.
-/
import Derived.Test.YtekjiljilhlmpaaHash
namespace Go.Proofs.Ytekjiljilhlmpaa
open Go Go.RowKit Go.Lib

theorem fnv_a : fnv [97] = 12638187200555641996 := by decide +kernel
set_option maxRecDepth 100000 in
theorem shown_any (w : World) : Calls Try.prog 9 #[] w fun e w' => e = .returned (.bool true) ∧ w = w' := by
  have h1 := fun w => of_any ⟨#[97]⟩ (by decide) w
  have e1 : ((fnv (⟨#[97]⟩ : ByteArray).data.toList : Nat) : Int) = 12638187200555641996 := congrArg (fun n : Nat => (n : Int)) fnv_a
  rw [e1] at h1
  have h2 : ∀ w, Calls Try.prog 12 #[.int .u64 13, .int .i64 2] w fun e w' => e = .returned (.int .i64 1) ∧ w = w' := fun w => bucket_any 13 2 (by omega) (by omega) w
  have h3 : ∀ w, Calls Try.prog 14 #[.int .u64 21474836480, .int .i64 3] w fun e w' => e = .returned (.int .i64 2) ∧ w = w' := fun w => stripe_any 21474836480 3 (by omega) (by omega) (by omega) w
  clear e1
  go_enter Try.func9, Try.ntmps9
  go_wp2_with fail
  refine (h1 _).mono ?_
  rintro e w1 ⟨rfl, rfl⟩
  go_wp2_with fail
  refine (h2 _).mono ?_
  rintro e w1 ⟨rfl, rfl⟩
  go_wp2_with fail
  refine (h3 _).mono ?_
  rintro e w1 ⟨rfl, rfl⟩
  go_wp2_with fail
  go_ret
  exact ⟨rfl, rfl⟩

set_option maxRecDepth 100000 in
theorem of_law (s : ByteArray) (hs : s.size ≤ 281474976710656) (w : World) : Calls Try.prog 3 #[.string s] w fun e w' => e = .returned (.bool true) ∧ Below w.heap.size w w' := by
  have h1 := fun w => of_any s hs w
  have h2 := fun w => ref_of s hs w
  generalize fnv s.data.toList = H at *
  go_enter Try.func3, Try.ntmps3
  go_wp2_with fail
  refine (shown_any _).mono ?_
  rintro e w1 ⟨rfl, rfl⟩
  go_wp2_with fail
  refine (h1 _).mono ?_
  rintro e w1 ⟨rfl, rfl⟩
  go_wp2_with fail
  refine (h2 _).mono ?_
  rintro e w1 ⟨rfl, rfl⟩
  go_wp2_with fail
  go_ret
  exact ⟨rfl, Below.refl _ _⟩

/-- What both answer. -/
theorem buckets (h : Nat) (hh : h < 18446744073709551616) (p : Int) : ∃ b : Int, (∀ w, Calls Try.prog 12 #[.int .u64 h, .int .i64 p] w fun e w' => e = .returned (.int .i64 b) ∧ w = w')
    ∧ (∀ w, Calls Try.prog 13 #[.int .u64 h, .int .i64 p] w fun e w' => e = .returned (.int .i64 b) ∧ w = w') := by
  by_cases hp : p < 0 ∨ 30 < p
  · exact ⟨0, fun w => bucket_out _ p hp w, fun w => ref_bucket_out _ p hp w⟩
  · obtain ⟨k, rfl⟩ : ∃ k : Nat, p = k := ⟨p.toNat, by omega⟩
    exact ⟨_, fun w => bucket_any h k hh (by omega) w, fun w => ref_bucket h k hh (by omega) w⟩
theorem stripes (h : Nat) (hh : h < 18446744073709551616) (n : Int) (hn : n ≤ 9223372036854775807) : ∃ b : Int, (∀ w, Calls Try.prog 14 #[.int .u64 h, .int .i64 n] w fun e w' => e = .returned (.int .i64 b) ∧ w = w')
    ∧ (∀ w, Calls Try.prog 15 #[.int .u64 h, .int .i64 n] w fun e w' => e = .returned (.int .i64 b) ∧ w = w') := by
  by_cases hp : n < 1
  · exact ⟨0, fun w => stripe_out _ n hp w, fun w => ref_stripe_out _ n hp w⟩
  · obtain ⟨k, rfl⟩ : ∃ k : Nat, n = k := ⟨n.toNat, by omega⟩
    exact ⟨_, fun w => stripe_any h k hh (by omega) (by omega) w, fun w => ref_stripe h k hh (by omega) (by omega) w⟩
set_option maxRecDepth 100000 in
theorem parts_law (h : Nat) (hh : h < 18446744073709551616) (p : Int) (_ : -9223372036854775808 ≤ p) (_ : p ≤ 9223372036854775807) (n : Int) (_ : -9223372036854775808 ≤ n) (n2 : n ≤ 9223372036854775807) (w : World) :
    Calls Try.prog 4 #[.int .u64 h, .int .i64 p, .int .i64 n] w fun e w' => e = .returned (.bool true) ∧ Below w.heap.size w w' := by
  obtain ⟨b, h1, h2⟩ := buckets h hh p
  obtain ⟨c, h3, h4⟩ := stripes h hh n n2
  clear n2 hh
  generalize (h : Int) = H at *
  go_enter Try.func4, Try.ntmps4
  go_wp2_with fail
  refine (shown_any _).mono ?_
  rintro e w1 ⟨rfl, rfl⟩
  go_wp2_with fail
  refine (h1 _).mono ?_
  rintro e w1 ⟨rfl, rfl⟩
  go_wp2_with fail
  refine (h2 _).mono ?_
  rintro e w1 ⟨rfl, rfl⟩
  go_wp2_with fail
  refine (h3 _).mono ?_
  rintro e w1 ⟨rfl, rfl⟩
  go_wp2_with fail
  refine (h4 _).mono ?_
  rintro e w1 ⟨rfl, rfl⟩
  go_wp2_with fail
  go_ret
  exact ⟨rfl, Below.refl _ _⟩
end Go.Proofs.Ytekjiljilhlmpaa
