/-
  The laws HashSplits, HashOne at this program. No conditions.
-/
import Derived.Test.YtekjiljilhlmpaaHashLaws
namespace Go.Proofs.Ytekjiljilhlmpaa
open Go Go.RowKit Go.Lib

theorem fold_lit (p : Int) (c : Nat) (hc : 0 < c) : ∃ k : Nat, k < c ∧ ((p < 0 ∧ (p + 1).tmod (c : Int) = -(k : Int)) ∨ (¬ p < 0 ∧ 0 ≤ p ∧ p % (c : Int) = (k : Int))) := by
  by_cases h : p < 0
  · obtain ⟨j, hj⟩ : ∃ j : Nat, p = -(j : Int) - 1 := ⟨(-(p + 1)).toNat, by omega⟩
    refine ⟨j % c, Nat.mod_lt _ hc, .inl ⟨h, ?_⟩⟩
    subst hj
    rw [show -(j : Int) - 1 + 1 = -(j : Int) from by omega, Int.neg_tmod, Int.tmod_eq_emod_of_nonneg (by omega)]; rfl
  · obtain ⟨j, hj⟩ : ∃ j : Nat, p = (j : Int) := ⟨p.toNat, by omega⟩
    refine ⟨j % c, Nat.mod_lt _ hc, .inr ⟨h, by omega, ?_⟩⟩
    subst hj; rfl
/-- One bit more. -/
theorem split_of (h k : Nat) : h % 2 ^ (k + 1) = h % 2 ^ k ∨ h % 2 ^ (k + 1) = h % 2 ^ k + 2 ^ k := by
  rw [Nat.pow_succ, Nat.mod_mul]
  rcases Nat.mod_two_eq_zero_or_one (h / 2 ^ k) with e | e
  · left; rw [e, Nat.mul_zero, Nat.add_zero]
  · right; rw [e, Nat.mul_one]

theorem stripe_one (h : Nat) (hh : h < 18446744073709551616) (n : Int) (hn : n ≤ 9223372036854775807) : ∃ s : Int, (∀ w, Calls Try.prog 14 #[.int .u64 h, .int .i64 n] w fun e w' => e = .returned (.int .i64 s) ∧ w = w')
    ∧ ((n < 1 ∧ s = 0) ∨ (¬ n < 1 ∧ 1 ≤ n ∧ 0 ≤ s ∧ s < n)) := by
  by_cases hp : n < 1
  · exact ⟨0, fun w => stripe_out _ n hp w, .inl ⟨hp, rfl⟩⟩
  · obtain ⟨k, rfl⟩ : ∃ k : Nat, n = k := ⟨n.toNat, by omega⟩
    have := Nat.mod_lt (h / 4294967296) (show 0 < k by omega)
    exact ⟨_, fun w => stripe_any h k hh (by omega) (by omega) w, .inr ⟨hp, by omega, by omega, by omega⟩⟩

set_option maxHeartbeats 1000000 in
set_option maxRecDepth 100000 in
theorem splits_law (h : Nat) (hh : h < 18446744073709551616) (p : Int) (p1 : -9223372036854775808 ≤ p) (p2 : p ≤ 9223372036854775807) (n : Int) (n1 : -9223372036854775808 ≤ n) (n2 : n ≤ 9223372036854775807) (w : World) :
    Calls Try.prog 5 #[.int .u64 h, .int .i64 p, .int .i64 n] w fun e w' => e = .returned (.bool true) ∧ Below w.heap.size w w' := by
  obtain ⟨k, hk, hpk⟩ := fold_lit p 30 (by decide)
  have c1 := fun w => bucket_any h k hh (by omega) w
  have c2 : ∀ w, Calls Try.prog 12 #[.int .u64 h, .int .i64 ((k : Int) + 1)] w fun e w' => e = .returned (.int .i64 (h % 2 ^ (k + 1) : Nat)) ∧ w = w' := fun w => bucket_any h (k + 1) hh (by omega) w
  obtain ⟨s, c3, hs⟩ := stripe_one h hh n n2
  have hsp := split_of h k
  obtain ⟨q1, q2⟩ := pow_le k (by omega)
  have hab : h % 2 ^ k < 2 ^ k := Nat.mod_lt _ q1
  have eP := pow_int k
  have eQ : wrap64 (2 ^ k) = ((2 ^ k : Nat) : Int) := by rw [eP]; unfold wrap64; omega
  generalize hA : h % 2 ^ k = a at *
  generalize hB : h % 2 ^ (k + 1) = b at *
  generalize 2 ^ k = P at *
  clear hA hB
  have k2 : (k : Int) ≤ 29 := by omega
  have e30 : ((30 : Nat) : Int) = 30 := rfl
  rw [e30] at hpk
  clear e30 hh
  generalize (h : Int) = H at *
  rcases hpk with ⟨hp, e0⟩ | ⟨hp, hp2, e0⟩
  all_goals
    rcases hsp with rfl | rfl
  all_goals
    rcases hs with ⟨hn, rfl⟩ | ⟨hn, hn2, s1, s2⟩
  all_goals
    go_enter Try.func5, Try.ntmps5
    go_wp2_with fail
    refine (shown_any _).mono ?_
    rintro e w1 ⟨rfl, rfl⟩
    go_wp2_with fail
    refine (c1 _).mono ?_
    rintro e w1 ⟨rfl, rfl⟩
    go_wp2_with fail
    refine (c2 _).mono ?_
    rintro e w1 ⟨rfl, rfl⟩
    go_wp2_with fail
    refine (c3 _).mono ?_
    rintro e w1 ⟨rfl, rfl⟩
    go_wp2_with fail
    all_goals (first | (exfalso; omega) | (go_ret; exact ⟨rfl, Below.refl _ _⟩))

theorem up_of (h m k : Nat) (hk : k ≤ 30) : ∃ U : Nat, IntKind.u64.wrap ((h : Int) + IntKind.u64.wrap ((m : Int) * 2 ^ k)) = (U : Int) ∧ U < 18446744073709551616 ∧ U % 2 ^ k = h % 2 ^ k := by
  refine ⟨(h + m * 2 ^ k) % 18446744073709551616, ?_, Nat.mod_lt _ (by decide), ?_⟩
  · rw [IntKind.wrap_u64, IntKind.wrap_u64, pow_int, ← Int.natCast_mul]
    generalize m * 2 ^ k = X
    omega
  · obtain ⟨Q, hQ⟩ : ∃ Q, 18446744073709551616 = 2 ^ k * Q := ⟨2 ^ (64 - k), by rw [← Nat.pow_add, show k + (64 - k) = 64 from by omega]⟩
    rw [hQ, Nat.mod_mul_right_mod, Nat.add_mul_mod_self_right]
theorem low_of (h m : Nat) (hh : h < 18446744073709551616) (hm : m < 18446744073709551616) : ∃ L : Nat, IntKind.u64.wrap ((h : Int) / 4294967296 * 4294967296 + bits .and .u64 (m : Int) 4294967295) = (L : Int) ∧ L < 18446744073709551616 ∧ L / 4294967296 = h / 4294967296 := by
  have e : bits .and .u64 (m : Int) 4294967295 = (m : Int) % 4294967296 := by
    have := bits_mask .u64 64 (by decide) wraps_u64' 32 (by decide) (m : Int) (by omega) (by omega)
    rw [show ((2 : Int) ^ 32 - 1) = 4294967295 from rfl] at this
    rw [this]; rfl
  refine ⟨h / 4294967296 * 4294967296 + m % 4294967296, ?_, by omega, by omega⟩
  rw [e, IntKind.wrap_u64]; omega

set_option maxHeartbeats 1000000 in
set_option maxRecDepth 100000 in
theorem one_law (h : Nat) (hh : h < 18446744073709551616) (m : Nat) (hm : m < 18446744073709551616) (p : Int) (p1 : -9223372036854775808 ≤ p) (p2 : p ≤ 9223372036854775807) (n : Int) (n1 : -9223372036854775808 ≤ n) (n2 : n ≤ 9223372036854775807) (w : World) :
    Calls Try.prog 8 #[.int .u64 h, .int .u64 m, .int .i64 p, .int .i64 n] w fun e w' => e = .returned (.bool true) ∧ Below w.heap.size w w' := by
  obtain ⟨k, hk, hpk⟩ := fold_lit p 31 (by decide)
  obtain ⟨U, eU, U1, U2⟩ := up_of h m k (by omega)
  obtain ⟨L, eL, L1, L2⟩ := low_of h m hh hm
  have c1 : ∀ w, Calls Try.prog 14 #[.int .u64 h, .int .i64 1] w fun e w' => e = .returned (.int .i64 0) ∧ w = w' := fun w => by
    have := stripe_any h 1 hh (by omega) (by omega) w
    rw [Nat.mod_one] at this; exact this
  have c2 : ∀ w, Calls Try.prog 12 #[.int .u64 h, .int .i64 0] w fun e w' => e = .returned (.int .i64 0) ∧ w = w' := fun w => by
    have := bucket_any h 0 hh (by omega) w
    rw [Nat.pow_zero, Nat.mod_one] at this; exact this
  have c3 := fun w => bucket_any h k hh (by omega) w
  have c4 := fun w => bucket_any U k U1 (by omega) w
  rw [U2] at c4
  have c56 : ∃ s : Int, (∀ w, Calls Try.prog 14 #[.int .u64 h, .int .i64 n] w fun e w' => e = .returned (.int .i64 s) ∧ w = w') ∧ (∀ w, Calls Try.prog 14 #[.int .u64 L, .int .i64 n] w fun e w' => e = .returned (.int .i64 s) ∧ w = w') := by
    by_cases hp : n < 1
    · exact ⟨0, fun w => stripe_out _ n hp w, fun w => stripe_out _ n hp w⟩
    · obtain ⟨j, rfl⟩ : ∃ j : Nat, n = j := ⟨n.toNat, by omega⟩
      refine ⟨_, fun w => stripe_any h j hh (by omega) (by omega) w, fun w => ?_⟩
      rw [← L2]
      exact stripe_any L j L1 (by omega) (by omega) w
  obtain ⟨s, c5, c6⟩ := c56
  have k2 : (k : Int) ≤ 30 := by omega
  have e31 : ((31 : Nat) : Int) = 31 := rfl
  rw [e31] at hpk
  generalize h % 2 ^ k = b at *
  clear e31 U2 L2 n1 n2 hk
  rcases hpk with ⟨hp, e0⟩ | ⟨hp, hp2, e0⟩
  all_goals
    go_enter Try.func8, Try.ntmps8
    go_wp2_with fail
    refine (shown_any _).mono ?_
    rintro e w1 ⟨rfl, rfl⟩
    go_wp2_with fail
    refine (c1 _).mono ?_
    rintro e w1 ⟨rfl, rfl⟩
    go_wp2_with fail
    refine (c2 _).mono ?_
    rintro e w1 ⟨rfl, rfl⟩
    go_wp2_with fail
    refine (c4 _).mono ?_
    rintro e w1 ⟨rfl, rfl⟩
    go_wp2_with fail
    refine (c3 _).mono ?_
    rintro e w1 ⟨rfl, rfl⟩
    go_wp2_with fail
    refine (c6 _).mono ?_
    rintro e w1 ⟨rfl, rfl⟩
    go_wp2_with fail
    refine (c5 _).mono ?_
    rintro e w1 ⟨rfl, rfl⟩
    go_wp2_with fail
    go_ret
    exact ⟨rfl, Below.refl _ _⟩
end Go.Proofs.Ytekjiljilhlmpaa
