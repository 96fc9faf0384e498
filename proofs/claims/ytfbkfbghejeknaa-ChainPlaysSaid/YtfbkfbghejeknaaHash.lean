/-
  The contracts of package hash and of the document's own answers at this program: Of, Bucket and Stripe of any text and numbers. No conditions.
-/
import Derived.Test.YtfbkfbghejeknaaRows
import Derived.Test.YtfbkfbghejeknaaHashMath
import Derived.Test.YtfbkfbghejeknaaArenaBase
import Derived.WalkKit
import Derived.ProofKit
import Derived.OpenShut
import Derived.BigGuard
import Derived.IntWalk
import Derived.Lib.Hide
namespace Go.Proofs.Ytfbkfbghejeknaa
open Go Go.RowKit Go.Lib

def S (l : List UInt8) : ByteArray := ⟨l.toArray⟩
theorem size_len (s : ByteArray) : s.size = s.data.toList.length := Lib.size_eq s
theorem S_list (l : List UInt8) : (S l).data.toList = l := by simp [S]

theorem ret_u64 {a b : Int} (h : a = b) : Ending.returned (.int .u64 a) = .returned (.int .u64 b) := by rw [h]
theorem int_u64 {a b : Int} (h : a = b) : Value.int .u64 a = .int .u64 b := by rw [h]

theorem pow_le (p : Nat) (hp : p ≤ 30) : 1 ≤ 2 ^ p ∧ 2 ^ p ≤ 1073741824 := ⟨Nat.two_pow_pos p, Nat.pow_le_pow_right (by decide) hp⟩
theorem wraps_u64' (n : Int) (h₀ : 0 ≤ n) (h₁ : n < 2 ^ 64) : IntKind.u64.wrap n = n := by rw [IntKind.wrap_u64]; omega
theorem pow_int (p : Nat) : (2 : Int) ^ p = ((2 ^ p : Nat) : Int) := by rw [Int.natCast_pow]; rfl
theorem low_bits (h p : Nat) (hh : h < 18446744073709551616) (hp : p ≤ 30) :
    wrap64 (bits .and .u64 (h : Int) (IntKind.u64.wrap (IntKind.u64.wrap (2 ^ p) - 1))) = ((h % 2 ^ p : Nat) : Int) := by
  obtain ⟨q1, q2⟩ := pow_le p hp
  have e1 : IntKind.u64.wrap (2 ^ p) = 2 ^ p := by rw [pow_int]; exact wraps_u64' _ (by omega) (by omega)
  have e2 : IntKind.u64.wrap ((2 : Int) ^ p - 1) = 2 ^ p - 1 := by rw [pow_int]; exact wraps_u64' _ (by omega) (by omega)
  rw [e1, e2, bits_mask .u64 64 (by decide) wraps_u64' p (by omega) (h : Int) (by omega) (by omega), pow_int, ← Int.natCast_emod]
  have q3 : h % 2 ^ p < 2 ^ p := Nat.mod_lt _ q1
  unfold wrap64; omega

set_option maxRecDepth 100000 in
theorem of_any (s : ByteArray) (hs : s.size ≤ 9223372036854775807) (w : World) : Calls Try.prog 25 #[.string s] w fun e w' => e = .returned (.int .u64 (fnv s.data.toList)) ∧ w = w' := by
  go_enter Try.func25, Try.ntmps25
  go_wp2
  go_loop [3, 7] (fun h i => ∃ k : Nat, k ≤ s.size ∧ i = .int .i64 k ∧ h = .int .u64 (fnv (s.data.toList.take k))) (fun _ i => s.size - (intOf i).toNat)
  case atStart => exact ⟨0, Nat.zero_le _, rfl, int_u64 (by rw [List.take_zero, fnv_eq]; rfl)⟩
  case round =>
    obtain ⟨k, hk, rfl, rfl⟩ := hrel
    have hF := fnv_lt (s.data.toList.take k)
    by_cases hlt : k < s.size
    · have HS : Hid (IntKind.u64.wrap (bits .xor .u64 (fnv (s.data.toList.take k) : Int) (IntKind.u64.wrap (s[k].toNat : Int)) * 1099511628211) = (fnv (s.data.toList.take (k + 1)) : Int)) := hid (by rw [take_snoc s k hlt, fnv_snoc]; exact step_of _ _ hF)
      generalize fnv (s.data.toList.take k) = H at *
      go_wp2
      go_round
      case rel => exact ⟨k + 1, by omega, by go_num, int_u64 HS.out⟩
      case measure => simp [intOf] <;> omega
    · have HS : Hid (fnv s.data.toList = fnv (s.data.toList.take k)) := hid (by rw [List.take_of_length_le (by rw [← size_len]; omega)])
      go_wp2
      go_ret
      exact ⟨ret_u64 (by rw [HS.out]), rfl⟩

set_option maxRecDepth 100000 in
theorem ref_of (s : ByteArray) (hs : s.size ≤ 9223372036854775807) (w : World) : Calls Try.prog 43 #[.string s] w fun e w' => e = .returned (.int .u64 (fnv s.data.toList)) ∧ w = w' := by
  go_enter Try.func43, Try.ntmps43
  go_wp2
  go_loop [3, 4] (fun h i => ∃ k : Nat, k ≤ s.size ∧ i = .int .i64 k ∧ h = .int .u64 (fnv (s.data.toList.take k))) (fun _ i => s.size - (intOf i).toNat)
  case atStart => exact ⟨0, Nat.zero_le _, rfl, int_u64 (by rw [List.take_zero, fnv_eq]; rfl)⟩
  case round =>
    obtain ⟨k, hk, rfl, rfl⟩ := hrel
    have hF := fnv_lt (s.data.toList.take k)
    by_cases hlt : k < s.size
    · have HS : Hid (IntKind.u64.wrap (bits .xor .u64 (fnv (s.data.toList.take k) : Int) (IntKind.u64.wrap (s[k].toNat : Int)) * 1099511628211) = (fnv (s.data.toList.take (k + 1)) : Int)) := hid (by rw [take_snoc s k hlt, fnv_snoc]; exact step_of _ _ hF)
      generalize fnv (s.data.toList.take k) = H at *
      go_wp2
      go_round
      case rel => exact ⟨k + 1, by omega, by go_num, int_u64 HS.out⟩
      case measure => simp [intOf] <;> omega
    · have HS : Hid (fnv s.data.toList = fnv (s.data.toList.take k)) := hid (by rw [List.take_of_length_le (by rw [← size_len]; omega)])
      go_wp2
      go_ret
      exact ⟨ret_u64 (by rw [HS.out]), rfl⟩

set_option maxRecDepth 100000 in
theorem bucket_any (h p : Nat) (hh : h < 18446744073709551616) (hp : p ≤ 30) (w : World) : Calls Try.prog 24 #[.int .u64 h, .int .i64 p] w fun e w' => e = .returned (.int .i64 (h % 2 ^ p : Nat)) ∧ w = w' := by
  have p1 : (p : Int) ≤ 30 := by omega
  have H1 := hid (low_bits h p hh hp)
  go_enter Try.func24, Try.ntmps24
  go_wp2
  go_ret
  exact ⟨ret_i64 H1.out, rfl⟩
set_option maxRecDepth 100000 in
theorem bucket_out (h p : Int) (hp : p < 0 ∨ 30 < p) (w : World) : Calls Try.prog 24 #[.int .u64 h, .int .i64 p] w fun e w' => e = .returned (.int .i64 0) ∧ w = w' := by
  rcases hp with hp | hp
  all_goals
    go_enter Try.func24, Try.ntmps24
    go_wp2
    go_ret
    exact ⟨rfl, rfl⟩
set_option maxRecDepth 100000 in
theorem ref_bucket (h p : Nat) (hh : h < 18446744073709551616) (hp : p ≤ 30) (w : World) : Calls Try.prog 42 #[.int .u64 h, .int .i64 p] w fun e w' => e = .returned (.int .i64 (h % 2 ^ p : Nat)) ∧ w = w' := by
  have p1 : (p : Int) ≤ 30 := by omega
  obtain ⟨r, hr⟩ : ∃ r, r = h % 2 ^ p := ⟨_, rfl⟩
  rw [← hr]
  have HR := hid hr
  clear hr
  go_enter Try.func42, Try.ntmps42
  go_wp2
  go_loop [5, 6] (fun n i => ∃ k : Nat, k ≤ p ∧ i = .int .i64 k ∧ n = .int .u64 (2 ^ k : Nat)) (fun _ i => p - (intOf i).toNat)
  case atStart => exact ⟨0, Nat.zero_le _, rfl, rfl⟩
  case round =>
    obtain ⟨k, hk, rfl, rfl⟩ := hrel
    obtain ⟨q1, q2⟩ := pow_le k (by omega)
    by_cases hlt : k < p
    · have HP : Hid (2 ^ (k + 1) = 2 * 2 ^ k) := hid (by rw [Nat.pow_succ, Nat.mul_comm])
      generalize hP : 2 ^ k = P at *
      clear hP
      go_wp2
      go_round
      case rel => exact ⟨k + 1, by omega, by go_num, by rw [HP.out]; go_num⟩
      case measure => simp [intOf] <;> omega
    · obtain rfl : k = p := by omega
      have q3 : h % 2 ^ k < 2 ^ k := Nat.mod_lt _ q1
      generalize 2 ^ k = P at *
      have HW : Hid (wrap64 ((h : Int) % (P : Int)) = (r : Int)) := hid (by rw [HR.out, ← Int.natCast_emod]; unfold wrap64; omega)
      clear q3 HR
      go_wp2
      go_ret
      exact ⟨ret_i64 HW.out, rfl⟩
set_option maxRecDepth 100000 in
theorem ref_bucket_out (h p : Int) (hp : p < 0 ∨ 30 < p) (w : World) : Calls Try.prog 42 #[.int .u64 h, .int .i64 p] w fun e w' => e = .returned (.int .i64 0) ∧ w = w' := by
  rcases hp with hp | hp
  all_goals
    go_enter Try.func42, Try.ntmps42
    go_wp2
    go_ret
    exact ⟨rfl, rfl⟩

end Go.Proofs.Ytfbkfbghejeknaa
