/-
  The laws B64Back and B64Joins at this program. Conditions: what is written takes at most 2^46 bytes, what is read at most 2^46 bytes.
-/
import Derived.Test.YtbmmlpfbflohgaaDoorB64Laws
import Derived.Lib.QuietBelow
import Derived.BigQuiet
namespace Go.Proofs.YtbmmlpfbflohgaaDoor
open Go Go.Shelf Go.RowKit

set_option maxHeartbeats 1000000 in
set_option maxRecDepth 100000 in
theorem back_law (s t : ByteArray) (hs : s.size ≤ 70368744177664) (ht : t.size ≤ 70368744177664) (w : World) : Calls Tryd.prog 5 #[.string s, .string t] w fun e w' => e = .returned (.bool true) ∧ Below w.heap.size w w' := by
  have h1 := fun w => encode_any s (by omega) w
  have h2 : ∀ w, Calls Tryd.prog 12 #[.string (S (enc s.data.toList))] w fun e w' => e = .returned (.tuple #[.string s, .bool true]) ∧ Below w.heap.size w w' := fun w => by
    have h := decode_any (S (enc s.data.toList)) (by rw [S_size, enc_len, ← size_len]; omega) w
    rw [S_list, decS_iff.2 rfl] at h
    have e : pv (some s.data.toList) = .tuple #[.string s, .bool true] := by
      show Value.tuple #[.string (S s.data.toList), .bool true] = _
      rw [S_of]
    rw [e] at h; exact h
  have hz : (S (enc s.data.toList)).size = (s.size + 2) / 3 * 4 := by rw [S_size, enc_len, ← size_len]
  have iz : ((S (enc s.data.toList)).size : Int) = ((s.size : Int) + 2) / 3 * 4 := by rw [hz]; omega
  have h3 := fun w => decode_any t (by omega) w
  have h4 : ∀ v, decS t.data.toList = some v → ∀ w, Calls Tryd.prog 10 #[.string (S v)] w fun e w' => e = .returned (.string t) ∧ Below w.heap.size w w' := fun v hv w => by
    have e := decS_iff.1 hv
    have hl := congrArg List.length e
    rw [enc_len, ← size_len] at hl
    have h := encode_any (S v) (by rw [S_size]; omega) w
    rw [S_list, e, S_of] at h; exact h
  cases hd : decS t.data.toList with
  | none =>
    rw [hd] at h3
    have h3 : ∀ w, Calls Tryd.prog 12 #[.string t] w fun e w' => e = .returned (.tuple #[.string ⟨#[]⟩, .bool false]) ∧ Below w.heap.size w w' := h3
    clear h4 hd hz
    generalize S (enc s.data.toList) = X at *
    go_enter Tryd.func5, Tryd.ntmps5
    go_wp2_with fail
    refine (shown_any _).mono ?_
    rintro e w1 ⟨rfl, b1⟩
    go_wp2_with fail
    refine (h1 _).mono ?_
    rintro e w2 ⟨rfl, b2⟩
    go_wp2_with fail
    refine (h2 _).mono ?_
    rintro e w3 ⟨rfl, b3⟩
    go_wp2_with fail
    refine (h3 _).mono ?_
    rintro e w4 ⟨rfl, b4⟩
    go_wp2_with fail
    go_ret
    exact ⟨rfl, Below.then b1 (Below.then b2 (Below.then b3 b4))⟩
  | some v =>
    rw [hd] at h3
    have h3 : ∀ w, Calls Tryd.prog 12 #[.string t] w fun e w' => e = .returned (.tuple #[.string (S v), .bool true]) ∧ Below w.heap.size w w' := h3
    have h5 := h4 v hd
    clear h4 hd hz
    generalize S (enc s.data.toList) = X at *
    generalize S v = Y at *
    go_enter Tryd.func5, Tryd.ntmps5
    go_wp2_with fail
    refine (shown_any _).mono ?_
    rintro e w1 ⟨rfl, b1⟩
    go_wp2_with fail
    refine (h1 _).mono ?_
    rintro e w2 ⟨rfl, b2⟩
    go_wp2_with fail
    refine (h2 _).mono ?_
    rintro e w3 ⟨rfl, b3⟩
    go_wp2_with fail
    refine (h3 _).mono ?_
    rintro e w4 ⟨rfl, b4⟩
    go_wp2_with fail
    refine (h5 _).mono ?_
    rintro e w5 ⟨rfl, b5⟩
    go_wp2_with fail
    go_ret
    exact ⟨rfl, Below.then b1 (Below.then b2 (Below.then b3 (Below.then b4 b5)))⟩
theorem fold_mod (n : Int) (c : Nat) : ∃ m : Nat, (0 < c → m < c) ∧ ((n < 0 ∧ (n + 1).tmod (c : Int) = -(m : Int)) ∨ (¬ n < 0 ∧ n.tmod (c : Int) = (m : Int))) := by
  by_cases h : n < 0
  · obtain ⟨j, hj⟩ : ∃ j : Nat, n = -(j : Int) - 1 := ⟨(-(n + 1)).toNat, by omega⟩
    refine ⟨j % c, fun hc => Nat.mod_lt _ hc, .inl ⟨h, ?_⟩⟩
    subst hj
    rw [show -(j : Int) - 1 + 1 = -(j : Int) from by omega, Int.neg_tmod, Int.tmod_eq_emod_of_nonneg (by omega)]; rfl
  · obtain ⟨j, hj⟩ : ∃ j : Nat, n = (j : Int) := ⟨n.toNat, by omega⟩
    refine ⟨j % c, fun hc => Nat.mod_lt _ hc, .inr ⟨h, ?_⟩⟩
    subst hj
    rw [Int.tmod_eq_emod_of_nonneg (by omega)]; rfl
theorem fold_three {at0 : Int} {n m k : Nat} (hm : m < n + 1) (hn : n ≤ 70368744177664) (hk : k = m / 3 * 3) (h : (at0 < 0 ∧ (at0 + 1).tmod ((n + 1 : Nat) : Int) = -(m : Int)) ∨ (¬ at0 < 0 ∧ at0.tmod ((n + 1 : Nat) : Int) = (m : Int))) :
    (at0 < 0 ∧ wrap64 (wrap64 (-((at0 + 1).tmod ((n : Int) + 1)).tdiv 3) * 3) = (k : Int)) ∨ (¬ at0 < 0 ∧ wrap64 (wrap64 ((at0 % ((n : Int) + 1)).tdiv 3) * 3) = (k : Int)) := by
  have e3 : (m : Int).tdiv 3 = (m : Int) / 3 := Int.tdiv_eq_ediv_of_nonneg (by omega)
  have w1 : wrap64 ((m : Int) / 3) = (m : Int) / 3 := by unfold wrap64; omega
  have w2 : wrap64 ((m : Int) / 3 * 3) = (k : Int) := by unfold wrap64; omega
  rw [Int.natCast_add, Int.natCast_one] at h
  rcases h with ⟨t0, t1⟩ | ⟨t0, t1⟩
  · refine .inl ⟨t0, ?_⟩
    rw [t1, Int.neg_tdiv, Int.neg_neg, e3, w1, w2]
  · refine .inr ⟨t0, ?_⟩
    rw [Int.tmod_eq_emod_of_nonneg (by omega)] at t1
    rw [t1, e3, w1, w2]
theorem S_sum (a b : List UInt8) : S a ++ S b = S (a ++ b) := by
  apply ByteArray.ext
  show (S a ++ S b).data = _
  rw [ByteArray.data_append]; simp [S]
theorem extract_take (s : ByteArray) (k : Nat) : s.extract 0 k = S (s.data.toList.take k) := by
  rw [Lib.extract_eq]; simp [S]
theorem extract_drop (s : ByteArray) (k : Nat) : s.extract k s.size = S (s.data.toList.drop k) := by
  rw [Lib.extract_eq, List.take_of_length_le (by rw [List.length_drop, ← size_len]; exact Nat.le_refl _)]; rfl

set_option maxHeartbeats 1000000 in
set_option maxRecDepth 100000 in
theorem joins_law (s : ByteArray) (at0 : Int) (a0 : -9223372036854775808 ≤ at0) (a1 : at0 ≤ 9223372036854775807) (hs : s.size ≤ 70368744177664) (w : World) : Calls Tryd.prog 6 #[.string s, .int .i64 at0] w fun e w' => e = .returned (.bool true) ∧ Below w.heap.size w w' := by
  obtain ⟨m, hm, hat⟩ := fold_mod at0 (s.size + 1)
  have hm := hm (by omega)
  obtain ⟨k, hk⟩ : ∃ k : Nat, k = m / 3 * 3 := ⟨_, rfl⟩
  have hks : k ≤ s.size := by omega
  have h1 : ∀ w, Calls Tryd.prog 10 #[.string (s.extract 0 k)] w fun e w' => e = .returned (.string (S (enc (s.data.toList.take k)))) ∧ Below w.heap.size w w' := fun w => by
    have h := encode_any (S (s.data.toList.take k)) (by rw [S_size, List.length_take, ← size_len]; omega) w
    rw [S_list] at h; rw [extract_take]; exact h
  have h2 : ∀ w, Calls Tryd.prog 10 #[.string (s.extract k s.size)] w fun e w' => e = .returned (.string (S (enc (s.data.toList.drop k)))) ∧ Below w.heap.size w w' := fun w => by
    have h := encode_any (S (s.data.toList.drop k)) (by rw [S_size, List.length_drop, ← size_len]; omega) w
    rw [S_list] at h; rw [extract_drop]; exact h
  have h3 := fun w => encode_any s (by omega) w
  have hz1 : (S (enc (s.data.toList.take k))).size ≤ 140737488355328 := by rw [S_size, enc_len, List.length_take, ← size_len]; omega
  have hz2 : (S (enc (s.data.toList.drop k))).size ≤ 140737488355328 := by rw [S_size, enc_len, List.length_drop, ← size_len]; omega
  have HJ : Hid (S (enc s.data.toList) = S (enc (s.data.toList.take k)) ++ S (enc (s.data.toList.drop k))) := hid (by
    rw [S_sum, ← enc_append _ _ (by rw [List.length_take, ← size_len, Nat.min_eq_left hks]; omega), List.take_append_drop])
  rw [HJ.out] at h3
  generalize S (enc (s.data.toList.take k)) = A at *
  generalize S (enc (s.data.toList.drop k)) = B at *
  have ik : (m : Int) / 3 * 3 = (k : Int) := by omega
  have hq := fold_three hm hs hk hat
  clear HJ hm hk hat ik
  generalize e1 : s.extract 0 k = X1 at *
  generalize e2 : s.extract k s.size = X2 at *
  rcases hq with ⟨t0, t1⟩ | ⟨t0, t1⟩
  all_goals
    go_enter Tryd.func6, Tryd.ntmps6
    go_wp2_with fail
    refine (shown_any _).mono ?_
    rintro e w1 ⟨rfl, b1⟩
    go_wp2_with fail
    have cA : ∀ d os, Calls Tryd.prog 10 #[.string X1] (Sort.grow (redrawn w1 d) os) fun e w'' => e = .returned (.string A) ∧ ∃ p : Regrown, w'' = Sort.grow (redrawn w1 p.d) p.os := fun d os => Calls.regrown_of (h1 _)
    have cB : ∀ d os, Calls Tryd.prog 10 #[.string X2] (Sort.grow (redrawn w1 d) os) fun e w'' => e = .returned (.string B) ∧ ∃ p : Regrown, w'' = Sort.grow (redrawn w1 p.d) p.os := fun d os => Calls.regrown_of (h2 _)
    have cC : ∀ d os, Calls Tryd.prog 10 #[.string s] (Sort.grow (redrawn w1 d) os) fun e w'' => e = .returned (.string (A ++ B)) ∧ ∃ p : Regrown, w'' = Sort.grow (redrawn w1 p.d) p.os := fun d os => Calls.regrown_of (h3 _)
    have n1 : ¬ (9223372036854775807 : Nat) < A.size + B.size := by omega
    clear h1 h2 h3
    refine wp_region_quiet_below (by kernel_rfl) (by kernel_rfl) ?_
    iterate 5 (quiet_step (fail))
    quiet_step (exact cA _ _)
    iterate 3 (quiet_step (fail))
    quiet_step (exact cB _ _)
    iterate 2 (quiet_step (fail))
    quiet_step (exact cC _ _)
    iterate 3 (quiet_step (fail))
    clear cA cB cC
    refine wpQuiet_nil ?_
    intro _ hw'
    obtain ⟨⟨dq, osq⟩, hw''⟩ := hw'
    subst hw''
    have b2 := b1.trans ((below_regrown w1 dq osq).mono b1.size)
    go_wp2_with fail
    go_ret
    exact ⟨rfl, b2⟩
end Go.Proofs.YtbmmlpfbflohgaaDoor
