/-
  The law WordsFirst at this program: what stands behind a line's end does not matter. Condition: both texts together have less than 2^63 - 2 bytes.
-/
import Derived.Test.YtbaohkfaeholaaaDoorWordsShown
namespace Go.Proofs.YtbaohkfaeholaaaDoor
open Go Go.Shelf Go.RowKit

theorem take_byte {t : List UInt8} {k j : Nat} (h : ∀ i, i < k → t[i]? ≠ some 10) (_ : j < k + 1) : (t.take k)[j]? ≠ some 10 := by
  rw [List.getElem?_take]
  by_cases hj : j < k
  · rw [if_pos hj]; exact h j hj
  · rw [if_neg hj]; simp
theorem upTo_take_at {t : List UInt8} {k : Nat} (h : ∀ i, i < k → t[i]? ≠ some 10) (h10 : t[k]? = some 10) : upTo 10 (t.take k) = upTo 10 t := by
  rw [(upTo_at h h10).1]
  exact upTo_none (not_mem_at (fun j hj => take_byte h (by rw [List.length_take] at hj; omega)))

set_option maxHeartbeats 1000000 in
set_option maxRecDepth 100000 in
/-- Behind the loop: p has no line feed; d is p without its carriage return. -/
theorem first_law (s behind : ByteArray) (hs : s.size + behind.size < 9223372036854775806) (w : World) : Calls Tryd.prog 10 #[.string s, .string behind] w fun e w' => e = .returned (.bool true) ∧ Below w.heap.size w w' := by
  go_enter Tryd.func10, Tryd.ntmps10
  go_wp2_with fail
  refine (shown_any _).mono ?_
  rintro e w1 ⟨rfl, b1⟩
  go_wp2_with fail
  go_loop [0, 7] (fun v i => ∃ (k : Nat) (t : ByteArray), v = .string t ∧ i = .int .i64 k ∧ k ≤ t.size + 1 ∧ t.size ≤ s.size ∧ (∀ j, j < k → t.data.toList[j]? ≠ some 10)) (fun v i => strSize v - (intOf i).toNat)
  case atStart => exact ⟨0, s, rfl, rfl, by omega, by omega, fun j hj => by omega⟩
  case round =>
    obtain ⟨k, t, rfl, rfl, hk, ht, HI⟩ := hrel
    by_cases hlt : k < t.size
    · by_cases e : t[k].toNat = 10
      · have i10 : (t[k].toNat : Int) = 10 := by omega
        have hz : (t.extract 0 k).size = k := by rw [extract_take, S_size, List.length_take, ← size_len]; omega
        have HJ : ∀ j, j < k + 1 → (t.extract 0 k).data.toList[j]? ≠ some 10 := fun j hj => by
          rw [extract_take, S_list]; exact take_byte HI hj
        clear HI
        go_wp2_with fail
        go_round
        case rel => exact ⟨k + 1, _, rfl, by go_num, by omega, by omega, HJ⟩
        case measure => simp [intOf, strSize] <;> omega
      · have i10 : ¬ (t[k].toNat : Int) = 10 := by omega
        have HJ : ∀ j, j < k + 1 → t.data.toList[j]? ≠ some 10 := by
          intro j hj
          by_cases hjk : j = k
          · subst hjk; exact not_byte hlt (by simpa using e)
          · exact HI j (by omega)
        clear HI
        go_wp2_with fail
        go_round
        case rel => exact ⟨k + 1, _, rfl, by go_num, by omega, by omega, HJ⟩
        case measure => simp [intOf, strSize] <;> omega
    · have hno : 10 ∉ t.data.toList := not_mem_at (fun j hj => HI j (by rw [← size_len] at hj; omega))
      have e0 : (t ++ ⟨#[10]⟩ ++ behind).size = t.size + 1 + behind.size := by rw [ByteArray.size_append, ByteArray.size_append]; rfl
      have h1 := fun w => line_any (t ++ ⟨#[10]⟩ ++ behind) (by omega) w
      have h2 := fun w => line_any t (by omega) w
      have e1 : (t ++ ⟨#[10]⟩ ++ behind).data.toList = t.data.toList ++ 10 :: behind.data.toList := by simp [ByteArray.data_append]
      rw [e1, (line_hit hno _).1, (line_hit hno _).2, ← size_len] at h1
      rw [(line_miss hno).1, (line_miss hno).2, S_empty] at h2
      have c1 : wrap64 ((t.size : Int) + 1) = ((t.size + 1 : Nat) : Int) := by unfold wrap64; omega
      have hcr : ∀ k, t.size = k + 1 → S (chop t.data.toList) = if t.data.toList[k]? = some 13 then t.extract 0 k else t := by
        intro k hk
        have ht : t.data.toList = t.data.toList.take (k + 1) := by rw [← hk, size_len, List.take_length]
        by_cases h : t.data.toList[k]? = some 13
        · rw [if_pos h, extract_take]; rw [ht, chop_take_cr (by rw [← size_len]; omega) h]; rw [List.take_take, show min k (k + 1) = k by omega]
        · rw [if_neg h]; rw [ht, chop_take_other (by rw [← size_len]; omega) h, ← ht, S_of]
      have hcn : t.size = 0 → S (chop t.data.toList) = t := by
        intro h0
        have : t.data.toList = [] := List.eq_nil_of_length_eq_zero (by rw [← size_len]; exact h0)
        rw [← S_of t, this]; rfl
      generalize S (chop t.data.toList) = d at *
      clear HI hno e1 e0
      by_cases h0 : t.size = 0
      · have i0 : ¬ (0 : Int) < (t.size : Int) := by omega
        have hd := hcn h0
        clear hcr hcn
        go_wp2_with fail
        refine (h1 _).mono ?_
        rintro e w2 ⟨rfl, b2⟩
        go_wp2_with fail
        refine (h2 _).mono ?_
        rintro e w3 ⟨rfl, b3⟩
        go_wp2_with fail
        go_ret
        exact ⟨rfl, Below.then (Below.then b1 b2) b3⟩
      · obtain ⟨m, hm⟩ : ∃ m, t.size = m + 1 := ⟨t.size - 1, by omega⟩
        have hd := hcr m hm
        clear hcr hcn
        have hmt : m < t.size := by omega
        have i0 : (0 : Int) < (t.size : Int) := by omega
        by_cases e : t[m].toNat = 13
        · have i13 : (t[m].toNat : Int) = 13 := by omega
          rw [if_pos (at_byte hmt (by rw [e]; rfl))] at hd
          have c2 : wrap64 ((m : Int) + 1 + 1) = (m : Int) + 1 + 1 := by unfold wrap64; omega
          go_wp2_with fail
          refine (h1 _).mono ?_
          rintro e w2 ⟨rfl, b2⟩
          go_wp2_with fail
          refine (h2 _).mono ?_
          rintro e w3 ⟨rfl, b3⟩
          go_wp2_with fail
          go_ret
          exact ⟨rfl, Below.then (Below.then b1 b2) b3⟩
        · have i13 : ¬ (t[m].toNat : Int) = 13 := by omega
          rw [if_neg (not_byte hmt (by simpa using e))] at hd
          have c2 : wrap64 ((m : Int) + 1 + 1) = (m : Int) + 1 + 1 := by unfold wrap64; omega
          go_wp2_with fail
          refine (h1 _).mono ?_
          rintro e w2 ⟨rfl, b2⟩
          go_wp2_with fail
          refine (h2 _).mono ?_
          rintro e w3 ⟨rfl, b3⟩
          go_wp2_with fail
          go_ret
          exact ⟨rfl, Below.then (Below.then b1 b2) b3⟩
end Go.Proofs.YtbaohkfaeholaaaDoor
