/-
  The law B64Letters at this program. Condition: what is written takes at most 2^46 bytes.
-/
import Derived.Test.YtbmmlpfbflohgaaDoorB64LawsB
namespace Go.Proofs.YtbmmlpfbflohgaaDoor
open Go Go.Shelf Go.RowKit

theorem enc_at_letter {l : List UInt8} {j : Nat} (hj : j < (encL 0 0 l).length) (h : j < (S (enc l)).size) : isN (S (enc l))[j].toNat = true := by
  have e : (S (enc l))[j] = (encL 0 0 l)[j] := by
    have : (S (enc l))[j] = (enc l)[j]'(by rw [← S_size]; exact h) := by
      have e0 : (S (enc l))[j] = (S (enc l)).data.toList[j]'(by rw [← size_len]; exact h) := rfl
      rw [e0]; exact List.getElem_of_eq (S_list _) _
    rw [this]; unfold enc; exact List.getElem_append_left hj
  rw [e]; exact encL_letters l _ (List.getElem_mem _)
theorem enc_at_sign {l : List UInt8} {j : Nat} (hj : (encL 0 0 l).length ≤ j) (h : j < (S (enc l)).size) : (S (enc l))[j].toNat = 61 := by
  have e : (S (enc l))[j] = 61 := by
    have h' : j < (enc l).length := by rw [← S_size]; exact h
    have q1 : (S (enc l))[j] = (enc l)[j]'h' := by
      have e0 : (S (enc l))[j] = (S (enc l)).data.toList[j]'(by rw [← size_len]; exact h) := rfl
      rw [e0]; exact List.getElem_of_eq (S_list _) _
    have q2 : (enc l)[j]'h' = (signs l.length)[j - (encL 0 0 l).length]'(by unfold enc at h'; rw [List.length_append] at h'; omega) := List.getElem_append_right hj
    exact q1.trans (q2.trans (List.eq_of_mem_replicate (List.getElem_mem _)))
  rw [e]; rfl

set_option maxHeartbeats 1000000 in
set_option maxRecDepth 100000 in
theorem letters_law (s : ByteArray) (hs : s.size ≤ 70368744177664) (w : World) : Calls Tryd.prog 7 #[.string s] w fun e w' => e = .returned (.bool true) ∧ Below w.heap.size w w' := by
  have h1 := fun w => encode_any s (by omega) w
  have hN := encL_len s.data.toList
  have hE : (S (enc s.data.toList)).size = (encL 0 0 s.data.toList).length + sgn s.size := by rw [S_size, enc_len, hN, ← size_len, sgn_sum]
  have hL : ∀ j, j < (encL 0 0 s.data.toList).length → ∀ (h : j < (S (enc s.data.toList)).size), isN (S (enc s.data.toList))[j].toNat = true := fun j hj h => enc_at_letter hj h
  have hG : ∀ j, (encL 0 0 s.data.toList).length ≤ j → ∀ (h : j < (S (enc s.data.toList)).size), (S (enc s.data.toList))[j].toNat = 61 := fun j hj h => enc_at_sign hj h
  have hsz : (S (enc s.data.toList)).size % 4 = 0 := by rw [S_size, enc_len]; omega
  generalize S (enc s.data.toList) = E at *
  rw [← size_len] at hN
  generalize (encL 0 0 s.data.toList).length = N at *
  have HL := hid hL
  have HG := hid hG
  have ig : (E.size : Int) - (N : Int) = (3 - (s.size : Int) % 3) % 3 := by rw [hE]; unfold sgn; omega
  have iz : (E.size : Int) % 4 = 0 := by omega
  have HE : Hid (E.size = N + sgn s.size) := hid hE
  have hEN : N ≤ E.size := by omega
  have hEb : E.size ≤ 140737488355328 := by rw [hE]; have := sgn_sum s.size; omega
  clear hL hG hN hsz hE
  go_enter Tryd.func7, Tryd.ntmps7
  go_wp2_with fail
  refine (shown_any _).mono ?_
  rintro e w1 ⟨rfl, b1⟩
  go_wp2_with fail
  refine (h1 _).mono ?_
  rintro e w2 ⟨rfl, b2⟩
  have b2' := Below.then b1 b2
  clear h1 b1 b2
  go_wp2_with fail
  go_loop [5] (fun n => ∃ k : Nat, n = .int .i64 k ∧ N ≤ k ∧ k ≤ E.size) (fun n => (intOf n).toNat)
  case atStart => exact ⟨E.size, rfl, hEN, Nat.le_refl _⟩
  case round =>
    obtain ⟨k, rfl, hk1, hk2⟩ := hrel
    by_cases hlt : N < k
    · obtain ⟨j, rfl⟩ : ∃ j, k = j + 1 := ⟨k - 1, by omega⟩
      have hj : j < E.size := by omega
      have i61 : ((E[j]'hj).toNat : Int) = 61 := by rw [HG.out j (by omega) hj]; rfl
      go_wp2_with fail
      go_round
      case rel => exact ⟨j, rfl, by omega, by omega⟩
      case measure => simp [intOf] <;> omega
    · obtain rfl : k = N := by omega
      have hlast : k = 0 ∨ ∃ j, k = j + 1 := by
        rcases k with _ | j
        · exact .inl rfl
        · exact .inr ⟨j, rfl⟩
      rcases hlast with rfl | ⟨j, rfl⟩
      · rw [show ((0 : Nat) : Int) = 0 from rfl] at *
        clear HL HG HE hEN hk1 hk2 hlt
        go_wp2_with fail
        go_loop [6] (fun i => i = .int .i64 0) (fun _ => 0)
        case atStart => rfl
        case round =>
          obtain rfl := hrel
          go_wp2_with fail
          go_ret
          exact ⟨rfl, b2'⟩
      · have hj : j < E.size := by omega
        have i61 : ¬ ((E[j]'hj).toNat : Int) = 61 := by
          have := isN_ne (HL.out j (by omega) hj); omega
        clear HG HE hk1 hlt
        go_wp2_with fail
        clear i61
        go_loop [6] (fun i => ∃ q : Nat, i = .int .i64 q ∧ q ≤ j + 1) (fun i => j + 1 - (intOf i).toNat)
        case atStart => exact ⟨0, rfl, by omega⟩
        case round =>
          obtain ⟨q, rfl, hq⟩ := hrel
          by_cases hql : q < j + 1
          · have hqe : q < E.size := by omega
            have hxb := (E[q]'hqe).toNat_lt
            have hcl : (65 ≤ ((E[q]'hqe).toNat : Int) ∧ ((E[q]'hqe).toNat : Int) ≤ 90) ∨ (97 ≤ ((E[q]'hqe).toNat : Int) ∧ ((E[q]'hqe).toNat : Int) ≤ 122) ∨ (48 ≤ ((E[q]'hqe).toNat : Int) ∧ ((E[q]'hqe).toNat : Int) ≤ 57) ∨ ((E[q]'hqe).toNat : Int) = 43 ∨ ((E[q]'hqe).toNat : Int) = 47 := by
              have := (isN_iff _).1 (HL.out q hql hqe); omega
            clear HL ig iz
            rcases hcl with ⟨c1, c2⟩ | ⟨c1, c2⟩ | ⟨c1, c2⟩ | c1 | c1
            all_goals
              go_wp2_with fail
              go_round
              case rel => exact ⟨q + 1, by go_num, by omega⟩
              case measure => simp [intOf] <;> omega
          · obtain rfl : q = j + 1 := by omega
            have HI := hid ig
            clear HL
            go_wp2_with fail
            go_ret
            refine ⟨congrArg (fun b => Ending.returned (.bool b)) (beq_iff_eq.2 ?_), b2'⟩
            have := HI.out
            omega
end Go.Proofs.YtbmmlpfbflohgaaDoor
