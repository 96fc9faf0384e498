/-
  Contracts of the document's own answers for layer 1 (ambryref01) at this program: they answer what the same plain mathematics says, for every argument. No conditions.
-/
import Derived.Test.YtkaaebjifkbclaaDoorNums
import Derived.WalkLawsBesides
import Derived.WalkSpells
import Derived.BigQuiet
import Derived.Deep.QuietTactic
namespace Go.Proofs.YtkaaebjifkbclaaDoor.Nu
open Go Go.Shelf Go.RowKit

theorem drop_at (s : ByteArray) (k : Nat) (h : k < s.size) : s.data.toList.drop k = s[k] :: s.data.toList.drop (k + 1) := by
  rw [List.drop_eq_getElem_cons (by rw [← size_len]; exact h)]; rfl

set_option maxRecDepth 100000 in
theorem ref_parse_short (s : ByteArray) (h : s.size < 1) (w : World) :
    Calls Tryd.prog 40 #[.string s] w fun e w' => e = .returned (.tuple #[.int .u64 0, .bool false]) ∧ w = w' := by
  have h' : (s.size : Int) < 1 := by omega
  clear h
  go_enter Tryd.func40, Tryd.ntmps40
  go_wp2_with fail
  go_ret2
  exact ⟨rfl, rfl⟩

set_option maxRecDepth 100000 in
theorem ref_parse_long (s : ByteArray) (h : 20 < s.size) (w : World) :
    Calls Tryd.prog 40 #[.string s] w fun e w' => e = .returned (.tuple #[.int .u64 0, .bool false]) ∧ w = w' := by
  have h' : ¬ (s.size : Int) < 1 := by omega
  have h' : (20 : Int) < (s.size : Int) := by omega
  clear h
  go_enter Tryd.func40, Tryd.ntmps40
  go_wp2_with fail
  go_ret2
  exact ⟨rfl, rfl⟩

set_option maxHeartbeats 1000000 in
set_option maxRecDepth 100000 in
theorem ref_parse_mid (s : ByteArray) (h0 : 1 ≤ s.size) (h1 : s.size ≤ 20) (w : World) :
    Calls Tryd.prog 40 #[.string s] w fun e w' => e = .returned (uv (numFrom 0 s.data.toList)) ∧ w = w' := by
  have a0 : ¬ (s.size : Int) < 1 := by omega
  have a1 : ¬ (20 : Int) < (s.size : Int) := by omega
  go_enter Tryd.func40, Tryd.ntmps40
  go_wp2_with fail
  have hH : ∀ k, k < s.size → s.data.toList.drop k = s[k]! :: s.data.toList.drop (k + 1) := fun k hk => by
    rw [drop_at s k hk, getElem!_pos s k hk]
  go_loop [4, 5] (fun n i => ∃ k acc : Nat, k ≤ s.size ∧ i = .int .i64 k ∧ n = .int .u64 acc ∧ acc < 18446744073709551616 ∧ Hid (numFrom 0 s.data.toList = numFrom acc (s.data.toList.drop k))) (fun _ i => s.size - (intOf i).toNat)
  case atStart => exact ⟨0, 0, by omega, rfl, rfl, by omega, Lib.hid rfl⟩
  case round =>
    obtain ⟨k, acc, hk, rfl, rfl, hacc, HI⟩ := hrel
    clear hH
    by_cases hlt : k < s.size
    · have Hd : Hid (numFrom acc (s.data.toList.drop k) = numFrom acc (s[k] :: s.data.toList.drop (k + 1))) := Lib.hid (by rw [drop_at s k hlt])
      have hc0 : 0 ≤ (s[k].toNat : Int) := by omega
      have hc1 : (s[k].toNat : Int) ≤ 255 := by have := s[k].toNat_lt; omega
      by_cases h48 : s[k].toNat < 48
      · have i48 : (s[k].toNat : Int) < 48 := by omega
        have HN : Hid (numFrom 0 s.data.toList = none) := Lib.hid (by rw [HI.out, Hd.out, numFrom, if_neg (by omega)])
        go_wp2_with fail
        go_ret2
        exact ⟨by rw [HN.out]; rfl, rfl⟩
      · have i48 : ¬ (s[k].toNat : Int) < 48 := by omega
        by_cases h57 : 57 < s[k].toNat
        · have i57 : (57 : Int) < (s[k].toNat : Int) := by omega
          have HN : Hid (numFrom 0 s.data.toList = none) := Lib.hid (by rw [HI.out, Hd.out, numFrom, if_neg (by omega)])
          go_wp2_with fail
          go_ret2
          exact ⟨by rw [HN.out]; rfl, rfl⟩
        · have i57 : ¬ (57 : Int) < (s[k].toNat : Int) := by omega
          by_cases hov : (18446744073709551615 - (s[k].toNat - 48)) / 10 < acc
          · have HN : Hid (numFrom 0 s.data.toList = none) := Lib.hid (by rw [HI.out, Hd.out, numFrom, if_neg (by omega)])
            have iov : (18446744073709551615 - ((s[k].toNat : Int) - 48)) / 10 < (acc : Int) := by omega
            go_wp2_with fail
            go_ret2
            exact ⟨by rw [HN.out]; rfl, rfl⟩
          · have HN : Hid (numFrom 0 s.data.toList = numFrom (acc * 10 + (s[k].toNat - 48)) (s.data.toList.drop (k + 1))) := Lib.hid (by rw [HI.out, Hd.out, numFrom, if_pos (by omega)])
            have iov : ¬ (18446744073709551615 - ((s[k].toNat : Int) - 48)) / 10 < (acc : Int) := by omega
            have hb1 : 10 * (acc : Int) ≤ 18446744073709551615 := by omega
            have hb2 : 10 * (acc : Int) + ((s[k].toNat : Int) - 48) ≤ 18446744073709551615 := by omega
            go_wp2_with fail
            go_round
            case rel => exact ⟨k + 1, acc * 10 + (s[k].toNat - 48), by omega, by go_num, by congr 1; omega, by omega, HN⟩
            case measure => simp [intOf]; omega
    · have HN : Hid (numFrom 0 s.data.toList = some acc) := Lib.hid (by
        rw [HI.out, List.drop_eq_nil_of_le (by rw [← size_len]; omega), numFrom])
      go_wp2_with fail
      go_ret2
      exact ⟨by rw [HN.out]; rfl, rfl⟩

theorem ref_parse (s : ByteArray) (w : World) :
    Calls Tryd.prog 40 #[.string s] w fun e w' => e = .returned (uv (parseU s.data.toList)) ∧ w = w' := by
  have hl := size_len s
  by_cases h0 : s.size < 1
  · have e : parseU s.data.toList = none := by rw [parseU, if_pos (Or.inl (List.eq_nil_of_length_eq_zero (by omega)))]
    rw [e]; exact ref_parse_short s h0 w
  · by_cases h1 : 20 < s.size
    · rw [parseU_long (by omega)]; exact ref_parse_long s h1 w
    · have e : parseU s.data.toList = numFrom 0 s.data.toList := by
        rw [parseU, if_neg]
        rintro (h | h)
        · have h2 : s.size = 0 := by rw [hl, h]; rfl
          omega
        · omega
      rw [e]; exact ref_parse_mid s (by omega) (by omega) w
end Go.Proofs.YtkaaebjifkbclaaDoor.Nu
