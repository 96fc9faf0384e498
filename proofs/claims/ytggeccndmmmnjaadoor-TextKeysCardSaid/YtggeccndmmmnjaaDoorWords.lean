/-
  Contracts of words.Line and words.Key, and of the document's own answers to them (ambryref02.Line, Key), at this program: they answer what the plain mathematics says, for every text of at most 2^63 - 2 bytes.
-/
import Derived.Test.YtggeccndmmmnjaaDoorWordsLib
import Derived.WalkLawsBesides
import Derived.WalkSpells
import Derived.BigQuiet
import Derived.Deep.QuietTactic
import Derived.RegionTactic
namespace Go.Proofs.YtggeccndmmmnjaaDoor
open Go Go.Shelf Go.RowKit

theorem hid {p : Prop} (h : p) : Hid p := h
set_option maxRecDepth 100000 in
theorem line_any (s : ByteArray) (hs : s.size ≤ 9223372036854775807) (w : World) :
    Calls Tryd.prog 9 #[.string s] w fun e w' => e = .returned (.tuple #[.string (S (lineS s.data.toList)), .int .i64 (lineN s.data.toList)]) ∧ Below w.heap.size w w' := by
  have hc := cut_one s 10 w hs
  by_cases hm : 10 ∈ s.data.toList
  · have hlt := upTo_lt hm
    rw [← size_len] at hlt
    rw [cutv, if_pos hm] at hc
    have ht : ∀ w, _ := fun w => trim_cr (S (upTo 10 s.data.toList)) w (by rw [S_size]; omega)
    rw [S_list] at ht
    rw [lineS, if_pos hm, lineN, if_pos hm]
    have hz := S_size (upTo 10 s.data.toList)
    rw [← hz] at hlt ⊢
    generalize S (upTo 10 s.data.toList) = a at *
    generalize S (chop (upTo 10 s.data.toList)) = d at *
    generalize S (past 10 s.data.toList) = b at *
    have c6 : wrap64 ((a.size : Int) + 1) = ((a.size + 1 : Nat) : Int) := by unfold wrap64; omega
    clear hs hm hlt hz
    go_enter Tryd.func9, Tryd.ntmps9
    go_wp2_with fail
    refine hc.mono ?_
    rintro e w1 ⟨rfl, b1⟩
    go_wp2_with fail
    refine (ht _).mono ?_
    rintro e w2 ⟨rfl, rfl⟩
    go_wp2_with fail
    go_ret2
    exact ⟨by show Ending.returned (.tuple #[.string d, .int .i64 (wrap64 ((a.size : Int) + 1))]) = _; rw [c6], b1⟩
  · rw [cutv, if_neg hm] at hc
    rw [lineS, if_neg hm, lineN, if_neg hm]
    clear hs hm
    go_enter Tryd.func9, Tryd.ntmps9
    go_wp2_with fail
    refine hc.mono ?_
    rintro e w1 ⟨rfl, b1⟩
    go_wp2_with fail
    go_ret2
    exact ⟨rfl, b1⟩

theorem ret2 {a b a' b' : Value} (ha : a = a') (hb : b = b') : Ending.returned (.tuple #[a, b]) = Ending.returned (.tuple #[a', b']) := by rw [ha, hb]
theorem at_byte {s : ByteArray} {k : Nat} (h : k < s.size) {c : UInt8} (e : s[k].toNat = c.toNat) : s.data.toList[k]? = some c := by
  have hk : k < s.data.toList.length := by rw [← size_len]; exact h
  rw [List.getElem?_eq_getElem hk]
  exact congrArg some (UInt8.toNat_inj.1 e)
theorem not_byte {s : ByteArray} {k : Nat} (h : k < s.size) {c : UInt8} (e : s[k].toNat ≠ c.toNat) : s.data.toList[k]? ≠ some c := by
  have hk : k < s.data.toList.length := by rw [← size_len]; exact h
  rw [List.getElem?_eq_getElem hk]
  intro he
  exact e (congrArg UInt8.toNat (Option.some.inj he))

theorem byte_bounds (s : ByteArray) (k : Nat) (h : k < s.size) : 0 ≤ (s[k].toNat : Int) ∧ (s[k].toNat : Int) ≤ 255 := by
  have := s[k].toNat_lt; omega
theorem keyB_all {s : ByteArray} (h1 : 1 ≤ s.size) (h2 : s.size ≤ 250) (h : ∀ j (hj : j < s.size), 33 ≤ s[j].toNat ∧ s[j].toNat ≠ 127) : keyB s.data.toList = true := by
  have : s.data.toList.all keyByte = true := by
    rw [List.all_eq_true]
    intro c hc
    obtain ⟨j, hj, rfl⟩ := List.getElem_of_mem hc
    have := h j (by rw [size_len]; exact hj)
    have e : s.data.toList[j] = s[j]'(by rw [size_len]; exact hj) := rfl
    rw [e]
    simpa [keyByte] using this
  unfold keyB
  rw [this, ← size_len]; simp; omega
theorem keyB_size {s : ByteArray} (h : s.size = 0 ∨ 250 < s.size) : keyB s.data.toList = false := by
  rw [Bool.eq_false_iff]; intro e
  have := keyB_parts e
  rw [← size_len] at this; omega
theorem keyB_byte {s : ByteArray} {k : Nat} (hk : k < s.size) (h : s[k].toNat < 33 ∨ s[k].toNat = 127) : keyB s.data.toList = false :=
  keyB_bad (c := s[k]) (by have e : s[k] = s.data.toList[k]'(by rw [← size_len]; exact hk) := rfl
                           rw [e]; exact List.getElem_mem _) h

set_option maxRecDepth 100000 in
theorem key_empty (w : World) :
    Calls Tryd.prog 7 #[.string ⟨#[]⟩] w fun e w' => e = .returned (.bool false) ∧ w = w' := by
  go_enter Tryd.func7, Tryd.ntmps7
  go_wp2_with fail
  go_ret
  exact ⟨rfl, rfl⟩

theorem full_list {s : ByteArray} (h : 1 ≤ s.size) : s.toList.isEmpty = false := by
  rw [Lib.toList_data]
  cases e : s.data.toList with
  | nil => rw [size_len, e] at h; simp at h
  | cons a r => rfl

set_option maxHeartbeats 1000000 in
set_option maxRecDepth 100000 in
theorem key_long (s : ByteArray) (h : 250 < s.size) (w : World) :
    Calls Tryd.prog 7 #[.string s] w fun e w' => e = .returned (.bool false) ∧ w = w' := by
  have h0 := full_list (s := s) (by omega)
  have i2 : (250 : Int) < (s.size : Int) := by omega
  clear h
  go_enter Tryd.func7, Tryd.ntmps7
  go_wp2_with fail
  go_ret
  exact ⟨rfl, rfl⟩

set_option maxHeartbeats 1000000 in
set_option maxRecDepth 100000 in
theorem key_mid (s : ByteArray) (h1 : 1 ≤ s.size) (h2 : s.size ≤ 250) (w : World) :
    Calls Tryd.prog 7 #[.string s] w fun e w' => e = .returned (.bool (keyB s.data.toList)) ∧ w = w' := by
  have h0 := full_list h1
  have i2 : ¬ (250 : Int) < (s.size : Int) := by omega
  go_enter Tryd.func7, Tryd.ntmps7
  go_wp2_with fail
  clear h0
  go_loop [13] (fun i => ∃ k : Nat, k ≤ s.size ∧ i = .int .i64 k ∧ ∀ j (hj : j < s.size), j < k → 33 ≤ s[j].toNat ∧ s[j].toNat ≠ 127) (fun i => s.size - (intOf i).toNat)
  case atStart => exact ⟨0, by omega, rfl, fun j hj h => by omega⟩
  case round =>
    obtain ⟨k, hk, rfl, HI⟩ := hrel
    by_cases hlt : k < s.size
    · by_cases h33 : s[k].toNat < 33
      · have HK : Hid (keyB s.data.toList = false) := hid (keyB_byte hlt (.inl h33))
        have i33 : (s[k].toNat : Int) < 33 := by omega
        clear HI
        go_wp2_with fail
        go_ret
        exact ⟨by rw [HK.out]; rfl, rfl⟩
      · have i33 : ¬ (s[k].toNat : Int) < 33 := by omega
        by_cases h127 : s[k].toNat = 127
        · have HK : Hid (keyB s.data.toList = false) := hid (keyB_byte hlt (.inr h127))
          have i127 : (s[k].toNat : Int) = 127 := by omega
          clear HI
          go_wp2_with fail
          go_ret
          exact ⟨by rw [HK.out]; rfl, rfl⟩
        · have i127 : ¬ (s[k].toNat : Int) = 127 := by omega
          have HN : ∀ j (hj : j < s.size), j < k + 1 → 33 ≤ s[j].toNat ∧ s[j].toNat ≠ 127 := by
            intro j hj hjk
            by_cases hjk : j = k
            · subst hjk; omega
            · exact HI j hj (by omega)
          clear HI
          go_wp2_with fail
          go_round
          case rel => exact ⟨k + 1, by omega, by go_num, HN⟩
          case measure => simp [intOf]; omega
    · have HK : Hid (keyB s.data.toList = true) := hid (keyB_all h1 h2 (fun j hj => HI j hj (by omega)))
      clear HI
      go_wp2_with fail
      go_ret
      exact ⟨by rw [HK.out]; rfl, rfl⟩

theorem key_any (s : ByteArray) (w : World) :
    Calls Tryd.prog 7 #[.string s] w fun e w' => e = .returned (.bool (keyB s.data.toList)) ∧ w = w' := by
  by_cases h0 : s.size = 0
  · have e0 : s.data.toList = [] := List.eq_nil_of_length_eq_zero (by rw [← size_len]; exact h0)
    have e : s = ⟨#[]⟩ := by rw [← S_of s, e0]; rfl
    subst e; exact key_empty w
  · by_cases h : 250 < s.size
    · rw [keyB_size (.inr h)]; exact key_long s h w
    · exact key_mid s (by omega) (by omega) w
end Go.Proofs.YtggeccndmmmnjaaDoor
