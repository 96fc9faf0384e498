/-
  Contracts of b64.letter and of the document's own ambryref03.letter and number, at this program. Conditions: a number is a uint64 (below 64 for ambryref03.letter), a byte is a byte.
-/
import Derived.Test.YtbmmlpfbflohgaaDoorB64Math
import Derived.Test.YtbmmlpfbflohgaaDoorProg
import Derived.Lib.Walk
import Derived.WalkKit
import Derived.BigCall
import Derived.BigGuard
import Derived.Deep.Draws
import Derived.OwnWalk
import Derived.WalkLawsBesides
import Derived.WalkSpells
import Derived.RegionTactic
namespace Go.Proofs.YtbmmlpfbflohgaaDoor
open Go Go.RowKit

theorem hid {p : Prop} (h : p) : Hid p := h
theorem Below.then {w w1 w2 : World} (a : Below w.heap.size w w1) (b : Below w1.heap.size w1 w2) : Below w.heap.size w w2 := a.trans (b.mono a.size)
def lettersB : ByteArray := ⟨#[65, 66, 67, 68, 69, 70, 71, 72, 73, 74, 75, 76, 77, 78, 79, 80, 81, 82, 83, 84, 85, 86, 87, 88, 89, 90, 97, 98, 99, 100, 101, 102, 103, 104, 105, 106, 107, 108, 109, 110, 111, 112, 113, 114, 115, 116, 117, 118, 119, 120, 121, 122, 48, 49, 50, 51, 52, 53, 54, 55, 56, 57, 43, 47]⟩
theorem letters_at (m : Nat) (h : m < 64) : (lettersB[m]'(h : m < lettersB.size)).toNat = ln m := by
  have : ∀ m : Fin 64, (lettersB[m.1]'(m.2 : m.1 < lettersB.size)).toNat = ln m.1 := by decide +kernel
  exact this ⟨m, h⟩
theorem int_u8 {a b : Nat} (h : a = b) : Ending.returned (Value.int .u8 (a : Int)) = Ending.returned (Value.int .u8 (b : Int)) := by rw [h]
theorem int_to {a : Int} {b : Nat} (h : a = (b : Int)) : Ending.returned (Value.int .u8 a) = Ending.returned (Value.int .u8 (b : Int)) := by rw [h]
set_option maxRecDepth 100000 in
theorem letter_any (n : Nat) (hn : n < 18446744073709551616) (w : World) :
    Calls Tryd.prog 16 #[.int .u64 n] w fun e w' => e = .returned (.int .u8 (ln n : Nat)) ∧ w = w' := by
  go_enter Tryd.func16, Tryd.ntmps16
  go_wp2
  go_ret
  exact ⟨int_u8 ((letters_at (n % 64) (Nat.mod_lt _ (by decide))).trans (ln_mod n)), rfl⟩

set_option maxRecDepth 100000 in
theorem ref_letter (n : Nat) (hn : n < 64) (w : World) :
    Calls Tryd.prog 20 #[.int .u32 n] w fun e w' => e = .returned (.int .u8 (ln n : Nat)) ∧ w = w' := by
  have hm : n % 64 = n := Nat.mod_eq_of_lt hn
  by_cases h1 : n < 26
  · have HL : Hid (ln n = 65 + n) := hid (by unfold ln; simp only [hm]; rw [if_pos h1])
    have i1 : (n : Int) < 26 := by omega
    clear hm h1
    go_enter Tryd.func20, Tryd.ntmps20
    go_wp2
    go_ret
    exact ⟨int_to (by rw [HL.out]; omega), rfl⟩
  · by_cases h2 : n < 52
    · have HL : Hid (ln n = 71 + n) := hid (by unfold ln; simp only [hm]; rw [if_neg h1, if_pos h2])
      have i1 : ¬ (n : Int) < 26 := by omega
      have i2 : (n : Int) < 52 := by omega
      clear hm h1 h2
      go_enter Tryd.func20, Tryd.ntmps20
      go_wp2
      go_ret
      exact ⟨int_to (by rw [HL.out]; omega), rfl⟩
    · by_cases h3 : n < 62
      · have HL : Hid (ln n = n - 4) := hid (by unfold ln; simp only [hm]; rw [if_neg h1, if_neg h2, if_pos h3])
        have i1 : ¬ (n : Int) < 26 := by omega
        have i2 : ¬ (n : Int) < 52 := by omega
        have i3 : (n : Int) < 62 := by omega
        clear hm h1 h2 h3
        go_enter Tryd.func20, Tryd.ntmps20
        go_wp2
        go_ret
        exact ⟨int_to (by rw [HL.out]; omega), rfl⟩
      · obtain rfl | rfl : n = 62 ∨ n = 63 := by omega
        all_goals
          clear hm h1 h2 h3
          go_enter Tryd.func20, Tryd.ntmps20
          go_wp2
          go_ret
          exact ⟨rfl, rfl⟩
/-- What ambryref03.number answers. -/
def numv (x : Nat) : Value := .tuple #[.int .u32 (num x : Nat), .bool (isN x)]
theorem numv_mk {x : Nat} {a : Int} {b : Bool} (h1 : a = (num x : Int)) (h2 : b = isN x) : Ending.returned (.tuple #[.int .u32 a, .bool b]) = Ending.returned (numv x) := by rw [h1, h2]; rfl
theorem isN_iff (x : Nat) : isN x = true ↔ (65 ≤ x ∧ x ≤ 90) ∨ (97 ≤ x ∧ x ≤ 122) ∨ (48 ≤ x ∧ x ≤ 57) ∨ x = 43 ∨ x = 47 := by
  unfold isN
  simp only [Bool.or_eq_true, Bool.and_eq_true, decide_eq_true_eq, beq_iff_eq]
  omega
theorem isN_yes {x : Nat} (h : (65 ≤ x ∧ x ≤ 90) ∨ (97 ≤ x ∧ x ≤ 122) ∨ (48 ≤ x ∧ x ≤ 57) ∨ x = 43 ∨ x = 47) : true = isN x := ((isN_iff x).2 h).symm
theorem isN_no {x : Nat} (h : ¬ ((65 ≤ x ∧ x ≤ 90) ∨ (97 ≤ x ∧ x ≤ 122) ∨ (48 ≤ x ∧ x ≤ 57) ∨ x = 43 ∨ x = 47)) : false = isN x := by
  cases e : isN x with
  | false => rfl
  | true => exact absurd ((isN_iff x).1 e) h
set_option maxHeartbeats 1000000 in
set_option maxRecDepth 100000 in
theorem ref_number (x : Nat) (hx : x < 256) (w : World) :
    Calls Tryd.prog 23 #[.int .u8 x] w fun e w' => e = .returned (numv x) ∧ w = w' := by
  by_cases h43 : x = 43
  · subst h43
    go_enter Tryd.func23, Tryd.ntmps23
    go_wp2
    go_ret2
    exact ⟨rfl, rfl⟩
  by_cases h47 : x = 47
  · subst h47
    go_enter Tryd.func23, Tryd.ntmps23
    go_wp2
    go_ret2
    exact ⟨rfl, rfl⟩
  have i43 : ¬ (x : Int) = 43 := by omega
  have i47 : ¬ (x : Int) = 47 := by omega
  have e : Hid (∀ a b, a = (num x : Int) → b = isN x → Ending.returned (.tuple #[.int .u32 a, .bool b]) = Ending.returned (numv x)) := hid fun _ _ h1 h2 => numv_mk h1 h2
  generalize numv x = V at *
  go_enter Tryd.func23, Tryd.ntmps23
  go_wp2
  all_goals
    go_ret2
    refine ⟨e.out _ _ ?_ ?_, rfl⟩
    · unfold num
      repeat' split
      all_goals omega
    · first
        | exact isN_yes (by omega)
        | exact isN_no (by omega)
end Go.Proofs.YtbmmlpfbflohgaaDoor
