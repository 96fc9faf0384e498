/-
  Contracts of item.isRight, ambryref08.Right and item.marks at this program: whether an item is right, and its marks. Conditions: lengths below 2^63.
-/
import Derived.Test.YtdbaldkinjdeaaaItemSmall
namespace Go.Proofs.Ytdbaldkinjdeaaa
open Go Go.RowKit Go.Lib

theorem right_cases (k v : ByteArray) (x l : Int) : (keyB k.data.toList = false ∧ (⟨k, 0, v, x, 0, l, false, false⟩ : It).right = false) ∨
    (keyB k.data.toList = true ∧ ¬ v.size ≤ 65536 ∧ (⟨k, 0, v, x, 0, l, false, false⟩ : It).right = false) ∨
    (keyB k.data.toList = true ∧ v.size ≤ 65536 ∧ x < 0 ∧ (⟨k, 0, v, x, 0, l, false, false⟩ : It).right = false) ∨
    (keyB k.data.toList = true ∧ v.size ≤ 65536 ∧ 0 ≤ x ∧ l < 0 ∧ (⟨k, 0, v, x, 0, l, false, false⟩ : It).right = false) ∨
    (keyB k.data.toList = true ∧ v.size ≤ 65536 ∧ 0 ≤ x ∧ 0 ≤ l ∧ (⟨k, 0, v, x, 0, l, false, false⟩ : It).right = true) := by
  unfold It.right
  cases keyB k.data.toList with
  | false => exact .inl ⟨rfl, rfl⟩
  | true =>
    by_cases h1 : v.size ≤ 65536
    · by_cases h2 : 0 ≤ x
      · by_cases h3 : 0 ≤ l
        · exact .inr (.inr (.inr (.inr ⟨rfl, h1, h2, h3, by simp [h1, h2, h3]⟩)))
        · exact .inr (.inr (.inr (.inl ⟨rfl, h1, h2, by omega, by simp [h3]⟩)))
      · exact .inr (.inr (.inl ⟨rfl, h1, by omega, by simp [h2]⟩))
    · exact .inr (.inl ⟨rfl, h1, by simp [h1]⟩)

set_option maxHeartbeats 2000000 in
set_option maxRecDepth 100000 in
theorem right_any (x : It) (w : World) : Calls Try.prog 18 #[x.v] w fun e w' => e = .returned (.bool x.right) ∧ Below w.heap.size w w' := by
  obtain ⟨k, f, v, x, c, l, s, o⟩ := x
  show Calls Try.prog 18 #[.agg #[.string k, .int .u32 f, .string v, .int .i64 x, .int .u64 c, .int .i64 l, .bool s, .bool o]] w fun e w' => e = .returned (.bool (⟨k, 0, v, x, 0, l, false, false⟩ : It).right) ∧ Below w.heap.size w w'
  have hk := fun w => key_any k w
  have hc := fun w => count_any v.size w
  rcases right_cases k v x l with ⟨h1, e⟩ | ⟨h1, h2, e⟩ | ⟨h1, h2, h3, e⟩ | ⟨h1, h2, h3, h4, e⟩ | ⟨h1, h2, h3, h4, e⟩
  · rw [h1] at hk
    rw [e]
    clear h1 e hc
    go_enter Try.func18, Try.ntmps18
    go_wp2_with fail
    refine (hk _).mono ?_
    rintro e w1 ⟨rfl, rfl⟩
    go_wp2_with fail
    go_ret
    exact ⟨rfl, (Below.refl _ _).alloc (Nat.le_refl _) _⟩
  · rw [h1] at hk
    have ec : cntB v.size = false := by unfold cntB; simp; omega
    rw [e]
    rw [ec] at hc
    clear h1 h2 e ec
    go_enter Try.func18, Try.ntmps18
    go_wp2_with fail
    refine (hk _).mono ?_
    rintro e w1 ⟨rfl, rfl⟩
    go_wp2_with fail
    refine (hc _).mono ?_
    rintro e w1 ⟨rfl, rfl⟩
    go_wp2_with fail
    go_ret
    exact ⟨rfl, (Below.refl _ _).alloc (Nat.le_refl _) _⟩
  all_goals
    rw [h1] at hk
    have ec : cntB v.size = true := by unfold cntB; simp; omega
    rw [e]
    rw [ec] at hc
    clear h1 h2 e ec
    go_enter Try.func18, Try.ntmps18
    go_wp2_with fail
    refine (hk _).mono ?_
    rintro e w1 ⟨rfl, rfl⟩
    go_wp2_with fail
    refine (hc _).mono ?_
    rintro e w1 ⟨rfl, rfl⟩
    go_wp2_with fail
    go_ret
    exact ⟨by first | rfl | exact ret_bool (decide_eq_false (by omega)), (Below.refl _ _).alloc (Nat.le_refl _) _⟩

set_option maxHeartbeats 2000000 in
set_option maxRecDepth 100000 in
theorem ref_right (x : It) (w : World) (hs : x.key.size < 9223372036854775807) : Calls Try.prog 16 #[x.v] w fun e w' => e = .returned (.bool x.right) ∧ Below w.heap.size w w' := by
  obtain ⟨k, f, v, x, c, l, s, o⟩ := x
  show Calls Try.prog 16 #[.agg #[.string k, .int .u32 f, .string v, .int .i64 x, .int .u64 c, .int .i64 l, .bool s, .bool o]] w fun e w' => e = .returned (.bool (⟨k, 0, v, x, 0, l, false, false⟩ : It).right) ∧ Below w.heap.size w w'
  have hk := fun w => ref_key k hs w
  clear hs
  rcases right_cases k v x l with ⟨h1, e⟩ | ⟨h1, h2, e⟩ | ⟨h1, h2, h3, e⟩ | ⟨h1, h2, h3, h4, e⟩ | ⟨h1, h2, h3, h4, e⟩
  all_goals
    rw [h1] at hk
    rw [e]
    clear h1 e
    go_enter Try.func16, Try.ntmps16
    go_wp2_with fail
    refine (hk _).mono ?_
    rintro e w1 ⟨rfl, rfl⟩
    go_wp2_with fail
    go_ret
    exact ⟨by first | rfl | exact ret_bool (decide_eq_false (by omega)), (Below.refl _ _).alloc (Nat.le_refl _) _⟩

set_option maxHeartbeats 1000000 in
set_option maxRecDepth 100000 in
theorem marks_any (x : It) (w : World) : Calls Try.prog 19 #[x.v] w fun e w' => e = .returned (.int .u8 x.marks) ∧ Below w.heap.size w w' := by
  obtain ⟨k, f, v, x, c, l, s, o⟩ := x
  show Calls Try.prog 19 #[.agg #[.string k, .int .u32 f, .string v, .int .i64 x, .int .u64 c, .int .i64 l, .bool s, .bool o]] w fun e w' => e = .returned (.int .u8 (((if s = true then 1 else 0) + (if o = true then 2 else 0) : Nat) : Int)) ∧ Below w.heap.size w w'
  cases s <;> cases o
  all_goals
    go_enter Try.func19, Try.ntmps19
    go_wp2_with fail
    go_ret
    exact ⟨rfl, (Below.refl _ _).alloc (Nat.le_refl _) _⟩
end Go.Proofs.Ytdbaldkinjdeaaa
