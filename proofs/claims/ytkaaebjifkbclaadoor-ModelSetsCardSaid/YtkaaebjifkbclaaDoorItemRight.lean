/-
  Contracts of item.isRight, ambryref08.Right and item.marks at this program: whether an item is right, and its marks. Conditions: lengths below 2^63.
-/
import Derived.Test.YtkaaebjifkbclaaDoorItemSmall
namespace Go.Proofs.YtkaaebjifkbclaaDoor
open Go Go.RowKit Go.Lib

theorem right_cases (k v : ByteArray) (x l : Int) : (keyB k.data.toList = false ∧ (⟨k, 0, v, x, 0, l, false, false⟩ : It).right = false) ∨
    (keyB k.data.toList = true ∧ ¬ v.size ≤ 65536 ∧ (⟨k, 0, v, x, 0, l, false, false⟩ : It).right = false) ∨
    (keyB k.data.toList = true ∧ v.size ≤ 65536 ∧ x < 0 ∧ (⟨k, 0, v, x, 0, l, false, false⟩ : It).right = false) ∨
    (keyB k.data.toList = true ∧ v.size ≤ 65536 ∧ 0 ≤ x ∧ l < 0 ∧ (⟨k, 0, v, x, 0, l, false, false⟩ : It).right = false) ∨
    (keyB k.data.toList = true ∧ v.size ≤ 65536 ∧ 0 ≤ x ∧ 0 ≤ l ∧ (⟨k, 0, v, x, 0, l, false, false⟩ : It).right = true) := by
  unfold It.right
  cases keyB k.data.toList with
  | false => exact .inl ⟨rfl, rfl⟩
  | true =>
    by_cases h1 : v.size ≤ 65536
    · by_cases h2 : 0 ≤ x
      · by_cases h3 : 0 ≤ l
        · exact .inr (.inr (.inr (.inr ⟨rfl, h1, h2, h3, by simp [h1, h2, h3]⟩)))
        · exact .inr (.inr (.inr (.inl ⟨rfl, h1, h2, by omega, by simp [h3]⟩)))
      · exact .inr (.inr (.inl ⟨rfl, h1, by omega, by simp [h2]⟩))
    · exact .inr (.inl ⟨rfl, h1, by simp [h1]⟩)

set_option maxHeartbeats 2000000 in
set_option maxRecDepth 100000 in
theorem ref_right (x : It) (w : World) (hs : x.key.size < 9223372036854775807) : Calls Tryd.prog 20 #[x.v] w fun e w' => e = .returned (.bool x.right) ∧ Below w.heap.size w w' := by
  obtain ⟨k, f, v, x, c, l, s, o⟩ := x
  show Calls Tryd.prog 20 #[.agg #[.string k, .int .u32 f, .string v, .int .i64 x, .int .u64 c, .int .i64 l, .bool s, .bool o]] w fun e w' => e = .returned (.bool (⟨k, 0, v, x, 0, l, false, false⟩ : It).right) ∧ Below w.heap.size w w'
  have hk := fun w => ref_key k hs w
  clear hs
  rcases right_cases k v x l with ⟨h1, e⟩ | ⟨h1, h2, e⟩ | ⟨h1, h2, h3, e⟩ | ⟨h1, h2, h3, h4, e⟩ | ⟨h1, h2, h3, h4, e⟩
  all_goals
    rw [h1] at hk
    rw [e]
    clear h1 e
    go_enter Tryd.func20, Tryd.ntmps20
    go_wp2_with fail
    refine (hk _).mono ?_
    rintro e w1 ⟨rfl, rfl⟩
    go_wp2_with fail
    go_ret
    exact ⟨by first | rfl | exact ret_bool (decide_eq_false (by omega)), (Below.refl _ _).alloc (Nat.le_refl _) _⟩

end Go.Proofs.YtkaaebjifkbclaaDoor
