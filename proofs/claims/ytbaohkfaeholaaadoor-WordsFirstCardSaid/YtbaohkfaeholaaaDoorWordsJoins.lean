/-
  The law WordsJoins at this program: of at most a thousand texts of at most five thousand bytes words.Join answers what the document's own answer does; of others the law asks nothing. No conditions.
-/
import Derived.Test.YtbaohkfaeholaaaDoorWordsShown
namespace Go.Proofs.YtbaohkfaeholaaaDoor
open Go Go.Shelf Go.RowKit

theorem texts_take {w : World} {a : Option Addr} {n c : Nat} {xs : List (List UInt8)} (h : Texts w (.slice a n c) xs) {k : Nat} (hk : k ≤ xs.length) : Texts w (.slice a k c) (xs.take k) := by
  obtain ⟨a', c', e, hc, hx⟩ := h
  cases e
  have hl : (xs.take k).length = k := by rw [List.length_take]; omega
  refine ⟨a, c, by rw [hl], by omega, fun j x hj => ?_⟩
  have hj' : j < k := by have := (List.getElem?_eq_some_iff.1 hj).1; omega
  rw [List.getElem?_take, if_pos hj'] at hj
  exact hx j x hj

set_option maxHeartbeats 2000000 in
set_option maxRecDepth 100000 in
theorem joins_walk (a : Option Addr) (n c : Nat) (ys : List (List UInt8)) (N : Nat) (w : World) (hT2 : Texts w (.slice a N c) ys) (hnx : n ≤ 9223372036854775807)
    (hN : (¬ (1000 : Int) < (n : Int) ∧ N = n) ∨ ((1000 : Int) < (n : Int) ∧ N = 1000)) (hN1 : N ≤ 1000) (hNc : N ≤ c) (hcm : c ≤ 9223372036854775807) :
    Calls Tryd.prog 6 #[.slice a n c] w fun e w' => e = .returned (.bool true) ∧ Below w.heap.size w w' := by
  have hyl : ys.length = N := by obtain ⟨a', c', e, _⟩ := hT2; cases e; rfl
  go_enter Tryd.func6, Tryd.ntmps6
  go_wp2_with fail
  refine (shown_any _).mono ?_
  rintro e w1 ⟨rfl, b1⟩
  have hA : Hid (∀ j x, ys[j]? = some x → ∃ b o, a = some ⟨b, o, none⟩ ∧ b < w1.heap.size ∧ w1.cell? ⟨b, o + j, none⟩ = some (.string (S x))) := by
    obtain ⟨a', c', e, _, hx⟩ := hT2.below b1
    cases e
    exact hid hx
  have HT2 := hid (hT2.below b1)
  clear hT2
  rcases hN with ⟨i0, hN⟩ | ⟨i0, hN⟩
  all_goals
    subst hN
    go_wp2_with fail
    go_loop [4] (fun i => ∃ k : Nat, k ≤ ys.length ∧ i = .int .i64 k ∧ ∀ x ∈ ys.take k, x.length ≤ 5000) (fun i => ys.length - (intOf i).toNat)
    case atStart => exact ⟨0, by omega, rfl, by simp⟩
    case round =>
      obtain ⟨k, hk, rfl, hx⟩ := hrel
      by_cases hlt : k < ys.length
      · obtain ⟨x, hxk⟩ : ∃ x, ys[k]? = some x := ⟨_, List.getElem?_eq_getElem hlt⟩
        obtain ⟨b, o, rfl, hbl, hcell⟩ := hA.out k x hxk
        have hsz := S_size x
        by_cases h5 : 5000 < x.length
        · have i5 : (5000 : Int) < ((S x).size : Int) := by omega
          generalize S x = X at hcell i5
          clear HT2 hA hx hsz
          go_wp2_with fail
          go_ret
          exact ⟨rfl, b1⟩
        · have i5 : ¬ (5000 : Int) < ((S x).size : Int) := by omega
          have hx' : Hid (∀ y ∈ ys.take (k + 1), y.length ≤ 5000) := hid (by
            rw [List.take_add_one, hxk]
            intro y hy
            rcases List.mem_append.1 hy with hy | hy
            · exact hx y hy
            · simp at hy; subst hy; omega)
          generalize S x = X at hcell i5
          clear HT2 hA hx hsz
          go_wp2_with fail
          go_round
          case rel => exact ⟨k + 1, by omega, by go_num, hx'.out⟩
          case measure => simp [intOf] <;> omega
      · obtain rfl : k = ys.length := by omega
        rw [List.take_length] at hx
        have hj := join_len_le 5000 hx
        have hjk : ∀ k, k ≤ ys.length → (Lib.join (ys.take k) [32]).length ≤ 140737488355328 := fun k hk => by
          have h1 := join_len_le 5000 (xs := ys.take k) (fun y hy => hx y (List.mem_of_mem_take hy))
          have h2 : (ys.take k).length ≤ 1000 := by rw [List.length_take]; omega
          have h3 : (ys.take k).length * (5000 + 1) ≤ 1000 * 5001 := Nat.mul_le_mul_right _ h2
          omega
        have hj1 := join_texts _ ys (by omega) (by have := hjk _ (Nat.le_refl _); rwa [List.take_length] at this) w1 HT2.out
        have hj2 := fun W (hb : Below w1.heap.size w1 W) => ref_join _ ys (by omega) hjk (fun y hy => by have := hx y hy; omega) W (HT2.out.below hb)
        generalize S (Lib.join ys [32]) = R at hj1 hj2
        clear hA hx hj hjk HT2
        go_wp2_with fail
        refine hj1.mono ?_
        rintro e w2 ⟨rfl, b2⟩
        go_wp2_with fail
        refine (hj2 _ b2).mono ?_
        rintro e w3 ⟨rfl, b3⟩
        go_wp2_with fail
        go_ret
        exact ⟨by simp, Below.then (Below.then b1 b2) b3⟩

theorem joins_law (a : Option Addr) (n c : Nat) (xs : List (List UInt8)) (w : World) (hT : Texts w (.slice a n c) xs) (hcm : c ≤ 9223372036854775807) :
    Calls Tryd.prog 6 #[.slice a n c] w fun e w' => e = .returned (.bool true) ∧ Below w.heap.size w w' := by
  obtain ⟨hn, hc⟩ : xs.length = n ∧ n ≤ c := by obtain ⟨a', c', e, h, _⟩ := hT; cases e; exact ⟨rfl, h⟩
  by_cases h : 1000 < n
  · exact joins_walk a n c (xs.take 1000) 1000 w (texts_take hT (by omega)) (by omega) (.inr ⟨by omega, rfl⟩) (by omega) (by omega) (by omega)
  · exact joins_walk a n c xs n w hT (by omega) (.inl ⟨by omega, rfl⟩) (by omega) (by omega) (by omega)
end Go.Proofs.YtbaohkfaeholaaaDoor
