/-
  The law SizesHold at this program. No conditions.
-/
import Derived.Test.YtoiifccmnmhnkaaSizesLaws
namespace Go.Proofs.Ytoiifccmnmhnkaa
open Go Go.RowKit Go.Lib

theorem fold_lit (p : Int) (c : Nat) (hc : 0 < c) : ∃ k : Nat, k < c ∧ ((p < 0 ∧ (p + 1).tmod (c : Int) = -(k : Int)) ∨ (¬ p < 0 ∧ 0 ≤ p ∧ p % (c : Int) = (k : Int))) := by
  by_cases h : p < 0
  · obtain ⟨j, hj⟩ : ∃ j : Nat, p = -(j : Int) - 1 := ⟨(-(p + 1)).toNat, by omega⟩
    refine ⟨j % c, Nat.mod_lt _ hc, .inl ⟨h, ?_⟩⟩
    subst hj
    rw [show -(j : Int) - 1 + 1 = -(j : Int) from by omega, Int.neg_tmod, Int.tmod_eq_emod_of_nonneg (by omega)]; rfl
  · obtain ⟨j, hj⟩ : ∃ j : Nat, p = (j : Int) := ⟨p.toNat, by omega⟩
    refine ⟨j % c, Nat.mod_lt _ hc, .inr ⟨h, by omega, ?_⟩⟩
    subst hj; rfl

theorem ints_new (w : World) (x : Int) : Ints (w.alloc (.cells #[.int .i64 x] 3)) (.slice (some ⟨w.heap.size, 0, none⟩) 1 1) [x] := by
  refine ⟨some ⟨w.heap.size, 0, none⟩, 1, rfl, fun j z hj => ?_⟩
  match j, hj with
  | 0, hj =>
    simp at hj; subst hj
    exact ⟨w.heap.size, 0, rfl, by simp, by simp⟩
theorem hold_facts (s p : Nat) (hs : 1 ≤ s) (hp : 1 ≤ p) : ∃ q X : Nat, per [(s : Int)] 0 (p : Int) = (q : Int) ∧ (q : Int) * (s : Int) = (X : Int) ∧ ((q : Int) + 1) * (s : Int) = ((X + s : Nat) : Int) ∧ X ≤ p ∧ p < X + s ∧ q ≤ p := by
  refine ⟨p / s, p / s * s, ?_, by rw [Int.natCast_mul], by rw [Int.natCast_add, Int.natCast_mul, Int.add_mul, Int.one_mul], Nat.div_mul_le_self p s, ?_, Nat.div_le_self _ _⟩
  · unfold per
    rw [if_neg (by simp; omega)]
    show (if (s : Int) < 1 then (0 : Int) else (p : Int) / (s : Int)) = _
    rw [if_neg (by omega), Int.natCast_ediv]
  · have h1 := Nat.div_add_mod p s
    have h2 := Nat.mod_lt p hs
    rw [Nat.mul_comm] at h1
    omega

set_option maxHeartbeats 1000000 in
set_option maxRecDepth 100000 in
theorem hold_law (size : Int) (_ : -9223372036854775808 ≤ size) (_ : size ≤ 9223372036854775807) (page : Int) (_ : -9223372036854775808 ≤ page) (_ : page ≤ 9223372036854775807) (w : World) :
    Calls Try.prog 7 #[.int .i64 size, .int .i64 page] w fun e w' => e = .returned (.bool true) ∧ Below w.heap.size w w' := by
  obtain ⟨s, hs, hsk⟩ := fold_lit size 70000 (by decide)
  obtain ⟨p, hp, hpk⟩ := fold_lit page 70000 (by decide)
  obtain ⟨q, X, hq, e1, e2, hX, hY, hqp⟩ := hold_facts (1 + s) (1 + p) (by omega) (by omega)
  have es : ((1 + s : Nat) : Int) = 1 + (s : Int) := by omega
  have ep : ((1 + p : Nat) : Int) = 1 + (p : Int) := by omega
  have c1 : ∀ W : World, Calls Try.prog 14 #[.slice (some ⟨W.heap.size, 0, none⟩) 1 1, .int .i64 0, .int .i64 (1 + (p : Int))] (W.alloc (.cells #[.int .i64 (1 + (s : Int))] 3)) fun e w' => e = .returned (.int .i64 q) ∧ (W.alloc (.cells #[.int .i64 (1 + (s : Int))] 3)) = w' := fun W => by
    have h := per_any (some ⟨W.heap.size, 0, none⟩) 1 [1 + (s : Int)] 0 (1 + (p : Int)) (by omega) _ (ints_new W (1 + (s : Int)))
    rw [es, ep] at hq
    rw [hq] at h
    exact h
  have c2 : ∀ (W : World) (o : Obj), Calls Try.prog 14 #[.slice (some ⟨W.heap.size + 1, 0, none⟩) 1 1, .int .i64 1, .int .i64 (1 + (p : Int))] ((W.alloc o).alloc (.cells #[.int .i64 (1 + (s : Int))] 3)) fun e w' => e = .returned (.int .i64 0) ∧ ((W.alloc o).alloc (.cells #[.int .i64 (1 + (s : Int))] 3)) = w' := fun W o => by
    have h := per_any (some ⟨(W.alloc o).heap.size, 0, none⟩) 1 [1 + (s : Int)] 1 (1 + (p : Int)) (by omega) _ (ints_new (W.alloc o) (1 + (s : Int)))
    rw [show (W.alloc o).heap.size = W.heap.size + 1 from by simp] at h
    have e : per [1 + (s : Int)] 1 (1 + (p : Int)) = 0 := by unfold per; rw [if_pos (by simp)]
    rw [e] at h
    exact h
  rw [es] at e1 e2
  have eK : ((70000 : Nat) : Int) = 70000 := rfl
  rw [eK] at hsk hpk
  clear hq es ep eK
  rcases hsk with ⟨s0, s1⟩ | ⟨s0, s00, s1⟩
  all_goals
    rcases hpk with ⟨p0, p1⟩ | ⟨p0, p00, p1⟩
  all_goals
    go_enter Try.func7, Try.ntmps7
    go_wp2_with fail
    refine (shown_any _).mono ?_
    rintro e w1 ⟨rfl, b1⟩
    go_wp2_with fail
    refine (c1 _).mono ?_
    rintro e w2 ⟨rfl, rfl⟩
    go_wp2_with fail
    refine (c2 _ _).mono ?_
    rintro e w2 ⟨rfl, rfl⟩
    go_wp2_with fail
    go_ret
    exact ⟨rfl, (b1.alloc b1.size _).alloc (by simp; have := b1.size; omega) _⟩
end Go.Proofs.Ytoiifccmnmhnkaa
