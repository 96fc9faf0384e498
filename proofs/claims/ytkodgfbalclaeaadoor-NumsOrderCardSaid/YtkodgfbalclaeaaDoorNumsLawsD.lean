/-
  The walks of layer 1's laws at this program, fourth part: NumsBack. It answers true, for every argument, and leaves what was there as it was. Conditions: the package variables hold what they were laid with ('Vars').
-/
import Derived.Test.YtkodgfbalclaeaaDoorNumsLawsC
namespace Go.Proofs.YtkodgfbalclaeaaDoor
open Go Go.Shelf Go.RowKit

set_option maxHeartbeats 1000000 in
set_option maxRecDepth 100000 in
theorem back_neg (n : Nat) (hn : n < 18446744073709551616) (i : Int) (k : Nat) (z : Nat → ByteArray) (l0 : -9223372036854775808 ≤ i) (l1 : i < 0) (ik : (i + 1).tmod 25 = -(k : Int)) (hk : k ≤ 24)
    (hz1 : ∀ q, (⟨#[48]⟩ : ByteArray) ++ z q = z (q + 1)) (hz2 : ∀ q, q ≤ 24 → (z q).size ≤ 44)
    (w : World) (hs : Calls Tryd.prog 11 #[] w fun e w' => e = .returned (.bool true) ∧ Below w.heap.size w w')
    (hvb : ∀ W, Below w.heap.size w W → Vars W)
    (ht : ∀ W, Vars W → Calls Tryd.prog 16 #[.int .u64 n] W fun e w' => e = .returned (.string (z 0)) ∧ Below W.heap.size W w')
    (hp : ((z k).size ≤ 20 ∧ ∀ W, Vars W → Calls Tryd.prog 12 #[.string (z k)] W fun e w' => e = .returned (.tuple #[.int .u64 n, .bool true]) ∧ Below W.heap.size W w') ∨
      (20 < (z k).size ∧ ∀ W, Vars W → Calls Tryd.prog 12 #[.string (z k)] W fun e w' => e = .returned (.tuple #[.int .u64 0, .bool false]) ∧ Below W.heap.size W w'))
    (hg : (n < 9223372036854775808 ∧ (∀ W, Vars W → Calls Tryd.prog 14 #[.string (z 0)] W fun e w' => e = .returned (.tuple #[.int .i64 (n : Int), .bool true]) ∧ Below W.heap.size W w') ∧
        ∀ W, Vars W → Calls Tryd.prog 14 #[.string (⟨#[45]⟩ ++ z 0)] W fun e w' => e = .returned (.tuple #[.int .i64 (-(n : Int)), .bool true]) ∧ Below W.heap.size W w') ∨
      ∃ (b : Bool) (v : Int), 9223372036854775808 ≤ n ∧ ((n : Int) == 9223372036854775808) = b ∧ (∀ W, Vars W → Calls Tryd.prog 14 #[.string (z 0)] W fun e w' => e = .returned (.tuple #[.int .i64 0, .bool false]) ∧ Below W.heap.size W w') ∧
        ∀ W, Vars W → Calls Tryd.prog 14 #[.string (⟨#[45]⟩ ++ z 0)] W fun e w' => e = .returned (.tuple #[.int .i64 v, .bool b]) ∧ Below W.heap.size W w') :
    Calls Tryd.prog 6 #[.int .u64 n, .int .i64 i] w fun e w' => e = .returned (.bool true) ∧ Below w.heap.size w w' := by
  have HZ1 := Lib.hid hz1
  have HZ2 := Lib.hid hz2
  have HP := Lib.hid hp
  have HG := Lib.hid hg
  clear hz1 hz2 hp hg
  go_enter Tryd.func6, Tryd.ntmps6
  go_wp2_with fail
  refine hs.mono ?_
  rintro e w1 ⟨rfl, b1⟩
  go_wp2_with fail
  refine (ht _ (hvb _ b1)).mono ?_
  rintro e w2 ⟨rfl, b2⟩
  have b12 := Below.then b1 b2
  clear ht hs b1 b2
  go_wp2_with fail
  go_loop [7, 8] (fun t j => ∃ q : Nat, q ≤ k ∧ j = .int .i64 q ∧ t = .string (z q)) (fun _ j => k - (intOf j).toNat)
  case atStart => exact ⟨0, by omega, rfl, rfl⟩
  case round =>
    obtain ⟨q, hq, rfl, rfl⟩ := hrel
    have hsz : (z q).size ≤ 44 := HZ2.out q (by omega)
    by_cases hlt : q < k
    · go_wp2_with fail
      go_round
      case rel => exact ⟨q + 1, by omega, by go_num, by rw [← HZ1.out q]⟩
      case measure => simp [intOf]; omega
    · obtain rfl : q = k := by omega
      have h0s : (z 0).size ≤ 44 := HZ2.out 0 (by omega)
      have hnn : (n : Int) ≤ 18446744073709551615 := by omega
      go_wp2_with fail
      rcases HP.out with ⟨hl, hP⟩ | ⟨hl, hP⟩
      all_goals
        clear HP
        refine (hP _ (hvb _ b12)).mono ?_
        rintro e w3 ⟨rfl, b3⟩
        have b13 := Below.then b12 b3
        clear hP b3
        go_wp2_with fail
        rcases HG.out with ⟨hlt2, hS, hT⟩ | ⟨b, v, hge, hbe, hS, hT⟩
        · clear HG
          refine (hS _ (hvb _ b13)).mono ?_
          rintro e w4 ⟨rfl, b4⟩
          have b14 := Below.then b13 b4
          clear hS b4
          go_wp2_with fail
          refine (hT _ (hvb _ b14)).mono ?_
          rintro e w5 ⟨rfl, b5⟩
          have b15 := Below.then b14 b5
          clear hT b5
          have il : decide ((9223372036854775808 : Int) ≤ (n : Int)) = false := decide_eq_false (by omega)
          have iw : IntKind.u64.wrap (n : Int) = (n : Int) := by rw [IntKind.wrap_u64]; omega
          have iv : wrap64 (-(n : Int)) = -(n : Int) := IntWalk.wrap64_in _ ⟨by omega, by omega⟩
          clear hlt2 hn hnn
          go_wp2_with fail
          go_ret
          exact ⟨rfl, b15⟩
        · clear HG
          refine (hS _ (hvb _ b13)).mono ?_
          rintro e w4 ⟨rfl, b4⟩
          have b14 := Below.then b13 b4
          clear hS b4
          have HB := Lib.hid hbe
          clear hbe
          go_wp2_with fail
          refine (hT _ (hvb _ b14)).mono ?_
          rintro e w5 ⟨rfl, b5⟩
          have b15 := Below.then b14 b5
          clear hT b5
          have il : (9223372036854775808 : Int) ≤ (n : Int) := by omega
          have hbe := HB.out
          clear HB
          cases b <;> (go_wp2_with fail; go_ret; exact ⟨rfl, b15⟩)

set_option maxHeartbeats 1000000 in
set_option maxRecDepth 100000 in
theorem back_pos (n : Nat) (hn : n < 18446744073709551616) (i : Int) (k : Nat) (z : Nat → ByteArray) (l0 : 0 ≤ i) (l1 : i ≤ 9223372036854775807) (ik : i % 25 = (k : Int)) (hk : k ≤ 24)
    (hz1 : ∀ q, (⟨#[48]⟩ : ByteArray) ++ z q = z (q + 1)) (hz2 : ∀ q, q ≤ 24 → (z q).size ≤ 44)
    (w : World) (hs : Calls Tryd.prog 11 #[] w fun e w' => e = .returned (.bool true) ∧ Below w.heap.size w w')
    (hvb : ∀ W, Below w.heap.size w W → Vars W)
    (ht : ∀ W, Vars W → Calls Tryd.prog 16 #[.int .u64 n] W fun e w' => e = .returned (.string (z 0)) ∧ Below W.heap.size W w')
    (hp : ((z k).size ≤ 20 ∧ ∀ W, Vars W → Calls Tryd.prog 12 #[.string (z k)] W fun e w' => e = .returned (.tuple #[.int .u64 n, .bool true]) ∧ Below W.heap.size W w') ∨
      (20 < (z k).size ∧ ∀ W, Vars W → Calls Tryd.prog 12 #[.string (z k)] W fun e w' => e = .returned (.tuple #[.int .u64 0, .bool false]) ∧ Below W.heap.size W w'))
    (hg : (n < 9223372036854775808 ∧ (∀ W, Vars W → Calls Tryd.prog 14 #[.string (z 0)] W fun e w' => e = .returned (.tuple #[.int .i64 (n : Int), .bool true]) ∧ Below W.heap.size W w') ∧
        ∀ W, Vars W → Calls Tryd.prog 14 #[.string (⟨#[45]⟩ ++ z 0)] W fun e w' => e = .returned (.tuple #[.int .i64 (-(n : Int)), .bool true]) ∧ Below W.heap.size W w') ∨
      ∃ (b : Bool) (v : Int), 9223372036854775808 ≤ n ∧ ((n : Int) == 9223372036854775808) = b ∧ (∀ W, Vars W → Calls Tryd.prog 14 #[.string (z 0)] W fun e w' => e = .returned (.tuple #[.int .i64 0, .bool false]) ∧ Below W.heap.size W w') ∧
        ∀ W, Vars W → Calls Tryd.prog 14 #[.string (⟨#[45]⟩ ++ z 0)] W fun e w' => e = .returned (.tuple #[.int .i64 v, .bool b]) ∧ Below W.heap.size W w') :
    Calls Tryd.prog 6 #[.int .u64 n, .int .i64 i] w fun e w' => e = .returned (.bool true) ∧ Below w.heap.size w w' := by
  have HZ1 := Lib.hid hz1
  have HZ2 := Lib.hid hz2
  have HP := Lib.hid hp
  have HG := Lib.hid hg
  clear hz1 hz2 hp hg
  go_enter Tryd.func6, Tryd.ntmps6
  go_wp2_with fail
  refine hs.mono ?_
  rintro e w1 ⟨rfl, b1⟩
  go_wp2_with fail
  refine (ht _ (hvb _ b1)).mono ?_
  rintro e w2 ⟨rfl, b2⟩
  have b12 := Below.then b1 b2
  clear ht hs b1 b2
  go_wp2_with fail
  go_loop [7, 8] (fun t j => ∃ q : Nat, q ≤ k ∧ j = .int .i64 q ∧ t = .string (z q)) (fun _ j => k - (intOf j).toNat)
  case atStart => exact ⟨0, by omega, rfl, rfl⟩
  case round =>
    obtain ⟨q, hq, rfl, rfl⟩ := hrel
    have hsz : (z q).size ≤ 44 := HZ2.out q (by omega)
    by_cases hlt : q < k
    · go_wp2_with fail
      go_round
      case rel => exact ⟨q + 1, by omega, by go_num, by rw [← HZ1.out q]⟩
      case measure => simp [intOf]; omega
    · obtain rfl : q = k := by omega
      have h0s : (z 0).size ≤ 44 := HZ2.out 0 (by omega)
      have hnn : (n : Int) ≤ 18446744073709551615 := by omega
      go_wp2_with fail
      rcases HP.out with ⟨hl, hP⟩ | ⟨hl, hP⟩
      all_goals
        clear HP
        refine (hP _ (hvb _ b12)).mono ?_
        rintro e w3 ⟨rfl, b3⟩
        have b13 := Below.then b12 b3
        clear hP b3
        go_wp2_with fail
        rcases HG.out with ⟨hlt2, hS, hT⟩ | ⟨b, v, hge, hbe, hS, hT⟩
        · clear HG
          refine (hS _ (hvb _ b13)).mono ?_
          rintro e w4 ⟨rfl, b4⟩
          have b14 := Below.then b13 b4
          clear hS b4
          go_wp2_with fail
          refine (hT _ (hvb _ b14)).mono ?_
          rintro e w5 ⟨rfl, b5⟩
          have b15 := Below.then b14 b5
          clear hT b5
          have il : decide ((9223372036854775808 : Int) ≤ (n : Int)) = false := decide_eq_false (by omega)
          have iw : IntKind.u64.wrap (n : Int) = (n : Int) := by rw [IntKind.wrap_u64]; omega
          have iv : wrap64 (-(n : Int)) = -(n : Int) := IntWalk.wrap64_in _ ⟨by omega, by omega⟩
          clear hlt2 hn hnn
          go_wp2_with fail
          go_ret
          exact ⟨rfl, b15⟩
        · clear HG
          refine (hS _ (hvb _ b13)).mono ?_
          rintro e w4 ⟨rfl, b4⟩
          have b14 := Below.then b13 b4
          clear hS b4
          have HB := Lib.hid hbe
          clear hbe
          go_wp2_with fail
          refine (hT _ (hvb _ b14)).mono ?_
          rintro e w5 ⟨rfl, b5⟩
          have b15 := Below.then b14 b5
          clear hT b5
          have il : (9223372036854775808 : Int) ≤ (n : Int) := by omega
          have hbe := HB.out
          clear HB
          cases b <;> (go_wp2_with fail; go_ret; exact ⟨rfl, b15⟩)


theorem back_law (n : Nat) (hn : n < 18446744073709551616) (i : Int) (l0 : -9223372036854775808 ≤ i) (l1 : i ≤ 9223372036854775807) (w : World) (hv : Vars w) :
    Calls Tryd.prog 6 #[.int .u64 n, .int .i64 i] w fun e w' => e = .returned (.bool true) ∧ Below w.heap.size w w' := by
  have hvb : ∀ W, Below w.heap.size w W → Vars W := fun W hb => hv.below hb
  have z0 : S (List.replicate 0 48 ++ Lib.decDigits n) = S (Lib.decDigits n) := rfl
  have hlen : ∀ q, (S (List.replicate q 48 ++ Lib.decDigits n)).size = q + (Lib.decDigits n).length := fun q => by rw [S_size, List.length_append, List.length_replicate]
  have hz1 : ∀ q, (⟨#[48]⟩ : ByteArray) ++ S (List.replicate q 48 ++ Lib.decDigits n) = S (List.replicate (q + 1) 48 ++ Lib.decDigits n) := fun q => by
    show S [48] ++ S _ = _
    rw [S_append, List.replicate_succ]; rfl
  have hz2 : ∀ q, q ≤ 24 → (S (List.replicate q 48 ++ Lib.decDigits n)).size ≤ 44 := fun q hq => by rw [hlen]; have := dd_len_le hn; omega
  have ht : ∀ W, Vars W → Calls Tryd.prog 16 #[.int .u64 n] W fun e w' => e = .returned (.string (S (List.replicate 0 48 ++ Lib.decDigits n))) ∧ Below W.heap.size W w' := fun W hV => text_any n hn W hV
  have hp : ∀ k, ((S (List.replicate k 48 ++ Lib.decDigits n)).size ≤ 20 ∧ ∀ W, Vars W → Calls Tryd.prog 12 #[.string (S (List.replicate k 48 ++ Lib.decDigits n))] W fun e w' => e = .returned (.tuple #[.int .u64 n, .bool true]) ∧ Below W.heap.size W w') ∨
      (20 < (S (List.replicate k 48 ++ Lib.decDigits n)).size ∧ ∀ W, Vars W → Calls Tryd.prog 12 #[.string (S (List.replicate k 48 ++ Lib.decDigits n))] W fun e w' => e = .returned (.tuple #[.int .u64 0, .bool false]) ∧ Below W.heap.size W w') := fun k => by
    rcases Nat.lt_or_ge 20 (k + (Lib.decDigits n).length) with h | h
    · exact Or.inr ⟨by rw [hlen]; exact h, fun W hV => parse_none _ (by rw [S_list]; exact parseU_zeros_long k h) W hV⟩
    · exact Or.inl ⟨by rw [hlen]; exact h, fun W _ => parse_some _ n (by rw [S_list]; exact parseU_zeros k hn h) W⟩
  have dash : (⟨#[45]⟩ : ByteArray) ++ S (List.replicate 0 48 ++ Lib.decDigits n) = S (45 :: Lib.decDigits n) := by
    show S [45] ++ S (Lib.decDigits n) = _
    rw [S_append]; rfl
  have sd : ∀ (l : List UInt8) (r : Option Int), signedU l = r → ∀ W, Vars W → Calls Tryd.prog 14 #[.string (S l)] W fun e w' => e = .returned (sv r) ∧ Below W.heap.size W w' := fun l r hr W hV => by
    have h := signed_any (S l) W hV
    rw [S_list, hr] at h
    exact h
  have hg : (n < 9223372036854775808 ∧ (∀ W, Vars W → Calls Tryd.prog 14 #[.string (S (List.replicate 0 48 ++ Lib.decDigits n))] W fun e w' => e = .returned (.tuple #[.int .i64 (n : Int), .bool true]) ∧ Below W.heap.size W w') ∧
        ∀ W, Vars W → Calls Tryd.prog 14 #[.string (⟨#[45]⟩ ++ S (List.replicate 0 48 ++ Lib.decDigits n))] W fun e w' => e = .returned (.tuple #[.int .i64 (-(n : Int)), .bool true]) ∧ Below W.heap.size W w') ∨
      ∃ (b : Bool) (v : Int), 9223372036854775808 ≤ n ∧ ((n : Int) == 9223372036854775808) = b ∧ (∀ W, Vars W → Calls Tryd.prog 14 #[.string (S (List.replicate 0 48 ++ Lib.decDigits n))] W fun e w' => e = .returned (.tuple #[.int .i64 0, .bool false]) ∧ Below W.heap.size W w') ∧
        ∀ W, Vars W → Calls Tryd.prog 14 #[.string (⟨#[45]⟩ ++ S (List.replicate 0 48 ++ Lib.decDigits n))] W fun e w' => e = .returned (.tuple #[.int .i64 v, .bool b]) ∧ Below W.heap.size W w' := by
    rw [dash, z0]
    rcases Nat.lt_or_ge n 9223372036854775808 with h | h
    · exact Or.inl ⟨h, sd _ _ (signedU_dd_small h), sd _ _ (signedU_dash_small (by omega))⟩
    · refine Or.inr ?_
      by_cases he : n = 9223372036854775808
      · exact ⟨true, _, h, by rw [he]; rfl, sd _ _ (signedU_dd_big hn h), sd _ _ (signedU_dash_small (by omega))⟩
      · exact ⟨false, 0, h, by rw [beq_eq_false_iff_ne]; omega, sd _ _ (signedU_dd_big hn h), sd _ _ (signedU_dash_big hn (by omega))⟩
  by_cases hi : i < 0
  · obtain ⟨j, rfl⟩ : ∃ j : Nat, i = -((j : Int) + 1) := ⟨(-(i + 1)).toNat, by omega⟩
    have ik : (-((j : Int) + 1) + 1).tmod 25 = -((j % 25 : Nat) : Int) := by
      rw [show -((j : Int) + 1) + 1 = -(j : Int) from by omega, Int.neg_tmod, Int.tmod_eq_emod_of_nonneg (by omega)]
      simp
    exact back_neg n hn _ (j % 25) (fun q => S (List.replicate q 48 ++ Lib.decDigits n)) l0 hi ik (by omega) hz1 hz2 w (shown_true w hv) hvb ht (hp _) hg
  · obtain ⟨j, rfl⟩ : ∃ j : Nat, i = (j : Int) := ⟨i.toNat, by omega⟩
    exact back_pos n hn _ (j % 25) (fun q => S (List.replicate q 48 ++ Lib.decDigits n)) (by omega) l1 (by omega) (by omega) hz1 hz2 w (shown_true w hv) hvb ht (hp _) hg
end Go.Proofs.YtkodgfbalclaeaaDoor
