/-
  The walks of layer 1's laws at this program, second part: each answers true, for every argument, and leaves what was there as it was. Conditions: the package variables hold what they were laid with ('Vars').
-/
import Derived.Test.YtkodgfbalclaeaaDoorNumsLaws
import Derived.Test.YtkodgfbalclaeaaDoorNumsMathB
namespace Go.Proofs.YtkodgfbalclaeaaDoor
open Go Go.Shelf Go.RowKit

theorem add_dd (n d : Nat) (hn : n < 18446744073709551616) (w : World) (hv : Vars w) :
    Calls Tryd.prog 18 #[.string (S (Lib.decDigits n)), .int .u64 d] w fun e w' => e = .returned (.tuple #[.string (S (Lib.decDigits ((n + d) % 18446744073709551616))), .bool true]) ∧ Below w.heap.size w w' := by
  have h := add_any (S (Lib.decDigits n)) d w hv
  rw [S_list, addU, parseU_dd hn] at h
  exact h
theorem sub_dd (n d : Nat) (hn : n < 18446744073709551616) (w : World) (hv : Vars w) :
    Calls Tryd.prog 20 #[.string (S (Lib.decDigits n)), .int .u64 d] w fun e w' => e = .returned (.tuple #[.string (S (Lib.decDigits (n - d))), .bool true]) ∧ Below w.heap.size w w' := by
  have h := sub_any (S (Lib.decDigits n)) d w hv
  rw [S_list, subU, parseU_dd hn] at h
  exact h

set_option maxRecDepth 100000 in
theorem undo_round (n d : Nat) (hn : n < 18446744073709551616) (hd : d < 18446744073709551616) (hr : 18446744073709551615 - n < d) (w : World) (hv : Vars w) :
    Calls Tryd.prog 8 #[.int .u64 n, .int .u64 d] w fun e w' => e = .returned (.bool true) ∧ Below w.heap.size w w' := by
  have h0 := shown_true w hv
  have hvb : ∀ W, Below w.heap.size w W → Vars W := fun W hb => hv.below hb
  have h1 := fun W hV => text_any n hn W hV
  have h2 := fun W hV => add_dd n d hn W hV
  have h3 := fun W hV => sub_dd ((n + d) % 18446744073709551616) d (Nat.mod_lt _ (by omega)) W hV
  have h4 := fun W hV => text_any ((n + d) % 18446744073709551616) (Nat.mod_lt _ (by omega)) W hV
  have e0 : S (Lib.decDigits ((n + d) % 18446744073709551616 - d)) = ⟨#[48]⟩ := by rw [show (n + d) % 18446744073709551616 - d = 0 from by omega, dd_small (by omega)]; rfl
  rw [e0] at h3
  have hw := wrap_add n d
  have ib : (n : Int) ≤ 18446744073709551615 := by omega
  have ir : 18446744073709551615 - (n : Int) < (d : Int) := by omega
  clear hv hn hd hr e0
  generalize (n + d) % 18446744073709551616 = m at *
  generalize S (Lib.decDigits n) = sn at *
  generalize S (Lib.decDigits m) = sm at *
  go_enter Tryd.func8, Tryd.ntmps8
  go_wp2_with fail
  refine h0.mono ?_
  rintro e w1 ⟨rfl, b1⟩
  go_wp2_with fail
  refine (h1 _ (hvb _ b1)).mono ?_
  rintro e w2 ⟨rfl, b2⟩
  have b12 := Below.then b1 b2
  go_wp2_with fail
  refine (h2 _ (hvb _ b12)).mono ?_
  rintro e w3 ⟨rfl, b3⟩
  have b13 := Below.then b12 b3
  go_wp2_with fail
  refine (h3 _ (hvb _ b13)).mono ?_
  rintro e w4 ⟨rfl, b4⟩
  have b14 := Below.then b13 b4
  go_wp2_with fail
  refine (h4 _ (hvb _ b14)).mono ?_
  rintro e w5 ⟨rfl, b5⟩
  have b15 := Below.then b14 b5
  go_wp2_with fail
  go_ret
  exact ⟨rfl, b15⟩

set_option maxRecDepth 100000 in
theorem undo_plain (n d : Nat) (hn : n < 18446744073709551616) (hr : ¬ 18446744073709551615 - n < d) (w : World) (hv : Vars w) :
    Calls Tryd.prog 8 #[.int .u64 n, .int .u64 d] w fun e w' => e = .returned (.bool true) ∧ Below w.heap.size w w' := by
  have h0 := shown_true w hv
  have hvb : ∀ W, Below w.heap.size w W → Vars W := fun W hb => hv.below hb
  have h1 := fun W hV => text_any n hn W hV
  have h2 := fun W hV => add_dd n d hn W hV
  have h3 := fun W hV => sub_dd ((n + d) % 18446744073709551616) d (Nat.mod_lt _ (by omega)) W hV
  have h4 := fun W hV => text_any ((n + d) % 18446744073709551616) (Nat.mod_lt _ (by omega)) W hV
  rw [show (n + d) % 18446744073709551616 - d = n from by omega] at h3
  have e1 : (((n + d) % 18446744073709551616 : Nat) : Int) = (n : Int) + (d : Int) := by omega
  rw [e1] at h4
  have ib : (n : Int) + (d : Int) ≤ 18446744073709551615 := by omega
  have ir : ¬ 18446744073709551615 - (n : Int) < (d : Int) := by omega
  clear hv hn hr e1
  generalize (n + d) % 18446744073709551616 = m at *
  generalize S (Lib.decDigits n) = sn at *
  generalize S (Lib.decDigits m) = sm at *
  go_enter Tryd.func8, Tryd.ntmps8
  go_wp2_with fail
  refine h0.mono ?_
  rintro e w1 ⟨rfl, b1⟩
  go_wp2_with fail
  refine (h1 _ (hvb _ b1)).mono ?_
  rintro e w2 ⟨rfl, b2⟩
  have b12 := Below.then b1 b2
  go_wp2_with fail
  refine (h2 _ (hvb _ b12)).mono ?_
  rintro e w3 ⟨rfl, b3⟩
  have b13 := Below.then b12 b3
  go_wp2_with fail
  refine (h3 _ (hvb _ b13)).mono ?_
  rintro e w4 ⟨rfl, b4⟩
  have b14 := Below.then b13 b4
  go_wp2_with fail
  refine (h1 _ (hvb _ b14)).mono ?_
  rintro e w5 ⟨rfl, b5⟩
  have b15 := Below.then b14 b5
  go_wp2_with fail
  refine (h4 _ (hvb _ b15)).mono ?_
  rintro e w6 ⟨rfl, b6⟩
  have b16 := Below.then b15 b6
  go_wp2_with fail
  go_ret
  exact ⟨rfl, b16⟩

theorem undo_law (n : Nat) (hn : n < 18446744073709551616) (d : Nat) (hd : d < 18446744073709551616) (w : World) (hv : Vars w) :
    Calls Tryd.prog 8 #[.int .u64 n, .int .u64 d] w fun e w' => e = .returned (.bool true) ∧ Below w.heap.size w w' := by
  by_cases hr : 18446744073709551615 - n < d
  · exact undo_round n d hn hd hr w hv
  · exact undo_plain n d hn hr w hv

set_option maxRecDepth 100000 in
theorem order_core (a b : Nat) (s t : ByteArray) (w : World) (hv : Vars w)
    (h1 : ∀ W, Vars W → Calls Tryd.prog 16 #[.int .u64 a] W fun e w' => e = .returned (.string s) ∧ Below W.heap.size W w')
    (h2 : ∀ W, Vars W → Calls Tryd.prog 16 #[.int .u64 b] W fun e w' => e = .returned (.string t) ∧ Below W.heap.size W w')
    (hlt : decide (a < b) = (decide (s.size < t.size) || (decide (s.size = t.size) && Op.bytesLess s.toList t.toList)))
    (heq : ((a : Int) == (b : Int)) = (s.toList == t.toList)) :
    Calls Tryd.prog 9 #[.int .u64 a, .int .u64 b] w fun e w' => e = .returned (.bool true) ∧ Below w.heap.size w w' := by
  have h0 := shown_true w hv
  have hvb : ∀ W, Below w.heap.size w W → Vars W := fun W hb => hv.below hb
  clear hv
  have HL := Lib.hid hlt
  have HE := Lib.hid heq
  clear hlt heq
  go_enter Tryd.func9, Tryd.ntmps9
  go_wp2_with fail
  refine h0.mono ?_
  rintro e w1 ⟨rfl, b1⟩
  go_wp2_with fail
  refine (h1 _ (hvb _ b1)).mono ?_
  rintro e w2 ⟨rfl, b2⟩
  have b12 := Below.then b1 b2
  go_wp2_with fail
  refine (h2 _ (hvb _ b12)).mono ?_
  rintro e w3 ⟨rfl, b3⟩
  have b13 := Below.then b12 b3
  go_wp2_with fail
  · have hE : (((a : Int) == (b : Int)) == (s.toList == t.toList)) = true := by rw [HE.out]; simp
    have good : ∀ x : Bool, x = true → Ending.returned (.bool x) = Ending.returned (.bool true) := fun _ e => by rw [e]
    go_ret; exact ⟨good _ hE, b13⟩
  · have h := ‹¬ decide (a < b) = (decide (s.size < t.size) || Op.bytesLess s.toList t.toList)›
    have hz := ‹(s.size : Int) = (t.size : Int)›
    have hl := HL.out
    rw [decide_eq_true (show s.size = t.size by omega), Bool.true_and] at hl
    exact absurd hl h
  · have hE : (((a : Int) == (b : Int)) == (s.toList == t.toList)) = true := by rw [HE.out]; simp
    have good : ∀ x : Bool, x = true → Ending.returned (.bool x) = Ending.returned (.bool true) := fun _ e => by rw [e]
    go_ret; exact ⟨good _ hE, b13⟩
  · have h := ‹¬ (a < b ↔ s.size < t.size)›
    have hz := ‹¬ (s.size : Int) = (t.size : Int)›
    have hl := HL.out
    rw [decide_eq_false (show ¬ s.size = t.size by omega), Bool.false_and, Bool.or_false] at hl
    exact absurd (decide_eq_decide.1 hl) h
  · have hE : (((a : Int) == (b : Int)) == (s.toList == t.toList)) = true := by rw [HE.out]; simp
    have good : ∀ x : Bool, x = true → Ending.returned (.bool x) = Ending.returned (.bool true) := fun _ e => by rw [e]
    go_ret; exact ⟨good _ hE, b13⟩
  · have h := ‹¬ a < b›
    have hz := ‹¬ t.size ≤ s.size›
    have hl := HL.out
    rw [decide_eq_false h, decide_eq_true (show s.size < t.size by omega), Bool.true_or] at hl
    cases hl

theorem order_law (a : Nat) (ha : a < 18446744073709551616) (b : Nat) (hb : b < 18446744073709551616) (w : World) (hv : Vars w) :
    Calls Tryd.prog 9 #[.int .u64 a, .int .u64 b] w fun e w' => e = .returned (.bool true) ∧ Below w.heap.size w w' := by
  refine order_core a b _ _ w hv (fun W hV => text_any a ha W hV) (fun W hV => text_any b hb W hV) ?_ ?_
  · rw [Lib.toList_data, Lib.toList_data, S_list, S_list, S_size, S_size, dd_len, dd_len]
    by_cases hz : Lib.nDigits a = Lib.nDigits b
    · rw [decide_eq_true hz, decide_eq_false (show ¬ Lib.nDigits a < Lib.nDigits b by omega), dd_less b a ha hb hz]; rfl
    · rw [decide_eq_false hz, Bool.false_and, Bool.or_false]
      rcases Nat.lt_or_ge a b with h | h
      · have := nDigits_le b a (by omega)
        rw [decide_eq_true h, decide_eq_true (by omega)]
      · have := nDigits_le a b h
        rw [decide_eq_false (by omega), decide_eq_false (by omega)]
  · rw [Lib.toList_data, Lib.toList_data, S_list, S_list]
    by_cases h : a = b
    · subst h; simp
    · rw [beq_eq_false_iff_ne.2 (show ¬ (a : Int) = (b : Int) by omega), beq_eq_false_iff_ne.2 (fun e => h (dd_inj ha hb e))]
end Go.Proofs.YtkodgfbalclaeaaDoor
