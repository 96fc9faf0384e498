/-
  Contracts of the document's own answers for layer 1 (ambryref01) at this program, second part: Signed, Text, Add, Sub. No conditions.
-/
import Derived.Test.YtkodgfbalclaeaaDoorNumsRef
namespace Go.Proofs.YtkodgfbalclaeaaDoor
open Go Go.Shelf Go.RowKit

theorem tail_S (s : ByteArray) : s.extract 1 s.size = S s.data.toList.tail := by
  rw [Lib.extract_eq, S]
  congr 2
  rw [List.take_of_length_le (by rw [List.length_drop, ← size_len]; omega), List.drop_one]

theorem ext_size (s : ByteArray) : (s.extract 1 s.size).size = s.size - 1 := by simp

theorem isNeg_at (s : ByteArray) (h : 0 < s.size) : isNeg s.data.toList = (s[0] == 45) := by
  have e := drop_at s 0 h
  rw [List.drop_zero] at e
  unfold isNeg
  rw [e, List.head?_cons]
  by_cases hc : s[0] = 45
  · rw [hc]; rfl
  · rw [beq_eq_false_iff_ne.2 hc, beq_eq_false_iff_ne.2 (fun e => hc (Option.some.inj e))]


set_option maxRecDepth 100000 in
theorem rs_neg_none (s : ByteArray) (h0 : 0 < s.size) (w : World) (hb : ((s[0].toNat : Int) == 45) = true) (hq : ∀ W, Calls Tryd.prog 13 #[.string (s.extract 1 s.size)] W fun e w' => e = .returned (.tuple #[.int .u64 0, .bool false]) ∧ W = w') :
    Calls Tryd.prog 15 #[.string s] w fun e w' => e = .returned (.tuple #[.int .i64 0, .bool false]) ∧ w = w' := by
  have i0 : (0 : Int) < (s.size : Int) := by omega
  go_enter Tryd.func15, Tryd.ntmps15
  go_wp2_with fail
  refine (hq _).mono ?_
  rintro e w' ⟨rfl, rfl⟩
  go_wp2_with fail
  all_goals (go_ret2; exact ⟨rfl, rfl⟩)

set_option maxRecDepth 100000 in
theorem rs_neg_long (s : ByteArray) (h0 : 0 < s.size) (w : World) (hb : ((s[0].toNat : Int) == 45) = true) (n : Nat) (hq : ∀ W, Calls Tryd.prog 13 #[.string (s.extract 1 s.size)] W fun e w' => e = .returned (.tuple #[.int .u64 n, .bool true]) ∧ W = w') (hl : 19 < (s.extract 1 s.size).size) :
    Calls Tryd.prog 15 #[.string s] w fun e w' => e = .returned (.tuple #[.int .i64 0, .bool false]) ∧ w = w' := by
  have i0 : (0 : Int) < (s.size : Int) := by omega
  have il : (19 : Int) < ((s.size - 1 : Nat) : Int) := by rw [ext_size] at hl; omega
  clear hl
  go_enter Tryd.func15, Tryd.ntmps15
  go_wp2_with fail
  refine (hq _).mono ?_
  rintro e w' ⟨rfl, rfl⟩
  go_wp2_with fail
  all_goals (go_ret2; exact ⟨rfl, rfl⟩)

set_option maxRecDepth 100000 in
theorem rs_neg_big (s : ByteArray) (h0 : 0 < s.size) (w : World) (hb : ((s[0].toNat : Int) == 45) = true) (n : Nat) (hq : ∀ W, Calls Tryd.prog 13 #[.string (s.extract 1 s.size)] W fun e w' => e = .returned (.tuple #[.int .u64 n, .bool true]) ∧ W = w') (hl : ¬ 19 < (s.extract 1 s.size).size) (hn : 9223372036854775808 < n) :
    Calls Tryd.prog 15 #[.string s] w fun e w' => e = .returned (.tuple #[.int .i64 0, .bool false]) ∧ w = w' := by
  have i0 : (0 : Int) < (s.size : Int) := by omega
  have il : ¬ (19 : Int) < ((s.size - 1 : Nat) : Int) := by rw [ext_size] at hl; omega
  have ib : (9223372036854775808 : Int) < (n : Int) := by omega
  clear hl hn
  go_enter Tryd.func15, Tryd.ntmps15
  go_wp2_with fail
  refine (hq _).mono ?_
  rintro e w' ⟨rfl, rfl⟩
  go_wp2_with fail
  all_goals (go_ret2; exact ⟨rfl, rfl⟩)

set_option maxRecDepth 100000 in
theorem rs_neg_ok_e (s : ByteArray) (h0 : 0 < s.size) (w : World) (hb : ((s[0].toNat : Int) == 45) = true) (n : Nat) (hq : ∀ W, Calls Tryd.prog 13 #[.string (s.extract 1 s.size)] W fun e w' => e = .returned (.tuple #[.int .u64 n, .bool true]) ∧ W = w') (hl : ¬ 19 < (s.extract 1 s.size).size) (hn : n ≤ 9223372036854775808) (hm : n = 9223372036854775808) :
    Calls Tryd.prog 15 #[.string s] w fun e w' => e = .returned (.tuple #[.int .i64 (-(n : Int)), .bool true]) ∧ w = w' := by
  have i0 : (0 : Int) < (s.size : Int) := by omega
  have il : ¬ (19 : Int) < ((s.size - 1 : Nat) : Int) := by rw [ext_size] at hl; omega
  have ib : ¬ (9223372036854775808 : Int) < (n : Int) := by omega
  have hw := wrap_neg n hn
  have ie : ((n : Int) == 9223372036854775808) = true := by rw [hm]; rfl
  clear hl hn hm
  go_enter Tryd.func15, Tryd.ntmps15
  go_wp2_with fail
  refine (hq _).mono ?_
  rintro e w' ⟨rfl, rfl⟩
  go_wp2_with fail
  all_goals (go_ret2; exact ⟨rfl, rfl⟩)

set_option maxRecDepth 100000 in
theorem rs_neg_ok_n (s : ByteArray) (h0 : 0 < s.size) (w : World) (hb : ((s[0].toNat : Int) == 45) = true) (n : Nat) (hq : ∀ W, Calls Tryd.prog 13 #[.string (s.extract 1 s.size)] W fun e w' => e = .returned (.tuple #[.int .u64 n, .bool true]) ∧ W = w') (hl : ¬ 19 < (s.extract 1 s.size).size) (hn : n ≤ 9223372036854775808) (hm : n ≠ 9223372036854775808) :
    Calls Tryd.prog 15 #[.string s] w fun e w' => e = .returned (.tuple #[.int .i64 (-(n : Int)), .bool true]) ∧ w = w' := by
  have i0 : (0 : Int) < (s.size : Int) := by omega
  have il : ¬ (19 : Int) < ((s.size - 1 : Nat) : Int) := by rw [ext_size] at hl; omega
  have ib : ¬ (9223372036854775808 : Int) < (n : Int) := by omega
  have hw := wrap_neg n hn
  have ie : ((n : Int) == 9223372036854775808) = false := by rw [beq_eq_false_iff_ne]; omega
  clear hl hn hm
  go_enter Tryd.func15, Tryd.ntmps15
  go_wp2_with fail
  refine (hq _).mono ?_
  rintro e w' ⟨rfl, rfl⟩
  go_wp2_with fail
  all_goals (go_ret2; exact ⟨rfl, rfl⟩)

set_option maxRecDepth 100000 in
theorem rs_pos_none (s : ByteArray) (h0 : 0 < s.size) (w : World) (hb : ((s[0].toNat : Int) == 45) = false) (hq : ∀ W, Calls Tryd.prog 13 #[.string s] W fun e w' => e = .returned (.tuple #[.int .u64 0, .bool false]) ∧ W = w') :
    Calls Tryd.prog 15 #[.string s] w fun e w' => e = .returned (.tuple #[.int .i64 0, .bool false]) ∧ w = w' := by
  have i0 : (0 : Int) < (s.size : Int) := by omega
  go_enter Tryd.func15, Tryd.ntmps15
  go_wp2_with fail
  refine (hq _).mono ?_
  rintro e w' ⟨rfl, rfl⟩
  go_wp2_with fail
  all_goals (go_ret2; exact ⟨rfl, rfl⟩)

set_option maxRecDepth 100000 in
theorem rs_pos_long (s : ByteArray) (h0 : 0 < s.size) (w : World) (hb : ((s[0].toNat : Int) == 45) = false) (n : Nat) (hq : ∀ W, Calls Tryd.prog 13 #[.string s] W fun e w' => e = .returned (.tuple #[.int .u64 n, .bool true]) ∧ W = w') (hl : 19 < s.size) :
    Calls Tryd.prog 15 #[.string s] w fun e w' => e = .returned (.tuple #[.int .i64 0, .bool false]) ∧ w = w' := by
  have i0 : (0 : Int) < (s.size : Int) := by omega
  have il : (19 : Int) < (s.size : Int) := by omega
  clear hl
  go_enter Tryd.func15, Tryd.ntmps15
  go_wp2_with fail
  refine (hq _).mono ?_
  rintro e w' ⟨rfl, rfl⟩
  go_wp2_with fail
  all_goals (go_ret2; exact ⟨rfl, rfl⟩)

set_option maxRecDepth 100000 in
theorem rs_pos_big (s : ByteArray) (h0 : 0 < s.size) (w : World) (hb : ((s[0].toNat : Int) == 45) = false) (n : Nat) (hq : ∀ W, Calls Tryd.prog 13 #[.string s] W fun e w' => e = .returned (.tuple #[.int .u64 n, .bool true]) ∧ W = w') (hl : ¬ 19 < s.size) (hn : 9223372036854775808 < n) :
    Calls Tryd.prog 15 #[.string s] w fun e w' => e = .returned (.tuple #[.int .i64 0, .bool false]) ∧ w = w' := by
  have i0 : (0 : Int) < (s.size : Int) := by omega
  have il : ¬ (19 : Int) < (s.size : Int) := by omega
  have ib : (9223372036854775808 : Int) < (n : Int) := by omega
  clear hl hn
  go_enter Tryd.func15, Tryd.ntmps15
  go_wp2_with fail
  refine (hq _).mono ?_
  rintro e w' ⟨rfl, rfl⟩
  go_wp2_with fail
  all_goals (go_ret2; exact ⟨rfl, rfl⟩)

set_option maxRecDepth 100000 in
theorem rs_pos_edge (s : ByteArray) (h0 : 0 < s.size) (w : World) (hb : ((s[0].toNat : Int) == 45) = false) (n : Nat) (hq : ∀ W, Calls Tryd.prog 13 #[.string s] W fun e w' => e = .returned (.tuple #[.int .u64 n, .bool true]) ∧ W = w') (hl : ¬ 19 < s.size) (hn : n = 9223372036854775808) :
    Calls Tryd.prog 15 #[.string s] w fun e w' => e = .returned (.tuple #[.int .i64 0, .bool false]) ∧ w = w' := by
  have i0 : (0 : Int) < (s.size : Int) := by omega
  have il : ¬ (19 : Int) < (s.size : Int) := by omega
  have ib : ¬ (9223372036854775808 : Int) < (n : Int) := by omega
  have ie : ((n : Int) == 9223372036854775808) = true := by rw [hn]; rfl
  clear hl hn
  go_enter Tryd.func15, Tryd.ntmps15
  go_wp2_with fail
  refine (hq _).mono ?_
  rintro e w' ⟨rfl, rfl⟩
  go_wp2_with fail
  all_goals (go_ret2; exact ⟨rfl, rfl⟩)

set_option maxRecDepth 100000 in
theorem rs_pos_ok (s : ByteArray) (h0 : 0 < s.size) (w : World) (hb : ((s[0].toNat : Int) == 45) = false) (n : Nat) (hq : ∀ W, Calls Tryd.prog 13 #[.string s] W fun e w' => e = .returned (.tuple #[.int .u64 n, .bool true]) ∧ W = w') (hl : ¬ 19 < s.size) (hn : n < 9223372036854775808) :
    Calls Tryd.prog 15 #[.string s] w fun e w' => e = .returned (.tuple #[.int .i64 (n : Int), .bool true]) ∧ w = w' := by
  have i0 : (0 : Int) < (s.size : Int) := by omega
  have il : ¬ (19 : Int) < (s.size : Int) := by omega
  have ib : ¬ (9223372036854775808 : Int) < (n : Int) := by omega
  have ie : ((n : Int) == 9223372036854775808) = false := by rw [beq_eq_false_iff_ne]; omega
  have hw := wrap_same n hn
  clear hl hn
  go_enter Tryd.func15, Tryd.ntmps15
  go_wp2_with fail
  refine (hq _).mono ?_
  rintro e w' ⟨rfl, rfl⟩
  go_wp2_with fail
  all_goals (go_ret2; exact ⟨rfl, rfl⟩)

set_option maxRecDepth 100000 in
theorem rs_empty (s : ByteArray) (h0 : s.size = 0) (w : World) (hq : ∀ W, Calls Tryd.prog 13 #[.string s] W fun e w' => e = .returned (.tuple #[.int .u64 0, .bool false]) ∧ W = w') :
    Calls Tryd.prog 15 #[.string s] w fun e w' => e = .returned (.tuple #[.int .i64 0, .bool false]) ∧ w = w' := by
  have i0 : ¬ (0 : Int) < (s.size : Int) := by omega
  have i1 : decide ((0 : Int) < (s.size : Int)) = false := decide_eq_false i0
  clear h0
  go_enter Tryd.func15, Tryd.ntmps15
  go_wp2_with fail
  refine (hq _).mono ?_
  rintro e w' ⟨rfl, rfl⟩
  go_wp2_with fail
  go_ret2
  exact ⟨rfl, rfl⟩

theorem byte_eq_num (c d : UInt8) : ((c.toNat : Int) == (d.toNat : Int)) = (c == d) := by
  by_cases h : c = d
  · subst h; simp
  · have h1 : ¬ (c.toNat : Int) = (d.toNat : Int) := fun e => h (UInt8.toNat_inj.1 (by omega))
    rw [beq_eq_false_iff_ne.2 h, beq_eq_false_iff_ne.2 h1]

theorem ref_signed (s : ByteArray) (w : World) :
    Calls Tryd.prog 15 #[.string s] w fun e w' => e = .returned (sv (signedU s.data.toList)) ∧ w = w' := by
  by_cases h0 : 0 < s.size
  · have hb : ((s[0].toNat : Int) == 45) = isNeg s.data.toList := by rw [isNeg_at s h0, ← byte_eq_num]; rfl
    have hd : ∀ d, d = S (unsign s.data.toList) → d.size = (unsign s.data.toList).length ∧ ∀ W, Calls Tryd.prog 13 #[.string d] W fun e w' => e = .returned (uv (parseU (unsign s.data.toList))) ∧ W = w' := by
      rintro d rfl
      exact ⟨S_size _, fun W => by have h := ref_parse (S (unsign s.data.toList)) W; rw [S_list] at h; exact h⟩
    cases hn : isNeg s.data.toList with
    | true =>
      rw [hn] at hb
      obtain ⟨hz, hq⟩ := hd (s.extract 1 s.size) (by rw [tail_S]; simp only [unsign, hn, if_true])
      rcases signedU_cases s.data.toList with ⟨h, e⟩ | ⟨h, hp, e⟩ | ⟨n, h, hp, ⟨hn', hb', e⟩ | ⟨hn', hb', e⟩ | ⟨hn', hb', e⟩ | ⟨hn', hb', e⟩⟩
      · rw [e]
        cases hp : parseU (unsign s.data.toList) with
        | none => rw [hp] at hq; exact rs_neg_none s h0 w hb hq
        | some n => rw [hp] at hq; exact rs_neg_long s h0 w hb n hq (by rw [hz]; exact h)
      · rw [e]; rw [hp] at hq; exact rs_neg_none s h0 w hb hq
      · rw [e]; rw [hp] at hq; exact rs_neg_big s h0 w hb n hq (by rw [hz]; exact h) hb'
      · rw [e]; rw [hp] at hq
        by_cases hm : n = 9223372036854775808
        · exact rs_neg_ok_e s h0 w hb n hq (by rw [hz]; exact h) hb' hm
        · exact rs_neg_ok_n s h0 w hb n hq (by rw [hz]; exact h) hb' hm
      · rw [hn] at hn'; cases hn'
      · rw [hn] at hn'; cases hn'
    | false =>
      rw [hn] at hb
      obtain ⟨hz, hq⟩ := hd s (by rw [unsign, hn]; exact (S_of s).symm)
      rcases signedU_cases s.data.toList with ⟨h, e⟩ | ⟨h, hp, e⟩ | ⟨n, h, hp, ⟨hn', hb', e⟩ | ⟨hn', hb', e⟩ | ⟨hn', hb', e⟩ | ⟨hn', hb', e⟩⟩
      · rw [e]
        cases hp : parseU (unsign s.data.toList) with
        | none => rw [hp] at hq; exact rs_pos_none s h0 w hb hq
        | some n => rw [hp] at hq; exact rs_pos_long s h0 w hb n hq (by rw [hz]; exact h)
      · rw [e]; rw [hp] at hq; exact rs_pos_none s h0 w hb hq
      · rw [hn] at hn'; cases hn'
      · rw [hn] at hn'; cases hn'
      · rw [e]; rw [hp] at hq
        rcases Nat.lt_or_ge 9223372036854775808 n with hgt | hle
        · exact rs_pos_big s h0 w hb n hq (by rw [hz]; exact h) hgt
        · exact rs_pos_edge s h0 w hb n hq (by rw [hz]; exact h) (by omega)
      · rw [e]; rw [hp] at hq; exact rs_pos_ok s h0 w hb n hq (by rw [hz]; exact h) hb'
  · have e : s.data.toList = [] := List.eq_nil_of_length_eq_zero (by rw [← size_len]; omega)
    have hq := ref_parse s
    rw [e] at hq ⊢
    exact rs_empty s (by omega) w hq

end Go.Proofs.YtkodgfbalclaeaaDoor
