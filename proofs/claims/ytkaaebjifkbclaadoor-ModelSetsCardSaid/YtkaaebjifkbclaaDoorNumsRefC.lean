/-
  Contracts of the document's own answers for layer 1 (ambryref01) at this program, third part: Text, Add, Sub. No conditions.
-/
import Derived.Test.YtkaaebjifkbclaaDoorNumsRef
namespace Go.Proofs.YtkaaebjifkbclaaDoor.Nu
open Go Go.Shelf Go.RowKit

set_option maxRecDepth 100000 in
theorem ref_text_small (n : Nat) (h : n < 10) (w : World) :
    Calls Tryd.prog 37 #[.int .u64 n] w fun e w' => e = .returned (.string (S (Lib.decDigits n))) ∧ Below w.heap.size w w' := by
  have i0 : (n : Int) < 10 := by omega
  have hcv : (convert 77 9 (.slice (some ⟨w.heap.size, 0, none⟩) 1 1)).run Tryd.prog (w.alloc (Obj.cells #[Value.int IntKind.u8 (48 + (n : Int))] 5)) = .ok (.string (S (Lib.decDigits n))) (w.alloc (Obj.cells #[Value.int IntKind.u8 (48 + (n : Int))] 5)) := by
    have e : (w.alloc (Obj.cells #[Value.int IntKind.u8 (48 + (n : Int))] 5)) = (w.alloc (Obj.cells #[Value.int IntKind.u8 ((UInt8.ofNat (48 + n)).toNat : Int)] 5)) := by rw [digit_toNat h]; rfl
    rw [dd_small h, e]
    exact run_convert_bytes_back (P := Tryd.prog) _ 77 9 5 ⟨w.heap.size, 0, none⟩ 1 [UInt8.ofNat (48 + n)] Tryd.underlying77 Tryd.underlying5 Tryd.underlying9 (fun j hj => by
      have hj0 : j = 0 := by simpa using hj
      subst hj0
      rw [Lib.add_plain, World.cell?_alloc_new]
      rfl)
  clear h
  go_enter Tryd.func37, Tryd.ntmps37
  go_wp2_with fail
  go_ret
  exact ⟨rfl, (Below.refl _ _).alloc (Nat.le_refl _) _⟩

theorem S_append (l m : List UInt8) : S l ++ S m = S (l ++ m) := by
  apply ByteArray.ext
  simp [S]

set_option maxRecDepth 100000 in
theorem ref_text (k : Nat) : ∀ (n : Nat) (w : World), n < k → n < 18446744073709551616 →
    Calls Tryd.prog 37 #[.int .u64 n] w fun e w' => e = .returned (.string (S (Lib.decDigits n))) ∧ Below w.heap.size w w' := by
  induction k with
  | zero => intro n w h _; omega
  | succ k ih =>
    intro n w hk hn
    by_cases h : n < 10
    · exact ref_text_small n h w
    · have i0 : ¬ (n : Int) < 10 := by omega
      have c1 := fun W => ih (n / 10) W (by omega) (by omega)
      have ib : (n : Int) ≤ 18446744073709551615 := by omega
      have c2 := fun W => ref_text_small (n % 10) (Nat.mod_lt n (by omega)) W
      have e1 : ((n / 10 : Nat) : Int) = (n : Int) / 10 := by omega
      have e2 : ((n % 10 : Nat) : Int) = (n : Int) % 10 := by omega
      rw [e1] at c1
      rw [e2] at c2
      rw [dd_big h, ← S_append]
      clear h hk ih e1 e2
      have sa : (S (Lib.decDigits (n / 10))).size ≤ 20 := by rw [S_size]; exact dd_len_le (by omega)
      have sb : (S (Lib.decDigits (n % 10))).size ≤ 20 := by rw [S_size]; exact dd_len_le (by omega)
      generalize S (Lib.decDigits (n / 10)) = a at *
      generalize S (Lib.decDigits (n % 10)) = b at *
      have sab : a.size + b.size ≤ 9223372036854775807 := by omega
      go_enter Tryd.func37, Tryd.ntmps37
      go_wp2_with fail
      refine (c1 _).mono ?_
      rintro e w1 ⟨rfl, hb1⟩
      go_wp2_with fail
      refine (c2 _).mono ?_
      rintro e w2 ⟨rfl, hb2⟩
      go_wp2_with fail
      go_ret
      exact ⟨rfl, Below.then hb1 hb2⟩

theorem ref_text_any (n : Nat) (hn : n < 18446744073709551616) (w : World) :
    Calls Tryd.prog 37 #[.int .u64 n] w fun e w' => e = .returned (.string (S (Lib.decDigits n))) ∧ Below w.heap.size w w' := ref_text (n + 1) n w (by omega) hn

set_option maxRecDepth 100000 in
theorem ref_add (s : ByteArray) (d : Nat) (w : World) :
    Calls Tryd.prog 39 #[.string s, .int .u64 d] w fun e w' => e = .returned (tv (addU s.data.toList d)) ∧ Below w.heap.size w w' := by
  unfold addU
  have hq := ref_parse s
  cases h : parseU s.data.toList with
  | none =>
    rw [h] at hq
    have hq : ∀ W, Calls Tryd.prog 40 #[.string s] W fun e w' => e = .returned (.tuple #[.int .u64 0, .bool false]) ∧ W = w' := hq
    clear h
    go_enter Tryd.func39, Tryd.ntmps39
    go_wp2_with fail
    refine (hq _).mono ?_
    rintro e w' ⟨rfl, rfl⟩
    go_wp2_with fail
    go_ret2
    exact ⟨rfl, Below.refl _ _⟩
  | some n =>
    rw [h] at hq
    have hq : ∀ W, Calls Tryd.prog 40 #[.string s] W fun e w' => e = .returned (.tuple #[.int .u64 n, .bool true]) ∧ W = w' := hq
    have ht := ref_text_any ((n + d) % 18446744073709551616) (Nat.mod_lt _ (by omega))
    have hw := wrap_add n d
    show Calls _ _ _ _ fun e w' => e = .returned (.tuple #[.string (S (Lib.decDigits ((n + d) % 18446744073709551616))), .bool true]) ∧ _
    clear h
    generalize (n + d) % 18446744073709551616 = m at *
    go_enter Tryd.func39, Tryd.ntmps39
    go_wp2_with fail
    refine (hq _).mono ?_
    rintro e w1 ⟨rfl, rfl⟩
    go_wp2_with fail
    refine (ht _).mono ?_
    rintro e w2 ⟨rfl, hb2⟩
    go_wp2_with fail
    go_ret2
    exact ⟨rfl, hb2⟩

set_option maxRecDepth 100000 in
theorem ref_sub (s : ByteArray) (d : Nat) (w : World) :
    Calls Tryd.prog 38 #[.string s, .int .u64 d] w fun e w' => e = .returned (tv (subU s.data.toList d)) ∧ Below w.heap.size w w' := by
  unfold subU
  have hq := ref_parse s
  cases h : parseU s.data.toList with
  | none =>
    rw [h] at hq
    have hq : ∀ W, Calls Tryd.prog 40 #[.string s] W fun e w' => e = .returned (.tuple #[.int .u64 0, .bool false]) ∧ W = w' := hq
    clear h
    go_enter Tryd.func38, Tryd.ntmps38
    go_wp2_with fail
    refine (hq _).mono ?_
    rintro e w' ⟨rfl, rfl⟩
    go_wp2_with fail
    go_ret2
    exact ⟨rfl, Below.refl _ _⟩
  | some n =>
    have hlt := parseU_lt h
    rw [h] at hq
    have hq : ∀ W, Calls Tryd.prog 40 #[.string s] W fun e w' => e = .returned (.tuple #[.int .u64 n, .bool true]) ∧ W = w' := hq
    show Calls _ _ _ _ fun e w' => e = .returned (.tuple #[.string (S (Lib.decDigits (n - d))), .bool true]) ∧ _
    clear h
    by_cases hd : n < d
    · have id : (n : Int) < (d : Int) := by omega
      have e0 : S (Lib.decDigits (n - d)) = ⟨#[48]⟩ := by rw [show n - d = 0 from by omega, dd_small (by omega)]; rfl
      rw [e0]
      clear hd e0
      go_enter Tryd.func38, Tryd.ntmps38
      go_wp2_with fail
      refine (hq _).mono ?_
      rintro e w1 ⟨rfl, rfl⟩
      go_wp2_with fail
      go_ret2
      exact ⟨rfl, Below.refl _ _⟩
    · have id : ¬ (n : Int) < (d : Int) := by omega
      have ht := ref_text_any (n - d) (by omega)
      have e1 : ((n - d : Nat) : Int) = (n : Int) - (d : Int) := by omega
      rw [e1] at ht
      clear e1 hd
      go_enter Tryd.func38, Tryd.ntmps38
      go_wp2_with fail
      refine (hq _).mono ?_
      rintro e w1 ⟨rfl, rfl⟩
      go_wp2_with fail
      refine (ht _).mono ?_
      rintro e w2 ⟨rfl, hb2⟩
      go_wp2_with fail
      go_ret2
      exact ⟨rfl, hb2⟩
end Go.Proofs.YtkaaebjifkbclaaDoor.Nu
