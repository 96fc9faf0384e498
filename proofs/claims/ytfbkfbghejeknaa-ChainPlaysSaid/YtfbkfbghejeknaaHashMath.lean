/-
  Plain mathematics of keys as numbers, no program in it: FNV-1a of a row of bytes as a fold, and that a step parts bytes. No conditions.
-/
import Derived.Laws.Bits64
import Derived.Laws.BitsAllLaws
import Derived.Lib.Strings
namespace Go.Proofs.Ytfbkfbghejeknaa
open Go

def step (h : Nat) (c : UInt8) : Nat := (h ^^^ c.toNat) * 1099511628211 % 18446744073709551616
def fnvFrom (h : Nat) (l : List UInt8) : Nat := l.foldl step h
def fnv (l : List UInt8) : Nat := fnvFrom 14695981039346656037 l

theorem step_lt (h : Nat) (c : UInt8) : step h c < 18446744073709551616 := Nat.mod_lt _ (by decide)
theorem fnvFrom_lt (l : List UInt8) : ∀ h, h < 18446744073709551616 → fnvFrom h l < 18446744073709551616 := by
  induction l with
  | nil => intro h hh; exact hh
  | cons c l ih => intro h _; exact ih _ (step_lt h c)
theorem start_lt : 14695981039346656037 < 18446744073709551616 := by omega
theorem fnvStart_lt (l : List UInt8) : fnvFrom 14695981039346656037 l < 18446744073709551616 := fnvFrom_lt l 14695981039346656037 start_lt
theorem fnv_lt (l : List UInt8) : fnv l < 18446744073709551616 := fnvStart_lt l
theorem fnvFrom_append (h : Nat) (a b : List UInt8) : fnvFrom h (a ++ b) = fnvFrom (fnvFrom h a) b := by
  unfold fnvFrom; rw [List.foldl_append]
theorem fnvFrom_one (h : Nat) (c : UInt8) : fnvFrom h [c] = step h c := by
  unfold fnvFrom; rw [List.foldl_cons, List.foldl_nil]
theorem fnv_eq (l : List UInt8) : fnv l = fnvFrom 14695981039346656037 l := by delta fnv; exact Eq.refl _
theorem fnv_snoc (a : List UInt8) (c : UInt8) : fnv (a ++ [c]) = step (fnv a) c := by
  rw [fnv_eq, fnv_eq, fnvFrom_append, fnvFrom_one]
theorem take_snoc (s : ByteArray) (k : Nat) (h : k < s.size) : s.data.toList.take (k + 1) = s.data.toList.take k ++ [s[k]] := by
  rw [List.take_succ_eq_append_getElem (by simpa using h)]; rfl
theorem xor_lt (h c : Nat) (hh : h < 18446744073709551616) (hc : c < 256) : h ^^^ c < 18446744073709551616 :=
  Nat.xor_lt_two_pow (n := 64) hh (by omega)
/-- What the program computes at a byte. -/
theorem step_of (h : Nat) (c : UInt8) (hh : h < 18446744073709551616) : IntKind.u64.wrap (bits .xor .u64 (h : Int) (IntKind.u64.wrap (c.toNat : Int)) * 1099511628211) = (step h c : Int) := by
  have hc := c.toNat_lt
  have e : IntKind.u64.wrap (c.toNat : Int) = (c.toNat : Int) := by rw [IntKind.wrap_u64]; omega
  rw [e, bits_xor_u64_nat _ _ hh (by omega), IntKind.wrap_u64]
  unfold step
  generalize h ^^^ c.toNat = X
  omega
theorem mul_inj (a b : Nat) (ha : a < 18446744073709551616) (hb : b < 18446744073709551616) (h : a * 1099511628211 % 18446744073709551616 = b * 1099511628211 % 18446744073709551616) : a = b := by
  have inv : ∀ x : Nat, x < 18446744073709551616 → x * 1099511628211 % 18446744073709551616 * 14886173955864302971 % 18446744073709551616 = x := by
    intro x hx
    rw [Nat.mod_mul_mod, Nat.mul_assoc]
    have e : 1099511628211 * 14886173955864302971 = 18446744073709551616 * 887285111055 + 1 := by decide
    rw [e, Nat.mul_add, Nat.mul_one, Nat.mul_left_comm, Nat.mul_add_mod]
    exact Nat.mod_eq_of_lt hx
  rw [← inv a ha, h, inv b hb]
theorem step_inj (h : Nat) (a b : UInt8) (hh : h < 18446744073709551616) : step h a = step h b ↔ a = b := by
  constructor
  · intro e
    have e1 := mul_inj _ _ (xor_lt h a.toNat hh a.toNat_lt) (xor_lt h b.toNat hh b.toNat_lt) e
    have e2 : h ^^^ (h ^^^ a.toNat) = h ^^^ (h ^^^ b.toNat) := by rw [e1]
    rw [← Nat.xor_assoc, ← Nat.xor_assoc, Nat.xor_self, Nat.zero_xor, Nat.zero_xor] at e2
    exact UInt8.toNat_inj.1 e2
  · rintro rfl; rfl
end Go.Proofs.Ytfbkfbghejeknaa
