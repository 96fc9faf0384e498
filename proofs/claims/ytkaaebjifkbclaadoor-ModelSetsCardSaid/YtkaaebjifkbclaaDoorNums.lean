/-
  Contracts of package nums at this program: Parse, Signed, below, Text, Add, Sub answer what the plain mathematics says, for every argument. Conditions: the package variables hold what they were laid with ('Vars').
-/
import Derived.Test.YtkaaebjifkbclaaDoorNumsLib
import Derived.WalkLawsBesides
import Derived.WalkSpells
import Derived.IntWalk
namespace Go.Proofs.YtkaaebjifkbclaaDoor.Nu
open Go Go.Shelf Go.RowKit Go.Lib

theorem size_len (s : ByteArray) : s.size = s.data.toList.length := Lib.size_eq s
theorem S_list (l : List UInt8) : (S l).data.toList = l := by simp [S]
theorem S_size (l : List UInt8) : (S l).size = l.length := by rw [size_len, S_list]
theorem S_of (s : ByteArray) : S s.data.toList = s := Lib.mk_data s

set_option maxRecDepth 100000 in
theorem text_any (u : Nat) (hu64 : u < 18446744073709551616) (w : World) (hv : Vars w) :
    Calls Tryd.prog 62 #[.int .u64 u] w fun e w' => e = .returned (.string (S (Lib.decDigits u))) ∧ Below w.heap.size w w' := by
  have hc := format u hu64 w hv
  go_enter Tryd.func62, Tryd.ntmps62
  go_wp2_with fail
  refine hc.mono ?_
  rintro e w' ⟨rfl, hb⟩
  go_wp2_with fail
  go_ret
  exact ⟨rfl, hb⟩

set_option maxRecDepth 100000 in
theorem parse_some (s : ByteArray) (n : Nat) (h : parseU s.data.toList = some n) (w : World) :
    Calls Tryd.prog 70 #[.string s] w fun e w' => e = .returned (.tuple #[.int .u64 n, .bool true]) ∧ Below w.heap.size w w' := by
  have hl := (parseU_len h).2
  rw [← size_len] at hl
  have hu := uint_ok s (by omega) n (by rw [← parseU_short (by rw [← size_len]; omega)]; exact h) w
  have hl' : ¬ (20 : Int) < (s.size : Int) := by omega
  clear h hl
  go_enter Tryd.func70, Tryd.ntmps70
  go_wp2_with fail
  refine hu.mono ?_
  rintro e w' ⟨rfl, hb⟩
  go_wp2_with fail
  go_ret2
  exact ⟨rfl, hb⟩

set_option maxRecDepth 100000 in
theorem parse_none (s : ByteArray) (h : parseU s.data.toList = none) (w : World) (hv : Vars w) :
    Calls Tryd.prog 70 #[.string s] w fun e w' => e = .returned (.tuple #[.int .u64 0, .bool false]) ∧ Below w.heap.size w w' := by
  by_cases hl : 20 < s.size
  · have hl' : (20 : Int) < (s.size : Int) := by omega
    clear h hl hv
    go_enter Tryd.func70, Tryd.ntmps70
    go_wp2_with fail
    go_ret2
    exact ⟨rfl, Below.refl _ _⟩
  · have hu := uint_err s (by omega) (by rw [← parseU_short (by rw [← size_len]; omega)]; exact h) w hv
    have hl' : ¬ (20 : Int) < (s.size : Int) := by omega
    clear h hl hv
    go_enter Tryd.func70, Tryd.ntmps70
    go_wp2_with fail
    refine hu.mono ?_
    rintro e w' ⟨⟨u, T, N, rfl⟩, hb⟩
    go_wp2_with fail
    go_ret2
    exact ⟨rfl, hb⟩

def uv : Option Nat → Value
  | none => .tuple #[.int .u64 0, .bool false]
  | some v => .tuple #[.int .u64 v, .bool true]

theorem parse_any (s : ByteArray) (w : World) (hv : Vars w) :
    Calls Tryd.prog 70 #[.string s] w fun e w' => e = .returned (uv (parseU s.data.toList)) ∧ Below w.heap.size w w' := by
  cases h : parseU s.data.toList with
  | none => exact parse_none s h w hv
  | some n => exact parse_some s n h w

/-- How a text and a bool read. -/
def tv : Option (List UInt8) → Value
  | none => .tuple #[.string ⟨#[]⟩, .bool false]
  | some l => .tuple #[.string (S l), .bool true]
def addU (l : List UInt8) (d : Nat) : Option (List UInt8) := (parseU l).map fun n => Lib.decDigits ((n + d) % 18446744073709551616)
def subU (l : List UInt8) (d : Nat) : Option (List UInt8) := (parseU l).map fun n => Lib.decDigits (n - d)

theorem wrap_add (n d : Nat) : IntKind.u64.wrap ((n : Int) + (d : Int)) = (((n + d) % 18446744073709551616 : Nat) : Int) := by
  rw [IntKind.wrap_u64]; omega

set_option maxRecDepth 100000 in
theorem add_any (s : ByteArray) (d : Nat) (w : World) (hv : Vars w) :
    Calls Tryd.prog 67 #[.string s, .int .u64 d] w fun e w' => e = .returned (tv (addU s.data.toList d)) ∧ Below w.heap.size w w' := by
  unfold addU
  cases h : parseU s.data.toList with
  | none =>
    have hq := parse_none s h w hv
    clear h hv
    go_enter Tryd.func67, Tryd.ntmps67
    go_wp2_with fail
    refine hq.mono ?_
    rintro e w' ⟨rfl, hb⟩
    go_wp2_with fail
    go_ret2
    exact ⟨rfl, hb⟩
  | some n =>
    have hq := parse_some s n h w
    have ht := fun W hV => text_any ((n + d) % 18446744073709551616) (Nat.mod_lt _ (by omega)) W hV
    have hw := wrap_add n d
    have hvb : ∀ W, Below w.heap.size w W → Vars W := fun W hb => hv.below hb
    show Calls _ _ _ _ fun e w' => e = .returned (.tuple #[.string (S (Lib.decDigits ((n + d) % 18446744073709551616))), .bool true]) ∧ _
    clear h hv
    generalize (n + d) % 18446744073709551616 = m at *
    go_enter Tryd.func67, Tryd.ntmps67
    go_wp2_with fail
    refine hq.mono ?_
    rintro e w1 ⟨rfl, hb⟩
    go_wp2_with fail
    refine (ht _ (hvb _ hb)).mono ?_
    rintro e w2 ⟨rfl, hb2⟩
    go_wp2_with fail
    go_ret2
    exact ⟨rfl, Below.then hb hb2⟩

set_option maxRecDepth 100000 in
theorem sub_any (s : ByteArray) (d : Nat) (w : World) (hv : Vars w) :
    Calls Tryd.prog 68 #[.string s, .int .u64 d] w fun e w' => e = .returned (tv (subU s.data.toList d)) ∧ Below w.heap.size w w' := by
  unfold subU
  cases h : parseU s.data.toList with
  | none =>
    have hq := parse_none s h w hv
    clear h hv
    go_enter Tryd.func68, Tryd.ntmps68
    go_wp2_with fail
    refine hq.mono ?_
    rintro e w' ⟨rfl, hb⟩
    go_wp2_with fail
    go_ret2
    exact ⟨rfl, hb⟩
  | some n =>
    have hq := parse_some s n h w
    have hlt := parseU_lt h
    have ht := fun W hV => text_any (n - d) (by omega) W hV
    have hvb : ∀ W, Below w.heap.size w W → Vars W := fun W hb => hv.below hb
    show Calls _ _ _ _ fun e w' => e = .returned (.tuple #[.string (S (Lib.decDigits (n - d))), .bool true]) ∧ _
    clear h hv
    go_enter Tryd.func68, Tryd.ntmps68
    go_wp2_with fail
    refine hq.mono ?_
    rintro e w1 ⟨rfl, hb⟩
    go_wp2_with fail
    rw [show ((n : Int) - min (n : Int) (d : Int)) = ((n - d : Nat) : Int) from by omega]
    refine (ht _ (hvb _ hb)).mono ?_
    rintro e w2 ⟨rfl, hb2⟩
    go_wp2_with fail
    go_ret2
    exact ⟨rfl, Below.then hb hb2⟩

end Go.Proofs.YtkaaebjifkbclaaDoor.Nu
