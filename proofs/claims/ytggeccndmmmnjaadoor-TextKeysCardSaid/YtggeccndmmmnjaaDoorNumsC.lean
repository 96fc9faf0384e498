/-
  Contracts of the library's functions that nums calls, at this program: strconv.ParseUint at base 10 and 64 bits (of at most 2^48 bytes), strconv.FormatUint at base 10, strings.CutPrefix. Conditions: the package variables hold what they were laid with ('Vars').
  Contracts of package nums at this program: Parse, Signed, below, Text, Add, Sub answer what the plain mathematics says, for every argument. Conditions: the package variables hold what they were laid with ('Vars').
  Contracts of the document's own answers for layer 1 (ambryref01) at this program: they answer what the same plain mathematics says, for every argument. No conditions.
  Contracts of the document's own answers for layer 1 (ambryref01) at this program, third part: Text, Add, Sub. No conditions.
-/
import Derived.Test.YtggeccndmmmnjaaDoorShelf
import Derived.Test.YtggeccndmmmnjaaDoorBaseA
import Derived.Lib.AtoiErrMem
import Derived.Lib.AppendIntMem
import Derived.Lib.SmallJoins
import Derived.Lib.Walk
import Derived.Lib.ItoaMem
import Derived.WalkKit
import Derived.BigCall
import Derived.BigGuard
import Derived.WalkLawsBesides
import Derived.WalkSpells
import Derived.IntWalk
import Derived.BigQuiet
import Derived.Deep.QuietTactic
namespace Go.Proofs.YtggeccndmmmnjaaDoor.Nu
open Go Go.Shelf Go.RowKit Go.Sort Go.Lib

def IfaceLike (v : Value) : Prop := v = .nilIface ∨ ∃ te pe, v = .iface te pe
/-- WHAT THE CALLS READ OF THE PACKAGE VARIABLES. -/
structure Vars (w : World) : Prop where
  synt : ∃ ev, w.cell? ⟨3, 0, none⟩ = some ev ∧ IfaceLike ev
  rang : ∃ ev, w.cell? ⟨4, 0, none⟩ = some ev ∧ IfaceLike ev
  tab : Lib.TabIs Tryd.prog w "internal/strconv.uint64pow10" .u64 Lib.pow10Tab

theorem gTab : Tryd.prog.globalNamed "internal/strconv.uint64pow10" = some 5 := by kernel_rfl

theorem Vars.below {w w' : World} (h : Vars w) (hb : Below w.heap.size w w') : Vars w' := by
  obtain ⟨⟨e0, h0, i0⟩, ⟨e1, h1, i1⟩, ht⟩ := h
  refine ⟨⟨e0, ?_, i0⟩, ⟨e1, ?_, i1⟩, Joins.tab_stays gTab ht hb (Nat.le_refl _)⟩
  · exact (hb.cell (p := ⟨3, 0, none⟩) (Lib.lt_of_cell h0)).trans h0
  · exact (hb.cell (p := ⟨4, 0, none⟩) (Lib.lt_of_cell h1)).trans h1

/-- The one table that Text reads. -/
structure TabV (w : World) : Prop where
  tab : Lib.TabIs Tryd.prog w "internal/strconv.uint64pow10" .u64 Lib.pow10Tab
theorem TabV.below {w w' : World} (h : TabV w) (hb : Below w.heap.size w w') : TabV w' := ⟨Joins.tab_stays gTab h.tab hb (Nat.le_refl _)⟩
theorem Vars.tabV {w : World} (h : Vars w) : TabV w := ⟨h.tab⟩
theorem Below.then {a b c : World} (h : Below a.heap.size a b) (k : Below b.heap.size b c) : Below a.heap.size a c := h.trans (k.mono h.size)

theorem uint_ok (s : ByteArray) (hs : s.size ≤ 281474976710656) (u : Nat) (h : okOf (Lib.parseUintB 64 s.data.toList) = some u) (w : World) :
    Calls Tryd.prog 68 #[.string s, .int .i64 10, .int .i64 64] w fun e w' => e = .returned (.tuple #[.int .u64 u, .nilIface]) ∧ Below w.heap.size w w' := by
  have h' : Lib.parseUintB 64 s.data.toList = .ok u := by
    rcases e : Lib.parseUintB 64 s.data.toList with v | _ | _
    · rw [e] at h; cases h; rfl
    · rw [e] at h; cases h
    · rw [e] at h; cases h
  refine (Any.strconv_ParseUint_10_at64_ok Tryd.laysPu14 s (by omega) u h' w).mono fun e w' ⟨he, hw⟩ => ⟨he, ?_⟩
  rcases hw with rfl | rfl
  · exact Below.refl _ _
  · exact Lib.bytesWorld_below _ _ _

theorem uint_err (s : ByteArray) (hs : s.size ≤ 281474976710656) (h : okOf (Lib.parseUintB 64 s.data.toList) = none) (w : World) (hv : Vars w) :
    Calls Tryd.prog 68 #[.string s, .int .i64 10, .int .i64 64] w fun e w' => (∃ (u : Int) (T N : Nat), e = .returned (.tuple #[.int .u64 u, .iface T (.pointer (some ⟨N, 0, none⟩))])) ∧ Below w.heap.size w w' := by
  rcases e : Lib.parseUintB 64 s.data.toList with v | _ | _
  · rw [e] at h; cases h
  · obtain ⟨ev, h0, i0⟩ := hv.synt
    exact (Any.strconv_ParseUint_10_at64_syntax Tryd.laysPu14 s hs e ev w h0 i0).mono fun e w' ⟨N, he, _, _, hb⟩ => ⟨⟨_, _, N, he⟩, hb⟩
  · obtain ⟨ev, h0, i0⟩ := hv.rang
    exact (Any.strconv_ParseUint_10_at64_range Tryd.laysPu14 s hs e ev w h0 i0).mono fun e w' ⟨N, he, _, _, hb⟩ => ⟨⟨_, _, N, he⟩, hb⟩

/-- The string of a list of bytes. -/
def S (l : List UInt8) : ByteArray := ⟨l.toArray⟩

end Go.Proofs.YtggeccndmmmnjaaDoor.Nu
namespace Go.Proofs.YtggeccndmmmnjaaDoor.Nu
open Go Go.Shelf Go.RowKit Go.Lib

theorem size_len (s : ByteArray) : s.size = s.data.toList.length := Lib.size_eq s
theorem S_list (l : List UInt8) : (S l).data.toList = l := by simp [S]
theorem S_size (l : List UInt8) : (S l).size = l.length := by rw [size_len, S_list]
theorem S_of (s : ByteArray) : S s.data.toList = s := Lib.mk_data s

set_option maxRecDepth 100000 in
theorem parse_some (s : ByteArray) (n : Nat) (h : parseU s.data.toList = some n) (w : World) :
    Calls Tryd.prog 59 #[.string s] w fun e w' => e = .returned (.tuple #[.int .u64 n, .bool true]) ∧ Below w.heap.size w w' := by
  have hl := (parseU_len h).2
  rw [← size_len] at hl
  have hu := uint_ok s (by omega) n (by rw [← parseU_short (by rw [← size_len]; omega)]; exact h) w
  have hl' : ¬ (20 : Int) < (s.size : Int) := by omega
  clear h hl
  go_enter Tryd.func59, Tryd.ntmps59
  go_wp2_with fail
  refine hu.mono ?_
  rintro e w' ⟨rfl, hb⟩
  go_wp2_with fail
  go_ret2
  exact ⟨rfl, hb⟩

set_option maxRecDepth 100000 in
theorem parse_none (s : ByteArray) (h : parseU s.data.toList = none) (w : World) (hv : Vars w) :
    Calls Tryd.prog 59 #[.string s] w fun e w' => e = .returned (.tuple #[.int .u64 0, .bool false]) ∧ Below w.heap.size w w' := by
  by_cases hl : 20 < s.size
  · have hl' : (20 : Int) < (s.size : Int) := by omega
    clear h hl hv
    go_enter Tryd.func59, Tryd.ntmps59
    go_wp2_with fail
    go_ret2
    exact ⟨rfl, Below.refl _ _⟩
  · have hu := uint_err s (by omega) (by rw [← parseU_short (by rw [← size_len]; omega)]; exact h) w hv
    have hl' : ¬ (20 : Int) < (s.size : Int) := by omega
    clear h hl hv
    go_enter Tryd.func59, Tryd.ntmps59
    go_wp2_with fail
    refine hu.mono ?_
    rintro e w' ⟨⟨u, T, N, rfl⟩, hb⟩
    go_wp2_with fail
    go_ret2
    exact ⟨rfl, hb⟩

def uv : Option Nat → Value
  | none => .tuple #[.int .u64 0, .bool false]
  | some v => .tuple #[.int .u64 v, .bool true]

theorem parse_any (s : ByteArray) (w : World) (hv : Vars w) :
    Calls Tryd.prog 59 #[.string s] w fun e w' => e = .returned (uv (parseU s.data.toList)) ∧ Below w.heap.size w w' := by
  cases h : parseU s.data.toList with
  | none => exact parse_none s h w hv
  | some n => exact parse_some s n h w

/-- How a text and a bool read. -/
def tv : Option (List UInt8) → Value
  | none => .tuple #[.string ⟨#[]⟩, .bool false]
  | some l => .tuple #[.string (S l), .bool true]
end Go.Proofs.YtggeccndmmmnjaaDoor.Nu
namespace Go.Proofs.YtggeccndmmmnjaaDoor.Nu
open Go Go.Shelf Go.RowKit

theorem drop_at (s : ByteArray) (k : Nat) (h : k < s.size) : s.data.toList.drop k = s[k] :: s.data.toList.drop (k + 1) := by
  rw [List.drop_eq_getElem_cons (by rw [← size_len]; exact h)]; rfl

end Go.Proofs.YtggeccndmmmnjaaDoor.Nu
namespace Go.Proofs.YtggeccndmmmnjaaDoor.Nu
open Go Go.Shelf Go.RowKit

theorem S_append (l m : List UInt8) : S l ++ S m = S (l ++ m) := by
  apply ByteArray.ext
  simp [S]

end Go.Proofs.YtggeccndmmmnjaaDoor.Nu
