/-
  Contracts of the library's functions that words calls, at this program: strings.Cut around one byte, strings.TrimSuffix of a carriage return, strings.TrimLeft of blanks, strings.Join with a blank (of at most 2^47 bytes). No other conditions.
-/
import Derived.Test.YtggeccndmmmnjaaDoorShelf
import Derived.Test.YtggeccndmmmnjaaDoorWordsMath
import Derived.Lib.Walk
import Derived.Lib.CutLaws
import Derived.WalkKit
import Derived.BigCall
import Derived.BigGuard
import Derived.Deep.Draws
import Derived.Laws.Strings3
namespace Go.Proofs.YtggeccndmmmnjaaDoor
open Go Go.Shelf Go.RowKit Go.Lib

theorem trim_left (s : ByteArray) (w : World) :
    Calls Tryd.prog 24 #[.string s, .string ⟨#[32]⟩] w fun e w' => e = .returned (.string (S (Lib.trimLeftB s.data.toList 32))) ∧ w' = w :=
  Any.strings_TrimLeft_one Tryd.laysTrimLeft s 32 (by decide) w

theorem trim_cr (s : ByteArray) (w : World) (hs : s.size ≤ 9223372036854775807) :
    Calls Tryd.prog 16 #[.string s, .string ⟨#[13]⟩] w fun e w' => e = .returned (.string (S (chop s.data.toList))) ∧ w' = w := by
  have h := Any.strings_TrimSuffix Tryd.laysTrimSuffix s ⟨#[13]⟩ w hs
  have e : (⟨#[13]⟩ : ByteArray).data.toList = [13] := rfl
  rw [e, trimSuffix_chop] at h
  exact h

theorem index_one (s : ByteArray) (c : UInt8) (w : World) :
    Calls Tryd.prog 36 #[.string s, .string ⟨#[c]⟩] w fun e w' => e = .returned (.int .i64 (Lib.indexByte s.data.toList c)) ∧ w' = w :=
  Any.stringslite_Index_one Tryd.laysIndex s c w

/-- What strings.Cut answers around one byte. -/
def cutv (s : ByteArray) (c : UInt8) : Value :=
  if c ∈ s.data.toList then .tuple #[.string (S (upTo c s.data.toList)), .string (S (past c s.data.toList)), .bool true] else .tuple #[.string s, .string ⟨#[]⟩, .bool false]

theorem extract_take (s : ByteArray) (k : Nat) : s.extract 0 k = S (s.data.toList.take k) := by
  rw [Lib.extract_eq]; simp [S]
theorem extract_drop (s : ByteArray) (k : Nat) : s.extract k s.size = S (s.data.toList.drop k) := by
  rw [Lib.extract_eq, List.take_of_length_le (by rw [List.length_drop, ← size_len]; exact Nat.le_refl _)]; rfl

set_option maxHeartbeats 1000000 in
set_option maxRecDepth 100000 in
theorem cut_lite (s : ByteArray) (c : UInt8) (w : World) (hs : s.size ≤ 9223372036854775807) :
    Calls Tryd.prog 21 #[.string s, .string ⟨#[c]⟩] w fun e w' => e = .returned (cutv s c) ∧ Below w.heap.size w w' := by
  have hi := index_one s c w
  by_cases hm : c ∈ s.data.toList
  · rw [index_some hm] at hi
    have hv : cutv s c = .tuple #[.string (s.extract 0 (upTo c s.data.toList).length), .string (s.extract ((upTo c s.data.toList).length + 1) s.size), .bool true] := by
      rw [extract_take, extract_drop, ← upTo_take]
      unfold cutv; rw [if_pos hm]; rfl
    have hlt := upTo_lt hm
    rw [← size_len] at hlt
    rw [hv]
    generalize (upTo c s.data.toList).length = i at *
    clear hv hm
    have c1 : (0 : Int) ≤ ↑i := by omega
    have c2 : (↑i : Int) ≤ ↑s.size := by omega
    have c3 : (0 : Int) ≤ ↑i + 1 := by omega
    have c4 : (↑i + 1 : Int) ≤ ↑s.size := by omega
    have c5 : IntKind.i64.wrap ((i : Int) + 1) = (i : Int) + 1 := by rw [IntKind.wrap_i64]; omega
    have c6 : wrap64 ((i : Int) + 1) = (i : Int) + 1 := by unfold wrap64; omega
    clear hlt hs
    go_enter Tryd.func21, Tryd.ntmps21
    go_wp2_with fail
    refine hi.mono ?_
    rintro e w' ⟨rfl, rfl⟩
    go_wp2_with fail
    go_region
    go_wp2_with fail
    go_ret3
    exact ⟨rfl, (Below.refl _ _).drew⟩
  · rw [index_none hm] at hi
    have hv : cutv s c = .tuple #[.string s, .string ⟨#[]⟩, .bool false] := by unfold cutv; rw [if_neg hm]
    rw [hv]
    clear hv hm hs
    go_enter Tryd.func21, Tryd.ntmps21
    go_wp2_with fail
    refine hi.mono ?_
    rintro e w' ⟨rfl, rfl⟩
    go_wp2_with fail
    go_ret3
    exact ⟨rfl, Below.refl _ _⟩

set_option maxHeartbeats 1000000 in
set_option maxRecDepth 100000 in
theorem cut_one (s : ByteArray) (c : UInt8) (w : World) (hs : s.size ≤ 9223372036854775807) :
    Calls Tryd.prog 15 #[.string s, .string ⟨#[c]⟩] w fun e w' => e = .returned (cutv s c) ∧ Below w.heap.size w w' := by
  have hi := cut_lite s c w hs
  clear hs
  obtain ⟨a, b, f, hv⟩ : ∃ a b f, cutv s c = .tuple #[.string a, .string b, .bool f] := by
    unfold cutv; split
    · exact ⟨_, _, _, rfl⟩
    · exact ⟨_, _, _, rfl⟩
  rw [hv] at hi ⊢
  clear hv
  go_enter Tryd.func15, Tryd.ntmps15
  go_wp2_with fail
  refine hi.mono ?_
  rintro e w' ⟨rfl, hb⟩
  go_wp2_with fail
  go_ret3
  exact ⟨rfl, hb⟩

theorem extraJoin : Builder.Extra Tryd.prog Tryd.laysJoin_ren where
  sizeBuilder := by kernel_rfl
  liesBuilder := by kernel_rfl
  t5 := Tryd.underlying5
  a5 := Tryd.isAgg5
  z5 := Tryd.sizeOf5
  v5 := Tryd.zeroValue5
  infoByte := by kernel_rfl
  cellsByte := by kernel_rfl
  sizeByte := by kernel_rfl
  neB5 := by decide

/-- The joined texts. -/
def joinS (xs : List ByteArray) : List UInt8 := Lib.join (xs.map (·.data.toList)) [32]

theorem join_any (bk o c : Nat) (xs : List ByteArray) (w : World)
    (hcells : ∀ (j : Nat) x, xs[j]? = some x → w.cell? ⟨bk, o + j, none⟩ = some (.string x))
    (hbk : bk < w.heap.size) (hN : xs.length ≤ 140737488355328) (hcap : xs.length ≤ c) (hlen : (joinS xs).length ≤ 140737488355328) :
    Calls Tryd.prog 50 #[.slice (some ⟨bk, o, none⟩) xs.length c, .string ⟨#[32]⟩] w fun e w' => e = .returned (.string (S (joinS xs))) ∧ Below w.heap.size w w' :=
  Any.strings_Join Tryd.laysJoin extraJoin bk o c xs ⟨#[32]⟩ w hcells hbk hN hcap hlen
theorem join_none (a : Option Addr) (c : Nat) (w : World) :
    Calls Tryd.prog 50 #[.slice a 0 c, .string ⟨#[32]⟩] w fun e w' => e = .returned (.string ⟨#[]⟩) ∧ w' = w :=
  Any.strings_Join_none Tryd.laysJoin extraJoin a c ⟨#[32]⟩ w
end Go.Proofs.YtggeccndmmmnjaaDoor
