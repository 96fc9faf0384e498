/-
  Contract of nums.Signed at this program: it answers what the plain mathematics says, for every argument. Conditions: the package variables hold what they were laid with ('Vars').
-/
import Derived.Test.YtggeccndmmmnjaaDoorNumsC
import Derived.WalkLawsBesides
import Derived.WalkSpells
import Derived.IntWalk
namespace Go.Proofs.YtggeccndmmmnjaaDoor.Nu
open Go Go.Shelf Go.RowKit Go.Lib

theorem cut_prefix (s p : ByteArray) (w : World) :
    Calls Tryd.prog 66 #[.string s, .string p] w fun e w' => e = .returned (.tuple #[.string ⟨(Lib.trimPrefix s.data.toList p.data.toList).toArray⟩, .bool (Lib.hasPrefix s.data.toList p.data.toList)]) ∧ w = w' :=
  (Any.strings_CutPrefix Tryd.laysCut s p w).mono fun _ _ ⟨he, hw⟩ => ⟨he, hw.symm⟩

theorem wrap_neg (n : Nat) (h : n ≤ 9223372036854775808) : IntKind.i64.wrap (IntKind.u64.wrap (-(n : Int))) = -(n : Int) := by
  rw [IntKind.wrap_u64, IntKind.wrap_i64]; omega

set_option maxRecDepth 100000 in
theorem below_some (n : Nat) (h : n ≤ 9223372036854775808) (w : World) :
    Calls Tryd.prog 67 #[.int .u64 n] w fun e w' => e = .returned (.tuple #[.int .i64 (-(n : Int)), .bool true]) ∧ w = w' := by
  have hw := wrap_neg n h
  have h' : ¬ (9223372036854775808 : Int) < (n : Int) := by omega
  clear h
  go_enter Tryd.func67, Tryd.ntmps67
  go_wp2_with fail
  go_ret2
  exact ⟨rfl, rfl⟩

set_option maxRecDepth 100000 in
theorem below_none (n : Nat) (h : 9223372036854775808 < n) (w : World) :
    Calls Tryd.prog 67 #[.int .u64 n] w fun e w' => e = .returned (.tuple #[.int .i64 0, .bool false]) ∧ w = w' := by
  have h' : (9223372036854775808 : Int) < (n : Int) := by omega
  clear h
  go_enter Tryd.func67, Tryd.ntmps67
  go_wp2_with fail
  go_ret2
  exact ⟨rfl, rfl⟩
/-- How two results read. -/
def sv : Option Int → Value
  | none => .tuple #[.int .i64 0, .bool false]
  | some v => .tuple #[.int .i64 v, .bool true]
theorem cut_dash (s : ByteArray) (w : World) :
    Calls Tryd.prog 66 #[.string s, .string ⟨#[45]⟩] w fun e w' => e = .returned (.tuple #[.string (S (unsign s.data.toList)), .bool (isNeg s.data.toList)]) ∧ w = w' := by
  have h := cut_prefix s ⟨#[45]⟩ w
  have e : (⟨#[45]⟩ : ByteArray).data.toList = [45] := rfl
  rw [e, hasPrefix_dash, trimPrefix_dash] at h
  exact h

set_option maxRecDepth 100000 in
theorem signed_long (s : ByteArray) (h : 19 < (S (unsign s.data.toList)).size) (w : World) :
    Calls Tryd.prog 58 #[.string s] w fun e w' => e = .returned (.tuple #[.int .i64 0, .bool false]) ∧ Below w.heap.size w w' := by
  have hc := cut_dash s w
  have hl' : (19 : Int) < ((S (unsign s.data.toList)).size : Int) := by omega
  clear h
  generalize S (unsign s.data.toList) = d at *
  generalize isNeg s.data.toList = b at *
  go_enter Tryd.func58, Tryd.ntmps58
  go_wp2_with fail
  refine hc.mono ?_
  rintro e w' ⟨rfl, rfl⟩
  go_wp2_with fail
  go_ret2
  exact ⟨rfl, Below.refl _ _⟩

set_option maxRecDepth 100000 in
theorem signed_bad (s : ByteArray) (h : ¬ 19 < (S (unsign s.data.toList)).size) (hp : parseU (S (unsign s.data.toList)).data.toList = none) (w : World) (hv : Vars w) :
    Calls Tryd.prog 58 #[.string s] w fun e w' => e = .returned (.tuple #[.int .i64 0, .bool false]) ∧ Below w.heap.size w w' := by
  have hc := cut_dash s w
  have hl' : ¬ (19 : Int) < ((S (unsign s.data.toList)).size : Int) := by omega
  have hq := parse_none (S (unsign s.data.toList)) hp w hv
  clear h hp hv
  generalize S (unsign s.data.toList) = d at *
  generalize isNeg s.data.toList = b at *
  go_enter Tryd.func58, Tryd.ntmps58
  go_wp2_with fail
  refine hc.mono ?_
  rintro e w' ⟨rfl, rfl⟩
  go_wp2_with fail
  refine hq.mono ?_
  rintro e w' ⟨rfl, hb⟩
  go_wp2_with fail
  go_ret2
  exact ⟨rfl, hb⟩

set_option maxRecDepth 100000 in
theorem signed_neg (s : ByteArray) (h : ¬ 19 < (S (unsign s.data.toList)).size) (n : Nat) (hp : parseU (S (unsign s.data.toList)).data.toList = some n) (w : World) (hn : isNeg s.data.toList = true)
    (r : Value) (x : Int) (y : Bool) (hr : r = .tuple #[.int .i64 x, .bool y]) (hbel : ∀ W, Calls Tryd.prog 67 #[.int .u64 n] W fun e w' => e = .returned r ∧ W = w') :
    Calls Tryd.prog 58 #[.string s] w fun e w' => e = .returned r ∧ Below w.heap.size w w' := by
  subst hr
  have hc := cut_dash s w
  have hl' : ¬ (19 : Int) < ((S (unsign s.data.toList)).size : Int) := by omega
  have hq := parse_some (S (unsign s.data.toList)) n hp w
  rw [hn] at hc
  clear h hp hn
  generalize S (unsign s.data.toList) = d at *
  go_enter Tryd.func58, Tryd.ntmps58
  go_wp2_with fail
  refine hc.mono ?_
  rintro e w' ⟨rfl, rfl⟩
  go_wp2_with fail
  refine hq.mono ?_
  rintro e w' ⟨rfl, hb⟩
  go_wp2_with fail
  refine (hbel _).mono ?_
  rintro e w'' ⟨rfl, rfl⟩
  go_wp2_with fail
  go_ret2
  exact ⟨rfl, hb⟩

theorem wrap_same (n : Nat) (h : n < 9223372036854775808) : IntKind.i64.wrap (n : Int) = (n : Int) := by
  rw [IntKind.wrap_i64]; omega

set_option maxRecDepth 100000 in
theorem signed_pos (s : ByteArray) (h : ¬ 19 < (S (unsign s.data.toList)).size) (n : Nat) (hp : parseU (S (unsign s.data.toList)).data.toList = some n) (w : World) (hn : isNeg s.data.toList = false) (hlt : n < 9223372036854775808) :
    Calls Tryd.prog 58 #[.string s] w fun e w' => e = .returned (.tuple #[.int .i64 (n : Int), .bool true]) ∧ Below w.heap.size w w' := by
  have hc := cut_dash s w
  have hl' : ¬ (19 : Int) < ((S (unsign s.data.toList)).size : Int) := by omega
  have hq := parse_some (S (unsign s.data.toList)) n hp w
  have hw := wrap_same n hlt
  have hlt' : ¬ (9223372036854775807 : Int) < (n : Int) := by omega
  rw [hn] at hc
  clear h hp hn
  generalize S (unsign s.data.toList) = d at *
  go_enter Tryd.func58, Tryd.ntmps58
  go_wp2_with fail
  refine hc.mono ?_
  rintro e w' ⟨rfl, rfl⟩
  go_wp2_with fail
  refine hq.mono ?_
  rintro e w' ⟨rfl, hb⟩
  go_wp2_with fail
  go_ret2
  exact ⟨rfl, hb⟩

set_option maxRecDepth 100000 in
theorem signed_over (s : ByteArray) (h : ¬ 19 < (S (unsign s.data.toList)).size) (n : Nat) (hp : parseU (S (unsign s.data.toList)).data.toList = some n) (w : World) (hn : isNeg s.data.toList = false) (hge : 9223372036854775808 ≤ n) :
    Calls Tryd.prog 58 #[.string s] w fun e w' => e = .returned (.tuple #[.int .i64 0, .bool false]) ∧ Below w.heap.size w w' := by
  have hc := cut_dash s w
  have hl' : ¬ (19 : Int) < ((S (unsign s.data.toList)).size : Int) := by omega
  have hq := parse_some (S (unsign s.data.toList)) n hp w
  have hge' : (9223372036854775807 : Int) < (n : Int) := by omega
  rw [hn] at hc
  clear h hp hn
  generalize S (unsign s.data.toList) = d at *
  go_enter Tryd.func58, Tryd.ntmps58
  go_wp2_with fail
  refine hc.mono ?_
  rintro e w' ⟨rfl, rfl⟩
  go_wp2_with fail
  refine hq.mono ?_
  rintro e w' ⟨rfl, hb⟩
  go_wp2_with fail
  go_ret2
  exact ⟨rfl, hb⟩

theorem signed_any (s : ByteArray) (w : World) (hv : Vars w) :
    Calls Tryd.prog 58 #[.string s] w fun e w' => e = .returned (sv (signedU s.data.toList)) ∧ Below w.heap.size w w' := by
  rcases signedU_cases s.data.toList with ⟨h, e⟩ | ⟨h, hp, e⟩ | ⟨n, h, hp, ⟨hn, hb, e⟩ | ⟨hn, hb, e⟩ | ⟨hn, hb, e⟩ | ⟨hn, hb, e⟩⟩ <;> rw [e]
  · exact signed_long s (by rw [S_size]; exact h) w
  · exact signed_bad s (by rw [S_size]; exact h) (by rw [S_list]; exact hp) w hv
  · exact signed_neg s (by rw [S_size]; exact h) n (by rw [S_list]; exact hp) w hn _ 0 false rfl (below_none n hb)
  · exact signed_neg s (by rw [S_size]; exact h) n (by rw [S_list]; exact hp) w hn _ _ true rfl (below_some n hb)
  · exact signed_over s (by rw [S_size]; exact h) n (by rw [S_list]; exact hp) w hn hb
  · exact signed_pos s (by rw [S_size]; exact h) n (by rw [S_list]; exact hp) w hn hb
end Go.Proofs.YtggeccndmmmnjaaDoor.Nu
