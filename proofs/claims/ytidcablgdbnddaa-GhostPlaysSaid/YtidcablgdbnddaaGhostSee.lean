/-
  The contracts of what only looks at a ghost: Has, Len. Conditions: the ghost lies in memory.
-/
import Derived.Test.YtidcablgdbnddaaGhostObj
import Derived.Shelf.RegionOpen
import Derived.BigRegion
import Derived.BigQuiet
import Derived.WalkSpells
import Derived.Deep.DeepCutAuto
namespace Go.Proofs.Ytidcablgdbnddaa
open Go Go.RowKit Go.Lib

/-- A number that is there, and its mark. -/
theorem GM.stands {P M m : Nat} {N : List Nd} {w : World} (h : GM P M m N w) (z : Int) : (look N z = none ∧ z ∉ idl N) ∨ ∃ a b x, x.id = z ∧ look N z = some x.b ∧ z ∈ idl N ∧ N = a ++ x :: b := by
  cases e : look N z with
  | none => exact .inl ⟨rfl, (look_no h.nd).1 e⟩
  | some c =>
    obtain ⟨x, hx, rfl, rfl⟩ := (look_iff h.nd).1 e
    obtain ⟨a, b, rfl⟩ := List.append_of_mem hx
    exact .inr ⟨a, b, x, rfl, rfl, List.mem_map.2 ⟨x, hx, rfl⟩, rfl⟩
set_option maxRecDepth 100000 in
theorem has_any {P M m : Nat} {N : List Nd} {w : World} (h : GM P M m N w) (z : Int) (hz : u64ok z) :
   Calls Try.prog 18 #[.pointer (some ⟨P, 0, none⟩), .int .u64 z] w fun e w' => e = .returned (.bool (decide (z ∈ idl N))) ∧ w = w' := by
  have hL := h.map.look hz
  have c0 := h.p4
  rcases h.stands z with ⟨h1, h2⟩ | ⟨a, b, x, rfl, h1, h2, h3⟩
  · rw [h1] at hL
    replace hL : (Instr.lookup 45 (.map (some M)) (.int .u64 z) false).run Try.prog w = .ok (.pointer none) w := hL
    rw [decide_eq_false h2]
    clear h h1 h2
    go_enter Try.func18, Try.ntmps18
    go_wp2_with fail
    go_ret
    exact ⟨rfl, rfl⟩
  · rw [h1] at hL
    replace hL : (Instr.lookup 45 (.map (some M)) (.int .u64 x.id) false).run Try.prog w = .ok (.pointer (some ⟨x.b, 0, none⟩)) w := hL
    rw [decide_eq_true h2]
    clear h h1 h2 h3
    generalize x.id = z at *
    generalize x.b = B at *
    go_enter Try.func18, Try.ntmps18
    go_wp2_with fail
    go_ret
    exact ⟨rfl, rfl⟩
set_option maxRecDepth 100000 in
theorem len_any {P M m : Nat} {N : List Nd} {w : World} (h : GM P M m N w) :
   Calls Try.prog 20 #[.pointer (some ⟨P, 0, none⟩)] w fun e w' => e = .returned (.int .i64 N.length) ∧ w = w' := by
  have hM := hid h.map
  have c0 := h.p4
  generalize N.length = n at *
  clear h
  go_enter Try.func20, Try.ntmps20
  go_wp2_with (at_len; refine wpList_pm_len rfl _ rfl rfl hM ?_)
  go_ret
  exact ⟨rfl, rfl⟩
end Go.Proofs.Ytidcablgdbnddaa
