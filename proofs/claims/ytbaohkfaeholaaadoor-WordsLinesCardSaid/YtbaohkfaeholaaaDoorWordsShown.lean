/-
  What the laws of layer 2 show first (ambrylaw02.shown) is true at this program. No conditions. With it the laws that need no loop of their own: lines and keys.
-/
import Derived.Test.YtbaohkfaeholaaaDoorWordsJoin
namespace Go.Proofs.YtbaohkfaeholaaaDoor
open Go Go.Shelf Go.RowKit

theorem shown_line (w : World) : Calls Tryd.prog 12 #[.string ⟨#[103, 101, 116, 32, 97, 13, 10, 98]⟩] w fun e w' => e = .returned (.tuple #[.string ⟨#[103, 101, 116, 32, 97]⟩, .int .i64 7]) ∧ Below w.heap.size w w' := by
  have h := line_any ⟨#[103, 101, 116, 32, 97, 13, 10, 98]⟩ (by decide) w
  have e1 : lineS (⟨#[103, 101, 116, 32, 97, 13, 10, 98]⟩ : ByteArray).data.toList = [103, 101, 116, 32, 97] := by decide
  have e2 : lineN (⟨#[103, 101, 116, 32, 97, 13, 10, 98]⟩ : ByteArray).data.toList = 7 := by decide
  rw [e1, e2] at h
  exact h
theorem shown_split (w : World) : Calls Tryd.prog 14 #[.string ⟨#[32, 32, 97, 32, 32, 98, 9, 99]⟩] w fun e w' => ∃ b o c, e = .returned (.slice (some ⟨b, o, none⟩) 2 c) ∧ 2 ≤ c ∧ b < w'.heap.size ∧ w'.cell? ⟨b, o + 1, none⟩ = some (.string ⟨#[98, 9, 99]⟩) ∧ Below w.heap.size w w' := by
  have e1 : splitS (⟨#[32, 32, 97, 32, 32, 98, 9, 99]⟩ : ByteArray).data.toList = [[97], [98, 9, 99]] := by decide
  have h := split_any ⟨#[32, 32, 97, 32, 32, 98, 9, 99]⟩ (by decide) (by rw [e1]; decide) w
  rw [e1] at h
  refine h.mono ?_
  rintro e w' ⟨v, rfl, ho, hb⟩
  obtain ⟨a, c, rfl, hc, hx⟩ := texts_of_row ho
  obtain ⟨b, o, rfl, hlt, hcell⟩ := hx 1 [98, 9, 99] rfl
  exact ⟨b, o, c, rfl, hc, hlt, hcell, hb⟩
theorem shown_key (w : World) : Calls Tryd.prog 17 #[.string ⟨#[107]⟩] w fun e w' => e = .returned (.bool true) ∧ w = w' :=
  key_any ⟨#[107]⟩ w

set_option maxHeartbeats 1000000 in
set_option maxRecDepth 100000 in
theorem shown_any (w : World) : Calls Tryd.prog 11 #[] w fun e w' => e = .returned (.bool true) ∧ Below w.heap.size w w' := by
  have h1 := shown_line w
  go_enter Tryd.func11, Tryd.ntmps11
  go_wp2_with fail
  refine h1.mono ?_
  rintro e w1 ⟨rfl, b1⟩
  go_wp2_with fail
  refine (shown_split w1).mono ?_
  rintro e w2 ⟨b, o, c, rfl, hc, hlt, hcell, b2⟩
  go_wp2_with fail
  refine (shown_key _).mono ?_
  rintro e w3 ⟨rfl, rfl⟩
  go_wp2_with fail
  refine (key_empty _).mono ?_
  rintro e w4 ⟨rfl, rfl⟩
  go_wp2_with fail
  go_ret
  exact ⟨rfl, Below.then b1 b2⟩

set_option maxHeartbeats 1000000 in
set_option maxRecDepth 100000 in
theorem lines_law (s : ByteArray) (hs : s.size < 9223372036854775807) (w : World) : Calls Tryd.prog 3 #[.string s] w fun e w' => e = .returned (.bool true) ∧ Below w.heap.size w w' := by
  have h1 := fun w => line_any s (by omega) w
  have h2 := fun w => ref_line s hs w
  generalize S (lineS s.data.toList) = a at h1 h2
  generalize lineN s.data.toList = n at h1 h2
  clear hs
  go_enter Tryd.func3, Tryd.ntmps3
  go_wp2_with fail
  refine (shown_any _).mono ?_
  rintro e w1 ⟨rfl, b1⟩
  go_wp2_with fail
  refine (h1 _).mono ?_
  rintro e w2 ⟨rfl, b2⟩
  go_wp2_with fail
  refine (h2 _).mono ?_
  rintro e w3 ⟨rfl, rfl⟩
  go_wp2_with fail
  go_ret
  exact ⟨rfl, Below.then b1 b2⟩

set_option maxHeartbeats 1000000 in
set_option maxRecDepth 100000 in
theorem keys_law (s : ByteArray) (hs : s.size < 9223372036854775807) (w : World) : Calls Tryd.prog 5 #[.string s] w fun e w' => e = .returned (.bool true) ∧ Below w.heap.size w w' := by
  have h1 := fun w => key_any s w
  have h2 := fun w => ref_key s hs w
  generalize keyB s.data.toList = b at h1 h2
  clear hs
  go_enter Tryd.func5, Tryd.ntmps5
  go_wp2_with fail
  refine (shown_any _).mono ?_
  rintro e w1 ⟨rfl, b1⟩
  go_wp2_with fail
  refine (h1 _).mono ?_
  rintro e w2 ⟨rfl, rfl⟩
  go_wp2_with fail
  refine (h2 _).mono ?_
  rintro e w3 ⟨rfl, rfl⟩
  go_wp2_with fail
  go_ret
  exact ⟨by simp, b1⟩
end Go.Proofs.YtbaohkfaeholaaaDoor
