/-
  What the laws of layer 3 show first (ambrylaw03.shown) is true at this program; with it the laws B64Writes and B64Reads. Conditions: the text of what is written takes at most 2^47 bytes; what is read takes at most 2^47 - 8 bytes.
-/
import Derived.Test.YtbmmlpfbflohgaaDoorB64RefDec
namespace Go.Proofs.YtbmmlpfbflohgaaDoor
open Go Go.Shelf Go.RowKit

theorem shown_a (w : World) : Calls Tryd.prog 12 #[.string ⟨#[90, 109, 57, 118, 89, 103, 61, 61]⟩] w fun e w' => e = .returned (.tuple #[.string ⟨#[102, 111, 111, 98]⟩, .bool true]) ∧ Below w.heap.size w w' := by
  have h := decode_any ⟨#[90, 109, 57, 118, 89, 103, 61, 61]⟩ (by decide) w
  have e : decS (⟨#[90, 109, 57, 118, 89, 103, 61, 61]⟩ : ByteArray).data.toList = some [102, 111, 111, 98] := decS_iff.2 (by decide +kernel)
  rw [e] at h
  exact h
theorem shown_b (w : World) : Calls Tryd.prog 12 #[.string ⟨#[90, 104, 61, 61]⟩] w fun e w' => e = .returned (.tuple #[.string ⟨#[]⟩, .bool false]) ∧ Below w.heap.size w w' := by
  have h := decode_any ⟨#[90, 104, 61, 61]⟩ (by decide) w
  have e : decS (⟨#[90, 104, 61, 61]⟩ : ByteArray).data.toList = none := by decide +kernel
  rw [e] at h
  exact h
theorem shown_c (w : World) : Calls Tryd.prog 10 #[.string ⟨#[102, 111, 111, 98]⟩] w fun e w' => e = .returned (.string ⟨#[90, 109, 57, 118, 89, 103, 61, 61]⟩) ∧ Below w.heap.size w w' := by
  have h := encode_any ⟨#[102, 111, 111, 98]⟩ (by decide) w
  have e : enc (⟨#[102, 111, 111, 98]⟩ : ByteArray).data.toList = [90, 109, 57, 118, 89, 103, 61, 61] := by decide +kernel
  rw [e] at h
  exact h

set_option maxHeartbeats 1000000 in
set_option maxRecDepth 100000 in
theorem shown_any (w : World) : Calls Tryd.prog 9 #[] w fun e w' => e = .returned (.bool true) ∧ Below w.heap.size w w' := by
  go_enter Tryd.func9, Tryd.ntmps9
  go_wp2_with fail
  refine (shown_a w).mono ?_
  rintro e w1 ⟨rfl, b1⟩
  go_wp2_with fail
  refine (shown_b w1).mono ?_
  rintro e w2 ⟨rfl, b2⟩
  go_wp2_with fail
  refine (shown_c w2).mono ?_
  rintro e w3 ⟨rfl, b3⟩
  go_wp2_with fail
  go_ret
  exact ⟨rfl, Below.then b1 (Below.then b2 b3)⟩

set_option maxHeartbeats 1000000 in
set_option maxRecDepth 100000 in
theorem writes_law (s : ByteArray) (hs : (s.size + 2) / 3 * 4 ≤ 140737488355328) (w : World) : Calls Tryd.prog 3 #[.string s] w fun e w' => e = .returned (.bool true) ∧ Below w.heap.size w w' := by
  have h1 := fun w => encode_any s hs w
  have h2 := fun w => ref_encode s hs w
  generalize S (enc s.data.toList) = a at h1 h2
  clear hs
  go_enter Tryd.func3, Tryd.ntmps3
  go_wp2_with fail
  refine (shown_any _).mono ?_
  rintro e w1 ⟨rfl, b1⟩
  go_wp2_with fail
  refine (h1 _).mono ?_
  rintro e w2 ⟨rfl, b2⟩
  go_wp2_with fail
  refine (h2 _).mono ?_
  rintro e w3 ⟨rfl, b3⟩
  go_wp2_with fail
  go_ret
  exact ⟨rfl, Below.then b1 (Below.then b2 b3)⟩

theorem pv_form (o : Option (List UInt8)) : ∃ a b, pv o = .tuple #[.string a, .bool b] := by
  cases o with
  | none => exact ⟨_, _, rfl⟩
  | some b => exact ⟨_, _, rfl⟩

set_option maxHeartbeats 1000000 in
set_option maxRecDepth 100000 in
theorem reads_law (s : ByteArray) (hs : s.size ≤ 140737488355320) (w : World) : Calls Tryd.prog 4 #[.string s] w fun e w' => e = .returned (.bool true) ∧ Below w.heap.size w w' := by
  have h1 := fun w => decode_any s hs w
  have h2 := fun w => ref_decode s hs w
  obtain ⟨a, b, hv⟩ := pv_form (decS s.data.toList)
  rw [hv] at h1 h2
  clear hs hv
  go_enter Tryd.func4, Tryd.ntmps4
  go_wp2_with fail
  refine (shown_any _).mono ?_
  rintro e w1 ⟨rfl, b1⟩
  go_wp2_with fail
  refine (h1 _).mono ?_
  rintro e w2 ⟨rfl, b2⟩
  go_wp2_with fail
  refine (h2 _).mono ?_
  rintro e w3 ⟨rfl, b3⟩
  go_wp2_with fail
  go_ret
  exact ⟨rfl, Below.then b1 (Below.then b2 b3)⟩
end Go.Proofs.YtbmmlpfbflohgaaDoor
