/-
  The walks of layer 1's laws at this program: each answers true, for every argument, and leaves what was there as it was. Conditions: the package variables hold what they were laid with ('Vars').
-/
import Derived.Test.YtkodgfbalclaeaaDoorNumsRefC
import Derived.Lib.QuietBelow
namespace Go.Proofs.YtkodgfbalclaeaaDoor
open Go Go.Shelf Go.RowKit

theorem dd20 : S (Lib.decDigits 20) = ⟨#[50, 48]⟩ := by
  rw [dd_big (by omega), dd_small (n := 20 / 10) (by omega), dd_small (n := 20 % 10) (by omega)]; rfl
theorem p007 : parseU (⟨#[48, 48, 55]⟩ : ByteArray).data.toList = some 7 := by decide
theorem pmax : parseU (⟨#[49, 56, 52, 52, 54, 55, 52, 52, 48, 55, 51, 55, 48, 57, 53, 53, 49, 54, 49, 54]⟩ : ByteArray).data.toList = none := by decide

set_option maxRecDepth 100000 in
theorem shown_true (w : World) (hv : Vars w) :
    Calls Tryd.prog 11 #[] w fun e w' => e = .returned (.bool true) ∧ Below w.heap.size w w' := by
  have h1 := parse_some ⟨#[48, 48, 55]⟩ 7 p007 w
  have h2 := fun W hV => parse_none ⟨#[49, 56, 52, 52, 54, 55, 52, 52, 48, 55, 51, 55, 48, 57, 53, 53, 49, 54, 49, 54]⟩ pmax W hV
  have h3 := fun W hV => text_any 20 (by omega) W hV
  rw [dd20] at h3
  have hvb : ∀ W, Below w.heap.size w W → Vars W := fun W hb => hv.below hb
  clear hv
  go_enter Tryd.func11, Tryd.ntmps11
  go_wp2_with fail
  refine h1.mono ?_
  rintro e w1 ⟨rfl, b1⟩
  go_wp2_with fail
  refine (h2 _ (hvb _ b1)).mono ?_
  rintro e w2 ⟨rfl, b2⟩
  have b12 := Below.then b1 b2
  go_wp2_with fail
  refine (h3 _ (hvb _ b12)).mono ?_
  rintro e w3 ⟨rfl, b3⟩
  go_wp2_with fail
  go_ret
  exact ⟨rfl, Below.then b12 b3⟩

set_option maxRecDepth 100000 in
theorem parses_law (s : ByteArray) (w : World) (hv : Vars w) :
    Calls Tryd.prog 3 #[.string s] w fun e w' => e = .returned (.bool true) ∧ Below w.heap.size w w' := by
  have h0 := shown_true w hv
  have h1 := fun W hV => parse_any s W hV
  have h2 := fun W => ref_parse s W
  have hvb : ∀ W, Below w.heap.size w W → Vars W := fun W hb => hv.below hb
  clear hv
  obtain ⟨n, x, hx⟩ : ∃ (n : Int) (x : Bool), uv (parseU s.data.toList) = .tuple #[.int .u64 n, .bool x] := by
    cases parseU s.data.toList <;> exact ⟨_, _, rfl⟩
  rw [hx] at h1 h2
  clear hx
  go_enter Tryd.func3, Tryd.ntmps3
  go_wp2_with fail
  refine h0.mono ?_
  rintro e w1 ⟨rfl, b1⟩
  go_wp2_with fail
  refine (h1 _ (hvb _ b1)).mono ?_
  rintro e w2 ⟨rfl, b2⟩
  have b12 := Below.then b1 b2
  go_wp2_with fail
  refine (h2 _).mono ?_
  rintro e w3 ⟨rfl, rfl⟩
  cases x <;> (go_wp2_with fail; go_ret; exact ⟨rfl, b12⟩)

set_option maxRecDepth 100000 in
theorem signed_law (s : ByteArray) (w : World) (hv : Vars w) :
    Calls Tryd.prog 4 #[.string s] w fun e w' => e = .returned (.bool true) ∧ Below w.heap.size w w' := by
  have h0 := shown_true w hv
  have h1 := fun W hV => signed_any s W hV
  have h2 := fun W => ref_signed s W
  have hvb : ∀ W, Below w.heap.size w W → Vars W := fun W hb => hv.below hb
  clear hv
  obtain ⟨n, x, hx⟩ : ∃ (n : Int) (x : Bool), sv (signedU s.data.toList) = .tuple #[.int .i64 n, .bool x] := by
    cases signedU s.data.toList <;> exact ⟨_, _, rfl⟩
  rw [hx] at h1 h2
  clear hx
  go_enter Tryd.func4, Tryd.ntmps4
  go_wp2_with fail
  refine h0.mono ?_
  rintro e w1 ⟨rfl, b1⟩
  go_wp2_with fail
  refine (h1 _ (hvb _ b1)).mono ?_
  rintro e w2 ⟨rfl, b2⟩
  have b12 := Below.then b1 b2
  go_wp2_with fail
  refine (h2 _).mono ?_
  rintro e w3 ⟨rfl, rfl⟩
  cases x <;> (go_wp2_with fail; go_ret; exact ⟨rfl, b12⟩)

set_option maxRecDepth 100000 in
theorem texts_law (n : Nat) (hn : n < 18446744073709551616) (w : World) (hv : Vars w) :
    Calls Tryd.prog 5 #[.int .u64 n] w fun e w' => e = .returned (.bool true) ∧ Below w.heap.size w w' := by
  have h0 := shown_true w hv
  have h1 := fun W hV => text_any n hn W hV
  have h2 := fun W => ref_text_any n hn W
  have hvb : ∀ W, Below w.heap.size w W → Vars W := fun W hb => hv.below hb
  clear hv hn
  generalize S (Lib.decDigits n) = a at *
  go_enter Tryd.func5, Tryd.ntmps5
  go_wp2_with fail
  refine h0.mono ?_
  rintro e w1 ⟨rfl, b1⟩
  go_wp2_with fail
  refine (h1 _ (hvb _ b1)).mono ?_
  rintro e w2 ⟨rfl, b2⟩
  have b12 := Below.then b1 b2
  go_wp2_with fail
  refine (h2 _).mono ?_
  rintro e w3 ⟨rfl, b3⟩
  go_wp2_with fail
  go_ret
  exact ⟨rfl, Below.then b12 b3⟩

set_option maxRecDepth 100000 in
theorem sums_law (s : ByteArray) (d : Nat) (_hd : d < 18446744073709551616) (w : World) (hv : Vars w) :
    Calls Tryd.prog 7 #[.string s, .int .u64 d] w fun e w' => e = .returned (.bool true) ∧ Below w.heap.size w w' := by
  have h0 := shown_true w hv
  have hvb : ∀ W, Below w.heap.size w W → Vars W := fun W hb => hv.below hb
  clear hv
  obtain ⟨a, x, c, y, ha, hc⟩ : ∃ a x c y, (tv (addU s.data.toList d) = .tuple #[.string a, .bool x]) ∧ (tv (subU s.data.toList d) = .tuple #[.string c, .bool y]) := by
    cases addU s.data.toList d <;> cases subU s.data.toList d <;> exact ⟨_, _, _, _, rfl, rfl⟩
  have h1 := fun W hV => add_any s d W hV
  have h2 := fun W => ref_add s d W
  have h3 := fun W hV => sub_any s d W hV
  have h4 := fun W => ref_sub s d W
  rw [ha] at h1 h2
  rw [hc] at h3 h4
  clear ha hc
  go_enter Tryd.func7, Tryd.ntmps7
  go_wp2_with fail
  refine h0.mono ?_
  rintro e w1 ⟨rfl, b1⟩
  go_wp2_with fail
  refine (h1 _ (hvb _ b1)).mono ?_
  rintro e w2 ⟨rfl, b2⟩
  have b12 := Below.then b1 b2
  go_wp2_with fail
  refine (h2 _).mono ?_
  rintro e w3 ⟨rfl, b3⟩
  have b13 := Below.then b12 b3
  go_wp2_with fail
  refine (h3 _ (hvb _ b13)).mono ?_
  rintro e w4 ⟨rfl, b4⟩
  have b14 := Below.then b13 b4
  go_wp2_with fail
  refine (h4 _).mono ?_
  rintro e w5 ⟨rfl, b5⟩
  have b15 := Below.then b14 b5
  cases x <;> cases y <;> (go_wp2_with fail; go_ret; exact ⟨rfl, b15⟩)
end Go.Proofs.YtkodgfbalclaeaaDoor
