/-
  The program's New, Reset and Lines (S1): Lines are a row of the call's own that tells all eighteen counts in order. Conditions: the counts lie in one block, each below 2^64; the package variables hold what they were laid with.
-/
import Derived.Test.YtfoggbgemdlhbaaDoorStsTail
import Derived.Test.YtfoggbgemdlhbaaDoorStsRef
namespace Go.Proofs.YtfoggbgemdlhbaaDoor.Sc
open Go Go.RowKit Go.Lib

theorem S_app (l m : List UInt8) : S l ++ S m = S (l ++ m) := by
  apply ByteArray.ext
  apply Array.toList_inj.1
  simp [S]
set_option maxRecDepth 100000 in
theorem line_any (x : List UInt8) (hx : x.length ≤ 100) (n : Nat) (hn : n < 18446744073709551616) (w : World) (hv : Nu.TabV w) :
    Calls Tryd.prog 20 #[.string (S x), .int .u64 n] w fun e w' => e = .returned (.string (S (ln x n))) ∧ Below w.heap.size w w' := by
  have hc : Calls Tryd.prog 25 #[.int .u64 n] w fun e w' => e = .returned (.string (S (Lib.decDigits n))) ∧ Below w.heap.size w w' := Nu.text_any n hn w hv
  have hd := Nu.dd_len_le hn
  have hE : Hid (S [83, 84, 65, 84, 32] ++ S x ++ S [32] ++ S (Lib.decDigits n) = S (ln x n)) := hidc (by rw [S_app, S_app, S_app]; rfl)
  have k1 : (S [83, 84, 65, 84, 32]).size + (S x).size ≤ 9223372036854775807 := by rw [S_size, S_size]; show 5 + _ ≤ _; omega
  have k2 : (S [83, 84, 65, 84, 32] ++ S x).size + (S [32]).size ≤ 9223372036854775807 := by rw [S_app, S_size, S_size]; simp; omega
  have k3 : (S [83, 84, 65, 84, 32] ++ S x ++ S [32]).size + (S (Lib.decDigits n)).size ≤ 9223372036854775807 := by rw [S_app, S_app, S_size, S_size]; simp; omega
  generalize S (Lib.decDigits n) = D at *
  generalize S x = X at *
  generalize S (ln x n) = R at *
  clear hd hn hv hx
  unfold S at hE k1 k2 k3
  go_enter Tryd.func20, Tryd.ntmps20
  go_wp2_with fail
  refine hc.mono ?_
  rintro e w1 ⟨rfl, hb⟩
  go_wp2_with fail
  go_ret
  exact ⟨by rw [← hE.out]; rfl, hb⟩

set_option maxRecDepth 100000 in
theorem new_any (w : World) : Calls Tryd.prog 7 #[] w fun e w' => e = .returned (.pointer (some ⟨w.heap.size, 0, none⟩)) ∧ SP w.heap.size none0 w' ∧ Below w.heap.size w w' := by
  have HB := hidc (show SP w.heap.size none0 (w.alloc (.cells (pc none0).toArray 50)) ∧ Below w.heap.size w (w.alloc (.cells (pc none0).toArray 50)) from
    ⟨⟨ok0, Blk.new w _ _⟩, (Below.refl _ w).alloc (Nat.le_refl _) _⟩)
  go_enter Tryd.func7, Tryd.ntmps7
  go_wp2_with fail
  go_ret
  exact ⟨rfl, HB.out⟩

set_option maxRecDepth 100000 in
set_option maxHeartbeats 2000000 in
theorem lines_any {P : Nat} {f : Nat → Nat} {w : World} (h : SP P f w) (hv : Nu.TabV w) :
    Calls Tryd.prog 11 #[.pointer (some ⟨P, 0, none⟩)] w fun e w' => ∃ B, e = .returned (.slice (some ⟨B, 0, none⟩) 18 18) ∧ w.heap.size ≤ B ∧ Blk w' B 9 ((lns f).map fun x => .string (S x)) ∧ Below w.heap.size w w' := by
  have HV : Hid (∀ W, Below w.heap.size w W → Nu.TabV W) := hidc (fun W hb => hv.below hb)
  have HP : Hid (∀ W, Below w.heap.size w W → SP P f W) := hidc (fun W hb => h.below hb)
  have HO := hidc h.1
  have b0 := Below.refl w.heap.size w
  have hL0 : Hid (∀ W, Below w.heap.size w W → Calls Tryd.prog 20 #[.string ⟨#[99, 109, 100, 95, 103, 101, 116]⟩, .int .u64 (f 0 : Int)] W fun e w' => e = .returned (.string (S (ln [99, 109, 100, 95, 103, 101, 116] (f 0)))) ∧ Below W.heap.size W w') :=
    hidc (fun W hb => line_any [99, 109, 100, 95, 103, 101, 116] (by decide) (f 0) (HO.out 0) W (HV.out W hb))
  have hL1 : Hid (∀ W, Below w.heap.size w W → Calls Tryd.prog 20 #[.string ⟨#[99, 109, 100, 95, 115, 101, 116]⟩, .int .u64 (f 1 : Int)] W fun e w' => e = .returned (.string (S (ln [99, 109, 100, 95, 115, 101, 116] (f 1)))) ∧ Below W.heap.size W w') :=
    hidc (fun W hb => line_any [99, 109, 100, 95, 115, 101, 116] (by decide) (f 1) (HO.out 1) W (HV.out W hb))
  have hL2 : Hid (∀ W, Below w.heap.size w W → Calls Tryd.prog 20 #[.string ⟨#[99, 109, 100, 95, 116, 111, 117, 99, 104]⟩, .int .u64 (f 2 : Int)] W fun e w' => e = .returned (.string (S (ln [99, 109, 100, 95, 116, 111, 117, 99, 104] (f 2)))) ∧ Below W.heap.size W w') :=
    hidc (fun W hb => line_any [99, 109, 100, 95, 116, 111, 117, 99, 104] (by decide) (f 2) (HO.out 2) W (HV.out W hb))
  have hL3 : Hid (∀ W, Below w.heap.size w W → Calls Tryd.prog 20 #[.string ⟨#[99, 109, 100, 95, 102, 108, 117, 115, 104]⟩, .int .u64 (f 3 : Int)] W fun e w' => e = .returned (.string (S (ln [99, 109, 100, 95, 102, 108, 117, 115, 104] (f 3)))) ∧ Below W.heap.size W w') :=
    hidc (fun W hb => line_any [99, 109, 100, 95, 102, 108, 117, 115, 104] (by decide) (f 3) (HO.out 3) W (HV.out W hb))
  have hL4 : Hid (∀ W, Below w.heap.size w W → Calls Tryd.prog 20 #[.string ⟨#[103, 101, 116, 95, 104, 105, 116, 115]⟩, .int .u64 (f 4 : Int)] W fun e w' => e = .returned (.string (S (ln [103, 101, 116, 95, 104, 105, 116, 115] (f 4)))) ∧ Below W.heap.size W w') :=
    hidc (fun W hb => line_any [103, 101, 116, 95, 104, 105, 116, 115] (by decide) (f 4) (HO.out 4) W (HV.out W hb))
  have hL5 : Hid (∀ W, Below w.heap.size w W → Calls Tryd.prog 20 #[.string ⟨#[103, 101, 116, 95, 109, 105, 115, 115, 101, 115]⟩, .int .u64 (f 5 : Int)] W fun e w' => e = .returned (.string (S (ln [103, 101, 116, 95, 109, 105, 115, 115, 101, 115] (f 5)))) ∧ Below W.heap.size W w') :=
    hidc (fun W hb => line_any [103, 101, 116, 95, 109, 105, 115, 115, 101, 115] (by decide) (f 5) (HO.out 5) W (HV.out W hb))
  have hL6 : Hid (∀ W, Below w.heap.size w W → Calls Tryd.prog 20 #[.string ⟨#[100, 101, 108, 101, 116, 101, 95, 104, 105, 116, 115]⟩, .int .u64 (f 6 : Int)] W fun e w' => e = .returned (.string (S (ln [100, 101, 108, 101, 116, 101, 95, 104, 105, 116, 115] (f 6)))) ∧ Below W.heap.size W w') :=
    hidc (fun W hb => line_any [100, 101, 108, 101, 116, 101, 95, 104, 105, 116, 115] (by decide) (f 6) (HO.out 6) W (HV.out W hb))
  have hL7 : Hid (∀ W, Below w.heap.size w W → Calls Tryd.prog 20 #[.string ⟨#[100, 101, 108, 101, 116, 101, 95, 109, 105, 115, 115, 101, 115]⟩, .int .u64 (f 7 : Int)] W fun e w' => e = .returned (.string (S (ln [100, 101, 108, 101, 116, 101, 95, 109, 105, 115, 115, 101, 115] (f 7)))) ∧ Below W.heap.size W w') :=
    hidc (fun W hb => line_any [100, 101, 108, 101, 116, 101, 95, 109, 105, 115, 115, 101, 115] (by decide) (f 7) (HO.out 7) W (HV.out W hb))
  have hL8 : Hid (∀ W, Below w.heap.size w W → Calls Tryd.prog 20 #[.string ⟨#[105, 110, 99, 114, 95, 104, 105, 116, 115]⟩, .int .u64 (f 8 : Int)] W fun e w' => e = .returned (.string (S (ln [105, 110, 99, 114, 95, 104, 105, 116, 115] (f 8)))) ∧ Below W.heap.size W w') :=
    hidc (fun W hb => line_any [105, 110, 99, 114, 95, 104, 105, 116, 115] (by decide) (f 8) (HO.out 8) W (HV.out W hb))
  have hL9 : Hid (∀ W, Below w.heap.size w W → Calls Tryd.prog 20 #[.string ⟨#[105, 110, 99, 114, 95, 109, 105, 115, 115, 101, 115]⟩, .int .u64 (f 9 : Int)] W fun e w' => e = .returned (.string (S (ln [105, 110, 99, 114, 95, 109, 105, 115, 115, 101, 115] (f 9)))) ∧ Below W.heap.size W w') :=
    hidc (fun W hb => line_any [105, 110, 99, 114, 95, 109, 105, 115, 115, 101, 115] (by decide) (f 9) (HO.out 9) W (HV.out W hb))
  have hL10 : Hid (∀ W, Below w.heap.size w W → Calls Tryd.prog 20 #[.string ⟨#[100, 101, 99, 114, 95, 104, 105, 116, 115]⟩, .int .u64 (f 10 : Int)] W fun e w' => e = .returned (.string (S (ln [100, 101, 99, 114, 95, 104, 105, 116, 115] (f 10)))) ∧ Below W.heap.size W w') :=
    hidc (fun W hb => line_any [100, 101, 99, 114, 95, 104, 105, 116, 115] (by decide) (f 10) (HO.out 10) W (HV.out W hb))
  have hL11 : Hid (∀ W, Below w.heap.size w W → Calls Tryd.prog 20 #[.string ⟨#[100, 101, 99, 114, 95, 109, 105, 115, 115, 101, 115]⟩, .int .u64 (f 11 : Int)] W fun e w' => e = .returned (.string (S (ln [100, 101, 99, 114, 95, 109, 105, 115, 115, 101, 115] (f 11)))) ∧ Below W.heap.size W w') :=
    hidc (fun W hb => line_any [100, 101, 99, 114, 95, 109, 105, 115, 115, 101, 115] (by decide) (f 11) (HO.out 11) W (HV.out W hb))
  have hL12 : Hid (∀ W, Below w.heap.size w W → Calls Tryd.prog 20 #[.string ⟨#[99, 97, 115, 95, 104, 105, 116, 115]⟩, .int .u64 (f 12 : Int)] W fun e w' => e = .returned (.string (S (ln [99, 97, 115, 95, 104, 105, 116, 115] (f 12)))) ∧ Below W.heap.size W w') :=
    hidc (fun W hb => line_any [99, 97, 115, 95, 104, 105, 116, 115] (by decide) (f 12) (HO.out 12) W (HV.out W hb))
  have hL13 : Hid (∀ W, Below w.heap.size w W → Calls Tryd.prog 20 #[.string ⟨#[99, 97, 115, 95, 98, 97, 100, 118, 97, 108]⟩, .int .u64 (f 13 : Int)] W fun e w' => e = .returned (.string (S (ln [99, 97, 115, 95, 98, 97, 100, 118, 97, 108] (f 13)))) ∧ Below W.heap.size W w') :=
    hidc (fun W hb => line_any [99, 97, 115, 95, 98, 97, 100, 118, 97, 108] (by decide) (f 13) (HO.out 13) W (HV.out W hb))
  have hL14 : Hid (∀ W, Below w.heap.size w W → Calls Tryd.prog 20 #[.string ⟨#[99, 97, 115, 95, 109, 105, 115, 115, 101, 115]⟩, .int .u64 (f 14 : Int)] W fun e w' => e = .returned (.string (S (ln [99, 97, 115, 95, 109, 105, 115, 115, 101, 115] (f 14)))) ∧ Below W.heap.size W w') :=
    hidc (fun W hb => line_any [99, 97, 115, 95, 109, 105, 115, 115, 101, 115] (by decide) (f 14) (HO.out 14) W (HV.out W hb))
  have hL15 : Hid (∀ W, Below w.heap.size w W → Calls Tryd.prog 20 #[.string ⟨#[116, 111, 117, 99, 104, 95, 104, 105, 116, 115]⟩, .int .u64 (f 15 : Int)] W fun e w' => e = .returned (.string (S (ln [116, 111, 117, 99, 104, 95, 104, 105, 116, 115] (f 15)))) ∧ Below W.heap.size W w') :=
    hidc (fun W hb => line_any [116, 111, 117, 99, 104, 95, 104, 105, 116, 115] (by decide) (f 15) (HO.out 15) W (HV.out W hb))
  have hL16 : Hid (∀ W, Below w.heap.size w W → Calls Tryd.prog 20 #[.string ⟨#[116, 111, 117, 99, 104, 95, 109, 105, 115, 115, 101, 115]⟩, .int .u64 (f 16 : Int)] W fun e w' => e = .returned (.string (S (ln [116, 111, 117, 99, 104, 95, 109, 105, 115, 115, 101, 115] (f 16)))) ∧ Below W.heap.size W w') :=
    hidc (fun W hb => line_any [116, 111, 117, 99, 104, 95, 109, 105, 115, 115, 101, 115] (by decide) (f 16) (HO.out 16) W (HV.out W hb))
  have hL17 : Hid (∀ W, Below w.heap.size w W → Calls Tryd.prog 20 #[.string ⟨#[101, 118, 105, 99, 116, 105, 111, 110, 115]⟩, .int .u64 (f 17 : Int)] W fun e w' => e = .returned (.string (S (ln [101, 118, 105, 99, 116, 105, 111, 110, 115] (f 17)))) ∧ Below W.heap.size W w') :=
    hidc (fun W hb => line_any [101, 118, 105, 99, 116, 105, 111, 110, 115] (by decide) (f 17) (HO.out 17) W (HV.out W hb))
  have HE : Hid (∀ W, Below w.heap.size w W → ∀ W2, W.alloc (.cells #[.string (S (ln [99, 109, 100, 95, 103, 101, 116] (f 0))), .string (S (ln [99, 109, 100, 95, 115, 101, 116] (f 1))), .string (S (ln [99, 109, 100, 95, 116, 111, 117, 99, 104] (f 2))), .string (S (ln [99, 109, 100, 95, 102, 108, 117, 115, 104] (f 3))), .string (S (ln [103, 101, 116, 95, 104, 105, 116, 115] (f 4))), .string (S (ln [103, 101, 116, 95, 109, 105, 115, 115, 101, 115] (f 5))), .string (S (ln [100, 101, 108, 101, 116, 101, 95, 104, 105, 116, 115] (f 6))), .string (S (ln [100, 101, 108, 101, 116, 101, 95, 109, 105, 115, 115, 101, 115] (f 7))), .string (S (ln [105, 110, 99, 114, 95, 104, 105, 116, 115] (f 8))), .string (S (ln [105, 110, 99, 114, 95, 109, 105, 115, 115, 101, 115] (f 9))), .string (S (ln [100, 101, 99, 114, 95, 104, 105, 116, 115] (f 10))), .string (S (ln [100, 101, 99, 114, 95, 109, 105, 115, 115, 101, 115] (f 11))), .string (S (ln [99, 97, 115, 95, 104, 105, 116, 115] (f 12))), .string (S (ln [99, 97, 115, 95, 98, 97, 100, 118, 97, 108] (f 13))), .string (S (ln [99, 97, 115, 95, 109, 105, 115, 115, 101, 115] (f 14))), .string (S (ln [116, 111, 117, 99, 104, 95, 104, 105, 116, 115] (f 15))), .string (S (ln [116, 111, 117, 99, 104, 95, 109, 105, 115, 115, 101, 115] (f 16))), .string (S (ln [101, 118, 105, 99, 116, 105, 111, 110, 115] (f 17)))] 9) = W2 → w.heap.size ≤ W.heap.size ∧ Blk W2 W.heap.size 9 ((lns f).map fun x => .string (S x)) ∧ Below w.heap.size w W2) := hidc (by
    rintro W hb W2 rfl
    exact ⟨hb.size, Blk.new W _ _, hb.alloc hb.size _⟩)
  have c0 := cell_regrown (h.cell (j := 0) (i := 0) rfl)
  have cL0 : ∀ d os, Calls Tryd.prog 20 #[.string ⟨#[99, 109, 100, 95, 103, 101, 116]⟩, .int .u64 (f 0 : Int)] (Sort.grow (redrawn w d) os) fun e w'' => e = .returned (.string (S (ln [99, 109, 100, 95, 103, 101, 116] (f 0)))) ∧ ∃ p : Regrown, w'' = Sort.grow (redrawn w p.d) p.os := fun d os => Calls.regrown_of (hL0.out _ (below_regrown w d os))
  clear hL0
  have c1 := cell_regrown (h.cell (j := 1) (i := 1) rfl)
  have cL1 : ∀ d os, Calls Tryd.prog 20 #[.string ⟨#[99, 109, 100, 95, 115, 101, 116]⟩, .int .u64 (f 1 : Int)] (Sort.grow (redrawn w d) os) fun e w'' => e = .returned (.string (S (ln [99, 109, 100, 95, 115, 101, 116] (f 1)))) ∧ ∃ p : Regrown, w'' = Sort.grow (redrawn w p.d) p.os := fun d os => Calls.regrown_of (hL1.out _ (below_regrown w d os))
  clear hL1
  have c2 := cell_regrown (h.cell (j := 2) (i := 2) rfl)
  have cL2 : ∀ d os, Calls Tryd.prog 20 #[.string ⟨#[99, 109, 100, 95, 116, 111, 117, 99, 104]⟩, .int .u64 (f 2 : Int)] (Sort.grow (redrawn w d) os) fun e w'' => e = .returned (.string (S (ln [99, 109, 100, 95, 116, 111, 117, 99, 104] (f 2)))) ∧ ∃ p : Regrown, w'' = Sort.grow (redrawn w p.d) p.os := fun d os => Calls.regrown_of (hL2.out _ (below_regrown w d os))
  clear hL2
  have c3 := cell_regrown (h.cell (j := 3) (i := 3) rfl)
  have cL3 : ∀ d os, Calls Tryd.prog 20 #[.string ⟨#[99, 109, 100, 95, 102, 108, 117, 115, 104]⟩, .int .u64 (f 3 : Int)] (Sort.grow (redrawn w d) os) fun e w'' => e = .returned (.string (S (ln [99, 109, 100, 95, 102, 108, 117, 115, 104] (f 3)))) ∧ ∃ p : Regrown, w'' = Sort.grow (redrawn w p.d) p.os := fun d os => Calls.regrown_of (hL3.out _ (below_regrown w d os))
  clear hL3
  have c4 := cell_regrown (h.cell (j := 4) (i := 4) rfl)
  have cL4 : ∀ d os, Calls Tryd.prog 20 #[.string ⟨#[103, 101, 116, 95, 104, 105, 116, 115]⟩, .int .u64 (f 4 : Int)] (Sort.grow (redrawn w d) os) fun e w'' => e = .returned (.string (S (ln [103, 101, 116, 95, 104, 105, 116, 115] (f 4)))) ∧ ∃ p : Regrown, w'' = Sort.grow (redrawn w p.d) p.os := fun d os => Calls.regrown_of (hL4.out _ (below_regrown w d os))
  clear hL4
  have c5 := cell_regrown (h.cell (j := 5) (i := 5) rfl)
  have cL5 : ∀ d os, Calls Tryd.prog 20 #[.string ⟨#[103, 101, 116, 95, 109, 105, 115, 115, 101, 115]⟩, .int .u64 (f 5 : Int)] (Sort.grow (redrawn w d) os) fun e w'' => e = .returned (.string (S (ln [103, 101, 116, 95, 109, 105, 115, 115, 101, 115] (f 5)))) ∧ ∃ p : Regrown, w'' = Sort.grow (redrawn w p.d) p.os := fun d os => Calls.regrown_of (hL5.out _ (below_regrown w d os))
  clear hL5
  have c6 := cell_regrown (h.cell (j := 6) (i := 6) rfl)
  have cL6 : ∀ d os, Calls Tryd.prog 20 #[.string ⟨#[100, 101, 108, 101, 116, 101, 95, 104, 105, 116, 115]⟩, .int .u64 (f 6 : Int)] (Sort.grow (redrawn w d) os) fun e w'' => e = .returned (.string (S (ln [100, 101, 108, 101, 116, 101, 95, 104, 105, 116, 115] (f 6)))) ∧ ∃ p : Regrown, w'' = Sort.grow (redrawn w p.d) p.os := fun d os => Calls.regrown_of (hL6.out _ (below_regrown w d os))
  clear hL6
  have c7 := cell_regrown (h.cell (j := 7) (i := 7) rfl)
  have cL7 : ∀ d os, Calls Tryd.prog 20 #[.string ⟨#[100, 101, 108, 101, 116, 101, 95, 109, 105, 115, 115, 101, 115]⟩, .int .u64 (f 7 : Int)] (Sort.grow (redrawn w d) os) fun e w'' => e = .returned (.string (S (ln [100, 101, 108, 101, 116, 101, 95, 109, 105, 115, 115, 101, 115] (f 7)))) ∧ ∃ p : Regrown, w'' = Sort.grow (redrawn w p.d) p.os := fun d os => Calls.regrown_of (hL7.out _ (below_regrown w d os))
  clear hL7
  have c8 := cell_regrown (h.cell (j := 8) (i := 8) rfl)
  have cL8 : ∀ d os, Calls Tryd.prog 20 #[.string ⟨#[105, 110, 99, 114, 95, 104, 105, 116, 115]⟩, .int .u64 (f 8 : Int)] (Sort.grow (redrawn w d) os) fun e w'' => e = .returned (.string (S (ln [105, 110, 99, 114, 95, 104, 105, 116, 115] (f 8)))) ∧ ∃ p : Regrown, w'' = Sort.grow (redrawn w p.d) p.os := fun d os => Calls.regrown_of (hL8.out _ (below_regrown w d os))
  clear hL8
  have c9 := cell_regrown (h.cell (j := 9) (i := 9) rfl)
  have cL9 : ∀ d os, Calls Tryd.prog 20 #[.string ⟨#[105, 110, 99, 114, 95, 109, 105, 115, 115, 101, 115]⟩, .int .u64 (f 9 : Int)] (Sort.grow (redrawn w d) os) fun e w'' => e = .returned (.string (S (ln [105, 110, 99, 114, 95, 109, 105, 115, 115, 101, 115] (f 9)))) ∧ ∃ p : Regrown, w'' = Sort.grow (redrawn w p.d) p.os := fun d os => Calls.regrown_of (hL9.out _ (below_regrown w d os))
  clear hL9
  have c10 := cell_regrown (h.cell (j := 10) (i := 10) rfl)
  have cL10 : ∀ d os, Calls Tryd.prog 20 #[.string ⟨#[100, 101, 99, 114, 95, 104, 105, 116, 115]⟩, .int .u64 (f 10 : Int)] (Sort.grow (redrawn w d) os) fun e w'' => e = .returned (.string (S (ln [100, 101, 99, 114, 95, 104, 105, 116, 115] (f 10)))) ∧ ∃ p : Regrown, w'' = Sort.grow (redrawn w p.d) p.os := fun d os => Calls.regrown_of (hL10.out _ (below_regrown w d os))
  clear hL10
  have c11 := cell_regrown (h.cell (j := 11) (i := 11) rfl)
  have cL11 : ∀ d os, Calls Tryd.prog 20 #[.string ⟨#[100, 101, 99, 114, 95, 109, 105, 115, 115, 101, 115]⟩, .int .u64 (f 11 : Int)] (Sort.grow (redrawn w d) os) fun e w'' => e = .returned (.string (S (ln [100, 101, 99, 114, 95, 109, 105, 115, 115, 101, 115] (f 11)))) ∧ ∃ p : Regrown, w'' = Sort.grow (redrawn w p.d) p.os := fun d os => Calls.regrown_of (hL11.out _ (below_regrown w d os))
  clear hL11
  have c12 := cell_regrown (h.cell (j := 12) (i := 12) rfl)
  have cL12 : ∀ d os, Calls Tryd.prog 20 #[.string ⟨#[99, 97, 115, 95, 104, 105, 116, 115]⟩, .int .u64 (f 12 : Int)] (Sort.grow (redrawn w d) os) fun e w'' => e = .returned (.string (S (ln [99, 97, 115, 95, 104, 105, 116, 115] (f 12)))) ∧ ∃ p : Regrown, w'' = Sort.grow (redrawn w p.d) p.os := fun d os => Calls.regrown_of (hL12.out _ (below_regrown w d os))
  clear hL12
  have c13 := cell_regrown (h.cell (j := 16) (i := 13) rfl)
  have cL13 : ∀ d os, Calls Tryd.prog 20 #[.string ⟨#[99, 97, 115, 95, 98, 97, 100, 118, 97, 108]⟩, .int .u64 (f 13 : Int)] (Sort.grow (redrawn w d) os) fun e w'' => e = .returned (.string (S (ln [99, 97, 115, 95, 98, 97, 100, 118, 97, 108] (f 13)))) ∧ ∃ p : Regrown, w'' = Sort.grow (redrawn w p.d) p.os := fun d os => Calls.regrown_of (hL13.out _ (below_regrown w d os))
  clear hL13
  have c14 := cell_regrown (h.cell (j := 13) (i := 14) rfl)
  have cL14 : ∀ d os, Calls Tryd.prog 20 #[.string ⟨#[99, 97, 115, 95, 109, 105, 115, 115, 101, 115]⟩, .int .u64 (f 14 : Int)] (Sort.grow (redrawn w d) os) fun e w'' => e = .returned (.string (S (ln [99, 97, 115, 95, 109, 105, 115, 115, 101, 115] (f 14)))) ∧ ∃ p : Regrown, w'' = Sort.grow (redrawn w p.d) p.os := fun d os => Calls.regrown_of (hL14.out _ (below_regrown w d os))
  clear hL14
  have c15 := cell_regrown (h.cell (j := 14) (i := 15) rfl)
  have cL15 : ∀ d os, Calls Tryd.prog 20 #[.string ⟨#[116, 111, 117, 99, 104, 95, 104, 105, 116, 115]⟩, .int .u64 (f 15 : Int)] (Sort.grow (redrawn w d) os) fun e w'' => e = .returned (.string (S (ln [116, 111, 117, 99, 104, 95, 104, 105, 116, 115] (f 15)))) ∧ ∃ p : Regrown, w'' = Sort.grow (redrawn w p.d) p.os := fun d os => Calls.regrown_of (hL15.out _ (below_regrown w d os))
  clear hL15
  have c16 := cell_regrown (h.cell (j := 15) (i := 16) rfl)
  have cL16 : ∀ d os, Calls Tryd.prog 20 #[.string ⟨#[116, 111, 117, 99, 104, 95, 109, 105, 115, 115, 101, 115]⟩, .int .u64 (f 16 : Int)] (Sort.grow (redrawn w d) os) fun e w'' => e = .returned (.string (S (ln [116, 111, 117, 99, 104, 95, 109, 105, 115, 115, 101, 115] (f 16)))) ∧ ∃ p : Regrown, w'' = Sort.grow (redrawn w p.d) p.os := fun d os => Calls.regrown_of (hL16.out _ (below_regrown w d os))
  clear hL16
  have c17 := cell_regrown (h.cell (j := 17) (i := 17) rfl)
  have cL17 : ∀ d os, Calls Tryd.prog 20 #[.string ⟨#[101, 118, 105, 99, 116, 105, 111, 110, 115]⟩, .int .u64 (f 17 : Int)] (Sort.grow (redrawn w d) os) fun e w'' => e = .returned (.string (S (ln [101, 118, 105, 99, 116, 105, 111, 110, 115] (f 17)))) ∧ ∃ p : Regrown, w'' = Sort.grow (redrawn w p.d) p.os := fun d os => Calls.regrown_of (hL17.out _ (below_regrown w d os))
  clear hL17
  clear h hv HV HP HO b0
  generalize S (ln [99, 109, 100, 95, 103, 101, 116] (f 0)) = x0 at *
  generalize S (ln [99, 109, 100, 95, 115, 101, 116] (f 1)) = x1 at *
  generalize S (ln [99, 109, 100, 95, 116, 111, 117, 99, 104] (f 2)) = x2 at *
  generalize S (ln [99, 109, 100, 95, 102, 108, 117, 115, 104] (f 3)) = x3 at *
  generalize S (ln [103, 101, 116, 95, 104, 105, 116, 115] (f 4)) = x4 at *
  generalize S (ln [103, 101, 116, 95, 109, 105, 115, 115, 101, 115] (f 5)) = x5 at *
  generalize S (ln [100, 101, 108, 101, 116, 101, 95, 104, 105, 116, 115] (f 6)) = x6 at *
  generalize S (ln [100, 101, 108, 101, 116, 101, 95, 109, 105, 115, 115, 101, 115] (f 7)) = x7 at *
  generalize S (ln [105, 110, 99, 114, 95, 104, 105, 116, 115] (f 8)) = x8 at *
  generalize S (ln [105, 110, 99, 114, 95, 109, 105, 115, 115, 101, 115] (f 9)) = x9 at *
  generalize S (ln [100, 101, 99, 114, 95, 104, 105, 116, 115] (f 10)) = x10 at *
  generalize S (ln [100, 101, 99, 114, 95, 109, 105, 115, 115, 101, 115] (f 11)) = x11 at *
  generalize S (ln [99, 97, 115, 95, 104, 105, 116, 115] (f 12)) = x12 at *
  generalize S (ln [99, 97, 115, 95, 98, 97, 100, 118, 97, 108] (f 13)) = x13 at *
  generalize S (ln [99, 97, 115, 95, 109, 105, 115, 115, 101, 115] (f 14)) = x14 at *
  generalize S (ln [116, 111, 117, 99, 104, 95, 104, 105, 116, 115] (f 15)) = x15 at *
  generalize S (ln [116, 111, 117, 99, 104, 95, 109, 105, 115, 115, 101, 115] (f 16)) = x16 at *
  generalize S (ln [101, 118, 105, 99, 116, 105, 111, 110, 115] (f 17)) = x17 at *
  go_enter Tryd.func11, Tryd.ntmps11
  go_wp2_with fail
  refine region_own 102 (by kernel_rfl) (by kernel_rfl) ?_
  simp only [List.append_eq, List.cons_append, List.nil_append, List.take_succ_cons, List.take_zero, List.drop_succ_cons, List.drop_zero]
  iterate 4 (quiet_step (fail))
  quiet_step (exact cL0 _ _)
  clear cL0 c0
  iterate 4 (quiet_step (fail))
  quiet_step (exact cL1 _ _)
  clear cL1 c1
  iterate 4 (quiet_step (fail))
  quiet_step (exact cL2 _ _)
  clear cL2 c2
  iterate 4 (quiet_step (fail))
  quiet_step (exact cL3 _ _)
  clear cL3 c3
  iterate 5 (quiet_step (fail))
  quiet_step (exact cL4 _ _)
  clear cL4 c4
  iterate 5 (quiet_step (fail))
  quiet_step (exact cL5 _ _)
  clear cL5 c5
  iterate 5 (quiet_step (fail))
  quiet_step (exact cL6 _ _)
  clear cL6 c6
  iterate 5 (quiet_step (fail))
  quiet_step (exact cL7 _ _)
  clear cL7 c7
  iterate 5 (quiet_step (fail))
  quiet_step (exact cL8 _ _)
  clear cL8 c8
  iterate 5 (quiet_step (fail))
  quiet_step (exact cL9 _ _)
  clear cL9 c9
  iterate 5 (quiet_step (fail))
  quiet_step (exact cL10 _ _)
  clear cL10 c10
  iterate 5 (quiet_step (fail))
  quiet_step (exact cL11 _ _)
  clear cL11 c11
  iterate 5 (quiet_step (fail))
  quiet_step (exact cL12 _ _)
  clear cL12 c12
  iterate 4 (quiet_step (fail))
  quiet_step (exact cL13 _ _)
  clear cL13 c13
  iterate 5 (quiet_step (fail))
  quiet_step (exact cL14 _ _)
  clear cL14 c14
  iterate 5 (quiet_step (fail))
  quiet_step (exact cL15 _ _)
  clear cL15 c15
  iterate 5 (quiet_step (fail))
  quiet_step (exact cL16 _ _)
  clear cL16 c16
  iterate 4 (quiet_step (fail))
  quiet_step (exact cL17 _ _)
  clear cL17 c17
  refine wpQuiet_nil ?_
  intro _ hw'
  obtain ⟨⟨dq, osq⟩, hw''⟩ := hw'
  subst hw''
  have HF := HE.out _ (below_regrown w dq osq)
  clear HE
  generalize Sort.grow (redrawn w dq) osq = W at *
  go_wp2_with fail
  go_ret
  exact ⟨_, rfl, HF _ rfl⟩

set_option maxRecDepth 100000 in
set_option maxHeartbeats 2000000 in
theorem reset_any {P : Nat} {f : Nat → Nat} {w : World} (h : SP P f w) :
    Calls Tryd.prog 10 #[.pointer (some ⟨P, 0, none⟩)] w fun e w' => e = .returned (.tuple #[]) ∧ SP P none0 w' ∧ Only (fun b => b = P) w w' := by
  have ht := zeros_there h.2 rfl
  have hi : (Tryd.prog.info? 50).map (·.size) = some zeros.toArray.size := by kernel_rfl
  have HB := hidc (show SP P none0 _ ∧ Only (fun b => b = P) w _ from ⟨⟨ok0, (zeros_set h.2 rfl).1⟩, (zeros_set h.2 rfl).2⟩)
  clear h
  go_enter Tryd.func10, Tryd.ntmps10
  go_wp2_with (refine wpList_store_mid rfl _ _ _ rfl P 0 zeros.toArray rfl rfl ht hi zeros_one ?_)
  go_end0
  exact ⟨rfl, HB.out⟩
end Go.Proofs.YtfoggbgemdlhbaaDoor.Sc
