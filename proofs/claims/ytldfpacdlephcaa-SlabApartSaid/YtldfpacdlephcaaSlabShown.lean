/-
  The laws' common head (shown) at this program. No conditions.
-/
import Derived.Test.YtldfpacdlephcaaSlabHas
namespace Go.Proofs.Ytldfpacdlephcaa
open Go Go.RowKit Go.Lib

theorem blk_ints {w : World} {b : Nat} {zs : List Int} (h : Blk w b 3 (ic zs)) : Sz.Ints w (.slice (some ⟨b, 0, none⟩) zs.length zs.length) zs :=
  ⟨some ⟨b, 0, none⟩, zs.length, rfl, fun j z hj => ⟨b, 0, rfl, h.lt, by rw [Nat.zero_add]; exact h.cell (ic_at hj)⟩⟩

set_option maxHeartbeats 2000000 in
set_option maxRecDepth 100000 in
theorem shown_any (w : World) : Calls Try.prog 8 #[] w fun e w' => e = .returned (.bool true) ∧ Below w.heap.size w w' := by
  have b0 : Below w.heap.size w (w.alloc (.cells #[.int .i64 64, .int .i64 512] 3)) := (Below.refl _ w).alloc (Nat.le_refl _) _
  have hm := made_ok 2 (by omega) (by omega) ⟨w.heap.size, 0, none⟩ 2 2 [64, 512] rfl (by omega) (by omega) (by decide) (w.alloc (.cells #[.int .i64 64, .int .i64 512] 3)) (blk_ints (zs := [64, 512]) (Blk.new w #[.int .i64 64, .int .i64 512] 3))
  have HB0 := hid b0
  clear b0
  go_enter Try.func8, Try.ntmps8
  go_wp2_with fail
  refine hm.mono ?_
  rintro e w1 ⟨P, rfl, h⟩
  have H1 : Hid (Has w P sh0 w1) := hid (h.since HB0.out)
  clear hm h HB0
  have hc := has_alloc H1.out 0
  rw [e1.1, e1.2] at hc
  clear H1
  go_wp2_with fail
  refine hc.mono ?_
  rintro e w2 ⟨rfl, h⟩
  have H2 : Hid (Has w P sh1 w2) := hid h
  clear hc h
  have hc := has_alloc H2.out 0
  rw [e2.1, e2.2] at hc
  clear H2
  go_wp2_with fail
  refine hc.mono ?_
  rintro e w3 ⟨rfl, h⟩
  have H3 : Hid (Has w P sh2 w3) := hid h
  clear hc h
  have hc := has_alloc H3.out 1
  rw [e3.1, e3.2] at hc
  clear H3
  go_wp2_with fail
  refine hc.mono ?_
  rintro e w4 ⟨rfl, h⟩
  have H4 : Hid (Has w P sh3 w4) := hid h
  clear hc h
  have hc := has_alloc H4.out 1
  rw [e4.1, e4.2] at hc
  clear H4
  go_wp2_with fail
  refine hc.mono ?_
  rintro e w5 ⟨rfl, h⟩
  have H5 : Hid (Has w P sh4 w5) := hid h
  clear hc h
  have hc := has_close H5.out 0
  rw [e5] at hc
  clear H5
  go_wp2_with fail
  refine hc.mono ?_
  rintro e w6 ⟨rfl, h⟩
  have H6 : Hid (Has w P sh5 w6) := hid h
  clear hc h
  have hc := has_move H6.out 0 1
  rw [e6] at hc
  clear H6
  go_wp2_with fail
  refine hc.mono ?_
  rintro e w7 ⟨rfl, h⟩
  have H7 : Hid (Has w P sh6 w7) := hid h
  clear hc h
  have hc := has_free H7.out 0 (by omega)
  clear H7
  go_wp2_with fail
  refine hc.mono ?_
  rintro e w8 ⟨rfl, h⟩
  have H8 : Hid (Has w P sh7 w8) := hid h
  clear hc h
  have hc := has_free H8.out 1 (by omega)
  clear H8
  go_wp2_with fail
  refine hc.mono ?_
  rintro e w9 ⟨rfl, h⟩
  have H9 : Hid (Has w P sh8 w9) := hid h
  clear hc h
  have hc := has_move H9.out 0 1
  rw [e9] at hc
  clear H9
  go_wp2_with fail
  refine hc.mono ?_
  rintro e w10 ⟨rfl, h⟩
  have H10 : Hid (Has w P sh9 w10) := hid h
  clear hc h
  have hc := has_alloc H10.out 1
  rw [e10.1, e10.2] at hc
  clear H10
  go_wp2_with fail
  refine hc.mono ?_
  rintro e w11 ⟨rfl, h⟩
  have hb := h.2.1
  clear hc h
  go_wp2_with fail
  go_ret
  exact ⟨rfl, hb⟩
end Go.Proofs.Ytldfpacdlephcaa
