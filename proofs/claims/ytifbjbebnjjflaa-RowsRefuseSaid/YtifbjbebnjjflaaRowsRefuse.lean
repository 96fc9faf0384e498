/-
  What may not be changes nothing: the statement, walked. No conditions.
-/
import Derived.Test.YtifbjbebnjjflaaRowsKit
namespace Go.Proofs.Ytifbjbebnjjflaa
open Go Go.RowKit Go.Lib

set_option maxRecDepth 100000 in
set_option maxHeartbeats 2000000 in
theorem refuse_law (a : Option Addr) (n c0 : Nat) (zs : List Int) (r : Int) (_r1 : -9223372036854775808 ≤ r) (_r2 : r ≤ 9223372036854775807) (z : Int) (z1 : -9223372036854775808 ≤ z) (z2 : z ≤ 9223372036854775807) (w : World) (hx : Nums w a n zs) :
    Calls Try.prog 7 #[.slice a n c0, .int .i64 r, .int .i64 z] w fun e w' => e = .returned (.bool true) ∧ Below w.heap.size w w' := by
  have hZ : Hid (i64ok z) := hid ⟨z1, z2⟩
  have hX := hid hx
  have hn := hx.1
  clear z1 z2 hx
  go_enter Try.func7, Try.ntmps7
  go_wp2_with fail
  refine (shown_any w).mono ?_
  rintro e w1 ⟨rfl, b1⟩
  go_wp2_with fail
  refine (has_new 2 (by decide) (by decide) w1).mono ?_
  rintro e w2 ⟨P, rfl, hT⟩
  have HT := hid hT
  clear hT
  go_wp2_with fail
  go_loopw [9] (fun p wr => ∃ (i : Nat) (L : List (List Int)), p = .int .i64 i ∧ i ≤ 40 ∧ i ≤ n ∧ Hid (L.length = 2) ∧ Hid (HasR w1 P L (fun _ => False) wr)) (fun p _ => 40 - (RowKit.intOf p).toNat)
  case atStart => exact ⟨0, _, rfl, Nat.zero_le _, Nat.zero_le _, hid rfl, HT⟩
  case round =>
    obtain ⟨i, L, rfl, hi, hin, hL, hTr⟩ := hrel
    clear HT
    by_cases hlt : i < n ∧ i < 40
    · obtain ⟨l1, l2⟩ := hlt
      obtain ⟨x, hxi⟩ : ∃ x, zs[i]? = some x := ⟨_, List.getElem?_eq_getElem (by rw [hn]; exact l1)⟩
      obtain ⟨B, o, rfl, hB, hc⟩ := hX.out.2 i x hxi
      have hcw := ((Below.then b1 hTr.out.below).cell (p := ⟨B, o + i, none⟩) hB).trans hc
      obtain ⟨m, hm, hm2⟩ : ∃ m : Nat, bits .and .i64 x 1023 = (m : Int) ∧ m < 1024 := ⟨(x % 1024).toNat, by rw [i64_and1023]; omega, by omega⟩
      obtain ⟨q, hq, hq2⟩ : ∃ q : Nat, bits .and .i64 (i : Int) 1 = (q : Int) ∧ q < 2 := ⟨((i : Int) % 2).toNat, by rw [i64_and1]; omega, by omega⟩
      have hb := has_back hTr.out (q : Int) (m : Int) (by unfold i64ok; omega)
      have hL2 : Hid ((opBack L (q : Int) (m : Int)).length = 2) := hid (by rw [opBack_len]; exact hL.out)
      clear hxi hc hTr
      go_wp2_with fail
      refine hb.mono ?_
      rintro e w5 ⟨rfl, h5, -⟩
      have H5 := hid h5
      clear h5 hb
      go_wp2_with fail
      go_roundw
      case rel => exact ⟨i + 1, _, by go_num, by omega, by omega, hL2, H5⟩
      case measure => simp [RowKit.intOf] <;> omega
    · have hstop : (n : Int) ≤ (i : Int) ∨ ((i : Int) < (n : Int) ∧ (40 : Int) ≤ (i : Int)) := by omega
      clear hlt
      by_cases hm : May L.length r z
      · have hf := has_front hTr.out r z hZ.out
        rw [decide_eq_true hm] at hf
        have hff := hid (first_front hm)
        have hm2 : May (opFront L r z).length r z := by rw [opFront_len]; exact hm
        have hbl := hid (last_back hm2)
        have hm3 := hm
        rw [hL.out] at hm3
        obtain ⟨m1, m2, m3, m4⟩ := hm3
        replace m2 : r < 2 := m2
        have hlb := fun w5 (h : HasR w1 P (opFront L r z) (fun _ => False) w5) => has_back h r z hZ.out
        rw [decide_eq_true hm2] at hlb
        clear hm hm2
        have hHb := hid b1
        rcases hstop with h0 | ⟨h0, h0'⟩
        all_goals
          go_wp2_with fail
          refine hf.mono ?_
          rintro e w5 ⟨rfl, h5, -⟩
          have hfi := has_first h5 r
          rw [hff.out] at hfi
          have hba := hlb w5 h5
          clear h5
          go_wp2_with fail
          refine hfi.mono ?_
          rintro e w6 ⟨rfl, rfl⟩
          clear hfi
          go_wp2_with fail
          refine hba.mono ?_
          rintro e w6 ⟨rfl, h6, -⟩
          have hla := has_last h6 r
          rw [hbl.out] at hla
          have H6 := hid h6
          clear h6 hba
          go_wp2_with fail
          refine hla.mono ?_
          rintro e w7 ⟨rfl, rfl⟩
          clear hla
          go_wp2_with fail
          go_ret
          exact ⟨rfl, Below.then hHb.out H6.out.below⟩
      · have hf := has_front hTr.out r z hZ.out
        rw [decide_eq_false hm, opFront_no hm] at hf
        have hb := fun w5 (h : HasR w1 P L (fun _ => False) w5) => has_back h r z hZ.out
        rw [decide_eq_false hm, opBack_no hm] at hb
        have hl0 := fun w5 (h : HasR w1 P L (fun _ => False) w5) => has_len h 0
        have hl1 := fun w5 (h : HasR w1 P L (fun _ => False) w5) => has_len h 1
        have hro := fun w5 (h : HasR w1 P L (fun _ => False) w5) => has_row h z hZ.out
        have hm3 := hm
        rw [hL.out] at hm3
        unfold May at hm3
        have hcase : r < 0 ∨ (0 ≤ r ∧ 2 ≤ r) ∨ (0 ≤ r ∧ r < 2 ∧ z < 0) ∨ (0 ≤ r ∧ r < 2 ∧ 0 ≤ z ∧ 4194303 < z) := by omega
        generalize (rowAt L 0).length = A at *
        generalize (rowAt L 1).length = C at *
        generalize rv (rowOf L z) = V at *
        have HLB := hid hb
        have HL0 := hid hl0
        have HL1 := hid hl1
        have HRO := hid hro
        clear hm hm3 hb hl0 hl1 hro
        rcases hstop with h0 | ⟨h0, h0'⟩
        all_goals
          rcases hcase with e1 | ⟨e1, e2⟩ | ⟨e1, e2, e3⟩ | ⟨e1, e2, e3, e4⟩
        all_goals
          go_wp2_with fail
          refine (HL0.out _ hTr.out).mono ?_
          rintro e w5 ⟨rfl, rfl⟩
          go_wp2_with fail
          refine (HL1.out _ hTr.out).mono ?_
          rintro e w5 ⟨rfl, rfl⟩
          go_wp2_with fail
          refine (HRO.out _ hTr.out).mono ?_
          rintro e w5 ⟨rfl, rfl⟩
          go_wp2_with fail
          refine hf.mono ?_
          rintro e w5 ⟨rfl, h5, -⟩
          have H5 := hid h5
          clear h5 hf
          go_wp2_with fail
          refine (HLB.out _ H5.out).mono ?_
          rintro e w6 ⟨rfl, h6, -⟩
          have H6 := hid h6
          clear h6
          go_wp2_with fail
          refine (HL0.out _ H6.out).mono ?_
          rintro e w7 ⟨rfl, rfl⟩
          go_wp2_with fail
          refine (HL1.out _ H6.out).mono ?_
          rintro e w7 ⟨rfl, rfl⟩
          go_wp2_with fail
          refine (HRO.out _ H6.out).mono ?_
          rintro e w7 ⟨rfl, rfl⟩
          go_wp2_with fail
          go_ret
          exact ⟨rfl, Below.then b1 H6.out.below⟩
end Go.Proofs.Ytifbjbebnjjflaa
