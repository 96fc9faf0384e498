/-
  Who comes again is the newest: the statement, walked. No conditions.
-/
import Derived.Test.YtidcablgdbnddaaGhostKit
namespace Go.Proofs.Ytidcablgdbnddaa
open Go Go.RowKit Go.Lib

set_option maxRecDepth 100000 in
set_option maxHeartbeats 2000000 in
theorem again_law (a : Option Addr) (n c0 : Nat) (zs : List Int) (h : Nat) (hh : (h : Int) ≤ 18446744073709551615) (w : World) (hx : Nums w a n zs) :
    Calls Try.prog 5 #[.slice a n c0, .int .u64 h] w fun e w' => e = .returned (.bool true) ∧ Below w.heap.size w w' := by
  obtain ⟨z, hz⟩ : ∃ z : Int, z = h := ⟨_, rfl⟩
  have hZ : Hid (u64ok z) := hid ⟨by omega, by omega⟩
  rw [← hz]
  have hX := hid hx
  have hn := hx.1
  clear hx hz hh
  go_enter Try.func5, Try.ntmps5
  go_wp2_with fail
  refine (shown_any w).mono ?_
  rintro e w1 ⟨rfl, b1⟩
  go_wp2_with fail
  refine (has_new 100 w1).mono ?_
  rintro e w2 ⟨P, rfl, hT⟩
  replace hT : HasG w1 P 100 [] (fun _ => False) w2 := hT
  have ha := has_add hT z hZ.out (by decide)
  clear hT
  go_wp2_with fail
  refine ha.mono ?_
  rintro e w3 ⟨rfl, hT, -⟩
  have HT := hid hT
  have HL : Hid ((addL 100 [] z).length ≤ 0 + 1) := hid (add_len 100 [] z)
  clear hT ha
  go_wp2_with fail
  go_loopw [7] (fun p wr => ∃ (i : Nat) (L : List Int), p = .int .i64 i ∧ i ≤ 60 ∧ i ≤ n ∧ Hid (L.length ≤ i + 1) ∧ Hid (HasG w1 P 100 L (fun _ => False) wr)) (fun p _ => 60 - (RowKit.intOf p).toNat)
  case atStart => exact ⟨0, _, rfl, Nat.zero_le _, Nat.zero_le _, HL, HT⟩
  case round =>
    obtain ⟨i, L, rfl, hi, hin, hL, hTr⟩ := hrel
    clear HT HL
    by_cases hlt : i < n ∧ i < 60
    · obtain ⟨l1, l2⟩ := hlt
      obtain ⟨x, hxi⟩ : ∃ x, zs[i]? = some x := ⟨_, List.getElem?_eq_getElem (by rw [hn]; exact l1)⟩
      obtain ⟨hxo, B, o, rfl, hB, hc⟩ := hX.out.2 i x hxi
      have hcw := ((Below.then b1 hTr.out.below).cell (p := ⟨B, o + i, none⟩) hB).trans hc
      have hb := has_add hTr.out x hxo (by have := hL.out; omega)
      have hL2 : Hid ((addL 100 L x).length ≤ i + 1 + 1) := hid (Nat.le_trans (add_len 100 L x) (by have := hL.out; omega))
      clear hxi hc hTr hxo
      go_wp2_with fail
      refine hb.mono ?_
      rintro e w5 ⟨rfl, h5, -⟩
      have H5 := hid h5
      clear h5 hb
      go_wp2_with fail
      go_roundw
      case rel => exact ⟨i + 1, _, by go_num, by omega, by omega, hL2, H5⟩
      case measure => simp [RowKit.intOf] <;> omega
    · have hstop : (n : Int) ≤ (i : Int) ∨ ((i : Int) < (n : Int) ∧ (60 : Int) ≤ (i : Int)) := by omega
      clear hlt
      have hb := has_add hTr.out z hZ.out (by have := hL.out; omega)
      have hll := hL.out
      rw [add_all (show L.length < 100 by omega)] at hb
      have hHb := hid b1
      have hrl := rm_len L z
      obtain ⟨Q, hQ⟩ : ∃ Q, Q = rmL L z ++ [z] := ⟨_, rfl⟩
      have hQ1 : 1 ≤ Q.length ∧ Q.length ≤ 100 := by rw [hQ, List.length_append, List.length_singleton]; omega
      have HQ : Hid (∀ k, 1 ≤ k → z ∈ cutL k Q) := hid (fun k hk => by rw [hQ]; exact cut_has hk _ _)
      rw [← hQ] at hb
      clear hQ hTr hL hll hrl
      obtain ⟨K, hK⟩ : ∃ K, K = Q.length := ⟨_, rfl⟩
      have HK := hid hK
      rw [← hK] at hQ1
      rcases hstop with h0 | ⟨h0, h0'⟩
      all_goals
        go_wp2_with fail
        refine hb.mono ?_
        rintro e w5 ⟨rfl, h5, -⟩
        have hle := has_len h5
        rw [← hK] at hle
        have H5 := hid h5
        clear h5 hb hK
        go_wp2_with fail
        refine hle.mono ?_
        rintro e w6 ⟨rfl, rfl⟩
        clear hle
        go_wp2_with fail
        go_loopw [9] (fun p wr => ∃ (k m : Nat), p = .int .i64 k ∧ k ≤ K ∧ Hid (HasG w1 P m (cutL k Q) (fun _ => False) wr)) (fun p _ => (RowKit.intOf p).toNat)
        case atStart => exact ⟨K, 100, rfl, Nat.le_refl _, hid (by rw [HK.out, cut_all (Nat.le_refl _)]; exact H5.out)⟩
        case round =>
          obtain ⟨k, m, rfl, hk, hTr⟩ := hrel
          clear H5
          by_cases hk1 : 1 ≤ k
          · obtain ⟨j, rfl⟩ : ∃ j, k = j + 1 := ⟨k - 1, by omega⟩
            have hha := has_has hTr.out z hZ.out
            rw [decide_eq_true (HQ.out (j + 1) (by omega))] at hha
            have hle := has_len hTr.out
            rw [cut_len, ← HK.out, Nat.min_eq_right hk] at hle
            have hli := has_limit hTr.out (j : Int)
            rw [Int.toNat_natCast, cut_cut (Nat.le_succ j)] at hli
            clear hTr
            go_wp2_with fail
            refine hha.mono ?_
            rintro e w7 ⟨rfl, rfl⟩
            clear hha
            go_wp2_with fail
            refine hle.mono ?_
            rintro e w7 ⟨rfl, rfl⟩
            clear hle
            go_wp2_with fail
            refine hli.mono ?_
            rintro e w7 ⟨rfl, h7, -⟩
            have H7 := hid h7
            clear h7 hli
            go_wp2_with fail
            go_roundw
            case rel => exact ⟨j, j, by go_num, by omega, H7⟩
            case measure => simp [RowKit.intOf] <;> omega
          · obtain rfl : k = 0 := by omega
            have hha := has_has hTr.out z hZ.out
            rw [cut_zero, decide_eq_false (by simp)] at hha
            have hle := has_len hTr.out
            rw [cut_zero] at hle
            have HB := hid (Below.then hHb.out hTr.out.below)
            clear hTr
            go_wp2_with fail
            refine hha.mono ?_
            rintro e w7 ⟨rfl, rfl⟩
            clear hha
            go_wp2_with fail
            refine hle.mono ?_
            rintro e w7 ⟨rfl, rfl⟩
            clear hle
            go_wp2_with fail
            go_ret
            exact ⟨rfl, HB.out⟩
end Go.Proofs.Ytidcablgdbnddaa
