/-
  Where nobody is touched, who came first goes first: the statement, walked. Conditions: the shares are 20 and 40 where the call begins.
-/
import Derived.Test.YtenncmjokdacoaaDoorSegFirstMath
namespace Go.Proofs.YtenncmjokdacoaaDoor.Sr
open Go Go.RowKit Go.Lib

theorem i64_and63 (n : Int) : bits .and .i64 n 63 = n % 64 := by
  have hm : (BitVec.ofInt 64 63).toNat = 2 ^ 6 - 1 := by decide
  have key : (BitVec.ofInt 64 n &&& BitVec.ofInt 64 63).toNat = (n % ((2 ^ 64 : Nat) : Int)).toNat % 2 ^ 6 := by
    rw [BitVec.toNat_and, BitVec.toNat_ofInt, hm, Nat.and_two_pow_sub_one_eq_mod]
  show IntKind.i64.wrap ((BitVec.ofInt 64 n &&& BitVec.ofInt 64 63).toNat : Nat) = n % 64
  rw [key, IntKind.wrap_i64]
  omega
theorem i64_and127 (n : Int) : bits .and .i64 n 127 = n % 128 := by
  have hm : (BitVec.ofInt 64 127).toNat = 2 ^ 7 - 1 := by decide
  have key : (BitVec.ofInt 64 n &&& BitVec.ofInt 64 127).toNat = (n % ((2 ^ 64 : Nat) : Int)).toNat % 2 ^ 7 := by
    rw [BitVec.toNat_and, BitVec.toNat_ofInt, hm, Nat.and_two_pow_sub_one_eq_mod]
  show IntKind.i64.wrap ((BitVec.ofInt 64 n &&& BitVec.ofInt 64 127).toNat : Nat) = n % 128
  rw [key, IntKind.wrap_i64]
  omega

set_option maxRecDepth 100000 in
set_option maxHeartbeats 2000000 in
theorem first_law (n : Int) (w : World) (hv : Shr w) :
    Calls Tryd.prog 6 #[.int .i64 n] w fun e w' => e = .returned (.bool true) ∧ Below w.heap.size w w' := by
  have hsh := shown_any hv
  have HV := hid hv
  obtain ⟨m, hm, hm64⟩ : ∃ m : Nat, bits .and .i64 n 63 = (m : Int) ∧ m < 64 := ⟨(n % 64).toNat, by rw [i64_and63]; omega, by omega⟩
  clear hv
  go_enter Tryd.func6, Tryd.ntmps6
  go_wp2_with fail
  refine hsh.mono ?_
  rintro e w1 ⟨rfl, b1⟩
  have hnew := ha_new (HV.out.below b1)
  have B1 := hid b1
  clear hsh b1 HV
  go_wp2_with fail
  refine hnew.mono ?_
  rintro e w2 ⟨P, rfl, h2⟩
  have h2 := hid (And.intro Fst.new h2)
  clear hnew
  go_wp2_with fail
  clear hm
  go_loopw [5] (fun p wr => ∃ (k : Nat) (s : Sg), p = .int .i64 (k : Int) ∧ k ≤ m ∧ Hid (Fst (dsc 0 k) s ∧ HA w1 P s (fun _ => False) wr)) (fun p _ => m - (RowKit.intOf p).toNat)
  case atStart => exact ⟨0, _, rfl, Nat.zero_le _, h2⟩
  case round =>
    obtain ⟨k, s, rfl, hk, hT⟩ := hrel
    clear h2
    by_cases hlt : k < m
    · have hi := ha_insert hT.out.2 (k : Int) (small_i64 (by omega) (by omega))
      have hF := hid (hT.out.1.came (by omega))
      have k1 : (k : Int) < (m : Int) := by omega
      generalize s.insB (k : Int) = A at *
      clear hT
      go_wp2_with fail
      refine hi.mono ?_
      rintro e w3 ⟨rfl, h3, -⟩
      have h3 := hid (And.intro hF.out h3)
      clear hi hF
      go_wp2_with fail
      go_roundw
      case rel => exact ⟨k + 1, _, by go_num, by omega, h3⟩
      case measure => simp [RowKit.intOf] <;> omega
    · obtain rfl : k = m := by omega
      clear hlt hk
      go_wp2_with fail
      go_loopw [6] (fun p wr => ∃ (i : Nat) (s : Sg), p = .int .i64 (i : Int) ∧ i ≤ k ∧ Hid (Fst (dsc i (k - i)) s ∧ HA w1 P s (fun _ => False) wr)) (fun p _ => k - (RowKit.intOf p).toNat)
      case atStart => exact ⟨0, s, rfl, Nat.zero_le _, hT⟩
      case round =>
        clear hT
        obtain ⟨i, s, rfl, hi, hU⟩ := hrel
        by_cases hlt : i < k
        · have k1 : (i : Int) < (k : Int) := by omega
          go_wp2_with fail
          go_loopw [7] (fun p wr => ∃ (j : Nat) (s : Sg), p = .int .i64 (j : Int) ∧ j ≤ 300 ∧ Hid (Fst (dsc i (k - i)) s ∧ HA w1 P s (fun _ => False) wr)) (fun p _ => 300 - (RowKit.intOf p).toNat)
          case atStart => exact ⟨0, s, rfl, Nat.zero_le _, hU⟩
          case round =>
            clear hU
            obtain ⟨j, s, rfl, hj, hX⟩ := hrel
            have HEnd : Hid (∀ t W, Fst (dsc i (k - i)) t → HA w1 P t (fun _ => False) W → Calls Tryd.prog 19 #[.pointer (some ⟨P, 0, none⟩)] W (fun e w' => e = .returned (.int .i64 (i : Int)) ∧ W = w') ∧
                Calls Tryd.prog 15 #[.pointer (some ⟨P, 0, none⟩), .int .i64 (i : Int)] W fun e w' => e = .returned (.bool true) ∧ ∃ t', Hid (Fst (dsc (i + 1) (k - (i + 1))) t' ∧ HA w1 P t' (fun _ => False) w')) := hid (fun t W hF hA => by
              rw [show k - i = (k - (i + 1)) + 1 by omega] at hF
              obtain ⟨g1, g2, g3⟩ := hF.gone
              have hvc := ha_victim hA
              have hre := ha_remove hA (i : Int) (small_i64 (by omega) (by omega))
              rw [g1] at hvc
              rw [g2] at hre
              exact ⟨hvc, hre.mono fun e w' ⟨h1, h2, _⟩ => ⟨h1, _, hid ⟨g3, h2⟩⟩⟩)
            by_cases hj3 : j < 300
            · have hs := ha_step hX.out.2
              have hF := hid hX.out.1.stp
              have j1 : (j : Int) < 300 := by omega
              cases eb : s.stpB
              · rw [eb] at hs
                clear hX
                go_wp2_with fail
                refine hs.mono ?_
                rintro e w3 ⟨rfl, h3, -⟩
                obtain ⟨hvc, hre⟩ := HEnd.out _ _ hF.out h3
                clear hs h3 HEnd hF
                go_wp2_with fail
                refine hvc.mono ?_
                rintro e w4 ⟨rfl, rfl⟩
                clear hvc
                go_wp2_with fail
                refine hre.mono ?_
                rintro e w4 ⟨rfl, t', h4⟩
                clear hre
                go_wp2_with fail
                go_roundw
                case rel => exact ⟨i + 1, _, by go_num, by omega, h4⟩
                case measure => simp [RowKit.intOf] <;> omega
              · rw [eb] at hs
                clear hX
                go_wp2_with fail
                refine hs.mono ?_
                rintro e w3 ⟨rfl, h3, -⟩
                have h3 := hid (And.intro hF.out h3)
                clear hs HEnd hF
                go_wp2_with fail
                go_roundw
                case rel => exact ⟨j + 1, _, by go_num, by omega, h3⟩
                case measure => simp [RowKit.intOf] <;> omega
            · obtain rfl : j = 300 := by omega
              obtain ⟨hvc, hre⟩ := HEnd.out _ _ hX.out.1 hX.out.2
              clear HEnd hX hj3 hj
              go_wp2_with fail
              refine hvc.mono ?_
              rintro e w4 ⟨rfl, rfl⟩
              clear hvc
              go_wp2_with fail
              refine hre.mono ?_
              rintro e w4 ⟨rfl, t', h4⟩
              clear hre
              go_wp2_with fail
              go_roundw
              case rel => exact ⟨i + 1, _, by go_num, by omega, h4⟩
              case measure => simp [RowKit.intOf] <;> omega
        · obtain rfl : i = k := by omega
          have hF := hU.out.1
          rw [Nat.sub_self] at hF
          have hvc := ha_victim hU.out.2
          have hs := ha_step hU.out.2
          rw [hF.none.1] at hvc
          rw [hF.none.2] at hs
          clear hU hF hlt hi
          go_wp2_with fail
          refine hvc.mono ?_
          rintro e w4 ⟨rfl, rfl⟩
          clear hvc
          go_wp2_with fail
          refine hs.mono ?_
          rintro e w4 ⟨rfl, h4, -⟩
          have HB := hid (Below.then B1.out h4.below)
          clear h4 hs
          go_wp2_with fail
          go_ret
          exact ⟨rfl, HB.out⟩
end Go.Proofs.YtenncmjokdacoaaDoor.Sr
