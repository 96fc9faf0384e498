/-
  Who is asked for again and again outlives who comes once: the statement, walked. Conditions: the shares are 20 and 40 where the call begins.
-/
import Derived.Test.YtenncmjokdacoaaDoorSegPassMath
import Derived.Deep.CutBlock
namespace Go.Proofs.YtenncmjokdacoaaDoor.Sr
open Go Go.RowKit Go.Lib

theorem i64_and131071 (n : Int) : bits .and .i64 n 131071 = n % 131072 := by
  have hm : (BitVec.ofInt 64 131071).toNat = 2 ^ 17 - 1 := by decide
  have key : (BitVec.ofInt 64 n &&& BitVec.ofInt 64 131071).toNat = (n % ((2 ^ 64 : Nat) : Int)).toNat % 2 ^ 17 := by
    rw [BitVec.toNat_and, BitVec.toNat_ofInt, hm, Nat.and_two_pow_sub_one_eq_mod]
  show IntKind.i64.wrap ((BitVec.ofInt 64 n &&& BitVec.ofInt 64 131071).toNat : Nat) = n % 131072
  rw [key, IntKind.wrap_i64]
  omega

set_option maxRecDepth 100000 in
set_option maxHeartbeats 2000000 in
theorem passes_law (n : Int) (q1 : -9223372036854775808 ≤ n) (q2 : n ≤ 9223372036854775807) (id : Int) (w : World) (hv : Shr w) :
    Calls Tryd.prog 5 #[.int .i64 n, .int .i64 id] w fun e w' => e = .returned (.bool true) ∧ Below w.heap.size w w' := by
  have hsh := shown_any hv
  have HV := hid hv
  obtain ⟨jq, hp⟩ := fold_neg n
  have hjq : jq ≤ 9223372036854775807 := by omega
  obtain ⟨d, hd, hd6⟩ : ∃ d : Nat, bits .and .i64 id 65535 = (d : Int) ∧ d ≤ 65535 := ⟨(id % 65536).toNat, by rw [i64_and65535]; omega, by omega⟩
  clear hv
  go_enter Tryd.func5, Tryd.ntmps5
  go_wp2_with fail
  refine hsh.mono ?_
  rintro e w1 ⟨rfl, b1⟩
  have hnew := ha_new (HV.out.below b1)
  have B1 := hid b1
  clear hsh b1 HV
  go_wp2_with fail
  refine hnew.mono ?_
  rintro e w2 ⟨P, rfl, h2⟩
  have h2 := hid (And.intro (Tn.new (d : Int)) h2)
  clear hnew
  go_upto_if 20 with fail
  go_cut [0] from 19 to 23 (fun a wx => wx = w2 ∧ a = .int .i64 jq)
  case first =>
    rcases hp with ⟨t0, rfl⟩ | ⟨t0, rfl⟩
    all_goals
      go_wp2_with fail
      go_meet
      exact ⟨rfl, by go_num⟩
  case rest =>
  obtain ⟨rfl, rfl⟩ := hcut
  obtain ⟨m, hk, hm⟩ : ∃ m : Nat, (jq : Int) % 200 = m ∧ m < 200 := ⟨jq % 200, by omega, by omega⟩
  have hk2 : (jq : Int).tmod 200 = (m : Int) := by rw [Int.tmod_eq_emod_of_nonneg (by omega)]; exact hk
  clear hp q1 q2
  go_wp2_with fail
  clear hk hk2 hjq hd
  go_loopw [7] (fun p wr => ∃ (i : Nat) (s : Sg), p = .int .i64 (i : Int) ∧ i ≤ 9 ∧ Hid (Tn (d : Int) i s ∧ HA w1 P s (fun _ => False) wr)) (fun p _ => 9 - (RowKit.intOf p).toNat)
  case atStart => exact ⟨0, _, rfl, Nat.zero_le _, h2⟩
  case round =>
    obtain ⟨i, s, rfl, hi, hT⟩ := hrel
    clear h2
    by_cases hlt : i < 9
    · have hin := ha_insert hT.out.2 ((d : Int) + 1 + i) (small_i64 (by omega) (by omega))
      have hF := hid (hT.out.1.ins ⟨by omega, by omega⟩ hlt)
      have hand : bits .and .i64 ((d : Int) + 1 + i) 131071 = (d : Int) + 1 + i := by rw [i64_and131071]; omega
      have i1 : (i : Int) < 9 := by omega
      have s1 : (d : Int) + 1 ≤ 70000 := by omega
      have s2 : (d : Int) + 1 + i ≤ 70000 := by omega
      generalize s.insB ((d : Int) + 1 + i) = A at *
      clear hT
      go_wp2_with fail
      refine hin.mono ?_
      rintro e w3 ⟨rfl, h3, -⟩
      have h3 := hid (And.intro hF.out h3)
      clear hin hF hand
      go_wp2_with fail
      go_roundw
      case rel => exact ⟨i + 1, _, by go_num, by omega, h3⟩
      case measure => simp [RowKit.intOf] <;> omega
    · obtain rfl : i = 9 := by omega
      obtain ⟨e0, hW0⟩ := hT.out.1.done ⟨by omega, by omega⟩
      have hin := ha_insert hT.out.2 (d : Int) (small_i64 (by omega) (by omega))
      rw [e0] at hin
      have HW0 := hid hW0
      clear hT hW0 e0 hlt hi
      go_wp2_with fail
      refine hin.mono ?_
      rintro e w3 ⟨rfl, h3, -⟩
      have h3 := hid (And.intro HW0.out h3)
      clear hin HW0
      go_wp2_with fail
      go_loopw [8] (fun p wr => ∃ (i : Nat) (s : Sg), p = .int .i64 (i : Int) ∧ i ≤ m ∧ Hid (Paw (d : Int) (200000 + (i : Int)) s ∧ HA w1 P s (fun _ => False) wr)) (fun p _ => m - (RowKit.intOf p).toNat)
      case atStart => exact ⟨0, _, rfl, Nat.zero_le _, h3⟩
      case round =>
        obtain ⟨i, s, rfl, hi, hT⟩ := hrel
        clear h3
        by_cases hlt : i < m
        · have hto := ha_touch hT.out.2 (d : Int) (small_i64 (by omega) (by omega))
          have hK := hid (Pak.start hT.out.1 ⟨by omega, by omega⟩)
          have i1 : (i : Int) < (m : Int) := by omega
          have i2 : (i : Int) < 200 := by omega
          have HI : Hid (∀ w4, HA w1 P (s.tch (d : Int)) (fun _ => False) w4 → Calls Tryd.prog 11 #[.pointer (some ⟨P, 0, none⟩), .int .i64 (200000 + (i : Int))] w4 fun e w' => (∃ b, e = .returned (.bool b)) ∧ Hid (Pak (d : Int) (200000 + (i : Int) + 1) 0 ((s.tch (d : Int)).ins (200000 + (i : Int))) ∧ HA w1 P ((s.tch (d : Int)).ins (200000 + (i : Int))) (fun _ => False) w')) := hid (fun w4 h4 =>
            (ha_insert h4 _ (small_i64 (by omega) (by omega))).mono fun e w' ⟨h1, h2, _⟩ => ⟨⟨_, h1⟩, hid ⟨hK.out, h2⟩⟩)
          generalize s.has (d : Int) = A at *
          clear hT hK
          go_wp2_with fail
          refine hto.mono ?_
          rintro e w4 ⟨rfl, h4, -⟩
          have hin := HI.out _ h4
          clear hto h4 HI
          go_wp2_with fail
          refine hin.mono ?_
          rintro e w5 ⟨⟨b, rfl⟩, h5⟩
          generalize (s.tch (d : Int)).ins (200000 + (i : Int)) = s5 at *
          clear hin
          go_wp2_with fail
          go_loopw [9] (fun p wr => ∃ (k : Nat) (s : Sg), p = .int .i64 (k : Int) ∧ k ≤ 4 ∧ Hid (Pak (d : Int) (200000 + (i : Int) + 1) k s ∧ HA w1 P s (fun _ => False) wr)) (fun p _ => 4 - (RowKit.intOf p).toNat)
          case atStart => exact ⟨0, s5, rfl, Nat.zero_le _, h5⟩
          case round =>
            obtain ⟨k, s6, rfl, hk, hU⟩ := hrel
            clear h5
            by_cases hk4 : k < 4
            · have hs := ha_step hU.out.2
              have hF := hid hU.out.1.stp
              have k1 : (k : Int) < 4 := by omega
              generalize s6.stpB = B at *
              clear hU
              go_wp2_with fail
              refine hs.mono ?_
              rintro e w6 ⟨rfl, h6, -⟩
              have h6 := hid (And.intro hF.out h6)
              clear hs hF
              go_wp2_with fail
              go_roundw
              case rel => exact ⟨k + 1, _, by go_num, by omega, h6⟩
              case measure => simp [RowKit.intOf] <;> omega
            · obtain rfl : k = 4 := by omega
              obtain ⟨g1, g2, g3, g4, g5⟩ := hU.out.1.go
              have hvc := ha_victim hU.out.2
              have hre := ha_remove hU.out.2 s6.vic (by unfold i64ok; omega)
              rw [g4] at hre
              have G5 := hid (show Paw (d : Int) (200000 + ((i + 1 : Nat) : Int)) (s6.rem s6.vic) by rw [show (200000 + ((i + 1 : Nat) : Int)) = 200000 + (i : Int) + 1 by omega]; exact g5)
              have ne : (s6.vic == (d : Int)) = false := beq_eq_false_iff_ne.2 g3
              generalize s6.rem s6.vic = s7 at *
              generalize s6.vic = V at *
              clear hU g5 g4 g3 hk4 hk
              go_wp2_with fail
              refine hvc.mono ?_
              rintro e w6 ⟨rfl, rfl⟩
              clear hvc
              go_wp2_with fail
              refine hre.mono ?_
              rintro e w6 ⟨rfl, h6, -⟩
              have h6 := hid (And.intro G5.out h6)
              clear hre G5
              go_wp2_with fail
              go_roundw
              case rel => exact ⟨i + 1, _, by go_num, by omega, h6⟩
              case measure => simp [RowKit.intOf] <;> omega
        · obtain rfl : i = m := by omega
          have hto := ha_touch hT.out.2 (d : Int) (small_i64 (by omega) (by omega))
          rw [has_iff.2 hT.out.1.mem] at hto
          clear hT hlt hi
          go_wp2_with fail
          refine hto.mono ?_
          rintro e w4 ⟨rfl, h4, -⟩
          have HB := hid (Below.then B1.out h4.below)
          clear h4 hto
          go_wp2_with fail
          go_ret
          exact ⟨rfl, HB.out⟩
end Go.Proofs.YtenncmjokdacoaaDoor.Sr
