/-
  The last ones that came are there: the statement, walked. No conditions.
-/
import Derived.Test.YtidcablgdbnddaaGhostLastMath
namespace Go.Proofs.Ytidcablgdbnddaa
open Go Go.RowKit Go.Lib

set_option maxRecDepth 100000 in
set_option maxHeartbeats 2000000 in
theorem last_law (q : Int) (q1 : -9223372036854775808 ≤ q) (q2 : q ≤ 9223372036854775807) (p : Int) (p1 : -9223372036854775808 ≤ p) (p2 : p ≤ 9223372036854775807) (x : Nat) (_hx : (x : Int) ≤ 18446744073709551615) (w : World) :
    Calls Try.prog 4 #[.int .i64 q, .int .i64 p, .int .u64 x] w fun e w' => e = .returned (.bool true) ∧ Below w.heap.size w w' := by
  obtain ⟨jq, hq⟩ := fold_neg q
  have hjq : jq ≤ 9223372036854775807 := by omega
  obtain ⟨jp, hp⟩ := fold_neg p
  have hjp : jp ≤ 9223372036854775807 := by omega
  go_enter Try.func4, Try.ntmps4
  go_wp2_with fail
  refine (shown_any w).mono ?_
  rintro e w1 ⟨rfl, b1⟩
  go_upto_if 15 with fail
  go_cut [0] from 14 to 18 (fun a wx => wx = w1 ∧ a = .int .i64 jq)
  case first =>
    rcases hq with ⟨t0, rfl⟩ | ⟨t0, rfl⟩
    all_goals
      go_wp2_with fail
      go_meet
      exact ⟨rfl, by go_num⟩
  case rest =>
  obtain ⟨rfl, rfl⟩ := hcut
  clear hq q1 q2
  rename World => wB
  go_upto_if 20 with fail
  go_cut [1] from 19 to 23 (fun a wx => wx = wB ∧ a = .int .i64 jp)
  case first =>
    rcases hp with ⟨t0, rfl⟩ | ⟨t0, rfl⟩
    all_goals
      go_wp2_with fail
      go_meet
      exact ⟨rfl, by go_num⟩
  case rest =>
  obtain ⟨rfl, rfl⟩ := hcut
  clear hp p1 p2
  obtain ⟨m, hm, hm2⟩ : ∃ m : Nat, (jq : Int) % 50 = m ∧ m < 50 := ⟨jq % 50, by omega, by omega⟩
  obtain ⟨n, hn, hn2⟩ : ∃ n : Nat, (jp : Int) % 200 = n ∧ n < 200 := ⟨jp % 200, by omega, by omega⟩
  go_wp2_with fail
  generalize (jq : Int) % 50 = mq at *
  generalize (jp : Int) % 200 = mp at *
  subst hm hn
  clear hjq hjp
  generalize wc = wA at *
  have hnew := has_new (m : Int) wA
  rw [Int.toNat_natCast] at hnew
  refine hnew.mono ?_
  rintro e w2 ⟨P, rfl, hT⟩
  clear hnew
  have HT := hid hT
  clear hT
  go_wp2_with fail
  go_loopw [9] (fun p wr => ∃ i : Nat, p = .int .i64 i ∧ i ≤ n ∧ Hid (HasG wA P m (cutL m (nths x i)) (fun _ => False) wr)) (fun p _ => n - (RowKit.intOf p).toNat)
  case atStart => exact ⟨0, rfl, Nat.zero_le _, hid (by rw [nths_zero, cut_nil]; exact HT.out)⟩
  case round =>
    obtain ⟨i, rfl, hi, hTr⟩ := hrel
    clear HT
    by_cases hlt : i < n
    · obtain ⟨z, hz, hwz⟩ := nth_wrap x i
      have hb := has_add hTr.out z (by rw [hz]; exact nth_ok _ _) (by rw [cut_len]; omega)
      have hL := hid (add_next (m := m) (x := (x : Int)) (i := i) (by omega))
      rw [← hz] at hL
      have H0 := hid b1
      clear hTr hz b1
      go_wp2_with fail
      refine hb.mono ?_
      rintro e w3 ⟨rfl, h3, -⟩
      have H3 := hid h3
      clear h3 hb
      go_wp2_with fail
      go_roundw
      case rel => exact ⟨i + 1, by go_num, by omega, hid (by rw [← hL.out]; exact H3.out)⟩
      case measure => simp [RowKit.intOf] <;> omega
    · obtain rfl : i = n := by omega
      have ha := has_all hTr.out
      have hlen : (cutL m (nths (x : Int) i)).length = min i m := by rw [cut_len, nths_len]
      obtain ⟨K, hK⟩ : ∃ K, K = min i m := ⟨_, rfl⟩
      have hKm : (i ≤ m ∧ K = i) ∨ (m < i ∧ K = m) := by omega
      have hKi : i - K = i - m := by omega
      have HL : Hid (∀ j, j < i → (nth x j ∈ cutL m (nths (x : Int) i) ↔ i - K ≤ j)) := hid (fun j hj => by rw [hKi]; exact cut_nths_mem (by omega) hj)
      have HA : Hid (∀ j, j < i → i - K ≤ j → (cutL m (nths (x : Int) i))[j + K - i]? = some (nth x j)) := hid (fun j hj h1 => by
        rw [show j + K - i = j - (i - m) by omega]
        exact cut_nths_at (by omega) hj)
      rw [hlen, ← hK] at ha
      rw [← hK] at hlen
      generalize cutL m (nths (x : Int) i) = L at *
      have HT := hid hTr.out
      clear hTr hK hKi
      have HB := hid b1
      have i1 : K ≤ i := by omega
      clear hi hlt b1
      go_wp2_with fail
      refine ha.mono ?_
      rintro e w3 ⟨v, rfl, o3, b3⟩
      clear ha
      obtain ⟨va, vc, rfl⟩ := row_form o3
      have H3 := hid (HT.out.after b3)
      have hle := has_len (HT.out.after b3)
      rw [hlen] at hle
      have O3 := hid o3
      clear o3 b3 HT hlen
      generalize wr.heap.size = B0 at *
      go_upto_region 16 with fail
      go_cut [11] from 50 to 52 (fun a wx => wx = w3 ∧ a = .int .i64 K)
      case first =>
        rcases hKm with ⟨k1, k2⟩ | ⟨k1, k2⟩
        all_goals
          go_wp2_with fail
          go_meet
          exact ⟨rfl, by go_num⟩
      case rest =>
      obtain ⟨rfl, rfl⟩ := hcut
      clear hKm hm2
      go_wp2_with fail
      refine hle.mono ?_
      rintro e w4 ⟨rfl, rfl⟩
      clear hle
      go_wp2_with fail
      go_loopw [12] (fun p wq => ∃ j : Nat, p = .int .i64 j ∧ j ≤ i ∧ wq = wc) (fun p _ => i - (RowKit.intOf p).toNat)
      case atStart => exact ⟨0, rfl, Nat.zero_le _, rfl⟩
      case round =>
        obtain ⟨j, rfl, hj, hwr⟩ := hrel
        subst hwr
        by_cases hlt : j < i
        · obtain ⟨z, hz, hwz⟩ := nth_wrap x j
          have hzo : u64ok z := by rw [hz]; exact nth_ok _ _
          have hha := has_has H3.out z hzo
          have hl := HL.out j hlt
          rw [← hz] at hl
          by_cases hk : i - K ≤ j
          · rw [decide_eq_true (hl.2 hk)] at hha
            have hat := HA.out j hlt hk
            rw [← hz] at hat
            obtain ⟨g, cap, hv, -, -, -⟩ := row_pos O3.out (by omega)
            cases hv
            obtain ⟨t, ht⟩ : ∃ t : Nat, t = j + K - i := ⟨_, rfl⟩
            have e1 : (j : Int) - (i : Int) + (K : Int) = (t : Int) := by omega
            have e2 : (i : Int) - (K : Int) ≤ (j : Int) := by omega
            have e3 : t < K := by omega
            have hc := O3.out.cellAt t (by omega)
            rw [uc_at (z := z) (by rw [ht]; exact hat)] at hc
            clear hz hl hat H3 HL HA HB ht
            go_wp2_with fail
            refine hha.mono ?_
            rintro e w5 ⟨rfl, rfl⟩
            clear hha
            go_wp2_with fail
            go_roundw
            case rel => exact ⟨j + 1, by go_num, by omega, by simp⟩
            case measure => simp [RowKit.intOf] <;> omega
          · rw [decide_eq_false (fun e => hk (hl.1 e))] at hha
            have e2 : (j : Int) < (i : Int) - (K : Int) := by omega
            clear hz hl H3 HL HA HB
            go_wp2_with fail
            refine hha.mono ?_
            rintro e w5 ⟨rfl, rfl⟩
            clear hha
            go_wp2_with fail
            go_roundw
            case rel => exact ⟨j + 1, by go_num, by omega, by simp⟩
            case measure => simp [RowKit.intOf] <;> omega
        · have HE := hid (Below.then HB.out H3.out.below)
          clear HL HA H3
          go_wp2_with fail
          go_ret
          exact ⟨rfl, HE.out⟩
end Go.Proofs.Ytidcablgdbnddaa
