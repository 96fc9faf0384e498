/-
  Who comes back from the ghosts stands in again, and the target learns: the statement, walked. No conditions but those of the calls.
-/
import Derived.Test.YtklmgmkeaipppaaM9
import Derived.Deep.CutBlock
namespace Go.Proofs.Ytklmgmkeaipppaa.Ac
open Go Go.RowKit Go.Lib

set_option maxRecDepth 100000 in
set_option maxHeartbeats 2000000 in
theorem back_law (n : Int) (q1 : -9223372036854775808 ≤ n) (q2 : n ≤ 9223372036854775807) (w : World) :
    Calls Try.prog 6 #[.int .i64 n] w fun e w' => e = .returned (.bool true) ∧ Below w.heap.size w w' := by
  have hsh := shown_any w
  obtain ⟨jq, hp⟩ := fold_neg n
  have hjq : jq ≤ 9223372036854775807 := by omega
  go_enter Try.func6, Try.ntmps6
  go_wp2_with fail
  refine hsh.mono ?_
  rintro e w1 ⟨rfl, b1⟩
  have hnew := aa_new w1
  have B1 := hid b1
  clear hsh b1
  go_wp2_with fail
  refine hnew.mono ?_
  rintro e w2 ⟨P, rfl, h2⟩
  have h2 := hid h2
  clear hnew
  go_upto_if 18 with fail
  go_cut [0] from 17 to 21 (fun a wx => wx = w2 ∧ a = .int .i64 jq)
  case first =>
    rcases hp with ⟨t0, rfl⟩ | ⟨t0, rfl⟩
    all_goals
      go_wp2_with fail
      go_meet
      exact ⟨rfl, by go_num⟩
  case rest =>
  obtain ⟨rfl, rfl⟩ := hcut
  obtain ⟨m, hk, hk0, hk1, hk2⟩ : ∃ m : Nat, 1 + (jq : Int) % 20 = m ∧ 1 ≤ m ∧ m ≤ 20 ∧ 1 + (jq : Int).tmod 20 = (m : Int) := ⟨1 + jq % 20, by omega, by omega, by omega, by rw [Int.tmod_eq_emod_of_nonneg (by omega)]; omega⟩
  have hc := aa_cap h2.out (m : Int) (small_i64 (by omega) (by omega))
  have h3 := hid (Fl.new m (by omega))
  clear hp q1 q2 h2
  go_wp2_with fail
  clear hk hk2 hjq
  refine hc.mono ?_
  rintro e w3 ⟨rfl, h4, -⟩
  have h4 := hid (And.intro h3.out h4)
  clear hc h3
  go_wp2_with fail
  go_loopw [5] (fun p wr => ∃ (i : Nat) (s : Ar), p = .int .i64 (i : Int) ∧ i ≤ m ∧ Hid (Fl m i s ∧ AA w1 P s (fun _ => False) wr)) (fun p _ => m - (RowKit.intOf p).toNat)
  case atStart => exact ⟨0, _, rfl, Nat.zero_le _, h4⟩
  case round =>
    obtain ⟨i, s, rfl, hi, hT⟩ := hrel
    clear h4
    by_cases hlt : i < m
    · have hin := aa_insert hT.out.2 (i : Int) (i : Int) (small_i64 (by omega) (by omega)) (small_u64 (by omega) (by omega)) (by rw [hT.out.1.p]; decide)
      obtain ⟨e1, e2⟩ := hT.out.1.ins (by omega)
      rw [e1] at hin
      have hF := hid e2
      have i1 : (i : Int) < (m : Int) := by omega
      have i2 : (i : Int) < 20 := by omega
      have i3 : IntKind.u64.wrap (i : Int) = (i : Int) := by rw [IntKind.wrap_u64]; omega
      clear hT e1 e2
      go_wp2_with fail
      refine hin.mono ?_
      rintro e w4 ⟨rfl, h5, -⟩
      have h5 := hid (And.intro hF.out h5)
      clear hin hF
      go_wp2_with fail
      go_roundw
      case rel => exact ⟨i + 1, _, by go_num, by omega, h5⟩
      case measure => simp [RowKit.intOf] <;> omega
    · obtain rfl : i = m := by omega
      have hF := hT.out.1
      have hB1 := hF.b1
      have hB2 := hF.b2
      have hP := hF.p
      have hbk := hid (hF.back hk0 hk1)
      have hv := aa_victim hT.out.2 999 (small_u64 (by decide) (by decide))
      rw [hbk.out.1] at hv
      have HE : Hid (∀ w4, AA w1 P s (fun _ => False) w4 → Calls Try.prog 22 #[.pointer (some ⟨P, 0, none⟩), .int .i64 0] w4 fun e w' => e = .returned (.bool true) ∧ AA w1 P (s.evict 0) (fun _ => False) w') := hid (fun w4 h => by
        have := aa_evict h (by rw [hB1]; decide) (by rw [hB2]; decide) 0 (small_i64 (by decide) (by decide))
        rw [hbk.out.2.1] at this
        exact this.mono fun e w' ⟨g1, g2, _⟩ => ⟨g1, g2⟩)
      have HP := hid hP
      clear hT hF hB1 hB2 hP hlt hi
      go_wp2_with fail
      refine hv.mono ?_
      rintro e w4 ⟨rfl, h5, -⟩
      have he := HE.out _ h5
      clear hv h5 HE
      go_wp2_with fail
      refine he.mono ?_
      rintro e w5 ⟨rfl, h6⟩
      have hin := aa_insert h6 100 0 (small_i64 (by decide) (by decide)) (small_u64 (by decide) (by decide)) (by rw [evict_p, HP.out]; decide)
      rw [hbk.out.2.2.1] at hin
      clear he h6
      go_wp2_with fail
      refine hin.mono ?_
      rintro e w6 ⟨rfl, h7, -⟩
      have ht := aa_target h7
      rw [hbk.out.2.2.2.1] at ht
      replace ht : Calls Try.prog 12 #[.pointer (some ⟨P, 0, none⟩)] w6 fun e w' => e = .returned (.int .i64 1) ∧ AA w1 P ((s.evict 0).ins 100 0) (fun _ => False) w' ∧ Below w6.heap.size w6 w' := ht
      have hF6 := hid hbk.out.2.2.2
      clear hin h7 hbk
      go_wp2_with fail
      refine ht.mono ?_
      rintro e w7 ⟨rfl, h8, -⟩
      have ha := aa_all h8 1
      rw [hF6.out.2.1] at ha
      clear ht h8
      generalize (s.evict 0).ins 100 0 = s4 at *
      go_wp2_with fail
      refine ha.mono ?_
      rintro e w8 ⟨v, rfl, ho, h9, -⟩
      obtain ⟨g, cap, rfl, -, -, -⟩ := row_pos ho (by decide)
      have hc0 := ho.cellAt 0 (by decide)
      replace hc0 : w8.cell? ⟨g, 0, none⟩ = some (.int .i64 100) := hc0
      have hg0 := aa_ghosts h9 0
      rw [show s4.gh 0 = [] from hF6.out.2.2.1] at hg0
      clear ha ho h9
      go_wp2_with fail
      refine hg0.mono ?_
      rintro e w9 ⟨v, rfl, ho, h10, -⟩
      obtain ⟨a9, c9, rfl⟩ := row_form ho
      have he := aa_evict h10 (by rw [hF6.out.2.2.1]; decide) (by rw [hF6.out.2.2.2.2.2.2.2.2]; decide) 100 (small_i64 (by decide) (by decide))
      rw [hF6.out.2.2.2.1] at he
      clear hg0 ho h10 hc0
      go_wp2_with fail
      refine he.mono ?_
      rintro e w10 ⟨rfl, h11, -⟩
      have hg1 := aa_ghosts h11 1
      rw [show (s4.evict 100).gh 1 = [0] from hF6.out.2.2.2.2.1] at hg1
      clear he h11
      go_wp2_with fail
      refine hg1.mono ?_
      rintro e w11 ⟨v, rfl, ho, h12, -⟩
      obtain ⟨g, cap, rfl, -, -, -⟩ := row_pos ho (by decide)
      have hc0 := ho.cellAt 0 (by decide)
      replace hc0 : w11.cell? ⟨g, 0, none⟩ = some (.int .u64 0) := hc0
      have hin := aa_insert h12 200 0 (small_i64 (by decide) (by decide)) (small_u64 (by decide) (by decide)) (by rw [evict_p, hF6.out.1]; decide)
      rw [hF6.out.2.2.2.2.2.1] at hin
      clear hg1 ho h12
      go_wp2_with fail
      refine hin.mono ?_
      rintro e w12 ⟨rfl, h13, -⟩
      have ht := aa_target h13
      rw [hF6.out.2.2.2.2.2.2.1] at ht
      replace ht : Calls Try.prog 12 #[.pointer (some ⟨P, 0, none⟩)] w12 fun e w' => e = .returned (.int .i64 0) ∧ AA w1 P ((s4.evict 100).ins 200 0) (fun _ => False) w' ∧ Below w12.heap.size w12 w' := ht
      clear hin h13 hc0
      go_wp2_with fail
      refine ht.mono ?_
      rintro e w13 ⟨rfl, h14, -⟩
      have hg1 := aa_ghosts h14 1
      rw [show ((s4.evict 100).ins 200 0).gh 1 = [] from hF6.out.2.2.2.2.2.2.2.1] at hg1
      clear ht h14
      go_wp2_with fail
      refine hg1.mono ?_
      rintro e w14 ⟨v, rfl, ho, h15, -⟩
      obtain ⟨a9, c9, rfl⟩ := row_form ho
      have HB := hid (Below.then B1.out h15.below)
      clear hg1 ho h15
      go_wp2_with fail
      go_ret
      exact ⟨rfl, HB.out⟩
end Go.Proofs.Ytklmgmkeaipppaa.Ac
