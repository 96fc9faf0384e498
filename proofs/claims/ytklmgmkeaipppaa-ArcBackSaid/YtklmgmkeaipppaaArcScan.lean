/-
  Who comes once does not drive out who is asked for again and again: the statement, walked. No conditions but those of the calls.
-/
import Derived.Test.YtklmgmkeaipppaaM9
import Derived.Deep.CutBlock
namespace Go.Proofs.Ytklmgmkeaipppaa.Ac
open Go Go.RowKit Go.Lib

theorem addL_len (m : Nat) (l : List Int) (z : Int) : (Gh.addL m l z).length ≤ l.length + 1 := by
  have h1 := Gh.rm_len l z
  unfold Gh.addL Gh.cutL
  rw [List.length_drop, List.length_append, List.length_singleton]; omega
/-- The ghosts grow by one at most. -/
theorem evict_gl (s : Ar) (z : Int) : (s.evict z).b1.length ≤ s.b1.length + 1 ∧ (s.evict z).b2.length ≤ s.b2.length + 1 := by
  show (s.out z).b1.length ≤ _ ∧ (s.out z).b2.length ≤ _
  unfold Ar.out
  split
  · exact ⟨addL_len _ _ _, Nat.le_succ _⟩
  · exact ⟨Nat.le_succ _, addL_len _ _ _⟩
  · exact ⟨Nat.le_succ _, Nat.le_succ _⟩
theorem ins_gl (s : Ar) (z x : Int) : (s.ins z x).b1.length ≤ s.b1.length ∧ (s.ins z x).b2.length ≤ s.b2.length := by
  unfold Ar.ins
  split
  · split
    · exact ⟨Gh.rm_len _ _, Nat.le_refl _⟩
    · split
      · exact ⟨Nat.le_refl _, Gh.rm_len _ _⟩
      · exact ⟨Nat.le_refl _, Nat.le_refl _⟩
  · exact ⟨Nat.le_refl _, Nat.le_refl _⟩
/-- Five that are asked for twice. -/
def scS : Nat → Ar
  | 0 => Ar.new.cap 10
  | k + 1 => ((scS k).ins k k).tch k
theorem scS_step : ∀ k < 5, (scS k).insB k = true ∧ (scS k).p = 0 ∧ ((scS k).ins k k).has k = true := by decide
theorem scS_ok : ∀ k, (scS k).Ok
  | 0 => Ar.new_ok.cap (by decide)
  | k + 1 => ((scS_ok k).ins _ _).tch _
theorem scS_five : rowAt (scS 5).L 1 = [4, 3, 2, 1, 0] ∧ rowAt (scS 5).L 0 = [] ∧ (scS 5).p = 0 ∧ (scS 5).m = 10 ∧ (scS 5).b1 = [] ∧ (scS 5).b2 = [] := by decide
theorem scS_sc : Sc 0 (scS 5) ∧ (scS 5).b1.length ≤ 0 := by
  obtain ⟨h1, h2, h3, h4, h5, h6⟩ := scS_five
  exact ⟨⟨scS_ok 5, h1, (fun z hz => by rw [h2] at hz; cases hz), (by rw [h2]; simp), h3, h4, (fun h hh => by rw [h5] at hh; cases hh), h6⟩, (by rw [h5]; simp)⟩

set_option maxRecDepth 100000 in
set_option maxHeartbeats 2000000 in
theorem scan_law (n : Int) (q1 : -9223372036854775808 ≤ n) (q2 : n ≤ 9223372036854775807) (w : World) :
    Calls Try.prog 5 #[.int .i64 n] w fun e w' => e = .returned (.bool true) ∧ Below w.heap.size w w' := by
  have hsh := shown_any w
  obtain ⟨jq, hp⟩ := fold_neg n
  have hjq : jq ≤ 9223372036854775807 := by omega
  go_enter Try.func5, Try.ntmps5
  go_wp2_with fail
  refine hsh.mono ?_
  rintro e w1 ⟨rfl, b1⟩
  have hnew := aa_new w1
  have B1 := hid b1
  clear hsh b1
  go_wp2_with fail
  refine hnew.mono ?_
  rintro e w2 ⟨P, rfl, h2⟩
  have h2 := hid h2
  clear hnew
  go_upto_if 18 with fail
  go_cut [0] from 17 to 21 (fun a wx => wx = w2 ∧ a = .int .i64 jq)
  case first =>
    rcases hp with ⟨t0, rfl⟩ | ⟨t0, rfl⟩
    all_goals
      go_wp2_with fail
      go_meet
      exact ⟨rfl, by go_num⟩
  case rest =>
  obtain ⟨rfl, rfl⟩ := hcut
  obtain ⟨m, hk, hk1, hk2⟩ : ∃ m : Nat, (jq : Int) % 300 = m ∧ m < 300 ∧ (jq : Int).tmod 300 = (m : Int) := ⟨jq % 300, by omega, by omega, by rw [Int.tmod_eq_emod_of_nonneg (by omega)]; omega⟩
  have hc := aa_cap h2.out 10 (small_i64 (by omega) (by omega))
  clear hp q1 q2 h2
  go_wp2_with fail
  clear hk hk2 hjq
  refine hc.mono ?_
  rintro e w3 ⟨rfl, h4, -⟩
  have h4 := hid h4
  clear hc
  go_wp2_with fail
  go_loopw [5] (fun p wr => ∃ k : Nat, p = .int .i64 (k : Int) ∧ k ≤ 5 ∧ Hid (AA w1 P (scS k) (fun _ => False) wr)) (fun p _ => 5 - (RowKit.intOf p).toNat)
  case atStart => exact ⟨0, rfl, Nat.zero_le _, h4⟩
  case round =>
    obtain ⟨k, rfl, hk, hT⟩ := hrel
    clear h4
    by_cases hlt : k < 5
    · obtain ⟨e1, e2, e3⟩ := scS_step k hlt
      have hin := aa_insert hT.out (k : Int) (k : Int) (small_i64 (by omega) (by omega)) (small_u64 (by omega) (by omega)) (by rw [e2]; decide)
      rw [e1] at hin
      have i1 : (k : Int) < 5 := by omega
      have i3 : IntKind.u64.wrap (k : Int) = (k : Int) := by rw [IntKind.wrap_u64]; omega
      have E3 := hid e3
      clear hT e1 e2 e3
      go_wp2_with fail
      refine hin.mono ?_
      rintro e w4 ⟨rfl, h5, -⟩
      have hto := aa_touch h5 (k : Int) (small_i64 (by omega) (by omega))
      rw [E3.out] at hto
      clear hin h5 E3
      go_wp2_with fail
      refine hto.mono ?_
      rintro e w5 ⟨rfl, h6, -⟩
      have h6 := hid (show AA w1 P (scS (k + 1)) _ _ from h6)
      clear hto
      go_wp2_with fail
      go_roundw
      case rel => exact ⟨k + 1, by go_num, by omega, h6⟩
      case measure => simp [RowKit.intOf] <;> omega
    · obtain rfl : k = 5 := by omega
      have h5 := hid (And.intro scS_sc.1 (And.intro scS_sc.2 hT.out))
      clear hT hlt hk
      go_wp2_with fail
      go_loopw [6] (fun p wr => ∃ (i : Nat) (s : Ar), p = .int .i64 (i : Int) ∧ i ≤ m ∧ Hid (Sc i s ∧ s.b1.length ≤ i ∧ AA w1 P s (fun _ => False) wr)) (fun p _ => m - (RowKit.intOf p).toNat)
      case atStart => exact ⟨0, _, rfl, Nat.zero_le _, h5⟩
      case round =>
        obtain ⟨i, s, rfl, hi, hT⟩ := hrel
        clear h5
        by_cases hlt : i < m
        · have ha0 := aa_all hT.out.2.2 0
          have hS := hid hT.out.1
          have hb1 := hid hT.out.2.1
          have htot := hT.out.1.tot
          have h5 := hT.out.1.five
          have i1 : (i : Int) < (m : Int) := by omega
          have i2 : (i : Int) < 300 := by omega
          have i3 : 1000 + (i : Int) ≤ 1300 := by omega
          have i4 : IntKind.u64.wrap (1000 + (i : Int)) = 1000 + (i : Int) := by rw [IntKind.wrap_u64]; omega
          have HI : Hid (∀ t w5, Sc i t → t.tot < 10 → t.b1.length ≤ i + 1 → AA w1 P t (fun _ => False) w5 → Calls Try.prog 23 #[.pointer (some ⟨P, 0, none⟩), .int .i64 (1000 + (i : Int)), .int .u64 (1000 + (i : Int))] w5 fun e w' => e = .returned (.bool true) ∧ ∃ t', Hid (Sc (i + 1) t' ∧ t'.b1.length ≤ i + 1 ∧ AA w1 P t' (fun _ => False) w')) := hid (fun t w5 hS ht hb hA => by
            obtain ⟨g1, g2⟩ := hS.ins (by omega) ht
            have := aa_insert hA (1000 + (i : Int)) (1000 + (i : Int)) (small_i64 (by omega) (by omega)) (small_u64 (by omega) (by omega)) (by rw [hS.p]; decide)
            rw [g1] at this
            exact this.mono fun e w' ⟨k1, k2, _⟩ => ⟨k1, _, hid ⟨g2, Nat.le_trans (ins_gl _ _ _).1 hb, k2⟩⟩)
          obtain ⟨K0, hK0⟩ : ∃ K, K = (rowAt s.L 0).length := ⟨_, rfl⟩
          rw [← hK0] at htot h5 ha0
          have k05 : (K0 : Int) ≤ 5 := by omega
          clear hT hK0 h5
          go_wp2_with fail
          refine ha0.mono ?_
          rintro e w4 ⟨v, rfl, ho, h6, -⟩
          obtain ⟨a4, c4, rfl⟩ := row_form ho
          have ha1 := aa_all h6 1
          rw [hS.out.again] at ha1
          clear ha0 ho h6
          by_cases hfull : K0 = 5
          · subst hfull
            go_wp2_with fail
            refine ha1.mono ?_
            rintro e w5 ⟨v, rfl, ho, h7, -⟩
            obtain ⟨a5, c5, rfl⟩ := row_form ho
            obtain ⟨g1, g2, g3, g4⟩ := hS.out.evict (1000 + (i : Int)) (by omega)
            have gr := hS.out.ok.good.rng _ g2
            have hv := aa_victim h7 (1000 + (i : Int)) (small_u64 (by omega) (by omega))
            have HE : Hid (∀ w6, AA w1 P s (fun _ => False) w6 → Calls Try.prog 22 #[.pointer (some ⟨P, 0, none⟩), .int .i64 (s.vic (1000 + (i : Int)))] w6 fun e w' => e = .returned (.bool true) ∧ Calls Try.prog 23 #[.pointer (some ⟨P, 0, none⟩), .int .i64 (1000 + (i : Int)), .int .u64 (1000 + (i : Int))] w' fun e w' => e = .returned (.bool true) ∧ ∃ t', Hid (Sc (i + 1) t' ∧ t'.b1.length ≤ i + 1 ∧ AA w1 P t' (fun _ => False) w')) := hid (fun w6 hA => by
              have := aa_evict hA (by have := hb1.out; omega) (by rw [hS.out.b2]; decide) (s.vic (1000 + (i : Int))) (by unfold i64ok; omega)
              rw [show s.has (s.vic (1000 + (i : Int))) = true from arow_some.2 g2] at this
              exact this.mono fun e w' ⟨k1, k2, _⟩ => ⟨k1, HI.out _ _ g3 (by omega) (Nat.le_trans (evict_gl _ _).1 (by have := hb1.out; omega)) k2⟩)
            have v5 : (5 : Int) ≤ s.vic (1000 + (i : Int)) := by omega
            generalize s.vic (1000 + (i : Int)) = V at *
            clear ha1 ho h7 HI g1 g2 g3 g4 gr hS hb1
            go_wp2_with fail
            refine hv.mono ?_
            rintro e w6 ⟨rfl, h8, -⟩
            have he := HE.out _ h8
            clear hv h8 HE
            go_wp2_with fail
            refine he.mono ?_
            rintro e w7 ⟨rfl, hin⟩
            clear he
            go_wp2_with fail
            refine hin.mono ?_
            rintro e w8 ⟨rfl, t', h9⟩
            clear hin
            go_wp2_with fail
            go_roundw
            case rel => first | exact ⟨i + 1, t', by go_num, by omega, h9⟩ | ((repeat apply Exists.intro); exact ⟨⟨i + 1, t', by go_num, by omega, h9⟩, rfl⟩)
            case measure => simp [RowKit.intOf] <;> omega
          · have k4 : (K0 : Int) + 5 < 10 := by omega
            go_wp2_with fail
            refine ha1.mono ?_
            rintro e w5 ⟨v, rfl, ho, h7, -⟩
            obtain ⟨a5, c5, rfl⟩ := row_form ho
            have hin := HI.out _ _ hS.out (by omega) (by have := hb1.out; omega) h7
            clear ha1 ho h7 HI hS hb1
            go_wp2_with fail
            refine hin.mono ?_
            rintro e w8 ⟨rfl, t', h9⟩
            clear hin
            go_wp2_with fail
            go_roundw
            case rel => first | exact ⟨i + 1, t', by go_num, by omega, h9⟩ | ((repeat apply Exists.intro); exact ⟨⟨i + 1, t', by go_num, by omega, h9⟩, rfl⟩)
            case measure => simp [RowKit.intOf] <;> omega
        · obtain rfl : i = m := by omega
          have ha1 := aa_all hT.out.2.2 1
          rw [hT.out.1.again] at ha1
          clear hT hlt hi
          go_wp2_with fail
          refine ha1.mono ?_
          rintro e w5 ⟨v, rfl, ho, h7, -⟩
          obtain ⟨a5, c5, rfl⟩ := row_form ho
          have HB := hid (Below.then B1.out h7.below)
          clear ha1 ho h7
          go_wp2_with fail
          go_ret
          exact ⟨rfl, HB.out⟩
end Go.Proofs.Ytklmgmkeaipppaa.Ac
