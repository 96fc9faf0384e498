/-
  StatsResets (S1): behind a reset every line ends with 0, whatever was counted ahead. Conditions: the table that Text reads is laid.
-/
import Derived.Test.YtfoggbgemdlhbaaDoorStsGiven
import Derived.Test.YtfoggbgemdlhbaaDoorStsRef
import Derived.Deep.DeepCutAuto
namespace Go.Proofs.YtfoggbgemdlhbaaDoor.Sc
open Go Go.RowKit

theorem drewn_below' {B : Nat} {w w' : World} (h : Below B w w') (n : Nat) : Below B w (w'.drewN n) := ⟨h.os, h.tape, h.output, h.size, h.block⟩
theorem tab_below {w w' : World} (h : Nu.TabV w) (hb : Below w.heap.size w w') : Nu.TabV w' := h.below hb
/-- A line that tells 0. -/
theorem ln0 {i : Nat} (h : i < 18) : ∃ s : ByteArray, 2 ≤ s.size ∧ s.size ≤ 200 ∧ s.extract (s.size - 2) s.size = ⟨#[32, 48]⟩ ∧ (lns none0)[i]? = some s.data.toList := by
  obtain ⟨x, hx, hl⟩ := nm_at' h
  refine ⟨S (ln x 0), by rw [S_size]; unfold ln; rw [dd0]; simp, by rw [S_size]; unfold ln; rw [dd0]; simp; omega, ?_, ?_⟩
  · rw [S_size]
    unfold ln S
    rw [dd0]
    apply ByteArray.ext
    apply Array.toList_inj.1
    simp
  · rw [lns_at _ h, hx, S_list]; rfl
set_option maxRecDepth 100000 in
set_option maxHeartbeats 2000000 in
theorem resets_law (a0 : Option Addr) (n0 c0 : Nat) {W : World} (hT0 : Cms W a0 n0) (a1 : Option Addr) (n1 c1 : Nat) (zs : List Int) (hn : zs.length = n1) (hI : Ints W (.slice a1 n1 c1) zs) (hv : Nu.TabV W) :
    Calls Tryd.prog 5 #[.slice a0 n0 c0, .slice a1 n1 c1] W fun e w' => e = .returned (.bool true) ∧ Below W.heap.size W w' := by
  have hs := shown_any W hv
  have HV : Hid (∀ X, Below W.heap.size W X → Nu.TabV X) := hidc (fun X hb => hv.below hb)
  have HT := hidc (fun X (hb : Below W.heap.size W X) => hT0.below hb)
  have HI := hidc (fun X (hb : Below W.heap.size W X) => hI.below hb)
  have HN := hidc hn
  clear hv hT0 hI hn
  go_enter Tryd.func5, Tryd.ntmps5
  go_wp2_with fail
  refine hs.mono ?_
  rintro e w1 ⟨rfl, b1⟩
  have hnw := new_any w1
  clear hs
  go_wp2_with fail
  refine hnw.mono ?_
  rintro e w2 ⟨rfl, h2, b2⟩
  have B2 := b1.trans (b2.mono b1.size)
  have hP : W.heap.size ≤ w1.heap.size := b1.size
  clear hnw b1 b2
  generalize w1.heap.size = P at *
  go_wp2_with fail
  go_loopw [7] (fun v wr => ∃ (k : Nat) (f : Nat → Nat), v = .int .i64 k ∧ k ≤ 200 ∧ SP P f wr ∧ Below W.heap.size W wr) (fun v _ => 200 - (intOf v).toNat)
  case atStart => exact ⟨0, none0, rfl, by omega, h2, B2⟩
  case round =>
    clear h2 B2
    obtain ⟨k, f, rfl, hk, hf, hb⟩ := hrel
    by_cases hlt : k < n0 ∧ k < n1 ∧ k < 200
    · obtain ⟨l0, l1, l2⟩ := hlt
      obtain ⟨B0, o0, c, rfl, hB0, hco, hcells⟩ := HT.out _ hb k l0
      obtain ⟨z, hz⟩ : ∃ z, zs[k]? = some z := ⟨_, List.getElem?_eq_getElem (by rw [HN.out]; exact l1)⟩
      obtain ⟨a1', c1', hv1, hx1⟩ := HI.out _ hb
      injection hv1 with q1 q2 q3
      obtain ⟨hzr, B1, o1, q4, hB1, hc1⟩ := hx1 k z hz
      rw [q4] at q1
      subst q1
      obtain ⟨op, mode, key, val, flags, exp, hasExp, cas, hasCas, delta, init, down, viv, vive, rcc, inv⟩ := c
      have e0 := hcells 0 _ rfl
      rw [Nat.add_zero] at e0
      have e1 := hcells 1 _ rfl
      have e2 := hcells 2 _ rfl
      have e3 := hcells 3 _ rfl
      have e4 := hcells 4 _ rfl
      have e5 := hcells 5 _ rfl
      have e6 := hcells 6 _ rfl
      have e7 := hcells 7 _ rfl
      have e8 := hcells 8 _ rfl
      have e9 := hcells 9 _ rfl
      have e10 := hcells 10 _ rfl
      have e11 := hcells 11 _ rfl
      have e12 := hcells 12 _ rfl
      have e13 := hcells 13 _ rfl
      have e14 := hcells 14 _ rfl
      have e15 := hcells 15 _ rfl
      have i0 : (k : Int) < (n0 : Int) := by omega
      have i1 : (k : Int) < (n1 : Int) := by omega
      have i2 : (k : Int) < 200 := by omega
      have ge : (0 : Int) ≤ (k : Int) := by omega
      have cC := count_any (w := wr.drew) (P := P) (f := f) hf ⟨op, mode, key, val, flags, exp, hasExp, cas, hasCas, delta, init, down, viv, vive, rcc, inv⟩ z (k : Int) (by omega)
      unfold cc ac at cC
      have hbs := hb.size
      clear hf hcells hx1 hz hco q2 q3 q4
      go_wp2_with fail
      refine region_tail 11 (by kernel_rfl) (by kernel_rfl) ?_
      simp only [List.take_succ_cons, List.take_zero, List.drop_succ_cons, List.drop_zero]
      repeat still_step
      refine wpStill_nil ?_
      go_wp2_with fail
      refine cC.mono ?_
      rintro e w3 ⟨rfl, h3, o3⟩
      have hb3 := hb.trans (Below.trans (Below.refl _ _).drew (only_below (B := W.heap.size) o3 hbs hP) |> fun h => h)
      clear cC o3
      go_wp2_with fail
      go_roundw
      case rel => exact ⟨k + 1, _, by go_num, by omega, h3, hb3⟩
      case measure => simp [intOf] <;> omega
    · have hstop : (n0 : Int) ≤ (k : Int) ∨ ((k : Int) < (n0 : Int) ∧ (n1 : Int) ≤ (k : Int)) ∨ ((k : Int) < (n0 : Int) ∧ (k : Int) < (n1 : Int) ∧ (200 : Int) ≤ (k : Int)) := by omega
      go_upto_region 6 with fail
      go_cut [32] from 22 to 31 (fun v wx => v = .bool false ∧ wx = wr)
      case first =>
        rcases hstop with h0 | ⟨h0, h0'⟩ | ⟨h0, h0', h0''⟩
        all_goals
          go_wp2_with fail
          go_meet
          exact ⟨by first | rfl | (rw [decide_eq_false (by omega)]), rfl⟩
      case rest =>
      obtain ⟨rfl, rfl⟩ := hcut
      clear hstop hlt
      have hR := reset_any hf
      have hbs := hb.size
      go_wp2_with fail
      refine hR.mono ?_
      rintro e w3 ⟨rfl, h3, o3⟩
      have b3 := hb.trans (only_below o3 hb.size hP)
      have hL := lines_any h3 (HV.out _ b3)
      clear hR o3 hb hbs h3
      go_wp2_with fail
      refine hL.mono ?_
      rintro e w4 ⟨A, rfl, -, hA, b4⟩
      have B4 := b3.trans (b4.mono b3.size)
      have hW := new_any w4
      clear hL b4 b3
      go_wp2_with fail
      refine hW.mono ?_
      rintro e w5 ⟨rfl, h5, b5⟩
      have B5 := B4.trans (b5.mono B4.size)
      have hL := lines_any h5 (HV.out _ B5)
      have hA5 := hA.below b5
      clear hW hA b5 B4 h5
      go_wp2_with fail
      refine hL.mono ?_
      rintro e w6 ⟨B, rfl, -, hB, b6⟩
      have B6 := B5.trans (b6.mono B5.size)
      have hA6 := hA5.below b6
      clear hL hA5 b6 B5 HT HI HN HV
      go_wp2_with fail
      go_loopw [10] (fun v wr => ∃ j : Nat, v = .int .i64 j ∧ j ≤ 18 ∧ Below w6.heap.size w6 wr) (fun v _ => 18 - (intOf v).toNat)
      case atStart => exact ⟨0, rfl, by omega, Below.refl _ _⟩
      case round =>
        obtain ⟨j, rfl, hj, hb7⟩ := hrel
        by_cases hlt : j < 18
        · obtain ⟨s, hs2, hs200, hse, hsl⟩ := ln0 hlt
          have ca := (hA6.below hb7).cell (i := j) (v := .string s) (by rw [List.getElem?_map, hsl]; simp [S_of])
          have cb := (hB.below hb7).cell (i := j) (v := .string s) (by rw [List.getElem?_map, hsl]; simp [S_of])
          obtain ⟨N, hN⟩ : ∃ N, s.size = N + 2 := ⟨s.size - 2, by omega⟩
          rw [hN] at hse
          have hse' : s.extract N (N + 2) = ⟨#[32, 48]⟩ := hse
          have i0 : (j : Int) < 18 := by omega
          have i1 : (0 : Int) ≤ (j : Int) := by omega
          have i2 : (N : Int) ≤ 198 := by omega
          have g1 : decide ((N : Int) + 2 < 2) = false := decide_eq_false (by omega)
          have g2 : decide (N + 2 < 2) = false := decide_eq_false (by omega)
          have g3 : ¬ (N : Int) + 2 < 2 := by omega
          have hz7 : Below w6.heap.size w6 wr := hb7
          clear hsl hse hs2 hs200
          go_wp2_with fail
          go_quiet (fail)
          go_wp2_with fail
          go_roundw
          case rel => exact ⟨j + 1, by go_num, by omega, hz7.trans ((drewn_below' (Below.refl _ _) _).mono hz7.size)⟩
          case measure => simp [intOf] <;> omega
        · obtain rfl : j = 18 := by omega
          have hB7 := B6.trans (hb7.mono B6.size)
          go_wp2_with fail
          go_ret
          exact ⟨rfl, hB7⟩
end Go.Proofs.YtfoggbgemdlhbaaDoor.Sc
