/-
  Steps come to an end, and then each row has its share: the statement, walked. Conditions: the shares are 20 and 40 where the call begins.
-/
import Derived.Test.YtenncmjokdacoaaDoorSegFirst
import Derived.Deep.RegionHeld3
namespace Go.Proofs.YtenncmjokdacoaaDoor.Sr
open Go Go.RowKit Go.Lib

theorem ins_cnt {s : Sg} (h : s.Ok) {z : Int} (hz : 0 ≤ z ∧ z ≤ 4194303) : (s.insB z = true ∧ (s.ins z).n = s.n + 1) ∨ (s.insB z = false ∧ (s.ins z).n = s.n) := by
  cases e : s.has z
  · left
    have hno := has_no.1 e
    have hm : May s.L.length 0 z := (may3 h).2 ⟨by decide, by decide, hz⟩
    obtain ⟨p, q, c, eL⟩ := h.rows
    refine ⟨by unfold Sg.insB; rw [e, decide_eq_true hm]; rfl, ?_⟩
    have e1 : s.ins z = ⟨opFront s.L 0 z, s.a⟩ := by unfold Sg.ins; rw [e]; rfl
    rw [eL, flat3] at hno
    simp only [List.mem_append, not_or] at hno
    rw [e1, opFront_yes hm]
    unfold Sg.n
    rw [eL]
    unfold frontL takeL
    simp only [List.map_cons, List.map_nil]
    rw [filt_no hno.1, filt_no hno.2.1, filt_no hno.2.2]
    show (z :: p).length + q.length + c.length = p.length + q.length + c.length + 1
    rw [List.length_cons]; omega
  · right
    exact ⟨by unfold Sg.insB; rw [e]; rfl, by unfold Sg.ins; rw [e]; rfl⟩
theorem tch_n (s : Sg) (z : Int) : (s.tch z).n = s.n := by unfold Sg.n; rw [tch_L]

set_option maxRecDepth 100000 in
set_option maxHeartbeats 4000000 in
theorem ends_law (a0 : Option Addr) (n0 c0 : Nat) (xs0 : List Int) (a1 : Option Addr) (n1 c1 : Nat) (xs1 : List Int) (w : World) (hv : Shr w) (hx0 : Nums w a0 n0 xs0) (hx1 : Nums w a1 n1 xs1) :
    Calls Tryd.prog 4 #[.slice a0 n0 c0, .slice a1 n1 c1] w fun e w' => e = .returned (.bool true) ∧ Below w.heap.size w w' := by
  have hsh := shown_any hv
  have HV := hid hv
  have HX0 := hid hx0
  have HX1 := hid hx1
  clear hv hx0 hx1
  go_enter Tryd.func4, Tryd.ntmps4
  go_wp2_with fail
  refine hsh.mono ?_
  rintro e w1 ⟨rfl, b1⟩
  have hnew := ha_new (HV.out.below b1)
  have B1 := hid b1
  clear hsh b1 HV
  go_wp2_with fail
  refine hnew.mono ?_
  rintro e w2 ⟨P, rfl, h2⟩
  have h2 := hid (And.intro (show Sg.new.n = 0 by rfl) h2)
  clear hnew
  go_wp2_with fail
  go_loopw [7, 8] (fun p q wr => ∃ (i k : Nat) (s : Sg), p = .int .i64 (k : Int) ∧ q = .int .i64 (i : Int) ∧ i ≤ 60 ∧ i ≤ n0 ∧ k ≤ i ∧ Hid (s.n = k ∧ HA w1 P s (fun _ => False) wr)) (fun _ p _ => 60 - (RowKit.intOf p).toNat)
  case atStart => exact ⟨0, 0, _, rfl, rfl, Nat.zero_le _, Nat.zero_le _, Nat.zero_le _, h2⟩
  case round =>
    obtain ⟨i, k, s, rfl, rfl, hi, hin, hki, hT⟩ := hrel
    clear h2
    by_cases hlt : i < n0 ∧ i < 60
    · obtain ⟨l1, l2⟩ := hlt
      obtain ⟨z, hz⟩ : ∃ z, xs0[i]? = some z := ⟨_, List.getElem?_eq_getElem (by rw [HX0.out.1]; exact l1)⟩
      obtain ⟨B, o, rfl, hbl, hbc⟩ := HX0.out.2 i z hz
      have hb2 := Below.then B1.out hT.out.2.below
      have d0 := (hb2.cell (p := ⟨B, o + i, none⟩) hbl).trans hbc
      obtain ⟨q, hq, hq6⟩ : ∃ q : Nat, bits .and .i64 z 65535 = (q : Int) ∧ q < 65536 := ⟨(z % 65536).toNat, by rw [i64_and65535]; omega, by omega⟩
      have hins := ha_insert hT.out.2 (q : Int) (small_i64 (by omega) (by omega))
      have i1 : (i : Int) < (n0 : Int) := by omega
      have i2 : (i : Int) < 60 := by omega
      have hcn := ins_cnt hT.out.2.ok (z := (q : Int)) ⟨by omega, by omega⟩
      have kk : (k : Int) + 1 ≤ 61 := by omega
      rw [hT.out.1] at hcn
      obtain ⟨k', hk', hkB⟩ : ∃ k' : Nat, k' ≤ i + 1 ∧ Hid ((s.ins (q : Int)).n = k') ∧ ((s.insB (q : Int) = true ∧ k' = k + 1) ∨ (s.insB (q : Int) = false ∧ k' = k)) := by
        rcases hcn with ⟨g1, g2⟩ | ⟨g1, g2⟩
        · exact ⟨k + 1, by omega, hid g2, .inl ⟨g1, rfl⟩⟩
        · exact ⟨k, by omega, hid g2, .inr ⟨g1, rfl⟩⟩
      obtain ⟨hkn, hkB⟩ := hkB
      clear hT hz hbc hb2 hcn
      generalize s.insB (q : Int) = A at *
      generalize s.ins (q : Int) = s3 at *
      go_wp2_with fail
      refine hins.mono ?_
      rintro e w3 ⟨rfl, h3, -⟩
      have h3 := hid (And.intro hkn.out h3)
      clear hins d0 hq hkn
      go_upto_if 38 with fail
      go_cut [7] from 38 to 40 (fun a wx => wx = w3 ∧ a = .int .i64 (k' : Int))
      case first =>
        rcases hkB with ⟨rfl, rfl⟩ | ⟨rfl, rfl⟩
        all_goals
          go_wp2_with fail
          go_meet
          exact ⟨rfl, by go_num⟩
      case rest =>
      obtain ⟨rfl, rfl⟩ := hcut
      clear hkB
      by_cases ht : i < n1
      · obtain ⟨z1, hz1⟩ : ∃ z, xs1[i]? = some z := ⟨_, List.getElem?_eq_getElem (by rw [HX1.out.1]; exact ht)⟩
        obtain ⟨B1', o1, rfl, hbl1, hbc1⟩ := HX1.out.2 i z1 hz1
        have hb4 := Below.then B1.out h3.out.2.below
        have d1 := (hb4.cell (p := ⟨B1', o1 + i, none⟩) hbl1).trans hbc1
        have i3 : (i : Int) < (n1 : Int) := by omega
        obtain ⟨r1, hr1⟩ : ∃ r : Int, bits .and .i64 z1 1 = r := ⟨_, rfl⟩
        obtain ⟨q1, hq1, hq16⟩ : ∃ q : Nat, bits .and .i64 (z1 / 2) 65535 = (q : Int) ∧ q < 65536 := ⟨(z1 / 2 % 65536).toNat, by rw [i64_and65535]; omega, by omega⟩
        have hto := ha_touch h3.out.2 (q1 : Int) (small_i64 (by omega) (by omega))
        have hn4 : Hid ((s3.tch (q1 : Int)).n = k') := hid ((tch_n _ _).trans h3.out.1)
        generalize s3.has (q1 : Int) = A1 at *
        generalize s3.tch (q1 : Int) = s4 at *
        clear hz1 hbc1 hb4
        by_cases hr : r1 = 1
        · subst hr
          clear h3
          go_wp2_with fail
          refine hto.mono ?_
          rintro e w4 ⟨rfl, h4, -⟩
          have hs := ha_step h4
          have H5 : Hid (s4.stp.n = k') := hid ((stp_n h4.ok).trans hn4.out)
          generalize s4.stpB = A2 at *
          generalize s4.stp = s5 at *
          clear hto h4 d1 hq1
          go_wp2_with fail
          refine hs.mono ?_
          rintro e w5 ⟨rfl, h5, -⟩
          have h5 := hid (And.intro H5.out h5)
          clear hs H5
          go_wp2_with fail
          go_roundw
          case rel => exact ⟨i + 1, k', _, rfl, by go_num, by omega, by omega, by omega, h5⟩
          case measure => simp [RowKit.intOf] <;> omega
        · have hrn : (r1 == 1) = false := beq_eq_false_iff_ne.2 hr
          clear hto hq1 hr
          go_wp2_with fail
          go_roundw
          case rel => exact ⟨i + 1, k', _, rfl, by go_num, by omega, by omega, by omega, h3⟩
          case measure => simp [RowKit.intOf] <;> omega
      · have i3 : (n1 : Int) ≤ (i : Int) := by omega
        go_wp2_with fail
        go_roundw
        case rel => exact ⟨i + 1, k', _, rfl, by go_num, by omega, by omega, by omega, h3⟩
        case measure => simp [RowKit.intOf] <;> omega
    · have hstop : (n0 : Int) ≤ (i : Int) ∨ ((i : Int) < (n0 : Int) ∧ (60 : Int) ≤ (i : Int)) := by omega
      have kb : (k : Int) ≤ 60 := by omega
      clear hlt hki hin
      go_upto_region 7 with fail
      go_cut [29] from 22 to 28 (fun v wx => v = .bool false ∧ wx = wr)
      case first =>
        rcases hstop with h0 | ⟨h0, h0'⟩
        all_goals
          go_wp2_with fail
          go_meet
          exact ⟨by first | rfl | (rw [decide_eq_false (by omega)]), rfl⟩
      case rest =>
      obtain ⟨rfl, rfl⟩ := hcut
      clear hstop
      go_wp2_with fail
      go_loopw [9] (fun p wr => ∃ (j : Nat) (s : Sg), p = .int .i64 (j : Int) ∧ j ≤ 60 ∧ j ≤ n1 ∧ Hid (s.n = k ∧ HA w1 P s (fun _ => False) wr)) (fun p _ => 60 - (RowKit.intOf p).toNat)
      case atStart => exact ⟨0, s, rfl, Nat.zero_le _, Nat.zero_le _, hT⟩
      case round =>
        clear hT
        obtain ⟨j, s, rfl, hj, hjn, hT⟩ := hrel
        by_cases hlt : j < n1 ∧ j < 60
        · obtain ⟨l1, l2⟩ := hlt
          obtain ⟨z1, hz1⟩ : ∃ z, xs1[j]? = some z := ⟨_, List.getElem?_eq_getElem (by rw [HX1.out.1]; exact l1)⟩
          obtain ⟨B1', o1, rfl, hbl1, hbc1⟩ := HX1.out.2 j z1 hz1
          have hb4 := Below.then B1.out hT.out.2.below
          have d1 := (hb4.cell (p := ⟨B1', o1 + j, none⟩) hbl1).trans hbc1
          obtain ⟨q1, hq1, hq16⟩ : ∃ q : Nat, bits .and .i64 z1 65535 = (q : Int) ∧ q < 65536 := ⟨(z1 % 65536).toNat, by rw [i64_and65535]; omega, by omega⟩
          have hto := ha_touch hT.out.2 (q1 : Int) (small_i64 (by omega) (by omega))
          have hn4 : Hid ((s.tch (q1 : Int)).n = k) := hid ((tch_n _ _).trans hT.out.1)
          have i1 : (j : Int) < (n1 : Int) := by omega
          have i2 : (j : Int) < 60 := by omega
          generalize s.has (q1 : Int) = A1 at *
          generalize s.tch (q1 : Int) = s4 at *
          clear hz1 hbc1 hb4 hT
          go_wp2_with fail
          refine hto.mono ?_
          rintro e w4 ⟨rfl, h4, -⟩
          have h4 := hid (And.intro hn4.out h4)
          clear hto d1 hq1 hn4
          go_wp2_with fail
          go_roundw
          case rel => exact ⟨j + 1, _, by go_num, by omega, by omega, h4⟩
          case measure => simp [RowKit.intOf] <;> omega
        · have hstop : (n1 : Int) ≤ (j : Int) ∨ ((j : Int) < (n1 : Int) ∧ (60 : Int) ≤ (j : Int)) := by omega
          have hpt : s.pot ≤ 2 * k := by have := s.pot_le; rw [hT.out.1] at this; exact this
          have hT2 : Hid (s.n = k ∧ 0 + s.pot ≤ 2 * k ∧ HA w1 P s (fun _ => False) wr) := hid ⟨hT.out.1, by omega, hT.out.2⟩
          clear hlt hjn hT hpt
          go_upto_region 15 with fail
          go_cut [70] from 63 to 69 (fun v wx => v = .bool false ∧ wx = wr)
          case first =>
            rcases hstop with h1 | ⟨h1, h1'⟩
            all_goals
              go_wp2_with fail
              go_meet
              exact ⟨by first | rfl | (rw [decide_eq_false (by omega)]), rfl⟩
          case rest =>
          obtain ⟨rfl, rfl⟩ := hcut
          clear hstop
          go_wp2_with fail
          go_loopw [10] (fun p wr => ∃ (t : Nat) (s : Sg), p = .int .i64 (t : Int) ∧ t ≤ 2 * k ∧ Hid (s.n = k ∧ t + s.pot ≤ 2 * k ∧ HA w1 P s (fun _ => False) wr)) (fun p _ => 2 * k - (RowKit.intOf p).toNat)
          case atStart => exact ⟨0, s, rfl, Nat.zero_le _, hT2⟩
          case round =>
            clear hT2
            obtain ⟨t, s, rfl, ht, hU⟩ := hrel
            have t1 : (t : Int) ≤ 4 * (k : Int) + 1 := by omega
            have hs := ha_step hU.out.2.2
            cases eb : s.stpB
            · rw [eb] at hs
              have hok := hU.out.2.2.ok
              obtain ⟨f1, f2, f3, f4⟩ := stp_no hok eb
              rw [f1] at hs
              have hF := hid (last_row hok 2)
              have hvd : Hid (0 < (rowAt s.L 2).length → s.vic = lastOf (rowAt s.L 2)) := hid (fun h => by
                have := last_pos hok h
                unfold Sg.vic; rw [if_pos this])
              have hnn : (rowAt s.L 0).length + (rowAt s.L 1).length + (rowAt s.L 2).length = k := hU.out.1
              rw [hU.out.1] at f2 f3
              have HA4 := hid (And.intro f4 (last_i64 hok 2))
              have t2 : (t : Int) ≤ 120 := by omega
              clear hU f1 hok eb f4
              go_wp2_with fail
              refine hs.mono ?_
              rintro e w4 ⟨rfl, h4, -⟩
              have hl0 := ha_all h4 0
              have H4 := hid h4
              clear hs h4
              generalize rowAt s.L 0 = r0 at *
              obtain ⟨K0, hK0⟩ : ∃ K, K = r0.length := ⟨_, rfl⟩
              rw [← hK0] at hl0 hnn f2
              clear hK0
              go_wp2_with fail
              refine hl0.mono ?_
              rintro e w5 ⟨v5, rfl, o5, b5⟩
              obtain ⟨a5, c5, rfl⟩ := row_form o5
              have H5 := hid (H4.out.after b5)
              have hl1 := ha_all H5.out 1
              generalize rowAt s.L 1 = r1 at *
              obtain ⟨K1, hK1⟩ : ∃ K, K = r1.length := ⟨_, rfl⟩
              rw [← hK1] at hl1 hnn f3
              clear hK1 hl0 o5 b5 H4
              go_wp2_with fail
              refine hl1.mono ?_
              rintro e w6 ⟨v6, rfl, o6, b6⟩
              obtain ⟨a6, c6, rfl⟩ := row_form o6
              have H6 := hid (H5.out.after b6)
              have hl2 := ha_all H6.out 2
              clear hl1 o6 b6 H5
              generalize rowAt s.L 2 = r2 at *
              obtain ⟨K2, hK2⟩ : ∃ K, K = r2.length := ⟨_, rfl⟩
              rw [← hK2] at hl2 hnn hF hvd
              have HK2 := hid hK2
              have g0 : (K0 : Int) ≤ 20 * (k : Int) / 100 := by omega
              have g1 : (K1 : Int) ≤ 40 * (k : Int) / 100 := by omega
              have fK : (K0 : Int) + (K1 : Int) + (K2 : Int) = (k : Int) := by omega
              have s01 : (K0 : Int) + (K1 : Int) ≤ 60 := by omega
              clear hnn f2 f3 hK2
              go_wp2_with fail
              refine hl2.mono ?_
              rintro e w7 ⟨v7, rfl, o7, b7⟩
              obtain ⟨a7, c7, rfl⟩ := row_form o7
              have H7 := hid (H6.out.after b7)
              have O7 := hid o7
              have HB7 := hid (Below.then B1.out H7.out.below)
              clear hl2 o7 b7 H6
              rcases Nat.eq_zero_or_pos K2 with h20 | h2p
              · subst h20
                clear H7 O7 hF hvd HK2 HA4
                go_wp2_with fail
                go_quiet (fail)
                go_wp2_with fail
                go_ret
                exact ⟨rfl, drewn_below HB7.out _⟩
              · obtain ⟨M, hM⟩ : ∃ M, K2 = M + 1 := ⟨K2 - 1, by omega⟩
                obtain ⟨g, cap, hv7, hcap, hgb, hgl⟩ := row_pos O7.out (by omega)
                cases hv7
                have hzl : r2[M]? = some (lastOf r2) := by
                  rcases snoc_or r2 with e | ⟨l, z, e⟩
                  · have h3 := HK2.out; rw [e, List.length_nil] at h3; omega
                  · have h3 := HK2.out
                    rw [e, List.length_append, List.length_singleton] at h3
                    have h4 : M = l.length := by omega
                    rw [e, last_some, h4]; simp
                have hx0 := cel_of O7.out M _ hzl
                have hv2 := hvd.out (by omega)
                have h7d := hid (H7.out.after (Below.refl _ _).drew)
                have HAc : Hid (∀ W, HA w1 P s (fun _ => False) W → W.cell? ⟨g, M, none⟩ = some (.int .i64 (lastOf r2)) → Calls Tryd.prog 21 #[.pointer (some ⟨P, 0, none⟩), .int .i64 (lastOf r2)] W fun e w' => e = .returned (.bool false) ∧ Hid (HA w1 P s (fun _ => False) w') ∧ w'.cell? ⟨g, M, none⟩ = some (.int .i64 (lastOf r2))) := hid (fun W h hc =>
                  (ha_active h _ HA4.out.2).mono fun e w' ⟨h1, h2, h3⟩ => ⟨by rw [h1, HA4.out.1], hid h2, (h3.cell (cell_lt hc)).trans hc⟩)
                have HVc : Hid (∀ W, HA w1 P s (fun _ => False) W → W.cell? ⟨g, M, none⟩ = some (.int .i64 (lastOf r2)) → Calls Tryd.prog 19 #[.pointer (some ⟨P, 0, none⟩)] W fun e w' => e = .returned (.int .i64 (lastOf r2)) ∧ Hid (HA w1 P s (fun _ => False) w') ∧ w'.cell? ⟨g, M, none⟩ = some (.int .i64 (lastOf r2))) := hid (fun W h hc => by
                  have := ha_victim h
                  rw [hv2] at this
                  exact this.mono fun e w' ⟨h1, h2⟩ => ⟨h1, hid (h2 ▸ h), h2 ▸ hc⟩)
                replace hx0 : w7.drew.cell? ⟨g, M, none⟩ = some (.int .i64 (lastOf r2)) := hx0
                have m0 : ((K2 : Int) == 0) = false := beq_eq_false_iff_ne.2 (by omega)
                have m1 : (0 : Int) ≤ (M : Int) := by omega
                have m3 : (K2 : Int) - 1 = (M : Int) := by omega
                have m4 : IntKind.i64.wrap (M : Int) = (M : Int) := by rw [IntKind.wrap_i64]; omega
                have m5 : (M : Int) < (K2 : Int) := by omega
                have m6 : M < K2 := by omega
                clear hzl hv2 H7 O7 hF hvd HK2 HA4 hcap hgb hgl h2p hM
                generalize lastOf r2 = V at *
                go_wp2_with fail
                clear fK g0 g1 s01 t1 t2 kb
                go_region_held3 (fun w' => w'.cell? ⟨g, M, none⟩ = some (.int .i64 V)) (first | exact hxj1 | exact hxi1 | exact hx0) (first
                  | (go_at_call 21; refine (HAc.out _ h7d.out hx0).mono ?_; rintro e w8 ⟨rfl, h8, hxi1⟩)
                  | (go_at_call 19; refine (HVc.out _ h8.out hxi1).mono ?_; rintro e w9 ⟨rfl, h9, hxj1⟩))
                all_goals
                  have HB := hid (Below.then B1.out h9.out.below)
                  go_wp2_with fail
                  go_ret
                  exact ⟨rfl, HB.out⟩
            · rw [eb] at hs
              have hpo := stp_pot hU.out.2.2.ok eb
              have hno := stp_n hU.out.2.2.ok
              have hts : Hid (s.stp.n = k ∧ t + 1 + s.stp.pot ≤ 2 * k) := hid ⟨hno.trans hU.out.1, by have := hU.out.2.1; omega⟩
              have htk : t + 1 ≤ 2 * k := by have := hU.out.2.1; omega
              generalize s.stp = s4 at *
              clear hU hpo hno eb
              go_wp2_with fail
              refine hs.mono ?_
              rintro e w4 ⟨rfl, h4, -⟩
              have H4 := hid (And.intro hts.out.1 (And.intro hts.out.2 h4))
              clear hs h4 hts
              go_wp2_with fail
              go_roundw
              case rel => exact ⟨t + 1, _, by go_num, htk, H4⟩
              case measure => simp [RowKit.intOf] <;> omega
end Go.Proofs.YtenncmjokdacoaaDoor.Sr
