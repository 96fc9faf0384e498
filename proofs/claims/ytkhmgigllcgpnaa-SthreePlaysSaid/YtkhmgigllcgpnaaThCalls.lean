/-
  The contract of the program's three queues' Victim; all that the laws' walks ask of the program's own calls in one place. Conditions: they lie in memory.
-/
import Derived.Test.YtkhmgigllcgpnaaThVic
import Derived.Test.YtkhmgigllcgpnaaThRefCut
import Derived.Test.YtkhmgigllcgpnaaThRefIns
import Derived.Test.YtkhmgigllcgpnaaThScan
namespace Go.Proofs.Ytkhmgigllcgpnaa.Th
open Go Go.RowKit Go.Lib

/-- What holds at each look. -/
structure Vt (P : Nat) (G : Nat → Prop) (s : Th) (w : World) (t : Th) (wr : World) : Prop where
  tp : ∃ G', TP P G' t wr ∧ Stp G G' w wr
  vic : t.vic = s.vic

set_option maxRecDepth 100000 in
set_option maxHeartbeats 4000000 in
theorem tp_victim {P : Nat} {G : Nat → Prop} {s : Th} {w : World} (h : TP P G s w) : Calls Try.prog 22 #[.pointer (some ⟨P, 0, none⟩)] w fun e w' => e = .returned (.int .i64 s.vic.1) ∧ ∃ G', TP P G' s.vic.2 w' ∧ Stp G G' w w' := by
  obtain ⟨N, hN⟩ : ∃ N, N = s.pot + 1 := ⟨_, rfl⟩
  have H0 := hid (show s.pot < N ∧ Vt P G s w s w from ⟨by omega, ⟨G, h, Stp.refl _ _⟩, rfl⟩)
  clear h hN
  go_enter Try.func22, Try.ntmps22
  go_wp2_with fail
  go_step3
  go_wp2_with fail
  go_step3
  go_wp2_with fail
  go_loopg [] N (fun g wx => ∃ t, Hid (t.pot < g ∧ Vt P G s w t wx))
  case atStart => exact ⟨s, H0⟩
  case round =>
    obtain ⟨t, hA⟩ := hrel
    clear H0
    cases gk with
    | zero => exact absurd hA.out.1 (Nat.not_lt_zero _)
    | succ g =>
    obtain ⟨hpot, ⟨G1, hT, hst⟩, hvic⟩ := hA.out
    have ok := hT.ok
    have hT2 := hT
    obtain ⟨_, r, m, Q, F, hq, hG⟩ := hT2
    have c0 := hq.head.cell (i := 0) rfl
    have hg0 := tm_gives0 hq ok.mb t.sm rfl
    have hg1 := tm_gives1 hq _ rfl
    have hz0 := at_last hq.rows 0
    have hz1 := at_last hq.rows 1
    have HS0 : Hid (t.sm = true → ∃ z, lastOf (rowAt t.L 0) = z ∧ Calls Try.prog 44 #[.pointer (some ⟨P, 0, none⟩), .int .i64 0, .int .i64 z] wr fun e w' => e = .returned (.bool (!t.end_)) ∧ ((t.end_ = true ∧ s.vic = (z, t) ∧ ∃ G', TP P G' t w' ∧ Stp G G' w w') ∨ (t.end_ = false ∧ t.look.pot < g ∧ Vt P G s w t.look w'))) := hid (fun hs => by
      obtain ⟨z, hat, hl, h0, hm⟩ := sm_at ok hs
      refine ⟨z, hl, (tp_spare hT z 0 hat h0 (by rw [hs]; rfl)).mono ?_⟩
      rintro e w' ⟨he, G', k1, k2⟩
      refine ⟨he, ?_⟩
      cases hee : t.end_
      · rw [hee] at k1
        have := look_pot ok hee
        exact .inr ⟨rfl, by omega, ⟨G', k1, hst.trans k2⟩, by rw [← vic_look ok hee]; exact hvic⟩
      · rw [hee] at k1
        exact .inl ⟨rfl, by rw [← hvic, vic_end hee, hat], G', k1, hst.trans k2⟩)
    have HS1 : Hid (t.sm = false → 0 < (rowAt t.L 1).length → ∃ z, lastOf (rowAt t.L 1) = z ∧ Calls Try.prog 44 #[.pointer (some ⟨P, 0, none⟩), .int .i64 1, .int .i64 z] wr fun e w' => e = .returned (.bool (!t.end_)) ∧ ((t.end_ = true ∧ s.vic = (z, t) ∧ ∃ G', TP P G' t w' ∧ Stp G G' w w') ∨ (t.end_ = false ∧ t.look.pot < g ∧ Vt P G s w t.look w'))) := hid (fun hs hn => by
      obtain ⟨z, hat, hl, h0, hm⟩ := mn_at ok hs (by omega)
      refine ⟨z, hl, (tp_spare hT z 1 hat h0 (by rw [hs]; rfl)).mono ?_⟩
      rintro e w' ⟨he, G', k1, k2⟩
      refine ⟨he, ?_⟩
      cases hee : t.end_
      · rw [hee] at k1
        have := look_pot ok hee
        exact .inr ⟨rfl, by omega, ⟨G', k1, hst.trans k2⟩, by rw [← vic_look ok hee]; exact hvic⟩
      · rw [hee] at k1
        exact .inl ⟨rfl, by rw [← hvic, vic_end hee, hat], G', k1, hst.trans k2⟩)
    have HN : Hid (t.sm = false → (rowAt t.L 1).length = 0 → s.vic = (-1, t) ∧ ∃ G', TP P G' t wr ∧ Stp G G' w wr) := hid (fun hs hn => ⟨by rw [← hvic]; exact mn_no hs hn, G1, hT, hst⟩)
    obtain ⟨N1, hN1⟩ : ∃ N1, N1 = (rowAt t.L 1).length := ⟨_, rfl⟩
    rw [← hN1] at hg1 HS1 HN
    clear hq hG hT hst hvic ok hpot hN1
    generalize rowAt t.L 0 = l0 at *
    generalize rowAt t.L 1 = l1 at *
    obtain ⟨B, hB⟩ : ∃ B, B = t.sm := ⟨_, rfl⟩
    rw [← hB] at hg0 HS0 HS1 HN
    clear hB
    go_wp2_with fail
    go_loopg [5] 2 (fun g2 s5 wy => ∃ j : Nat, j + g2 = 2 ∧ s5 = .int .i64 j ∧ Hid ((1 ≤ j → B = false) ∧ (2 ≤ j → N1 = 0)) ∧ wr = wy)
    case atStart => exact ⟨0, rfl, rfl, hid ⟨fun e => absurd e (by decide), fun e => absurd e (by decide)⟩, rfl⟩
    case round =>
      obtain ⟨j, hj, rfl, HJ, rfl⟩ := hrel
      have hj3 : j = 0 ∨ j = 1 ∨ j = 2 := by omega
      rcases hj3 with rfl | rfl | rfl
      · obtain rfl : gk = 2 := by omega
        clear hj hg1 hz1
        cases B
        · clear HS0 HS1 HN hA hz0
          go_wp2_with fail
          refine hg0.mono ?_
          rintro e w1 ⟨rfl, rfl⟩
          go_wp2_with fail
          go_roundg 1
          case measure => omega
          case rel => exact ⟨1, rfl, by first | rfl | go_num, hid ⟨fun _ => by first | rfl | trivial, fun e => absurd e (by decide)⟩, by first | rfl | trivial⟩
        · have HX := HS0.out rfl
          obtain ⟨z, hl, hsp⟩ := HX
          rw [hl] at hz0
          clear HS0 HS1 HN hA hl HJ
          cases hee : t.end_
          · rw [hee] at hsp
            clear hee
            go_wp2_with fail
            refine hg0.mono ?_
            rintro e w1 ⟨rfl, rfl⟩
            go_wp2_with fail
            refine hz0.mono ?_
            rintro e w1 ⟨rfl, rfl⟩
            go_wp2_with fail
            refine hsp.mono ?_
            rintro e w2 ⟨rfl, ⟨h1, _⟩ | ⟨_, h2⟩⟩
            · cases h1
            · have HR := hid h2
              clear h2 hsp hg0 hz0 c0
              go_wp2_with fail
              go_roundg g
              case measure => omega
              case rel => exact ⟨t.look, HR⟩
          · rw [hee] at hsp
            clear hee
            go_wp2_with fail
            refine hg0.mono ?_
            rintro e w1 ⟨rfl, rfl⟩
            go_wp2_with fail
            refine hz0.mono ?_
            rintro e w1 ⟨rfl, rfl⟩
            go_wp2_with fail
            refine hsp.mono ?_
            rintro e w2 ⟨rfl, ⟨_, h1, h2⟩ | ⟨h1, _⟩⟩
            · have HV := hid h1
              have HR := hid h2
              clear h1 h2 hsp hg0 hz0 c0
              go_wp2_with fail
              try rw [Exit.noGoto_ret]
              go_ret
              exact ⟨ret_i64 (by rw [HV.out]), by rw [HV.out]; exact HR.out⟩
            · cases h1
      · obtain rfl : gk = 1 := by omega
        obtain rfl := HJ.out.1 (Nat.le_refl _)
        clear hj hg0 hz0
        by_cases hn : N1 = 0
        · subst hn
          rw [show decide (0 < 0) = false from rfl] at hg1
          clear HS0 HS1 HN hA hz1
          go_wp2_with fail
          refine hg1.mono ?_
          rintro e w1 ⟨rfl, rfl⟩
          go_wp2_with fail
          go_roundg 0
          case measure => omega
          case rel => exact ⟨2, rfl, by first | rfl | go_num, hid ⟨fun _ => by first | rfl | trivial, fun _ => by first | rfl | trivial⟩, by first | rfl | trivial⟩
        · rw [decide_eq_true (by omega : 0 < N1)] at hg1
          have HX := HS1.out rfl (by omega)
          clear hn
          obtain ⟨z, hl, hsp⟩ := HX
          rw [hl] at hz1
          clear HS0 HS1 HN hA hl HJ
          cases hee : t.end_
          · rw [hee] at hsp
            clear hee
            go_wp2_with fail
            refine hg1.mono ?_
            rintro e w1 ⟨rfl, rfl⟩
            go_wp2_with fail
            refine hz1.mono ?_
            rintro e w1 ⟨rfl, rfl⟩
            go_wp2_with fail
            refine hsp.mono ?_
            rintro e w2 ⟨rfl, ⟨h1, _⟩ | ⟨_, h2⟩⟩
            · cases h1
            · have HR := hid h2
              clear h2 hsp hg1 hz1 c0
              go_wp2_with fail
              go_roundg g
              case measure => omega
              case rel => exact ⟨t.look, HR⟩
          · rw [hee] at hsp
            clear hee
            go_wp2_with fail
            refine hg1.mono ?_
            rintro e w1 ⟨rfl, rfl⟩
            go_wp2_with fail
            refine hz1.mono ?_
            rintro e w1 ⟨rfl, rfl⟩
            go_wp2_with fail
            refine hsp.mono ?_
            rintro e w2 ⟨rfl, ⟨_, h1, h2⟩ | ⟨h1, _⟩⟩
            · have HV := hid h1
              have HR := hid h2
              clear h1 h2 hsp hg1 hz1 c0
              go_wp2_with fail
              try rw [Exit.noGoto_ret]
              go_ret
              exact ⟨ret_i64 (by rw [HV.out]), by rw [HV.out]; exact HR.out⟩
            · cases h1
      · obtain rfl : gk = 0 := by omega
        obtain ⟨h1, h2⟩ := HN.out (HJ.out.1 (by decide)) (HJ.out.2 (Nat.le_refl _))
        have HV := hid h1
        have HR := hid h2
        clear hj hg0 hz0 hg1 hz1 HS0 HS1 HN hA HJ h1 h2 c0
        go_wp2_with fail
        try rw [Exit.noGoto_ret]
        go_ret
        exact ⟨ret_i64 (by rw [HV.out]), by rw [HV.out]; exact HR.out⟩
end Go.Proofs.Ytkhmgigllcgpnaa.Th
