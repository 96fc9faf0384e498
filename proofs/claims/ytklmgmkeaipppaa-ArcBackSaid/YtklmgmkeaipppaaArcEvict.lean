/-
  The contract of the program's adaptive replacement's Evict. Conditions: it lies in memory; its ghosts are not over long; ids are ints.
-/
import Derived.Test.YtklmgmkeaipppaaArcInsert
import Derived.Test.YtklmgmkeaipppaaArcRefMore
namespace Go.Proofs.Ytklmgmkeaipppaa.Ac
open Go Go.RowKit Go.Lib

set_option maxRecDepth 100000 in
set_option maxHeartbeats 1000000 in
theorem ar_evict {P : Nat} {G : Nat → Prop} {s : Ar} {w : World} (h : AR P G s w) (hb1 : s.b1.length < 4194304) (hb2 : s.b2.length < 4194304) (z : Int) (hz : i64ok z) : Calls Try.prog 22 #[.pointer (some ⟨P, 0, none⟩), .int .i64 z] w fun e w' => e = .returned (.bool (s.has z)) ∧ ∃ G', AR P G' (s.evict z) w' ∧ Stp G G' w w' := by
  have HQ := hid h
  obtain ⟨ok, r, m, Q1, Q2, F, hq, hG⟩ := h
  have hs := ap_stands hq z hz
  have hz1 : Below w.heap.size w w.drew := (Below.refl _ _).drew
  cases hrow : rowOf s.L z with
  | none =>
    rw [hrow] at hs
    have e1 : Hid (s.has z = false) := hid (by unfold Ar.has; rw [hrow]; rfl)
    have ho : s.out z = s := by unfold Ar.out; rw [hrow]
    have hn : z ∉ s.L.flatten := rowOf_none'.1 hrow
    have e2 : Hid (s.evict z = s) := hid (by
      unfold Ar.evict
      rw [ho]
      unfold Ar.rem
      have h1 : updN s.num z 0 = s.num := by
        funext y
        by_cases e : y = z
        · rw [e, updN_same, ok.zero z hn]
        · rw [updN_other e]
      rw [take_no hn, h1])
    clear hq hG ok hrow ho hn hz
    go_enter Try.func22, Try.ntmps22
    go_wp2_with fail
    refine hs.mono ?_
    rintro e w1 ⟨rfl, rfl⟩
    go_wp2_with fail
    go_ret
    exact ⟨ret_bool e1.out.symm, G, by rw [e2.out]; exact HQ.out, Stp.refl _ _⟩
  | some i =>
    rw [hrow] at hs
    have e1 : Hid (s.has z = true) := hid (by unfold Ar.has; rw [hrow]; rfl)
    have HV : Hid (∀ t G' W, AR P G' t W → t.has z = true → s.evict z = t.rem z → Stp G G' w W → Calls Try.prog 31 #[.pointer (some ⟨P, 0, none⟩), .int .i64 z] W fun e w' => e = .returned (.bool (s.has z)) ∧ ∃ G', AR P G' (s.evict z) w' ∧ Stp G G' w w') := hid (fun t G' W k k2 k3 g => (ar_remove k z hz).mono (by
      rintro e w' ⟨he, G2, q1, q2⟩
      rw [k2] at he
      exact ⟨by rw [e1.out]; exact he, G2, by rw [k3]; exact q1, g.trans q2⟩))
    rcases row_lt2 ok.two hrow with rfl | rfl
    · have hw0 := hq.below hz1
      have hX := hid (hq.nok z)
      have oko := ok.out z
      have et : s.out z = ⟨s.L, s.m, Gh.addL s.m s.b1 (s.num z), s.b2, s.p, s.num⟩ := by unfold Ar.out; rw [hrow]; rfl
      have HA : Hid (Calls Try.prog 44 #[.pointer (some ⟨Q1, 0, none⟩), .int .u64 (s.num z)] w.drew fun e w' => e = .returned (.tuple #[]) ∧ ∃ G', AR P G' (s.out z) w' ∧ Stp G G' w w') := hid (by
        refine (ap_addA hw0 (s.num z) hX.out hb1).mono ?_
        rintro e w' ⟨he, F', k, g⟩
        exact ⟨he, ar_go (s := s.out z) (F' := F') hG oko (by rw [et]; exact k) ((Stp.below hz1).trans g)⟩)
      have HX : Hid (w.drew.cell? ⟨P, 0, none⟩ = some (.pointer (some ⟨r, 0, none⟩)) ∧ w.drew.cell? ⟨P, 1, none⟩ = some (.map (some m)) ∧ w.drew.cell? ⟨P, 2, none⟩ = some (.pointer (some ⟨Q1, 0, none⟩)) ∧ (Instr.lookup 54 (.map (some m)) (.int .i64 z) false).run Try.prog w.drew = .ok (.int .u64 (s.num z)) w.drew) := hid ⟨hw0.head.cell (i := 0) rfl, hw0.head.cell (i := 1) rfl, hw0.head.cell (i := 2) rfl, hw0.map.look hz⟩
      have hr := at_row hw0.rows z hz
      rw [hrow] at hr
      replace hr : Calls Try.prog 43 #[.pointer (some ⟨r, 0, none⟩), .int .i64 z] w.drew fun e w' => e = .returned (.int .i64 0) ∧ w.drew = w' := hr
      have hHas : (s.out z).has z = true := by unfold Ar.has; rw [(out_L s z).1, hrow]; rfl
      have HH := hid hHas
      generalize s.num z = X at *
      clear hq hG ok hrow hw0 oko et hz hX hHas HQ
      go_enter Try.func22, Try.ntmps22
      go_wp2_with fail
      refine hs.mono ?_
      rintro e w1 ⟨rfl, rfl⟩
      go_upto_region 3 with fail
      refine region_tail 17 (by kernel_rfl) (by kernel_rfl) ?_
      simp only [List.take_succ_cons, List.take_zero, List.drop_succ_cons, List.drop_zero]
      generalize hW : w.drew = wx at *
      obtain ⟨d0, d1, d2, hlk⟩ := HX.out
      clear HX hs
      repeat still_step
      refine wpStill_step (fun K hK => ?_)
      go_simp
      refine ⟨_, hr.mono (fun e w' hh => ⟨hh.1, hh.2.symm⟩), hK _ ?_⟩
      clear hK K
      repeat still_step
      refine wpStill_nil ?_
      go_wp2_with fail
      refine HA.out.mono ?_
      rintro e w2 ⟨rfl, G2, k2, g2⟩
      have hR := HV.out _ _ _ k2 HH.out rfl g2
      clear k2 g2 HA HV d0 d1 d2 hlk hr
      go_wp2_with fail
      refine hR.mono ?_
      rintro e w3 ⟨rfl, hF⟩
      have HF := hid hF
      clear hF hR
      go_wp2_with fail
      go_ret
      exact ⟨rfl, HF.out⟩
    · have hw0 := hq.below hz1
      have hX := hid (hq.nok z)
      have oko := ok.out z
      have et : s.out z = ⟨s.L, s.m, s.b1, Gh.addL s.m s.b2 (s.num z), s.p, s.num⟩ := by unfold Ar.out; rw [hrow]; rfl
      have HA : Hid (Calls Try.prog 44 #[.pointer (some ⟨Q2, 0, none⟩), .int .u64 (s.num z)] w.drew fun e w' => e = .returned (.tuple #[]) ∧ ∃ G', AR P G' (s.out z) w' ∧ Stp G G' w w') := hid (by
        refine (ap_addB hw0 (s.num z) hX.out hb2).mono ?_
        rintro e w' ⟨he, F', k, g⟩
        exact ⟨he, ar_go (s := s.out z) (F' := F') hG oko (by rw [et]; exact k) ((Stp.below hz1).trans g)⟩)
      have HX : Hid (w.drew.cell? ⟨P, 0, none⟩ = some (.pointer (some ⟨r, 0, none⟩)) ∧ w.drew.cell? ⟨P, 1, none⟩ = some (.map (some m)) ∧ w.drew.cell? ⟨P, 3, none⟩ = some (.pointer (some ⟨Q2, 0, none⟩)) ∧ (Instr.lookup 54 (.map (some m)) (.int .i64 z) false).run Try.prog w.drew = .ok (.int .u64 (s.num z)) w.drew) := hid ⟨hw0.head.cell (i := 0) rfl, hw0.head.cell (i := 1) rfl, hw0.head.cell (i := 3) rfl, hw0.map.look hz⟩
      have hr := at_row hw0.rows z hz
      rw [hrow] at hr
      replace hr : Calls Try.prog 43 #[.pointer (some ⟨r, 0, none⟩), .int .i64 z] w.drew fun e w' => e = .returned (.int .i64 1) ∧ w.drew = w' := hr
      have hHas : (s.out z).has z = true := by unfold Ar.has; rw [(out_L s z).1, hrow]; rfl
      have HH := hid hHas
      generalize s.num z = X at *
      clear hq hG ok hrow hw0 oko et hz hX hHas HQ
      go_enter Try.func22, Try.ntmps22
      go_wp2_with fail
      refine hs.mono ?_
      rintro e w1 ⟨rfl, rfl⟩
      go_upto_region 3 with fail
      refine region_tail 17 (by kernel_rfl) (by kernel_rfl) ?_
      simp only [List.take_succ_cons, List.take_zero, List.drop_succ_cons, List.drop_zero]
      generalize hW : w.drew = wx at *
      obtain ⟨d0, d1, d2, hlk⟩ := HX.out
      clear HX hs
      repeat still_step
      refine wpStill_step (fun K hK => ?_)
      go_simp
      refine ⟨_, hr.mono (fun e w' hh => ⟨hh.1, hh.2.symm⟩), hK _ ?_⟩
      clear hK K
      repeat still_step
      refine wpStill_nil ?_
      go_wp2_with fail
      refine HA.out.mono ?_
      rintro e w2 ⟨rfl, G2, k2, g2⟩
      have hR := HV.out _ _ _ k2 HH.out rfl g2
      clear k2 g2 HA HV d0 d1 d2 hlk hr
      go_wp2_with fail
      refine hR.mono ?_
      rintro e w3 ⟨rfl, hF⟩
      have HF := hid hF
      clear hF hR
      go_wp2_with fail
      go_ret
      exact ⟨rfl, HF.out⟩
end Go.Proofs.Ytklmgmkeaipppaa.Ac
