/-
  The contracts of the program's adaptive replacement's Insert, Evict. Conditions: it lies in memory; its target and its ghosts are not over great; ids are ints, numbers are numbers.
-/
import Derived.Test.YtklmgmkeaipppaaArcComes
namespace Go.Proofs.Ytklmgmkeaipppaa.Ac
open Go Go.RowKit Go.Lib

set_option maxRecDepth 100000 in
set_option maxHeartbeats 1000000 in
theorem ar_insert {P : Nat} {G : Nat → Prop} {s : Ar} {w : World} (h : AR P G s w) (z x : Int) (hz : i64ok z) (hx : u64ok x) (hp : (s.p : Int) ≤ 4611686018427387904) :
    Calls Try.prog 23 #[.pointer (some ⟨P, 0, none⟩), .int .i64 z, .int .u64 x] w fun e w' => e = .returned (.bool (s.insB z)) ∧ ∃ G', AR P G' (s.ins z x) w' ∧ Stp G G' w w' := by
  have HQ := hid h
  obtain ⟨ok, r, m, Q1, Q2, F, hq, hG⟩ := h
  have c0 := hq.head.cell (i := 0) rfl
  have hs := ap_stands hq z hz
  by_cases hh : s.has z = true
  · have hrow : (rowOf s.L z).isSome = true := hh
    rw [hrow] at hs
    have e1 : Hid (s.insB z = false) := hid (by unfold Ar.insB; rw [hh]; rfl)
    have e2 : Hid (s.ins z x = s) := hid (by unfold Ar.ins; rw [e1.out]; rfl)
    clear hq hG ok hh hrow
    go_enter Try.func23, Try.ntmps23
    go_wp2_with fail
    refine hs.mono ?_
    rintro e w1 ⟨rfl, rfl⟩
    go_wp2_with fail
    go_ret
    exact ⟨ret_bool e1.out.symm, G, by rw [e2.out]; exact HQ.out, Stp.refl _ _⟩
  · have hh : s.has z = false := by simpa using hh
    have hrow : (rowOf s.L z).isSome = false := hh
    rw [hrow] at hs
    have hf := ap_front hq 0 z hz
    by_cases hk : okId z = true
    · have M0 := may2 ok.two (r := 0) (by decide) (by decide) hk
      have M1 := may2 ok.two (r := 1) (by decide) (by decide) hk
      rw [decide_eq_true M0] at hf
      have hB : s.insB z = true := by unfold Ar.insB; rw [hh, hk]; rfl
      have e1 : Hid (s.insB z = true) := hid hB
      have HZ : Hid ((0 ≤ z ∧ z ≤ 4194303) ∧ u64ok x) := hid ⟨of_decide_eq_true hk, hx⟩
      have HN : Hid (∀ y, u64ok (updN s.num z x y)) := hid (upd_ok hq.nok hx)
      have oks := ok.ins z x
      have hmb := ok.mb
      have L2 : May (opFront s.L 0 z).length 1 z := by rw [opFront_len]; exact M1
      have HL := hid (And.intro L2 (opF_twice M0 M1))
      have HM := hid (And.intro hp (And.intro hmb hx))
      have HI := hid hz
      by_cases a1 : x ∈ s.b1
      · have et : s.ins z x = ⟨opFront s.L 1 z, s.m, Gh.rmL s.b1 x, s.b2, min s.m (s.p + max 1 (s.b2.length / s.b1.length)), updN s.num z x⟩ := by unfold Ar.ins; rw [if_pos hB, if_pos a1]
        have HE : Hid (∀ F' W, AP P r m Q1 Q2 F' (opFront s.L 1 z) s.m s.m s.m (Gh.rmL s.b1 x) s.b2 (min s.m (s.p + max 1 (s.b2.length / s.b1.length)) : Nat) (updN s.num z x) W → Stp (allF F) (allF F') w W → ∃ G', AR P G' (s.ins z x) W ∧ Stp G G' w W) := hid (fun F' W k g => ar_go (s := s.ins z x) (F' := F') hG oks (by rw [et]; exact k) g)
        have HA := hid a1
        clear hq hG ok hh hrow hk M0 M1 hB oks hmb L2 et a1 HQ hz hx hp
        go_enter Try.func23, Try.ntmps23
        go_wp2_with fail
        refine hs.mono ?_
        rintro e w1 ⟨rfl, rfl⟩
        go_wp2_with fail
        refine hf.mono ?_
        rintro e w2 ⟨rfl, F2, k2, g2⟩
        have d1 := k2.head.cell (i := 1) rfl
        have hu := hid k2.map
        have K2 := hid (And.intro k2 g2)
        clear k2 g2 hf hs c0
        go_wp2_with (at_mapUpdate; refine wpList_nm_put rfl _ _ _ rfl rfl hu rfl rfl HZ ?_; intro w3 h3 t3; obtain ⟨k3, g3⟩ := K2.out.1.goN h3.out t3.out HN.out; have K3 := hid (And.intro k3 (K2.out.2.trans g3)); clear h3 t3 k3 g3 K2 hu d1 HZ HN)
        refine (cb_one K3.out.1 x HM.out.2.2 HA.out HM.out.1 HM.out.2.1 _ rfl).mono ?_
        rintro e w4 ⟨rfl, F4, k4, g4⟩
        have d0 := k4.head.cell (i := 0) rfl
        have K4 := hid (And.intro k4 (K3.out.2.trans g4))
        clear k4 g4 K3
        go_wp2_with fail
        refine (ap_front K4.out.1 1 z HI.out).mono ?_
        rintro e w5 ⟨rfl, F5, k5, g5⟩
        rw [HL.out.2] at k5
        have HF := hid (HE.out F5 _ k5 (K4.out.2.trans g5))
        clear k5 g5 K4 HE d0
        go_wp2_with fail
        go_ret
        exact ⟨ret_bool e1.out.symm, HF.out⟩
      · by_cases a2 : x ∈ s.b2
        · have et : s.ins z x = ⟨opFront s.L 1 z, s.m, s.b1, Gh.rmL s.b2 x, s.p - max 1 (s.b1.length / s.b2.length), updN s.num z x⟩ := by unfold Ar.ins; rw [if_pos hB, if_neg a1, if_pos a2]
          have HE : Hid (∀ F' W, AP P r m Q1 Q2 F' (opFront s.L 1 z) s.m s.m s.m s.b1 (Gh.rmL s.b2 x) (s.p - max 1 (s.b1.length / s.b2.length) : Nat) (updN s.num z x) W → Stp (allF F) (allF F') w W → ∃ G', AR P G' (s.ins z x) W ∧ Stp G G' w W) := hid (fun F' W k g => ar_go (s := s.ins z x) (F' := F') hG oks (by rw [et]; exact k) g)
          have HA := hid (And.intro a1 a2)
          clear hq hG ok hh hrow hk M0 M1 hB oks hmb L2 et a1 a2 HQ hz hx hp
          go_enter Try.func23, Try.ntmps23
          go_wp2_with fail
          refine hs.mono ?_
          rintro e w1 ⟨rfl, rfl⟩
          go_wp2_with fail
          refine hf.mono ?_
          rintro e w2 ⟨rfl, F2, k2, g2⟩
          have d1 := k2.head.cell (i := 1) rfl
          have hu := hid k2.map
          have K2 := hid (And.intro k2 g2)
          clear k2 g2 hf hs c0
          go_wp2_with (at_mapUpdate; refine wpList_nm_put rfl _ _ _ rfl rfl hu rfl rfl HZ ?_; intro w3 h3 t3; obtain ⟨k3, g3⟩ := K2.out.1.goN h3.out t3.out HN.out; have K3 := hid (And.intro k3 (K2.out.2.trans g3)); clear h3 t3 k3 g3 K2 hu d1 HZ HN)
          refine (cb_two K3.out.1 x HM.out.2.2 HA.out.1 HA.out.2 HM.out.1 _ rfl).mono ?_
          rintro e w4 ⟨rfl, F4, k4, g4⟩
          have d0 := k4.head.cell (i := 0) rfl
          have K4 := hid (And.intro k4 (K3.out.2.trans g4))
          clear k4 g4 K3
          go_wp2_with fail
          refine (ap_front K4.out.1 1 z HI.out).mono ?_
          rintro e w5 ⟨rfl, F5, k5, g5⟩
          rw [HL.out.2] at k5
          have HF := hid (HE.out F5 _ k5 (K4.out.2.trans g5))
          clear k5 g5 K4 HE d0
          go_wp2_with fail
          go_ret
          exact ⟨ret_bool e1.out.symm, HF.out⟩
        · have et : s.ins z x = ⟨opFront s.L 0 z, s.m, s.b1, s.b2, s.p, updN s.num z x⟩ := by unfold Ar.ins; rw [if_pos hB, if_neg a1, if_neg a2]
          have HE : Hid (∀ F' W, AP P r m Q1 Q2 F' (opFront s.L 0 z) s.m s.m s.m s.b1 s.b2 s.p (updN s.num z x) W → Stp (allF F) (allF F') w W → ∃ G', AR P G' (s.ins z x) W ∧ Stp G G' w W) := hid (fun F' W k g => ar_go (s := s.ins z x) (F' := F') hG oks (by rw [et]; exact k) g)
          have HA := hid (And.intro a1 a2)
          clear hq hG ok hh hrow hk M0 M1 hB oks hmb L2 et a1 a2 HQ hz hx hp
          go_enter Try.func23, Try.ntmps23
          go_wp2_with fail
          refine hs.mono ?_
          rintro e w1 ⟨rfl, rfl⟩
          go_wp2_with fail
          refine hf.mono ?_
          rintro e w2 ⟨rfl, F2, k2, g2⟩
          have d1 := k2.head.cell (i := 1) rfl
          have hu := hid k2.map
          have K2 := hid (And.intro k2 g2)
          clear k2 g2 hf hs c0
          go_wp2_with (at_mapUpdate; refine wpList_nm_put rfl _ _ _ rfl rfl hu rfl rfl HZ ?_; intro w3 h3 t3; obtain ⟨k3, g3⟩ := K2.out.1.goN h3.out t3.out HN.out; have K3 := hid (And.intro k3 (K2.out.2.trans g3)); clear h3 t3 k3 g3 K2 hu d1 HZ HN)
          refine (cb_none K3.out.1 x HM.out.2.2 HA.out.1 HA.out.2).mono ?_
          rintro e w4 ⟨rfl, F4, k4, g4⟩
          have HF := hid (HE.out F4 _ k4 (K3.out.2.trans g4))
          clear k4 g4 K3 HE
          go_wp2_with fail
          go_ret
          exact ⟨ret_bool e1.out.symm, HF.out⟩
    · have M0 : ¬ May s.L.length 0 z := fun hM => hk (decide_eq_true (by unfold May at hM; exact hM.2.2))
      rw [decide_eq_false M0, opFront_no M0] at hf
      have e1 : Hid (s.insB z = false) := hid (by unfold Ar.insB; rw [hh]; simpa using hk)
      have e2 : Hid (s.ins z x = s) := hid (by unfold Ar.ins; rw [e1.out]; rfl)
      have HE : Hid (∀ F' W, AP P r m Q1 Q2 F' s.L s.m s.m s.m s.b1 s.b2 s.p s.num W → Stp (allF F) (allF F') w W → ∃ G', AR P G' s W ∧ Stp G G' w W) := hid (fun F' W k g => ar_go (F' := F') hG ok k g)
      clear hq hG ok hh hrow hk M0 HQ
      go_enter Try.func23, Try.ntmps23
      go_wp2_with fail
      refine hs.mono ?_
      rintro e w1 ⟨rfl, rfl⟩
      go_wp2_with fail
      refine hf.mono ?_
      rintro e w2 ⟨rfl, F2, k2, g2⟩
      have HF := hid (HE.out F2 _ k2 g2)
      clear k2 g2 hf hs c0 HE
      go_wp2_with fail
      go_ret
      exact ⟨ret_bool e1.out.symm, by rw [e2.out]; exact HF.out⟩
end Go.Proofs.Ytklmgmkeaipppaa.Ac
