/-
  The contract of the document's own three queues' Victim. Conditions: they lie in memory.
-/
import Derived.Test.YtkhmgigllcgpnaaThRefCalls
import Derived.Deep.CutBlock
import Derived.Deep.RegionHeld3
namespace Go.Proofs.Ytkhmgigllcgpnaa.Th
open Go Go.RowKit Go.Lib

theorem sm_at {t : Th} (ok : t.Ok) (h : t.sm = true) : ∃ z, t.at_ = z ∧ lastOf (rowAt t.L 0) = z ∧ 0 ≤ z ∧ z ∈ t.L.flatten := by
  have hat : t.at_ = lastOf (rowAt t.L 0) := by unfold Th.at_; rw [h]; rfl
  have h0 : 0 < (rowAt t.L 0).length := by
    unfold Th.sm at h
    exact of_decide_eq_true ((Bool.and_eq_true _ _ ▸ h).1)
  obtain ⟨p, q, e⟩ := rows2 ok.two
  have hr := ok.good.rng
  rw [e] at h0 hat hr ⊢
  replace h0 : 0 < p.length := h0
  replace hat : t.at_ = lastOf p := hat
  rcases List.eq_nil_or_concat p with e1 | ⟨p', z, e1⟩
  · rw [e1] at h0; exact absurd h0 (by decide)
  · have hl : lastOf p = z := by rw [e1]; unfold lastOf; simp
    have hm : z ∈ [p, q].flatten := by rw [e1]; simp
    exact ⟨z, by rw [hat, hl], hl, (hr z hm).1, hm⟩
theorem mn_at {t : Th} (ok : t.Ok) (h : t.sm = false) (h1 : ¬ (rowAt t.L 1).length = 0) : ∃ z, t.at_ = z ∧ lastOf (rowAt t.L 1) = z ∧ 0 ≤ z ∧ z ∈ t.L.flatten := by
  have hat : t.at_ = lastOf (rowAt t.L 1) := by unfold Th.at_; rw [h]; rfl
  obtain ⟨p, q, e⟩ := rows2 ok.two
  have hr := ok.good.rng
  rw [e] at h1 hat hr ⊢
  replace h1 : ¬ q.length = 0 := h1
  replace hat : t.at_ = lastOf q := hat
  rcases List.eq_nil_or_concat q with e1 | ⟨q', z, e1⟩
  · rw [e1] at h1; exact absurd rfl h1
  · have hl : lastOf q = z := by rw [e1]; unfold lastOf; simp
    have hm : z ∈ [p, q].flatten := by rw [e1]; simp
    exact ⟨z, by rw [hat, hl], hl, (hr z hm).1, hm⟩
theorem mn_no {t : Th} (h : t.sm = false) (h1 : (rowAt t.L 1).length = 0) : t.vic = (-1, t) := by
  have hat : t.at_ = lastOf (rowAt t.L 1) := by unfold Th.at_; rw [h]; rfl
  have h2 : rowAt t.L 1 = [] := List.eq_nil_of_length_eq_zero h1
  have h3 : t.at_ = -1 := by rw [hat, h2]; rfl
  have he : t.end_ = true := by unfold Th.end_; rw [h3]; rfl
  rw [vic_end he, h3]
/-- What holds at each look. -/
structure At (P : Nat) (G : Nat → Prop) (s : Th) (N i : Nat) (w : World) (t : Th) (wr : World) : Prop where
  qt : ∃ G', QT P G' t wr ∧ Stp G G' w wr
  vic : t.vic = s.vic
  pot : t.pot + i ≤ 4 * N
  len : t.L.flatten.length = N

theorem end_is {t : Th} {z : Int} (hat : t.at_ = z) (h0 : 0 ≤ z) : t.end_ = decide (t.cnt z < if t.sm then 2 else 1) := by
  unfold Th.end_
  rw [hat, decide_eq_false (by omega), Bool.false_or]
theorem look_is {t : Th} {z : Int} (hat : t.at_ = z) : t.look = { t with L := opFront t.L 1 z, cnt := updN t.cnt z (if t.sm then 0 else t.cnt z - 1) } := by
  unfold Th.look; rw [hat]
/-- The next look. -/
theorem At.next {P : Nat} {G : Nat → Prop} {s t : Th} {N i : Nat} {w wr w' : World} {Q Q1 : Nat} {v : Value} {es : List Em} {F F' : Nat → Nat → Prop} {G1 : Nat → Prop} {k n : Nat} {z : Int}
    (ok : t.Ok) (hV : t.vic = s.vic) (hP : t.pot + i ≤ 4 * N) (hL : t.L.flatten.length = N) (hG : ∀ b, G1 b ↔ allF F b) (hst : Stp G G1 w wr) (hY : Says es t.L t.num t.cnt)
    (hat : t.at_ = z) (h0 : 0 ≤ z) (hk : es[k]? = some ⟨z, t.num z, t.cnt z⟩) (he : t.end_ = false) (hn : n = if t.sm then 0 else t.cnt z - 1)
    (hq : Qt P Q Q1 v (es.set k ⟨z, t.num z, n⟩) F' (opFront t.L 1 z) t.m t.m t.g w') (g : Stp (allF F) (allF F') wr w') : At P G s N (i + 1) w t.look w' := by
  have hlk := look_is hat
  have hmem : ∀ y, y ∈ (opFront t.L 1 z).flatten ↔ y ∈ t.L.flatten := fun y => by
    have := look_mem ok (by rw [hat]; exact h0) (y := y)
    rw [hlk] at this; exact this
  have okl := ok.look he
  have hp := look_pot ok he
  refine ⟨?_, by rw [← vic_look ok he]; exact hV, by omega, ?_⟩
  · have hs := hY.setN hk n (L' := opFront t.L 1 z) hmem
    rw [hlk, ← hn] at okl ⊢
    obtain ⟨G', k1, k2⟩ := qt_go hG okl hq hs g
    exact ⟨G', k1, hst.trans k2⟩
  · have hpm : t.look.L.flatten.Perm t.L.flatten := (List.perm_ext_iff_of_nodup okl.good.nd ok.good.nd).2 (fun y => by rw [hlk]; exact hmem y)
    rw [hpm.length_eq]; exact hL

set_option maxRecDepth 100000 in
set_option maxHeartbeats 4000000 in
theorem qt_victim {P : Nat} {G : Nat → Prop} {s : Th} {w : World} (h : QT P G s w) :
    Calls Try.prog 34 #[.pointer (some ⟨P, 0, none⟩)] w fun e w' => e = .returned (.int .i64 s.vic.1) ∧ ∃ G', QT P G' s.vic.2 w' ∧ Stp G G' w w' := by
  obtain ⟨N, hN⟩ : ∃ N, N = s.L.flatten.length := ⟨_, rfl⟩
  have hNb : N ≤ 4194304 := by rw [hN]; exact h.ok.good.count
  have H0 := hid (show At P G s N 0 w s w from ⟨⟨G, h, Stp.refl _ _⟩, rfl, by rw [hN]; exact pot_le h.ok, hN.symm⟩)
  clear h hN
  go_enter Try.func34, Try.ntmps34
  go_wp2_with fail
  go_loopw [3] (fun p wr => ∃ (i : Nat) (t : Th), p = .int .i64 i ∧ i ≤ 4 * N ∧ Hid (At P G s N i w t wr)) (fun p _ => 4 * N + 1 - (RowKit.intOf p).toNat)
  case atStart => exact ⟨0, s, rfl, Nat.zero_le _, H0⟩
  case round =>
    obtain ⟨i, t, rfl, hi, hA⟩ := hrel
    clear H0
    obtain ⟨⟨G1, ⟨ok, Q, Q1, v, es, F, hq, hsay, hG⟩, hst⟩, hvic, hpot, hlen⟩ := hA.out
    have c0 := hq.head.cell (i := 0) rfl
    have c2 := hq.head.cell (i := 2) rfl
    have c3 := hq.head.cell (i := 3) rfl
    have heN : es.length = N := (hsay.lenF ok.good).trans hlen
    have hl0 := rq_len hq.rows 0
    have hl1 := rq_len hq.rows 1
    have hz0 := rq_last hq.rows 0
    have hz1 := rq_last hq.rows 1
    have hf := fun z => qt_find hq z
    have hsm : t.sm = (decide (0 < (rowAt t.L 0).length) && (decide (max 1 (t.m / 10) < (rowAt t.L 0).length) || decide ((rowAt t.L 1).length = 0))) := rfl
    have hmb := ok.mb
    have hn1 : Hid (t.sm = false → (rowAt t.L 1).length = 0 → t.vic = (-1, t)) := hid mn_no
    have HS : Hid (t.sm = true → ∃ z, t.at_ = z ∧ lastOf (rowAt t.L 0) = z ∧ 0 ≤ z ∧ z ∈ t.L.flatten) := hid (sm_at ok)
    have HM : Hid (t.sm = false → ¬ (rowAt t.L 1).length = 0 → ∃ z, t.at_ = z ∧ lastOf (rowAt t.L 1) = z ∧ 0 ≤ z ∧ z ∈ t.L.flatten) := hid (mn_at ok)
    obtain ⟨av, cv, hv⟩ := row2_form hq.row
    rw [hv, heN] at c3
    have hR := hid hq.row
    have HQ := hid hq
    have HY := hid hsay
    have OK := hid ok
    have HV := hid hvic
    have HP := hid hpot
    have HG := hid hG
    have HST := hid hst
    have HVV := hid hv
    have HL := hid hlen
    have HN := hid heN
    generalize (rowAt t.L 0).length = N0 at *
    generalize (rowAt t.L 1).length = N1 at *
    obtain ⟨D, hD⟩ : ∃ D, D = t.m / 10 := ⟨_, rfl⟩
    have q10 : (t.m : Int) / 10 = (D : Int) := by rw [hD]; exact (Int.natCast_ediv _ _).symm
    have hDb : (D : Int) ≤ 922337203685477580 := by omega
    rw [← hD] at hsm
    have hi4 : (i : Int) ≤ 4 * (N : Int) + 1 := by omega
    have hN4 : (N : Int) ≤ 4194304 := by omega
    have hSM := hid hsm
    clear hq hsay ok hvic hpot hG hst hv hlen heN hD hmb hsm
    generalize hmm : t.m = mm at *
    have HMM := hid hmm
    clear hmm
    go_wp2_with fail
    refine hl0.mono ?_
    rintro e w1 ⟨rfl, rfl⟩
    go_upto_region 5 with fail
    go_cut [42] from 23 to 41 (fun v wx => v = .bool t.sm ∧ wx = wr)
    case first =>
      have hcase : (N0 = 0 ∧ Hid (Value.bool false = .bool t.sm)) ∨ ((0 : Int) < (N0 : Int) ∧ (D : Int) ≤ 1 ∧ (1 : Int) < (N0 : Int) ∧ Hid (Value.bool true = .bool t.sm)) ∨ ((0 : Int) < (N0 : Int) ∧ (1 : Int) < (D : Int) ∧ (D : Int) < (N0 : Int) ∧ Hid (Value.bool true = .bool t.sm)) ∨
          ((0 : Int) < (N0 : Int) ∧ (D : Int) ≤ 1 ∧ ¬ (1 : Int) < (N0 : Int) ∧ N1 = 0 ∧ Hid (Value.bool true = .bool t.sm)) ∨ ((0 : Int) < (N0 : Int) ∧ (1 : Int) < (D : Int) ∧ ¬ (D : Int) < (N0 : Int) ∧ N1 = 0 ∧ Hid (Value.bool true = .bool t.sm)) ∨
          ((0 : Int) < (N0 : Int) ∧ (D : Int) ≤ 1 ∧ ¬ (1 : Int) < (N0 : Int) ∧ ((N1 : Int) == 0) = false ∧ Hid (Value.bool false = .bool t.sm)) ∨ ((0 : Int) < (N0 : Int) ∧ (1 : Int) < (D : Int) ∧ ¬ (D : Int) < (N0 : Int) ∧ ((N1 : Int) == 0) = false ∧ Hid (Value.bool false = .bool t.sm)) := by
        have h := hSM.out
        by_cases a0 : N0 = 0
        · exact .inl ⟨a0, hid (by rw [h, a0]; simp)⟩
        · by_cases a1 : D ≤ 1
          · by_cases a2 : 1 < N0
            · exact .inr (.inl ⟨by omega, by omega, by omega, hid (by rw [h]; simp [show max 1 D < N0 by omega, show 0 < N0 by omega])⟩)
            · by_cases a3 : N1 = 0
              · exact .inr (.inr (.inr (.inl ⟨by omega, by omega, by omega, a3, hid (by rw [h]; simp [a3, show 0 < N0 by omega])⟩)))
              · exact .inr (.inr (.inr (.inr (.inr (.inl ⟨by omega, by omega, by omega, beq_eq_false_iff_ne.2 (by omega), hid (by rw [h, decide_eq_false (show ¬ max 1 D < N0 by omega), decide_eq_false a3]; simp)⟩)))))
          · by_cases a2 : D < N0
            · exact .inr (.inr (.inl ⟨by omega, by omega, by omega, hid (by rw [h]; simp [show max 1 D < N0 by omega, show 0 < N0 by omega])⟩))
            · by_cases a3 : N1 = 0
              · exact .inr (.inr (.inr (.inr (.inl ⟨by omega, by omega, by omega, a3, hid (by rw [h]; simp [a3, show 0 < N0 by omega])⟩))))
              · exact .inr (.inr (.inr (.inr (.inr (.inr ⟨by omega, by omega, by omega, beq_eq_false_iff_ne.2 (by omega), hid (by rw [h, decide_eq_false (show ¬ max 1 D < N0 by omega), decide_eq_false a3]; simp)⟩)))))
      clear hi4 hN4
      rcases hcase with ⟨a0, e⟩ | ⟨a0, a1, a2, e⟩ | ⟨a0, a1, a2, e⟩ | ⟨a0, a1, a2, a3, e⟩ | ⟨a0, a1, a2, a3, e⟩ | ⟨a0, a1, a2, a3, e⟩ | ⟨a0, a1, a2, a3, e⟩
      · subst a0
        go_wp2_with fail
        go_meet
        exact ⟨e.out, rfl⟩
      · go_wp2_with fail
        go_meet
        exact ⟨e.out, rfl⟩
      · go_wp2_with fail
        go_meet
        exact ⟨e.out, rfl⟩
      · subst a3
        go_wp2_with fail
        refine hl1.mono ?_
        rintro e w1 ⟨rfl, rfl⟩
        go_wp2_with fail
        go_meet
        exact ⟨e.out, rfl⟩
      · subst a3
        go_wp2_with fail
        refine hl1.mono ?_
        rintro e w1 ⟨rfl, rfl⟩
        go_wp2_with fail
        go_meet
        exact ⟨e.out, rfl⟩
      · go_wp2_with fail
        refine hl1.mono ?_
        rintro e w1 ⟨rfl, rfl⟩
        go_wp2_with fail
        go_meet
        exact ⟨e.out, rfl⟩
      · go_wp2_with fail
        refine hl1.mono ?_
        rintro e w1 ⟨rfl, rfl⟩
        go_wp2_with fail
        go_meet
        exact ⟨e.out, rfl⟩
    case rest =>
    obtain ⟨rfl, rfl⟩ := hcut
    cases hs : t.sm
    · by_cases n1 : N1 = 0
      · have hfin : Hid (s.vic = (-1, t)) := hid (by rw [← HV.out]; exact hn1.out hs n1)
        have HT : Hid (∃ G', QT P G' s.vic.2 wc ∧ Stp G G' w wc) := hid (by rw [hfin.out]; exact hA.out.qt)
        have HR1 : Hid (s.vic.1 = -1) := hid (by rw [hfin.out])
        subst n1
        clear HQ HY hA hR
        go_wp2_with fail
        refine hl1.mono ?_
        rintro e w1 ⟨rfl, rfl⟩
        go_wp2_with fail
        go_ret
        exact ⟨ret_i64 HR1.out.symm, HT.out⟩
      · obtain ⟨z, hat, hl, h0, hm⟩ := HM.out hs n1
        rw [hl] at hz1
        obtain ⟨hz', _⟩ | ⟨k, hk, he, hx, _⟩ := HY.out.find z
        · exact absurd hm hz'
        have hfz := hf z
        rw [hx] at hfz
        have hv := HVV.out
        subst hv
        obtain ⟨b, cap, hb, hcap, _, hbl⟩ := row2_pos hR.out (by omega)
        cases hb
        have hc0 := World.ownsRow.cellAt hR.out (k * 3) (by omega)
        have hc2 := World.ownsRow.cellAt hR.out (k * 3 + 2) (by omega)
        rw [(nc_at he).1] at hc0
        rw [(nc_at he).2.2] at hc2
        replace hc0 : wc.cell? ⟨b, k * 3, none⟩ = some (.int .i64 z) := hc0
        replace hc2 : wc.cell? ⟨b, k * 3 + 2, none⟩ = some (.int .i64 (t.cnt z : Nat)) := hc2
        have hfrz := World.ownsRow.frozenAt hR.out (k * 3 + 2)
        have i0 : (0 : Int) ≤ (k : Int) := by omega
        have i1 : (k : Int) < (N : Int) := by have := HN.out; omega
        have i2 : (N : Int) ≤ (cv : Int) := by have := HN.out; omega
        have hend := hid (end_is hat h0)
        by_cases hn : t.cnt z < 1
        · have hee : t.end_ = true := by rw [hend.out, hs]; exact decide_eq_true hn
          have hfin : Hid (s.vic = (z, t)) := hid (by rw [← HV.out, vic_end hee, hat])
          have hcn : t.cnt z = 0 := by omega
          rw [hcn] at hc2
          replace hc2 : wc.cell? ⟨b, k * 3 + 2, none⟩ = some (.int .i64 0) := hc2
          have hqt := hA.out.qt
          have HT : Hid (∃ G', QT P G' s.vic.2 wc ∧ Stp G G' w wc) := hid (by rw [hfin.out]; exact hqt)
          have HR1 : Hid (s.vic.1 = z) := hid (by rw [hfin.out])
          clear hqt hend HQ HY hA he hn hl0 hR hcn
          go_wp2_with fail
          refine hl1.mono ?_
          rintro e w1 ⟨rfl, rfl⟩
          go_wp2_with fail
          refine hz1.mono ?_
          rintro e w1 ⟨rfl, rfl⟩
          go_wp2_with fail
          refine hfz.mono ?_
          rintro e w1 ⟨rfl, rfl⟩
          go_wp2_with fail
          go_ret
          exact ⟨ret_i64 HR1.out.symm, HT.out⟩
        · have hee : t.end_ = false := by rw [hend.out, hs]; exact decide_eq_false hn
          obtain ⟨n, hnn⟩ : ∃ n, n = t.cnt z - 1 := ⟨_, rfl⟩
          obtain ⟨kq, kg⟩ := HQ.out.goN he n
          have kq2 := kq.below (Below.refl _ _).drew
          have hfr := qt_front kq2 1 z
          have HKC : Hid (∀ F' W, Qt P Q Q1 (.slice (some ⟨b, 0, none⟩) es.length cv) (es.set k ⟨z, t.num z, n⟩) F' (opFront t.L 1 z) t.m t.m t.g W → W.cell? ⟨P, 0, none⟩ = some (.pointer (some ⟨Q, 0, none⟩)) ∧ W.cell? ⟨P, 3, none⟩ = some (.slice (some ⟨b, 0, none⟩) N cv) ∧ W.cell? ⟨b, k * 3, none⟩ = some (.int .i64 z)) := hid (fun F' W k1 => by
            have hset : (es.set k ⟨z, t.num z, n⟩)[k]? = some ⟨z, t.num z, n⟩ := List.getElem?_set_self hk
            have hr := k1.row
            rw [List.length_set] at hr
            have h3 := k1.head.cell (i := 3) rfl
            rw [HN.out] at h3
            have hcz := World.ownsRow.cellAt hr (k * 3) (by omega)
            rw [(nc_at hset).1] at hcz
            exact ⟨k1.head.cell (i := 0) rfl, h3, hcz⟩)
          rw [HMM.out] at HKC
          have hd0 := kq.head.cell (i := 0) rfl
          have hd3 := kq.head.cell (i := 3) rfl
          rw [HN.out] at hd3
          have hdi := (World.cell?_setCell_other wc ⟨b, k * 3 + 2, none⟩ ⟨b, k * 3, none⟩ (.int .i64 (n : Nat)) (by intro e; injection e; omega)).trans hc0
          have HNX : Hid (∀ F' W, Qt P Q Q1 (.slice (some ⟨b, 0, none⟩) es.length cv) (es.set k ⟨z, t.num z, n⟩) F' (opFront t.L 1 z) mm mm t.g W → Stp (allF F) (allF F') (wc.setCell ⟨b, k * 3 + 2, none⟩ (.int .i64 (n : Nat))).drew W → At P G s N (i + 1) w t.look W) := hid (fun F' W k1 g1 => by
            have hm2 := HMM.out
            subst hm2
            exact At.next (v := .slice (some ⟨b, 0, none⟩) es.length cv) OK.out HV.out HP.out HL.out HG.out HST.out HY.out hat h0 he hee (by rw [hnn, hs]; rfl) k1 ((kg.trans (Stp.below (Below.refl _ _).drew)).trans g1))
          have hcn : (((t.cnt z : Nat) : Int) == 0) = false := beq_eq_false_iff_ne.2 (by omega)
          have hq3 : ((t.cnt z : Nat) : Int) - 1 = (n : Int) := by omega
          have hc3b : ((t.cnt z : Nat) : Int) ≤ 3 := by have := OK.out.three z; omega
          generalize t.cnt z = cn at *
          clear hnn
          clear hend HQ HY hA he hn hl0 hR kq kg kq2
          generalize hW : wc.setCell ⟨b, k * 3 + 2, none⟩ (.int .i64 (n : Nat)) = w5 at *
          go_wp2_with fail
          refine hl1.mono ?_
          rintro e w1 ⟨rfl, rfl⟩
          go_wp2_with fail
          refine hz1.mono ?_
          rintro e w1 ⟨rfl, rfl⟩
          go_wp2_with fail
          refine hfz.mono ?_
          rintro e w1 ⟨rfl, rfl⟩
          go_upto_region 17 with fail
          have hx0 : w5.drew.cell? ⟨P, 0, none⟩ = some (.pointer (some ⟨Q, 0, none⟩)) ∧ w5.drew.cell? ⟨P, 3, none⟩ = some (.slice (some ⟨b, 0, none⟩) N cv) ∧ w5.drew.cell? ⟨b, k * 3, none⟩ = some (.int .i64 z) := ⟨hd0, hd3, hdi⟩
          go_region_held3 (fun w' => w'.cell? ⟨P, 0, none⟩ = some (.pointer (some ⟨Q, 0, none⟩)) ∧ w'.cell? ⟨P, 3, none⟩ = some (.slice (some ⟨b, 0, none⟩) N cv) ∧ w'.cell? ⟨b, k * 3, none⟩ = some (.int .i64 z)) (first | exact hx1 | exact hx0) (first
            | (go_at_call 47; refine hfr.mono ?_; rintro e w6 ⟨rfl, F', k1, g1⟩; have hx1 := HKC.out F' _ k1; have hA2 := hid (HNX.out F' _ k1 g1)))
          clear hx1 hx0 k1 g1 hfr HNX HKC hd0 hd3 hdi hW
          go_wp2_with fail
          go_roundw
          case rel => exact ⟨i + 1, t.look, by go_num, by have := hA2.out.pot; omega, hA2⟩
          case measure => simp [RowKit.intOf] <;> omega
    · obtain ⟨z, hat, hl, h0, hm⟩ := HS.out hs
      rw [hl] at hz0
      obtain ⟨hz', _⟩ | ⟨k, hk, he, hx, _⟩ := HY.out.find z
      · exact absurd hm hz'
      have hfz := hf z
      rw [hx] at hfz
      have hv := HVV.out
      subst hv
      obtain ⟨b, cap, hb, hcap, _, hbl⟩ := row2_pos hR.out (by omega)
      cases hb
      have hc0 := World.ownsRow.cellAt hR.out (k * 3) (by omega)
      have hc2 := World.ownsRow.cellAt hR.out (k * 3 + 2) (by omega)
      rw [(nc_at he).1] at hc0
      rw [(nc_at he).2.2] at hc2
      replace hc0 : wc.cell? ⟨b, k * 3, none⟩ = some (.int .i64 z) := hc0
      replace hc2 : wc.cell? ⟨b, k * 3 + 2, none⟩ = some (.int .i64 (t.cnt z : Nat)) := hc2
      have hfrz := World.ownsRow.frozenAt hR.out (k * 3 + 2)
      have i0 : (0 : Int) ≤ (k : Int) := by omega
      have i1 : (k : Int) < (N : Int) := by have := HN.out; omega
      have i2 : (N : Int) ≤ (cv : Int) := by have := HN.out; omega
      have hend := hid (end_is hat h0)
      by_cases hn : t.cnt z < 2
      · have hee : t.end_ = true := by rw [hend.out, hs]; exact decide_eq_true hn
        have hfin : Hid (s.vic = (z, t)) := hid (by rw [← HV.out, vic_end hee, hat])
        have hcn : ((t.cnt z : Nat) : Int) < 2 := by omega
        have hqt := hA.out.qt
        have HT : Hid (∃ G', QT P G' s.vic.2 wc ∧ Stp G G' w wc) := hid (by rw [hfin.out]; exact hqt)
        have HR1 : Hid (s.vic.1 = z) := hid (by rw [hfin.out])
        generalize t.cnt z = cn at *
        clear hqt hend HQ HY hA he hn hl0 hl1 hR
        go_wp2_with fail
        refine hz0.mono ?_
        rintro e w1 ⟨rfl, rfl⟩
        go_wp2_with fail
        refine hfz.mono ?_
        rintro e w1 ⟨rfl, rfl⟩
        go_wp2_with fail
        go_ret
        exact ⟨ret_i64 HR1.out.symm, HT.out⟩
      · have hee : t.end_ = false := by rw [hend.out, hs]; exact decide_eq_false hn
        obtain ⟨n, hnn⟩ : ∃ n, n = 0 := ⟨_, rfl⟩
        obtain ⟨kq, kg⟩ := HQ.out.goN he n
        have kq2 := kq.below (Below.refl _ _).drew
        have hfr := qt_front kq2 1 z
        have HKC : Hid (∀ F' W, Qt P Q Q1 (.slice (some ⟨b, 0, none⟩) es.length cv) (es.set k ⟨z, t.num z, n⟩) F' (opFront t.L 1 z) t.m t.m t.g W → W.cell? ⟨P, 0, none⟩ = some (.pointer (some ⟨Q, 0, none⟩)) ∧ W.cell? ⟨P, 3, none⟩ = some (.slice (some ⟨b, 0, none⟩) N cv) ∧ W.cell? ⟨b, k * 3, none⟩ = some (.int .i64 z)) := hid (fun F' W k1 => by
          have hset : (es.set k ⟨z, t.num z, n⟩)[k]? = some ⟨z, t.num z, n⟩ := List.getElem?_set_self hk
          have hr := k1.row
          rw [List.length_set] at hr
          have h3 := k1.head.cell (i := 3) rfl
          rw [HN.out] at h3
          have hcz := World.ownsRow.cellAt hr (k * 3) (by omega)
          rw [(nc_at hset).1] at hcz
          exact ⟨k1.head.cell (i := 0) rfl, h3, hcz⟩)
        rw [HMM.out] at HKC
        have hd0 := kq.head.cell (i := 0) rfl
        have hd3 := kq.head.cell (i := 3) rfl
        rw [HN.out] at hd3
        have hdi := (World.cell?_setCell_other wc ⟨b, k * 3 + 2, none⟩ ⟨b, k * 3, none⟩ (.int .i64 (n : Nat)) (by intro e; injection e; omega)).trans hc0
        have HNX : Hid (∀ F' W, Qt P Q Q1 (.slice (some ⟨b, 0, none⟩) es.length cv) (es.set k ⟨z, t.num z, n⟩) F' (opFront t.L 1 z) mm mm t.g W → Stp (allF F) (allF F') (wc.setCell ⟨b, k * 3 + 2, none⟩ (.int .i64 (n : Nat))).drew W → At P G s N (i + 1) w t.look W) := hid (fun F' W k1 g1 => by
          have hm2 := HMM.out
          subst hm2
          exact At.next (v := .slice (some ⟨b, 0, none⟩) es.length cv) OK.out HV.out HP.out HL.out HG.out HST.out HY.out hat h0 he hee (by rw [hnn, hs]; rfl) k1 ((kg.trans (Stp.below (Below.refl _ _).drew)).trans g1))
        have hcn : ¬ ((t.cnt z : Nat) : Int) < 2 := by omega
        generalize t.cnt z = cn at *
        subst hnn
        rw [show ((0 : Nat) : Int) = 0 from rfl] at hfr hd0 hd3 hdi
        clear hend HQ HY hA he hn hl0 hl1 hR kq kg kq2
        generalize hW : wc.setCell ⟨b, k * 3 + 2, none⟩ (.int .i64 0) = w5 at *
        go_wp2_with fail
        refine hz0.mono ?_
        rintro e w1 ⟨rfl, rfl⟩
        go_wp2_with fail
        refine hfz.mono ?_
        rintro e w1 ⟨rfl, rfl⟩
        go_upto_region 10 with fail
        have hx0 : w5.drew.cell? ⟨P, 0, none⟩ = some (.pointer (some ⟨Q, 0, none⟩)) ∧ w5.drew.cell? ⟨P, 3, none⟩ = some (.slice (some ⟨b, 0, none⟩) N cv) ∧ w5.drew.cell? ⟨b, k * 3, none⟩ = some (.int .i64 z) := ⟨hd0, hd3, hdi⟩
        go_region_held3 (fun w' => w'.cell? ⟨P, 0, none⟩ = some (.pointer (some ⟨Q, 0, none⟩)) ∧ w'.cell? ⟨P, 3, none⟩ = some (.slice (some ⟨b, 0, none⟩) N cv) ∧ w'.cell? ⟨b, k * 3, none⟩ = some (.int .i64 z)) (first | exact hx1 | exact hx0) (first
          | (go_at_call 47; refine hfr.mono ?_; rintro e w6 ⟨rfl, F', k1, g1⟩; have hx1 := HKC.out F' _ k1; have hA2 := hid (HNX.out F' _ k1 g1)))
        clear hx1 hx0 k1 g1 hfr HNX HKC hd0 hd3 hdi hW
        go_wp2_with fail
        go_roundw
        case rel => exact ⟨i + 1, t.look, by go_num, by have := hA2.out.pot; omega, hA2⟩
        case measure => simp [RowKit.intOf] <;> omega
end Go.Proofs.Ytkhmgigllcgpnaa.Th
