/-
  The contracts of the document's own adaptive replacement's New, Touch, Victim, Evict and Cap. Conditions: it lies in memory.
-/
import Derived.Test.YtklmgmkeaipppaaArcRefCalls
import Derived.BigRegion
namespace Go.Proofs.Ytklmgmkeaipppaa.Ac
open Go Go.RowKit Go.Lib

set_option maxRecDepth 100000 in
theorem qr_touch {P : Nat} {G : Nat → Prop} {s : Ar} {w : World} (h : QR P G s w) (z : Int) :
    Calls Try.prog 30 #[.pointer (some ⟨P, 0, none⟩), .int .i64 z] w fun e w' => e = .returned (.bool (s.has z)) ∧ ∃ G', QR P G' (s.tch z) w' ∧ Stp G G' w w' := by
  have HQ := hid h
  obtain ⟨ok, Q, Q1, Q2, v, hs, F, hq, hsay, hG⟩ := h
  have c0 := hq.head.cell (i := 0) rfl
  have hr := rq_row hq.rows z
  cases hrow : rowOf s.L z with
  | none =>
    rw [rv_none hrow] at hr
    have hh : s.has z = false := by unfold Ar.has; rw [hrow]; rfl
    have e1 : Hid (s.has z = false) := hid hh
    have e2 : Hid (s.tch z = s) := hid (by unfold Ar.tch; rw [hh]; rfl)
    clear hq hsay hG ok hh hrow
    go_enter Try.func30, Try.ntmps30
    go_wp2_with fail
    refine hr.mono ?_
    rintro e w1 ⟨rfl, rfl⟩
    go_wp2_with fail
    go_ret
    exact ⟨ret_bool e1.out.symm, G, by rw [e2.out]; exact HQ.out, Stp.refl _ _⟩
  | some i =>
    rw [rv_some hrow] at hr
    have hh : s.has z = true := by unfold Ar.has; rw [hrow]; rfl
    have hm : z ∈ s.L.flatten := arow_some.1 hh
    have hMay : May s.L.length 1 z := may2 ok.two (by decide) (by decide) (decide_eq_true (ok.good.rng z hm))
    have e1 : Hid (s.has z = true) := hid hh
    have hf := qr_front hq 1 z
    rw [decide_eq_true hMay] at hf
    have oks := ok.tch z
    have HG : Hid (∀ F' w', Qr P Q Q1 Q2 v hs F' (opFront s.L 1 z) s.m s.m s.m s.b1 s.b2 s.p w' → Stp (allF F) (allF F') w w' → ∃ G', QR P G' (s.tch z) w' ∧ Stp G G' w w') := hid (fun F' w' k g => by
      have et : s.tch z = { s with L := opFront s.L 1 z } := by unfold Ar.tch; rw [hh]; rfl
      rw [et] at oks ⊢
      exact qr_go hG oks k (hsay.same (fun y => by rw [opF_mem hMay]; exact ⟨fun e => e.elim (fun e2 => e2 ▸ hm) id, .inr⟩)) g)
    clear hq hsay hG ok hh hrow HQ hm hMay oks
    go_enter Try.func30, Try.ntmps30
    go_wp2_with fail
    refine hr.mono ?_
    rintro e w1 ⟨rfl, rfl⟩
    go_wp2_with fail
    refine hf.mono ?_
    rintro e w1 ⟨rfl, F', k, g⟩
    have HR := hid (HG.out F' _ k g)
    clear k g hf HG hr c0
    go_wp2_with fail
    go_ret
    exact ⟨ret_bool e1.out.symm, HR.out⟩

set_option maxRecDepth 100000 in
set_option maxHeartbeats 1000000 in
theorem qr_victim {P : Nat} {G : Nat → Prop} {s : Ar} {w : World} (h : QR P G s w) (x : Int) :
    Calls Try.prog 35 #[.pointer (some ⟨P, 0, none⟩), .int .u64 x] w fun e w' => e = .returned (.int .i64 (s.vic x)) ∧ w = w' := by
  obtain ⟨ok, Q, Q1, Q2, v, hs, F, hq, hsay, hG⟩ := h
  have c0 := hq.head.cell (i := 0) rfl
  have c2 := hq.head.cell (i := 2) rfl
  have c4 := hq.head.cell (i := 4) rfl
  have hl0 := rq_len hq.rows 0
  have hl1 := rq_len hq.rows 1
  have h0 := rq_last hq.rows 0
  have h1 := rq_last hq.rows 1
  have hh := gq_has hq.g2 x
  have hV : Hid (s.vic x = if s.once x then lastOf (rowAt s.L 0) else lastOf (rowAt s.L 1)) := hid rfl
  have hO : s.once x = (decide (0 < (rowAt s.L 0).length) && (decide (s.p < (rowAt s.L 0).length) || (decide ((rowAt s.L 0).length = s.p) && decide (x ∈ s.b2)) || decide ((rowAt s.L 1).length = 0))) := rfl
  generalize lastOf (rowAt s.L 0) = V0 at *
  generalize lastOf (rowAt s.L 1) = V1 at *
  generalize (rowAt s.L 0).length = N0 at *
  generalize (rowAt s.L 1).length = N1 at *
  generalize decide (x ∈ s.b2) = T at *
  generalize s.once x = O at *
  generalize s.p = p at *
  have HO := hid hO
  clear hq hsay hG ok hO
  have hcase : (N0 = 0 ∧ Hid (s.vic x = V1)) ∨ ((0 : Int) < (N0 : Int) ∧ (p : Int) < (N0 : Int) ∧ Hid (s.vic x = V0)) ∨ ((0 : Int) < (N0 : Int) ∧ N0 = p ∧ T = true ∧ Hid (s.vic x = V0)) ∨
      ((0 : Int) < (N0 : Int) ∧ N0 = p ∧ T = false ∧ N1 = 0 ∧ Hid (s.vic x = V0)) ∨ ((0 : Int) < (N0 : Int) ∧ N0 = p ∧ T = false ∧ ¬ N1 = 0 ∧ Hid (s.vic x = V1)) ∨
      ((0 : Int) < (N0 : Int) ∧ (N0 : Int) < (p : Int) ∧ N1 = 0 ∧ Hid (s.vic x = V0)) ∨ ((0 : Int) < (N0 : Int) ∧ (N0 : Int) < (p : Int) ∧ ¬ N1 = 0 ∧ Hid (s.vic x = V1)) := by
    have hV' := hV.out
    rw [HO.out] at hV'
    by_cases a0 : N0 = 0
    · exact .inl ⟨a0, hid (by rw [hV', a0]; simp)⟩
    · by_cases a1 : p < N0
      · exact .inr (.inl ⟨by omega, by omega, hid (by rw [hV']; simp [a1, show 0 < N0 by omega])⟩)
      · by_cases a2 : N0 = p
        · cases hT : T
          · by_cases a3 : N1 = 0
            · exact .inr (.inr (.inr (.inl ⟨by omega, a2, rfl, a3, hid (by rw [hV', hT]; simp [a3, show 0 < N0 by omega])⟩)))
            · exact .inr (.inr (.inr (.inr (.inl ⟨by omega, a2, rfl, a3, hid (by rw [hV', hT]; simp [a3, a1])⟩))))
          · exact .inr (.inr (.inl ⟨by omega, a2, rfl, hid (by rw [hV', hT]; simp [a2, show 0 < p by omega])⟩))
        · by_cases a3 : N1 = 0
          · exact .inr (.inr (.inr (.inr (.inr (.inl ⟨by omega, by omega, a3, hid (by rw [hV']; simp [a3, show 0 < N0 by omega])⟩)))))
          · exact .inr (.inr (.inr (.inr (.inr (.inr ⟨by omega, by omega, a3, hid (by rw [hV']; simp [a3, a1, a2])⟩)))))
  clear hV HO
  go_enter Try.func35, Try.ntmps35
  go_wp2_with fail
  refine hl0.mono ?_
  rintro e w1 ⟨rfl, rfl⟩
  go_wp2_with fail
  refine hh.mono ?_
  rintro e w1 ⟨rfl, rfl⟩
  rcases hcase with ⟨a0, e⟩ | ⟨a0, a1, e⟩ | ⟨a0, a1, a2, e⟩ | ⟨a0, a1, a2, a3, e⟩ | ⟨a0, a1, a2, a3, e⟩ | ⟨a0, a1, a2, e⟩ | ⟨a0, a1, a2, e⟩
  · subst a0
    go_wp2_with fail
    refine h1.mono ?_
    rintro e w1 ⟨rfl, rfl⟩
    go_wp2_with fail
    go_ret
    exact ⟨ret_i64 e.out.symm, rfl⟩
  · go_wp2_with fail
    refine h0.mono ?_
    rintro e w1 ⟨rfl, rfl⟩
    go_wp2_with fail
    go_ret
    exact ⟨ret_i64 e.out.symm, rfl⟩
  · subst a1 a2
    go_wp2_with fail
    refine h0.mono ?_
    rintro e w1 ⟨rfl, rfl⟩
    go_wp2_with fail
    go_ret
    exact ⟨ret_i64 e.out.symm, rfl⟩
  · subst a1 a2 a3
    go_wp2_with fail
    refine hl1.mono ?_
    rintro e w1 ⟨rfl, rfl⟩
    go_wp2_with fail
    refine h0.mono ?_
    rintro e w1 ⟨rfl, rfl⟩
    go_wp2_with fail
    go_ret
    exact ⟨ret_i64 e.out.symm, rfl⟩
  · subst a1 a2
    have n1 : ((N1 : Int) == 0) = false := beq_eq_false_iff_ne.2 (by omega)
    go_wp2_with fail
    refine hl1.mono ?_
    rintro e w1 ⟨rfl, rfl⟩
    go_wp2_with fail
    refine h1.mono ?_
    rintro e w1 ⟨rfl, rfl⟩
    go_wp2_with fail
    go_ret
    exact ⟨ret_i64 e.out.symm, rfl⟩
  · subst a2
    have n1 : ((N0 : Int) == (p : Int)) = false := beq_eq_false_iff_ne.2 (by omega)
    have n2 : ¬ (p : Int) < (N0 : Int) := by omega
    go_wp2_with fail
    refine hl1.mono ?_
    rintro e w1 ⟨rfl, rfl⟩
    go_wp2_with fail
    refine h0.mono ?_
    rintro e w1 ⟨rfl, rfl⟩
    go_wp2_with fail
    go_ret
    exact ⟨ret_i64 e.out.symm, rfl⟩
  · have n1 : ((N1 : Int) == 0) = false := beq_eq_false_iff_ne.2 (by omega)
    have n3 : ((N0 : Int) == (p : Int)) = false := beq_eq_false_iff_ne.2 (by omega)
    have n2 : ¬ (p : Int) < (N0 : Int) := by omega
    go_wp2_with fail
    refine hl1.mono ?_
    rintro e w1 ⟨rfl, rfl⟩
    go_wp2_with fail
    refine h1.mono ?_
    rintro e w1 ⟨rfl, rfl⟩
    go_wp2_with fail
    go_ret
    exact ⟨ret_i64 e.out.symm, rfl⟩

theorem qr_drew {P : Nat} {G : Nat → Prop} {s : Ar} {w W : World} (h : ∃ G', QR P G' s W ∧ Stp G G' w W) : ∃ G', QR P G' s W.drew ∧ Stp G G' w W.drew := by
  obtain ⟨G', h1, h2⟩ := h
  exact ⟨G', h1.below (Below.refl _ _).drew, h2.trans (Stp.below (Below.refl _ _).drew)⟩

set_option maxRecDepth 100000 in
set_option maxHeartbeats 1000000 in
theorem qr_cap {P : Nat} {G : Nat → Prop} {s : Ar} {w : World} (h : QR P G s w) (n : Int) (q : -9223372036854775808 ≤ n ∧ n ≤ 9223372036854775807) :
    Calls Try.prog 34 #[.pointer (some ⟨P, 0, none⟩), .int .i64 n] w fun e w' => e = .returned (.tuple #[]) ∧ ∃ G', QR P G' (s.cap n) w' ∧ Stp G G' w w' := by
  obtain ⟨ok, Q, Q1, Q2, v, hs, F, hq, hsay, hG⟩ := h
  have oks := ok.cap q.2
  obtain ⟨k, hk⟩ : ∃ k, k = n.toNat := ⟨_, rfl⟩
  have hkb : (k : Int) ≤ 9223372036854775807 := by omega
  have f3 := hq.head.frozen 3
  have c3 := hq.head.cell (i := 3) rfl
  obtain ⟨hq1, g1⟩ := hq.goM k
  have c1 := hq.head.cell (i := 1) rfl
  have hA := qr_limA hq1 n q
  have hBl : Hid (∀ F' W, Qr P Q Q1 Q2 v hs F' s.L k n.toNat s.m (Gh.cutL n.toNat s.b1) s.b2 s.p W → Calls Try.prog 54 #[.pointer (some ⟨Q2, 0, none⟩), .int .i64 n] W fun e w' => e = .returned (.tuple #[]) ∧ ∃ F2, Qr P Q Q1 Q2 v hs F2 s.L k n.toNat n.toNat (Gh.cutL n.toNat s.b1) (Gh.cutL n.toNat s.b2) s.p w' ∧ Stp (allF F') (allF F2) W w') := hid (fun F' W k2 => qr_limB k2 n q)
  have HG : Hid (∀ F' W (p' : Nat), Qr P Q Q1 Q2 v hs F' s.L k n.toNat n.toNat (Gh.cutL n.toNat s.b1) (Gh.cutL n.toNat s.b2) s.p W → Stp (allF F) (allF F') w W → p' = min s.p k → ∃ G', QR P G' (s.cap n) (W.setCell ⟨P, 4, none⟩ (.int .i64 p')) ∧ Stp G G' w (W.setCell ⟨P, 4, none⟩ (.int .i64 p'))) := hid (fun F' W p' k2 g2 ep => by
    obtain ⟨k3, g3⟩ := k2.goP p'
    refine qr_go (Q := Q) (Q1 := Q1) (Q2 := Q2) (v := v) (F' := F') (s := s.cap n) hG oks ?_ hsay (g2.trans g3)
    rw [ep, hk] at k3 ⊢
    exact k3)
  have G1 := hid g1
  have hkn : Hid (k = n.toNat) := hid hk
  have hcase : (n < 0 ∧ k = 0) ∨ (0 ≤ n ∧ n = (k : Int)) := by omega
  generalize s.p = p at *
  clear hq hsay hG ok oks hq1 g1 q
  have key : ∀ (F' : Nat → Nat → Prop) (W : World), Qr P Q Q1 Q2 v hs F' s.L k n.toNat n.toNat (Gh.cutL n.toNat s.b1) (Gh.cutL n.toNat s.b2) p W → W.cell? ⟨P, 4, none⟩ = some (.int .i64 p) ∧ W.cell? ⟨P, 3, none⟩ = some (.int .i64 k) ∧ W.frozen? ⟨P, 4, none⟩ = false := fun F' W k2 => ⟨k2.head.cell (i := 4) rfl, k2.head.cell (i := 3) rfl, k2.head.frozen 4⟩
  have HK := hid key
  clear key hk
  rcases hcase with ⟨h0, rfl⟩ | ⟨h0, rfl⟩
  · rw [show ((0 : Nat) : Int) = 0 from rfl] at hA
    go_enter Try.func34, Try.ntmps34
    go_wp2_with fail
    refine hA.mono ?_
    rintro e w1 ⟨rfl, F1, k1, g1⟩
    have c2 := k1.head.cell (i := 2) rfl
    have hB := hBl.out _ _ k1
    have G2 := hid (G1.out.trans g1)
    clear hA k1 g1 hBl G1 c1
    go_wp2_with fail
    refine hB.mono ?_
    rintro e w2 ⟨rfl, F2, k2, g2⟩
    obtain ⟨d4, d3, f4⟩ := HK.out _ _ k2
    rw [show ((0 : Nat) : Int) = 0 from rfl] at d3
    have hfin := HG.out F2 w2 0 k2 (G2.out.trans g2) (by omega)
    have HF := hid hfin
    clear k2 g2 hB G2 hfin HG HK c2
    rcases Nat.eq_zero_or_pos p with hp | hp
    · subst hp
      rw [show ((0 : Nat) : Int) = 0 from rfl] at d4
      go_wp2_with fail
      go_region
      go_wp2_with fail
      go_end0
      exact ⟨rfl, qr_drew HF.out⟩
    · have hp0 : (0 : Int) < (p : Int) := by omega
      go_wp2_with fail
      go_region
      go_wp2_with fail
      go_end0
      exact ⟨rfl, qr_drew HF.out⟩
  · go_enter Try.func34, Try.ntmps34
    go_wp2_with fail
    refine hA.mono ?_
    rintro e w1 ⟨rfl, F1, k1, g1⟩
    have c2 := k1.head.cell (i := 2) rfl
    have hB := hBl.out _ _ k1
    have G2 := hid (G1.out.trans g1)
    clear hA k1 g1 hBl G1 c1
    go_wp2_with fail
    refine hB.mono ?_
    rintro e w2 ⟨rfl, F2, k2, g2⟩
    obtain ⟨d4, d3, f4⟩ := HK.out _ _ k2
    have hfin := fun p' => HG.out F2 w2 p' k2 (G2.out.trans g2)
    have HF := hid hfin
    clear k2 g2 hB G2 hfin HG HK c2
    rcases Nat.lt_or_ge k p with hp | hp
    · have h1 : (k : Int) < (p : Int) := by omega
      have HF2 := hid (HF.out k (by omega))
      go_wp2_with fail
      go_region
      go_wp2_with fail
      go_end0
      exact ⟨rfl, qr_drew HF2.out⟩
    · have h1 : (p : Int) ≤ (k : Int) := by omega
      have HF2 := hid (HF.out p (by omega))
      go_wp2_with fail
      go_region
      go_wp2_with fail
      go_end0
      exact ⟨rfl, qr_drew HF2.out⟩

theorem row_lt2 {L : List (List Int)} (h : L.length = 2) {z : Int} {i : Nat} (e : rowOf L z = some i) : i = 0 ∨ i = 1 := by
  obtain ⟨l, hl, _⟩ := rowOf_mem e
  have := (List.getElem?_eq_some_iff.1 hl).1
  omega

set_option maxRecDepth 100000 in
set_option maxHeartbeats 1000000 in
theorem qr_evict {P : Nat} {G : Nat → Prop} {s : Ar} {w : World} (h : QR P G s w) (hb1 : s.b1.length < 4194304) (hb2 : s.b2.length < 4194304) (z : Int) :
    Calls Try.prog 33 #[.pointer (some ⟨P, 0, none⟩), .int .i64 z] w fun e w' => e = .returned (.bool (s.has z)) ∧ ∃ G', QR P G' (s.evict z) w' ∧ Stp G G' w w' := by
  have HQ := hid h
  obtain ⟨ok, Q, Q1, Q2, v, hs, F, hq, hsay, hG⟩ := h
  have c0 := hq.head.cell (i := 0) rfl
  have c1 := hq.head.cell (i := 1) rfl
  have c2 := hq.head.cell (i := 2) rfl
  have hr := rq_row hq.rows z
  have hn := qr_number hq hsay ok.zero z
  have HV : Hid (∀ s1 G1 W, QR P G1 s1 W → s1.has z = s.has z → s1.rem z = s.evict z → Stp G G1 w W → Calls Try.prog 32 #[.pointer (some ⟨P, 0, none⟩), .int .i64 z] W fun e w' => e = .returned (.bool (s.has z)) ∧ ∃ G', QR P G' (s.evict z) w' ∧ Stp G G' w w') := hid (fun s1 G1 W k e1 e2 g => by
    refine (qr_remove k z).mono ?_
    rintro e w' ⟨he, G2, k2, g2⟩
    exact ⟨by rw [he, e1], G2, by rw [← e2]; exact k2, g.trans g2⟩)
  have oko := ok.out z
  cases hrow : rowOf s.L z with
  | none =>
    rw [rv_none hrow] at hr
    have ho : s.out z = s := by unfold Ar.out; rw [hrow]
    have hR := HV.out s G w HQ.out rfl (by unfold Ar.evict; rw [ho]) (Stp.refl _ _)
    generalize s.num z = x at *
    clear hq hsay hG ok HQ HV ho oko hrow
    go_enter Try.func33, Try.ntmps33
    go_wp2_with fail
    refine hr.mono ?_
    rintro e w1 ⟨rfl, rfl⟩
    go_wp2_with fail
    refine hn.mono ?_
    rintro e w1 ⟨rfl, rfl⟩
    go_wp2_with fail
    refine hR.mono ?_
    rintro e w1 ⟨rfl, hF⟩
    have HF := hid hF
    clear hF hR
    go_wp2_with fail
    go_ret
    exact ⟨rfl, HF.out⟩
  | some i =>
    rw [rv_some hrow] at hr
    rcases row_lt2 ok.two hrow with rfl | rfl
    · have ho : s.out z = { s with b1 := Gh.addL s.m s.b1 (s.num z) } := by unfold Ar.out; rw [hrow]; rfl
      have hA := qr_addA hq (s.num z) hb1
      have HG : Hid (∀ F' W, Qr P Q Q1 Q2 v hs F' s.L s.m s.m s.m (Gh.addL s.m s.b1 (s.num z)) s.b2 s.p W → Stp (allF F) (allF F') w W → Calls Try.prog 32 #[.pointer (some ⟨P, 0, none⟩), .int .i64 z] W fun e w' => e = .returned (.bool (s.has z)) ∧ ∃ G', QR P G' (s.evict z) w' ∧ Stp G G' w w') := hid (fun F' W k g => by
        rw [ho] at oko
        obtain ⟨G1, k1, g1⟩ := qr_go hG oko k hsay g
        exact HV.out _ G1 W k1 rfl (by unfold Ar.evict; rw [ho]) g1)
      rw [show ((0 : Nat) : Int) = 0 from rfl] at hr
      generalize s.num z = x at *
      clear hq hsay hG ok HQ HV ho oko hrow
      go_enter Try.func33, Try.ntmps33
      go_wp2_with fail
      refine hr.mono ?_
      rintro e w1 ⟨rfl, rfl⟩
      go_wp2_with fail
      refine hn.mono ?_
      rintro e w1 ⟨rfl, rfl⟩
      go_wp2_with fail
      refine hA.mono ?_
      rintro e w1 ⟨rfl, F', k, g⟩
      have hR := HG.out F' _ k g
      clear k g hA HG hr hn c0 c1 c2
      go_wp2_with fail
      refine hR.mono ?_
      rintro e w1 ⟨rfl, hF⟩
      have HF := hid hF
      clear hF hR
      go_wp2_with fail
      go_ret
      exact ⟨rfl, HF.out⟩
    · have ho : s.out z = { s with b2 := Gh.addL s.m s.b2 (s.num z) } := by unfold Ar.out; rw [hrow]; rfl
      have hA := qr_addB hq (s.num z) hb2
      have HG : Hid (∀ F' W, Qr P Q Q1 Q2 v hs F' s.L s.m s.m s.m s.b1 (Gh.addL s.m s.b2 (s.num z)) s.p W → Stp (allF F) (allF F') w W → Calls Try.prog 32 #[.pointer (some ⟨P, 0, none⟩), .int .i64 z] W fun e w' => e = .returned (.bool (s.has z)) ∧ ∃ G', QR P G' (s.evict z) w' ∧ Stp G G' w w') := hid (fun F' W k g => by
        rw [ho] at oko
        obtain ⟨G1, k1, g1⟩ := qr_go hG oko k hsay g
        exact HV.out _ G1 W k1 rfl (by unfold Ar.evict; rw [ho]) g1)
      rw [show ((1 : Nat) : Int) = 1 from rfl] at hr
      generalize s.num z = x at *
      clear hq hsay hG ok HQ HV ho oko hrow
      go_enter Try.func33, Try.ntmps33
      go_wp2_with fail
      refine hr.mono ?_
      rintro e w1 ⟨rfl, rfl⟩
      go_wp2_with fail
      refine hn.mono ?_
      rintro e w1 ⟨rfl, rfl⟩
      go_wp2_with fail
      refine hA.mono ?_
      rintro e w1 ⟨rfl, F', k, g⟩
      have hR := HG.out F' _ k g
      clear k g hA HG hr hn c0 c1 c2
      go_wp2_with fail
      refine hR.mono ?_
      rintro e w1 ⟨rfl, hF⟩
      have HF := hid hF
      clear hF hR
      go_wp2_with fail
      go_ret
      exact ⟨rfl, HF.out⟩
end Go.Proofs.Ytklmgmkeaipppaa.Ac
