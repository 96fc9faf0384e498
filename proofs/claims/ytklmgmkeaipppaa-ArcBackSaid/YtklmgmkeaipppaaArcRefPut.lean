/-
  The contract of the document's own adaptive replacement's Insert. Conditions: it lies in memory; its target and its ghosts are not over long.
-/
import Derived.Test.YtklmgmkeaipppaaM7
namespace Go.Proofs.Ytklmgmkeaipppaa.Ac
open Go Go.RowKit Go.Lib

/-- The end of Insert: one more in the row of numbers. -/
theorem ins_end {P Q Q1 Q2 : Nat} {v : Value} {hs : List (Int × Int)} {G : Nat → Prop} {F F1 : Nat → Nat → Prop} {s t : Ar} {w w1 : World} (hG : ∀ b, G b ↔ allF F b) (ht : t.Ok) (z x : Int)
    (hsay : Says (hs ++ [(z, x)]) t.L t.num) (hlen : hs.length + 1 ≤ 4194304) (_ : s = s) (h : Qr P Q Q1 Q2 v hs F1 t.L t.m t.m t.m t.b1 t.b2 t.p w1) (g : Stp (allF F) (allF F1) w w1) :
    w1.cell? ⟨P, 5, none⟩ = some v ∧ w1.ownsRow 0 88 2 v hs.length (nc hs) ∧
    ∀ v6 w6, w6.ownsRow 0 88 2 v6 (hs.length + 1) (nc hs ++ [.int .i64 z, .int .u64 x]) → (w1.alloc (.cells #[.int .i64 z, .int .u64 x] 88)).grownBy w6 v.ownBlock → (v6.ownBlock = v.ownBlock ∨ v6.ownBlock = some (w1.alloc (.cells #[.int .i64 z, .int .u64 x] 88)).heap.size) →
      (∃ G', QR P G' t (w6.setCell ⟨P, 5, none⟩ v6) ∧ Stp G G' w (w6.setCell ⟨P, 5, none⟩ v6)) ∧ w6.frozen? ⟨P, 5, none⟩ = false ∧ w6.cell? ⟨P, 5, none⟩ = some v := by
  refine ⟨h.head.cell (i := 5) rfl, h.row, fun v6 w6 o6 g6 l6 => ?_⟩
  obtain ⟨⟨F', k1, k2⟩, k3, k4⟩ := h.snoc z x hlen v6 w6 o6 g6 l6
  exact ⟨qr_go (Q := Q) (Q1 := Q1) (Q2 := Q2) (v := v6) (F' := F') hG ht k1 hsay (g.trans k2), k3, k4⟩

set_option maxRecDepth 100000 in
set_option maxHeartbeats 4000000 in
theorem qr_insert {P : Nat} {G : Nat → Prop} {s : Ar} {w : World} (h : QR P G s w) (z x : Int) (hp : (s.p : Int) ≤ 4611686018427387904) :
    Calls Try.prog 29 #[.pointer (some ⟨P, 0, none⟩), .int .i64 z, .int .u64 x] w fun e w' => e = .returned (.bool (s.insB z)) ∧ ∃ G', QR P G' (s.ins z x) w' ∧ Stp G G' w w' := by
  have HQ := hid h
  obtain ⟨ok, Q, Q1, Q2, v, hs, F, hq, hsay, hG⟩ := h
  have c0 := hq.head.cell (i := 0) rfl
  have c1 := hq.head.cell (i := 1) rfl
  have c2 := hq.head.cell (i := 2) rfl
  have c3 := hq.head.cell (i := 3) rfl
  have c4 := hq.head.cell (i := 4) rfl
  have f4 := hq.head.frozen 4
  have hr := rq_row hq.rows z
  cases hrow : rowOf s.L z with
  | some i =>
    rw [rv_some hrow] at hr
    have hh : s.has z = true := by unfold Ar.has; rw [hrow]; rfl
    have e1 : Hid (s.insB z = false) := hid (by unfold Ar.insB; rw [hh]; rfl)
    have e2 : Hid (s.ins z x = s) := hid (by unfold Ar.ins; rw [e1.out]; rfl)
    clear hq hsay hG ok hh hrow
    go_enter Try.func29, Try.ntmps29
    go_wp2_with fail
    refine hr.mono ?_
    rintro e w1 ⟨rfl, rfl⟩
    go_wp2_with fail
    go_ret
    exact ⟨ret_bool e1.out.symm, G, by rw [e2.out]; exact HQ.out, Stp.refl _ _⟩
  | none =>
    rw [rv_none hrow] at hr
    have hh : s.has z = false := by unfold Ar.has; rw [hrow]; rfl
    by_cases hz : 0 ≤ z ∧ z ≤ 4194303
    · have hk : okId z = true := decide_eq_true hz
      have hB : s.insB z = true := by unfold Ar.insB; rw [hh, hk]; rfl
      have e1 : Hid (s.insB z = true) := hid hB
      have hzn : z ∉ s.L.flatten := rowOf_none'.1 hrow
      have oks := ok.ins z x
      have hlen : hs.length + 1 ≤ 4194304 := by
        have h1 := hsay.snoc (x := x) hzn (fun y => opF_mem (may2 ok.two (by decide) (by decide) hk) (r := 0))
        have := h1.len (opF_good ok.good 0 z)
        simpa using this
      have hf0 := fun F1 W (k : Qr P Q Q1 Q2 v hs F1 s.L s.m s.m s.m s.b1 s.b2 s.p W) => qr_front k 0 z
      have l1 := hq.g1.len
      have l2 := hq.g2.len
      obtain ⟨i0, hi0, hz0, hz1, hz2⟩ := info_parts infoNamed
      obtain ⟨z0, z1⟩ := hz
      have hh1 := gq_has hq.g1 x
      have hh2 := gq_has hq.g2 x
      by_cases a1 : x ∈ s.b1
      · rw [decide_eq_true a1] at hh1
        obtain ⟨p', hp'⟩ : ∃ p', p' = min s.m (s.p + max 1 (s.b2.length / s.b1.length)) := ⟨_, rfl⟩
        have hpb : (p' : Int) ≤ 9223372036854775807 := by have := ok.mb; omega
        have et : s.ins z x = ⟨opFront s.L 1 z, s.m, Gh.rmL s.b1 x, s.b2, p', updN s.num z x⟩ := by unfold Ar.ins; rw [if_pos hB, if_pos a1, hp']
        have hM : May s.L.length 1 z := may2 ok.two (by decide) (by decide) hk
        obtain ⟨kp, gp⟩ := hq.goP p'
        have kp2 := kp.below (Below.refl _ _).drew
        have gp2 : Stp (allF F) (allF F) w (w.setCell ⟨P, 4, none⟩ (.int .i64 p')).drew := gp.trans (Stp.below (Below.refl _ _).drew)
        have hrm := qr_rmA kp2 x
        have HFR : Hid (∀ F1 W, Qr P Q Q1 Q2 v hs F1 s.L s.m s.m s.m (Gh.rmL s.b1 x) s.b2 p' W → W.cell? ⟨P, 0, none⟩ = some (.pointer (some ⟨Q, 0, none⟩)) ∧ Calls Try.prog 49 #[.pointer (some ⟨Q, 0, none⟩), .int .i64 1, .int .i64 z] W fun e w' => e = .returned (.bool (decide (May s.L.length 1 z))) ∧ ∃ F', Qr P Q Q1 Q2 v hs F' (opFront s.L 1 z) s.m s.m s.m (Gh.rmL s.b1 x) s.b2 p' w' ∧ Stp (allF F1) (allF F') W w') := hid (fun F1 W k => ⟨k.head.cell (i := 0) rfl, qr_front k 1 z⟩)
        have HE : Hid (∀ F1 W, Qr P Q Q1 Q2 v hs F1 (opFront s.L 1 z) s.m s.m s.m (Gh.rmL s.b1 x) s.b2 p' W → Stp (allF F) (allF F1) w W → _) := hid (fun F1 W k g => ins_end (s := s) (t := s.ins z x) hG oks z x (by rw [et]; exact hsay.snoc hzn (fun y => opF_mem hM)) hlen rfl (by rw [et]; exact k) g)
        have GP := hid gp2
        obtain ⟨aa, ca, d1, _⟩ := hq.g1.row
        obtain ⟨ab, cb, d2, _⟩ := hq.g2.row
        have hK1 : 0 < s.b1.length := List.length_pos_of_mem a1
        obtain ⟨K, hK⟩ : ∃ K, K = hs.length := ⟨_, rfl⟩
        rw [← hK] at HE hlen
        have hm := ok.mb
        clear hq hsay oks hrow hh hzn hf0 a1 et hM hk HQ hK kp gp kp2 gp2
        generalize s.b1.length = K1 at *
        generalize s.b2.length = K2 at *
        obtain ⟨D, hD⟩ : ∃ D, D = K2 / K1 := ⟨_, rfl⟩
        have hDb : D ≤ 4194304 := by rw [hD]; exact Nat.le_trans (Nat.div_le_self _ _) l2
        have q1 : ((K2 : Int) / (K1 : Int)) = (D : Int) := by rw [hD]; exact (Int.natCast_ediv _ _).symm
        rw [← hD] at hp'
        have hne : ¬ (K1 : Int) = 0 := by omega
        have hne2 : ¬ K1 = 0 := by omega
        generalize s.m = mm at *
        generalize s.p = pp at *
        have hcase : ∃ (E S : Nat), S = pp + E ∧ ((D ≤ 1 ∧ (D : Int) ≤ 1 ∧ E = 1) ∨ (1 < D ∧ (1 : Int) < (D : Int) ∧ E = D)) ∧ ((S < mm ∧ (S : Int) < (mm : Int) ∧ p' = S) ∨ (mm ≤ S ∧ (mm : Int) ≤ (S : Int) ∧ p' = mm)) := by
          refine ⟨max 1 D, pp + max 1 D, rfl, by omega, by omega⟩
        obtain ⟨E, S, hS, hc1, hc2⟩ := hcase
        have q2 : (pp : Int) + (E : Int) = (S : Int) := by omega
        have q3 : (S : Int) ≤ 4611686018431582208 := by omega
        clear hp' hD hpb hm ok hB
        go_enter Try.func29, Try.ntmps29
        go_wp2_with fail
        refine hr.mono ?_
        rintro e w1 ⟨rfl, rfl⟩
        go_wp2_with fail
        refine hh1.mono ?_
        rintro e w1 ⟨rfl, rfl⟩
        go_wp2_with fail
        refine hh2.mono ?_
        rintro e w1 ⟨rfl, rfl⟩
        clear hr hh1 hh2
        rcases hc1 with ⟨_, k1, rfl⟩ | ⟨_, k1, rfl⟩
        · replace q2 : (pp : Int) + 1 = (S : Int) := by omega
          clear hS
          rcases hc2 with ⟨_, k2, rfl⟩ | ⟨_, k2, rfl⟩
          all_goals
            go_wp2_with fail
            go_region
            go_wp2_with fail
            refine hrm.mono ?_
            rintro e w1 ⟨rfl, F1, k, g⟩
            obtain ⟨c0, hfr⟩ := HFR.out F1 _ k
            have G1 := hid (GP.out.trans g)
            clear k g hrm HFR GP
            go_wp2_with fail
            refine hfr.mono ?_
            rintro e w2 ⟨rfl, F2, k, g⟩
            obtain ⟨c5, hown, hS⟩ := HE.out F2 _ k (G1.out.trans g)
            have HS := hid hS
            obtain ⟨av, cv, rfl⟩ := row2_form hown
            clear k g hfr HE hS G1
            go_wp2_with (at_builtin; refine wpList_append_own_at _ rfl _ _ 35 rfl 0 88 i0 (.agg #[.int .i64 0, .int .u64 0]) 2 16 Try.underlying35 hi0 hz0 hz1 hz2 rfl (by decide) (.slice av K cv) _ _ rfl (hown.alloc _) ⟨w2.heap.size, 0, none⟩ 1 1 [.int .i64 z, .int .u64 x] rfl rfl (two_cell _ _ _ _) (two_ok _ _) (by unfold maxLen; omega) (by omega) (by simp) ?_; intro v6 w6 hown6 hgrow6 hnil6 hloc6; obtain ⟨a6, d6, rfl⟩ := row2_form hown6; obtain ⟨hg6, hf6, hc6⟩ := HS.out _ w6 hown6 hgrow6 hloc6; have HG := hid hg6; clear hg6 hown6 hgrow6 hnil6 hloc6 hown HS c5)
            go_ret
            exact ⟨ret_bool e1.out.symm, HG.out⟩
        · clear hS
          rcases hc2 with ⟨_, k2, rfl⟩ | ⟨_, k2, rfl⟩
          all_goals
            go_wp2_with fail
            go_region
            go_wp2_with fail
            refine hrm.mono ?_
            rintro e w1 ⟨rfl, F1, k, g⟩
            obtain ⟨c0, hfr⟩ := HFR.out F1 _ k
            have G1 := hid (GP.out.trans g)
            clear k g hrm HFR GP
            go_wp2_with fail
            refine hfr.mono ?_
            rintro e w2 ⟨rfl, F2, k, g⟩
            obtain ⟨c5, hown, hS⟩ := HE.out F2 _ k (G1.out.trans g)
            have HS := hid hS
            obtain ⟨av, cv, rfl⟩ := row2_form hown
            clear k g hfr HE hS G1
            go_wp2_with (at_builtin; refine wpList_append_own_at _ rfl _ _ 35 rfl 0 88 i0 (.agg #[.int .i64 0, .int .u64 0]) 2 16 Try.underlying35 hi0 hz0 hz1 hz2 rfl (by decide) (.slice av K cv) _ _ rfl (hown.alloc _) ⟨w2.heap.size, 0, none⟩ 1 1 [.int .i64 z, .int .u64 x] rfl rfl (two_cell _ _ _ _) (two_ok _ _) (by unfold maxLen; omega) (by omega) (by simp) ?_; intro v6 w6 hown6 hgrow6 hnil6 hloc6; obtain ⟨a6, d6, rfl⟩ := row2_form hown6; obtain ⟨hg6, hf6, hc6⟩ := HS.out _ w6 hown6 hgrow6 hloc6; have HG := hid hg6; clear hg6 hown6 hgrow6 hnil6 hloc6 hown HS c5)
            go_ret
            exact ⟨ret_bool e1.out.symm, HG.out⟩
      · rw [decide_eq_false a1] at hh1
        by_cases a2 : x ∈ s.b2
        · rw [decide_eq_true a2] at hh2
          obtain ⟨p', hp'⟩ : ∃ p', p' = s.p - max 1 (s.b1.length / s.b2.length) := ⟨_, rfl⟩
          have hpb : (p' : Int) ≤ 9223372036854775807 := by omega
          have et : s.ins z x = ⟨opFront s.L 1 z, s.m, s.b1, Gh.rmL s.b2 x, p', updN s.num z x⟩ := by unfold Ar.ins; rw [if_pos hB, if_neg a1, if_pos a2, hp']
          have hM : May s.L.length 1 z := may2 ok.two (by decide) (by decide) hk
          obtain ⟨kp, gp⟩ := hq.goP p'
          have kp2 := kp.below (Below.refl _ _).drew
          have gp2 : Stp (allF F) (allF F) w (w.setCell ⟨P, 4, none⟩ (.int .i64 p')).drew := gp.trans (Stp.below (Below.refl _ _).drew)
          have hrm := qr_rmB kp2 x
          have HFR : Hid (∀ F1 W, Qr P Q Q1 Q2 v hs F1 s.L s.m s.m s.m s.b1 (Gh.rmL s.b2 x) p' W → W.cell? ⟨P, 0, none⟩ = some (.pointer (some ⟨Q, 0, none⟩)) ∧ Calls Try.prog 49 #[.pointer (some ⟨Q, 0, none⟩), .int .i64 1, .int .i64 z] W fun e w' => e = .returned (.bool (decide (May s.L.length 1 z))) ∧ ∃ F', Qr P Q Q1 Q2 v hs F' (opFront s.L 1 z) s.m s.m s.m s.b1 (Gh.rmL s.b2 x) p' w' ∧ Stp (allF F1) (allF F') W w') := hid (fun F1 W k => ⟨k.head.cell (i := 0) rfl, qr_front k 1 z⟩)
          have HE : Hid (∀ F1 W, Qr P Q Q1 Q2 v hs F1 (opFront s.L 1 z) s.m s.m s.m s.b1 (Gh.rmL s.b2 x) p' W → Stp (allF F) (allF F1) w W → _) := hid (fun F1 W k g => ins_end (s := s) (t := s.ins z x) hG oks z x (by rw [et]; exact hsay.snoc hzn (fun y => opF_mem hM)) hlen rfl (by rw [et]; exact k) g)
          have GP := hid gp2
          obtain ⟨aa, ca, d1, _⟩ := hq.g1.row
          obtain ⟨ab, cb, d2, _⟩ := hq.g2.row
          have hK1 : 0 < s.b2.length := List.length_pos_of_mem a2
          obtain ⟨K, hK⟩ : ∃ K, K = hs.length := ⟨_, rfl⟩
          rw [← hK] at HE hlen
          have hm := ok.mb
          clear hq hsay oks hrow hh hzn hf0 a1 a2 et hM hk HQ hK kp gp kp2 gp2
          generalize s.b1.length = K1 at *
          generalize s.b2.length = K2 at *
          obtain ⟨D, hD⟩ : ∃ D, D = K1 / K2 := ⟨_, rfl⟩
          have hDb : D ≤ 4194304 := by rw [hD]; exact Nat.le_trans (Nat.div_le_self _ _) l1
          have q1 : ((K1 : Int) / (K2 : Int)) = (D : Int) := by rw [hD]; exact (Int.natCast_ediv _ _).symm
          rw [← hD] at hp'
          have hne : ¬ (K2 : Int) = 0 := by omega
          have hne2 : ¬ K2 = 0 := by omega
          generalize s.m = mm at *
          generalize s.p = pp at *
          have hcase : ∃ (E : Nat), ((D ≤ 1 ∧ (D : Int) ≤ 1 ∧ E = 1) ∨ (1 < D ∧ (1 : Int) < (D : Int) ∧ E = D)) ∧ ((E < pp ∧ (0 : Int) < (pp : Int) - (E : Int) ∧ (pp : Int) - (E : Int) = (p' : Int)) ∨ (pp ≤ E ∧ (pp : Int) - (E : Int) ≤ 0 ∧ p' = 0)) := by
            refine ⟨max 1 D, by omega, by omega⟩
          obtain ⟨E, hc1, hc2⟩ := hcase
          clear hp' hD hpb hm ok hB
          go_enter Try.func29, Try.ntmps29
          go_wp2_with fail
          refine hr.mono ?_
          rintro e w1 ⟨rfl, rfl⟩
          go_wp2_with fail
          refine hh1.mono ?_
          rintro e w1 ⟨rfl, rfl⟩
          go_wp2_with fail
          refine hh2.mono ?_
          rintro e w1 ⟨rfl, rfl⟩
          clear hr hh1 hh2
          rcases hc1 with ⟨_, k1, rfl⟩ | ⟨_, k1, rfl⟩
          · rcases hc2 with ⟨_, k2, k3⟩ | ⟨_, k2, rfl⟩
            · have k3 : (pp : Int) - 1 = (p' : Int) := by omega
              have k2 : (0 : Int) < (p' : Int) := by omega
              go_wp2_with fail
              go_region
              go_wp2_with fail
              refine hrm.mono ?_
              rintro e w1 ⟨rfl, F1, k, g⟩
              obtain ⟨c0, hfr⟩ := HFR.out F1 _ k
              have G1 := hid (GP.out.trans g)
              clear k g hrm HFR GP
              go_wp2_with fail
              refine hfr.mono ?_
              rintro e w2 ⟨rfl, F2, k, g⟩
              obtain ⟨c5, hown, hS⟩ := HE.out F2 _ k (G1.out.trans g)
              have HS := hid hS
              obtain ⟨av, cv, rfl⟩ := row2_form hown
              clear k g hfr HE hS G1
              go_wp2_with (at_builtin; refine wpList_append_own_at _ rfl _ _ 35 rfl 0 88 i0 (.agg #[.int .i64 0, .int .u64 0]) 2 16 Try.underlying35 hi0 hz0 hz1 hz2 rfl (by decide) (.slice av K cv) _ _ rfl (hown.alloc _) ⟨w2.heap.size, 0, none⟩ 1 1 [.int .i64 z, .int .u64 x] rfl rfl (two_cell _ _ _ _) (two_ok _ _) (by unfold maxLen; omega) (by omega) (by simp) ?_; intro v6 w6 hown6 hgrow6 hnil6 hloc6; obtain ⟨a6, d6, rfl⟩ := row2_form hown6; obtain ⟨hg6, hf6, hc6⟩ := HS.out _ w6 hown6 hgrow6 hloc6; have HG := hid hg6; clear hg6 hown6 hgrow6 hnil6 hloc6 hown HS c5)
              go_ret
              exact ⟨ret_bool e1.out.symm, HG.out⟩
            · have k2 : (pp : Int) - 1 ≤ 0 := by omega
              rw [show ((0 : Nat) : Int) = 0 from rfl] at hrm
              go_wp2_with fail
              go_region
              go_wp2_with fail
              refine hrm.mono ?_
              rintro e w1 ⟨rfl, F1, k, g⟩
              obtain ⟨c0, hfr⟩ := HFR.out F1 _ k
              have G1 := hid (GP.out.trans g)
              clear k g hrm HFR GP
              go_wp2_with fail
              refine hfr.mono ?_
              rintro e w2 ⟨rfl, F2, k, g⟩
              obtain ⟨c5, hown, hS⟩ := HE.out F2 _ k (G1.out.trans g)
              have HS := hid hS
              obtain ⟨av, cv, rfl⟩ := row2_form hown
              clear k g hfr HE hS G1
              go_wp2_with (at_builtin; refine wpList_append_own_at _ rfl _ _ 35 rfl 0 88 i0 (.agg #[.int .i64 0, .int .u64 0]) 2 16 Try.underlying35 hi0 hz0 hz1 hz2 rfl (by decide) (.slice av K cv) _ _ rfl (hown.alloc _) ⟨w2.heap.size, 0, none⟩ 1 1 [.int .i64 z, .int .u64 x] rfl rfl (two_cell _ _ _ _) (two_ok _ _) (by unfold maxLen; omega) (by omega) (by simp) ?_; intro v6 w6 hown6 hgrow6 hnil6 hloc6; obtain ⟨a6, d6, rfl⟩ := row2_form hown6; obtain ⟨hg6, hf6, hc6⟩ := HS.out _ w6 hown6 hgrow6 hloc6; have HG := hid hg6; clear hg6 hown6 hgrow6 hnil6 hloc6 hown HS c5)
              go_ret
              exact ⟨ret_bool e1.out.symm, HG.out⟩
          · rcases hc2 with ⟨_, k2, k3⟩ | ⟨_, k2, rfl⟩
            · have k2 : (0 : Int) < (p' : Int) := by omega
              go_wp2_with fail
              go_region
              go_wp2_with fail
              refine hrm.mono ?_
              rintro e w1 ⟨rfl, F1, k, g⟩
              obtain ⟨c0, hfr⟩ := HFR.out F1 _ k
              have G1 := hid (GP.out.trans g)
              clear k g hrm HFR GP
              go_wp2_with fail
              refine hfr.mono ?_
              rintro e w2 ⟨rfl, F2, k, g⟩
              obtain ⟨c5, hown, hS⟩ := HE.out F2 _ k (G1.out.trans g)
              have HS := hid hS
              obtain ⟨av, cv, rfl⟩ := row2_form hown
              clear k g hfr HE hS G1
              go_wp2_with (at_builtin; refine wpList_append_own_at _ rfl _ _ 35 rfl 0 88 i0 (.agg #[.int .i64 0, .int .u64 0]) 2 16 Try.underlying35 hi0 hz0 hz1 hz2 rfl (by decide) (.slice av K cv) _ _ rfl (hown.alloc _) ⟨w2.heap.size, 0, none⟩ 1 1 [.int .i64 z, .int .u64 x] rfl rfl (two_cell _ _ _ _) (two_ok _ _) (by unfold maxLen; omega) (by omega) (by simp) ?_; intro v6 w6 hown6 hgrow6 hnil6 hloc6; obtain ⟨a6, d6, rfl⟩ := row2_form hown6; obtain ⟨hg6, hf6, hc6⟩ := HS.out _ w6 hown6 hgrow6 hloc6; have HG := hid hg6; clear hg6 hown6 hgrow6 hnil6 hloc6 hown HS c5)
              go_ret
              exact ⟨ret_bool e1.out.symm, HG.out⟩
            · rw [show ((0 : Nat) : Int) = 0 from rfl] at hrm
              go_wp2_with fail
              go_region
              go_wp2_with fail
              refine hrm.mono ?_
              rintro e w1 ⟨rfl, F1, k, g⟩
              obtain ⟨c0, hfr⟩ := HFR.out F1 _ k
              have G1 := hid (GP.out.trans g)
              clear k g hrm HFR GP
              go_wp2_with fail
              refine hfr.mono ?_
              rintro e w2 ⟨rfl, F2, k, g⟩
              obtain ⟨c5, hown, hS⟩ := HE.out F2 _ k (G1.out.trans g)
              have HS := hid hS
              obtain ⟨av, cv, rfl⟩ := row2_form hown
              clear k g hfr HE hS G1
              go_wp2_with (at_builtin; refine wpList_append_own_at _ rfl _ _ 35 rfl 0 88 i0 (.agg #[.int .i64 0, .int .u64 0]) 2 16 Try.underlying35 hi0 hz0 hz1 hz2 rfl (by decide) (.slice av K cv) _ _ rfl (hown.alloc _) ⟨w2.heap.size, 0, none⟩ 1 1 [.int .i64 z, .int .u64 x] rfl rfl (two_cell _ _ _ _) (two_ok _ _) (by unfold maxLen; omega) (by omega) (by simp) ?_; intro v6 w6 hown6 hgrow6 hnil6 hloc6; obtain ⟨a6, d6, rfl⟩ := row2_form hown6; obtain ⟨hg6, hf6, hc6⟩ := HS.out _ w6 hown6 hgrow6 hloc6; have HG := hid hg6; clear hg6 hown6 hgrow6 hnil6 hloc6 hown HS c5)
              go_ret
              exact ⟨ret_bool e1.out.symm, HG.out⟩
        · rw [decide_eq_false a2] at hh2
          have et : s.ins z x = ⟨opFront s.L 0 z, s.m, s.b1, s.b2, s.p, updN s.num z x⟩ := by unfold Ar.ins; rw [if_pos hB, if_neg a1, if_neg a2]
          have hM : May s.L.length 0 z := may2 ok.two (by decide) (by decide) hk
          have hfr := qr_front hq 0 z
          have HE : Hid (∀ F1 W, Qr P Q Q1 Q2 v hs F1 (opFront s.L 0 z) s.m s.m s.m s.b1 s.b2 s.p W → Stp (allF F) (allF F1) w W → _) := hid (fun F1 W k g => ins_end (s := s) (t := s.ins z x) hG oks z x (by rw [et]; exact hsay.snoc hzn (fun y => opF_mem hM)) hlen rfl (by rw [et]; exact k) g)
          obtain ⟨K, hK⟩ : ∃ K, K = hs.length := ⟨_, rfl⟩
          rw [← hK] at HE hlen
          clear hq hsay ok oks hrow hh hB hzn hf0 l1 l2 a1 a2 et hM hk HQ c3 c4 f4 hK
          go_enter Try.func29, Try.ntmps29
          go_wp2_with fail
          refine hr.mono ?_
          rintro e w1 ⟨rfl, rfl⟩
          go_wp2_with fail
          refine hh1.mono ?_
          rintro e w1 ⟨rfl, rfl⟩
          go_wp2_with fail
          refine hh2.mono ?_
          rintro e w1 ⟨rfl, rfl⟩
          go_wp2_with fail
          refine hfr.mono ?_
          rintro e w1 ⟨rfl, F1, k, g⟩
          obtain ⟨c5, hown, hS⟩ := HE.out F1 _ k g
          have HS := hid hS
          obtain ⟨av, cv, rfl⟩ := row2_form hown
          clear k g hfr HE hr hh1 hh2 c0 c1 c2 hS
          go_wp2_with (at_builtin; refine wpList_append_own_at _ rfl _ _ 35 rfl 0 88 i0 (.agg #[.int .i64 0, .int .u64 0]) 2 16 Try.underlying35 hi0 hz0 hz1 hz2 rfl (by decide) (.slice av K cv) _ _ rfl (hown.alloc _) ⟨w1.heap.size, 0, none⟩ 1 1 [.int .i64 z, .int .u64 x] rfl rfl (two_cell _ _ _ _) (two_ok _ _) (by unfold maxLen; omega) (by omega) (by simp) ?_; intro v6 w6 hown6 hgrow6 hnil6 hloc6; obtain ⟨a6, d6, rfl⟩ := row2_form hown6; obtain ⟨hg6, hf6, hc6⟩ := HS.out _ w6 hown6 hgrow6 hloc6; have HG := hid hg6; clear hg6 hown6 hgrow6 hnil6 hloc6 hown HS c5)
          go_ret
          exact ⟨ret_bool e1.out.symm, HG.out⟩
    · have hk : okId z = false := decide_eq_false hz
      have e1 : Hid (s.insB z = false) := hid (by unfold Ar.insB; rw [hh, hk]; rfl)
      have e2 : Hid (s.ins z x = s) := hid (by unfold Ar.ins; rw [e1.out]; rfl)
      have hz2 : z < 0 ∨ (0 ≤ z ∧ 4194303 < z) := by omega
      clear hq hsay hG ok hh hrow hz hk
      rcases hz2 with z0 | ⟨z0, z1⟩
      all_goals
        go_enter Try.func29, Try.ntmps29
        go_wp2_with fail
        refine hr.mono ?_
        rintro e w1 ⟨rfl, rfl⟩
        go_wp2_with fail
        go_ret
        exact ⟨ret_bool e1.out.symm, G, by rw [e2.out]; exact HQ.out, Stp.refl _ _⟩
end Go.Proofs.Ytklmgmkeaipppaa.Ac
