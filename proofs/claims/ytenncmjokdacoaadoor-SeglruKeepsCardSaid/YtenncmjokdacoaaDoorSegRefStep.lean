/-
  The contracts of the document's own segmented row's Touch and Step. Conditions: it lies in memory.
-/
import Derived.Test.YtenncmjokdacoaaDoorSegRefCalls
import Derived.BigQuiet
namespace Go.Proofs.YtenncmjokdacoaaDoor.Sr
open Go Go.RowKit Go.Lib

theorem only_grown {w w' : World} {v : Value} (h : w.grownBy w' v.ownBlock) : Only (fun b => v.ownBlock = some b) w w' := ⟨h.os, h.tape, h.output, h.size, fun k hk hd => h.block k hk (fun e => hd e.symm)⟩
theorem nodup_sub_len {l m : List Int} (h : l.Nodup) (hs : ∀ z ∈ l, z ∈ m) (hm : ∀ z ∈ m, 0 ≤ z ∧ z ≤ 4194303) : l.length ≤ 4194304 :=
  nodup_le 4194304 h (fun z hz => by have := hm z (hs z hz); omega)
/-- One more at the end of the row of who is active. -/
theorem QP.snoc {P Q R : Nat} {vs : List Value} {v : Value} {L : List (List Int)} {xs : List Int} {w : World} (h : QP P Q R vs v L xs w) (z : Int) (hlen : xs.length + 1 ≤ 4194304) :
    ∀ v6 w6, w6.ownsRow 0 3 1 v6 (xs.length + 1) (ic xs ++ [.int .i64 z]) → (w.alloc (.cells #[.int .i64 z] 3)).grownBy w6 v.ownBlock → (v6.ownBlock = v.ownBlock ∨ v6.ownBlock = some (w.alloc (.cells #[.int .i64 z] 3)).heap.size) →
      QPG P Q R vs v w vs v6 L (xs ++ [z]) (w6.setCell ⟨P, 1, none⟩ v6) ∧ w6.frozen? ⟨P, 1, none⟩ = false ∧ w6.cell? ⟨P, 1, none⟩ = some v := by
  intro v6 w6 o6 g6 l6
  have bA : Below w.heap.size w (w.alloc (.cells #[.int .i64 z] 3)) := (Below.refl _ _).alloc (Nat.le_refl _) _
  have ho : Only (fun b => v.ownBlock = some b) w w6 := (Below.only bA).trans (only_grown g6) (fun b hb => .inl hb)
  have hB : Blk w6 P 37 [.pointer (some ⟨Q, 0, none⟩), v] := h.head.only ho (fun e => h.ne P e rfl)
  obtain ⟨k1, k2, k3⟩ := h.store (ys := xs ++ [z]) ho (by rw [List.length_append, List.length_singleton, ic_snoc]; exact o6) (fun b hb => by
    rcases l6 with e | e
    · exact .inl (e ▸ hb)
    · right
      rw [e] at hb
      injection hb with hb
      rw [← hb]; simp) (by rw [List.length_append, List.length_singleton]; exact hlen)
  exact ⟨⟨k1, k2, k3⟩, hB.frozen 1, hB.cell (i := 1) rfl⟩

set_option maxRecDepth 100000 in
set_option maxHeartbeats 1000000 in
theorem qa_touch {P : Nat} {G : Nat → Prop} {s : Sg} {w : World} (h : QA P G s w) (z : Int) :
    Calls Tryd.prog 14 #[.pointer (some ⟨P, 0, none⟩), .int .i64 z] w fun e w' => e = .returned (.bool (s.has z)) ∧ ∃ G', QA P G' (s.tch z) w' ∧ Stp G G' w w' := by
  have HQ := hid h
  obtain ⟨ok, Q, R, vs, v, xs, hp, nd, ha, hG⟩ := h
  have c0 := hp.head.cell (i := 0) rfl
  have hr := qrow_any hp.rows z
  cases hrow : rowOf s.L z with
  | none =>
    rw [rv_none hrow] at hr
    have hh : s.has z = false := by unfold Sg.has; rw [hrow]; rfl
    have e1 : Hid (s.has z = false) := hid hh
    have e2 : Hid (s.tch z = s) := hid (by unfold Sg.tch; rw [hh]; rfl)
    clear hp nd ha hG ok hh hrow
    go_enter Tryd.func14, Tryd.ntmps14
    go_wp2_with fail
    refine hr.mono ?_
    rintro e w1 ⟨rfl, rfl⟩
    go_wp2_with fail
    go_ret
    exact ⟨ret_bool e1.out.symm, G, by rw [e2.out]; exact HQ.out, stp_same _⟩
  | some i =>
    rw [rv_some hrow] at hr
    have hh : s.has z = true := by unfold Sg.has; rw [hrow]; rfl
    have e1 : Hid (s.has z = true) := hid hh
    have hi := qp_idle' hp z
    have hnz : z ∉ xs.filter (fun y => decide (y ≠ z)) := fun hm => by have := (List.mem_filter.1 hm).2; simp at this
    have hnd : (xs.filter (fun y => decide (y ≠ z)) ++ [z]).Nodup := by
      rw [List.nodup_append]
      exact ⟨nd.filter _, by simp, fun a ha2 b hb e => hnz (by rw [List.mem_singleton.1 hb] at e; exact e ▸ ha2)⟩
    have hact : ∀ y, y ∈ xs.filter (fun x => decide (x ≠ z)) ++ [z] ↔ (s.tch z).a y = true := fun y => by
      have et : (s.tch z).a = updB s.a z true := by unfold Sg.tch; rw [hh]; rfl
      rw [et, List.mem_append, act_filter ha z y, List.mem_singleton]
      by_cases e : y = z
      · rw [e, updB_same, updB_same]; simp
      · rw [updB_other e, updB_other e]; simp [e]
    have hln : (xs.filter (fun y => decide (y ≠ z))).length + 1 ≤ 4194304 := by
      have := nodup_sub_len (m := s.L.flatten) hnd (fun y hy => by have := (ok.tch z).act y ((hact y).1 hy); rwa [tch_L] at this) ok.good.rng
      simpa using this
    have HG : Hid (∀ v' w', QPG P Q R vs v w vs v' s.L (xs.filter (fun y => decide (y ≠ z)) ++ [z]) w' → ∃ G', QA P G' (s.tch z) w' ∧ Stp G G' w w') := hid (fun v' w' g => qa_go hG g (ok.tch z) (tch_L s z) hnd hact)
    obtain ⟨i0, hi0, hz0, hz1, hz2⟩ := info_parts infoInt
    generalize xs.filter (fun y => decide (y ≠ z)) = ys at *
    clear hp nd ha hG ok hh hrow HQ hnz hnd hact
    go_enter Tryd.func14, Tryd.ntmps14
    go_wp2_with fail
    refine hr.mono ?_
    rintro e w1 ⟨rfl, rfl⟩
    go_wp2_with fail
    refine hi.mono ?_
    rintro e w1 ⟨rfl, v1, g1⟩
    have c1 := g1.qp.head.cell (i := 1) rfl
    have hown := g1.qp.row
    have HS := hid (g1.qp.snoc z hln)
    have G1 := hid g1
    obtain ⟨K, hK⟩ : ∃ K, K = ys.length := ⟨_, rfl⟩
    rw [← hK] at hln hown HS
    clear hK g1 hi hr c0
    go_wp2_with (at_builtin; refine wpList_append_own_at _ rfl _ _ 32 rfl 0 3 i0 (.int .i64 0) 1 8 Tryd.underlying32 hi0 hz0 hz1 hz2 rfl (by decide) v1 _ _ rfl (hown.alloc _) ⟨w1.heap.size, 0, none⟩ 1 1 [.int .i64 z] rfl rfl (one_cell _ _ _) (one_ok _) (by unfold maxLen; omega) (by omega) (by simp) ?_; intro v6 w6 hown6 hgrow6 hnil6 hloc6; obtain ⟨a6, d6, rfl⟩ := row_form hown6; obtain ⟨hg6, hf6, hc6⟩ := HS.out _ w6 hown6 hgrow6 hloc6; have HR := hid (HG.out _ _ (G1.out.trans hg6)); clear hg6 hown6 hgrow6 hnil6 hloc6 hown HS c1 HG G1)
    go_ret
    exact ⟨ret_bool e1.out.symm, HR.out⟩

set_option maxRecDepth 100000 in
set_option maxHeartbeats 4000000 in
theorem qa_step {P : Nat} {G : Nat → Prop} {s : Sg} {w : World} (h : QA P G s w) :
    Calls Tryd.prog 18 #[.pointer (some ⟨P, 0, none⟩)] w fun e w' => e = .returned (.bool s.stpB) ∧ ∃ G', QA P G' s.stp w' ∧ Stp G G' w w' := by
  have HQ := hid h
  obtain ⟨ok, Q, R, vs, v, xs, hp, nd, ha, hG⟩ := h
  have c0 := hp.head.cell (i := 0) rfl
  have n0 := ok.good.count
  rw [← Sg.n_eq ok] at n0
  have hn : s.n = (rowAt s.L 0).length + (rowAt s.L 1).length + (rowAt s.L 2).length := rfl
  have hpk : s.pick = if 20 * s.n / 100 < (rowAt s.L 0).length then lastOf (rowAt s.L 0) else if 40 * s.n / 100 < (rowAt s.L 1).length then lastOf (rowAt s.L 1) else if s.a (lastOf (rowAt s.L 2)) then lastOf (rowAt s.L 2) else -1 := rfl
  have HL0 : ∀ k, Calls Tryd.prog 39 #[.pointer (some ⟨Q, 0, none⟩), .int .i64 0] (w.drewN k) fun e w' => e = .returned (.int .i64 (rowAt s.L 0).length) ∧ ∃ j, w' = w.drewN j := fun k => (qlen_any (hp.below (drewn_below (Below.refl _ _) k)).rows 0).mono fun e w' ⟨h1, h2⟩ => ⟨h1, k, h2.symm⟩
  have HL1 : ∀ k, Calls Tryd.prog 39 #[.pointer (some ⟨Q, 0, none⟩), .int .i64 1] (w.drewN k) fun e w' => e = .returned (.int .i64 (rowAt s.L 1).length) ∧ ∃ j, w' = w.drewN j := fun k => (qlen_any (hp.below (drewn_below (Below.refl _ _) k)).rows 1).mono fun e w' ⟨h1, h2⟩ => ⟨h1, k, h2.symm⟩
  have HL2 : ∀ k, Calls Tryd.prog 39 #[.pointer (some ⟨Q, 0, none⟩), .int .i64 2] (w.drewN k) fun e w' => e = .returned (.int .i64 (rowAt s.L 2).length) ∧ ∃ j, w' = w.drewN j := fun k => (qlen_any (hp.below (drewn_below (Below.refl _ _) k)).rows 2).mono fun e w' ⟨h1, h2⟩ => ⟨h1, k, h2.symm⟩
  have HA : Hid (∀ k, QA P G s (w.drewN k) ∧ QP P Q R vs v s.L xs (w.drewN k)) := hid (fun k => ⟨HQ.out.below (drewn_below (Below.refl _ _) k), hp.below (drewn_below (Below.refl _ _) k)⟩)
  generalize e0 : (rowAt s.L 0).length = N0 at *
  generalize e1 : (rowAt s.L 1).length = N1 at *
  generalize (rowAt s.L 2).length = N2 at *
  obtain ⟨N, hN⟩ : ∃ N : Nat, N = N0 + N1 + N2 := ⟨_, rfl⟩
  rw [← hN] at hn
  have b1 : (N : Int) ≤ 4194304 := by omega
  have b0 : (N0 : Int) + N1 ≤ 4194304 := by omega
  have fN : (N0 : Int) + N1 + N2 = N := by omega
  rw [hn] at hpk
  have hP : Hid (s.pick = if 20 * N / 100 < N0 then lastOf (rowAt s.L 0) else if 40 * N / 100 < N1 then lastOf (rowAt s.L 1) else if s.a (lastOf (rowAt s.L 2)) then lastOf (rowAt s.L 2) else -1) := hid hpk
  have oks := ok.stp
  have HG : Hid (∀ nq vs' v' w' r, QPG P Q R vs v (w.drewN nq) vs' v' (opFront s.L r s.pick) (xs.filter (fun y => decide (y ≠ s.pick))) w' → r = (if s.a s.pick then 1 else 2) → 0 ≤ s.pick → ∃ G', QA P G' s.stp w' ∧ Stp G G' w w') := hid (fun nq vs' v' w' r g er h0 =>
    qa_go hG ((QPG.below hp (drewn_below (Below.refl _ _) nq)).trans g) oks (by unfold Sg.stp; rw [if_pos h0, er]) (nd.filter _) (fun y => by rw [act_filter ha]; unfold Sg.stp; rw [if_pos h0]))
  have HE : Hid (¬ 0 ≤ s.pick → ∀ nq, ∃ G', QA P G' s.stp (w.drewN nq) ∧ Stp G G' w (w.drewN nq)) := hid (fun h0 nq =>
    qa_go hG (QPG.below hp (drewn_below (Below.refl _ _) nq)) oks (by unfold Sg.stp; rw [if_neg h0]) nd (fun y => by rw [ha y]; unfold Sg.stp; rw [if_neg h0]))
  have hB : Hid (s.stpB = decide (0 ≤ s.pick)) := hid rfl
  clear hp n0 hn ok ha nd hG hN hpk oks
  go_enter Tryd.func18, Tryd.ntmps18
  go_wp2_with fail
  go_quiet (first | with_reducible exact HL0 _ | with_reducible exact HL1 _ | with_reducible exact HL2 _)
  obtain ⟨HQ2, hp2⟩ := HA.out nq
  have d0 := hp2.head.cell (i := 0) rfl
  have cl2 := qlast_any hp2.rows 2
  have cl1 := qlast_any hp2.rows 1
  have cl0 := qlast_any hp2.rows 0
  have ca := fun z => qa_active HQ2 z
  have hn0 := qlen_any hp2.rows 0
  have hn1 := qlen_any hp2.rows 1
  have hf1 := qp_front hp2 1 s.pick
  have hf2 := qp_front hp2 2 s.pick
  have HG1 := hid (HG.out nq)
  have HE1 := hid (fun h0 => HE.out h0 nq)
  rw [e0] at hn0
  rw [e1] at hn1
  generalize w.drewN nq = w2 at *
  clear HL0 HL1 HL2 HA HQ HG HE c0 e0 e1 hp2 HQ2
  go_wp2_with fail
  refine cl2.mono ?_
  rintro e w3 ⟨rfl, rfl⟩
  go_wp2_with fail
  refine (ca _).mono ?_
  rintro e w3 ⟨rfl, rfl⟩
  go_wp2_with fail
  refine hn0.mono ?_
  rintro e w3 ⟨rfl, rfl⟩
  have hcase : (20 * (N : Int) / 100 < (N0 : Int) ∧ Hid (s.pick = lastOf (rowAt s.L 0))) ∨ ((N0 : Int) ≤ 20 * (N : Int) / 100 ∧ 40 * (N : Int) / 100 < (N1 : Int) ∧ Hid (s.pick = lastOf (rowAt s.L 1))) ∨
      ((N0 : Int) ≤ 20 * (N : Int) / 100 ∧ (N1 : Int) ≤ 40 * (N : Int) / 100 ∧ s.a (lastOf (rowAt s.L 2)) = true ∧ Hid (s.pick = lastOf (rowAt s.L 2))) ∨ ((N0 : Int) ≤ 20 * (N : Int) / 100 ∧ (N1 : Int) ≤ 40 * (N : Int) / 100 ∧ s.a (lastOf (rowAt s.L 2)) = false ∧ Hid (s.pick = -1)) := by
    have hP' := hP.out
    by_cases k0 : 20 * N / 100 < N0
    · exact .inl ⟨by omega, hid (by rw [hP', if_pos k0])⟩
    · by_cases k1 : 40 * N / 100 < N1
      · exact .inr (.inl ⟨by omega, by omega, hid (by rw [hP', if_neg k0, if_pos k1])⟩)
      · cases k2 : s.a (lastOf (rowAt s.L 2))
        · exact .inr (.inr (.inr ⟨by omega, by omega, rfl, hid (by rw [hP', if_neg k0, if_neg k1, k2]; rfl)⟩))
        · exact .inr (.inr (.inl ⟨by omega, by omega, rfl, hid (by rw [hP', if_neg k0, if_neg k1, k2]; rfl)⟩))
  have HCa : Hid (∀ z, Calls Tryd.prog 22 #[.pointer (some ⟨P, 0, none⟩), .int .i64 z] w2 fun e w' => e = .returned (.bool (s.a z)) ∧ w2 = w') := hid ca
  have HI := fun vs' L' W (k : QP P Q R vs' v L' xs W) => qp_idle' k s.pick
  have HIh := hid HI
  clear hP ca HI
  generalize hpk : s.pick = pk at *
  have HPK := hid hpk
  clear hpk
  generalize lastOf (rowAt s.L 0) = V0 at *
  generalize lastOf (rowAt s.L 1) = V1 at *
  generalize lastOf (rowAt s.L 2) = V2 at *
  rcases hcase with ⟨k0, ep⟩ | ⟨k0, k1, ep⟩ | ⟨k0, k1, k2, ep⟩ | ⟨k0, k1, k2, ep⟩
  · obtain rfl : pk = V0 := ep.out
    go_wp2_with fail
    refine cl0.mono ?_
    rintro e w3 ⟨rfl, rfl⟩
    clear ep
    by_cases h0 : 0 ≤ pk
    · have hst : Hid (s.stpB = true) := hid (by rw [hB.out]; exact decide_eq_true h0)
      go_wp2_with fail
      refine (HCa.out pk).mono ?_
      rintro e w3 ⟨rfl, rfl⟩
      cases ea : s.a pk
      · have HG2 := hid (fun vs' v' w' g => HG1.out vs' v' w' 2 g (by rw [ea]; rfl) h0)
        clear HG1 HE1 HCa hn0 hn1 cl0 cl1 cl2
        go_wp2_with fail
        refine hf2.mono ?_
        rintro e w3 ⟨rfl, vs', g⟩
        have hi := HIh.out _ _ _ g.qp
        have G1 := hid g
        clear g hf1 hf2 HIh
        go_wp2_with fail
        refine hi.mono ?_
        rintro e w4 ⟨rfl, v', g2⟩
        have HR := hid (HG2.out _ _ _ (G1.out.trans g2))
        clear g2 hi HG2 G1
        go_wp2_with fail
        go_ret
        exact ⟨ret_bool hst.out.symm, HR.out⟩
      · have HG2 := hid (fun vs' v' w' g => HG1.out vs' v' w' 1 g (by rw [ea]; rfl) h0)
        clear HG1 HE1 HCa hn0 hn1 cl0 cl1 cl2
        go_wp2_with fail
        refine hf1.mono ?_
        rintro e w3 ⟨rfl, vs', g⟩
        have hi := HIh.out _ _ _ g.qp
        have G1 := hid g
        clear g hf1 hf2 HIh
        go_wp2_with fail
        refine hi.mono ?_
        rintro e w4 ⟨rfl, v', g2⟩
        have HR := hid (HG2.out _ _ _ (G1.out.trans g2))
        clear g2 hi HG2 G1
        go_wp2_with fail
        go_ret
        exact ⟨ret_bool hst.out.symm, HR.out⟩
    · have hst : Hid (s.stpB = false) := hid (by rw [hB.out]; exact decide_eq_false h0)
      have HR := hid (HE1.out (by omega))
      clear HG1 HE1 HCa hn0 hn1 cl0 cl1 cl2 hf1 hf2 HIh
      go_wp2_with fail
      go_ret
      exact ⟨ret_bool hst.out.symm, HR.out⟩
  · obtain rfl : pk = V1 := ep.out
    go_wp2_with fail
    refine hn1.mono ?_
    rintro e w3 ⟨rfl, rfl⟩
    go_wp2_with fail
    refine cl1.mono ?_
    rintro e w3 ⟨rfl, rfl⟩
    clear ep
    by_cases h0 : 0 ≤ pk
    · have hst : Hid (s.stpB = true) := hid (by rw [hB.out]; exact decide_eq_true h0)
      go_wp2_with fail
      refine (HCa.out pk).mono ?_
      rintro e w3 ⟨rfl, rfl⟩
      cases ea : s.a pk
      · have HG2 := hid (fun vs' v' w' g => HG1.out vs' v' w' 2 g (by rw [ea]; rfl) h0)
        clear HG1 HE1 HCa hn0 hn1 cl0 cl1 cl2
        go_wp2_with fail
        refine hf2.mono ?_
        rintro e w3 ⟨rfl, vs', g⟩
        have hi := HIh.out _ _ _ g.qp
        have G1 := hid g
        clear g hf1 hf2 HIh
        go_wp2_with fail
        refine hi.mono ?_
        rintro e w4 ⟨rfl, v', g2⟩
        have HR := hid (HG2.out _ _ _ (G1.out.trans g2))
        clear g2 hi HG2 G1
        go_wp2_with fail
        go_ret
        exact ⟨ret_bool hst.out.symm, HR.out⟩
      · have HG2 := hid (fun vs' v' w' g => HG1.out vs' v' w' 1 g (by rw [ea]; rfl) h0)
        clear HG1 HE1 HCa hn0 hn1 cl0 cl1 cl2
        go_wp2_with fail
        refine hf1.mono ?_
        rintro e w3 ⟨rfl, vs', g⟩
        have hi := HIh.out _ _ _ g.qp
        have G1 := hid g
        clear g hf1 hf2 HIh
        go_wp2_with fail
        refine hi.mono ?_
        rintro e w4 ⟨rfl, v', g2⟩
        have HR := hid (HG2.out _ _ _ (G1.out.trans g2))
        clear g2 hi HG2 G1
        go_wp2_with fail
        go_ret
        exact ⟨ret_bool hst.out.symm, HR.out⟩
    · have hst : Hid (s.stpB = false) := hid (by rw [hB.out]; exact decide_eq_false h0)
      have HR := hid (HE1.out (by omega))
      clear HG1 HE1 HCa hn0 hn1 cl0 cl1 cl2 hf1 hf2 HIh
      go_wp2_with fail
      go_ret
      exact ⟨ret_bool hst.out.symm, HR.out⟩
  · obtain rfl : pk = V2 := ep.out
    go_wp2_with fail
    refine hn1.mono ?_
    rintro e w3 ⟨rfl, rfl⟩
    go_wp2_with fail
    refine cl2.mono ?_
    rintro e w3 ⟨rfl, rfl⟩
    clear ep
    by_cases h0 : 0 ≤ pk
    · have hst : Hid (s.stpB = true) := hid (by rw [hB.out]; exact decide_eq_true h0)
      go_wp2_with fail
      refine (HCa.out pk).mono ?_
      rintro e w3 ⟨rfl, rfl⟩
      cases ea : s.a pk
      · have HG2 := hid (fun vs' v' w' g => HG1.out vs' v' w' 2 g (by rw [ea]; rfl) h0)
        clear HG1 HE1 HCa hn0 hn1 cl0 cl1 cl2
        go_wp2_with fail
        refine hf2.mono ?_
        rintro e w3 ⟨rfl, vs', g⟩
        have hi := HIh.out _ _ _ g.qp
        have G1 := hid g
        clear g hf1 hf2 HIh
        go_wp2_with fail
        refine hi.mono ?_
        rintro e w4 ⟨rfl, v', g2⟩
        have HR := hid (HG2.out _ _ _ (G1.out.trans g2))
        clear g2 hi HG2 G1
        go_wp2_with fail
        go_ret
        exact ⟨ret_bool hst.out.symm, HR.out⟩
      · have HG2 := hid (fun vs' v' w' g => HG1.out vs' v' w' 1 g (by rw [ea]; rfl) h0)
        clear HG1 HE1 HCa hn0 hn1 cl0 cl1 cl2
        go_wp2_with fail
        refine hf1.mono ?_
        rintro e w3 ⟨rfl, vs', g⟩
        have hi := HIh.out _ _ _ g.qp
        have G1 := hid g
        clear g hf1 hf2 HIh
        go_wp2_with fail
        refine hi.mono ?_
        rintro e w4 ⟨rfl, v', g2⟩
        have HR := hid (HG2.out _ _ _ (G1.out.trans g2))
        clear g2 hi HG2 G1
        go_wp2_with fail
        go_ret
        exact ⟨ret_bool hst.out.symm, HR.out⟩
    · have hst : Hid (s.stpB = false) := hid (by rw [hB.out]; exact decide_eq_false h0)
      have HR := hid (HE1.out (by omega))
      clear HG1 HE1 HCa hn0 hn1 cl0 cl1 cl2 hf1 hf2 HIh
      go_wp2_with fail
      go_ret
      exact ⟨ret_bool hst.out.symm, HR.out⟩
  · obtain rfl : pk = -1 := ep.out
    go_wp2_with fail
    refine hn1.mono ?_
    rintro e w3 ⟨rfl, rfl⟩
    have hst : Hid (s.stpB = false) := hid hB.out
    have HR := hid (HE1.out (by decide))
    clear HG1 HE1 HCa hn0 hn1 cl0 cl1 cl2 hf1 hf2 HIh
    go_wp2_with fail
    go_ret
    exact ⟨ret_bool hst.out.symm, HR.out⟩
end Go.Proofs.YtenncmjokdacoaaDoor.Sr
