/-
  The contract of the document's own remove. Conditions: the state's items can be read, and stand in order; the moment may be.
-/
import Derived.Test.YtpgljahomeebhaaDoorModBox
import Derived.Deep.DeepCutAuto
namespace Go.Proofs.YtpgljahomeebhaaDoor.Md
open Go Go.RowKit Go.Lib

set_option maxRecDepth 100000 in
set_option maxHeartbeats 4000000 in
theorem ref_remove {s : Ms} {V : Value} {w : World} (h : Sv w V s) (hs : Sorted s.its) (hlen : s.its.length ≤ 4194304) (now : Int) (hn1 : 1 ≤ now) (hn2 : now ≤ 1099511627776) (c : Cm) (x : It) :
    Calls Tryd.prog 28 #[V, .int .i64 now, c.v, x.v] w fun e w' => ∃ V', e = .returned (.tuple #[V', (delO now c s.cas (some x)).a.v]) ∧ Sv w' V' ⟨(delO now c s.cas (some x)).e.on s.its c.key, (delO now c s.cas (some x)).cas, s.fl⟩ ∧ Below w.heap.size w w' := by
  obtain ⟨v, rfl, hI⟩ := h
  obtain ⟨a, ca, rfl⟩ := hI.form
  have HI := hid hI
  have HS := hid hs
  obtain ⟨op, mode, k, cv, fg, exp, hx, cs, hc, de, ini, dn, vv, vive, rc, iv⟩ := c
  obtain ⟨xk, xf, xv, xe, xc, xl, xs, xw⟩ := x
  unfold msv
  show Calls Tryd.prog 28 #[.agg #[.slice a s.its.length ca, .int .u64 s.cas, .int .i64 s.fl], .int .i64 now, .agg #[.int .i64 op, .int .i64 mode, .string k, .string cv, .int .u32 fg, .int .i64 exp, .bool hx, .int .u64 cs, .bool hc, .int .u64 de, .int .u64 ini, .bool dn, .bool vv, .int .i64 vive, .int .i64 rc, .bool iv], .agg #[.string xk, .int .u32 xf, .string xv, .int .i64 xe, .int .u64 xc, .int .i64 xl, .bool xs, .bool xw]] w fun e w' => ∃ V', e = .returned (.tuple #[V', (delO now ⟨op, mode, k, cv, fg, exp, hx, cs, hc, de, ini, dn, vv, vive, rc, iv⟩ s.cas (some ⟨xk, xf, xv, xe, xc, xl, xs, xw⟩)).a.v]) ∧ Sv w' V' ⟨(delO now ⟨op, mode, k, cv, fg, exp, hx, cs, hc, de, ini, dn, vv, vive, rc, iv⟩ s.cas (some ⟨xk, xf, xv, xe, xc, xl, xs, xw⟩)).e.on s.its k, (delO now ⟨op, mode, k, cv, fg, exp, hx, cs, hc, de, ini, dn, vv, vive, rc, iv⟩ s.cas (some ⟨xk, xf, xv, xe, xc, xl, xs, xw⟩)).cas, s.fl⟩ ∧ Below w.heap.size w w'
  obtain ⟨B, hB⟩ : ∃ B : Bool, B = (hc && decide (xc ≠ cs)) := ⟨_, rfl⟩
  have hne : ((xc : Int) != (cs : Int)) = decide (xc ≠ cs) := by
    rw [Bool.eq_iff_iff]; simp; omega
  have hW := W5.begin w #[.slice a s.its.length ca, .int .u64 s.cas, .int .i64 s.fl] #[.int .i64 op, .int .i64 mode, .string k, .string cv, .int .u32 fg, .int .i64 exp, .bool hx, .int .u64 cs, .bool hc, .int .u64 de, .int .u64 ini, .bool dn, .bool vv, .int .i64 vive, .int .i64 rc, .bool iv] #[.string xk, .int .u32 xf, .string xv, .int .i64 xe, .int .u64 xc, .int .i64 xl, .bool xs, .bool xw] #[.slice none 0 0, .int .u64 0, .int .i64 0] #[.int .i64 0, .string ⟨#[]⟩, .int .u32 0, .string ⟨#[]⟩, .int .i64 0, .int .u64 0, .int .i64 0, .bool false, .bool false, .int .u64 0, .bool false, .bool false, .bool false]
  have HW := hid hW
  have hwb := wrap_bump s.cas
  clear hI hs hW
  go_enter Tryd.func28, Tryd.ntmps28
  go_upto_region 1 with fail
  generalize hW0 : (((((w.alloc (.cells #[.slice a s.its.length ca, .int .u64 s.cas, .int .i64 s.fl] 25)).alloc (.cells #[.int .i64 op, .int .i64 mode, .string k, .string cv, .int .u32 fg, .int .i64 exp, .bool hx, .int .u64 cs, .bool hc, .int .u64 de, .int .u64 ini, .bool dn, .bool vv, .int .i64 vive, .int .i64 rc, .bool iv] 28)).alloc (.cells #[.string xk, .int .u32 xf, .string xv, .int .i64 xe, .int .u64 xc, .int .i64 xl, .bool xs, .bool xw] 33)).alloc (.cells #[.slice none 0 0, .int .u64 0, .int .i64 0] 25)).alloc (.cells #[.int .i64 0, .string ⟨#[]⟩, .int .u32 0, .string ⟨#[]⟩, .int .i64 0, .int .u64 0, .int .i64 0, .bool false, .bool false, .int .u64 0, .bool false, .bool false, .bool false] 35)) = W0 at *
  have k2 := HW.out.b1.cell (i := 8) rfl
  have k3 := HW.out.b1.cell (i := 7) rfl
  have k4 := HW.out.b2.cell (i := 4) rfl
  go_cut [18] from 10 to 17 (fun b wx => wx = W0 ∧ b = .bool B)
  case first =>
    clear HW hW0 hwb
    cases hc
    · go_wp2_with fail
      go_meet
      exact ⟨rfl, by rw [hB]; rfl⟩
    · go_wp2_with fail
      go_meet
      exact ⟨rfl, by rw [hB]; simp⟩
  case rest =>
  obtain ⟨rfl, rfl⟩ := hcut
  clear k2 k3 k4 hW0 hne
  cases B
  · have hA : ¬ (hc = true ∧ xc ≠ cs) := by
      intro ⟨h1, h2⟩
      rw [h1, decide_eq_true h2] at hB; cases hB
    clear hB
    have k5 := HW.out.b1.cell (i := 15) rfl
    cases iv
    · have hgo : Hid ((delO now ⟨op, mode, k, cv, fg, exp, hx, cs, hc, de, ini, dn, vv, vive, rc, false⟩ s.cas (some ⟨xk, xf, xv, xe, xc, xl, xs, xw⟩)) = ⟨.drp, s.cas, An.of 9⟩) := hid (by unfold delO; simp only [hA, if_false]; rfl)
      have k6 := HW.out.b1.cell (i := 2) rfl
      have m0 := HW.out.b0.cell (i := 0) rfl
      have m1 := HW.out.b0.cell (i := 1) rfl
      have m2 := HW.out.b0.cell (i := 2) rfl
      have hd := ref_drop (s := s) (V := .agg #[.slice a s.its.length ca, .int .u64 s.cas, .int .i64 s.fl]) (w := wc) ⟨_, rfl, HI.out.below HW.out.below⟩ HS.out hlen k
      clear hA hwb
      go_wp2_with fail
      refine hd.mono ?_
      rintro e W4 ⟨V', rfl, ⟨hSv, hNew⟩, hb4⟩
      obtain ⟨v2, rfl, hI2⟩ := hSv
      obtain ⟨a2, c2, rfl⟩ := hI2.form
      obtain ⟨n2, hn2'⟩ : ∃ n2, n2 = (drp s.its k).length := ⟨_, rfl⟩
      have HW4 := hid (HW.out.step hb4)
      have HV : Hid (Sv W4 (.agg #[.slice a2 (drp s.its k).length c2, .int .u64 s.cas, .int .i64 s.fl]) ⟨drp s.its k, s.cas, s.fl⟩) := hid ⟨_, rfl, hI2⟩
      have HN : Hid ((.agg #[.slice a2 (drp s.its k).length c2, .int .u64 s.cas, .int .i64 s.fl] : Value) = .agg #[.slice a s.its.length ca, .int .u64 s.cas, .int .i64 s.fl] ∨ (New wc.heap.size (.agg #[.slice a2 (drp s.its k).length c2, .int .u64 s.cas, .int .i64 s.fl]) ∧ w.heap.size + 1 + 1 + 1 + 1 < wc.heap.size)) := hid (hNew.imp id (fun h => ⟨h, HW.out.b4.lt⟩))
      clear hI2 hNew hb4 hd HW k5 k6 m0 m1 m2
      unfold msv
      rw [← hn2'] at HV HN ⊢
      clear hn2'
      have HQ := hid (((HW4.out.st0 (vs := [.slice a2 n2 c2, .int .u64 s.cas, .int .i64 s.fl]) rfl).st3 (vs := [.slice a2 n2 c2, .int .u64 s.cas, .int .i64 s.fl]) rfl).st4 (vs := [.int .i64 9, .string ⟨#[]⟩, .int .u32 0, .string ⟨#[]⟩, .int .i64 0, .int .u64 0, .int .i64 0, .bool false, .bool false, .int .u64 0, .bool false, .bool false, .bool false]) rfl)
      have HF : Hid (Sv (stc (stc (stc W4 w.heap.size [.slice a2 n2 c2, .int .u64 s.cas, .int .i64 s.fl] 0) (w.heap.size + 1 + 1 + 1) [.slice a2 n2 c2, .int .u64 s.cas, .int .i64 s.fl] 0) (w.heap.size + 1 + 1 + 1 + 1) [.int .i64 9, .string ⟨#[]⟩, .int .u32 0, .string ⟨#[]⟩, .int .i64 0, .int .u64 0, .int .i64 0, .bool false, .bool false, .int .u64 0, .bool false, .bool false, .bool false] 0) (.agg #[.slice a2 n2 c2, .int .u64 s.cas, .int .i64 s.fl]) ⟨drp s.its k, s.cas, s.fl⟩) := hid (by
        rcases HN.out with e | ⟨h1, h2⟩
        · obtain ⟨v3, q, hI3⟩ := HV.out
          unfold msv at q
          have q1 : v3 = .slice a2 n2 c2 := by injection q with q; injection q with q; injection q with q1 _; exact q1.symm
          have e1 : (.slice a2 n2 c2 : Value) = .slice a s.its.length ca := by injection e with e; injection e with e; injection e
          subst q1
          refine ⟨_, rfl, ?_⟩
          have hl : drp s.its k = s.its := by
            obtain ⟨a', c', q2, _⟩ := hI3
            rw [e1] at q2
            injection q2 with _ q3 _
            exact drp_full q3.symm
          exact its_cast (HI.out.below HQ.out.below) e1 hl
        · exact sv_stc h1 h2 [.int .i64 9, .string ⟨#[]⟩, .int .u32 0, .string ⟨#[]⟩, .int .i64 0, .int .u64 0, .int .i64 0, .bool false, .bool false, .int .u64 0, .bool false, .bool false, .bool false] 0 _ (sv_stc h1 (Nat.lt_of_succ_lt h2) [.slice a2 n2 c2, .int .u64 s.cas, .int .i64 s.fl] 0 _ (sv_stc h1 (by omega) [.slice a2 n2 c2, .int .u64 s.cas, .int .i64 s.fl] 0 W4 HV.out)))
      have m0 := HW4.out.b0.cell (i := 0) rfl
      have mf0 := HW4.out.b0.frozen 0
      have m1 := HW4.out.b0.cell (i := 1) rfl
      have mf1 := HW4.out.b0.frozen 1
      have m2 := HW4.out.b0.cell (i := 2) rfl
      have mf2 := HW4.out.b0.frozen 2
      have g0 := HW4.out.b3.cell (i := 0) rfl
      have h0 := HW4.out.b3.frozen 0
      have g1 := HW4.out.b3.cell (i := 1) rfl
      have h1 := HW4.out.b3.frozen 1
      have g2 := HW4.out.b3.cell (i := 2) rfl
      have h2 := HW4.out.b3.frozen 2
      have e0 := HW4.out.b4.cell (i := 0) rfl
      have f0 := HW4.out.b4.frozen 0
      have e1 := HW4.out.b4.cell (i := 1) rfl
      have f1 := HW4.out.b4.frozen 1
      have e2 := HW4.out.b4.cell (i := 2) rfl
      have f2 := HW4.out.b4.frozen 2
      have e3 := HW4.out.b4.cell (i := 3) rfl
      have f3 := HW4.out.b4.frozen 3
      have e4 := HW4.out.b4.cell (i := 4) rfl
      have f4 := HW4.out.b4.frozen 4
      have e5 := HW4.out.b4.cell (i := 5) rfl
      have f5 := HW4.out.b4.frozen 5
      have e6 := HW4.out.b4.cell (i := 6) rfl
      have f6 := HW4.out.b4.frozen 6
      have e7 := HW4.out.b4.cell (i := 7) rfl
      have f7 := HW4.out.b4.frozen 7
      have e8 := HW4.out.b4.cell (i := 8) rfl
      have f8 := HW4.out.b4.frozen 8
      have e9 := HW4.out.b4.cell (i := 9) rfl
      have f9 := HW4.out.b4.frozen 9
      have e10 := HW4.out.b4.cell (i := 10) rfl
      have f10 := HW4.out.b4.frozen 10
      have e11 := HW4.out.b4.cell (i := 11) rfl
      have f11 := HW4.out.b4.frozen 11
      have e12 := HW4.out.b4.cell (i := 12) rfl
      have f12 := HW4.out.b4.frozen 12
      go_wp2_with fail
      rw [hgo.out]
      exact bodyPost_ret (res_sa (a := An.of 9) rfl ⟨_, _, rfl⟩ HQ.out.b3 HQ.out.b4 rfl rfl) rfl ⟨_, rfl, HF.out, HQ.out.below⟩
    · obtain ⟨xe2, hxe2⟩ : ∃ e2, e2 = (if hx = true then moment now exp else xe) := ⟨_, rfl⟩
      have hgo : Hid ((delO now ⟨op, mode, k, cv, fg, exp, hx, cs, hc, de, ini, dn, vv, vive, rc, true⟩ s.cas (some ⟨xk, xf, xv, xe, xc, xl, xs, xw⟩)) = ⟨.put ⟨xk, xf, xv, xe2, bump s.cas, xl, true, false⟩, bump s.cas, An.is 9 ⟨xk, xf, xv, xe2, bump s.cas, xl, true, false⟩⟩) := hid (by unfold delO; simp only [hA, if_false]; rw [hxe2]; rfl)
      have hmo := fun W => ref_moment now exp hn1 hn2 W
      have HW1 := hid ((((HW.out.cell0 1 (.int .u64 (bump s.cas : Nat))).cell2 4 (.int .u64 (bump s.cas : Nat))).cell2 6 (.bool true)).cell2 7 (.bool false))
      have m1 := HW.out.b0.cell (i := 1) rfl
      have n1 := HW.out.b0.frozen 1
      have e4 := HW.out.b2.cell (i := 4) rfl
      have f4 := HW.out.b2.frozen 4
      have e6 := HW.out.b2.cell (i := 6) rfl
      have f6 := HW.out.b2.frozen 6
      have e7 := HW.out.b2.cell (i := 7) rfl
      have f7 := HW.out.b2.frozen 7
      clear hA HW
      go_upto_region 10 with fail
      clear m1 n1 e4 f4 e6 f6 e7 f7 k5 hwb
      generalize (((wc.setCell ⟨w.heap.size, 1, none⟩ (.int .u64 (bump s.cas : Nat))).setCell ⟨w.heap.size + 1 + 1, 4, none⟩ (.int .u64 (bump s.cas : Nat))).setCell ⟨w.heap.size + 1 + 1, 6, none⟩ (.bool true)).setCell ⟨w.heap.size + 1 + 1, 7, none⟩ (.bool false) = wB at *
      have k6 := HW1.out.b1.cell (i := 6) rfl
      go_upto_if 43 with fail
      go_cut [] from 44 to 48 (fun wx => Hid (W5 w [.slice a s.its.length ca, .int .u64 (bump s.cas : Nat), .int .i64 s.fl] [.int .i64 op, .int .i64 mode, .string k, .string cv, .int .u32 fg, .int .i64 exp, .bool hx, .int .u64 cs, .bool hc, .int .u64 de, .int .u64 ini, .bool dn, .bool vv, .int .i64 vive, .int .i64 rc, .bool true] [.string xk, .int .u32 xf, .string xv, .int .i64 xe2, .int .u64 (bump s.cas : Nat), .int .i64 xl, .bool true, .bool false] [.slice none 0 0, .int .u64 0, .int .i64 0] [.int .i64 0, .string ⟨#[]⟩, .int .u32 0, .string ⟨#[]⟩, .int .i64 0, .int .u64 0, .int .i64 0, .bool false, .bool false, .int .u64 0, .bool false, .bool false, .bool false] wx))
      case first =>
        cases hx
        · have e : xe2 = xe := by rw [hxe2]; rfl
          subst e
          have HW9 := HW1
          clear HW1 hgo hxe2 hmo
          go_wp2_with fail
          go_meet
          exact HW9
        · have e : xe2 = moment now exp := by rw [hxe2]; rfl
          rw [← e] at hmo
          have k7 := HW1.out.b1.cell (i := 5) rfl
          have e3 := HW1.out.b2.cell (i := 3) rfl
          have f3 := HW1.out.b2.frozen 3
          have HW9 := hid (HW1.out.cell2 3 (.int .i64 xe2))
          clear HW1 hgo hxe2 e
          go_wp2_with fail
          refine (hmo _).mono ?_
          rintro e w1 ⟨rfl, rfl⟩
          go_wp2_with fail
          go_meet
          exact HW9
      case rest =>
      clear HW1 hxe2 hmo k6
      rename World => W2
      have HW2 := hcut
      clear hcut
      go_upto_region 12 with fail
      have HW3 := hid (HW2.out.step (below_d W2))
      obtain ⟨S, hSd⟩ : ∃ S : World → Prop, S = fun W => Blk W w.heap.size 25 [.slice a s.its.length ca, .int .u64 (bump s.cas : Nat), .int .i64 s.fl] ∧ Blk W (w.heap.size + 1 + 1) 33 [.string xk, .int .u32 xf, .string xv, .int .i64 xe2, .int .u64 (bump s.cas : Nat), .int .i64 xl, .bool true, .bool false] := ⟨_, rfl⟩
      have hS : S W2.drew := by rw [hSd]; exact ⟨HW3.out.b0, HW3.out.b2⟩
      refine wp_region_E S 6 (by kernel_rfl) ?_
      --TAKES wpAnyE_take | 2 | 0=.agg #[.slice a s.its.length ca, .int .u64 (bump s.cas : Nat), .int .i64 s.fl] ; 1=.agg #[.string xk, .int .u32 xf, .string xv, .int .i64 xe2, .int .u64 (bump s.cas : Nat), .int .i64 xl, .bool true, .bool false] ; 3=.agg #[.string xk, .int .u32 xf, .string xv, .int .i64 xe2, .int .u64 (bump s.cas : Nat), .int .i64 xl, .bool true, .bool false] ; 4=.agg #[.int .i64 9, .string xk, .int .u32 xf, .string xv, .int .i64 xe2, .int .u64 (bump s.cas : Nat), .int .i64 xl, .bool true, .bool false, .int .u64 0, .bool false, .bool false, .bool false]
      refine wpAnyE_take (i := 0) (v := .agg #[.slice a s.its.length ca, .int .u64 (bump s.cas : Nat), .int .i64 s.fl]) rfl (by kernel_rfl) (by kernel_rfl) (by kernel_rfl) (fun _ _ _ h => h) (by kernel_rfl) (by kernel_rfl) hS (Or.inl ⟨by rfl, ?_⟩) ?_
      · intro w' hw'
        rw [hSd] at hw'; obtain ⟨b0, b2⟩ := hw'; have s0 := b0.cell (i := 0) rfl; have s1 := b0.cell (i := 1) rfl; have s2 := b0.cell (i := 2) rfl; have x0 := b2.cell (i := 0) rfl; have x1 := b2.cell (i := 1) rfl; have x2 := b2.cell (i := 2) rfl; have x3 := b2.cell (i := 3) rfl; have x4 := b2.cell (i := 4) rfl; have x5 := b2.cell (i := 5) rfl; have x6 := b2.cell (i := 6) rfl; have x7 := b2.cell (i := 7) rfl; clear b0 b2
        go_simp
      refine wpAnyE_take (i := 1) (v := .agg #[.string xk, .int .u32 xf, .string xv, .int .i64 xe2, .int .u64 (bump s.cas : Nat), .int .i64 xl, .bool true, .bool false]) rfl (by kernel_rfl) (by kernel_rfl) (by kernel_rfl) (fun _ _ _ h => h) (by kernel_rfl) (by kernel_rfl) hS (Or.inl ⟨by rfl, ?_⟩) ?_
      · intro w' hw'
        rw [hSd] at hw'; obtain ⟨b0, b2⟩ := hw'; have s0 := b0.cell (i := 0) rfl; have s1 := b0.cell (i := 1) rfl; have s2 := b0.cell (i := 2) rfl; have x0 := b2.cell (i := 0) rfl; have x1 := b2.cell (i := 1) rfl; have x2 := b2.cell (i := 2) rfl; have x3 := b2.cell (i := 3) rfl; have x4 := b2.cell (i := 4) rfl; have x5 := b2.cell (i := 5) rfl; have x6 := b2.cell (i := 6) rfl; have x7 := b2.cell (i := 7) rfl; clear b0 b2
        go_simp
      refine wpAnyE_take (i := 3) (v := .agg #[.string xk, .int .u32 xf, .string xv, .int .i64 xe2, .int .u64 (bump s.cas : Nat), .int .i64 xl, .bool true, .bool false]) rfl (by kernel_rfl) (by kernel_rfl) (by kernel_rfl) (fun _ _ _ h => h) (by kernel_rfl) (by kernel_rfl) hS (Or.inl ⟨by rfl, ?_⟩) ?_
      · intro w' hw'
        rw [hSd] at hw'; obtain ⟨b0, b2⟩ := hw'; have s0 := b0.cell (i := 0) rfl; have s1 := b0.cell (i := 1) rfl; have s2 := b0.cell (i := 2) rfl; have x0 := b2.cell (i := 0) rfl; have x1 := b2.cell (i := 1) rfl; have x2 := b2.cell (i := 2) rfl; have x3 := b2.cell (i := 3) rfl; have x4 := b2.cell (i := 4) rfl; have x5 := b2.cell (i := 5) rfl; have x6 := b2.cell (i := 6) rfl; have x7 := b2.cell (i := 7) rfl; clear b0 b2
        go_simp
      refine wpAnyE_take (i := 4) (v := .agg #[.int .i64 9, .string xk, .int .u32 xf, .string xv, .int .i64 xe2, .int .u64 (bump s.cas : Nat), .int .i64 xl, .bool true, .bool false, .int .u64 0, .bool false, .bool false, .bool false]) rfl (by kernel_rfl) (by kernel_rfl) (by kernel_rfl) (fun _ _ _ h => h) (by kernel_rfl) (by kernel_rfl) hS (Or.inl ⟨by rfl, ?_⟩) ?_
      · intro w' hw'
        rw [hSd] at hw'; obtain ⟨b0, b2⟩ := hw'; have s0 := b0.cell (i := 0) rfl; have s1 := b0.cell (i := 1) rfl; have s2 := b0.cell (i := 2) rfl; have x0 := b2.cell (i := 0) rfl; have x1 := b2.cell (i := 1) rfl; have x2 := b2.cell (i := 2) rfl; have x3 := b2.cell (i := 3) rfl; have x4 := b2.cell (i := 4) rfl; have x5 := b2.cell (i := 5) rfl; have x6 := b2.cell (i := 6) rfl; have x7 := b2.cell (i := 7) rfl; clear b0 b2
        go_simp
      --END
      generalize hW3 : W2.drew = W3 at *
      have hput := ref_put (s := ⟨s.its, (bump s.cas : Nat), s.fl⟩) (V := .agg #[.slice a s.its.length ca, .int .u64 (bump s.cas : Nat), .int .i64 s.fl]) (w := W3) ⟨_, rfl, HI.out.below HW3.out.below⟩ HS.out hlen ⟨xk, xf, xv, xe2, bump s.cas, xl, true, false⟩
      refine wpAnyE_one (i := 2) rfl (by kernel_rfl) (fun K hK => ?_)
      go_simp
      refine hput.mono ?_
      rintro e W4 ⟨V', rfl, ⟨hSv, hNew⟩, hb4⟩
      obtain ⟨v2, rfl, hI2⟩ := hSv
      obtain ⟨a2, c2, rfl⟩ := hI2.form
      have HW4 := hid (HW3.out.step hb4)
      have HV := hid (show Sv W4 (.agg #[.slice a2 (put s.its ⟨xk, xf, xv, xe2, bump s.cas, xl, true, false⟩).length c2, .int .u64 (bump s.cas : Nat), .int .i64 s.fl]) ⟨put s.its ⟨xk, xf, xv, xe2, bump s.cas, xl, true, false⟩, (bump s.cas : Nat), s.fl⟩ from ⟨_, rfl, hI2⟩)
      have HL := hid (And.intro hNew HW3.out.b4.lt)
      have HSd := hid hSd
      refine hK _ _ (fun _ => by rw [HSd.out]; exact ⟨HW4.out.b0, HW4.out.b2⟩) ?_
      clear hK K hput hI2 hNew hb4 hS hSd HW3 HW2
      refine wpAnyE_one (i := 5) rfl (by kernel_rfl) (fun K hK => ?_)
      have e0 := HW4.out.b3.cell (i := 0) rfl
      have f0 := HW4.out.b3.frozen 0
      have e1 := HW4.out.b3.cell (i := 1) rfl
      have f1 := HW4.out.b3.frozen 1
      have e2 := HW4.out.b3.cell (i := 2) rfl
      have f2 := HW4.out.b3.frozen 2
      unfold msv
      go_simp
      have HW5 := hid (HW4.out.st3 (vs := [.slice a2 (put s.its ⟨xk, xf, xv, xe2, bump s.cas, xl, true, false⟩).length c2, .int .u64 (bump s.cas : Nat), .int .i64 s.fl]) rfl)
      have HV5 := hid (sv_stc HL.out.1 (Nat.lt_of_succ_lt HL.out.2) [.slice a2 (put s.its ⟨xk, xf, xv, xe2, bump s.cas, xl, true, false⟩).length c2, .int .u64 (bump s.cas : Nat), .int .i64 s.fl] 0 W4 HV.out)
      clear e0 f0 e1 f1 e2 f2
      refine hK _ (stc W4 (w.heap.size + 1 + 1 + 1) [.slice a2 (put s.its ⟨xk, xf, xv, xe2, bump s.cas, xl, true, false⟩).length c2, .int .u64 (bump s.cas : Nat), .int .i64 s.fl] 0) (fun _ => by rw [HSd.out]; exact ⟨HW5.out.b0, HW5.out.b2⟩) ?_
      clear hK K HW4 HV
      generalize stc W4 (w.heap.size + 1 + 1 + 1) [.slice a2 (put s.its ⟨xk, xf, xv, xe2, bump s.cas, xl, true, false⟩).length c2, .int .u64 (bump s.cas : Nat), .int .i64 s.fl] 0 = W5' at *
      refine wpAnyE_one (i := 6) rfl (by kernel_rfl) (fun K hK => ?_)
      have e0 := HW5.out.b4.cell (i := 0) rfl
      have f0 := HW5.out.b4.frozen 0
      have e1 := HW5.out.b4.cell (i := 1) rfl
      have f1 := HW5.out.b4.frozen 1
      have e2 := HW5.out.b4.cell (i := 2) rfl
      have f2 := HW5.out.b4.frozen 2
      have e3 := HW5.out.b4.cell (i := 3) rfl
      have f3 := HW5.out.b4.frozen 3
      have e4 := HW5.out.b4.cell (i := 4) rfl
      have f4 := HW5.out.b4.frozen 4
      have e5 := HW5.out.b4.cell (i := 5) rfl
      have f5 := HW5.out.b4.frozen 5
      have e6 := HW5.out.b4.cell (i := 6) rfl
      have f6 := HW5.out.b4.frozen 6
      have e7 := HW5.out.b4.cell (i := 7) rfl
      have f7 := HW5.out.b4.frozen 7
      have e8 := HW5.out.b4.cell (i := 8) rfl
      have f8 := HW5.out.b4.frozen 8
      have e9 := HW5.out.b4.cell (i := 9) rfl
      have f9 := HW5.out.b4.frozen 9
      have e10 := HW5.out.b4.cell (i := 10) rfl
      have f10 := HW5.out.b4.frozen 10
      have e11 := HW5.out.b4.cell (i := 11) rfl
      have f11 := HW5.out.b4.frozen 11
      have e12 := HW5.out.b4.cell (i := 12) rfl
      have f12 := HW5.out.b4.frozen 12
      go_simp
      have HW6 := hid (HW5.out.st4 (vs := [.int .i64 9, .string xk, .int .u32 xf, .string xv, .int .i64 xe2, .int .u64 (bump s.cas : Nat), .int .i64 xl, .bool true, .bool false, .int .u64 0, .bool false, .bool false, .bool false]) rfl)
      have HV6 := hid (sv_stc HL.out.1 HL.out.2 [.int .i64 9, .string xk, .int .u32 xf, .string xv, .int .i64 xe2, .int .u64 (bump s.cas : Nat), .int .i64 xl, .bool true, .bool false, .int .u64 0, .bool false, .bool false, .bool false] 0 W5' HV5.out)
      clear e0 f0 e1 f1 e2 f2 e3 f3 e4 f4 e5 f5 e6 f6 e7 f7 e8 f8 e9 f9 e10 f10 e11 f11 e12 f12
      refine hK _ (stc W5' (w.heap.size + 1 + 1 + 1 + 1) [.int .i64 9, .string xk, .int .u32 xf, .string xv, .int .i64 xe2, .int .u64 (bump s.cas : Nat), .int .i64 xl, .bool true, .bool false, .int .u64 0, .bool false, .bool false, .bool false] 0) (fun h => (by cases (show true = false from h))) (wpAnyE_done (by kernel_rfl) ?_ _)
      clear hK K HW5 HV5
      generalize stc W5' (w.heap.size + 1 + 1 + 1 + 1) [.int .i64 9, .string xk, .int .u32 xf, .string xv, .int .i64 xe2, .int .u64 (bump s.cas : Nat), .int .i64 xl, .bool true, .bool false, .int .u64 0, .bool false, .bool false, .bool false] 0 = W6' at *
      go_wp2_with fail
      rw [hgo.out]
      exact bodyPost_ret (res_sa (a := An.is 9 ⟨xk, xf, xv, xe2, bump s.cas, xl, true, false⟩) rfl ⟨a2, c2, rfl⟩ HW6.out.b3 HW6.out.b4 rfl rfl) rfl ⟨_, rfl, HV6.out, HW6.out.below⟩
  · have hA : hc = true ∧ xc ≠ cs := by
      have h1 := hB.symm
      rw [Bool.and_eq_true, decide_eq_true_iff] at h1; exact h1
    have hgo : Hid ((delO now ⟨op, mode, k, cv, fg, exp, hx, cs, hc, de, ini, dn, vv, vive, rc, iv⟩ s.cas (some ⟨xk, xf, xv, xe, xc, xl, xs, xw⟩)) = Out.no s.cas 4) := hid (if_pos hA)
    clear hB hA hwb
    have m0 := HW.out.b0.cell (i := 0) rfl
    have m1 := HW.out.b0.cell (i := 1) rfl
    have m2 := HW.out.b0.cell (i := 2) rfl
    have g0 := HW.out.b3.cell (i := 0) rfl
    have h0 := HW.out.b3.frozen 0
    have g1 := HW.out.b3.cell (i := 1) rfl
    have h1 := HW.out.b3.frozen 1
    have g2 := HW.out.b3.cell (i := 2) rfl
    have h2 := HW.out.b3.frozen 2
    have e0 := HW.out.b4.cell (i := 0) rfl
    have f0 := HW.out.b4.frozen 0
    have e1 := HW.out.b4.cell (i := 1) rfl
    have f1 := HW.out.b4.frozen 1
    have e2 := HW.out.b4.cell (i := 2) rfl
    have f2 := HW.out.b4.frozen 2
    have e3 := HW.out.b4.cell (i := 3) rfl
    have f3 := HW.out.b4.frozen 3
    have e4 := HW.out.b4.cell (i := 4) rfl
    have f4 := HW.out.b4.frozen 4
    have e5 := HW.out.b4.cell (i := 5) rfl
    have f5 := HW.out.b4.frozen 5
    have e6 := HW.out.b4.cell (i := 6) rfl
    have f6 := HW.out.b4.frozen 6
    have e7 := HW.out.b4.cell (i := 7) rfl
    have f7 := HW.out.b4.frozen 7
    have e8 := HW.out.b4.cell (i := 8) rfl
    have f8 := HW.out.b4.frozen 8
    have e9 := HW.out.b4.cell (i := 9) rfl
    have f9 := HW.out.b4.frozen 9
    have e10 := HW.out.b4.cell (i := 10) rfl
    have f10 := HW.out.b4.frozen 10
    have e11 := HW.out.b4.cell (i := 11) rfl
    have f11 := HW.out.b4.frozen 11
    have e12 := HW.out.b4.cell (i := 12) rfl
    have f12 := HW.out.b4.frozen 12
    have HW7 := hid ((HW.out.st3 (vs := [.slice a s.its.length ca, .int .u64 s.cas, .int .i64 s.fl]) rfl).st4 (vs := [.int .i64 4, .string ⟨#[]⟩, .int .u32 0, .string ⟨#[]⟩, .int .i64 0, .int .u64 0, .int .i64 0, .bool false, .bool false, .int .u64 0, .bool false, .bool false, .bool false]) rfl)
    go_wp2_with fail
    rw [hgo.out]
    exact bodyPost_ret (res_sa (a := An.of 4) rfl ⟨_, _, rfl⟩ HW7.out.b3 HW7.out.b4 rfl rfl) rfl ⟨_, rfl, ⟨_, rfl, HI.out.below HW7.out.below⟩, HW7.out.below⟩
end Go.Proofs.YtpgljahomeebhaaDoor.Md
