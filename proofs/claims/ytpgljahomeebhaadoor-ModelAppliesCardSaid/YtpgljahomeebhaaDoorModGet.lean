/-
  The contract of the document's own get. Conditions: the state's items can be read, and stand in order; the moment may be.
-/
import Derived.Test.YtpgljahomeebhaaDoorModBox
import Derived.Deep.DeepCutAuto
namespace Go.Proofs.YtpgljahomeebhaaDoor.Md
open Go Go.RowKit Go.Lib

set_option maxRecDepth 100000 in
set_option maxHeartbeats 4000000 in
theorem ref_get {s : Ms} {V : Value} {w : World} (h : Sv w V s) (hs : Sorted s.its) (hlen : s.its.length ≤ 4194304) (now : Int) (hn1 : 1 ≤ now) (hn2 : now ≤ 1099511627776) (c : Cm) (o : Option It) (hox : ∀ x, o = some x → 0 ≤ x.exp ∧ x.exp ≤ 9223372036854775807) :
    Calls Tryd.prog 24 #[V, .int .i64 now, c.v, (o.getD noIt).v, .bool o.isSome] w fun e w' => ∃ V', e = .returned (.tuple #[V', (getO now c s.cas o).a.v]) ∧ Sv w' V' ⟨(getO now c s.cas o).e.on s.its c.key, (getO now c s.cas o).cas, s.fl⟩ ∧ Below w.heap.size w w' := by
  obtain ⟨v, rfl, hI⟩ := h
  obtain ⟨a, ca, rfl⟩ := hI.form
  have HI := hid hI
  have HS := hid hs
  obtain ⟨op, mode, k, cv, fg, exp, hx, cs, hc, de, ini, dn, vv, vive, rc, iv⟩ := c
  unfold msv
  cases o with
  | none =>
    cases vv
    · show Calls Tryd.prog 24 #[.agg #[.slice a s.its.length ca, .int .u64 s.cas, .int .i64 s.fl], .int .i64 now, .agg #[.int .i64 op, .int .i64 mode, .string k, .string cv, .int .u32 fg, .int .i64 exp, .bool hx, .int .u64 cs, .bool hc, .int .u64 de, .int .u64 ini, .bool dn, .bool false, .int .i64 vive, .int .i64 rc, .bool iv], .agg #[.string emp, .int .u32 0, .string emp, .int .i64 0, .int .u64 0, .int .i64 0, .bool false, .bool false], .bool false] w fun e w' => ∃ V', e = .returned (.tuple #[V', (An.of 5).v]) ∧ Sv w' V' ⟨s.its, s.cas, s.fl⟩ ∧ Below w.heap.size w w'
      go_enter Tryd.func24, Tryd.ntmps24
      go_wp2_with fail
      have hW := W5.begin w #[.slice a s.its.length ca, .int .u64 s.cas, .int .i64 s.fl] #[.int .i64 op, .int .i64 mode, .string k, .string cv, .int .u32 fg, .int .i64 exp, .bool hx, .int .u64 cs, .bool hc, .int .u64 de, .int .u64 ini, .bool dn, .bool false, .int .i64 vive, .int .i64 rc, .bool iv] #[.string emp, .int .u32 0, .string emp, .int .i64 0, .int .u64 0, .int .i64 0, .bool false, .bool false] #[.slice a s.its.length ca, .int .u64 s.cas, .int .i64 s.fl] (An.of 5).cells.toArray
      exact bodyPost_ret (res_sa rfl ⟨a, ca, rfl⟩ hW.b3 hW.b4 rfl rfl) rfl ⟨_, rfl, ⟨_, rfl, HI.out.below hW.below⟩, hW.below⟩
    · show Calls Tryd.prog 24 #[.agg #[.slice a s.its.length ca, .int .u64 s.cas, .int .i64 s.fl], .int .i64 now, .agg #[.int .i64 op, .int .i64 mode, .string k, .string cv, .int .u32 fg, .int .i64 exp, .bool hx, .int .u64 cs, .bool hc, .int .u64 de, .int .u64 ini, .bool dn, .bool true, .int .i64 vive, .int .i64 rc, .bool iv], .agg #[.string emp, .int .u32 0, .string emp, .int .i64 0, .int .u64 0, .int .i64 0, .bool false, .bool false], .bool false] w fun e w' => ∃ V', e = .returned (.tuple #[V', (getO now ⟨op, mode, k, cv, fg, exp, hx, cs, hc, de, ini, dn, true, vive, rc, iv⟩ s.cas none).a.v]) ∧ Sv w' V' ⟨(getO now ⟨op, mode, k, cv, fg, exp, hx, cs, hc, de, ini, dn, true, vive, rc, iv⟩ s.cas none).e.on s.its k, (getO now ⟨op, mode, k, cv, fg, exp, hx, cs, hc, de, ini, dn, true, vive, rc, iv⟩ s.cas none).cas, s.fl⟩ ∧ Below w.heap.size w w'
      have hwb := wrap_bump s.cas
      obtain ⟨m, hm⟩ : ∃ m, m = moment now vive := ⟨_, rfl⟩
      have hmo := fun W => ref_moment now vive hn1 hn2 W
      rw [← hm] at hmo
      have hgo : Hid (getO now ⟨op, mode, k, cv, fg, exp, hx, cs, hc, de, ini, dn, true, vive, rc, iv⟩ s.cas none = ⟨.put ⟨k, 0, emp, m, bump s.cas, 0, false, true⟩, bump s.cas, ⟨1, ⟨k, 0, emp, m, bump s.cas, 0, false, true⟩, 0, true, false, false⟩⟩) := hid (by rw [hm]; rfl)
      have hW := W5.begin w #[.slice a s.its.length ca, .int .u64 (bump s.cas : Nat), .int .i64 s.fl] #[.int .i64 op, .int .i64 mode, .string k, .string cv, .int .u32 fg, .int .i64 exp, .bool hx, .int .u64 cs, .bool hc, .int .u64 de, .int .u64 ini, .bool dn, .bool true, .int .i64 vive, .int .i64 rc, .bool iv] #[.string emp, .int .u32 0, .string emp, .int .i64 0, .int .u64 0, .int .i64 0, .bool false, .bool false] #[.slice none 0 0, .int .u64 0, .int .i64 0] #[.int .i64 0, .string ⟨#[]⟩, .int .u32 0, .string ⟨#[]⟩, .int .i64 0, .int .u64 0, .int .i64 0, .bool false, .bool false, .int .u64 0, .bool false, .bool false, .bool false]
      have HW := hid hW
      clear hI hs hm hW
      go_enter Tryd.func24, Tryd.ntmps24
      go_upto_region 5 with fail
      generalize hW0 : (((((w.alloc (.cells #[.slice a s.its.length ca, .int .u64 (bump s.cas : Nat), .int .i64 s.fl] 25)).alloc (.cells #[.int .i64 op, .int .i64 mode, .string k, .string cv, .int .u32 fg, .int .i64 exp, .bool hx, .int .u64 cs, .bool hc, .int .u64 de, .int .u64 ini, .bool dn, .bool true, .int .i64 vive, .int .i64 rc, .bool iv] 28)).alloc (.cells #[.string emp, .int .u32 0, .string emp, .int .i64 0, .int .u64 0, .int .i64 0, .bool false, .bool false] 33)).alloc (.cells #[.slice none 0 0, .int .u64 0, .int .i64 0] 25)).alloc (.cells #[.int .i64 0, .string ⟨#[]⟩, .int .u32 0, .string ⟨#[]⟩, .int .i64 0, .int .u64 0, .int .i64 0, .bool false, .bool false, .int .u64 0, .bool false, .bool false, .bool false] 35)) = W0 at *
      have HW1 := hid (HW.out.step (below_d W0))
      refine region_tail 9 (by kernel_rfl) (by kernel_rfl) ?_
      simp only [List.take_succ_cons, List.take_zero, List.drop_succ_cons, List.drop_zero]
      generalize hW1 : W0.drew = W1 at *
      have k2 := HW1.out.b1.cell (i := 2) rfl
      have k13 := HW1.out.b1.cell (i := 13) rfl
      have k1 := HW1.out.b0.cell (i := 1) rfl
      have i0 := HW1.out.b2.cell (i := 0) rfl
      have i1 := HW1.out.b2.cell (i := 1) rfl
      have i2 := HW1.out.b2.cell (i := 2) rfl
      have i3 := HW1.out.b2.cell (i := 3) rfl
      have i4 := HW1.out.b2.cell (i := 4) rfl
      have i5 := HW1.out.b2.cell (i := 5) rfl
      have i6 := HW1.out.b2.cell (i := 6) rfl
      have i7 := HW1.out.b2.cell (i := 7) rfl
      have g0 := HW1.out.b2.frozen 0
      have g1 := HW1.out.b2.frozen 1
      have g2 := HW1.out.b2.frozen 2
      have g3 := HW1.out.b2.frozen 3
      have g4 := HW1.out.b2.frozen 4
      have g5 := HW1.out.b2.frozen 5
      have g6 := HW1.out.b2.frozen 6
      have g7 := HW1.out.b2.frozen 7
      repeat still_step
      refine wpStill_step (fun K hK => ?_)
      go_simp
      refine ⟨_, (hmo W1).mono (fun e w' hh => ⟨hh.1, hh.2.symm⟩), hK _ ?_⟩
      clear hK K
      repeat still_step
      refine wpStill_nil ?_
      go_upto_region 6 with fail
      clear k2 k13 k1 i0 i1 i2 i3 i4 i5 i6 i7 g0 g1 g2 g3 g4 g5 g6 g7 hwb hmo hW0 hW1 HW
      have HW2 := hid (HW1.out.st2 (vs := [.string k, .int .u32 0, .string ⟨#[]⟩, .int .i64 m, .int .u64 (bump s.cas : Nat), .int .i64 0, .bool false, .bool true]) rfl)
      change Code.wp _ _ _ _ (stc W1 (w.heap.size + 1 + 1) [.string k, .int .u32 0, .string ⟨#[]⟩, .int .i64 m, .int .u64 (bump s.cas : Nat), .int .i64 0, .bool false, .bool true] 0)
      generalize stc W1 (w.heap.size + 1 + 1) [.string k, .int .u32 0, .string ⟨#[]⟩, .int .i64 m, .int .u64 (bump s.cas : Nat), .int .i64 0, .bool false, .bool true] 0 = W2 at *
      clear HW1
      have HW3 := hid (HW2.out.step (below_d W2))
      obtain ⟨S, hSd⟩ : ∃ S : World → Prop, S = fun W => Blk W w.heap.size 25 [.slice a s.its.length ca, .int .u64 (bump s.cas : Nat), .int .i64 s.fl] ∧ Blk W (w.heap.size + 1 + 1) 33 [.string k, .int .u32 0, .string ⟨#[]⟩, .int .i64 m, .int .u64 (bump s.cas : Nat), .int .i64 0, .bool false, .bool true] := ⟨_, rfl⟩
      have hS : S W2.drew := by rw [hSd]; exact ⟨HW3.out.b0, HW3.out.b2⟩
      refine wp_region_E S 6 (by kernel_rfl) ?_
      --TAKES wpAnyE_take | 2 | 0=.agg #[.slice a s.its.length ca, .int .u64 (bump s.cas : Nat), .int .i64 s.fl] ; 1=.agg #[.string k, .int .u32 0, .string ⟨#[]⟩, .int .i64 m, .int .u64 (bump s.cas : Nat), .int .i64 0, .bool false, .bool true] ; 3=.agg #[.string k, .int .u32 0, .string ⟨#[]⟩, .int .i64 m, .int .u64 (bump s.cas : Nat), .int .i64 0, .bool false, .bool true] ; 4=.agg #[.int .i64 1, .string k, .int .u32 0, .string ⟨#[]⟩, .int .i64 m, .int .u64 (bump s.cas : Nat), .int .i64 0, .bool false, .bool true, .int .u64 0, .bool true, .bool false, .bool false]
      refine wpAnyE_take (i := 0) (v := .agg #[.slice a s.its.length ca, .int .u64 (bump s.cas : Nat), .int .i64 s.fl]) rfl (by kernel_rfl) (by kernel_rfl) (by kernel_rfl) (fun _ _ _ h => h) (by kernel_rfl) (by kernel_rfl) hS (Or.inl ⟨by rfl, ?_⟩) ?_
      · intro w' hw'
        rw [hSd] at hw'; obtain ⟨b0, b2⟩ := hw'; have s0 := b0.cell (i := 0) rfl; have s1 := b0.cell (i := 1) rfl; have s2 := b0.cell (i := 2) rfl; have x0 := b2.cell (i := 0) rfl; have x1 := b2.cell (i := 1) rfl; have x2 := b2.cell (i := 2) rfl; have x3 := b2.cell (i := 3) rfl; have x4 := b2.cell (i := 4) rfl; have x5 := b2.cell (i := 5) rfl; have x6 := b2.cell (i := 6) rfl; have x7 := b2.cell (i := 7) rfl; clear b0 b2
        go_simp
      refine wpAnyE_take (i := 1) (v := .agg #[.string k, .int .u32 0, .string ⟨#[]⟩, .int .i64 m, .int .u64 (bump s.cas : Nat), .int .i64 0, .bool false, .bool true]) rfl (by kernel_rfl) (by kernel_rfl) (by kernel_rfl) (fun _ _ _ h => h) (by kernel_rfl) (by kernel_rfl) hS (Or.inl ⟨by rfl, ?_⟩) ?_
      · intro w' hw'
        rw [hSd] at hw'; obtain ⟨b0, b2⟩ := hw'; have s0 := b0.cell (i := 0) rfl; have s1 := b0.cell (i := 1) rfl; have s2 := b0.cell (i := 2) rfl; have x0 := b2.cell (i := 0) rfl; have x1 := b2.cell (i := 1) rfl; have x2 := b2.cell (i := 2) rfl; have x3 := b2.cell (i := 3) rfl; have x4 := b2.cell (i := 4) rfl; have x5 := b2.cell (i := 5) rfl; have x6 := b2.cell (i := 6) rfl; have x7 := b2.cell (i := 7) rfl; clear b0 b2
        go_simp
      refine wpAnyE_take (i := 3) (v := .agg #[.string k, .int .u32 0, .string ⟨#[]⟩, .int .i64 m, .int .u64 (bump s.cas : Nat), .int .i64 0, .bool false, .bool true]) rfl (by kernel_rfl) (by kernel_rfl) (by kernel_rfl) (fun _ _ _ h => h) (by kernel_rfl) (by kernel_rfl) hS (Or.inl ⟨by rfl, ?_⟩) ?_
      · intro w' hw'
        rw [hSd] at hw'; obtain ⟨b0, b2⟩ := hw'; have s0 := b0.cell (i := 0) rfl; have s1 := b0.cell (i := 1) rfl; have s2 := b0.cell (i := 2) rfl; have x0 := b2.cell (i := 0) rfl; have x1 := b2.cell (i := 1) rfl; have x2 := b2.cell (i := 2) rfl; have x3 := b2.cell (i := 3) rfl; have x4 := b2.cell (i := 4) rfl; have x5 := b2.cell (i := 5) rfl; have x6 := b2.cell (i := 6) rfl; have x7 := b2.cell (i := 7) rfl; clear b0 b2
        go_simp
      refine wpAnyE_take (i := 4) (v := .agg #[.int .i64 1, .string k, .int .u32 0, .string ⟨#[]⟩, .int .i64 m, .int .u64 (bump s.cas : Nat), .int .i64 0, .bool false, .bool true, .int .u64 0, .bool true, .bool false, .bool false]) rfl (by kernel_rfl) (by kernel_rfl) (by kernel_rfl) (fun _ _ _ h => h) (by kernel_rfl) (by kernel_rfl) hS (Or.inl ⟨by rfl, ?_⟩) ?_
      · intro w' hw'
        rw [hSd] at hw'; obtain ⟨b0, b2⟩ := hw'; have s0 := b0.cell (i := 0) rfl; have s1 := b0.cell (i := 1) rfl; have s2 := b0.cell (i := 2) rfl; have x0 := b2.cell (i := 0) rfl; have x1 := b2.cell (i := 1) rfl; have x2 := b2.cell (i := 2) rfl; have x3 := b2.cell (i := 3) rfl; have x4 := b2.cell (i := 4) rfl; have x5 := b2.cell (i := 5) rfl; have x6 := b2.cell (i := 6) rfl; have x7 := b2.cell (i := 7) rfl; clear b0 b2
        go_simp
      --END
      generalize hW3 : W2.drew = W3 at *
      have hput := ref_put (s := ⟨s.its, bump s.cas, s.fl⟩) (V := .agg #[.slice a s.its.length ca, .int .u64 (bump s.cas : Nat), .int .i64 s.fl]) (w := W3) ⟨_, rfl, HI.out.below HW3.out.below⟩ HS.out hlen ⟨k, 0, emp, m, bump s.cas, 0, false, true⟩
      refine wpAnyE_one (i := 2) rfl (by kernel_rfl) (fun K hK => ?_)
      go_simp
      refine hput.mono ?_
      rintro e W4 ⟨V', rfl, ⟨hSv, hNew⟩, hb4⟩
      obtain ⟨v2, rfl, hI2⟩ := hSv
      obtain ⟨a2, c2, rfl⟩ := hI2.form
      have HW4 := hid (HW3.out.step hb4)
      have HV := hid (And.intro (show Sv W4 (.agg #[.slice a2 (put s.its ⟨k, 0, emp, m, bump s.cas, 0, false, true⟩).length c2, .int .u64 (bump s.cas : Nat), .int .i64 s.fl]) ⟨put s.its ⟨k, 0, emp, m, bump s.cas, 0, false, true⟩, bump s.cas, s.fl⟩ from ⟨_, rfl, hI2⟩) (hNew.mono (Nat.le_trans (Nat.le_of_lt HW3.out.b4.lt) (Nat.le_refl _)) : New (w.heap.size + 1 + 1 + 1 + 1) _))
      have HL := hid (And.intro hNew HW3.out.b4.lt)
      have HSd := hid hSd
      refine hK _ _ (fun _ => by rw [HSd.out]; exact ⟨HW4.out.b0, HW4.out.b2⟩) ?_
      clear hK K hput hI2 hNew hb4 hS hSd HW3 HW2
      refine wpAnyE_one (i := 5) rfl (by kernel_rfl) (fun K hK => ?_)
      have e0 := HW4.out.b3.cell (i := 0) rfl
      have f0 := HW4.out.b3.frozen 0
      have e1 := HW4.out.b3.cell (i := 1) rfl
      have f1 := HW4.out.b3.frozen 1
      have e2 := HW4.out.b3.cell (i := 2) rfl
      have f2 := HW4.out.b3.frozen 2
      unfold msv
      go_simp
      have HW5 := hid (HW4.out.st3 (vs := [.slice a2 (put s.its ⟨k, 0, emp, m, bump s.cas, 0, false, true⟩).length c2, .int .u64 (bump s.cas : Nat), .int .i64 s.fl]) rfl)
      have HV5 := hid (sv_stc HL.out.1 (Nat.lt_of_succ_lt HL.out.2) [.slice a2 (put s.its ⟨k, 0, emp, m, bump s.cas, 0, false, true⟩).length c2, .int .u64 (bump s.cas : Nat), .int .i64 s.fl] 0 W4 HV.out.1)
      clear e0 f0 e1 f1 e2 f2
      refine hK _ (stc W4 (w.heap.size + 1 + 1 + 1) [.slice a2 (put s.its ⟨k, 0, emp, m, bump s.cas, 0, false, true⟩).length c2, .int .u64 (bump s.cas : Nat), .int .i64 s.fl] 0) (fun _ => by rw [HSd.out]; exact ⟨HW5.out.b0, HW5.out.b2⟩) ?_
      clear hK K HW4 HV
      generalize stc W4 (w.heap.size + 1 + 1 + 1) [.slice a2 (put s.its ⟨k, 0, emp, m, bump s.cas, 0, false, true⟩).length c2, .int .u64 (bump s.cas : Nat), .int .i64 s.fl] 0 = W5' at *
      refine wpAnyE_one (i := 6) rfl (by kernel_rfl) (fun K hK => ?_)
      have e0 := HW5.out.b4.cell (i := 0) rfl
      have f0 := HW5.out.b4.frozen 0
      have e1 := HW5.out.b4.cell (i := 1) rfl
      have f1 := HW5.out.b4.frozen 1
      have e2 := HW5.out.b4.cell (i := 2) rfl
      have f2 := HW5.out.b4.frozen 2
      have e3 := HW5.out.b4.cell (i := 3) rfl
      have f3 := HW5.out.b4.frozen 3
      have e4 := HW5.out.b4.cell (i := 4) rfl
      have f4 := HW5.out.b4.frozen 4
      have e5 := HW5.out.b4.cell (i := 5) rfl
      have f5 := HW5.out.b4.frozen 5
      have e6 := HW5.out.b4.cell (i := 6) rfl
      have f6 := HW5.out.b4.frozen 6
      have e7 := HW5.out.b4.cell (i := 7) rfl
      have f7 := HW5.out.b4.frozen 7
      have e8 := HW5.out.b4.cell (i := 8) rfl
      have f8 := HW5.out.b4.frozen 8
      have e9 := HW5.out.b4.cell (i := 9) rfl
      have f9 := HW5.out.b4.frozen 9
      have e10 := HW5.out.b4.cell (i := 10) rfl
      have f10 := HW5.out.b4.frozen 10
      have e11 := HW5.out.b4.cell (i := 11) rfl
      have f11 := HW5.out.b4.frozen 11
      have e12 := HW5.out.b4.cell (i := 12) rfl
      have f12 := HW5.out.b4.frozen 12
      go_simp
      have HW6 := hid (HW5.out.st4 (vs := [.int .i64 1, .string k, .int .u32 0, .string ⟨#[]⟩, .int .i64 m, .int .u64 (bump s.cas : Nat), .int .i64 0, .bool false, .bool true, .int .u64 0, .bool true, .bool false, .bool false]) rfl)
      have HV6 := hid (sv_stc HL.out.1 HL.out.2 [.int .i64 1, .string k, .int .u32 0, .string ⟨#[]⟩, .int .i64 m, .int .u64 (bump s.cas : Nat), .int .i64 0, .bool false, .bool true, .int .u64 0, .bool true, .bool false, .bool false] 0 W5' HV5.out)
      clear e0 f0 e1 f1 e2 f2 e3 f3 e4 f4 e5 f5 e6 f6 e7 f7 e8 f8 e9 f9 e10 f10 e11 f11 e12 f12
      refine hK _ (stc W5' (w.heap.size + 1 + 1 + 1 + 1) [.int .i64 1, .string k, .int .u32 0, .string ⟨#[]⟩, .int .i64 m, .int .u64 (bump s.cas : Nat), .int .i64 0, .bool false, .bool true, .int .u64 0, .bool true, .bool false, .bool false] 0) (fun h => (by cases (show true = false from h))) (wpAnyE_done (by kernel_rfl) ?_ _)
      clear hK K HW5 HV5
      generalize stc W5' (w.heap.size + 1 + 1 + 1 + 1) [.int .i64 1, .string k, .int .u32 0, .string ⟨#[]⟩, .int .i64 m, .int .u64 (bump s.cas : Nat), .int .i64 0, .bool false, .bool true, .int .u64 0, .bool true, .bool false, .bool false] 0 = W6 at *
      go_wp2_with fail
      rw [hgo.out]
      exact bodyPost_ret (res_sa (a := ⟨1, ⟨k, 0, emp, m, bump s.cas, 0, false, true⟩, 0, true, false, false⟩) rfl ⟨a2, c2, rfl⟩ HW6.out.b3 HW6.out.b4 rfl rfl) rfl ⟨_, rfl, HV6.out, HW6.out.below⟩
  | some x =>
    obtain ⟨xk, xf, xv, xe, xc, xl, xs, xw⟩ := x
    have hxo : 0 ≤ xe ∧ xe ≤ 9223372036854775807 := hox _ rfl
    clear hox
    obtain ⟨wn, hwn⟩ : ∃ wn : Bool, wn = (!xw && (xs || (decide (0 ≤ rc) && (decide (xe ≠ 0) && decide (xe - now < rc))))) := ⟨_, rfl⟩
    obtain ⟨xe2, hxe2⟩ : ∃ e2, e2 = (if hx = true then moment now exp else xe) := ⟨_, rfl⟩
    have hgo : Hid (getO now ⟨op, mode, k, cv, fg, exp, hx, cs, hc, de, ini, dn, vv, vive, rc, iv⟩ s.cas (some ⟨xk, xf, xv, xe, xc, xl, xs, xw⟩) = ⟨.put ⟨xk, xf, xv, xe2, xc, now, xs, xw || wn⟩, s.cas, ⟨1, ⟨xk, xf, xv, xe2, xc, now, xs, xw || wn⟩, 0, wn, xs, xw⟩⟩) := hid (by rw [hwn, hxe2]; rfl)
    show Calls Tryd.prog 24 #[.agg #[.slice a s.its.length ca, .int .u64 s.cas, .int .i64 s.fl], .int .i64 now, .agg #[.int .i64 op, .int .i64 mode, .string k, .string cv, .int .u32 fg, .int .i64 exp, .bool hx, .int .u64 cs, .bool hc, .int .u64 de, .int .u64 ini, .bool dn, .bool vv, .int .i64 vive, .int .i64 rc, .bool iv], .agg #[.string xk, .int .u32 xf, .string xv, .int .i64 xe, .int .u64 xc, .int .i64 xl, .bool xs, .bool xw], .bool true] w fun e w' => ∃ V', e = .returned (.tuple #[V', (getO now ⟨op, mode, k, cv, fg, exp, hx, cs, hc, de, ini, dn, vv, vive, rc, iv⟩ s.cas (some ⟨xk, xf, xv, xe, xc, xl, xs, xw⟩)).a.v]) ∧ Sv w' V' ⟨(getO now ⟨op, mode, k, cv, fg, exp, hx, cs, hc, de, ini, dn, vv, vive, rc, iv⟩ s.cas (some ⟨xk, xf, xv, xe, xc, xl, xs, xw⟩)).e.on s.its k, (getO now ⟨op, mode, k, cv, fg, exp, hx, cs, hc, de, ini, dn, vv, vive, rc, iv⟩ s.cas (some ⟨xk, xf, xv, xe, xc, xl, xs, xw⟩)).cas, s.fl⟩ ∧ Below w.heap.size w w'
    have hW := W6.begin w #[.slice a s.its.length ca, .int .u64 s.cas, .int .i64 s.fl] #[.int .i64 op, .int .i64 mode, .string k, .string cv, .int .u32 fg, .int .i64 exp, .bool hx, .int .u64 cs, .bool hc, .int .u64 de, .int .u64 ini, .bool dn, .bool vv, .int .i64 vive, .int .i64 rc, .bool iv] #[.string xk, .int .u32 xf, .string xv, .int .i64 xe, .int .u64 xc, .int .i64 xl, .bool xs, .bool xw] #[.slice none 0 0, .int .u64 0, .int .i64 0] #[.int .i64 0, .string ⟨#[]⟩, .int .u32 0, .string ⟨#[]⟩, .int .i64 0, .int .u64 0, .int .i64 0, .bool false, .bool false, .int .u64 0, .bool false, .bool false, .bool false] #[.int .i64 1, .string ⟨#[]⟩, .int .u32 0, .string ⟨#[]⟩, .int .i64 0, .int .u64 0, .int .i64 0, .bool false, .bool false, .int .u64 0, .bool false, .bool xs, .bool xw]
    have HW := hid hW
    have hmo := fun W => ref_moment now exp hn1 hn2 W
    clear hI hs hW
    go_enter Tryd.func24, Tryd.ntmps24
    go_upto_region 8 with fail
    generalize hW0 : ((((((w.alloc (.cells #[.slice a s.its.length ca, .int .u64 s.cas, .int .i64 s.fl] 25)).alloc (.cells #[.int .i64 op, .int .i64 mode, .string k, .string cv, .int .u32 fg, .int .i64 exp, .bool hx, .int .u64 cs, .bool hc, .int .u64 de, .int .u64 ini, .bool dn, .bool vv, .int .i64 vive, .int .i64 rc, .bool iv] 28)).alloc (.cells #[.string xk, .int .u32 xf, .string xv, .int .i64 xe, .int .u64 xc, .int .i64 xl, .bool xs, .bool xw] 33)).alloc (.cells #[.slice none 0 0, .int .u64 0, .int .i64 0] 25)).alloc (.cells #[.int .i64 0, .string ⟨#[]⟩, .int .u32 0, .string ⟨#[]⟩, .int .i64 0, .int .u64 0, .int .i64 0, .bool false, .bool false, .int .u64 0, .bool false, .bool false, .bool false] 35)).alloc (.cells #[.int .i64 1, .string ⟨#[]⟩, .int .u32 0, .string ⟨#[]⟩, .int .i64 0, .int .u64 0, .int .i64 0, .bool false, .bool false, .int .u64 0, .bool false, .bool xs, .bool xw] 35)) = W0 at *
    have k2 := HW.out.w5.b2.cell (i := 7) rfl
    have k3 := HW.out.w5.b2.cell (i := 6) rfl
    have k4 := HW.out.w5.b2.cell (i := 3) rfl
    have k5 := HW.out.w5.b1.cell (i := 14) rfl
    go_cut [72] from 47 to 71 (fun b wx => wx = W0 ∧ b = .bool wn)
    case first =>
      clear HW hgo hmo hW0 hxe2
      cases xw
      · cases xs
        · by_cases r0 : 0 ≤ rc
          · have r0d : decide (0 ≤ rc) = true := decide_eq_true r0
            by_cases r1 : xe = 0
            · subst r1
              go_wp2_with fail
              go_meet
              exact ⟨rfl, by rw [hwn]; simp⟩
            · have r1' : (xe == 0) = false := beq_eq_false_iff_ne.2 r1
              have r1'' : (xe != 0) = true := bne_iff_ne.2 r1
              obtain ⟨d, hd⟩ : ∃ d, d = xe - now := ⟨_, rfl⟩
              have q1 : xe - now = d := hd.symm
              have q2 : IntKind.i64.wrap d = d := by rw [IntKind.wrap_i64]; omega
              rw [q1] at hwn
              clear hd
              go_wp2_with fail
              go_meet
              exact ⟨rfl, by rw [hwn]; simp [r0, r1]⟩
          · have r0d : decide (0 ≤ rc) = false := decide_eq_false r0
            go_wp2_with fail
            go_meet
            exact ⟨rfl, by rw [hwn, r0d]; rfl⟩
        · go_wp2_with fail
          go_meet
          exact ⟨rfl, by rw [hwn]; rfl⟩
      · go_wp2_with fail
        go_meet
        exact ⟨rfl, by rw [hwn]; rfl⟩
    case rest =>
    obtain ⟨rfl, rfl⟩ := hcut
    clear k2 k3 k4 k5 hW0
    obtain ⟨w2, hw2⟩ : ∃ w2, w2 = (xw || wn) := ⟨_, rfl⟩
    rw [← hw2] at hgo
    clear hwn
    go_upto_if 72 with fail
    go_cut [] from 73 to 74 (fun wx => Hid (W6 w [.slice a s.its.length ca, .int .u64 s.cas, .int .i64 s.fl] [.int .i64 op, .int .i64 mode, .string k, .string cv, .int .u32 fg, .int .i64 exp, .bool hx, .int .u64 cs, .bool hc, .int .u64 de, .int .u64 ini, .bool dn, .bool vv, .int .i64 vive, .int .i64 rc, .bool iv] [.string xk, .int .u32 xf, .string xv, .int .i64 xe, .int .u64 xc, .int .i64 xl, .bool xs, .bool w2] [.slice none 0 0, .int .u64 0, .int .i64 0] [.int .i64 0, .string ⟨#[]⟩, .int .u32 0, .string ⟨#[]⟩, .int .i64 0, .int .u64 0, .int .i64 0, .bool false, .bool false, .int .u64 0, .bool false, .bool false, .bool false] [.int .i64 1, .string ⟨#[]⟩, .int .u32 0, .string ⟨#[]⟩, .int .i64 0, .int .u64 0, .int .i64 0, .bool false, .bool false, .int .u64 0, .bool wn, .bool xs, .bool xw] wx))
    case first =>
      cases wn
      · have e : w2 = xw := by rw [hw2]; simp
        subst e
        have HW9 := HW
        clear HW hgo hw2 hxe2 hmo
        go_wp2_with fail
        go_meet
        exact HW9
      · have e : w2 = true := by rw [hw2]; simp
        have e10 := HW.out.b5.cell (i := 10) rfl
        have f10 := HW.out.b5.frozen 10
        have e7 := HW.out.w5.b2.cell (i := 7) rfl
        have f7 := HW.out.w5.b2.frozen 7
        have HW9 := hid ((HW.out.cell5 10 (.bool true)).cell2 7 (.bool true))
        subst e
        clear HW hgo hw2 hxe2 hmo
        go_wp2_with fail
        go_meet
        exact HW9
    case rest =>
    clear HW hw2
    rename World => wB
    have HW := hcut
    clear hcut
    have k6 := HW.out.w5.b1.cell (i := 6) rfl
    go_upto_if 76 with fail
    go_cut [] from 77 to 81 (fun wx => Hid (W6 w [.slice a s.its.length ca, .int .u64 s.cas, .int .i64 s.fl] [.int .i64 op, .int .i64 mode, .string k, .string cv, .int .u32 fg, .int .i64 exp, .bool hx, .int .u64 cs, .bool hc, .int .u64 de, .int .u64 ini, .bool dn, .bool vv, .int .i64 vive, .int .i64 rc, .bool iv] [.string xk, .int .u32 xf, .string xv, .int .i64 xe2, .int .u64 xc, .int .i64 xl, .bool xs, .bool w2] [.slice none 0 0, .int .u64 0, .int .i64 0] [.int .i64 0, .string ⟨#[]⟩, .int .u32 0, .string ⟨#[]⟩, .int .i64 0, .int .u64 0, .int .i64 0, .bool false, .bool false, .int .u64 0, .bool false, .bool false, .bool false] [.int .i64 1, .string ⟨#[]⟩, .int .u32 0, .string ⟨#[]⟩, .int .i64 0, .int .u64 0, .int .i64 0, .bool false, .bool false, .int .u64 0, .bool wn, .bool xs, .bool xw] wx))
    case first =>
      cases hx
      · have e : xe2 = xe := by rw [hxe2]; rfl
        subst e
        have HW9 := HW
        clear HW hgo hxe2 hmo
        go_wp2_with fail
        go_meet
        exact HW9
      · have e : xe2 = moment now exp := by rw [hxe2]; rfl
        rw [← e] at hmo
        have k7 := HW.out.w5.b1.cell (i := 5) rfl
        have e3 := HW.out.w5.b2.cell (i := 3) rfl
        have f3 := HW.out.w5.b2.frozen 3
        have HW9 := hid (HW.out.cell2 3 (.int .i64 xe2))
        clear HW hgo hxe2 e
        go_wp2_with fail
        refine (hmo _).mono ?_
        rintro e w1 ⟨rfl, rfl⟩
        go_wp2_with fail
        go_meet
        exact HW9
    case rest =>
    clear HW hxe2 hmo k6
    rename World => wD
    have HW := hcut
    clear hcut
    have m0 := HW.out.w5.b2.cell (i := 0) rfl
    have m1 := HW.out.w5.b2.cell (i := 1) rfl
    have m2 := HW.out.w5.b2.cell (i := 2) rfl
    have m3 := HW.out.w5.b2.cell (i := 3) rfl
    have m4 := HW.out.w5.b2.cell (i := 4) rfl
    have m5 := HW.out.w5.b2.cell (i := 5) rfl
    have m6 := HW.out.w5.b2.cell (i := 6) rfl
    have m7 := HW.out.w5.b2.cell (i := 7) rfl
    have mf := HW.out.w5.b2.frozen 5
    have e1 := HW.out.b5.cell (i := 1) rfl
    have f1 := HW.out.b5.frozen 1
    have e2 := HW.out.b5.cell (i := 2) rfl
    have f2 := HW.out.b5.frozen 2
    have e3 := HW.out.b5.cell (i := 3) rfl
    have f3 := HW.out.b5.frozen 3
    have e4 := HW.out.b5.cell (i := 4) rfl
    have f4 := HW.out.b5.frozen 4
    have e5 := HW.out.b5.cell (i := 5) rfl
    have f5 := HW.out.b5.frozen 5
    have e6 := HW.out.b5.cell (i := 6) rfl
    have f6 := HW.out.b5.frozen 6
    have e7 := HW.out.b5.cell (i := 7) rfl
    have f7 := HW.out.b5.frozen 7
    have e8 := HW.out.b5.cell (i := 8) rfl
    have f8 := HW.out.b5.frozen 8
    go_upto_region 15 with fail
    have HW2 := hid ((HW.out.cell2 5 (.int .i64 now)).st5 (pre := [.int .i64 1]) (cs := [.string ⟨#[]⟩, .int .u32 0, .string ⟨#[]⟩, .int .i64 0, .int .u64 0, .int .i64 0, .bool false, .bool false]) (post := [.int .u64 0, .bool wn, .bool xs, .bool xw]) (vs := [.string xk, .int .u32 xf, .string xv, .int .i64 xe2, .int .u64 xc, .int .i64 now, .bool xs, .bool w2]) (i := 1) rfl rfl)
    change Code.wp _ _ _ _ (stc (wD.setCell ⟨w.heap.size + 1 + 1, 5, none⟩ (.int .i64 now)) (w.heap.size + 1 + 1 + 1 + 1 + 1) [.string xk, .int .u32 xf, .string xv, .int .i64 xe2, .int .u64 xc, .int .i64 now, .bool xs, .bool w2] 1)
    clear HW m0 m1 m2 m3 m4 m5 m6 m7 mf e1 f1 e2 f2 e3 f3 e4 f4 e5 f5 e6 f6 e7 f7 e8 f8
    generalize stc (wD.setCell ⟨w.heap.size + 1 + 1, 5, none⟩ (.int .i64 now)) (w.heap.size + 1 + 1 + 1 + 1 + 1) [.string xk, .int .u32 xf, .string xv, .int .i64 xe2, .int .u64 xc, .int .i64 now, .bool xs, .bool w2] 1 = W2 at *
    have HW3 := hid (HW2.out.step (below_d W2))
    obtain ⟨S, hSd⟩ : ∃ S : World → Prop, S = fun W => Blk W w.heap.size 25 [.slice a s.its.length ca, .int .u64 s.cas, .int .i64 s.fl] ∧ Blk W (w.heap.size + 1 + 1) 33 [.string xk, .int .u32 xf, .string xv, .int .i64 xe2, .int .u64 xc, .int .i64 now, .bool xs, .bool w2] ∧ Blk W (w.heap.size + 1 + 1 + 1 + 1 + 1) 35 [.int .i64 1, .string xk, .int .u32 xf, .string xv, .int .i64 xe2, .int .u64 xc, .int .i64 now, .bool xs, .bool w2, .int .u64 0, .bool wn, .bool xs, .bool xw] := ⟨_, rfl⟩
    have hS : S W2.drew := by rw [hSd]; exact ⟨HW3.out.w5.b0, HW3.out.w5.b2, HW3.out.b5⟩
    refine wp_region_E S 5 (by kernel_rfl) ?_
    --TAKES wpAnyE_take | 3 | 0=.agg #[.slice a s.its.length ca, .int .u64 s.cas, .int .i64 s.fl] ; 1=.agg #[.string xk, .int .u32 xf, .string xv, .int .i64 xe2, .int .u64 xc, .int .i64 now, .bool xs, .bool w2] ; 3=.agg #[.int .i64 1, .string xk, .int .u32 xf, .string xv, .int .i64 xe2, .int .u64 xc, .int .i64 now, .bool xs, .bool w2, .int .u64 0, .bool wn, .bool xs, .bool xw]
    refine wpAnyE_take (i := 0) (v := .agg #[.slice a s.its.length ca, .int .u64 s.cas, .int .i64 s.fl]) rfl (by kernel_rfl) (by kernel_rfl) (by kernel_rfl) (fun _ _ _ h => h) (by kernel_rfl) (by kernel_rfl) hS (Or.inl ⟨by rfl, ?_⟩) ?_
    · intro w' hw'
      rw [hSd] at hw'; obtain ⟨b0, b2, b5⟩ := hw'; have s0 := b0.cell (i := 0) rfl; have s1 := b0.cell (i := 1) rfl; have s2 := b0.cell (i := 2) rfl; have x0 := b2.cell (i := 0) rfl; have x1 := b2.cell (i := 1) rfl; have x2 := b2.cell (i := 2) rfl; have x3 := b2.cell (i := 3) rfl; have x4 := b2.cell (i := 4) rfl; have x5 := b2.cell (i := 5) rfl; have x6 := b2.cell (i := 6) rfl; have x7 := b2.cell (i := 7) rfl; have y0 := b5.cell (i := 0) rfl; have y1 := b5.cell (i := 1) rfl; have y2 := b5.cell (i := 2) rfl; have y3 := b5.cell (i := 3) rfl; have y4 := b5.cell (i := 4) rfl; have y5 := b5.cell (i := 5) rfl; have y6 := b5.cell (i := 6) rfl; have y7 := b5.cell (i := 7) rfl; have y8 := b5.cell (i := 8) rfl; have y9 := b5.cell (i := 9) rfl; have y10 := b5.cell (i := 10) rfl; have y11 := b5.cell (i := 11) rfl; have y12 := b5.cell (i := 12) rfl; clear b0 b2 b5
      go_simp
    refine wpAnyE_take (i := 1) (v := .agg #[.string xk, .int .u32 xf, .string xv, .int .i64 xe2, .int .u64 xc, .int .i64 now, .bool xs, .bool w2]) rfl (by kernel_rfl) (by kernel_rfl) (by kernel_rfl) (fun _ _ _ h => h) (by kernel_rfl) (by kernel_rfl) hS (Or.inl ⟨by rfl, ?_⟩) ?_
    · intro w' hw'
      rw [hSd] at hw'; obtain ⟨b0, b2, b5⟩ := hw'; have s0 := b0.cell (i := 0) rfl; have s1 := b0.cell (i := 1) rfl; have s2 := b0.cell (i := 2) rfl; have x0 := b2.cell (i := 0) rfl; have x1 := b2.cell (i := 1) rfl; have x2 := b2.cell (i := 2) rfl; have x3 := b2.cell (i := 3) rfl; have x4 := b2.cell (i := 4) rfl; have x5 := b2.cell (i := 5) rfl; have x6 := b2.cell (i := 6) rfl; have x7 := b2.cell (i := 7) rfl; have y0 := b5.cell (i := 0) rfl; have y1 := b5.cell (i := 1) rfl; have y2 := b5.cell (i := 2) rfl; have y3 := b5.cell (i := 3) rfl; have y4 := b5.cell (i := 4) rfl; have y5 := b5.cell (i := 5) rfl; have y6 := b5.cell (i := 6) rfl; have y7 := b5.cell (i := 7) rfl; have y8 := b5.cell (i := 8) rfl; have y9 := b5.cell (i := 9) rfl; have y10 := b5.cell (i := 10) rfl; have y11 := b5.cell (i := 11) rfl; have y12 := b5.cell (i := 12) rfl; clear b0 b2 b5
      go_simp
    refine wpAnyE_take (i := 3) (v := .agg #[.int .i64 1, .string xk, .int .u32 xf, .string xv, .int .i64 xe2, .int .u64 xc, .int .i64 now, .bool xs, .bool w2, .int .u64 0, .bool wn, .bool xs, .bool xw]) rfl (by kernel_rfl) (by kernel_rfl) (by kernel_rfl) (fun _ _ _ h => h) (by kernel_rfl) (by kernel_rfl) hS (Or.inl ⟨by rfl, ?_⟩) ?_
    · intro w' hw'
      rw [hSd] at hw'; obtain ⟨b0, b2, b5⟩ := hw'; have s0 := b0.cell (i := 0) rfl; have s1 := b0.cell (i := 1) rfl; have s2 := b0.cell (i := 2) rfl; have x0 := b2.cell (i := 0) rfl; have x1 := b2.cell (i := 1) rfl; have x2 := b2.cell (i := 2) rfl; have x3 := b2.cell (i := 3) rfl; have x4 := b2.cell (i := 4) rfl; have x5 := b2.cell (i := 5) rfl; have x6 := b2.cell (i := 6) rfl; have x7 := b2.cell (i := 7) rfl; have y0 := b5.cell (i := 0) rfl; have y1 := b5.cell (i := 1) rfl; have y2 := b5.cell (i := 2) rfl; have y3 := b5.cell (i := 3) rfl; have y4 := b5.cell (i := 4) rfl; have y5 := b5.cell (i := 5) rfl; have y6 := b5.cell (i := 6) rfl; have y7 := b5.cell (i := 7) rfl; have y8 := b5.cell (i := 8) rfl; have y9 := b5.cell (i := 9) rfl; have y10 := b5.cell (i := 10) rfl; have y11 := b5.cell (i := 11) rfl; have y12 := b5.cell (i := 12) rfl; clear b0 b2 b5
      go_simp
    --END
    generalize hW3 : W2.drew = W3 at *
    have hput := ref_put (s := s) (V := .agg #[.slice a s.its.length ca, .int .u64 s.cas, .int .i64 s.fl]) (w := W3) ⟨_, rfl, HI.out.below HW3.out.w5.below⟩ HS.out hlen ⟨xk, xf, xv, xe2, xc, now, xs, w2⟩
    refine wpAnyE_one (i := 2) rfl (by kernel_rfl) (fun K hK => ?_)
    go_simp
    refine hput.mono ?_
    rintro e W4 ⟨V', rfl, ⟨hSv, hNew⟩, hb4⟩
    obtain ⟨v2, rfl, hI2⟩ := hSv
    obtain ⟨a2, c2, rfl⟩ := hI2.form
    have HW4 := hid (HW3.out.step hb4)
    have HV := hid (show Sv W4 (.agg #[.slice a2 (put s.its ⟨xk, xf, xv, xe2, xc, now, xs, w2⟩).length c2, .int .u64 s.cas, .int .i64 s.fl]) ⟨put s.its ⟨xk, xf, xv, xe2, xc, now, xs, w2⟩, s.cas, s.fl⟩ from ⟨_, rfl, hI2⟩)
    have HL := hid (And.intro hNew HW3.out.w5.b4.lt)
    have HSd := hid hSd
    refine hK _ _ (fun _ => by rw [HSd.out]; exact ⟨HW4.out.w5.b0, HW4.out.w5.b2, HW4.out.b5⟩) ?_
    clear hK K hput hI2 hNew hb4 hS hSd HW3 HW2
    refine wpAnyE_one (i := 4) rfl (by kernel_rfl) (fun K hK => ?_)
    have e0 := HW4.out.w5.b3.cell (i := 0) rfl
    have f0 := HW4.out.w5.b3.frozen 0
    have e1 := HW4.out.w5.b3.cell (i := 1) rfl
    have f1 := HW4.out.w5.b3.frozen 1
    have e2 := HW4.out.w5.b3.cell (i := 2) rfl
    have f2 := HW4.out.w5.b3.frozen 2
    unfold msv
    go_simp
    have HW5 := hid (W6.st3 HW4.out (vs := [.slice a2 (put s.its ⟨xk, xf, xv, xe2, xc, now, xs, w2⟩).length c2, .int .u64 s.cas, .int .i64 s.fl]) rfl)
    have HV5 := hid (sv_stc HL.out.1 (Nat.lt_of_succ_lt HL.out.2) [.slice a2 (put s.its ⟨xk, xf, xv, xe2, xc, now, xs, w2⟩).length c2, .int .u64 s.cas, .int .i64 s.fl] 0 W4 HV.out)
    clear e0 f0 e1 f1 e2 f2
    refine hK _ (stc W4 (w.heap.size + 1 + 1 + 1) [.slice a2 (put s.its ⟨xk, xf, xv, xe2, xc, now, xs, w2⟩).length c2, .int .u64 s.cas, .int .i64 s.fl] 0) (fun _ => by rw [HSd.out]; exact ⟨HW5.out.w5.b0, HW5.out.w5.b2, HW5.out.b5⟩) ?_
    clear hK K HW4 HV
    generalize stc W4 (w.heap.size + 1 + 1 + 1) [.slice a2 (put s.its ⟨xk, xf, xv, xe2, xc, now, xs, w2⟩).length c2, .int .u64 s.cas, .int .i64 s.fl] 0 = W5' at *
    refine wpAnyE_one (i := 5) rfl (by kernel_rfl) (fun K hK => ?_)
    have e0 := HW5.out.w5.b4.cell (i := 0) rfl
    have f0 := HW5.out.w5.b4.frozen 0
    have e1 := HW5.out.w5.b4.cell (i := 1) rfl
    have f1 := HW5.out.w5.b4.frozen 1
    have e2 := HW5.out.w5.b4.cell (i := 2) rfl
    have f2 := HW5.out.w5.b4.frozen 2
    have e3 := HW5.out.w5.b4.cell (i := 3) rfl
    have f3 := HW5.out.w5.b4.frozen 3
    have e4 := HW5.out.w5.b4.cell (i := 4) rfl
    have f4 := HW5.out.w5.b4.frozen 4
    have e5 := HW5.out.w5.b4.cell (i := 5) rfl
    have f5 := HW5.out.w5.b4.frozen 5
    have e6 := HW5.out.w5.b4.cell (i := 6) rfl
    have f6 := HW5.out.w5.b4.frozen 6
    have e7 := HW5.out.w5.b4.cell (i := 7) rfl
    have f7 := HW5.out.w5.b4.frozen 7
    have e8 := HW5.out.w5.b4.cell (i := 8) rfl
    have f8 := HW5.out.w5.b4.frozen 8
    have e9 := HW5.out.w5.b4.cell (i := 9) rfl
    have f9 := HW5.out.w5.b4.frozen 9
    have e10 := HW5.out.w5.b4.cell (i := 10) rfl
    have f10 := HW5.out.w5.b4.frozen 10
    have e11 := HW5.out.w5.b4.cell (i := 11) rfl
    have f11 := HW5.out.w5.b4.frozen 11
    have e12 := HW5.out.w5.b4.cell (i := 12) rfl
    have f12 := HW5.out.w5.b4.frozen 12
    go_simp
    have HW6 := hid (HW5.out.w5.st4 (vs := [.int .i64 1, .string xk, .int .u32 xf, .string xv, .int .i64 xe2, .int .u64 xc, .int .i64 now, .bool xs, .bool w2, .int .u64 0, .bool wn, .bool xs, .bool xw]) rfl)
    have HV6 := hid (sv_stc HL.out.1 HL.out.2 [.int .i64 1, .string xk, .int .u32 xf, .string xv, .int .i64 xe2, .int .u64 xc, .int .i64 now, .bool xs, .bool w2, .int .u64 0, .bool wn, .bool xs, .bool xw] 0 W5' HV5.out)
    clear e0 f0 e1 f1 e2 f2 e3 f3 e4 f4 e5 f5 e6 f6 e7 f7 e8 f8 e9 f9 e10 f10 e11 f11 e12 f12
    refine hK _ (stc W5' (w.heap.size + 1 + 1 + 1 + 1) [.int .i64 1, .string xk, .int .u32 xf, .string xv, .int .i64 xe2, .int .u64 xc, .int .i64 now, .bool xs, .bool w2, .int .u64 0, .bool wn, .bool xs, .bool xw] 0) (fun h => (by cases (show true = false from h))) (wpAnyE_done (by kernel_rfl) ?_ _)
    clear hK K HW5 HV5
    generalize stc W5' (w.heap.size + 1 + 1 + 1 + 1) [.int .i64 1, .string xk, .int .u32 xf, .string xv, .int .i64 xe2, .int .u64 xc, .int .i64 now, .bool xs, .bool w2, .int .u64 0, .bool wn, .bool xs, .bool xw] 0 = W6' at *
    go_wp2_with fail
    rw [hgo.out]
    exact bodyPost_ret (res_sa (a := ⟨1, ⟨xk, xf, xv, xe2, xc, now, xs, w2⟩, 0, wn, xs, xw⟩) rfl ⟨a2, c2, rfl⟩ HW6.out.b3 HW6.out.b4 rfl rfl) rfl ⟨_, rfl, HV6.out, HW6.out.below⟩
end Go.Proofs.YtpgljahomeebhaaDoor.Md
