/-
  The contract of shown, which each law of stage 16 begins with. Conditions: the library's variables are as they begin.
-/
import Derived.Test.YtpgljahomeebhaaDoorM5
namespace Go.Proofs.YtpgljahomeebhaaDoor.Md
open Go Go.RowKit Go.Lib

theorem sto_ok : (cSto kK k5 0 10 0).Ok := ⟨by decide, by decide, by decide, by decide, by decide, by decide, by decide, by decide, by decide⟩
theorem mat_ok : (cMat kK 3 false).Ok := ⟨by decide, by decide, by decide, by decide, by decide, by decide, by decide, by decide, by decide⟩
theorem get_ok : (cGet kK).Ok := ⟨by decide, by decide, by decide, by decide, by decide, by decide, by decide, by decide, by decide⟩
theorem sf1 : Fit 1 65536 ⟨[sh1], 1, 0⟩ := by
  have h := (fit_no 0 65536).apply (now := 100) (c := cSto kK k5 0 10 0) sto_ok (most := 900) (by decide)
  rw [show noMs = (⟨[], 0, 0⟩ : Ms) from rfl, sh_one] at h; exact h
theorem sf2 : Fit 2 65536 ⟨[sh2], 2, 0⟩ := by
  have h := sf1.apply (now := 105) (c := cMat kK 3 false) mat_ok (most := 900) (by decide)
  rw [sh_two] at h; exact h
set_option maxRecDepth 100000 in
set_option maxHeartbeats 2000000 in
theorem shown_any (w : World) (hv : Nu.Vars w) : Calls Tryd.prog 12 #[] w fun e w' => e = .returned (.bool true) ∧ Below w.heap.size w w' := by
  have HV := hid hv
  have HB := hid (Bxr.begin w)
  clear hv
  go_enter Tryd.func12, Tryd.ntmps12
  go_wp2_with fail
  refine (apply_bx (now := 100) (c := cSto kK k5 0 10 0) (most := 900) HB.out (its_none _) (fit_no 0 65536) (by decide) (by decide) sto_ok HV.out sh_one (cs := #[.int .i64 2, .string ⟨#[107]⟩, .int .u32 0, .string ⟨#[53]⟩, .int .i64 110, .int .u64 1, .int .i64 0, .bool false, .bool false, .int .u64 0, .bool false, .bool false, .bool false]) rfl).mono ?_
  rintro e V1 ⟨a1, n1, q1, rfl, hb1⟩
  have HC1 : Hid (Bxr w [] [(.slice a1 n1 q1, ((⟨[sh1], 1, 0⟩ : Ms)).its)] V1) := hid hb1
  clear hb1 HB
  obtain ⟨P1, hP1⟩ : ∃ P, V1.heap.size = P := ⟨_, rfl⟩
  obtain ⟨U1, hU1⟩ : ∃ U, ((V1.alloc (.cells #[.slice none 0 0, .int .u64 0, .int .i64 0] 25)).alloc (.cells #[.int .i64 0, .string ⟨#[]⟩, .int .u32 0, .string ⟨#[]⟩, .int .i64 0, .int .u64 0, .int .i64 0, .bool false, .bool false, .int .u64 0, .bool false, .bool false, .bool false] 35)) = U := ⟨_, rfl⟩
  have HD1 : Hid (Bxr w [(P1 + 1, 35, [.int .i64 0, .string ⟨#[]⟩, .int .u32 0, .string ⟨#[]⟩, .int .i64 0, .int .u64 0, .int .i64 0, .bool false, .bool false, .int .u64 0, .bool false, .bool false, .bool false]), (P1, 25, [.slice none 0 0, .int .u64 0, .int .i64 0])] [(.slice a1 n1 q1, ((⟨[sh1], 1, 0⟩ : Ms)).its)] U1) := hid (by
    have := ((HC1.out.new #[.slice none 0 0, .int .u64 0, .int .i64 0] 25).new #[.int .i64 0, .string ⟨#[]⟩, .int .u32 0, .string ⟨#[]⟩, .int .i64 0, .int .u64 0, .int .i64 0, .bool false, .bool false, .int .u64 0, .bool false, .bool false, .bool false] 35)
    simp only [World.size_alloc] at this
    rw [hP1, hU1] at this; exact this)
  clear HC1
  have e1_0 := (HD1.out.1.get 1 rfl).cell (i := 0) rfl
  have f1_0 := (HD1.out.1.get 1 rfl).frozen 0
  have e1_1 := (HD1.out.1.get 1 rfl).cell (i := 1) rfl
  have f1_1 := (HD1.out.1.get 1 rfl).frozen 1
  have e1_2 := (HD1.out.1.get 1 rfl).cell (i := 2) rfl
  have f1_2 := (HD1.out.1.get 1 rfl).frozen 2
  have e0_0 := (HD1.out.1.get 0 rfl).cell (i := 0) rfl
  have f0_0 := (HD1.out.1.get 0 rfl).frozen 0
  have e0_1 := (HD1.out.1.get 0 rfl).cell (i := 1) rfl
  have f0_1 := (HD1.out.1.get 0 rfl).frozen 1
  have e0_2 := (HD1.out.1.get 0 rfl).cell (i := 2) rfl
  have f0_2 := (HD1.out.1.get 0 rfl).frozen 2
  have e0_3 := (HD1.out.1.get 0 rfl).cell (i := 3) rfl
  have f0_3 := (HD1.out.1.get 0 rfl).frozen 3
  have e0_4 := (HD1.out.1.get 0 rfl).cell (i := 4) rfl
  have f0_4 := (HD1.out.1.get 0 rfl).frozen 4
  have e0_5 := (HD1.out.1.get 0 rfl).cell (i := 5) rfl
  have f0_5 := (HD1.out.1.get 0 rfl).frozen 5
  have e0_6 := (HD1.out.1.get 0 rfl).cell (i := 6) rfl
  have f0_6 := (HD1.out.1.get 0 rfl).frozen 6
  have e0_7 := (HD1.out.1.get 0 rfl).cell (i := 7) rfl
  have f0_7 := (HD1.out.1.get 0 rfl).frozen 7
  have e0_8 := (HD1.out.1.get 0 rfl).cell (i := 8) rfl
  have f0_8 := (HD1.out.1.get 0 rfl).frozen 8
  have e0_9 := (HD1.out.1.get 0 rfl).cell (i := 9) rfl
  have f0_9 := (HD1.out.1.get 0 rfl).frozen 9
  have e0_10 := (HD1.out.1.get 0 rfl).cell (i := 10) rfl
  have f0_10 := (HD1.out.1.get 0 rfl).frozen 10
  have e0_11 := (HD1.out.1.get 0 rfl).cell (i := 11) rfl
  have f0_11 := (HD1.out.1.get 0 rfl).frozen 11
  have e0_12 := (HD1.out.1.get 0 rfl).cell (i := 12) rfl
  have f0_12 := (HD1.out.1.get 0 rfl).frozen 12
  have n1_0 : P1 ≠ P1 + 1 := pw_ne (f := fun x : Nat × TypeId × List Value => x.1) HD1.out.1.2.2 (i := 1) (j := 0) rfl rfl (by decide)
  have n0_1 : P1 + 1 ≠ P1 := pw_ne (f := fun x : Nat × TypeId × List Value => x.1) HD1.out.1.2.2 (i := 0) (j := 1) rfl rfl (by decide)
  go_upto_region 2 with fail
  clear n1_0 n0_1
  clear e1_0 f1_0 e1_1 f1_1 e1_2 f1_2 e0_0 f0_0 e0_1 f0_1 e0_2 f0_2 e0_3 f0_3 e0_4 f0_4 e0_5 f0_5 e0_6 f0_6 e0_7 f0_7 e0_8 f0_8 e0_9 f0_9 e0_10 f0_10 e0_11 f0_11 e0_12 f0_12
  change Code.wp _ _ _ _ (stc (stc U1 (P1) [.slice a1 n1 q1, .int .u64 ((⟨[sh1], 1, 0⟩ : Ms)).cas, .int .i64 ((⟨[sh1], 1, 0⟩ : Ms)).fl] 0) (P1 + 1) [.int .i64 2, .string ⟨#[107]⟩, .int .u32 0, .string ⟨#[53]⟩, .int .i64 110, .int .u64 1, .int .i64 0, .bool false, .bool false, .int .u64 0, .bool false, .bool false, .bool false] 0)
  have HE1 : Hid (Bxr w [(P1 + 1, 35, [.int .i64 2, .string ⟨#[107]⟩, .int .u32 0, .string ⟨#[53]⟩, .int .i64 110, .int .u64 1, .int .i64 0, .bool false, .bool false, .int .u64 0, .bool false, .bool false, .bool false]), (P1, 25, [.slice a1 n1 q1, .int .u64 ((⟨[sh1], 1, 0⟩ : Ms)).cas, .int .i64 ((⟨[sh1], 1, 0⟩ : Ms)).fl])] [(.slice a1 n1 q1, ((⟨[sh1], 1, 0⟩ : Ms)).its)] (stc (stc U1 (P1) [.slice a1 n1 q1, .int .u64 ((⟨[sh1], 1, 0⟩ : Ms)).cas, .int .i64 ((⟨[sh1], 1, 0⟩ : Ms)).fl] 0) (P1 + 1) [.int .i64 2, .string ⟨#[107]⟩, .int .u32 0, .string ⟨#[53]⟩, .int .i64 110, .int .u64 1, .int .i64 0, .bool false, .bool false, .int .u64 0, .bool false, .bool false, .bool false] 0)) := hid ((HD1.out.set 1 (vs := [.slice a1 n1 q1, .int .u64 ((⟨[sh1], 1, 0⟩ : Ms)).cas, .int .i64 ((⟨[sh1], 1, 0⟩ : Ms)).fl]) rfl rfl).set 0 (vs := [.int .i64 2, .string ⟨#[107]⟩, .int .u32 0, .string ⟨#[53]⟩, .int .i64 110, .int .u64 1, .int .i64 0, .bool false, .bool false, .int .u64 0, .bool false, .bool false, .bool false]) rfl rfl)
  clear HD1 hU1 hP1
  generalize (stc (stc U1 (P1) [.slice a1 n1 q1, .int .u64 ((⟨[sh1], 1, 0⟩ : Ms)).cas, .int .i64 ((⟨[sh1], 1, 0⟩ : Ms)).fl] 0) (P1 + 1) [.int .i64 2, .string ⟨#[107]⟩, .int .u32 0, .string ⟨#[53]⟩, .int .i64 110, .int .u64 1, .int .i64 0, .bool false, .bool false, .int .u64 0, .bool false, .bool false, .bool false] 0) = X1 at *
  have t0 := (HE1.out.1.get 1 rfl).cell (i := 0) rfl
  have t1 := (HE1.out.1.get 1 rfl).cell (i := 1) rfl
  have t2 := (HE1.out.1.get 1 rfl).cell (i := 2) rfl
  go_wp2_with fail
  clear t0 t1 t2
  refine (apply_bx (now := 105) (c := cMat kK 3 false) (most := 900) HE1.out (HE1.out.its 0 rfl) sf1 (by decide) (by decide) mat_ok HV.out sh_two (cs := #[.int .i64 6, .string ⟨#[107]⟩, .int .u32 0, .string ⟨#[56]⟩, .int .i64 110, .int .u64 2, .int .i64 0, .bool false, .bool false, .int .u64 8, .bool false, .bool false, .bool false]) rfl).mono ?_
  rintro e V2 ⟨a2, n2, q2, rfl, hb2⟩
  have HC2 : Hid (Bxr w [(P1 + 1, 35, [.int .i64 2, .string ⟨#[107]⟩, .int .u32 0, .string ⟨#[53]⟩, .int .i64 110, .int .u64 1, .int .i64 0, .bool false, .bool false, .int .u64 0, .bool false, .bool false, .bool false]), (P1, 25, [.slice a1 n1 q1, .int .u64 ((⟨[sh1], 1, 0⟩ : Ms)).cas, .int .i64 ((⟨[sh1], 1, 0⟩ : Ms)).fl])] [(.slice a2 n2 q2, ((⟨[sh2], 2, 0⟩ : Ms)).its), (.slice a1 n1 q1, ((⟨[sh1], 1, 0⟩ : Ms)).its)] V2) := hid hb2
  clear hb2 HE1
  obtain ⟨P2, hP2⟩ : ∃ P, V2.heap.size = P := ⟨_, rfl⟩
  obtain ⟨U2, hU2⟩ : ∃ U, (V2.alloc (.cells #[.int .i64 0, .string ⟨#[]⟩, .int .u32 0, .string ⟨#[]⟩, .int .i64 0, .int .u64 0, .int .i64 0, .bool false, .bool false, .int .u64 0, .bool false, .bool false, .bool false] 35)) = U := ⟨_, rfl⟩
  have HD2 : Hid (Bxr w [(P2, 35, [.int .i64 0, .string ⟨#[]⟩, .int .u32 0, .string ⟨#[]⟩, .int .i64 0, .int .u64 0, .int .i64 0, .bool false, .bool false, .int .u64 0, .bool false, .bool false, .bool false]), (P1 + 1, 35, [.int .i64 2, .string ⟨#[107]⟩, .int .u32 0, .string ⟨#[53]⟩, .int .i64 110, .int .u64 1, .int .i64 0, .bool false, .bool false, .int .u64 0, .bool false, .bool false, .bool false]), (P1, 25, [.slice a1 n1 q1, .int .u64 ((⟨[sh1], 1, 0⟩ : Ms)).cas, .int .i64 ((⟨[sh1], 1, 0⟩ : Ms)).fl])] [(.slice a2 n2 q2, ((⟨[sh2], 2, 0⟩ : Ms)).its), (.slice a1 n1 q1, ((⟨[sh1], 1, 0⟩ : Ms)).its)] U2) := hid (by
    have := (HC2.out.new #[.int .i64 0, .string ⟨#[]⟩, .int .u32 0, .string ⟨#[]⟩, .int .i64 0, .int .u64 0, .int .i64 0, .bool false, .bool false, .int .u64 0, .bool false, .bool false, .bool false] 35)
    rw [hP2, hU2] at this; exact this)
  clear HC2
  have e2_0 := (HD2.out.1.get 2 rfl).cell (i := 0) rfl
  have f2_0 := (HD2.out.1.get 2 rfl).frozen 0
  have e2_1 := (HD2.out.1.get 2 rfl).cell (i := 1) rfl
  have f2_1 := (HD2.out.1.get 2 rfl).frozen 1
  have e2_2 := (HD2.out.1.get 2 rfl).cell (i := 2) rfl
  have f2_2 := (HD2.out.1.get 2 rfl).frozen 2
  have e0_0 := (HD2.out.1.get 0 rfl).cell (i := 0) rfl
  have f0_0 := (HD2.out.1.get 0 rfl).frozen 0
  have e0_1 := (HD2.out.1.get 0 rfl).cell (i := 1) rfl
  have f0_1 := (HD2.out.1.get 0 rfl).frozen 1
  have e0_2 := (HD2.out.1.get 0 rfl).cell (i := 2) rfl
  have f0_2 := (HD2.out.1.get 0 rfl).frozen 2
  have e0_3 := (HD2.out.1.get 0 rfl).cell (i := 3) rfl
  have f0_3 := (HD2.out.1.get 0 rfl).frozen 3
  have e0_4 := (HD2.out.1.get 0 rfl).cell (i := 4) rfl
  have f0_4 := (HD2.out.1.get 0 rfl).frozen 4
  have e0_5 := (HD2.out.1.get 0 rfl).cell (i := 5) rfl
  have f0_5 := (HD2.out.1.get 0 rfl).frozen 5
  have e0_6 := (HD2.out.1.get 0 rfl).cell (i := 6) rfl
  have f0_6 := (HD2.out.1.get 0 rfl).frozen 6
  have e0_7 := (HD2.out.1.get 0 rfl).cell (i := 7) rfl
  have f0_7 := (HD2.out.1.get 0 rfl).frozen 7
  have e0_8 := (HD2.out.1.get 0 rfl).cell (i := 8) rfl
  have f0_8 := (HD2.out.1.get 0 rfl).frozen 8
  have e0_9 := (HD2.out.1.get 0 rfl).cell (i := 9) rfl
  have f0_9 := (HD2.out.1.get 0 rfl).frozen 9
  have e0_10 := (HD2.out.1.get 0 rfl).cell (i := 10) rfl
  have f0_10 := (HD2.out.1.get 0 rfl).frozen 10
  have e0_11 := (HD2.out.1.get 0 rfl).cell (i := 11) rfl
  have f0_11 := (HD2.out.1.get 0 rfl).frozen 11
  have e0_12 := (HD2.out.1.get 0 rfl).cell (i := 12) rfl
  have f0_12 := (HD2.out.1.get 0 rfl).frozen 12
  have n2_0 : P1 ≠ P2 := pw_ne (f := fun x : Nat × TypeId × List Value => x.1) HD2.out.1.2.2 (i := 2) (j := 0) rfl rfl (by decide)
  have n0_2 : P2 ≠ P1 := pw_ne (f := fun x : Nat × TypeId × List Value => x.1) HD2.out.1.2.2 (i := 0) (j := 2) rfl rfl (by decide)
  go_upto_region 3 with fail
  clear n2_0 n0_2
  clear e2_0 f2_0 e2_1 f2_1 e2_2 f2_2 e0_0 f0_0 e0_1 f0_1 e0_2 f0_2 e0_3 f0_3 e0_4 f0_4 e0_5 f0_5 e0_6 f0_6 e0_7 f0_7 e0_8 f0_8 e0_9 f0_9 e0_10 f0_10 e0_11 f0_11 e0_12 f0_12
  change Code.wp _ _ _ _ (stc (stc U2 (P1) [.slice a2 n2 q2, .int .u64 ((⟨[sh2], 2, 0⟩ : Ms)).cas, .int .i64 ((⟨[sh2], 2, 0⟩ : Ms)).fl] 0) (P2) [.int .i64 6, .string ⟨#[107]⟩, .int .u32 0, .string ⟨#[56]⟩, .int .i64 110, .int .u64 2, .int .i64 0, .bool false, .bool false, .int .u64 8, .bool false, .bool false, .bool false] 0)
  have HE2 : Hid (Bxr w [(P2, 35, [.int .i64 6, .string ⟨#[107]⟩, .int .u32 0, .string ⟨#[56]⟩, .int .i64 110, .int .u64 2, .int .i64 0, .bool false, .bool false, .int .u64 8, .bool false, .bool false, .bool false]), (P1 + 1, 35, [.int .i64 2, .string ⟨#[107]⟩, .int .u32 0, .string ⟨#[53]⟩, .int .i64 110, .int .u64 1, .int .i64 0, .bool false, .bool false, .int .u64 0, .bool false, .bool false, .bool false]), (P1, 25, [.slice a2 n2 q2, .int .u64 ((⟨[sh2], 2, 0⟩ : Ms)).cas, .int .i64 ((⟨[sh2], 2, 0⟩ : Ms)).fl])] [(.slice a2 n2 q2, ((⟨[sh2], 2, 0⟩ : Ms)).its), (.slice a1 n1 q1, ((⟨[sh1], 1, 0⟩ : Ms)).its)] (stc (stc U2 (P1) [.slice a2 n2 q2, .int .u64 ((⟨[sh2], 2, 0⟩ : Ms)).cas, .int .i64 ((⟨[sh2], 2, 0⟩ : Ms)).fl] 0) (P2) [.int .i64 6, .string ⟨#[107]⟩, .int .u32 0, .string ⟨#[56]⟩, .int .i64 110, .int .u64 2, .int .i64 0, .bool false, .bool false, .int .u64 8, .bool false, .bool false, .bool false] 0)) := hid ((HD2.out.set 2 (vs := [.slice a2 n2 q2, .int .u64 ((⟨[sh2], 2, 0⟩ : Ms)).cas, .int .i64 ((⟨[sh2], 2, 0⟩ : Ms)).fl]) rfl rfl).set 0 (vs := [.int .i64 6, .string ⟨#[107]⟩, .int .u32 0, .string ⟨#[56]⟩, .int .i64 110, .int .u64 2, .int .i64 0, .bool false, .bool false, .int .u64 8, .bool false, .bool false, .bool false]) rfl rfl)
  clear HD2 hU2 hP2
  generalize (stc (stc U2 (P1) [.slice a2 n2 q2, .int .u64 ((⟨[sh2], 2, 0⟩ : Ms)).cas, .int .i64 ((⟨[sh2], 2, 0⟩ : Ms)).fl] 0) (P2) [.int .i64 6, .string ⟨#[107]⟩, .int .u32 0, .string ⟨#[56]⟩, .int .i64 110, .int .u64 2, .int .i64 0, .bool false, .bool false, .int .u64 8, .bool false, .bool false, .bool false] 0) = X2 at *
  have t0 := (HE2.out.1.get 2 rfl).cell (i := 0) rfl
  have t1 := (HE2.out.1.get 2 rfl).cell (i := 1) rfl
  have t2 := (HE2.out.1.get 2 rfl).cell (i := 2) rfl
  go_wp2_with fail
  clear t0 t1 t2
  refine (apply_bx (now := 109) (c := cGet kK) (most := 900) HE2.out (HE2.out.its 0 rfl) sf2 (by decide) (by decide) get_ok HV.out sh_three (cs := #[.int .i64 1, .string ⟨#[107]⟩, .int .u32 0, .string ⟨#[56]⟩, .int .i64 110, .int .u64 2, .int .i64 109, .bool false, .bool false, .int .u64 0, .bool false, .bool false, .bool false]) rfl).mono ?_
  rintro e V3 ⟨a3, n3, q3, rfl, hb3⟩
  have HC3 : Hid (Bxr w [(P2, 35, [.int .i64 6, .string ⟨#[107]⟩, .int .u32 0, .string ⟨#[56]⟩, .int .i64 110, .int .u64 2, .int .i64 0, .bool false, .bool false, .int .u64 8, .bool false, .bool false, .bool false]), (P1 + 1, 35, [.int .i64 2, .string ⟨#[107]⟩, .int .u32 0, .string ⟨#[53]⟩, .int .i64 110, .int .u64 1, .int .i64 0, .bool false, .bool false, .int .u64 0, .bool false, .bool false, .bool false]), (P1, 25, [.slice a2 n2 q2, .int .u64 ((⟨[sh2], 2, 0⟩ : Ms)).cas, .int .i64 ((⟨[sh2], 2, 0⟩ : Ms)).fl])] [(.slice a3 n3 q3, ((⟨[sh3], 2, 0⟩ : Ms)).its), (.slice a2 n2 q2, ((⟨[sh2], 2, 0⟩ : Ms)).its), (.slice a1 n1 q1, ((⟨[sh1], 1, 0⟩ : Ms)).its)] V3) := hid hb3
  clear hb3 HE2
  obtain ⟨P3, hP3⟩ : ∃ P, V3.heap.size = P := ⟨_, rfl⟩
  obtain ⟨U3, hU3⟩ : ∃ U, ((V3.alloc (.cells #[.slice none 0 0, .int .u64 0, .int .i64 0] 25)).alloc (.cells #[.int .i64 0, .string ⟨#[]⟩, .int .u32 0, .string ⟨#[]⟩, .int .i64 0, .int .u64 0, .int .i64 0, .bool false, .bool false, .int .u64 0, .bool false, .bool false, .bool false] 35)) = U := ⟨_, rfl⟩
  have HD3 : Hid (Bxr w [(P3 + 1, 35, [.int .i64 0, .string ⟨#[]⟩, .int .u32 0, .string ⟨#[]⟩, .int .i64 0, .int .u64 0, .int .i64 0, .bool false, .bool false, .int .u64 0, .bool false, .bool false, .bool false]), (P3, 25, [.slice none 0 0, .int .u64 0, .int .i64 0]), (P2, 35, [.int .i64 6, .string ⟨#[107]⟩, .int .u32 0, .string ⟨#[56]⟩, .int .i64 110, .int .u64 2, .int .i64 0, .bool false, .bool false, .int .u64 8, .bool false, .bool false, .bool false]), (P1 + 1, 35, [.int .i64 2, .string ⟨#[107]⟩, .int .u32 0, .string ⟨#[53]⟩, .int .i64 110, .int .u64 1, .int .i64 0, .bool false, .bool false, .int .u64 0, .bool false, .bool false, .bool false]), (P1, 25, [.slice a2 n2 q2, .int .u64 ((⟨[sh2], 2, 0⟩ : Ms)).cas, .int .i64 ((⟨[sh2], 2, 0⟩ : Ms)).fl])] [(.slice a3 n3 q3, ((⟨[sh3], 2, 0⟩ : Ms)).its), (.slice a2 n2 q2, ((⟨[sh2], 2, 0⟩ : Ms)).its), (.slice a1 n1 q1, ((⟨[sh1], 1, 0⟩ : Ms)).its)] U3) := hid (by
    have := ((HC3.out.new #[.slice none 0 0, .int .u64 0, .int .i64 0] 25).new #[.int .i64 0, .string ⟨#[]⟩, .int .u32 0, .string ⟨#[]⟩, .int .i64 0, .int .u64 0, .int .i64 0, .bool false, .bool false, .int .u64 0, .bool false, .bool false, .bool false] 35)
    simp only [World.size_alloc] at this
    rw [hP3, hU3] at this; exact this)
  clear HC3
  have e1_0 := (HD3.out.1.get 1 rfl).cell (i := 0) rfl
  have f1_0 := (HD3.out.1.get 1 rfl).frozen 0
  have e1_1 := (HD3.out.1.get 1 rfl).cell (i := 1) rfl
  have f1_1 := (HD3.out.1.get 1 rfl).frozen 1
  have e1_2 := (HD3.out.1.get 1 rfl).cell (i := 2) rfl
  have f1_2 := (HD3.out.1.get 1 rfl).frozen 2
  have e0_0 := (HD3.out.1.get 0 rfl).cell (i := 0) rfl
  have f0_0 := (HD3.out.1.get 0 rfl).frozen 0
  have e0_1 := (HD3.out.1.get 0 rfl).cell (i := 1) rfl
  have f0_1 := (HD3.out.1.get 0 rfl).frozen 1
  have e0_2 := (HD3.out.1.get 0 rfl).cell (i := 2) rfl
  have f0_2 := (HD3.out.1.get 0 rfl).frozen 2
  have e0_3 := (HD3.out.1.get 0 rfl).cell (i := 3) rfl
  have f0_3 := (HD3.out.1.get 0 rfl).frozen 3
  have e0_4 := (HD3.out.1.get 0 rfl).cell (i := 4) rfl
  have f0_4 := (HD3.out.1.get 0 rfl).frozen 4
  have e0_5 := (HD3.out.1.get 0 rfl).cell (i := 5) rfl
  have f0_5 := (HD3.out.1.get 0 rfl).frozen 5
  have e0_6 := (HD3.out.1.get 0 rfl).cell (i := 6) rfl
  have f0_6 := (HD3.out.1.get 0 rfl).frozen 6
  have e0_7 := (HD3.out.1.get 0 rfl).cell (i := 7) rfl
  have f0_7 := (HD3.out.1.get 0 rfl).frozen 7
  have e0_8 := (HD3.out.1.get 0 rfl).cell (i := 8) rfl
  have f0_8 := (HD3.out.1.get 0 rfl).frozen 8
  have e0_9 := (HD3.out.1.get 0 rfl).cell (i := 9) rfl
  have f0_9 := (HD3.out.1.get 0 rfl).frozen 9
  have e0_10 := (HD3.out.1.get 0 rfl).cell (i := 10) rfl
  have f0_10 := (HD3.out.1.get 0 rfl).frozen 10
  have e0_11 := (HD3.out.1.get 0 rfl).cell (i := 11) rfl
  have f0_11 := (HD3.out.1.get 0 rfl).frozen 11
  have e0_12 := (HD3.out.1.get 0 rfl).cell (i := 12) rfl
  have f0_12 := (HD3.out.1.get 0 rfl).frozen 12
  have n1_0 : P3 ≠ P3 + 1 := pw_ne (f := fun x : Nat × TypeId × List Value => x.1) HD3.out.1.2.2 (i := 1) (j := 0) rfl rfl (by decide)
  have n0_1 : P3 + 1 ≠ P3 := pw_ne (f := fun x : Nat × TypeId × List Value => x.1) HD3.out.1.2.2 (i := 0) (j := 1) rfl rfl (by decide)
  go_upto_region 4 with fail
  clear n1_0 n0_1
  clear e1_0 f1_0 e1_1 f1_1 e1_2 f1_2 e0_0 f0_0 e0_1 f0_1 e0_2 f0_2 e0_3 f0_3 e0_4 f0_4 e0_5 f0_5 e0_6 f0_6 e0_7 f0_7 e0_8 f0_8 e0_9 f0_9 e0_10 f0_10 e0_11 f0_11 e0_12 f0_12
  change Code.wp _ _ _ _ (stc (stc U3 (P3) [.slice a3 n3 q3, .int .u64 ((⟨[sh3], 2, 0⟩ : Ms)).cas, .int .i64 ((⟨[sh3], 2, 0⟩ : Ms)).fl] 0) (P3 + 1) [.int .i64 1, .string ⟨#[107]⟩, .int .u32 0, .string ⟨#[56]⟩, .int .i64 110, .int .u64 2, .int .i64 109, .bool false, .bool false, .int .u64 0, .bool false, .bool false, .bool false] 0)
  have HE3 : Hid (Bxr w [(P3 + 1, 35, [.int .i64 1, .string ⟨#[107]⟩, .int .u32 0, .string ⟨#[56]⟩, .int .i64 110, .int .u64 2, .int .i64 109, .bool false, .bool false, .int .u64 0, .bool false, .bool false, .bool false]), (P3, 25, [.slice a3 n3 q3, .int .u64 ((⟨[sh3], 2, 0⟩ : Ms)).cas, .int .i64 ((⟨[sh3], 2, 0⟩ : Ms)).fl]), (P2, 35, [.int .i64 6, .string ⟨#[107]⟩, .int .u32 0, .string ⟨#[56]⟩, .int .i64 110, .int .u64 2, .int .i64 0, .bool false, .bool false, .int .u64 8, .bool false, .bool false, .bool false]), (P1 + 1, 35, [.int .i64 2, .string ⟨#[107]⟩, .int .u32 0, .string ⟨#[53]⟩, .int .i64 110, .int .u64 1, .int .i64 0, .bool false, .bool false, .int .u64 0, .bool false, .bool false, .bool false]), (P1, 25, [.slice a2 n2 q2, .int .u64 ((⟨[sh2], 2, 0⟩ : Ms)).cas, .int .i64 ((⟨[sh2], 2, 0⟩ : Ms)).fl])] [(.slice a3 n3 q3, ((⟨[sh3], 2, 0⟩ : Ms)).its), (.slice a2 n2 q2, ((⟨[sh2], 2, 0⟩ : Ms)).its), (.slice a1 n1 q1, ((⟨[sh1], 1, 0⟩ : Ms)).its)] (stc (stc U3 (P3) [.slice a3 n3 q3, .int .u64 ((⟨[sh3], 2, 0⟩ : Ms)).cas, .int .i64 ((⟨[sh3], 2, 0⟩ : Ms)).fl] 0) (P3 + 1) [.int .i64 1, .string ⟨#[107]⟩, .int .u32 0, .string ⟨#[56]⟩, .int .i64 110, .int .u64 2, .int .i64 109, .bool false, .bool false, .int .u64 0, .bool false, .bool false, .bool false] 0)) := hid ((HD3.out.set 1 (vs := [.slice a3 n3 q3, .int .u64 ((⟨[sh3], 2, 0⟩ : Ms)).cas, .int .i64 ((⟨[sh3], 2, 0⟩ : Ms)).fl]) rfl rfl).set 0 (vs := [.int .i64 1, .string ⟨#[107]⟩, .int .u32 0, .string ⟨#[56]⟩, .int .i64 110, .int .u64 2, .int .i64 109, .bool false, .bool false, .int .u64 0, .bool false, .bool false, .bool false]) rfl rfl)
  clear HD3 hU3 hP3
  generalize (stc (stc U3 (P3) [.slice a3 n3 q3, .int .u64 ((⟨[sh3], 2, 0⟩ : Ms)).cas, .int .i64 ((⟨[sh3], 2, 0⟩ : Ms)).fl] 0) (P3 + 1) [.int .i64 1, .string ⟨#[107]⟩, .int .u32 0, .string ⟨#[56]⟩, .int .i64 110, .int .u64 2, .int .i64 109, .bool false, .bool false, .int .u64 0, .bool false, .bool false, .bool false] 0) = X3 at *
  have t0 := (HE3.out.1.get 4 rfl).cell (i := 0) rfl
  have t1 := (HE3.out.1.get 4 rfl).cell (i := 1) rfl
  have t2 := (HE3.out.1.get 4 rfl).cell (i := 2) rfl
  go_wp2_with fail
  clear t0 t1 t2
  refine (apply_bx (now := 110) (c := cGet kK) (most := 900) HE3.out (HE3.out.its 1 rfl) sf2 (by decide) (by decide) get_ok HV.out sh_four (cs := #[.int .i64 5, .string ⟨#[]⟩, .int .u32 0, .string ⟨#[]⟩, .int .i64 0, .int .u64 0, .int .i64 0, .bool false, .bool false, .int .u64 0, .bool false, .bool false, .bool false]) rfl).mono ?_
  rintro e V4 ⟨a4, n4, q4, rfl, hb4⟩
  have HC4 : Hid (Bxr w [(P3 + 1, 35, [.int .i64 1, .string ⟨#[107]⟩, .int .u32 0, .string ⟨#[56]⟩, .int .i64 110, .int .u64 2, .int .i64 109, .bool false, .bool false, .int .u64 0, .bool false, .bool false, .bool false]), (P3, 25, [.slice a3 n3 q3, .int .u64 ((⟨[sh3], 2, 0⟩ : Ms)).cas, .int .i64 ((⟨[sh3], 2, 0⟩ : Ms)).fl]), (P2, 35, [.int .i64 6, .string ⟨#[107]⟩, .int .u32 0, .string ⟨#[56]⟩, .int .i64 110, .int .u64 2, .int .i64 0, .bool false, .bool false, .int .u64 8, .bool false, .bool false, .bool false]), (P1 + 1, 35, [.int .i64 2, .string ⟨#[107]⟩, .int .u32 0, .string ⟨#[53]⟩, .int .i64 110, .int .u64 1, .int .i64 0, .bool false, .bool false, .int .u64 0, .bool false, .bool false, .bool false]), (P1, 25, [.slice a2 n2 q2, .int .u64 ((⟨[sh2], 2, 0⟩ : Ms)).cas, .int .i64 ((⟨[sh2], 2, 0⟩ : Ms)).fl])] [(.slice a4 n4 q4, ((⟨[], 2, 0⟩ : Ms)).its), (.slice a3 n3 q3, ((⟨[sh3], 2, 0⟩ : Ms)).its), (.slice a2 n2 q2, ((⟨[sh2], 2, 0⟩ : Ms)).its), (.slice a1 n1 q1, ((⟨[sh1], 1, 0⟩ : Ms)).its)] V4) := hid hb4
  clear hb4 HE3
  obtain ⟨P4, hP4⟩ : ∃ P, V4.heap.size = P := ⟨_, rfl⟩
  obtain ⟨U4, hU4⟩ : ∃ U, ((V4.alloc (.cells #[.slice none 0 0, .int .u64 0, .int .i64 0] 25)).alloc (.cells #[.int .i64 0, .string ⟨#[]⟩, .int .u32 0, .string ⟨#[]⟩, .int .i64 0, .int .u64 0, .int .i64 0, .bool false, .bool false, .int .u64 0, .bool false, .bool false, .bool false] 35)) = U := ⟨_, rfl⟩
  have HD4 : Hid (Bxr w [(P4 + 1, 35, [.int .i64 0, .string ⟨#[]⟩, .int .u32 0, .string ⟨#[]⟩, .int .i64 0, .int .u64 0, .int .i64 0, .bool false, .bool false, .int .u64 0, .bool false, .bool false, .bool false]), (P4, 25, [.slice none 0 0, .int .u64 0, .int .i64 0]), (P3 + 1, 35, [.int .i64 1, .string ⟨#[107]⟩, .int .u32 0, .string ⟨#[56]⟩, .int .i64 110, .int .u64 2, .int .i64 109, .bool false, .bool false, .int .u64 0, .bool false, .bool false, .bool false]), (P3, 25, [.slice a3 n3 q3, .int .u64 ((⟨[sh3], 2, 0⟩ : Ms)).cas, .int .i64 ((⟨[sh3], 2, 0⟩ : Ms)).fl]), (P2, 35, [.int .i64 6, .string ⟨#[107]⟩, .int .u32 0, .string ⟨#[56]⟩, .int .i64 110, .int .u64 2, .int .i64 0, .bool false, .bool false, .int .u64 8, .bool false, .bool false, .bool false]), (P1 + 1, 35, [.int .i64 2, .string ⟨#[107]⟩, .int .u32 0, .string ⟨#[53]⟩, .int .i64 110, .int .u64 1, .int .i64 0, .bool false, .bool false, .int .u64 0, .bool false, .bool false, .bool false]), (P1, 25, [.slice a2 n2 q2, .int .u64 ((⟨[sh2], 2, 0⟩ : Ms)).cas, .int .i64 ((⟨[sh2], 2, 0⟩ : Ms)).fl])] [(.slice a4 n4 q4, ((⟨[], 2, 0⟩ : Ms)).its), (.slice a3 n3 q3, ((⟨[sh3], 2, 0⟩ : Ms)).its), (.slice a2 n2 q2, ((⟨[sh2], 2, 0⟩ : Ms)).its), (.slice a1 n1 q1, ((⟨[sh1], 1, 0⟩ : Ms)).its)] U4) := hid (by
    have := ((HC4.out.new #[.slice none 0 0, .int .u64 0, .int .i64 0] 25).new #[.int .i64 0, .string ⟨#[]⟩, .int .u32 0, .string ⟨#[]⟩, .int .i64 0, .int .u64 0, .int .i64 0, .bool false, .bool false, .int .u64 0, .bool false, .bool false, .bool false] 35)
    simp only [World.size_alloc] at this
    rw [hP4, hU4] at this; exact this)
  clear HC4
  have e1_0 := (HD4.out.1.get 1 rfl).cell (i := 0) rfl
  have f1_0 := (HD4.out.1.get 1 rfl).frozen 0
  have e1_1 := (HD4.out.1.get 1 rfl).cell (i := 1) rfl
  have f1_1 := (HD4.out.1.get 1 rfl).frozen 1
  have e1_2 := (HD4.out.1.get 1 rfl).cell (i := 2) rfl
  have f1_2 := (HD4.out.1.get 1 rfl).frozen 2
  have e0_0 := (HD4.out.1.get 0 rfl).cell (i := 0) rfl
  have f0_0 := (HD4.out.1.get 0 rfl).frozen 0
  have e0_1 := (HD4.out.1.get 0 rfl).cell (i := 1) rfl
  have f0_1 := (HD4.out.1.get 0 rfl).frozen 1
  have e0_2 := (HD4.out.1.get 0 rfl).cell (i := 2) rfl
  have f0_2 := (HD4.out.1.get 0 rfl).frozen 2
  have e0_3 := (HD4.out.1.get 0 rfl).cell (i := 3) rfl
  have f0_3 := (HD4.out.1.get 0 rfl).frozen 3
  have e0_4 := (HD4.out.1.get 0 rfl).cell (i := 4) rfl
  have f0_4 := (HD4.out.1.get 0 rfl).frozen 4
  have e0_5 := (HD4.out.1.get 0 rfl).cell (i := 5) rfl
  have f0_5 := (HD4.out.1.get 0 rfl).frozen 5
  have e0_6 := (HD4.out.1.get 0 rfl).cell (i := 6) rfl
  have f0_6 := (HD4.out.1.get 0 rfl).frozen 6
  have e0_7 := (HD4.out.1.get 0 rfl).cell (i := 7) rfl
  have f0_7 := (HD4.out.1.get 0 rfl).frozen 7
  have e0_8 := (HD4.out.1.get 0 rfl).cell (i := 8) rfl
  have f0_8 := (HD4.out.1.get 0 rfl).frozen 8
  have e0_9 := (HD4.out.1.get 0 rfl).cell (i := 9) rfl
  have f0_9 := (HD4.out.1.get 0 rfl).frozen 9
  have e0_10 := (HD4.out.1.get 0 rfl).cell (i := 10) rfl
  have f0_10 := (HD4.out.1.get 0 rfl).frozen 10
  have e0_11 := (HD4.out.1.get 0 rfl).cell (i := 11) rfl
  have f0_11 := (HD4.out.1.get 0 rfl).frozen 11
  have e0_12 := (HD4.out.1.get 0 rfl).cell (i := 12) rfl
  have f0_12 := (HD4.out.1.get 0 rfl).frozen 12
  have n1_0 : P4 ≠ P4 + 1 := pw_ne (f := fun x : Nat × TypeId × List Value => x.1) HD4.out.1.2.2 (i := 1) (j := 0) rfl rfl (by decide)
  have n0_1 : P4 + 1 ≠ P4 := pw_ne (f := fun x : Nat × TypeId × List Value => x.1) HD4.out.1.2.2 (i := 0) (j := 1) rfl rfl (by decide)
  go_upto_region 5 with fail
  clear n1_0 n0_1
  clear e1_0 f1_0 e1_1 f1_1 e1_2 f1_2 e0_0 f0_0 e0_1 f0_1 e0_2 f0_2 e0_3 f0_3 e0_4 f0_4 e0_5 f0_5 e0_6 f0_6 e0_7 f0_7 e0_8 f0_8 e0_9 f0_9 e0_10 f0_10 e0_11 f0_11 e0_12 f0_12
  change Code.wp _ _ _ _ (stc (stc U4 (P4) [.slice a4 n4 q4, .int .u64 ((⟨[], 2, 0⟩ : Ms)).cas, .int .i64 ((⟨[], 2, 0⟩ : Ms)).fl] 0) (P4 + 1) [.int .i64 5, .string ⟨#[]⟩, .int .u32 0, .string ⟨#[]⟩, .int .i64 0, .int .u64 0, .int .i64 0, .bool false, .bool false, .int .u64 0, .bool false, .bool false, .bool false] 0)
  have HE4 : Hid (Bxr w [(P4 + 1, 35, [.int .i64 5, .string ⟨#[]⟩, .int .u32 0, .string ⟨#[]⟩, .int .i64 0, .int .u64 0, .int .i64 0, .bool false, .bool false, .int .u64 0, .bool false, .bool false, .bool false]), (P4, 25, [.slice a4 n4 q4, .int .u64 ((⟨[], 2, 0⟩ : Ms)).cas, .int .i64 ((⟨[], 2, 0⟩ : Ms)).fl]), (P3 + 1, 35, [.int .i64 1, .string ⟨#[107]⟩, .int .u32 0, .string ⟨#[56]⟩, .int .i64 110, .int .u64 2, .int .i64 109, .bool false, .bool false, .int .u64 0, .bool false, .bool false, .bool false]), (P3, 25, [.slice a3 n3 q3, .int .u64 ((⟨[sh3], 2, 0⟩ : Ms)).cas, .int .i64 ((⟨[sh3], 2, 0⟩ : Ms)).fl]), (P2, 35, [.int .i64 6, .string ⟨#[107]⟩, .int .u32 0, .string ⟨#[56]⟩, .int .i64 110, .int .u64 2, .int .i64 0, .bool false, .bool false, .int .u64 8, .bool false, .bool false, .bool false]), (P1 + 1, 35, [.int .i64 2, .string ⟨#[107]⟩, .int .u32 0, .string ⟨#[53]⟩, .int .i64 110, .int .u64 1, .int .i64 0, .bool false, .bool false, .int .u64 0, .bool false, .bool false, .bool false]), (P1, 25, [.slice a2 n2 q2, .int .u64 ((⟨[sh2], 2, 0⟩ : Ms)).cas, .int .i64 ((⟨[sh2], 2, 0⟩ : Ms)).fl])] [(.slice a4 n4 q4, ((⟨[], 2, 0⟩ : Ms)).its), (.slice a3 n3 q3, ((⟨[sh3], 2, 0⟩ : Ms)).its), (.slice a2 n2 q2, ((⟨[sh2], 2, 0⟩ : Ms)).its), (.slice a1 n1 q1, ((⟨[sh1], 1, 0⟩ : Ms)).its)] (stc (stc U4 (P4) [.slice a4 n4 q4, .int .u64 ((⟨[], 2, 0⟩ : Ms)).cas, .int .i64 ((⟨[], 2, 0⟩ : Ms)).fl] 0) (P4 + 1) [.int .i64 5, .string ⟨#[]⟩, .int .u32 0, .string ⟨#[]⟩, .int .i64 0, .int .u64 0, .int .i64 0, .bool false, .bool false, .int .u64 0, .bool false, .bool false, .bool false] 0)) := hid ((HD4.out.set 1 (vs := [.slice a4 n4 q4, .int .u64 ((⟨[], 2, 0⟩ : Ms)).cas, .int .i64 ((⟨[], 2, 0⟩ : Ms)).fl]) rfl rfl).set 0 (vs := [.int .i64 5, .string ⟨#[]⟩, .int .u32 0, .string ⟨#[]⟩, .int .i64 0, .int .u64 0, .int .i64 0, .bool false, .bool false, .int .u64 0, .bool false, .bool false, .bool false]) rfl rfl)
  clear HD4 hU4 hP4
  generalize (stc (stc U4 (P4) [.slice a4 n4 q4, .int .u64 ((⟨[], 2, 0⟩ : Ms)).cas, .int .i64 ((⟨[], 2, 0⟩ : Ms)).fl] 0) (P4 + 1) [.int .i64 5, .string ⟨#[]⟩, .int .u32 0, .string ⟨#[]⟩, .int .i64 0, .int .u64 0, .int .i64 0, .bool false, .bool false, .int .u64 0, .bool false, .bool false, .bool false] 0) = X4 at *
  have ea0 := (HE4.out.1.get 5 rfl).cell (i := 0) rfl
  have eb0 := (HE4.out.1.get 4 rfl).cell (i := 0) rfl
  have eb9 := (HE4.out.1.get 4 rfl).cell (i := 9) rfl
  have ec0 := (HE4.out.1.get 2 rfl).cell (i := 0) rfl
  have ec3 := (HE4.out.1.get 2 rfl).cell (i := 3) rfl
  have ed0 := (HE4.out.1.get 0 rfl).cell (i := 0) rfl
  go_wp2_with fail
  go_ret
  exact ⟨rfl, HE4.out.1.1⟩
end Go.Proofs.YtpgljahomeebhaaDoor.Md
