/-
  The law ModelTouches: a touch gives a key another time, and nothing else. Conditions: numbers are in their types' ranges; the library's variables are as they begin.
-/
import Derived.Test.YtkaaebjifkbclaaDoorMpGet2
import Derived.Test.YtkaaebjifkbclaaDoorMpShownMath
namespace Go.Proofs.YtkaaebjifkbclaaDoor.Md
open Go Go.RowKit Go.Lib
section
variable {v : ByteArray} {fl : Nat}
set_option maxRecDepth 100000 in
set_option maxHeartbeats 40000000 in
theorem touch_long {sec later T L : Int} {w : World} (hv : Nu.Vars w) (_ : bits .and .i64 sec 1048575 = T) (_ : bits .and .i64 later 2097151 = L) (hl : (3000 : Int) < (v.size : Nat)) :
    Calls Tryd.prog 10 #[.string v, .int .u32 fl, .int .i64 sec, .int .i64 later] w fun e w' => e = .returned (.bool true) ∧ Below w.heap.size w w' := by
  have HV := hid hv
  clear hv
  have HB := hid (Bxr.begin w)
  go_enter Tryd.func10, Tryd.ntmps10
  go_wp2_with fail
  refine (shown_any w HV.out).mono ?_
  rintro e0 w1 ⟨rfl, hb1⟩
  have HB1 : Hid (Bxr w [] [] w1) := hid (HB.out.step hb1)
  clear hb1 HB
  go_wp2_with fail
  go_ret
  exact ⟨rfl, HB1.out.1.1⟩
set_option maxRecDepth 100000 in
set_option maxHeartbeats 40000000 in
theorem touch_gone {sec later T L T2 : Int} {w : World} (hv : Nu.Vars w) (m1 : bits .and .i64 sec 1048575 = T) (m3 : bits .and .i64 later 2097151 = L) (hl2 : decide ((3000 : Int) < (v.size : Nat)) = false) (hcok : (cSto kK v fl 50 (-1)).Ok) (htok : (cTou kK T).Ok) (hr1 : apply ⟨[], 0, 0⟩ 10 (cSto kK v fl 50 (-1)) 9000 = (⟨[stoX kK v fl 50 10], 1, 0⟩, An.is 2 (stoX kK v fl 50 10))) (hf1 : Fit 1 65536 ⟨[stoX kK v fl 50 10], 1, 0⟩) (hr2 : apply ⟨[stoX kK v fl 50 10], 1, 0⟩ 11 (cTou kK T) 9000 = (⟨[touX (stoX kK v fl 50 10) 11 T], 1, 0⟩, An.is 8 (touX (stoX kK v fl 50 10) 11 T))) (hf2 : Fit 2 65536 ⟨[touX (stoX kK v fl 50 10) 11 T], 1, 0⟩) (m4 : 11 + L = T2) (m5 : IntKind.i64.wrap T2 = T2) (hr3 : apply ⟨[(touX (stoX kK v fl 50 10) 11 T)], 1, 0⟩ T2 (cGet kK) 9000 = (⟨[], 1, 0⟩, An.of 5)) (hl3 : (T == 0) = false) (hl5 : decide (L < T) = false) :
    Calls Tryd.prog 10 #[.string v, .int .u32 fl, .int .i64 sec, .int .i64 later] w fun e w' => e = .returned (.bool true) ∧ Below w.heap.size w w' := by
  have HV := hid hv
  clear hv
  have HB := hid (Bxr.begin w)
  go_enter Tryd.func10, Tryd.ntmps10
  go_wp2_with fail
  refine (shown_any w HV.out).mono ?_
  rintro e0 w1 ⟨rfl, hb1⟩
  have HB1 : Hid (Bxr w [] [] w1) := hid (HB.out.step hb1)
  clear hb1 HB
  go_upto_region 6 with fail
  go_wp2_with fail
  refine (apply_bx (now := 10) (c := cSto kK v fl 50 (-1)) (most := 9000) HB1.out (its_none _) (fit_no 0 65536) (by decide) (by decide) hcok HV.out hr1 (cs := #[.int .i64 2, .string kK, .int .u32 fl, .string v, .int .i64 60, .int .u64 1, .int .i64 0, .bool false, .bool false, .int .u64 0, .bool false, .bool false, .bool false]) rfl).mono ?_
  rintro e V1 ⟨a1, n1, q1, rfl, hb1⟩
  have HC1 : Hid (Bxr w [] [(.slice a1 n1 q1, ((⟨[stoX kK v fl 50 10], 1, 0⟩ : Ms)).its)] V1) := hid hb1
  clear hb1 HB1
  obtain ⟨P1, hP1⟩ : ∃ P, V1.heap.size = P := ⟨_, rfl⟩
  obtain ⟨U1, hU1⟩ : ∃ U, ((V1.alloc (.cells #[.slice none 0 0, .int .u64 0, .int .i64 0] 25)).alloc (.cells #[.int .i64 0, .string ⟨#[]⟩, .int .u32 0, .string ⟨#[]⟩, .int .i64 0, .int .u64 0, .int .i64 0, .bool false, .bool false, .int .u64 0, .bool false, .bool false, .bool false] 35)) = U := ⟨_, rfl⟩
  have HD1 : Hid (Bxr w [(P1 + 1, 35, [.int .i64 0, .string ⟨#[]⟩, .int .u32 0, .string ⟨#[]⟩, .int .i64 0, .int .u64 0, .int .i64 0, .bool false, .bool false, .int .u64 0, .bool false, .bool false, .bool false]), (P1, 25, [.slice none 0 0, .int .u64 0, .int .i64 0])] [(.slice a1 n1 q1, ((⟨[stoX kK v fl 50 10], 1, 0⟩ : Ms)).its)] U1) := hid (by
    have := ((HC1.out.new #[.slice none 0 0, .int .u64 0, .int .i64 0] 25).new #[.int .i64 0, .string ⟨#[]⟩, .int .u32 0, .string ⟨#[]⟩, .int .i64 0, .int .u64 0, .int .i64 0, .bool false, .bool false, .int .u64 0, .bool false, .bool false, .bool false] 35)
    simp only [World.size_alloc] at this
    rw [hP1, hU1] at this; exact this)
  clear HC1
  have e1_0 := (HD1.out.1.get 1 rfl).cell (i := 0) rfl
  have f1_0 := (HD1.out.1.get 1 rfl).frozen 0
  have e1_1 := (HD1.out.1.get 1 rfl).cell (i := 1) rfl
  have f1_1 := (HD1.out.1.get 1 rfl).frozen 1
  have e1_2 := (HD1.out.1.get 1 rfl).cell (i := 2) rfl
  have f1_2 := (HD1.out.1.get 1 rfl).frozen 2
  have e0_0 := (HD1.out.1.get 0 rfl).cell (i := 0) rfl
  have f0_0 := (HD1.out.1.get 0 rfl).frozen 0
  have e0_1 := (HD1.out.1.get 0 rfl).cell (i := 1) rfl
  have f0_1 := (HD1.out.1.get 0 rfl).frozen 1
  have e0_2 := (HD1.out.1.get 0 rfl).cell (i := 2) rfl
  have f0_2 := (HD1.out.1.get 0 rfl).frozen 2
  have e0_3 := (HD1.out.1.get 0 rfl).cell (i := 3) rfl
  have f0_3 := (HD1.out.1.get 0 rfl).frozen 3
  have e0_4 := (HD1.out.1.get 0 rfl).cell (i := 4) rfl
  have f0_4 := (HD1.out.1.get 0 rfl).frozen 4
  have e0_5 := (HD1.out.1.get 0 rfl).cell (i := 5) rfl
  have f0_5 := (HD1.out.1.get 0 rfl).frozen 5
  have e0_6 := (HD1.out.1.get 0 rfl).cell (i := 6) rfl
  have f0_6 := (HD1.out.1.get 0 rfl).frozen 6
  have e0_7 := (HD1.out.1.get 0 rfl).cell (i := 7) rfl
  have f0_7 := (HD1.out.1.get 0 rfl).frozen 7
  have e0_8 := (HD1.out.1.get 0 rfl).cell (i := 8) rfl
  have f0_8 := (HD1.out.1.get 0 rfl).frozen 8
  have e0_9 := (HD1.out.1.get 0 rfl).cell (i := 9) rfl
  have f0_9 := (HD1.out.1.get 0 rfl).frozen 9
  have e0_10 := (HD1.out.1.get 0 rfl).cell (i := 10) rfl
  have f0_10 := (HD1.out.1.get 0 rfl).frozen 10
  have e0_11 := (HD1.out.1.get 0 rfl).cell (i := 11) rfl
  have f0_11 := (HD1.out.1.get 0 rfl).frozen 11
  have e0_12 := (HD1.out.1.get 0 rfl).cell (i := 12) rfl
  have f0_12 := (HD1.out.1.get 0 rfl).frozen 12
  have n1_0 : P1 ≠ P1 + 1 := pw_ne (f := fun x : Nat × TypeId × List Value => x.1) HD1.out.1.2.2 (i := 1) (j := 0) rfl rfl (by decide)
  have n0_1 : P1 + 1 ≠ P1 := pw_ne (f := fun x : Nat × TypeId × List Value => x.1) HD1.out.1.2.2 (i := 0) (j := 1) rfl rfl (by decide)
  go_upto_region 7 with fail
  clear n1_0 n0_1
  clear e1_0 f1_0 e1_1 f1_1 e1_2 f1_2 e0_0 f0_0 e0_1 f0_1 e0_2 f0_2 e0_3 f0_3 e0_4 f0_4 e0_5 f0_5 e0_6 f0_6 e0_7 f0_7 e0_8 f0_8 e0_9 f0_9 e0_10 f0_10 e0_11 f0_11 e0_12 f0_12
  change Code.wp _ _ _ _ (stc (stc U1 (P1) [.slice a1 n1 q1, .int .u64 ((⟨[stoX kK v fl 50 10], 1, 0⟩ : Ms)).cas, .int .i64 ((⟨[stoX kK v fl 50 10], 1, 0⟩ : Ms)).fl] 0) (P1 + 1) [.int .i64 2, .string kK, .int .u32 fl, .string v, .int .i64 60, .int .u64 1, .int .i64 0, .bool false, .bool false, .int .u64 0, .bool false, .bool false, .bool false] 0)
  have HE1 : Hid (Bxr w [(P1 + 1, 35, [.int .i64 2, .string kK, .int .u32 fl, .string v, .int .i64 60, .int .u64 1, .int .i64 0, .bool false, .bool false, .int .u64 0, .bool false, .bool false, .bool false]), (P1, 25, [.slice a1 n1 q1, .int .u64 ((⟨[stoX kK v fl 50 10], 1, 0⟩ : Ms)).cas, .int .i64 ((⟨[stoX kK v fl 50 10], 1, 0⟩ : Ms)).fl])] [(.slice a1 n1 q1, ((⟨[stoX kK v fl 50 10], 1, 0⟩ : Ms)).its)] (stc (stc U1 (P1) [.slice a1 n1 q1, .int .u64 ((⟨[stoX kK v fl 50 10], 1, 0⟩ : Ms)).cas, .int .i64 ((⟨[stoX kK v fl 50 10], 1, 0⟩ : Ms)).fl] 0) (P1 + 1) [.int .i64 2, .string kK, .int .u32 fl, .string v, .int .i64 60, .int .u64 1, .int .i64 0, .bool false, .bool false, .int .u64 0, .bool false, .bool false, .bool false] 0)) := hid ((HD1.out.set 1 (vs := [.slice a1 n1 q1, .int .u64 ((⟨[stoX kK v fl 50 10], 1, 0⟩ : Ms)).cas, .int .i64 ((⟨[stoX kK v fl 50 10], 1, 0⟩ : Ms)).fl]) rfl rfl).set 0 (vs := [.int .i64 2, .string kK, .int .u32 fl, .string v, .int .i64 60, .int .u64 1, .int .i64 0, .bool false, .bool false, .int .u64 0, .bool false, .bool false, .bool false]) rfl rfl)
  clear HD1 hU1 hP1
  generalize (stc (stc U1 (P1) [.slice a1 n1 q1, .int .u64 ((⟨[stoX kK v fl 50 10], 1, 0⟩ : Ms)).cas, .int .i64 ((⟨[stoX kK v fl 50 10], 1, 0⟩ : Ms)).fl] 0) (P1 + 1) [.int .i64 2, .string kK, .int .u32 fl, .string v, .int .i64 60, .int .u64 1, .int .i64 0, .bool false, .bool false, .int .u64 0, .bool false, .bool false, .bool false] 0) = X1 at *
  have t0 := (HE1.out.1.get 1 rfl).cell (i := 0) rfl
  have t1 := (HE1.out.1.get 1 rfl).cell (i := 1) rfl
  have t2 := (HE1.out.1.get 1 rfl).cell (i := 2) rfl
  go_wp2_with fail
  clear t0 t1 t2
  refine (apply_bx (now := 11) (c := cTou kK T) (most := 9000) HE1.out (HE1.out.its 0 rfl) hf1 (by decide) (by decide) htok HV.out hr2 (cs := #[.int .i64 8, .string kK, .int .u32 fl, .string v, .int .i64 (moment 11 T), .int .u64 1, .int .i64 0, .bool false, .bool false, .int .u64 0, .bool false, .bool false, .bool false]) rfl).mono ?_
  rintro e V2 ⟨a2, n2, q2, rfl, hb2⟩
  have HC2 : Hid (Bxr w [(P1 + 1, 35, [.int .i64 2, .string kK, .int .u32 fl, .string v, .int .i64 60, .int .u64 1, .int .i64 0, .bool false, .bool false, .int .u64 0, .bool false, .bool false, .bool false]), (P1, 25, [.slice a1 n1 q1, .int .u64 ((⟨[stoX kK v fl 50 10], 1, 0⟩ : Ms)).cas, .int .i64 ((⟨[stoX kK v fl 50 10], 1, 0⟩ : Ms)).fl])] [(.slice a2 n2 q2, ((⟨[touX (stoX kK v fl 50 10) 11 T], 1, 0⟩ : Ms)).its), (.slice a1 n1 q1, ((⟨[stoX kK v fl 50 10], 1, 0⟩ : Ms)).its)] V2) := hid hb2
  clear hb2 HE1
  obtain ⟨P2, hP2⟩ : ∃ P, V2.heap.size = P := ⟨_, rfl⟩
  obtain ⟨U2, hU2⟩ : ∃ U, (V2.alloc (.cells #[.int .i64 0, .string ⟨#[]⟩, .int .u32 0, .string ⟨#[]⟩, .int .i64 0, .int .u64 0, .int .i64 0, .bool false, .bool false, .int .u64 0, .bool false, .bool false, .bool false] 35)) = U := ⟨_, rfl⟩
  have HD2 : Hid (Bxr w [(P2, 35, [.int .i64 0, .string ⟨#[]⟩, .int .u32 0, .string ⟨#[]⟩, .int .i64 0, .int .u64 0, .int .i64 0, .bool false, .bool false, .int .u64 0, .bool false, .bool false, .bool false]), (P1 + 1, 35, [.int .i64 2, .string kK, .int .u32 fl, .string v, .int .i64 60, .int .u64 1, .int .i64 0, .bool false, .bool false, .int .u64 0, .bool false, .bool false, .bool false]), (P1, 25, [.slice a1 n1 q1, .int .u64 ((⟨[stoX kK v fl 50 10], 1, 0⟩ : Ms)).cas, .int .i64 ((⟨[stoX kK v fl 50 10], 1, 0⟩ : Ms)).fl])] [(.slice a2 n2 q2, ((⟨[touX (stoX kK v fl 50 10) 11 T], 1, 0⟩ : Ms)).its), (.slice a1 n1 q1, ((⟨[stoX kK v fl 50 10], 1, 0⟩ : Ms)).its)] U2) := hid (by
    have := (HC2.out.new #[.int .i64 0, .string ⟨#[]⟩, .int .u32 0, .string ⟨#[]⟩, .int .i64 0, .int .u64 0, .int .i64 0, .bool false, .bool false, .int .u64 0, .bool false, .bool false, .bool false] 35)
    rw [hP2, hU2] at this; exact this)
  clear HC2
  have e2_0 := (HD2.out.1.get 2 rfl).cell (i := 0) rfl
  have f2_0 := (HD2.out.1.get 2 rfl).frozen 0
  have e2_1 := (HD2.out.1.get 2 rfl).cell (i := 1) rfl
  have f2_1 := (HD2.out.1.get 2 rfl).frozen 1
  have e2_2 := (HD2.out.1.get 2 rfl).cell (i := 2) rfl
  have f2_2 := (HD2.out.1.get 2 rfl).frozen 2
  have e0_0 := (HD2.out.1.get 0 rfl).cell (i := 0) rfl
  have f0_0 := (HD2.out.1.get 0 rfl).frozen 0
  have e0_1 := (HD2.out.1.get 0 rfl).cell (i := 1) rfl
  have f0_1 := (HD2.out.1.get 0 rfl).frozen 1
  have e0_2 := (HD2.out.1.get 0 rfl).cell (i := 2) rfl
  have f0_2 := (HD2.out.1.get 0 rfl).frozen 2
  have e0_3 := (HD2.out.1.get 0 rfl).cell (i := 3) rfl
  have f0_3 := (HD2.out.1.get 0 rfl).frozen 3
  have e0_4 := (HD2.out.1.get 0 rfl).cell (i := 4) rfl
  have f0_4 := (HD2.out.1.get 0 rfl).frozen 4
  have e0_5 := (HD2.out.1.get 0 rfl).cell (i := 5) rfl
  have f0_5 := (HD2.out.1.get 0 rfl).frozen 5
  have e0_6 := (HD2.out.1.get 0 rfl).cell (i := 6) rfl
  have f0_6 := (HD2.out.1.get 0 rfl).frozen 6
  have e0_7 := (HD2.out.1.get 0 rfl).cell (i := 7) rfl
  have f0_7 := (HD2.out.1.get 0 rfl).frozen 7
  have e0_8 := (HD2.out.1.get 0 rfl).cell (i := 8) rfl
  have f0_8 := (HD2.out.1.get 0 rfl).frozen 8
  have e0_9 := (HD2.out.1.get 0 rfl).cell (i := 9) rfl
  have f0_9 := (HD2.out.1.get 0 rfl).frozen 9
  have e0_10 := (HD2.out.1.get 0 rfl).cell (i := 10) rfl
  have f0_10 := (HD2.out.1.get 0 rfl).frozen 10
  have e0_11 := (HD2.out.1.get 0 rfl).cell (i := 11) rfl
  have f0_11 := (HD2.out.1.get 0 rfl).frozen 11
  have e0_12 := (HD2.out.1.get 0 rfl).cell (i := 12) rfl
  have f0_12 := (HD2.out.1.get 0 rfl).frozen 12
  have n2_0 : P1 ≠ P2 := pw_ne (f := fun x : Nat × TypeId × List Value => x.1) HD2.out.1.2.2 (i := 2) (j := 0) rfl rfl (by decide)
  have n0_2 : P2 ≠ P1 := pw_ne (f := fun x : Nat × TypeId × List Value => x.1) HD2.out.1.2.2 (i := 0) (j := 2) rfl rfl (by decide)
  go_upto_region 8 with fail
  clear n2_0 n0_2
  clear e2_0 f2_0 e2_1 f2_1 e2_2 f2_2 e0_0 f0_0 e0_1 f0_1 e0_2 f0_2 e0_3 f0_3 e0_4 f0_4 e0_5 f0_5 e0_6 f0_6 e0_7 f0_7 e0_8 f0_8 e0_9 f0_9 e0_10 f0_10 e0_11 f0_11 e0_12 f0_12
  change Code.wp _ _ _ _ (stc (stc U2 (P1) [.slice a2 n2 q2, .int .u64 ((⟨[touX (stoX kK v fl 50 10) 11 T], 1, 0⟩ : Ms)).cas, .int .i64 ((⟨[touX (stoX kK v fl 50 10) 11 T], 1, 0⟩ : Ms)).fl] 0) (P2) [.int .i64 8, .string kK, .int .u32 fl, .string v, .int .i64 (moment 11 T), .int .u64 1, .int .i64 0, .bool false, .bool false, .int .u64 0, .bool false, .bool false, .bool false] 0)
  have HE2 : Hid (Bxr w [(P2, 35, [.int .i64 8, .string kK, .int .u32 fl, .string v, .int .i64 (moment 11 T), .int .u64 1, .int .i64 0, .bool false, .bool false, .int .u64 0, .bool false, .bool false, .bool false]), (P1 + 1, 35, [.int .i64 2, .string kK, .int .u32 fl, .string v, .int .i64 60, .int .u64 1, .int .i64 0, .bool false, .bool false, .int .u64 0, .bool false, .bool false, .bool false]), (P1, 25, [.slice a2 n2 q2, .int .u64 ((⟨[touX (stoX kK v fl 50 10) 11 T], 1, 0⟩ : Ms)).cas, .int .i64 ((⟨[touX (stoX kK v fl 50 10) 11 T], 1, 0⟩ : Ms)).fl])] [(.slice a2 n2 q2, ((⟨[touX (stoX kK v fl 50 10) 11 T], 1, 0⟩ : Ms)).its), (.slice a1 n1 q1, ((⟨[stoX kK v fl 50 10], 1, 0⟩ : Ms)).its)] (stc (stc U2 (P1) [.slice a2 n2 q2, .int .u64 ((⟨[touX (stoX kK v fl 50 10) 11 T], 1, 0⟩ : Ms)).cas, .int .i64 ((⟨[touX (stoX kK v fl 50 10) 11 T], 1, 0⟩ : Ms)).fl] 0) (P2) [.int .i64 8, .string kK, .int .u32 fl, .string v, .int .i64 (moment 11 T), .int .u64 1, .int .i64 0, .bool false, .bool false, .int .u64 0, .bool false, .bool false, .bool false] 0)) := hid ((HD2.out.set 2 (vs := [.slice a2 n2 q2, .int .u64 ((⟨[touX (stoX kK v fl 50 10) 11 T], 1, 0⟩ : Ms)).cas, .int .i64 ((⟨[touX (stoX kK v fl 50 10) 11 T], 1, 0⟩ : Ms)).fl]) rfl rfl).set 0 (vs := [.int .i64 8, .string kK, .int .u32 fl, .string v, .int .i64 (moment 11 T), .int .u64 1, .int .i64 0, .bool false, .bool false, .int .u64 0, .bool false, .bool false, .bool false]) rfl rfl)
  clear HD2 hU2 hP2
  generalize (stc (stc U2 (P1) [.slice a2 n2 q2, .int .u64 ((⟨[touX (stoX kK v fl 50 10) 11 T], 1, 0⟩ : Ms)).cas, .int .i64 ((⟨[touX (stoX kK v fl 50 10) 11 T], 1, 0⟩ : Ms)).fl] 0) (P2) [.int .i64 8, .string kK, .int .u32 fl, .string v, .int .i64 (moment 11 T), .int .u64 1, .int .i64 0, .bool false, .bool false, .int .u64 0, .bool false, .bool false, .bool false] 0) = X2 at *
  refine wp_region_E (fun W => Blk W (P1) 25 (stv (.slice a2 n2 q2) (⟨[touX (stoX kK v fl 50 10) 11 T], 1, 0⟩ : Ms))) 11 (by kernel_rfl) ?_
  have HA3 : Hid (Bxr w [(P2, 35, [.int .i64 8, .string kK, .int .u32 fl, .string v, .int .i64 (moment 11 T), .int .u64 1, .int .i64 0, .bool false, .bool false, .int .u64 0, .bool false, .bool false, .bool false]), (P1 + 1, 35, [.int .i64 2, .string kK, .int .u32 fl, .string v, .int .i64 60, .int .u64 1, .int .i64 0, .bool false, .bool false, .int .u64 0, .bool false, .bool false, .bool false]), (P1, 25, [.slice a2 n2 q2, .int .u64 ((⟨[touX (stoX kK v fl 50 10) 11 T], 1, 0⟩ : Ms)).cas, .int .i64 ((⟨[touX (stoX kK v fl 50 10) 11 T], 1, 0⟩ : Ms)).fl])] [(.slice a2 n2 q2, ((⟨[touX (stoX kK v fl 50 10) 11 T], 1, 0⟩ : Ms)).its), (.slice a1 n1 q1, ((⟨[stoX kK v fl 50 10], 1, 0⟩ : Ms)).its)] X2.drew) := hid (HE2.out.step (below_d X2))
  clear HE2
  generalize X2.drew = A3 at *
  have hS : Blk A3 (P1) 25 (stv (.slice a2 n2 q2) (⟨[touX (stoX kK v fl 50 10) 11 T], 1, 0⟩ : Ms)) := HA3.out.1.get 2 rfl
  refine wpAnyE_take (i := 0) (v := .agg #[.slice a2 n2 q2, .int .u64 1, .int .i64 0]) rfl (by kernel_rfl) (by kernel_rfl) (by kernel_rfl) (fun _ _ _ h => h) (by kernel_rfl) (by kernel_rfl) hS (Or.inl ⟨by rfl, ?_⟩) ?_
  · intro w' hw'
    have u0 := hw'.cell (i := 0) (v := .slice a2 n2 q2) rfl
    have u1 := hw'.cell (i := 1) (v := .int .u64 ((⟨[touX (stoX kK v fl 50 10) 11 T], 1, 0⟩ : Ms)).cas) rfl
    have u2 := hw'.cell (i := 2) (v := .int .i64 ((⟨[touX (stoX kK v fl 50 10) 11 T], 1, 0⟩ : Ms)).fl) rfl
    go_simp
  refine wpAnyE_take (i := 1) (v := .int .i64 L) rfl (by kernel_rfl) (by kernel_rfl) (by kernel_rfl) (fun _ _ _ h => h) (by kernel_rfl) (by kernel_rfl) hS (Or.inl ⟨by rfl, ?_⟩) ?_
  · intro w' hw'
    go_simp
  refine wpAnyE_take (i := 2) (v := .int .i64 T2) rfl (by kernel_rfl) (by kernel_rfl) (by kernel_rfl) (fun _ _ _ h => h) (by kernel_rfl) (by kernel_rfl) hS (Or.inl ⟨by rfl, ?_⟩) ?_
  · intro w' hw'
    go_simp
  clear hS
  refine get2 (k := kK) (now := T2) (most := 9000) _ _ 3 4 5 6 7 8 9 10 11 HA3.out (List.mem_of_getElem? (i := 2) rfl) (List.mem_of_getElem? (i := 0) rfl) hf2 (by decide) (by decide) HV.out hr3 rfl rfl rfl rfl rfl rfl rfl rfl rfl rfl rfl rfl rfl rfl rfl rfl rfl (by kernel_rfl) (by decide) rfl ⟨113, by kernel_rfl, by decide, by decide, by decide, by decide, by decide, by decide, by decide⟩ rfl rfl rfl rfl rfl rfl rfl (fun _ _ _ _ _ h => h) (by kernel_rfl) (by kernel_rfl) (by kernel_rfl) (fun P3 Q3 ax3 nx3 cx3 G3 hg3 => ?_)
  have HG3 : Hid (Bxr w [(Q3, 35, [.int .i64 5, .string ⟨#[]⟩, .int .u32 0, .string ⟨#[]⟩, .int .i64 0, .int .u64 0, .int .i64 0, .bool false, .bool false, .int .u64 0, .bool false, .bool false, .bool false]), (P3, 25, [.slice ax3 nx3 cx3, .int .u64 ((⟨[], 1, 0⟩ : Ms)).cas, .int .i64 ((⟨[], 1, 0⟩ : Ms)).fl]), (P2, 35, [.int .i64 8, .string kK, .int .u32 fl, .string v, .int .i64 (moment 11 T), .int .u64 1, .int .i64 0, .bool false, .bool false, .int .u64 0, .bool false, .bool false, .bool false]), (P1 + 1, 35, [.int .i64 2, .string kK, .int .u32 fl, .string v, .int .i64 60, .int .u64 1, .int .i64 0, .bool false, .bool false, .int .u64 0, .bool false, .bool false, .bool false]), (P1, 25, [.slice a2 n2 q2, .int .u64 ((⟨[touX (stoX kK v fl 50 10) 11 T], 1, 0⟩ : Ms)).cas, .int .i64 ((⟨[touX (stoX kK v fl 50 10) 11 T], 1, 0⟩ : Ms)).fl])] [(.slice ax3 nx3 cx3, ((⟨[], 1, 0⟩ : Ms)).its), (.slice a2 n2 q2, ((⟨[touX (stoX kK v fl 50 10) 11 T], 1, 0⟩ : Ms)).its), (.slice a1 n1 q1, ((⟨[stoX kK v fl 50 10], 1, 0⟩ : Ms)).its)] G3) := hid hg3
  clear hg3 HA3
  have a0 := (HG3.out.1.get 3 rfl).cell (i := 0) rfl
  have a5 := (HG3.out.1.get 3 rfl).cell (i := 5) rfl
  have b0 := (HG3.out.1.get 2 rfl).cell (i := 0) rfl
  have b2 := (HG3.out.1.get 2 rfl).cell (i := 2) rfl
  have b3 := (HG3.out.1.get 2 rfl).cell (i := 3) rfl
  have b5 := (HG3.out.1.get 2 rfl).cell (i := 5) rfl
  have c0 := (HG3.out.1.get 0 rfl).cell (i := 0) rfl
  have c3 := (HG3.out.1.get 0 rfl).cell (i := 3) rfl
  have c5 := (HG3.out.1.get 0 rfl).cell (i := 5) rfl
  go_wp2_with fail
  go_ret
  exact ⟨rfl, HG3.out.1.1⟩
set_option maxRecDepth 100000 in
set_option maxHeartbeats 40000000 in
theorem touch_live {sec later T L T2 : Int} {w : World} (hv : Nu.Vars w) (m1 : bits .and .i64 sec 1048575 = T) (m3 : bits .and .i64 later 2097151 = L) (hl2 : decide ((3000 : Int) < (v.size : Nat)) = false) (hcok : (cSto kK v fl 50 (-1)).Ok) (htok : (cTou kK T).Ok) (hr1 : apply ⟨[], 0, 0⟩ 10 (cSto kK v fl 50 (-1)) 9000 = (⟨[stoX kK v fl 50 10], 1, 0⟩, An.is 2 (stoX kK v fl 50 10))) (hf1 : Fit 1 65536 ⟨[stoX kK v fl 50 10], 1, 0⟩) (hr2 : apply ⟨[stoX kK v fl 50 10], 1, 0⟩ 11 (cTou kK T) 9000 = (⟨[touX (stoX kK v fl 50 10) 11 T], 1, 0⟩, An.is 8 (touX (stoX kK v fl 50 10) 11 T))) (hf2 : Fit 2 65536 ⟨[touX (stoX kK v fl 50 10) 11 T], 1, 0⟩) (m4 : 11 + L = T2) (m5 : IntKind.i64.wrap T2 = T2) (hr3 : apply ⟨[(touX (stoX kK v fl 50 10) 11 T)], 1, 0⟩ T2 (cGet kK) 9000 = (⟨[gotX (touX (stoX kK v fl 50 10) 11 T) T2], 1, 0⟩, An.is 1 (gotX (touX (stoX kK v fl 50 10) 11 T) T2))) (hlv : T = 0 ∨ (¬ T = 0 ∧ (T == 0) = false ∧ L < T ∧ decide (L < T) = true)) :
    Calls Tryd.prog 10 #[.string v, .int .u32 fl, .int .i64 sec, .int .i64 later] w fun e w' => e = .returned (.bool true) ∧ Below w.heap.size w w' := by
  have HV := hid hv
  clear hv
  have HB := hid (Bxr.begin w)
  go_enter Tryd.func10, Tryd.ntmps10
  go_wp2_with fail
  refine (shown_any w HV.out).mono ?_
  rintro e0 w1 ⟨rfl, hb1⟩
  have HB1 : Hid (Bxr w [] [] w1) := hid (HB.out.step hb1)
  clear hb1 HB
  go_upto_region 6 with fail
  go_wp2_with fail
  refine (apply_bx (now := 10) (c := cSto kK v fl 50 (-1)) (most := 9000) HB1.out (its_none _) (fit_no 0 65536) (by decide) (by decide) hcok HV.out hr1 (cs := #[.int .i64 2, .string kK, .int .u32 fl, .string v, .int .i64 60, .int .u64 1, .int .i64 0, .bool false, .bool false, .int .u64 0, .bool false, .bool false, .bool false]) rfl).mono ?_
  rintro e V1 ⟨a1, n1, q1, rfl, hb1⟩
  have HC1 : Hid (Bxr w [] [(.slice a1 n1 q1, ((⟨[stoX kK v fl 50 10], 1, 0⟩ : Ms)).its)] V1) := hid hb1
  clear hb1 HB1
  obtain ⟨P1, hP1⟩ : ∃ P, V1.heap.size = P := ⟨_, rfl⟩
  obtain ⟨U1, hU1⟩ : ∃ U, ((V1.alloc (.cells #[.slice none 0 0, .int .u64 0, .int .i64 0] 25)).alloc (.cells #[.int .i64 0, .string ⟨#[]⟩, .int .u32 0, .string ⟨#[]⟩, .int .i64 0, .int .u64 0, .int .i64 0, .bool false, .bool false, .int .u64 0, .bool false, .bool false, .bool false] 35)) = U := ⟨_, rfl⟩
  have HD1 : Hid (Bxr w [(P1 + 1, 35, [.int .i64 0, .string ⟨#[]⟩, .int .u32 0, .string ⟨#[]⟩, .int .i64 0, .int .u64 0, .int .i64 0, .bool false, .bool false, .int .u64 0, .bool false, .bool false, .bool false]), (P1, 25, [.slice none 0 0, .int .u64 0, .int .i64 0])] [(.slice a1 n1 q1, ((⟨[stoX kK v fl 50 10], 1, 0⟩ : Ms)).its)] U1) := hid (by
    have := ((HC1.out.new #[.slice none 0 0, .int .u64 0, .int .i64 0] 25).new #[.int .i64 0, .string ⟨#[]⟩, .int .u32 0, .string ⟨#[]⟩, .int .i64 0, .int .u64 0, .int .i64 0, .bool false, .bool false, .int .u64 0, .bool false, .bool false, .bool false] 35)
    simp only [World.size_alloc] at this
    rw [hP1, hU1] at this; exact this)
  clear HC1
  have e1_0 := (HD1.out.1.get 1 rfl).cell (i := 0) rfl
  have f1_0 := (HD1.out.1.get 1 rfl).frozen 0
  have e1_1 := (HD1.out.1.get 1 rfl).cell (i := 1) rfl
  have f1_1 := (HD1.out.1.get 1 rfl).frozen 1
  have e1_2 := (HD1.out.1.get 1 rfl).cell (i := 2) rfl
  have f1_2 := (HD1.out.1.get 1 rfl).frozen 2
  have e0_0 := (HD1.out.1.get 0 rfl).cell (i := 0) rfl
  have f0_0 := (HD1.out.1.get 0 rfl).frozen 0
  have e0_1 := (HD1.out.1.get 0 rfl).cell (i := 1) rfl
  have f0_1 := (HD1.out.1.get 0 rfl).frozen 1
  have e0_2 := (HD1.out.1.get 0 rfl).cell (i := 2) rfl
  have f0_2 := (HD1.out.1.get 0 rfl).frozen 2
  have e0_3 := (HD1.out.1.get 0 rfl).cell (i := 3) rfl
  have f0_3 := (HD1.out.1.get 0 rfl).frozen 3
  have e0_4 := (HD1.out.1.get 0 rfl).cell (i := 4) rfl
  have f0_4 := (HD1.out.1.get 0 rfl).frozen 4
  have e0_5 := (HD1.out.1.get 0 rfl).cell (i := 5) rfl
  have f0_5 := (HD1.out.1.get 0 rfl).frozen 5
  have e0_6 := (HD1.out.1.get 0 rfl).cell (i := 6) rfl
  have f0_6 := (HD1.out.1.get 0 rfl).frozen 6
  have e0_7 := (HD1.out.1.get 0 rfl).cell (i := 7) rfl
  have f0_7 := (HD1.out.1.get 0 rfl).frozen 7
  have e0_8 := (HD1.out.1.get 0 rfl).cell (i := 8) rfl
  have f0_8 := (HD1.out.1.get 0 rfl).frozen 8
  have e0_9 := (HD1.out.1.get 0 rfl).cell (i := 9) rfl
  have f0_9 := (HD1.out.1.get 0 rfl).frozen 9
  have e0_10 := (HD1.out.1.get 0 rfl).cell (i := 10) rfl
  have f0_10 := (HD1.out.1.get 0 rfl).frozen 10
  have e0_11 := (HD1.out.1.get 0 rfl).cell (i := 11) rfl
  have f0_11 := (HD1.out.1.get 0 rfl).frozen 11
  have e0_12 := (HD1.out.1.get 0 rfl).cell (i := 12) rfl
  have f0_12 := (HD1.out.1.get 0 rfl).frozen 12
  have n1_0 : P1 ≠ P1 + 1 := pw_ne (f := fun x : Nat × TypeId × List Value => x.1) HD1.out.1.2.2 (i := 1) (j := 0) rfl rfl (by decide)
  have n0_1 : P1 + 1 ≠ P1 := pw_ne (f := fun x : Nat × TypeId × List Value => x.1) HD1.out.1.2.2 (i := 0) (j := 1) rfl rfl (by decide)
  go_upto_region 7 with fail
  clear n1_0 n0_1
  clear e1_0 f1_0 e1_1 f1_1 e1_2 f1_2 e0_0 f0_0 e0_1 f0_1 e0_2 f0_2 e0_3 f0_3 e0_4 f0_4 e0_5 f0_5 e0_6 f0_6 e0_7 f0_7 e0_8 f0_8 e0_9 f0_9 e0_10 f0_10 e0_11 f0_11 e0_12 f0_12
  change Code.wp _ _ _ _ (stc (stc U1 (P1) [.slice a1 n1 q1, .int .u64 ((⟨[stoX kK v fl 50 10], 1, 0⟩ : Ms)).cas, .int .i64 ((⟨[stoX kK v fl 50 10], 1, 0⟩ : Ms)).fl] 0) (P1 + 1) [.int .i64 2, .string kK, .int .u32 fl, .string v, .int .i64 60, .int .u64 1, .int .i64 0, .bool false, .bool false, .int .u64 0, .bool false, .bool false, .bool false] 0)
  have HE1 : Hid (Bxr w [(P1 + 1, 35, [.int .i64 2, .string kK, .int .u32 fl, .string v, .int .i64 60, .int .u64 1, .int .i64 0, .bool false, .bool false, .int .u64 0, .bool false, .bool false, .bool false]), (P1, 25, [.slice a1 n1 q1, .int .u64 ((⟨[stoX kK v fl 50 10], 1, 0⟩ : Ms)).cas, .int .i64 ((⟨[stoX kK v fl 50 10], 1, 0⟩ : Ms)).fl])] [(.slice a1 n1 q1, ((⟨[stoX kK v fl 50 10], 1, 0⟩ : Ms)).its)] (stc (stc U1 (P1) [.slice a1 n1 q1, .int .u64 ((⟨[stoX kK v fl 50 10], 1, 0⟩ : Ms)).cas, .int .i64 ((⟨[stoX kK v fl 50 10], 1, 0⟩ : Ms)).fl] 0) (P1 + 1) [.int .i64 2, .string kK, .int .u32 fl, .string v, .int .i64 60, .int .u64 1, .int .i64 0, .bool false, .bool false, .int .u64 0, .bool false, .bool false, .bool false] 0)) := hid ((HD1.out.set 1 (vs := [.slice a1 n1 q1, .int .u64 ((⟨[stoX kK v fl 50 10], 1, 0⟩ : Ms)).cas, .int .i64 ((⟨[stoX kK v fl 50 10], 1, 0⟩ : Ms)).fl]) rfl rfl).set 0 (vs := [.int .i64 2, .string kK, .int .u32 fl, .string v, .int .i64 60, .int .u64 1, .int .i64 0, .bool false, .bool false, .int .u64 0, .bool false, .bool false, .bool false]) rfl rfl)
  clear HD1 hU1 hP1
  generalize (stc (stc U1 (P1) [.slice a1 n1 q1, .int .u64 ((⟨[stoX kK v fl 50 10], 1, 0⟩ : Ms)).cas, .int .i64 ((⟨[stoX kK v fl 50 10], 1, 0⟩ : Ms)).fl] 0) (P1 + 1) [.int .i64 2, .string kK, .int .u32 fl, .string v, .int .i64 60, .int .u64 1, .int .i64 0, .bool false, .bool false, .int .u64 0, .bool false, .bool false, .bool false] 0) = X1 at *
  have t0 := (HE1.out.1.get 1 rfl).cell (i := 0) rfl
  have t1 := (HE1.out.1.get 1 rfl).cell (i := 1) rfl
  have t2 := (HE1.out.1.get 1 rfl).cell (i := 2) rfl
  go_wp2_with fail
  clear t0 t1 t2
  refine (apply_bx (now := 11) (c := cTou kK T) (most := 9000) HE1.out (HE1.out.its 0 rfl) hf1 (by decide) (by decide) htok HV.out hr2 (cs := #[.int .i64 8, .string kK, .int .u32 fl, .string v, .int .i64 (moment 11 T), .int .u64 1, .int .i64 0, .bool false, .bool false, .int .u64 0, .bool false, .bool false, .bool false]) rfl).mono ?_
  rintro e V2 ⟨a2, n2, q2, rfl, hb2⟩
  have HC2 : Hid (Bxr w [(P1 + 1, 35, [.int .i64 2, .string kK, .int .u32 fl, .string v, .int .i64 60, .int .u64 1, .int .i64 0, .bool false, .bool false, .int .u64 0, .bool false, .bool false, .bool false]), (P1, 25, [.slice a1 n1 q1, .int .u64 ((⟨[stoX kK v fl 50 10], 1, 0⟩ : Ms)).cas, .int .i64 ((⟨[stoX kK v fl 50 10], 1, 0⟩ : Ms)).fl])] [(.slice a2 n2 q2, ((⟨[touX (stoX kK v fl 50 10) 11 T], 1, 0⟩ : Ms)).its), (.slice a1 n1 q1, ((⟨[stoX kK v fl 50 10], 1, 0⟩ : Ms)).its)] V2) := hid hb2
  clear hb2 HE1
  obtain ⟨P2, hP2⟩ : ∃ P, V2.heap.size = P := ⟨_, rfl⟩
  obtain ⟨U2, hU2⟩ : ∃ U, (V2.alloc (.cells #[.int .i64 0, .string ⟨#[]⟩, .int .u32 0, .string ⟨#[]⟩, .int .i64 0, .int .u64 0, .int .i64 0, .bool false, .bool false, .int .u64 0, .bool false, .bool false, .bool false] 35)) = U := ⟨_, rfl⟩
  have HD2 : Hid (Bxr w [(P2, 35, [.int .i64 0, .string ⟨#[]⟩, .int .u32 0, .string ⟨#[]⟩, .int .i64 0, .int .u64 0, .int .i64 0, .bool false, .bool false, .int .u64 0, .bool false, .bool false, .bool false]), (P1 + 1, 35, [.int .i64 2, .string kK, .int .u32 fl, .string v, .int .i64 60, .int .u64 1, .int .i64 0, .bool false, .bool false, .int .u64 0, .bool false, .bool false, .bool false]), (P1, 25, [.slice a1 n1 q1, .int .u64 ((⟨[stoX kK v fl 50 10], 1, 0⟩ : Ms)).cas, .int .i64 ((⟨[stoX kK v fl 50 10], 1, 0⟩ : Ms)).fl])] [(.slice a2 n2 q2, ((⟨[touX (stoX kK v fl 50 10) 11 T], 1, 0⟩ : Ms)).its), (.slice a1 n1 q1, ((⟨[stoX kK v fl 50 10], 1, 0⟩ : Ms)).its)] U2) := hid (by
    have := (HC2.out.new #[.int .i64 0, .string ⟨#[]⟩, .int .u32 0, .string ⟨#[]⟩, .int .i64 0, .int .u64 0, .int .i64 0, .bool false, .bool false, .int .u64 0, .bool false, .bool false, .bool false] 35)
    rw [hP2, hU2] at this; exact this)
  clear HC2
  have e2_0 := (HD2.out.1.get 2 rfl).cell (i := 0) rfl
  have f2_0 := (HD2.out.1.get 2 rfl).frozen 0
  have e2_1 := (HD2.out.1.get 2 rfl).cell (i := 1) rfl
  have f2_1 := (HD2.out.1.get 2 rfl).frozen 1
  have e2_2 := (HD2.out.1.get 2 rfl).cell (i := 2) rfl
  have f2_2 := (HD2.out.1.get 2 rfl).frozen 2
  have e0_0 := (HD2.out.1.get 0 rfl).cell (i := 0) rfl
  have f0_0 := (HD2.out.1.get 0 rfl).frozen 0
  have e0_1 := (HD2.out.1.get 0 rfl).cell (i := 1) rfl
  have f0_1 := (HD2.out.1.get 0 rfl).frozen 1
  have e0_2 := (HD2.out.1.get 0 rfl).cell (i := 2) rfl
  have f0_2 := (HD2.out.1.get 0 rfl).frozen 2
  have e0_3 := (HD2.out.1.get 0 rfl).cell (i := 3) rfl
  have f0_3 := (HD2.out.1.get 0 rfl).frozen 3
  have e0_4 := (HD2.out.1.get 0 rfl).cell (i := 4) rfl
  have f0_4 := (HD2.out.1.get 0 rfl).frozen 4
  have e0_5 := (HD2.out.1.get 0 rfl).cell (i := 5) rfl
  have f0_5 := (HD2.out.1.get 0 rfl).frozen 5
  have e0_6 := (HD2.out.1.get 0 rfl).cell (i := 6) rfl
  have f0_6 := (HD2.out.1.get 0 rfl).frozen 6
  have e0_7 := (HD2.out.1.get 0 rfl).cell (i := 7) rfl
  have f0_7 := (HD2.out.1.get 0 rfl).frozen 7
  have e0_8 := (HD2.out.1.get 0 rfl).cell (i := 8) rfl
  have f0_8 := (HD2.out.1.get 0 rfl).frozen 8
  have e0_9 := (HD2.out.1.get 0 rfl).cell (i := 9) rfl
  have f0_9 := (HD2.out.1.get 0 rfl).frozen 9
  have e0_10 := (HD2.out.1.get 0 rfl).cell (i := 10) rfl
  have f0_10 := (HD2.out.1.get 0 rfl).frozen 10
  have e0_11 := (HD2.out.1.get 0 rfl).cell (i := 11) rfl
  have f0_11 := (HD2.out.1.get 0 rfl).frozen 11
  have e0_12 := (HD2.out.1.get 0 rfl).cell (i := 12) rfl
  have f0_12 := (HD2.out.1.get 0 rfl).frozen 12
  have n2_0 : P1 ≠ P2 := pw_ne (f := fun x : Nat × TypeId × List Value => x.1) HD2.out.1.2.2 (i := 2) (j := 0) rfl rfl (by decide)
  have n0_2 : P2 ≠ P1 := pw_ne (f := fun x : Nat × TypeId × List Value => x.1) HD2.out.1.2.2 (i := 0) (j := 2) rfl rfl (by decide)
  go_upto_region 8 with fail
  clear n2_0 n0_2
  clear e2_0 f2_0 e2_1 f2_1 e2_2 f2_2 e0_0 f0_0 e0_1 f0_1 e0_2 f0_2 e0_3 f0_3 e0_4 f0_4 e0_5 f0_5 e0_6 f0_6 e0_7 f0_7 e0_8 f0_8 e0_9 f0_9 e0_10 f0_10 e0_11 f0_11 e0_12 f0_12
  change Code.wp _ _ _ _ (stc (stc U2 (P1) [.slice a2 n2 q2, .int .u64 ((⟨[touX (stoX kK v fl 50 10) 11 T], 1, 0⟩ : Ms)).cas, .int .i64 ((⟨[touX (stoX kK v fl 50 10) 11 T], 1, 0⟩ : Ms)).fl] 0) (P2) [.int .i64 8, .string kK, .int .u32 fl, .string v, .int .i64 (moment 11 T), .int .u64 1, .int .i64 0, .bool false, .bool false, .int .u64 0, .bool false, .bool false, .bool false] 0)
  have HE2 : Hid (Bxr w [(P2, 35, [.int .i64 8, .string kK, .int .u32 fl, .string v, .int .i64 (moment 11 T), .int .u64 1, .int .i64 0, .bool false, .bool false, .int .u64 0, .bool false, .bool false, .bool false]), (P1 + 1, 35, [.int .i64 2, .string kK, .int .u32 fl, .string v, .int .i64 60, .int .u64 1, .int .i64 0, .bool false, .bool false, .int .u64 0, .bool false, .bool false, .bool false]), (P1, 25, [.slice a2 n2 q2, .int .u64 ((⟨[touX (stoX kK v fl 50 10) 11 T], 1, 0⟩ : Ms)).cas, .int .i64 ((⟨[touX (stoX kK v fl 50 10) 11 T], 1, 0⟩ : Ms)).fl])] [(.slice a2 n2 q2, ((⟨[touX (stoX kK v fl 50 10) 11 T], 1, 0⟩ : Ms)).its), (.slice a1 n1 q1, ((⟨[stoX kK v fl 50 10], 1, 0⟩ : Ms)).its)] (stc (stc U2 (P1) [.slice a2 n2 q2, .int .u64 ((⟨[touX (stoX kK v fl 50 10) 11 T], 1, 0⟩ : Ms)).cas, .int .i64 ((⟨[touX (stoX kK v fl 50 10) 11 T], 1, 0⟩ : Ms)).fl] 0) (P2) [.int .i64 8, .string kK, .int .u32 fl, .string v, .int .i64 (moment 11 T), .int .u64 1, .int .i64 0, .bool false, .bool false, .int .u64 0, .bool false, .bool false, .bool false] 0)) := hid ((HD2.out.set 2 (vs := [.slice a2 n2 q2, .int .u64 ((⟨[touX (stoX kK v fl 50 10) 11 T], 1, 0⟩ : Ms)).cas, .int .i64 ((⟨[touX (stoX kK v fl 50 10) 11 T], 1, 0⟩ : Ms)).fl]) rfl rfl).set 0 (vs := [.int .i64 8, .string kK, .int .u32 fl, .string v, .int .i64 (moment 11 T), .int .u64 1, .int .i64 0, .bool false, .bool false, .int .u64 0, .bool false, .bool false, .bool false]) rfl rfl)
  clear HD2 hU2 hP2
  generalize (stc (stc U2 (P1) [.slice a2 n2 q2, .int .u64 ((⟨[touX (stoX kK v fl 50 10) 11 T], 1, 0⟩ : Ms)).cas, .int .i64 ((⟨[touX (stoX kK v fl 50 10) 11 T], 1, 0⟩ : Ms)).fl] 0) (P2) [.int .i64 8, .string kK, .int .u32 fl, .string v, .int .i64 (moment 11 T), .int .u64 1, .int .i64 0, .bool false, .bool false, .int .u64 0, .bool false, .bool false, .bool false] 0) = X2 at *
  refine wp_region_E (fun W => Blk W (P1) 25 (stv (.slice a2 n2 q2) (⟨[touX (stoX kK v fl 50 10) 11 T], 1, 0⟩ : Ms))) 11 (by kernel_rfl) ?_
  have HA3 : Hid (Bxr w [(P2, 35, [.int .i64 8, .string kK, .int .u32 fl, .string v, .int .i64 (moment 11 T), .int .u64 1, .int .i64 0, .bool false, .bool false, .int .u64 0, .bool false, .bool false, .bool false]), (P1 + 1, 35, [.int .i64 2, .string kK, .int .u32 fl, .string v, .int .i64 60, .int .u64 1, .int .i64 0, .bool false, .bool false, .int .u64 0, .bool false, .bool false, .bool false]), (P1, 25, [.slice a2 n2 q2, .int .u64 ((⟨[touX (stoX kK v fl 50 10) 11 T], 1, 0⟩ : Ms)).cas, .int .i64 ((⟨[touX (stoX kK v fl 50 10) 11 T], 1, 0⟩ : Ms)).fl])] [(.slice a2 n2 q2, ((⟨[touX (stoX kK v fl 50 10) 11 T], 1, 0⟩ : Ms)).its), (.slice a1 n1 q1, ((⟨[stoX kK v fl 50 10], 1, 0⟩ : Ms)).its)] X2.drew) := hid (HE2.out.step (below_d X2))
  clear HE2
  generalize X2.drew = A3 at *
  have hS : Blk A3 (P1) 25 (stv (.slice a2 n2 q2) (⟨[touX (stoX kK v fl 50 10) 11 T], 1, 0⟩ : Ms)) := HA3.out.1.get 2 rfl
  refine wpAnyE_take (i := 0) (v := .agg #[.slice a2 n2 q2, .int .u64 1, .int .i64 0]) rfl (by kernel_rfl) (by kernel_rfl) (by kernel_rfl) (fun _ _ _ h => h) (by kernel_rfl) (by kernel_rfl) hS (Or.inl ⟨by rfl, ?_⟩) ?_
  · intro w' hw'
    have u0 := hw'.cell (i := 0) (v := .slice a2 n2 q2) rfl
    have u1 := hw'.cell (i := 1) (v := .int .u64 ((⟨[touX (stoX kK v fl 50 10) 11 T], 1, 0⟩ : Ms)).cas) rfl
    have u2 := hw'.cell (i := 2) (v := .int .i64 ((⟨[touX (stoX kK v fl 50 10) 11 T], 1, 0⟩ : Ms)).fl) rfl
    go_simp
  refine wpAnyE_take (i := 1) (v := .int .i64 L) rfl (by kernel_rfl) (by kernel_rfl) (by kernel_rfl) (fun _ _ _ h => h) (by kernel_rfl) (by kernel_rfl) hS (Or.inl ⟨by rfl, ?_⟩) ?_
  · intro w' hw'
    go_simp
  refine wpAnyE_take (i := 2) (v := .int .i64 T2) rfl (by kernel_rfl) (by kernel_rfl) (by kernel_rfl) (fun _ _ _ h => h) (by kernel_rfl) (by kernel_rfl) hS (Or.inl ⟨by rfl, ?_⟩) ?_
  · intro w' hw'
    go_simp
  clear hS
  refine get2 (k := kK) (now := T2) (most := 9000) _ _ 3 4 5 6 7 8 9 10 11 HA3.out (List.mem_of_getElem? (i := 2) rfl) (List.mem_of_getElem? (i := 0) rfl) hf2 (by decide) (by decide) HV.out hr3 rfl rfl rfl rfl rfl rfl rfl rfl rfl rfl rfl rfl rfl rfl rfl rfl rfl (by kernel_rfl) (by decide) rfl ⟨113, by kernel_rfl, by decide, by decide, by decide, by decide, by decide, by decide, by decide⟩ rfl rfl rfl rfl rfl rfl rfl (fun _ _ _ _ _ h => h) (by kernel_rfl) (by kernel_rfl) (by kernel_rfl) (fun P3 Q3 ax3 nx3 cx3 G3 hg3 => ?_)
  have HG3 : Hid (Bxr w [(Q3, 35, [.int .i64 1, .string kK, .int .u32 fl, .string v, .int .i64 (moment 11 T), .int .u64 1, .int .i64 T2, .bool false, .bool false, .int .u64 0, .bool false, .bool false, .bool false]), (P3, 25, [.slice ax3 nx3 cx3, .int .u64 ((⟨[gotX (touX (stoX kK v fl 50 10) 11 T) T2], 1, 0⟩ : Ms)).cas, .int .i64 ((⟨[gotX (touX (stoX kK v fl 50 10) 11 T) T2], 1, 0⟩ : Ms)).fl]), (P2, 35, [.int .i64 8, .string kK, .int .u32 fl, .string v, .int .i64 (moment 11 T), .int .u64 1, .int .i64 0, .bool false, .bool false, .int .u64 0, .bool false, .bool false, .bool false]), (P1 + 1, 35, [.int .i64 2, .string kK, .int .u32 fl, .string v, .int .i64 60, .int .u64 1, .int .i64 0, .bool false, .bool false, .int .u64 0, .bool false, .bool false, .bool false]), (P1, 25, [.slice a2 n2 q2, .int .u64 ((⟨[touX (stoX kK v fl 50 10) 11 T], 1, 0⟩ : Ms)).cas, .int .i64 ((⟨[touX (stoX kK v fl 50 10) 11 T], 1, 0⟩ : Ms)).fl])] [(.slice ax3 nx3 cx3, ((⟨[gotX (touX (stoX kK v fl 50 10) 11 T) T2], 1, 0⟩ : Ms)).its), (.slice a2 n2 q2, ((⟨[touX (stoX kK v fl 50 10) 11 T], 1, 0⟩ : Ms)).its), (.slice a1 n1 q1, ((⟨[stoX kK v fl 50 10], 1, 0⟩ : Ms)).its)] G3) := hid hg3
  clear hg3 HA3
  have a0 := (HG3.out.1.get 3 rfl).cell (i := 0) rfl
  have a5 := (HG3.out.1.get 3 rfl).cell (i := 5) rfl
  have b0 := (HG3.out.1.get 2 rfl).cell (i := 0) rfl
  have b2 := (HG3.out.1.get 2 rfl).cell (i := 2) rfl
  have b3 := (HG3.out.1.get 2 rfl).cell (i := 3) rfl
  have b5 := (HG3.out.1.get 2 rfl).cell (i := 5) rfl
  have c0 := (HG3.out.1.get 0 rfl).cell (i := 0) rfl
  have c3 := (HG3.out.1.get 0 rfl).cell (i := 3) rfl
  have c5 := (HG3.out.1.get 0 rfl).cell (i := 5) rfl
  rcases hlv with hl | hl
  all_goals go_wp2_with fail
  all_goals go_ret
  all_goals exact ⟨rfl, HG3.out.1.1⟩
end
end Go.Proofs.YtkaaebjifkbclaaDoor.Md
