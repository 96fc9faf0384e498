/-
  The law ModelSets: what is stored is told, till its moment. Conditions: numbers are in their types' ranges; the library's variables are as they begin.
-/
import Derived.Test.YtkaaebjifkbclaaDoorMpSetsH
namespace Go.Proofs.YtkaaebjifkbclaaDoor.Md
open Go Go.RowKit Go.Lib

section
variable {k v : ByteArray} {fl : Nat} {e : Int}
set_option maxRecDepth 100000 in
set_option maxHeartbeats 40000000 in
theorem sets_no {now later T L : Int} {w : World} (hv : Nu.Vars w) (hcok : (cSto k v fl e (-1)).Ok) (m1 : bits .and .i64 now 4294967295 + 1 = T) (m2 : IntKind.i64.wrap T = T) (m3 : bits .and .i64 later 4294967295 = L) (hr1 : apply ⟨[], 0, 0⟩ T (cSto k v fl e (-1)) 65536 = (⟨[], 0, 0⟩, An.of 0)) :
    Calls Tryd.prog 4 #[.string k, .int .u32 fl, .string v, .int .i64 e, .int .i64 now, .int .i64 later] w fun e w' => e = .returned (.bool true) ∧ Below w.heap.size w w' := by
  have HV := hid hv
  have m1' : 1 + bits .and .i64 now 4294967295 = T := by omega
  clear hv m1
  have HB := hid (Bxr.begin w)
  go_enter Tryd.func4, Tryd.ntmps4
  go_wp2_with fail
  refine (shown_any w HV.out).mono ?_
  rintro e0 w1 ⟨rfl, hb1⟩
  have HB1 : Hid (Bxr w [] [] w1) := hid (HB.out.step hb1)
  clear hb1 HB
  go_upto_region 4 with fail
  obtain ⟨P1, hP1⟩ : ∃ P, w1.heap.size = P := ⟨_, rfl⟩
  obtain ⟨U1, hU1⟩ : ∃ U, w1.alloc (.cells #[.int .i64 0, .int .i64 0, .string ⟨#[]⟩, .string ⟨#[]⟩, .int .u32 0, .int .i64 0, .bool false, .int .u64 0, .bool false, .int .u64 0, .int .u64 0, .bool false, .bool false, .int .i64 0, .int .i64 0, .bool false] 28) = U := ⟨_, rfl⟩
  have HD1 : Hid (Bxr w [(P1, 28, [.int .i64 0, .int .i64 0, .string ⟨#[]⟩, .string ⟨#[]⟩, .int .u32 0, .int .i64 0, .bool false, .int .u64 0, .bool false, .int .u64 0, .int .u64 0, .bool false, .bool false, .int .i64 0, .int .i64 0, .bool false])] [] U1) := hid (by
    have := HB1.out.new #[.int .i64 0, .int .i64 0, .string ⟨#[]⟩, .string ⟨#[]⟩, .int .u32 0, .int .i64 0, .bool false, .int .u64 0, .bool false, .int .u64 0, .int .u64 0, .bool false, .bool false, .int .i64 0, .int .i64 0, .bool false] 28
    rw [hP1, hU1] at this; exact this)
  clear HB1
  have e0 := (HD1.out.1.get 0 rfl).cell (i := 0) rfl
  have f0 := (HD1.out.1.get 0 rfl).frozen 0
  have e1 := (HD1.out.1.get 0 rfl).cell (i := 1) rfl
  have f1 := (HD1.out.1.get 0 rfl).frozen 1
  have e2 := (HD1.out.1.get 0 rfl).cell (i := 2) rfl
  have f2 := (HD1.out.1.get 0 rfl).frozen 2
  have e3 := (HD1.out.1.get 0 rfl).cell (i := 3) rfl
  have f3 := (HD1.out.1.get 0 rfl).frozen 3
  have e4 := (HD1.out.1.get 0 rfl).cell (i := 4) rfl
  have f4 := (HD1.out.1.get 0 rfl).frozen 4
  have e5 := (HD1.out.1.get 0 rfl).cell (i := 5) rfl
  have f5 := (HD1.out.1.get 0 rfl).frozen 5
  have e6 := (HD1.out.1.get 0 rfl).cell (i := 6) rfl
  have f6 := (HD1.out.1.get 0 rfl).frozen 6
  have e7 := (HD1.out.1.get 0 rfl).cell (i := 7) rfl
  have f7 := (HD1.out.1.get 0 rfl).frozen 7
  have e8 := (HD1.out.1.get 0 rfl).cell (i := 8) rfl
  have f8 := (HD1.out.1.get 0 rfl).frozen 8
  have e9 := (HD1.out.1.get 0 rfl).cell (i := 9) rfl
  have f9 := (HD1.out.1.get 0 rfl).frozen 9
  have e10 := (HD1.out.1.get 0 rfl).cell (i := 10) rfl
  have f10 := (HD1.out.1.get 0 rfl).frozen 10
  have e11 := (HD1.out.1.get 0 rfl).cell (i := 11) rfl
  have f11 := (HD1.out.1.get 0 rfl).frozen 11
  have e12 := (HD1.out.1.get 0 rfl).cell (i := 12) rfl
  have f12 := (HD1.out.1.get 0 rfl).frozen 12
  have e13 := (HD1.out.1.get 0 rfl).cell (i := 13) rfl
  have f13 := (HD1.out.1.get 0 rfl).frozen 13
  have e14 := (HD1.out.1.get 0 rfl).cell (i := 14) rfl
  have f14 := (HD1.out.1.get 0 rfl).frozen 14
  have e15 := (HD1.out.1.get 0 rfl).cell (i := 15) rfl
  have f15 := (HD1.out.1.get 0 rfl).frozen 15
  go_upto_region 5 with fail
  clear e0 f0 e1 f1 e2 f2 e3 f3 e4 f4 e5 f5 e6 f6 e7 f7 e8 f8 e9 f9 e10 f10 e11 f11 e12 f12 e13 f13 e14 f14 e15 f15
  change Code.wp _ _ _ _ (stc U1 (P1) [.int .i64 2, .int .i64 0, .string k, .string v, .int .u32 fl, .int .i64 e, .bool false, .int .u64 0, .bool false, .int .u64 0, .int .u64 0, .bool false, .bool false, .int .i64 0, .int .i64 (-1), .bool false] 0)
  have HE1 : Hid (Bxr w [(P1, 28, [.int .i64 2, .int .i64 0, .string k, .string v, .int .u32 fl, .int .i64 e, .bool false, .int .u64 0, .bool false, .int .u64 0, .int .u64 0, .bool false, .bool false, .int .i64 0, .int .i64 (-1), .bool false])] [] (stc U1 (P1) [.int .i64 2, .int .i64 0, .string k, .string v, .int .u32 fl, .int .i64 e, .bool false, .int .u64 0, .bool false, .int .u64 0, .int .u64 0, .bool false, .bool false, .int .i64 0, .int .i64 (-1), .bool false] 0)) := hid (HD1.out.set 0 (vs := [.int .i64 2, .int .i64 0, .string k, .string v, .int .u32 fl, .int .i64 e, .bool false, .int .u64 0, .bool false, .int .u64 0, .int .u64 0, .bool false, .bool false, .int .i64 0, .int .i64 (-1), .bool false]) rfl rfl)
  clear HD1 hU1 hP1
  generalize (stc U1 (P1) [.int .i64 2, .int .i64 0, .string k, .string v, .int .u32 fl, .int .i64 e, .bool false, .int .u64 0, .bool false, .int .u64 0, .int .u64 0, .bool false, .bool false, .int .i64 0, .int .i64 (-1), .bool false] 0) = X1 at *
  have k0 := (HE1.out.1.get 0 rfl).cell (i := 0) rfl
  have k1 := (HE1.out.1.get 0 rfl).cell (i := 1) rfl
  have k2 := (HE1.out.1.get 0 rfl).cell (i := 2) rfl
  have k3 := (HE1.out.1.get 0 rfl).cell (i := 3) rfl
  have k4 := (HE1.out.1.get 0 rfl).cell (i := 4) rfl
  have k5 := (HE1.out.1.get 0 rfl).cell (i := 5) rfl
  have k6 := (HE1.out.1.get 0 rfl).cell (i := 6) rfl
  have k7 := (HE1.out.1.get 0 rfl).cell (i := 7) rfl
  have k8 := (HE1.out.1.get 0 rfl).cell (i := 8) rfl
  have k9 := (HE1.out.1.get 0 rfl).cell (i := 9) rfl
  have k10 := (HE1.out.1.get 0 rfl).cell (i := 10) rfl
  have k11 := (HE1.out.1.get 0 rfl).cell (i := 11) rfl
  have k12 := (HE1.out.1.get 0 rfl).cell (i := 12) rfl
  have k13 := (HE1.out.1.get 0 rfl).cell (i := 13) rfl
  have k14 := (HE1.out.1.get 0 rfl).cell (i := 14) rfl
  have k15 := (HE1.out.1.get 0 rfl).cell (i := 15) rfl
  go_wp2_with fail
  clear k0 k1 k2 k3 k4 k5 k6 k7 k8 k9 k10 k11 k12 k13 k14 k15
  refine (apply_bx (now := T) (c := cSto k v fl e (-1)) (most := 65536) HE1.out (its_none _) (fit_no 0 65536) (by decide) (by decide) hcok HV.out hr1 (cs := #[.int .i64 0, .string ⟨#[]⟩, .int .u32 0, .string ⟨#[]⟩, .int .i64 0, .int .u64 0, .int .i64 0, .bool false, .bool false, .int .u64 0, .bool false, .bool false, .bool false]) rfl).mono ?_
  rintro e V2 ⟨a2, n2, q2, rfl, hb2⟩
  have HC2 : Hid (Bxr w [(P1, 28, [.int .i64 2, .int .i64 0, .string k, .string v, .int .u32 fl, .int .i64 e, .bool false, .int .u64 0, .bool false, .int .u64 0, .int .u64 0, .bool false, .bool false, .int .i64 0, .int .i64 (-1), .bool false])] [(.slice a2 n2 q2, ((⟨[], 0, 0⟩ : Ms)).its)] V2) := hid hb2
  clear hb2 HE1
  obtain ⟨P2, hP2⟩ : ∃ P, V2.heap.size = P := ⟨_, rfl⟩
  obtain ⟨U2, hU2⟩ : ∃ U, ((V2.alloc (.cells #[.slice none 0 0, .int .u64 0, .int .i64 0] 25)).alloc (.cells #[.int .i64 0, .string ⟨#[]⟩, .int .u32 0, .string ⟨#[]⟩, .int .i64 0, .int .u64 0, .int .i64 0, .bool false, .bool false, .int .u64 0, .bool false, .bool false, .bool false] 35)) = U := ⟨_, rfl⟩
  have HD2 : Hid (Bxr w [(P2 + 1, 35, [.int .i64 0, .string ⟨#[]⟩, .int .u32 0, .string ⟨#[]⟩, .int .i64 0, .int .u64 0, .int .i64 0, .bool false, .bool false, .int .u64 0, .bool false, .bool false, .bool false]), (P2, 25, [.slice none 0 0, .int .u64 0, .int .i64 0]), (P1, 28, [.int .i64 2, .int .i64 0, .string k, .string v, .int .u32 fl, .int .i64 e, .bool false, .int .u64 0, .bool false, .int .u64 0, .int .u64 0, .bool false, .bool false, .int .i64 0, .int .i64 (-1), .bool false])] [(.slice a2 n2 q2, ((⟨[], 0, 0⟩ : Ms)).its)] U2) := hid (by
    have := ((HC2.out.new #[.slice none 0 0, .int .u64 0, .int .i64 0] 25).new #[.int .i64 0, .string ⟨#[]⟩, .int .u32 0, .string ⟨#[]⟩, .int .i64 0, .int .u64 0, .int .i64 0, .bool false, .bool false, .int .u64 0, .bool false, .bool false, .bool false] 35)
    simp only [World.size_alloc] at this
    rw [hP2, hU2] at this; exact this)
  clear HC2
  have e1_0 := (HD2.out.1.get 1 rfl).cell (i := 0) rfl
  have f1_0 := (HD2.out.1.get 1 rfl).frozen 0
  have e1_1 := (HD2.out.1.get 1 rfl).cell (i := 1) rfl
  have f1_1 := (HD2.out.1.get 1 rfl).frozen 1
  have e1_2 := (HD2.out.1.get 1 rfl).cell (i := 2) rfl
  have f1_2 := (HD2.out.1.get 1 rfl).frozen 2
  have e0_0 := (HD2.out.1.get 0 rfl).cell (i := 0) rfl
  have f0_0 := (HD2.out.1.get 0 rfl).frozen 0
  have e0_1 := (HD2.out.1.get 0 rfl).cell (i := 1) rfl
  have f0_1 := (HD2.out.1.get 0 rfl).frozen 1
  have e0_2 := (HD2.out.1.get 0 rfl).cell (i := 2) rfl
  have f0_2 := (HD2.out.1.get 0 rfl).frozen 2
  have e0_3 := (HD2.out.1.get 0 rfl).cell (i := 3) rfl
  have f0_3 := (HD2.out.1.get 0 rfl).frozen 3
  have e0_4 := (HD2.out.1.get 0 rfl).cell (i := 4) rfl
  have f0_4 := (HD2.out.1.get 0 rfl).frozen 4
  have e0_5 := (HD2.out.1.get 0 rfl).cell (i := 5) rfl
  have f0_5 := (HD2.out.1.get 0 rfl).frozen 5
  have e0_6 := (HD2.out.1.get 0 rfl).cell (i := 6) rfl
  have f0_6 := (HD2.out.1.get 0 rfl).frozen 6
  have e0_7 := (HD2.out.1.get 0 rfl).cell (i := 7) rfl
  have f0_7 := (HD2.out.1.get 0 rfl).frozen 7
  have e0_8 := (HD2.out.1.get 0 rfl).cell (i := 8) rfl
  have f0_8 := (HD2.out.1.get 0 rfl).frozen 8
  have e0_9 := (HD2.out.1.get 0 rfl).cell (i := 9) rfl
  have f0_9 := (HD2.out.1.get 0 rfl).frozen 9
  have e0_10 := (HD2.out.1.get 0 rfl).cell (i := 10) rfl
  have f0_10 := (HD2.out.1.get 0 rfl).frozen 10
  have e0_11 := (HD2.out.1.get 0 rfl).cell (i := 11) rfl
  have f0_11 := (HD2.out.1.get 0 rfl).frozen 11
  have e0_12 := (HD2.out.1.get 0 rfl).cell (i := 12) rfl
  have f0_12 := (HD2.out.1.get 0 rfl).frozen 12
  have n1_0 : P2 ≠ P2 + 1 := pw_ne (f := fun x : Nat × TypeId × List Value => x.1) HD2.out.1.2.2 (i := 1) (j := 0) rfl rfl (by decide)
  have n0_1 : P2 + 1 ≠ P2 := pw_ne (f := fun x : Nat × TypeId × List Value => x.1) HD2.out.1.2.2 (i := 0) (j := 1) rfl rfl (by decide)
  go_upto_region 6 with fail
  clear n1_0 n0_1
  clear e1_0 f1_0 e1_1 f1_1 e1_2 f1_2 e0_0 f0_0 e0_1 f0_1 e0_2 f0_2 e0_3 f0_3 e0_4 f0_4 e0_5 f0_5 e0_6 f0_6 e0_7 f0_7 e0_8 f0_8 e0_9 f0_9 e0_10 f0_10 e0_11 f0_11 e0_12 f0_12
  change Code.wp _ _ _ _ (stc (stc U2 (P2) [.slice a2 n2 q2, .int .u64 ((⟨[], 0, 0⟩ : Ms)).cas, .int .i64 ((⟨[], 0, 0⟩ : Ms)).fl] 0) (P2 + 1) [.int .i64 0, .string ⟨#[]⟩, .int .u32 0, .string ⟨#[]⟩, .int .i64 0, .int .u64 0, .int .i64 0, .bool false, .bool false, .int .u64 0, .bool false, .bool false, .bool false] 0)
  have HE2 : Hid (Bxr w [(P2 + 1, 35, [.int .i64 0, .string ⟨#[]⟩, .int .u32 0, .string ⟨#[]⟩, .int .i64 0, .int .u64 0, .int .i64 0, .bool false, .bool false, .int .u64 0, .bool false, .bool false, .bool false]), (P2, 25, [.slice a2 n2 q2, .int .u64 ((⟨[], 0, 0⟩ : Ms)).cas, .int .i64 ((⟨[], 0, 0⟩ : Ms)).fl]), (P1, 28, [.int .i64 2, .int .i64 0, .string k, .string v, .int .u32 fl, .int .i64 e, .bool false, .int .u64 0, .bool false, .int .u64 0, .int .u64 0, .bool false, .bool false, .int .i64 0, .int .i64 (-1), .bool false])] [(.slice a2 n2 q2, ((⟨[], 0, 0⟩ : Ms)).its)] (stc (stc U2 (P2) [.slice a2 n2 q2, .int .u64 ((⟨[], 0, 0⟩ : Ms)).cas, .int .i64 ((⟨[], 0, 0⟩ : Ms)).fl] 0) (P2 + 1) [.int .i64 0, .string ⟨#[]⟩, .int .u32 0, .string ⟨#[]⟩, .int .i64 0, .int .u64 0, .int .i64 0, .bool false, .bool false, .int .u64 0, .bool false, .bool false, .bool false] 0)) := hid ((HD2.out.set 1 (vs := [.slice a2 n2 q2, .int .u64 ((⟨[], 0, 0⟩ : Ms)).cas, .int .i64 ((⟨[], 0, 0⟩ : Ms)).fl]) rfl rfl).set 0 (vs := [.int .i64 0, .string ⟨#[]⟩, .int .u32 0, .string ⟨#[]⟩, .int .i64 0, .int .u64 0, .int .i64 0, .bool false, .bool false, .int .u64 0, .bool false, .bool false, .bool false]) rfl rfl)
  clear HD2 hU2 hP2
  generalize (stc (stc U2 (P2) [.slice a2 n2 q2, .int .u64 ((⟨[], 0, 0⟩ : Ms)).cas, .int .i64 ((⟨[], 0, 0⟩ : Ms)).fl] 0) (P2 + 1) [.int .i64 0, .string ⟨#[]⟩, .int .u32 0, .string ⟨#[]⟩, .int .i64 0, .int .u64 0, .int .i64 0, .bool false, .bool false, .int .u64 0, .bool false, .bool false, .bool false] 0) = X2 at *
  have hn1 := its_len (HE2.out.its 0 rfl)
  change n2 = 0 at hn1
  subst hn1
  have s0 := (HE2.out.1.get 1 rfl).cell (i := 0) rfl
  have a0 := (HE2.out.1.get 0 rfl).cell (i := 0) rfl
  go_wp2_with fail
  go_ret
  exact ⟨rfl, HE2.out.1.1⟩
set_option maxRecDepth 100000 in
set_option maxHeartbeats 40000000 in
theorem sets_large {now later T L : Int} {w : World} (hv : Nu.Vars w) (hcok : (cSto k v fl e (-1)).Ok) (m1 : bits .and .i64 now 4294967295 + 1 = T) (m2 : IntKind.i64.wrap T = T) (m3 : bits .and .i64 later 4294967295 = L) (hr1 : apply ⟨[], 0, 0⟩ T (cSto k v fl e (-1)) 65536 = (⟨[], 0, 0⟩, An.of 11)) :
    Calls Tryd.prog 4 #[.string k, .int .u32 fl, .string v, .int .i64 e, .int .i64 now, .int .i64 later] w fun e w' => e = .returned (.bool true) ∧ Below w.heap.size w w' := by
  have HV := hid hv
  have m1' : 1 + bits .and .i64 now 4294967295 = T := by omega
  clear hv m1
  have HB := hid (Bxr.begin w)
  go_enter Tryd.func4, Tryd.ntmps4
  go_wp2_with fail
  refine (shown_any w HV.out).mono ?_
  rintro e0 w1 ⟨rfl, hb1⟩
  have HB1 : Hid (Bxr w [] [] w1) := hid (HB.out.step hb1)
  clear hb1 HB
  go_upto_region 4 with fail
  obtain ⟨P1, hP1⟩ : ∃ P, w1.heap.size = P := ⟨_, rfl⟩
  obtain ⟨U1, hU1⟩ : ∃ U, w1.alloc (.cells #[.int .i64 0, .int .i64 0, .string ⟨#[]⟩, .string ⟨#[]⟩, .int .u32 0, .int .i64 0, .bool false, .int .u64 0, .bool false, .int .u64 0, .int .u64 0, .bool false, .bool false, .int .i64 0, .int .i64 0, .bool false] 28) = U := ⟨_, rfl⟩
  have HD1 : Hid (Bxr w [(P1, 28, [.int .i64 0, .int .i64 0, .string ⟨#[]⟩, .string ⟨#[]⟩, .int .u32 0, .int .i64 0, .bool false, .int .u64 0, .bool false, .int .u64 0, .int .u64 0, .bool false, .bool false, .int .i64 0, .int .i64 0, .bool false])] [] U1) := hid (by
    have := HB1.out.new #[.int .i64 0, .int .i64 0, .string ⟨#[]⟩, .string ⟨#[]⟩, .int .u32 0, .int .i64 0, .bool false, .int .u64 0, .bool false, .int .u64 0, .int .u64 0, .bool false, .bool false, .int .i64 0, .int .i64 0, .bool false] 28
    rw [hP1, hU1] at this; exact this)
  clear HB1
  have e0 := (HD1.out.1.get 0 rfl).cell (i := 0) rfl
  have f0 := (HD1.out.1.get 0 rfl).frozen 0
  have e1 := (HD1.out.1.get 0 rfl).cell (i := 1) rfl
  have f1 := (HD1.out.1.get 0 rfl).frozen 1
  have e2 := (HD1.out.1.get 0 rfl).cell (i := 2) rfl
  have f2 := (HD1.out.1.get 0 rfl).frozen 2
  have e3 := (HD1.out.1.get 0 rfl).cell (i := 3) rfl
  have f3 := (HD1.out.1.get 0 rfl).frozen 3
  have e4 := (HD1.out.1.get 0 rfl).cell (i := 4) rfl
  have f4 := (HD1.out.1.get 0 rfl).frozen 4
  have e5 := (HD1.out.1.get 0 rfl).cell (i := 5) rfl
  have f5 := (HD1.out.1.get 0 rfl).frozen 5
  have e6 := (HD1.out.1.get 0 rfl).cell (i := 6) rfl
  have f6 := (HD1.out.1.get 0 rfl).frozen 6
  have e7 := (HD1.out.1.get 0 rfl).cell (i := 7) rfl
  have f7 := (HD1.out.1.get 0 rfl).frozen 7
  have e8 := (HD1.out.1.get 0 rfl).cell (i := 8) rfl
  have f8 := (HD1.out.1.get 0 rfl).frozen 8
  have e9 := (HD1.out.1.get 0 rfl).cell (i := 9) rfl
  have f9 := (HD1.out.1.get 0 rfl).frozen 9
  have e10 := (HD1.out.1.get 0 rfl).cell (i := 10) rfl
  have f10 := (HD1.out.1.get 0 rfl).frozen 10
  have e11 := (HD1.out.1.get 0 rfl).cell (i := 11) rfl
  have f11 := (HD1.out.1.get 0 rfl).frozen 11
  have e12 := (HD1.out.1.get 0 rfl).cell (i := 12) rfl
  have f12 := (HD1.out.1.get 0 rfl).frozen 12
  have e13 := (HD1.out.1.get 0 rfl).cell (i := 13) rfl
  have f13 := (HD1.out.1.get 0 rfl).frozen 13
  have e14 := (HD1.out.1.get 0 rfl).cell (i := 14) rfl
  have f14 := (HD1.out.1.get 0 rfl).frozen 14
  have e15 := (HD1.out.1.get 0 rfl).cell (i := 15) rfl
  have f15 := (HD1.out.1.get 0 rfl).frozen 15
  go_upto_region 5 with fail
  clear e0 f0 e1 f1 e2 f2 e3 f3 e4 f4 e5 f5 e6 f6 e7 f7 e8 f8 e9 f9 e10 f10 e11 f11 e12 f12 e13 f13 e14 f14 e15 f15
  change Code.wp _ _ _ _ (stc U1 (P1) [.int .i64 2, .int .i64 0, .string k, .string v, .int .u32 fl, .int .i64 e, .bool false, .int .u64 0, .bool false, .int .u64 0, .int .u64 0, .bool false, .bool false, .int .i64 0, .int .i64 (-1), .bool false] 0)
  have HE1 : Hid (Bxr w [(P1, 28, [.int .i64 2, .int .i64 0, .string k, .string v, .int .u32 fl, .int .i64 e, .bool false, .int .u64 0, .bool false, .int .u64 0, .int .u64 0, .bool false, .bool false, .int .i64 0, .int .i64 (-1), .bool false])] [] (stc U1 (P1) [.int .i64 2, .int .i64 0, .string k, .string v, .int .u32 fl, .int .i64 e, .bool false, .int .u64 0, .bool false, .int .u64 0, .int .u64 0, .bool false, .bool false, .int .i64 0, .int .i64 (-1), .bool false] 0)) := hid (HD1.out.set 0 (vs := [.int .i64 2, .int .i64 0, .string k, .string v, .int .u32 fl, .int .i64 e, .bool false, .int .u64 0, .bool false, .int .u64 0, .int .u64 0, .bool false, .bool false, .int .i64 0, .int .i64 (-1), .bool false]) rfl rfl)
  clear HD1 hU1 hP1
  generalize (stc U1 (P1) [.int .i64 2, .int .i64 0, .string k, .string v, .int .u32 fl, .int .i64 e, .bool false, .int .u64 0, .bool false, .int .u64 0, .int .u64 0, .bool false, .bool false, .int .i64 0, .int .i64 (-1), .bool false] 0) = X1 at *
  have k0 := (HE1.out.1.get 0 rfl).cell (i := 0) rfl
  have k1 := (HE1.out.1.get 0 rfl).cell (i := 1) rfl
  have k2 := (HE1.out.1.get 0 rfl).cell (i := 2) rfl
  have k3 := (HE1.out.1.get 0 rfl).cell (i := 3) rfl
  have k4 := (HE1.out.1.get 0 rfl).cell (i := 4) rfl
  have k5 := (HE1.out.1.get 0 rfl).cell (i := 5) rfl
  have k6 := (HE1.out.1.get 0 rfl).cell (i := 6) rfl
  have k7 := (HE1.out.1.get 0 rfl).cell (i := 7) rfl
  have k8 := (HE1.out.1.get 0 rfl).cell (i := 8) rfl
  have k9 := (HE1.out.1.get 0 rfl).cell (i := 9) rfl
  have k10 := (HE1.out.1.get 0 rfl).cell (i := 10) rfl
  have k11 := (HE1.out.1.get 0 rfl).cell (i := 11) rfl
  have k12 := (HE1.out.1.get 0 rfl).cell (i := 12) rfl
  have k13 := (HE1.out.1.get 0 rfl).cell (i := 13) rfl
  have k14 := (HE1.out.1.get 0 rfl).cell (i := 14) rfl
  have k15 := (HE1.out.1.get 0 rfl).cell (i := 15) rfl
  go_wp2_with fail
  clear k0 k1 k2 k3 k4 k5 k6 k7 k8 k9 k10 k11 k12 k13 k14 k15
  refine (apply_bx (now := T) (c := cSto k v fl e (-1)) (most := 65536) HE1.out (its_none _) (fit_no 0 65536) (by decide) (by decide) hcok HV.out hr1 (cs := #[.int .i64 11, .string ⟨#[]⟩, .int .u32 0, .string ⟨#[]⟩, .int .i64 0, .int .u64 0, .int .i64 0, .bool false, .bool false, .int .u64 0, .bool false, .bool false, .bool false]) rfl).mono ?_
  rintro e V2 ⟨a2, n2, q2, rfl, hb2⟩
  have HC2 : Hid (Bxr w [(P1, 28, [.int .i64 2, .int .i64 0, .string k, .string v, .int .u32 fl, .int .i64 e, .bool false, .int .u64 0, .bool false, .int .u64 0, .int .u64 0, .bool false, .bool false, .int .i64 0, .int .i64 (-1), .bool false])] [(.slice a2 n2 q2, ((⟨[], 0, 0⟩ : Ms)).its)] V2) := hid hb2
  clear hb2 HE1
  obtain ⟨P2, hP2⟩ : ∃ P, V2.heap.size = P := ⟨_, rfl⟩
  obtain ⟨U2, hU2⟩ : ∃ U, ((V2.alloc (.cells #[.slice none 0 0, .int .u64 0, .int .i64 0] 25)).alloc (.cells #[.int .i64 0, .string ⟨#[]⟩, .int .u32 0, .string ⟨#[]⟩, .int .i64 0, .int .u64 0, .int .i64 0, .bool false, .bool false, .int .u64 0, .bool false, .bool false, .bool false] 35)) = U := ⟨_, rfl⟩
  have HD2 : Hid (Bxr w [(P2 + 1, 35, [.int .i64 0, .string ⟨#[]⟩, .int .u32 0, .string ⟨#[]⟩, .int .i64 0, .int .u64 0, .int .i64 0, .bool false, .bool false, .int .u64 0, .bool false, .bool false, .bool false]), (P2, 25, [.slice none 0 0, .int .u64 0, .int .i64 0]), (P1, 28, [.int .i64 2, .int .i64 0, .string k, .string v, .int .u32 fl, .int .i64 e, .bool false, .int .u64 0, .bool false, .int .u64 0, .int .u64 0, .bool false, .bool false, .int .i64 0, .int .i64 (-1), .bool false])] [(.slice a2 n2 q2, ((⟨[], 0, 0⟩ : Ms)).its)] U2) := hid (by
    have := ((HC2.out.new #[.slice none 0 0, .int .u64 0, .int .i64 0] 25).new #[.int .i64 0, .string ⟨#[]⟩, .int .u32 0, .string ⟨#[]⟩, .int .i64 0, .int .u64 0, .int .i64 0, .bool false, .bool false, .int .u64 0, .bool false, .bool false, .bool false] 35)
    simp only [World.size_alloc] at this
    rw [hP2, hU2] at this; exact this)
  clear HC2
  have e1_0 := (HD2.out.1.get 1 rfl).cell (i := 0) rfl
  have f1_0 := (HD2.out.1.get 1 rfl).frozen 0
  have e1_1 := (HD2.out.1.get 1 rfl).cell (i := 1) rfl
  have f1_1 := (HD2.out.1.get 1 rfl).frozen 1
  have e1_2 := (HD2.out.1.get 1 rfl).cell (i := 2) rfl
  have f1_2 := (HD2.out.1.get 1 rfl).frozen 2
  have e0_0 := (HD2.out.1.get 0 rfl).cell (i := 0) rfl
  have f0_0 := (HD2.out.1.get 0 rfl).frozen 0
  have e0_1 := (HD2.out.1.get 0 rfl).cell (i := 1) rfl
  have f0_1 := (HD2.out.1.get 0 rfl).frozen 1
  have e0_2 := (HD2.out.1.get 0 rfl).cell (i := 2) rfl
  have f0_2 := (HD2.out.1.get 0 rfl).frozen 2
  have e0_3 := (HD2.out.1.get 0 rfl).cell (i := 3) rfl
  have f0_3 := (HD2.out.1.get 0 rfl).frozen 3
  have e0_4 := (HD2.out.1.get 0 rfl).cell (i := 4) rfl
  have f0_4 := (HD2.out.1.get 0 rfl).frozen 4
  have e0_5 := (HD2.out.1.get 0 rfl).cell (i := 5) rfl
  have f0_5 := (HD2.out.1.get 0 rfl).frozen 5
  have e0_6 := (HD2.out.1.get 0 rfl).cell (i := 6) rfl
  have f0_6 := (HD2.out.1.get 0 rfl).frozen 6
  have e0_7 := (HD2.out.1.get 0 rfl).cell (i := 7) rfl
  have f0_7 := (HD2.out.1.get 0 rfl).frozen 7
  have e0_8 := (HD2.out.1.get 0 rfl).cell (i := 8) rfl
  have f0_8 := (HD2.out.1.get 0 rfl).frozen 8
  have e0_9 := (HD2.out.1.get 0 rfl).cell (i := 9) rfl
  have f0_9 := (HD2.out.1.get 0 rfl).frozen 9
  have e0_10 := (HD2.out.1.get 0 rfl).cell (i := 10) rfl
  have f0_10 := (HD2.out.1.get 0 rfl).frozen 10
  have e0_11 := (HD2.out.1.get 0 rfl).cell (i := 11) rfl
  have f0_11 := (HD2.out.1.get 0 rfl).frozen 11
  have e0_12 := (HD2.out.1.get 0 rfl).cell (i := 12) rfl
  have f0_12 := (HD2.out.1.get 0 rfl).frozen 12
  have n1_0 : P2 ≠ P2 + 1 := pw_ne (f := fun x : Nat × TypeId × List Value => x.1) HD2.out.1.2.2 (i := 1) (j := 0) rfl rfl (by decide)
  have n0_1 : P2 + 1 ≠ P2 := pw_ne (f := fun x : Nat × TypeId × List Value => x.1) HD2.out.1.2.2 (i := 0) (j := 1) rfl rfl (by decide)
  go_upto_region 6 with fail
  clear n1_0 n0_1
  clear e1_0 f1_0 e1_1 f1_1 e1_2 f1_2 e0_0 f0_0 e0_1 f0_1 e0_2 f0_2 e0_3 f0_3 e0_4 f0_4 e0_5 f0_5 e0_6 f0_6 e0_7 f0_7 e0_8 f0_8 e0_9 f0_9 e0_10 f0_10 e0_11 f0_11 e0_12 f0_12
  change Code.wp _ _ _ _ (stc (stc U2 (P2) [.slice a2 n2 q2, .int .u64 ((⟨[], 0, 0⟩ : Ms)).cas, .int .i64 ((⟨[], 0, 0⟩ : Ms)).fl] 0) (P2 + 1) [.int .i64 11, .string ⟨#[]⟩, .int .u32 0, .string ⟨#[]⟩, .int .i64 0, .int .u64 0, .int .i64 0, .bool false, .bool false, .int .u64 0, .bool false, .bool false, .bool false] 0)
  have HE2 : Hid (Bxr w [(P2 + 1, 35, [.int .i64 11, .string ⟨#[]⟩, .int .u32 0, .string ⟨#[]⟩, .int .i64 0, .int .u64 0, .int .i64 0, .bool false, .bool false, .int .u64 0, .bool false, .bool false, .bool false]), (P2, 25, [.slice a2 n2 q2, .int .u64 ((⟨[], 0, 0⟩ : Ms)).cas, .int .i64 ((⟨[], 0, 0⟩ : Ms)).fl]), (P1, 28, [.int .i64 2, .int .i64 0, .string k, .string v, .int .u32 fl, .int .i64 e, .bool false, .int .u64 0, .bool false, .int .u64 0, .int .u64 0, .bool false, .bool false, .int .i64 0, .int .i64 (-1), .bool false])] [(.slice a2 n2 q2, ((⟨[], 0, 0⟩ : Ms)).its)] (stc (stc U2 (P2) [.slice a2 n2 q2, .int .u64 ((⟨[], 0, 0⟩ : Ms)).cas, .int .i64 ((⟨[], 0, 0⟩ : Ms)).fl] 0) (P2 + 1) [.int .i64 11, .string ⟨#[]⟩, .int .u32 0, .string ⟨#[]⟩, .int .i64 0, .int .u64 0, .int .i64 0, .bool false, .bool false, .int .u64 0, .bool false, .bool false, .bool false] 0)) := hid ((HD2.out.set 1 (vs := [.slice a2 n2 q2, .int .u64 ((⟨[], 0, 0⟩ : Ms)).cas, .int .i64 ((⟨[], 0, 0⟩ : Ms)).fl]) rfl rfl).set 0 (vs := [.int .i64 11, .string ⟨#[]⟩, .int .u32 0, .string ⟨#[]⟩, .int .i64 0, .int .u64 0, .int .i64 0, .bool false, .bool false, .int .u64 0, .bool false, .bool false, .bool false]) rfl rfl)
  clear HD2 hU2 hP2
  generalize (stc (stc U2 (P2) [.slice a2 n2 q2, .int .u64 ((⟨[], 0, 0⟩ : Ms)).cas, .int .i64 ((⟨[], 0, 0⟩ : Ms)).fl] 0) (P2 + 1) [.int .i64 11, .string ⟨#[]⟩, .int .u32 0, .string ⟨#[]⟩, .int .i64 0, .int .u64 0, .int .i64 0, .bool false, .bool false, .int .u64 0, .bool false, .bool false, .bool false] 0) = X2 at *
  have hn1 := its_len (HE2.out.its 0 rfl)
  change n2 = 0 at hn1
  subst hn1
  have s0 := (HE2.out.1.get 1 rfl).cell (i := 0) rfl
  have a0 := (HE2.out.1.get 0 rfl).cell (i := 0) rfl
  go_wp2_with fail
  go_ret
  exact ⟨rfl, HE2.out.1.1⟩
end
end Go.Proofs.YtkaaebjifkbclaaDoor.Md
