/-
  The law ModelSets: what is stored is told, till its moment. Conditions: numbers are in their types' ranges; the library's variables are as they begin.
-/
import Derived.Test.YtkaaebjifkbclaaDoorMpSetsH
namespace Go.Proofs.YtkaaebjifkbclaaDoor.Md
open Go Go.RowKit Go.Lib

section
variable {k v : ByteArray} {fl : Nat} {e : Int}
set_option maxRecDepth 100000 in
set_option maxHeartbeats 40000000 in
theorem sets_gone {now later T L T2 : Int} {w : World} (hv : Nu.Vars w) (hcok : (cSto k v fl e (-1)).Ok) (m1 : bits .and .i64 now 4294967295 + 1 = T) (m2 : IntKind.i64.wrap T = T) (m3 : bits .and .i64 later 4294967295 = L) (hr1 : apply ⟨[], 0, 0⟩ T (cSto k v fl e (-1)) 65536 = (⟨[stoX k v fl e T], 1, 0⟩, An.is 2 (stoX k v fl e T))) (hfit : Fit 1 65536 ⟨[stoX k v fl e T], 1, 0⟩) (hgok : (cGet k).Ok) (m4 : T + L = T2) (m5 : IntKind.i64.wrap T2 = T2) (hr2 : apply ⟨[stoX k v fl e T], 1, 0⟩ T2 (cGet k) 65536 = (⟨[], 1, 0⟩, An.of 5)) (hlv : (e < 0 ∧ ¬ e = 0 ∧ (e == 0) = false ∧ ¬ 0 < e ∧ ¬ 2592000 < e) ∨ (¬ e = 0 ∧ (e == 0) = false ∧ 0 < e ∧ e ≤ 2592000 ∧ ¬ 2592000 < e ∧ ¬ L < e ∧ decide (L < e) = false) ∨ (¬ e = 0 ∧ (e == 0) = false ∧ 0 < e ∧ 2592000 < e ∧ ¬ e ≤ 2592000 ∧ ¬ T2 < e ∧ decide (T2 < e) = false)) :
    Calls Tryd.prog 4 #[.string k, .int .u32 fl, .string v, .int .i64 e, .int .i64 now, .int .i64 later] w fun e w' => e = .returned (.bool true) ∧ Below w.heap.size w w' := by
  have HV := hid hv
  have m1' : 1 + bits .and .i64 now 4294967295 = T := by omega
  clear hv m1
  have HB := hid (Bxr.begin w)
  go_enter Tryd.func4, Tryd.ntmps4
  go_wp2_with fail
  refine (shown_any w HV.out).mono ?_
  rintro e0 w1 ⟨rfl, hb1⟩
  have HB1 : Hid (Bxr w [] [] w1) := hid (HB.out.step hb1)
  clear hb1 HB
  go_upto_region 4 with fail
  obtain ⟨P1, hP1⟩ : ∃ P, w1.heap.size = P := ⟨_, rfl⟩
  obtain ⟨U1, hU1⟩ : ∃ U, w1.alloc (.cells #[.int .i64 0, .int .i64 0, .string ⟨#[]⟩, .string ⟨#[]⟩, .int .u32 0, .int .i64 0, .bool false, .int .u64 0, .bool false, .int .u64 0, .int .u64 0, .bool false, .bool false, .int .i64 0, .int .i64 0, .bool false] 28) = U := ⟨_, rfl⟩
  have HD1 : Hid (Bxr w [(P1, 28, [.int .i64 0, .int .i64 0, .string ⟨#[]⟩, .string ⟨#[]⟩, .int .u32 0, .int .i64 0, .bool false, .int .u64 0, .bool false, .int .u64 0, .int .u64 0, .bool false, .bool false, .int .i64 0, .int .i64 0, .bool false])] [] U1) := hid (by
    have := HB1.out.new #[.int .i64 0, .int .i64 0, .string ⟨#[]⟩, .string ⟨#[]⟩, .int .u32 0, .int .i64 0, .bool false, .int .u64 0, .bool false, .int .u64 0, .int .u64 0, .bool false, .bool false, .int .i64 0, .int .i64 0, .bool false] 28
    rw [hP1, hU1] at this; exact this)
  clear HB1
  have e0 := (HD1.out.1.get 0 rfl).cell (i := 0) rfl
  have f0 := (HD1.out.1.get 0 rfl).frozen 0
  have e1 := (HD1.out.1.get 0 rfl).cell (i := 1) rfl
  have f1 := (HD1.out.1.get 0 rfl).frozen 1
  have e2 := (HD1.out.1.get 0 rfl).cell (i := 2) rfl
  have f2 := (HD1.out.1.get 0 rfl).frozen 2
  have e3 := (HD1.out.1.get 0 rfl).cell (i := 3) rfl
  have f3 := (HD1.out.1.get 0 rfl).frozen 3
  have e4 := (HD1.out.1.get 0 rfl).cell (i := 4) rfl
  have f4 := (HD1.out.1.get 0 rfl).frozen 4
  have e5 := (HD1.out.1.get 0 rfl).cell (i := 5) rfl
  have f5 := (HD1.out.1.get 0 rfl).frozen 5
  have e6 := (HD1.out.1.get 0 rfl).cell (i := 6) rfl
  have f6 := (HD1.out.1.get 0 rfl).frozen 6
  have e7 := (HD1.out.1.get 0 rfl).cell (i := 7) rfl
  have f7 := (HD1.out.1.get 0 rfl).frozen 7
  have e8 := (HD1.out.1.get 0 rfl).cell (i := 8) rfl
  have f8 := (HD1.out.1.get 0 rfl).frozen 8
  have e9 := (HD1.out.1.get 0 rfl).cell (i := 9) rfl
  have f9 := (HD1.out.1.get 0 rfl).frozen 9
  have e10 := (HD1.out.1.get 0 rfl).cell (i := 10) rfl
  have f10 := (HD1.out.1.get 0 rfl).frozen 10
  have e11 := (HD1.out.1.get 0 rfl).cell (i := 11) rfl
  have f11 := (HD1.out.1.get 0 rfl).frozen 11
  have e12 := (HD1.out.1.get 0 rfl).cell (i := 12) rfl
  have f12 := (HD1.out.1.get 0 rfl).frozen 12
  have e13 := (HD1.out.1.get 0 rfl).cell (i := 13) rfl
  have f13 := (HD1.out.1.get 0 rfl).frozen 13
  have e14 := (HD1.out.1.get 0 rfl).cell (i := 14) rfl
  have f14 := (HD1.out.1.get 0 rfl).frozen 14
  have e15 := (HD1.out.1.get 0 rfl).cell (i := 15) rfl
  have f15 := (HD1.out.1.get 0 rfl).frozen 15
  go_upto_region 5 with fail
  clear e0 f0 e1 f1 e2 f2 e3 f3 e4 f4 e5 f5 e6 f6 e7 f7 e8 f8 e9 f9 e10 f10 e11 f11 e12 f12 e13 f13 e14 f14 e15 f15
  change Code.wp _ _ _ _ (stc U1 (P1) [.int .i64 2, .int .i64 0, .string k, .string v, .int .u32 fl, .int .i64 e, .bool false, .int .u64 0, .bool false, .int .u64 0, .int .u64 0, .bool false, .bool false, .int .i64 0, .int .i64 (-1), .bool false] 0)
  have HE1 : Hid (Bxr w [(P1, 28, [.int .i64 2, .int .i64 0, .string k, .string v, .int .u32 fl, .int .i64 e, .bool false, .int .u64 0, .bool false, .int .u64 0, .int .u64 0, .bool false, .bool false, .int .i64 0, .int .i64 (-1), .bool false])] [] (stc U1 (P1) [.int .i64 2, .int .i64 0, .string k, .string v, .int .u32 fl, .int .i64 e, .bool false, .int .u64 0, .bool false, .int .u64 0, .int .u64 0, .bool false, .bool false, .int .i64 0, .int .i64 (-1), .bool false] 0)) := hid (HD1.out.set 0 (vs := [.int .i64 2, .int .i64 0, .string k, .string v, .int .u32 fl, .int .i64 e, .bool false, .int .u64 0, .bool false, .int .u64 0, .int .u64 0, .bool false, .bool false, .int .i64 0, .int .i64 (-1), .bool false]) rfl rfl)
  clear HD1 hU1 hP1
  generalize (stc U1 (P1) [.int .i64 2, .int .i64 0, .string k, .string v, .int .u32 fl, .int .i64 e, .bool false, .int .u64 0, .bool false, .int .u64 0, .int .u64 0, .bool false, .bool false, .int .i64 0, .int .i64 (-1), .bool false] 0) = X1 at *
  have k0 := (HE1.out.1.get 0 rfl).cell (i := 0) rfl
  have k1 := (HE1.out.1.get 0 rfl).cell (i := 1) rfl
  have k2 := (HE1.out.1.get 0 rfl).cell (i := 2) rfl
  have k3 := (HE1.out.1.get 0 rfl).cell (i := 3) rfl
  have k4 := (HE1.out.1.get 0 rfl).cell (i := 4) rfl
  have k5 := (HE1.out.1.get 0 rfl).cell (i := 5) rfl
  have k6 := (HE1.out.1.get 0 rfl).cell (i := 6) rfl
  have k7 := (HE1.out.1.get 0 rfl).cell (i := 7) rfl
  have k8 := (HE1.out.1.get 0 rfl).cell (i := 8) rfl
  have k9 := (HE1.out.1.get 0 rfl).cell (i := 9) rfl
  have k10 := (HE1.out.1.get 0 rfl).cell (i := 10) rfl
  have k11 := (HE1.out.1.get 0 rfl).cell (i := 11) rfl
  have k12 := (HE1.out.1.get 0 rfl).cell (i := 12) rfl
  have k13 := (HE1.out.1.get 0 rfl).cell (i := 13) rfl
  have k14 := (HE1.out.1.get 0 rfl).cell (i := 14) rfl
  have k15 := (HE1.out.1.get 0 rfl).cell (i := 15) rfl
  go_cut [15, 16] from 20 to 38 (fun d1 d2 wx => ∃ (P2 : Nat) (a2 : Option Addr) (n2 q2 : Nat), d1 = .pointer (some ⟨P2, 0, none⟩) ∧ d2 = .pointer (some ⟨P2 + 1, 0, none⟩) ∧ Hid (Bxr w [(P2 + 1, 35, [.int .i64 2, .string k, .int .u32 fl, .string v, .int .i64 (moment T e), .int .u64 1, .int .i64 0, .bool false, .bool false, .int .u64 0, .bool false, .bool false, .bool false]), (P2, 25, [.slice a2 n2 q2, .int .u64 ((⟨[stoX k v fl e T], 1, 0⟩ : Ms)).cas, .int .i64 ((⟨[stoX k v fl e T], 1, 0⟩ : Ms)).fl]), (P1, 28, [.int .i64 2, .int .i64 0, .string k, .string v, .int .u32 fl, .int .i64 e, .bool false, .int .u64 0, .bool false, .int .u64 0, .int .u64 0, .bool false, .bool false, .int .i64 0, .int .i64 (-1), .bool false])] [(.slice a2 n2 q2, ((⟨[stoX k v fl e T], 1, 0⟩ : Ms)).its)] wx))
  case first =>
    go_wp2_with fail
    clear k0 k1 k2 k3 k4 k5 k6 k7 k8 k9 k10 k11 k12 k13 k14 k15
    refine (apply_bx (now := T) (c := cSto k v fl e (-1)) (most := 65536) HE1.out (its_none _) (fit_no 0 65536) (by decide) (by decide) hcok HV.out hr1 (cs := #[.int .i64 2, .string k, .int .u32 fl, .string v, .int .i64 (moment T e), .int .u64 1, .int .i64 0, .bool false, .bool false, .int .u64 0, .bool false, .bool false, .bool false]) rfl).mono ?_
    rintro e V2 ⟨a2, n2, q2, rfl, hb2⟩
    have HC2 : Hid (Bxr w [(P1, 28, [.int .i64 2, .int .i64 0, .string k, .string v, .int .u32 fl, .int .i64 e, .bool false, .int .u64 0, .bool false, .int .u64 0, .int .u64 0, .bool false, .bool false, .int .i64 0, .int .i64 (-1), .bool false])] [(.slice a2 n2 q2, ((⟨[stoX k v fl e T], 1, 0⟩ : Ms)).its)] V2) := hid hb2
    clear hb2 HE1
    obtain ⟨P2, hP2⟩ : ∃ P, V2.heap.size = P := ⟨_, rfl⟩
    obtain ⟨U2, hU2⟩ : ∃ U, ((V2.alloc (.cells #[.slice none 0 0, .int .u64 0, .int .i64 0] 25)).alloc (.cells #[.int .i64 0, .string ⟨#[]⟩, .int .u32 0, .string ⟨#[]⟩, .int .i64 0, .int .u64 0, .int .i64 0, .bool false, .bool false, .int .u64 0, .bool false, .bool false, .bool false] 35)) = U := ⟨_, rfl⟩
    have HD2 : Hid (Bxr w [(P2 + 1, 35, [.int .i64 0, .string ⟨#[]⟩, .int .u32 0, .string ⟨#[]⟩, .int .i64 0, .int .u64 0, .int .i64 0, .bool false, .bool false, .int .u64 0, .bool false, .bool false, .bool false]), (P2, 25, [.slice none 0 0, .int .u64 0, .int .i64 0]), (P1, 28, [.int .i64 2, .int .i64 0, .string k, .string v, .int .u32 fl, .int .i64 e, .bool false, .int .u64 0, .bool false, .int .u64 0, .int .u64 0, .bool false, .bool false, .int .i64 0, .int .i64 (-1), .bool false])] [(.slice a2 n2 q2, ((⟨[stoX k v fl e T], 1, 0⟩ : Ms)).its)] U2) := hid (by
      have := ((HC2.out.new #[.slice none 0 0, .int .u64 0, .int .i64 0] 25).new #[.int .i64 0, .string ⟨#[]⟩, .int .u32 0, .string ⟨#[]⟩, .int .i64 0, .int .u64 0, .int .i64 0, .bool false, .bool false, .int .u64 0, .bool false, .bool false, .bool false] 35)
      simp only [World.size_alloc] at this
      rw [hP2, hU2] at this; exact this)
    clear HC2
    have e1_0 := (HD2.out.1.get 1 rfl).cell (i := 0) rfl
    have f1_0 := (HD2.out.1.get 1 rfl).frozen 0
    have e1_1 := (HD2.out.1.get 1 rfl).cell (i := 1) rfl
    have f1_1 := (HD2.out.1.get 1 rfl).frozen 1
    have e1_2 := (HD2.out.1.get 1 rfl).cell (i := 2) rfl
    have f1_2 := (HD2.out.1.get 1 rfl).frozen 2
    have e0_0 := (HD2.out.1.get 0 rfl).cell (i := 0) rfl
    have f0_0 := (HD2.out.1.get 0 rfl).frozen 0
    have e0_1 := (HD2.out.1.get 0 rfl).cell (i := 1) rfl
    have f0_1 := (HD2.out.1.get 0 rfl).frozen 1
    have e0_2 := (HD2.out.1.get 0 rfl).cell (i := 2) rfl
    have f0_2 := (HD2.out.1.get 0 rfl).frozen 2
    have e0_3 := (HD2.out.1.get 0 rfl).cell (i := 3) rfl
    have f0_3 := (HD2.out.1.get 0 rfl).frozen 3
    have e0_4 := (HD2.out.1.get 0 rfl).cell (i := 4) rfl
    have f0_4 := (HD2.out.1.get 0 rfl).frozen 4
    have e0_5 := (HD2.out.1.get 0 rfl).cell (i := 5) rfl
    have f0_5 := (HD2.out.1.get 0 rfl).frozen 5
    have e0_6 := (HD2.out.1.get 0 rfl).cell (i := 6) rfl
    have f0_6 := (HD2.out.1.get 0 rfl).frozen 6
    have e0_7 := (HD2.out.1.get 0 rfl).cell (i := 7) rfl
    have f0_7 := (HD2.out.1.get 0 rfl).frozen 7
    have e0_8 := (HD2.out.1.get 0 rfl).cell (i := 8) rfl
    have f0_8 := (HD2.out.1.get 0 rfl).frozen 8
    have e0_9 := (HD2.out.1.get 0 rfl).cell (i := 9) rfl
    have f0_9 := (HD2.out.1.get 0 rfl).frozen 9
    have e0_10 := (HD2.out.1.get 0 rfl).cell (i := 10) rfl
    have f0_10 := (HD2.out.1.get 0 rfl).frozen 10
    have e0_11 := (HD2.out.1.get 0 rfl).cell (i := 11) rfl
    have f0_11 := (HD2.out.1.get 0 rfl).frozen 11
    have e0_12 := (HD2.out.1.get 0 rfl).cell (i := 12) rfl
    have f0_12 := (HD2.out.1.get 0 rfl).frozen 12
    have n1_0 : P2 ≠ P2 + 1 := pw_ne (f := fun x : Nat × TypeId × List Value => x.1) HD2.out.1.2.2 (i := 1) (j := 0) rfl rfl (by decide)
    have n0_1 : P2 + 1 ≠ P2 := pw_ne (f := fun x : Nat × TypeId × List Value => x.1) HD2.out.1.2.2 (i := 0) (j := 1) rfl rfl (by decide)
    go_wp2_with fail
    clear n1_0 n0_1
    clear e1_0 f1_0 e1_1 f1_1 e1_2 f1_2 e0_0 f0_0 e0_1 f0_1 e0_2 f0_2 e0_3 f0_3 e0_4 f0_4 e0_5 f0_5 e0_6 f0_6 e0_7 f0_7 e0_8 f0_8 e0_9 f0_9 e0_10 f0_10 e0_11 f0_11 e0_12 f0_12
    have HE2 : Hid (Bxr w [(P2 + 1, 35, [.int .i64 2, .string k, .int .u32 fl, .string v, .int .i64 (moment T e), .int .u64 1, .int .i64 0, .bool false, .bool false, .int .u64 0, .bool false, .bool false, .bool false]), (P2, 25, [.slice a2 n2 q2, .int .u64 ((⟨[stoX k v fl e T], 1, 0⟩ : Ms)).cas, .int .i64 ((⟨[stoX k v fl e T], 1, 0⟩ : Ms)).fl]), (P1, 28, [.int .i64 2, .int .i64 0, .string k, .string v, .int .u32 fl, .int .i64 e, .bool false, .int .u64 0, .bool false, .int .u64 0, .int .u64 0, .bool false, .bool false, .int .i64 0, .int .i64 (-1), .bool false])] [(.slice a2 n2 q2, ((⟨[stoX k v fl e T], 1, 0⟩ : Ms)).its)] (stc (stc U2 (P2) [.slice a2 n2 q2, .int .u64 ((⟨[stoX k v fl e T], 1, 0⟩ : Ms)).cas, .int .i64 ((⟨[stoX k v fl e T], 1, 0⟩ : Ms)).fl] 0) (P2 + 1) [.int .i64 2, .string k, .int .u32 fl, .string v, .int .i64 (moment T e), .int .u64 1, .int .i64 0, .bool false, .bool false, .int .u64 0, .bool false, .bool false, .bool false] 0)) := hid ((HD2.out.set 1 (vs := [.slice a2 n2 q2, .int .u64 ((⟨[stoX k v fl e T], 1, 0⟩ : Ms)).cas, .int .i64 ((⟨[stoX k v fl e T], 1, 0⟩ : Ms)).fl]) rfl rfl).set 0 (vs := [.int .i64 2, .string k, .int .u32 fl, .string v, .int .i64 (moment T e), .int .u64 1, .int .i64 0, .bool false, .bool false, .int .u64 0, .bool false, .bool false, .bool false]) rfl rfl)
    clear HD2 hU2 hP2
    go_meet
    exact ⟨P2, a2, n2, q2, rfl, rfl, HE2⟩
  obtain ⟨P2, a2, n2, q2, rfl, rfl, HE2⟩ := hcut
  generalize wc = X2 at *
  clear HE1
  have a0 := (HE2.out.1.get 0 rfl).cell (i := 0) rfl
  go_upto_region 8 with fail
  go_cut [17, 18] from 58 to 68 (fun d1 d2 wx => ∃ (Px Qx : Nat) (ax : Option Addr) (nx qx : Nat), d1 = .pointer (some ⟨Px, 0, none⟩) ∧ d2 = .pointer (some ⟨Qx, 0, none⟩) ∧ Hid (Bxr w [(Qx, 35, [.int .i64 5, .string ⟨#[]⟩, .int .u32 0, .string ⟨#[]⟩, .int .i64 0, .int .u64 0, .int .i64 0, .bool false, .bool false, .int .u64 0, .bool false, .bool false, .bool false]), (Px, 25, [.slice ax nx qx, .int .u64 ((⟨[], 1, 0⟩ : Ms)).cas, .int .i64 ((⟨[], 1, 0⟩ : Ms)).fl]), (P2 + 1, 35, [.int .i64 2, .string k, .int .u32 fl, .string v, .int .i64 (moment T e), .int .u64 1, .int .i64 0, .bool false, .bool false, .int .u64 0, .bool false, .bool false, .bool false]), (P2, 25, [.slice a2 n2 q2, .int .u64 ((⟨[stoX k v fl e T], 1, 0⟩ : Ms)).cas, .int .i64 ((⟨[stoX k v fl e T], 1, 0⟩ : Ms)).fl]), (P1, 28, [.int .i64 2, .int .i64 0, .string k, .string v, .int .u32 fl, .int .i64 e, .bool false, .int .u64 0, .bool false, .int .u64 0, .int .u64 0, .bool false, .bool false, .int .i64 0, .int .i64 (-1), .bool false])] [(.slice ax nx qx, ((⟨[], 1, 0⟩ : Ms)).its), (.slice a2 n2 q2, ((⟨[stoX k v fl e T], 1, 0⟩ : Ms)).its)] wx))
  case first =>
    obtain ⟨S, hSd⟩ : ∃ S : World → Prop, S = fun W => Blk W (P2) 25 [.slice a2 n2 q2, .int .u64 ((⟨[stoX k v fl e T], 1, 0⟩ : Ms)).cas, .int .i64 ((⟨[stoX k v fl e T], 1, 0⟩ : Ms)).fl] := ⟨_, rfl⟩
    have HSd := hid hSd
    refine wp_region_E S 13 (by kernel_rfl) ?_
    have HA0 : Hid (Bxr w [(P2 + 1, 35, [.int .i64 2, .string k, .int .u32 fl, .string v, .int .i64 (moment T e), .int .u64 1, .int .i64 0, .bool false, .bool false, .int .u64 0, .bool false, .bool false, .bool false]), (P2, 25, [.slice a2 n2 q2, .int .u64 ((⟨[stoX k v fl e T], 1, 0⟩ : Ms)).cas, .int .i64 ((⟨[stoX k v fl e T], 1, 0⟩ : Ms)).fl]), (P1, 28, [.int .i64 2, .int .i64 0, .string k, .string v, .int .u32 fl, .int .i64 e, .bool false, .int .u64 0, .bool false, .int .u64 0, .int .u64 0, .bool false, .bool false, .int .i64 0, .int .i64 (-1), .bool false])] [(.slice a2 n2 q2, ((⟨[stoX k v fl e T], 1, 0⟩ : Ms)).its)] X2.drew) := hid (HE2.out.step (below_d X2))
    clear HE2
    generalize X2.drew = A0 at *
    have hS : S A0 := by rw [HSd.out]; exact HA0.out.1.get 1 rfl
    refine wpAnyE_take (i := 0) (v := .agg #[.slice a2 n2 q2, .int .u64 1, .int .i64 0]) rfl (by kernel_rfl) (by kernel_rfl) (by kernel_rfl) (fun _ _ _ h => h) (by kernel_rfl) (by kernel_rfl) hS (Or.inl ⟨by rfl, ?_⟩) ?_
    · intro w' hw'
      rw [hSd] at hw'
      have u0 := hw'.cell (i := 0) rfl
      have u1 := hw'.cell (i := 1) rfl
      have u2 := hw'.cell (i := 2) rfl
      go_simp
    refine wpAnyE_take (i := 1) (v := .int .i64 T) rfl (by kernel_rfl) (by kernel_rfl) (by kernel_rfl) (fun _ _ _ h => h) (by kernel_rfl) (by kernel_rfl) hS (Or.inl ⟨by rfl, ?_⟩) ?_
    · intro w' hw'
      go_simp
    refine wpAnyE_take (i := 2) (v := .int .i64 L) rfl (by kernel_rfl) (by kernel_rfl) (by kernel_rfl) (fun _ _ _ h => h) (by kernel_rfl) (by kernel_rfl) hS (Or.inl ⟨by rfl, ?_⟩) ?_
    · intro w' hw'
      go_simp
    refine wpAnyE_take (i := 3) (v := .int .i64 T2) rfl (by kernel_rfl) (by kernel_rfl) (by kernel_rfl) (fun _ _ _ h => h) (by kernel_rfl) (by kernel_rfl) hS (Or.inl ⟨by rfl, ?_⟩) ?_
    · intro w' hw'
      go_simp
    refine wpAnyE_take (i := 4) (v := .string k) rfl (by kernel_rfl) (by kernel_rfl) (by kernel_rfl) (fun _ _ _ h => h) (by kernel_rfl) (by kernel_rfl) hS (Or.inl ⟨by rfl, ?_⟩) ?_
    · intro w' hw'
      go_simp
    clear hS hSd
    refine wpAnyE_three (i := 5) (j := 10) (k := 11) rfl rfl rfl (by kernel_rfl) (fun K hK => ?_) (fun K hK => ?_) (fun K hK => ?_)
    · go_simp
      refine (get_any k A0).mono ?_
      rintro e B2 ⟨rfl, hb2⟩
      have HT2 : Hid (Bxr w [(P2 + 1, 35, [.int .i64 2, .string k, .int .u32 fl, .string v, .int .i64 (moment T e), .int .u64 1, .int .i64 0, .bool false, .bool false, .int .u64 0, .bool false, .bool false, .bool false]), (P2, 25, [.slice a2 n2 q2, .int .u64 ((⟨[stoX k v fl e T], 1, 0⟩ : Ms)).cas, .int .i64 ((⟨[stoX k v fl e T], 1, 0⟩ : Ms)).fl]), (P1, 28, [.int .i64 2, .int .i64 0, .string k, .string v, .int .u32 fl, .int .i64 e, .bool false, .int .u64 0, .bool false, .int .u64 0, .int .u64 0, .bool false, .bool false, .int .i64 0, .int .i64 (-1), .bool false])] [(.slice a2 n2 q2, ((⟨[stoX k v fl e T], 1, 0⟩ : Ms)).its)] B2) := hid (HA0.out.step hb2)
      refine hK _ _ (fun _ => by rw [HSd.out]; exact HT2.out.1.get 1 rfl) ?_
      clear hK K hb2
      refine wpAnyE_three (i := 6) (j := 10) (k := 11) rfl rfl rfl (by kernel_rfl) (fun K hK => ?_) (fun K hK => ?_) (fun K hK => ?_)
      · go_simp
        refine (apply_bx (now := T2) (c := cGet k) (most := 65536) HT2.out (HT2.out.its 0 rfl) hfit (by decide) (by decide) hgok HV.out hr2 (cs := #[.int .i64 5, .string ⟨#[]⟩, .int .u32 0, .string ⟨#[]⟩, .int .i64 0, .int .u64 0, .int .i64 0, .bool false, .bool false, .int .u64 0, .bool false, .bool false, .bool false]) rfl).mono ?_
        rintro e B4 ⟨a4_, n4_, q4_, rfl, hb4⟩
        have HT4 : Hid (Bxr w [(P2 + 1, 35, [.int .i64 2, .string k, .int .u32 fl, .string v, .int .i64 (moment T e), .int .u64 1, .int .i64 0, .bool false, .bool false, .int .u64 0, .bool false, .bool false, .bool false]), (P2, 25, [.slice a2 n2 q2, .int .u64 ((⟨[stoX k v fl e T], 1, 0⟩ : Ms)).cas, .int .i64 ((⟨[stoX k v fl e T], 1, 0⟩ : Ms)).fl]), (P1, 28, [.int .i64 2, .int .i64 0, .string k, .string v, .int .u32 fl, .int .i64 e, .bool false, .int .u64 0, .bool false, .int .u64 0, .int .u64 0, .bool false, .bool false, .int .i64 0, .int .i64 (-1), .bool false])] [(.slice a4_ n4_ q4_, ((⟨[], 1, 0⟩ : Ms)).its), (.slice a2 n2 q2, ((⟨[stoX k v fl e T], 1, 0⟩ : Ms)).its)] B4) := hid hb4
        refine hK _ _ (fun _ => by rw [HSd.out]; exact HT4.out.1.get 1 rfl) ?_
        clear hK K hb4
        have hS : S B4 := by rw [HSd.out]; exact HT4.out.1.get 1 rfl
        refine wpAnyE_take (i := 7) (v := .tuple #[.agg #[.slice a4_ n4_ q4_, .int .u64 ((⟨[], 1, 0⟩ : Ms)).cas, .int .i64 ((⟨[], 1, 0⟩ : Ms)).fl], .agg #[.int .i64 5, .string ⟨#[]⟩, .int .u32 0, .string ⟨#[]⟩, .int .i64 0, .int .u64 0, .int .i64 0, .bool false, .bool false, .int .u64 0, .bool false, .bool false, .bool false]]) rfl (by kernel_rfl) (by kernel_rfl) (by kernel_rfl) (fun _ _ _ h => h) (by kernel_rfl) (by kernel_rfl) hS (Or.inl ⟨by rfl, ?_⟩) ?_
        · intro w' hw'
          go_simp
        refine wpAnyE_take (i := 8) (v := .agg #[.slice a4_ n4_ q4_, .int .u64 ((⟨[], 1, 0⟩ : Ms)).cas, .int .i64 ((⟨[], 1, 0⟩ : Ms)).fl]) rfl (by kernel_rfl) (by kernel_rfl) (by kernel_rfl) (fun _ _ _ h => h) (by kernel_rfl) (by kernel_rfl) hS (Or.inl ⟨by rfl, ?_⟩) ?_
        · intro w' hw'
          go_simp
        refine wpAnyE_take (i := 9) (v := .agg #[.int .i64 5, .string ⟨#[]⟩, .int .u32 0, .string ⟨#[]⟩, .int .i64 0, .int .u64 0, .int .i64 0, .bool false, .bool false, .int .u64 0, .bool false, .bool false, .bool false]) rfl (by kernel_rfl) (by kernel_rfl) (by kernel_rfl) (fun _ _ _ h => h) (by kernel_rfl) (by kernel_rfl) hS (Or.inl ⟨by rfl, ?_⟩) ?_
        · intro w' hw'
          go_simp
        clear hS
        refine wpAnyE_two (i := 10) (j := 11) rfl rfl (by kernel_rfl) (fun K hK => ?_) (fun K hK => ?_)
        · go_simp
          obtain ⟨R6, hR6⟩ : ∃ R, B4.heap.size = R := ⟨_, rfl⟩
          obtain ⟨B6, hB6⟩ : ∃ B, B4.alloc (.cells #[.slice none 0 0, .int .u64 0, .int .i64 0] 25) = B := ⟨_, rfl⟩
          have HT6 : Hid (Bxr w [(R6, 25, [.slice none 0 0, .int .u64 0, .int .i64 0]), (P2 + 1, 35, [.int .i64 2, .string k, .int .u32 fl, .string v, .int .i64 (moment T e), .int .u64 1, .int .i64 0, .bool false, .bool false, .int .u64 0, .bool false, .bool false, .bool false]), (P2, 25, [.slice a2 n2 q2, .int .u64 ((⟨[stoX k v fl e T], 1, 0⟩ : Ms)).cas, .int .i64 ((⟨[stoX k v fl e T], 1, 0⟩ : Ms)).fl]), (P1, 28, [.int .i64 2, .int .i64 0, .string k, .string v, .int .u32 fl, .int .i64 e, .bool false, .int .u64 0, .bool false, .int .u64 0, .int .u64 0, .bool false, .bool false, .int .i64 0, .int .i64 (-1), .bool false])] [(.slice a4_ n4_ q4_, ((⟨[], 1, 0⟩ : Ms)).its), (.slice a2 n2 q2, ((⟨[stoX k v fl e T], 1, 0⟩ : Ms)).its)] B6) := hid (by
            have := HT4.out.new #[.slice none 0 0, .int .u64 0, .int .i64 0] 25
            rw [hR6, hB6] at this; exact this)
          refine hK _ _ (fun _ => by rw [HSd.out]; first | exact HT6.out.1.get 2 rfl | (rw [hB6]; exact HT6.out.1.get 2 rfl)) ?_
          clear hK K
          try rw [hB6]
          try rw [hR6]
          clear hB6 hR6
          refine wpAnyE_one (i := 11) rfl (by kernel_rfl) (fun K hK => ?_)
          · go_simp
            obtain ⟨R8, hR8⟩ : ∃ R, B6.heap.size = R := ⟨_, rfl⟩
            obtain ⟨B8, hB8⟩ : ∃ B, B6.alloc (.cells #[.int .i64 0, .string ⟨#[]⟩, .int .u32 0, .string ⟨#[]⟩, .int .i64 0, .int .u64 0, .int .i64 0, .bool false, .bool false, .int .u64 0, .bool false, .bool false, .bool false] 35) = B := ⟨_, rfl⟩
            have HT8 : Hid (Bxr w [(R8, 35, [.int .i64 0, .string ⟨#[]⟩, .int .u32 0, .string ⟨#[]⟩, .int .i64 0, .int .u64 0, .int .i64 0, .bool false, .bool false, .int .u64 0, .bool false, .bool false, .bool false]), (R6, 25, [.slice none 0 0, .int .u64 0, .int .i64 0]), (P2 + 1, 35, [.int .i64 2, .string k, .int .u32 fl, .string v, .int .i64 (moment T e), .int .u64 1, .int .i64 0, .bool false, .bool false, .int .u64 0, .bool false, .bool false, .bool false]), (P2, 25, [.slice a2 n2 q2, .int .u64 ((⟨[stoX k v fl e T], 1, 0⟩ : Ms)).cas, .int .i64 ((⟨[stoX k v fl e T], 1, 0⟩ : Ms)).fl]), (P1, 28, [.int .i64 2, .int .i64 0, .string k, .string v, .int .u32 fl, .int .i64 e, .bool false, .int .u64 0, .bool false, .int .u64 0, .int .u64 0, .bool false, .bool false, .int .i64 0, .int .i64 (-1), .bool false])] [(.slice a4_ n4_ q4_, ((⟨[], 1, 0⟩ : Ms)).its), (.slice a2 n2 q2, ((⟨[stoX k v fl e T], 1, 0⟩ : Ms)).its)] B8) := hid (by
              have := HT6.out.new #[.int .i64 0, .string ⟨#[]⟩, .int .u32 0, .string ⟨#[]⟩, .int .i64 0, .int .u64 0, .int .i64 0, .bool false, .bool false, .int .u64 0, .bool false, .bool false, .bool false] 35
              rw [hR8, hB8] at this; exact this)
            refine hK _ _ (fun _ => by rw [HSd.out]; first | exact HT8.out.1.get 3 rfl | (rw [hB8]; exact HT8.out.1.get 3 rfl)) ?_
            clear hK K
            try rw [hB8]
            try rw [hR8]
            clear hB8 hR8
            have HL9_0 : Hid (Bxr w [(R8, 35, [.int .i64 0, .string ⟨#[]⟩, .int .u32 0, .string ⟨#[]⟩, .int .i64 0, .int .u64 0, .int .i64 0, .bool false, .bool false, .int .u64 0, .bool false, .bool false, .bool false]), (R6, 25, [.slice a4_ n4_ q4_, .int .u64 ((⟨[], 1, 0⟩ : Ms)).cas, .int .i64 ((⟨[], 1, 0⟩ : Ms)).fl]), (P2 + 1, 35, [.int .i64 2, .string k, .int .u32 fl, .string v, .int .i64 (moment T e), .int .u64 1, .int .i64 0, .bool false, .bool false, .int .u64 0, .bool false, .bool false, .bool false]), (P2, 25, [.slice a2 n2 q2, .int .u64 ((⟨[stoX k v fl e T], 1, 0⟩ : Ms)).cas, .int .i64 ((⟨[stoX k v fl e T], 1, 0⟩ : Ms)).fl]), (P1, 28, [.int .i64 2, .int .i64 0, .string k, .string v, .int .u32 fl, .int .i64 e, .bool false, .int .u64 0, .bool false, .int .u64 0, .int .u64 0, .bool false, .bool false, .int .i64 0, .int .i64 (-1), .bool false])] [(.slice a4_ n4_ q4_, ((⟨[], 1, 0⟩ : Ms)).its), (.slice a2 n2 q2, ((⟨[stoX k v fl e T], 1, 0⟩ : Ms)).its)] (B8.setCells (R6) 0 [.slice a4_ n4_ q4_, .int .u64 ((⟨[], 1, 0⟩ : Ms)).cas, .int .i64 ((⟨[], 1, 0⟩ : Ms)).fl])) := hid (HT8.out.setc 1 (vs := [.slice a4_ n4_ q4_, .int .u64 ((⟨[], 1, 0⟩ : Ms)).cas, .int .i64 ((⟨[], 1, 0⟩ : Ms)).fl]) rfl rfl)
            refine wpAnyE_one (i := 12) rfl (by kernel_rfl) (fun K hK => ?_)
            refine step_store_mid rfl 25 (.tmp 17) (.tmp 66) rfl (R6) 0 #[.slice a4_ n4_ q4_, .int .u64 ((⟨[], 1, 0⟩ : Ms)).cas, .int .i64 ((⟨[], 1, 0⟩ : Ms)).fl] (by go_simp) (by go_simp) (Blk.there (HT8.out.1.get 1 rfl) rfl) (by kernel_rfl) (ones (cs := [.slice a4_ n4_ q4_, .int .u64 ((⟨[], 1, 0⟩ : Ms)).cas, .int .i64 ((⟨[], 1, 0⟩ : Ms)).fl]) rfl) ?_
            refine hK _ (B8.setCells (R6) 0 [.slice a4_ n4_ q4_, .int .u64 ((⟨[], 1, 0⟩ : Ms)).cas, .int .i64 ((⟨[], 1, 0⟩ : Ms)).fl]) (fun _ => by rw [HSd.out]; exact HL9_0.out.1.get 3 rfl) ?_
            clear hK K
            generalize (B8.setCells (R6) 0 [.slice a4_ n4_ q4_, .int .u64 ((⟨[], 1, 0⟩ : Ms)).cas, .int .i64 ((⟨[], 1, 0⟩ : Ms)).fl]) = Y9 at *
            have HL9_1 : Hid (Bxr w [(R8, 35, [.int .i64 5, .string ⟨#[]⟩, .int .u32 0, .string ⟨#[]⟩, .int .i64 0, .int .u64 0, .int .i64 0, .bool false, .bool false, .int .u64 0, .bool false, .bool false, .bool false]), (R6, 25, [.slice a4_ n4_ q4_, .int .u64 ((⟨[], 1, 0⟩ : Ms)).cas, .int .i64 ((⟨[], 1, 0⟩ : Ms)).fl]), (P2 + 1, 35, [.int .i64 2, .string k, .int .u32 fl, .string v, .int .i64 (moment T e), .int .u64 1, .int .i64 0, .bool false, .bool false, .int .u64 0, .bool false, .bool false, .bool false]), (P2, 25, [.slice a2 n2 q2, .int .u64 ((⟨[stoX k v fl e T], 1, 0⟩ : Ms)).cas, .int .i64 ((⟨[stoX k v fl e T], 1, 0⟩ : Ms)).fl]), (P1, 28, [.int .i64 2, .int .i64 0, .string k, .string v, .int .u32 fl, .int .i64 e, .bool false, .int .u64 0, .bool false, .int .u64 0, .int .u64 0, .bool false, .bool false, .int .i64 0, .int .i64 (-1), .bool false])] [(.slice a4_ n4_ q4_, ((⟨[], 1, 0⟩ : Ms)).its), (.slice a2 n2 q2, ((⟨[stoX k v fl e T], 1, 0⟩ : Ms)).its)] (Y9.setCells (R8) 0 [.int .i64 5, .string ⟨#[]⟩, .int .u32 0, .string ⟨#[]⟩, .int .i64 0, .int .u64 0, .int .i64 0, .bool false, .bool false, .int .u64 0, .bool false, .bool false, .bool false])) := hid (HL9_0.out.setc 0 (vs := [.int .i64 5, .string ⟨#[]⟩, .int .u32 0, .string ⟨#[]⟩, .int .i64 0, .int .u64 0, .int .i64 0, .bool false, .bool false, .int .u64 0, .bool false, .bool false, .bool false]) rfl rfl)
            refine wpAnyE_one (i := 13) rfl (by kernel_rfl) (fun K hK => ?_)
            refine step_store_mid rfl 35 (.tmp 18) (.tmp 67) rfl (R8) 0 #[.int .i64 5, .string ⟨#[]⟩, .int .u32 0, .string ⟨#[]⟩, .int .i64 0, .int .u64 0, .int .i64 0, .bool false, .bool false, .int .u64 0, .bool false, .bool false, .bool false] (by go_simp) (by go_simp) (Blk.there (HL9_0.out.1.get 0 rfl) rfl) (by kernel_rfl) (ones (cs := [.int .i64 5, .string ⟨#[]⟩, .int .u32 0, .string ⟨#[]⟩, .int .i64 0, .int .u64 0, .int .i64 0, .bool false, .bool false, .int .u64 0, .bool false, .bool false, .bool false]) rfl) ?_
            refine hK _ (Y9.setCells (R8) 0 [.int .i64 5, .string ⟨#[]⟩, .int .u32 0, .string ⟨#[]⟩, .int .i64 0, .int .u64 0, .int .i64 0, .bool false, .bool false, .int .u64 0, .bool false, .bool false, .bool false]) (fun h => (by cases (show true = false from h))) (wpAnyE_done (by kernel_rfl) ?_ _)
            clear hK K
            generalize (Y9.setCells (R8) 0 [.int .i64 5, .string ⟨#[]⟩, .int .u32 0, .string ⟨#[]⟩, .int .i64 0, .int .u64 0, .int .i64 0, .bool false, .bool false, .int .u64 0, .bool false, .bool false, .bool false]) = Z9 at *
            go_wp2_with fail
            go_meet
            exact ⟨R6, R8, a4_, n4_, q4_, rfl, rfl, HL9_1⟩
        · go_simp
          obtain ⟨R10, hR10⟩ : ∃ R, B4.heap.size = R := ⟨_, rfl⟩
          obtain ⟨B10, hB10⟩ : ∃ B, B4.alloc (.cells #[.int .i64 0, .string ⟨#[]⟩, .int .u32 0, .string ⟨#[]⟩, .int .i64 0, .int .u64 0, .int .i64 0, .bool false, .bool false, .int .u64 0, .bool false, .bool false, .bool false] 35) = B := ⟨_, rfl⟩
          have HT10 : Hid (Bxr w [(R10, 35, [.int .i64 0, .string ⟨#[]⟩, .int .u32 0, .string ⟨#[]⟩, .int .i64 0, .int .u64 0, .int .i64 0, .bool false, .bool false, .int .u64 0, .bool false, .bool false, .bool false]), (P2 + 1, 35, [.int .i64 2, .string k, .int .u32 fl, .string v, .int .i64 (moment T e), .int .u64 1, .int .i64 0, .bool false, .bool false, .int .u64 0, .bool false, .bool false, .bool false]), (P2, 25, [.slice a2 n2 q2, .int .u64 ((⟨[stoX k v fl e T], 1, 0⟩ : Ms)).cas, .int .i64 ((⟨[stoX k v fl e T], 1, 0⟩ : Ms)).fl]), (P1, 28, [.int .i64 2, .int .i64 0, .string k, .string v, .int .u32 fl, .int .i64 e, .bool false, .int .u64 0, .bool false, .int .u64 0, .int .u64 0, .bool false, .bool false, .int .i64 0, .int .i64 (-1), .bool false])] [(.slice a4_ n4_ q4_, ((⟨[], 1, 0⟩ : Ms)).its), (.slice a2 n2 q2, ((⟨[stoX k v fl e T], 1, 0⟩ : Ms)).its)] B10) := hid (by
            have := HT4.out.new #[.int .i64 0, .string ⟨#[]⟩, .int .u32 0, .string ⟨#[]⟩, .int .i64 0, .int .u64 0, .int .i64 0, .bool false, .bool false, .int .u64 0, .bool false, .bool false, .bool false] 35
            rw [hR10, hB10] at this; exact this)
          refine hK _ _ (fun _ => by rw [HSd.out]; first | exact HT10.out.1.get 2 rfl | (rw [hB10]; exact HT10.out.1.get 2 rfl)) ?_
          clear hK K
          try rw [hB10]
          try rw [hR10]
          clear hB10 hR10
          refine wpAnyE_one (i := 10) rfl (by kernel_rfl) (fun K hK => ?_)
          · go_simp
            obtain ⟨R12, hR12⟩ : ∃ R, B10.heap.size = R := ⟨_, rfl⟩
            obtain ⟨B12, hB12⟩ : ∃ B, B10.alloc (.cells #[.slice none 0 0, .int .u64 0, .int .i64 0] 25) = B := ⟨_, rfl⟩
            have HT12 : Hid (Bxr w [(R12, 25, [.slice none 0 0, .int .u64 0, .int .i64 0]), (R10, 35, [.int .i64 0, .string ⟨#[]⟩, .int .u32 0, .string ⟨#[]⟩, .int .i64 0, .int .u64 0, .int .i64 0, .bool false, .bool false, .int .u64 0, .bool false, .bool false, .bool false]), (P2 + 1, 35, [.int .i64 2, .string k, .int .u32 fl, .string v, .int .i64 (moment T e), .int .u64 1, .int .i64 0, .bool false, .bool false, .int .u64 0, .bool false, .bool false, .bool false]), (P2, 25, [.slice a2 n2 q2, .int .u64 ((⟨[stoX k v fl e T], 1, 0⟩ : Ms)).cas, .int .i64 ((⟨[stoX k v fl e T], 1, 0⟩ : Ms)).fl]), (P1, 28, [.int .i64 2, .int .i64 0, .string k, .string v, .int .u32 fl, .int .i64 e, .bool false, .int .u64 0, .bool false, .int .u64 0, .int .u64 0, .bool false, .bool false, .int .i64 0, .int .i64 (-1), .bool false])] [(.slice a4_ n4_ q4_, ((⟨[], 1, 0⟩ : Ms)).its), (.slice a2 n2 q2, ((⟨[stoX k v fl e T], 1, 0⟩ : Ms)).its)] B12) := hid (by
              have := HT10.out.new #[.slice none 0 0, .int .u64 0, .int .i64 0] 25
              rw [hR12, hB12] at this; exact this)
            refine hK _ _ (fun _ => by rw [HSd.out]; first | exact HT12.out.1.get 3 rfl | (rw [hB12]; exact HT12.out.1.get 3 rfl)) ?_
            clear hK K
            try rw [hB12]
            try rw [hR12]
            clear hB12 hR12
            have HL13_0 : Hid (Bxr w [(R12, 25, [.slice a4_ n4_ q4_, .int .u64 ((⟨[], 1, 0⟩ : Ms)).cas, .int .i64 ((⟨[], 1, 0⟩ : Ms)).fl]), (R10, 35, [.int .i64 0, .string ⟨#[]⟩, .int .u32 0, .string ⟨#[]⟩, .int .i64 0, .int .u64 0, .int .i64 0, .bool false, .bool false, .int .u64 0, .bool false, .bool false, .bool false]), (P2 + 1, 35, [.int .i64 2, .string k, .int .u32 fl, .string v, .int .i64 (moment T e), .int .u64 1, .int .i64 0, .bool false, .bool false, .int .u64 0, .bool false, .bool false, .bool false]), (P2, 25, [.slice a2 n2 q2, .int .u64 ((⟨[stoX k v fl e T], 1, 0⟩ : Ms)).cas, .int .i64 ((⟨[stoX k v fl e T], 1, 0⟩ : Ms)).fl]), (P1, 28, [.int .i64 2, .int .i64 0, .string k, .string v, .int .u32 fl, .int .i64 e, .bool false, .int .u64 0, .bool false, .int .u64 0, .int .u64 0, .bool false, .bool false, .int .i64 0, .int .i64 (-1), .bool false])] [(.slice a4_ n4_ q4_, ((⟨[], 1, 0⟩ : Ms)).its), (.slice a2 n2 q2, ((⟨[stoX k v fl e T], 1, 0⟩ : Ms)).its)] (B12.setCells (R12) 0 [.slice a4_ n4_ q4_, .int .u64 ((⟨[], 1, 0⟩ : Ms)).cas, .int .i64 ((⟨[], 1, 0⟩ : Ms)).fl])) := hid (HT12.out.setc 0 (vs := [.slice a4_ n4_ q4_, .int .u64 ((⟨[], 1, 0⟩ : Ms)).cas, .int .i64 ((⟨[], 1, 0⟩ : Ms)).fl]) rfl rfl)
            refine wpAnyE_one (i := 12) rfl (by kernel_rfl) (fun K hK => ?_)
            refine step_store_mid rfl 25 (.tmp 17) (.tmp 66) rfl (R12) 0 #[.slice a4_ n4_ q4_, .int .u64 ((⟨[], 1, 0⟩ : Ms)).cas, .int .i64 ((⟨[], 1, 0⟩ : Ms)).fl] (by go_simp) (by go_simp) (Blk.there (HT12.out.1.get 0 rfl) rfl) (by kernel_rfl) (ones (cs := [.slice a4_ n4_ q4_, .int .u64 ((⟨[], 1, 0⟩ : Ms)).cas, .int .i64 ((⟨[], 1, 0⟩ : Ms)).fl]) rfl) ?_
            refine hK _ (B12.setCells (R12) 0 [.slice a4_ n4_ q4_, .int .u64 ((⟨[], 1, 0⟩ : Ms)).cas, .int .i64 ((⟨[], 1, 0⟩ : Ms)).fl]) (fun _ => by rw [HSd.out]; exact HL13_0.out.1.get 3 rfl) ?_
            clear hK K
            generalize (B12.setCells (R12) 0 [.slice a4_ n4_ q4_, .int .u64 ((⟨[], 1, 0⟩ : Ms)).cas, .int .i64 ((⟨[], 1, 0⟩ : Ms)).fl]) = Y13 at *
            have HL13_1 : Hid (Bxr w [(R12, 25, [.slice a4_ n4_ q4_, .int .u64 ((⟨[], 1, 0⟩ : Ms)).cas, .int .i64 ((⟨[], 1, 0⟩ : Ms)).fl]), (R10, 35, [.int .i64 5, .string ⟨#[]⟩, .int .u32 0, .string ⟨#[]⟩, .int .i64 0, .int .u64 0, .int .i64 0, .bool false, .bool false, .int .u64 0, .bool false, .bool false, .bool false]), (P2 + 1, 35, [.int .i64 2, .string k, .int .u32 fl, .string v, .int .i64 (moment T e), .int .u64 1, .int .i64 0, .bool false, .bool false, .int .u64 0, .bool false, .bool false, .bool false]), (P2, 25, [.slice a2 n2 q2, .int .u64 ((⟨[stoX k v fl e T], 1, 0⟩ : Ms)).cas, .int .i64 ((⟨[stoX k v fl e T], 1, 0⟩ : Ms)).fl]), (P1, 28, [.int .i64 2, .int .i64 0, .string k, .string v, .int .u32 fl, .int .i64 e, .bool false, .int .u64 0, .bool false, .int .u64 0, .int .u64 0, .bool false, .bool false, .int .i64 0, .int .i64 (-1), .bool false])] [(.slice a4_ n4_ q4_, ((⟨[], 1, 0⟩ : Ms)).its), (.slice a2 n2 q2, ((⟨[stoX k v fl e T], 1, 0⟩ : Ms)).its)] (Y13.setCells (R10) 0 [.int .i64 5, .string ⟨#[]⟩, .int .u32 0, .string ⟨#[]⟩, .int .i64 0, .int .u64 0, .int .i64 0, .bool false, .bool false, .int .u64 0, .bool false, .bool false, .bool false])) := hid (HL13_0.out.setc 1 (vs := [.int .i64 5, .string ⟨#[]⟩, .int .u32 0, .string ⟨#[]⟩, .int .i64 0, .int .u64 0, .int .i64 0, .bool false, .bool false, .int .u64 0, .bool false, .bool false, .bool false]) rfl rfl)
            refine wpAnyE_one (i := 13) rfl (by kernel_rfl) (fun K hK => ?_)
            refine step_store_mid rfl 35 (.tmp 18) (.tmp 67) rfl (R10) 0 #[.int .i64 5, .string ⟨#[]⟩, .int .u32 0, .string ⟨#[]⟩, .int .i64 0, .int .u64 0, .int .i64 0, .bool false, .bool false, .int .u64 0, .bool false, .bool false, .bool false] (by go_simp) (by go_simp) (Blk.there (HL13_0.out.1.get 1 rfl) rfl) (by kernel_rfl) (ones (cs := [.int .i64 5, .string ⟨#[]⟩, .int .u32 0, .string ⟨#[]⟩, .int .i64 0, .int .u64 0, .int .i64 0, .bool false, .bool false, .int .u64 0, .bool false, .bool false, .bool false]) rfl) ?_
            refine hK _ (Y13.setCells (R10) 0 [.int .i64 5, .string ⟨#[]⟩, .int .u32 0, .string ⟨#[]⟩, .int .i64 0, .int .u64 0, .int .i64 0, .bool false, .bool false, .int .u64 0, .bool false, .bool false, .bool false]) (fun h => (by cases (show true = false from h))) (wpAnyE_done (by kernel_rfl) ?_ _)
            clear hK K
            generalize (Y13.setCells (R10) 0 [.int .i64 5, .string ⟨#[]⟩, .int .u32 0, .string ⟨#[]⟩, .int .i64 0, .int .u64 0, .int .i64 0, .bool false, .bool false, .int .u64 0, .bool false, .bool false, .bool false]) = Z13 at *
            go_wp2_with fail
            go_meet
            exact ⟨R12, R10, a4_, n4_, q4_, rfl, rfl, hid (Bxr.swap HL13_1.out)⟩
      · go_simp
        obtain ⟨R14, hR14⟩ : ∃ R, B2.heap.size = R := ⟨_, rfl⟩
        obtain ⟨B14, hB14⟩ : ∃ B, B2.alloc (.cells #[.slice none 0 0, .int .u64 0, .int .i64 0] 25) = B := ⟨_, rfl⟩
        have HT14 : Hid (Bxr w [(R14, 25, [.slice none 0 0, .int .u64 0, .int .i64 0]), (P2 + 1, 35, [.int .i64 2, .string k, .int .u32 fl, .string v, .int .i64 (moment T e), .int .u64 1, .int .i64 0, .bool false, .bool false, .int .u64 0, .bool false, .bool false, .bool false]), (P2, 25, [.slice a2 n2 q2, .int .u64 ((⟨[stoX k v fl e T], 1, 0⟩ : Ms)).cas, .int .i64 ((⟨[stoX k v fl e T], 1, 0⟩ : Ms)).fl]), (P1, 28, [.int .i64 2, .int .i64 0, .string k, .string v, .int .u32 fl, .int .i64 e, .bool false, .int .u64 0, .bool false, .int .u64 0, .int .u64 0, .bool false, .bool false, .int .i64 0, .int .i64 (-1), .bool false])] [(.slice a2 n2 q2, ((⟨[stoX k v fl e T], 1, 0⟩ : Ms)).its)] B14) := hid (by
          have := HT2.out.new #[.slice none 0 0, .int .u64 0, .int .i64 0] 25
          rw [hR14, hB14] at this; exact this)
        refine hK _ _ (fun _ => by rw [HSd.out]; first | exact HT14.out.1.get 2 rfl | (rw [hB14]; exact HT14.out.1.get 2 rfl)) ?_
        clear hK K
        try rw [hB14]
        try rw [hR14]
        clear hB14 hR14
        refine wpAnyE_two (i := 6) (j := 11) rfl rfl (by kernel_rfl) (fun K hK => ?_) (fun K hK => ?_)
        · go_simp
          refine (apply_bx (now := T2) (c := cGet k) (most := 65536) HT14.out (HT14.out.its 0 rfl) hfit (by decide) (by decide) hgok HV.out hr2 (cs := #[.int .i64 5, .string ⟨#[]⟩, .int .u32 0, .string ⟨#[]⟩, .int .i64 0, .int .u64 0, .int .i64 0, .bool false, .bool false, .int .u64 0, .bool false, .bool false, .bool false]) rfl).mono ?_
          rintro e B16 ⟨a16_, n16_, q16_, rfl, hb16⟩
          have HT16 : Hid (Bxr w [(R14, 25, [.slice none 0 0, .int .u64 0, .int .i64 0]), (P2 + 1, 35, [.int .i64 2, .string k, .int .u32 fl, .string v, .int .i64 (moment T e), .int .u64 1, .int .i64 0, .bool false, .bool false, .int .u64 0, .bool false, .bool false, .bool false]), (P2, 25, [.slice a2 n2 q2, .int .u64 ((⟨[stoX k v fl e T], 1, 0⟩ : Ms)).cas, .int .i64 ((⟨[stoX k v fl e T], 1, 0⟩ : Ms)).fl]), (P1, 28, [.int .i64 2, .int .i64 0, .string k, .string v, .int .u32 fl, .int .i64 e, .bool false, .int .u64 0, .bool false, .int .u64 0, .int .u64 0, .bool false, .bool false, .int .i64 0, .int .i64 (-1), .bool false])] [(.slice a16_ n16_ q16_, ((⟨[], 1, 0⟩ : Ms)).its), (.slice a2 n2 q2, ((⟨[stoX k v fl e T], 1, 0⟩ : Ms)).its)] B16) := hid hb16
          refine hK _ _ (fun _ => by rw [HSd.out]; exact HT16.out.1.get 2 rfl) ?_
          clear hK K hb16
          have hS : S B16 := by rw [HSd.out]; exact HT16.out.1.get 2 rfl
          refine wpAnyE_take (i := 7) (v := .tuple #[.agg #[.slice a16_ n16_ q16_, .int .u64 ((⟨[], 1, 0⟩ : Ms)).cas, .int .i64 ((⟨[], 1, 0⟩ : Ms)).fl], .agg #[.int .i64 5, .string ⟨#[]⟩, .int .u32 0, .string ⟨#[]⟩, .int .i64 0, .int .u64 0, .int .i64 0, .bool false, .bool false, .int .u64 0, .bool false, .bool false, .bool false]]) rfl (by kernel_rfl) (by kernel_rfl) (by kernel_rfl) (fun _ _ _ h => h) (by kernel_rfl) (by kernel_rfl) hS (Or.inl ⟨by rfl, ?_⟩) ?_
          · intro w' hw'
            go_simp
          refine wpAnyE_take (i := 8) (v := .agg #[.slice a16_ n16_ q16_, .int .u64 ((⟨[], 1, 0⟩ : Ms)).cas, .int .i64 ((⟨[], 1, 0⟩ : Ms)).fl]) rfl (by kernel_rfl) (by kernel_rfl) (by kernel_rfl) (fun _ _ _ h => h) (by kernel_rfl) (by kernel_rfl) hS (Or.inl ⟨by rfl, ?_⟩) ?_
          · intro w' hw'
            go_simp
          refine wpAnyE_take (i := 9) (v := .agg #[.int .i64 5, .string ⟨#[]⟩, .int .u32 0, .string ⟨#[]⟩, .int .i64 0, .int .u64 0, .int .i64 0, .bool false, .bool false, .int .u64 0, .bool false, .bool false, .bool false]) rfl (by kernel_rfl) (by kernel_rfl) (by kernel_rfl) (fun _ _ _ h => h) (by kernel_rfl) (by kernel_rfl) hS (Or.inl ⟨by rfl, ?_⟩) ?_
          · intro w' hw'
            go_simp
          clear hS
          refine wpAnyE_one (i := 11) rfl (by kernel_rfl) (fun K hK => ?_)
          · go_simp
            obtain ⟨R18, hR18⟩ : ∃ R, B16.heap.size = R := ⟨_, rfl⟩
            obtain ⟨B18, hB18⟩ : ∃ B, B16.alloc (.cells #[.int .i64 0, .string ⟨#[]⟩, .int .u32 0, .string ⟨#[]⟩, .int .i64 0, .int .u64 0, .int .i64 0, .bool false, .bool false, .int .u64 0, .bool false, .bool false, .bool false] 35) = B := ⟨_, rfl⟩
            have HT18 : Hid (Bxr w [(R18, 35, [.int .i64 0, .string ⟨#[]⟩, .int .u32 0, .string ⟨#[]⟩, .int .i64 0, .int .u64 0, .int .i64 0, .bool false, .bool false, .int .u64 0, .bool false, .bool false, .bool false]), (R14, 25, [.slice none 0 0, .int .u64 0, .int .i64 0]), (P2 + 1, 35, [.int .i64 2, .string k, .int .u32 fl, .string v, .int .i64 (moment T e), .int .u64 1, .int .i64 0, .bool false, .bool false, .int .u64 0, .bool false, .bool false, .bool false]), (P2, 25, [.slice a2 n2 q2, .int .u64 ((⟨[stoX k v fl e T], 1, 0⟩ : Ms)).cas, .int .i64 ((⟨[stoX k v fl e T], 1, 0⟩ : Ms)).fl]), (P1, 28, [.int .i64 2, .int .i64 0, .string k, .string v, .int .u32 fl, .int .i64 e, .bool false, .int .u64 0, .bool false, .int .u64 0, .int .u64 0, .bool false, .bool false, .int .i64 0, .int .i64 (-1), .bool false])] [(.slice a16_ n16_ q16_, ((⟨[], 1, 0⟩ : Ms)).its), (.slice a2 n2 q2, ((⟨[stoX k v fl e T], 1, 0⟩ : Ms)).its)] B18) := hid (by
              have := HT16.out.new #[.int .i64 0, .string ⟨#[]⟩, .int .u32 0, .string ⟨#[]⟩, .int .i64 0, .int .u64 0, .int .i64 0, .bool false, .bool false, .int .u64 0, .bool false, .bool false, .bool false] 35
              rw [hR18, hB18] at this; exact this)
            refine hK _ _ (fun _ => by rw [HSd.out]; first | exact HT18.out.1.get 3 rfl | (rw [hB18]; exact HT18.out.1.get 3 rfl)) ?_
            clear hK K
            try rw [hB18]
            try rw [hR18]
            clear hB18 hR18
            have HL19_0 : Hid (Bxr w [(R18, 35, [.int .i64 0, .string ⟨#[]⟩, .int .u32 0, .string ⟨#[]⟩, .int .i64 0, .int .u64 0, .int .i64 0, .bool false, .bool false, .int .u64 0, .bool false, .bool false, .bool false]), (R14, 25, [.slice a16_ n16_ q16_, .int .u64 ((⟨[], 1, 0⟩ : Ms)).cas, .int .i64 ((⟨[], 1, 0⟩ : Ms)).fl]), (P2 + 1, 35, [.int .i64 2, .string k, .int .u32 fl, .string v, .int .i64 (moment T e), .int .u64 1, .int .i64 0, .bool false, .bool false, .int .u64 0, .bool false, .bool false, .bool false]), (P2, 25, [.slice a2 n2 q2, .int .u64 ((⟨[stoX k v fl e T], 1, 0⟩ : Ms)).cas, .int .i64 ((⟨[stoX k v fl e T], 1, 0⟩ : Ms)).fl]), (P1, 28, [.int .i64 2, .int .i64 0, .string k, .string v, .int .u32 fl, .int .i64 e, .bool false, .int .u64 0, .bool false, .int .u64 0, .int .u64 0, .bool false, .bool false, .int .i64 0, .int .i64 (-1), .bool false])] [(.slice a16_ n16_ q16_, ((⟨[], 1, 0⟩ : Ms)).its), (.slice a2 n2 q2, ((⟨[stoX k v fl e T], 1, 0⟩ : Ms)).its)] (B18.setCells (R14) 0 [.slice a16_ n16_ q16_, .int .u64 ((⟨[], 1, 0⟩ : Ms)).cas, .int .i64 ((⟨[], 1, 0⟩ : Ms)).fl])) := hid (HT18.out.setc 1 (vs := [.slice a16_ n16_ q16_, .int .u64 ((⟨[], 1, 0⟩ : Ms)).cas, .int .i64 ((⟨[], 1, 0⟩ : Ms)).fl]) rfl rfl)
            refine wpAnyE_one (i := 12) rfl (by kernel_rfl) (fun K hK => ?_)
            refine step_store_mid rfl 25 (.tmp 17) (.tmp 66) rfl (R14) 0 #[.slice a16_ n16_ q16_, .int .u64 ((⟨[], 1, 0⟩ : Ms)).cas, .int .i64 ((⟨[], 1, 0⟩ : Ms)).fl] (by go_simp) (by go_simp) (Blk.there (HT18.out.1.get 1 rfl) rfl) (by kernel_rfl) (ones (cs := [.slice a16_ n16_ q16_, .int .u64 ((⟨[], 1, 0⟩ : Ms)).cas, .int .i64 ((⟨[], 1, 0⟩ : Ms)).fl]) rfl) ?_
            refine hK _ (B18.setCells (R14) 0 [.slice a16_ n16_ q16_, .int .u64 ((⟨[], 1, 0⟩ : Ms)).cas, .int .i64 ((⟨[], 1, 0⟩ : Ms)).fl]) (fun _ => by rw [HSd.out]; exact HL19_0.out.1.get 3 rfl) ?_
            clear hK K
            generalize (B18.setCells (R14) 0 [.slice a16_ n16_ q16_, .int .u64 ((⟨[], 1, 0⟩ : Ms)).cas, .int .i64 ((⟨[], 1, 0⟩ : Ms)).fl]) = Y19 at *
            have HL19_1 : Hid (Bxr w [(R18, 35, [.int .i64 5, .string ⟨#[]⟩, .int .u32 0, .string ⟨#[]⟩, .int .i64 0, .int .u64 0, .int .i64 0, .bool false, .bool false, .int .u64 0, .bool false, .bool false, .bool false]), (R14, 25, [.slice a16_ n16_ q16_, .int .u64 ((⟨[], 1, 0⟩ : Ms)).cas, .int .i64 ((⟨[], 1, 0⟩ : Ms)).fl]), (P2 + 1, 35, [.int .i64 2, .string k, .int .u32 fl, .string v, .int .i64 (moment T e), .int .u64 1, .int .i64 0, .bool false, .bool false, .int .u64 0, .bool false, .bool false, .bool false]), (P2, 25, [.slice a2 n2 q2, .int .u64 ((⟨[stoX k v fl e T], 1, 0⟩ : Ms)).cas, .int .i64 ((⟨[stoX k v fl e T], 1, 0⟩ : Ms)).fl]), (P1, 28, [.int .i64 2, .int .i64 0, .string k, .string v, .int .u32 fl, .int .i64 e, .bool false, .int .u64 0, .bool false, .int .u64 0, .int .u64 0, .bool false, .bool false, .int .i64 0, .int .i64 (-1), .bool false])] [(.slice a16_ n16_ q16_, ((⟨[], 1, 0⟩ : Ms)).its), (.slice a2 n2 q2, ((⟨[stoX k v fl e T], 1, 0⟩ : Ms)).its)] (Y19.setCells (R18) 0 [.int .i64 5, .string ⟨#[]⟩, .int .u32 0, .string ⟨#[]⟩, .int .i64 0, .int .u64 0, .int .i64 0, .bool false, .bool false, .int .u64 0, .bool false, .bool false, .bool false])) := hid (HL19_0.out.setc 0 (vs := [.int .i64 5, .string ⟨#[]⟩, .int .u32 0, .string ⟨#[]⟩, .int .i64 0, .int .u64 0, .int .i64 0, .bool false, .bool false, .int .u64 0, .bool false, .bool false, .bool false]) rfl rfl)
            refine wpAnyE_one (i := 13) rfl (by kernel_rfl) (fun K hK => ?_)
            refine step_store_mid rfl 35 (.tmp 18) (.tmp 67) rfl (R18) 0 #[.int .i64 5, .string ⟨#[]⟩, .int .u32 0, .string ⟨#[]⟩, .int .i64 0, .int .u64 0, .int .i64 0, .bool false, .bool false, .int .u64 0, .bool false, .bool false, .bool false] (by go_simp) (by go_simp) (Blk.there (HL19_0.out.1.get 0 rfl) rfl) (by kernel_rfl) (ones (cs := [.int .i64 5, .string ⟨#[]⟩, .int .u32 0, .string ⟨#[]⟩, .int .i64 0, .int .u64 0, .int .i64 0, .bool false, .bool false, .int .u64 0, .bool false, .bool false, .bool false]) rfl) ?_
            refine hK _ (Y19.setCells (R18) 0 [.int .i64 5, .string ⟨#[]⟩, .int .u32 0, .string ⟨#[]⟩, .int .i64 0, .int .u64 0, .int .i64 0, .bool false, .bool false, .int .u64 0, .bool false, .bool false, .bool false]) (fun h => (by cases (show true = false from h))) (wpAnyE_done (by kernel_rfl) ?_ _)
            clear hK K
            generalize (Y19.setCells (R18) 0 [.int .i64 5, .string ⟨#[]⟩, .int .u32 0, .string ⟨#[]⟩, .int .i64 0, .int .u64 0, .int .i64 0, .bool false, .bool false, .int .u64 0, .bool false, .bool false, .bool false]) = Z19 at *
            go_wp2_with fail
            go_meet
            exact ⟨R14, R18, a16_, n16_, q16_, rfl, rfl, HL19_1⟩
        · go_simp
          obtain ⟨R20, hR20⟩ : ∃ R, B14.heap.size = R := ⟨_, rfl⟩
          obtain ⟨B20, hB20⟩ : ∃ B, B14.alloc (.cells #[.int .i64 0, .string ⟨#[]⟩, .int .u32 0, .string ⟨#[]⟩, .int .i64 0, .int .u64 0, .int .i64 0, .bool false, .bool false, .int .u64 0, .bool false, .bool false, .bool false] 35) = B := ⟨_, rfl⟩
          have HT20 : Hid (Bxr w [(R20, 35, [.int .i64 0, .string ⟨#[]⟩, .int .u32 0, .string ⟨#[]⟩, .int .i64 0, .int .u64 0, .int .i64 0, .bool false, .bool false, .int .u64 0, .bool false, .bool false, .bool false]), (R14, 25, [.slice none 0 0, .int .u64 0, .int .i64 0]), (P2 + 1, 35, [.int .i64 2, .string k, .int .u32 fl, .string v, .int .i64 (moment T e), .int .u64 1, .int .i64 0, .bool false, .bool false, .int .u64 0, .bool false, .bool false, .bool false]), (P2, 25, [.slice a2 n2 q2, .int .u64 ((⟨[stoX k v fl e T], 1, 0⟩ : Ms)).cas, .int .i64 ((⟨[stoX k v fl e T], 1, 0⟩ : Ms)).fl]), (P1, 28, [.int .i64 2, .int .i64 0, .string k, .string v, .int .u32 fl, .int .i64 e, .bool false, .int .u64 0, .bool false, .int .u64 0, .int .u64 0, .bool false, .bool false, .int .i64 0, .int .i64 (-1), .bool false])] [(.slice a2 n2 q2, ((⟨[stoX k v fl e T], 1, 0⟩ : Ms)).its)] B20) := hid (by
            have := HT14.out.new #[.int .i64 0, .string ⟨#[]⟩, .int .u32 0, .string ⟨#[]⟩, .int .i64 0, .int .u64 0, .int .i64 0, .bool false, .bool false, .int .u64 0, .bool false, .bool false, .bool false] 35
            rw [hR20, hB20] at this; exact this)
          refine hK _ _ (fun _ => by rw [HSd.out]; first | exact HT20.out.1.get 3 rfl | (rw [hB20]; exact HT20.out.1.get 3 rfl)) ?_
          clear hK K
          try rw [hB20]
          try rw [hR20]
          clear hB20 hR20
          refine wpAnyE_one (i := 6) rfl (by kernel_rfl) (fun K hK => ?_)
          · go_simp
            refine (apply_bx (now := T2) (c := cGet k) (most := 65536) HT20.out (HT20.out.its 0 rfl) hfit (by decide) (by decide) hgok HV.out hr2 (cs := #[.int .i64 5, .string ⟨#[]⟩, .int .u32 0, .string ⟨#[]⟩, .int .i64 0, .int .u64 0, .int .i64 0, .bool false, .bool false, .int .u64 0, .bool false, .bool false, .bool false]) rfl).mono ?_
            rintro e B22 ⟨a22_, n22_, q22_, rfl, hb22⟩
            have HT22 : Hid (Bxr w [(R20, 35, [.int .i64 0, .string ⟨#[]⟩, .int .u32 0, .string ⟨#[]⟩, .int .i64 0, .int .u64 0, .int .i64 0, .bool false, .bool false, .int .u64 0, .bool false, .bool false, .bool false]), (R14, 25, [.slice none 0 0, .int .u64 0, .int .i64 0]), (P2 + 1, 35, [.int .i64 2, .string k, .int .u32 fl, .string v, .int .i64 (moment T e), .int .u64 1, .int .i64 0, .bool false, .bool false, .int .u64 0, .bool false, .bool false, .bool false]), (P2, 25, [.slice a2 n2 q2, .int .u64 ((⟨[stoX k v fl e T], 1, 0⟩ : Ms)).cas, .int .i64 ((⟨[stoX k v fl e T], 1, 0⟩ : Ms)).fl]), (P1, 28, [.int .i64 2, .int .i64 0, .string k, .string v, .int .u32 fl, .int .i64 e, .bool false, .int .u64 0, .bool false, .int .u64 0, .int .u64 0, .bool false, .bool false, .int .i64 0, .int .i64 (-1), .bool false])] [(.slice a22_ n22_ q22_, ((⟨[], 1, 0⟩ : Ms)).its), (.slice a2 n2 q2, ((⟨[stoX k v fl e T], 1, 0⟩ : Ms)).its)] B22) := hid hb22
            refine hK _ _ (fun _ => by rw [HSd.out]; exact HT22.out.1.get 3 rfl) ?_
            clear hK K hb22
            have hS : S B22 := by rw [HSd.out]; exact HT22.out.1.get 3 rfl
            refine wpAnyE_take (i := 7) (v := .tuple #[.agg #[.slice a22_ n22_ q22_, .int .u64 ((⟨[], 1, 0⟩ : Ms)).cas, .int .i64 ((⟨[], 1, 0⟩ : Ms)).fl], .agg #[.int .i64 5, .string ⟨#[]⟩, .int .u32 0, .string ⟨#[]⟩, .int .i64 0, .int .u64 0, .int .i64 0, .bool false, .bool false, .int .u64 0, .bool false, .bool false, .bool false]]) rfl (by kernel_rfl) (by kernel_rfl) (by kernel_rfl) (fun _ _ _ h => h) (by kernel_rfl) (by kernel_rfl) hS (Or.inl ⟨by rfl, ?_⟩) ?_
            · intro w' hw'
              go_simp
            refine wpAnyE_take (i := 8) (v := .agg #[.slice a22_ n22_ q22_, .int .u64 ((⟨[], 1, 0⟩ : Ms)).cas, .int .i64 ((⟨[], 1, 0⟩ : Ms)).fl]) rfl (by kernel_rfl) (by kernel_rfl) (by kernel_rfl) (fun _ _ _ h => h) (by kernel_rfl) (by kernel_rfl) hS (Or.inl ⟨by rfl, ?_⟩) ?_
            · intro w' hw'
              go_simp
            refine wpAnyE_take (i := 9) (v := .agg #[.int .i64 5, .string ⟨#[]⟩, .int .u32 0, .string ⟨#[]⟩, .int .i64 0, .int .u64 0, .int .i64 0, .bool false, .bool false, .int .u64 0, .bool false, .bool false, .bool false]) rfl (by kernel_rfl) (by kernel_rfl) (by kernel_rfl) (fun _ _ _ h => h) (by kernel_rfl) (by kernel_rfl) hS (Or.inl ⟨by rfl, ?_⟩) ?_
            · intro w' hw'
              go_simp
            clear hS
            have HL23_0 : Hid (Bxr w [(R20, 35, [.int .i64 0, .string ⟨#[]⟩, .int .u32 0, .string ⟨#[]⟩, .int .i64 0, .int .u64 0, .int .i64 0, .bool false, .bool false, .int .u64 0, .bool false, .bool false, .bool false]), (R14, 25, [.slice a22_ n22_ q22_, .int .u64 ((⟨[], 1, 0⟩ : Ms)).cas, .int .i64 ((⟨[], 1, 0⟩ : Ms)).fl]), (P2 + 1, 35, [.int .i64 2, .string k, .int .u32 fl, .string v, .int .i64 (moment T e), .int .u64 1, .int .i64 0, .bool false, .bool false, .int .u64 0, .bool false, .bool false, .bool false]), (P2, 25, [.slice a2 n2 q2, .int .u64 ((⟨[stoX k v fl e T], 1, 0⟩ : Ms)).cas, .int .i64 ((⟨[stoX k v fl e T], 1, 0⟩ : Ms)).fl]), (P1, 28, [.int .i64 2, .int .i64 0, .string k, .string v, .int .u32 fl, .int .i64 e, .bool false, .int .u64 0, .bool false, .int .u64 0, .int .u64 0, .bool false, .bool false, .int .i64 0, .int .i64 (-1), .bool false])] [(.slice a22_ n22_ q22_, ((⟨[], 1, 0⟩ : Ms)).its), (.slice a2 n2 q2, ((⟨[stoX k v fl e T], 1, 0⟩ : Ms)).its)] (B22.setCells (R14) 0 [.slice a22_ n22_ q22_, .int .u64 ((⟨[], 1, 0⟩ : Ms)).cas, .int .i64 ((⟨[], 1, 0⟩ : Ms)).fl])) := hid (HT22.out.setc 1 (vs := [.slice a22_ n22_ q22_, .int .u64 ((⟨[], 1, 0⟩ : Ms)).cas, .int .i64 ((⟨[], 1, 0⟩ : Ms)).fl]) rfl rfl)
            refine wpAnyE_one (i := 12) rfl (by kernel_rfl) (fun K hK => ?_)
            refine step_store_mid rfl 25 (.tmp 17) (.tmp 66) rfl (R14) 0 #[.slice a22_ n22_ q22_, .int .u64 ((⟨[], 1, 0⟩ : Ms)).cas, .int .i64 ((⟨[], 1, 0⟩ : Ms)).fl] (by go_simp) (by go_simp) (Blk.there (HT22.out.1.get 1 rfl) rfl) (by kernel_rfl) (ones (cs := [.slice a22_ n22_ q22_, .int .u64 ((⟨[], 1, 0⟩ : Ms)).cas, .int .i64 ((⟨[], 1, 0⟩ : Ms)).fl]) rfl) ?_
            refine hK _ (B22.setCells (R14) 0 [.slice a22_ n22_ q22_, .int .u64 ((⟨[], 1, 0⟩ : Ms)).cas, .int .i64 ((⟨[], 1, 0⟩ : Ms)).fl]) (fun _ => by rw [HSd.out]; exact HL23_0.out.1.get 3 rfl) ?_
            clear hK K
            generalize (B22.setCells (R14) 0 [.slice a22_ n22_ q22_, .int .u64 ((⟨[], 1, 0⟩ : Ms)).cas, .int .i64 ((⟨[], 1, 0⟩ : Ms)).fl]) = Y23 at *
            have HL23_1 : Hid (Bxr w [(R20, 35, [.int .i64 5, .string ⟨#[]⟩, .int .u32 0, .string ⟨#[]⟩, .int .i64 0, .int .u64 0, .int .i64 0, .bool false, .bool false, .int .u64 0, .bool false, .bool false, .bool false]), (R14, 25, [.slice a22_ n22_ q22_, .int .u64 ((⟨[], 1, 0⟩ : Ms)).cas, .int .i64 ((⟨[], 1, 0⟩ : Ms)).fl]), (P2 + 1, 35, [.int .i64 2, .string k, .int .u32 fl, .string v, .int .i64 (moment T e), .int .u64 1, .int .i64 0, .bool false, .bool false, .int .u64 0, .bool false, .bool false, .bool false]), (P2, 25, [.slice a2 n2 q2, .int .u64 ((⟨[stoX k v fl e T], 1, 0⟩ : Ms)).cas, .int .i64 ((⟨[stoX k v fl e T], 1, 0⟩ : Ms)).fl]), (P1, 28, [.int .i64 2, .int .i64 0, .string k, .string v, .int .u32 fl, .int .i64 e, .bool false, .int .u64 0, .bool false, .int .u64 0, .int .u64 0, .bool false, .bool false, .int .i64 0, .int .i64 (-1), .bool false])] [(.slice a22_ n22_ q22_, ((⟨[], 1, 0⟩ : Ms)).its), (.slice a2 n2 q2, ((⟨[stoX k v fl e T], 1, 0⟩ : Ms)).its)] (Y23.setCells (R20) 0 [.int .i64 5, .string ⟨#[]⟩, .int .u32 0, .string ⟨#[]⟩, .int .i64 0, .int .u64 0, .int .i64 0, .bool false, .bool false, .int .u64 0, .bool false, .bool false, .bool false])) := hid (HL23_0.out.setc 0 (vs := [.int .i64 5, .string ⟨#[]⟩, .int .u32 0, .string ⟨#[]⟩, .int .i64 0, .int .u64 0, .int .i64 0, .bool false, .bool false, .int .u64 0, .bool false, .bool false, .bool false]) rfl rfl)
            refine wpAnyE_one (i := 13) rfl (by kernel_rfl) (fun K hK => ?_)
            refine step_store_mid rfl 35 (.tmp 18) (.tmp 67) rfl (R20) 0 #[.int .i64 5, .string ⟨#[]⟩, .int .u32 0, .string ⟨#[]⟩, .int .i64 0, .int .u64 0, .int .i64 0, .bool false, .bool false, .int .u64 0, .bool false, .bool false, .bool false] (by go_simp) (by go_simp) (Blk.there (HL23_0.out.1.get 0 rfl) rfl) (by kernel_rfl) (ones (cs := [.int .i64 5, .string ⟨#[]⟩, .int .u32 0, .string ⟨#[]⟩, .int .i64 0, .int .u64 0, .int .i64 0, .bool false, .bool false, .int .u64 0, .bool false, .bool false, .bool false]) rfl) ?_
            refine hK _ (Y23.setCells (R20) 0 [.int .i64 5, .string ⟨#[]⟩, .int .u32 0, .string ⟨#[]⟩, .int .i64 0, .int .u64 0, .int .i64 0, .bool false, .bool false, .int .u64 0, .bool false, .bool false, .bool false]) (fun h => (by cases (show true = false from h))) (wpAnyE_done (by kernel_rfl) ?_ _)
            clear hK K
            generalize (Y23.setCells (R20) 0 [.int .i64 5, .string ⟨#[]⟩, .int .u32 0, .string ⟨#[]⟩, .int .i64 0, .int .u64 0, .int .i64 0, .bool false, .bool false, .int .u64 0, .bool false, .bool false, .bool false]) = Z23 at *
            go_wp2_with fail
            go_meet
            exact ⟨R14, R20, a22_, n22_, q22_, rfl, rfl, HL23_1⟩
      · go_simp
        obtain ⟨R24, hR24⟩ : ∃ R, B2.heap.size = R := ⟨_, rfl⟩
        obtain ⟨B24, hB24⟩ : ∃ B, B2.alloc (.cells #[.int .i64 0, .string ⟨#[]⟩, .int .u32 0, .string ⟨#[]⟩, .int .i64 0, .int .u64 0, .int .i64 0, .bool false, .bool false, .int .u64 0, .bool false, .bool false, .bool false] 35) = B := ⟨_, rfl⟩
        have HT24 : Hid (Bxr w [(R24, 35, [.int .i64 0, .string ⟨#[]⟩, .int .u32 0, .string ⟨#[]⟩, .int .i64 0, .int .u64 0, .int .i64 0, .bool false, .bool false, .int .u64 0, .bool false, .bool false, .bool false]), (P2 + 1, 35, [.int .i64 2, .string k, .int .u32 fl, .string v, .int .i64 (moment T e), .int .u64 1, .int .i64 0, .bool false, .bool false, .int .u64 0, .bool false, .bool false, .bool false]), (P2, 25, [.slice a2 n2 q2, .int .u64 ((⟨[stoX k v fl e T], 1, 0⟩ : Ms)).cas, .int .i64 ((⟨[stoX k v fl e T], 1, 0⟩ : Ms)).fl]), (P1, 28, [.int .i64 2, .int .i64 0, .string k, .string v, .int .u32 fl, .int .i64 e, .bool false, .int .u64 0, .bool false, .int .u64 0, .int .u64 0, .bool false, .bool false, .int .i64 0, .int .i64 (-1), .bool false])] [(.slice a2 n2 q2, ((⟨[stoX k v fl e T], 1, 0⟩ : Ms)).its)] B24) := hid (by
          have := HT2.out.new #[.int .i64 0, .string ⟨#[]⟩, .int .u32 0, .string ⟨#[]⟩, .int .i64 0, .int .u64 0, .int .i64 0, .bool false, .bool false, .int .u64 0, .bool false, .bool false, .bool false] 35
          rw [hR24, hB24] at this; exact this)
        refine hK _ _ (fun _ => by rw [HSd.out]; first | exact HT24.out.1.get 2 rfl | (rw [hB24]; exact HT24.out.1.get 2 rfl)) ?_
        clear hK K
        try rw [hB24]
        try rw [hR24]
        clear hB24 hR24
        refine wpAnyE_two (i := 6) (j := 10) rfl rfl (by kernel_rfl) (fun K hK => ?_) (fun K hK => ?_)
        · go_simp
          refine (apply_bx (now := T2) (c := cGet k) (most := 65536) HT24.out (HT24.out.its 0 rfl) hfit (by decide) (by decide) hgok HV.out hr2 (cs := #[.int .i64 5, .string ⟨#[]⟩, .int .u32 0, .string ⟨#[]⟩, .int .i64 0, .int .u64 0, .int .i64 0, .bool false, .bool false, .int .u64 0, .bool false, .bool false, .bool false]) rfl).mono ?_
          rintro e B26 ⟨a26_, n26_, q26_, rfl, hb26⟩
          have HT26 : Hid (Bxr w [(R24, 35, [.int .i64 0, .string ⟨#[]⟩, .int .u32 0, .string ⟨#[]⟩, .int .i64 0, .int .u64 0, .int .i64 0, .bool false, .bool false, .int .u64 0, .bool false, .bool false, .bool false]), (P2 + 1, 35, [.int .i64 2, .string k, .int .u32 fl, .string v, .int .i64 (moment T e), .int .u64 1, .int .i64 0, .bool false, .bool false, .int .u64 0, .bool false, .bool false, .bool false]), (P2, 25, [.slice a2 n2 q2, .int .u64 ((⟨[stoX k v fl e T], 1, 0⟩ : Ms)).cas, .int .i64 ((⟨[stoX k v fl e T], 1, 0⟩ : Ms)).fl]), (P1, 28, [.int .i64 2, .int .i64 0, .string k, .string v, .int .u32 fl, .int .i64 e, .bool false, .int .u64 0, .bool false, .int .u64 0, .int .u64 0, .bool false, .bool false, .int .i64 0, .int .i64 (-1), .bool false])] [(.slice a26_ n26_ q26_, ((⟨[], 1, 0⟩ : Ms)).its), (.slice a2 n2 q2, ((⟨[stoX k v fl e T], 1, 0⟩ : Ms)).its)] B26) := hid hb26
          refine hK _ _ (fun _ => by rw [HSd.out]; exact HT26.out.1.get 2 rfl) ?_
          clear hK K hb26
          have hS : S B26 := by rw [HSd.out]; exact HT26.out.1.get 2 rfl
          refine wpAnyE_take (i := 7) (v := .tuple #[.agg #[.slice a26_ n26_ q26_, .int .u64 ((⟨[], 1, 0⟩ : Ms)).cas, .int .i64 ((⟨[], 1, 0⟩ : Ms)).fl], .agg #[.int .i64 5, .string ⟨#[]⟩, .int .u32 0, .string ⟨#[]⟩, .int .i64 0, .int .u64 0, .int .i64 0, .bool false, .bool false, .int .u64 0, .bool false, .bool false, .bool false]]) rfl (by kernel_rfl) (by kernel_rfl) (by kernel_rfl) (fun _ _ _ h => h) (by kernel_rfl) (by kernel_rfl) hS (Or.inl ⟨by rfl, ?_⟩) ?_
          · intro w' hw'
            go_simp
          refine wpAnyE_take (i := 8) (v := .agg #[.slice a26_ n26_ q26_, .int .u64 ((⟨[], 1, 0⟩ : Ms)).cas, .int .i64 ((⟨[], 1, 0⟩ : Ms)).fl]) rfl (by kernel_rfl) (by kernel_rfl) (by kernel_rfl) (fun _ _ _ h => h) (by kernel_rfl) (by kernel_rfl) hS (Or.inl ⟨by rfl, ?_⟩) ?_
          · intro w' hw'
            go_simp
          refine wpAnyE_take (i := 9) (v := .agg #[.int .i64 5, .string ⟨#[]⟩, .int .u32 0, .string ⟨#[]⟩, .int .i64 0, .int .u64 0, .int .i64 0, .bool false, .bool false, .int .u64 0, .bool false, .bool false, .bool false]) rfl (by kernel_rfl) (by kernel_rfl) (by kernel_rfl) (fun _ _ _ h => h) (by kernel_rfl) (by kernel_rfl) hS (Or.inl ⟨by rfl, ?_⟩) ?_
          · intro w' hw'
            go_simp
          clear hS
          refine wpAnyE_one (i := 10) rfl (by kernel_rfl) (fun K hK => ?_)
          · go_simp
            obtain ⟨R28, hR28⟩ : ∃ R, B26.heap.size = R := ⟨_, rfl⟩
            obtain ⟨B28, hB28⟩ : ∃ B, B26.alloc (.cells #[.slice none 0 0, .int .u64 0, .int .i64 0] 25) = B := ⟨_, rfl⟩
            have HT28 : Hid (Bxr w [(R28, 25, [.slice none 0 0, .int .u64 0, .int .i64 0]), (R24, 35, [.int .i64 0, .string ⟨#[]⟩, .int .u32 0, .string ⟨#[]⟩, .int .i64 0, .int .u64 0, .int .i64 0, .bool false, .bool false, .int .u64 0, .bool false, .bool false, .bool false]), (P2 + 1, 35, [.int .i64 2, .string k, .int .u32 fl, .string v, .int .i64 (moment T e), .int .u64 1, .int .i64 0, .bool false, .bool false, .int .u64 0, .bool false, .bool false, .bool false]), (P2, 25, [.slice a2 n2 q2, .int .u64 ((⟨[stoX k v fl e T], 1, 0⟩ : Ms)).cas, .int .i64 ((⟨[stoX k v fl e T], 1, 0⟩ : Ms)).fl]), (P1, 28, [.int .i64 2, .int .i64 0, .string k, .string v, .int .u32 fl, .int .i64 e, .bool false, .int .u64 0, .bool false, .int .u64 0, .int .u64 0, .bool false, .bool false, .int .i64 0, .int .i64 (-1), .bool false])] [(.slice a26_ n26_ q26_, ((⟨[], 1, 0⟩ : Ms)).its), (.slice a2 n2 q2, ((⟨[stoX k v fl e T], 1, 0⟩ : Ms)).its)] B28) := hid (by
              have := HT26.out.new #[.slice none 0 0, .int .u64 0, .int .i64 0] 25
              rw [hR28, hB28] at this; exact this)
            refine hK _ _ (fun _ => by rw [HSd.out]; first | exact HT28.out.1.get 3 rfl | (rw [hB28]; exact HT28.out.1.get 3 rfl)) ?_
            clear hK K
            try rw [hB28]
            try rw [hR28]
            clear hB28 hR28
            have HL29_0 : Hid (Bxr w [(R28, 25, [.slice a26_ n26_ q26_, .int .u64 ((⟨[], 1, 0⟩ : Ms)).cas, .int .i64 ((⟨[], 1, 0⟩ : Ms)).fl]), (R24, 35, [.int .i64 0, .string ⟨#[]⟩, .int .u32 0, .string ⟨#[]⟩, .int .i64 0, .int .u64 0, .int .i64 0, .bool false, .bool false, .int .u64 0, .bool false, .bool false, .bool false]), (P2 + 1, 35, [.int .i64 2, .string k, .int .u32 fl, .string v, .int .i64 (moment T e), .int .u64 1, .int .i64 0, .bool false, .bool false, .int .u64 0, .bool false, .bool false, .bool false]), (P2, 25, [.slice a2 n2 q2, .int .u64 ((⟨[stoX k v fl e T], 1, 0⟩ : Ms)).cas, .int .i64 ((⟨[stoX k v fl e T], 1, 0⟩ : Ms)).fl]), (P1, 28, [.int .i64 2, .int .i64 0, .string k, .string v, .int .u32 fl, .int .i64 e, .bool false, .int .u64 0, .bool false, .int .u64 0, .int .u64 0, .bool false, .bool false, .int .i64 0, .int .i64 (-1), .bool false])] [(.slice a26_ n26_ q26_, ((⟨[], 1, 0⟩ : Ms)).its), (.slice a2 n2 q2, ((⟨[stoX k v fl e T], 1, 0⟩ : Ms)).its)] (B28.setCells (R28) 0 [.slice a26_ n26_ q26_, .int .u64 ((⟨[], 1, 0⟩ : Ms)).cas, .int .i64 ((⟨[], 1, 0⟩ : Ms)).fl])) := hid (HT28.out.setc 0 (vs := [.slice a26_ n26_ q26_, .int .u64 ((⟨[], 1, 0⟩ : Ms)).cas, .int .i64 ((⟨[], 1, 0⟩ : Ms)).fl]) rfl rfl)
            refine wpAnyE_one (i := 12) rfl (by kernel_rfl) (fun K hK => ?_)
            refine step_store_mid rfl 25 (.tmp 17) (.tmp 66) rfl (R28) 0 #[.slice a26_ n26_ q26_, .int .u64 ((⟨[], 1, 0⟩ : Ms)).cas, .int .i64 ((⟨[], 1, 0⟩ : Ms)).fl] (by go_simp) (by go_simp) (Blk.there (HT28.out.1.get 0 rfl) rfl) (by kernel_rfl) (ones (cs := [.slice a26_ n26_ q26_, .int .u64 ((⟨[], 1, 0⟩ : Ms)).cas, .int .i64 ((⟨[], 1, 0⟩ : Ms)).fl]) rfl) ?_
            refine hK _ (B28.setCells (R28) 0 [.slice a26_ n26_ q26_, .int .u64 ((⟨[], 1, 0⟩ : Ms)).cas, .int .i64 ((⟨[], 1, 0⟩ : Ms)).fl]) (fun _ => by rw [HSd.out]; exact HL29_0.out.1.get 3 rfl) ?_
            clear hK K
            generalize (B28.setCells (R28) 0 [.slice a26_ n26_ q26_, .int .u64 ((⟨[], 1, 0⟩ : Ms)).cas, .int .i64 ((⟨[], 1, 0⟩ : Ms)).fl]) = Y29 at *
            have HL29_1 : Hid (Bxr w [(R28, 25, [.slice a26_ n26_ q26_, .int .u64 ((⟨[], 1, 0⟩ : Ms)).cas, .int .i64 ((⟨[], 1, 0⟩ : Ms)).fl]), (R24, 35, [.int .i64 5, .string ⟨#[]⟩, .int .u32 0, .string ⟨#[]⟩, .int .i64 0, .int .u64 0, .int .i64 0, .bool false, .bool false, .int .u64 0, .bool false, .bool false, .bool false]), (P2 + 1, 35, [.int .i64 2, .string k, .int .u32 fl, .string v, .int .i64 (moment T e), .int .u64 1, .int .i64 0, .bool false, .bool false, .int .u64 0, .bool false, .bool false, .bool false]), (P2, 25, [.slice a2 n2 q2, .int .u64 ((⟨[stoX k v fl e T], 1, 0⟩ : Ms)).cas, .int .i64 ((⟨[stoX k v fl e T], 1, 0⟩ : Ms)).fl]), (P1, 28, [.int .i64 2, .int .i64 0, .string k, .string v, .int .u32 fl, .int .i64 e, .bool false, .int .u64 0, .bool false, .int .u64 0, .int .u64 0, .bool false, .bool false, .int .i64 0, .int .i64 (-1), .bool false])] [(.slice a26_ n26_ q26_, ((⟨[], 1, 0⟩ : Ms)).its), (.slice a2 n2 q2, ((⟨[stoX k v fl e T], 1, 0⟩ : Ms)).its)] (Y29.setCells (R24) 0 [.int .i64 5, .string ⟨#[]⟩, .int .u32 0, .string ⟨#[]⟩, .int .i64 0, .int .u64 0, .int .i64 0, .bool false, .bool false, .int .u64 0, .bool false, .bool false, .bool false])) := hid (HL29_0.out.setc 1 (vs := [.int .i64 5, .string ⟨#[]⟩, .int .u32 0, .string ⟨#[]⟩, .int .i64 0, .int .u64 0, .int .i64 0, .bool false, .bool false, .int .u64 0, .bool false, .bool false, .bool false]) rfl rfl)
            refine wpAnyE_one (i := 13) rfl (by kernel_rfl) (fun K hK => ?_)
            refine step_store_mid rfl 35 (.tmp 18) (.tmp 67) rfl (R24) 0 #[.int .i64 5, .string ⟨#[]⟩, .int .u32 0, .string ⟨#[]⟩, .int .i64 0, .int .u64 0, .int .i64 0, .bool false, .bool false, .int .u64 0, .bool false, .bool false, .bool false] (by go_simp) (by go_simp) (Blk.there (HL29_0.out.1.get 1 rfl) rfl) (by kernel_rfl) (ones (cs := [.int .i64 5, .string ⟨#[]⟩, .int .u32 0, .string ⟨#[]⟩, .int .i64 0, .int .u64 0, .int .i64 0, .bool false, .bool false, .int .u64 0, .bool false, .bool false, .bool false]) rfl) ?_
            refine hK _ (Y29.setCells (R24) 0 [.int .i64 5, .string ⟨#[]⟩, .int .u32 0, .string ⟨#[]⟩, .int .i64 0, .int .u64 0, .int .i64 0, .bool false, .bool false, .int .u64 0, .bool false, .bool false, .bool false]) (fun h => (by cases (show true = false from h))) (wpAnyE_done (by kernel_rfl) ?_ _)
            clear hK K
            generalize (Y29.setCells (R24) 0 [.int .i64 5, .string ⟨#[]⟩, .int .u32 0, .string ⟨#[]⟩, .int .i64 0, .int .u64 0, .int .i64 0, .bool false, .bool false, .int .u64 0, .bool false, .bool false, .bool false]) = Z29 at *
            go_wp2_with fail
            go_meet
            exact ⟨R28, R24, a26_, n26_, q26_, rfl, rfl, hid (Bxr.swap HL29_1.out)⟩
        · go_simp
          obtain ⟨R30, hR30⟩ : ∃ R, B24.heap.size = R := ⟨_, rfl⟩
          obtain ⟨B30, hB30⟩ : ∃ B, B24.alloc (.cells #[.slice none 0 0, .int .u64 0, .int .i64 0] 25) = B := ⟨_, rfl⟩
          have HT30 : Hid (Bxr w [(R30, 25, [.slice none 0 0, .int .u64 0, .int .i64 0]), (R24, 35, [.int .i64 0, .string ⟨#[]⟩, .int .u32 0, .string ⟨#[]⟩, .int .i64 0, .int .u64 0, .int .i64 0, .bool false, .bool false, .int .u64 0, .bool false, .bool false, .bool false]), (P2 + 1, 35, [.int .i64 2, .string k, .int .u32 fl, .string v, .int .i64 (moment T e), .int .u64 1, .int .i64 0, .bool false, .bool false, .int .u64 0, .bool false, .bool false, .bool false]), (P2, 25, [.slice a2 n2 q2, .int .u64 ((⟨[stoX k v fl e T], 1, 0⟩ : Ms)).cas, .int .i64 ((⟨[stoX k v fl e T], 1, 0⟩ : Ms)).fl]), (P1, 28, [.int .i64 2, .int .i64 0, .string k, .string v, .int .u32 fl, .int .i64 e, .bool false, .int .u64 0, .bool false, .int .u64 0, .int .u64 0, .bool false, .bool false, .int .i64 0, .int .i64 (-1), .bool false])] [(.slice a2 n2 q2, ((⟨[stoX k v fl e T], 1, 0⟩ : Ms)).its)] B30) := hid (by
            have := HT24.out.new #[.slice none 0 0, .int .u64 0, .int .i64 0] 25
            rw [hR30, hB30] at this; exact this)
          refine hK _ _ (fun _ => by rw [HSd.out]; first | exact HT30.out.1.get 3 rfl | (rw [hB30]; exact HT30.out.1.get 3 rfl)) ?_
          clear hK K
          try rw [hB30]
          try rw [hR30]
          clear hB30 hR30
          refine wpAnyE_one (i := 6) rfl (by kernel_rfl) (fun K hK => ?_)
          · go_simp
            refine (apply_bx (now := T2) (c := cGet k) (most := 65536) HT30.out (HT30.out.its 0 rfl) hfit (by decide) (by decide) hgok HV.out hr2 (cs := #[.int .i64 5, .string ⟨#[]⟩, .int .u32 0, .string ⟨#[]⟩, .int .i64 0, .int .u64 0, .int .i64 0, .bool false, .bool false, .int .u64 0, .bool false, .bool false, .bool false]) rfl).mono ?_
            rintro e B32 ⟨a32_, n32_, q32_, rfl, hb32⟩
            have HT32 : Hid (Bxr w [(R30, 25, [.slice none 0 0, .int .u64 0, .int .i64 0]), (R24, 35, [.int .i64 0, .string ⟨#[]⟩, .int .u32 0, .string ⟨#[]⟩, .int .i64 0, .int .u64 0, .int .i64 0, .bool false, .bool false, .int .u64 0, .bool false, .bool false, .bool false]), (P2 + 1, 35, [.int .i64 2, .string k, .int .u32 fl, .string v, .int .i64 (moment T e), .int .u64 1, .int .i64 0, .bool false, .bool false, .int .u64 0, .bool false, .bool false, .bool false]), (P2, 25, [.slice a2 n2 q2, .int .u64 ((⟨[stoX k v fl e T], 1, 0⟩ : Ms)).cas, .int .i64 ((⟨[stoX k v fl e T], 1, 0⟩ : Ms)).fl]), (P1, 28, [.int .i64 2, .int .i64 0, .string k, .string v, .int .u32 fl, .int .i64 e, .bool false, .int .u64 0, .bool false, .int .u64 0, .int .u64 0, .bool false, .bool false, .int .i64 0, .int .i64 (-1), .bool false])] [(.slice a32_ n32_ q32_, ((⟨[], 1, 0⟩ : Ms)).its), (.slice a2 n2 q2, ((⟨[stoX k v fl e T], 1, 0⟩ : Ms)).its)] B32) := hid hb32
            refine hK _ _ (fun _ => by rw [HSd.out]; exact HT32.out.1.get 3 rfl) ?_
            clear hK K hb32
            have hS : S B32 := by rw [HSd.out]; exact HT32.out.1.get 3 rfl
            refine wpAnyE_take (i := 7) (v := .tuple #[.agg #[.slice a32_ n32_ q32_, .int .u64 ((⟨[], 1, 0⟩ : Ms)).cas, .int .i64 ((⟨[], 1, 0⟩ : Ms)).fl], .agg #[.int .i64 5, .string ⟨#[]⟩, .int .u32 0, .string ⟨#[]⟩, .int .i64 0, .int .u64 0, .int .i64 0, .bool false, .bool false, .int .u64 0, .bool false, .bool false, .bool false]]) rfl (by kernel_rfl) (by kernel_rfl) (by kernel_rfl) (fun _ _ _ h => h) (by kernel_rfl) (by kernel_rfl) hS (Or.inl ⟨by rfl, ?_⟩) ?_
            · intro w' hw'
              go_simp
            refine wpAnyE_take (i := 8) (v := .agg #[.slice a32_ n32_ q32_, .int .u64 ((⟨[], 1, 0⟩ : Ms)).cas, .int .i64 ((⟨[], 1, 0⟩ : Ms)).fl]) rfl (by kernel_rfl) (by kernel_rfl) (by kernel_rfl) (fun _ _ _ h => h) (by kernel_rfl) (by kernel_rfl) hS (Or.inl ⟨by rfl, ?_⟩) ?_
            · intro w' hw'
              go_simp
            refine wpAnyE_take (i := 9) (v := .agg #[.int .i64 5, .string ⟨#[]⟩, .int .u32 0, .string ⟨#[]⟩, .int .i64 0, .int .u64 0, .int .i64 0, .bool false, .bool false, .int .u64 0, .bool false, .bool false, .bool false]) rfl (by kernel_rfl) (by kernel_rfl) (by kernel_rfl) (fun _ _ _ h => h) (by kernel_rfl) (by kernel_rfl) hS (Or.inl ⟨by rfl, ?_⟩) ?_
            · intro w' hw'
              go_simp
            clear hS
            have HL33_0 : Hid (Bxr w [(R30, 25, [.slice a32_ n32_ q32_, .int .u64 ((⟨[], 1, 0⟩ : Ms)).cas, .int .i64 ((⟨[], 1, 0⟩ : Ms)).fl]), (R24, 35, [.int .i64 0, .string ⟨#[]⟩, .int .u32 0, .string ⟨#[]⟩, .int .i64 0, .int .u64 0, .int .i64 0, .bool false, .bool false, .int .u64 0, .bool false, .bool false, .bool false]), (P2 + 1, 35, [.int .i64 2, .string k, .int .u32 fl, .string v, .int .i64 (moment T e), .int .u64 1, .int .i64 0, .bool false, .bool false, .int .u64 0, .bool false, .bool false, .bool false]), (P2, 25, [.slice a2 n2 q2, .int .u64 ((⟨[stoX k v fl e T], 1, 0⟩ : Ms)).cas, .int .i64 ((⟨[stoX k v fl e T], 1, 0⟩ : Ms)).fl]), (P1, 28, [.int .i64 2, .int .i64 0, .string k, .string v, .int .u32 fl, .int .i64 e, .bool false, .int .u64 0, .bool false, .int .u64 0, .int .u64 0, .bool false, .bool false, .int .i64 0, .int .i64 (-1), .bool false])] [(.slice a32_ n32_ q32_, ((⟨[], 1, 0⟩ : Ms)).its), (.slice a2 n2 q2, ((⟨[stoX k v fl e T], 1, 0⟩ : Ms)).its)] (B32.setCells (R30) 0 [.slice a32_ n32_ q32_, .int .u64 ((⟨[], 1, 0⟩ : Ms)).cas, .int .i64 ((⟨[], 1, 0⟩ : Ms)).fl])) := hid (HT32.out.setc 0 (vs := [.slice a32_ n32_ q32_, .int .u64 ((⟨[], 1, 0⟩ : Ms)).cas, .int .i64 ((⟨[], 1, 0⟩ : Ms)).fl]) rfl rfl)
            refine wpAnyE_one (i := 12) rfl (by kernel_rfl) (fun K hK => ?_)
            refine step_store_mid rfl 25 (.tmp 17) (.tmp 66) rfl (R30) 0 #[.slice a32_ n32_ q32_, .int .u64 ((⟨[], 1, 0⟩ : Ms)).cas, .int .i64 ((⟨[], 1, 0⟩ : Ms)).fl] (by go_simp) (by go_simp) (Blk.there (HT32.out.1.get 0 rfl) rfl) (by kernel_rfl) (ones (cs := [.slice a32_ n32_ q32_, .int .u64 ((⟨[], 1, 0⟩ : Ms)).cas, .int .i64 ((⟨[], 1, 0⟩ : Ms)).fl]) rfl) ?_
            refine hK _ (B32.setCells (R30) 0 [.slice a32_ n32_ q32_, .int .u64 ((⟨[], 1, 0⟩ : Ms)).cas, .int .i64 ((⟨[], 1, 0⟩ : Ms)).fl]) (fun _ => by rw [HSd.out]; exact HL33_0.out.1.get 3 rfl) ?_
            clear hK K
            generalize (B32.setCells (R30) 0 [.slice a32_ n32_ q32_, .int .u64 ((⟨[], 1, 0⟩ : Ms)).cas, .int .i64 ((⟨[], 1, 0⟩ : Ms)).fl]) = Y33 at *
            have HL33_1 : Hid (Bxr w [(R30, 25, [.slice a32_ n32_ q32_, .int .u64 ((⟨[], 1, 0⟩ : Ms)).cas, .int .i64 ((⟨[], 1, 0⟩ : Ms)).fl]), (R24, 35, [.int .i64 5, .string ⟨#[]⟩, .int .u32 0, .string ⟨#[]⟩, .int .i64 0, .int .u64 0, .int .i64 0, .bool false, .bool false, .int .u64 0, .bool false, .bool false, .bool false]), (P2 + 1, 35, [.int .i64 2, .string k, .int .u32 fl, .string v, .int .i64 (moment T e), .int .u64 1, .int .i64 0, .bool false, .bool false, .int .u64 0, .bool false, .bool false, .bool false]), (P2, 25, [.slice a2 n2 q2, .int .u64 ((⟨[stoX k v fl e T], 1, 0⟩ : Ms)).cas, .int .i64 ((⟨[stoX k v fl e T], 1, 0⟩ : Ms)).fl]), (P1, 28, [.int .i64 2, .int .i64 0, .string k, .string v, .int .u32 fl, .int .i64 e, .bool false, .int .u64 0, .bool false, .int .u64 0, .int .u64 0, .bool false, .bool false, .int .i64 0, .int .i64 (-1), .bool false])] [(.slice a32_ n32_ q32_, ((⟨[], 1, 0⟩ : Ms)).its), (.slice a2 n2 q2, ((⟨[stoX k v fl e T], 1, 0⟩ : Ms)).its)] (Y33.setCells (R24) 0 [.int .i64 5, .string ⟨#[]⟩, .int .u32 0, .string ⟨#[]⟩, .int .i64 0, .int .u64 0, .int .i64 0, .bool false, .bool false, .int .u64 0, .bool false, .bool false, .bool false])) := hid (HL33_0.out.setc 1 (vs := [.int .i64 5, .string ⟨#[]⟩, .int .u32 0, .string ⟨#[]⟩, .int .i64 0, .int .u64 0, .int .i64 0, .bool false, .bool false, .int .u64 0, .bool false, .bool false, .bool false]) rfl rfl)
            refine wpAnyE_one (i := 13) rfl (by kernel_rfl) (fun K hK => ?_)
            refine step_store_mid rfl 35 (.tmp 18) (.tmp 67) rfl (R24) 0 #[.int .i64 5, .string ⟨#[]⟩, .int .u32 0, .string ⟨#[]⟩, .int .i64 0, .int .u64 0, .int .i64 0, .bool false, .bool false, .int .u64 0, .bool false, .bool false, .bool false] (by go_simp) (by go_simp) (Blk.there (HL33_0.out.1.get 1 rfl) rfl) (by kernel_rfl) (ones (cs := [.int .i64 5, .string ⟨#[]⟩, .int .u32 0, .string ⟨#[]⟩, .int .i64 0, .int .u64 0, .int .i64 0, .bool false, .bool false, .int .u64 0, .bool false, .bool false, .bool false]) rfl) ?_
            refine hK _ (Y33.setCells (R24) 0 [.int .i64 5, .string ⟨#[]⟩, .int .u32 0, .string ⟨#[]⟩, .int .i64 0, .int .u64 0, .int .i64 0, .bool false, .bool false, .int .u64 0, .bool false, .bool false, .bool false]) (fun h => (by cases (show true = false from h))) (wpAnyE_done (by kernel_rfl) ?_ _)
            clear hK K
            generalize (Y33.setCells (R24) 0 [.int .i64 5, .string ⟨#[]⟩, .int .u32 0, .string ⟨#[]⟩, .int .i64 0, .int .u64 0, .int .i64 0, .bool false, .bool false, .int .u64 0, .bool false, .bool false, .bool false]) = Z33 at *
            go_wp2_with fail
            go_meet
            exact ⟨R30, R24, a32_, n32_, q32_, rfl, rfl, hid (Bxr.swap HL33_1.out)⟩
    · go_simp
      obtain ⟨R34, hR34⟩ : ∃ R, A0.heap.size = R := ⟨_, rfl⟩
      obtain ⟨B34, hB34⟩ : ∃ B, A0.alloc (.cells #[.slice none 0 0, .int .u64 0, .int .i64 0] 25) = B := ⟨_, rfl⟩
      have HT34 : Hid (Bxr w [(R34, 25, [.slice none 0 0, .int .u64 0, .int .i64 0]), (P2 + 1, 35, [.int .i64 2, .string k, .int .u32 fl, .string v, .int .i64 (moment T e), .int .u64 1, .int .i64 0, .bool false, .bool false, .int .u64 0, .bool false, .bool false, .bool false]), (P2, 25, [.slice a2 n2 q2, .int .u64 ((⟨[stoX k v fl e T], 1, 0⟩ : Ms)).cas, .int .i64 ((⟨[stoX k v fl e T], 1, 0⟩ : Ms)).fl]), (P1, 28, [.int .i64 2, .int .i64 0, .string k, .string v, .int .u32 fl, .int .i64 e, .bool false, .int .u64 0, .bool false, .int .u64 0, .int .u64 0, .bool false, .bool false, .int .i64 0, .int .i64 (-1), .bool false])] [(.slice a2 n2 q2, ((⟨[stoX k v fl e T], 1, 0⟩ : Ms)).its)] B34) := hid (by
        have := HA0.out.new #[.slice none 0 0, .int .u64 0, .int .i64 0] 25
        rw [hR34, hB34] at this; exact this)
      refine hK _ _ (fun _ => by rw [HSd.out]; first | exact HT34.out.1.get 2 rfl | (rw [hB34]; exact HT34.out.1.get 2 rfl)) ?_
      clear hK K
      try rw [hB34]
      try rw [hR34]
      clear hB34 hR34
      refine wpAnyE_two (i := 5) (j := 11) rfl rfl (by kernel_rfl) (fun K hK => ?_) (fun K hK => ?_)
      · go_simp
        refine (get_any k B34).mono ?_
        rintro e B36 ⟨rfl, hb36⟩
        have HT36 : Hid (Bxr w [(R34, 25, [.slice none 0 0, .int .u64 0, .int .i64 0]), (P2 + 1, 35, [.int .i64 2, .string k, .int .u32 fl, .string v, .int .i64 (moment T e), .int .u64 1, .int .i64 0, .bool false, .bool false, .int .u64 0, .bool false, .bool false, .bool false]), (P2, 25, [.slice a2 n2 q2, .int .u64 ((⟨[stoX k v fl e T], 1, 0⟩ : Ms)).cas, .int .i64 ((⟨[stoX k v fl e T], 1, 0⟩ : Ms)).fl]), (P1, 28, [.int .i64 2, .int .i64 0, .string k, .string v, .int .u32 fl, .int .i64 e, .bool false, .int .u64 0, .bool false, .int .u64 0, .int .u64 0, .bool false, .bool false, .int .i64 0, .int .i64 (-1), .bool false])] [(.slice a2 n2 q2, ((⟨[stoX k v fl e T], 1, 0⟩ : Ms)).its)] B36) := hid (HT34.out.step hb36)
        refine hK _ _ (fun _ => by rw [HSd.out]; exact HT36.out.1.get 2 rfl) ?_
        clear hK K hb36
        refine wpAnyE_two (i := 6) (j := 11) rfl rfl (by kernel_rfl) (fun K hK => ?_) (fun K hK => ?_)
        · go_simp
          refine (apply_bx (now := T2) (c := cGet k) (most := 65536) HT36.out (HT36.out.its 0 rfl) hfit (by decide) (by decide) hgok HV.out hr2 (cs := #[.int .i64 5, .string ⟨#[]⟩, .int .u32 0, .string ⟨#[]⟩, .int .i64 0, .int .u64 0, .int .i64 0, .bool false, .bool false, .int .u64 0, .bool false, .bool false, .bool false]) rfl).mono ?_
          rintro e B38 ⟨a38_, n38_, q38_, rfl, hb38⟩
          have HT38 : Hid (Bxr w [(R34, 25, [.slice none 0 0, .int .u64 0, .int .i64 0]), (P2 + 1, 35, [.int .i64 2, .string k, .int .u32 fl, .string v, .int .i64 (moment T e), .int .u64 1, .int .i64 0, .bool false, .bool false, .int .u64 0, .bool false, .bool false, .bool false]), (P2, 25, [.slice a2 n2 q2, .int .u64 ((⟨[stoX k v fl e T], 1, 0⟩ : Ms)).cas, .int .i64 ((⟨[stoX k v fl e T], 1, 0⟩ : Ms)).fl]), (P1, 28, [.int .i64 2, .int .i64 0, .string k, .string v, .int .u32 fl, .int .i64 e, .bool false, .int .u64 0, .bool false, .int .u64 0, .int .u64 0, .bool false, .bool false, .int .i64 0, .int .i64 (-1), .bool false])] [(.slice a38_ n38_ q38_, ((⟨[], 1, 0⟩ : Ms)).its), (.slice a2 n2 q2, ((⟨[stoX k v fl e T], 1, 0⟩ : Ms)).its)] B38) := hid hb38
          refine hK _ _ (fun _ => by rw [HSd.out]; exact HT38.out.1.get 2 rfl) ?_
          clear hK K hb38
          have hS : S B38 := by rw [HSd.out]; exact HT38.out.1.get 2 rfl
          refine wpAnyE_take (i := 7) (v := .tuple #[.agg #[.slice a38_ n38_ q38_, .int .u64 ((⟨[], 1, 0⟩ : Ms)).cas, .int .i64 ((⟨[], 1, 0⟩ : Ms)).fl], .agg #[.int .i64 5, .string ⟨#[]⟩, .int .u32 0, .string ⟨#[]⟩, .int .i64 0, .int .u64 0, .int .i64 0, .bool false, .bool false, .int .u64 0, .bool false, .bool false, .bool false]]) rfl (by kernel_rfl) (by kernel_rfl) (by kernel_rfl) (fun _ _ _ h => h) (by kernel_rfl) (by kernel_rfl) hS (Or.inl ⟨by rfl, ?_⟩) ?_
          · intro w' hw'
            go_simp
          refine wpAnyE_take (i := 8) (v := .agg #[.slice a38_ n38_ q38_, .int .u64 ((⟨[], 1, 0⟩ : Ms)).cas, .int .i64 ((⟨[], 1, 0⟩ : Ms)).fl]) rfl (by kernel_rfl) (by kernel_rfl) (by kernel_rfl) (fun _ _ _ h => h) (by kernel_rfl) (by kernel_rfl) hS (Or.inl ⟨by rfl, ?_⟩) ?_
          · intro w' hw'
            go_simp
          refine wpAnyE_take (i := 9) (v := .agg #[.int .i64 5, .string ⟨#[]⟩, .int .u32 0, .string ⟨#[]⟩, .int .i64 0, .int .u64 0, .int .i64 0, .bool false, .bool false, .int .u64 0, .bool false, .bool false, .bool false]) rfl (by kernel_rfl) (by kernel_rfl) (by kernel_rfl) (fun _ _ _ h => h) (by kernel_rfl) (by kernel_rfl) hS (Or.inl ⟨by rfl, ?_⟩) ?_
          · intro w' hw'
            go_simp
          clear hS
          refine wpAnyE_one (i := 11) rfl (by kernel_rfl) (fun K hK => ?_)
          · go_simp
            obtain ⟨R40, hR40⟩ : ∃ R, B38.heap.size = R := ⟨_, rfl⟩
            obtain ⟨B40, hB40⟩ : ∃ B, B38.alloc (.cells #[.int .i64 0, .string ⟨#[]⟩, .int .u32 0, .string ⟨#[]⟩, .int .i64 0, .int .u64 0, .int .i64 0, .bool false, .bool false, .int .u64 0, .bool false, .bool false, .bool false] 35) = B := ⟨_, rfl⟩
            have HT40 : Hid (Bxr w [(R40, 35, [.int .i64 0, .string ⟨#[]⟩, .int .u32 0, .string ⟨#[]⟩, .int .i64 0, .int .u64 0, .int .i64 0, .bool false, .bool false, .int .u64 0, .bool false, .bool false, .bool false]), (R34, 25, [.slice none 0 0, .int .u64 0, .int .i64 0]), (P2 + 1, 35, [.int .i64 2, .string k, .int .u32 fl, .string v, .int .i64 (moment T e), .int .u64 1, .int .i64 0, .bool false, .bool false, .int .u64 0, .bool false, .bool false, .bool false]), (P2, 25, [.slice a2 n2 q2, .int .u64 ((⟨[stoX k v fl e T], 1, 0⟩ : Ms)).cas, .int .i64 ((⟨[stoX k v fl e T], 1, 0⟩ : Ms)).fl]), (P1, 28, [.int .i64 2, .int .i64 0, .string k, .string v, .int .u32 fl, .int .i64 e, .bool false, .int .u64 0, .bool false, .int .u64 0, .int .u64 0, .bool false, .bool false, .int .i64 0, .int .i64 (-1), .bool false])] [(.slice a38_ n38_ q38_, ((⟨[], 1, 0⟩ : Ms)).its), (.slice a2 n2 q2, ((⟨[stoX k v fl e T], 1, 0⟩ : Ms)).its)] B40) := hid (by
              have := HT38.out.new #[.int .i64 0, .string ⟨#[]⟩, .int .u32 0, .string ⟨#[]⟩, .int .i64 0, .int .u64 0, .int .i64 0, .bool false, .bool false, .int .u64 0, .bool false, .bool false, .bool false] 35
              rw [hR40, hB40] at this; exact this)
            refine hK _ _ (fun _ => by rw [HSd.out]; first | exact HT40.out.1.get 3 rfl | (rw [hB40]; exact HT40.out.1.get 3 rfl)) ?_
            clear hK K
            try rw [hB40]
            try rw [hR40]
            clear hB40 hR40
            have HL41_0 : Hid (Bxr w [(R40, 35, [.int .i64 0, .string ⟨#[]⟩, .int .u32 0, .string ⟨#[]⟩, .int .i64 0, .int .u64 0, .int .i64 0, .bool false, .bool false, .int .u64 0, .bool false, .bool false, .bool false]), (R34, 25, [.slice a38_ n38_ q38_, .int .u64 ((⟨[], 1, 0⟩ : Ms)).cas, .int .i64 ((⟨[], 1, 0⟩ : Ms)).fl]), (P2 + 1, 35, [.int .i64 2, .string k, .int .u32 fl, .string v, .int .i64 (moment T e), .int .u64 1, .int .i64 0, .bool false, .bool false, .int .u64 0, .bool false, .bool false, .bool false]), (P2, 25, [.slice a2 n2 q2, .int .u64 ((⟨[stoX k v fl e T], 1, 0⟩ : Ms)).cas, .int .i64 ((⟨[stoX k v fl e T], 1, 0⟩ : Ms)).fl]), (P1, 28, [.int .i64 2, .int .i64 0, .string k, .string v, .int .u32 fl, .int .i64 e, .bool false, .int .u64 0, .bool false, .int .u64 0, .int .u64 0, .bool false, .bool false, .int .i64 0, .int .i64 (-1), .bool false])] [(.slice a38_ n38_ q38_, ((⟨[], 1, 0⟩ : Ms)).its), (.slice a2 n2 q2, ((⟨[stoX k v fl e T], 1, 0⟩ : Ms)).its)] (B40.setCells (R34) 0 [.slice a38_ n38_ q38_, .int .u64 ((⟨[], 1, 0⟩ : Ms)).cas, .int .i64 ((⟨[], 1, 0⟩ : Ms)).fl])) := hid (HT40.out.setc 1 (vs := [.slice a38_ n38_ q38_, .int .u64 ((⟨[], 1, 0⟩ : Ms)).cas, .int .i64 ((⟨[], 1, 0⟩ : Ms)).fl]) rfl rfl)
            refine wpAnyE_one (i := 12) rfl (by kernel_rfl) (fun K hK => ?_)
            refine step_store_mid rfl 25 (.tmp 17) (.tmp 66) rfl (R34) 0 #[.slice a38_ n38_ q38_, .int .u64 ((⟨[], 1, 0⟩ : Ms)).cas, .int .i64 ((⟨[], 1, 0⟩ : Ms)).fl] (by go_simp) (by go_simp) (Blk.there (HT40.out.1.get 1 rfl) rfl) (by kernel_rfl) (ones (cs := [.slice a38_ n38_ q38_, .int .u64 ((⟨[], 1, 0⟩ : Ms)).cas, .int .i64 ((⟨[], 1, 0⟩ : Ms)).fl]) rfl) ?_
            refine hK _ (B40.setCells (R34) 0 [.slice a38_ n38_ q38_, .int .u64 ((⟨[], 1, 0⟩ : Ms)).cas, .int .i64 ((⟨[], 1, 0⟩ : Ms)).fl]) (fun _ => by rw [HSd.out]; exact HL41_0.out.1.get 3 rfl) ?_
            clear hK K
            generalize (B40.setCells (R34) 0 [.slice a38_ n38_ q38_, .int .u64 ((⟨[], 1, 0⟩ : Ms)).cas, .int .i64 ((⟨[], 1, 0⟩ : Ms)).fl]) = Y41 at *
            have HL41_1 : Hid (Bxr w [(R40, 35, [.int .i64 5, .string ⟨#[]⟩, .int .u32 0, .string ⟨#[]⟩, .int .i64 0, .int .u64 0, .int .i64 0, .bool false, .bool false, .int .u64 0, .bool false, .bool false, .bool false]), (R34, 25, [.slice a38_ n38_ q38_, .int .u64 ((⟨[], 1, 0⟩ : Ms)).cas, .int .i64 ((⟨[], 1, 0⟩ : Ms)).fl]), (P2 + 1, 35, [.int .i64 2, .string k, .int .u32 fl, .string v, .int .i64 (moment T e), .int .u64 1, .int .i64 0, .bool false, .bool false, .int .u64 0, .bool false, .bool false, .bool false]), (P2, 25, [.slice a2 n2 q2, .int .u64 ((⟨[stoX k v fl e T], 1, 0⟩ : Ms)).cas, .int .i64 ((⟨[stoX k v fl e T], 1, 0⟩ : Ms)).fl]), (P1, 28, [.int .i64 2, .int .i64 0, .string k, .string v, .int .u32 fl, .int .i64 e, .bool false, .int .u64 0, .bool false, .int .u64 0, .int .u64 0, .bool false, .bool false, .int .i64 0, .int .i64 (-1), .bool false])] [(.slice a38_ n38_ q38_, ((⟨[], 1, 0⟩ : Ms)).its), (.slice a2 n2 q2, ((⟨[stoX k v fl e T], 1, 0⟩ : Ms)).its)] (Y41.setCells (R40) 0 [.int .i64 5, .string ⟨#[]⟩, .int .u32 0, .string ⟨#[]⟩, .int .i64 0, .int .u64 0, .int .i64 0, .bool false, .bool false, .int .u64 0, .bool false, .bool false, .bool false])) := hid (HL41_0.out.setc 0 (vs := [.int .i64 5, .string ⟨#[]⟩, .int .u32 0, .string ⟨#[]⟩, .int .i64 0, .int .u64 0, .int .i64 0, .bool false, .bool false, .int .u64 0, .bool false, .bool false, .bool false]) rfl rfl)
            refine wpAnyE_one (i := 13) rfl (by kernel_rfl) (fun K hK => ?_)
            refine step_store_mid rfl 35 (.tmp 18) (.tmp 67) rfl (R40) 0 #[.int .i64 5, .string ⟨#[]⟩, .int .u32 0, .string ⟨#[]⟩, .int .i64 0, .int .u64 0, .int .i64 0, .bool false, .bool false, .int .u64 0, .bool false, .bool false, .bool false] (by go_simp) (by go_simp) (Blk.there (HL41_0.out.1.get 0 rfl) rfl) (by kernel_rfl) (ones (cs := [.int .i64 5, .string ⟨#[]⟩, .int .u32 0, .string ⟨#[]⟩, .int .i64 0, .int .u64 0, .int .i64 0, .bool false, .bool false, .int .u64 0, .bool false, .bool false, .bool false]) rfl) ?_
            refine hK _ (Y41.setCells (R40) 0 [.int .i64 5, .string ⟨#[]⟩, .int .u32 0, .string ⟨#[]⟩, .int .i64 0, .int .u64 0, .int .i64 0, .bool false, .bool false, .int .u64 0, .bool false, .bool false, .bool false]) (fun h => (by cases (show true = false from h))) (wpAnyE_done (by kernel_rfl) ?_ _)
            clear hK K
            generalize (Y41.setCells (R40) 0 [.int .i64 5, .string ⟨#[]⟩, .int .u32 0, .string ⟨#[]⟩, .int .i64 0, .int .u64 0, .int .i64 0, .bool false, .bool false, .int .u64 0, .bool false, .bool false, .bool false]) = Z41 at *
            go_wp2_with fail
            go_meet
            exact ⟨R34, R40, a38_, n38_, q38_, rfl, rfl, HL41_1⟩
        · go_simp
          obtain ⟨R42, hR42⟩ : ∃ R, B36.heap.size = R := ⟨_, rfl⟩
          obtain ⟨B42, hB42⟩ : ∃ B, B36.alloc (.cells #[.int .i64 0, .string ⟨#[]⟩, .int .u32 0, .string ⟨#[]⟩, .int .i64 0, .int .u64 0, .int .i64 0, .bool false, .bool false, .int .u64 0, .bool false, .bool false, .bool false] 35) = B := ⟨_, rfl⟩
          have HT42 : Hid (Bxr w [(R42, 35, [.int .i64 0, .string ⟨#[]⟩, .int .u32 0, .string ⟨#[]⟩, .int .i64 0, .int .u64 0, .int .i64 0, .bool false, .bool false, .int .u64 0, .bool false, .bool false, .bool false]), (R34, 25, [.slice none 0 0, .int .u64 0, .int .i64 0]), (P2 + 1, 35, [.int .i64 2, .string k, .int .u32 fl, .string v, .int .i64 (moment T e), .int .u64 1, .int .i64 0, .bool false, .bool false, .int .u64 0, .bool false, .bool false, .bool false]), (P2, 25, [.slice a2 n2 q2, .int .u64 ((⟨[stoX k v fl e T], 1, 0⟩ : Ms)).cas, .int .i64 ((⟨[stoX k v fl e T], 1, 0⟩ : Ms)).fl]), (P1, 28, [.int .i64 2, .int .i64 0, .string k, .string v, .int .u32 fl, .int .i64 e, .bool false, .int .u64 0, .bool false, .int .u64 0, .int .u64 0, .bool false, .bool false, .int .i64 0, .int .i64 (-1), .bool false])] [(.slice a2 n2 q2, ((⟨[stoX k v fl e T], 1, 0⟩ : Ms)).its)] B42) := hid (by
            have := HT36.out.new #[.int .i64 0, .string ⟨#[]⟩, .int .u32 0, .string ⟨#[]⟩, .int .i64 0, .int .u64 0, .int .i64 0, .bool false, .bool false, .int .u64 0, .bool false, .bool false, .bool false] 35
            rw [hR42, hB42] at this; exact this)
          refine hK _ _ (fun _ => by rw [HSd.out]; first | exact HT42.out.1.get 3 rfl | (rw [hB42]; exact HT42.out.1.get 3 rfl)) ?_
          clear hK K
          try rw [hB42]
          try rw [hR42]
          clear hB42 hR42
          refine wpAnyE_one (i := 6) rfl (by kernel_rfl) (fun K hK => ?_)
          · go_simp
            refine (apply_bx (now := T2) (c := cGet k) (most := 65536) HT42.out (HT42.out.its 0 rfl) hfit (by decide) (by decide) hgok HV.out hr2 (cs := #[.int .i64 5, .string ⟨#[]⟩, .int .u32 0, .string ⟨#[]⟩, .int .i64 0, .int .u64 0, .int .i64 0, .bool false, .bool false, .int .u64 0, .bool false, .bool false, .bool false]) rfl).mono ?_
            rintro e B44 ⟨a44_, n44_, q44_, rfl, hb44⟩
            have HT44 : Hid (Bxr w [(R42, 35, [.int .i64 0, .string ⟨#[]⟩, .int .u32 0, .string ⟨#[]⟩, .int .i64 0, .int .u64 0, .int .i64 0, .bool false, .bool false, .int .u64 0, .bool false, .bool false, .bool false]), (R34, 25, [.slice none 0 0, .int .u64 0, .int .i64 0]), (P2 + 1, 35, [.int .i64 2, .string k, .int .u32 fl, .string v, .int .i64 (moment T e), .int .u64 1, .int .i64 0, .bool false, .bool false, .int .u64 0, .bool false, .bool false, .bool false]), (P2, 25, [.slice a2 n2 q2, .int .u64 ((⟨[stoX k v fl e T], 1, 0⟩ : Ms)).cas, .int .i64 ((⟨[stoX k v fl e T], 1, 0⟩ : Ms)).fl]), (P1, 28, [.int .i64 2, .int .i64 0, .string k, .string v, .int .u32 fl, .int .i64 e, .bool false, .int .u64 0, .bool false, .int .u64 0, .int .u64 0, .bool false, .bool false, .int .i64 0, .int .i64 (-1), .bool false])] [(.slice a44_ n44_ q44_, ((⟨[], 1, 0⟩ : Ms)).its), (.slice a2 n2 q2, ((⟨[stoX k v fl e T], 1, 0⟩ : Ms)).its)] B44) := hid hb44
            refine hK _ _ (fun _ => by rw [HSd.out]; exact HT44.out.1.get 3 rfl) ?_
            clear hK K hb44
            have hS : S B44 := by rw [HSd.out]; exact HT44.out.1.get 3 rfl
            refine wpAnyE_take (i := 7) (v := .tuple #[.agg #[.slice a44_ n44_ q44_, .int .u64 ((⟨[], 1, 0⟩ : Ms)).cas, .int .i64 ((⟨[], 1, 0⟩ : Ms)).fl], .agg #[.int .i64 5, .string ⟨#[]⟩, .int .u32 0, .string ⟨#[]⟩, .int .i64 0, .int .u64 0, .int .i64 0, .bool false, .bool false, .int .u64 0, .bool false, .bool false, .bool false]]) rfl (by kernel_rfl) (by kernel_rfl) (by kernel_rfl) (fun _ _ _ h => h) (by kernel_rfl) (by kernel_rfl) hS (Or.inl ⟨by rfl, ?_⟩) ?_
            · intro w' hw'
              go_simp
            refine wpAnyE_take (i := 8) (v := .agg #[.slice a44_ n44_ q44_, .int .u64 ((⟨[], 1, 0⟩ : Ms)).cas, .int .i64 ((⟨[], 1, 0⟩ : Ms)).fl]) rfl (by kernel_rfl) (by kernel_rfl) (by kernel_rfl) (fun _ _ _ h => h) (by kernel_rfl) (by kernel_rfl) hS (Or.inl ⟨by rfl, ?_⟩) ?_
            · intro w' hw'
              go_simp
            refine wpAnyE_take (i := 9) (v := .agg #[.int .i64 5, .string ⟨#[]⟩, .int .u32 0, .string ⟨#[]⟩, .int .i64 0, .int .u64 0, .int .i64 0, .bool false, .bool false, .int .u64 0, .bool false, .bool false, .bool false]) rfl (by kernel_rfl) (by kernel_rfl) (by kernel_rfl) (fun _ _ _ h => h) (by kernel_rfl) (by kernel_rfl) hS (Or.inl ⟨by rfl, ?_⟩) ?_
            · intro w' hw'
              go_simp
            clear hS
            have HL45_0 : Hid (Bxr w [(R42, 35, [.int .i64 0, .string ⟨#[]⟩, .int .u32 0, .string ⟨#[]⟩, .int .i64 0, .int .u64 0, .int .i64 0, .bool false, .bool false, .int .u64 0, .bool false, .bool false, .bool false]), (R34, 25, [.slice a44_ n44_ q44_, .int .u64 ((⟨[], 1, 0⟩ : Ms)).cas, .int .i64 ((⟨[], 1, 0⟩ : Ms)).fl]), (P2 + 1, 35, [.int .i64 2, .string k, .int .u32 fl, .string v, .int .i64 (moment T e), .int .u64 1, .int .i64 0, .bool false, .bool false, .int .u64 0, .bool false, .bool false, .bool false]), (P2, 25, [.slice a2 n2 q2, .int .u64 ((⟨[stoX k v fl e T], 1, 0⟩ : Ms)).cas, .int .i64 ((⟨[stoX k v fl e T], 1, 0⟩ : Ms)).fl]), (P1, 28, [.int .i64 2, .int .i64 0, .string k, .string v, .int .u32 fl, .int .i64 e, .bool false, .int .u64 0, .bool false, .int .u64 0, .int .u64 0, .bool false, .bool false, .int .i64 0, .int .i64 (-1), .bool false])] [(.slice a44_ n44_ q44_, ((⟨[], 1, 0⟩ : Ms)).its), (.slice a2 n2 q2, ((⟨[stoX k v fl e T], 1, 0⟩ : Ms)).its)] (B44.setCells (R34) 0 [.slice a44_ n44_ q44_, .int .u64 ((⟨[], 1, 0⟩ : Ms)).cas, .int .i64 ((⟨[], 1, 0⟩ : Ms)).fl])) := hid (HT44.out.setc 1 (vs := [.slice a44_ n44_ q44_, .int .u64 ((⟨[], 1, 0⟩ : Ms)).cas, .int .i64 ((⟨[], 1, 0⟩ : Ms)).fl]) rfl rfl)
            refine wpAnyE_one (i := 12) rfl (by kernel_rfl) (fun K hK => ?_)
            refine step_store_mid rfl 25 (.tmp 17) (.tmp 66) rfl (R34) 0 #[.slice a44_ n44_ q44_, .int .u64 ((⟨[], 1, 0⟩ : Ms)).cas, .int .i64 ((⟨[], 1, 0⟩ : Ms)).fl] (by go_simp) (by go_simp) (Blk.there (HT44.out.1.get 1 rfl) rfl) (by kernel_rfl) (ones (cs := [.slice a44_ n44_ q44_, .int .u64 ((⟨[], 1, 0⟩ : Ms)).cas, .int .i64 ((⟨[], 1, 0⟩ : Ms)).fl]) rfl) ?_
            refine hK _ (B44.setCells (R34) 0 [.slice a44_ n44_ q44_, .int .u64 ((⟨[], 1, 0⟩ : Ms)).cas, .int .i64 ((⟨[], 1, 0⟩ : Ms)).fl]) (fun _ => by rw [HSd.out]; exact HL45_0.out.1.get 3 rfl) ?_
            clear hK K
            generalize (B44.setCells (R34) 0 [.slice a44_ n44_ q44_, .int .u64 ((⟨[], 1, 0⟩ : Ms)).cas, .int .i64 ((⟨[], 1, 0⟩ : Ms)).fl]) = Y45 at *
            have HL45_1 : Hid (Bxr w [(R42, 35, [.int .i64 5, .string ⟨#[]⟩, .int .u32 0, .string ⟨#[]⟩, .int .i64 0, .int .u64 0, .int .i64 0, .bool false, .bool false, .int .u64 0, .bool false, .bool false, .bool false]), (R34, 25, [.slice a44_ n44_ q44_, .int .u64 ((⟨[], 1, 0⟩ : Ms)).cas, .int .i64 ((⟨[], 1, 0⟩ : Ms)).fl]), (P2 + 1, 35, [.int .i64 2, .string k, .int .u32 fl, .string v, .int .i64 (moment T e), .int .u64 1, .int .i64 0, .bool false, .bool false, .int .u64 0, .bool false, .bool false, .bool false]), (P2, 25, [.slice a2 n2 q2, .int .u64 ((⟨[stoX k v fl e T], 1, 0⟩ : Ms)).cas, .int .i64 ((⟨[stoX k v fl e T], 1, 0⟩ : Ms)).fl]), (P1, 28, [.int .i64 2, .int .i64 0, .string k, .string v, .int .u32 fl, .int .i64 e, .bool false, .int .u64 0, .bool false, .int .u64 0, .int .u64 0, .bool false, .bool false, .int .i64 0, .int .i64 (-1), .bool false])] [(.slice a44_ n44_ q44_, ((⟨[], 1, 0⟩ : Ms)).its), (.slice a2 n2 q2, ((⟨[stoX k v fl e T], 1, 0⟩ : Ms)).its)] (Y45.setCells (R42) 0 [.int .i64 5, .string ⟨#[]⟩, .int .u32 0, .string ⟨#[]⟩, .int .i64 0, .int .u64 0, .int .i64 0, .bool false, .bool false, .int .u64 0, .bool false, .bool false, .bool false])) := hid (HL45_0.out.setc 0 (vs := [.int .i64 5, .string ⟨#[]⟩, .int .u32 0, .string ⟨#[]⟩, .int .i64 0, .int .u64 0, .int .i64 0, .bool false, .bool false, .int .u64 0, .bool false, .bool false, .bool false]) rfl rfl)
            refine wpAnyE_one (i := 13) rfl (by kernel_rfl) (fun K hK => ?_)
            refine step_store_mid rfl 35 (.tmp 18) (.tmp 67) rfl (R42) 0 #[.int .i64 5, .string ⟨#[]⟩, .int .u32 0, .string ⟨#[]⟩, .int .i64 0, .int .u64 0, .int .i64 0, .bool false, .bool false, .int .u64 0, .bool false, .bool false, .bool false] (by go_simp) (by go_simp) (Blk.there (HL45_0.out.1.get 0 rfl) rfl) (by kernel_rfl) (ones (cs := [.int .i64 5, .string ⟨#[]⟩, .int .u32 0, .string ⟨#[]⟩, .int .i64 0, .int .u64 0, .int .i64 0, .bool false, .bool false, .int .u64 0, .bool false, .bool false, .bool false]) rfl) ?_
            refine hK _ (Y45.setCells (R42) 0 [.int .i64 5, .string ⟨#[]⟩, .int .u32 0, .string ⟨#[]⟩, .int .i64 0, .int .u64 0, .int .i64 0, .bool false, .bool false, .int .u64 0, .bool false, .bool false, .bool false]) (fun h => (by cases (show true = false from h))) (wpAnyE_done (by kernel_rfl) ?_ _)
            clear hK K
            generalize (Y45.setCells (R42) 0 [.int .i64 5, .string ⟨#[]⟩, .int .u32 0, .string ⟨#[]⟩, .int .i64 0, .int .u64 0, .int .i64 0, .bool false, .bool false, .int .u64 0, .bool false, .bool false, .bool false]) = Z45 at *
            go_wp2_with fail
            go_meet
            exact ⟨R34, R42, a44_, n44_, q44_, rfl, rfl, HL45_1⟩
      · go_simp
        obtain ⟨R46, hR46⟩ : ∃ R, B34.heap.size = R := ⟨_, rfl⟩
        obtain ⟨B46, hB46⟩ : ∃ B, B34.alloc (.cells #[.int .i64 0, .string ⟨#[]⟩, .int .u32 0, .string ⟨#[]⟩, .int .i64 0, .int .u64 0, .int .i64 0, .bool false, .bool false, .int .u64 0, .bool false, .bool false, .bool false] 35) = B := ⟨_, rfl⟩
        have HT46 : Hid (Bxr w [(R46, 35, [.int .i64 0, .string ⟨#[]⟩, .int .u32 0, .string ⟨#[]⟩, .int .i64 0, .int .u64 0, .int .i64 0, .bool false, .bool false, .int .u64 0, .bool false, .bool false, .bool false]), (R34, 25, [.slice none 0 0, .int .u64 0, .int .i64 0]), (P2 + 1, 35, [.int .i64 2, .string k, .int .u32 fl, .string v, .int .i64 (moment T e), .int .u64 1, .int .i64 0, .bool false, .bool false, .int .u64 0, .bool false, .bool false, .bool false]), (P2, 25, [.slice a2 n2 q2, .int .u64 ((⟨[stoX k v fl e T], 1, 0⟩ : Ms)).cas, .int .i64 ((⟨[stoX k v fl e T], 1, 0⟩ : Ms)).fl]), (P1, 28, [.int .i64 2, .int .i64 0, .string k, .string v, .int .u32 fl, .int .i64 e, .bool false, .int .u64 0, .bool false, .int .u64 0, .int .u64 0, .bool false, .bool false, .int .i64 0, .int .i64 (-1), .bool false])] [(.slice a2 n2 q2, ((⟨[stoX k v fl e T], 1, 0⟩ : Ms)).its)] B46) := hid (by
          have := HT34.out.new #[.int .i64 0, .string ⟨#[]⟩, .int .u32 0, .string ⟨#[]⟩, .int .i64 0, .int .u64 0, .int .i64 0, .bool false, .bool false, .int .u64 0, .bool false, .bool false, .bool false] 35
          rw [hR46, hB46] at this; exact this)
        refine hK _ _ (fun _ => by rw [HSd.out]; first | exact HT46.out.1.get 3 rfl | (rw [hB46]; exact HT46.out.1.get 3 rfl)) ?_
        clear hK K
        try rw [hB46]
        try rw [hR46]
        clear hB46 hR46
        refine wpAnyE_one (i := 5) rfl (by kernel_rfl) (fun K hK => ?_)
        · go_simp
          refine (get_any k B46).mono ?_
          rintro e B48 ⟨rfl, hb48⟩
          have HT48 : Hid (Bxr w [(R46, 35, [.int .i64 0, .string ⟨#[]⟩, .int .u32 0, .string ⟨#[]⟩, .int .i64 0, .int .u64 0, .int .i64 0, .bool false, .bool false, .int .u64 0, .bool false, .bool false, .bool false]), (R34, 25, [.slice none 0 0, .int .u64 0, .int .i64 0]), (P2 + 1, 35, [.int .i64 2, .string k, .int .u32 fl, .string v, .int .i64 (moment T e), .int .u64 1, .int .i64 0, .bool false, .bool false, .int .u64 0, .bool false, .bool false, .bool false]), (P2, 25, [.slice a2 n2 q2, .int .u64 ((⟨[stoX k v fl e T], 1, 0⟩ : Ms)).cas, .int .i64 ((⟨[stoX k v fl e T], 1, 0⟩ : Ms)).fl]), (P1, 28, [.int .i64 2, .int .i64 0, .string k, .string v, .int .u32 fl, .int .i64 e, .bool false, .int .u64 0, .bool false, .int .u64 0, .int .u64 0, .bool false, .bool false, .int .i64 0, .int .i64 (-1), .bool false])] [(.slice a2 n2 q2, ((⟨[stoX k v fl e T], 1, 0⟩ : Ms)).its)] B48) := hid (HT46.out.step hb48)
          refine hK _ _ (fun _ => by rw [HSd.out]; exact HT48.out.1.get 3 rfl) ?_
          clear hK K hb48
          refine wpAnyE_one (i := 6) rfl (by kernel_rfl) (fun K hK => ?_)
          · go_simp
            refine (apply_bx (now := T2) (c := cGet k) (most := 65536) HT48.out (HT48.out.its 0 rfl) hfit (by decide) (by decide) hgok HV.out hr2 (cs := #[.int .i64 5, .string ⟨#[]⟩, .int .u32 0, .string ⟨#[]⟩, .int .i64 0, .int .u64 0, .int .i64 0, .bool false, .bool false, .int .u64 0, .bool false, .bool false, .bool false]) rfl).mono ?_
            rintro e B50 ⟨a50_, n50_, q50_, rfl, hb50⟩
            have HT50 : Hid (Bxr w [(R46, 35, [.int .i64 0, .string ⟨#[]⟩, .int .u32 0, .string ⟨#[]⟩, .int .i64 0, .int .u64 0, .int .i64 0, .bool false, .bool false, .int .u64 0, .bool false, .bool false, .bool false]), (R34, 25, [.slice none 0 0, .int .u64 0, .int .i64 0]), (P2 + 1, 35, [.int .i64 2, .string k, .int .u32 fl, .string v, .int .i64 (moment T e), .int .u64 1, .int .i64 0, .bool false, .bool false, .int .u64 0, .bool false, .bool false, .bool false]), (P2, 25, [.slice a2 n2 q2, .int .u64 ((⟨[stoX k v fl e T], 1, 0⟩ : Ms)).cas, .int .i64 ((⟨[stoX k v fl e T], 1, 0⟩ : Ms)).fl]), (P1, 28, [.int .i64 2, .int .i64 0, .string k, .string v, .int .u32 fl, .int .i64 e, .bool false, .int .u64 0, .bool false, .int .u64 0, .int .u64 0, .bool false, .bool false, .int .i64 0, .int .i64 (-1), .bool false])] [(.slice a50_ n50_ q50_, ((⟨[], 1, 0⟩ : Ms)).its), (.slice a2 n2 q2, ((⟨[stoX k v fl e T], 1, 0⟩ : Ms)).its)] B50) := hid hb50
            refine hK _ _ (fun _ => by rw [HSd.out]; exact HT50.out.1.get 3 rfl) ?_
            clear hK K hb50
            have hS : S B50 := by rw [HSd.out]; exact HT50.out.1.get 3 rfl
            refine wpAnyE_take (i := 7) (v := .tuple #[.agg #[.slice a50_ n50_ q50_, .int .u64 ((⟨[], 1, 0⟩ : Ms)).cas, .int .i64 ((⟨[], 1, 0⟩ : Ms)).fl], .agg #[.int .i64 5, .string ⟨#[]⟩, .int .u32 0, .string ⟨#[]⟩, .int .i64 0, .int .u64 0, .int .i64 0, .bool false, .bool false, .int .u64 0, .bool false, .bool false, .bool false]]) rfl (by kernel_rfl) (by kernel_rfl) (by kernel_rfl) (fun _ _ _ h => h) (by kernel_rfl) (by kernel_rfl) hS (Or.inl ⟨by rfl, ?_⟩) ?_
            · intro w' hw'
              go_simp
            refine wpAnyE_take (i := 8) (v := .agg #[.slice a50_ n50_ q50_, .int .u64 ((⟨[], 1, 0⟩ : Ms)).cas, .int .i64 ((⟨[], 1, 0⟩ : Ms)).fl]) rfl (by kernel_rfl) (by kernel_rfl) (by kernel_rfl) (fun _ _ _ h => h) (by kernel_rfl) (by kernel_rfl) hS (Or.inl ⟨by rfl, ?_⟩) ?_
            · intro w' hw'
              go_simp
            refine wpAnyE_take (i := 9) (v := .agg #[.int .i64 5, .string ⟨#[]⟩, .int .u32 0, .string ⟨#[]⟩, .int .i64 0, .int .u64 0, .int .i64 0, .bool false, .bool false, .int .u64 0, .bool false, .bool false, .bool false]) rfl (by kernel_rfl) (by kernel_rfl) (by kernel_rfl) (fun _ _ _ h => h) (by kernel_rfl) (by kernel_rfl) hS (Or.inl ⟨by rfl, ?_⟩) ?_
            · intro w' hw'
              go_simp
            clear hS
            have HL51_0 : Hid (Bxr w [(R46, 35, [.int .i64 0, .string ⟨#[]⟩, .int .u32 0, .string ⟨#[]⟩, .int .i64 0, .int .u64 0, .int .i64 0, .bool false, .bool false, .int .u64 0, .bool false, .bool false, .bool false]), (R34, 25, [.slice a50_ n50_ q50_, .int .u64 ((⟨[], 1, 0⟩ : Ms)).cas, .int .i64 ((⟨[], 1, 0⟩ : Ms)).fl]), (P2 + 1, 35, [.int .i64 2, .string k, .int .u32 fl, .string v, .int .i64 (moment T e), .int .u64 1, .int .i64 0, .bool false, .bool false, .int .u64 0, .bool false, .bool false, .bool false]), (P2, 25, [.slice a2 n2 q2, .int .u64 ((⟨[stoX k v fl e T], 1, 0⟩ : Ms)).cas, .int .i64 ((⟨[stoX k v fl e T], 1, 0⟩ : Ms)).fl]), (P1, 28, [.int .i64 2, .int .i64 0, .string k, .string v, .int .u32 fl, .int .i64 e, .bool false, .int .u64 0, .bool false, .int .u64 0, .int .u64 0, .bool false, .bool false, .int .i64 0, .int .i64 (-1), .bool false])] [(.slice a50_ n50_ q50_, ((⟨[], 1, 0⟩ : Ms)).its), (.slice a2 n2 q2, ((⟨[stoX k v fl e T], 1, 0⟩ : Ms)).its)] (B50.setCells (R34) 0 [.slice a50_ n50_ q50_, .int .u64 ((⟨[], 1, 0⟩ : Ms)).cas, .int .i64 ((⟨[], 1, 0⟩ : Ms)).fl])) := hid (HT50.out.setc 1 (vs := [.slice a50_ n50_ q50_, .int .u64 ((⟨[], 1, 0⟩ : Ms)).cas, .int .i64 ((⟨[], 1, 0⟩ : Ms)).fl]) rfl rfl)
            refine wpAnyE_one (i := 12) rfl (by kernel_rfl) (fun K hK => ?_)
            refine step_store_mid rfl 25 (.tmp 17) (.tmp 66) rfl (R34) 0 #[.slice a50_ n50_ q50_, .int .u64 ((⟨[], 1, 0⟩ : Ms)).cas, .int .i64 ((⟨[], 1, 0⟩ : Ms)).fl] (by go_simp) (by go_simp) (Blk.there (HT50.out.1.get 1 rfl) rfl) (by kernel_rfl) (ones (cs := [.slice a50_ n50_ q50_, .int .u64 ((⟨[], 1, 0⟩ : Ms)).cas, .int .i64 ((⟨[], 1, 0⟩ : Ms)).fl]) rfl) ?_
            refine hK _ (B50.setCells (R34) 0 [.slice a50_ n50_ q50_, .int .u64 ((⟨[], 1, 0⟩ : Ms)).cas, .int .i64 ((⟨[], 1, 0⟩ : Ms)).fl]) (fun _ => by rw [HSd.out]; exact HL51_0.out.1.get 3 rfl) ?_
            clear hK K
            generalize (B50.setCells (R34) 0 [.slice a50_ n50_ q50_, .int .u64 ((⟨[], 1, 0⟩ : Ms)).cas, .int .i64 ((⟨[], 1, 0⟩ : Ms)).fl]) = Y51 at *
            have HL51_1 : Hid (Bxr w [(R46, 35, [.int .i64 5, .string ⟨#[]⟩, .int .u32 0, .string ⟨#[]⟩, .int .i64 0, .int .u64 0, .int .i64 0, .bool false, .bool false, .int .u64 0, .bool false, .bool false, .bool false]), (R34, 25, [.slice a50_ n50_ q50_, .int .u64 ((⟨[], 1, 0⟩ : Ms)).cas, .int .i64 ((⟨[], 1, 0⟩ : Ms)).fl]), (P2 + 1, 35, [.int .i64 2, .string k, .int .u32 fl, .string v, .int .i64 (moment T e), .int .u64 1, .int .i64 0, .bool false, .bool false, .int .u64 0, .bool false, .bool false, .bool false]), (P2, 25, [.slice a2 n2 q2, .int .u64 ((⟨[stoX k v fl e T], 1, 0⟩ : Ms)).cas, .int .i64 ((⟨[stoX k v fl e T], 1, 0⟩ : Ms)).fl]), (P1, 28, [.int .i64 2, .int .i64 0, .string k, .string v, .int .u32 fl, .int .i64 e, .bool false, .int .u64 0, .bool false, .int .u64 0, .int .u64 0, .bool false, .bool false, .int .i64 0, .int .i64 (-1), .bool false])] [(.slice a50_ n50_ q50_, ((⟨[], 1, 0⟩ : Ms)).its), (.slice a2 n2 q2, ((⟨[stoX k v fl e T], 1, 0⟩ : Ms)).its)] (Y51.setCells (R46) 0 [.int .i64 5, .string ⟨#[]⟩, .int .u32 0, .string ⟨#[]⟩, .int .i64 0, .int .u64 0, .int .i64 0, .bool false, .bool false, .int .u64 0, .bool false, .bool false, .bool false])) := hid (HL51_0.out.setc 0 (vs := [.int .i64 5, .string ⟨#[]⟩, .int .u32 0, .string ⟨#[]⟩, .int .i64 0, .int .u64 0, .int .i64 0, .bool false, .bool false, .int .u64 0, .bool false, .bool false, .bool false]) rfl rfl)
            refine wpAnyE_one (i := 13) rfl (by kernel_rfl) (fun K hK => ?_)
            refine step_store_mid rfl 35 (.tmp 18) (.tmp 67) rfl (R46) 0 #[.int .i64 5, .string ⟨#[]⟩, .int .u32 0, .string ⟨#[]⟩, .int .i64 0, .int .u64 0, .int .i64 0, .bool false, .bool false, .int .u64 0, .bool false, .bool false, .bool false] (by go_simp) (by go_simp) (Blk.there (HL51_0.out.1.get 0 rfl) rfl) (by kernel_rfl) (ones (cs := [.int .i64 5, .string ⟨#[]⟩, .int .u32 0, .string ⟨#[]⟩, .int .i64 0, .int .u64 0, .int .i64 0, .bool false, .bool false, .int .u64 0, .bool false, .bool false, .bool false]) rfl) ?_
            refine hK _ (Y51.setCells (R46) 0 [.int .i64 5, .string ⟨#[]⟩, .int .u32 0, .string ⟨#[]⟩, .int .i64 0, .int .u64 0, .int .i64 0, .bool false, .bool false, .int .u64 0, .bool false, .bool false, .bool false]) (fun h => (by cases (show true = false from h))) (wpAnyE_done (by kernel_rfl) ?_ _)
            clear hK K
            generalize (Y51.setCells (R46) 0 [.int .i64 5, .string ⟨#[]⟩, .int .u32 0, .string ⟨#[]⟩, .int .i64 0, .int .u64 0, .int .i64 0, .bool false, .bool false, .int .u64 0, .bool false, .bool false, .bool false]) = Z51 at *
            go_wp2_with fail
            go_meet
            exact ⟨R34, R46, a50_, n50_, q50_, rfl, rfl, HL51_1⟩
    · go_simp
      obtain ⟨R52, hR52⟩ : ∃ R, A0.heap.size = R := ⟨_, rfl⟩
      obtain ⟨B52, hB52⟩ : ∃ B, A0.alloc (.cells #[.int .i64 0, .string ⟨#[]⟩, .int .u32 0, .string ⟨#[]⟩, .int .i64 0, .int .u64 0, .int .i64 0, .bool false, .bool false, .int .u64 0, .bool false, .bool false, .bool false] 35) = B := ⟨_, rfl⟩
      have HT52 : Hid (Bxr w [(R52, 35, [.int .i64 0, .string ⟨#[]⟩, .int .u32 0, .string ⟨#[]⟩, .int .i64 0, .int .u64 0, .int .i64 0, .bool false, .bool false, .int .u64 0, .bool false, .bool false, .bool false]), (P2 + 1, 35, [.int .i64 2, .string k, .int .u32 fl, .string v, .int .i64 (moment T e), .int .u64 1, .int .i64 0, .bool false, .bool false, .int .u64 0, .bool false, .bool false, .bool false]), (P2, 25, [.slice a2 n2 q2, .int .u64 ((⟨[stoX k v fl e T], 1, 0⟩ : Ms)).cas, .int .i64 ((⟨[stoX k v fl e T], 1, 0⟩ : Ms)).fl]), (P1, 28, [.int .i64 2, .int .i64 0, .string k, .string v, .int .u32 fl, .int .i64 e, .bool false, .int .u64 0, .bool false, .int .u64 0, .int .u64 0, .bool false, .bool false, .int .i64 0, .int .i64 (-1), .bool false])] [(.slice a2 n2 q2, ((⟨[stoX k v fl e T], 1, 0⟩ : Ms)).its)] B52) := hid (by
        have := HA0.out.new #[.int .i64 0, .string ⟨#[]⟩, .int .u32 0, .string ⟨#[]⟩, .int .i64 0, .int .u64 0, .int .i64 0, .bool false, .bool false, .int .u64 0, .bool false, .bool false, .bool false] 35
        rw [hR52, hB52] at this; exact this)
      refine hK _ _ (fun _ => by rw [HSd.out]; first | exact HT52.out.1.get 2 rfl | (rw [hB52]; exact HT52.out.1.get 2 rfl)) ?_
      clear hK K
      try rw [hB52]
      try rw [hR52]
      clear hB52 hR52
      refine wpAnyE_two (i := 5) (j := 10) rfl rfl (by kernel_rfl) (fun K hK => ?_) (fun K hK => ?_)
      · go_simp
        refine (get_any k B52).mono ?_
        rintro e B54 ⟨rfl, hb54⟩
        have HT54 : Hid (Bxr w [(R52, 35, [.int .i64 0, .string ⟨#[]⟩, .int .u32 0, .string ⟨#[]⟩, .int .i64 0, .int .u64 0, .int .i64 0, .bool false, .bool false, .int .u64 0, .bool false, .bool false, .bool false]), (P2 + 1, 35, [.int .i64 2, .string k, .int .u32 fl, .string v, .int .i64 (moment T e), .int .u64 1, .int .i64 0, .bool false, .bool false, .int .u64 0, .bool false, .bool false, .bool false]), (P2, 25, [.slice a2 n2 q2, .int .u64 ((⟨[stoX k v fl e T], 1, 0⟩ : Ms)).cas, .int .i64 ((⟨[stoX k v fl e T], 1, 0⟩ : Ms)).fl]), (P1, 28, [.int .i64 2, .int .i64 0, .string k, .string v, .int .u32 fl, .int .i64 e, .bool false, .int .u64 0, .bool false, .int .u64 0, .int .u64 0, .bool false, .bool false, .int .i64 0, .int .i64 (-1), .bool false])] [(.slice a2 n2 q2, ((⟨[stoX k v fl e T], 1, 0⟩ : Ms)).its)] B54) := hid (HT52.out.step hb54)
        refine hK _ _ (fun _ => by rw [HSd.out]; exact HT54.out.1.get 2 rfl) ?_
        clear hK K hb54
        refine wpAnyE_two (i := 6) (j := 10) rfl rfl (by kernel_rfl) (fun K hK => ?_) (fun K hK => ?_)
        · go_simp
          refine (apply_bx (now := T2) (c := cGet k) (most := 65536) HT54.out (HT54.out.its 0 rfl) hfit (by decide) (by decide) hgok HV.out hr2 (cs := #[.int .i64 5, .string ⟨#[]⟩, .int .u32 0, .string ⟨#[]⟩, .int .i64 0, .int .u64 0, .int .i64 0, .bool false, .bool false, .int .u64 0, .bool false, .bool false, .bool false]) rfl).mono ?_
          rintro e B56 ⟨a56_, n56_, q56_, rfl, hb56⟩
          have HT56 : Hid (Bxr w [(R52, 35, [.int .i64 0, .string ⟨#[]⟩, .int .u32 0, .string ⟨#[]⟩, .int .i64 0, .int .u64 0, .int .i64 0, .bool false, .bool false, .int .u64 0, .bool false, .bool false, .bool false]), (P2 + 1, 35, [.int .i64 2, .string k, .int .u32 fl, .string v, .int .i64 (moment T e), .int .u64 1, .int .i64 0, .bool false, .bool false, .int .u64 0, .bool false, .bool false, .bool false]), (P2, 25, [.slice a2 n2 q2, .int .u64 ((⟨[stoX k v fl e T], 1, 0⟩ : Ms)).cas, .int .i64 ((⟨[stoX k v fl e T], 1, 0⟩ : Ms)).fl]), (P1, 28, [.int .i64 2, .int .i64 0, .string k, .string v, .int .u32 fl, .int .i64 e, .bool false, .int .u64 0, .bool false, .int .u64 0, .int .u64 0, .bool false, .bool false, .int .i64 0, .int .i64 (-1), .bool false])] [(.slice a56_ n56_ q56_, ((⟨[], 1, 0⟩ : Ms)).its), (.slice a2 n2 q2, ((⟨[stoX k v fl e T], 1, 0⟩ : Ms)).its)] B56) := hid hb56
          refine hK _ _ (fun _ => by rw [HSd.out]; exact HT56.out.1.get 2 rfl) ?_
          clear hK K hb56
          have hS : S B56 := by rw [HSd.out]; exact HT56.out.1.get 2 rfl
          refine wpAnyE_take (i := 7) (v := .tuple #[.agg #[.slice a56_ n56_ q56_, .int .u64 ((⟨[], 1, 0⟩ : Ms)).cas, .int .i64 ((⟨[], 1, 0⟩ : Ms)).fl], .agg #[.int .i64 5, .string ⟨#[]⟩, .int .u32 0, .string ⟨#[]⟩, .int .i64 0, .int .u64 0, .int .i64 0, .bool false, .bool false, .int .u64 0, .bool false, .bool false, .bool false]]) rfl (by kernel_rfl) (by kernel_rfl) (by kernel_rfl) (fun _ _ _ h => h) (by kernel_rfl) (by kernel_rfl) hS (Or.inl ⟨by rfl, ?_⟩) ?_
          · intro w' hw'
            go_simp
          refine wpAnyE_take (i := 8) (v := .agg #[.slice a56_ n56_ q56_, .int .u64 ((⟨[], 1, 0⟩ : Ms)).cas, .int .i64 ((⟨[], 1, 0⟩ : Ms)).fl]) rfl (by kernel_rfl) (by kernel_rfl) (by kernel_rfl) (fun _ _ _ h => h) (by kernel_rfl) (by kernel_rfl) hS (Or.inl ⟨by rfl, ?_⟩) ?_
          · intro w' hw'
            go_simp
          refine wpAnyE_take (i := 9) (v := .agg #[.int .i64 5, .string ⟨#[]⟩, .int .u32 0, .string ⟨#[]⟩, .int .i64 0, .int .u64 0, .int .i64 0, .bool false, .bool false, .int .u64 0, .bool false, .bool false, .bool false]) rfl (by kernel_rfl) (by kernel_rfl) (by kernel_rfl) (fun _ _ _ h => h) (by kernel_rfl) (by kernel_rfl) hS (Or.inl ⟨by rfl, ?_⟩) ?_
          · intro w' hw'
            go_simp
          clear hS
          refine wpAnyE_one (i := 10) rfl (by kernel_rfl) (fun K hK => ?_)
          · go_simp
            obtain ⟨R58, hR58⟩ : ∃ R, B56.heap.size = R := ⟨_, rfl⟩
            obtain ⟨B58, hB58⟩ : ∃ B, B56.alloc (.cells #[.slice none 0 0, .int .u64 0, .int .i64 0] 25) = B := ⟨_, rfl⟩
            have HT58 : Hid (Bxr w [(R58, 25, [.slice none 0 0, .int .u64 0, .int .i64 0]), (R52, 35, [.int .i64 0, .string ⟨#[]⟩, .int .u32 0, .string ⟨#[]⟩, .int .i64 0, .int .u64 0, .int .i64 0, .bool false, .bool false, .int .u64 0, .bool false, .bool false, .bool false]), (P2 + 1, 35, [.int .i64 2, .string k, .int .u32 fl, .string v, .int .i64 (moment T e), .int .u64 1, .int .i64 0, .bool false, .bool false, .int .u64 0, .bool false, .bool false, .bool false]), (P2, 25, [.slice a2 n2 q2, .int .u64 ((⟨[stoX k v fl e T], 1, 0⟩ : Ms)).cas, .int .i64 ((⟨[stoX k v fl e T], 1, 0⟩ : Ms)).fl]), (P1, 28, [.int .i64 2, .int .i64 0, .string k, .string v, .int .u32 fl, .int .i64 e, .bool false, .int .u64 0, .bool false, .int .u64 0, .int .u64 0, .bool false, .bool false, .int .i64 0, .int .i64 (-1), .bool false])] [(.slice a56_ n56_ q56_, ((⟨[], 1, 0⟩ : Ms)).its), (.slice a2 n2 q2, ((⟨[stoX k v fl e T], 1, 0⟩ : Ms)).its)] B58) := hid (by
              have := HT56.out.new #[.slice none 0 0, .int .u64 0, .int .i64 0] 25
              rw [hR58, hB58] at this; exact this)
            refine hK _ _ (fun _ => by rw [HSd.out]; first | exact HT58.out.1.get 3 rfl | (rw [hB58]; exact HT58.out.1.get 3 rfl)) ?_
            clear hK K
            try rw [hB58]
            try rw [hR58]
            clear hB58 hR58
            have HL59_0 : Hid (Bxr w [(R58, 25, [.slice a56_ n56_ q56_, .int .u64 ((⟨[], 1, 0⟩ : Ms)).cas, .int .i64 ((⟨[], 1, 0⟩ : Ms)).fl]), (R52, 35, [.int .i64 0, .string ⟨#[]⟩, .int .u32 0, .string ⟨#[]⟩, .int .i64 0, .int .u64 0, .int .i64 0, .bool false, .bool false, .int .u64 0, .bool false, .bool false, .bool false]), (P2 + 1, 35, [.int .i64 2, .string k, .int .u32 fl, .string v, .int .i64 (moment T e), .int .u64 1, .int .i64 0, .bool false, .bool false, .int .u64 0, .bool false, .bool false, .bool false]), (P2, 25, [.slice a2 n2 q2, .int .u64 ((⟨[stoX k v fl e T], 1, 0⟩ : Ms)).cas, .int .i64 ((⟨[stoX k v fl e T], 1, 0⟩ : Ms)).fl]), (P1, 28, [.int .i64 2, .int .i64 0, .string k, .string v, .int .u32 fl, .int .i64 e, .bool false, .int .u64 0, .bool false, .int .u64 0, .int .u64 0, .bool false, .bool false, .int .i64 0, .int .i64 (-1), .bool false])] [(.slice a56_ n56_ q56_, ((⟨[], 1, 0⟩ : Ms)).its), (.slice a2 n2 q2, ((⟨[stoX k v fl e T], 1, 0⟩ : Ms)).its)] (B58.setCells (R58) 0 [.slice a56_ n56_ q56_, .int .u64 ((⟨[], 1, 0⟩ : Ms)).cas, .int .i64 ((⟨[], 1, 0⟩ : Ms)).fl])) := hid (HT58.out.setc 0 (vs := [.slice a56_ n56_ q56_, .int .u64 ((⟨[], 1, 0⟩ : Ms)).cas, .int .i64 ((⟨[], 1, 0⟩ : Ms)).fl]) rfl rfl)
            refine wpAnyE_one (i := 12) rfl (by kernel_rfl) (fun K hK => ?_)
            refine step_store_mid rfl 25 (.tmp 17) (.tmp 66) rfl (R58) 0 #[.slice a56_ n56_ q56_, .int .u64 ((⟨[], 1, 0⟩ : Ms)).cas, .int .i64 ((⟨[], 1, 0⟩ : Ms)).fl] (by go_simp) (by go_simp) (Blk.there (HT58.out.1.get 0 rfl) rfl) (by kernel_rfl) (ones (cs := [.slice a56_ n56_ q56_, .int .u64 ((⟨[], 1, 0⟩ : Ms)).cas, .int .i64 ((⟨[], 1, 0⟩ : Ms)).fl]) rfl) ?_
            refine hK _ (B58.setCells (R58) 0 [.slice a56_ n56_ q56_, .int .u64 ((⟨[], 1, 0⟩ : Ms)).cas, .int .i64 ((⟨[], 1, 0⟩ : Ms)).fl]) (fun _ => by rw [HSd.out]; exact HL59_0.out.1.get 3 rfl) ?_
            clear hK K
            generalize (B58.setCells (R58) 0 [.slice a56_ n56_ q56_, .int .u64 ((⟨[], 1, 0⟩ : Ms)).cas, .int .i64 ((⟨[], 1, 0⟩ : Ms)).fl]) = Y59 at *
            have HL59_1 : Hid (Bxr w [(R58, 25, [.slice a56_ n56_ q56_, .int .u64 ((⟨[], 1, 0⟩ : Ms)).cas, .int .i64 ((⟨[], 1, 0⟩ : Ms)).fl]), (R52, 35, [.int .i64 5, .string ⟨#[]⟩, .int .u32 0, .string ⟨#[]⟩, .int .i64 0, .int .u64 0, .int .i64 0, .bool false, .bool false, .int .u64 0, .bool false, .bool false, .bool false]), (P2 + 1, 35, [.int .i64 2, .string k, .int .u32 fl, .string v, .int .i64 (moment T e), .int .u64 1, .int .i64 0, .bool false, .bool false, .int .u64 0, .bool false, .bool false, .bool false]), (P2, 25, [.slice a2 n2 q2, .int .u64 ((⟨[stoX k v fl e T], 1, 0⟩ : Ms)).cas, .int .i64 ((⟨[stoX k v fl e T], 1, 0⟩ : Ms)).fl]), (P1, 28, [.int .i64 2, .int .i64 0, .string k, .string v, .int .u32 fl, .int .i64 e, .bool false, .int .u64 0, .bool false, .int .u64 0, .int .u64 0, .bool false, .bool false, .int .i64 0, .int .i64 (-1), .bool false])] [(.slice a56_ n56_ q56_, ((⟨[], 1, 0⟩ : Ms)).its), (.slice a2 n2 q2, ((⟨[stoX k v fl e T], 1, 0⟩ : Ms)).its)] (Y59.setCells (R52) 0 [.int .i64 5, .string ⟨#[]⟩, .int .u32 0, .string ⟨#[]⟩, .int .i64 0, .int .u64 0, .int .i64 0, .bool false, .bool false, .int .u64 0, .bool false, .bool false, .bool false])) := hid (HL59_0.out.setc 1 (vs := [.int .i64 5, .string ⟨#[]⟩, .int .u32 0, .string ⟨#[]⟩, .int .i64 0, .int .u64 0, .int .i64 0, .bool false, .bool false, .int .u64 0, .bool false, .bool false, .bool false]) rfl rfl)
            refine wpAnyE_one (i := 13) rfl (by kernel_rfl) (fun K hK => ?_)
            refine step_store_mid rfl 35 (.tmp 18) (.tmp 67) rfl (R52) 0 #[.int .i64 5, .string ⟨#[]⟩, .int .u32 0, .string ⟨#[]⟩, .int .i64 0, .int .u64 0, .int .i64 0, .bool false, .bool false, .int .u64 0, .bool false, .bool false, .bool false] (by go_simp) (by go_simp) (Blk.there (HL59_0.out.1.get 1 rfl) rfl) (by kernel_rfl) (ones (cs := [.int .i64 5, .string ⟨#[]⟩, .int .u32 0, .string ⟨#[]⟩, .int .i64 0, .int .u64 0, .int .i64 0, .bool false, .bool false, .int .u64 0, .bool false, .bool false, .bool false]) rfl) ?_
            refine hK _ (Y59.setCells (R52) 0 [.int .i64 5, .string ⟨#[]⟩, .int .u32 0, .string ⟨#[]⟩, .int .i64 0, .int .u64 0, .int .i64 0, .bool false, .bool false, .int .u64 0, .bool false, .bool false, .bool false]) (fun h => (by cases (show true = false from h))) (wpAnyE_done (by kernel_rfl) ?_ _)
            clear hK K
            generalize (Y59.setCells (R52) 0 [.int .i64 5, .string ⟨#[]⟩, .int .u32 0, .string ⟨#[]⟩, .int .i64 0, .int .u64 0, .int .i64 0, .bool false, .bool false, .int .u64 0, .bool false, .bool false, .bool false]) = Z59 at *
            go_wp2_with fail
            go_meet
            exact ⟨R58, R52, a56_, n56_, q56_, rfl, rfl, hid (Bxr.swap HL59_1.out)⟩
        · go_simp
          obtain ⟨R60, hR60⟩ : ∃ R, B54.heap.size = R := ⟨_, rfl⟩
          obtain ⟨B60, hB60⟩ : ∃ B, B54.alloc (.cells #[.slice none 0 0, .int .u64 0, .int .i64 0] 25) = B := ⟨_, rfl⟩
          have HT60 : Hid (Bxr w [(R60, 25, [.slice none 0 0, .int .u64 0, .int .i64 0]), (R52, 35, [.int .i64 0, .string ⟨#[]⟩, .int .u32 0, .string ⟨#[]⟩, .int .i64 0, .int .u64 0, .int .i64 0, .bool false, .bool false, .int .u64 0, .bool false, .bool false, .bool false]), (P2 + 1, 35, [.int .i64 2, .string k, .int .u32 fl, .string v, .int .i64 (moment T e), .int .u64 1, .int .i64 0, .bool false, .bool false, .int .u64 0, .bool false, .bool false, .bool false]), (P2, 25, [.slice a2 n2 q2, .int .u64 ((⟨[stoX k v fl e T], 1, 0⟩ : Ms)).cas, .int .i64 ((⟨[stoX k v fl e T], 1, 0⟩ : Ms)).fl]), (P1, 28, [.int .i64 2, .int .i64 0, .string k, .string v, .int .u32 fl, .int .i64 e, .bool false, .int .u64 0, .bool false, .int .u64 0, .int .u64 0, .bool false, .bool false, .int .i64 0, .int .i64 (-1), .bool false])] [(.slice a2 n2 q2, ((⟨[stoX k v fl e T], 1, 0⟩ : Ms)).its)] B60) := hid (by
            have := HT54.out.new #[.slice none 0 0, .int .u64 0, .int .i64 0] 25
            rw [hR60, hB60] at this; exact this)
          refine hK _ _ (fun _ => by rw [HSd.out]; first | exact HT60.out.1.get 3 rfl | (rw [hB60]; exact HT60.out.1.get 3 rfl)) ?_
          clear hK K
          try rw [hB60]
          try rw [hR60]
          clear hB60 hR60
          refine wpAnyE_one (i := 6) rfl (by kernel_rfl) (fun K hK => ?_)
          · go_simp
            refine (apply_bx (now := T2) (c := cGet k) (most := 65536) HT60.out (HT60.out.its 0 rfl) hfit (by decide) (by decide) hgok HV.out hr2 (cs := #[.int .i64 5, .string ⟨#[]⟩, .int .u32 0, .string ⟨#[]⟩, .int .i64 0, .int .u64 0, .int .i64 0, .bool false, .bool false, .int .u64 0, .bool false, .bool false, .bool false]) rfl).mono ?_
            rintro e B62 ⟨a62_, n62_, q62_, rfl, hb62⟩
            have HT62 : Hid (Bxr w [(R60, 25, [.slice none 0 0, .int .u64 0, .int .i64 0]), (R52, 35, [.int .i64 0, .string ⟨#[]⟩, .int .u32 0, .string ⟨#[]⟩, .int .i64 0, .int .u64 0, .int .i64 0, .bool false, .bool false, .int .u64 0, .bool false, .bool false, .bool false]), (P2 + 1, 35, [.int .i64 2, .string k, .int .u32 fl, .string v, .int .i64 (moment T e), .int .u64 1, .int .i64 0, .bool false, .bool false, .int .u64 0, .bool false, .bool false, .bool false]), (P2, 25, [.slice a2 n2 q2, .int .u64 ((⟨[stoX k v fl e T], 1, 0⟩ : Ms)).cas, .int .i64 ((⟨[stoX k v fl e T], 1, 0⟩ : Ms)).fl]), (P1, 28, [.int .i64 2, .int .i64 0, .string k, .string v, .int .u32 fl, .int .i64 e, .bool false, .int .u64 0, .bool false, .int .u64 0, .int .u64 0, .bool false, .bool false, .int .i64 0, .int .i64 (-1), .bool false])] [(.slice a62_ n62_ q62_, ((⟨[], 1, 0⟩ : Ms)).its), (.slice a2 n2 q2, ((⟨[stoX k v fl e T], 1, 0⟩ : Ms)).its)] B62) := hid hb62
            refine hK _ _ (fun _ => by rw [HSd.out]; exact HT62.out.1.get 3 rfl) ?_
            clear hK K hb62
            have hS : S B62 := by rw [HSd.out]; exact HT62.out.1.get 3 rfl
            refine wpAnyE_take (i := 7) (v := .tuple #[.agg #[.slice a62_ n62_ q62_, .int .u64 ((⟨[], 1, 0⟩ : Ms)).cas, .int .i64 ((⟨[], 1, 0⟩ : Ms)).fl], .agg #[.int .i64 5, .string ⟨#[]⟩, .int .u32 0, .string ⟨#[]⟩, .int .i64 0, .int .u64 0, .int .i64 0, .bool false, .bool false, .int .u64 0, .bool false, .bool false, .bool false]]) rfl (by kernel_rfl) (by kernel_rfl) (by kernel_rfl) (fun _ _ _ h => h) (by kernel_rfl) (by kernel_rfl) hS (Or.inl ⟨by rfl, ?_⟩) ?_
            · intro w' hw'
              go_simp
            refine wpAnyE_take (i := 8) (v := .agg #[.slice a62_ n62_ q62_, .int .u64 ((⟨[], 1, 0⟩ : Ms)).cas, .int .i64 ((⟨[], 1, 0⟩ : Ms)).fl]) rfl (by kernel_rfl) (by kernel_rfl) (by kernel_rfl) (fun _ _ _ h => h) (by kernel_rfl) (by kernel_rfl) hS (Or.inl ⟨by rfl, ?_⟩) ?_
            · intro w' hw'
              go_simp
            refine wpAnyE_take (i := 9) (v := .agg #[.int .i64 5, .string ⟨#[]⟩, .int .u32 0, .string ⟨#[]⟩, .int .i64 0, .int .u64 0, .int .i64 0, .bool false, .bool false, .int .u64 0, .bool false, .bool false, .bool false]) rfl (by kernel_rfl) (by kernel_rfl) (by kernel_rfl) (fun _ _ _ h => h) (by kernel_rfl) (by kernel_rfl) hS (Or.inl ⟨by rfl, ?_⟩) ?_
            · intro w' hw'
              go_simp
            clear hS
            have HL63_0 : Hid (Bxr w [(R60, 25, [.slice a62_ n62_ q62_, .int .u64 ((⟨[], 1, 0⟩ : Ms)).cas, .int .i64 ((⟨[], 1, 0⟩ : Ms)).fl]), (R52, 35, [.int .i64 0, .string ⟨#[]⟩, .int .u32 0, .string ⟨#[]⟩, .int .i64 0, .int .u64 0, .int .i64 0, .bool false, .bool false, .int .u64 0, .bool false, .bool false, .bool false]), (P2 + 1, 35, [.int .i64 2, .string k, .int .u32 fl, .string v, .int .i64 (moment T e), .int .u64 1, .int .i64 0, .bool false, .bool false, .int .u64 0, .bool false, .bool false, .bool false]), (P2, 25, [.slice a2 n2 q2, .int .u64 ((⟨[stoX k v fl e T], 1, 0⟩ : Ms)).cas, .int .i64 ((⟨[stoX k v fl e T], 1, 0⟩ : Ms)).fl]), (P1, 28, [.int .i64 2, .int .i64 0, .string k, .string v, .int .u32 fl, .int .i64 e, .bool false, .int .u64 0, .bool false, .int .u64 0, .int .u64 0, .bool false, .bool false, .int .i64 0, .int .i64 (-1), .bool false])] [(.slice a62_ n62_ q62_, ((⟨[], 1, 0⟩ : Ms)).its), (.slice a2 n2 q2, ((⟨[stoX k v fl e T], 1, 0⟩ : Ms)).its)] (B62.setCells (R60) 0 [.slice a62_ n62_ q62_, .int .u64 ((⟨[], 1, 0⟩ : Ms)).cas, .int .i64 ((⟨[], 1, 0⟩ : Ms)).fl])) := hid (HT62.out.setc 0 (vs := [.slice a62_ n62_ q62_, .int .u64 ((⟨[], 1, 0⟩ : Ms)).cas, .int .i64 ((⟨[], 1, 0⟩ : Ms)).fl]) rfl rfl)
            refine wpAnyE_one (i := 12) rfl (by kernel_rfl) (fun K hK => ?_)
            refine step_store_mid rfl 25 (.tmp 17) (.tmp 66) rfl (R60) 0 #[.slice a62_ n62_ q62_, .int .u64 ((⟨[], 1, 0⟩ : Ms)).cas, .int .i64 ((⟨[], 1, 0⟩ : Ms)).fl] (by go_simp) (by go_simp) (Blk.there (HT62.out.1.get 0 rfl) rfl) (by kernel_rfl) (ones (cs := [.slice a62_ n62_ q62_, .int .u64 ((⟨[], 1, 0⟩ : Ms)).cas, .int .i64 ((⟨[], 1, 0⟩ : Ms)).fl]) rfl) ?_
            refine hK _ (B62.setCells (R60) 0 [.slice a62_ n62_ q62_, .int .u64 ((⟨[], 1, 0⟩ : Ms)).cas, .int .i64 ((⟨[], 1, 0⟩ : Ms)).fl]) (fun _ => by rw [HSd.out]; exact HL63_0.out.1.get 3 rfl) ?_
            clear hK K
            generalize (B62.setCells (R60) 0 [.slice a62_ n62_ q62_, .int .u64 ((⟨[], 1, 0⟩ : Ms)).cas, .int .i64 ((⟨[], 1, 0⟩ : Ms)).fl]) = Y63 at *
            have HL63_1 : Hid (Bxr w [(R60, 25, [.slice a62_ n62_ q62_, .int .u64 ((⟨[], 1, 0⟩ : Ms)).cas, .int .i64 ((⟨[], 1, 0⟩ : Ms)).fl]), (R52, 35, [.int .i64 5, .string ⟨#[]⟩, .int .u32 0, .string ⟨#[]⟩, .int .i64 0, .int .u64 0, .int .i64 0, .bool false, .bool false, .int .u64 0, .bool false, .bool false, .bool false]), (P2 + 1, 35, [.int .i64 2, .string k, .int .u32 fl, .string v, .int .i64 (moment T e), .int .u64 1, .int .i64 0, .bool false, .bool false, .int .u64 0, .bool false, .bool false, .bool false]), (P2, 25, [.slice a2 n2 q2, .int .u64 ((⟨[stoX k v fl e T], 1, 0⟩ : Ms)).cas, .int .i64 ((⟨[stoX k v fl e T], 1, 0⟩ : Ms)).fl]), (P1, 28, [.int .i64 2, .int .i64 0, .string k, .string v, .int .u32 fl, .int .i64 e, .bool false, .int .u64 0, .bool false, .int .u64 0, .int .u64 0, .bool false, .bool false, .int .i64 0, .int .i64 (-1), .bool false])] [(.slice a62_ n62_ q62_, ((⟨[], 1, 0⟩ : Ms)).its), (.slice a2 n2 q2, ((⟨[stoX k v fl e T], 1, 0⟩ : Ms)).its)] (Y63.setCells (R52) 0 [.int .i64 5, .string ⟨#[]⟩, .int .u32 0, .string ⟨#[]⟩, .int .i64 0, .int .u64 0, .int .i64 0, .bool false, .bool false, .int .u64 0, .bool false, .bool false, .bool false])) := hid (HL63_0.out.setc 1 (vs := [.int .i64 5, .string ⟨#[]⟩, .int .u32 0, .string ⟨#[]⟩, .int .i64 0, .int .u64 0, .int .i64 0, .bool false, .bool false, .int .u64 0, .bool false, .bool false, .bool false]) rfl rfl)
            refine wpAnyE_one (i := 13) rfl (by kernel_rfl) (fun K hK => ?_)
            refine step_store_mid rfl 35 (.tmp 18) (.tmp 67) rfl (R52) 0 #[.int .i64 5, .string ⟨#[]⟩, .int .u32 0, .string ⟨#[]⟩, .int .i64 0, .int .u64 0, .int .i64 0, .bool false, .bool false, .int .u64 0, .bool false, .bool false, .bool false] (by go_simp) (by go_simp) (Blk.there (HL63_0.out.1.get 1 rfl) rfl) (by kernel_rfl) (ones (cs := [.int .i64 5, .string ⟨#[]⟩, .int .u32 0, .string ⟨#[]⟩, .int .i64 0, .int .u64 0, .int .i64 0, .bool false, .bool false, .int .u64 0, .bool false, .bool false, .bool false]) rfl) ?_
            refine hK _ (Y63.setCells (R52) 0 [.int .i64 5, .string ⟨#[]⟩, .int .u32 0, .string ⟨#[]⟩, .int .i64 0, .int .u64 0, .int .i64 0, .bool false, .bool false, .int .u64 0, .bool false, .bool false, .bool false]) (fun h => (by cases (show true = false from h))) (wpAnyE_done (by kernel_rfl) ?_ _)
            clear hK K
            generalize (Y63.setCells (R52) 0 [.int .i64 5, .string ⟨#[]⟩, .int .u32 0, .string ⟨#[]⟩, .int .i64 0, .int .u64 0, .int .i64 0, .bool false, .bool false, .int .u64 0, .bool false, .bool false, .bool false]) = Z63 at *
            go_wp2_with fail
            go_meet
            exact ⟨R60, R52, a62_, n62_, q62_, rfl, rfl, hid (Bxr.swap HL63_1.out)⟩
      · go_simp
        obtain ⟨R64, hR64⟩ : ∃ R, B52.heap.size = R := ⟨_, rfl⟩
        obtain ⟨B64, hB64⟩ : ∃ B, B52.alloc (.cells #[.slice none 0 0, .int .u64 0, .int .i64 0] 25) = B := ⟨_, rfl⟩
        have HT64 : Hid (Bxr w [(R64, 25, [.slice none 0 0, .int .u64 0, .int .i64 0]), (R52, 35, [.int .i64 0, .string ⟨#[]⟩, .int .u32 0, .string ⟨#[]⟩, .int .i64 0, .int .u64 0, .int .i64 0, .bool false, .bool false, .int .u64 0, .bool false, .bool false, .bool false]), (P2 + 1, 35, [.int .i64 2, .string k, .int .u32 fl, .string v, .int .i64 (moment T e), .int .u64 1, .int .i64 0, .bool false, .bool false, .int .u64 0, .bool false, .bool false, .bool false]), (P2, 25, [.slice a2 n2 q2, .int .u64 ((⟨[stoX k v fl e T], 1, 0⟩ : Ms)).cas, .int .i64 ((⟨[stoX k v fl e T], 1, 0⟩ : Ms)).fl]), (P1, 28, [.int .i64 2, .int .i64 0, .string k, .string v, .int .u32 fl, .int .i64 e, .bool false, .int .u64 0, .bool false, .int .u64 0, .int .u64 0, .bool false, .bool false, .int .i64 0, .int .i64 (-1), .bool false])] [(.slice a2 n2 q2, ((⟨[stoX k v fl e T], 1, 0⟩ : Ms)).its)] B64) := hid (by
          have := HT52.out.new #[.slice none 0 0, .int .u64 0, .int .i64 0] 25
          rw [hR64, hB64] at this; exact this)
        refine hK _ _ (fun _ => by rw [HSd.out]; first | exact HT64.out.1.get 3 rfl | (rw [hB64]; exact HT64.out.1.get 3 rfl)) ?_
        clear hK K
        try rw [hB64]
        try rw [hR64]
        clear hB64 hR64
        refine wpAnyE_one (i := 5) rfl (by kernel_rfl) (fun K hK => ?_)
        · go_simp
          refine (get_any k B64).mono ?_
          rintro e B66 ⟨rfl, hb66⟩
          have HT66 : Hid (Bxr w [(R64, 25, [.slice none 0 0, .int .u64 0, .int .i64 0]), (R52, 35, [.int .i64 0, .string ⟨#[]⟩, .int .u32 0, .string ⟨#[]⟩, .int .i64 0, .int .u64 0, .int .i64 0, .bool false, .bool false, .int .u64 0, .bool false, .bool false, .bool false]), (P2 + 1, 35, [.int .i64 2, .string k, .int .u32 fl, .string v, .int .i64 (moment T e), .int .u64 1, .int .i64 0, .bool false, .bool false, .int .u64 0, .bool false, .bool false, .bool false]), (P2, 25, [.slice a2 n2 q2, .int .u64 ((⟨[stoX k v fl e T], 1, 0⟩ : Ms)).cas, .int .i64 ((⟨[stoX k v fl e T], 1, 0⟩ : Ms)).fl]), (P1, 28, [.int .i64 2, .int .i64 0, .string k, .string v, .int .u32 fl, .int .i64 e, .bool false, .int .u64 0, .bool false, .int .u64 0, .int .u64 0, .bool false, .bool false, .int .i64 0, .int .i64 (-1), .bool false])] [(.slice a2 n2 q2, ((⟨[stoX k v fl e T], 1, 0⟩ : Ms)).its)] B66) := hid (HT64.out.step hb66)
          refine hK _ _ (fun _ => by rw [HSd.out]; exact HT66.out.1.get 3 rfl) ?_
          clear hK K hb66
          refine wpAnyE_one (i := 6) rfl (by kernel_rfl) (fun K hK => ?_)
          · go_simp
            refine (apply_bx (now := T2) (c := cGet k) (most := 65536) HT66.out (HT66.out.its 0 rfl) hfit (by decide) (by decide) hgok HV.out hr2 (cs := #[.int .i64 5, .string ⟨#[]⟩, .int .u32 0, .string ⟨#[]⟩, .int .i64 0, .int .u64 0, .int .i64 0, .bool false, .bool false, .int .u64 0, .bool false, .bool false, .bool false]) rfl).mono ?_
            rintro e B68 ⟨a68_, n68_, q68_, rfl, hb68⟩
            have HT68 : Hid (Bxr w [(R64, 25, [.slice none 0 0, .int .u64 0, .int .i64 0]), (R52, 35, [.int .i64 0, .string ⟨#[]⟩, .int .u32 0, .string ⟨#[]⟩, .int .i64 0, .int .u64 0, .int .i64 0, .bool false, .bool false, .int .u64 0, .bool false, .bool false, .bool false]), (P2 + 1, 35, [.int .i64 2, .string k, .int .u32 fl, .string v, .int .i64 (moment T e), .int .u64 1, .int .i64 0, .bool false, .bool false, .int .u64 0, .bool false, .bool false, .bool false]), (P2, 25, [.slice a2 n2 q2, .int .u64 ((⟨[stoX k v fl e T], 1, 0⟩ : Ms)).cas, .int .i64 ((⟨[stoX k v fl e T], 1, 0⟩ : Ms)).fl]), (P1, 28, [.int .i64 2, .int .i64 0, .string k, .string v, .int .u32 fl, .int .i64 e, .bool false, .int .u64 0, .bool false, .int .u64 0, .int .u64 0, .bool false, .bool false, .int .i64 0, .int .i64 (-1), .bool false])] [(.slice a68_ n68_ q68_, ((⟨[], 1, 0⟩ : Ms)).its), (.slice a2 n2 q2, ((⟨[stoX k v fl e T], 1, 0⟩ : Ms)).its)] B68) := hid hb68
            refine hK _ _ (fun _ => by rw [HSd.out]; exact HT68.out.1.get 3 rfl) ?_
            clear hK K hb68
            have hS : S B68 := by rw [HSd.out]; exact HT68.out.1.get 3 rfl
            refine wpAnyE_take (i := 7) (v := .tuple #[.agg #[.slice a68_ n68_ q68_, .int .u64 ((⟨[], 1, 0⟩ : Ms)).cas, .int .i64 ((⟨[], 1, 0⟩ : Ms)).fl], .agg #[.int .i64 5, .string ⟨#[]⟩, .int .u32 0, .string ⟨#[]⟩, .int .i64 0, .int .u64 0, .int .i64 0, .bool false, .bool false, .int .u64 0, .bool false, .bool false, .bool false]]) rfl (by kernel_rfl) (by kernel_rfl) (by kernel_rfl) (fun _ _ _ h => h) (by kernel_rfl) (by kernel_rfl) hS (Or.inl ⟨by rfl, ?_⟩) ?_
            · intro w' hw'
              go_simp
            refine wpAnyE_take (i := 8) (v := .agg #[.slice a68_ n68_ q68_, .int .u64 ((⟨[], 1, 0⟩ : Ms)).cas, .int .i64 ((⟨[], 1, 0⟩ : Ms)).fl]) rfl (by kernel_rfl) (by kernel_rfl) (by kernel_rfl) (fun _ _ _ h => h) (by kernel_rfl) (by kernel_rfl) hS (Or.inl ⟨by rfl, ?_⟩) ?_
            · intro w' hw'
              go_simp
            refine wpAnyE_take (i := 9) (v := .agg #[.int .i64 5, .string ⟨#[]⟩, .int .u32 0, .string ⟨#[]⟩, .int .i64 0, .int .u64 0, .int .i64 0, .bool false, .bool false, .int .u64 0, .bool false, .bool false, .bool false]) rfl (by kernel_rfl) (by kernel_rfl) (by kernel_rfl) (fun _ _ _ h => h) (by kernel_rfl) (by kernel_rfl) hS (Or.inl ⟨by rfl, ?_⟩) ?_
            · intro w' hw'
              go_simp
            clear hS
            have HL69_0 : Hid (Bxr w [(R64, 25, [.slice a68_ n68_ q68_, .int .u64 ((⟨[], 1, 0⟩ : Ms)).cas, .int .i64 ((⟨[], 1, 0⟩ : Ms)).fl]), (R52, 35, [.int .i64 0, .string ⟨#[]⟩, .int .u32 0, .string ⟨#[]⟩, .int .i64 0, .int .u64 0, .int .i64 0, .bool false, .bool false, .int .u64 0, .bool false, .bool false, .bool false]), (P2 + 1, 35, [.int .i64 2, .string k, .int .u32 fl, .string v, .int .i64 (moment T e), .int .u64 1, .int .i64 0, .bool false, .bool false, .int .u64 0, .bool false, .bool false, .bool false]), (P2, 25, [.slice a2 n2 q2, .int .u64 ((⟨[stoX k v fl e T], 1, 0⟩ : Ms)).cas, .int .i64 ((⟨[stoX k v fl e T], 1, 0⟩ : Ms)).fl]), (P1, 28, [.int .i64 2, .int .i64 0, .string k, .string v, .int .u32 fl, .int .i64 e, .bool false, .int .u64 0, .bool false, .int .u64 0, .int .u64 0, .bool false, .bool false, .int .i64 0, .int .i64 (-1), .bool false])] [(.slice a68_ n68_ q68_, ((⟨[], 1, 0⟩ : Ms)).its), (.slice a2 n2 q2, ((⟨[stoX k v fl e T], 1, 0⟩ : Ms)).its)] (B68.setCells (R64) 0 [.slice a68_ n68_ q68_, .int .u64 ((⟨[], 1, 0⟩ : Ms)).cas, .int .i64 ((⟨[], 1, 0⟩ : Ms)).fl])) := hid (HT68.out.setc 0 (vs := [.slice a68_ n68_ q68_, .int .u64 ((⟨[], 1, 0⟩ : Ms)).cas, .int .i64 ((⟨[], 1, 0⟩ : Ms)).fl]) rfl rfl)
            refine wpAnyE_one (i := 12) rfl (by kernel_rfl) (fun K hK => ?_)
            refine step_store_mid rfl 25 (.tmp 17) (.tmp 66) rfl (R64) 0 #[.slice a68_ n68_ q68_, .int .u64 ((⟨[], 1, 0⟩ : Ms)).cas, .int .i64 ((⟨[], 1, 0⟩ : Ms)).fl] (by go_simp) (by go_simp) (Blk.there (HT68.out.1.get 0 rfl) rfl) (by kernel_rfl) (ones (cs := [.slice a68_ n68_ q68_, .int .u64 ((⟨[], 1, 0⟩ : Ms)).cas, .int .i64 ((⟨[], 1, 0⟩ : Ms)).fl]) rfl) ?_
            refine hK _ (B68.setCells (R64) 0 [.slice a68_ n68_ q68_, .int .u64 ((⟨[], 1, 0⟩ : Ms)).cas, .int .i64 ((⟨[], 1, 0⟩ : Ms)).fl]) (fun _ => by rw [HSd.out]; exact HL69_0.out.1.get 3 rfl) ?_
            clear hK K
            generalize (B68.setCells (R64) 0 [.slice a68_ n68_ q68_, .int .u64 ((⟨[], 1, 0⟩ : Ms)).cas, .int .i64 ((⟨[], 1, 0⟩ : Ms)).fl]) = Y69 at *
            have HL69_1 : Hid (Bxr w [(R64, 25, [.slice a68_ n68_ q68_, .int .u64 ((⟨[], 1, 0⟩ : Ms)).cas, .int .i64 ((⟨[], 1, 0⟩ : Ms)).fl]), (R52, 35, [.int .i64 5, .string ⟨#[]⟩, .int .u32 0, .string ⟨#[]⟩, .int .i64 0, .int .u64 0, .int .i64 0, .bool false, .bool false, .int .u64 0, .bool false, .bool false, .bool false]), (P2 + 1, 35, [.int .i64 2, .string k, .int .u32 fl, .string v, .int .i64 (moment T e), .int .u64 1, .int .i64 0, .bool false, .bool false, .int .u64 0, .bool false, .bool false, .bool false]), (P2, 25, [.slice a2 n2 q2, .int .u64 ((⟨[stoX k v fl e T], 1, 0⟩ : Ms)).cas, .int .i64 ((⟨[stoX k v fl e T], 1, 0⟩ : Ms)).fl]), (P1, 28, [.int .i64 2, .int .i64 0, .string k, .string v, .int .u32 fl, .int .i64 e, .bool false, .int .u64 0, .bool false, .int .u64 0, .int .u64 0, .bool false, .bool false, .int .i64 0, .int .i64 (-1), .bool false])] [(.slice a68_ n68_ q68_, ((⟨[], 1, 0⟩ : Ms)).its), (.slice a2 n2 q2, ((⟨[stoX k v fl e T], 1, 0⟩ : Ms)).its)] (Y69.setCells (R52) 0 [.int .i64 5, .string ⟨#[]⟩, .int .u32 0, .string ⟨#[]⟩, .int .i64 0, .int .u64 0, .int .i64 0, .bool false, .bool false, .int .u64 0, .bool false, .bool false, .bool false])) := hid (HL69_0.out.setc 1 (vs := [.int .i64 5, .string ⟨#[]⟩, .int .u32 0, .string ⟨#[]⟩, .int .i64 0, .int .u64 0, .int .i64 0, .bool false, .bool false, .int .u64 0, .bool false, .bool false, .bool false]) rfl rfl)
            refine wpAnyE_one (i := 13) rfl (by kernel_rfl) (fun K hK => ?_)
            refine step_store_mid rfl 35 (.tmp 18) (.tmp 67) rfl (R52) 0 #[.int .i64 5, .string ⟨#[]⟩, .int .u32 0, .string ⟨#[]⟩, .int .i64 0, .int .u64 0, .int .i64 0, .bool false, .bool false, .int .u64 0, .bool false, .bool false, .bool false] (by go_simp) (by go_simp) (Blk.there (HL69_0.out.1.get 1 rfl) rfl) (by kernel_rfl) (ones (cs := [.int .i64 5, .string ⟨#[]⟩, .int .u32 0, .string ⟨#[]⟩, .int .i64 0, .int .u64 0, .int .i64 0, .bool false, .bool false, .int .u64 0, .bool false, .bool false, .bool false]) rfl) ?_
            refine hK _ (Y69.setCells (R52) 0 [.int .i64 5, .string ⟨#[]⟩, .int .u32 0, .string ⟨#[]⟩, .int .i64 0, .int .u64 0, .int .i64 0, .bool false, .bool false, .int .u64 0, .bool false, .bool false, .bool false]) (fun h => (by cases (show true = false from h))) (wpAnyE_done (by kernel_rfl) ?_ _)
            clear hK K
            generalize (Y69.setCells (R52) 0 [.int .i64 5, .string ⟨#[]⟩, .int .u32 0, .string ⟨#[]⟩, .int .i64 0, .int .u64 0, .int .i64 0, .bool false, .bool false, .int .u64 0, .bool false, .bool false, .bool false]) = Z69 at *
            go_wp2_with fail
            go_meet
            exact ⟨R64, R52, a68_, n68_, q68_, rfl, rfl, hid (Bxr.swap HL69_1.out)⟩
  case rest =>
    obtain ⟨Px, Qx, ax, nx, qx, rfl, rfl, HG3⟩ := hcut
    generalize wc = G3 at *
    clear HE2
    have hn1 := its_len (HG3.out.its 0 rfl)
    change nx = 0 at hn1
    subst hn1
    have t0 := (HG3.out.1.get 1 rfl).cell (i := 0) rfl
    have b0 := (HG3.out.1.get 0 rfl).cell (i := 0) rfl
    have b1 := (HG3.out.1.get 0 rfl).cell (i := 1) rfl
    have b2 := (HG3.out.1.get 0 rfl).cell (i := 2) rfl
    have b3 := (HG3.out.1.get 0 rfl).cell (i := 3) rfl
    have b4 := (HG3.out.1.get 0 rfl).cell (i := 4) rfl
    have b5 := (HG3.out.1.get 0 rfl).cell (i := 5) rfl
    have b6 := (HG3.out.1.get 0 rfl).cell (i := 6) rfl
    have b7 := (HG3.out.1.get 0 rfl).cell (i := 7) rfl
    have b8 := (HG3.out.1.get 0 rfl).cell (i := 8) rfl
    have b9 := (HG3.out.1.get 0 rfl).cell (i := 9) rfl
    have b10 := (HG3.out.1.get 0 rfl).cell (i := 10) rfl
    have b11 := (HG3.out.1.get 0 rfl).cell (i := 11) rfl
    have b12 := (HG3.out.1.get 0 rfl).cell (i := 12) rfl
    have y5 := (HG3.out.1.get 2 rfl).cell (i := 5) rfl
    rcases hlv with hl | hl | hl
    all_goals go_wp2_with fail
    all_goals go_ret
    all_goals exact ⟨rfl, HG3.out.1.1⟩
end
end Go.Proofs.YtkaaebjifkbclaaDoor.Md
