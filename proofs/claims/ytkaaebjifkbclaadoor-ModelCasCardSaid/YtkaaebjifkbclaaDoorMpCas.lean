/-
  The law ModelCas: who knows the token may store, and only once. Conditions: numbers are in their types' ranges; the library's variables are as they begin.
-/
import Derived.Test.YtkaaebjifkbclaaDoorMpApp
import Derived.Test.YtkaaebjifkbclaaDoorMpCasMath
namespace Go.Proofs.YtkaaebjifkbclaaDoor.Md
open Go Go.RowKit Go.Lib
section
variable {k one two : ByteArray}
set_option maxRecDepth 100000 in
set_option maxHeartbeats 40000000 in
theorem cas_no {mode : Int} {w : World} (hv : Nu.Vars w) (hcok : (cSto k kV 0 0 (-1)).Ok) (hr1 : apply ⟨[], 0, 0⟩ 5 (cSto k kV 0 0 (-1)) 60000 = (⟨[], 0, 0⟩, An.of 0)) :
    Calls Tryd.prog 5 #[.string k, .string one, .string two, .int .i64 mode] w fun e w' => e = .returned (.bool true) ∧ Below w.heap.size w w' := by
  have HV := hid hv
  clear hv
  have HB := hid (Bxr.begin w)
  go_enter Tryd.func5, Tryd.ntmps5
  go_wp2_with fail
  refine (shown_any w HV.out).mono ?_
  rintro e0 w1 ⟨rfl, hb1⟩
  have HB1 : Hid (Bxr w [] [] w1) := hid (HB.out.step hb1)
  clear hb1 HB
  go_upto_region 2 with fail
  refine wp_region_list ?_
  refine wpList_val (v := .agg #[.slice none 0 0, .int .u64 0, .int .i64 0]) (w' := w1) rfl (by kernel_rfl) ?_
  refine wpList_val (v := .string k) (w' := w1) rfl (by kernel_rfl) ?_
  refine wpList_val (v := (cSto k kV 0 0 (-1)).v) (w' := w1) rfl (by kernel_rfl) ?_
  refine app2 (s := ⟨[], 0, 0⟩) (now := 5) (c := cSto k kV 0 0 (-1)) (most := 60000) HB1.out (its_none _) (fit_no 0 65536) (by decide) (by decide) hcok HV.out hr1 rfl rfl rfl rfl rfl rfl rfl rfl rfl rfl (by decide) ⟨125, by kernel_rfl, by decide, by decide, by decide, by decide, by decide, by decide⟩ (by kernel_rfl) (by kernel_rfl) (by kernel_rfl) (fun P1 ax1 nx1 cx1 G1 hg1 => ?_)
  have HG1 : Hid (Bxr w [(P1 + 1, 35, [.int .i64 0, .string ⟨#[]⟩, .int .u32 0, .string ⟨#[]⟩, .int .i64 0, .int .u64 0, .int .i64 0, .bool false, .bool false, .int .u64 0, .bool false, .bool false, .bool false]), (P1, 25, [.slice ax1 nx1 cx1, .int .u64 ((⟨[], 0, 0⟩ : Ms)).cas, .int .i64 ((⟨[], 0, 0⟩ : Ms)).fl])] [(.slice ax1 nx1 cx1, ((⟨[], 0, 0⟩ : Ms)).its)] G1) := hid hg1
  clear hg1 HB1
  go_simp
  have a0 := (HG1.out.1.get 0 rfl).cell (i := 0) rfl
  go_wp2_with fail
  go_ret
  exact ⟨rfl, HG1.out.1.1⟩
set_option maxRecDepth 100000 in
set_option maxHeartbeats 40000000 in
theorem cas_long1 {mode : Int} {w : World} (hv : Nu.Vars w) (hcok : (cSto k kV 0 0 (-1)).Ok) (hr1 : apply ⟨[], 0, 0⟩ 5 (cSto k kV 0 0 (-1)) 60000 = (⟨[casX k kV 1 0], 1, 0⟩, An.is 2 (casX k kV 1 0))) (hl : (20000 : Int) < (one.size : Nat)) :
    Calls Tryd.prog 5 #[.string k, .string one, .string two, .int .i64 mode] w fun e w' => e = .returned (.bool true) ∧ Below w.heap.size w w' := by
  have HV := hid hv
  clear hv
  have HB := hid (Bxr.begin w)
  go_enter Tryd.func5, Tryd.ntmps5
  go_wp2_with fail
  refine (shown_any w HV.out).mono ?_
  rintro e0 w1 ⟨rfl, hb1⟩
  have HB1 : Hid (Bxr w [] [] w1) := hid (HB.out.step hb1)
  clear hb1 HB
  go_upto_region 2 with fail
  refine wp_region_list ?_
  refine wpList_val (v := .agg #[.slice none 0 0, .int .u64 0, .int .i64 0]) (w' := w1) rfl (by kernel_rfl) ?_
  refine wpList_val (v := .string k) (w' := w1) rfl (by kernel_rfl) ?_
  refine wpList_val (v := (cSto k kV 0 0 (-1)).v) (w' := w1) rfl (by kernel_rfl) ?_
  refine app2 (s := ⟨[], 0, 0⟩) (now := 5) (c := cSto k kV 0 0 (-1)) (most := 60000) HB1.out (its_none _) (fit_no 0 65536) (by decide) (by decide) hcok HV.out hr1 rfl rfl rfl rfl rfl rfl rfl rfl rfl rfl (by decide) ⟨125, by kernel_rfl, by decide, by decide, by decide, by decide, by decide, by decide⟩ (by kernel_rfl) (by kernel_rfl) (by kernel_rfl) (fun P1 ax1 nx1 cx1 G1 hg1 => ?_)
  have HG1 : Hid (Bxr w [(P1 + 1, 35, [.int .i64 2, .string k, .int .u32 0, .string ⟨#[118]⟩, .int .i64 0, .int .u64 1, .int .i64 0, .bool false, .bool false, .int .u64 0, .bool false, .bool false, .bool false]), (P1, 25, [.slice ax1 nx1 cx1, .int .u64 ((⟨[casX k kV 1 0], 1, 0⟩ : Ms)).cas, .int .i64 ((⟨[casX k kV 1 0], 1, 0⟩ : Ms)).fl])] [(.slice ax1 nx1 cx1, ((⟨[casX k kV 1 0], 1, 0⟩ : Ms)).its)] G1) := hid hg1
  clear hg1 HB1
  go_simp
  have a0 := (HG1.out.1.get 0 rfl).cell (i := 0) rfl
  go_wp2_with fail
  go_ret
  exact ⟨rfl, HG1.out.1.1⟩
set_option maxRecDepth 100000 in
set_option maxHeartbeats 40000000 in
theorem cas_long2 {mode : Int} {w : World} (hv : Nu.Vars w) (hcok : (cSto k kV 0 0 (-1)).Ok) (hr1 : apply ⟨[], 0, 0⟩ 5 (cSto k kV 0 0 (-1)) 60000 = (⟨[casX k kV 1 0], 1, 0⟩, An.is 2 (casX k kV 1 0))) (hl1 : decide ((20000 : Int) < (one.size : Nat)) = false) (hl : (20000 : Int) < (two.size : Nat)) :
    Calls Tryd.prog 5 #[.string k, .string one, .string two, .int .i64 mode] w fun e w' => e = .returned (.bool true) ∧ Below w.heap.size w w' := by
  have HV := hid hv
  clear hv
  have HB := hid (Bxr.begin w)
  go_enter Tryd.func5, Tryd.ntmps5
  go_wp2_with fail
  refine (shown_any w HV.out).mono ?_
  rintro e0 w1 ⟨rfl, hb1⟩
  have HB1 : Hid (Bxr w [] [] w1) := hid (HB.out.step hb1)
  clear hb1 HB
  go_upto_region 2 with fail
  refine wp_region_list ?_
  refine wpList_val (v := .agg #[.slice none 0 0, .int .u64 0, .int .i64 0]) (w' := w1) rfl (by kernel_rfl) ?_
  refine wpList_val (v := .string k) (w' := w1) rfl (by kernel_rfl) ?_
  refine wpList_val (v := (cSto k kV 0 0 (-1)).v) (w' := w1) rfl (by kernel_rfl) ?_
  refine app2 (s := ⟨[], 0, 0⟩) (now := 5) (c := cSto k kV 0 0 (-1)) (most := 60000) HB1.out (its_none _) (fit_no 0 65536) (by decide) (by decide) hcok HV.out hr1 rfl rfl rfl rfl rfl rfl rfl rfl rfl rfl (by decide) ⟨125, by kernel_rfl, by decide, by decide, by decide, by decide, by decide, by decide⟩ (by kernel_rfl) (by kernel_rfl) (by kernel_rfl) (fun P1 ax1 nx1 cx1 G1 hg1 => ?_)
  have HG1 : Hid (Bxr w [(P1 + 1, 35, [.int .i64 2, .string k, .int .u32 0, .string ⟨#[118]⟩, .int .i64 0, .int .u64 1, .int .i64 0, .bool false, .bool false, .int .u64 0, .bool false, .bool false, .bool false]), (P1, 25, [.slice ax1 nx1 cx1, .int .u64 ((⟨[casX k kV 1 0], 1, 0⟩ : Ms)).cas, .int .i64 ((⟨[casX k kV 1 0], 1, 0⟩ : Ms)).fl])] [(.slice ax1 nx1 cx1, ((⟨[casX k kV 1 0], 1, 0⟩ : Ms)).its)] G1) := hid hg1
  clear hg1 HB1
  go_simp
  have a0 := (HG1.out.1.get 0 rfl).cell (i := 0) rfl
  go_wp2_with fail
  go_ret
  exact ⟨rfl, HG1.out.1.1⟩
set_option maxRecDepth 100000 in
set_option maxHeartbeats 40000000 in
theorem cas_set {mode : Int} {w : World} (hv : Nu.Vars w) (hcok : (cSto k kV 0 0 (-1)).Ok) (hr1 : apply ⟨[], 0, 0⟩ 5 (cSto k kV 0 0 (-1)) 60000 = (⟨[casX k kV 1 0], 1, 0⟩, An.is 2 (casX k kV 1 0))) (hl1 : decide ((20000 : Int) < (one.size : Nat)) = false) (hl2 : decide ((20000 : Int) < (two.size : Nat)) = false) (m1 : bits .and .i64 mode 1 = 0) (hc1 : (cCas k one 0).Ok) (hc2 : (cCas k two 0).Ok) (hf1 : Fit 1 65536 ⟨[casX k kV 1 0], 1, 0⟩) (hf2 : Fit 2 65536 ⟨[casX k one 2 0], 2, 0⟩) (hr2 : apply ⟨[casX k kV 1 0], 1, 0⟩ 6 (cCas k one 0) 60000 = (⟨[casX k one 2 0], 2, 0⟩, An.is 2 (casX k one 2 0))) (hr3 : apply ⟨[casX k one 2 0], 2, 0⟩ 6 (cCas k two 0) 60000 = (⟨[casX k one 2 0], 2, 0⟩, An.of 4)) (hr4 : apply ⟨[casX k one 2 0], 2, 0⟩ 7 (cGet k) 60000 = (⟨[casX k one 2 7], 2, 0⟩, An.is 1 (casX k one 2 7))) (hr5 : apply ⟨[], 0, 0⟩ 7 (cCas k one 0) 60000 = (⟨[], 0, 0⟩, An.of 5)) :
    Calls Tryd.prog 5 #[.string k, .string one, .string two, .int .i64 mode] w fun e w' => e = .returned (.bool true) ∧ Below w.heap.size w w' := by
  have HV := hid hv
  clear hv
  have HB := hid (Bxr.begin w)
  go_enter Tryd.func5, Tryd.ntmps5
  go_wp2_with fail
  refine (shown_any w HV.out).mono ?_
  rintro e0 w1 ⟨rfl, hb1⟩
  have HB1 : Hid (Bxr w [] [] w1) := hid (HB.out.step hb1)
  clear hb1 HB
  go_upto_region 2 with fail
  refine wp_region_list ?_
  refine wpList_val (v := .agg #[.slice none 0 0, .int .u64 0, .int .i64 0]) (w' := w1) rfl (by kernel_rfl) ?_
  refine wpList_val (v := .string k) (w' := w1) rfl (by kernel_rfl) ?_
  refine wpList_val (v := (cSto k kV 0 0 (-1)).v) (w' := w1) rfl (by kernel_rfl) ?_
  refine app2 (s := ⟨[], 0, 0⟩) (now := 5) (c := cSto k kV 0 0 (-1)) (most := 60000) HB1.out (its_none _) (fit_no 0 65536) (by decide) (by decide) hcok HV.out hr1 rfl rfl rfl rfl rfl rfl rfl rfl rfl rfl (by decide) ⟨125, by kernel_rfl, by decide, by decide, by decide, by decide, by decide, by decide⟩ (by kernel_rfl) (by kernel_rfl) (by kernel_rfl) (fun P1 ax1 nx1 cx1 G1 hg1 => ?_)
  have HG1 : Hid (Bxr w [(P1 + 1, 35, [.int .i64 2, .string k, .int .u32 0, .string ⟨#[118]⟩, .int .i64 0, .int .u64 1, .int .i64 0, .bool false, .bool false, .int .u64 0, .bool false, .bool false, .bool false]), (P1, 25, [.slice ax1 nx1 cx1, .int .u64 ((⟨[casX k kV 1 0], 1, 0⟩ : Ms)).cas, .int .i64 ((⟨[casX k kV 1 0], 1, 0⟩ : Ms)).fl])] [(.slice ax1 nx1 cx1, ((⟨[casX k kV 1 0], 1, 0⟩ : Ms)).its)] G1) := hid hg1
  clear hg1 HB1
  go_simp
  have a0 := (HG1.out.1.get 0 rfl).cell (i := 0) rfl
  have a5 := (HG1.out.1.get 0 rfl).cell (i := 5) rfl
  go_upto_region 5 with fail
  refine wp_region_list ?_
  refine wpList_val (v := .string k) (w' := G1) rfl (by kernel_rfl) ?_
  refine wpList_val (v := .string one) (w' := G1) rfl (by kernel_rfl) ?_
  refine wpList_val (v := .pointer (some ⟨P1 + 1, 1, none⟩)) (w' := G1) rfl (by kernel_rfl) ?_
  refine wpList_val (v := .pointer (some ⟨P1 + 1, 5, none⟩)) (w' := G1) rfl (by kernel_rfl) ?_
  refine wpList_val (v := .int .u64 1) (w' := G1) rfl (by go_simp) ?_
  refine wpList_val (v := (cCas k one 0).v) (w' := G1) rfl (by kernel_rfl) ?_
  refine newT (cs := [.int .i64 2, .int .i64 0, .string k, .string one, .int .u32 0, .int .i64 0, .bool false, .int .u64 1, .bool true, .int .u64 0, .int .u64 0, .bool false, .bool false, .int .i64 0, .int .i64 (-1), .bool false]) HG1.out rfl rfl rfl rfl rfl rfl (by kernel_rfl) rfl ⟨125, by kernel_rfl, by decide⟩ rfl rfl (fun P2 G2 hg2 => ?_)
  have HG2 : Hid (Bxr w [(P2, 28, [.int .i64 2, .int .i64 0, .string k, .string one, .int .u32 0, .int .i64 0, .bool false, .int .u64 1, .bool true, .int .u64 0, .int .u64 0, .bool false, .bool false, .int .i64 0, .int .i64 (-1), .bool false]), (P1 + 1, 35, [.int .i64 2, .string k, .int .u32 0, .string ⟨#[118]⟩, .int .i64 0, .int .u64 1, .int .i64 0, .bool false, .bool false, .int .u64 0, .bool false, .bool false, .bool false]), (P1, 25, [.slice ax1 nx1 cx1, .int .u64 ((⟨[casX k kV 1 0], 1, 0⟩ : Ms)).cas, .int .i64 ((⟨[casX k kV 1 0], 1, 0⟩ : Ms)).fl])] [(.slice ax1 nx1 cx1, ((⟨[casX k kV 1 0], 1, 0⟩ : Ms)).its)] G2) := hid hg2
  clear hg2 HG1
  go_simp
  go_upto_region 8 with fail
  refine wp_region_list ?_
  refine loadC (cs := [.int .i64 2, .int .i64 0, .string k, .string one, .int .u32 0, .int .i64 0, .bool false, .int .u64 1, .bool true, .int .u64 0, .int .u64 0, .bool false, .bool false, .int .i64 0, .int .i64 (-1), .bool false]) rfl rfl rfl (HG2.out.1.get 0 rfl) rfl ?_
  refine newT (cs := [.int .i64 2, .int .i64 0, .string k, .string one, .int .u32 0, .int .i64 0, .bool false, .int .u64 1, .bool true, .int .u64 0, .int .u64 0, .bool false, .bool false, .int .i64 0, .int .i64 (-1), .bool false]) HG2.out rfl rfl rfl rfl rfl rfl (by kernel_rfl) rfl ⟨125, by kernel_rfl, by decide⟩ rfl rfl (fun P3 G3 hg3 => ?_)
  have HG3 : Hid (Bxr w [(P3, 28, [.int .i64 2, .int .i64 0, .string k, .string one, .int .u32 0, .int .i64 0, .bool false, .int .u64 1, .bool true, .int .u64 0, .int .u64 0, .bool false, .bool false, .int .i64 0, .int .i64 (-1), .bool false]), (P2, 28, [.int .i64 2, .int .i64 0, .string k, .string one, .int .u32 0, .int .i64 0, .bool false, .int .u64 1, .bool true, .int .u64 0, .int .u64 0, .bool false, .bool false, .int .i64 0, .int .i64 (-1), .bool false]), (P1 + 1, 35, [.int .i64 2, .string k, .int .u32 0, .string ⟨#[118]⟩, .int .i64 0, .int .u64 1, .int .i64 0, .bool false, .bool false, .int .u64 0, .bool false, .bool false, .bool false]), (P1, 25, [.slice ax1 nx1 cx1, .int .u64 ((⟨[casX k kV 1 0], 1, 0⟩ : Ms)).cas, .int .i64 ((⟨[casX k kV 1 0], 1, 0⟩ : Ms)).fl])] [(.slice ax1 nx1 cx1, ((⟨[casX k kV 1 0], 1, 0⟩ : Ms)).its)] G3) := hid hg3
  clear hg3 HG2
  go_simp
  have e4_ := (HG3.out.1.get 0 rfl).cell (i := 3) rfl
  have f4_ := (HG3.out.1.get 0 rfl).frozen 3
  go_upto_region 10 with fail
  clear e4_ f4_
  change Code.wp _ _ _ _ (G3.setCell ⟨P3, 3, none⟩ (.string two))
  have HE4 : Hid (Bxr w [(P3, 28, [.int .i64 2, .int .i64 0, .string k, .string two, .int .u32 0, .int .i64 0, .bool false, .int .u64 1, .bool true, .int .u64 0, .int .u64 0, .bool false, .bool false, .int .i64 0, .int .i64 (-1), .bool false]), (P2, 28, [.int .i64 2, .int .i64 0, .string k, .string one, .int .u32 0, .int .i64 0, .bool false, .int .u64 1, .bool true, .int .u64 0, .int .u64 0, .bool false, .bool false, .int .i64 0, .int .i64 (-1), .bool false]), (P1 + 1, 35, [.int .i64 2, .string k, .int .u32 0, .string ⟨#[118]⟩, .int .i64 0, .int .u64 1, .int .i64 0, .bool false, .bool false, .int .u64 0, .bool false, .bool false, .bool false]), (P1, 25, [.slice ax1 nx1 cx1, .int .u64 ((⟨[casX k kV 1 0], 1, 0⟩ : Ms)).cas, .int .i64 ((⟨[casX k kV 1 0], 1, 0⟩ : Ms)).fl])] [(.slice ax1 nx1 cx1, ((⟨[casX k kV 1 0], 1, 0⟩ : Ms)).its)] (G3.setCell ⟨P3, 3, none⟩ (.string two))) := hid (HG3.out.cell1 0 rfl 3 (.string two))
  clear HG3
  generalize (G3.setCell ⟨P3, 3, none⟩ (.string two)) = X4 at *
  refine wp_region_list ?_
  refine loadS (cs := [.slice ax1 nx1 cx1, .int .u64 ((⟨[casX k kV 1 0], 1, 0⟩ : Ms)).cas, .int .i64 ((⟨[casX k kV 1 0], 1, 0⟩ : Ms)).fl]) rfl rfl rfl (HE4.out.1.get 3 rfl) rfl ?_
  refine loadC (cs := [.int .i64 2, .int .i64 0, .string k, .string one, .int .u32 0, .int .i64 0, .bool false, .int .u64 1, .bool true, .int .u64 0, .int .u64 0, .bool false, .bool false, .int .i64 0, .int .i64 (-1), .bool false]) rfl rfl rfl (HE4.out.1.get 1 rfl) rfl ?_
  refine app1 (s := (⟨[casX k kV 1 0], 1, 0⟩ : Ms)) (now := 6) (c := cCas k one 0) (most := 60000) HE4.out (HE4.out.its 0 rfl) hf1 (by decide) (by decide) hc1 HV.out hr2 rfl rfl rfl rfl rfl rfl 3 (P1) 10 [.slice ax1 nx1 cx1, .int .u64 ((⟨[casX k kV 1 0], 1, 0⟩ : Ms)).cas, .int .i64 ((⟨[casX k kV 1 0], 1, 0⟩ : Ms)).fl] rfl rfl rfl rfl rfl rfl (by decide) ⟨125, by kernel_rfl, by decide, by decide, by decide, by decide, by decide⟩ (by kernel_rfl) (by kernel_rfl) (by kernel_rfl) (fun P5 ax5 nx5 cx5 G5 hg5 => ?_)
  have HG5 : Hid (Bxr w [(P5, 35, [.int .i64 2, .string k, .int .u32 0, .string one, .int .i64 0, .int .u64 2, .int .i64 0, .bool false, .bool false, .int .u64 0, .bool false, .bool false, .bool false]), (P3, 28, [.int .i64 2, .int .i64 0, .string k, .string two, .int .u32 0, .int .i64 0, .bool false, .int .u64 1, .bool true, .int .u64 0, .int .u64 0, .bool false, .bool false, .int .i64 0, .int .i64 (-1), .bool false]), (P2, 28, [.int .i64 2, .int .i64 0, .string k, .string one, .int .u32 0, .int .i64 0, .bool false, .int .u64 1, .bool true, .int .u64 0, .int .u64 0, .bool false, .bool false, .int .i64 0, .int .i64 (-1), .bool false]), (P1 + 1, 35, [.int .i64 2, .string k, .int .u32 0, .string ⟨#[118]⟩, .int .i64 0, .int .u64 1, .int .i64 0, .bool false, .bool false, .int .u64 0, .bool false, .bool false, .bool false]), (P1, 25, [.slice ax5 nx5 cx5, .int .u64 ((⟨[casX k one 2 0], 2, 0⟩ : Ms)).cas, .int .i64 ((⟨[casX k one 2 0], 2, 0⟩ : Ms)).fl])] [(.slice ax5 nx5 cx5, ((⟨[casX k one 2 0], 2, 0⟩ : Ms)).its), (.slice ax1 nx1 cx1, ((⟨[casX k kV 1 0], 1, 0⟩ : Ms)).its)] G5) := hid hg5
  clear hg5 HE4
  go_simp
  go_upto_region 11 with fail
  refine wp_region_list ?_
  refine loadS (cs := [.slice ax5 nx5 cx5, .int .u64 ((⟨[casX k one 2 0], 2, 0⟩ : Ms)).cas, .int .i64 ((⟨[casX k one 2 0], 2, 0⟩ : Ms)).fl]) rfl rfl rfl (HG5.out.1.get 4 rfl) rfl ?_
  refine loadC (cs := [.int .i64 2, .int .i64 0, .string k, .string two, .int .u32 0, .int .i64 0, .bool false, .int .u64 1, .bool true, .int .u64 0, .int .u64 0, .bool false, .bool false, .int .i64 0, .int .i64 (-1), .bool false]) rfl rfl rfl (HG5.out.1.get 1 rfl) rfl ?_
  refine app1 (s := (⟨[casX k one 2 0], 2, 0⟩ : Ms)) (now := 6) (c := cCas k two 0) (most := 60000) HG5.out (HG5.out.its 0 rfl) hf2 (by decide) (by decide) hc2 HV.out hr3 rfl rfl rfl rfl rfl rfl 4 (P1) 10 [.slice ax5 nx5 cx5, .int .u64 ((⟨[casX k one 2 0], 2, 0⟩ : Ms)).cas, .int .i64 ((⟨[casX k one 2 0], 2, 0⟩ : Ms)).fl] rfl rfl rfl rfl rfl rfl (by decide) ⟨125, by kernel_rfl, by decide, by decide, by decide, by decide, by decide⟩ (by kernel_rfl) (by kernel_rfl) (by kernel_rfl) (fun P6 ax6 nx6 cx6 G6 hg6 => ?_)
  have HG6 : Hid (Bxr w [(P6, 35, [.int .i64 4, .string ⟨#[]⟩, .int .u32 0, .string ⟨#[]⟩, .int .i64 0, .int .u64 0, .int .i64 0, .bool false, .bool false, .int .u64 0, .bool false, .bool false, .bool false]), (P5, 35, [.int .i64 2, .string k, .int .u32 0, .string one, .int .i64 0, .int .u64 2, .int .i64 0, .bool false, .bool false, .int .u64 0, .bool false, .bool false, .bool false]), (P3, 28, [.int .i64 2, .int .i64 0, .string k, .string two, .int .u32 0, .int .i64 0, .bool false, .int .u64 1, .bool true, .int .u64 0, .int .u64 0, .bool false, .bool false, .int .i64 0, .int .i64 (-1), .bool false]), (P2, 28, [.int .i64 2, .int .i64 0, .string k, .string one, .int .u32 0, .int .i64 0, .bool false, .int .u64 1, .bool true, .int .u64 0, .int .u64 0, .bool false, .bool false, .int .i64 0, .int .i64 (-1), .bool false]), (P1 + 1, 35, [.int .i64 2, .string k, .int .u32 0, .string ⟨#[118]⟩, .int .i64 0, .int .u64 1, .int .i64 0, .bool false, .bool false, .int .u64 0, .bool false, .bool false, .bool false]), (P1, 25, [.slice ax6 nx6 cx6, .int .u64 ((⟨[casX k one 2 0], 2, 0⟩ : Ms)).cas, .int .i64 ((⟨[casX k one 2 0], 2, 0⟩ : Ms)).fl])] [(.slice ax6 nx6 cx6, ((⟨[casX k one 2 0], 2, 0⟩ : Ms)).its), (.slice ax5 nx5 cx5, ((⟨[casX k one 2 0], 2, 0⟩ : Ms)).its), (.slice ax1 nx1 cx1, ((⟨[casX k kV 1 0], 1, 0⟩ : Ms)).its)] G6) := hid hg6
  clear hg6 HG5
  go_simp
  go_upto_region 12 with fail
  refine wp_region_E (fun W => Blk W (P1) 25 (stv (.slice ax6 nx6 cx6) (⟨[casX k one 2 0], 2, 0⟩ : Ms))) 10 (by kernel_rfl) ?_
  have HA7 : Hid (Bxr w [(P6, 35, [.int .i64 4, .string ⟨#[]⟩, .int .u32 0, .string ⟨#[]⟩, .int .i64 0, .int .u64 0, .int .i64 0, .bool false, .bool false, .int .u64 0, .bool false, .bool false, .bool false]), (P5, 35, [.int .i64 2, .string k, .int .u32 0, .string one, .int .i64 0, .int .u64 2, .int .i64 0, .bool false, .bool false, .int .u64 0, .bool false, .bool false, .bool false]), (P3, 28, [.int .i64 2, .int .i64 0, .string k, .string two, .int .u32 0, .int .i64 0, .bool false, .int .u64 1, .bool true, .int .u64 0, .int .u64 0, .bool false, .bool false, .int .i64 0, .int .i64 (-1), .bool false]), (P2, 28, [.int .i64 2, .int .i64 0, .string k, .string one, .int .u32 0, .int .i64 0, .bool false, .int .u64 1, .bool true, .int .u64 0, .int .u64 0, .bool false, .bool false, .int .i64 0, .int .i64 (-1), .bool false]), (P1 + 1, 35, [.int .i64 2, .string k, .int .u32 0, .string ⟨#[118]⟩, .int .i64 0, .int .u64 1, .int .i64 0, .bool false, .bool false, .int .u64 0, .bool false, .bool false, .bool false]), (P1, 25, [.slice ax6 nx6 cx6, .int .u64 ((⟨[casX k one 2 0], 2, 0⟩ : Ms)).cas, .int .i64 ((⟨[casX k one 2 0], 2, 0⟩ : Ms)).fl])] [(.slice ax6 nx6 cx6, ((⟨[casX k one 2 0], 2, 0⟩ : Ms)).its), (.slice ax5 nx5 cx5, ((⟨[casX k one 2 0], 2, 0⟩ : Ms)).its), (.slice ax1 nx1 cx1, ((⟨[casX k kV 1 0], 1, 0⟩ : Ms)).its)] G6.drew) := hid (HG6.out.step (below_d G6))
  clear HG6
  generalize G6.drew = A7 at *
  have hS : Blk A7 (P1) 25 (stv (.slice ax6 nx6 cx6) (⟨[casX k one 2 0], 2, 0⟩ : Ms)) := HA7.out.1.get 5 rfl
  refine wpAnyE_take (i := 0) (v := .agg #[.slice ax6 nx6 cx6, .int .u64 2, .int .i64 0]) rfl (by kernel_rfl) (by kernel_rfl) (by kernel_rfl) (fun _ _ _ h => h) (by kernel_rfl) (by kernel_rfl) hS (Or.inl ⟨by rfl, ?_⟩) ?_
  · intro w' hw'
    have u0 := hw'.cell (i := 0) (v := .slice ax6 nx6 cx6) rfl
    have u1 := hw'.cell (i := 1) (v := .int .u64 ((⟨[casX k one 2 0], 2, 0⟩ : Ms)).cas) rfl
    have u2 := hw'.cell (i := 2) (v := .int .i64 ((⟨[casX k one 2 0], 2, 0⟩ : Ms)).fl) rfl
    go_simp
  refine wpAnyE_take (i := 1) (v := .string k) rfl (by kernel_rfl) (by kernel_rfl) (by kernel_rfl) (fun _ _ _ h => h) (by kernel_rfl) (by kernel_rfl) hS (Or.inl ⟨by rfl, ?_⟩) ?_
  · intro w' hw'
    go_simp
  clear hS
  refine get2 (k := k) (now := 7) (most := 60000) _ _ 2 3 4 5 6 7 8 9 10 HA7.out (List.mem_of_getElem? (i := 5) rfl) (List.mem_of_getElem? (i := 0) rfl) hf2 (by decide) (by decide) HV.out hr4 rfl rfl rfl rfl rfl rfl rfl rfl rfl rfl rfl rfl rfl rfl rfl rfl rfl (by kernel_rfl) (by decide) rfl ⟨125, by kernel_rfl, by decide, by decide, by decide, by decide, by decide, by decide, by decide⟩ rfl rfl rfl rfl rfl rfl rfl (fun _ _ _ _ _ h => h) (by kernel_rfl) (by kernel_rfl) (by kernel_rfl) (fun P7 Q7 ax7 nx7 cx7 G7 hg7 => ?_)
  have HG7 : Hid (Bxr w [(Q7, 35, [.int .i64 1, .string k, .int .u32 0, .string one, .int .i64 0, .int .u64 2, .int .i64 7, .bool false, .bool false, .int .u64 0, .bool false, .bool false, .bool false]), (P7, 25, [.slice ax7 nx7 cx7, .int .u64 ((⟨[casX k one 2 7], 2, 0⟩ : Ms)).cas, .int .i64 ((⟨[casX k one 2 7], 2, 0⟩ : Ms)).fl]), (P6, 35, [.int .i64 4, .string ⟨#[]⟩, .int .u32 0, .string ⟨#[]⟩, .int .i64 0, .int .u64 0, .int .i64 0, .bool false, .bool false, .int .u64 0, .bool false, .bool false, .bool false]), (P5, 35, [.int .i64 2, .string k, .int .u32 0, .string one, .int .i64 0, .int .u64 2, .int .i64 0, .bool false, .bool false, .int .u64 0, .bool false, .bool false, .bool false]), (P3, 28, [.int .i64 2, .int .i64 0, .string k, .string two, .int .u32 0, .int .i64 0, .bool false, .int .u64 1, .bool true, .int .u64 0, .int .u64 0, .bool false, .bool false, .int .i64 0, .int .i64 (-1), .bool false]), (P2, 28, [.int .i64 2, .int .i64 0, .string k, .string one, .int .u32 0, .int .i64 0, .bool false, .int .u64 1, .bool true, .int .u64 0, .int .u64 0, .bool false, .bool false, .int .i64 0, .int .i64 (-1), .bool false]), (P1 + 1, 35, [.int .i64 2, .string k, .int .u32 0, .string ⟨#[118]⟩, .int .i64 0, .int .u64 1, .int .i64 0, .bool false, .bool false, .int .u64 0, .bool false, .bool false, .bool false]), (P1, 25, [.slice ax6 nx6 cx6, .int .u64 ((⟨[casX k one 2 0], 2, 0⟩ : Ms)).cas, .int .i64 ((⟨[casX k one 2 0], 2, 0⟩ : Ms)).fl])] [(.slice ax7 nx7 cx7, ((⟨[casX k one 2 7], 2, 0⟩ : Ms)).its), (.slice ax6 nx6 cx6, ((⟨[casX k one 2 0], 2, 0⟩ : Ms)).its), (.slice ax5 nx5 cx5, ((⟨[casX k one 2 0], 2, 0⟩ : Ms)).its), (.slice ax1 nx1 cx1, ((⟨[casX k kV 1 0], 1, 0⟩ : Ms)).its)] G7) := hid hg7
  clear hg7 HA7
  go_simp
  go_upto_region 13 with fail
  refine wp_region_list ?_
  refine wpList_val (v := .agg #[.slice none 0 0, .int .u64 0, .int .i64 0]) (w' := G7) rfl (by kernel_rfl) ?_
  refine loadC (cs := [.int .i64 2, .int .i64 0, .string k, .string one, .int .u32 0, .int .i64 0, .bool false, .int .u64 1, .bool true, .int .u64 0, .int .u64 0, .bool false, .bool false, .int .i64 0, .int .i64 (-1), .bool false]) rfl rfl rfl (HG7.out.1.get 5 rfl) rfl ?_
  refine app2 (s := ⟨[], 0, 0⟩) (now := 7) (c := cCas k one 0) (most := 60000) HG7.out (its_none _) (fit_no 0 65536) (by decide) (by decide) hc1 HV.out hr5 rfl rfl rfl rfl rfl rfl rfl rfl rfl rfl (by decide) ⟨125, by kernel_rfl, by decide, by decide, by decide, by decide, by decide, by decide⟩ (by kernel_rfl) (by kernel_rfl) (by kernel_rfl) (fun P8 ax8 nx8 cx8 G8 hg8 => ?_)
  have HG8 : Hid (Bxr w [(P8 + 1, 35, [.int .i64 5, .string ⟨#[]⟩, .int .u32 0, .string ⟨#[]⟩, .int .i64 0, .int .u64 0, .int .i64 0, .bool false, .bool false, .int .u64 0, .bool false, .bool false, .bool false]), (P8, 25, [.slice ax8 nx8 cx8, .int .u64 ((⟨[], 0, 0⟩ : Ms)).cas, .int .i64 ((⟨[], 0, 0⟩ : Ms)).fl]), (Q7, 35, [.int .i64 1, .string k, .int .u32 0, .string one, .int .i64 0, .int .u64 2, .int .i64 7, .bool false, .bool false, .int .u64 0, .bool false, .bool false, .bool false]), (P7, 25, [.slice ax7 nx7 cx7, .int .u64 ((⟨[casX k one 2 7], 2, 0⟩ : Ms)).cas, .int .i64 ((⟨[casX k one 2 7], 2, 0⟩ : Ms)).fl]), (P6, 35, [.int .i64 4, .string ⟨#[]⟩, .int .u32 0, .string ⟨#[]⟩, .int .i64 0, .int .u64 0, .int .i64 0, .bool false, .bool false, .int .u64 0, .bool false, .bool false, .bool false]), (P5, 35, [.int .i64 2, .string k, .int .u32 0, .string one, .int .i64 0, .int .u64 2, .int .i64 0, .bool false, .bool false, .int .u64 0, .bool false, .bool false, .bool false]), (P3, 28, [.int .i64 2, .int .i64 0, .string k, .string two, .int .u32 0, .int .i64 0, .bool false, .int .u64 1, .bool true, .int .u64 0, .int .u64 0, .bool false, .bool false, .int .i64 0, .int .i64 (-1), .bool false]), (P2, 28, [.int .i64 2, .int .i64 0, .string k, .string one, .int .u32 0, .int .i64 0, .bool false, .int .u64 1, .bool true, .int .u64 0, .int .u64 0, .bool false, .bool false, .int .i64 0, .int .i64 (-1), .bool false]), (P1 + 1, 35, [.int .i64 2, .string k, .int .u32 0, .string ⟨#[118]⟩, .int .i64 0, .int .u64 1, .int .i64 0, .bool false, .bool false, .int .u64 0, .bool false, .bool false, .bool false]), (P1, 25, [.slice ax6 nx6 cx6, .int .u64 ((⟨[casX k one 2 0], 2, 0⟩ : Ms)).cas, .int .i64 ((⟨[casX k one 2 0], 2, 0⟩ : Ms)).fl])] [(.slice ax8 nx8 cx8, ((⟨[], 0, 0⟩ : Ms)).its), (.slice ax7 nx7 cx7, ((⟨[casX k one 2 7], 2, 0⟩ : Ms)).its), (.slice ax6 nx6 cx6, ((⟨[casX k one 2 0], 2, 0⟩ : Ms)).its), (.slice ax5 nx5 cx5, ((⟨[casX k one 2 0], 2, 0⟩ : Ms)).its), (.slice ax1 nx1 cx1, ((⟨[casX k kV 1 0], 1, 0⟩ : Ms)).its)] G8) := hid hg8
  clear hg8 HG7
  go_simp
  have c1 := (HG8.out.1.get 7 rfl).cell (i := 1) rfl
  have n0 := (HG8.out.1.get 0 rfl).cell (i := 0) rfl
  have x0 := (HG8.out.1.get 5 rfl).cell (i := 0) rfl
  have x5 := (HG8.out.1.get 5 rfl).cell (i := 5) rfl
  have y0 := (HG8.out.1.get 4 rfl).cell (i := 0) rfl
  have z0 := (HG8.out.1.get 2 rfl).cell (i := 0) rfl
  have z3 := (HG8.out.1.get 2 rfl).cell (i := 3) rfl
  have z5 := (HG8.out.1.get 2 rfl).cell (i := 5) rfl
  go_wp2_with fail
  go_ret
  exact ⟨rfl, HG8.out.1.1⟩
set_option maxRecDepth 100000 in
set_option maxHeartbeats 40000000 in
theorem cas_rep {mode : Int} {w : World} (hv : Nu.Vars w) (hcok : (cSto k kV 0 0 (-1)).Ok) (hr1 : apply ⟨[], 0, 0⟩ 5 (cSto k kV 0 0 (-1)) 60000 = (⟨[casX k kV 1 0], 1, 0⟩, An.is 2 (casX k kV 1 0))) (hl1 : decide ((20000 : Int) < (one.size : Nat)) = false) (hl2 : decide ((20000 : Int) < (two.size : Nat)) = false) (m1 : bits .and .i64 mode 1 = 1) (hc1 : (cCas k one 2).Ok) (hc2 : (cCas k two 2).Ok) (hf1 : Fit 1 65536 ⟨[casX k kV 1 0], 1, 0⟩) (hf2 : Fit 2 65536 ⟨[casX k one 2 0], 2, 0⟩) (hr2 : apply ⟨[casX k kV 1 0], 1, 0⟩ 6 (cCas k one 2) 60000 = (⟨[casX k one 2 0], 2, 0⟩, An.is 2 (casX k one 2 0))) (hr3 : apply ⟨[casX k one 2 0], 2, 0⟩ 6 (cCas k two 2) 60000 = (⟨[casX k one 2 0], 2, 0⟩, An.of 4)) (hr4 : apply ⟨[casX k one 2 0], 2, 0⟩ 7 (cGet k) 60000 = (⟨[casX k one 2 7], 2, 0⟩, An.is 1 (casX k one 2 7))) (hr5 : apply ⟨[], 0, 0⟩ 7 (cCas k one 2) 60000 = (⟨[], 0, 0⟩, An.of 3)) :
    Calls Tryd.prog 5 #[.string k, .string one, .string two, .int .i64 mode] w fun e w' => e = .returned (.bool true) ∧ Below w.heap.size w w' := by
  have HV := hid hv
  clear hv
  have HB := hid (Bxr.begin w)
  go_enter Tryd.func5, Tryd.ntmps5
  go_wp2_with fail
  refine (shown_any w HV.out).mono ?_
  rintro e0 w1 ⟨rfl, hb1⟩
  have HB1 : Hid (Bxr w [] [] w1) := hid (HB.out.step hb1)
  clear hb1 HB
  go_upto_region 2 with fail
  refine wp_region_list ?_
  refine wpList_val (v := .agg #[.slice none 0 0, .int .u64 0, .int .i64 0]) (w' := w1) rfl (by kernel_rfl) ?_
  refine wpList_val (v := .string k) (w' := w1) rfl (by kernel_rfl) ?_
  refine wpList_val (v := (cSto k kV 0 0 (-1)).v) (w' := w1) rfl (by kernel_rfl) ?_
  refine app2 (s := ⟨[], 0, 0⟩) (now := 5) (c := cSto k kV 0 0 (-1)) (most := 60000) HB1.out (its_none _) (fit_no 0 65536) (by decide) (by decide) hcok HV.out hr1 rfl rfl rfl rfl rfl rfl rfl rfl rfl rfl (by decide) ⟨125, by kernel_rfl, by decide, by decide, by decide, by decide, by decide, by decide⟩ (by kernel_rfl) (by kernel_rfl) (by kernel_rfl) (fun P1 ax1 nx1 cx1 G1 hg1 => ?_)
  have HG1 : Hid (Bxr w [(P1 + 1, 35, [.int .i64 2, .string k, .int .u32 0, .string ⟨#[118]⟩, .int .i64 0, .int .u64 1, .int .i64 0, .bool false, .bool false, .int .u64 0, .bool false, .bool false, .bool false]), (P1, 25, [.slice ax1 nx1 cx1, .int .u64 ((⟨[casX k kV 1 0], 1, 0⟩ : Ms)).cas, .int .i64 ((⟨[casX k kV 1 0], 1, 0⟩ : Ms)).fl])] [(.slice ax1 nx1 cx1, ((⟨[casX k kV 1 0], 1, 0⟩ : Ms)).its)] G1) := hid hg1
  clear hg1 HB1
  go_simp
  have a0 := (HG1.out.1.get 0 rfl).cell (i := 0) rfl
  have a5 := (HG1.out.1.get 0 rfl).cell (i := 5) rfl
  go_upto_region 5 with fail
  refine wp_region_list ?_
  refine wpList_val (v := .string k) (w' := G1) rfl (by kernel_rfl) ?_
  refine wpList_val (v := .string one) (w' := G1) rfl (by kernel_rfl) ?_
  refine wpList_val (v := .pointer (some ⟨P1 + 1, 1, none⟩)) (w' := G1) rfl (by kernel_rfl) ?_
  refine wpList_val (v := .pointer (some ⟨P1 + 1, 5, none⟩)) (w' := G1) rfl (by kernel_rfl) ?_
  refine wpList_val (v := .int .u64 1) (w' := G1) rfl (by go_simp) ?_
  refine wpList_val (v := (cCas k one 0).v) (w' := G1) rfl (by kernel_rfl) ?_
  refine newT (cs := [.int .i64 2, .int .i64 0, .string k, .string one, .int .u32 0, .int .i64 0, .bool false, .int .u64 1, .bool true, .int .u64 0, .int .u64 0, .bool false, .bool false, .int .i64 0, .int .i64 (-1), .bool false]) HG1.out rfl rfl rfl rfl rfl rfl (by kernel_rfl) rfl ⟨125, by kernel_rfl, by decide⟩ rfl rfl (fun P2 G2 hg2 => ?_)
  have HG2 : Hid (Bxr w [(P2, 28, [.int .i64 2, .int .i64 0, .string k, .string one, .int .u32 0, .int .i64 0, .bool false, .int .u64 1, .bool true, .int .u64 0, .int .u64 0, .bool false, .bool false, .int .i64 0, .int .i64 (-1), .bool false]), (P1 + 1, 35, [.int .i64 2, .string k, .int .u32 0, .string ⟨#[118]⟩, .int .i64 0, .int .u64 1, .int .i64 0, .bool false, .bool false, .int .u64 0, .bool false, .bool false, .bool false]), (P1, 25, [.slice ax1 nx1 cx1, .int .u64 ((⟨[casX k kV 1 0], 1, 0⟩ : Ms)).cas, .int .i64 ((⟨[casX k kV 1 0], 1, 0⟩ : Ms)).fl])] [(.slice ax1 nx1 cx1, ((⟨[casX k kV 1 0], 1, 0⟩ : Ms)).its)] G2) := hid hg2
  clear hg2 HG1
  go_simp
  have e3_ := (HG2.out.1.get 0 rfl).cell (i := 1) rfl
  have f3_ := (HG2.out.1.get 0 rfl).frozen 1
  go_upto_region 8 with fail
  clear e3_ f3_
  change Code.wp _ _ _ _ (G2.setCell ⟨P2, 1, none⟩ (.int .i64 2))
  have HE3 : Hid (Bxr w [(P2, 28, [.int .i64 2, .int .i64 2, .string k, .string one, .int .u32 0, .int .i64 0, .bool false, .int .u64 1, .bool true, .int .u64 0, .int .u64 0, .bool false, .bool false, .int .i64 0, .int .i64 (-1), .bool false]), (P1 + 1, 35, [.int .i64 2, .string k, .int .u32 0, .string ⟨#[118]⟩, .int .i64 0, .int .u64 1, .int .i64 0, .bool false, .bool false, .int .u64 0, .bool false, .bool false, .bool false]), (P1, 25, [.slice ax1 nx1 cx1, .int .u64 ((⟨[casX k kV 1 0], 1, 0⟩ : Ms)).cas, .int .i64 ((⟨[casX k kV 1 0], 1, 0⟩ : Ms)).fl])] [(.slice ax1 nx1 cx1, ((⟨[casX k kV 1 0], 1, 0⟩ : Ms)).its)] (G2.setCell ⟨P2, 1, none⟩ (.int .i64 2))) := hid (HG2.out.cell1 0 rfl 1 (.int .i64 2))
  clear HG2
  generalize (G2.setCell ⟨P2, 1, none⟩ (.int .i64 2)) = X3 at *
  refine wp_region_list ?_
  refine loadC (cs := [.int .i64 2, .int .i64 2, .string k, .string one, .int .u32 0, .int .i64 0, .bool false, .int .u64 1, .bool true, .int .u64 0, .int .u64 0, .bool false, .bool false, .int .i64 0, .int .i64 (-1), .bool false]) rfl rfl rfl (HE3.out.1.get 0 rfl) rfl ?_
  refine newT (cs := [.int .i64 2, .int .i64 2, .string k, .string one, .int .u32 0, .int .i64 0, .bool false, .int .u64 1, .bool true, .int .u64 0, .int .u64 0, .bool false, .bool false, .int .i64 0, .int .i64 (-1), .bool false]) HE3.out rfl rfl rfl rfl rfl rfl (by kernel_rfl) rfl ⟨125, by kernel_rfl, by decide⟩ rfl rfl (fun P4 G4 hg4 => ?_)
  have HG4 : Hid (Bxr w [(P4, 28, [.int .i64 2, .int .i64 2, .string k, .string one, .int .u32 0, .int .i64 0, .bool false, .int .u64 1, .bool true, .int .u64 0, .int .u64 0, .bool false, .bool false, .int .i64 0, .int .i64 (-1), .bool false]), (P2, 28, [.int .i64 2, .int .i64 2, .string k, .string one, .int .u32 0, .int .i64 0, .bool false, .int .u64 1, .bool true, .int .u64 0, .int .u64 0, .bool false, .bool false, .int .i64 0, .int .i64 (-1), .bool false]), (P1 + 1, 35, [.int .i64 2, .string k, .int .u32 0, .string ⟨#[118]⟩, .int .i64 0, .int .u64 1, .int .i64 0, .bool false, .bool false, .int .u64 0, .bool false, .bool false, .bool false]), (P1, 25, [.slice ax1 nx1 cx1, .int .u64 ((⟨[casX k kV 1 0], 1, 0⟩ : Ms)).cas, .int .i64 ((⟨[casX k kV 1 0], 1, 0⟩ : Ms)).fl])] [(.slice ax1 nx1 cx1, ((⟨[casX k kV 1 0], 1, 0⟩ : Ms)).its)] G4) := hid hg4
  clear hg4 HE3
  go_simp
  have e5_ := (HG4.out.1.get 0 rfl).cell (i := 3) rfl
  have f5_ := (HG4.out.1.get 0 rfl).frozen 3
  go_upto_region 10 with fail
  clear e5_ f5_
  change Code.wp _ _ _ _ (G4.setCell ⟨P4, 3, none⟩ (.string two))
  have HE5 : Hid (Bxr w [(P4, 28, [.int .i64 2, .int .i64 2, .string k, .string two, .int .u32 0, .int .i64 0, .bool false, .int .u64 1, .bool true, .int .u64 0, .int .u64 0, .bool false, .bool false, .int .i64 0, .int .i64 (-1), .bool false]), (P2, 28, [.int .i64 2, .int .i64 2, .string k, .string one, .int .u32 0, .int .i64 0, .bool false, .int .u64 1, .bool true, .int .u64 0, .int .u64 0, .bool false, .bool false, .int .i64 0, .int .i64 (-1), .bool false]), (P1 + 1, 35, [.int .i64 2, .string k, .int .u32 0, .string ⟨#[118]⟩, .int .i64 0, .int .u64 1, .int .i64 0, .bool false, .bool false, .int .u64 0, .bool false, .bool false, .bool false]), (P1, 25, [.slice ax1 nx1 cx1, .int .u64 ((⟨[casX k kV 1 0], 1, 0⟩ : Ms)).cas, .int .i64 ((⟨[casX k kV 1 0], 1, 0⟩ : Ms)).fl])] [(.slice ax1 nx1 cx1, ((⟨[casX k kV 1 0], 1, 0⟩ : Ms)).its)] (G4.setCell ⟨P4, 3, none⟩ (.string two))) := hid (HG4.out.cell1 0 rfl 3 (.string two))
  clear HG4
  generalize (G4.setCell ⟨P4, 3, none⟩ (.string two)) = X5 at *
  refine wp_region_list ?_
  refine loadS (cs := [.slice ax1 nx1 cx1, .int .u64 ((⟨[casX k kV 1 0], 1, 0⟩ : Ms)).cas, .int .i64 ((⟨[casX k kV 1 0], 1, 0⟩ : Ms)).fl]) rfl rfl rfl (HE5.out.1.get 3 rfl) rfl ?_
  refine loadC (cs := [.int .i64 2, .int .i64 2, .string k, .string one, .int .u32 0, .int .i64 0, .bool false, .int .u64 1, .bool true, .int .u64 0, .int .u64 0, .bool false, .bool false, .int .i64 0, .int .i64 (-1), .bool false]) rfl rfl rfl (HE5.out.1.get 1 rfl) rfl ?_
  refine app1 (s := (⟨[casX k kV 1 0], 1, 0⟩ : Ms)) (now := 6) (c := cCas k one 2) (most := 60000) HE5.out (HE5.out.its 0 rfl) hf1 (by decide) (by decide) hc1 HV.out hr2 rfl rfl rfl rfl rfl rfl 3 (P1) 10 [.slice ax1 nx1 cx1, .int .u64 ((⟨[casX k kV 1 0], 1, 0⟩ : Ms)).cas, .int .i64 ((⟨[casX k kV 1 0], 1, 0⟩ : Ms)).fl] rfl rfl rfl rfl rfl rfl (by decide) ⟨125, by kernel_rfl, by decide, by decide, by decide, by decide, by decide⟩ (by kernel_rfl) (by kernel_rfl) (by kernel_rfl) (fun P6 ax6 nx6 cx6 G6 hg6 => ?_)
  have HG6 : Hid (Bxr w [(P6, 35, [.int .i64 2, .string k, .int .u32 0, .string one, .int .i64 0, .int .u64 2, .int .i64 0, .bool false, .bool false, .int .u64 0, .bool false, .bool false, .bool false]), (P4, 28, [.int .i64 2, .int .i64 2, .string k, .string two, .int .u32 0, .int .i64 0, .bool false, .int .u64 1, .bool true, .int .u64 0, .int .u64 0, .bool false, .bool false, .int .i64 0, .int .i64 (-1), .bool false]), (P2, 28, [.int .i64 2, .int .i64 2, .string k, .string one, .int .u32 0, .int .i64 0, .bool false, .int .u64 1, .bool true, .int .u64 0, .int .u64 0, .bool false, .bool false, .int .i64 0, .int .i64 (-1), .bool false]), (P1 + 1, 35, [.int .i64 2, .string k, .int .u32 0, .string ⟨#[118]⟩, .int .i64 0, .int .u64 1, .int .i64 0, .bool false, .bool false, .int .u64 0, .bool false, .bool false, .bool false]), (P1, 25, [.slice ax6 nx6 cx6, .int .u64 ((⟨[casX k one 2 0], 2, 0⟩ : Ms)).cas, .int .i64 ((⟨[casX k one 2 0], 2, 0⟩ : Ms)).fl])] [(.slice ax6 nx6 cx6, ((⟨[casX k one 2 0], 2, 0⟩ : Ms)).its), (.slice ax1 nx1 cx1, ((⟨[casX k kV 1 0], 1, 0⟩ : Ms)).its)] G6) := hid hg6
  clear hg6 HE5
  go_simp
  go_upto_region 11 with fail
  refine wp_region_list ?_
  refine loadS (cs := [.slice ax6 nx6 cx6, .int .u64 ((⟨[casX k one 2 0], 2, 0⟩ : Ms)).cas, .int .i64 ((⟨[casX k one 2 0], 2, 0⟩ : Ms)).fl]) rfl rfl rfl (HG6.out.1.get 4 rfl) rfl ?_
  refine loadC (cs := [.int .i64 2, .int .i64 2, .string k, .string two, .int .u32 0, .int .i64 0, .bool false, .int .u64 1, .bool true, .int .u64 0, .int .u64 0, .bool false, .bool false, .int .i64 0, .int .i64 (-1), .bool false]) rfl rfl rfl (HG6.out.1.get 1 rfl) rfl ?_
  refine app1 (s := (⟨[casX k one 2 0], 2, 0⟩ : Ms)) (now := 6) (c := cCas k two 2) (most := 60000) HG6.out (HG6.out.its 0 rfl) hf2 (by decide) (by decide) hc2 HV.out hr3 rfl rfl rfl rfl rfl rfl 4 (P1) 10 [.slice ax6 nx6 cx6, .int .u64 ((⟨[casX k one 2 0], 2, 0⟩ : Ms)).cas, .int .i64 ((⟨[casX k one 2 0], 2, 0⟩ : Ms)).fl] rfl rfl rfl rfl rfl rfl (by decide) ⟨125, by kernel_rfl, by decide, by decide, by decide, by decide, by decide⟩ (by kernel_rfl) (by kernel_rfl) (by kernel_rfl) (fun P7 ax7 nx7 cx7 G7 hg7 => ?_)
  have HG7 : Hid (Bxr w [(P7, 35, [.int .i64 4, .string ⟨#[]⟩, .int .u32 0, .string ⟨#[]⟩, .int .i64 0, .int .u64 0, .int .i64 0, .bool false, .bool false, .int .u64 0, .bool false, .bool false, .bool false]), (P6, 35, [.int .i64 2, .string k, .int .u32 0, .string one, .int .i64 0, .int .u64 2, .int .i64 0, .bool false, .bool false, .int .u64 0, .bool false, .bool false, .bool false]), (P4, 28, [.int .i64 2, .int .i64 2, .string k, .string two, .int .u32 0, .int .i64 0, .bool false, .int .u64 1, .bool true, .int .u64 0, .int .u64 0, .bool false, .bool false, .int .i64 0, .int .i64 (-1), .bool false]), (P2, 28, [.int .i64 2, .int .i64 2, .string k, .string one, .int .u32 0, .int .i64 0, .bool false, .int .u64 1, .bool true, .int .u64 0, .int .u64 0, .bool false, .bool false, .int .i64 0, .int .i64 (-1), .bool false]), (P1 + 1, 35, [.int .i64 2, .string k, .int .u32 0, .string ⟨#[118]⟩, .int .i64 0, .int .u64 1, .int .i64 0, .bool false, .bool false, .int .u64 0, .bool false, .bool false, .bool false]), (P1, 25, [.slice ax7 nx7 cx7, .int .u64 ((⟨[casX k one 2 0], 2, 0⟩ : Ms)).cas, .int .i64 ((⟨[casX k one 2 0], 2, 0⟩ : Ms)).fl])] [(.slice ax7 nx7 cx7, ((⟨[casX k one 2 0], 2, 0⟩ : Ms)).its), (.slice ax6 nx6 cx6, ((⟨[casX k one 2 0], 2, 0⟩ : Ms)).its), (.slice ax1 nx1 cx1, ((⟨[casX k kV 1 0], 1, 0⟩ : Ms)).its)] G7) := hid hg7
  clear hg7 HG6
  go_simp
  go_upto_region 12 with fail
  refine wp_region_E (fun W => Blk W (P1) 25 (stv (.slice ax7 nx7 cx7) (⟨[casX k one 2 0], 2, 0⟩ : Ms))) 10 (by kernel_rfl) ?_
  have HA8 : Hid (Bxr w [(P7, 35, [.int .i64 4, .string ⟨#[]⟩, .int .u32 0, .string ⟨#[]⟩, .int .i64 0, .int .u64 0, .int .i64 0, .bool false, .bool false, .int .u64 0, .bool false, .bool false, .bool false]), (P6, 35, [.int .i64 2, .string k, .int .u32 0, .string one, .int .i64 0, .int .u64 2, .int .i64 0, .bool false, .bool false, .int .u64 0, .bool false, .bool false, .bool false]), (P4, 28, [.int .i64 2, .int .i64 2, .string k, .string two, .int .u32 0, .int .i64 0, .bool false, .int .u64 1, .bool true, .int .u64 0, .int .u64 0, .bool false, .bool false, .int .i64 0, .int .i64 (-1), .bool false]), (P2, 28, [.int .i64 2, .int .i64 2, .string k, .string one, .int .u32 0, .int .i64 0, .bool false, .int .u64 1, .bool true, .int .u64 0, .int .u64 0, .bool false, .bool false, .int .i64 0, .int .i64 (-1), .bool false]), (P1 + 1, 35, [.int .i64 2, .string k, .int .u32 0, .string ⟨#[118]⟩, .int .i64 0, .int .u64 1, .int .i64 0, .bool false, .bool false, .int .u64 0, .bool false, .bool false, .bool false]), (P1, 25, [.slice ax7 nx7 cx7, .int .u64 ((⟨[casX k one 2 0], 2, 0⟩ : Ms)).cas, .int .i64 ((⟨[casX k one 2 0], 2, 0⟩ : Ms)).fl])] [(.slice ax7 nx7 cx7, ((⟨[casX k one 2 0], 2, 0⟩ : Ms)).its), (.slice ax6 nx6 cx6, ((⟨[casX k one 2 0], 2, 0⟩ : Ms)).its), (.slice ax1 nx1 cx1, ((⟨[casX k kV 1 0], 1, 0⟩ : Ms)).its)] G7.drew) := hid (HG7.out.step (below_d G7))
  clear HG7
  generalize G7.drew = A8 at *
  have hS : Blk A8 (P1) 25 (stv (.slice ax7 nx7 cx7) (⟨[casX k one 2 0], 2, 0⟩ : Ms)) := HA8.out.1.get 5 rfl
  refine wpAnyE_take (i := 0) (v := .agg #[.slice ax7 nx7 cx7, .int .u64 2, .int .i64 0]) rfl (by kernel_rfl) (by kernel_rfl) (by kernel_rfl) (fun _ _ _ h => h) (by kernel_rfl) (by kernel_rfl) hS (Or.inl ⟨by rfl, ?_⟩) ?_
  · intro w' hw'
    have u0 := hw'.cell (i := 0) (v := .slice ax7 nx7 cx7) rfl
    have u1 := hw'.cell (i := 1) (v := .int .u64 ((⟨[casX k one 2 0], 2, 0⟩ : Ms)).cas) rfl
    have u2 := hw'.cell (i := 2) (v := .int .i64 ((⟨[casX k one 2 0], 2, 0⟩ : Ms)).fl) rfl
    go_simp
  refine wpAnyE_take (i := 1) (v := .string k) rfl (by kernel_rfl) (by kernel_rfl) (by kernel_rfl) (fun _ _ _ h => h) (by kernel_rfl) (by kernel_rfl) hS (Or.inl ⟨by rfl, ?_⟩) ?_
  · intro w' hw'
    go_simp
  clear hS
  refine get2 (k := k) (now := 7) (most := 60000) _ _ 2 3 4 5 6 7 8 9 10 HA8.out (List.mem_of_getElem? (i := 5) rfl) (List.mem_of_getElem? (i := 0) rfl) hf2 (by decide) (by decide) HV.out hr4 rfl rfl rfl rfl rfl rfl rfl rfl rfl rfl rfl rfl rfl rfl rfl rfl rfl (by kernel_rfl) (by decide) rfl ⟨125, by kernel_rfl, by decide, by decide, by decide, by decide, by decide, by decide, by decide⟩ rfl rfl rfl rfl rfl rfl rfl (fun _ _ _ _ _ h => h) (by kernel_rfl) (by kernel_rfl) (by kernel_rfl) (fun P8 Q8 ax8 nx8 cx8 G8 hg8 => ?_)
  have HG8 : Hid (Bxr w [(Q8, 35, [.int .i64 1, .string k, .int .u32 0, .string one, .int .i64 0, .int .u64 2, .int .i64 7, .bool false, .bool false, .int .u64 0, .bool false, .bool false, .bool false]), (P8, 25, [.slice ax8 nx8 cx8, .int .u64 ((⟨[casX k one 2 7], 2, 0⟩ : Ms)).cas, .int .i64 ((⟨[casX k one 2 7], 2, 0⟩ : Ms)).fl]), (P7, 35, [.int .i64 4, .string ⟨#[]⟩, .int .u32 0, .string ⟨#[]⟩, .int .i64 0, .int .u64 0, .int .i64 0, .bool false, .bool false, .int .u64 0, .bool false, .bool false, .bool false]), (P6, 35, [.int .i64 2, .string k, .int .u32 0, .string one, .int .i64 0, .int .u64 2, .int .i64 0, .bool false, .bool false, .int .u64 0, .bool false, .bool false, .bool false]), (P4, 28, [.int .i64 2, .int .i64 2, .string k, .string two, .int .u32 0, .int .i64 0, .bool false, .int .u64 1, .bool true, .int .u64 0, .int .u64 0, .bool false, .bool false, .int .i64 0, .int .i64 (-1), .bool false]), (P2, 28, [.int .i64 2, .int .i64 2, .string k, .string one, .int .u32 0, .int .i64 0, .bool false, .int .u64 1, .bool true, .int .u64 0, .int .u64 0, .bool false, .bool false, .int .i64 0, .int .i64 (-1), .bool false]), (P1 + 1, 35, [.int .i64 2, .string k, .int .u32 0, .string ⟨#[118]⟩, .int .i64 0, .int .u64 1, .int .i64 0, .bool false, .bool false, .int .u64 0, .bool false, .bool false, .bool false]), (P1, 25, [.slice ax7 nx7 cx7, .int .u64 ((⟨[casX k one 2 0], 2, 0⟩ : Ms)).cas, .int .i64 ((⟨[casX k one 2 0], 2, 0⟩ : Ms)).fl])] [(.slice ax8 nx8 cx8, ((⟨[casX k one 2 7], 2, 0⟩ : Ms)).its), (.slice ax7 nx7 cx7, ((⟨[casX k one 2 0], 2, 0⟩ : Ms)).its), (.slice ax6 nx6 cx6, ((⟨[casX k one 2 0], 2, 0⟩ : Ms)).its), (.slice ax1 nx1 cx1, ((⟨[casX k kV 1 0], 1, 0⟩ : Ms)).its)] G8) := hid hg8
  clear hg8 HA8
  go_simp
  go_upto_region 13 with fail
  refine wp_region_list ?_
  refine wpList_val (v := .agg #[.slice none 0 0, .int .u64 0, .int .i64 0]) (w' := G8) rfl (by kernel_rfl) ?_
  refine loadC (cs := [.int .i64 2, .int .i64 2, .string k, .string one, .int .u32 0, .int .i64 0, .bool false, .int .u64 1, .bool true, .int .u64 0, .int .u64 0, .bool false, .bool false, .int .i64 0, .int .i64 (-1), .bool false]) rfl rfl rfl (HG8.out.1.get 5 rfl) rfl ?_
  refine app2 (s := ⟨[], 0, 0⟩) (now := 7) (c := cCas k one 2) (most := 60000) HG8.out (its_none _) (fit_no 0 65536) (by decide) (by decide) hc1 HV.out hr5 rfl rfl rfl rfl rfl rfl rfl rfl rfl rfl (by decide) ⟨125, by kernel_rfl, by decide, by decide, by decide, by decide, by decide, by decide⟩ (by kernel_rfl) (by kernel_rfl) (by kernel_rfl) (fun P9 ax9 nx9 cx9 G9 hg9 => ?_)
  have HG9 : Hid (Bxr w [(P9 + 1, 35, [.int .i64 3, .string ⟨#[]⟩, .int .u32 0, .string ⟨#[]⟩, .int .i64 0, .int .u64 0, .int .i64 0, .bool false, .bool false, .int .u64 0, .bool false, .bool false, .bool false]), (P9, 25, [.slice ax9 nx9 cx9, .int .u64 ((⟨[], 0, 0⟩ : Ms)).cas, .int .i64 ((⟨[], 0, 0⟩ : Ms)).fl]), (Q8, 35, [.int .i64 1, .string k, .int .u32 0, .string one, .int .i64 0, .int .u64 2, .int .i64 7, .bool false, .bool false, .int .u64 0, .bool false, .bool false, .bool false]), (P8, 25, [.slice ax8 nx8 cx8, .int .u64 ((⟨[casX k one 2 7], 2, 0⟩ : Ms)).cas, .int .i64 ((⟨[casX k one 2 7], 2, 0⟩ : Ms)).fl]), (P7, 35, [.int .i64 4, .string ⟨#[]⟩, .int .u32 0, .string ⟨#[]⟩, .int .i64 0, .int .u64 0, .int .i64 0, .bool false, .bool false, .int .u64 0, .bool false, .bool false, .bool false]), (P6, 35, [.int .i64 2, .string k, .int .u32 0, .string one, .int .i64 0, .int .u64 2, .int .i64 0, .bool false, .bool false, .int .u64 0, .bool false, .bool false, .bool false]), (P4, 28, [.int .i64 2, .int .i64 2, .string k, .string two, .int .u32 0, .int .i64 0, .bool false, .int .u64 1, .bool true, .int .u64 0, .int .u64 0, .bool false, .bool false, .int .i64 0, .int .i64 (-1), .bool false]), (P2, 28, [.int .i64 2, .int .i64 2, .string k, .string one, .int .u32 0, .int .i64 0, .bool false, .int .u64 1, .bool true, .int .u64 0, .int .u64 0, .bool false, .bool false, .int .i64 0, .int .i64 (-1), .bool false]), (P1 + 1, 35, [.int .i64 2, .string k, .int .u32 0, .string ⟨#[118]⟩, .int .i64 0, .int .u64 1, .int .i64 0, .bool false, .bool false, .int .u64 0, .bool false, .bool false, .bool false]), (P1, 25, [.slice ax7 nx7 cx7, .int .u64 ((⟨[casX k one 2 0], 2, 0⟩ : Ms)).cas, .int .i64 ((⟨[casX k one 2 0], 2, 0⟩ : Ms)).fl])] [(.slice ax9 nx9 cx9, ((⟨[], 0, 0⟩ : Ms)).its), (.slice ax8 nx8 cx8, ((⟨[casX k one 2 7], 2, 0⟩ : Ms)).its), (.slice ax7 nx7 cx7, ((⟨[casX k one 2 0], 2, 0⟩ : Ms)).its), (.slice ax6 nx6 cx6, ((⟨[casX k one 2 0], 2, 0⟩ : Ms)).its), (.slice ax1 nx1 cx1, ((⟨[casX k kV 1 0], 1, 0⟩ : Ms)).its)] G9) := hid hg9
  clear hg9 HG8
  go_simp
  have c1 := (HG9.out.1.get 7 rfl).cell (i := 1) rfl
  have n0 := (HG9.out.1.get 0 rfl).cell (i := 0) rfl
  have x0 := (HG9.out.1.get 5 rfl).cell (i := 0) rfl
  have x5 := (HG9.out.1.get 5 rfl).cell (i := 5) rfl
  have y0 := (HG9.out.1.get 4 rfl).cell (i := 0) rfl
  have z0 := (HG9.out.1.get 2 rfl).cell (i := 0) rfl
  have z3 := (HG9.out.1.get 2 rfl).cell (i := 3) rfl
  have z5 := (HG9.out.1.get 2 rfl).cell (i := 5) rfl
  go_wp2_with fail
  go_ret
  exact ⟨rfl, HG9.out.1.1⟩
end
end Go.Proofs.YtkaaebjifkbclaaDoor.Md
