/-
  The law ModelSums: numbers are counted up round 2^64, and down to 0. Conditions: numbers are in their types' ranges; the library's variables are as they begin.
-/
import Derived.Test.YtkaaebjifkbclaaDoorMpApp
import Derived.Test.YtkaaebjifkbclaaDoorMpSumsMath
import Derived.Test.YtkaaebjifkbclaaDoorMpSame
namespace Go.Proofs.YtkaaebjifkbclaaDoor.Md
open Go Go.RowKit Go.Lib
section
variable {v : ByteArray} {n d : Nat}
set_option maxRecDepth 100000 in
set_option maxHeartbeats 40000000 in
theorem sums_up_long {m : Nat} {w : World} (hv : Nu.Vars w) (hc1 : (cViv n).Ok) (hd : d ≤ 18446744073709551615) (hw : IntKind.u64.wrap ((n : Int) + (d : Int)) = (m : Int)) (hr1 : apply ⟨[], 0, 0⟩ 5 (cViv n) 900 = (⟨[suX n 1 0], 1, 0⟩, ⟨6, suX n 1 0, n, false, false, false⟩)) (hf1 : Fit 1 65536 ⟨[suX n 1 0], 1, 0⟩) (hr2 : apply ⟨[suX n 1 0], 1, 0⟩ 5 (cMat kN d false) 900 = (⟨[suX m 2 0], 2, 0⟩, ⟨6, suX m 2 0, m, false, false, false⟩)) (hf2 : Fit 2 65536 ⟨[suX m 2 0], 2, 0⟩) (hr3 : apply ⟨[suX m 2 0], 2, 0⟩ 5 (cGet kN) 900 = (⟨[suX m 2 5], 2, 0⟩, An.is 1 (suX m 2 5))) (hl : (800 : Int) < (v.size : Nat)) :
    Calls Tryd.prog 6 #[.int .u64 n, .int .u64 d, .bool false, .string v] w fun e w' => e = .returned (.bool true) ∧ Below w.heap.size w w' := by
  have HV := hid hv
  clear hv
  have HB := hid (Bxr.begin w)
  go_enter Tryd.func6, Tryd.ntmps6
  go_wp2_with fail
  refine (shown_any w HV.out).mono ?_
  rintro e0 w1 ⟨rfl, hb1⟩
  have HB1 : Hid (Bxr w [] [] w1) := hid (HB.out.step hb1)
  clear hb1 HB
  go_upto_region 2 with fail
  refine wp_region_list ?_
  refine wpList_val (v := .agg #[.slice none 0 0, .int .u64 0, .int .i64 0]) (w' := w1) rfl (by kernel_rfl) ?_
  refine wpList_val (v := .int .u64 n) (w' := w1) rfl (by kernel_rfl) ?_
  refine wpList_val (v := (cViv n).v) (w' := w1) rfl (by kernel_rfl) ?_
  refine app2 (s := ⟨[], 0, 0⟩) (now := 5) (c := cViv n) (most := 900) HB1.out (its_none _) (fit_no 0 65536) (by decide) (by decide) hc1 HV.out hr1 rfl rfl rfl rfl rfl rfl rfl rfl rfl rfl (by decide) ⟨117, by kernel_rfl, by decide, by decide, by decide, by decide, by decide, by decide⟩ (by kernel_rfl) (by kernel_rfl) (by kernel_rfl) (fun P1 ax1 nx1 cx1 G1 hg1 => ?_)
  have HG1 : Hid (Bxr w [(P1 + 1, 35, [.int .i64 6, .string ⟨#[110]⟩, .int .u32 0, .string (S (Lib.decDigits n)), .int .i64 0, .int .u64 1, .int .i64 0, .bool false, .bool false, .int .u64 n, .bool false, .bool false, .bool false]), (P1, 25, [.slice ax1 nx1 cx1, .int .u64 ((⟨[suX n 1 0], 1, 0⟩ : Ms)).cas, .int .i64 ((⟨[suX n 1 0], 1, 0⟩ : Ms)).fl])] [(.slice ax1 nx1 cx1, ((⟨[suX n 1 0], 1, 0⟩ : Ms)).its)] G1) := hid hg1
  clear hg1 HB1
  go_simp
  go_upto_region 3 with fail
  refine wp_region_list ?_
  refine loadS (cs := [.slice ax1 nx1 cx1, .int .u64 ((⟨[suX n 1 0], 1, 0⟩ : Ms)).cas, .int .i64 ((⟨[suX n 1 0], 1, 0⟩ : Ms)).fl]) rfl rfl rfl (HG1.out.1.get 1 rfl) rfl ?_
  refine wpList_val (v := .int .u64 d) (w' := G1) rfl (by kernel_rfl) ?_
  refine wpList_val (v := .bool false) (w' := G1) rfl (by kernel_rfl) ?_
  refine wpList_val (v := (cMat kN d false).v) (w' := G1) rfl (by kernel_rfl) ?_
  refine app2 (s := (⟨[suX n 1 0], 1, 0⟩ : Ms)) (now := 5) (c := cMat kN d false) (most := 900) HG1.out (HG1.out.its 0 rfl) hf1 (by decide) (by decide) (cmat_ok kN false hd) HV.out hr2 rfl rfl rfl rfl rfl rfl rfl rfl rfl rfl (by decide) ⟨117, by kernel_rfl, by decide, by decide, by decide, by decide, by decide, by decide⟩ (by kernel_rfl) (by kernel_rfl) (by kernel_rfl) (fun P2 ax2 nx2 cx2 G2 hg2 => ?_)
  have HG2 : Hid (Bxr w [(P2 + 1, 35, [.int .i64 6, .string ⟨#[110]⟩, .int .u32 0, .string (S (Lib.decDigits m)), .int .i64 0, .int .u64 2, .int .i64 0, .bool false, .bool false, .int .u64 m, .bool false, .bool false, .bool false]), (P2, 25, [.slice ax2 nx2 cx2, .int .u64 ((⟨[suX m 2 0], 2, 0⟩ : Ms)).cas, .int .i64 ((⟨[suX m 2 0], 2, 0⟩ : Ms)).fl]), (P1 + 1, 35, [.int .i64 6, .string ⟨#[110]⟩, .int .u32 0, .string (S (Lib.decDigits n)), .int .i64 0, .int .u64 1, .int .i64 0, .bool false, .bool false, .int .u64 n, .bool false, .bool false, .bool false]), (P1, 25, [.slice ax1 nx1 cx1, .int .u64 ((⟨[suX n 1 0], 1, 0⟩ : Ms)).cas, .int .i64 ((⟨[suX n 1 0], 1, 0⟩ : Ms)).fl])] [(.slice ax2 nx2 cx2, ((⟨[suX m 2 0], 2, 0⟩ : Ms)).its), (.slice ax1 nx1 cx1, ((⟨[suX n 1 0], 1, 0⟩ : Ms)).its)] G2) := hid hg2
  clear hg2 HG1
  go_simp
  go_upto_region 4 with fail
  refine wp_region_E (fun W => Blk W (P2) 25 (stv (.slice ax2 nx2 cx2) (⟨[suX m 2 0], 2, 0⟩ : Ms))) 9 (by kernel_rfl) ?_
  have HA3 : Hid (Bxr w [(P2 + 1, 35, [.int .i64 6, .string ⟨#[110]⟩, .int .u32 0, .string (S (Lib.decDigits m)), .int .i64 0, .int .u64 2, .int .i64 0, .bool false, .bool false, .int .u64 m, .bool false, .bool false, .bool false]), (P2, 25, [.slice ax2 nx2 cx2, .int .u64 ((⟨[suX m 2 0], 2, 0⟩ : Ms)).cas, .int .i64 ((⟨[suX m 2 0], 2, 0⟩ : Ms)).fl]), (P1 + 1, 35, [.int .i64 6, .string ⟨#[110]⟩, .int .u32 0, .string (S (Lib.decDigits n)), .int .i64 0, .int .u64 1, .int .i64 0, .bool false, .bool false, .int .u64 n, .bool false, .bool false, .bool false]), (P1, 25, [.slice ax1 nx1 cx1, .int .u64 ((⟨[suX n 1 0], 1, 0⟩ : Ms)).cas, .int .i64 ((⟨[suX n 1 0], 1, 0⟩ : Ms)).fl])] [(.slice ax2 nx2 cx2, ((⟨[suX m 2 0], 2, 0⟩ : Ms)).its), (.slice ax1 nx1 cx1, ((⟨[suX n 1 0], 1, 0⟩ : Ms)).its)] G2.drew) := hid (HG2.out.step (below_d G2))
  clear HG2
  generalize G2.drew = A3 at *
  have hS : Blk A3 (P2) 25 (stv (.slice ax2 nx2 cx2) (⟨[suX m 2 0], 2, 0⟩ : Ms)) := HA3.out.1.get 1 rfl
  refine wpAnyE_take (i := 0) (v := .agg #[.slice ax2 nx2 cx2, .int .u64 2, .int .i64 0]) rfl (by kernel_rfl) (by kernel_rfl) (by kernel_rfl) (fun _ _ _ h => h) (by kernel_rfl) (by kernel_rfl) hS (Or.inl ⟨by rfl, ?_⟩) ?_
  · intro w' hw'
    have u0 := hw'.cell (i := 0) (v := .slice ax2 nx2 cx2) rfl
    have u1 := hw'.cell (i := 1) (v := .int .u64 ((⟨[suX m 2 0], 2, 0⟩ : Ms)).cas) rfl
    have u2 := hw'.cell (i := 2) (v := .int .i64 ((⟨[suX m 2 0], 2, 0⟩ : Ms)).fl) rfl
    go_simp
  clear hS
  refine get2 (k := kN) (now := 5) (most := 900) _ _ 1 2 3 4 5 6 7 8 9 HA3.out (List.mem_of_getElem? (i := 1) rfl) (List.mem_of_getElem? (i := 0) rfl) hf2 (by decide) (by decide) HV.out hr3 rfl rfl rfl rfl rfl rfl rfl rfl rfl rfl rfl rfl rfl rfl rfl rfl rfl (by kernel_rfl) (by decide) rfl ⟨117, by kernel_rfl, by decide, by decide, by decide, by decide, by decide, by decide, by decide⟩ rfl rfl rfl rfl rfl rfl rfl (fun _ _ _ _ _ h => h) (by kernel_rfl) (by kernel_rfl) (by kernel_rfl) (fun P3 Q3 ax3 nx3 cx3 G3 hg3 => ?_)
  have HG3 : Hid (Bxr w [(Q3, 35, [.int .i64 1, .string ⟨#[110]⟩, .int .u32 0, .string (S (Lib.decDigits m)), .int .i64 0, .int .u64 2, .int .i64 5, .bool false, .bool false, .int .u64 0, .bool false, .bool false, .bool false]), (P3, 25, [.slice ax3 nx3 cx3, .int .u64 ((⟨[suX m 2 5], 2, 0⟩ : Ms)).cas, .int .i64 ((⟨[suX m 2 5], 2, 0⟩ : Ms)).fl]), (P2 + 1, 35, [.int .i64 6, .string ⟨#[110]⟩, .int .u32 0, .string (S (Lib.decDigits m)), .int .i64 0, .int .u64 2, .int .i64 0, .bool false, .bool false, .int .u64 m, .bool false, .bool false, .bool false]), (P2, 25, [.slice ax2 nx2 cx2, .int .u64 ((⟨[suX m 2 0], 2, 0⟩ : Ms)).cas, .int .i64 ((⟨[suX m 2 0], 2, 0⟩ : Ms)).fl]), (P1 + 1, 35, [.int .i64 6, .string ⟨#[110]⟩, .int .u32 0, .string (S (Lib.decDigits n)), .int .i64 0, .int .u64 1, .int .i64 0, .bool false, .bool false, .int .u64 n, .bool false, .bool false, .bool false]), (P1, 25, [.slice ax1 nx1 cx1, .int .u64 ((⟨[suX n 1 0], 1, 0⟩ : Ms)).cas, .int .i64 ((⟨[suX n 1 0], 1, 0⟩ : Ms)).fl])] [(.slice ax3 nx3 cx3, ((⟨[suX m 2 5], 2, 0⟩ : Ms)).its), (.slice ax2 nx2 cx2, ((⟨[suX m 2 0], 2, 0⟩ : Ms)).its), (.slice ax1 nx1 cx1, ((⟨[suX n 1 0], 1, 0⟩ : Ms)).its)] G3) := hid hg3
  clear hg3 HA3
  go_simp
  have a0 := (HG3.out.1.get 4 rfl).cell (i := 0) rfl
  have a9 := (HG3.out.1.get 4 rfl).cell (i := 9) rfl
  have b0 := (HG3.out.1.get 2 rfl).cell (i := 0) rfl
  have b3 := (HG3.out.1.get 2 rfl).cell (i := 3) rfl
  have b9 := (HG3.out.1.get 2 rfl).cell (i := 9) rfl
  have c3 := (HG3.out.1.get 0 rfl).cell (i := 3) rfl
  go_wp2_with fail
  go_ret
  exact ⟨rfl, HG3.out.1.1⟩
set_option maxRecDepth 100000 in
set_option maxHeartbeats 40000000 in
theorem sums_dn_long {m : Nat} {w : World} (hv : Nu.Vars w) (hc1 : (cViv n).Ok) (hd : d ≤ 18446744073709551615) (hw : IntKind.u64.wrap ((n : Int) - min (n : Int) (d : Int)) = (m : Int)) (hr1 : apply ⟨[], 0, 0⟩ 5 (cViv n) 900 = (⟨[suX n 1 0], 1, 0⟩, ⟨6, suX n 1 0, n, false, false, false⟩)) (hf1 : Fit 1 65536 ⟨[suX n 1 0], 1, 0⟩) (hr2 : apply ⟨[suX n 1 0], 1, 0⟩ 5 (cMat kN d true) 900 = (⟨[suX m 2 0], 2, 0⟩, ⟨6, suX m 2 0, m, false, false, false⟩)) (hf2 : Fit 2 65536 ⟨[suX m 2 0], 2, 0⟩) (hr3 : apply ⟨[suX m 2 0], 2, 0⟩ 5 (cGet kN) 900 = (⟨[suX m 2 5], 2, 0⟩, An.is 1 (suX m 2 5))) (hl : (800 : Int) < (v.size : Nat)) :
    Calls Tryd.prog 6 #[.int .u64 n, .int .u64 d, .bool true, .string v] w fun e w' => e = .returned (.bool true) ∧ Below w.heap.size w w' := by
  have HV := hid hv
  clear hv
  have HB := hid (Bxr.begin w)
  go_enter Tryd.func6, Tryd.ntmps6
  go_wp2_with fail
  refine (shown_any w HV.out).mono ?_
  rintro e0 w1 ⟨rfl, hb1⟩
  have HB1 : Hid (Bxr w [] [] w1) := hid (HB.out.step hb1)
  clear hb1 HB
  go_upto_region 2 with fail
  refine wp_region_list ?_
  refine wpList_val (v := .agg #[.slice none 0 0, .int .u64 0, .int .i64 0]) (w' := w1) rfl (by kernel_rfl) ?_
  refine wpList_val (v := .int .u64 n) (w' := w1) rfl (by kernel_rfl) ?_
  refine wpList_val (v := (cViv n).v) (w' := w1) rfl (by kernel_rfl) ?_
  refine app2 (s := ⟨[], 0, 0⟩) (now := 5) (c := cViv n) (most := 900) HB1.out (its_none _) (fit_no 0 65536) (by decide) (by decide) hc1 HV.out hr1 rfl rfl rfl rfl rfl rfl rfl rfl rfl rfl (by decide) ⟨117, by kernel_rfl, by decide, by decide, by decide, by decide, by decide, by decide⟩ (by kernel_rfl) (by kernel_rfl) (by kernel_rfl) (fun P1 ax1 nx1 cx1 G1 hg1 => ?_)
  have HG1 : Hid (Bxr w [(P1 + 1, 35, [.int .i64 6, .string ⟨#[110]⟩, .int .u32 0, .string (S (Lib.decDigits n)), .int .i64 0, .int .u64 1, .int .i64 0, .bool false, .bool false, .int .u64 n, .bool false, .bool false, .bool false]), (P1, 25, [.slice ax1 nx1 cx1, .int .u64 ((⟨[suX n 1 0], 1, 0⟩ : Ms)).cas, .int .i64 ((⟨[suX n 1 0], 1, 0⟩ : Ms)).fl])] [(.slice ax1 nx1 cx1, ((⟨[suX n 1 0], 1, 0⟩ : Ms)).its)] G1) := hid hg1
  clear hg1 HB1
  go_simp
  go_upto_region 3 with fail
  refine wp_region_list ?_
  refine loadS (cs := [.slice ax1 nx1 cx1, .int .u64 ((⟨[suX n 1 0], 1, 0⟩ : Ms)).cas, .int .i64 ((⟨[suX n 1 0], 1, 0⟩ : Ms)).fl]) rfl rfl rfl (HG1.out.1.get 1 rfl) rfl ?_
  refine wpList_val (v := .int .u64 d) (w' := G1) rfl (by kernel_rfl) ?_
  refine wpList_val (v := .bool true) (w' := G1) rfl (by kernel_rfl) ?_
  refine wpList_val (v := (cMat kN d true).v) (w' := G1) rfl (by kernel_rfl) ?_
  refine app2 (s := (⟨[suX n 1 0], 1, 0⟩ : Ms)) (now := 5) (c := cMat kN d true) (most := 900) HG1.out (HG1.out.its 0 rfl) hf1 (by decide) (by decide) (cmat_ok kN true hd) HV.out hr2 rfl rfl rfl rfl rfl rfl rfl rfl rfl rfl (by decide) ⟨117, by kernel_rfl, by decide, by decide, by decide, by decide, by decide, by decide⟩ (by kernel_rfl) (by kernel_rfl) (by kernel_rfl) (fun P2 ax2 nx2 cx2 G2 hg2 => ?_)
  have HG2 : Hid (Bxr w [(P2 + 1, 35, [.int .i64 6, .string ⟨#[110]⟩, .int .u32 0, .string (S (Lib.decDigits m)), .int .i64 0, .int .u64 2, .int .i64 0, .bool false, .bool false, .int .u64 m, .bool false, .bool false, .bool false]), (P2, 25, [.slice ax2 nx2 cx2, .int .u64 ((⟨[suX m 2 0], 2, 0⟩ : Ms)).cas, .int .i64 ((⟨[suX m 2 0], 2, 0⟩ : Ms)).fl]), (P1 + 1, 35, [.int .i64 6, .string ⟨#[110]⟩, .int .u32 0, .string (S (Lib.decDigits n)), .int .i64 0, .int .u64 1, .int .i64 0, .bool false, .bool false, .int .u64 n, .bool false, .bool false, .bool false]), (P1, 25, [.slice ax1 nx1 cx1, .int .u64 ((⟨[suX n 1 0], 1, 0⟩ : Ms)).cas, .int .i64 ((⟨[suX n 1 0], 1, 0⟩ : Ms)).fl])] [(.slice ax2 nx2 cx2, ((⟨[suX m 2 0], 2, 0⟩ : Ms)).its), (.slice ax1 nx1 cx1, ((⟨[suX n 1 0], 1, 0⟩ : Ms)).its)] G2) := hid hg2
  clear hg2 HG1
  go_simp
  go_upto_region 4 with fail
  refine wp_region_E (fun W => Blk W (P2) 25 (stv (.slice ax2 nx2 cx2) (⟨[suX m 2 0], 2, 0⟩ : Ms))) 9 (by kernel_rfl) ?_
  have HA3 : Hid (Bxr w [(P2 + 1, 35, [.int .i64 6, .string ⟨#[110]⟩, .int .u32 0, .string (S (Lib.decDigits m)), .int .i64 0, .int .u64 2, .int .i64 0, .bool false, .bool false, .int .u64 m, .bool false, .bool false, .bool false]), (P2, 25, [.slice ax2 nx2 cx2, .int .u64 ((⟨[suX m 2 0], 2, 0⟩ : Ms)).cas, .int .i64 ((⟨[suX m 2 0], 2, 0⟩ : Ms)).fl]), (P1 + 1, 35, [.int .i64 6, .string ⟨#[110]⟩, .int .u32 0, .string (S (Lib.decDigits n)), .int .i64 0, .int .u64 1, .int .i64 0, .bool false, .bool false, .int .u64 n, .bool false, .bool false, .bool false]), (P1, 25, [.slice ax1 nx1 cx1, .int .u64 ((⟨[suX n 1 0], 1, 0⟩ : Ms)).cas, .int .i64 ((⟨[suX n 1 0], 1, 0⟩ : Ms)).fl])] [(.slice ax2 nx2 cx2, ((⟨[suX m 2 0], 2, 0⟩ : Ms)).its), (.slice ax1 nx1 cx1, ((⟨[suX n 1 0], 1, 0⟩ : Ms)).its)] G2.drew) := hid (HG2.out.step (below_d G2))
  clear HG2
  generalize G2.drew = A3 at *
  have hS : Blk A3 (P2) 25 (stv (.slice ax2 nx2 cx2) (⟨[suX m 2 0], 2, 0⟩ : Ms)) := HA3.out.1.get 1 rfl
  refine wpAnyE_take (i := 0) (v := .agg #[.slice ax2 nx2 cx2, .int .u64 2, .int .i64 0]) rfl (by kernel_rfl) (by kernel_rfl) (by kernel_rfl) (fun _ _ _ h => h) (by kernel_rfl) (by kernel_rfl) hS (Or.inl ⟨by rfl, ?_⟩) ?_
  · intro w' hw'
    have u0 := hw'.cell (i := 0) (v := .slice ax2 nx2 cx2) rfl
    have u1 := hw'.cell (i := 1) (v := .int .u64 ((⟨[suX m 2 0], 2, 0⟩ : Ms)).cas) rfl
    have u2 := hw'.cell (i := 2) (v := .int .i64 ((⟨[suX m 2 0], 2, 0⟩ : Ms)).fl) rfl
    go_simp
  clear hS
  refine get2 (k := kN) (now := 5) (most := 900) _ _ 1 2 3 4 5 6 7 8 9 HA3.out (List.mem_of_getElem? (i := 1) rfl) (List.mem_of_getElem? (i := 0) rfl) hf2 (by decide) (by decide) HV.out hr3 rfl rfl rfl rfl rfl rfl rfl rfl rfl rfl rfl rfl rfl rfl rfl rfl rfl (by kernel_rfl) (by decide) rfl ⟨117, by kernel_rfl, by decide, by decide, by decide, by decide, by decide, by decide, by decide⟩ rfl rfl rfl rfl rfl rfl rfl (fun _ _ _ _ _ h => h) (by kernel_rfl) (by kernel_rfl) (by kernel_rfl) (fun P3 Q3 ax3 nx3 cx3 G3 hg3 => ?_)
  have HG3 : Hid (Bxr w [(Q3, 35, [.int .i64 1, .string ⟨#[110]⟩, .int .u32 0, .string (S (Lib.decDigits m)), .int .i64 0, .int .u64 2, .int .i64 5, .bool false, .bool false, .int .u64 0, .bool false, .bool false, .bool false]), (P3, 25, [.slice ax3 nx3 cx3, .int .u64 ((⟨[suX m 2 5], 2, 0⟩ : Ms)).cas, .int .i64 ((⟨[suX m 2 5], 2, 0⟩ : Ms)).fl]), (P2 + 1, 35, [.int .i64 6, .string ⟨#[110]⟩, .int .u32 0, .string (S (Lib.decDigits m)), .int .i64 0, .int .u64 2, .int .i64 0, .bool false, .bool false, .int .u64 m, .bool false, .bool false, .bool false]), (P2, 25, [.slice ax2 nx2 cx2, .int .u64 ((⟨[suX m 2 0], 2, 0⟩ : Ms)).cas, .int .i64 ((⟨[suX m 2 0], 2, 0⟩ : Ms)).fl]), (P1 + 1, 35, [.int .i64 6, .string ⟨#[110]⟩, .int .u32 0, .string (S (Lib.decDigits n)), .int .i64 0, .int .u64 1, .int .i64 0, .bool false, .bool false, .int .u64 n, .bool false, .bool false, .bool false]), (P1, 25, [.slice ax1 nx1 cx1, .int .u64 ((⟨[suX n 1 0], 1, 0⟩ : Ms)).cas, .int .i64 ((⟨[suX n 1 0], 1, 0⟩ : Ms)).fl])] [(.slice ax3 nx3 cx3, ((⟨[suX m 2 5], 2, 0⟩ : Ms)).its), (.slice ax2 nx2 cx2, ((⟨[suX m 2 0], 2, 0⟩ : Ms)).its), (.slice ax1 nx1 cx1, ((⟨[suX n 1 0], 1, 0⟩ : Ms)).its)] G3) := hid hg3
  clear hg3 HA3
  go_simp
  have a0 := (HG3.out.1.get 4 rfl).cell (i := 0) rfl
  have a9 := (HG3.out.1.get 4 rfl).cell (i := 9) rfl
  have b0 := (HG3.out.1.get 2 rfl).cell (i := 0) rfl
  have b3 := (HG3.out.1.get 2 rfl).cell (i := 3) rfl
  have b9 := (HG3.out.1.get 2 rfl).cell (i := 9) rfl
  have c3 := (HG3.out.1.get 0 rfl).cell (i := 3) rfl
  go_wp2_with fail
  go_ret
  exact ⟨rfl, HG3.out.1.1⟩
set_option maxRecDepth 100000 in
set_option maxHeartbeats 40000000 in
theorem sums_up {m : Nat} {w : World} (hv : Nu.Vars w) (hc1 : (cViv n).Ok) (hd : d ≤ 18446744073709551615) (hw : IntKind.u64.wrap ((n : Int) + (d : Int)) = (m : Int)) (hr1 : apply ⟨[], 0, 0⟩ 5 (cViv n) 900 = (⟨[suX n 1 0], 1, 0⟩, ⟨6, suX n 1 0, n, false, false, false⟩)) (hf1 : Fit 1 65536 ⟨[suX n 1 0], 1, 0⟩) (hr2 : apply ⟨[suX n 1 0], 1, 0⟩ 5 (cMat kN d false) 900 = (⟨[suX m 2 0], 2, 0⟩, ⟨6, suX m 2 0, m, false, false, false⟩)) (hf2 : Fit 2 65536 ⟨[suX m 2 0], 2, 0⟩) (hr3 : apply ⟨[suX m 2 0], 2, 0⟩ 5 (cGet kN) 900 = (⟨[suX m 2 5], 2, 0⟩, An.is 1 (suX m 2 5))) (hl : decide ((800 : Int) < (v.size : Nat)) = false) (hz : 1 + v.size ≤ 9223372036854775807) (hc2 : (cSto kX (⟨#[120]⟩ ++ v) 0 0 (-1)).Ok) (hr4 : apply ⟨[], 0, 0⟩ 5 (cSto kX (⟨#[120]⟩ ++ v) 0 0 (-1)) 900 = (⟨[xvX v], 1, 0⟩, An.is 2 (xvX v))) (hf3 : Fit 1 65536 ⟨[xvX v], 1, 0⟩) (hr5 : apply ⟨[xvX v], 1, 0⟩ 5 (cMat kX d false) 900 = (⟨[xvX v], 1, 0⟩, An.of 7)) :
    Calls Tryd.prog 6 #[.int .u64 n, .int .u64 d, .bool false, .string v] w fun e w' => e = .returned (.bool true) ∧ Below w.heap.size w w' := by
  have HV := hid hv
  clear hv
  have HB := hid (Bxr.begin w)
  go_enter Tryd.func6, Tryd.ntmps6
  go_wp2_with fail
  refine (shown_any w HV.out).mono ?_
  rintro e0 w1 ⟨rfl, hb1⟩
  have HB1 : Hid (Bxr w [] [] w1) := hid (HB.out.step hb1)
  clear hb1 HB
  go_upto_region 2 with fail
  refine wp_region_list ?_
  refine wpList_val (v := .agg #[.slice none 0 0, .int .u64 0, .int .i64 0]) (w' := w1) rfl (by kernel_rfl) ?_
  refine wpList_val (v := .int .u64 n) (w' := w1) rfl (by kernel_rfl) ?_
  refine wpList_val (v := (cViv n).v) (w' := w1) rfl (by kernel_rfl) ?_
  refine app2 (s := ⟨[], 0, 0⟩) (now := 5) (c := cViv n) (most := 900) HB1.out (its_none _) (fit_no 0 65536) (by decide) (by decide) hc1 HV.out hr1 rfl rfl rfl rfl rfl rfl rfl rfl rfl rfl (by decide) ⟨117, by kernel_rfl, by decide, by decide, by decide, by decide, by decide, by decide⟩ (by kernel_rfl) (by kernel_rfl) (by kernel_rfl) (fun P1 ax1 nx1 cx1 G1 hg1 => ?_)
  have HG1 : Hid (Bxr w [(P1 + 1, 35, [.int .i64 6, .string ⟨#[110]⟩, .int .u32 0, .string (S (Lib.decDigits n)), .int .i64 0, .int .u64 1, .int .i64 0, .bool false, .bool false, .int .u64 n, .bool false, .bool false, .bool false]), (P1, 25, [.slice ax1 nx1 cx1, .int .u64 ((⟨[suX n 1 0], 1, 0⟩ : Ms)).cas, .int .i64 ((⟨[suX n 1 0], 1, 0⟩ : Ms)).fl])] [(.slice ax1 nx1 cx1, ((⟨[suX n 1 0], 1, 0⟩ : Ms)).its)] G1) := hid hg1
  clear hg1 HB1
  go_simp
  go_upto_region 3 with fail
  refine wp_region_list ?_
  refine loadS (cs := [.slice ax1 nx1 cx1, .int .u64 ((⟨[suX n 1 0], 1, 0⟩ : Ms)).cas, .int .i64 ((⟨[suX n 1 0], 1, 0⟩ : Ms)).fl]) rfl rfl rfl (HG1.out.1.get 1 rfl) rfl ?_
  refine wpList_val (v := .int .u64 d) (w' := G1) rfl (by kernel_rfl) ?_
  refine wpList_val (v := .bool false) (w' := G1) rfl (by kernel_rfl) ?_
  refine wpList_val (v := (cMat kN d false).v) (w' := G1) rfl (by kernel_rfl) ?_
  refine app2 (s := (⟨[suX n 1 0], 1, 0⟩ : Ms)) (now := 5) (c := cMat kN d false) (most := 900) HG1.out (HG1.out.its 0 rfl) hf1 (by decide) (by decide) (cmat_ok kN false hd) HV.out hr2 rfl rfl rfl rfl rfl rfl rfl rfl rfl rfl (by decide) ⟨117, by kernel_rfl, by decide, by decide, by decide, by decide, by decide, by decide⟩ (by kernel_rfl) (by kernel_rfl) (by kernel_rfl) (fun P2 ax2 nx2 cx2 G2 hg2 => ?_)
  have HG2 : Hid (Bxr w [(P2 + 1, 35, [.int .i64 6, .string ⟨#[110]⟩, .int .u32 0, .string (S (Lib.decDigits m)), .int .i64 0, .int .u64 2, .int .i64 0, .bool false, .bool false, .int .u64 m, .bool false, .bool false, .bool false]), (P2, 25, [.slice ax2 nx2 cx2, .int .u64 ((⟨[suX m 2 0], 2, 0⟩ : Ms)).cas, .int .i64 ((⟨[suX m 2 0], 2, 0⟩ : Ms)).fl]), (P1 + 1, 35, [.int .i64 6, .string ⟨#[110]⟩, .int .u32 0, .string (S (Lib.decDigits n)), .int .i64 0, .int .u64 1, .int .i64 0, .bool false, .bool false, .int .u64 n, .bool false, .bool false, .bool false]), (P1, 25, [.slice ax1 nx1 cx1, .int .u64 ((⟨[suX n 1 0], 1, 0⟩ : Ms)).cas, .int .i64 ((⟨[suX n 1 0], 1, 0⟩ : Ms)).fl])] [(.slice ax2 nx2 cx2, ((⟨[suX m 2 0], 2, 0⟩ : Ms)).its), (.slice ax1 nx1 cx1, ((⟨[suX n 1 0], 1, 0⟩ : Ms)).its)] G2) := hid hg2
  clear hg2 HG1
  go_simp
  go_upto_region 4 with fail
  refine wp_region_E (fun W => Blk W (P2) 25 (stv (.slice ax2 nx2 cx2) (⟨[suX m 2 0], 2, 0⟩ : Ms))) 9 (by kernel_rfl) ?_
  have HA3 : Hid (Bxr w [(P2 + 1, 35, [.int .i64 6, .string ⟨#[110]⟩, .int .u32 0, .string (S (Lib.decDigits m)), .int .i64 0, .int .u64 2, .int .i64 0, .bool false, .bool false, .int .u64 m, .bool false, .bool false, .bool false]), (P2, 25, [.slice ax2 nx2 cx2, .int .u64 ((⟨[suX m 2 0], 2, 0⟩ : Ms)).cas, .int .i64 ((⟨[suX m 2 0], 2, 0⟩ : Ms)).fl]), (P1 + 1, 35, [.int .i64 6, .string ⟨#[110]⟩, .int .u32 0, .string (S (Lib.decDigits n)), .int .i64 0, .int .u64 1, .int .i64 0, .bool false, .bool false, .int .u64 n, .bool false, .bool false, .bool false]), (P1, 25, [.slice ax1 nx1 cx1, .int .u64 ((⟨[suX n 1 0], 1, 0⟩ : Ms)).cas, .int .i64 ((⟨[suX n 1 0], 1, 0⟩ : Ms)).fl])] [(.slice ax2 nx2 cx2, ((⟨[suX m 2 0], 2, 0⟩ : Ms)).its), (.slice ax1 nx1 cx1, ((⟨[suX n 1 0], 1, 0⟩ : Ms)).its)] G2.drew) := hid (HG2.out.step (below_d G2))
  clear HG2
  generalize G2.drew = A3 at *
  have hS : Blk A3 (P2) 25 (stv (.slice ax2 nx2 cx2) (⟨[suX m 2 0], 2, 0⟩ : Ms)) := HA3.out.1.get 1 rfl
  refine wpAnyE_take (i := 0) (v := .agg #[.slice ax2 nx2 cx2, .int .u64 2, .int .i64 0]) rfl (by kernel_rfl) (by kernel_rfl) (by kernel_rfl) (fun _ _ _ h => h) (by kernel_rfl) (by kernel_rfl) hS (Or.inl ⟨by rfl, ?_⟩) ?_
  · intro w' hw'
    have u0 := hw'.cell (i := 0) (v := .slice ax2 nx2 cx2) rfl
    have u1 := hw'.cell (i := 1) (v := .int .u64 ((⟨[suX m 2 0], 2, 0⟩ : Ms)).cas) rfl
    have u2 := hw'.cell (i := 2) (v := .int .i64 ((⟨[suX m 2 0], 2, 0⟩ : Ms)).fl) rfl
    go_simp
  clear hS
  refine get2 (k := kN) (now := 5) (most := 900) _ _ 1 2 3 4 5 6 7 8 9 HA3.out (List.mem_of_getElem? (i := 1) rfl) (List.mem_of_getElem? (i := 0) rfl) hf2 (by decide) (by decide) HV.out hr3 rfl rfl rfl rfl rfl rfl rfl rfl rfl rfl rfl rfl rfl rfl rfl rfl rfl (by kernel_rfl) (by decide) rfl ⟨117, by kernel_rfl, by decide, by decide, by decide, by decide, by decide, by decide, by decide⟩ rfl rfl rfl rfl rfl rfl rfl (fun _ _ _ _ _ h => h) (by kernel_rfl) (by kernel_rfl) (by kernel_rfl) (fun P3 Q3 ax3 nx3 cx3 G3 hg3 => ?_)
  have HG3 : Hid (Bxr w [(Q3, 35, [.int .i64 1, .string ⟨#[110]⟩, .int .u32 0, .string (S (Lib.decDigits m)), .int .i64 0, .int .u64 2, .int .i64 5, .bool false, .bool false, .int .u64 0, .bool false, .bool false, .bool false]), (P3, 25, [.slice ax3 nx3 cx3, .int .u64 ((⟨[suX m 2 5], 2, 0⟩ : Ms)).cas, .int .i64 ((⟨[suX m 2 5], 2, 0⟩ : Ms)).fl]), (P2 + 1, 35, [.int .i64 6, .string ⟨#[110]⟩, .int .u32 0, .string (S (Lib.decDigits m)), .int .i64 0, .int .u64 2, .int .i64 0, .bool false, .bool false, .int .u64 m, .bool false, .bool false, .bool false]), (P2, 25, [.slice ax2 nx2 cx2, .int .u64 ((⟨[suX m 2 0], 2, 0⟩ : Ms)).cas, .int .i64 ((⟨[suX m 2 0], 2, 0⟩ : Ms)).fl]), (P1 + 1, 35, [.int .i64 6, .string ⟨#[110]⟩, .int .u32 0, .string (S (Lib.decDigits n)), .int .i64 0, .int .u64 1, .int .i64 0, .bool false, .bool false, .int .u64 n, .bool false, .bool false, .bool false]), (P1, 25, [.slice ax1 nx1 cx1, .int .u64 ((⟨[suX n 1 0], 1, 0⟩ : Ms)).cas, .int .i64 ((⟨[suX n 1 0], 1, 0⟩ : Ms)).fl])] [(.slice ax3 nx3 cx3, ((⟨[suX m 2 5], 2, 0⟩ : Ms)).its), (.slice ax2 nx2 cx2, ((⟨[suX m 2 0], 2, 0⟩ : Ms)).its), (.slice ax1 nx1 cx1, ((⟨[suX n 1 0], 1, 0⟩ : Ms)).its)] G3) := hid hg3
  clear hg3 HA3
  go_simp
  have a0 := (HG3.out.1.get 4 rfl).cell (i := 0) rfl
  have a9 := (HG3.out.1.get 4 rfl).cell (i := 9) rfl
  have b0 := (HG3.out.1.get 2 rfl).cell (i := 0) rfl
  have b3 := (HG3.out.1.get 2 rfl).cell (i := 3) rfl
  have b9 := (HG3.out.1.get 2 rfl).cell (i := 9) rfl
  have c3 := (HG3.out.1.get 0 rfl).cell (i := 3) rfl
  go_upto_region 12 with fail
  clear a0 a9 b0 b3 b9 c3
  refine wp_region_list ?_
  refine wpList_val (v := .agg #[.slice none 0 0, .int .u64 0, .int .i64 0]) (w' := G3) rfl (by kernel_rfl) ?_
  refine wpList_val (v := .string v) (w' := G3) rfl (by kernel_rfl) ?_
  refine wpList_val (v := .string (⟨#[120]⟩ ++ v)) (w' := G3) rfl (by go_simp) ?_
  refine wpList_val (v := (cSto kX (⟨#[120]⟩ ++ v) 0 0 (-1)).v) (w' := G3) rfl (by kernel_rfl) ?_
  refine app2 (s := ⟨[], 0, 0⟩) (now := 5) (c := cSto kX (⟨#[120]⟩ ++ v) 0 0 (-1)) (most := 900) HG3.out (its_none _) (fit_no 0 65536) (by decide) (by decide) hc2 HV.out hr4 rfl rfl rfl rfl rfl rfl rfl rfl rfl rfl (by decide) ⟨117, by kernel_rfl, by decide, by decide, by decide, by decide, by decide, by decide⟩ (by kernel_rfl) (by kernel_rfl) (by kernel_rfl) (fun P4 ax4 nx4 cx4 G4 hg4 => ?_)
  have HG4 : Hid (Bxr w [(P4 + 1, 35, [.int .i64 2, .string ⟨#[120]⟩, .int .u32 0, .string (⟨#[120]⟩ ++ v), .int .i64 0, .int .u64 1, .int .i64 0, .bool false, .bool false, .int .u64 0, .bool false, .bool false, .bool false]), (P4, 25, [.slice ax4 nx4 cx4, .int .u64 ((⟨[xvX v], 1, 0⟩ : Ms)).cas, .int .i64 ((⟨[xvX v], 1, 0⟩ : Ms)).fl]), (Q3, 35, [.int .i64 1, .string ⟨#[110]⟩, .int .u32 0, .string (S (Lib.decDigits m)), .int .i64 0, .int .u64 2, .int .i64 5, .bool false, .bool false, .int .u64 0, .bool false, .bool false, .bool false]), (P3, 25, [.slice ax3 nx3 cx3, .int .u64 ((⟨[suX m 2 5], 2, 0⟩ : Ms)).cas, .int .i64 ((⟨[suX m 2 5], 2, 0⟩ : Ms)).fl]), (P2 + 1, 35, [.int .i64 6, .string ⟨#[110]⟩, .int .u32 0, .string (S (Lib.decDigits m)), .int .i64 0, .int .u64 2, .int .i64 0, .bool false, .bool false, .int .u64 m, .bool false, .bool false, .bool false]), (P2, 25, [.slice ax2 nx2 cx2, .int .u64 ((⟨[suX m 2 0], 2, 0⟩ : Ms)).cas, .int .i64 ((⟨[suX m 2 0], 2, 0⟩ : Ms)).fl]), (P1 + 1, 35, [.int .i64 6, .string ⟨#[110]⟩, .int .u32 0, .string (S (Lib.decDigits n)), .int .i64 0, .int .u64 1, .int .i64 0, .bool false, .bool false, .int .u64 n, .bool false, .bool false, .bool false]), (P1, 25, [.slice ax1 nx1 cx1, .int .u64 ((⟨[suX n 1 0], 1, 0⟩ : Ms)).cas, .int .i64 ((⟨[suX n 1 0], 1, 0⟩ : Ms)).fl])] [(.slice ax4 nx4 cx4, ((⟨[xvX v], 1, 0⟩ : Ms)).its), (.slice ax3 nx3 cx3, ((⟨[suX m 2 5], 2, 0⟩ : Ms)).its), (.slice ax2 nx2 cx2, ((⟨[suX m 2 0], 2, 0⟩ : Ms)).its), (.slice ax1 nx1 cx1, ((⟨[suX n 1 0], 1, 0⟩ : Ms)).its)] G4) := hid hg4
  clear hg4 HG3
  go_simp
  go_upto_region 13 with fail
  refine wp_region_list ?_
  refine loadS (cs := [.slice ax4 nx4 cx4, .int .u64 ((⟨[xvX v], 1, 0⟩ : Ms)).cas, .int .i64 ((⟨[xvX v], 1, 0⟩ : Ms)).fl]) rfl rfl rfl (HG4.out.1.get 1 rfl) rfl ?_
  refine wpList_val (v := .int .u64 d) (w' := G4) rfl (by kernel_rfl) ?_
  refine wpList_val (v := .bool false) (w' := G4) rfl (by kernel_rfl) ?_
  refine wpList_val (v := (cMat kX d false).v) (w' := G4) rfl (by kernel_rfl) ?_
  refine app2 (s := (⟨[xvX v], 1, 0⟩ : Ms)) (now := 5) (c := cMat kX d false) (most := 900) HG4.out (HG4.out.its 0 rfl) hf3 (by decide) (by decide) (cmat_ok kX false hd) HV.out hr5 rfl rfl rfl rfl rfl rfl rfl rfl rfl rfl (by decide) ⟨117, by kernel_rfl, by decide, by decide, by decide, by decide, by decide, by decide⟩ (by kernel_rfl) (by kernel_rfl) (by kernel_rfl) (fun P5 ax5 nx5 cx5 G5 hg5 => ?_)
  have HG5 : Hid (Bxr w [(P5 + 1, 35, [.int .i64 7, .string ⟨#[]⟩, .int .u32 0, .string ⟨#[]⟩, .int .i64 0, .int .u64 0, .int .i64 0, .bool false, .bool false, .int .u64 0, .bool false, .bool false, .bool false]), (P5, 25, [.slice ax5 nx5 cx5, .int .u64 ((⟨[xvX v], 1, 0⟩ : Ms)).cas, .int .i64 ((⟨[xvX v], 1, 0⟩ : Ms)).fl]), (P4 + 1, 35, [.int .i64 2, .string ⟨#[120]⟩, .int .u32 0, .string (⟨#[120]⟩ ++ v), .int .i64 0, .int .u64 1, .int .i64 0, .bool false, .bool false, .int .u64 0, .bool false, .bool false, .bool false]), (P4, 25, [.slice ax4 nx4 cx4, .int .u64 ((⟨[xvX v], 1, 0⟩ : Ms)).cas, .int .i64 ((⟨[xvX v], 1, 0⟩ : Ms)).fl]), (Q3, 35, [.int .i64 1, .string ⟨#[110]⟩, .int .u32 0, .string (S (Lib.decDigits m)), .int .i64 0, .int .u64 2, .int .i64 5, .bool false, .bool false, .int .u64 0, .bool false, .bool false, .bool false]), (P3, 25, [.slice ax3 nx3 cx3, .int .u64 ((⟨[suX m 2 5], 2, 0⟩ : Ms)).cas, .int .i64 ((⟨[suX m 2 5], 2, 0⟩ : Ms)).fl]), (P2 + 1, 35, [.int .i64 6, .string ⟨#[110]⟩, .int .u32 0, .string (S (Lib.decDigits m)), .int .i64 0, .int .u64 2, .int .i64 0, .bool false, .bool false, .int .u64 m, .bool false, .bool false, .bool false]), (P2, 25, [.slice ax2 nx2 cx2, .int .u64 ((⟨[suX m 2 0], 2, 0⟩ : Ms)).cas, .int .i64 ((⟨[suX m 2 0], 2, 0⟩ : Ms)).fl]), (P1 + 1, 35, [.int .i64 6, .string ⟨#[110]⟩, .int .u32 0, .string (S (Lib.decDigits n)), .int .i64 0, .int .u64 1, .int .i64 0, .bool false, .bool false, .int .u64 n, .bool false, .bool false, .bool false]), (P1, 25, [.slice ax1 nx1 cx1, .int .u64 ((⟨[suX n 1 0], 1, 0⟩ : Ms)).cas, .int .i64 ((⟨[suX n 1 0], 1, 0⟩ : Ms)).fl])] [(.slice ax5 nx5 cx5, ((⟨[xvX v], 1, 0⟩ : Ms)).its), (.slice ax4 nx4 cx4, ((⟨[xvX v], 1, 0⟩ : Ms)).its), (.slice ax3 nx3 cx3, ((⟨[suX m 2 5], 2, 0⟩ : Ms)).its), (.slice ax2 nx2 cx2, ((⟨[suX m 2 0], 2, 0⟩ : Ms)).its), (.slice ax1 nx1 cx1, ((⟨[suX n 1 0], 1, 0⟩ : Ms)).its)] G5) := hid hg5
  clear hg5 HG4
  go_simp
  have e0 := (HG5.out.1.get 2 rfl).cell (i := 0) rfl
  have f0 := (HG5.out.1.get 0 rfl).cell (i := 0) rfl
  have u0 := (HG5.out.1.get 3 rfl).cell (i := 0) rfl
  have u1 := (HG5.out.1.get 3 rfl).cell (i := 1) rfl
  have u2 := (HG5.out.1.get 3 rfl).cell (i := 2) rfl
  have v0 := (HG5.out.1.get 1 rfl).cell (i := 0) rfl
  have v1 := (HG5.out.1.get 1 rfl).cell (i := 1) rfl
  have v2 := (HG5.out.1.get 1 rfl).cell (i := 2) rfl
  have hI1 := HG5.out.its 1 rfl
  have hI2 := HG5.out.its 0 rfl
  have HI1 := hid hI1
  have HI2 := hid hI2
  clear hI1 hI2
  obtain rfl := its_len HI1.out
  obtain rfl := its_len HI2.out
  go_wp2_with fail
  refine (same_yes (l := [xvX v]) HI1.out HI2.out (by show (1 : Nat) ≤ 4194304; decide)).mono ?_
  rintro e9 w9 ⟨rfl, hb9⟩
  have HZ := hid (HG5.out.step hb9)
  go_wp2_with fail
  go_ret
  exact ⟨rfl, HZ.out.1.1⟩
set_option maxRecDepth 100000 in
set_option maxHeartbeats 40000000 in
theorem sums_dn {m : Nat} {w : World} (hv : Nu.Vars w) (hc1 : (cViv n).Ok) (hd : d ≤ 18446744073709551615) (hw : IntKind.u64.wrap ((n : Int) - min (n : Int) (d : Int)) = (m : Int)) (hr1 : apply ⟨[], 0, 0⟩ 5 (cViv n) 900 = (⟨[suX n 1 0], 1, 0⟩, ⟨6, suX n 1 0, n, false, false, false⟩)) (hf1 : Fit 1 65536 ⟨[suX n 1 0], 1, 0⟩) (hr2 : apply ⟨[suX n 1 0], 1, 0⟩ 5 (cMat kN d true) 900 = (⟨[suX m 2 0], 2, 0⟩, ⟨6, suX m 2 0, m, false, false, false⟩)) (hf2 : Fit 2 65536 ⟨[suX m 2 0], 2, 0⟩) (hr3 : apply ⟨[suX m 2 0], 2, 0⟩ 5 (cGet kN) 900 = (⟨[suX m 2 5], 2, 0⟩, An.is 1 (suX m 2 5))) (hl : decide ((800 : Int) < (v.size : Nat)) = false) (hz : 1 + v.size ≤ 9223372036854775807) (hc2 : (cSto kX (⟨#[120]⟩ ++ v) 0 0 (-1)).Ok) (hr4 : apply ⟨[], 0, 0⟩ 5 (cSto kX (⟨#[120]⟩ ++ v) 0 0 (-1)) 900 = (⟨[xvX v], 1, 0⟩, An.is 2 (xvX v))) (hf3 : Fit 1 65536 ⟨[xvX v], 1, 0⟩) (hr5 : apply ⟨[xvX v], 1, 0⟩ 5 (cMat kX d true) 900 = (⟨[xvX v], 1, 0⟩, An.of 7)) :
    Calls Tryd.prog 6 #[.int .u64 n, .int .u64 d, .bool true, .string v] w fun e w' => e = .returned (.bool true) ∧ Below w.heap.size w w' := by
  have HV := hid hv
  clear hv
  have HB := hid (Bxr.begin w)
  go_enter Tryd.func6, Tryd.ntmps6
  go_wp2_with fail
  refine (shown_any w HV.out).mono ?_
  rintro e0 w1 ⟨rfl, hb1⟩
  have HB1 : Hid (Bxr w [] [] w1) := hid (HB.out.step hb1)
  clear hb1 HB
  go_upto_region 2 with fail
  refine wp_region_list ?_
  refine wpList_val (v := .agg #[.slice none 0 0, .int .u64 0, .int .i64 0]) (w' := w1) rfl (by kernel_rfl) ?_
  refine wpList_val (v := .int .u64 n) (w' := w1) rfl (by kernel_rfl) ?_
  refine wpList_val (v := (cViv n).v) (w' := w1) rfl (by kernel_rfl) ?_
  refine app2 (s := ⟨[], 0, 0⟩) (now := 5) (c := cViv n) (most := 900) HB1.out (its_none _) (fit_no 0 65536) (by decide) (by decide) hc1 HV.out hr1 rfl rfl rfl rfl rfl rfl rfl rfl rfl rfl (by decide) ⟨117, by kernel_rfl, by decide, by decide, by decide, by decide, by decide, by decide⟩ (by kernel_rfl) (by kernel_rfl) (by kernel_rfl) (fun P1 ax1 nx1 cx1 G1 hg1 => ?_)
  have HG1 : Hid (Bxr w [(P1 + 1, 35, [.int .i64 6, .string ⟨#[110]⟩, .int .u32 0, .string (S (Lib.decDigits n)), .int .i64 0, .int .u64 1, .int .i64 0, .bool false, .bool false, .int .u64 n, .bool false, .bool false, .bool false]), (P1, 25, [.slice ax1 nx1 cx1, .int .u64 ((⟨[suX n 1 0], 1, 0⟩ : Ms)).cas, .int .i64 ((⟨[suX n 1 0], 1, 0⟩ : Ms)).fl])] [(.slice ax1 nx1 cx1, ((⟨[suX n 1 0], 1, 0⟩ : Ms)).its)] G1) := hid hg1
  clear hg1 HB1
  go_simp
  go_upto_region 3 with fail
  refine wp_region_list ?_
  refine loadS (cs := [.slice ax1 nx1 cx1, .int .u64 ((⟨[suX n 1 0], 1, 0⟩ : Ms)).cas, .int .i64 ((⟨[suX n 1 0], 1, 0⟩ : Ms)).fl]) rfl rfl rfl (HG1.out.1.get 1 rfl) rfl ?_
  refine wpList_val (v := .int .u64 d) (w' := G1) rfl (by kernel_rfl) ?_
  refine wpList_val (v := .bool true) (w' := G1) rfl (by kernel_rfl) ?_
  refine wpList_val (v := (cMat kN d true).v) (w' := G1) rfl (by kernel_rfl) ?_
  refine app2 (s := (⟨[suX n 1 0], 1, 0⟩ : Ms)) (now := 5) (c := cMat kN d true) (most := 900) HG1.out (HG1.out.its 0 rfl) hf1 (by decide) (by decide) (cmat_ok kN true hd) HV.out hr2 rfl rfl rfl rfl rfl rfl rfl rfl rfl rfl (by decide) ⟨117, by kernel_rfl, by decide, by decide, by decide, by decide, by decide, by decide⟩ (by kernel_rfl) (by kernel_rfl) (by kernel_rfl) (fun P2 ax2 nx2 cx2 G2 hg2 => ?_)
  have HG2 : Hid (Bxr w [(P2 + 1, 35, [.int .i64 6, .string ⟨#[110]⟩, .int .u32 0, .string (S (Lib.decDigits m)), .int .i64 0, .int .u64 2, .int .i64 0, .bool false, .bool false, .int .u64 m, .bool false, .bool false, .bool false]), (P2, 25, [.slice ax2 nx2 cx2, .int .u64 ((⟨[suX m 2 0], 2, 0⟩ : Ms)).cas, .int .i64 ((⟨[suX m 2 0], 2, 0⟩ : Ms)).fl]), (P1 + 1, 35, [.int .i64 6, .string ⟨#[110]⟩, .int .u32 0, .string (S (Lib.decDigits n)), .int .i64 0, .int .u64 1, .int .i64 0, .bool false, .bool false, .int .u64 n, .bool false, .bool false, .bool false]), (P1, 25, [.slice ax1 nx1 cx1, .int .u64 ((⟨[suX n 1 0], 1, 0⟩ : Ms)).cas, .int .i64 ((⟨[suX n 1 0], 1, 0⟩ : Ms)).fl])] [(.slice ax2 nx2 cx2, ((⟨[suX m 2 0], 2, 0⟩ : Ms)).its), (.slice ax1 nx1 cx1, ((⟨[suX n 1 0], 1, 0⟩ : Ms)).its)] G2) := hid hg2
  clear hg2 HG1
  go_simp
  go_upto_region 4 with fail
  refine wp_region_E (fun W => Blk W (P2) 25 (stv (.slice ax2 nx2 cx2) (⟨[suX m 2 0], 2, 0⟩ : Ms))) 9 (by kernel_rfl) ?_
  have HA3 : Hid (Bxr w [(P2 + 1, 35, [.int .i64 6, .string ⟨#[110]⟩, .int .u32 0, .string (S (Lib.decDigits m)), .int .i64 0, .int .u64 2, .int .i64 0, .bool false, .bool false, .int .u64 m, .bool false, .bool false, .bool false]), (P2, 25, [.slice ax2 nx2 cx2, .int .u64 ((⟨[suX m 2 0], 2, 0⟩ : Ms)).cas, .int .i64 ((⟨[suX m 2 0], 2, 0⟩ : Ms)).fl]), (P1 + 1, 35, [.int .i64 6, .string ⟨#[110]⟩, .int .u32 0, .string (S (Lib.decDigits n)), .int .i64 0, .int .u64 1, .int .i64 0, .bool false, .bool false, .int .u64 n, .bool false, .bool false, .bool false]), (P1, 25, [.slice ax1 nx1 cx1, .int .u64 ((⟨[suX n 1 0], 1, 0⟩ : Ms)).cas, .int .i64 ((⟨[suX n 1 0], 1, 0⟩ : Ms)).fl])] [(.slice ax2 nx2 cx2, ((⟨[suX m 2 0], 2, 0⟩ : Ms)).its), (.slice ax1 nx1 cx1, ((⟨[suX n 1 0], 1, 0⟩ : Ms)).its)] G2.drew) := hid (HG2.out.step (below_d G2))
  clear HG2
  generalize G2.drew = A3 at *
  have hS : Blk A3 (P2) 25 (stv (.slice ax2 nx2 cx2) (⟨[suX m 2 0], 2, 0⟩ : Ms)) := HA3.out.1.get 1 rfl
  refine wpAnyE_take (i := 0) (v := .agg #[.slice ax2 nx2 cx2, .int .u64 2, .int .i64 0]) rfl (by kernel_rfl) (by kernel_rfl) (by kernel_rfl) (fun _ _ _ h => h) (by kernel_rfl) (by kernel_rfl) hS (Or.inl ⟨by rfl, ?_⟩) ?_
  · intro w' hw'
    have u0 := hw'.cell (i := 0) (v := .slice ax2 nx2 cx2) rfl
    have u1 := hw'.cell (i := 1) (v := .int .u64 ((⟨[suX m 2 0], 2, 0⟩ : Ms)).cas) rfl
    have u2 := hw'.cell (i := 2) (v := .int .i64 ((⟨[suX m 2 0], 2, 0⟩ : Ms)).fl) rfl
    go_simp
  clear hS
  refine get2 (k := kN) (now := 5) (most := 900) _ _ 1 2 3 4 5 6 7 8 9 HA3.out (List.mem_of_getElem? (i := 1) rfl) (List.mem_of_getElem? (i := 0) rfl) hf2 (by decide) (by decide) HV.out hr3 rfl rfl rfl rfl rfl rfl rfl rfl rfl rfl rfl rfl rfl rfl rfl rfl rfl (by kernel_rfl) (by decide) rfl ⟨117, by kernel_rfl, by decide, by decide, by decide, by decide, by decide, by decide, by decide⟩ rfl rfl rfl rfl rfl rfl rfl (fun _ _ _ _ _ h => h) (by kernel_rfl) (by kernel_rfl) (by kernel_rfl) (fun P3 Q3 ax3 nx3 cx3 G3 hg3 => ?_)
  have HG3 : Hid (Bxr w [(Q3, 35, [.int .i64 1, .string ⟨#[110]⟩, .int .u32 0, .string (S (Lib.decDigits m)), .int .i64 0, .int .u64 2, .int .i64 5, .bool false, .bool false, .int .u64 0, .bool false, .bool false, .bool false]), (P3, 25, [.slice ax3 nx3 cx3, .int .u64 ((⟨[suX m 2 5], 2, 0⟩ : Ms)).cas, .int .i64 ((⟨[suX m 2 5], 2, 0⟩ : Ms)).fl]), (P2 + 1, 35, [.int .i64 6, .string ⟨#[110]⟩, .int .u32 0, .string (S (Lib.decDigits m)), .int .i64 0, .int .u64 2, .int .i64 0, .bool false, .bool false, .int .u64 m, .bool false, .bool false, .bool false]), (P2, 25, [.slice ax2 nx2 cx2, .int .u64 ((⟨[suX m 2 0], 2, 0⟩ : Ms)).cas, .int .i64 ((⟨[suX m 2 0], 2, 0⟩ : Ms)).fl]), (P1 + 1, 35, [.int .i64 6, .string ⟨#[110]⟩, .int .u32 0, .string (S (Lib.decDigits n)), .int .i64 0, .int .u64 1, .int .i64 0, .bool false, .bool false, .int .u64 n, .bool false, .bool false, .bool false]), (P1, 25, [.slice ax1 nx1 cx1, .int .u64 ((⟨[suX n 1 0], 1, 0⟩ : Ms)).cas, .int .i64 ((⟨[suX n 1 0], 1, 0⟩ : Ms)).fl])] [(.slice ax3 nx3 cx3, ((⟨[suX m 2 5], 2, 0⟩ : Ms)).its), (.slice ax2 nx2 cx2, ((⟨[suX m 2 0], 2, 0⟩ : Ms)).its), (.slice ax1 nx1 cx1, ((⟨[suX n 1 0], 1, 0⟩ : Ms)).its)] G3) := hid hg3
  clear hg3 HA3
  go_simp
  have a0 := (HG3.out.1.get 4 rfl).cell (i := 0) rfl
  have a9 := (HG3.out.1.get 4 rfl).cell (i := 9) rfl
  have b0 := (HG3.out.1.get 2 rfl).cell (i := 0) rfl
  have b3 := (HG3.out.1.get 2 rfl).cell (i := 3) rfl
  have b9 := (HG3.out.1.get 2 rfl).cell (i := 9) rfl
  have c3 := (HG3.out.1.get 0 rfl).cell (i := 3) rfl
  go_upto_region 12 with fail
  clear a0 a9 b0 b3 b9 c3
  refine wp_region_list ?_
  refine wpList_val (v := .agg #[.slice none 0 0, .int .u64 0, .int .i64 0]) (w' := G3) rfl (by kernel_rfl) ?_
  refine wpList_val (v := .string v) (w' := G3) rfl (by kernel_rfl) ?_
  refine wpList_val (v := .string (⟨#[120]⟩ ++ v)) (w' := G3) rfl (by go_simp) ?_
  refine wpList_val (v := (cSto kX (⟨#[120]⟩ ++ v) 0 0 (-1)).v) (w' := G3) rfl (by kernel_rfl) ?_
  refine app2 (s := ⟨[], 0, 0⟩) (now := 5) (c := cSto kX (⟨#[120]⟩ ++ v) 0 0 (-1)) (most := 900) HG3.out (its_none _) (fit_no 0 65536) (by decide) (by decide) hc2 HV.out hr4 rfl rfl rfl rfl rfl rfl rfl rfl rfl rfl (by decide) ⟨117, by kernel_rfl, by decide, by decide, by decide, by decide, by decide, by decide⟩ (by kernel_rfl) (by kernel_rfl) (by kernel_rfl) (fun P4 ax4 nx4 cx4 G4 hg4 => ?_)
  have HG4 : Hid (Bxr w [(P4 + 1, 35, [.int .i64 2, .string ⟨#[120]⟩, .int .u32 0, .string (⟨#[120]⟩ ++ v), .int .i64 0, .int .u64 1, .int .i64 0, .bool false, .bool false, .int .u64 0, .bool false, .bool false, .bool false]), (P4, 25, [.slice ax4 nx4 cx4, .int .u64 ((⟨[xvX v], 1, 0⟩ : Ms)).cas, .int .i64 ((⟨[xvX v], 1, 0⟩ : Ms)).fl]), (Q3, 35, [.int .i64 1, .string ⟨#[110]⟩, .int .u32 0, .string (S (Lib.decDigits m)), .int .i64 0, .int .u64 2, .int .i64 5, .bool false, .bool false, .int .u64 0, .bool false, .bool false, .bool false]), (P3, 25, [.slice ax3 nx3 cx3, .int .u64 ((⟨[suX m 2 5], 2, 0⟩ : Ms)).cas, .int .i64 ((⟨[suX m 2 5], 2, 0⟩ : Ms)).fl]), (P2 + 1, 35, [.int .i64 6, .string ⟨#[110]⟩, .int .u32 0, .string (S (Lib.decDigits m)), .int .i64 0, .int .u64 2, .int .i64 0, .bool false, .bool false, .int .u64 m, .bool false, .bool false, .bool false]), (P2, 25, [.slice ax2 nx2 cx2, .int .u64 ((⟨[suX m 2 0], 2, 0⟩ : Ms)).cas, .int .i64 ((⟨[suX m 2 0], 2, 0⟩ : Ms)).fl]), (P1 + 1, 35, [.int .i64 6, .string ⟨#[110]⟩, .int .u32 0, .string (S (Lib.decDigits n)), .int .i64 0, .int .u64 1, .int .i64 0, .bool false, .bool false, .int .u64 n, .bool false, .bool false, .bool false]), (P1, 25, [.slice ax1 nx1 cx1, .int .u64 ((⟨[suX n 1 0], 1, 0⟩ : Ms)).cas, .int .i64 ((⟨[suX n 1 0], 1, 0⟩ : Ms)).fl])] [(.slice ax4 nx4 cx4, ((⟨[xvX v], 1, 0⟩ : Ms)).its), (.slice ax3 nx3 cx3, ((⟨[suX m 2 5], 2, 0⟩ : Ms)).its), (.slice ax2 nx2 cx2, ((⟨[suX m 2 0], 2, 0⟩ : Ms)).its), (.slice ax1 nx1 cx1, ((⟨[suX n 1 0], 1, 0⟩ : Ms)).its)] G4) := hid hg4
  clear hg4 HG3
  go_simp
  go_upto_region 13 with fail
  refine wp_region_list ?_
  refine loadS (cs := [.slice ax4 nx4 cx4, .int .u64 ((⟨[xvX v], 1, 0⟩ : Ms)).cas, .int .i64 ((⟨[xvX v], 1, 0⟩ : Ms)).fl]) rfl rfl rfl (HG4.out.1.get 1 rfl) rfl ?_
  refine wpList_val (v := .int .u64 d) (w' := G4) rfl (by kernel_rfl) ?_
  refine wpList_val (v := .bool true) (w' := G4) rfl (by kernel_rfl) ?_
  refine wpList_val (v := (cMat kX d true).v) (w' := G4) rfl (by kernel_rfl) ?_
  refine app2 (s := (⟨[xvX v], 1, 0⟩ : Ms)) (now := 5) (c := cMat kX d true) (most := 900) HG4.out (HG4.out.its 0 rfl) hf3 (by decide) (by decide) (cmat_ok kX true hd) HV.out hr5 rfl rfl rfl rfl rfl rfl rfl rfl rfl rfl (by decide) ⟨117, by kernel_rfl, by decide, by decide, by decide, by decide, by decide, by decide⟩ (by kernel_rfl) (by kernel_rfl) (by kernel_rfl) (fun P5 ax5 nx5 cx5 G5 hg5 => ?_)
  have HG5 : Hid (Bxr w [(P5 + 1, 35, [.int .i64 7, .string ⟨#[]⟩, .int .u32 0, .string ⟨#[]⟩, .int .i64 0, .int .u64 0, .int .i64 0, .bool false, .bool false, .int .u64 0, .bool false, .bool false, .bool false]), (P5, 25, [.slice ax5 nx5 cx5, .int .u64 ((⟨[xvX v], 1, 0⟩ : Ms)).cas, .int .i64 ((⟨[xvX v], 1, 0⟩ : Ms)).fl]), (P4 + 1, 35, [.int .i64 2, .string ⟨#[120]⟩, .int .u32 0, .string (⟨#[120]⟩ ++ v), .int .i64 0, .int .u64 1, .int .i64 0, .bool false, .bool false, .int .u64 0, .bool false, .bool false, .bool false]), (P4, 25, [.slice ax4 nx4 cx4, .int .u64 ((⟨[xvX v], 1, 0⟩ : Ms)).cas, .int .i64 ((⟨[xvX v], 1, 0⟩ : Ms)).fl]), (Q3, 35, [.int .i64 1, .string ⟨#[110]⟩, .int .u32 0, .string (S (Lib.decDigits m)), .int .i64 0, .int .u64 2, .int .i64 5, .bool false, .bool false, .int .u64 0, .bool false, .bool false, .bool false]), (P3, 25, [.slice ax3 nx3 cx3, .int .u64 ((⟨[suX m 2 5], 2, 0⟩ : Ms)).cas, .int .i64 ((⟨[suX m 2 5], 2, 0⟩ : Ms)).fl]), (P2 + 1, 35, [.int .i64 6, .string ⟨#[110]⟩, .int .u32 0, .string (S (Lib.decDigits m)), .int .i64 0, .int .u64 2, .int .i64 0, .bool false, .bool false, .int .u64 m, .bool false, .bool false, .bool false]), (P2, 25, [.slice ax2 nx2 cx2, .int .u64 ((⟨[suX m 2 0], 2, 0⟩ : Ms)).cas, .int .i64 ((⟨[suX m 2 0], 2, 0⟩ : Ms)).fl]), (P1 + 1, 35, [.int .i64 6, .string ⟨#[110]⟩, .int .u32 0, .string (S (Lib.decDigits n)), .int .i64 0, .int .u64 1, .int .i64 0, .bool false, .bool false, .int .u64 n, .bool false, .bool false, .bool false]), (P1, 25, [.slice ax1 nx1 cx1, .int .u64 ((⟨[suX n 1 0], 1, 0⟩ : Ms)).cas, .int .i64 ((⟨[suX n 1 0], 1, 0⟩ : Ms)).fl])] [(.slice ax5 nx5 cx5, ((⟨[xvX v], 1, 0⟩ : Ms)).its), (.slice ax4 nx4 cx4, ((⟨[xvX v], 1, 0⟩ : Ms)).its), (.slice ax3 nx3 cx3, ((⟨[suX m 2 5], 2, 0⟩ : Ms)).its), (.slice ax2 nx2 cx2, ((⟨[suX m 2 0], 2, 0⟩ : Ms)).its), (.slice ax1 nx1 cx1, ((⟨[suX n 1 0], 1, 0⟩ : Ms)).its)] G5) := hid hg5
  clear hg5 HG4
  go_simp
  have e0 := (HG5.out.1.get 2 rfl).cell (i := 0) rfl
  have f0 := (HG5.out.1.get 0 rfl).cell (i := 0) rfl
  have u0 := (HG5.out.1.get 3 rfl).cell (i := 0) rfl
  have u1 := (HG5.out.1.get 3 rfl).cell (i := 1) rfl
  have u2 := (HG5.out.1.get 3 rfl).cell (i := 2) rfl
  have v0 := (HG5.out.1.get 1 rfl).cell (i := 0) rfl
  have v1 := (HG5.out.1.get 1 rfl).cell (i := 1) rfl
  have v2 := (HG5.out.1.get 1 rfl).cell (i := 2) rfl
  have hI1 := HG5.out.its 1 rfl
  have hI2 := HG5.out.its 0 rfl
  have HI1 := hid hI1
  have HI2 := hid hI2
  clear hI1 hI2
  obtain rfl := its_len HI1.out
  obtain rfl := its_len HI2.out
  go_wp2_with fail
  refine (same_yes (l := [xvX v]) HI1.out HI2.out (by show (1 : Nat) ≤ 4194304; decide)).mono ?_
  rintro e9 w9 ⟨rfl, hb9⟩
  have HZ := hid (HG5.out.step hb9)
  go_wp2_with fail
  go_ret
  exact ⟨rfl, HZ.out.1.1⟩
end
end Go.Proofs.YtkaaebjifkbclaaDoor.Md
