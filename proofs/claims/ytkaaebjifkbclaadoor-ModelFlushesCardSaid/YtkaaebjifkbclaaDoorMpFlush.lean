/-
  The law ModelFlushes: a flush that is to come takes all when it comes, and nothing ahead. Conditions: numbers are in their types' ranges; the library's variables are as they begin.
-/
import Derived.Test.YtkaaebjifkbclaaDoorMpApp
import Derived.Test.YtkaaebjifkbclaaDoorMpFlushMath
namespace Go.Proofs.YtkaaebjifkbclaaDoor.Md
open Go Go.RowKit Go.Lib
set_option maxRecDepth 100000 in
set_option maxHeartbeats 40000000 in
theorem flush_live {sec later SEC T L L2 T2 : Int} {w : World} (hv : Nu.Vars w) (m1 : 1 + bits .and .i64 sec 1048575 = SEC) (m2 : IntKind.i64.wrap SEC = SEC) (m3 : bits .and .i64 later 1048575 = L) (m4 : 10 + L = L2) (m5 : IntKind.i64.wrap L2 = L2) (m6 : 10 + SEC = T) (m7 : IntKind.i64.wrap T = T) (m8 : T + L = T2) (m9 : IntKind.i64.wrap T2 = T2) (hflu : (cFlu SEC).Ok) (hf1 : Fit 1 65536 (⟨[flA 0], 1, 0⟩ : Ms)) (hf2 : Fit 2 65536 (⟨[flA 0, flB 2 0], 2, 0⟩ : Ms)) (hf3 : Fit 3 65536 (⟨[flA 0, flB 2 0], 2, T⟩ : Ms)) (hf4 : Fit 4 65536 (⟨[flA L2, flB 2 0], 2, T⟩ : Ms)) (hf5 : Fit 5 65536 (⟨[flA L2, flB 2 L2], 2, T⟩ : Ms)) (hf6 : Fit 6 65536 (⟨[flB 3 0], 3, 0⟩ : Ms)) (ha3 : apply (⟨[flA 0, flB 2 0], 2, 0⟩ : Ms) 10 (cFlu SEC) 99 = ((⟨[flA 0, flB 2 0], 2, T⟩ : Ms), An.of 10)) (ha4 : apply (⟨[flA 0, flB 2 0], 2, T⟩ : Ms) L2 (cGet kA) 99 = ((⟨[flA L2, flB 2 0], 2, T⟩ : Ms), An.is 1 (flA L2))) (ha5 : apply (⟨[flA L2, flB 2 0], 2, T⟩ : Ms) L2 (cGet kB) 99 = ((⟨[flA L2, flB 2 L2], 2, T⟩ : Ms), An.is 1 (flB 2 L2))) (ha6 : apply (⟨[flA L2, flB 2 L2], 2, T⟩ : Ms) T (cSto kB k1 0 0 (-1)) 99 = ((⟨[flB 3 0], 3, 0⟩ : Ms), An.is 2 (flB 3 0))) (ha7 : apply (⟨[flB 3 0], 3, 0⟩ : Ms) T2 (cGet kB) 99 = ((⟨[flB 3 T2], 3, 0⟩ : Ms), An.is 1 (flB 3 T2))) (hl1 : L < SEC) :
    Calls Tryd.prog 9 #[.int .i64 sec, .int .i64 later] w fun e w' => e = .returned (.bool true) ∧ Below w.heap.size w w' := by
  have HV := hid hv
  have m1' : bits .and .i64 sec 1048575 + 1 = SEC := by omega
  clear hv
  have HB := hid (Bxr.begin w)
  go_enter Tryd.func9, Tryd.ntmps9
  go_wp2_with fail
  refine (shown_any w HV.out).mono ?_
  rintro e0 w1 ⟨rfl, hb1⟩
  have HB1 : Hid (Bxr w [] [] w1) := hid (HB.out.step hb1)
  clear hb1 HB
  go_upto_region 4 with fail
  refine wp_region_list ?_
  refine wpList_val (v := (cSto kA k1 0 0 (-1)).v) (w' := w1) rfl (by kernel_rfl) ?_
  refine newT (cs := [.int .i64 2, .int .i64 0, .string ⟨#[97]⟩, .string ⟨#[49]⟩, .int .u32 0, .int .i64 0, .bool false, .int .u64 0, .bool false, .int .u64 0, .int .u64 0, .bool false, .bool false, .int .i64 0, .int .i64 (-1), .bool false]) HB1.out rfl rfl rfl rfl rfl rfl (by kernel_rfl) rfl ⟨104, by kernel_rfl, by decide⟩ rfl rfl (fun P1 G1 hg1 => ?_)
  have HG1 : Hid (Bxr w [(P1, 28, [.int .i64 2, .int .i64 0, .string ⟨#[97]⟩, .string ⟨#[49]⟩, .int .u32 0, .int .i64 0, .bool false, .int .u64 0, .bool false, .int .u64 0, .int .u64 0, .bool false, .bool false, .int .i64 0, .int .i64 (-1), .bool false])] [] G1) := hid hg1
  clear hg1 HB1
  go_simp
  go_upto_region 5 with fail
  refine wp_region_list ?_
  refine wpList_val (v := .agg #[.slice none 0 0, .int .u64 0, .int .i64 0]) (w' := G1) rfl (by kernel_rfl) ?_
  refine loadC (cs := [.int .i64 2, .int .i64 0, .string ⟨#[97]⟩, .string ⟨#[49]⟩, .int .u32 0, .int .i64 0, .bool false, .int .u64 0, .bool false, .int .u64 0, .int .u64 0, .bool false, .bool false, .int .i64 0, .int .i64 (-1), .bool false]) rfl rfl rfl (HG1.out.1.get 0 rfl) rfl ?_
  refine app2 (s := ⟨[], 0, 0⟩) (now := 10) (c := cSto kA k1 0 0 (-1)) (most := 99) HG1.out (its_none _) (fit_no 0 65536) (by decide) (by decide) fsto_ok HV.out fl_one rfl rfl rfl rfl rfl rfl rfl rfl rfl rfl (by decide) ⟨104, by kernel_rfl, by decide, by decide, by decide, by decide, by decide, by decide⟩ (by kernel_rfl) (by kernel_rfl) (by kernel_rfl) (fun P2 ax2 nx2 cx2 G2 hg2 => ?_)
  have HG2 : Hid (Bxr w [(P2 + 1, 35, [.int .i64 2, .string ⟨#[97]⟩, .int .u32 0, .string ⟨#[49]⟩, .int .i64 0, .int .u64 1, .int .i64 0, .bool false, .bool false, .int .u64 0, .bool false, .bool false, .bool false]), (P2, 25, [.slice ax2 nx2 cx2, .int .u64 ((⟨[flA 0], 1, 0⟩ : Ms)).cas, .int .i64 ((⟨[flA 0], 1, 0⟩ : Ms)).fl]), (P1, 28, [.int .i64 2, .int .i64 0, .string ⟨#[97]⟩, .string ⟨#[49]⟩, .int .u32 0, .int .i64 0, .bool false, .int .u64 0, .bool false, .int .u64 0, .int .u64 0, .bool false, .bool false, .int .i64 0, .int .i64 (-1), .bool false])] [(.slice ax2 nx2 cx2, ((⟨[flA 0], 1, 0⟩ : Ms)).its)] G2) := hid hg2
  clear hg2 HG1
  go_simp
  have e3_ := (HG2.out.1.get 2 rfl).cell (i := 2) rfl
  have f3_ := (HG2.out.1.get 2 rfl).frozen 2
  go_upto_region 7 with fail
  clear e3_ f3_
  change Code.wp _ _ _ _ (G2.setCell ⟨P1, 2, none⟩ (.string ⟨#[98]⟩))
  have HE3 : Hid (Bxr w [(P2 + 1, 35, [.int .i64 2, .string ⟨#[97]⟩, .int .u32 0, .string ⟨#[49]⟩, .int .i64 0, .int .u64 1, .int .i64 0, .bool false, .bool false, .int .u64 0, .bool false, .bool false, .bool false]), (P2, 25, [.slice ax2 nx2 cx2, .int .u64 ((⟨[flA 0], 1, 0⟩ : Ms)).cas, .int .i64 ((⟨[flA 0], 1, 0⟩ : Ms)).fl]), (P1, 28, [.int .i64 2, .int .i64 0, .string ⟨#[98]⟩, .string ⟨#[49]⟩, .int .u32 0, .int .i64 0, .bool false, .int .u64 0, .bool false, .int .u64 0, .int .u64 0, .bool false, .bool false, .int .i64 0, .int .i64 (-1), .bool false])] [(.slice ax2 nx2 cx2, ((⟨[flA 0], 1, 0⟩ : Ms)).its)] (G2.setCell ⟨P1, 2, none⟩ (.string ⟨#[98]⟩))) := hid (HG2.out.cell1 2 rfl 2 (.string ⟨#[98]⟩))
  clear HG2
  generalize (G2.setCell ⟨P1, 2, none⟩ (.string ⟨#[98]⟩)) = X3 at *
  refine wp_region_list ?_
  refine loadS (cs := [.slice ax2 nx2 cx2, .int .u64 ((⟨[flA 0], 1, 0⟩ : Ms)).cas, .int .i64 ((⟨[flA 0], 1, 0⟩ : Ms)).fl]) rfl rfl rfl (HE3.out.1.get 1 rfl) rfl ?_
  refine loadC (cs := [.int .i64 2, .int .i64 0, .string ⟨#[98]⟩, .string ⟨#[49]⟩, .int .u32 0, .int .i64 0, .bool false, .int .u64 0, .bool false, .int .u64 0, .int .u64 0, .bool false, .bool false, .int .i64 0, .int .i64 (-1), .bool false]) rfl rfl rfl (HE3.out.1.get 2 rfl) rfl ?_
  refine app0 (s := (⟨[flA 0], 1, 0⟩ : Ms)) (now := 10) (c := cSto kB k1 0 0 (-1)) (most := 99) HE3.out (HE3.out.its 0 rfl) hf1 (by decide) (by decide) fstob_ok HV.out fl_two rfl rfl rfl rfl rfl rfl 1 (P2) 7 [.slice ax2 nx2 cx2, .int .u64 ((⟨[flA 0], 1, 0⟩ : Ms)).cas, .int .i64 ((⟨[flA 0], 1, 0⟩ : Ms)).fl] rfl rfl rfl rfl (by decide) ⟨104, by kernel_rfl, by decide, by decide, by decide, by decide⟩ (by kernel_rfl) (by kernel_rfl) (by kernel_rfl) (fun ax4 nx4 cx4 G4 hg4 => ?_)
  have HG4 : Hid (Bxr w [(P2 + 1, 35, [.int .i64 2, .string ⟨#[97]⟩, .int .u32 0, .string ⟨#[49]⟩, .int .i64 0, .int .u64 1, .int .i64 0, .bool false, .bool false, .int .u64 0, .bool false, .bool false, .bool false]), (P2, 25, [.slice ax4 nx4 cx4, .int .u64 ((⟨[flA 0, flB 2 0], 2, 0⟩ : Ms)).cas, .int .i64 ((⟨[flA 0, flB 2 0], 2, 0⟩ : Ms)).fl]), (P1, 28, [.int .i64 2, .int .i64 0, .string ⟨#[98]⟩, .string ⟨#[49]⟩, .int .u32 0, .int .i64 0, .bool false, .int .u64 0, .bool false, .int .u64 0, .int .u64 0, .bool false, .bool false, .int .i64 0, .int .i64 (-1), .bool false])] [(.slice ax4 nx4 cx4, ((⟨[flA 0, flB 2 0], 2, 0⟩ : Ms)).its), (.slice ax2 nx2 cx2, ((⟨[flA 0], 1, 0⟩ : Ms)).its)] G4) := hid hg4
  clear hg4 HE3
  go_simp
  go_upto_region 8 with fail
  refine wp_region_list ?_
  refine loadS (cs := [.slice ax4 nx4 cx4, .int .u64 ((⟨[flA 0, flB 2 0], 2, 0⟩ : Ms)).cas, .int .i64 ((⟨[flA 0, flB 2 0], 2, 0⟩ : Ms)).fl]) rfl rfl rfl (HG4.out.1.get 1 rfl) rfl ?_
  refine wpList_val (v := .int .i64 SEC) (w' := G4) rfl (by kernel_rfl) ?_
  refine wpList_val (v := (cFlu SEC).v) (w' := G4) rfl (by kernel_rfl) ?_
  refine app1 (s := (⟨[flA 0, flB 2 0], 2, 0⟩ : Ms)) (now := 10) (c := cFlu SEC) (most := 99) HG4.out (HG4.out.its 0 rfl) hf2 (by decide) (by decide) hflu HV.out ha3 rfl rfl rfl rfl rfl rfl 1 (P2) 7 [.slice ax4 nx4 cx4, .int .u64 ((⟨[flA 0, flB 2 0], 2, 0⟩ : Ms)).cas, .int .i64 ((⟨[flA 0, flB 2 0], 2, 0⟩ : Ms)).fl] rfl rfl rfl rfl rfl rfl (by decide) ⟨104, by kernel_rfl, by decide, by decide, by decide, by decide, by decide⟩ (by kernel_rfl) (by kernel_rfl) (by kernel_rfl) (fun P5 ax5 nx5 cx5 G5 hg5 => ?_)
  have HG5 : Hid (Bxr w [(P5, 35, [.int .i64 10, .string ⟨#[]⟩, .int .u32 0, .string ⟨#[]⟩, .int .i64 0, .int .u64 0, .int .i64 0, .bool false, .bool false, .int .u64 0, .bool false, .bool false, .bool false]), (P2 + 1, 35, [.int .i64 2, .string ⟨#[97]⟩, .int .u32 0, .string ⟨#[49]⟩, .int .i64 0, .int .u64 1, .int .i64 0, .bool false, .bool false, .int .u64 0, .bool false, .bool false, .bool false]), (P2, 25, [.slice ax5 nx5 cx5, .int .u64 ((⟨[flA 0, flB 2 0], 2, T⟩ : Ms)).cas, .int .i64 ((⟨[flA 0, flB 2 0], 2, T⟩ : Ms)).fl]), (P1, 28, [.int .i64 2, .int .i64 0, .string ⟨#[98]⟩, .string ⟨#[49]⟩, .int .u32 0, .int .i64 0, .bool false, .int .u64 0, .bool false, .int .u64 0, .int .u64 0, .bool false, .bool false, .int .i64 0, .int .i64 (-1), .bool false])] [(.slice ax5 nx5 cx5, ((⟨[flA 0, flB 2 0], 2, T⟩ : Ms)).its), (.slice ax4 nx4 cx4, ((⟨[flA 0, flB 2 0], 2, 0⟩ : Ms)).its), (.slice ax2 nx2 cx2, ((⟨[flA 0], 1, 0⟩ : Ms)).its)] G5) := hid hg5
  clear hg5 HG4
  go_simp
  go_upto_region 9 with fail
  refine wp_region_E (fun W => Blk W (P2) 25 (stv (.slice ax5 nx5 cx5) (⟨[flA 0, flB 2 0], 2, T⟩ : Ms))) 9 (by kernel_rfl) ?_
  have HA6 : Hid (Bxr w [(P5, 35, [.int .i64 10, .string ⟨#[]⟩, .int .u32 0, .string ⟨#[]⟩, .int .i64 0, .int .u64 0, .int .i64 0, .bool false, .bool false, .int .u64 0, .bool false, .bool false, .bool false]), (P2 + 1, 35, [.int .i64 2, .string ⟨#[97]⟩, .int .u32 0, .string ⟨#[49]⟩, .int .i64 0, .int .u64 1, .int .i64 0, .bool false, .bool false, .int .u64 0, .bool false, .bool false, .bool false]), (P2, 25, [.slice ax5 nx5 cx5, .int .u64 ((⟨[flA 0, flB 2 0], 2, T⟩ : Ms)).cas, .int .i64 ((⟨[flA 0, flB 2 0], 2, T⟩ : Ms)).fl]), (P1, 28, [.int .i64 2, .int .i64 0, .string ⟨#[98]⟩, .string ⟨#[49]⟩, .int .u32 0, .int .i64 0, .bool false, .int .u64 0, .bool false, .int .u64 0, .int .u64 0, .bool false, .bool false, .int .i64 0, .int .i64 (-1), .bool false])] [(.slice ax5 nx5 cx5, ((⟨[flA 0, flB 2 0], 2, T⟩ : Ms)).its), (.slice ax4 nx4 cx4, ((⟨[flA 0, flB 2 0], 2, 0⟩ : Ms)).its), (.slice ax2 nx2 cx2, ((⟨[flA 0], 1, 0⟩ : Ms)).its)] G5.drew) := hid (HG5.out.step (below_d G5))
  clear HG5
  generalize G5.drew = A6 at *
  have hS : Blk A6 (P2) 25 (stv (.slice ax5 nx5 cx5) (⟨[flA 0, flB 2 0], 2, T⟩ : Ms)) := HA6.out.1.get 2 rfl
  refine wpAnyE_take (i := 0) (v := .agg #[.slice ax5 nx5 cx5, .int .u64 2, .int .i64 T]) rfl (by kernel_rfl) (by kernel_rfl) (by kernel_rfl) (fun _ _ _ h => h) (by kernel_rfl) (by kernel_rfl) hS (Or.inl ⟨by rfl, ?_⟩) ?_
  · intro w' hw'
    have u0 := hw'.cell (i := 0) (v := .slice ax5 nx5 cx5) rfl
    have u1 := hw'.cell (i := 1) (v := .int .u64 ((⟨[flA 0, flB 2 0], 2, T⟩ : Ms)).cas) rfl
    have u2 := hw'.cell (i := 2) (v := .int .i64 ((⟨[flA 0, flB 2 0], 2, T⟩ : Ms)).fl) rfl
    go_simp
  refine wpAnyE_take (i := 1) (v := .int .i64 L) rfl (by kernel_rfl) (by kernel_rfl) (by kernel_rfl) (fun _ _ _ h => h) (by kernel_rfl) (by kernel_rfl) hS (Or.inl ⟨by rfl, ?_⟩) ?_
  · intro w' hw'
    go_simp
  refine wpAnyE_take (i := 2) (v := .int .i64 L2) rfl (by kernel_rfl) (by kernel_rfl) (by kernel_rfl) (fun _ _ _ h => h) (by kernel_rfl) (by kernel_rfl) hS (Or.inl ⟨by rfl, ?_⟩) ?_
  · intro w' hw'
    go_simp
  clear hS
  refine get1 (k := kA) (now := L2) (most := 99) _ _ 3 4 5 6 7 8 9 10 HA6.out (List.mem_of_getElem? (i := 2) rfl) (List.mem_of_getElem? (i := 0) rfl) hf3 (by decide) (by decide) HV.out ha4 rfl rfl rfl rfl rfl rfl rfl rfl rfl rfl rfl rfl rfl rfl 7 rfl rfl rfl rfl (by kernel_rfl) (by decide) rfl ⟨104, by kernel_rfl, by decide, by decide, by decide, by decide, by decide, by decide⟩ rfl rfl rfl rfl rfl rfl (fun _ _ _ _ _ h => h) (by kernel_rfl) (by kernel_rfl) (by kernel_rfl) rfl (by decide) 2 rfl (fun Q6 ax6 nx6 cx6 G6 hg6 => ?_)
  have HG6 : Hid (Bxr w [(Q6, 35, [.int .i64 1, .string ⟨#[97]⟩, .int .u32 0, .string ⟨#[49]⟩, .int .i64 0, .int .u64 1, .int .i64 L2, .bool false, .bool false, .int .u64 0, .bool false, .bool false, .bool false]), (P5, 35, [.int .i64 10, .string ⟨#[]⟩, .int .u32 0, .string ⟨#[]⟩, .int .i64 0, .int .u64 0, .int .i64 0, .bool false, .bool false, .int .u64 0, .bool false, .bool false, .bool false]), (P2 + 1, 35, [.int .i64 2, .string ⟨#[97]⟩, .int .u32 0, .string ⟨#[49]⟩, .int .i64 0, .int .u64 1, .int .i64 0, .bool false, .bool false, .int .u64 0, .bool false, .bool false, .bool false]), (P2, 25, [.slice ax6 nx6 cx6, .int .u64 ((⟨[flA L2, flB 2 0], 2, T⟩ : Ms)).cas, .int .i64 ((⟨[flA L2, flB 2 0], 2, T⟩ : Ms)).fl]), (P1, 28, [.int .i64 2, .int .i64 0, .string ⟨#[98]⟩, .string ⟨#[49]⟩, .int .u32 0, .int .i64 0, .bool false, .int .u64 0, .bool false, .int .u64 0, .int .u64 0, .bool false, .bool false, .int .i64 0, .int .i64 (-1), .bool false])] [(.slice ax6 nx6 cx6, ((⟨[flA L2, flB 2 0], 2, T⟩ : Ms)).its), (.slice ax5 nx5 cx5, ((⟨[flA 0, flB 2 0], 2, T⟩ : Ms)).its), (.slice ax4 nx4 cx4, ((⟨[flA 0, flB 2 0], 2, 0⟩ : Ms)).its), (.slice ax2 nx2 cx2, ((⟨[flA 0], 1, 0⟩ : Ms)).its)] G6) := hid hg6
  clear hg6 HA6
  go_simp
  go_upto_region 10 with fail
  refine wp_region_E (fun W => Blk W (P2) 25 (stv (.slice ax6 nx6 cx6) (⟨[flA L2, flB 2 0], 2, T⟩ : Ms))) 9 (by kernel_rfl) ?_
  have HA7 : Hid (Bxr w [(Q6, 35, [.int .i64 1, .string ⟨#[97]⟩, .int .u32 0, .string ⟨#[49]⟩, .int .i64 0, .int .u64 1, .int .i64 L2, .bool false, .bool false, .int .u64 0, .bool false, .bool false, .bool false]), (P5, 35, [.int .i64 10, .string ⟨#[]⟩, .int .u32 0, .string ⟨#[]⟩, .int .i64 0, .int .u64 0, .int .i64 0, .bool false, .bool false, .int .u64 0, .bool false, .bool false, .bool false]), (P2 + 1, 35, [.int .i64 2, .string ⟨#[97]⟩, .int .u32 0, .string ⟨#[49]⟩, .int .i64 0, .int .u64 1, .int .i64 0, .bool false, .bool false, .int .u64 0, .bool false, .bool false, .bool false]), (P2, 25, [.slice ax6 nx6 cx6, .int .u64 ((⟨[flA L2, flB 2 0], 2, T⟩ : Ms)).cas, .int .i64 ((⟨[flA L2, flB 2 0], 2, T⟩ : Ms)).fl]), (P1, 28, [.int .i64 2, .int .i64 0, .string ⟨#[98]⟩, .string ⟨#[49]⟩, .int .u32 0, .int .i64 0, .bool false, .int .u64 0, .bool false, .int .u64 0, .int .u64 0, .bool false, .bool false, .int .i64 0, .int .i64 (-1), .bool false])] [(.slice ax6 nx6 cx6, ((⟨[flA L2, flB 2 0], 2, T⟩ : Ms)).its), (.slice ax5 nx5 cx5, ((⟨[flA 0, flB 2 0], 2, T⟩ : Ms)).its), (.slice ax4 nx4 cx4, ((⟨[flA 0, flB 2 0], 2, 0⟩ : Ms)).its), (.slice ax2 nx2 cx2, ((⟨[flA 0], 1, 0⟩ : Ms)).its)] G6.drew) := hid (HG6.out.step (below_d G6))
  clear HG6
  generalize G6.drew = A7 at *
  have hS : Blk A7 (P2) 25 (stv (.slice ax6 nx6 cx6) (⟨[flA L2, flB 2 0], 2, T⟩ : Ms)) := HA7.out.1.get 3 rfl
  refine wpAnyE_take (i := 0) (v := .agg #[.slice ax6 nx6 cx6, .int .u64 2, .int .i64 T]) rfl (by kernel_rfl) (by kernel_rfl) (by kernel_rfl) (fun _ _ _ h => h) (by kernel_rfl) (by kernel_rfl) hS (Or.inl ⟨by rfl, ?_⟩) ?_
  · intro w' hw'
    have u0 := hw'.cell (i := 0) (v := .slice ax6 nx6 cx6) rfl
    have u1 := hw'.cell (i := 1) (v := .int .u64 ((⟨[flA L2, flB 2 0], 2, T⟩ : Ms)).cas) rfl
    have u2 := hw'.cell (i := 2) (v := .int .i64 ((⟨[flA L2, flB 2 0], 2, T⟩ : Ms)).fl) rfl
    go_simp
  refine wpAnyE_take (i := 1) (v := .int .i64 L) rfl (by kernel_rfl) (by kernel_rfl) (by kernel_rfl) (fun _ _ _ h => h) (by kernel_rfl) (by kernel_rfl) hS (Or.inl ⟨by rfl, ?_⟩) ?_
  · intro w' hw'
    go_simp
  refine wpAnyE_take (i := 2) (v := .int .i64 L2) rfl (by kernel_rfl) (by kernel_rfl) (by kernel_rfl) (fun _ _ _ h => h) (by kernel_rfl) (by kernel_rfl) hS (Or.inl ⟨by rfl, ?_⟩) ?_
  · intro w' hw'
    go_simp
  clear hS
  refine get1 (k := kB) (now := L2) (most := 99) _ _ 3 4 5 6 7 8 9 10 HA7.out (List.mem_of_getElem? (i := 3) rfl) (List.mem_of_getElem? (i := 0) rfl) hf4 (by decide) (by decide) HV.out ha5 rfl rfl rfl rfl rfl rfl rfl rfl rfl rfl rfl rfl rfl rfl 7 rfl rfl rfl rfl (by kernel_rfl) (by decide) rfl ⟨104, by kernel_rfl, by decide, by decide, by decide, by decide, by decide, by decide⟩ rfl rfl rfl rfl rfl rfl (fun _ _ _ _ _ h => h) (by kernel_rfl) (by kernel_rfl) (by kernel_rfl) rfl (by decide) 3 rfl (fun Q7 ax7 nx7 cx7 G7 hg7 => ?_)
  have HG7 : Hid (Bxr w [(Q7, 35, [.int .i64 1, .string ⟨#[98]⟩, .int .u32 0, .string ⟨#[49]⟩, .int .i64 0, .int .u64 2, .int .i64 L2, .bool false, .bool false, .int .u64 0, .bool false, .bool false, .bool false]), (Q6, 35, [.int .i64 1, .string ⟨#[97]⟩, .int .u32 0, .string ⟨#[49]⟩, .int .i64 0, .int .u64 1, .int .i64 L2, .bool false, .bool false, .int .u64 0, .bool false, .bool false, .bool false]), (P5, 35, [.int .i64 10, .string ⟨#[]⟩, .int .u32 0, .string ⟨#[]⟩, .int .i64 0, .int .u64 0, .int .i64 0, .bool false, .bool false, .int .u64 0, .bool false, .bool false, .bool false]), (P2 + 1, 35, [.int .i64 2, .string ⟨#[97]⟩, .int .u32 0, .string ⟨#[49]⟩, .int .i64 0, .int .u64 1, .int .i64 0, .bool false, .bool false, .int .u64 0, .bool false, .bool false, .bool false]), (P2, 25, [.slice ax7 nx7 cx7, .int .u64 ((⟨[flA L2, flB 2 L2], 2, T⟩ : Ms)).cas, .int .i64 ((⟨[flA L2, flB 2 L2], 2, T⟩ : Ms)).fl]), (P1, 28, [.int .i64 2, .int .i64 0, .string ⟨#[98]⟩, .string ⟨#[49]⟩, .int .u32 0, .int .i64 0, .bool false, .int .u64 0, .bool false, .int .u64 0, .int .u64 0, .bool false, .bool false, .int .i64 0, .int .i64 (-1), .bool false])] [(.slice ax7 nx7 cx7, ((⟨[flA L2, flB 2 L2], 2, T⟩ : Ms)).its), (.slice ax6 nx6 cx6, ((⟨[flA L2, flB 2 0], 2, T⟩ : Ms)).its), (.slice ax5 nx5 cx5, ((⟨[flA 0, flB 2 0], 2, T⟩ : Ms)).its), (.slice ax4 nx4 cx4, ((⟨[flA 0, flB 2 0], 2, 0⟩ : Ms)).its), (.slice ax2 nx2 cx2, ((⟨[flA 0], 1, 0⟩ : Ms)).its)] G7) := hid hg7
  clear hg7 HA7
  go_simp
  go_upto_region 12 with fail
  refine wp_region_list ?_
  refine loadS (cs := [.slice ax7 nx7 cx7, .int .u64 ((⟨[flA L2, flB 2 L2], 2, T⟩ : Ms)).cas, .int .i64 ((⟨[flA L2, flB 2 L2], 2, T⟩ : Ms)).fl]) rfl rfl rfl (HG7.out.1.get 4 rfl) rfl ?_
  refine wpList_val (v := .int .i64 SEC) (w' := G7) rfl (by kernel_rfl) ?_
  refine wpList_val (v := .int .i64 T) (w' := G7) rfl (by go_simp) ?_
  refine loadC (cs := [.int .i64 2, .int .i64 0, .string ⟨#[98]⟩, .string ⟨#[49]⟩, .int .u32 0, .int .i64 0, .bool false, .int .u64 0, .bool false, .int .u64 0, .int .u64 0, .bool false, .bool false, .int .i64 0, .int .i64 (-1), .bool false]) rfl rfl rfl (HG7.out.1.get 5 rfl) rfl ?_
  refine app0 (s := (⟨[flA L2, flB 2 L2], 2, T⟩ : Ms)) (now := T) (c := cSto kB k1 0 0 (-1)) (most := 99) HG7.out (HG7.out.its 0 rfl) hf5 (by decide) (by decide) fstob_ok HV.out ha6 rfl rfl rfl rfl rfl rfl 4 (P2) 7 [.slice ax7 nx7 cx7, .int .u64 ((⟨[flA L2, flB 2 L2], 2, T⟩ : Ms)).cas, .int .i64 ((⟨[flA L2, flB 2 L2], 2, T⟩ : Ms)).fl] rfl rfl rfl rfl (by decide) ⟨104, by kernel_rfl, by decide, by decide, by decide, by decide⟩ (by kernel_rfl) (by kernel_rfl) (by kernel_rfl) (fun ax8 nx8 cx8 G8 hg8 => ?_)
  have HG8 : Hid (Bxr w [(Q7, 35, [.int .i64 1, .string ⟨#[98]⟩, .int .u32 0, .string ⟨#[49]⟩, .int .i64 0, .int .u64 2, .int .i64 L2, .bool false, .bool false, .int .u64 0, .bool false, .bool false, .bool false]), (Q6, 35, [.int .i64 1, .string ⟨#[97]⟩, .int .u32 0, .string ⟨#[49]⟩, .int .i64 0, .int .u64 1, .int .i64 L2, .bool false, .bool false, .int .u64 0, .bool false, .bool false, .bool false]), (P5, 35, [.int .i64 10, .string ⟨#[]⟩, .int .u32 0, .string ⟨#[]⟩, .int .i64 0, .int .u64 0, .int .i64 0, .bool false, .bool false, .int .u64 0, .bool false, .bool false, .bool false]), (P2 + 1, 35, [.int .i64 2, .string ⟨#[97]⟩, .int .u32 0, .string ⟨#[49]⟩, .int .i64 0, .int .u64 1, .int .i64 0, .bool false, .bool false, .int .u64 0, .bool false, .bool false, .bool false]), (P2, 25, [.slice ax8 nx8 cx8, .int .u64 ((⟨[flB 3 0], 3, 0⟩ : Ms)).cas, .int .i64 ((⟨[flB 3 0], 3, 0⟩ : Ms)).fl]), (P1, 28, [.int .i64 2, .int .i64 0, .string ⟨#[98]⟩, .string ⟨#[49]⟩, .int .u32 0, .int .i64 0, .bool false, .int .u64 0, .bool false, .int .u64 0, .int .u64 0, .bool false, .bool false, .int .i64 0, .int .i64 (-1), .bool false])] [(.slice ax8 nx8 cx8, ((⟨[flB 3 0], 3, 0⟩ : Ms)).its), (.slice ax7 nx7 cx7, ((⟨[flA L2, flB 2 L2], 2, T⟩ : Ms)).its), (.slice ax6 nx6 cx6, ((⟨[flA L2, flB 2 0], 2, T⟩ : Ms)).its), (.slice ax5 nx5 cx5, ((⟨[flA 0, flB 2 0], 2, T⟩ : Ms)).its), (.slice ax4 nx4 cx4, ((⟨[flA 0, flB 2 0], 2, 0⟩ : Ms)).its), (.slice ax2 nx2 cx2, ((⟨[flA 0], 1, 0⟩ : Ms)).its)] G8) := hid hg8
  clear hg8 HG7
  go_simp
  go_upto_region 13 with fail
  refine wp_region_E (fun W => Blk W (P2) 25 (stv (.slice ax8 nx8 cx8) (⟨[flB 3 0], 3, 0⟩ : Ms))) 13 (by kernel_rfl) ?_
  have HA9 : Hid (Bxr w [(Q7, 35, [.int .i64 1, .string ⟨#[98]⟩, .int .u32 0, .string ⟨#[49]⟩, .int .i64 0, .int .u64 2, .int .i64 L2, .bool false, .bool false, .int .u64 0, .bool false, .bool false, .bool false]), (Q6, 35, [.int .i64 1, .string ⟨#[97]⟩, .int .u32 0, .string ⟨#[49]⟩, .int .i64 0, .int .u64 1, .int .i64 L2, .bool false, .bool false, .int .u64 0, .bool false, .bool false, .bool false]), (P5, 35, [.int .i64 10, .string ⟨#[]⟩, .int .u32 0, .string ⟨#[]⟩, .int .i64 0, .int .u64 0, .int .i64 0, .bool false, .bool false, .int .u64 0, .bool false, .bool false, .bool false]), (P2 + 1, 35, [.int .i64 2, .string ⟨#[97]⟩, .int .u32 0, .string ⟨#[49]⟩, .int .i64 0, .int .u64 1, .int .i64 0, .bool false, .bool false, .int .u64 0, .bool false, .bool false, .bool false]), (P2, 25, [.slice ax8 nx8 cx8, .int .u64 ((⟨[flB 3 0], 3, 0⟩ : Ms)).cas, .int .i64 ((⟨[flB 3 0], 3, 0⟩ : Ms)).fl]), (P1, 28, [.int .i64 2, .int .i64 0, .string ⟨#[98]⟩, .string ⟨#[49]⟩, .int .u32 0, .int .i64 0, .bool false, .int .u64 0, .bool false, .int .u64 0, .int .u64 0, .bool false, .bool false, .int .i64 0, .int .i64 (-1), .bool false])] [(.slice ax8 nx8 cx8, ((⟨[flB 3 0], 3, 0⟩ : Ms)).its), (.slice ax7 nx7 cx7, ((⟨[flA L2, flB 2 L2], 2, T⟩ : Ms)).its), (.slice ax6 nx6 cx6, ((⟨[flA L2, flB 2 0], 2, T⟩ : Ms)).its), (.slice ax5 nx5 cx5, ((⟨[flA 0, flB 2 0], 2, T⟩ : Ms)).its), (.slice ax4 nx4 cx4, ((⟨[flA 0, flB 2 0], 2, 0⟩ : Ms)).its), (.slice ax2 nx2 cx2, ((⟨[flA 0], 1, 0⟩ : Ms)).its)] G8.drew) := hid (HG8.out.step (below_d G8))
  clear HG8
  generalize G8.drew = A9 at *
  have hS : Blk A9 (P2) 25 (stv (.slice ax8 nx8 cx8) (⟨[flB 3 0], 3, 0⟩ : Ms)) := HA9.out.1.get 4 rfl
  refine wpAnyE_take (i := 0) (v := .agg #[.slice ax8 nx8 cx8, .int .u64 3, .int .i64 0]) rfl (by kernel_rfl) (by kernel_rfl) (by kernel_rfl) (fun _ _ _ h => h) (by kernel_rfl) (by kernel_rfl) hS (Or.inl ⟨by rfl, ?_⟩) ?_
  · intro w' hw'
    have u0 := hw'.cell (i := 0) (v := .slice ax8 nx8 cx8) rfl
    have u1 := hw'.cell (i := 1) (v := .int .u64 ((⟨[flB 3 0], 3, 0⟩ : Ms)).cas) rfl
    have u2 := hw'.cell (i := 2) (v := .int .i64 ((⟨[flB 3 0], 3, 0⟩ : Ms)).fl) rfl
    go_simp
  refine wpAnyE_take (i := 1) (v := .int .i64 SEC) rfl (by kernel_rfl) (by kernel_rfl) (by kernel_rfl) (fun _ _ _ h => h) (by kernel_rfl) (by kernel_rfl) hS (Or.inl ⟨by rfl, ?_⟩) ?_
  · intro w' hw'
    go_simp
  refine wpAnyE_take (i := 2) (v := .int .i64 T) rfl (by kernel_rfl) (by kernel_rfl) (by kernel_rfl) (fun _ _ _ h => h) (by kernel_rfl) (by kernel_rfl) hS (Or.inl ⟨by rfl, ?_⟩) ?_
  · intro w' hw'
    go_simp
  refine wpAnyE_take (i := 3) (v := .int .i64 L) rfl (by kernel_rfl) (by kernel_rfl) (by kernel_rfl) (fun _ _ _ h => h) (by kernel_rfl) (by kernel_rfl) hS (Or.inl ⟨by rfl, ?_⟩) ?_
  · intro w' hw'
    go_simp
  refine wpAnyE_take (i := 4) (v := .int .i64 T2) rfl (by kernel_rfl) (by kernel_rfl) (by kernel_rfl) (fun _ _ _ h => h) (by kernel_rfl) (by kernel_rfl) hS (Or.inl ⟨by rfl, ?_⟩) ?_
  · intro w' hw'
    go_simp
  clear hS
  refine get2 (k := kB) (now := T2) (most := 99) _ _ 5 6 7 8 9 10 11 12 13 HA9.out (List.mem_of_getElem? (i := 4) rfl) (List.mem_of_getElem? (i := 0) rfl) hf6 (by decide) (by decide) HV.out ha7 rfl rfl rfl rfl rfl rfl rfl rfl rfl rfl rfl rfl rfl rfl rfl rfl rfl (by kernel_rfl) (by decide) rfl ⟨104, by kernel_rfl, by decide, by decide, by decide, by decide, by decide, by decide, by decide⟩ rfl rfl rfl rfl rfl rfl rfl (fun _ _ _ _ _ h => h) (by kernel_rfl) (by kernel_rfl) (by kernel_rfl) (fun P9 Q9 ax9 nx9 cx9 G9 hg9 => ?_)
  have HG9 : Hid (Bxr w [(Q9, 35, [.int .i64 1, .string ⟨#[98]⟩, .int .u32 0, .string ⟨#[49]⟩, .int .i64 0, .int .u64 3, .int .i64 T2, .bool false, .bool false, .int .u64 0, .bool false, .bool false, .bool false]), (P9, 25, [.slice ax9 nx9 cx9, .int .u64 ((⟨[flB 3 T2], 3, 0⟩ : Ms)).cas, .int .i64 ((⟨[flB 3 T2], 3, 0⟩ : Ms)).fl]), (Q7, 35, [.int .i64 1, .string ⟨#[98]⟩, .int .u32 0, .string ⟨#[49]⟩, .int .i64 0, .int .u64 2, .int .i64 L2, .bool false, .bool false, .int .u64 0, .bool false, .bool false, .bool false]), (Q6, 35, [.int .i64 1, .string ⟨#[97]⟩, .int .u32 0, .string ⟨#[49]⟩, .int .i64 0, .int .u64 1, .int .i64 L2, .bool false, .bool false, .int .u64 0, .bool false, .bool false, .bool false]), (P5, 35, [.int .i64 10, .string ⟨#[]⟩, .int .u32 0, .string ⟨#[]⟩, .int .i64 0, .int .u64 0, .int .i64 0, .bool false, .bool false, .int .u64 0, .bool false, .bool false, .bool false]), (P2 + 1, 35, [.int .i64 2, .string ⟨#[97]⟩, .int .u32 0, .string ⟨#[49]⟩, .int .i64 0, .int .u64 1, .int .i64 0, .bool false, .bool false, .int .u64 0, .bool false, .bool false, .bool false]), (P2, 25, [.slice ax8 nx8 cx8, .int .u64 ((⟨[flB 3 0], 3, 0⟩ : Ms)).cas, .int .i64 ((⟨[flB 3 0], 3, 0⟩ : Ms)).fl]), (P1, 28, [.int .i64 2, .int .i64 0, .string ⟨#[98]⟩, .string ⟨#[49]⟩, .int .u32 0, .int .i64 0, .bool false, .int .u64 0, .bool false, .int .u64 0, .int .u64 0, .bool false, .bool false, .int .i64 0, .int .i64 (-1), .bool false])] [(.slice ax9 nx9 cx9, ((⟨[flB 3 T2], 3, 0⟩ : Ms)).its), (.slice ax8 nx8 cx8, ((⟨[flB 3 0], 3, 0⟩ : Ms)).its), (.slice ax7 nx7 cx7, ((⟨[flA L2, flB 2 L2], 2, T⟩ : Ms)).its), (.slice ax6 nx6 cx6, ((⟨[flA L2, flB 2 0], 2, T⟩ : Ms)).its), (.slice ax5 nx5 cx5, ((⟨[flA 0, flB 2 0], 2, T⟩ : Ms)).its), (.slice ax4 nx4 cx4, ((⟨[flA 0, flB 2 0], 2, 0⟩ : Ms)).its), (.slice ax2 nx2 cx2, ((⟨[flA 0], 1, 0⟩ : Ms)).its)] G9) := hid hg9
  clear hg9 HA9
  go_simp
  have x0 := (HG9.out.1.get 4 rfl).cell (i := 0) rfl
  have y0 := (HG9.out.1.get 3 rfl).cell (i := 0) rfl
  have z0 := (HG9.out.1.get 2 rfl).cell (i := 0) rfl
  have v0 := (HG9.out.1.get 0 rfl).cell (i := 0) rfl
  go_wp2_with fail
  go_ret
  exact ⟨rfl, HG9.out.1.1⟩
set_option maxRecDepth 100000 in
set_option maxHeartbeats 40000000 in
theorem flush_gone {sec later SEC T L L2 T2 : Int} {w : World} (hv : Nu.Vars w) (m1 : 1 + bits .and .i64 sec 1048575 = SEC) (m2 : IntKind.i64.wrap SEC = SEC) (m3 : bits .and .i64 later 1048575 = L) (m4 : 10 + L = L2) (m5 : IntKind.i64.wrap L2 = L2) (m6 : 10 + SEC = T) (m7 : IntKind.i64.wrap T = T) (m8 : T + L = T2) (m9 : IntKind.i64.wrap T2 = T2) (hflu : (cFlu SEC).Ok) (hf1 : Fit 1 65536 (⟨[flA 0], 1, 0⟩ : Ms)) (hf2 : Fit 2 65536 (⟨[flA 0, flB 2 0], 2, 0⟩ : Ms)) (hf3 : Fit 3 65536 (⟨[flA 0, flB 2 0], 2, T⟩ : Ms)) (hf4 : Fit 4 65536 (⟨[], 2, 0⟩ : Ms)) (hf5 : Fit 5 65536 (⟨[], 2, 0⟩ : Ms)) (hf6 : Fit 6 65536 (⟨[flB 3 0], 3, 0⟩ : Ms)) (ha3 : apply (⟨[flA 0, flB 2 0], 2, 0⟩ : Ms) 10 (cFlu SEC) 99 = ((⟨[flA 0, flB 2 0], 2, T⟩ : Ms), An.of 10)) (ha4 : apply (⟨[flA 0, flB 2 0], 2, T⟩ : Ms) L2 (cGet kA) 99 = ((⟨[], 2, 0⟩ : Ms), An.of 5)) (ha5 : apply (⟨[], 2, 0⟩ : Ms) L2 (cGet kB) 99 = ((⟨[], 2, 0⟩ : Ms), An.of 5)) (ha6 : apply (⟨[], 2, 0⟩ : Ms) T (cSto kB k1 0 0 (-1)) 99 = ((⟨[flB 3 0], 3, 0⟩ : Ms), An.is 2 (flB 3 0))) (ha7 : apply (⟨[flB 3 0], 3, 0⟩ : Ms) T2 (cGet kB) 99 = ((⟨[flB 3 T2], 3, 0⟩ : Ms), An.is 1 (flB 3 T2))) (hl2 : decide (L < SEC) = false) :
    Calls Tryd.prog 9 #[.int .i64 sec, .int .i64 later] w fun e w' => e = .returned (.bool true) ∧ Below w.heap.size w w' := by
  have HV := hid hv
  have m1' : bits .and .i64 sec 1048575 + 1 = SEC := by omega
  clear hv
  have HB := hid (Bxr.begin w)
  go_enter Tryd.func9, Tryd.ntmps9
  go_wp2_with fail
  refine (shown_any w HV.out).mono ?_
  rintro e0 w1 ⟨rfl, hb1⟩
  have HB1 : Hid (Bxr w [] [] w1) := hid (HB.out.step hb1)
  clear hb1 HB
  go_upto_region 4 with fail
  refine wp_region_list ?_
  refine wpList_val (v := (cSto kA k1 0 0 (-1)).v) (w' := w1) rfl (by kernel_rfl) ?_
  refine newT (cs := [.int .i64 2, .int .i64 0, .string ⟨#[97]⟩, .string ⟨#[49]⟩, .int .u32 0, .int .i64 0, .bool false, .int .u64 0, .bool false, .int .u64 0, .int .u64 0, .bool false, .bool false, .int .i64 0, .int .i64 (-1), .bool false]) HB1.out rfl rfl rfl rfl rfl rfl (by kernel_rfl) rfl ⟨104, by kernel_rfl, by decide⟩ rfl rfl (fun P1 G1 hg1 => ?_)
  have HG1 : Hid (Bxr w [(P1, 28, [.int .i64 2, .int .i64 0, .string ⟨#[97]⟩, .string ⟨#[49]⟩, .int .u32 0, .int .i64 0, .bool false, .int .u64 0, .bool false, .int .u64 0, .int .u64 0, .bool false, .bool false, .int .i64 0, .int .i64 (-1), .bool false])] [] G1) := hid hg1
  clear hg1 HB1
  go_simp
  go_upto_region 5 with fail
  refine wp_region_list ?_
  refine wpList_val (v := .agg #[.slice none 0 0, .int .u64 0, .int .i64 0]) (w' := G1) rfl (by kernel_rfl) ?_
  refine loadC (cs := [.int .i64 2, .int .i64 0, .string ⟨#[97]⟩, .string ⟨#[49]⟩, .int .u32 0, .int .i64 0, .bool false, .int .u64 0, .bool false, .int .u64 0, .int .u64 0, .bool false, .bool false, .int .i64 0, .int .i64 (-1), .bool false]) rfl rfl rfl (HG1.out.1.get 0 rfl) rfl ?_
  refine app2 (s := ⟨[], 0, 0⟩) (now := 10) (c := cSto kA k1 0 0 (-1)) (most := 99) HG1.out (its_none _) (fit_no 0 65536) (by decide) (by decide) fsto_ok HV.out fl_one rfl rfl rfl rfl rfl rfl rfl rfl rfl rfl (by decide) ⟨104, by kernel_rfl, by decide, by decide, by decide, by decide, by decide, by decide⟩ (by kernel_rfl) (by kernel_rfl) (by kernel_rfl) (fun P2 ax2 nx2 cx2 G2 hg2 => ?_)
  have HG2 : Hid (Bxr w [(P2 + 1, 35, [.int .i64 2, .string ⟨#[97]⟩, .int .u32 0, .string ⟨#[49]⟩, .int .i64 0, .int .u64 1, .int .i64 0, .bool false, .bool false, .int .u64 0, .bool false, .bool false, .bool false]), (P2, 25, [.slice ax2 nx2 cx2, .int .u64 ((⟨[flA 0], 1, 0⟩ : Ms)).cas, .int .i64 ((⟨[flA 0], 1, 0⟩ : Ms)).fl]), (P1, 28, [.int .i64 2, .int .i64 0, .string ⟨#[97]⟩, .string ⟨#[49]⟩, .int .u32 0, .int .i64 0, .bool false, .int .u64 0, .bool false, .int .u64 0, .int .u64 0, .bool false, .bool false, .int .i64 0, .int .i64 (-1), .bool false])] [(.slice ax2 nx2 cx2, ((⟨[flA 0], 1, 0⟩ : Ms)).its)] G2) := hid hg2
  clear hg2 HG1
  go_simp
  have e3_ := (HG2.out.1.get 2 rfl).cell (i := 2) rfl
  have f3_ := (HG2.out.1.get 2 rfl).frozen 2
  go_upto_region 7 with fail
  clear e3_ f3_
  change Code.wp _ _ _ _ (G2.setCell ⟨P1, 2, none⟩ (.string ⟨#[98]⟩))
  have HE3 : Hid (Bxr w [(P2 + 1, 35, [.int .i64 2, .string ⟨#[97]⟩, .int .u32 0, .string ⟨#[49]⟩, .int .i64 0, .int .u64 1, .int .i64 0, .bool false, .bool false, .int .u64 0, .bool false, .bool false, .bool false]), (P2, 25, [.slice ax2 nx2 cx2, .int .u64 ((⟨[flA 0], 1, 0⟩ : Ms)).cas, .int .i64 ((⟨[flA 0], 1, 0⟩ : Ms)).fl]), (P1, 28, [.int .i64 2, .int .i64 0, .string ⟨#[98]⟩, .string ⟨#[49]⟩, .int .u32 0, .int .i64 0, .bool false, .int .u64 0, .bool false, .int .u64 0, .int .u64 0, .bool false, .bool false, .int .i64 0, .int .i64 (-1), .bool false])] [(.slice ax2 nx2 cx2, ((⟨[flA 0], 1, 0⟩ : Ms)).its)] (G2.setCell ⟨P1, 2, none⟩ (.string ⟨#[98]⟩))) := hid (HG2.out.cell1 2 rfl 2 (.string ⟨#[98]⟩))
  clear HG2
  generalize (G2.setCell ⟨P1, 2, none⟩ (.string ⟨#[98]⟩)) = X3 at *
  refine wp_region_list ?_
  refine loadS (cs := [.slice ax2 nx2 cx2, .int .u64 ((⟨[flA 0], 1, 0⟩ : Ms)).cas, .int .i64 ((⟨[flA 0], 1, 0⟩ : Ms)).fl]) rfl rfl rfl (HE3.out.1.get 1 rfl) rfl ?_
  refine loadC (cs := [.int .i64 2, .int .i64 0, .string ⟨#[98]⟩, .string ⟨#[49]⟩, .int .u32 0, .int .i64 0, .bool false, .int .u64 0, .bool false, .int .u64 0, .int .u64 0, .bool false, .bool false, .int .i64 0, .int .i64 (-1), .bool false]) rfl rfl rfl (HE3.out.1.get 2 rfl) rfl ?_
  refine app0 (s := (⟨[flA 0], 1, 0⟩ : Ms)) (now := 10) (c := cSto kB k1 0 0 (-1)) (most := 99) HE3.out (HE3.out.its 0 rfl) hf1 (by decide) (by decide) fstob_ok HV.out fl_two rfl rfl rfl rfl rfl rfl 1 (P2) 7 [.slice ax2 nx2 cx2, .int .u64 ((⟨[flA 0], 1, 0⟩ : Ms)).cas, .int .i64 ((⟨[flA 0], 1, 0⟩ : Ms)).fl] rfl rfl rfl rfl (by decide) ⟨104, by kernel_rfl, by decide, by decide, by decide, by decide⟩ (by kernel_rfl) (by kernel_rfl) (by kernel_rfl) (fun ax4 nx4 cx4 G4 hg4 => ?_)
  have HG4 : Hid (Bxr w [(P2 + 1, 35, [.int .i64 2, .string ⟨#[97]⟩, .int .u32 0, .string ⟨#[49]⟩, .int .i64 0, .int .u64 1, .int .i64 0, .bool false, .bool false, .int .u64 0, .bool false, .bool false, .bool false]), (P2, 25, [.slice ax4 nx4 cx4, .int .u64 ((⟨[flA 0, flB 2 0], 2, 0⟩ : Ms)).cas, .int .i64 ((⟨[flA 0, flB 2 0], 2, 0⟩ : Ms)).fl]), (P1, 28, [.int .i64 2, .int .i64 0, .string ⟨#[98]⟩, .string ⟨#[49]⟩, .int .u32 0, .int .i64 0, .bool false, .int .u64 0, .bool false, .int .u64 0, .int .u64 0, .bool false, .bool false, .int .i64 0, .int .i64 (-1), .bool false])] [(.slice ax4 nx4 cx4, ((⟨[flA 0, flB 2 0], 2, 0⟩ : Ms)).its), (.slice ax2 nx2 cx2, ((⟨[flA 0], 1, 0⟩ : Ms)).its)] G4) := hid hg4
  clear hg4 HE3
  go_simp
  go_upto_region 8 with fail
  refine wp_region_list ?_
  refine loadS (cs := [.slice ax4 nx4 cx4, .int .u64 ((⟨[flA 0, flB 2 0], 2, 0⟩ : Ms)).cas, .int .i64 ((⟨[flA 0, flB 2 0], 2, 0⟩ : Ms)).fl]) rfl rfl rfl (HG4.out.1.get 1 rfl) rfl ?_
  refine wpList_val (v := .int .i64 SEC) (w' := G4) rfl (by kernel_rfl) ?_
  refine wpList_val (v := (cFlu SEC).v) (w' := G4) rfl (by kernel_rfl) ?_
  refine app1 (s := (⟨[flA 0, flB 2 0], 2, 0⟩ : Ms)) (now := 10) (c := cFlu SEC) (most := 99) HG4.out (HG4.out.its 0 rfl) hf2 (by decide) (by decide) hflu HV.out ha3 rfl rfl rfl rfl rfl rfl 1 (P2) 7 [.slice ax4 nx4 cx4, .int .u64 ((⟨[flA 0, flB 2 0], 2, 0⟩ : Ms)).cas, .int .i64 ((⟨[flA 0, flB 2 0], 2, 0⟩ : Ms)).fl] rfl rfl rfl rfl rfl rfl (by decide) ⟨104, by kernel_rfl, by decide, by decide, by decide, by decide, by decide⟩ (by kernel_rfl) (by kernel_rfl) (by kernel_rfl) (fun P5 ax5 nx5 cx5 G5 hg5 => ?_)
  have HG5 : Hid (Bxr w [(P5, 35, [.int .i64 10, .string ⟨#[]⟩, .int .u32 0, .string ⟨#[]⟩, .int .i64 0, .int .u64 0, .int .i64 0, .bool false, .bool false, .int .u64 0, .bool false, .bool false, .bool false]), (P2 + 1, 35, [.int .i64 2, .string ⟨#[97]⟩, .int .u32 0, .string ⟨#[49]⟩, .int .i64 0, .int .u64 1, .int .i64 0, .bool false, .bool false, .int .u64 0, .bool false, .bool false, .bool false]), (P2, 25, [.slice ax5 nx5 cx5, .int .u64 ((⟨[flA 0, flB 2 0], 2, T⟩ : Ms)).cas, .int .i64 ((⟨[flA 0, flB 2 0], 2, T⟩ : Ms)).fl]), (P1, 28, [.int .i64 2, .int .i64 0, .string ⟨#[98]⟩, .string ⟨#[49]⟩, .int .u32 0, .int .i64 0, .bool false, .int .u64 0, .bool false, .int .u64 0, .int .u64 0, .bool false, .bool false, .int .i64 0, .int .i64 (-1), .bool false])] [(.slice ax5 nx5 cx5, ((⟨[flA 0, flB 2 0], 2, T⟩ : Ms)).its), (.slice ax4 nx4 cx4, ((⟨[flA 0, flB 2 0], 2, 0⟩ : Ms)).its), (.slice ax2 nx2 cx2, ((⟨[flA 0], 1, 0⟩ : Ms)).its)] G5) := hid hg5
  clear hg5 HG4
  go_simp
  go_upto_region 9 with fail
  refine wp_region_E (fun W => Blk W (P2) 25 (stv (.slice ax5 nx5 cx5) (⟨[flA 0, flB 2 0], 2, T⟩ : Ms))) 9 (by kernel_rfl) ?_
  have HA6 : Hid (Bxr w [(P5, 35, [.int .i64 10, .string ⟨#[]⟩, .int .u32 0, .string ⟨#[]⟩, .int .i64 0, .int .u64 0, .int .i64 0, .bool false, .bool false, .int .u64 0, .bool false, .bool false, .bool false]), (P2 + 1, 35, [.int .i64 2, .string ⟨#[97]⟩, .int .u32 0, .string ⟨#[49]⟩, .int .i64 0, .int .u64 1, .int .i64 0, .bool false, .bool false, .int .u64 0, .bool false, .bool false, .bool false]), (P2, 25, [.slice ax5 nx5 cx5, .int .u64 ((⟨[flA 0, flB 2 0], 2, T⟩ : Ms)).cas, .int .i64 ((⟨[flA 0, flB 2 0], 2, T⟩ : Ms)).fl]), (P1, 28, [.int .i64 2, .int .i64 0, .string ⟨#[98]⟩, .string ⟨#[49]⟩, .int .u32 0, .int .i64 0, .bool false, .int .u64 0, .bool false, .int .u64 0, .int .u64 0, .bool false, .bool false, .int .i64 0, .int .i64 (-1), .bool false])] [(.slice ax5 nx5 cx5, ((⟨[flA 0, flB 2 0], 2, T⟩ : Ms)).its), (.slice ax4 nx4 cx4, ((⟨[flA 0, flB 2 0], 2, 0⟩ : Ms)).its), (.slice ax2 nx2 cx2, ((⟨[flA 0], 1, 0⟩ : Ms)).its)] G5.drew) := hid (HG5.out.step (below_d G5))
  clear HG5
  generalize G5.drew = A6 at *
  have hS : Blk A6 (P2) 25 (stv (.slice ax5 nx5 cx5) (⟨[flA 0, flB 2 0], 2, T⟩ : Ms)) := HA6.out.1.get 2 rfl
  refine wpAnyE_take (i := 0) (v := .agg #[.slice ax5 nx5 cx5, .int .u64 2, .int .i64 T]) rfl (by kernel_rfl) (by kernel_rfl) (by kernel_rfl) (fun _ _ _ h => h) (by kernel_rfl) (by kernel_rfl) hS (Or.inl ⟨by rfl, ?_⟩) ?_
  · intro w' hw'
    have u0 := hw'.cell (i := 0) (v := .slice ax5 nx5 cx5) rfl
    have u1 := hw'.cell (i := 1) (v := .int .u64 ((⟨[flA 0, flB 2 0], 2, T⟩ : Ms)).cas) rfl
    have u2 := hw'.cell (i := 2) (v := .int .i64 ((⟨[flA 0, flB 2 0], 2, T⟩ : Ms)).fl) rfl
    go_simp
  refine wpAnyE_take (i := 1) (v := .int .i64 L) rfl (by kernel_rfl) (by kernel_rfl) (by kernel_rfl) (fun _ _ _ h => h) (by kernel_rfl) (by kernel_rfl) hS (Or.inl ⟨by rfl, ?_⟩) ?_
  · intro w' hw'
    go_simp
  refine wpAnyE_take (i := 2) (v := .int .i64 L2) rfl (by kernel_rfl) (by kernel_rfl) (by kernel_rfl) (fun _ _ _ h => h) (by kernel_rfl) (by kernel_rfl) hS (Or.inl ⟨by rfl, ?_⟩) ?_
  · intro w' hw'
    go_simp
  clear hS
  refine get1 (k := kA) (now := L2) (most := 99) _ _ 3 4 5 6 7 8 9 10 HA6.out (List.mem_of_getElem? (i := 2) rfl) (List.mem_of_getElem? (i := 0) rfl) hf3 (by decide) (by decide) HV.out ha4 rfl rfl rfl rfl rfl rfl rfl rfl rfl rfl rfl rfl rfl rfl 7 rfl rfl rfl rfl (by kernel_rfl) (by decide) rfl ⟨104, by kernel_rfl, by decide, by decide, by decide, by decide, by decide, by decide⟩ rfl rfl rfl rfl rfl rfl (fun _ _ _ _ _ h => h) (by kernel_rfl) (by kernel_rfl) (by kernel_rfl) rfl (by decide) 2 rfl (fun Q6 ax6 nx6 cx6 G6 hg6 => ?_)
  have HG6 : Hid (Bxr w [(Q6, 35, [.int .i64 5, .string ⟨#[]⟩, .int .u32 0, .string ⟨#[]⟩, .int .i64 0, .int .u64 0, .int .i64 0, .bool false, .bool false, .int .u64 0, .bool false, .bool false, .bool false]), (P5, 35, [.int .i64 10, .string ⟨#[]⟩, .int .u32 0, .string ⟨#[]⟩, .int .i64 0, .int .u64 0, .int .i64 0, .bool false, .bool false, .int .u64 0, .bool false, .bool false, .bool false]), (P2 + 1, 35, [.int .i64 2, .string ⟨#[97]⟩, .int .u32 0, .string ⟨#[49]⟩, .int .i64 0, .int .u64 1, .int .i64 0, .bool false, .bool false, .int .u64 0, .bool false, .bool false, .bool false]), (P2, 25, [.slice ax6 nx6 cx6, .int .u64 ((⟨[], 2, 0⟩ : Ms)).cas, .int .i64 ((⟨[], 2, 0⟩ : Ms)).fl]), (P1, 28, [.int .i64 2, .int .i64 0, .string ⟨#[98]⟩, .string ⟨#[49]⟩, .int .u32 0, .int .i64 0, .bool false, .int .u64 0, .bool false, .int .u64 0, .int .u64 0, .bool false, .bool false, .int .i64 0, .int .i64 (-1), .bool false])] [(.slice ax6 nx6 cx6, ((⟨[], 2, 0⟩ : Ms)).its), (.slice ax5 nx5 cx5, ((⟨[flA 0, flB 2 0], 2, T⟩ : Ms)).its), (.slice ax4 nx4 cx4, ((⟨[flA 0, flB 2 0], 2, 0⟩ : Ms)).its), (.slice ax2 nx2 cx2, ((⟨[flA 0], 1, 0⟩ : Ms)).its)] G6) := hid hg6
  clear hg6 HA6
  go_simp
  go_upto_region 10 with fail
  refine wp_region_E (fun W => Blk W (P2) 25 (stv (.slice ax6 nx6 cx6) (⟨[], 2, 0⟩ : Ms))) 9 (by kernel_rfl) ?_
  have HA7 : Hid (Bxr w [(Q6, 35, [.int .i64 5, .string ⟨#[]⟩, .int .u32 0, .string ⟨#[]⟩, .int .i64 0, .int .u64 0, .int .i64 0, .bool false, .bool false, .int .u64 0, .bool false, .bool false, .bool false]), (P5, 35, [.int .i64 10, .string ⟨#[]⟩, .int .u32 0, .string ⟨#[]⟩, .int .i64 0, .int .u64 0, .int .i64 0, .bool false, .bool false, .int .u64 0, .bool false, .bool false, .bool false]), (P2 + 1, 35, [.int .i64 2, .string ⟨#[97]⟩, .int .u32 0, .string ⟨#[49]⟩, .int .i64 0, .int .u64 1, .int .i64 0, .bool false, .bool false, .int .u64 0, .bool false, .bool false, .bool false]), (P2, 25, [.slice ax6 nx6 cx6, .int .u64 ((⟨[], 2, 0⟩ : Ms)).cas, .int .i64 ((⟨[], 2, 0⟩ : Ms)).fl]), (P1, 28, [.int .i64 2, .int .i64 0, .string ⟨#[98]⟩, .string ⟨#[49]⟩, .int .u32 0, .int .i64 0, .bool false, .int .u64 0, .bool false, .int .u64 0, .int .u64 0, .bool false, .bool false, .int .i64 0, .int .i64 (-1), .bool false])] [(.slice ax6 nx6 cx6, ((⟨[], 2, 0⟩ : Ms)).its), (.slice ax5 nx5 cx5, ((⟨[flA 0, flB 2 0], 2, T⟩ : Ms)).its), (.slice ax4 nx4 cx4, ((⟨[flA 0, flB 2 0], 2, 0⟩ : Ms)).its), (.slice ax2 nx2 cx2, ((⟨[flA 0], 1, 0⟩ : Ms)).its)] G6.drew) := hid (HG6.out.step (below_d G6))
  clear HG6
  generalize G6.drew = A7 at *
  have hS : Blk A7 (P2) 25 (stv (.slice ax6 nx6 cx6) (⟨[], 2, 0⟩ : Ms)) := HA7.out.1.get 3 rfl
  refine wpAnyE_take (i := 0) (v := .agg #[.slice ax6 nx6 cx6, .int .u64 2, .int .i64 0]) rfl (by kernel_rfl) (by kernel_rfl) (by kernel_rfl) (fun _ _ _ h => h) (by kernel_rfl) (by kernel_rfl) hS (Or.inl ⟨by rfl, ?_⟩) ?_
  · intro w' hw'
    have u0 := hw'.cell (i := 0) (v := .slice ax6 nx6 cx6) rfl
    have u1 := hw'.cell (i := 1) (v := .int .u64 ((⟨[], 2, 0⟩ : Ms)).cas) rfl
    have u2 := hw'.cell (i := 2) (v := .int .i64 ((⟨[], 2, 0⟩ : Ms)).fl) rfl
    go_simp
  refine wpAnyE_take (i := 1) (v := .int .i64 L) rfl (by kernel_rfl) (by kernel_rfl) (by kernel_rfl) (fun _ _ _ h => h) (by kernel_rfl) (by kernel_rfl) hS (Or.inl ⟨by rfl, ?_⟩) ?_
  · intro w' hw'
    go_simp
  refine wpAnyE_take (i := 2) (v := .int .i64 L2) rfl (by kernel_rfl) (by kernel_rfl) (by kernel_rfl) (fun _ _ _ h => h) (by kernel_rfl) (by kernel_rfl) hS (Or.inl ⟨by rfl, ?_⟩) ?_
  · intro w' hw'
    go_simp
  clear hS
  refine get1 (k := kB) (now := L2) (most := 99) _ _ 3 4 5 6 7 8 9 10 HA7.out (List.mem_of_getElem? (i := 3) rfl) (List.mem_of_getElem? (i := 0) rfl) hf4 (by decide) (by decide) HV.out ha5 rfl rfl rfl rfl rfl rfl rfl rfl rfl rfl rfl rfl rfl rfl 7 rfl rfl rfl rfl (by kernel_rfl) (by decide) rfl ⟨104, by kernel_rfl, by decide, by decide, by decide, by decide, by decide, by decide⟩ rfl rfl rfl rfl rfl rfl (fun _ _ _ _ _ h => h) (by kernel_rfl) (by kernel_rfl) (by kernel_rfl) rfl (by decide) 3 rfl (fun Q7 ax7 nx7 cx7 G7 hg7 => ?_)
  have HG7 : Hid (Bxr w [(Q7, 35, [.int .i64 5, .string ⟨#[]⟩, .int .u32 0, .string ⟨#[]⟩, .int .i64 0, .int .u64 0, .int .i64 0, .bool false, .bool false, .int .u64 0, .bool false, .bool false, .bool false]), (Q6, 35, [.int .i64 5, .string ⟨#[]⟩, .int .u32 0, .string ⟨#[]⟩, .int .i64 0, .int .u64 0, .int .i64 0, .bool false, .bool false, .int .u64 0, .bool false, .bool false, .bool false]), (P5, 35, [.int .i64 10, .string ⟨#[]⟩, .int .u32 0, .string ⟨#[]⟩, .int .i64 0, .int .u64 0, .int .i64 0, .bool false, .bool false, .int .u64 0, .bool false, .bool false, .bool false]), (P2 + 1, 35, [.int .i64 2, .string ⟨#[97]⟩, .int .u32 0, .string ⟨#[49]⟩, .int .i64 0, .int .u64 1, .int .i64 0, .bool false, .bool false, .int .u64 0, .bool false, .bool false, .bool false]), (P2, 25, [.slice ax7 nx7 cx7, .int .u64 ((⟨[], 2, 0⟩ : Ms)).cas, .int .i64 ((⟨[], 2, 0⟩ : Ms)).fl]), (P1, 28, [.int .i64 2, .int .i64 0, .string ⟨#[98]⟩, .string ⟨#[49]⟩, .int .u32 0, .int .i64 0, .bool false, .int .u64 0, .bool false, .int .u64 0, .int .u64 0, .bool false, .bool false, .int .i64 0, .int .i64 (-1), .bool false])] [(.slice ax7 nx7 cx7, ((⟨[], 2, 0⟩ : Ms)).its), (.slice ax6 nx6 cx6, ((⟨[], 2, 0⟩ : Ms)).its), (.slice ax5 nx5 cx5, ((⟨[flA 0, flB 2 0], 2, T⟩ : Ms)).its), (.slice ax4 nx4 cx4, ((⟨[flA 0, flB 2 0], 2, 0⟩ : Ms)).its), (.slice ax2 nx2 cx2, ((⟨[flA 0], 1, 0⟩ : Ms)).its)] G7) := hid hg7
  clear hg7 HA7
  go_simp
  go_upto_region 12 with fail
  refine wp_region_list ?_
  refine loadS (cs := [.slice ax7 nx7 cx7, .int .u64 ((⟨[], 2, 0⟩ : Ms)).cas, .int .i64 ((⟨[], 2, 0⟩ : Ms)).fl]) rfl rfl rfl (HG7.out.1.get 4 rfl) rfl ?_
  refine wpList_val (v := .int .i64 SEC) (w' := G7) rfl (by kernel_rfl) ?_
  refine wpList_val (v := .int .i64 T) (w' := G7) rfl (by go_simp) ?_
  refine loadC (cs := [.int .i64 2, .int .i64 0, .string ⟨#[98]⟩, .string ⟨#[49]⟩, .int .u32 0, .int .i64 0, .bool false, .int .u64 0, .bool false, .int .u64 0, .int .u64 0, .bool false, .bool false, .int .i64 0, .int .i64 (-1), .bool false]) rfl rfl rfl (HG7.out.1.get 5 rfl) rfl ?_
  refine app0 (s := (⟨[], 2, 0⟩ : Ms)) (now := T) (c := cSto kB k1 0 0 (-1)) (most := 99) HG7.out (HG7.out.its 0 rfl) hf5 (by decide) (by decide) fstob_ok HV.out ha6 rfl rfl rfl rfl rfl rfl 4 (P2) 7 [.slice ax7 nx7 cx7, .int .u64 ((⟨[], 2, 0⟩ : Ms)).cas, .int .i64 ((⟨[], 2, 0⟩ : Ms)).fl] rfl rfl rfl rfl (by decide) ⟨104, by kernel_rfl, by decide, by decide, by decide, by decide⟩ (by kernel_rfl) (by kernel_rfl) (by kernel_rfl) (fun ax8 nx8 cx8 G8 hg8 => ?_)
  have HG8 : Hid (Bxr w [(Q7, 35, [.int .i64 5, .string ⟨#[]⟩, .int .u32 0, .string ⟨#[]⟩, .int .i64 0, .int .u64 0, .int .i64 0, .bool false, .bool false, .int .u64 0, .bool false, .bool false, .bool false]), (Q6, 35, [.int .i64 5, .string ⟨#[]⟩, .int .u32 0, .string ⟨#[]⟩, .int .i64 0, .int .u64 0, .int .i64 0, .bool false, .bool false, .int .u64 0, .bool false, .bool false, .bool false]), (P5, 35, [.int .i64 10, .string ⟨#[]⟩, .int .u32 0, .string ⟨#[]⟩, .int .i64 0, .int .u64 0, .int .i64 0, .bool false, .bool false, .int .u64 0, .bool false, .bool false, .bool false]), (P2 + 1, 35, [.int .i64 2, .string ⟨#[97]⟩, .int .u32 0, .string ⟨#[49]⟩, .int .i64 0, .int .u64 1, .int .i64 0, .bool false, .bool false, .int .u64 0, .bool false, .bool false, .bool false]), (P2, 25, [.slice ax8 nx8 cx8, .int .u64 ((⟨[flB 3 0], 3, 0⟩ : Ms)).cas, .int .i64 ((⟨[flB 3 0], 3, 0⟩ : Ms)).fl]), (P1, 28, [.int .i64 2, .int .i64 0, .string ⟨#[98]⟩, .string ⟨#[49]⟩, .int .u32 0, .int .i64 0, .bool false, .int .u64 0, .bool false, .int .u64 0, .int .u64 0, .bool false, .bool false, .int .i64 0, .int .i64 (-1), .bool false])] [(.slice ax8 nx8 cx8, ((⟨[flB 3 0], 3, 0⟩ : Ms)).its), (.slice ax7 nx7 cx7, ((⟨[], 2, 0⟩ : Ms)).its), (.slice ax6 nx6 cx6, ((⟨[], 2, 0⟩ : Ms)).its), (.slice ax5 nx5 cx5, ((⟨[flA 0, flB 2 0], 2, T⟩ : Ms)).its), (.slice ax4 nx4 cx4, ((⟨[flA 0, flB 2 0], 2, 0⟩ : Ms)).its), (.slice ax2 nx2 cx2, ((⟨[flA 0], 1, 0⟩ : Ms)).its)] G8) := hid hg8
  clear hg8 HG7
  go_simp
  go_upto_region 13 with fail
  refine wp_region_E (fun W => Blk W (P2) 25 (stv (.slice ax8 nx8 cx8) (⟨[flB 3 0], 3, 0⟩ : Ms))) 13 (by kernel_rfl) ?_
  have HA9 : Hid (Bxr w [(Q7, 35, [.int .i64 5, .string ⟨#[]⟩, .int .u32 0, .string ⟨#[]⟩, .int .i64 0, .int .u64 0, .int .i64 0, .bool false, .bool false, .int .u64 0, .bool false, .bool false, .bool false]), (Q6, 35, [.int .i64 5, .string ⟨#[]⟩, .int .u32 0, .string ⟨#[]⟩, .int .i64 0, .int .u64 0, .int .i64 0, .bool false, .bool false, .int .u64 0, .bool false, .bool false, .bool false]), (P5, 35, [.int .i64 10, .string ⟨#[]⟩, .int .u32 0, .string ⟨#[]⟩, .int .i64 0, .int .u64 0, .int .i64 0, .bool false, .bool false, .int .u64 0, .bool false, .bool false, .bool false]), (P2 + 1, 35, [.int .i64 2, .string ⟨#[97]⟩, .int .u32 0, .string ⟨#[49]⟩, .int .i64 0, .int .u64 1, .int .i64 0, .bool false, .bool false, .int .u64 0, .bool false, .bool false, .bool false]), (P2, 25, [.slice ax8 nx8 cx8, .int .u64 ((⟨[flB 3 0], 3, 0⟩ : Ms)).cas, .int .i64 ((⟨[flB 3 0], 3, 0⟩ : Ms)).fl]), (P1, 28, [.int .i64 2, .int .i64 0, .string ⟨#[98]⟩, .string ⟨#[49]⟩, .int .u32 0, .int .i64 0, .bool false, .int .u64 0, .bool false, .int .u64 0, .int .u64 0, .bool false, .bool false, .int .i64 0, .int .i64 (-1), .bool false])] [(.slice ax8 nx8 cx8, ((⟨[flB 3 0], 3, 0⟩ : Ms)).its), (.slice ax7 nx7 cx7, ((⟨[], 2, 0⟩ : Ms)).its), (.slice ax6 nx6 cx6, ((⟨[], 2, 0⟩ : Ms)).its), (.slice ax5 nx5 cx5, ((⟨[flA 0, flB 2 0], 2, T⟩ : Ms)).its), (.slice ax4 nx4 cx4, ((⟨[flA 0, flB 2 0], 2, 0⟩ : Ms)).its), (.slice ax2 nx2 cx2, ((⟨[flA 0], 1, 0⟩ : Ms)).its)] G8.drew) := hid (HG8.out.step (below_d G8))
  clear HG8
  generalize G8.drew = A9 at *
  have hS : Blk A9 (P2) 25 (stv (.slice ax8 nx8 cx8) (⟨[flB 3 0], 3, 0⟩ : Ms)) := HA9.out.1.get 4 rfl
  refine wpAnyE_take (i := 0) (v := .agg #[.slice ax8 nx8 cx8, .int .u64 3, .int .i64 0]) rfl (by kernel_rfl) (by kernel_rfl) (by kernel_rfl) (fun _ _ _ h => h) (by kernel_rfl) (by kernel_rfl) hS (Or.inl ⟨by rfl, ?_⟩) ?_
  · intro w' hw'
    have u0 := hw'.cell (i := 0) (v := .slice ax8 nx8 cx8) rfl
    have u1 := hw'.cell (i := 1) (v := .int .u64 ((⟨[flB 3 0], 3, 0⟩ : Ms)).cas) rfl
    have u2 := hw'.cell (i := 2) (v := .int .i64 ((⟨[flB 3 0], 3, 0⟩ : Ms)).fl) rfl
    go_simp
  refine wpAnyE_take (i := 1) (v := .int .i64 SEC) rfl (by kernel_rfl) (by kernel_rfl) (by kernel_rfl) (fun _ _ _ h => h) (by kernel_rfl) (by kernel_rfl) hS (Or.inl ⟨by rfl, ?_⟩) ?_
  · intro w' hw'
    go_simp
  refine wpAnyE_take (i := 2) (v := .int .i64 T) rfl (by kernel_rfl) (by kernel_rfl) (by kernel_rfl) (fun _ _ _ h => h) (by kernel_rfl) (by kernel_rfl) hS (Or.inl ⟨by rfl, ?_⟩) ?_
  · intro w' hw'
    go_simp
  refine wpAnyE_take (i := 3) (v := .int .i64 L) rfl (by kernel_rfl) (by kernel_rfl) (by kernel_rfl) (fun _ _ _ h => h) (by kernel_rfl) (by kernel_rfl) hS (Or.inl ⟨by rfl, ?_⟩) ?_
  · intro w' hw'
    go_simp
  refine wpAnyE_take (i := 4) (v := .int .i64 T2) rfl (by kernel_rfl) (by kernel_rfl) (by kernel_rfl) (fun _ _ _ h => h) (by kernel_rfl) (by kernel_rfl) hS (Or.inl ⟨by rfl, ?_⟩) ?_
  · intro w' hw'
    go_simp
  clear hS
  refine get2 (k := kB) (now := T2) (most := 99) _ _ 5 6 7 8 9 10 11 12 13 HA9.out (List.mem_of_getElem? (i := 4) rfl) (List.mem_of_getElem? (i := 0) rfl) hf6 (by decide) (by decide) HV.out ha7 rfl rfl rfl rfl rfl rfl rfl rfl rfl rfl rfl rfl rfl rfl rfl rfl rfl (by kernel_rfl) (by decide) rfl ⟨104, by kernel_rfl, by decide, by decide, by decide, by decide, by decide, by decide, by decide⟩ rfl rfl rfl rfl rfl rfl rfl (fun _ _ _ _ _ h => h) (by kernel_rfl) (by kernel_rfl) (by kernel_rfl) (fun P9 Q9 ax9 nx9 cx9 G9 hg9 => ?_)
  have HG9 : Hid (Bxr w [(Q9, 35, [.int .i64 1, .string ⟨#[98]⟩, .int .u32 0, .string ⟨#[49]⟩, .int .i64 0, .int .u64 3, .int .i64 T2, .bool false, .bool false, .int .u64 0, .bool false, .bool false, .bool false]), (P9, 25, [.slice ax9 nx9 cx9, .int .u64 ((⟨[flB 3 T2], 3, 0⟩ : Ms)).cas, .int .i64 ((⟨[flB 3 T2], 3, 0⟩ : Ms)).fl]), (Q7, 35, [.int .i64 5, .string ⟨#[]⟩, .int .u32 0, .string ⟨#[]⟩, .int .i64 0, .int .u64 0, .int .i64 0, .bool false, .bool false, .int .u64 0, .bool false, .bool false, .bool false]), (Q6, 35, [.int .i64 5, .string ⟨#[]⟩, .int .u32 0, .string ⟨#[]⟩, .int .i64 0, .int .u64 0, .int .i64 0, .bool false, .bool false, .int .u64 0, .bool false, .bool false, .bool false]), (P5, 35, [.int .i64 10, .string ⟨#[]⟩, .int .u32 0, .string ⟨#[]⟩, .int .i64 0, .int .u64 0, .int .i64 0, .bool false, .bool false, .int .u64 0, .bool false, .bool false, .bool false]), (P2 + 1, 35, [.int .i64 2, .string ⟨#[97]⟩, .int .u32 0, .string ⟨#[49]⟩, .int .i64 0, .int .u64 1, .int .i64 0, .bool false, .bool false, .int .u64 0, .bool false, .bool false, .bool false]), (P2, 25, [.slice ax8 nx8 cx8, .int .u64 ((⟨[flB 3 0], 3, 0⟩ : Ms)).cas, .int .i64 ((⟨[flB 3 0], 3, 0⟩ : Ms)).fl]), (P1, 28, [.int .i64 2, .int .i64 0, .string ⟨#[98]⟩, .string ⟨#[49]⟩, .int .u32 0, .int .i64 0, .bool false, .int .u64 0, .bool false, .int .u64 0, .int .u64 0, .bool false, .bool false, .int .i64 0, .int .i64 (-1), .bool false])] [(.slice ax9 nx9 cx9, ((⟨[flB 3 T2], 3, 0⟩ : Ms)).its), (.slice ax8 nx8 cx8, ((⟨[flB 3 0], 3, 0⟩ : Ms)).its), (.slice ax7 nx7 cx7, ((⟨[], 2, 0⟩ : Ms)).its), (.slice ax6 nx6 cx6, ((⟨[], 2, 0⟩ : Ms)).its), (.slice ax5 nx5 cx5, ((⟨[flA 0, flB 2 0], 2, T⟩ : Ms)).its), (.slice ax4 nx4 cx4, ((⟨[flA 0, flB 2 0], 2, 0⟩ : Ms)).its), (.slice ax2 nx2 cx2, ((⟨[flA 0], 1, 0⟩ : Ms)).its)] G9) := hid hg9
  clear hg9 HA9
  go_simp
  have x0 := (HG9.out.1.get 4 rfl).cell (i := 0) rfl
  have y0 := (HG9.out.1.get 3 rfl).cell (i := 0) rfl
  have z0 := (HG9.out.1.get 2 rfl).cell (i := 0) rfl
  have v0 := (HG9.out.1.get 0 rfl).cell (i := 0) rfl
  go_wp2_with fail
  go_ret
  exact ⟨rfl, HG9.out.1.1⟩
end Go.Proofs.YtkaaebjifkbclaaDoor.Md
