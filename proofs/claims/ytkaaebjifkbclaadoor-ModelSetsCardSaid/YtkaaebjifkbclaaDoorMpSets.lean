/-
  The law ModelSets: what is stored is told, till its moment. Conditions: numbers are in their types' ranges; the library's variables are as they begin.
-/
import Derived.Test.YtkaaebjifkbclaaDoorMpApp
namespace Go.Proofs.YtkaaebjifkbclaaDoor.Md
open Go Go.RowKit Go.Lib

section
variable {k v : ByteArray} {fl : Nat} {e : Int}
set_option maxRecDepth 100000 in
set_option maxHeartbeats 40000000 in
theorem sets_no {now later T L : Int} {w : World} (hv : Nu.Vars w) (hcok : (cSto k v fl e (-1)).Ok) (m1 : bits .and .i64 now 4294967295 + 1 = T) (m2 : IntKind.i64.wrap T = T) (m3 : bits .and .i64 later 4294967295 = L) (hr1 : apply ⟨[], 0, 0⟩ T (cSto k v fl e (-1)) 65536 = (⟨[], 0, 0⟩, An.of 0)) :
    Calls Tryd.prog 4 #[.string k, .int .u32 fl, .string v, .int .i64 e, .int .i64 now, .int .i64 later] w fun e w' => e = .returned (.bool true) ∧ Below w.heap.size w w' := by
  have HV := hid hv
  have m1' : 1 + bits .and .i64 now 4294967295 = T := by omega
  clear hv m1
  have HB := hid (Bxr.begin w)
  go_enter Tryd.func4, Tryd.ntmps4
  go_wp2_with fail
  refine (shown_any w HV.out).mono ?_
  rintro e0 w1 ⟨rfl, hb1⟩
  have HB1 : Hid (Bxr w [] [] w1) := hid (HB.out.step hb1)
  clear hb1 HB
  go_upto_region 4 with fail
  refine wp_region_list ?_
  refine wpList_val (v := .string k) (w' := w1) rfl (by kernel_rfl) ?_
  refine wpList_val (v := .int .u32 fl) (w' := w1) rfl (by kernel_rfl) ?_
  refine wpList_val (v := .string v) (w' := w1) rfl (by kernel_rfl) ?_
  refine wpList_val (v := .int .i64 e) (w' := w1) rfl (by kernel_rfl) ?_
  refine wpList_val (v := (cSto k v fl e (-1)).v) (w' := w1) rfl (by kernel_rfl) ?_
  refine newT (cs := [.int .i64 2, .int .i64 0, .string k, .string v, .int .u32 fl, .int .i64 e, .bool false, .int .u64 0, .bool false, .int .u64 0, .int .u64 0, .bool false, .bool false, .int .i64 0, .int .i64 (-1), .bool false]) HB1.out rfl rfl rfl rfl rfl rfl (by kernel_rfl) rfl ⟨168, by kernel_rfl, by decide⟩ rfl rfl (fun P1 G1 hg1 => ?_)
  have HG1 : Hid (Bxr w [(P1, 28, [.int .i64 2, .int .i64 0, .string k, .string v, .int .u32 fl, .int .i64 e, .bool false, .int .u64 0, .bool false, .int .u64 0, .int .u64 0, .bool false, .bool false, .int .i64 0, .int .i64 (-1), .bool false])] [] G1) := hid hg1
  clear hg1 HB1
  go_simp
  go_upto_region 5 with fail
  refine wp_region_list ?_
  refine wpList_val (v := .agg #[.slice none 0 0, .int .u64 0, .int .i64 0]) (w' := G1) rfl (by kernel_rfl) ?_
  refine wpList_val (v := .int .i64 T) (w' := G1) rfl (by kernel_rfl) ?_
  refine loadC (cs := [.int .i64 2, .int .i64 0, .string k, .string v, .int .u32 fl, .int .i64 e, .bool false, .int .u64 0, .bool false, .int .u64 0, .int .u64 0, .bool false, .bool false, .int .i64 0, .int .i64 (-1), .bool false]) rfl rfl rfl (HG1.out.1.get 0 rfl) rfl ?_
  refine app2 (s := ⟨[], 0, 0⟩) (now := T) (c := cSto k v fl e (-1)) (most := 65536) HG1.out (its_none _) (fit_no 0 65536) (by decide) (by decide) hcok HV.out hr1 rfl rfl rfl rfl rfl rfl rfl rfl rfl rfl (by decide) ⟨168, by kernel_rfl, by decide, by decide, by decide, by decide, by decide, by decide⟩ (by kernel_rfl) (by kernel_rfl) (by kernel_rfl) (fun P2 ax2 nx2 cx2 G2 hg2 => ?_)
  have HG2 : Hid (Bxr w [(P2 + 1, 35, [.int .i64 0, .string ⟨#[]⟩, .int .u32 0, .string ⟨#[]⟩, .int .i64 0, .int .u64 0, .int .i64 0, .bool false, .bool false, .int .u64 0, .bool false, .bool false, .bool false]), (P2, 25, [.slice ax2 nx2 cx2, .int .u64 ((⟨[], 0, 0⟩ : Ms)).cas, .int .i64 ((⟨[], 0, 0⟩ : Ms)).fl]), (P1, 28, [.int .i64 2, .int .i64 0, .string k, .string v, .int .u32 fl, .int .i64 e, .bool false, .int .u64 0, .bool false, .int .u64 0, .int .u64 0, .bool false, .bool false, .int .i64 0, .int .i64 (-1), .bool false])] [(.slice ax2 nx2 cx2, ((⟨[], 0, 0⟩ : Ms)).its)] G2) := hid hg2
  clear hg2 HG1
  go_simp
  have hn1 := its_len (HG2.out.its 0 rfl)
  change nx2 = 0 at hn1
  subst hn1
  have s0 := (HG2.out.1.get 1 rfl).cell (i := 0) rfl
  have a0 := (HG2.out.1.get 0 rfl).cell (i := 0) rfl
  go_wp2_with fail
  go_ret
  exact ⟨rfl, HG2.out.1.1⟩
set_option maxRecDepth 100000 in
set_option maxHeartbeats 40000000 in
theorem sets_large {now later T L : Int} {w : World} (hv : Nu.Vars w) (hcok : (cSto k v fl e (-1)).Ok) (m1 : bits .and .i64 now 4294967295 + 1 = T) (m2 : IntKind.i64.wrap T = T) (m3 : bits .and .i64 later 4294967295 = L) (hr1 : apply ⟨[], 0, 0⟩ T (cSto k v fl e (-1)) 65536 = (⟨[], 0, 0⟩, An.of 11)) :
    Calls Tryd.prog 4 #[.string k, .int .u32 fl, .string v, .int .i64 e, .int .i64 now, .int .i64 later] w fun e w' => e = .returned (.bool true) ∧ Below w.heap.size w w' := by
  have HV := hid hv
  have m1' : 1 + bits .and .i64 now 4294967295 = T := by omega
  clear hv m1
  have HB := hid (Bxr.begin w)
  go_enter Tryd.func4, Tryd.ntmps4
  go_wp2_with fail
  refine (shown_any w HV.out).mono ?_
  rintro e0 w1 ⟨rfl, hb1⟩
  have HB1 : Hid (Bxr w [] [] w1) := hid (HB.out.step hb1)
  clear hb1 HB
  go_upto_region 4 with fail
  refine wp_region_list ?_
  refine wpList_val (v := .string k) (w' := w1) rfl (by kernel_rfl) ?_
  refine wpList_val (v := .int .u32 fl) (w' := w1) rfl (by kernel_rfl) ?_
  refine wpList_val (v := .string v) (w' := w1) rfl (by kernel_rfl) ?_
  refine wpList_val (v := .int .i64 e) (w' := w1) rfl (by kernel_rfl) ?_
  refine wpList_val (v := (cSto k v fl e (-1)).v) (w' := w1) rfl (by kernel_rfl) ?_
  refine newT (cs := [.int .i64 2, .int .i64 0, .string k, .string v, .int .u32 fl, .int .i64 e, .bool false, .int .u64 0, .bool false, .int .u64 0, .int .u64 0, .bool false, .bool false, .int .i64 0, .int .i64 (-1), .bool false]) HB1.out rfl rfl rfl rfl rfl rfl (by kernel_rfl) rfl ⟨168, by kernel_rfl, by decide⟩ rfl rfl (fun P1 G1 hg1 => ?_)
  have HG1 : Hid (Bxr w [(P1, 28, [.int .i64 2, .int .i64 0, .string k, .string v, .int .u32 fl, .int .i64 e, .bool false, .int .u64 0, .bool false, .int .u64 0, .int .u64 0, .bool false, .bool false, .int .i64 0, .int .i64 (-1), .bool false])] [] G1) := hid hg1
  clear hg1 HB1
  go_simp
  go_upto_region 5 with fail
  refine wp_region_list ?_
  refine wpList_val (v := .agg #[.slice none 0 0, .int .u64 0, .int .i64 0]) (w' := G1) rfl (by kernel_rfl) ?_
  refine wpList_val (v := .int .i64 T) (w' := G1) rfl (by kernel_rfl) ?_
  refine loadC (cs := [.int .i64 2, .int .i64 0, .string k, .string v, .int .u32 fl, .int .i64 e, .bool false, .int .u64 0, .bool false, .int .u64 0, .int .u64 0, .bool false, .bool false, .int .i64 0, .int .i64 (-1), .bool false]) rfl rfl rfl (HG1.out.1.get 0 rfl) rfl ?_
  refine app2 (s := ⟨[], 0, 0⟩) (now := T) (c := cSto k v fl e (-1)) (most := 65536) HG1.out (its_none _) (fit_no 0 65536) (by decide) (by decide) hcok HV.out hr1 rfl rfl rfl rfl rfl rfl rfl rfl rfl rfl (by decide) ⟨168, by kernel_rfl, by decide, by decide, by decide, by decide, by decide, by decide⟩ (by kernel_rfl) (by kernel_rfl) (by kernel_rfl) (fun P2 ax2 nx2 cx2 G2 hg2 => ?_)
  have HG2 : Hid (Bxr w [(P2 + 1, 35, [.int .i64 11, .string ⟨#[]⟩, .int .u32 0, .string ⟨#[]⟩, .int .i64 0, .int .u64 0, .int .i64 0, .bool false, .bool false, .int .u64 0, .bool false, .bool false, .bool false]), (P2, 25, [.slice ax2 nx2 cx2, .int .u64 ((⟨[], 0, 0⟩ : Ms)).cas, .int .i64 ((⟨[], 0, 0⟩ : Ms)).fl]), (P1, 28, [.int .i64 2, .int .i64 0, .string k, .string v, .int .u32 fl, .int .i64 e, .bool false, .int .u64 0, .bool false, .int .u64 0, .int .u64 0, .bool false, .bool false, .int .i64 0, .int .i64 (-1), .bool false])] [(.slice ax2 nx2 cx2, ((⟨[], 0, 0⟩ : Ms)).its)] G2) := hid hg2
  clear hg2 HG1
  go_simp
  have hn1 := its_len (HG2.out.its 0 rfl)
  change nx2 = 0 at hn1
  subst hn1
  have s0 := (HG2.out.1.get 1 rfl).cell (i := 0) rfl
  have a0 := (HG2.out.1.get 0 rfl).cell (i := 0) rfl
  go_wp2_with fail
  go_ret
  exact ⟨rfl, HG2.out.1.1⟩
set_option maxRecDepth 100000 in
set_option maxHeartbeats 40000000 in
theorem sets_gone {now later T L T2 : Int} {w : World} (hv : Nu.Vars w) (hcok : (cSto k v fl e (-1)).Ok) (m1 : bits .and .i64 now 4294967295 + 1 = T) (m2 : IntKind.i64.wrap T = T) (m3 : bits .and .i64 later 4294967295 = L) (hr1 : apply ⟨[], 0, 0⟩ T (cSto k v fl e (-1)) 65536 = (⟨[stoX k v fl e T], 1, 0⟩, An.is 2 (stoX k v fl e T))) (hfit : Fit 1 65536 ⟨[stoX k v fl e T], 1, 0⟩) (m4 : T + L = T2) (m5 : IntKind.i64.wrap T2 = T2) (hr2 : apply ⟨[stoX k v fl e T], 1, 0⟩ T2 (cGet k) 65536 = (⟨[], 1, 0⟩, An.of 5)) (hlv : (e < 0 ∧ ¬ e = 0 ∧ (e == 0) = false ∧ ¬ 0 < e ∧ ¬ 2592000 < e) ∨ (¬ e = 0 ∧ (e == 0) = false ∧ 0 < e ∧ e ≤ 2592000 ∧ ¬ 2592000 < e ∧ ¬ L < e ∧ decide (L < e) = false) ∨ (¬ e = 0 ∧ (e == 0) = false ∧ 0 < e ∧ 2592000 < e ∧ ¬ e ≤ 2592000 ∧ ¬ T2 < e ∧ decide (T2 < e) = false)) :
    Calls Tryd.prog 4 #[.string k, .int .u32 fl, .string v, .int .i64 e, .int .i64 now, .int .i64 later] w fun e w' => e = .returned (.bool true) ∧ Below w.heap.size w w' := by
  have HV := hid hv
  have m1' : 1 + bits .and .i64 now 4294967295 = T := by omega
  clear hv m1
  have HB := hid (Bxr.begin w)
  go_enter Tryd.func4, Tryd.ntmps4
  go_wp2_with fail
  refine (shown_any w HV.out).mono ?_
  rintro e0 w1 ⟨rfl, hb1⟩
  have HB1 : Hid (Bxr w [] [] w1) := hid (HB.out.step hb1)
  clear hb1 HB
  go_upto_region 4 with fail
  refine wp_region_list ?_
  refine wpList_val (v := .string k) (w' := w1) rfl (by kernel_rfl) ?_
  refine wpList_val (v := .int .u32 fl) (w' := w1) rfl (by kernel_rfl) ?_
  refine wpList_val (v := .string v) (w' := w1) rfl (by kernel_rfl) ?_
  refine wpList_val (v := .int .i64 e) (w' := w1) rfl (by kernel_rfl) ?_
  refine wpList_val (v := (cSto k v fl e (-1)).v) (w' := w1) rfl (by kernel_rfl) ?_
  refine newT (cs := [.int .i64 2, .int .i64 0, .string k, .string v, .int .u32 fl, .int .i64 e, .bool false, .int .u64 0, .bool false, .int .u64 0, .int .u64 0, .bool false, .bool false, .int .i64 0, .int .i64 (-1), .bool false]) HB1.out rfl rfl rfl rfl rfl rfl (by kernel_rfl) rfl ⟨168, by kernel_rfl, by decide⟩ rfl rfl (fun P1 G1 hg1 => ?_)
  have HG1 : Hid (Bxr w [(P1, 28, [.int .i64 2, .int .i64 0, .string k, .string v, .int .u32 fl, .int .i64 e, .bool false, .int .u64 0, .bool false, .int .u64 0, .int .u64 0, .bool false, .bool false, .int .i64 0, .int .i64 (-1), .bool false])] [] G1) := hid hg1
  clear hg1 HB1
  go_simp
  go_upto_region 5 with fail
  refine wp_region_list ?_
  refine wpList_val (v := .agg #[.slice none 0 0, .int .u64 0, .int .i64 0]) (w' := G1) rfl (by kernel_rfl) ?_
  refine wpList_val (v := .int .i64 T) (w' := G1) rfl (by kernel_rfl) ?_
  refine loadC (cs := [.int .i64 2, .int .i64 0, .string k, .string v, .int .u32 fl, .int .i64 e, .bool false, .int .u64 0, .bool false, .int .u64 0, .int .u64 0, .bool false, .bool false, .int .i64 0, .int .i64 (-1), .bool false]) rfl rfl rfl (HG1.out.1.get 0 rfl) rfl ?_
  refine app2 (s := ⟨[], 0, 0⟩) (now := T) (c := cSto k v fl e (-1)) (most := 65536) HG1.out (its_none _) (fit_no 0 65536) (by decide) (by decide) hcok HV.out hr1 rfl rfl rfl rfl rfl rfl rfl rfl rfl rfl (by decide) ⟨168, by kernel_rfl, by decide, by decide, by decide, by decide, by decide, by decide⟩ (by kernel_rfl) (by kernel_rfl) (by kernel_rfl) (fun P2 ax2 nx2 cx2 G2 hg2 => ?_)
  have HG2 : Hid (Bxr w [(P2 + 1, 35, [.int .i64 2, .string k, .int .u32 fl, .string v, .int .i64 (moment T e), .int .u64 1, .int .i64 0, .bool false, .bool false, .int .u64 0, .bool false, .bool false, .bool false]), (P2, 25, [.slice ax2 nx2 cx2, .int .u64 ((⟨[stoX k v fl e T], 1, 0⟩ : Ms)).cas, .int .i64 ((⟨[stoX k v fl e T], 1, 0⟩ : Ms)).fl]), (P1, 28, [.int .i64 2, .int .i64 0, .string k, .string v, .int .u32 fl, .int .i64 e, .bool false, .int .u64 0, .bool false, .int .u64 0, .int .u64 0, .bool false, .bool false, .int .i64 0, .int .i64 (-1), .bool false])] [(.slice ax2 nx2 cx2, ((⟨[stoX k v fl e T], 1, 0⟩ : Ms)).its)] G2) := hid hg2
  clear hg2 HG1
  go_simp
  have a0 := (HG2.out.1.get 0 rfl).cell (i := 0) rfl
  go_upto_region 8 with fail
  refine wp_region_E (fun W => Blk W (P2) 25 (stv (.slice ax2 nx2 cx2) (⟨[stoX k v fl e T], 1, 0⟩ : Ms))) 13 (by kernel_rfl) ?_
  have HA3 : Hid (Bxr w [(P2 + 1, 35, [.int .i64 2, .string k, .int .u32 fl, .string v, .int .i64 (moment T e), .int .u64 1, .int .i64 0, .bool false, .bool false, .int .u64 0, .bool false, .bool false, .bool false]), (P2, 25, [.slice ax2 nx2 cx2, .int .u64 ((⟨[stoX k v fl e T], 1, 0⟩ : Ms)).cas, .int .i64 ((⟨[stoX k v fl e T], 1, 0⟩ : Ms)).fl]), (P1, 28, [.int .i64 2, .int .i64 0, .string k, .string v, .int .u32 fl, .int .i64 e, .bool false, .int .u64 0, .bool false, .int .u64 0, .int .u64 0, .bool false, .bool false, .int .i64 0, .int .i64 (-1), .bool false])] [(.slice ax2 nx2 cx2, ((⟨[stoX k v fl e T], 1, 0⟩ : Ms)).its)] G2.drew) := hid (HG2.out.step (below_d G2))
  clear HG2
  generalize G2.drew = A3 at *
  have hS : Blk A3 (P2) 25 (stv (.slice ax2 nx2 cx2) (⟨[stoX k v fl e T], 1, 0⟩ : Ms)) := HA3.out.1.get 1 rfl
  refine wpAnyE_take (i := 0) (v := .agg #[.slice ax2 nx2 cx2, .int .u64 1, .int .i64 0]) rfl (by kernel_rfl) (by kernel_rfl) (by kernel_rfl) (fun _ _ _ h => h) (by kernel_rfl) (by kernel_rfl) hS (Or.inl ⟨by rfl, ?_⟩) ?_
  · intro w' hw'
    have u0 := hw'.cell (i := 0) (v := .slice ax2 nx2 cx2) rfl
    have u1 := hw'.cell (i := 1) (v := .int .u64 ((⟨[stoX k v fl e T], 1, 0⟩ : Ms)).cas) rfl
    have u2 := hw'.cell (i := 2) (v := .int .i64 ((⟨[stoX k v fl e T], 1, 0⟩ : Ms)).fl) rfl
    go_simp
  refine wpAnyE_take (i := 1) (v := .int .i64 T) rfl (by kernel_rfl) (by kernel_rfl) (by kernel_rfl) (fun _ _ _ h => h) (by kernel_rfl) (by kernel_rfl) hS (Or.inl ⟨by rfl, ?_⟩) ?_
  · intro w' hw'
    go_simp
  refine wpAnyE_take (i := 2) (v := .int .i64 L) rfl (by kernel_rfl) (by kernel_rfl) (by kernel_rfl) (fun _ _ _ h => h) (by kernel_rfl) (by kernel_rfl) hS (Or.inl ⟨by rfl, ?_⟩) ?_
  · intro w' hw'
    go_simp
  refine wpAnyE_take (i := 3) (v := .int .i64 T2) rfl (by kernel_rfl) (by kernel_rfl) (by kernel_rfl) (fun _ _ _ h => h) (by kernel_rfl) (by kernel_rfl) hS (Or.inl ⟨by rfl, ?_⟩) ?_
  · intro w' hw'
    go_simp
  refine wpAnyE_take (i := 4) (v := .string k) rfl (by kernel_rfl) (by kernel_rfl) (by kernel_rfl) (fun _ _ _ h => h) (by kernel_rfl) (by kernel_rfl) hS (Or.inl ⟨by rfl, ?_⟩) ?_
  · intro w' hw'
    go_simp
  clear hS
  refine get2 (k := k) (now := T2) (most := 65536) _ _ 5 6 7 8 9 10 11 12 13 HA3.out (List.mem_of_getElem? (i := 1) rfl) (List.mem_of_getElem? (i := 0) rfl) hfit (by decide) (by decide) HV.out hr2 rfl rfl rfl rfl rfl rfl rfl rfl rfl rfl rfl rfl rfl rfl rfl rfl rfl (by kernel_rfl) (by decide) rfl ⟨168, by kernel_rfl, by decide, by decide, by decide, by decide, by decide, by decide, by decide⟩ rfl rfl rfl rfl rfl rfl rfl (fun _ _ _ _ _ h => h) (by kernel_rfl) (by kernel_rfl) (by kernel_rfl) (fun P3 Q3 ax3 nx3 cx3 G3 hg3 => ?_)
  have HG3 : Hid (Bxr w [(Q3, 35, [.int .i64 5, .string ⟨#[]⟩, .int .u32 0, .string ⟨#[]⟩, .int .i64 0, .int .u64 0, .int .i64 0, .bool false, .bool false, .int .u64 0, .bool false, .bool false, .bool false]), (P3, 25, [.slice ax3 nx3 cx3, .int .u64 ((⟨[], 1, 0⟩ : Ms)).cas, .int .i64 ((⟨[], 1, 0⟩ : Ms)).fl]), (P2 + 1, 35, [.int .i64 2, .string k, .int .u32 fl, .string v, .int .i64 (moment T e), .int .u64 1, .int .i64 0, .bool false, .bool false, .int .u64 0, .bool false, .bool false, .bool false]), (P2, 25, [.slice ax2 nx2 cx2, .int .u64 ((⟨[stoX k v fl e T], 1, 0⟩ : Ms)).cas, .int .i64 ((⟨[stoX k v fl e T], 1, 0⟩ : Ms)).fl]), (P1, 28, [.int .i64 2, .int .i64 0, .string k, .string v, .int .u32 fl, .int .i64 e, .bool false, .int .u64 0, .bool false, .int .u64 0, .int .u64 0, .bool false, .bool false, .int .i64 0, .int .i64 (-1), .bool false])] [(.slice ax3 nx3 cx3, ((⟨[], 1, 0⟩ : Ms)).its), (.slice ax2 nx2 cx2, ((⟨[stoX k v fl e T], 1, 0⟩ : Ms)).its)] G3) := hid hg3
  clear hg3 HA3
  go_simp
  have hn1 := its_len (HG3.out.its 0 rfl)
  change nx3 = 0 at hn1
  subst hn1
  have t0 := (HG3.out.1.get 1 rfl).cell (i := 0) rfl
  have b0 := (HG3.out.1.get 0 rfl).cell (i := 0) rfl
  have b1 := (HG3.out.1.get 0 rfl).cell (i := 1) rfl
  have b2 := (HG3.out.1.get 0 rfl).cell (i := 2) rfl
  have b3 := (HG3.out.1.get 0 rfl).cell (i := 3) rfl
  have b4 := (HG3.out.1.get 0 rfl).cell (i := 4) rfl
  have b5 := (HG3.out.1.get 0 rfl).cell (i := 5) rfl
  have b6 := (HG3.out.1.get 0 rfl).cell (i := 6) rfl
  have b7 := (HG3.out.1.get 0 rfl).cell (i := 7) rfl
  have b8 := (HG3.out.1.get 0 rfl).cell (i := 8) rfl
  have b9 := (HG3.out.1.get 0 rfl).cell (i := 9) rfl
  have b10 := (HG3.out.1.get 0 rfl).cell (i := 10) rfl
  have b11 := (HG3.out.1.get 0 rfl).cell (i := 11) rfl
  have b12 := (HG3.out.1.get 0 rfl).cell (i := 12) rfl
  have y5 := (HG3.out.1.get 2 rfl).cell (i := 5) rfl
  rcases hlv with hl | hl | hl
  all_goals go_wp2_with fail
  all_goals go_ret
  all_goals exact ⟨rfl, HG3.out.1.1⟩
set_option maxRecDepth 100000 in
set_option maxHeartbeats 40000000 in
theorem sets_live {now later T L T2 : Int} {w : World} (hv : Nu.Vars w) (hcok : (cSto k v fl e (-1)).Ok) (m1 : bits .and .i64 now 4294967295 + 1 = T) (m2 : IntKind.i64.wrap T = T) (m3 : bits .and .i64 later 4294967295 = L) (hr1 : apply ⟨[], 0, 0⟩ T (cSto k v fl e (-1)) 65536 = (⟨[stoX k v fl e T], 1, 0⟩, An.is 2 (stoX k v fl e T))) (hfit : Fit 1 65536 ⟨[stoX k v fl e T], 1, 0⟩) (m4 : T + L = T2) (m5 : IntKind.i64.wrap T2 = T2) (hr2 : apply ⟨[stoX k v fl e T], 1, 0⟩ T2 (cGet k) 65536 = (⟨[gotX (stoX k v fl e T) T2], 1, 0⟩, An.is 1 (gotX (stoX k v fl e T) T2))) (hlv : e = 0 ∨ (¬ e = 0 ∧ (e == 0) = false ∧ 0 < e ∧ e ≤ 2592000 ∧ ¬ 2592000 < e ∧ L < e ∧ decide (L < e) = true) ∨ (¬ e = 0 ∧ (e == 0) = false ∧ 0 < e ∧ 2592000 < e ∧ ¬ e ≤ 2592000 ∧ T2 < e ∧ decide (T2 < e) = true)) :
    Calls Tryd.prog 4 #[.string k, .int .u32 fl, .string v, .int .i64 e, .int .i64 now, .int .i64 later] w fun e w' => e = .returned (.bool true) ∧ Below w.heap.size w w' := by
  have HV := hid hv
  have m1' : 1 + bits .and .i64 now 4294967295 = T := by omega
  clear hv m1
  have HB := hid (Bxr.begin w)
  go_enter Tryd.func4, Tryd.ntmps4
  go_wp2_with fail
  refine (shown_any w HV.out).mono ?_
  rintro e0 w1 ⟨rfl, hb1⟩
  have HB1 : Hid (Bxr w [] [] w1) := hid (HB.out.step hb1)
  clear hb1 HB
  go_upto_region 4 with fail
  refine wp_region_list ?_
  refine wpList_val (v := .string k) (w' := w1) rfl (by kernel_rfl) ?_
  refine wpList_val (v := .int .u32 fl) (w' := w1) rfl (by kernel_rfl) ?_
  refine wpList_val (v := .string v) (w' := w1) rfl (by kernel_rfl) ?_
  refine wpList_val (v := .int .i64 e) (w' := w1) rfl (by kernel_rfl) ?_
  refine wpList_val (v := (cSto k v fl e (-1)).v) (w' := w1) rfl (by kernel_rfl) ?_
  refine newT (cs := [.int .i64 2, .int .i64 0, .string k, .string v, .int .u32 fl, .int .i64 e, .bool false, .int .u64 0, .bool false, .int .u64 0, .int .u64 0, .bool false, .bool false, .int .i64 0, .int .i64 (-1), .bool false]) HB1.out rfl rfl rfl rfl rfl rfl (by kernel_rfl) rfl ⟨168, by kernel_rfl, by decide⟩ rfl rfl (fun P1 G1 hg1 => ?_)
  have HG1 : Hid (Bxr w [(P1, 28, [.int .i64 2, .int .i64 0, .string k, .string v, .int .u32 fl, .int .i64 e, .bool false, .int .u64 0, .bool false, .int .u64 0, .int .u64 0, .bool false, .bool false, .int .i64 0, .int .i64 (-1), .bool false])] [] G1) := hid hg1
  clear hg1 HB1
  go_simp
  go_upto_region 5 with fail
  refine wp_region_list ?_
  refine wpList_val (v := .agg #[.slice none 0 0, .int .u64 0, .int .i64 0]) (w' := G1) rfl (by kernel_rfl) ?_
  refine wpList_val (v := .int .i64 T) (w' := G1) rfl (by kernel_rfl) ?_
  refine loadC (cs := [.int .i64 2, .int .i64 0, .string k, .string v, .int .u32 fl, .int .i64 e, .bool false, .int .u64 0, .bool false, .int .u64 0, .int .u64 0, .bool false, .bool false, .int .i64 0, .int .i64 (-1), .bool false]) rfl rfl rfl (HG1.out.1.get 0 rfl) rfl ?_
  refine app2 (s := ⟨[], 0, 0⟩) (now := T) (c := cSto k v fl e (-1)) (most := 65536) HG1.out (its_none _) (fit_no 0 65536) (by decide) (by decide) hcok HV.out hr1 rfl rfl rfl rfl rfl rfl rfl rfl rfl rfl (by decide) ⟨168, by kernel_rfl, by decide, by decide, by decide, by decide, by decide, by decide⟩ (by kernel_rfl) (by kernel_rfl) (by kernel_rfl) (fun P2 ax2 nx2 cx2 G2 hg2 => ?_)
  have HG2 : Hid (Bxr w [(P2 + 1, 35, [.int .i64 2, .string k, .int .u32 fl, .string v, .int .i64 (moment T e), .int .u64 1, .int .i64 0, .bool false, .bool false, .int .u64 0, .bool false, .bool false, .bool false]), (P2, 25, [.slice ax2 nx2 cx2, .int .u64 ((⟨[stoX k v fl e T], 1, 0⟩ : Ms)).cas, .int .i64 ((⟨[stoX k v fl e T], 1, 0⟩ : Ms)).fl]), (P1, 28, [.int .i64 2, .int .i64 0, .string k, .string v, .int .u32 fl, .int .i64 e, .bool false, .int .u64 0, .bool false, .int .u64 0, .int .u64 0, .bool false, .bool false, .int .i64 0, .int .i64 (-1), .bool false])] [(.slice ax2 nx2 cx2, ((⟨[stoX k v fl e T], 1, 0⟩ : Ms)).its)] G2) := hid hg2
  clear hg2 HG1
  go_simp
  have a0 := (HG2.out.1.get 0 rfl).cell (i := 0) rfl
  go_upto_region 8 with fail
  refine wp_region_E (fun W => Blk W (P2) 25 (stv (.slice ax2 nx2 cx2) (⟨[stoX k v fl e T], 1, 0⟩ : Ms))) 13 (by kernel_rfl) ?_
  have HA3 : Hid (Bxr w [(P2 + 1, 35, [.int .i64 2, .string k, .int .u32 fl, .string v, .int .i64 (moment T e), .int .u64 1, .int .i64 0, .bool false, .bool false, .int .u64 0, .bool false, .bool false, .bool false]), (P2, 25, [.slice ax2 nx2 cx2, .int .u64 ((⟨[stoX k v fl e T], 1, 0⟩ : Ms)).cas, .int .i64 ((⟨[stoX k v fl e T], 1, 0⟩ : Ms)).fl]), (P1, 28, [.int .i64 2, .int .i64 0, .string k, .string v, .int .u32 fl, .int .i64 e, .bool false, .int .u64 0, .bool false, .int .u64 0, .int .u64 0, .bool false, .bool false, .int .i64 0, .int .i64 (-1), .bool false])] [(.slice ax2 nx2 cx2, ((⟨[stoX k v fl e T], 1, 0⟩ : Ms)).its)] G2.drew) := hid (HG2.out.step (below_d G2))
  clear HG2
  generalize G2.drew = A3 at *
  have hS : Blk A3 (P2) 25 (stv (.slice ax2 nx2 cx2) (⟨[stoX k v fl e T], 1, 0⟩ : Ms)) := HA3.out.1.get 1 rfl
  refine wpAnyE_take (i := 0) (v := .agg #[.slice ax2 nx2 cx2, .int .u64 1, .int .i64 0]) rfl (by kernel_rfl) (by kernel_rfl) (by kernel_rfl) (fun _ _ _ h => h) (by kernel_rfl) (by kernel_rfl) hS (Or.inl ⟨by rfl, ?_⟩) ?_
  · intro w' hw'
    have u0 := hw'.cell (i := 0) (v := .slice ax2 nx2 cx2) rfl
    have u1 := hw'.cell (i := 1) (v := .int .u64 ((⟨[stoX k v fl e T], 1, 0⟩ : Ms)).cas) rfl
    have u2 := hw'.cell (i := 2) (v := .int .i64 ((⟨[stoX k v fl e T], 1, 0⟩ : Ms)).fl) rfl
    go_simp
  refine wpAnyE_take (i := 1) (v := .int .i64 T) rfl (by kernel_rfl) (by kernel_rfl) (by kernel_rfl) (fun _ _ _ h => h) (by kernel_rfl) (by kernel_rfl) hS (Or.inl ⟨by rfl, ?_⟩) ?_
  · intro w' hw'
    go_simp
  refine wpAnyE_take (i := 2) (v := .int .i64 L) rfl (by kernel_rfl) (by kernel_rfl) (by kernel_rfl) (fun _ _ _ h => h) (by kernel_rfl) (by kernel_rfl) hS (Or.inl ⟨by rfl, ?_⟩) ?_
  · intro w' hw'
    go_simp
  refine wpAnyE_take (i := 3) (v := .int .i64 T2) rfl (by kernel_rfl) (by kernel_rfl) (by kernel_rfl) (fun _ _ _ h => h) (by kernel_rfl) (by kernel_rfl) hS (Or.inl ⟨by rfl, ?_⟩) ?_
  · intro w' hw'
    go_simp
  refine wpAnyE_take (i := 4) (v := .string k) rfl (by kernel_rfl) (by kernel_rfl) (by kernel_rfl) (fun _ _ _ h => h) (by kernel_rfl) (by kernel_rfl) hS (Or.inl ⟨by rfl, ?_⟩) ?_
  · intro w' hw'
    go_simp
  clear hS
  refine get2 (k := k) (now := T2) (most := 65536) _ _ 5 6 7 8 9 10 11 12 13 HA3.out (List.mem_of_getElem? (i := 1) rfl) (List.mem_of_getElem? (i := 0) rfl) hfit (by decide) (by decide) HV.out hr2 rfl rfl rfl rfl rfl rfl rfl rfl rfl rfl rfl rfl rfl rfl rfl rfl rfl (by kernel_rfl) (by decide) rfl ⟨168, by kernel_rfl, by decide, by decide, by decide, by decide, by decide, by decide, by decide⟩ rfl rfl rfl rfl rfl rfl rfl (fun _ _ _ _ _ h => h) (by kernel_rfl) (by kernel_rfl) (by kernel_rfl) (fun P3 Q3 ax3 nx3 cx3 G3 hg3 => ?_)
  have HG3 : Hid (Bxr w [(Q3, 35, [.int .i64 1, .string k, .int .u32 fl, .string v, .int .i64 (moment T e), .int .u64 1, .int .i64 T2, .bool false, .bool false, .int .u64 0, .bool false, .bool false, .bool false]), (P3, 25, [.slice ax3 nx3 cx3, .int .u64 ((⟨[gotX (stoX k v fl e T) T2], 1, 0⟩ : Ms)).cas, .int .i64 ((⟨[gotX (stoX k v fl e T) T2], 1, 0⟩ : Ms)).fl]), (P2 + 1, 35, [.int .i64 2, .string k, .int .u32 fl, .string v, .int .i64 (moment T e), .int .u64 1, .int .i64 0, .bool false, .bool false, .int .u64 0, .bool false, .bool false, .bool false]), (P2, 25, [.slice ax2 nx2 cx2, .int .u64 ((⟨[stoX k v fl e T], 1, 0⟩ : Ms)).cas, .int .i64 ((⟨[stoX k v fl e T], 1, 0⟩ : Ms)).fl]), (P1, 28, [.int .i64 2, .int .i64 0, .string k, .string v, .int .u32 fl, .int .i64 e, .bool false, .int .u64 0, .bool false, .int .u64 0, .int .u64 0, .bool false, .bool false, .int .i64 0, .int .i64 (-1), .bool false])] [(.slice ax3 nx3 cx3, ((⟨[gotX (stoX k v fl e T) T2], 1, 0⟩ : Ms)).its), (.slice ax2 nx2 cx2, ((⟨[stoX k v fl e T], 1, 0⟩ : Ms)).its)] G3) := hid hg3
  clear hg3 HA3
  go_simp
  have hn1 := its_len (HG3.out.its 0 rfl)
  change nx3 = 1 at hn1
  subst hn1
  have t0 := (HG3.out.1.get 1 rfl).cell (i := 0) rfl
  have b0 := (HG3.out.1.get 0 rfl).cell (i := 0) rfl
  have b1 := (HG3.out.1.get 0 rfl).cell (i := 1) rfl
  have b2 := (HG3.out.1.get 0 rfl).cell (i := 2) rfl
  have b3 := (HG3.out.1.get 0 rfl).cell (i := 3) rfl
  have b4 := (HG3.out.1.get 0 rfl).cell (i := 4) rfl
  have b5 := (HG3.out.1.get 0 rfl).cell (i := 5) rfl
  have b6 := (HG3.out.1.get 0 rfl).cell (i := 6) rfl
  have b7 := (HG3.out.1.get 0 rfl).cell (i := 7) rfl
  have b8 := (HG3.out.1.get 0 rfl).cell (i := 8) rfl
  have b9 := (HG3.out.1.get 0 rfl).cell (i := 9) rfl
  have b10 := (HG3.out.1.get 0 rfl).cell (i := 10) rfl
  have b11 := (HG3.out.1.get 0 rfl).cell (i := 11) rfl
  have b12 := (HG3.out.1.get 0 rfl).cell (i := 12) rfl
  have y5 := (HG3.out.1.get 2 rfl).cell (i := 5) rfl
  rcases hlv with hl | hl | hl
  all_goals go_wp2_with fail
  all_goals go_ret
  all_goals exact ⟨rfl, HG3.out.1.1⟩
end
end Go.Proofs.YtkaaebjifkbclaaDoor.Md
