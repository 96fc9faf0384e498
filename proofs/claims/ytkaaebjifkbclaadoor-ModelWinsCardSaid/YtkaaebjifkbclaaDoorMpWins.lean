/-
  The law ModelWins: of those who get a stale item one wins. Conditions: numbers are in their types' ranges; the library's variables are as they begin.
-/
import Derived.Test.YtkaaebjifkbclaaDoorMpApp
import Derived.Test.YtkaaebjifkbclaaDoorMpWinsMath
namespace Go.Proofs.YtkaaebjifkbclaaDoor.Md
open Go Go.RowKit Go.Lib
theorem Bxr.drop1 {w0 w : World} {x : Nat × TypeId × List Value} {bs : List (Nat × TypeId × List Value)} {rs : List (Value × List It)} (h : Bxr w0 (x :: bs) rs w) : Bxr w0 bs rs w :=
  ⟨⟨h.1.1, fun b hb => h.1.2.1 b (List.mem_cons_of_mem _ hb), (List.pairwise_cons.1 h.1.2.2).2⟩, fun r hr => by
    obtain ⟨G, h1, h2⟩ := h.2 r hr
    exact ⟨G, h1, fun b hb => ⟨fun y hy => (h2 b hb).1 y (List.mem_cons_of_mem _ hy), (h2 b hb).2⟩⟩⟩
theorem Bxr.keep1 {w0 w : World} {x y : Nat × TypeId × List Value} {bs : List (Nat × TypeId × List Value)} {rs : List (Value × List It)} (h : Bxr w0 (x :: y :: bs) rs w) : Bxr w0 (y :: bs) rs w := h.drop1
section
variable {k v : ByteArray}
set_option maxRecDepth 100000 in
set_option maxHeartbeats 40000000 in
theorem wins_no {times : Int} {w : World} (hv : Nu.Vars w) (hcok : (cSto k v 0 0 (-1)).Ok) (hr1 : apply ⟨[], 0, 0⟩ 5 (cSto k v 0 0 (-1)) 65536 = (⟨[], 0, 0⟩, An.of 0)) :
    Calls Tryd.prog 7 #[.string k, .string v, .int .i64 times] w fun e w' => e = .returned (.bool true) ∧ Below w.heap.size w w' := by
  have HV := hid hv
  clear hv
  have HB := hid (Bxr.begin w)
  go_enter Tryd.func7, Tryd.ntmps7
  go_wp2_with fail
  refine (shown_any w HV.out).mono ?_
  rintro e0 w1 ⟨rfl, hb1⟩
  have HB1 : Hid (Bxr w [] [] w1) := hid (HB.out.step hb1)
  clear hb1 HB
  go_upto_region 2 with fail
  refine wp_region_list ?_
  refine wpList_val (v := .agg #[.slice none 0 0, .int .u64 0, .int .i64 0]) (w' := w1) rfl (by kernel_rfl) ?_
  refine wpList_val (v := .string k) (w' := w1) rfl (by kernel_rfl) ?_
  refine wpList_val (v := .string v) (w' := w1) rfl (by kernel_rfl) ?_
  refine wpList_val (v := (cSto k v 0 0 (-1)).v) (w' := w1) rfl (by kernel_rfl) ?_
  refine app2 (s := ⟨[], 0, 0⟩) (now := 5) (c := cSto k v 0 0 (-1)) (most := 65536) HB1.out (its_none _) (fit_no 0 65536) (by decide) (by decide) hcok HV.out hr1 rfl rfl rfl rfl rfl rfl rfl rfl rfl rfl (by decide) ⟨124, by kernel_rfl, by decide, by decide, by decide, by decide, by decide, by decide⟩ (by kernel_rfl) (by kernel_rfl) (by kernel_rfl) (fun P1 ax1 nx1 cx1 G1 hg1 => ?_)
  have HG1 : Hid (Bxr w [(P1 + 1, 35, [.int .i64 0, .string ⟨#[]⟩, .int .u32 0, .string ⟨#[]⟩, .int .i64 0, .int .u64 0, .int .i64 0, .bool false, .bool false, .int .u64 0, .bool false, .bool false, .bool false]), (P1, 25, [.slice ax1 nx1 cx1, .int .u64 ((⟨[], 0, 0⟩ : Ms)).cas, .int .i64 ((⟨[], 0, 0⟩ : Ms)).fl])] [(.slice ax1 nx1 cx1, ((⟨[], 0, 0⟩ : Ms)).its)] G1) := hid hg1
  clear hg1 HB1
  go_simp
  have a0 := (HG1.out.1.get 0 rfl).cell (i := 0) rfl
  go_wp2_with fail
  go_ret
  exact ⟨rfl, HG1.out.1.1⟩
set_option maxRecDepth 100000 in
set_option maxHeartbeats 40000000 in
theorem wins_large {times : Int} {w : World} (hv : Nu.Vars w) (hcok : (cSto k v 0 0 (-1)).Ok) (hr1 : apply ⟨[], 0, 0⟩ 5 (cSto k v 0 0 (-1)) 65536 = (⟨[], 0, 0⟩, An.of 11)) :
    Calls Tryd.prog 7 #[.string k, .string v, .int .i64 times] w fun e w' => e = .returned (.bool true) ∧ Below w.heap.size w w' := by
  have HV := hid hv
  clear hv
  have HB := hid (Bxr.begin w)
  go_enter Tryd.func7, Tryd.ntmps7
  go_wp2_with fail
  refine (shown_any w HV.out).mono ?_
  rintro e0 w1 ⟨rfl, hb1⟩
  have HB1 : Hid (Bxr w [] [] w1) := hid (HB.out.step hb1)
  clear hb1 HB
  go_upto_region 2 with fail
  refine wp_region_list ?_
  refine wpList_val (v := .agg #[.slice none 0 0, .int .u64 0, .int .i64 0]) (w' := w1) rfl (by kernel_rfl) ?_
  refine wpList_val (v := .string k) (w' := w1) rfl (by kernel_rfl) ?_
  refine wpList_val (v := .string v) (w' := w1) rfl (by kernel_rfl) ?_
  refine wpList_val (v := (cSto k v 0 0 (-1)).v) (w' := w1) rfl (by kernel_rfl) ?_
  refine app2 (s := ⟨[], 0, 0⟩) (now := 5) (c := cSto k v 0 0 (-1)) (most := 65536) HB1.out (its_none _) (fit_no 0 65536) (by decide) (by decide) hcok HV.out hr1 rfl rfl rfl rfl rfl rfl rfl rfl rfl rfl (by decide) ⟨124, by kernel_rfl, by decide, by decide, by decide, by decide, by decide, by decide⟩ (by kernel_rfl) (by kernel_rfl) (by kernel_rfl) (fun P1 ax1 nx1 cx1 G1 hg1 => ?_)
  have HG1 : Hid (Bxr w [(P1 + 1, 35, [.int .i64 11, .string ⟨#[]⟩, .int .u32 0, .string ⟨#[]⟩, .int .i64 0, .int .u64 0, .int .i64 0, .bool false, .bool false, .int .u64 0, .bool false, .bool false, .bool false]), (P1, 25, [.slice ax1 nx1 cx1, .int .u64 ((⟨[], 0, 0⟩ : Ms)).cas, .int .i64 ((⟨[], 0, 0⟩ : Ms)).fl])] [(.slice ax1 nx1 cx1, ((⟨[], 0, 0⟩ : Ms)).its)] G1) := hid hg1
  clear hg1 HB1
  go_simp
  have a0 := (HG1.out.1.get 0 rfl).cell (i := 0) rfl
  go_wp2_with fail
  go_ret
  exact ⟨rfl, HG1.out.1.1⟩
set_option maxRecDepth 100000 in
set_option maxHeartbeats 40000000 in
theorem wins_yes {times : Int} {w : World} (hv : Nu.Vars w) (hcok : (cSto k v 0 0 (-1)).Ok) {m : Nat} (hm : m ≤ 15) (m1 : bits .and .i64 times 15 = (m : Int)) (hdok : (cDel k).Ok) (hr1 : apply ⟨[], 0, 0⟩ 5 (cSto k v 0 0 (-1)) 65536 = (⟨[wnX k v 1 0 false false], 1, 0⟩, An.is 2 (wnX k v 1 0 false false))) (hf1 : Fit 1 65536 ⟨[wnX k v 1 0 false false], 1, 0⟩) (hf2 : Fit 2 65536 (⟨[wnX k v 2 0 true false], 2, 0⟩ : Ms)) (hf3 : Fit 3 65536 (⟨[wnX k v 2 6 true true], 2, 0⟩ : Ms)) (hf4 : Fit 4 65536 (⟨[wnX k v 3 0 false false], 3, 0⟩ : Ms)) (hr2 : apply ⟨[wnX k v 1 0 false false], 1, 0⟩ 5 (cDel k) 65536 = ((⟨[wnX k v 2 0 true false], 2, 0⟩ : Ms), An.is 9 (wnX k v 2 0 true false))) (hg0 : apply (⟨[wnX k v 2 0 true false], 2, 0⟩ : Ms) 6 (cGet k) 65536 = ((⟨[wnX k v 2 6 true true], 2, 0⟩ : Ms), ⟨1, wnX k v 2 6 true true, 0, true, true, false⟩)) (hg1 : apply (⟨[wnX k v 2 6 true true], 2, 0⟩ : Ms) 6 (cGet k) 65536 = ((⟨[wnX k v 2 6 true true], 2, 0⟩ : Ms), ⟨1, wnX k v 2 6 true true, 0, false, true, true⟩)) (hr3 : apply (⟨[wnX k v 2 6 true true], 2, 0⟩ : Ms) 7 (cSto k v 0 0 (-1)) 65536 = ((⟨[wnX k v 3 0 false false], 3, 0⟩ : Ms), An.is 2 (wnX k v 3 0 false false))) (hr4 : apply (⟨[wnX k v 3 0 false false], 3, 0⟩ : Ms) 8 (cGet k) 65536 = ((⟨[wnX k v 3 8 false false], 3, 0⟩ : Ms), An.is 1 (wnX k v 3 8 false false))) :
    Calls Tryd.prog 7 #[.string k, .string v, .int .i64 times] w fun e w' => e = .returned (.bool true) ∧ Below w.heap.size w w' := by
  have HV := hid hv
  clear hv
  have HB := hid (Bxr.begin w)
  go_enter Tryd.func7, Tryd.ntmps7
  go_wp2_with fail
  refine (shown_any w HV.out).mono ?_
  rintro e0 w1 ⟨rfl, hb1⟩
  have HB1 : Hid (Bxr w [] [] w1) := hid (HB.out.step hb1)
  clear hb1 HB
  go_upto_region 2 with fail
  refine wp_region_list ?_
  refine wpList_val (v := .agg #[.slice none 0 0, .int .u64 0, .int .i64 0]) (w' := w1) rfl (by kernel_rfl) ?_
  refine wpList_val (v := .string k) (w' := w1) rfl (by kernel_rfl) ?_
  refine wpList_val (v := .string v) (w' := w1) rfl (by kernel_rfl) ?_
  refine wpList_val (v := (cSto k v 0 0 (-1)).v) (w' := w1) rfl (by kernel_rfl) ?_
  refine app2 (s := ⟨[], 0, 0⟩) (now := 5) (c := cSto k v 0 0 (-1)) (most := 65536) HB1.out (its_none _) (fit_no 0 65536) (by decide) (by decide) hcok HV.out hr1 rfl rfl rfl rfl rfl rfl rfl rfl rfl rfl (by decide) ⟨124, by kernel_rfl, by decide, by decide, by decide, by decide, by decide, by decide⟩ (by kernel_rfl) (by kernel_rfl) (by kernel_rfl) (fun P1 ax1 nx1 cx1 G1 hg1 => ?_)
  have HG1 : Hid (Bxr w [(P1 + 1, 35, [.int .i64 2, .string k, .int .u32 0, .string v, .int .i64 0, .int .u64 1, .int .i64 0, .bool false, .bool false, .int .u64 0, .bool false, .bool false, .bool false]), (P1, 25, [.slice ax1 nx1 cx1, .int .u64 ((⟨[wnX k v 1 0 false false], 1, 0⟩ : Ms)).cas, .int .i64 ((⟨[wnX k v 1 0 false false], 1, 0⟩ : Ms)).fl])] [(.slice ax1 nx1 cx1, ((⟨[wnX k v 1 0 false false], 1, 0⟩ : Ms)).its)] G1) := hid hg1
  clear hg1 HB1
  go_simp
  have a0 := (HG1.out.1.get 0 rfl).cell (i := 0) rfl
  go_upto_region 5 with fail
  refine wp_region_list ?_
  refine loadS (cs := [.slice ax1 nx1 cx1, .int .u64 ((⟨[wnX k v 1 0 false false], 1, 0⟩ : Ms)).cas, .int .i64 ((⟨[wnX k v 1 0 false false], 1, 0⟩ : Ms)).fl]) rfl rfl rfl (HG1.out.1.get 1 rfl) rfl ?_
  refine wpList_val (v := .string k) (w' := G1) rfl (by kernel_rfl) ?_
  refine wpList_val (v := (cDel k).v) (w' := G1) rfl (by kernel_rfl) ?_
  refine app1 (s := (⟨[wnX k v 1 0 false false], 1, 0⟩ : Ms)) (now := 5) (c := cDel k) (most := 65536) HG1.out (HG1.out.its 0 rfl) hf1 (by decide) (by decide) hdok HV.out hr2 rfl rfl rfl rfl rfl rfl 1 (P1) 8 [.slice ax1 nx1 cx1, .int .u64 ((⟨[wnX k v 1 0 false false], 1, 0⟩ : Ms)).cas, .int .i64 ((⟨[wnX k v 1 0 false false], 1, 0⟩ : Ms)).fl] rfl rfl rfl rfl rfl rfl (by decide) ⟨124, by kernel_rfl, by decide, by decide, by decide, by decide, by decide⟩ (by kernel_rfl) (by kernel_rfl) (by kernel_rfl) (fun P2 ax2 nx2 cx2 G2 hg2 => ?_)
  have HG2 : Hid (Bxr w [(P2, 35, [.int .i64 9, .string k, .int .u32 0, .string v, .int .i64 0, .int .u64 2, .int .i64 0, .bool true, .bool false, .int .u64 0, .bool false, .bool false, .bool false]), (P1 + 1, 35, [.int .i64 2, .string k, .int .u32 0, .string v, .int .i64 0, .int .u64 1, .int .i64 0, .bool false, .bool false, .int .u64 0, .bool false, .bool false, .bool false]), (P1, 25, [.slice ax2 nx2 cx2, .int .u64 ((⟨[wnX k v 2 0 true false], 2, 0⟩ : Ms)).cas, .int .i64 ((⟨[wnX k v 2 0 true false], 2, 0⟩ : Ms)).fl])] [(.slice ax2 nx2 cx2, ((⟨[wnX k v 2 0 true false], 2, 0⟩ : Ms)).its), (.slice ax1 nx1 cx1, ((⟨[wnX k v 1 0 false false], 1, 0⟩ : Ms)).its)] G2) := hid hg2
  clear hg2 HG1
  go_simp
  have b0 := (HG2.out.1.get 0 rfl).cell (i := 0) rfl
  clear a0
  go_wp2_with fail
  clear b0
  go_loopw [11] (fun p wr => ∃ (i : Nat) (ax : Option Addr) (nx cx : Nat), p = .int .i64 i ∧ i ≤ m + 1 ∧ ((i = 0 ∧ Hid (Bxr w [(P1, 25, [.slice ax nx cx, .int .u64 ((⟨[wnX k v 2 0 true false], 2, 0⟩ : Ms)).cas, .int .i64 ((⟨[wnX k v 2 0 true false], 2, 0⟩ : Ms)).fl])] [(.slice ax nx cx, ((⟨[wnX k v 2 0 true false], 2, 0⟩ : Ms)).its)] wr)) ∨ (0 < i ∧ Hid (Bxr w [(P1, 25, [.slice ax nx cx, .int .u64 ((⟨[wnX k v 2 6 true true], 2, 0⟩ : Ms)).cas, .int .i64 ((⟨[wnX k v 2 6 true true], 2, 0⟩ : Ms)).fl])] [(.slice ax nx cx, ((⟨[wnX k v 2 6 true true], 2, 0⟩ : Ms)).its)] wr)))) (fun p _ => m + 1 - (RowKit.intOf p).toNat)
  case atStart =>
    refine ⟨0, ax2, nx2, cx2, rfl, Nat.zero_le _, .inl ⟨rfl, hid ?_⟩⟩
    exact (HG2.out.drop1.keep1).only (fun r hr => List.mem_of_mem_take (i := 1) hr)
  case round =>
    obtain ⟨i, ax, nx, cx, rfl, hi, hst⟩ := hrel
    clear HG2
    by_cases hlt : i ≤ m
    · have hle : decide ((i : Int) ≤ (m : Int)) = true := decide_eq_true (by omega)
      have hw : IntKind.i64.wrap ((i : Int) + 1) = ((i + 1 : Nat) : Int) := by rw [IntKind.wrap_i64]; omega
      rcases hst with ⟨rfl, hT⟩ | ⟨hpos, hT⟩
      · go_upto_region 11 with fail
        refine wp_region_E (fun W => Blk W (P1) 25 (stv (.slice ax nx cx) (⟨[wnX k v 2 0 true false], 2, 0⟩ : Ms))) 10 (by kernel_rfl) ?_
        have HA13 : Hid (Bxr w [(P1, 25, [.slice ax nx cx, .int .u64 ((⟨[wnX k v 2 0 true false], 2, 0⟩ : Ms)).cas, .int .i64 ((⟨[wnX k v 2 0 true false], 2, 0⟩ : Ms)).fl])] [(.slice ax nx cx, ((⟨[wnX k v 2 0 true false], 2, 0⟩ : Ms)).its)] wr.drew) := hid (hT.out.step (below_d wr))
        clear hT
        generalize wr.drew = A13 at *
        have hS : Blk A13 (P1) 25 (stv (.slice ax nx cx) (⟨[wnX k v 2 0 true false], 2, 0⟩ : Ms)) := HA13.out.1.get 0 rfl
        refine wpAnyE_take (i := 0) (v := .agg #[.slice ax nx cx, .int .u64 2, .int .i64 0]) rfl (by kernel_rfl) (by kernel_rfl) (by kernel_rfl) (fun _ _ _ h => h) (by kernel_rfl) (by kernel_rfl) hS (Or.inl ⟨by rfl, ?_⟩) ?_
        · intro w' hw'
          have u0 := hw'.cell (i := 0) (v := .slice ax nx cx) rfl
          have u1 := hw'.cell (i := 1) (v := .int .u64 ((⟨[wnX k v 2 0 true false], 2, 0⟩ : Ms)).cas) rfl
          have u2 := hw'.cell (i := 2) (v := .int .i64 ((⟨[wnX k v 2 0 true false], 2, 0⟩ : Ms)).fl) rfl
          go_simp
        refine wpAnyE_take (i := 1) (v := .string k) rfl (by kernel_rfl) (by kernel_rfl) (by kernel_rfl) (fun _ _ _ h => h) (by kernel_rfl) (by kernel_rfl) hS (Or.inl ⟨by rfl, ?_⟩) ?_
        · intro w' hw'
          go_simp
        clear hS
        refine get2 (k := k) (now := 6) (most := 65536) _ _ 2 3 4 5 6 7 8 9 10 HA13.out (List.mem_of_getElem? (i := 0) rfl) (List.mem_of_getElem? (i := 0) rfl) hf2 (by decide) (by decide) HV.out hg0 rfl rfl rfl rfl rfl rfl rfl rfl rfl rfl rfl rfl rfl rfl rfl rfl rfl (by kernel_rfl) (by decide) rfl ⟨124, by kernel_rfl, by decide, by decide, by decide, by decide, by decide, by decide, by decide⟩ rfl rfl rfl rfl rfl rfl rfl (fun _ _ _ _ _ h => h) (by kernel_rfl) (by kernel_rfl) (by kernel_rfl) (fun P13 Q13 ax13 nx13 cx13 G13 hg13 => ?_)
        have HG13 : Hid (Bxr w [(Q13, 35, [.int .i64 1, .string k, .int .u32 0, .string v, .int .i64 0, .int .u64 2, .int .i64 6, .bool true, .bool true, .int .u64 0, .bool true, .bool true, .bool false]), (P13, 25, [.slice ax13 nx13 cx13, .int .u64 ((⟨[wnX k v 2 6 true true], 2, 0⟩ : Ms)).cas, .int .i64 ((⟨[wnX k v 2 6 true true], 2, 0⟩ : Ms)).fl]), (P1, 25, [.slice ax nx cx, .int .u64 ((⟨[wnX k v 2 0 true false], 2, 0⟩ : Ms)).cas, .int .i64 ((⟨[wnX k v 2 0 true false], 2, 0⟩ : Ms)).fl])] [(.slice ax13 nx13 cx13, ((⟨[wnX k v 2 6 true true], 2, 0⟩ : Ms)).its), (.slice ax nx cx, ((⟨[wnX k v 2 0 true false], 2, 0⟩ : Ms)).its)] G13) := hid hg13
        clear hg13 HA13
        go_simp
        have c0 := (HG13.out.1.get 0 rfl).cell (i := 0) rfl
        have c3 := (HG13.out.1.get 0 rfl).cell (i := 3) rfl
        have c10 := (HG13.out.1.get 0 rfl).cell (i := 10) rfl
        have c11 := (HG13.out.1.get 0 rfl).cell (i := 11) rfl
        have c12 := (HG13.out.1.get 0 rfl).cell (i := 12) rfl
        go_upto_region 14 with fail
        clear c0 c3 c10 c11 c12
        refine wp_region_list ?_
        refine loadS (cs := [.slice ax13 nx13 cx13, .int .u64 ((⟨[wnX k v 2 6 true true], 2, 0⟩ : Ms)).cas, .int .i64 ((⟨[wnX k v 2 6 true true], 2, 0⟩ : Ms)).fl]) rfl rfl rfl (HG13.out.1.get 1 rfl) rfl ?_
        refine wpList_stor (b := P1) (cs := [.slice ax13 nx13 cx13, .int .u64 ((⟨[wnX k v 2 6 true true], 2, 0⟩ : Ms)).cas, .int .i64 ((⟨[wnX k v 2 6 true true], 2, 0⟩ : Ms)).fl]) rfl rfl rfl rfl rfl (HG13.out.1.get 2 rfl) rfl (by kernel_rfl) rfl ?_
        have HZ := hid (HG13.out.setc 2 (vs := [.slice ax13 nx13 cx13, .int .u64 ((⟨[wnX k v 2 6 true true], 2, 0⟩ : Ms)).cas, .int .i64 ((⟨[wnX k v 2 6 true true], 2, 0⟩ : Ms)).fl]) rfl rfl)
        clear HG13
        refine wpList_nil ?_
        go_simp
        go_wp2_with fail
        go_roundw
        case measure => simp [RowKit.intOf] <;> omega
        case rel => exact ⟨1, ax13, nx13, cx13, by first | rfl | go_num, by omega, .inr ⟨by omega, hid (HZ.out.drop1.drop1.only (fun r hr => List.mem_of_mem_take (i := 1) hr))⟩⟩
      · have hb0 : ((i : Int) == 0) = false := beq_eq_false_iff_ne.2 (by omega)
        have hb1 : decide ((0 : Int) < (i : Int)) = true := decide_eq_true (by omega)
        go_upto_region 11 with fail
        refine wp_region_E (fun W => Blk W (P1) 25 (stv (.slice ax nx cx) (⟨[wnX k v 2 6 true true], 2, 0⟩ : Ms))) 10 (by kernel_rfl) ?_
        have HA23 : Hid (Bxr w [(P1, 25, [.slice ax nx cx, .int .u64 ((⟨[wnX k v 2 6 true true], 2, 0⟩ : Ms)).cas, .int .i64 ((⟨[wnX k v 2 6 true true], 2, 0⟩ : Ms)).fl])] [(.slice ax nx cx, ((⟨[wnX k v 2 6 true true], 2, 0⟩ : Ms)).its)] wr.drew) := hid (hT.out.step (below_d wr))
        clear hT
        generalize wr.drew = A23 at *
        have hS : Blk A23 (P1) 25 (stv (.slice ax nx cx) (⟨[wnX k v 2 6 true true], 2, 0⟩ : Ms)) := HA23.out.1.get 0 rfl
        refine wpAnyE_take (i := 0) (v := .agg #[.slice ax nx cx, .int .u64 2, .int .i64 0]) rfl (by kernel_rfl) (by kernel_rfl) (by kernel_rfl) (fun _ _ _ h => h) (by kernel_rfl) (by kernel_rfl) hS (Or.inl ⟨by rfl, ?_⟩) ?_
        · intro w' hw'
          have u0 := hw'.cell (i := 0) (v := .slice ax nx cx) rfl
          have u1 := hw'.cell (i := 1) (v := .int .u64 ((⟨[wnX k v 2 6 true true], 2, 0⟩ : Ms)).cas) rfl
          have u2 := hw'.cell (i := 2) (v := .int .i64 ((⟨[wnX k v 2 6 true true], 2, 0⟩ : Ms)).fl) rfl
          go_simp
        refine wpAnyE_take (i := 1) (v := .string k) rfl (by kernel_rfl) (by kernel_rfl) (by kernel_rfl) (fun _ _ _ h => h) (by kernel_rfl) (by kernel_rfl) hS (Or.inl ⟨by rfl, ?_⟩) ?_
        · intro w' hw'
          go_simp
        clear hS
        refine get2 (k := k) (now := 6) (most := 65536) _ _ 2 3 4 5 6 7 8 9 10 HA23.out (List.mem_of_getElem? (i := 0) rfl) (List.mem_of_getElem? (i := 0) rfl) hf3 (by decide) (by decide) HV.out hg1 rfl rfl rfl rfl rfl rfl rfl rfl rfl rfl rfl rfl rfl rfl rfl rfl rfl (by kernel_rfl) (by decide) rfl ⟨124, by kernel_rfl, by decide, by decide, by decide, by decide, by decide, by decide, by decide⟩ rfl rfl rfl rfl rfl rfl rfl (fun _ _ _ _ _ h => h) (by kernel_rfl) (by kernel_rfl) (by kernel_rfl) (fun P23 Q23 ax23 nx23 cx23 G23 hg23 => ?_)
        have HG23 : Hid (Bxr w [(Q23, 35, [.int .i64 1, .string k, .int .u32 0, .string v, .int .i64 0, .int .u64 2, .int .i64 6, .bool true, .bool true, .int .u64 0, .bool false, .bool true, .bool true]), (P23, 25, [.slice ax23 nx23 cx23, .int .u64 ((⟨[wnX k v 2 6 true true], 2, 0⟩ : Ms)).cas, .int .i64 ((⟨[wnX k v 2 6 true true], 2, 0⟩ : Ms)).fl]), (P1, 25, [.slice ax nx cx, .int .u64 ((⟨[wnX k v 2 6 true true], 2, 0⟩ : Ms)).cas, .int .i64 ((⟨[wnX k v 2 6 true true], 2, 0⟩ : Ms)).fl])] [(.slice ax23 nx23 cx23, ((⟨[wnX k v 2 6 true true], 2, 0⟩ : Ms)).its), (.slice ax nx cx, ((⟨[wnX k v 2 6 true true], 2, 0⟩ : Ms)).its)] G23) := hid hg23
        clear hg23 HA23
        go_simp
        have c0 := (HG23.out.1.get 0 rfl).cell (i := 0) rfl
        have c3 := (HG23.out.1.get 0 rfl).cell (i := 3) rfl
        have c10 := (HG23.out.1.get 0 rfl).cell (i := 10) rfl
        have c11 := (HG23.out.1.get 0 rfl).cell (i := 11) rfl
        have c12 := (HG23.out.1.get 0 rfl).cell (i := 12) rfl
        go_upto_region 14 with fail
        clear c0 c3 c10 c11 c12
        refine wp_region_list ?_
        refine loadS (cs := [.slice ax23 nx23 cx23, .int .u64 ((⟨[wnX k v 2 6 true true], 2, 0⟩ : Ms)).cas, .int .i64 ((⟨[wnX k v 2 6 true true], 2, 0⟩ : Ms)).fl]) rfl rfl rfl (HG23.out.1.get 1 rfl) rfl ?_
        refine wpList_stor (b := P1) (cs := [.slice ax23 nx23 cx23, .int .u64 ((⟨[wnX k v 2 6 true true], 2, 0⟩ : Ms)).cas, .int .i64 ((⟨[wnX k v 2 6 true true], 2, 0⟩ : Ms)).fl]) rfl rfl rfl rfl rfl (HG23.out.1.get 2 rfl) rfl (by kernel_rfl) rfl ?_
        have HZ := hid (HG23.out.setc 2 (vs := [.slice ax23 nx23 cx23, .int .u64 ((⟨[wnX k v 2 6 true true], 2, 0⟩ : Ms)).cas, .int .i64 ((⟨[wnX k v 2 6 true true], 2, 0⟩ : Ms)).fl]) rfl rfl)
        clear HG23
        refine wpList_nil ?_
        go_simp
        go_wp2_with fail
        go_roundw
        case measure => simp [RowKit.intOf] <;> omega
        case rel => exact ⟨i + 1, ax23, nx23, cx23, by first | rfl | go_num, by omega, .inr ⟨by omega, hid (HZ.out.drop1.drop1.only (fun r hr => List.mem_of_mem_take (i := 1) hr))⟩⟩
    · have hgt : decide ((i : Int) ≤ (m : Int)) = false := decide_eq_false (by omega)
      rcases hst with ⟨h0, _⟩ | ⟨_, hT⟩
      · omega
      go_upto_region 15 with fail
      refine wp_region_list ?_
      refine loadS (cs := [.slice ax nx cx, .int .u64 ((⟨[wnX k v 2 6 true true], 2, 0⟩ : Ms)).cas, .int .i64 ((⟨[wnX k v 2 6 true true], 2, 0⟩ : Ms)).fl]) rfl rfl rfl (hT.out.1.get 0 rfl) rfl ?_
      refine wpList_val (v := .string k) (w' := wr) rfl (by kernel_rfl) ?_
      refine wpList_val (v := .string v) (w' := wr) rfl (by kernel_rfl) ?_
      refine wpList_val (v := (cSto k v 0 0 (-1)).v) (w' := wr) rfl (by kernel_rfl) ?_
      refine app1 (s := (⟨[wnX k v 2 6 true true], 2, 0⟩ : Ms)) (now := 7) (c := cSto k v 0 0 (-1)) (most := 65536) hT.out (hT.out.its 0 rfl) hf3 (by decide) (by decide) hcok HV.out hr3 rfl rfl rfl rfl rfl rfl 0 (P1) 8 [.slice ax nx cx, .int .u64 ((⟨[wnX k v 2 6 true true], 2, 0⟩ : Ms)).cas, .int .i64 ((⟨[wnX k v 2 6 true true], 2, 0⟩ : Ms)).fl] rfl rfl rfl rfl rfl rfl (by decide) ⟨124, by kernel_rfl, by decide, by decide, by decide, by decide, by decide⟩ (by kernel_rfl) (by kernel_rfl) (by kernel_rfl) (fun P33 ax33 nx33 cx33 G33 hg33 => ?_)
      have HG33 : Hid (Bxr w [(P33, 35, [.int .i64 2, .string k, .int .u32 0, .string v, .int .i64 0, .int .u64 3, .int .i64 0, .bool false, .bool false, .int .u64 0, .bool false, .bool false, .bool false]), (P1, 25, [.slice ax33 nx33 cx33, .int .u64 ((⟨[wnX k v 3 0 false false], 3, 0⟩ : Ms)).cas, .int .i64 ((⟨[wnX k v 3 0 false false], 3, 0⟩ : Ms)).fl])] [(.slice ax33 nx33 cx33, ((⟨[wnX k v 3 0 false false], 3, 0⟩ : Ms)).its), (.slice ax nx cx, ((⟨[wnX k v 2 6 true true], 2, 0⟩ : Ms)).its)] G33) := hid hg33
      clear hg33 hT
      go_simp
      go_upto_region 16 with fail
      refine wp_region_E (fun W => Blk W (P1) 25 (stv (.slice ax33 nx33 cx33) (⟨[wnX k v 3 0 false false], 3, 0⟩ : Ms))) 10 (by kernel_rfl) ?_
      have HA34 : Hid (Bxr w [(P33, 35, [.int .i64 2, .string k, .int .u32 0, .string v, .int .i64 0, .int .u64 3, .int .i64 0, .bool false, .bool false, .int .u64 0, .bool false, .bool false, .bool false]), (P1, 25, [.slice ax33 nx33 cx33, .int .u64 ((⟨[wnX k v 3 0 false false], 3, 0⟩ : Ms)).cas, .int .i64 ((⟨[wnX k v 3 0 false false], 3, 0⟩ : Ms)).fl])] [(.slice ax33 nx33 cx33, ((⟨[wnX k v 3 0 false false], 3, 0⟩ : Ms)).its), (.slice ax nx cx, ((⟨[wnX k v 2 6 true true], 2, 0⟩ : Ms)).its)] G33.drew) := hid (HG33.out.step (below_d G33))
      clear HG33
      generalize G33.drew = A34 at *
      have hS : Blk A34 (P1) 25 (stv (.slice ax33 nx33 cx33) (⟨[wnX k v 3 0 false false], 3, 0⟩ : Ms)) := HA34.out.1.get 1 rfl
      refine wpAnyE_take (i := 0) (v := .agg #[.slice ax33 nx33 cx33, .int .u64 3, .int .i64 0]) rfl (by kernel_rfl) (by kernel_rfl) (by kernel_rfl) (fun _ _ _ h => h) (by kernel_rfl) (by kernel_rfl) hS (Or.inl ⟨by rfl, ?_⟩) ?_
      · intro w' hw'
        have u0 := hw'.cell (i := 0) (v := .slice ax33 nx33 cx33) rfl
        have u1 := hw'.cell (i := 1) (v := .int .u64 ((⟨[wnX k v 3 0 false false], 3, 0⟩ : Ms)).cas) rfl
        have u2 := hw'.cell (i := 2) (v := .int .i64 ((⟨[wnX k v 3 0 false false], 3, 0⟩ : Ms)).fl) rfl
        go_simp
      refine wpAnyE_take (i := 1) (v := .string k) rfl (by kernel_rfl) (by kernel_rfl) (by kernel_rfl) (fun _ _ _ h => h) (by kernel_rfl) (by kernel_rfl) hS (Or.inl ⟨by rfl, ?_⟩) ?_
      · intro w' hw'
        go_simp
      clear hS
      refine get2 (k := k) (now := 8) (most := 65536) _ _ 2 3 4 5 6 7 8 9 10 HA34.out (List.mem_of_getElem? (i := 1) rfl) (List.mem_of_getElem? (i := 0) rfl) hf4 (by decide) (by decide) HV.out hr4 rfl rfl rfl rfl rfl rfl rfl rfl rfl rfl rfl rfl rfl rfl rfl rfl rfl (by kernel_rfl) (by decide) rfl ⟨124, by kernel_rfl, by decide, by decide, by decide, by decide, by decide, by decide, by decide⟩ rfl rfl rfl rfl rfl rfl rfl (fun _ _ _ _ _ h => h) (by kernel_rfl) (by kernel_rfl) (by kernel_rfl) (fun P34 Q34 ax34 nx34 cx34 G34 hg34 => ?_)
      have HG34 : Hid (Bxr w [(Q34, 35, [.int .i64 1, .string k, .int .u32 0, .string v, .int .i64 0, .int .u64 3, .int .i64 8, .bool false, .bool false, .int .u64 0, .bool false, .bool false, .bool false]), (P34, 25, [.slice ax34 nx34 cx34, .int .u64 ((⟨[wnX k v 3 8 false false], 3, 0⟩ : Ms)).cas, .int .i64 ((⟨[wnX k v 3 8 false false], 3, 0⟩ : Ms)).fl]), (P33, 35, [.int .i64 2, .string k, .int .u32 0, .string v, .int .i64 0, .int .u64 3, .int .i64 0, .bool false, .bool false, .int .u64 0, .bool false, .bool false, .bool false]), (P1, 25, [.slice ax33 nx33 cx33, .int .u64 ((⟨[wnX k v 3 0 false false], 3, 0⟩ : Ms)).cas, .int .i64 ((⟨[wnX k v 3 0 false false], 3, 0⟩ : Ms)).fl])] [(.slice ax34 nx34 cx34, ((⟨[wnX k v 3 8 false false], 3, 0⟩ : Ms)).its), (.slice ax33 nx33 cx33, ((⟨[wnX k v 3 0 false false], 3, 0⟩ : Ms)).its), (.slice ax nx cx, ((⟨[wnX k v 2 6 true true], 2, 0⟩ : Ms)).its)] G34) := hid hg34
      clear hg34 HA34
      go_simp
      have d0 := (HG34.out.1.get 2 rfl).cell (i := 0) rfl
      have e0 := (HG34.out.1.get 0 rfl).cell (i := 0) rfl
      have e10 := (HG34.out.1.get 0 rfl).cell (i := 10) rfl
      have e11 := (HG34.out.1.get 0 rfl).cell (i := 11) rfl
      have e12 := (HG34.out.1.get 0 rfl).cell (i := 12) rfl
      go_wp2_with fail
      go_ret
      exact ⟨rfl, HG34.out.1.1⟩
end
end Go.Proofs.YtkaaebjifkbclaaDoor.Md
