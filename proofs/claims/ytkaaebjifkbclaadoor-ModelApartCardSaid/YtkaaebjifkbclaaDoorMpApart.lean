/-
  The law ModelApart: commands of one key have nothing to do with others. Conditions: the commands can be read; the library's variables are as they begin.
-/
import Derived.Test.YtkaaebjifkbclaaDoorMpApp2
import Derived.Test.YtkaaebjifkbclaaDoorMpApartMath
import Derived.Test.YtkaaebjifkbclaaDoorMpGiven
namespace Go.Proofs.YtkaaebjifkbclaaDoor.Md
open Go Go.RowKit Go.Lib
set_option maxRecDepth 100000 in
set_option maxHeartbeats 40000000 in
theorem apart_law {w : World} (a : Option Addr) (n cc : Nat) (hg : Cms w a n) (key : ByteArray) (hv : Nu.Vars w) :
    Calls Tryd.prog 8 #[.slice a n cc, .string key] w fun e w' => e = .returned (.bool true) ∧ Below w.heap.size w w' := by
  have HC := hid hg
  have HV := hid hv
  clear hv hg
  have HB := hid (Bxr.begin w)
  go_enter Tryd.func8, Tryd.ntmps8
  go_wp2_with fail
  refine (shown_any w HV.out).mono ?_
  rintro e0 w1 ⟨rfl, hb1⟩
  have HB1 : Hid (Bxr w [] [] w1) := hid (HB.out.step hb1)
  clear hb1 HB
  go_upto_region 2 with fail
  refine wp_region_list ?_
  refine wpList_val (v := .agg #[.slice none 0 0, .int .u64 0, .int .i64 0]) (w' := w1) rfl (by kernel_rfl) ?_
  refine newS (cs := [.slice none 0 0, .int .u64 ((⟨[], 0, 0⟩ : Ms)).cas, .int .i64 ((⟨[], 0, 0⟩ : Ms)).fl]) HB1.out rfl rfl rfl rfl rfl rfl (by kernel_rfl) rfl ⟨91, by kernel_rfl, by decide⟩ rfl rfl (fun P1 G1 hg1 => ?_)
  have HG1 : Hid (Bxr w [(P1, 25, [.slice none 0 0, .int .u64 ((⟨[], 0, 0⟩ : Ms)).cas, .int .i64 ((⟨[], 0, 0⟩ : Ms)).fl])] [] G1) := hid hg1
  clear hg1 HB1
  go_simp
  go_upto_region 3 with fail
  refine wp_region_list ?_
  refine wpList_val (v := .agg #[.slice none 0 0, .int .u64 0, .int .i64 0]) (w' := G1) rfl (by kernel_rfl) ?_
  refine newS (cs := [.slice none 0 0, .int .u64 ((⟨[], 0, 0⟩ : Ms)).cas, .int .i64 ((⟨[], 0, 0⟩ : Ms)).fl]) HG1.out rfl rfl rfl rfl rfl rfl (by kernel_rfl) rfl ⟨91, by kernel_rfl, by decide⟩ rfl rfl (fun P2 G2 hg2 => ?_)
  have HG2 : Hid (Bxr w [(P2, 25, [.slice none 0 0, .int .u64 ((⟨[], 0, 0⟩ : Ms)).cas, .int .i64 ((⟨[], 0, 0⟩ : Ms)).fl]), (P1, 25, [.slice none 0 0, .int .u64 ((⟨[], 0, 0⟩ : Ms)).cas, .int .i64 ((⟨[], 0, 0⟩ : Ms)).fl])] [] G2) := hid hg2
  clear hg2 HG1
  go_simp
  go_wp2_with fail
  go_loopw [8] (fun p wr => ∃ (i : Nat) (ss tt : Ms) (a1 : Option Addr) (n1 c1 : Nat) (a2 : Option Addr) (n2 c2 : Nat), p = .int .i64 i ∧ i ≤ 40 ∧ Hid (Rel key (10 + (i : Int)) ss tt ∧ Fit i 65536 ss ∧ Fit i 65536 tt) ∧ Hid (Bxr w [(P2, 25, [.slice a2 n2 c2, .int .u64 (tt).cas, .int .i64 (tt).fl]), (P1, 25, [.slice a1 n1 c1, .int .u64 (ss).cas, .int .i64 (ss).fl])] [(.slice a1 n1 c1, ss.its), (.slice a2 n2 c2, tt.its)] wr)) (fun p _ => 40 - (RowKit.intOf p).toNat)
  case atStart => exact ⟨0, noMs, noMs, none, 0, 0, none, 0, 0, rfl, by omega, hid ⟨rel_no key _, fit_no _ _, fit_no _ _⟩, hid ⟨HG2.out.1, fun r hr => by
      rcases List.mem_cons.1 hr with rfl | hr
      · exact ⟨fun _ => False, rw_nil _ _, fun b hb => hb.elim⟩
      · rcases List.mem_cons.1 hr with rfl | hr
        · exact ⟨fun _ => False, rw_nil _ _, fun b hb => hb.elim⟩
        · cases hr⟩⟩
  case round =>
    obtain ⟨i, ss, tt, a1, n1, c1, a2, n2, c2, rfl, hi, hR, hT⟩ := hrel
    clear HG2
    by_cases hlt : i < n ∧ i < 40
    · obtain ⟨l1, l2⟩ := hlt
      have q1 : (i : Int) < (n : Int) := by omega
      have q2 : (i : Int) < 40 := by omega
      have q0 : (0 : Int) ≤ (i : Int) := by omega
      have lw : IntKind.i64.wrap ((i : Int) + 1) = ((i + 1 : Nat) : Int) := by rw [IntKind.wrap_i64]; omega
      obtain ⟨T, hT0⟩ : ∃ T : Int, 10 + (i : Int) = T := ⟨_, rfl⟩
      have hT1 : IntKind.i64.wrap T = T := by rw [IntKind.wrap_i64]; omega
      have hT2 : (i : Int) + 10 = T := by omega
      obtain ⟨b, o, c, rfl, hb, hok, hc⟩ := (HC.out.below hT.out.1.1) i l1
      have hran : Hid (wr.rangeAt b (o + i * 16) c.cells) := hid (fun j u hj => hc j u hj)
      clear hc
      by_cases h6 : c.op = 6
      · go_upto_region 7 with fail
        refine wp_region_list ?_
        refine wpList_val (v := .slice (some ⟨b, o, none⟩) n cc) (w' := wr) rfl (by kernel_rfl) ?_
        refine wpList_val (v := .int .i64 i) (w' := wr) rfl (by kernel_rfl) ?_
        refine wpList_val (v := .pointer (some ⟨b, o + i * 16, none⟩)) (w' := wr) rfl (by go_simp) ?_
        refine wpList_load_mid rfl 28 _ rfl b (o + i * 16) rfl c.cells _ hran.out Tryd.underlying28 rfl (by kernel_rfl) ?_
        refine newT (cs := [.int .i64 c.op, .int .i64 c.mode, .string c.key, .string c.val, .int .u32 c.flags, .int .i64 c.exp, .bool c.hasExp, .int .u64 c.cas, .bool c.hasCas, .int .u64 c.delta, .int .u64 c.init, .bool c.down, .bool c.viv, .int .i64 c.vive, .int .i64 c.rcc, .bool c.inv]) hT.out rfl rfl rfl rfl rfl rfl (by kernel_rfl) rfl ⟨91, by kernel_rfl, by decide⟩ rfl rfl (fun P11 G11 hg11 => ?_)
        have HG11 : Hid (Bxr w [(P11, 28, [.int .i64 c.op, .int .i64 c.mode, .string c.key, .string c.val, .int .u32 c.flags, .int .i64 c.exp, .bool c.hasExp, .int .u64 c.cas, .bool c.hasCas, .int .u64 c.delta, .int .u64 c.init, .bool c.down, .bool c.viv, .int .i64 c.vive, .int .i64 c.rcc, .bool c.inv]), (P2, 25, [.slice a2 n2 c2, .int .u64 (tt).cas, .int .i64 (tt).fl]), (P1, 25, [.slice a1 n1 c1, .int .u64 (ss).cas, .int .i64 (ss).fl])] [(.slice a1 n1 c1, ss.its), (.slice a2 n2 c2, tt.its)] G11) := hid hg11
        clear hg11 hT hran
        go_simp
        have k0 := (HG11.out.1.get 0 rfl).cell (i := 0) rfl
        have k8 := (HG11.out.1.get 0 rfl).cell (i := 8) rfl
        have k3 := (HG11.out.1.get 0 rfl).cell (i := 3) rfl
        have h6b : (c.op == 6) = true := beq_iff_eq.2 h6
        clear h6
        go_wp2_with fail
        go_roundw
        case measure => simp [RowKit.intOf] <;> omega
        case rel => exact ⟨i + 1, ss, tt, a1, n1, c1, a2, n2, c2, by first | rfl | go_num, by omega, hid ⟨hR.out.1.later (by omega), hR.out.2.1.mono (by omega), hR.out.2.2.mono (by omega)⟩, hid ((HG11.out.drop1).only (fun r hr => by
            rcases List.mem_cons.1 hr with rfl | hr
            · exact List.mem_of_getElem? (i := 0) rfl
            · rcases List.mem_cons.1 hr with rfl | hr
              · exact List.mem_of_getElem? (i := 1) rfl
              · cases hr))⟩
      · have h6b : (c.op == 6) = false := beq_eq_false_iff_ne.2 h6
        cases h8 : c.hasCas
        · by_cases h5 : (5000 : Int) < (c.val.size : Nat)
          · go_upto_region 7 with fail
            refine wp_region_list ?_
            refine wpList_val (v := .slice (some ⟨b, o, none⟩) n cc) (w' := wr) rfl (by kernel_rfl) ?_
            refine wpList_val (v := .int .i64 i) (w' := wr) rfl (by kernel_rfl) ?_
            refine wpList_val (v := .pointer (some ⟨b, o + i * 16, none⟩)) (w' := wr) rfl (by go_simp) ?_
            refine wpList_load_mid rfl 28 _ rfl b (o + i * 16) rfl c.cells _ hran.out Tryd.underlying28 rfl (by kernel_rfl) ?_
            refine newT (cs := [.int .i64 c.op, .int .i64 c.mode, .string c.key, .string c.val, .int .u32 c.flags, .int .i64 c.exp, .bool c.hasExp, .int .u64 c.cas, .bool c.hasCas, .int .u64 c.delta, .int .u64 c.init, .bool c.down, .bool c.viv, .int .i64 c.vive, .int .i64 c.rcc, .bool c.inv]) hT.out rfl rfl rfl rfl rfl rfl (by kernel_rfl) rfl ⟨91, by kernel_rfl, by decide⟩ rfl rfl (fun P11 G11 hg11 => ?_)
            have HG11 : Hid (Bxr w [(P11, 28, [.int .i64 c.op, .int .i64 c.mode, .string c.key, .string c.val, .int .u32 c.flags, .int .i64 c.exp, .bool c.hasExp, .int .u64 c.cas, .bool c.hasCas, .int .u64 c.delta, .int .u64 c.init, .bool c.down, .bool c.viv, .int .i64 c.vive, .int .i64 c.rcc, .bool c.inv]), (P2, 25, [.slice a2 n2 c2, .int .u64 (tt).cas, .int .i64 (tt).fl]), (P1, 25, [.slice a1 n1 c1, .int .u64 (ss).cas, .int .i64 (ss).fl])] [(.slice a1 n1 c1, ss.its), (.slice a2 n2 c2, tt.its)] G11) := hid hg11
            clear hg11 hT hran
            go_simp
            have k0 := (HG11.out.1.get 0 rfl).cell (i := 0) rfl
            have k8 := (HG11.out.1.get 0 rfl).cell (i := 8) rfl
            have k3 := (HG11.out.1.get 0 rfl).cell (i := 3) rfl
            have h5b : decide ((5000 : Int) < (c.val.size : Nat)) = true := decide_eq_true h5
            rw [h8] at k8
            go_wp2_with fail
            go_roundw
            case measure => simp [RowKit.intOf] <;> omega
            case rel => exact ⟨i + 1, ss, tt, a1, n1, c1, a2, n2, c2, by first | rfl | go_num, by omega, hid ⟨hR.out.1.later (by omega), hR.out.2.1.mono (by omega), hR.out.2.2.mono (by omega)⟩, hid ((HG11.out.drop1).only (fun r hr => by
                rcases List.mem_cons.1 hr with rfl | hr
                · exact List.mem_of_getElem? (i := 0) rfl
                · rcases List.mem_cons.1 hr with rfl | hr
                  · exact List.mem_of_getElem? (i := 1) rfl
                  · cases hr))⟩
          · have h5b : decide ((5000 : Int) < (c.val.size : Nat)) = false := decide_eq_false h5
            by_cases hk : c.key = key
            · have hown : Hid (∀ x2 an, apply ss T c 6000 = (x2, an) → an.st ≠ 0 → Rel key (10 + ((i + 1 : Nat) : Int)) x2 tt ∧ Fit (i + 1) 65536 x2 ∧ Fit (i + 1) 65536 tt) := hid (fun x2 an hr h0 => by
                have hf : fine T c = true := by
                  cases hf : fine T c
                  · rw [app_no hf] at hr
                    cases hr
                    exact absurd rfl h0
                  · rfl
                have h1 := rel_own (most := 6000) (hT0 ▸ hR.out.1) hR.out.2.1.sorted hf h6 hk
                have h2 := hR.out.2.1.apply (now := T) hok (most := 6000) (by decide)
                rw [hr] at h1 h2
                exact ⟨h1.later (by omega), h2, hR.out.2.2.mono (by omega)⟩)
              have hkb : (c.key.toList == key.toList) = true := by rw [key_beq]; exact decide_eq_true hk
              go_upto_region 7 with fail
              refine wp_region_list ?_
              refine wpList_val (v := .slice (some ⟨b, o, none⟩) n cc) (w' := wr) rfl (by kernel_rfl) ?_
              refine wpList_val (v := .int .i64 i) (w' := wr) rfl (by kernel_rfl) ?_
              refine wpList_val (v := .pointer (some ⟨b, o + i * 16, none⟩)) (w' := wr) rfl (by go_simp) ?_
              refine wpList_load_mid rfl 28 _ rfl b (o + i * 16) rfl c.cells _ hran.out Tryd.underlying28 rfl (by kernel_rfl) ?_
              refine newT (cs := [.int .i64 c.op, .int .i64 c.mode, .string c.key, .string c.val, .int .u32 c.flags, .int .i64 c.exp, .bool c.hasExp, .int .u64 c.cas, .bool c.hasCas, .int .u64 c.delta, .int .u64 c.init, .bool c.down, .bool c.viv, .int .i64 c.vive, .int .i64 c.rcc, .bool c.inv]) hT.out rfl rfl rfl rfl rfl rfl (by kernel_rfl) rfl ⟨91, by kernel_rfl, by decide⟩ rfl rfl (fun P11 G11 hg11 => ?_)
              have HG11 : Hid (Bxr w [(P11, 28, [.int .i64 c.op, .int .i64 c.mode, .string c.key, .string c.val, .int .u32 c.flags, .int .i64 c.exp, .bool c.hasExp, .int .u64 c.cas, .bool c.hasCas, .int .u64 c.delta, .int .u64 c.init, .bool c.down, .bool c.viv, .int .i64 c.vive, .int .i64 c.rcc, .bool c.inv]), (P2, 25, [.slice a2 n2 c2, .int .u64 (tt).cas, .int .i64 (tt).fl]), (P1, 25, [.slice a1 n1 c1, .int .u64 (ss).cas, .int .i64 (ss).fl])] [(.slice a1 n1 c1, ss.its), (.slice a2 n2 c2, tt.its)] G11) := hid hg11
              clear hg11 hT hran
              go_simp
              have k0 := (HG11.out.1.get 0 rfl).cell (i := 0) rfl
              have k8 := (HG11.out.1.get 0 rfl).cell (i := 8) rfl
              have k3 := (HG11.out.1.get 0 rfl).cell (i := 3) rfl
              have k2 := (HG11.out.1.get 0 rfl).cell (i := 2) rfl
              rw [h8] at k8
              obtain ⟨x2, an, hr⟩ : ∃ x2 an, apply ss T c 6000 = (x2, an) := ⟨_, _, rfl⟩
              go_upto_region 11 with fail
              clear k0 k8 k3 k2
              refine wp_region_list ?_
              refine loadS (cs := [.slice a1 n1 c1, .int .u64 (ss).cas, .int .i64 (ss).fl]) rfl rfl rfl (HG11.out.1.get 2 rfl) rfl ?_
              refine wpList_val (v := .int .i64 T) (w' := G11) rfl (by kernel_rfl) ?_
              refine loadC (cs := [.int .i64 c.op, .int .i64 c.mode, .string c.key, .string c.val, .int .u32 c.flags, .int .i64 c.exp, .bool c.hasExp, .int .u64 c.cas, .bool c.hasCas, .int .u64 c.delta, .int .u64 c.init, .bool c.down, .bool c.viv, .int .i64 c.vive, .int .i64 c.rcc, .bool c.inv]) rfl rfl rfl (HG11.out.1.get 0 rfl) rfl ?_
              refine app2 (s := ss) (now := T) (c := c) (most := 6000) HG11.out (HG11.out.its 0 rfl) hR.out.2.1 (by omega) (by decide) hok HV.out hr rfl rfl rfl rfl rfl rfl rfl rfl rfl rfl (by decide) ⟨91, by kernel_rfl, by decide, by decide, by decide, by decide, by decide, by decide⟩ (by kernel_rfl) (by kernel_rfl) (by kernel_rfl) (fun P12 ax12 nx12 cx12 G12 hg12 => ?_)
              have HG12 : Hid (Bxr w [(P12 + 1, 35, [.int .i64 an.st, .string an.it.key, .int .u32 an.it.flags, .string an.it.val, .int .i64 an.it.exp, .int .u64 an.it.cas, .int .i64 an.it.last, .bool an.it.stale, .bool an.it.won, .int .u64 an.n, .bool an.w, .bool an.x, .bool an.z]), (P12, 25, [.slice ax12 nx12 cx12, .int .u64 (x2).cas, .int .i64 (x2).fl]), (P11, 28, [.int .i64 c.op, .int .i64 c.mode, .string c.key, .string c.val, .int .u32 c.flags, .int .i64 c.exp, .bool c.hasExp, .int .u64 c.cas, .bool c.hasCas, .int .u64 c.delta, .int .u64 c.init, .bool c.down, .bool c.viv, .int .i64 c.vive, .int .i64 c.rcc, .bool c.inv]), (P2, 25, [.slice a2 n2 c2, .int .u64 (tt).cas, .int .i64 (tt).fl]), (P1, 25, [.slice a1 n1 c1, .int .u64 (ss).cas, .int .i64 (ss).fl])] [(.slice ax12 nx12 cx12, (x2).its), (.slice a1 n1 c1, ss.its), (.slice a2 n2 c2, tt.its)] G12) := hid hg12
              clear hg12 HG11
              go_simp
              have r0 := (HG12.out.1.get 0 rfl).cell (i := 0) rfl
              by_cases h0 : an.st = 0
              · rw [h0] at r0
                go_wp2_with fail
                go_roundw
                case measure => simp [RowKit.intOf] <;> omega
                case rel => exact ⟨i + 1, ss, tt, a1, n1, c1, a2, n2, c2, by first | rfl | go_num, by omega, hid ⟨hR.out.1.later (by omega), hR.out.2.1.mono (by omega), hR.out.2.2.mono (by omega)⟩, hid ((HG12.out.drop1.drop1.drop1).only (fun r hr => by
                    rcases List.mem_cons.1 hr with rfl | hr
                    · exact List.mem_of_getElem? (i := 1) rfl
                    · rcases List.mem_cons.1 hr with rfl | hr
                      · exact List.mem_of_getElem? (i := 2) rfl
                      · cases hr))⟩
              · have h1 : (an.st == 0) = false := beq_eq_false_iff_ne.2 h0
                go_upto_region 13 with fail
                clear r0
                refine wp_region_list ?_
                refine loadS (cs := [.slice ax12 nx12 cx12, .int .u64 (x2).cas, .int .i64 (x2).fl]) rfl rfl rfl (HG12.out.1.get 1 rfl) rfl ?_
                refine wpList_stor (b := P1) (cs := [.slice ax12 nx12 cx12, .int .u64 (x2).cas, .int .i64 (x2).fl]) rfl rfl rfl rfl rfl (HG12.out.1.get 4 rfl) rfl (by kernel_rfl) rfl ?_
                have HG13 : Hid (Bxr w [(P12 + 1, 35, [.int .i64 an.st, .string an.it.key, .int .u32 an.it.flags, .string an.it.val, .int .i64 an.it.exp, .int .u64 an.it.cas, .int .i64 an.it.last, .bool an.it.stale, .bool an.it.won, .int .u64 an.n, .bool an.w, .bool an.x, .bool an.z]), (P12, 25, [.slice ax12 nx12 cx12, .int .u64 (x2).cas, .int .i64 (x2).fl]), (P11, 28, [.int .i64 c.op, .int .i64 c.mode, .string c.key, .string c.val, .int .u32 c.flags, .int .i64 c.exp, .bool c.hasExp, .int .u64 c.cas, .bool c.hasCas, .int .u64 c.delta, .int .u64 c.init, .bool c.down, .bool c.viv, .int .i64 c.vive, .int .i64 c.rcc, .bool c.inv]), (P2, 25, [.slice a2 n2 c2, .int .u64 (tt).cas, .int .i64 (tt).fl]), (P1, 25, [.slice ax12 nx12 cx12, .int .u64 (x2).cas, .int .i64 (x2).fl])] [(.slice ax12 nx12 cx12, (x2).its), (.slice a1 n1 c1, ss.its), (.slice a2 n2 c2, tt.its)] (G12.setCells (P1) 0 [.slice ax12 nx12 cx12, .int .u64 (x2).cas, .int .i64 (x2).fl])) := hid (HG12.out.setc 4 (vs := [.slice ax12 nx12 cx12, .int .u64 (x2).cas, .int .i64 (x2).fl]) rfl rfl)
                clear HG12
                generalize (G12.setCells (P1) 0 [.slice ax12 nx12 cx12, .int .u64 (x2).cas, .int .i64 (x2).fl]) = G13 at *
                refine wpList_nil ?_
                go_simp
                go_wp2_with fail
                go_roundw
                case measure => simp [RowKit.intOf] <;> omega
                case rel => exact ⟨i + 1, x2, tt, ax12, nx12, cx12, a2, n2, c2, by first | rfl | go_num, by omega, hid (hown.out x2 an hr h0), hid ((HG13.out.drop1.drop1.drop1).only (fun r hr => by
                    rcases List.mem_cons.1 hr with rfl | hr
                    · exact List.mem_of_getElem? (i := 0) rfl
                    · rcases List.mem_cons.1 hr with rfl | hr
                      · exact List.mem_of_getElem? (i := 2) rfl
                      · cases hr))⟩
            · have hoth : Hid (∀ x2 an y2 bn, apply ss T c 6000 = (x2, an) → apply tt T c 6000 = (y2, bn) → anc an = anc bn ∧ (an.st ≠ 0 → Rel key (10 + ((i + 1 : Nat) : Int)) x2 y2 ∧ Fit (i + 1) 65536 x2 ∧ Fit (i + 1) 65536 y2)) := hid (fun x2 an y2 bn hr hq => by
                cases hf : fine T c
                · rw [app_no hf] at hr hq
                  cases hr
                  cases hq
                  exact ⟨rfl, fun h0 => absurd rfl h0⟩
                · obtain ⟨h1, h2⟩ := rel_other (most := 6000) (hT0 ▸ hR.out.1) hR.out.2.1.sorted hR.out.2.2.sorted hf h6 h8 hk
                  have h3 := hR.out.2.1.apply (now := T) hok (most := 6000) (by decide)
                  have h4 := hR.out.2.2.apply (now := T) hok (most := 6000) (by decide)
                  rw [hr] at h1 h2 h3
                  rw [hq] at h1 h2 h4
                  exact ⟨h2, fun _ => ⟨h1.later (by omega), h3, h4⟩⟩)
              have hkb : (c.key.toList == key.toList) = false := by rw [key_beq]; exact decide_eq_false hk
              go_upto_region 7 with fail
              refine wp_region_list ?_
              refine wpList_val (v := .slice (some ⟨b, o, none⟩) n cc) (w' := wr) rfl (by kernel_rfl) ?_
              refine wpList_val (v := .int .i64 i) (w' := wr) rfl (by kernel_rfl) ?_
              refine wpList_val (v := .pointer (some ⟨b, o + i * 16, none⟩)) (w' := wr) rfl (by go_simp) ?_
              refine wpList_load_mid rfl 28 _ rfl b (o + i * 16) rfl c.cells _ hran.out Tryd.underlying28 rfl (by kernel_rfl) ?_
              refine newT (cs := [.int .i64 c.op, .int .i64 c.mode, .string c.key, .string c.val, .int .u32 c.flags, .int .i64 c.exp, .bool c.hasExp, .int .u64 c.cas, .bool c.hasCas, .int .u64 c.delta, .int .u64 c.init, .bool c.down, .bool c.viv, .int .i64 c.vive, .int .i64 c.rcc, .bool c.inv]) hT.out rfl rfl rfl rfl rfl rfl (by kernel_rfl) rfl ⟨91, by kernel_rfl, by decide⟩ rfl rfl (fun P11 G11 hg11 => ?_)
              have HG11 : Hid (Bxr w [(P11, 28, [.int .i64 c.op, .int .i64 c.mode, .string c.key, .string c.val, .int .u32 c.flags, .int .i64 c.exp, .bool c.hasExp, .int .u64 c.cas, .bool c.hasCas, .int .u64 c.delta, .int .u64 c.init, .bool c.down, .bool c.viv, .int .i64 c.vive, .int .i64 c.rcc, .bool c.inv]), (P2, 25, [.slice a2 n2 c2, .int .u64 (tt).cas, .int .i64 (tt).fl]), (P1, 25, [.slice a1 n1 c1, .int .u64 (ss).cas, .int .i64 (ss).fl])] [(.slice a1 n1 c1, ss.its), (.slice a2 n2 c2, tt.its)] G11) := hid hg11
              clear hg11 hT hran
              go_simp
              have k0 := (HG11.out.1.get 0 rfl).cell (i := 0) rfl
              have k8 := (HG11.out.1.get 0 rfl).cell (i := 8) rfl
              have k3 := (HG11.out.1.get 0 rfl).cell (i := 3) rfl
              have k2 := (HG11.out.1.get 0 rfl).cell (i := 2) rfl
              rw [h8] at k8
              obtain ⟨x2, an, hr⟩ : ∃ x2 an, apply ss T c 6000 = (x2, an) := ⟨_, _, rfl⟩
              obtain ⟨y2, bn, hq⟩ : ∃ y2 bn, apply tt T c 6000 = (y2, bn) := ⟨_, _, rfl⟩
              have hall := hoth.out x2 an y2 bn hr hq
              obtain ⟨hab, hrel⟩ := hall
              have HAB := hid hab
              have HREL := hid hrel
              clear hab hrel hoth
              go_upto_region 14 with fail
              clear k0 k8 k3 k2
              refine wp_region_list ?_
              refine loadS (cs := [.slice a1 n1 c1, .int .u64 (ss).cas, .int .i64 (ss).fl]) rfl rfl rfl (HG11.out.1.get 2 rfl) rfl ?_
              refine wpList_val (v := .int .i64 T) (w' := G11) rfl (by kernel_rfl) ?_
              refine loadC (cs := [.int .i64 c.op, .int .i64 c.mode, .string c.key, .string c.val, .int .u32 c.flags, .int .i64 c.exp, .bool c.hasExp, .int .u64 c.cas, .bool c.hasCas, .int .u64 c.delta, .int .u64 c.init, .bool c.down, .bool c.viv, .int .i64 c.vive, .int .i64 c.rcc, .bool c.inv]) rfl rfl rfl (HG11.out.1.get 0 rfl) rfl ?_
              refine app2 (s := ss) (now := T) (c := c) (most := 6000) HG11.out (HG11.out.its 0 rfl) hR.out.2.1 (by omega) (by decide) hok HV.out hr rfl rfl rfl rfl rfl rfl rfl rfl rfl rfl (by decide) ⟨91, by kernel_rfl, by decide, by decide, by decide, by decide, by decide, by decide⟩ (by kernel_rfl) (by kernel_rfl) (by kernel_rfl) (fun P12 ax12 nx12 cx12 G12 hg12 => ?_)
              have HG12 : Hid (Bxr w [(P12 + 1, 35, [.int .i64 an.st, .string an.it.key, .int .u32 an.it.flags, .string an.it.val, .int .i64 an.it.exp, .int .u64 an.it.cas, .int .i64 an.it.last, .bool an.it.stale, .bool an.it.won, .int .u64 an.n, .bool an.w, .bool an.x, .bool an.z]), (P12, 25, [.slice ax12 nx12 cx12, .int .u64 (x2).cas, .int .i64 (x2).fl]), (P11, 28, [.int .i64 c.op, .int .i64 c.mode, .string c.key, .string c.val, .int .u32 c.flags, .int .i64 c.exp, .bool c.hasExp, .int .u64 c.cas, .bool c.hasCas, .int .u64 c.delta, .int .u64 c.init, .bool c.down, .bool c.viv, .int .i64 c.vive, .int .i64 c.rcc, .bool c.inv]), (P2, 25, [.slice a2 n2 c2, .int .u64 (tt).cas, .int .i64 (tt).fl]), (P1, 25, [.slice a1 n1 c1, .int .u64 (ss).cas, .int .i64 (ss).fl])] [(.slice ax12 nx12 cx12, (x2).its), (.slice a1 n1 c1, ss.its), (.slice a2 n2 c2, tt.its)] G12) := hid hg12
              clear hg12 HG11
              go_simp
              go_upto_region 15 with fail
              refine wp_region_list ?_
              refine loadS (cs := [.slice a2 n2 c2, .int .u64 (tt).cas, .int .i64 (tt).fl]) rfl rfl rfl (HG12.out.1.get 3 rfl) rfl ?_
              refine wpList_val (v := .int .i64 T) (w' := G12) rfl (by kernel_rfl) ?_
              refine loadC (cs := [.int .i64 c.op, .int .i64 c.mode, .string c.key, .string c.val, .int .u32 c.flags, .int .i64 c.exp, .bool c.hasExp, .int .u64 c.cas, .bool c.hasCas, .int .u64 c.delta, .int .u64 c.init, .bool c.down, .bool c.viv, .int .i64 c.vive, .int .i64 c.rcc, .bool c.inv]) rfl rfl rfl (HG12.out.1.get 2 rfl) rfl ?_
              refine app2 (s := tt) (now := T) (c := c) (most := 6000) HG12.out (HG12.out.its 2 rfl) hR.out.2.2 (by omega) (by decide) hok HV.out hq rfl rfl rfl rfl rfl rfl rfl rfl rfl rfl (by decide) ⟨91, by kernel_rfl, by decide, by decide, by decide, by decide, by decide, by decide⟩ (by kernel_rfl) (by kernel_rfl) (by kernel_rfl) (fun P13 ax13 nx13 cx13 G13 hg13 => ?_)
              have HG13 : Hid (Bxr w [(P13 + 1, 35, [.int .i64 bn.st, .string bn.it.key, .int .u32 bn.it.flags, .string bn.it.val, .int .i64 bn.it.exp, .int .u64 bn.it.cas, .int .i64 bn.it.last, .bool bn.it.stale, .bool bn.it.won, .int .u64 bn.n, .bool bn.w, .bool bn.x, .bool bn.z]), (P13, 25, [.slice ax13 nx13 cx13, .int .u64 (y2).cas, .int .i64 (y2).fl]), (P12 + 1, 35, [.int .i64 an.st, .string an.it.key, .int .u32 an.it.flags, .string an.it.val, .int .i64 an.it.exp, .int .u64 an.it.cas, .int .i64 an.it.last, .bool an.it.stale, .bool an.it.won, .int .u64 an.n, .bool an.w, .bool an.x, .bool an.z]), (P12, 25, [.slice ax12 nx12 cx12, .int .u64 (x2).cas, .int .i64 (x2).fl]), (P11, 28, [.int .i64 c.op, .int .i64 c.mode, .string c.key, .string c.val, .int .u32 c.flags, .int .i64 c.exp, .bool c.hasExp, .int .u64 c.cas, .bool c.hasCas, .int .u64 c.delta, .int .u64 c.init, .bool c.down, .bool c.viv, .int .i64 c.vive, .int .i64 c.rcc, .bool c.inv]), (P2, 25, [.slice a2 n2 c2, .int .u64 (tt).cas, .int .i64 (tt).fl]), (P1, 25, [.slice a1 n1 c1, .int .u64 (ss).cas, .int .i64 (ss).fl])] [(.slice ax13 nx13 cx13, (y2).its), (.slice ax12 nx12 cx12, (x2).its), (.slice a1 n1 c1, ss.its), (.slice a2 n2 c2, tt.its)] G13) := hid hg13
              clear hg13 HG12
              go_simp
              have e14_ := (HG13.out.1.get 2 rfl).cell (i := 5) rfl
              have f14_ := (HG13.out.1.get 2 rfl).frozen 5
              go_upto_region 17 with fail
              clear e14_ f14_
              change Code.wp _ _ _ _ (G13.setCell ⟨P12 + 1, 5, none⟩ (.int .u64 0))
              have HE14 : Hid (Bxr w [(P13 + 1, 35, [.int .i64 bn.st, .string bn.it.key, .int .u32 bn.it.flags, .string bn.it.val, .int .i64 bn.it.exp, .int .u64 bn.it.cas, .int .i64 bn.it.last, .bool bn.it.stale, .bool bn.it.won, .int .u64 bn.n, .bool bn.w, .bool bn.x, .bool bn.z]), (P13, 25, [.slice ax13 nx13 cx13, .int .u64 (y2).cas, .int .i64 (y2).fl]), (P12 + 1, 35, [.int .i64 an.st, .string an.it.key, .int .u32 an.it.flags, .string an.it.val, .int .i64 an.it.exp, .int .u64 0, .int .i64 an.it.last, .bool an.it.stale, .bool an.it.won, .int .u64 an.n, .bool an.w, .bool an.x, .bool an.z]), (P12, 25, [.slice ax12 nx12 cx12, .int .u64 (x2).cas, .int .i64 (x2).fl]), (P11, 28, [.int .i64 c.op, .int .i64 c.mode, .string c.key, .string c.val, .int .u32 c.flags, .int .i64 c.exp, .bool c.hasExp, .int .u64 c.cas, .bool c.hasCas, .int .u64 c.delta, .int .u64 c.init, .bool c.down, .bool c.viv, .int .i64 c.vive, .int .i64 c.rcc, .bool c.inv]), (P2, 25, [.slice a2 n2 c2, .int .u64 (tt).cas, .int .i64 (tt).fl]), (P1, 25, [.slice a1 n1 c1, .int .u64 (ss).cas, .int .i64 (ss).fl])] [(.slice ax13 nx13 cx13, (y2).its), (.slice ax12 nx12 cx12, (x2).its), (.slice a1 n1 c1, ss.its), (.slice a2 n2 c2, tt.its)] (G13.setCell ⟨P12 + 1, 5, none⟩ (.int .u64 0))) := hid (HG13.out.cell1 2 rfl 5 (.int .u64 0))
              clear HG13
              generalize (G13.setCell ⟨P12 + 1, 5, none⟩ (.int .u64 0)) = X14 at *
              have e15_ := (HE14.out.1.get 0 rfl).cell (i := 5) rfl
              have f15_ := (HE14.out.1.get 0 rfl).frozen 5
              go_upto_region 18 with fail
              clear e15_ f15_
              change Code.wp _ _ _ _ (X14.setCell ⟨P13 + 1, 5, none⟩ (.int .u64 0))
              have HE15 : Hid (Bxr w [(P13 + 1, 35, [.int .i64 bn.st, .string bn.it.key, .int .u32 bn.it.flags, .string bn.it.val, .int .i64 bn.it.exp, .int .u64 0, .int .i64 bn.it.last, .bool bn.it.stale, .bool bn.it.won, .int .u64 bn.n, .bool bn.w, .bool bn.x, .bool bn.z]), (P13, 25, [.slice ax13 nx13 cx13, .int .u64 (y2).cas, .int .i64 (y2).fl]), (P12 + 1, 35, [.int .i64 an.st, .string an.it.key, .int .u32 an.it.flags, .string an.it.val, .int .i64 an.it.exp, .int .u64 0, .int .i64 an.it.last, .bool an.it.stale, .bool an.it.won, .int .u64 an.n, .bool an.w, .bool an.x, .bool an.z]), (P12, 25, [.slice ax12 nx12 cx12, .int .u64 (x2).cas, .int .i64 (x2).fl]), (P11, 28, [.int .i64 c.op, .int .i64 c.mode, .string c.key, .string c.val, .int .u32 c.flags, .int .i64 c.exp, .bool c.hasExp, .int .u64 c.cas, .bool c.hasCas, .int .u64 c.delta, .int .u64 c.init, .bool c.down, .bool c.viv, .int .i64 c.vive, .int .i64 c.rcc, .bool c.inv]), (P2, 25, [.slice a2 n2 c2, .int .u64 (tt).cas, .int .i64 (tt).fl]), (P1, 25, [.slice a1 n1 c1, .int .u64 (ss).cas, .int .i64 (ss).fl])] [(.slice ax13 nx13 cx13, (y2).its), (.slice ax12 nx12 cx12, (x2).its), (.slice a1 n1 c1, ss.its), (.slice a2 n2 c2, tt.its)] (X14.setCell ⟨P13 + 1, 5, none⟩ (.int .u64 0))) := hid (HE14.out.cell1 0 rfl 5 (.int .u64 0))
              clear HE14
              generalize (X14.setCell ⟨P13 + 1, 5, none⟩ (.int .u64 0)) = X15 at *
              have HA1 : Hid (Blk X15 (P12 + 1) 35 (anc an).cells) := hid (HE15.out.1.get 2 rfl)
              have HA2 : Hid (Blk X15 (P13 + 1) 35 (anc an).cells) := hid (by rw [HAB.out]; exact HE15.out.1.get 0 rfl)
              refine wp_region_list ?_
              refine loadA rfl rfl rfl HA1.out rfl ?_
              refine loadA rfl rfl rfl HA2.out rfl ?_
              refine neqA (A := anc an) rfl rfl (by kernel_rfl) (by kernel_rfl) ?_
              refine wpList_nil ?_
              go_simp
              clear HA1 HA2
              have r0 := (HE15.out.1.get 2 rfl).cell (i := 0) rfl
              by_cases h0 : an.st = 0
              · rw [h0] at r0
                go_wp2_with fail
                go_roundw
                case measure => simp [RowKit.intOf] <;> omega
                case rel => exact ⟨i + 1, ss, tt, a1, n1, c1, a2, n2, c2, by first | rfl | go_num, by omega, hid ⟨hR.out.1.later (by omega), hR.out.2.1.mono (by omega), hR.out.2.2.mono (by omega)⟩, hid ((HE15.out.drop1.drop1.drop1.drop1.drop1).only (fun r hr => by
                    rcases List.mem_cons.1 hr with rfl | hr
                    · exact List.mem_of_getElem? (i := 2) rfl
                    · rcases List.mem_cons.1 hr with rfl | hr
                      · exact List.mem_of_getElem? (i := 3) rfl
                      · cases hr))⟩
              · have h1 : (an.st == 0) = false := beq_eq_false_iff_ne.2 h0
                go_upto_region 21 with fail
                clear r0
                refine wp_region_list ?_
                refine loadS (cs := [.slice ax12 nx12 cx12, .int .u64 (x2).cas, .int .i64 (x2).fl]) rfl rfl rfl (HE15.out.1.get 3 rfl) rfl ?_
                refine wpList_stor (b := P1) (cs := [.slice ax12 nx12 cx12, .int .u64 (x2).cas, .int .i64 (x2).fl]) rfl rfl rfl rfl rfl (HE15.out.1.get 6 rfl) rfl (by kernel_rfl) rfl ?_
                have HG16 : Hid (Bxr w [(P13 + 1, 35, [.int .i64 bn.st, .string bn.it.key, .int .u32 bn.it.flags, .string bn.it.val, .int .i64 bn.it.exp, .int .u64 0, .int .i64 bn.it.last, .bool bn.it.stale, .bool bn.it.won, .int .u64 bn.n, .bool bn.w, .bool bn.x, .bool bn.z]), (P13, 25, [.slice ax13 nx13 cx13, .int .u64 (y2).cas, .int .i64 (y2).fl]), (P12 + 1, 35, [.int .i64 an.st, .string an.it.key, .int .u32 an.it.flags, .string an.it.val, .int .i64 an.it.exp, .int .u64 0, .int .i64 an.it.last, .bool an.it.stale, .bool an.it.won, .int .u64 an.n, .bool an.w, .bool an.x, .bool an.z]), (P12, 25, [.slice ax12 nx12 cx12, .int .u64 (x2).cas, .int .i64 (x2).fl]), (P11, 28, [.int .i64 c.op, .int .i64 c.mode, .string c.key, .string c.val, .int .u32 c.flags, .int .i64 c.exp, .bool c.hasExp, .int .u64 c.cas, .bool c.hasCas, .int .u64 c.delta, .int .u64 c.init, .bool c.down, .bool c.viv, .int .i64 c.vive, .int .i64 c.rcc, .bool c.inv]), (P2, 25, [.slice a2 n2 c2, .int .u64 (tt).cas, .int .i64 (tt).fl]), (P1, 25, [.slice ax12 nx12 cx12, .int .u64 (x2).cas, .int .i64 (x2).fl])] [(.slice ax13 nx13 cx13, (y2).its), (.slice ax12 nx12 cx12, (x2).its), (.slice a1 n1 c1, ss.its), (.slice a2 n2 c2, tt.its)] (X15.setCells (P1) 0 [.slice ax12 nx12 cx12, .int .u64 (x2).cas, .int .i64 (x2).fl])) := hid (HE15.out.setc 6 (vs := [.slice ax12 nx12 cx12, .int .u64 (x2).cas, .int .i64 (x2).fl]) rfl rfl)
                clear HE15
                generalize (X15.setCells (P1) 0 [.slice ax12 nx12 cx12, .int .u64 (x2).cas, .int .i64 (x2).fl]) = G16 at *
                refine wpList_nil ?_
                go_simp
                go_upto_region 22 with fail
                refine wp_region_list ?_
                refine loadS (cs := [.slice ax13 nx13 cx13, .int .u64 (y2).cas, .int .i64 (y2).fl]) rfl rfl rfl (HG16.out.1.get 1 rfl) rfl ?_
                refine wpList_stor (b := P2) (cs := [.slice ax13 nx13 cx13, .int .u64 (y2).cas, .int .i64 (y2).fl]) rfl rfl rfl rfl rfl (HG16.out.1.get 5 rfl) rfl (by kernel_rfl) rfl ?_
                have HG17 : Hid (Bxr w [(P13 + 1, 35, [.int .i64 bn.st, .string bn.it.key, .int .u32 bn.it.flags, .string bn.it.val, .int .i64 bn.it.exp, .int .u64 0, .int .i64 bn.it.last, .bool bn.it.stale, .bool bn.it.won, .int .u64 bn.n, .bool bn.w, .bool bn.x, .bool bn.z]), (P13, 25, [.slice ax13 nx13 cx13, .int .u64 (y2).cas, .int .i64 (y2).fl]), (P12 + 1, 35, [.int .i64 an.st, .string an.it.key, .int .u32 an.it.flags, .string an.it.val, .int .i64 an.it.exp, .int .u64 0, .int .i64 an.it.last, .bool an.it.stale, .bool an.it.won, .int .u64 an.n, .bool an.w, .bool an.x, .bool an.z]), (P12, 25, [.slice ax12 nx12 cx12, .int .u64 (x2).cas, .int .i64 (x2).fl]), (P11, 28, [.int .i64 c.op, .int .i64 c.mode, .string c.key, .string c.val, .int .u32 c.flags, .int .i64 c.exp, .bool c.hasExp, .int .u64 c.cas, .bool c.hasCas, .int .u64 c.delta, .int .u64 c.init, .bool c.down, .bool c.viv, .int .i64 c.vive, .int .i64 c.rcc, .bool c.inv]), (P2, 25, [.slice ax13 nx13 cx13, .int .u64 (y2).cas, .int .i64 (y2).fl]), (P1, 25, [.slice ax12 nx12 cx12, .int .u64 (x2).cas, .int .i64 (x2).fl])] [(.slice ax13 nx13 cx13, (y2).its), (.slice ax12 nx12 cx12, (x2).its), (.slice a1 n1 c1, ss.its), (.slice a2 n2 c2, tt.its)] (G16.setCells (P2) 0 [.slice ax13 nx13 cx13, .int .u64 (y2).cas, .int .i64 (y2).fl])) := hid (HG16.out.setc 5 (vs := [.slice ax13 nx13 cx13, .int .u64 (y2).cas, .int .i64 (y2).fl]) rfl rfl)
                clear HG16
                generalize (G16.setCells (P2) 0 [.slice ax13 nx13 cx13, .int .u64 (y2).cas, .int .i64 (y2).fl]) = G17 at *
                refine wpList_nil ?_
                go_simp
                go_wp2_with fail
                go_roundw
                case measure => simp [RowKit.intOf] <;> omega
                case rel => exact ⟨i + 1, x2, y2, ax12, nx12, cx12, ax13, nx13, cx13, by first | rfl | go_num, by omega, hid (HREL.out h0), hid ((HG17.out.drop1.drop1.drop1.drop1.drop1).only (fun r hr => by
                    rcases List.mem_cons.1 hr with rfl | hr
                    · exact List.mem_of_getElem? (i := 1) rfl
                    · rcases List.mem_cons.1 hr with rfl | hr
                      · exact List.mem_of_getElem? (i := 0) rfl
                      · cases hr))⟩
        · go_upto_region 7 with fail
          refine wp_region_list ?_
          refine wpList_val (v := .slice (some ⟨b, o, none⟩) n cc) (w' := wr) rfl (by kernel_rfl) ?_
          refine wpList_val (v := .int .i64 i) (w' := wr) rfl (by kernel_rfl) ?_
          refine wpList_val (v := .pointer (some ⟨b, o + i * 16, none⟩)) (w' := wr) rfl (by go_simp) ?_
          refine wpList_load_mid rfl 28 _ rfl b (o + i * 16) rfl c.cells _ hran.out Tryd.underlying28 rfl (by kernel_rfl) ?_
          refine newT (cs := [.int .i64 c.op, .int .i64 c.mode, .string c.key, .string c.val, .int .u32 c.flags, .int .i64 c.exp, .bool c.hasExp, .int .u64 c.cas, .bool c.hasCas, .int .u64 c.delta, .int .u64 c.init, .bool c.down, .bool c.viv, .int .i64 c.vive, .int .i64 c.rcc, .bool c.inv]) hT.out rfl rfl rfl rfl rfl rfl (by kernel_rfl) rfl ⟨91, by kernel_rfl, by decide⟩ rfl rfl (fun P11 G11 hg11 => ?_)
          have HG11 : Hid (Bxr w [(P11, 28, [.int .i64 c.op, .int .i64 c.mode, .string c.key, .string c.val, .int .u32 c.flags, .int .i64 c.exp, .bool c.hasExp, .int .u64 c.cas, .bool c.hasCas, .int .u64 c.delta, .int .u64 c.init, .bool c.down, .bool c.viv, .int .i64 c.vive, .int .i64 c.rcc, .bool c.inv]), (P2, 25, [.slice a2 n2 c2, .int .u64 (tt).cas, .int .i64 (tt).fl]), (P1, 25, [.slice a1 n1 c1, .int .u64 (ss).cas, .int .i64 (ss).fl])] [(.slice a1 n1 c1, ss.its), (.slice a2 n2 c2, tt.its)] G11) := hid hg11
          clear hg11 hT hran
          go_simp
          have k0 := (HG11.out.1.get 0 rfl).cell (i := 0) rfl
          have k8 := (HG11.out.1.get 0 rfl).cell (i := 8) rfl
          have k3 := (HG11.out.1.get 0 rfl).cell (i := 3) rfl
          rw [h8] at k8
          go_wp2_with fail
          go_roundw
          case measure => simp [RowKit.intOf] <;> omega
          case rel => exact ⟨i + 1, ss, tt, a1, n1, c1, a2, n2, c2, by first | rfl | go_num, by omega, hid ⟨hR.out.1.later (by omega), hR.out.2.1.mono (by omega), hR.out.2.2.mono (by omega)⟩, hid ((HG11.out.drop1).only (fun r hr => by
              rcases List.mem_cons.1 hr with rfl | hr
              · exact List.mem_of_getElem? (i := 0) rfl
              · rcases List.mem_cons.1 hr with rfl | hr
                · exact List.mem_of_getElem? (i := 1) rfl
                · cases hr))⟩
    · by_cases h1 : i < n
      · have e1 : (i : Int) < (n : Int) := by omega
        have e2 : ¬ (i : Int) < 40 := by omega
        have e3 : decide ((i : Int) < 40) = false := decide_eq_false e2
        have e4 : decide ((i : Int) < (n : Int)) = true := decide_eq_true e1
        have e5 : decide (i < n) = true := decide_eq_true h1
        go_wp2_with fail
        go_ret
        exact ⟨rfl, hT.out.1.1⟩
      · have e1 : ¬ (i : Int) < (n : Int) := by omega
        have e3 : decide ((i : Int) < (n : Int)) = false := decide_eq_false e1
        have e5 : decide (i < n) = false := decide_eq_false h1
        go_wp2_with fail
        go_ret
        exact ⟨rfl, hT.out.1.1⟩
end Go.Proofs.YtkaaebjifkbclaaDoor.Md
