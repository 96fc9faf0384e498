/-
  The law ModelLooks: looking changes nothing. Conditions: the commands can be read; the library's variables are as they begin.
-/
import Derived.Test.YtkaaebjifkbclaaDoorMpApp2
import Derived.Test.YtkaaebjifkbclaaDoorMpAppD
import Derived.Test.YtkaaebjifkbclaaDoorMpLooksMath
import Derived.Test.YtkaaebjifkbclaaDoorMpGiven
namespace Go.Proofs.YtkaaebjifkbclaaDoor.Md
open Go Go.RowKit Go.Lib
set_option maxRecDepth 100000 in
set_option maxHeartbeats 40000000 in
theorem looks_law {w : World} (a : Option Addr) (n cc : Nat) (hg : Cms w a n) (key : ByteArray) (hv : Nu.Vars w) :
    Calls Tryd.prog 11 #[.slice a n cc, .string key] w fun e w' => e = .returned (.bool true) ∧ Below w.heap.size w w' := by
  have HC := hid hg
  have HV := hid hv
  clear hv hg
  have HB := hid (Bxr.begin w)
  go_enter Tryd.func11, Tryd.ntmps11
  go_wp2_with fail
  refine (shown_any w HV.out).mono ?_
  rintro e0 w1 ⟨rfl, hb1⟩
  have HB1 : Hid (Bxr w [] [] w1) := hid (HB.out.step hb1)
  clear hb1 HB
  go_upto_region 2 with fail
  refine wp_region_list ?_
  refine wpList_val (v := .agg #[.slice none 0 0, .int .u64 0, .int .i64 0]) (w' := w1) rfl (by kernel_rfl) ?_
  refine newS (cs := [.slice none 0 0, .int .u64 ((⟨[], 0, 0⟩ : Ms)).cas, .int .i64 ((⟨[], 0, 0⟩ : Ms)).fl]) HB1.out rfl rfl rfl rfl rfl rfl (by kernel_rfl) rfl ⟨112, by kernel_rfl, by decide⟩ rfl rfl (fun P1 G1 hg1 => ?_)
  have HG1 : Hid (Bxr w [(P1, 25, [.slice none 0 0, .int .u64 ((⟨[], 0, 0⟩ : Ms)).cas, .int .i64 ((⟨[], 0, 0⟩ : Ms)).fl])] [] G1) := hid hg1
  clear hg1 HB1
  go_simp
  go_upto_region 3 with fail
  refine wp_region_list ?_
  refine wpList_val (v := .agg #[.slice none 0 0, .int .u64 0, .int .i64 0]) (w' := G1) rfl (by kernel_rfl) ?_
  refine newS (cs := [.slice none 0 0, .int .u64 ((⟨[], 0, 0⟩ : Ms)).cas, .int .i64 ((⟨[], 0, 0⟩ : Ms)).fl]) HG1.out rfl rfl rfl rfl rfl rfl (by kernel_rfl) rfl ⟨112, by kernel_rfl, by decide⟩ rfl rfl (fun P2 G2 hg2 => ?_)
  have HG2 : Hid (Bxr w [(P2, 25, [.slice none 0 0, .int .u64 ((⟨[], 0, 0⟩ : Ms)).cas, .int .i64 ((⟨[], 0, 0⟩ : Ms)).fl]), (P1, 25, [.slice none 0 0, .int .u64 ((⟨[], 0, 0⟩ : Ms)).cas, .int .i64 ((⟨[], 0, 0⟩ : Ms)).fl])] [] G2) := hid hg2
  clear hg2 HG1
  go_simp
  go_wp2_with fail
  go_loopw [8] (fun p wr => ∃ (i : Nat) (ss tt : Ms) (a1 : Option Addr) (n1 c1 : Nat) (a2 : Option Addr) (n2 c2 : Nat), p = .int .i64 i ∧ i ≤ 40 ∧ Hid (Agree (10 + (i : Int)) ss tt ∧ Fit (2 * i) 65536 ss ∧ Fit (2 * i) 65536 tt) ∧ Hid (Bxr w [(P2, 25, [.slice a2 n2 c2, .int .u64 (tt).cas, .int .i64 (tt).fl]), (P1, 25, [.slice a1 n1 c1, .int .u64 (ss).cas, .int .i64 (ss).fl])] [(.slice a1 n1 c1, ss.its), (.slice a2 n2 c2, tt.its)] wr)) (fun p _ => 40 - (RowKit.intOf p).toNat)
  case atStart => exact ⟨0, noMs, noMs, none, 0, 0, none, 0, 0, rfl, by omega, hid ⟨fun _ _ => rfl, fit_no _ _, fit_no _ _⟩, hid ⟨HG2.out.1, fun r hr => by
      rcases List.mem_cons.1 hr with rfl | hr
      · exact ⟨fun _ => False, rw_nil _ _, fun b hb => hb.elim⟩
      · rcases List.mem_cons.1 hr with rfl | hr
        · exact ⟨fun _ => False, rw_nil _ _, fun b hb => hb.elim⟩
        · cases hr⟩⟩
  case round =>
    obtain ⟨i, ss, tt, a1, n1, c1, a2, n2, c2, rfl, hi, hR, hT⟩ := hrel
    clear HG2
    by_cases hlt : i < n ∧ i < 40
    · obtain ⟨l1, l2⟩ := hlt
      have q1 : (i : Int) < (n : Int) := by omega
      have q2 : (i : Int) < 40 := by omega
      have q0 : (0 : Int) ≤ (i : Int) := by omega
      have lw : IntKind.i64.wrap ((i : Int) + 1) = ((i + 1 : Nat) : Int) := by rw [IntKind.wrap_i64]; omega
      obtain ⟨T, hT0⟩ : ∃ T : Int, 10 + (i : Int) = T := ⟨_, rfl⟩
      have hT1 : IntKind.i64.wrap T = T := by rw [IntKind.wrap_i64]; omega
      have hT2 : (i : Int) + 10 = T := by omega
      obtain ⟨b, o, c, rfl, hb, hok, hc⟩ := HC.out i l1
      have HRAN : Hid (∀ W, Below w.heap.size w W → W.rangeAt b (o + i * 16) c.cells) := hid (fun W hW j u hj => (hW.cell (p := ⟨b, o + i * 16 + j, none⟩) hb).trans (hc j u hj))
      clear hc
      by_cases h5 : (3000 : Int) < (c.val.size : Nat)
      · have k3 := (HRAN.out wr hT.out.1.1) 3 _ rfl
        have h5b : decide ((3000 : Int) < (c.val.size : Nat)) = true := decide_eq_true h5
        go_wp2_with fail
        go_roundw
        case measure => simp [RowKit.intOf] <;> omega
        case rel => exact ⟨i + 1, ss, tt, a1, n1, c1, a2, n2, c2, by first | rfl | go_num, by omega, hid ⟨hR.out.1.later (by omega), hR.out.2.1.mono (by omega), hR.out.2.2.mono (by omega)⟩, hid ((hT.out).only (fun r hr => by
            rcases List.mem_cons.1 hr with rfl | hr
            · exact List.mem_of_getElem? (i := 0) rfl
            · rcases List.mem_cons.1 hr with rfl | hr
              · exact List.mem_of_getElem? (i := 1) rfl
              · cases hr))⟩
      · have k3 := (HRAN.out wr hT.out.1.1) 3 _ rfl
        have h5b : decide ((3000 : Int) < (c.val.size : Nat)) = false := decide_eq_false h5
        obtain ⟨x2, an, hr⟩ : ∃ x2 an, apply ss T c 5000 = (x2, an) := ⟨_, _, rfl⟩
        have hq : apply tt T c 5000 = (x2, an) := by
          have h2 : Agree T ss tt := hT0 ▸ hR.out.1
          rw [← h2.apply c 5000, hr]
        have hfx : Fit (2 * i + 1) 65536 x2 := by
          have h2 := hR.out.2.1.apply (now := T) hok (most := 5000) (by decide)
          rw [hr] at h2; exact h2
        have HFX := hid hfx
        clear hfx
        go_upto_region 9 with fail
        clear k3
        go_upto_region 9 with fail
        refine wp_region_E (fun W => Blk W (P1) 25 (stv (.slice a1 n1 c1) ss) ∧ W.rangeAt b (o + i * 16) c.cells) 13 (by kernel_rfl) ?_
        have HA11 : Hid (Bxr w [(P2, 25, [.slice a2 n2 c2, .int .u64 (tt).cas, .int .i64 (tt).fl]), (P1, 25, [.slice a1 n1 c1, .int .u64 (ss).cas, .int .i64 (ss).fl])] [(.slice a1 n1 c1, ss.its), (.slice a2 n2 c2, tt.its)] wr.drew) := hid (hT.out.step (below_d wr))
        clear hT
        generalize wr.drew = A11 at *
        have hrl : ∀ W, Below w.heap.size w W → W.rangeAt b (o + i * 16) c.cells := HRAN.out
        have hS : Blk A11 (P1) 25 (stv (.slice a1 n1 c1) ss) ∧ A11.rangeAt b (o + i * 16) c.cells := ⟨HA11.out.1.get 1 rfl, hrl _ HA11.out.1.1⟩
        refine wpAnyE_take (i := 0) (v := .agg (stv (.slice a1 n1 c1) ss).toArray) rfl (by kernel_rfl) (by kernel_rfl) (by kernel_rfl) (fun _ _ _ h => h) (by kernel_rfl) (by kernel_rfl) hS (yieldsIf_load_mid rfl 25 _ rfl (P1) 0 rfl (stv (.slice a1 n1 c1) ss) _ (fun W hW => Blk.range hW.1) Tryd.underlying25 rfl (by kernel_rfl)) ?_
        refine wpAnyE_take (i := 1) (v := .int .i64 T) rfl (by kernel_rfl) (by kernel_rfl) (by kernel_rfl) (fun _ _ _ h => h) (by kernel_rfl) (by kernel_rfl) hS (Or.inl ⟨by rfl, fun w' _ => by go_simp⟩) ?_
        refine wpAnyE_take (i := 2) (v := .slice (some ⟨b, o, none⟩) n cc) rfl (by kernel_rfl) (by kernel_rfl) (by kernel_rfl) (fun _ _ _ h => h) (by kernel_rfl) (by kernel_rfl) hS (Or.inl ⟨by rfl, fun w' _ => by go_simp⟩) ?_
        refine wpAnyE_take (i := 3) (v := .int .i64 i) rfl (by kernel_rfl) (by kernel_rfl) (by kernel_rfl) (fun _ _ _ h => h) (by kernel_rfl) (by kernel_rfl) hS (Or.inl ⟨by rfl, fun w' _ => by go_simp⟩) ?_
        refine wpAnyE_take (i := 4) (v := .pointer (some ⟨b, o + i * 16, none⟩)) rfl (by kernel_rfl) (by kernel_rfl) (by kernel_rfl) (fun _ _ _ h => h) (by kernel_rfl) (by kernel_rfl) hS (Or.inl ⟨by rfl, fun w' _ => by go_simp⟩) ?_
        refine wpAnyE_take (i := 5) (v := .agg c.cells.toArray) rfl (by kernel_rfl) (by kernel_rfl) (by kernel_rfl) (fun _ _ _ h => h) (by kernel_rfl) (by kernel_rfl) hS (yieldsIf_load_mid rfl 28 _ rfl b (o + i * 16) (by kernel_rfl) c.cells _ (fun W hW => hW.2) Tryd.underlying28 rfl (by kernel_rfl)) ?_
        clear hS
        refine appd2 (c := c) (now := T) (most := 5000) (s := ss) _ _ 6 7 8 9 10 11 12 13 HA11.out (fun bs2 rs2 W h1 h2 => ⟨h1.blk (h2 _ (List.mem_of_getElem? (i := 1) rfl)), hrl _ h1.1.1⟩) (List.mem_of_getElem? (i := 0) rfl) hR.out.2.1 (by omega) (by decide) hok HV.out hr rfl rfl rfl rfl rfl rfl rfl rfl rfl rfl rfl rfl rfl rfl rfl rfl (by kernel_rfl) (by decide) rfl ⟨112, by kernel_rfl, by decide, by decide, by decide, by decide, by decide, by decide⟩ (by kernel_rfl) (by kernel_rfl) (by kernel_rfl) rfl rfl rfl (fun _ _ _ _ _ h => h) (by kernel_rfl) (by kernel_rfl) (by kernel_rfl) (fun P11 Q11 ax11 nx11 cx11 G11 hg11 => ?_)
        have HG11 : Hid (Bxr w [(Q11, 35, [.int .i64 an.st, .string an.it.key, .int .u32 an.it.flags, .string an.it.val, .int .i64 an.it.exp, .int .u64 an.it.cas, .int .i64 an.it.last, .bool an.it.stale, .bool an.it.won, .int .u64 an.n, .bool an.w, .bool an.x, .bool an.z]), (P11, 25, [.slice ax11 nx11 cx11, .int .u64 (x2).cas, .int .i64 (x2).fl]), (P2, 25, [.slice a2 n2 c2, .int .u64 (tt).cas, .int .i64 (tt).fl]), (P1, 25, [.slice a1 n1 c1, .int .u64 (ss).cas, .int .i64 (ss).fl])] [(.slice ax11 nx11 cx11, (x2).its), (.slice a1 n1 c1, ss.its), (.slice a2 n2 c2, tt.its)] G11) := hid hg11
        clear hg11 HA11 hrl
        go_simp
        go_upto_region 10 with fail
        refine wp_region_E (fun W => Blk W (P2) 25 (stv (.slice a2 n2 c2) tt) ∧ W.rangeAt b (o + i * 16) c.cells) 13 (by kernel_rfl) ?_
        have HA12 : Hid (Bxr w [(Q11, 35, [.int .i64 an.st, .string an.it.key, .int .u32 an.it.flags, .string an.it.val, .int .i64 an.it.exp, .int .u64 an.it.cas, .int .i64 an.it.last, .bool an.it.stale, .bool an.it.won, .int .u64 an.n, .bool an.w, .bool an.x, .bool an.z]), (P11, 25, [.slice ax11 nx11 cx11, .int .u64 (x2).cas, .int .i64 (x2).fl]), (P2, 25, [.slice a2 n2 c2, .int .u64 (tt).cas, .int .i64 (tt).fl]), (P1, 25, [.slice a1 n1 c1, .int .u64 (ss).cas, .int .i64 (ss).fl])] [(.slice ax11 nx11 cx11, (x2).its), (.slice a1 n1 c1, ss.its), (.slice a2 n2 c2, tt.its)] G11.drew) := hid (HG11.out.step (below_d G11))
        clear HG11
        generalize G11.drew = A12 at *
        have hrl : ∀ W, Below w.heap.size w W → W.rangeAt b (o + i * 16) c.cells := HRAN.out
        have hS : Blk A12 (P2) 25 (stv (.slice a2 n2 c2) tt) ∧ A12.rangeAt b (o + i * 16) c.cells := ⟨HA12.out.1.get 2 rfl, hrl _ HA12.out.1.1⟩
        refine wpAnyE_take (i := 0) (v := .agg (stv (.slice a2 n2 c2) tt).toArray) rfl (by kernel_rfl) (by kernel_rfl) (by kernel_rfl) (fun _ _ _ h => h) (by kernel_rfl) (by kernel_rfl) hS (yieldsIf_load_mid rfl 25 _ rfl (P2) 0 rfl (stv (.slice a2 n2 c2) tt) _ (fun W hW => Blk.range hW.1) Tryd.underlying25 rfl (by kernel_rfl)) ?_
        refine wpAnyE_take (i := 1) (v := .int .i64 T) rfl (by kernel_rfl) (by kernel_rfl) (by kernel_rfl) (fun _ _ _ h => h) (by kernel_rfl) (by kernel_rfl) hS (Or.inl ⟨by rfl, fun w' _ => by go_simp⟩) ?_
        refine wpAnyE_take (i := 2) (v := .slice (some ⟨b, o, none⟩) n cc) rfl (by kernel_rfl) (by kernel_rfl) (by kernel_rfl) (fun _ _ _ h => h) (by kernel_rfl) (by kernel_rfl) hS (Or.inl ⟨by rfl, fun w' _ => by go_simp⟩) ?_
        refine wpAnyE_take (i := 3) (v := .int .i64 i) rfl (by kernel_rfl) (by kernel_rfl) (by kernel_rfl) (fun _ _ _ h => h) (by kernel_rfl) (by kernel_rfl) hS (Or.inl ⟨by rfl, fun w' _ => by go_simp⟩) ?_
        refine wpAnyE_take (i := 4) (v := .pointer (some ⟨b, o + i * 16, none⟩)) rfl (by kernel_rfl) (by kernel_rfl) (by kernel_rfl) (fun _ _ _ h => h) (by kernel_rfl) (by kernel_rfl) hS (Or.inl ⟨by rfl, fun w' _ => by go_simp⟩) ?_
        refine wpAnyE_take (i := 5) (v := .agg c.cells.toArray) rfl (by kernel_rfl) (by kernel_rfl) (by kernel_rfl) (fun _ _ _ h => h) (by kernel_rfl) (by kernel_rfl) hS (yieldsIf_load_mid rfl 28 _ rfl b (o + i * 16) (by kernel_rfl) c.cells _ (fun W hW => hW.2) Tryd.underlying28 rfl (by kernel_rfl)) ?_
        clear hS
        refine appd2 (c := c) (now := T) (most := 5000) (s := tt) _ _ 6 7 8 9 10 11 12 13 HA12.out (fun bs2 rs2 W h1 h2 => ⟨h1.blk (h2 _ (List.mem_of_getElem? (i := 2) rfl)), hrl _ h1.1.1⟩) (List.mem_of_getElem? (i := 2) rfl) hR.out.2.2 (by omega) (by decide) hok HV.out hq rfl rfl rfl rfl rfl rfl rfl rfl rfl rfl rfl rfl rfl rfl rfl rfl (by kernel_rfl) (by decide) rfl ⟨112, by kernel_rfl, by decide, by decide, by decide, by decide, by decide, by decide⟩ (by kernel_rfl) (by kernel_rfl) (by kernel_rfl) rfl rfl rfl (fun _ _ _ _ _ h => h) (by kernel_rfl) (by kernel_rfl) (by kernel_rfl) (fun P12 Q12 ax12 nx12 cx12 G12 hg12 => ?_)
        have HG12 : Hid (Bxr w [(Q12, 35, [.int .i64 an.st, .string an.it.key, .int .u32 an.it.flags, .string an.it.val, .int .i64 an.it.exp, .int .u64 an.it.cas, .int .i64 an.it.last, .bool an.it.stale, .bool an.it.won, .int .u64 an.n, .bool an.w, .bool an.x, .bool an.z]), (P12, 25, [.slice ax12 nx12 cx12, .int .u64 (x2).cas, .int .i64 (x2).fl]), (Q11, 35, [.int .i64 an.st, .string an.it.key, .int .u32 an.it.flags, .string an.it.val, .int .i64 an.it.exp, .int .u64 an.it.cas, .int .i64 an.it.last, .bool an.it.stale, .bool an.it.won, .int .u64 an.n, .bool an.w, .bool an.x, .bool an.z]), (P11, 25, [.slice ax11 nx11 cx11, .int .u64 (x2).cas, .int .i64 (x2).fl]), (P2, 25, [.slice a2 n2 c2, .int .u64 (tt).cas, .int .i64 (tt).fl]), (P1, 25, [.slice a1 n1 c1, .int .u64 (ss).cas, .int .i64 (ss).fl])] [(.slice ax12 nx12 cx12, (x2).its), (.slice ax11 nx11 cx11, (x2).its), (.slice a1 n1 c1, ss.its), (.slice a2 n2 c2, tt.its)] G12) := hid hg12
        clear hg12 HA12 hrl
        go_simp
        go_upto_region 11 with fail
        have HA1 : Hid (Blk G12 (Q11) 35 an.cells) := hid (HG12.out.1.get 2 rfl)
        have HA2 : Hid (Blk G12 (Q12) 35 an.cells) := hid (HG12.out.1.get 0 rfl)
        refine wp_region_list ?_
        refine loadA rfl rfl rfl HA1.out rfl ?_
        refine loadA rfl rfl rfl HA2.out rfl ?_
        refine neqA (A := an) rfl rfl (by kernel_rfl) (by kernel_rfl) ?_
        refine wpList_nil ?_
        go_simp
        clear HA1 HA2
        have r0 := (HG12.out.1.get 2 rfl).cell (i := 0) rfl
        by_cases h0 : an.st = 0
        · rw [h0] at r0
          go_wp2_with fail
          go_roundw
          case measure => simp [RowKit.intOf] <;> omega
          case rel => exact ⟨i + 1, ss, tt, a1, n1, c1, a2, n2, c2, by first | rfl | go_num, by omega, hid ⟨hR.out.1.later (by omega), hR.out.2.1.mono (by omega), hR.out.2.2.mono (by omega)⟩, hid ((HG12.out.drop1.drop1.drop1.drop1).only (fun r hr => by
              rcases List.mem_cons.1 hr with rfl | hr
              · exact List.mem_of_getElem? (i := 2) rfl
              · rcases List.mem_cons.1 hr with rfl | hr
                · exact List.mem_of_getElem? (i := 3) rfl
                · cases hr))⟩
        · have h1 : (an.st == 0) = false := beq_eq_false_iff_ne.2 h0
          go_upto_region 14 with fail
          clear r0
          refine wp_region_list ?_
          refine loadS (cs := [.slice ax11 nx11 cx11, .int .u64 (x2).cas, .int .i64 (x2).fl]) rfl rfl rfl (HG12.out.1.get 3 rfl) rfl ?_
          refine wpList_stor (b := P1) (cs := [.slice ax11 nx11 cx11, .int .u64 (x2).cas, .int .i64 (x2).fl]) rfl rfl rfl rfl rfl (HG12.out.1.get 5 rfl) rfl (by kernel_rfl) rfl ?_
          have HG13 : Hid (Bxr w [(Q12, 35, [.int .i64 an.st, .string an.it.key, .int .u32 an.it.flags, .string an.it.val, .int .i64 an.it.exp, .int .u64 an.it.cas, .int .i64 an.it.last, .bool an.it.stale, .bool an.it.won, .int .u64 an.n, .bool an.w, .bool an.x, .bool an.z]), (P12, 25, [.slice ax12 nx12 cx12, .int .u64 (x2).cas, .int .i64 (x2).fl]), (Q11, 35, [.int .i64 an.st, .string an.it.key, .int .u32 an.it.flags, .string an.it.val, .int .i64 an.it.exp, .int .u64 an.it.cas, .int .i64 an.it.last, .bool an.it.stale, .bool an.it.won, .int .u64 an.n, .bool an.w, .bool an.x, .bool an.z]), (P11, 25, [.slice ax11 nx11 cx11, .int .u64 (x2).cas, .int .i64 (x2).fl]), (P2, 25, [.slice a2 n2 c2, .int .u64 (tt).cas, .int .i64 (tt).fl]), (P1, 25, [.slice ax11 nx11 cx11, .int .u64 (x2).cas, .int .i64 (x2).fl])] [(.slice ax12 nx12 cx12, (x2).its), (.slice ax11 nx11 cx11, (x2).its), (.slice a1 n1 c1, ss.its), (.slice a2 n2 c2, tt.its)] (G12.setCells (P1) 0 [.slice ax11 nx11 cx11, .int .u64 (x2).cas, .int .i64 (x2).fl])) := hid (HG12.out.setc 5 (vs := [.slice ax11 nx11 cx11, .int .u64 (x2).cas, .int .i64 (x2).fl]) rfl rfl)
          clear HG12
          generalize (G12.setCells (P1) 0 [.slice ax11 nx11 cx11, .int .u64 (x2).cas, .int .i64 (x2).fl]) = G13 at *
          refine wpList_nil ?_
          go_simp
          go_upto_region 15 with fail
          refine wp_region_list ?_
          refine loadS (cs := [.slice ax12 nx12 cx12, .int .u64 (x2).cas, .int .i64 (x2).fl]) rfl rfl rfl (HG13.out.1.get 1 rfl) rfl ?_
          refine wpList_stor (b := P2) (cs := [.slice ax12 nx12 cx12, .int .u64 (x2).cas, .int .i64 (x2).fl]) rfl rfl rfl rfl rfl (HG13.out.1.get 4 rfl) rfl (by kernel_rfl) rfl ?_
          have HG14 : Hid (Bxr w [(Q12, 35, [.int .i64 an.st, .string an.it.key, .int .u32 an.it.flags, .string an.it.val, .int .i64 an.it.exp, .int .u64 an.it.cas, .int .i64 an.it.last, .bool an.it.stale, .bool an.it.won, .int .u64 an.n, .bool an.w, .bool an.x, .bool an.z]), (P12, 25, [.slice ax12 nx12 cx12, .int .u64 (x2).cas, .int .i64 (x2).fl]), (Q11, 35, [.int .i64 an.st, .string an.it.key, .int .u32 an.it.flags, .string an.it.val, .int .i64 an.it.exp, .int .u64 an.it.cas, .int .i64 an.it.last, .bool an.it.stale, .bool an.it.won, .int .u64 an.n, .bool an.w, .bool an.x, .bool an.z]), (P11, 25, [.slice ax11 nx11 cx11, .int .u64 (x2).cas, .int .i64 (x2).fl]), (P2, 25, [.slice ax12 nx12 cx12, .int .u64 (x2).cas, .int .i64 (x2).fl]), (P1, 25, [.slice ax11 nx11 cx11, .int .u64 (x2).cas, .int .i64 (x2).fl])] [(.slice ax12 nx12 cx12, (x2).its), (.slice ax11 nx11 cx11, (x2).its), (.slice a1 n1 c1, ss.its), (.slice a2 n2 c2, tt.its)] (G13.setCells (P2) 0 [.slice ax12 nx12 cx12, .int .u64 (x2).cas, .int .i64 (x2).fl])) := hid (HG13.out.setc 4 (vs := [.slice ax12 nx12 cx12, .int .u64 (x2).cas, .int .i64 (x2).fl]) rfl rfl)
          clear HG13
          generalize (G13.setCells (P2) 0 [.slice ax12 nx12 cx12, .int .u64 (x2).cas, .int .i64 (x2).fl]) = G14 at *
          refine wpList_nil ?_
          go_simp
          obtain ⟨l2, ln, hl⟩ : ∃ l2 ln, apply x2 T (cLook key) 5000 = (l2, ln) := ⟨_, _, rfl⟩
          obtain ⟨g2, gn, hgt⟩ : ∃ g2 gn, apply x2 T (cGet key) 5000 = (g2, gn) := ⟨_, _, rfl⟩
          have hlg := look_get (s := x2) (now := T) (most := 5000) key
          rw [hl, hgt] at hlg
          obtain ⟨v1, v2, v3⟩ := hlg
          have V1 := hid v1
          have V2 := hid v2
          have V3 := hid v3
          clear v1 v2 v3
          go_upto_region 16 with fail
          refine wp_region_list ?_
          refine loadS (cs := [.slice ax11 nx11 cx11, .int .u64 (x2).cas, .int .i64 (x2).fl]) rfl rfl rfl (HG14.out.1.get 5 rfl) rfl ?_
          refine wpList_val (v := .int .i64 T) (w' := G14) rfl (by kernel_rfl) ?_
          refine wpList_val (v := .string key) (w' := G14) rfl (by kernel_rfl) ?_
          refine wpList_val (v := (cLook key).v) (w' := G14) rfl (by kernel_rfl) ?_
          refine app2 (s := x2) (now := T) (c := cLook key) (most := 5000) HG14.out (HG14.out.its 1 rfl) HFX.out (by omega) (by decide) (clook_ok key) HV.out hl rfl rfl rfl rfl rfl rfl rfl rfl rfl rfl (by decide) ⟨112, by kernel_rfl, by decide, by decide, by decide, by decide, by decide, by decide⟩ (by kernel_rfl) (by kernel_rfl) (by kernel_rfl) (fun P15 ax15 nx15 cx15 G15 hg15 => ?_)
          have HG15 : Hid (Bxr w [(P15 + 1, 35, [.int .i64 ln.st, .string ln.it.key, .int .u32 ln.it.flags, .string ln.it.val, .int .i64 ln.it.exp, .int .u64 ln.it.cas, .int .i64 ln.it.last, .bool ln.it.stale, .bool ln.it.won, .int .u64 ln.n, .bool ln.w, .bool ln.x, .bool ln.z]), (P15, 25, [.slice ax15 nx15 cx15, .int .u64 (l2).cas, .int .i64 (l2).fl]), (Q12, 35, [.int .i64 an.st, .string an.it.key, .int .u32 an.it.flags, .string an.it.val, .int .i64 an.it.exp, .int .u64 an.it.cas, .int .i64 an.it.last, .bool an.it.stale, .bool an.it.won, .int .u64 an.n, .bool an.w, .bool an.x, .bool an.z]), (P12, 25, [.slice ax12 nx12 cx12, .int .u64 (x2).cas, .int .i64 (x2).fl]), (Q11, 35, [.int .i64 an.st, .string an.it.key, .int .u32 an.it.flags, .string an.it.val, .int .i64 an.it.exp, .int .u64 an.it.cas, .int .i64 an.it.last, .bool an.it.stale, .bool an.it.won, .int .u64 an.n, .bool an.w, .bool an.x, .bool an.z]), (P11, 25, [.slice ax11 nx11 cx11, .int .u64 (x2).cas, .int .i64 (x2).fl]), (P2, 25, [.slice ax12 nx12 cx12, .int .u64 (x2).cas, .int .i64 (x2).fl]), (P1, 25, [.slice ax11 nx11 cx11, .int .u64 (x2).cas, .int .i64 (x2).fl])] [(.slice ax15 nx15 cx15, (l2).its), (.slice ax12 nx12 cx12, (x2).its), (.slice ax11 nx11 cx11, (x2).its), (.slice a1 n1 c1, ss.its), (.slice a2 n2 c2, tt.its)] G15) := hid hg15
          clear hg15 HG14
          go_simp
          go_upto_region 17 with fail
          refine wp_region_E (fun W => Blk W (P1) 25 (stv (.slice ax11 nx11 cx11) x2)) 11 (by kernel_rfl) ?_
          have HA16 : Hid (Bxr w [(P15 + 1, 35, [.int .i64 ln.st, .string ln.it.key, .int .u32 ln.it.flags, .string ln.it.val, .int .i64 ln.it.exp, .int .u64 ln.it.cas, .int .i64 ln.it.last, .bool ln.it.stale, .bool ln.it.won, .int .u64 ln.n, .bool ln.w, .bool ln.x, .bool ln.z]), (P15, 25, [.slice ax15 nx15 cx15, .int .u64 (l2).cas, .int .i64 (l2).fl]), (Q12, 35, [.int .i64 an.st, .string an.it.key, .int .u32 an.it.flags, .string an.it.val, .int .i64 an.it.exp, .int .u64 an.it.cas, .int .i64 an.it.last, .bool an.it.stale, .bool an.it.won, .int .u64 an.n, .bool an.w, .bool an.x, .bool an.z]), (P12, 25, [.slice ax12 nx12 cx12, .int .u64 (x2).cas, .int .i64 (x2).fl]), (Q11, 35, [.int .i64 an.st, .string an.it.key, .int .u32 an.it.flags, .string an.it.val, .int .i64 an.it.exp, .int .u64 an.it.cas, .int .i64 an.it.last, .bool an.it.stale, .bool an.it.won, .int .u64 an.n, .bool an.w, .bool an.x, .bool an.z]), (P11, 25, [.slice ax11 nx11 cx11, .int .u64 (x2).cas, .int .i64 (x2).fl]), (P2, 25, [.slice ax12 nx12 cx12, .int .u64 (x2).cas, .int .i64 (x2).fl]), (P1, 25, [.slice ax11 nx11 cx11, .int .u64 (x2).cas, .int .i64 (x2).fl])] [(.slice ax15 nx15 cx15, (l2).its), (.slice ax12 nx12 cx12, (x2).its), (.slice ax11 nx11 cx11, (x2).its), (.slice a1 n1 c1, ss.its), (.slice a2 n2 c2, tt.its)] G15.drew) := hid (HG15.out.step (below_d G15))
          clear HG15
          generalize G15.drew = A16 at *
          have hS : Blk A16 (P1) 25 (stv (.slice ax11 nx11 cx11) x2) := HA16.out.1.get 7 rfl
          refine wpAnyE_take (i := 0) (v := .agg #[.slice ax11 nx11 cx11, .int .u64 x2.cas, .int .i64 x2.fl]) rfl (by kernel_rfl) (by kernel_rfl) (by kernel_rfl) (fun _ _ _ h => h) (by kernel_rfl) (by kernel_rfl) hS (Or.inl ⟨by rfl, ?_⟩) ?_
          · intro w' hw'
            have u0 := hw'.cell (i := 0) (v := .slice ax11 nx11 cx11) rfl
            have u1 := hw'.cell (i := 1) (v := .int .u64 (x2).cas) rfl
            have u2 := hw'.cell (i := 2) (v := .int .i64 (x2).fl) rfl
            go_simp
          refine wpAnyE_take (i := 1) (v := .int .i64 T) rfl (by kernel_rfl) (by kernel_rfl) (by kernel_rfl) (fun _ _ _ h => h) (by kernel_rfl) (by kernel_rfl) hS (Or.inl ⟨by rfl, ?_⟩) ?_
          · intro w' hw'
            go_simp
          refine wpAnyE_take (i := 2) (v := .string key) rfl (by kernel_rfl) (by kernel_rfl) (by kernel_rfl) (fun _ _ _ h => h) (by kernel_rfl) (by kernel_rfl) hS (Or.inl ⟨by rfl, ?_⟩) ?_
          · intro w' hw'
            go_simp
          clear hS
          refine get2 (k := key) (now := T) (most := 5000) _ _ 3 4 5 6 7 8 9 10 11 HA16.out (List.mem_of_getElem? (i := 7) rfl) (List.mem_of_getElem? (i := 2) rfl) HFX.out (by omega) (by decide) HV.out hgt rfl rfl rfl rfl rfl rfl rfl rfl rfl rfl rfl rfl rfl rfl rfl rfl rfl (by kernel_rfl) (by decide) rfl ⟨112, by kernel_rfl, by decide, by decide, by decide, by decide, by decide, by decide, by decide⟩ rfl rfl rfl rfl rfl rfl rfl (fun _ _ _ _ _ h => h) (by kernel_rfl) (by kernel_rfl) (by kernel_rfl) (fun P16 Q16 ax16 nx16 cx16 G16 hg16 => ?_)
          have HG16 : Hid (Bxr w [(Q16, 35, [.int .i64 gn.st, .string gn.it.key, .int .u32 gn.it.flags, .string gn.it.val, .int .i64 gn.it.exp, .int .u64 gn.it.cas, .int .i64 gn.it.last, .bool gn.it.stale, .bool gn.it.won, .int .u64 gn.n, .bool gn.w, .bool gn.x, .bool gn.z]), (P16, 25, [.slice ax16 nx16 cx16, .int .u64 (g2).cas, .int .i64 (g2).fl]), (P15 + 1, 35, [.int .i64 ln.st, .string ln.it.key, .int .u32 ln.it.flags, .string ln.it.val, .int .i64 ln.it.exp, .int .u64 ln.it.cas, .int .i64 ln.it.last, .bool ln.it.stale, .bool ln.it.won, .int .u64 ln.n, .bool ln.w, .bool ln.x, .bool ln.z]), (P15, 25, [.slice ax15 nx15 cx15, .int .u64 (l2).cas, .int .i64 (l2).fl]), (Q12, 35, [.int .i64 an.st, .string an.it.key, .int .u32 an.it.flags, .string an.it.val, .int .i64 an.it.exp, .int .u64 an.it.cas, .int .i64 an.it.last, .bool an.it.stale, .bool an.it.won, .int .u64 an.n, .bool an.w, .bool an.x, .bool an.z]), (P12, 25, [.slice ax12 nx12 cx12, .int .u64 (x2).cas, .int .i64 (x2).fl]), (Q11, 35, [.int .i64 an.st, .string an.it.key, .int .u32 an.it.flags, .string an.it.val, .int .i64 an.it.exp, .int .u64 an.it.cas, .int .i64 an.it.last, .bool an.it.stale, .bool an.it.won, .int .u64 an.n, .bool an.w, .bool an.x, .bool an.z]), (P11, 25, [.slice ax11 nx11 cx11, .int .u64 (x2).cas, .int .i64 (x2).fl]), (P2, 25, [.slice ax12 nx12 cx12, .int .u64 (x2).cas, .int .i64 (x2).fl]), (P1, 25, [.slice ax11 nx11 cx11, .int .u64 (x2).cas, .int .i64 (x2).fl])] [(.slice ax16 nx16 cx16, (g2).its), (.slice ax15 nx15 cx15, (l2).its), (.slice ax12 nx12 cx12, (x2).its), (.slice ax11 nx11 cx11, (x2).its), (.slice a1 n1 c1, ss.its), (.slice a2 n2 c2, tt.its)] G16) := hid hg16
          clear hg16 HA16
          go_simp
          have c0 := (HG16.out.1.get 2 rfl).cell (i := 0) rfl
          have c3 := (HG16.out.1.get 2 rfl).cell (i := 3) rfl
          have c5 := (HG16.out.1.get 2 rfl).cell (i := 5) rfl
          have d0 := (HG16.out.1.get 0 rfl).cell (i := 0) rfl
          have d3 := (HG16.out.1.get 0 rfl).cell (i := 3) rfl
          have d5 := (HG16.out.1.get 0 rfl).cell (i := 5) rfl
          rw [← V1.out] at d0
          rw [← V2.out] at d3
          rw [← V3.out] at d5
          by_cases h2 : ln.st = 0
          · rw [h2] at c0 d0
            go_wp2_with fail
            go_roundw
            case measure => simp [RowKit.intOf] <;> omega
            case rel => exact ⟨i + 1, x2, x2, ax11, nx11, cx11, ax12, nx12, cx12, by first | rfl | go_num, by omega, hid ⟨fun _ _ => rfl, HFX.out.mono (by omega), HFX.out.mono (by omega)⟩, hid ((HG16.out.drop1.drop1.drop1.drop1.drop1.drop1.drop1.drop1).only (fun r hr => by
                rcases List.mem_cons.1 hr with rfl | hr
                · exact List.mem_of_getElem? (i := 3) rfl
                · rcases List.mem_cons.1 hr with rfl | hr
                  · exact List.mem_of_getElem? (i := 2) rfl
                  · cases hr))⟩
          · have h3 : (ln.st == 0) = false := beq_eq_false_iff_ne.2 h2
            have hlk : Agree (10 + ((i + 1 : Nat) : Int)) l2 x2 ∧ Fit (2 * (i + 1)) 65536 l2 := by
              have hf : fine T (cLook key) = true := look_zero (s := x2) (most := 5000) (by rw [hl]; exact h2)
              have h4 := agree_look (s := x2) (most := 5000) hf
              have h5 := HFX.out.apply (now := T) (clook_ok key) (most := 5000) (by decide)
              rw [hl] at h4 h5
              exact ⟨h4.later (by omega), h5⟩
            have HLK := hid hlk
            clear hlk
            go_upto_region 21 with fail
            clear c0 c3 c5 d0 d3 d5
            refine wp_region_list ?_
            refine loadS (cs := [.slice ax15 nx15 cx15, .int .u64 (l2).cas, .int .i64 (l2).fl]) rfl rfl rfl (HG16.out.1.get 3 rfl) rfl ?_
            refine wpList_stor (b := P1) (cs := [.slice ax15 nx15 cx15, .int .u64 (l2).cas, .int .i64 (l2).fl]) rfl rfl rfl rfl rfl (HG16.out.1.get 9 rfl) rfl (by kernel_rfl) rfl ?_
            have HG17 : Hid (Bxr w [(Q16, 35, [.int .i64 gn.st, .string gn.it.key, .int .u32 gn.it.flags, .string gn.it.val, .int .i64 gn.it.exp, .int .u64 gn.it.cas, .int .i64 gn.it.last, .bool gn.it.stale, .bool gn.it.won, .int .u64 gn.n, .bool gn.w, .bool gn.x, .bool gn.z]), (P16, 25, [.slice ax16 nx16 cx16, .int .u64 (g2).cas, .int .i64 (g2).fl]), (P15 + 1, 35, [.int .i64 ln.st, .string ln.it.key, .int .u32 ln.it.flags, .string ln.it.val, .int .i64 ln.it.exp, .int .u64 ln.it.cas, .int .i64 ln.it.last, .bool ln.it.stale, .bool ln.it.won, .int .u64 ln.n, .bool ln.w, .bool ln.x, .bool ln.z]), (P15, 25, [.slice ax15 nx15 cx15, .int .u64 (l2).cas, .int .i64 (l2).fl]), (Q12, 35, [.int .i64 an.st, .string an.it.key, .int .u32 an.it.flags, .string an.it.val, .int .i64 an.it.exp, .int .u64 an.it.cas, .int .i64 an.it.last, .bool an.it.stale, .bool an.it.won, .int .u64 an.n, .bool an.w, .bool an.x, .bool an.z]), (P12, 25, [.slice ax12 nx12 cx12, .int .u64 (x2).cas, .int .i64 (x2).fl]), (Q11, 35, [.int .i64 an.st, .string an.it.key, .int .u32 an.it.flags, .string an.it.val, .int .i64 an.it.exp, .int .u64 an.it.cas, .int .i64 an.it.last, .bool an.it.stale, .bool an.it.won, .int .u64 an.n, .bool an.w, .bool an.x, .bool an.z]), (P11, 25, [.slice ax11 nx11 cx11, .int .u64 (x2).cas, .int .i64 (x2).fl]), (P2, 25, [.slice ax12 nx12 cx12, .int .u64 (x2).cas, .int .i64 (x2).fl]), (P1, 25, [.slice ax15 nx15 cx15, .int .u64 (l2).cas, .int .i64 (l2).fl])] [(.slice ax16 nx16 cx16, (g2).its), (.slice ax15 nx15 cx15, (l2).its), (.slice ax12 nx12 cx12, (x2).its), (.slice ax11 nx11 cx11, (x2).its), (.slice a1 n1 c1, ss.its), (.slice a2 n2 c2, tt.its)] (G16.setCells (P1) 0 [.slice ax15 nx15 cx15, .int .u64 (l2).cas, .int .i64 (l2).fl])) := hid (HG16.out.setc 9 (vs := [.slice ax15 nx15 cx15, .int .u64 (l2).cas, .int .i64 (l2).fl]) rfl rfl)
            clear HG16
            generalize (G16.setCells (P1) 0 [.slice ax15 nx15 cx15, .int .u64 (l2).cas, .int .i64 (l2).fl]) = G17 at *
            refine wpList_nil ?_
            go_simp
            go_wp2_with fail
            go_roundw
            case measure => simp [RowKit.intOf] <;> omega
            case rel => exact ⟨i + 1, l2, x2, ax15, nx15, cx15, ax12, nx12, cx12, by first | rfl | go_num, by omega, hid ⟨HLK.out.1, HLK.out.2, HFX.out.mono (by omega)⟩, hid ((HG17.out.drop1.drop1.drop1.drop1.drop1.drop1.drop1.drop1).only (fun r hr => by
                rcases List.mem_cons.1 hr with rfl | hr
                · exact List.mem_of_getElem? (i := 1) rfl
                · rcases List.mem_cons.1 hr with rfl | hr
                  · exact List.mem_of_getElem? (i := 2) rfl
                  · cases hr))⟩
    · by_cases h1 : i < n
      · have e1 : (i : Int) < (n : Int) := by omega
        have e2 : ¬ (i : Int) < 40 := by omega
        have e3 : decide ((i : Int) < 40) = false := decide_eq_false e2
        have e4 : decide ((i : Int) < (n : Int)) = true := decide_eq_true e1
        have e5 : decide (i < n) = true := decide_eq_true h1
        go_wp2_with fail
        go_ret
        exact ⟨rfl, hT.out.1.1⟩
      · have e1 : ¬ (i : Int) < (n : Int) := by omega
        have e3 : decide ((i : Int) < (n : Int)) = false := decide_eq_false e1
        have e5 : decide (i < n) = false := decide_eq_false h1
        go_wp2_with fail
        go_ret
        exact ⟨rfl, hT.out.1.1⟩
end Go.Proofs.YtkaaebjifkbclaaDoor.Md
