/-
  The law ModelApplies: what the program's Apply makes of any right state is what the document's makes, and what was handed in stays. Conditions: the state can be read and weighs what a machine bears; numbers are in their types' ranges; the library's variables are as they begin.
-/
import Derived.Test.YtpgljahomeebhaaDoorM10
import Derived.Test.YtpgljahomeebhaaDoorM13
import Derived.Test.YtpgljahomeebhaaDoorMpShown
import Derived.Test.YtpgljahomeebhaaDoorM7
namespace Go.Proofs.YtpgljahomeebhaaDoor.Md
open Go Go.RowKit Go.Lib

def qIt : It := ⟨⟨#[63]⟩, 0, emp, 0, 0, 0, false, false⟩
/-- The list that the program's Apply made: a block of its own. -/
def Yr (B Py : Nat) (ay : Option Addr) (n cy : Nat) (W : World) : Prop := n = 0 ∨ ∃ g cur, ay = some ⟨g, 0, none⟩ ∧ Blk W g 33 cur ∧ cur.length = cy * 8 ∧ n ≤ cy ∧ B ≤ g ∧ g ≠ Py
theorem Yr.below {B Py n cy : Nat} {ay : Option Addr} {W W' : World} (h : Yr B Py ay n cy W) (hb : Below W.heap.size W W') : Yr B Py ay n cy W' := by
  rcases h with h | ⟨g, cur, h1, h2, h3⟩
  · exact .inl h
  · exact .inr ⟨g, cur, h1, h2.below hb, h3⟩
theorem yr_of {B Py n cy : Nat} {ay : Option Addr} {W : World} {l : List It} (h : Rw (fun x => B ≤ x ∧ x ≠ Py ∧ x ≠ Py + 1) W (.slice ay n cy) l) (hn : n = l.length) : Yr B Py ay n cy W := by
  rcases h.pl with ⟨e, h0⟩ | ⟨g, c, e, hg, hp⟩
  · exact .inl (by rw [hn, h0]; rfl)
  · injection e with e1 e2 e3
    obtain ⟨cur, h1, h2, h3⟩ := hp.blk
    exact .inr ⟨g, cur, e1, h1, by rw [h2, e3], by rw [hn, e3]; exact hp.le, hg.1, hg.2.1⟩
theorem begin2 (w : World) (C0 C1 : Array Value) : Bxr w [(w.heap.size + 1, 28, C1.toList), (w.heap.size, 25, C0.toList)] [] ((w.alloc (.cells C0 25)).alloc (.cells C1 28)) := by
  have h := ((Bxr.begin w).new C0 25).new C1 28
  simp only [World.size_alloc] at h
  exact h
set_option maxRecDepth 100000 in
set_option maxHeartbeats 40000000 in
theorem applies_law {w : World} {V : Value} {s : Ms} (HS : Sv w V s) (hok : ∀ x ∈ s.its, It.Ok x) (hcas : s.cas ≤ 18446744073709551615) (hf1 : s.fl ≤ 9223372036854775807) (hlen : s.its.length ≤ 281474976710656) (hks : ∀ x ∈ s.its, x.key.size < 9223372036854775807) {c : Cm} (ck : c.Ok) (hck : c.key.size < 9223372036854775807) (now most : Int) (hv : Nu.Vars w) :
    Calls Tryd.prog 3 #[V, .int .i64 now, c.v, .int .i64 most] w fun e w' => e = .returned (.bool true) ∧ Below w.heap.size w w' := by
  obtain ⟨v, rfl, HI0⟩ := HS
  obtain ⟨a, ca, rfl⟩ := HI0.form
  obtain ⟨N, hN⟩ : ∃ N, N = s.its.length := ⟨_, rfl⟩
  rw [← hN] at HI0 ⊢
  have HN := hid hN
  have HI := hid HI0
  have HV := hid hv
  have HO := hid hok
  have HKS := hid hks
  have HL := hid hlen
  clear HI0 hN hv hok hks hlen
  have HF := hid (And.intro hcas hf1)
  have HCK := hid (And.intro ck hck)
  clear hcas hf1 ck hck
  change Calls Tryd.prog 3 #[.agg #[.slice a N ca, .int .u64 s.cas, .int .i64 s.fl], .int .i64 now, .agg #[.int .i64 c.op, .int .i64 c.mode, .string c.key, .string c.val, .int .u32 c.flags, .int .i64 c.exp, .bool c.hasExp, .int .u64 c.cas, .bool c.hasCas, .int .u64 c.delta, .int .u64 c.init, .bool c.down, .bool c.viv, .int .i64 c.vive, .int .i64 c.rcc, .bool c.inv], .int .i64 most] w _
  have HB : Hid (Bxr w [(w.heap.size + 1, 28, [.int .i64 c.op, .int .i64 c.mode, .string c.key, .string c.val, .int .u32 c.flags, .int .i64 c.exp, .bool c.hasExp, .int .u64 c.cas, .bool c.hasCas, .int .u64 c.delta, .int .u64 c.init, .bool c.down, .bool c.viv, .int .i64 c.vive, .int .i64 c.rcc, .bool c.inv]), (w.heap.size, 25, [.slice a N ca, .int .u64 s.cas, .int .i64 s.fl])] [] ((w.alloc (.cells #[.slice a N ca, .int .u64 s.cas, .int .i64 s.fl] 25)).alloc (.cells #[.int .i64 c.op, .int .i64 c.mode, .string c.key, .string c.val, .int .u32 c.flags, .int .i64 c.exp, .bool c.hasExp, .int .u64 c.cas, .bool c.hasCas, .int .u64 c.delta, .int .u64 c.init, .bool c.down, .bool c.viv, .int .i64 c.vive, .int .i64 c.rcc, .bool c.inv] 28))) := hid (begin2 w #[.slice a N ca, .int .u64 s.cas, .int .i64 s.fl] #[.int .i64 c.op, .int .i64 c.mode, .string c.key, .string c.val, .int .u32 c.flags, .int .i64 c.exp, .bool c.hasExp, .int .u64 c.cas, .bool c.hasCas, .int .u64 c.delta, .int .u64 c.init, .bool c.down, .bool c.viv, .int .i64 c.vive, .int .i64 c.rcc, .bool c.inv])
  go_enter Tryd.func3, Tryd.ntmps3
  go_upto_region 1 with fail
  generalize hW0 : ((w.alloc (.cells #[.slice a N ca, .int .u64 s.cas, .int .i64 s.fl] 25)).alloc (.cells #[.int .i64 c.op, .int .i64 c.mode, .string c.key, .string c.val, .int .u32 c.flags, .int .i64 c.exp, .bool c.hasExp, .int .u64 c.cas, .bool c.hasCas, .int .u64 c.delta, .int .u64 c.init, .bool c.down, .bool c.viv, .int .i64 c.vive, .int .i64 c.rcc, .bool c.inv] 28)) = W0 at *
  clear hW0
  go_wp2_with fail
  refine (shown_any W0 (HV.out.below HB.out.1.1)).mono ?_
  rintro e0 W1 ⟨rfl, hb1⟩
  have HB1 : Hid (Bxr w [(w.heap.size + 1, 28, [.int .i64 c.op, .int .i64 c.mode, .string c.key, .string c.val, .int .u32 c.flags, .int .i64 c.exp, .bool c.hasExp, .int .u64 c.cas, .bool c.hasCas, .int .u64 c.delta, .int .u64 c.init, .bool c.down, .bool c.viv, .int .i64 c.vive, .int .i64 c.rcc, .bool c.inv]), (w.heap.size, 25, [.slice a N ca, .int .u64 s.cas, .int .i64 s.fl])] [] W1) := hid (HB.out.step hb1)
  clear hb1 HB
  go_upto_region 2 with fail
  refine wp_region_list ?_
  refine loadS (cs := [.slice a N ca, .int .u64 s.cas, .int .i64 s.fl]) rfl rfl rfl (HB1.out.1.get 1 rfl) rfl ?_
  refine wpList_calls (f := 13) (args := #[.agg #[.slice a N ca, .int .u64 s.cas, .int .i64 s.fl]]) rfl (by kernel_rfl) ?_
  refine (large_any (s := s) (V := .agg #[.slice a N ca, .int .u64 s.cas, .int .i64 s.fl]) ⟨_, rfl, HI.out.below HB1.out.1.1⟩).mono ?_
  rintro e W2 ⟨lb, rfl, hl, hb⟩
  refine ⟨_, rfl, ?_⟩
  have HB2 : Hid (Bxr w [(w.heap.size + 1, 28, [.int .i64 c.op, .int .i64 c.mode, .string c.key, .string c.val, .int .u32 c.flags, .int .i64 c.exp, .bool c.hasExp, .int .u64 c.cas, .bool c.hasCas, .int .u64 c.delta, .int .u64 c.init, .bool c.down, .bool c.viv, .int .i64 c.vive, .int .i64 c.rcc, .bool c.inv]), (w.heap.size, 25, [.slice a N ca, .int .u64 s.cas, .int .i64 s.fl])] [] W2) := hid (HB1.out.step hb)
  have HLB := hid hl
  clear hb HB1 hl
  refine wpList_val (v := .bool lb) (w' := W2) rfl (by kernel_rfl) ?_
  refine wpList_nil ?_
  go_simp
  go_upto_region 3 with fail
  refine wp_region_list ?_
  refine loadS (cs := [.slice a N ca, .int .u64 s.cas, .int .i64 s.fl]) rfl rfl rfl (HB2.out.1.get 1 rfl) rfl ?_
  refine wpList_calls (f := 14) (args := #[.agg #[.slice a N ca, .int .u64 s.cas, .int .i64 s.fl]]) rfl (by kernel_rfl) ?_
  refine (right_state (s := s) (V := .agg #[.slice a N ca, .int .u64 s.cas, .int .i64 s.fl]) ⟨_, rfl, HI.out.below HB2.out.1.1⟩ HL.out HKS.out).mono ?_
  rintro e W3 ⟨rb, rfl, hr0, hb⟩
  refine ⟨_, rfl, ?_⟩
  have HB3 : Hid (Bxr w [(w.heap.size + 1, 28, [.int .i64 c.op, .int .i64 c.mode, .string c.key, .string c.val, .int .u32 c.flags, .int .i64 c.exp, .bool c.hasExp, .int .u64 c.cas, .bool c.hasCas, .int .u64 c.delta, .int .u64 c.init, .bool c.down, .bool c.viv, .int .i64 c.vive, .int .i64 c.rcc, .bool c.inv]), (w.heap.size, 25, [.slice a N ca, .int .u64 s.cas, .int .i64 s.fl])] [] W3) := hid (HB2.out.step hb)
  have HRB := hid hr0
  clear hb HB2 hr0
  refine wpList_val (v := .bool rb) (w' := W3) rfl (by kernel_rfl) ?_
  refine wpList_nil ?_
  go_simp
  have k3 := (HB3.out.1.get 0 rfl).cell (i := 3) rfl
  cases lb with
  | true =>
    clear HLB HRB
    go_wp2_with fail
    go_ret
    exact ⟨rfl, HB3.out.1.1⟩
  | false =>
  cases rb with
  | false =>
    clear HLB HRB
    go_wp2_with fail
    go_ret
    exact ⟨rfl, HB3.out.1.1⟩
  | true =>
  by_cases hsz : (200000 : Int) < (c.val.size : Nat)
  · have hszd : decide ((200000 : Int) < (c.val.size : Nat)) = true := decide_eq_true hsz
    clear HLB HRB
    go_wp2_with fail
    go_ret
    exact ⟨rfl, HB3.out.1.1⟩
  have hszd : decide ((200000 : Int) < (c.val.size : Nat)) = false := decide_eq_false hsz
  clear hsz
  obtain ⟨s2, an, hr⟩ : ∃ s2 an, apply s now c most = (s2, an) := ⟨_, _, rfl⟩
  have hfit : Fit 200 65536 s := (HRB.out rfl).1.fit HO.out HF.out.1 (HRB.out rfl).2 HF.out.2 (HLB.out rfl)
  have HFI := hid hfit
  have HKY := hid (HRB.out rfl).1.keyed
  have HK2 : Hid (Keyed s2.its) := hid (by have := keyed_apply hfit HKY.out now c most; rw [hr] at this; exact this)
  have HL2 : Hid (s2.its.length ≤ 4194304) := hid (by have := len_apply s now c most; rw [hr] at this; have := hfit.len; exact Nat.le_trans ‹_› (by omega))
  have HL1 : Hid (s.its.length ≤ 4194304) := hid (Nat.le_trans hfit.len (by decide))
  have HR := hid hr
  clear HLB HRB HO HKS HL HF hfit hr
  go_upto_region 6 with fail
  clear k3 hszd
  refine wp_region_list ?_
  refine loadS (cs := [.slice a N ca, .int .u64 s.cas, .int .i64 s.fl]) rfl rfl rfl (HB3.out.1.get 1 rfl) rfl ?_
  refine wpList_calls (f := 15) (args := #[.agg #[.slice a N ca, .int .u64 s.cas, .int .i64 s.fl]]) rfl (by kernel_rfl) ?_
  refine (copied_any (s := s) (V := .agg #[.slice a N ca, .int .u64 s.cas, .int .i64 s.fl]) ⟨_, rfl, HI.out.below HB3.out.1.1⟩ HL1.out).mono ?_
  rintro e W4 ⟨vo, rfl, hrw, hb⟩
  refine ⟨_, rfl, ?_⟩
  obtain ⟨ao, co, rfl⟩ := hrw.form
  have hb4 := HB3.out.call hrw hb
  rw [← HN.out] at hb4 ⊢
  have HB4 : Hid (Bxr w [(w.heap.size + 1, 28, [.int .i64 c.op, .int .i64 c.mode, .string c.key, .string c.val, .int .u32 c.flags, .int .i64 c.exp, .bool c.hasExp, .int .u64 c.cas, .bool c.hasCas, .int .u64 c.delta, .int .u64 c.init, .bool c.down, .bool c.viv, .int .i64 c.vive, .int .i64 c.rcc, .bool c.inv]), (w.heap.size, 25, [.slice a N ca, .int .u64 s.cas, .int .i64 s.fl])] [(.slice ao N co, s.its)] W4) := hid hb4
  clear hb4 hrw hb HB3
  refine newS (cs := [.slice ao N co, .int .u64 s.cas, .int .i64 s.fl]) HB4.out rfl rfl rfl rfl rfl rfl (by kernel_rfl) rfl ⟨88, by kernel_rfl, by decide⟩ rfl rfl (fun Po W5 hb5 => ?_)
  have HB5 : Hid (Bxr w [(Po, 25, [.slice ao N co, .int .u64 s.cas, .int .i64 s.fl]), (w.heap.size + 1, 28, [.int .i64 c.op, .int .i64 c.mode, .string c.key, .string c.val, .int .u32 c.flags, .int .i64 c.exp, .bool c.hasExp, .int .u64 c.cas, .bool c.hasCas, .int .u64 c.delta, .int .u64 c.init, .bool c.down, .bool c.viv, .int .i64 c.vive, .int .i64 c.rcc, .bool c.inv]), (w.heap.size, 25, [.slice a N ca, .int .u64 s.cas, .int .i64 s.fl])] [(.slice ao N co, s.its)] W5) := hid hb5
  clear hb5 HB4
  go_simp
  go_upto_region 7 with fail
  refine wp_region_E (fun W => Blk W w.heap.size 25 (stv (.slice a N ca) s) ∧ Blk W (w.heap.size + 1) 28 c.cells) 12 (by kernel_rfl) ?_
  have HA7 : Hid (Bxr w [(Po, 25, [.slice ao N co, .int .u64 s.cas, .int .i64 s.fl]), (w.heap.size + 1, 28, [.int .i64 c.op, .int .i64 c.mode, .string c.key, .string c.val, .int .u32 c.flags, .int .i64 c.exp, .bool c.hasExp, .int .u64 c.cas, .bool c.hasCas, .int .u64 c.delta, .int .u64 c.init, .bool c.down, .bool c.viv, .int .i64 c.vive, .int .i64 c.rcc, .bool c.inv]), (w.heap.size, 25, [.slice a N ca, .int .u64 s.cas, .int .i64 s.fl])] [(.slice ao N co, s.its)] W5.drew) := hid (HB5.out.step (below_d W5))
  clear HB5
  generalize W5.drew = A7 at *
  have hS : Blk A7 w.heap.size 25 (stv (.slice a N ca) s) ∧ Blk A7 (w.heap.size + 1) 28 c.cells := ⟨HA7.out.1.get 2 rfl, HA7.out.1.get 1 rfl⟩
  refine wpAnyE_take (i := 0) (v := .agg (stv (.slice a N ca) s).toArray) rfl (by kernel_rfl) (by kernel_rfl) (by kernel_rfl) (fun _ _ _ h => h) (by kernel_rfl) (by kernel_rfl) hS (yieldsIf_load_mid rfl 25 _ rfl w.heap.size 0 rfl (stv (.slice a N ca) s) _ (fun W hW => Blk.range hW.1) Tryd.underlying25 rfl (by kernel_rfl)) ?_
  refine wpAnyE_take (i := 2) (v := .int .i64 now) rfl (by kernel_rfl) (by kernel_rfl) (by kernel_rfl) (fun _ _ _ h => h) (by kernel_rfl) (by kernel_rfl) hS (Or.inl ⟨by rfl, fun w' _ => by go_simp⟩) ?_
  refine wpAnyE_take (i := 3) (v := .agg c.cells.toArray) rfl (by kernel_rfl) (by kernel_rfl) (by kernel_rfl) (fun _ _ _ h => h) (by kernel_rfl) (by kernel_rfl) hS (yieldsIf_load_mid rfl 28 _ rfl (w.heap.size + 1) 0 rfl c.cells _ (fun W hW => Blk.range hW.2) Tryd.underlying28 rfl (by kernel_rfl)) ?_
  refine wpAnyE_take (i := 4) (v := .int .i64 most) rfl (by kernel_rfl) (by kernel_rfl) (by kernel_rfl) (fun _ _ _ h => h) (by kernel_rfl) (by kernel_rfl) hS (Or.inl ⟨by rfl, fun w' _ => by go_simp⟩) ?_
  clear hS
  refine ref7 (N := 200) (B := 65536) (c := c) (now := now) (most := most) (s := s) _ _ 1 5 6 7 8 9 10 11 12 HA7.out (List.mem_of_getElem? (i := 2) rfl) (List.mem_of_getElem? (i := 1) rfl) HI.out HFI.out (by omega) HKY.out (by decide) HCK.out.2 HCK.out.1.init HR.out HK2.out rfl rfl rfl rfl rfl rfl rfl rfl rfl rfl rfl rfl rfl rfl rfl rfl rfl (by kernel_rfl) (by decide) rfl ⟨88, by kernel_rfl, by decide, by decide, by decide, by decide, by decide, by decide, by decide⟩ (by kernel_rfl) (by kernel_rfl) (by kernel_rfl) (by kernel_rfl) rfl rfl rfl rfl (fun _ _ _ _ _ h => h) (by kernel_rfl) (by kernel_rfl) (by kernel_rfl) (fun gx rx Px Pa W7 hb7 hI7 => ?_)
  obtain ⟨ax, cx, rfl⟩ := hI7.form
  obtain ⟨N2, hN2⟩ : ∃ N2, N2 = s2.its.length := ⟨_, rfl⟩
  rw [← hN2] at hI7 hb7 ⊢
  have HN2 := hid hN2
  have HB7 : Hid (Bxr w [(Pa, 35, an.cells), (Px, 25, [.slice ax N2 cx, .int .u64 s2.cas, .int .i64 s2.fl]), (Po, 25, [.slice ao N co, .int .u64 s.cas, .int .i64 s.fl]), (w.heap.size + 1, 28, [.int .i64 c.op, .int .i64 c.mode, .string c.key, .string c.val, .int .u32 c.flags, .int .i64 c.exp, .bool c.hasExp, .int .u64 c.cas, .bool c.hasCas, .int .u64 c.delta, .int .u64 c.init, .bool c.down, .bool c.viv, .int .i64 c.vive, .int .i64 c.rcc, .bool c.inv]), (w.heap.size, 25, [.slice a N ca, .int .u64 s.cas, .int .i64 s.fl])] [(.slice ao N co, s.its)] W7 ∧ Its W7 (.slice ax N2 cx) s2.its) := hid ⟨hb7, hI7⟩
  clear hb7 hI7 HA7 hN2
  go_simp
  go_wp2_with fail
  go_loopw [15] (fun p wr => ∃ (i : Nat), p = .int .i64 i ∧ i ≤ 2 ∧ Hid (Bxr w [(Pa, 35, an.cells), (Px, 25, [.slice ax N2 cx, .int .u64 s2.cas, .int .i64 s2.fl]), (Po, 25, [.slice ao N co, .int .u64 s.cas, .int .i64 s.fl]), (w.heap.size + 1, 28, [.int .i64 c.op, .int .i64 c.mode, .string c.key, .string c.val, .int .u32 c.flags, .int .i64 c.exp, .bool c.hasExp, .int .u64 c.cas, .bool c.hasCas, .int .u64 c.delta, .int .u64 c.init, .bool c.down, .bool c.viv, .int .i64 c.vive, .int .i64 c.rcc, .bool c.inv]), (w.heap.size, 25, [.slice a N ca, .int .u64 s.cas, .int .i64 s.fl])] [(.slice ao N co, s.its)] wr ∧ Its wr (.slice ax N2 cx) s2.its)) (fun p _ => 2 - (RowKit.intOf p).toNat)
  case atStart => exact ⟨0, rfl, by omega, HB7⟩
  case round =>
    obtain ⟨i, rfl, hi, HQ⟩ := hrel
    clear HB7
    by_cases hlt : i < 2
    · have q2 : (i : Int) < 2 := by omega
      have lw : IntKind.i64.wrap ((i : Int) + 1) = ((i + 1 : Nat) : Int) := by rw [IntKind.wrap_i64]; omega
      go_upto_region 11 with fail
      generalize wr = WR at *
      refine wp_region_list ?_
      refine loadS (cs := [.slice ao N co, .int .u64 s.cas, .int .i64 s.fl]) rfl rfl rfl (HQ.out.1.1.get 2 rfl) rfl ?_
      refine wpList_val (v := .int .i64 now) (w' := WR) rfl (by kernel_rfl) ?_
      refine loadC (cs := [.int .i64 c.op, .int .i64 c.mode, .string c.key, .string c.val, .int .u32 c.flags, .int .i64 c.exp, .bool c.hasExp, .int .u64 c.cas, .bool c.hasCas, .int .u64 c.delta, .int .u64 c.init, .bool c.down, .bool c.viv, .int .i64 c.vive, .int .i64 c.rcc, .bool c.inv]) rfl rfl rfl (HQ.out.1.1.get 3 rfl) rfl ?_
      refine wpList_val (v := .int .i64 most) (w' := WR) rfl (by kernel_rfl) ?_
      refine appT (s := s) (now := now) (c := c) (most := most) (Bxr.begin WR) (HQ.out.1.its 0 rfl) HFI.out (by omega) (by decide) HCK.out.1 (HV.out.below HQ.out.1.1.1) HR.out rfl rfl rfl rfl rfl rfl rfl rfl rfl rfl (by decide) ⟨88, by kernel_rfl, by decide, by decide, by decide, by decide, by decide, by decide⟩ (by kernel_rfl) (by kernel_rfl) (by kernel_rfl) (by kernel_rfl) (fun Py ay ny cy Wy hby hry => ?_)
      obtain rfl : N2 = ny := by
        obtain ⟨a', c', e⟩ := hry.form
        injection e with e1 e2 e3
        rw [e2, HN2.out]
      have HY : Hid (Bxr WR [(Py + 1, 35, an.cells), (Py, 25, [.slice ay N2 cy, .int .u64 s2.cas, .int .i64 s2.fl])] [(.slice ay N2 cy, s2.its)] Wy) := hid hby
      have HYR := hid (yr_of hry HN2.out)
      clear hby hry
      have HQ2 : Hid (Bxr w [(Pa, 35, an.cells), (Px, 25, [.slice ax N2 cx, .int .u64 s2.cas, .int .i64 s2.fl]), (Po, 25, [.slice ao N co, .int .u64 s.cas, .int .i64 s.fl]), (w.heap.size + 1, 28, [.int .i64 c.op, .int .i64 c.mode, .string c.key, .string c.val, .int .u32 c.flags, .int .i64 c.exp, .bool c.hasExp, .int .u64 c.cas, .bool c.hasCas, .int .u64 c.delta, .int .u64 c.init, .bool c.down, .bool c.viv, .int .i64 c.vive, .int .i64 c.rcc, .bool c.inv]), (w.heap.size, 25, [.slice a N ca, .int .u64 s.cas, .int .i64 s.fl])] [(.slice ao N co, s.its)] Wy ∧ Its Wy (.slice ax N2 cx) s2.its) := hid ⟨HQ.out.1.step HY.out.1.1, HQ.out.2.below HY.out.1.1⟩
      go_simp
      go_upto_region 12 with fail
      refine wp_region_list ?_
      refine loadS (cs := [.slice ax N2 cx, .int .u64 s2.cas, .int .i64 s2.fl]) rfl rfl rfl (HQ2.out.1.1.get 1 rfl) rfl ?_
      refine loadS (cs := [.slice ay N2 cy, .int .u64 s2.cas, .int .i64 s2.fl]) rfl rfl rfl (HY.out.1.get 1 rfl) rfl ?_
      refine wpList_calls (f := 18) (args := #[.agg #[.slice ax N2 cx, .int .u64 s2.cas, .int .i64 s2.fl], .agg #[.slice ay N2 cy, .int .u64 s2.cas, .int .i64 s2.fl]]) rfl (by kernel_rfl) ?_
      refine (same_yes HQ2.out.2 (HY.out.its 0 rfl) HL2.out).mono ?_
      rintro e W8 ⟨rfl, hb⟩
      refine ⟨_, rfl, ?_⟩
      have HY8 : Hid (Bxr WR [(Py + 1, 35, an.cells), (Py, 25, [.slice ay N2 cy, .int .u64 s2.cas, .int .i64 s2.fl])] [(.slice ay N2 cy, s2.its)] W8) := hid (HY.out.step hb)
      have HYR8 := hid (HYR.out.below hb)
      have HA8 : Hid (Blk W8 Pa 35 an.cells) := hid ((HQ2.out.1.step hb).1.get 0 rfl)
      clear hb HY HQ2 HYR
      refine wpList_val (v := .bool true) (w' := W8) rfl (by kernel_rfl) ?_
      refine wpList_nil ?_
      go_simp
      have x0 := HA8.out.cell (i := 0) rfl
      have x1 := HA8.out.cell (i := 1) rfl
      have x2 := HA8.out.cell (i := 2) rfl
      have x3 := HA8.out.cell (i := 3) rfl
      have x4 := HA8.out.cell (i := 4) rfl
      have x5 := HA8.out.cell (i := 5) rfl
      have x6 := HA8.out.cell (i := 6) rfl
      have x7 := HA8.out.cell (i := 7) rfl
      have x8 := HA8.out.cell (i := 8) rfl
      have x9 := HA8.out.cell (i := 9) rfl
      have x10 := HA8.out.cell (i := 10) rfl
      have x11 := HA8.out.cell (i := 11) rfl
      have x12 := HA8.out.cell (i := 12) rfl
      have u0 := (HY8.out.1.get 0 rfl).cell (i := 0) rfl
      have u1 := (HY8.out.1.get 0 rfl).cell (i := 1) rfl
      have u2 := (HY8.out.1.get 0 rfl).cell (i := 2) rfl
      have u3 := (HY8.out.1.get 0 rfl).cell (i := 3) rfl
      have u4 := (HY8.out.1.get 0 rfl).cell (i := 4) rfl
      have u5 := (HY8.out.1.get 0 rfl).cell (i := 5) rfl
      have u6 := (HY8.out.1.get 0 rfl).cell (i := 6) rfl
      have u7 := (HY8.out.1.get 0 rfl).cell (i := 7) rfl
      have u8 := (HY8.out.1.get 0 rfl).cell (i := 8) rfl
      have u9 := (HY8.out.1.get 0 rfl).cell (i := 9) rfl
      have u10 := (HY8.out.1.get 0 rfl).cell (i := 10) rfl
      have u11 := (HY8.out.1.get 0 rfl).cell (i := 11) rfl
      have u12 := (HY8.out.1.get 0 rfl).cell (i := 12) rfl
      have hq : ∀ W, (binOp .neq 35 (.agg #[.int .i64 an.st, .string an.it.key, .int .u32 an.it.flags, .string an.it.val, .int .i64 an.it.exp, .int .u64 an.it.cas, .int .i64 an.it.last, .bool an.it.stale, .bool an.it.won, .int .u64 an.n, .bool an.w, .bool an.x, .bool an.z]) (.agg #[.int .i64 an.st, .string an.it.key, .int .u32 an.it.flags, .string an.it.val, .int .i64 an.it.exp, .int .u64 an.it.cas, .int .i64 an.it.last, .bool an.it.stale, .bool an.it.won, .int .u64 an.n, .bool an.w, .bool an.x, .bool an.z])).run Tryd.prog W = .ok (.bool false) W := fun W => answer_neq an W
      go_upto_region 15 with fail
      clear x0 x1 x2 x3 x4 x5 x6 x7 x8 x9 x10 x11 x12 u0 u1 u2 u3 u4 u5 u6 u7 u8 u9 u10 u11 u12 hq HA8
      have y0 := (HY8.out.1.get 1 rfl).cell (i := 0) rfl
      have HW8 : Hid (Below WR.heap.size WR W8 ∧ Yr WR.heap.size Py ay N2 cy W8) := hid ⟨HY8.out.1.1, HYR8.out⟩
      clear HY8 HYR8
      go_wp2_with fail
      go_loopw [19] (fun p wz => ∃ (j : Nat), p = .int .i64 j ∧ j ≤ N2 ∧ Hid (Below WR.heap.size WR wz ∧ Yr WR.heap.size Py ay N2 cy wz) ∧ wz.cell? ⟨Py, 0, none⟩ = some (.slice ay N2 cy)) (fun p _ => N2 - (RowKit.intOf p).toNat)
      case atStart => exact ⟨0, rfl, Nat.zero_le _, HW8, y0⟩
      case round =>
        obtain ⟨j, rfl, hj, HZ, z0⟩ := hrel
        clear y0 HW8
        have j0 : (0 : Int) ≤ (j : Int) := by omega
        by_cases hjl : j < N2
        · have hjl1 : (j : Int) < (N2 : Int) := by omega
          have jw : IntKind.i64.wrap ((j : Int) + 1) = ((j + 1 : Nat) : Int) := by rw [IntKind.wrap_i64]; have := HL2.out; have := HN2.out; omega
          obtain ⟨g, cur, rfl, hg⟩ : ∃ g cur, ay = some ⟨g, 0, none⟩ ∧ Blk wr g 33 cur ∧ cur.length = cy * 8 ∧ N2 ≤ cy ∧ WR.heap.size ≤ g ∧ g ≠ Py := by
            rcases HZ.out.2 with h | h
            · omega
            · exact h
          have HG := hid hg
          clear hg
          go_upto_region 18 with fail
          refine wp_region_list ?_
          refine wpList_val (v := .pointer (some ⟨Py, 0, none⟩)) (w' := wr) rfl (by kernel_rfl) ?_
          refine wpList_val (v := .slice (some ⟨g, 0, none⟩) N2 cy) (w' := wr) rfl (by go_simp) ?_
          refine wpList_val (v := .int .i64 j) (w' := wr) rfl (by kernel_rfl) ?_
          refine wpList_val (v := .agg (It.cells qIt).toArray) (w' := wr) rfl (by kernel_rfl) ?_
          refine wpList_val (v := .pointer (some ⟨g, j * 8, none⟩)) (w' := wr) rfl (by go_simp) ?_
          refine wpList_store_mid rfl 33 _ _ rfl g (j * 8) (It.cells qIt).toArray (by kernel_rfl) (by kernel_rfl) (there_at HG.out.1 (by have := HG.out; simp [It.cells]; omega)) (by kernel_rfl) (by kernel_rfl) ?_
          refine wpList_nil ?_
          have hov : Only (fun x => x = g) wr (wr.setCells g (j * 8) (It.cells qIt)) := only_setCells _ _ _
          have HZ2 : Hid (Below WR.heap.size WR (wr.setCells g (j * 8) (It.cells qIt)) ∧ Yr WR.heap.size Py (some ⟨g, 0, none⟩) N2 cy (wr.setCells g (j * 8) (It.cells qIt))) := hid ⟨HZ.out.1.trans (hov.below HZ.out.1.size (fun x hx => by rw [hx]; exact HG.out.2.2.2.1)), .inr ⟨g, _, rfl, blk_setCells _ _ _ _ HG.out.1 (by have := HG.out; simp [It.cells]; omega), by have := HG.out; rw [splice_len (by simp [It.cells]; omega)]; exact HG.out.2.1, HG.out.2.2.1, HG.out.2.2.2⟩⟩
          have z1 : (wr.setCells g (j * 8) (It.cells qIt)).cell? ⟨Py, 0, none⟩ = some (.slice (some ⟨g, 0, none⟩) N2 cy) := (hov.cell (cell_lt z0) (fun e => HG.out.2.2.2.2 e.symm)).trans z0
          clear z0 HZ hov HG
          generalize wr.setCells g (j * 8) (It.cells qIt) = WZ at *
          go_simp
          go_wp2_with fail
          go_roundw
          case rel => exact ⟨j + 1, by first | rfl | go_num, by omega, HZ2, z1⟩
          case measure => simp [RowKit.intOf] <;> omega
        · have hjl1 : ¬ (j : Int) < (N2 : Int) := by omega
          have hjd : decide ((j : Int) < (N2 : Int)) = false := decide_eq_false hjl1
          have HE : Hid (Bxr w [(Pa, 35, an.cells), (Px, 25, [.slice ax N2 cx, .int .u64 s2.cas, .int .i64 s2.fl]), (Po, 25, [.slice ao N co, .int .u64 s.cas, .int .i64 s.fl]), (w.heap.size + 1, 28, [.int .i64 c.op, .int .i64 c.mode, .string c.key, .string c.val, .int .u32 c.flags, .int .i64 c.exp, .bool c.hasExp, .int .u64 c.cas, .bool c.hasCas, .int .u64 c.delta, .int .u64 c.init, .bool c.down, .bool c.viv, .int .i64 c.vive, .int .i64 c.rcc, .bool c.inv]), (w.heap.size, 25, [.slice a N ca, .int .u64 s.cas, .int .i64 s.fl])] [(.slice ao N co, s.its)] wr ∧ Its wr (.slice ax N2 cx) s2.its) := hid ⟨HQ.out.1.step HZ.out.1, HQ.out.2.below HZ.out.1⟩
          clear HQ HZ
          go_wp2_with fail
          go_roundw
          case rel => exact ⟨i + 1, by first | rfl | go_num, by omega, HE⟩
          case measure => simp [RowKit.intOf] <;> omega
    · have q2 : ¬ (i : Int) < 2 := by omega
      have q3 : decide ((i : Int) < 2) = false := decide_eq_false q2
      have o0 := (HQ.out.1.1.get 2 rfl).cell (i := 0) rfl
      have o1 := (HQ.out.1.1.get 2 rfl).cell (i := 1) rfl
      have o2 := (HQ.out.1.1.get 2 rfl).cell (i := 2) rfl
      have s0 := (HQ.out.1.1.get 4 rfl).cell (i := 0) rfl
      have s1 := (HQ.out.1.1.get 4 rfl).cell (i := 1) rfl
      have s2_ := (HQ.out.1.1.get 4 rfl).cell (i := 2) rfl
      go_wp2_with fail
      refine (same_yes (HQ.out.1.its 0 rfl) (HI.out.below HQ.out.1.1.1) HL1.out).mono ?_
      rintro e W9 ⟨rfl, hb⟩
      have HE := hid (HQ.out.1.step hb).1.1
      clear o0 o1 o2 s0 s1 s2_ hb HQ
      go_wp2_with fail
      go_ret
      exact ⟨rfl, HE.out⟩
/-- The same, its arguments in the card's order. -/
theorem applies_card {w : World} {V : Value} {s : Ms} (HS : Sv w V s) (hok : ∀ x ∈ s.its, It.Ok x) (hcas : s.cas ≤ 18446744073709551615) (hf1 : s.fl ≤ 9223372036854775807) (hlen : s.its.length ≤ 281474976710656) (hks : ∀ x ∈ s.its, x.key.size < 9223372036854775807) (now : Int) (_ : -9223372036854775808 ≤ now) (_ : now ≤ 9223372036854775807) {c : Cm} (ck : c.Ok) (hck : c.key.size < 9223372036854775807) (most : Int) (_ : -9223372036854775808 ≤ most) (_ : most ≤ 9223372036854775807) (hv : Nu.Vars w) :
    Calls Tryd.prog 3 #[V, .int .i64 now, c.v, .int .i64 most] w fun e w' => e = .returned (.bool true) ∧ Below w.heap.size w w' := applies_law HS hok hcas hf1 hlen hks ck hck now most hv
end Go.Proofs.YtpgljahomeebhaaDoor.Md
