/-
  What the document's own store refuses ahead of an item's being made. Conditions: the state's items can be read.
-/
import Derived.Test.YtpgljahomeebhaaDoorModBox
import Derived.Deep.DeepCutAuto
namespace Go.Proofs.YtpgljahomeebhaaDoor.Md
open Go Go.RowKit Go.Lib

set_option maxRecDepth 100000 in
set_option maxHeartbeats 4000000 in
theorem store_a1 {s : Ms} {w : World} {a : Option Addr} {ca : Nat} (HI : Hid (Its w (.slice a s.its.length ca) s.its)) {op exp vive rc now most xe xl : Int} {k cv xk xv : ByteArray} {fg cs de ini xf xc : Nat} {hx dn vv xs xw : Bool} {hc iv : Bool}  :
    Calls Tryd.prog 25 #[.agg #[.slice a s.its.length ca, .int .u64 s.cas, .int .i64 s.fl], .int .i64 now, .agg #[.int .i64 op, .int .i64 1, .string k, .string cv, .int .u32 fg, .int .i64 exp, .bool hx, .int .u64 cs, .bool hc, .int .u64 de, .int .u64 ini, .bool dn, .bool vv, .int .i64 vive, .int .i64 rc, .bool iv], .agg #[.string xk, .int .u32 xf, .string xv, .int .i64 xe, .int .u64 xc, .int .i64 xl, .bool xs, .bool xw], .bool true, .int .i64 most] w fun e w' => ∃ V', e = .returned (.tuple #[V', (An.of 3).v]) ∧ Sv w' V' s ∧ Below w.heap.size w w' := by
  have hW := W5.begin w #[.slice a s.its.length ca, .int .u64 s.cas, .int .i64 s.fl] #[.int .i64 op, .int .i64 1, .string k, .string cv, .int .u32 fg, .int .i64 exp, .bool hx, .int .u64 cs, .bool hc, .int .u64 de, .int .u64 ini, .bool dn, .bool vv, .int .i64 vive, .int .i64 rc, .bool iv] #[.string xk, .int .u32 xf, .string xv, .int .i64 xe, .int .u64 xc, .int .i64 xl, .bool xs, .bool xw] #[.slice none 0 0, .int .u64 0, .int .i64 0] #[.int .i64 0, .string ⟨#[]⟩, .int .u32 0, .string ⟨#[]⟩, .int .i64 0, .int .u64 0, .int .i64 0, .bool false, .bool false, .int .u64 0, .bool false, .bool false, .bool false]
  have HW := hid hW
  clear hW
  go_enter Tryd.func25, Tryd.ntmps25
  go_upto_region 1 with fail
  generalize hW0 : (((((w.alloc (.cells #[.slice a s.its.length ca, .int .u64 s.cas, .int .i64 s.fl] 25)).alloc (.cells #[.int .i64 op, .int .i64 1, .string k, .string cv, .int .u32 fg, .int .i64 exp, .bool hx, .int .u64 cs, .bool hc, .int .u64 de, .int .u64 ini, .bool dn, .bool vv, .int .i64 vive, .int .i64 rc, .bool iv] 28)).alloc (.cells #[.string xk, .int .u32 xf, .string xv, .int .i64 xe, .int .u64 xc, .int .i64 xl, .bool xs, .bool xw] 33)).alloc (.cells #[.slice none 0 0, .int .u64 0, .int .i64 0] 25)).alloc (.cells #[.int .i64 0, .string ⟨#[]⟩, .int .u32 0, .string ⟨#[]⟩, .int .i64 0, .int .u64 0, .int .i64 0, .bool false, .bool false, .int .u64 0, .bool false, .bool false, .bool false] 35)) = W0 at *
  have k1 := HW.out.b1.cell (i := 1) rfl
  clear hW0
  have m0 := HW.out.b0.cell (i := 0) rfl
  have m1 := HW.out.b0.cell (i := 1) rfl
  have m2 := HW.out.b0.cell (i := 2) rfl
  have g0 := HW.out.b3.cell (i := 0) rfl
  have h0 := HW.out.b3.frozen 0
  have g1 := HW.out.b3.cell (i := 1) rfl
  have h1 := HW.out.b3.frozen 1
  have g2 := HW.out.b3.cell (i := 2) rfl
  have h2 := HW.out.b3.frozen 2
  have e0 := HW.out.b4.cell (i := 0) rfl
  have f0 := HW.out.b4.frozen 0
  have e1 := HW.out.b4.cell (i := 1) rfl
  have f1 := HW.out.b4.frozen 1
  have e2 := HW.out.b4.cell (i := 2) rfl
  have f2 := HW.out.b4.frozen 2
  have e3 := HW.out.b4.cell (i := 3) rfl
  have f3 := HW.out.b4.frozen 3
  have e4 := HW.out.b4.cell (i := 4) rfl
  have f4 := HW.out.b4.frozen 4
  have e5 := HW.out.b4.cell (i := 5) rfl
  have f5 := HW.out.b4.frozen 5
  have e6 := HW.out.b4.cell (i := 6) rfl
  have f6 := HW.out.b4.frozen 6
  have e7 := HW.out.b4.cell (i := 7) rfl
  have f7 := HW.out.b4.frozen 7
  have e8 := HW.out.b4.cell (i := 8) rfl
  have f8 := HW.out.b4.frozen 8
  have e9 := HW.out.b4.cell (i := 9) rfl
  have f9 := HW.out.b4.frozen 9
  have e10 := HW.out.b4.cell (i := 10) rfl
  have f10 := HW.out.b4.frozen 10
  have e11 := HW.out.b4.cell (i := 11) rfl
  have f11 := HW.out.b4.frozen 11
  have e12 := HW.out.b4.cell (i := 12) rfl
  have f12 := HW.out.b4.frozen 12
  have HW7 := hid ((HW.out.st3 (vs := [.slice a s.its.length ca, .int .u64 s.cas, .int .i64 s.fl]) rfl).st4 (vs := [.int .i64 3, .string ⟨#[]⟩, .int .u32 0, .string ⟨#[]⟩, .int .i64 0, .int .u64 0, .int .i64 0, .bool false, .bool false, .int .u64 0, .bool false, .bool false, .bool false]) rfl)
  go_wp2_with fail
  change bodyPost _ _ _ _ _ (stc (stc W0 (w.heap.size + 1 + 1 + 1) [.slice a s.its.length ca, .int .u64 s.cas, .int .i64 s.fl] 0) (w.heap.size + 1 + 1 + 1 + 1) [.int .i64 3, .string ⟨#[]⟩, .int .u32 0, .string ⟨#[]⟩, .int .i64 0, .int .u64 0, .int .i64 0, .bool false, .bool false, .int .u64 0, .bool false, .bool false, .bool false] 0)
  generalize stc (stc W0 (w.heap.size + 1 + 1 + 1) [.slice a s.its.length ca, .int .u64 s.cas, .int .i64 s.fl] 0) (w.heap.size + 1 + 1 + 1 + 1) [.int .i64 3, .string ⟨#[]⟩, .int .u32 0, .string ⟨#[]⟩, .int .i64 0, .int .u64 0, .int .i64 0, .bool false, .bool false, .int .u64 0, .bool false, .bool false, .bool false] 0 = W7 at *
  exact bodyPost_ret (res_sa (a := An.of 3) rfl ⟨_, _, rfl⟩ HW7.out.b3 HW7.out.b4 rfl rfl) rfl ⟨_, rfl, ⟨_, rfl, HI.out.below HW7.out.below⟩, HW7.out.below⟩
set_option maxRecDepth 100000 in
set_option maxHeartbeats 4000000 in
theorem store_a2 {s : Ms} {w : World} {a : Option Addr} {ca : Nat} (HI : Hid (Its w (.slice a s.its.length ca) s.its)) {op mode exp vive rc now most xe xl : Int} {k cv xk xv : ByteArray} {fg cs de ini xf xc : Nat} {hx dn vv xs xw : Bool} {hc iv : Bool} (hm : 2 ≤ mode) :
    Calls Tryd.prog 25 #[.agg #[.slice a s.its.length ca, .int .u64 s.cas, .int .i64 s.fl], .int .i64 now, .agg #[.int .i64 op, .int .i64 mode, .string k, .string cv, .int .u32 fg, .int .i64 exp, .bool hx, .int .u64 cs, .bool hc, .int .u64 de, .int .u64 ini, .bool dn, .bool vv, .int .i64 vive, .int .i64 rc, .bool iv], .agg #[.string xk, .int .u32 xf, .string xv, .int .i64 xe, .int .u64 xc, .int .i64 xl, .bool xs, .bool xw], .bool false, .int .i64 most] w fun e w' => ∃ V', e = .returned (.tuple #[V', (An.of 3).v]) ∧ Sv w' V' s ∧ Below w.heap.size w w' := by
  have hW := W5.begin w #[.slice a s.its.length ca, .int .u64 s.cas, .int .i64 s.fl] #[.int .i64 op, .int .i64 mode, .string k, .string cv, .int .u32 fg, .int .i64 exp, .bool hx, .int .u64 cs, .bool hc, .int .u64 de, .int .u64 ini, .bool dn, .bool vv, .int .i64 vive, .int .i64 rc, .bool iv] #[.string xk, .int .u32 xf, .string xv, .int .i64 xe, .int .u64 xc, .int .i64 xl, .bool xs, .bool xw] #[.slice none 0 0, .int .u64 0, .int .i64 0] #[.int .i64 0, .string ⟨#[]⟩, .int .u32 0, .string ⟨#[]⟩, .int .i64 0, .int .u64 0, .int .i64 0, .bool false, .bool false, .int .u64 0, .bool false, .bool false, .bool false]
  have HW := hid hW
  clear hW
  go_enter Tryd.func25, Tryd.ntmps25
  go_upto_region 1 with fail
  generalize hW0 : (((((w.alloc (.cells #[.slice a s.its.length ca, .int .u64 s.cas, .int .i64 s.fl] 25)).alloc (.cells #[.int .i64 op, .int .i64 mode, .string k, .string cv, .int .u32 fg, .int .i64 exp, .bool hx, .int .u64 cs, .bool hc, .int .u64 de, .int .u64 ini, .bool dn, .bool vv, .int .i64 vive, .int .i64 rc, .bool iv] 28)).alloc (.cells #[.string xk, .int .u32 xf, .string xv, .int .i64 xe, .int .u64 xc, .int .i64 xl, .bool xs, .bool xw] 33)).alloc (.cells #[.slice none 0 0, .int .u64 0, .int .i64 0] 25)).alloc (.cells #[.int .i64 0, .string ⟨#[]⟩, .int .u32 0, .string ⟨#[]⟩, .int .i64 0, .int .u64 0, .int .i64 0, .bool false, .bool false, .int .u64 0, .bool false, .bool false, .bool false] 35)) = W0 at *
  have k1 := HW.out.b1.cell (i := 1) rfl
  have m1 : ¬ mode = 1 := by omega
  have m1' : (mode == 1) = false := beq_eq_false_iff_ne.2 m1
  clear hW0
  have m0 := HW.out.b0.cell (i := 0) rfl
  have m1 := HW.out.b0.cell (i := 1) rfl
  have m2 := HW.out.b0.cell (i := 2) rfl
  have g0 := HW.out.b3.cell (i := 0) rfl
  have h0 := HW.out.b3.frozen 0
  have g1 := HW.out.b3.cell (i := 1) rfl
  have h1 := HW.out.b3.frozen 1
  have g2 := HW.out.b3.cell (i := 2) rfl
  have h2 := HW.out.b3.frozen 2
  have e0 := HW.out.b4.cell (i := 0) rfl
  have f0 := HW.out.b4.frozen 0
  have e1 := HW.out.b4.cell (i := 1) rfl
  have f1 := HW.out.b4.frozen 1
  have e2 := HW.out.b4.cell (i := 2) rfl
  have f2 := HW.out.b4.frozen 2
  have e3 := HW.out.b4.cell (i := 3) rfl
  have f3 := HW.out.b4.frozen 3
  have e4 := HW.out.b4.cell (i := 4) rfl
  have f4 := HW.out.b4.frozen 4
  have e5 := HW.out.b4.cell (i := 5) rfl
  have f5 := HW.out.b4.frozen 5
  have e6 := HW.out.b4.cell (i := 6) rfl
  have f6 := HW.out.b4.frozen 6
  have e7 := HW.out.b4.cell (i := 7) rfl
  have f7 := HW.out.b4.frozen 7
  have e8 := HW.out.b4.cell (i := 8) rfl
  have f8 := HW.out.b4.frozen 8
  have e9 := HW.out.b4.cell (i := 9) rfl
  have f9 := HW.out.b4.frozen 9
  have e10 := HW.out.b4.cell (i := 10) rfl
  have f10 := HW.out.b4.frozen 10
  have e11 := HW.out.b4.cell (i := 11) rfl
  have f11 := HW.out.b4.frozen 11
  have e12 := HW.out.b4.cell (i := 12) rfl
  have f12 := HW.out.b4.frozen 12
  have HW7 := hid ((HW.out.st3 (vs := [.slice a s.its.length ca, .int .u64 s.cas, .int .i64 s.fl]) rfl).st4 (vs := [.int .i64 3, .string ⟨#[]⟩, .int .u32 0, .string ⟨#[]⟩, .int .i64 0, .int .u64 0, .int .i64 0, .bool false, .bool false, .int .u64 0, .bool false, .bool false, .bool false]) rfl)
  go_wp2_with fail
  change bodyPost _ _ _ _ _ (stc (stc W0 (w.heap.size + 1 + 1 + 1) [.slice a s.its.length ca, .int .u64 s.cas, .int .i64 s.fl] 0) (w.heap.size + 1 + 1 + 1 + 1) [.int .i64 3, .string ⟨#[]⟩, .int .u32 0, .string ⟨#[]⟩, .int .i64 0, .int .u64 0, .int .i64 0, .bool false, .bool false, .int .u64 0, .bool false, .bool false, .bool false] 0)
  generalize stc (stc W0 (w.heap.size + 1 + 1 + 1) [.slice a s.its.length ca, .int .u64 s.cas, .int .i64 s.fl] 0) (w.heap.size + 1 + 1 + 1 + 1) [.int .i64 3, .string ⟨#[]⟩, .int .u32 0, .string ⟨#[]⟩, .int .i64 0, .int .u64 0, .int .i64 0, .bool false, .bool false, .int .u64 0, .bool false, .bool false, .bool false] 0 = W7 at *
  exact bodyPost_ret (res_sa (a := An.of 3) rfl ⟨_, _, rfl⟩ HW7.out.b3 HW7.out.b4 rfl rfl) rfl ⟨_, rfl, ⟨_, rfl, HI.out.below HW7.out.below⟩, HW7.out.below⟩
set_option maxRecDepth 100000 in
set_option maxHeartbeats 4000000 in
theorem store_b {s : Ms} {w : World} {a : Option Addr} {ca : Nat} (HI : Hid (Its w (.slice a s.its.length ca) s.its)) {op mode exp vive rc now most xe xl : Int} {k cv xk xv : ByteArray} {fg cs de ini xf xc : Nat} {hx dn vv xs xw : Bool} {iv : Bool} (hm : mode < 2) :
    Calls Tryd.prog 25 #[.agg #[.slice a s.its.length ca, .int .u64 s.cas, .int .i64 s.fl], .int .i64 now, .agg #[.int .i64 op, .int .i64 mode, .string k, .string cv, .int .u32 fg, .int .i64 exp, .bool hx, .int .u64 cs, .bool true, .int .u64 de, .int .u64 ini, .bool dn, .bool vv, .int .i64 vive, .int .i64 rc, .bool iv], .agg #[.string xk, .int .u32 xf, .string xv, .int .i64 xe, .int .u64 xc, .int .i64 xl, .bool xs, .bool xw], .bool false, .int .i64 most] w fun e w' => ∃ V', e = .returned (.tuple #[V', (An.of 5).v]) ∧ Sv w' V' s ∧ Below w.heap.size w w' := by
  have hW := W5.begin w #[.slice a s.its.length ca, .int .u64 s.cas, .int .i64 s.fl] #[.int .i64 op, .int .i64 mode, .string k, .string cv, .int .u32 fg, .int .i64 exp, .bool hx, .int .u64 cs, .bool true, .int .u64 de, .int .u64 ini, .bool dn, .bool vv, .int .i64 vive, .int .i64 rc, .bool iv] #[.string xk, .int .u32 xf, .string xv, .int .i64 xe, .int .u64 xc, .int .i64 xl, .bool xs, .bool xw] #[.slice none 0 0, .int .u64 0, .int .i64 0] #[.int .i64 0, .string ⟨#[]⟩, .int .u32 0, .string ⟨#[]⟩, .int .i64 0, .int .u64 0, .int .i64 0, .bool false, .bool false, .int .u64 0, .bool false, .bool false, .bool false]
  have HW := hid hW
  clear hW
  go_enter Tryd.func25, Tryd.ntmps25
  go_upto_region 1 with fail
  generalize hW0 : (((((w.alloc (.cells #[.slice a s.its.length ca, .int .u64 s.cas, .int .i64 s.fl] 25)).alloc (.cells #[.int .i64 op, .int .i64 mode, .string k, .string cv, .int .u32 fg, .int .i64 exp, .bool hx, .int .u64 cs, .bool true, .int .u64 de, .int .u64 ini, .bool dn, .bool vv, .int .i64 vive, .int .i64 rc, .bool iv] 28)).alloc (.cells #[.string xk, .int .u32 xf, .string xv, .int .i64 xe, .int .u64 xc, .int .i64 xl, .bool xs, .bool xw] 33)).alloc (.cells #[.slice none 0 0, .int .u64 0, .int .i64 0] 25)).alloc (.cells #[.int .i64 0, .string ⟨#[]⟩, .int .u32 0, .string ⟨#[]⟩, .int .i64 0, .int .u64 0, .int .i64 0, .bool false, .bool false, .int .u64 0, .bool false, .bool false, .bool false] 35)) = W0 at *
  have k1 := HW.out.b1.cell (i := 1) rfl
  go_cut [30] from 16 to 29 (fun b wx => wx = W0 ∧ b = .bool false)
  case first =>
    clear HW hW0
    have h2 : ¬ 2 ≤ mode := by omega
    by_cases h1 : mode = 1
    · subst h1
      go_wp2_with fail
      go_meet
      exact ⟨rfl, rfl⟩
    · have m1' : (mode == 1) = false := beq_eq_false_iff_ne.2 h1
      go_wp2_with fail
      go_meet
      exact ⟨rfl, rfl⟩
  case rest =>
  obtain ⟨rfl, rfl⟩ := hcut
  clear k1 hW0 hm
  have k8 := HW.out.b1.cell (i := 8) rfl
  have m0 := HW.out.b0.cell (i := 0) rfl
  have m1 := HW.out.b0.cell (i := 1) rfl
  have m2 := HW.out.b0.cell (i := 2) rfl
  have g0 := HW.out.b3.cell (i := 0) rfl
  have h0 := HW.out.b3.frozen 0
  have g1 := HW.out.b3.cell (i := 1) rfl
  have h1 := HW.out.b3.frozen 1
  have g2 := HW.out.b3.cell (i := 2) rfl
  have h2 := HW.out.b3.frozen 2
  have e0 := HW.out.b4.cell (i := 0) rfl
  have f0 := HW.out.b4.frozen 0
  have e1 := HW.out.b4.cell (i := 1) rfl
  have f1 := HW.out.b4.frozen 1
  have e2 := HW.out.b4.cell (i := 2) rfl
  have f2 := HW.out.b4.frozen 2
  have e3 := HW.out.b4.cell (i := 3) rfl
  have f3 := HW.out.b4.frozen 3
  have e4 := HW.out.b4.cell (i := 4) rfl
  have f4 := HW.out.b4.frozen 4
  have e5 := HW.out.b4.cell (i := 5) rfl
  have f5 := HW.out.b4.frozen 5
  have e6 := HW.out.b4.cell (i := 6) rfl
  have f6 := HW.out.b4.frozen 6
  have e7 := HW.out.b4.cell (i := 7) rfl
  have f7 := HW.out.b4.frozen 7
  have e8 := HW.out.b4.cell (i := 8) rfl
  have f8 := HW.out.b4.frozen 8
  have e9 := HW.out.b4.cell (i := 9) rfl
  have f9 := HW.out.b4.frozen 9
  have e10 := HW.out.b4.cell (i := 10) rfl
  have f10 := HW.out.b4.frozen 10
  have e11 := HW.out.b4.cell (i := 11) rfl
  have f11 := HW.out.b4.frozen 11
  have e12 := HW.out.b4.cell (i := 12) rfl
  have f12 := HW.out.b4.frozen 12
  have HW7 := hid ((HW.out.st3 (vs := [.slice a s.its.length ca, .int .u64 s.cas, .int .i64 s.fl]) rfl).st4 (vs := [.int .i64 5, .string ⟨#[]⟩, .int .u32 0, .string ⟨#[]⟩, .int .i64 0, .int .u64 0, .int .i64 0, .bool false, .bool false, .int .u64 0, .bool false, .bool false, .bool false]) rfl)
  go_wp2_with fail
  change bodyPost _ _ _ _ _ (stc (stc wc (w.heap.size + 1 + 1 + 1) [.slice a s.its.length ca, .int .u64 s.cas, .int .i64 s.fl] 0) (w.heap.size + 1 + 1 + 1 + 1) [.int .i64 5, .string ⟨#[]⟩, .int .u32 0, .string ⟨#[]⟩, .int .i64 0, .int .u64 0, .int .i64 0, .bool false, .bool false, .int .u64 0, .bool false, .bool false, .bool false] 0)
  generalize stc (stc wc (w.heap.size + 1 + 1 + 1) [.slice a s.its.length ca, .int .u64 s.cas, .int .i64 s.fl] 0) (w.heap.size + 1 + 1 + 1 + 1) [.int .i64 5, .string ⟨#[]⟩, .int .u32 0, .string ⟨#[]⟩, .int .i64 0, .int .u64 0, .int .i64 0, .bool false, .bool false, .int .u64 0, .bool false, .bool false, .bool false] 0 = W7 at *
  exact bodyPost_ret (res_sa (a := An.of 5) rfl ⟨_, _, rfl⟩ HW7.out.b3 HW7.out.b4 rfl rfl) rfl ⟨_, rfl, ⟨_, rfl, HI.out.below HW7.out.below⟩, HW7.out.below⟩
set_option maxRecDepth 100000 in
set_option maxHeartbeats 4000000 in
theorem store_c_false {s : Ms} {w : World} {a : Option Addr} {ca : Nat} (HI : Hid (Its w (.slice a s.its.length ca) s.its)) {op mode exp vive rc now most xe xl : Int} {k cv xk xv : ByteArray} {fg cs de ini xf xc : Nat} {hx dn vv xs xw : Bool} (hm : ¬ mode = 1) (hx1 : ¬ xc = cs) :
    Calls Tryd.prog 25 #[.agg #[.slice a s.its.length ca, .int .u64 s.cas, .int .i64 s.fl], .int .i64 now, .agg #[.int .i64 op, .int .i64 mode, .string k, .string cv, .int .u32 fg, .int .i64 exp, .bool hx, .int .u64 cs, .bool true, .int .u64 de, .int .u64 ini, .bool dn, .bool vv, .int .i64 vive, .int .i64 rc, .bool false], .agg #[.string xk, .int .u32 xf, .string xv, .int .i64 xe, .int .u64 xc, .int .i64 xl, .bool xs, .bool xw], .bool true, .int .i64 most] w fun e w' => ∃ V', e = .returned (.tuple #[V', (An.of 4).v]) ∧ Sv w' V' s ∧ Below w.heap.size w w' := by
  have hW := W5.begin w #[.slice a s.its.length ca, .int .u64 s.cas, .int .i64 s.fl] #[.int .i64 op, .int .i64 mode, .string k, .string cv, .int .u32 fg, .int .i64 exp, .bool hx, .int .u64 cs, .bool true, .int .u64 de, .int .u64 ini, .bool dn, .bool vv, .int .i64 vive, .int .i64 rc, .bool false] #[.string xk, .int .u32 xf, .string xv, .int .i64 xe, .int .u64 xc, .int .i64 xl, .bool xs, .bool xw] #[.slice none 0 0, .int .u64 0, .int .i64 0] #[.int .i64 0, .string ⟨#[]⟩, .int .u32 0, .string ⟨#[]⟩, .int .i64 0, .int .u64 0, .int .i64 0, .bool false, .bool false, .int .u64 0, .bool false, .bool false, .bool false]
  have HW := hid hW
  clear hW
  go_enter Tryd.func25, Tryd.ntmps25
  go_upto_region 1 with fail
  generalize hW0 : (((((w.alloc (.cells #[.slice a s.its.length ca, .int .u64 s.cas, .int .i64 s.fl] 25)).alloc (.cells #[.int .i64 op, .int .i64 mode, .string k, .string cv, .int .u32 fg, .int .i64 exp, .bool hx, .int .u64 cs, .bool true, .int .u64 de, .int .u64 ini, .bool dn, .bool vv, .int .i64 vive, .int .i64 rc, .bool false] 28)).alloc (.cells #[.string xk, .int .u32 xf, .string xv, .int .i64 xe, .int .u64 xc, .int .i64 xl, .bool xs, .bool xw] 33)).alloc (.cells #[.slice none 0 0, .int .u64 0, .int .i64 0] 25)).alloc (.cells #[.int .i64 0, .string ⟨#[]⟩, .int .u32 0, .string ⟨#[]⟩, .int .i64 0, .int .u64 0, .int .i64 0, .bool false, .bool false, .int .u64 0, .bool false, .bool false, .bool false] 35)) = W0 at *
  have k1 := HW.out.b1.cell (i := 1) rfl
  go_cut [30] from 16 to 29 (fun b wx => wx = W0 ∧ b = .bool false)
  case first =>
    have m1' : (mode == 1) = false := beq_eq_false_iff_ne.2 hm
    clear HW hW0
    by_cases h2 : 2 ≤ mode
    · go_wp2_with fail
      go_meet
      exact ⟨rfl, rfl⟩
    · go_wp2_with fail
      go_meet
      exact ⟨rfl, rfl⟩
  case rest =>
  obtain ⟨rfl, rfl⟩ := hcut
  clear k1 hW0 hm
  have q1 : ((xc : Int) == (cs : Int)) = false := beq_eq_false_iff_ne.2 (by omega)
  have q2 : ((xc : Int) != (cs : Int)) = true := bne_iff_ne.2 (by omega)
  have k8 := HW.out.b1.cell (i := 8) rfl
  have k7 := HW.out.b1.cell (i := 7) rfl
  have k15 := HW.out.b1.cell (i := 15) rfl
  have k4 := HW.out.b2.cell (i := 4) rfl
  have m0 := HW.out.b0.cell (i := 0) rfl
  have m1 := HW.out.b0.cell (i := 1) rfl
  have m2 := HW.out.b0.cell (i := 2) rfl
  have g0 := HW.out.b3.cell (i := 0) rfl
  have h0 := HW.out.b3.frozen 0
  have g1 := HW.out.b3.cell (i := 1) rfl
  have h1 := HW.out.b3.frozen 1
  have g2 := HW.out.b3.cell (i := 2) rfl
  have h2 := HW.out.b3.frozen 2
  have e0 := HW.out.b4.cell (i := 0) rfl
  have f0 := HW.out.b4.frozen 0
  have e1 := HW.out.b4.cell (i := 1) rfl
  have f1 := HW.out.b4.frozen 1
  have e2 := HW.out.b4.cell (i := 2) rfl
  have f2 := HW.out.b4.frozen 2
  have e3 := HW.out.b4.cell (i := 3) rfl
  have f3 := HW.out.b4.frozen 3
  have e4 := HW.out.b4.cell (i := 4) rfl
  have f4 := HW.out.b4.frozen 4
  have e5 := HW.out.b4.cell (i := 5) rfl
  have f5 := HW.out.b4.frozen 5
  have e6 := HW.out.b4.cell (i := 6) rfl
  have f6 := HW.out.b4.frozen 6
  have e7 := HW.out.b4.cell (i := 7) rfl
  have f7 := HW.out.b4.frozen 7
  have e8 := HW.out.b4.cell (i := 8) rfl
  have f8 := HW.out.b4.frozen 8
  have e9 := HW.out.b4.cell (i := 9) rfl
  have f9 := HW.out.b4.frozen 9
  have e10 := HW.out.b4.cell (i := 10) rfl
  have f10 := HW.out.b4.frozen 10
  have e11 := HW.out.b4.cell (i := 11) rfl
  have f11 := HW.out.b4.frozen 11
  have e12 := HW.out.b4.cell (i := 12) rfl
  have f12 := HW.out.b4.frozen 12
  have HW7 := hid ((HW.out.st3 (vs := [.slice a s.its.length ca, .int .u64 s.cas, .int .i64 s.fl]) rfl).st4 (vs := [.int .i64 4, .string ⟨#[]⟩, .int .u32 0, .string ⟨#[]⟩, .int .i64 0, .int .u64 0, .int .i64 0, .bool false, .bool false, .int .u64 0, .bool false, .bool false, .bool false]) rfl)
  go_wp2_with fail
  change bodyPost _ _ _ _ _ (stc (stc wc (w.heap.size + 1 + 1 + 1) [.slice a s.its.length ca, .int .u64 s.cas, .int .i64 s.fl] 0) (w.heap.size + 1 + 1 + 1 + 1) [.int .i64 4, .string ⟨#[]⟩, .int .u32 0, .string ⟨#[]⟩, .int .i64 0, .int .u64 0, .int .i64 0, .bool false, .bool false, .int .u64 0, .bool false, .bool false, .bool false] 0)
  generalize stc (stc wc (w.heap.size + 1 + 1 + 1) [.slice a s.its.length ca, .int .u64 s.cas, .int .i64 s.fl] 0) (w.heap.size + 1 + 1 + 1 + 1) [.int .i64 4, .string ⟨#[]⟩, .int .u32 0, .string ⟨#[]⟩, .int .i64 0, .int .u64 0, .int .i64 0, .bool false, .bool false, .int .u64 0, .bool false, .bool false, .bool false] 0 = W7 at *
  exact bodyPost_ret (res_sa (a := An.of 4) rfl ⟨_, _, rfl⟩ HW7.out.b3 HW7.out.b4 rfl rfl) rfl ⟨_, rfl, ⟨_, rfl, HI.out.below HW7.out.below⟩, HW7.out.below⟩
set_option maxRecDepth 100000 in
set_option maxHeartbeats 4000000 in
theorem store_c_true {s : Ms} {w : World} {a : Option Addr} {ca : Nat} (HI : Hid (Its w (.slice a s.its.length ca) s.its)) {op mode exp vive rc now most xe xl : Int} {k cv xk xv : ByteArray} {fg cs de ini xf xc : Nat} {hx dn vv xs xw : Bool} (hm : ¬ mode = 1) (hx1 : ¬ xc = cs) (hx2 : ¬ cs < xc) :
    Calls Tryd.prog 25 #[.agg #[.slice a s.its.length ca, .int .u64 s.cas, .int .i64 s.fl], .int .i64 now, .agg #[.int .i64 op, .int .i64 mode, .string k, .string cv, .int .u32 fg, .int .i64 exp, .bool hx, .int .u64 cs, .bool true, .int .u64 de, .int .u64 ini, .bool dn, .bool vv, .int .i64 vive, .int .i64 rc, .bool true], .agg #[.string xk, .int .u32 xf, .string xv, .int .i64 xe, .int .u64 xc, .int .i64 xl, .bool xs, .bool xw], .bool true, .int .i64 most] w fun e w' => ∃ V', e = .returned (.tuple #[V', (An.of 4).v]) ∧ Sv w' V' s ∧ Below w.heap.size w w' := by
  have hW := W5.begin w #[.slice a s.its.length ca, .int .u64 s.cas, .int .i64 s.fl] #[.int .i64 op, .int .i64 mode, .string k, .string cv, .int .u32 fg, .int .i64 exp, .bool hx, .int .u64 cs, .bool true, .int .u64 de, .int .u64 ini, .bool dn, .bool vv, .int .i64 vive, .int .i64 rc, .bool true] #[.string xk, .int .u32 xf, .string xv, .int .i64 xe, .int .u64 xc, .int .i64 xl, .bool xs, .bool xw] #[.slice none 0 0, .int .u64 0, .int .i64 0] #[.int .i64 0, .string ⟨#[]⟩, .int .u32 0, .string ⟨#[]⟩, .int .i64 0, .int .u64 0, .int .i64 0, .bool false, .bool false, .int .u64 0, .bool false, .bool false, .bool false]
  have HW := hid hW
  clear hW
  go_enter Tryd.func25, Tryd.ntmps25
  go_upto_region 1 with fail
  generalize hW0 : (((((w.alloc (.cells #[.slice a s.its.length ca, .int .u64 s.cas, .int .i64 s.fl] 25)).alloc (.cells #[.int .i64 op, .int .i64 mode, .string k, .string cv, .int .u32 fg, .int .i64 exp, .bool hx, .int .u64 cs, .bool true, .int .u64 de, .int .u64 ini, .bool dn, .bool vv, .int .i64 vive, .int .i64 rc, .bool true] 28)).alloc (.cells #[.string xk, .int .u32 xf, .string xv, .int .i64 xe, .int .u64 xc, .int .i64 xl, .bool xs, .bool xw] 33)).alloc (.cells #[.slice none 0 0, .int .u64 0, .int .i64 0] 25)).alloc (.cells #[.int .i64 0, .string ⟨#[]⟩, .int .u32 0, .string ⟨#[]⟩, .int .i64 0, .int .u64 0, .int .i64 0, .bool false, .bool false, .int .u64 0, .bool false, .bool false, .bool false] 35)) = W0 at *
  have k1 := HW.out.b1.cell (i := 1) rfl
  go_cut [30] from 16 to 29 (fun b wx => wx = W0 ∧ b = .bool false)
  case first =>
    have m1' : (mode == 1) = false := beq_eq_false_iff_ne.2 hm
    clear HW hW0
    by_cases h2 : 2 ≤ mode
    · go_wp2_with fail
      go_meet
      exact ⟨rfl, rfl⟩
    · go_wp2_with fail
      go_meet
      exact ⟨rfl, rfl⟩
  case rest =>
  obtain ⟨rfl, rfl⟩ := hcut
  clear k1 hW0 hm
  have q1 : ((xc : Int) == (cs : Int)) = false := beq_eq_false_iff_ne.2 (by omega)
  have q2 : ((xc : Int) != (cs : Int)) = true := bne_iff_ne.2 (by omega)
  have q3 : ¬ (cs : Int) < (xc : Int) := by omega
  have k8 := HW.out.b1.cell (i := 8) rfl
  have k7 := HW.out.b1.cell (i := 7) rfl
  have k15 := HW.out.b1.cell (i := 15) rfl
  have k4 := HW.out.b2.cell (i := 4) rfl
  have m0 := HW.out.b0.cell (i := 0) rfl
  have m1 := HW.out.b0.cell (i := 1) rfl
  have m2 := HW.out.b0.cell (i := 2) rfl
  have g0 := HW.out.b3.cell (i := 0) rfl
  have h0 := HW.out.b3.frozen 0
  have g1 := HW.out.b3.cell (i := 1) rfl
  have h1 := HW.out.b3.frozen 1
  have g2 := HW.out.b3.cell (i := 2) rfl
  have h2 := HW.out.b3.frozen 2
  have e0 := HW.out.b4.cell (i := 0) rfl
  have f0 := HW.out.b4.frozen 0
  have e1 := HW.out.b4.cell (i := 1) rfl
  have f1 := HW.out.b4.frozen 1
  have e2 := HW.out.b4.cell (i := 2) rfl
  have f2 := HW.out.b4.frozen 2
  have e3 := HW.out.b4.cell (i := 3) rfl
  have f3 := HW.out.b4.frozen 3
  have e4 := HW.out.b4.cell (i := 4) rfl
  have f4 := HW.out.b4.frozen 4
  have e5 := HW.out.b4.cell (i := 5) rfl
  have f5 := HW.out.b4.frozen 5
  have e6 := HW.out.b4.cell (i := 6) rfl
  have f6 := HW.out.b4.frozen 6
  have e7 := HW.out.b4.cell (i := 7) rfl
  have f7 := HW.out.b4.frozen 7
  have e8 := HW.out.b4.cell (i := 8) rfl
  have f8 := HW.out.b4.frozen 8
  have e9 := HW.out.b4.cell (i := 9) rfl
  have f9 := HW.out.b4.frozen 9
  have e10 := HW.out.b4.cell (i := 10) rfl
  have f10 := HW.out.b4.frozen 10
  have e11 := HW.out.b4.cell (i := 11) rfl
  have f11 := HW.out.b4.frozen 11
  have e12 := HW.out.b4.cell (i := 12) rfl
  have f12 := HW.out.b4.frozen 12
  have HW7 := hid ((HW.out.st3 (vs := [.slice a s.its.length ca, .int .u64 s.cas, .int .i64 s.fl]) rfl).st4 (vs := [.int .i64 4, .string ⟨#[]⟩, .int .u32 0, .string ⟨#[]⟩, .int .i64 0, .int .u64 0, .int .i64 0, .bool false, .bool false, .int .u64 0, .bool false, .bool false, .bool false]) rfl)
  go_wp2_with fail
  change bodyPost _ _ _ _ _ (stc (stc wc (w.heap.size + 1 + 1 + 1) [.slice a s.its.length ca, .int .u64 s.cas, .int .i64 s.fl] 0) (w.heap.size + 1 + 1 + 1 + 1) [.int .i64 4, .string ⟨#[]⟩, .int .u32 0, .string ⟨#[]⟩, .int .i64 0, .int .u64 0, .int .i64 0, .bool false, .bool false, .int .u64 0, .bool false, .bool false, .bool false] 0)
  generalize stc (stc wc (w.heap.size + 1 + 1 + 1) [.slice a s.its.length ca, .int .u64 s.cas, .int .i64 s.fl] 0) (w.heap.size + 1 + 1 + 1 + 1) [.int .i64 4, .string ⟨#[]⟩, .int .u32 0, .string ⟨#[]⟩, .int .i64 0, .int .u64 0, .int .i64 0, .bool false, .bool false, .int .u64 0, .bool false, .bool false, .bool false] 0 = W7 at *
  exact bodyPost_ret (res_sa (a := An.of 4) rfl ⟨_, _, rfl⟩ HW7.out.b3 HW7.out.b4 rfl rfl) rfl ⟨_, rfl, ⟨_, rfl, HI.out.below HW7.out.below⟩, HW7.out.below⟩
end Go.Proofs.YtpgljahomeebhaaDoor.Md
