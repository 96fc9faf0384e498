/-
  The contract of the document's own Apply. Conditions: the state is not over great, its items' keys are no empty texts; numbers are in their types' ranges.
-/
import Derived.Test.YtpgljahomeebhaaDoorM8
namespace Go.Proofs.YtpgljahomeebhaaDoor.Md
open Go Go.RowKit Go.Lib

set_option maxRecDepth 100000 in
set_option maxHeartbeats 16000000 in
theorem rapply_may {s : Ms} {w : World} {a : Option Addr} {ca : Nat} {op mode exp vive rc now most : Int} {k cv : ByteArray} {fg cs de ini : Nat} {hx dn vv hc iv : Bool} (hks : k.size < 9223372036854775807) (hf : fine now ⟨op, mode, k, cv, fg, exp, hx, cs, hc, de, ini, dn, vv, vive, rc, iv⟩ = false) (hmay : may ⟨op, mode, k, cv, fg, exp, hx, cs, hc, de, ini, dn, vv, vive, rc, iv⟩ = false) :
    Calls Tryd.prog 16 #[.agg #[.slice a s.its.length ca, .int .u64 s.cas, .int .i64 s.fl], .int .i64 now, .agg #[.int .i64 op, .int .i64 mode, .string k, .string cv, .int .u32 fg, .int .i64 exp, .bool hx, .int .u64 cs, .bool hc, .int .u64 de, .int .u64 ini, .bool dn, .bool vv, .int .i64 vive, .int .i64 rc, .bool iv], .int .i64 most] w fun e w' => ∃ V', e = .returned (.tuple #[V', (apply s now ⟨op, mode, k, cv, fg, exp, hx, cs, hc, de, ini, dn, vv, vive, rc, iv⟩ most).2.v]) ∧ Sv w' V' (apply s now ⟨op, mode, k, cv, fg, exp, hx, cs, hc, de, ini, dn, vv, vive, rc, iv⟩ most).1 ∧ Below w.heap.size w w' := by
  have happ : apply s now ⟨op, mode, k, cv, fg, exp, hx, cs, hc, de, ini, dn, vv, vive, rc, iv⟩ most = (noMs, An.of 0) := app_no hf
  have hB0 := begin4 w #[.slice a s.its.length ca, .int .u64 s.cas, .int .i64 s.fl] #[.int .i64 op, .int .i64 mode, .string k, .string cv, .int .u32 fg, .int .i64 exp, .bool hx, .int .u64 cs, .bool hc, .int .u64 de, .int .u64 ini, .bool dn, .bool vv, .int .i64 vive, .int .i64 rc, .bool iv]
  have HB : Hid (Bxr w [(w.heap.size + 1 + 1 + 1, 35, [.int .i64 0, .string ⟨#[]⟩, .int .u32 0, .string ⟨#[]⟩, .int .i64 0, .int .u64 0, .int .i64 0, .bool false, .bool false, .int .u64 0, .bool false, .bool false, .bool false]), (w.heap.size + 1 + 1, 25, [.slice none 0 0, .int .u64 0, .int .i64 0]), (w.heap.size + 1, 28, [.int .i64 op, .int .i64 mode, .string k, .string cv, .int .u32 fg, .int .i64 exp, .bool hx, .int .u64 cs, .bool hc, .int .u64 de, .int .u64 ini, .bool dn, .bool vv, .int .i64 vive, .int .i64 rc, .bool iv]), (w.heap.size, 25, [.slice a s.its.length ca, .int .u64 s.cas, .int .i64 s.fl])] [] ((((w.alloc (.cells #[.slice a s.its.length ca, .int .u64 s.cas, .int .i64 s.fl] 25)).alloc (.cells #[.int .i64 op, .int .i64 mode, .string k, .string cv, .int .u32 fg, .int .i64 exp, .bool hx, .int .u64 cs, .bool hc, .int .u64 de, .int .u64 ini, .bool dn, .bool vv, .int .i64 vive, .int .i64 rc, .bool iv] 28)).alloc (.cells #[.slice none 0 0, .int .u64 0, .int .i64 0] 25)).alloc (.cells #[.int .i64 0, .string ⟨#[]⟩, .int .u32 0, .string ⟨#[]⟩, .int .i64 0, .int .u64 0, .int .i64 0, .bool false, .bool false, .int .u64 0, .bool false, .bool false, .bool false] 35))) := hid hB0
  clear hB0
  go_enter Tryd.func16, Tryd.ntmps16
  go_upto_region 1 with fail
  generalize hW0 : ((((w.alloc (.cells #[.slice a s.its.length ca, .int .u64 s.cas, .int .i64 s.fl] 25)).alloc (.cells #[.int .i64 op, .int .i64 mode, .string k, .string cv, .int .u32 fg, .int .i64 exp, .bool hx, .int .u64 cs, .bool hc, .int .u64 de, .int .u64 ini, .bool dn, .bool vv, .int .i64 vive, .int .i64 rc, .bool iv] 28)).alloc (.cells #[.slice none 0 0, .int .u64 0, .int .i64 0] 25)).alloc (.cells #[.int .i64 0, .string ⟨#[]⟩, .int .u32 0, .string ⟨#[]⟩, .int .i64 0, .int .u64 0, .int .i64 0, .bool false, .bool false, .int .u64 0, .bool false, .bool false, .bool false] 35)) = W0 at *
  clear hW0
  refine wp_region_list ?_
  refine loadC (cs := [.int .i64 op, .int .i64 mode, .string k, .string cv, .int .u32 fg, .int .i64 exp, .bool hx, .int .u64 cs, .bool hc, .int .u64 de, .int .u64 ini, .bool dn, .bool vv, .int .i64 vive, .int .i64 rc, .bool iv]) rfl rfl rfl (HB.out.1.get 2 rfl) rfl ?_
  refine wpList_calls (f := 21) (args := #[.agg #[.int .i64 op, .int .i64 mode, .string k, .string cv, .int .u32 fg, .int .i64 exp, .bool hx, .int .u64 cs, .bool hc, .int .u64 de, .int .u64 ini, .bool dn, .bool vv, .int .i64 vive, .int .i64 rc, .bool iv]]) rfl (by kernel_rfl) ?_
  refine (ref_may ⟨op, mode, k, cv, fg, exp, hx, cs, hc, de, ini, dn, vv, vive, rc, iv⟩ hks _).mono ?_
  rintro e W1 ⟨rfl, hb1⟩
  refine ⟨_, rfl, ?_⟩
  have HB1 := hid (HB.out.step hb1)
  clear hb1 HB hks
  rw [hmay]
  refine wpList_val (v := .bool false) (w' := W1) rfl (by kernel_rfl) ?_
  refine wpList_nil ?_
  go_simp
  clear hmay
  go_upto_region 3 with fail
  refine wp_region_list ?_
  refine wpList_val (v := .agg (stv (.slice none 0 0) noMs).toArray) (w' := W1) rfl (by kernel_rfl) ?_
  refine wpList_val (v := (An.of 0).v) (w' := W1) rfl (by kernel_rfl) ?_
  refine wpList_stor (b := w.heap.size + 1 + 1) (cs := stv (.slice none 0 0) noMs) rfl rfl rfl rfl rfl (HB1.out.1.get 1 rfl) rfl (by kernel_rfl) rfl ?_
  have HY := hid (HB1.out.setc 1 (vs := stv (.slice none 0 0) noMs) rfl rfl)
  refine wpList_stor (b := w.heap.size + 1 + 1 + 1) (cs := (An.of 0).cells) rfl rfl rfl rfl rfl (HY.out.1.get 0 rfl) rfl (by kernel_rfl) rfl ?_
  have HZ := hid (HY.out.setc 0 (vs := (An.of 0).cells) rfl rfl)
  refine wpList_nil ?_
  have HIZ : Hid (Its ((W1.setCells (w.heap.size + 1 + 1) 0 (stv (.slice none 0 0) noMs)).setCells (w.heap.size + 1 + 1 + 1) 0 (An.of 0).cells) (.slice none 0 0) []) := hid (its_nil _)
  go_simp
  go_wp2_with fail
  try rw [happ]
  exact bodyPost_ret (res_sa (a := An.of 0) rfl ⟨_, _, rfl⟩ (HZ.out.1.get 1 rfl) (HZ.out.1.get 0 rfl) rfl rfl) rfl ⟨_, rfl, ⟨_, rfl, HIZ.out⟩, HZ.out.1.1⟩
set_option maxRecDepth 100000 in
set_option maxHeartbeats 16000000 in
theorem rapply_low {s : Ms} {w : World} {a : Option Addr} {ca : Nat} {op mode exp vive rc now most : Int} {k cv : ByteArray} {fg cs de ini : Nat} {hx dn vv hc iv : Bool} (hks : k.size < 9223372036854775807) (hf : fine now ⟨op, mode, k, cv, fg, exp, hx, cs, hc, de, ini, dn, vv, vive, rc, iv⟩ = false) (hmay : may ⟨op, mode, k, cv, fg, exp, hx, cs, hc, de, ini, dn, vv, vive, rc, iv⟩ = true) (hl : now < 1) :
    Calls Tryd.prog 16 #[.agg #[.slice a s.its.length ca, .int .u64 s.cas, .int .i64 s.fl], .int .i64 now, .agg #[.int .i64 op, .int .i64 mode, .string k, .string cv, .int .u32 fg, .int .i64 exp, .bool hx, .int .u64 cs, .bool hc, .int .u64 de, .int .u64 ini, .bool dn, .bool vv, .int .i64 vive, .int .i64 rc, .bool iv], .int .i64 most] w fun e w' => ∃ V', e = .returned (.tuple #[V', (apply s now ⟨op, mode, k, cv, fg, exp, hx, cs, hc, de, ini, dn, vv, vive, rc, iv⟩ most).2.v]) ∧ Sv w' V' (apply s now ⟨op, mode, k, cv, fg, exp, hx, cs, hc, de, ini, dn, vv, vive, rc, iv⟩ most).1 ∧ Below w.heap.size w w' := by
  have happ : apply s now ⟨op, mode, k, cv, fg, exp, hx, cs, hc, de, ini, dn, vv, vive, rc, iv⟩ most = (noMs, An.of 0) := app_no hf
  have hB0 := begin4 w #[.slice a s.its.length ca, .int .u64 s.cas, .int .i64 s.fl] #[.int .i64 op, .int .i64 mode, .string k, .string cv, .int .u32 fg, .int .i64 exp, .bool hx, .int .u64 cs, .bool hc, .int .u64 de, .int .u64 ini, .bool dn, .bool vv, .int .i64 vive, .int .i64 rc, .bool iv]
  have HB : Hid (Bxr w [(w.heap.size + 1 + 1 + 1, 35, [.int .i64 0, .string ⟨#[]⟩, .int .u32 0, .string ⟨#[]⟩, .int .i64 0, .int .u64 0, .int .i64 0, .bool false, .bool false, .int .u64 0, .bool false, .bool false, .bool false]), (w.heap.size + 1 + 1, 25, [.slice none 0 0, .int .u64 0, .int .i64 0]), (w.heap.size + 1, 28, [.int .i64 op, .int .i64 mode, .string k, .string cv, .int .u32 fg, .int .i64 exp, .bool hx, .int .u64 cs, .bool hc, .int .u64 de, .int .u64 ini, .bool dn, .bool vv, .int .i64 vive, .int .i64 rc, .bool iv]), (w.heap.size, 25, [.slice a s.its.length ca, .int .u64 s.cas, .int .i64 s.fl])] [] ((((w.alloc (.cells #[.slice a s.its.length ca, .int .u64 s.cas, .int .i64 s.fl] 25)).alloc (.cells #[.int .i64 op, .int .i64 mode, .string k, .string cv, .int .u32 fg, .int .i64 exp, .bool hx, .int .u64 cs, .bool hc, .int .u64 de, .int .u64 ini, .bool dn, .bool vv, .int .i64 vive, .int .i64 rc, .bool iv] 28)).alloc (.cells #[.slice none 0 0, .int .u64 0, .int .i64 0] 25)).alloc (.cells #[.int .i64 0, .string ⟨#[]⟩, .int .u32 0, .string ⟨#[]⟩, .int .i64 0, .int .u64 0, .int .i64 0, .bool false, .bool false, .int .u64 0, .bool false, .bool false, .bool false] 35))) := hid hB0
  clear hB0
  go_enter Tryd.func16, Tryd.ntmps16
  go_upto_region 1 with fail
  generalize hW0 : ((((w.alloc (.cells #[.slice a s.its.length ca, .int .u64 s.cas, .int .i64 s.fl] 25)).alloc (.cells #[.int .i64 op, .int .i64 mode, .string k, .string cv, .int .u32 fg, .int .i64 exp, .bool hx, .int .u64 cs, .bool hc, .int .u64 de, .int .u64 ini, .bool dn, .bool vv, .int .i64 vive, .int .i64 rc, .bool iv] 28)).alloc (.cells #[.slice none 0 0, .int .u64 0, .int .i64 0] 25)).alloc (.cells #[.int .i64 0, .string ⟨#[]⟩, .int .u32 0, .string ⟨#[]⟩, .int .i64 0, .int .u64 0, .int .i64 0, .bool false, .bool false, .int .u64 0, .bool false, .bool false, .bool false] 35)) = W0 at *
  clear hW0
  refine wp_region_list ?_
  refine loadC (cs := [.int .i64 op, .int .i64 mode, .string k, .string cv, .int .u32 fg, .int .i64 exp, .bool hx, .int .u64 cs, .bool hc, .int .u64 de, .int .u64 ini, .bool dn, .bool vv, .int .i64 vive, .int .i64 rc, .bool iv]) rfl rfl rfl (HB.out.1.get 2 rfl) rfl ?_
  refine wpList_calls (f := 21) (args := #[.agg #[.int .i64 op, .int .i64 mode, .string k, .string cv, .int .u32 fg, .int .i64 exp, .bool hx, .int .u64 cs, .bool hc, .int .u64 de, .int .u64 ini, .bool dn, .bool vv, .int .i64 vive, .int .i64 rc, .bool iv]]) rfl (by kernel_rfl) ?_
  refine (ref_may ⟨op, mode, k, cv, fg, exp, hx, cs, hc, de, ini, dn, vv, vive, rc, iv⟩ hks _).mono ?_
  rintro e W1 ⟨rfl, hb1⟩
  refine ⟨_, rfl, ?_⟩
  have HB1 := hid (HB.out.step hb1)
  clear hb1 HB hks
  rw [hmay]
  refine wpList_val (v := .bool true) (w' := W1) rfl (by kernel_rfl) ?_
  refine wpList_nil ?_
  go_simp
  clear hmay
  go_upto_region 3 with fail
  refine wp_region_list ?_
  refine wpList_val (v := .agg (stv (.slice none 0 0) noMs).toArray) (w' := W1) rfl (by kernel_rfl) ?_
  refine wpList_val (v := (An.of 0).v) (w' := W1) rfl (by kernel_rfl) ?_
  refine wpList_stor (b := w.heap.size + 1 + 1) (cs := stv (.slice none 0 0) noMs) rfl rfl rfl rfl rfl (HB1.out.1.get 1 rfl) rfl (by kernel_rfl) rfl ?_
  have HY := hid (HB1.out.setc 1 (vs := stv (.slice none 0 0) noMs) rfl rfl)
  refine wpList_stor (b := w.heap.size + 1 + 1 + 1) (cs := (An.of 0).cells) rfl rfl rfl rfl rfl (HY.out.1.get 0 rfl) rfl (by kernel_rfl) rfl ?_
  have HZ := hid (HY.out.setc 0 (vs := (An.of 0).cells) rfl rfl)
  refine wpList_nil ?_
  have HIZ : Hid (Its ((W1.setCells (w.heap.size + 1 + 1) 0 (stv (.slice none 0 0) noMs)).setCells (w.heap.size + 1 + 1 + 1) 0 (An.of 0).cells) (.slice none 0 0) []) := hid (its_nil _)
  go_simp
  go_wp2_with fail
  try rw [happ]
  exact bodyPost_ret (res_sa (a := An.of 0) rfl ⟨_, _, rfl⟩ (HZ.out.1.get 1 rfl) (HZ.out.1.get 0 rfl) rfl rfl) rfl ⟨_, rfl, ⟨_, rfl, HIZ.out⟩, HZ.out.1.1⟩
set_option maxRecDepth 100000 in
set_option maxHeartbeats 16000000 in
theorem rapply_high {s : Ms} {w : World} {a : Option Addr} {ca : Nat} {op mode exp vive rc now most : Int} {k cv : ByteArray} {fg cs de ini : Nat} {hx dn vv hc iv : Bool} (hks : k.size < 9223372036854775807) (hf : fine now ⟨op, mode, k, cv, fg, exp, hx, cs, hc, de, ini, dn, vv, vive, rc, iv⟩ = false) (hmay : may ⟨op, mode, k, cv, fg, exp, hx, cs, hc, de, ini, dn, vv, vive, rc, iv⟩ = true) (hl : ¬ now < 1) (hh : 1099511627776 < now) :
    Calls Tryd.prog 16 #[.agg #[.slice a s.its.length ca, .int .u64 s.cas, .int .i64 s.fl], .int .i64 now, .agg #[.int .i64 op, .int .i64 mode, .string k, .string cv, .int .u32 fg, .int .i64 exp, .bool hx, .int .u64 cs, .bool hc, .int .u64 de, .int .u64 ini, .bool dn, .bool vv, .int .i64 vive, .int .i64 rc, .bool iv], .int .i64 most] w fun e w' => ∃ V', e = .returned (.tuple #[V', (apply s now ⟨op, mode, k, cv, fg, exp, hx, cs, hc, de, ini, dn, vv, vive, rc, iv⟩ most).2.v]) ∧ Sv w' V' (apply s now ⟨op, mode, k, cv, fg, exp, hx, cs, hc, de, ini, dn, vv, vive, rc, iv⟩ most).1 ∧ Below w.heap.size w w' := by
  have happ : apply s now ⟨op, mode, k, cv, fg, exp, hx, cs, hc, de, ini, dn, vv, vive, rc, iv⟩ most = (noMs, An.of 0) := app_no hf
  have hB0 := begin4 w #[.slice a s.its.length ca, .int .u64 s.cas, .int .i64 s.fl] #[.int .i64 op, .int .i64 mode, .string k, .string cv, .int .u32 fg, .int .i64 exp, .bool hx, .int .u64 cs, .bool hc, .int .u64 de, .int .u64 ini, .bool dn, .bool vv, .int .i64 vive, .int .i64 rc, .bool iv]
  have HB : Hid (Bxr w [(w.heap.size + 1 + 1 + 1, 35, [.int .i64 0, .string ⟨#[]⟩, .int .u32 0, .string ⟨#[]⟩, .int .i64 0, .int .u64 0, .int .i64 0, .bool false, .bool false, .int .u64 0, .bool false, .bool false, .bool false]), (w.heap.size + 1 + 1, 25, [.slice none 0 0, .int .u64 0, .int .i64 0]), (w.heap.size + 1, 28, [.int .i64 op, .int .i64 mode, .string k, .string cv, .int .u32 fg, .int .i64 exp, .bool hx, .int .u64 cs, .bool hc, .int .u64 de, .int .u64 ini, .bool dn, .bool vv, .int .i64 vive, .int .i64 rc, .bool iv]), (w.heap.size, 25, [.slice a s.its.length ca, .int .u64 s.cas, .int .i64 s.fl])] [] ((((w.alloc (.cells #[.slice a s.its.length ca, .int .u64 s.cas, .int .i64 s.fl] 25)).alloc (.cells #[.int .i64 op, .int .i64 mode, .string k, .string cv, .int .u32 fg, .int .i64 exp, .bool hx, .int .u64 cs, .bool hc, .int .u64 de, .int .u64 ini, .bool dn, .bool vv, .int .i64 vive, .int .i64 rc, .bool iv] 28)).alloc (.cells #[.slice none 0 0, .int .u64 0, .int .i64 0] 25)).alloc (.cells #[.int .i64 0, .string ⟨#[]⟩, .int .u32 0, .string ⟨#[]⟩, .int .i64 0, .int .u64 0, .int .i64 0, .bool false, .bool false, .int .u64 0, .bool false, .bool false, .bool false] 35))) := hid hB0
  clear hB0
  go_enter Tryd.func16, Tryd.ntmps16
  go_upto_region 1 with fail
  generalize hW0 : ((((w.alloc (.cells #[.slice a s.its.length ca, .int .u64 s.cas, .int .i64 s.fl] 25)).alloc (.cells #[.int .i64 op, .int .i64 mode, .string k, .string cv, .int .u32 fg, .int .i64 exp, .bool hx, .int .u64 cs, .bool hc, .int .u64 de, .int .u64 ini, .bool dn, .bool vv, .int .i64 vive, .int .i64 rc, .bool iv] 28)).alloc (.cells #[.slice none 0 0, .int .u64 0, .int .i64 0] 25)).alloc (.cells #[.int .i64 0, .string ⟨#[]⟩, .int .u32 0, .string ⟨#[]⟩, .int .i64 0, .int .u64 0, .int .i64 0, .bool false, .bool false, .int .u64 0, .bool false, .bool false, .bool false] 35)) = W0 at *
  clear hW0
  refine wp_region_list ?_
  refine loadC (cs := [.int .i64 op, .int .i64 mode, .string k, .string cv, .int .u32 fg, .int .i64 exp, .bool hx, .int .u64 cs, .bool hc, .int .u64 de, .int .u64 ini, .bool dn, .bool vv, .int .i64 vive, .int .i64 rc, .bool iv]) rfl rfl rfl (HB.out.1.get 2 rfl) rfl ?_
  refine wpList_calls (f := 21) (args := #[.agg #[.int .i64 op, .int .i64 mode, .string k, .string cv, .int .u32 fg, .int .i64 exp, .bool hx, .int .u64 cs, .bool hc, .int .u64 de, .int .u64 ini, .bool dn, .bool vv, .int .i64 vive, .int .i64 rc, .bool iv]]) rfl (by kernel_rfl) ?_
  refine (ref_may ⟨op, mode, k, cv, fg, exp, hx, cs, hc, de, ini, dn, vv, vive, rc, iv⟩ hks _).mono ?_
  rintro e W1 ⟨rfl, hb1⟩
  refine ⟨_, rfl, ?_⟩
  have HB1 := hid (HB.out.step hb1)
  clear hb1 HB hks
  rw [hmay]
  refine wpList_val (v := .bool true) (w' := W1) rfl (by kernel_rfl) ?_
  refine wpList_nil ?_
  go_simp
  clear hmay
  go_upto_region 3 with fail
  refine wp_region_list ?_
  refine wpList_val (v := .agg (stv (.slice none 0 0) noMs).toArray) (w' := W1) rfl (by kernel_rfl) ?_
  refine wpList_val (v := (An.of 0).v) (w' := W1) rfl (by kernel_rfl) ?_
  refine wpList_stor (b := w.heap.size + 1 + 1) (cs := stv (.slice none 0 0) noMs) rfl rfl rfl rfl rfl (HB1.out.1.get 1 rfl) rfl (by kernel_rfl) rfl ?_
  have HY := hid (HB1.out.setc 1 (vs := stv (.slice none 0 0) noMs) rfl rfl)
  refine wpList_stor (b := w.heap.size + 1 + 1 + 1) (cs := (An.of 0).cells) rfl rfl rfl rfl rfl (HY.out.1.get 0 rfl) rfl (by kernel_rfl) rfl ?_
  have HZ := hid (HY.out.setc 0 (vs := (An.of 0).cells) rfl rfl)
  refine wpList_nil ?_
  have HIZ : Hid (Its ((W1.setCells (w.heap.size + 1 + 1) 0 (stv (.slice none 0 0) noMs)).setCells (w.heap.size + 1 + 1 + 1) 0 (An.of 0).cells) (.slice none 0 0) []) := hid (its_nil _)
  go_simp
  go_wp2_with fail
  try rw [happ]
  exact bodyPost_ret (res_sa (a := An.of 0) rfl ⟨_, _, rfl⟩ (HZ.out.1.get 1 rfl) (HZ.out.1.get 0 rfl) rfl rfl) rfl ⟨_, rfl, ⟨_, rfl, HIZ.out⟩, HZ.out.1.1⟩
set_option maxRecDepth 100000 in
set_option maxHeartbeats 16000000 in
theorem rapply_yes {s : Ms} {w : World} {a : Option Addr} {ca : Nat} {N B : Nat} (HI : Hid (Its w (.slice a s.its.length ca) s.its)) {op mode exp vive rc now most : Int} {k cv : ByteArray} {fg cs de ini : Nat} {hx dn vv hc iv : Bool} (hks : k.size < 9223372036854775807) (hF : Fit N B s) (hN : N ≤ 4194304) (hK : Keyed s.its) (hf : fine now ⟨op, mode, k, cv, fg, exp, hx, cs, hc, de, ini, dn, vv, vive, rc, iv⟩ = true) (hn1 : 1 ≤ now) (hn2 : now ≤ 1099511627776) (hBd : B ≤ 1048576) (hini : ini ≤ 18446744073709551615) :
    Calls Tryd.prog 16 #[.agg #[.slice a s.its.length ca, .int .u64 s.cas, .int .i64 s.fl], .int .i64 now, .agg #[.int .i64 op, .int .i64 mode, .string k, .string cv, .int .u32 fg, .int .i64 exp, .bool hx, .int .u64 cs, .bool hc, .int .u64 de, .int .u64 ini, .bool dn, .bool vv, .int .i64 vive, .int .i64 rc, .bool iv], .int .i64 most] w fun e w' => ∃ V', e = .returned (.tuple #[V', (apply s now ⟨op, mode, k, cv, fg, exp, hx, cs, hc, de, ini, dn, vv, vive, rc, iv⟩ most).2.v]) ∧ Sv w' V' (apply s now ⟨op, mode, k, cv, fg, exp, hx, cs, hc, de, ini, dn, vv, vive, rc, iv⟩ most).1 ∧ Below w.heap.size w w' := by
  have nn1 : ¬ now < 1 := by omega
  have nn2 : ¬ 1099511627776 < now := by omega
  have HK' := hid hK
  obtain ⟨L, hL⟩ : ∃ L, L = live s now := ⟨_, rfl⟩
  have HFL : Hid (Fit N B L) := hid (by rw [hL]; exact hF.live now)
  have hlen : s.its.length ≤ 4194304 := Nat.le_trans hF.len hN
  have hlenL : L.its.length ≤ 4194304 := Nat.le_trans HFL.out.len hN
  have HKL : Hid (Keyed L.its) := hid (fun x hx => hK x (by
    rw [hL] at hx
    unfold live at hx
    split at hx
    · cases hx
    · exact (List.mem_filter.1 hx).1))
  have HKX := HKL
  have HLD := hid hL
  have hmay : may ⟨op, mode, k, cv, fg, exp, hx, cs, hc, de, ini, dn, vv, vive, rc, iv⟩ = true := by
    have h := hf
    unfold fine at h
    rw [Bool.and_eq_true] at h
    exact h.1
  have happ : True := trivial
  clear hL hK HK' hF
  have hB0 := begin4 w #[.slice a s.its.length ca, .int .u64 s.cas, .int .i64 s.fl] #[.int .i64 op, .int .i64 mode, .string k, .string cv, .int .u32 fg, .int .i64 exp, .bool hx, .int .u64 cs, .bool hc, .int .u64 de, .int .u64 ini, .bool dn, .bool vv, .int .i64 vive, .int .i64 rc, .bool iv]
  have HB : Hid (Bxr w [(w.heap.size + 1 + 1 + 1, 35, [.int .i64 0, .string ⟨#[]⟩, .int .u32 0, .string ⟨#[]⟩, .int .i64 0, .int .u64 0, .int .i64 0, .bool false, .bool false, .int .u64 0, .bool false, .bool false, .bool false]), (w.heap.size + 1 + 1, 25, [.slice none 0 0, .int .u64 0, .int .i64 0]), (w.heap.size + 1, 28, [.int .i64 op, .int .i64 mode, .string k, .string cv, .int .u32 fg, .int .i64 exp, .bool hx, .int .u64 cs, .bool hc, .int .u64 de, .int .u64 ini, .bool dn, .bool vv, .int .i64 vive, .int .i64 rc, .bool iv]), (w.heap.size, 25, [.slice a s.its.length ca, .int .u64 s.cas, .int .i64 s.fl])] [] ((((w.alloc (.cells #[.slice a s.its.length ca, .int .u64 s.cas, .int .i64 s.fl] 25)).alloc (.cells #[.int .i64 op, .int .i64 mode, .string k, .string cv, .int .u32 fg, .int .i64 exp, .bool hx, .int .u64 cs, .bool hc, .int .u64 de, .int .u64 ini, .bool dn, .bool vv, .int .i64 vive, .int .i64 rc, .bool iv] 28)).alloc (.cells #[.slice none 0 0, .int .u64 0, .int .i64 0] 25)).alloc (.cells #[.int .i64 0, .string ⟨#[]⟩, .int .u32 0, .string ⟨#[]⟩, .int .i64 0, .int .u64 0, .int .i64 0, .bool false, .bool false, .int .u64 0, .bool false, .bool false, .bool false] 35))) := hid hB0
  clear hB0
  go_enter Tryd.func16, Tryd.ntmps16
  go_upto_region 1 with fail
  generalize hW0 : ((((w.alloc (.cells #[.slice a s.its.length ca, .int .u64 s.cas, .int .i64 s.fl] 25)).alloc (.cells #[.int .i64 op, .int .i64 mode, .string k, .string cv, .int .u32 fg, .int .i64 exp, .bool hx, .int .u64 cs, .bool hc, .int .u64 de, .int .u64 ini, .bool dn, .bool vv, .int .i64 vive, .int .i64 rc, .bool iv] 28)).alloc (.cells #[.slice none 0 0, .int .u64 0, .int .i64 0] 25)).alloc (.cells #[.int .i64 0, .string ⟨#[]⟩, .int .u32 0, .string ⟨#[]⟩, .int .i64 0, .int .u64 0, .int .i64 0, .bool false, .bool false, .int .u64 0, .bool false, .bool false, .bool false] 35)) = W0 at *
  clear hW0
  refine wp_region_list ?_
  refine loadC (cs := [.int .i64 op, .int .i64 mode, .string k, .string cv, .int .u32 fg, .int .i64 exp, .bool hx, .int .u64 cs, .bool hc, .int .u64 de, .int .u64 ini, .bool dn, .bool vv, .int .i64 vive, .int .i64 rc, .bool iv]) rfl rfl rfl (HB.out.1.get 2 rfl) rfl ?_
  refine wpList_calls (f := 21) (args := #[.agg #[.int .i64 op, .int .i64 mode, .string k, .string cv, .int .u32 fg, .int .i64 exp, .bool hx, .int .u64 cs, .bool hc, .int .u64 de, .int .u64 ini, .bool dn, .bool vv, .int .i64 vive, .int .i64 rc, .bool iv]]) rfl (by kernel_rfl) ?_
  refine (ref_may ⟨op, mode, k, cv, fg, exp, hx, cs, hc, de, ini, dn, vv, vive, rc, iv⟩ hks _).mono ?_
  rintro e W1 ⟨rfl, hb1⟩
  refine ⟨_, rfl, ?_⟩
  have HB1 := hid (HB.out.step hb1)
  clear hb1 HB hks
  rw [hmay]
  refine wpList_val (v := .bool true) (w' := W1) rfl (by kernel_rfl) ?_
  refine wpList_nil ?_
  go_simp
  go_upto_region 4 with fail
  clear nn1 nn2
  refine wp_region_list ?_
  refine loadS (cs := [.slice a s.its.length ca, .int .u64 s.cas, .int .i64 s.fl]) rfl rfl rfl (HB1.out.1.get 3 rfl) rfl ?_
  refine wpList_val (v := .int .i64 now) (w' := W1) rfl (by kernel_rfl) ?_
  refine wpList_calls (f := 22) (args := #[.agg #[.slice a s.its.length ca, .int .u64 s.cas, .int .i64 s.fl], .int .i64 now]) rfl (by kernel_rfl) ?_
  refine (ref_live (s := s) (V := .agg #[.slice a s.its.length ca, .int .u64 s.cas, .int .i64 s.fl]) ⟨_, rfl, HI.out.below HB1.out.1.1⟩ hlen now).mono ?_
  rw [← HLD.out]
  rintro e W2 ⟨V', rfl, ⟨vl, rfl, hIl⟩, hb2⟩
  refine ⟨_, rfl, ?_⟩
  obtain ⟨al, cl, rfl⟩ := hIl.form
  obtain ⟨NL, hNL⟩ : ∃ q, q = L.its.length := ⟨_, rfl⟩
  rw [← hNL] at hIl ⊢
  have HNL := hid hNL
  clear hNL
  have HB2 := hid (HB1.out.step hb2)
  clear hb2 HB1
  refine wpList_stor (b := w.heap.size) (cs := [.slice al NL cl, .int .u64 L.cas, .int .i64 L.fl]) rfl rfl rfl rfl (by kernel_rfl) (HB2.out.1.get 3 rfl) rfl (by kernel_rfl) rfl ?_
  have HB3 := hid (HB2.out.setc 3 (vs := [.slice al NL cl, .int .u64 L.cas, .int .i64 L.fl]) rfl rfl)
  have HI3 := hid (its_keep hIl HKL.out (HB2.out.1.get 3 rfl) (by intro k hk; simp at hk) [.slice al NL cl, .int .u64 L.cas, .int .i64 L.fl])
  clear hIl HB2
  generalize W2.setCells (w.heap.size) 0 [.slice al NL cl, .int .u64 L.cas, .int .i64 L.fl] = W3 at *
  refine wpList_nil ?_
  go_simp
  go_upto_region 5 with fail
  refine wp_region_list ?_
  refine loadS (cs := [.slice al NL cl, .int .u64 L.cas, .int .i64 L.fl]) rfl rfl rfl (HB3.out.1.get 3 rfl) rfl ?_
  have k2 := HB3.out.1.get 2 rfl |>.cell (i := 2) rfl
  refine wpList_val (v := .pointer (some ⟨w.heap.size + 1, 2, none⟩)) (w' := W3) rfl (by kernel_rfl) ?_
  refine wpList_val (v := .string k) (w' := W3) rfl (by go_simp) ?_
  clear k2
  refine wpList_calls (f := 23) (args := #[.agg #[.slice al NL cl, .int .u64 L.cas, .int .i64 L.fl], .string k]) rfl (by kernel_rfl) ?_
  refine (ref_find (s := L) (V := .agg #[.slice al NL cl, .int .u64 L.cas, .int .i64 L.fl]) ⟨_, rfl, HI3.out⟩ HFL.out.sorted hlenL k).mono ?_
  rintro e W4 ⟨rfl, hb4⟩
  refine ⟨_, rfl, ?_⟩
  have HB4 := hid (HB3.out.step hb4)
  have HI4 := hid (HI3.out.below hb4)
  clear hb4 HB3 HI3
  refine wpList_val (v := .tuple #[.int .i64 (pos L.its k), .bool (isAt L.its k)]) (w' := W4) rfl (by kernel_rfl) ?_
  refine wpList_val (v := .int .i64 (pos L.its k)) (w' := W4) rfl (by kernel_rfl) ?_
  refine wpList_val (v := .bool (isAt L.its k)) (w' := W4) rfl (by kernel_rfl) ?_
  refine wpList_val (v := .int .i64 (pos L.its k)) (w' := W4) rfl (by kernel_rfl) ?_
  refine wpList_val (v := .bool (isAt L.its k)) (w' := W4) rfl (by kernel_rfl) ?_
  refine wpList_nil ?_
  go_simp
  go_upto_region 6 with fail
  refine wp_region_list ?_
  refine wpList_val (v := noIt.v) (w' := W4) rfl (by kernel_rfl) ?_
  refine newI (cs := noIt.cells) HB4.out rfl rfl rfl rfl rfl rfl (by kernel_rfl) rfl ⟨125, by kernel_rfl, by decide⟩ rfl rfl (fun D W5 hx5 hb5 hd5 => ?_)
  have HB5 := hid hx5
  have HI5 := hid (HI4.out.below hb5)
  have HAP := hid (its_apart HI4.out hd5)
  clear hx5 hb5 hd5 HB4 HI4
  go_simp
  obtain ⟨o, hod⟩ : ∃ o, o = find L.its k := ⟨_, rfl⟩
  have hia : isAt L.its k = o.isSome := by rw [hod]; rfl
  obtain ⟨pz, hpz⟩ : ∃ pz, pz = pos L.its k := ⟨_, rfl⟩
  have hpa : Hid (∀ x, o = some x → L.its[pz]? = some x) := hid (fun x hx => by
    have h := pos_at HFL.out.sorted k
    rw [hia, hpz.symm, hod.symm, hx] at h
    exact h rfl)
  have HOK : Hid (∀ x, o = some x → It.Fit B x ∧ x.key = k) := hid (fun x hx => find_fit HFL.out k x (hod ▸ hx))
  rw [hia, ← hpz]
  have HOD := hid hod
  clear hod hia hpz
  obtain ⟨⟨xk, xf, xv, xe, xc, xl, xs, xw⟩, hX⟩ : ∃ X : It, X = o.getD noIt := ⟨_, rfl⟩
  go_upto_if 40 with fail
  go_cut [] from 41 to 45 (fun wx => Hid (Bxr w [(D, 33, [.string xk, .int .u32 xf, .string xv, .int .i64 xe, .int .u64 xc, .int .i64 xl, .bool xs, .bool xw]), (w.heap.size + 1 + 1 + 1, 35, [.int .i64 0, .string ⟨#[]⟩, .int .u32 0, .string ⟨#[]⟩, .int .i64 0, .int .u64 0, .int .i64 0, .bool false, .bool false, .int .u64 0, .bool false, .bool false, .bool false]), (w.heap.size + 1 + 1, 25, [.slice none 0 0, .int .u64 0, .int .i64 0]), (w.heap.size + 1, 28, [.int .i64 op, .int .i64 mode, .string k, .string cv, .int .u32 fg, .int .i64 exp, .bool hx, .int .u64 cs, .bool hc, .int .u64 de, .int .u64 ini, .bool dn, .bool vv, .int .i64 vive, .int .i64 rc, .bool iv]), (w.heap.size, 25, [.slice al NL cl, .int .u64 L.cas, .int .i64 L.fl])] [] wx) ∧ Hid (Its wx (.slice al NL cl) L.its))
  case first =>
    cases o with
    | none =>
      cases hX
      clear hpa HOK HOD HFL HKL HLD HI happ
      go_wp2_with fail
      go_meet
      exact ⟨HB5, HI5⟩
    | some x =>
      have hX2 : (⟨xk, xf, xv, xe, xc, xl, xs, xw⟩ : It) = x := hX
      clear hX
      subst hX2
      have hat := hpa.out _ rfl
      have hlt : pz < NL := by rw [HNL.out]; exact (List.getElem?_eq_some_iff.1 hat).1
      have q0 : (0 : Int) ≤ (pz : Int) := by omega
      have q1 : (pz : Int) < (NL : Int) := by omega
      obtain ⟨ab, ao, had, hcells⟩ : ∃ ab ao, al = some ⟨ab, ao, none⟩ ∧ W5.rangeAt ab (ao + pz * 8) (It.cells ⟨xk, xf, xv, xe, xc, xl, xs, xw⟩) := by
        obtain ⟨a', c', e, h1, h2, h3⟩ := HI5.out
        obtain ⟨b, o, e2, h4⟩ := h3 pz _ hat
        injection e with e1 e3 e4
        exact ⟨b, o, e1.trans e2, fun j u hj => h4 j u hj⟩
      have HRG := hid hcells
      clear hlen hlenL hN hf hmay hcells hat hpa HOK HOD HFL HKL HLD HI happ
      subst had
      have m0 := HB5.out.1.get 4 rfl |>.cell (i := 0) rfl
      go_upto_region 8 with fail
      refine wp_region_list ?_
      refine wpList_val (v := .pointer (some ⟨w.heap.size, 0, none⟩)) (w' := W5) rfl (by kernel_rfl) ?_
      refine wpList_val (v := .slice (some ⟨ab, ao, none⟩) NL cl) (w' := W5) rfl (by go_simp) ?_
      refine wpList_val (v := .int .i64 pz) (w' := W5) rfl (by kernel_rfl) ?_
      refine wpList_val (v := .pointer (some ⟨ab, ao + pz * 8, none⟩)) (w' := W5) rfl (by go_simp) ?_
      refine wpList_load_mid rfl 33 _ rfl ab (ao + pz * 8) rfl (It.cells ⟨xk, xf, xv, xe, xc, xl, xs, xw⟩) _ HRG.out Tryd.underlying33 rfl (by kernel_rfl) ?_
      refine wpList_stor (b := D) (cs := It.cells ⟨xk, xf, xv, xe, xc, xl, xs, xw⟩) rfl rfl rfl rfl rfl (HB5.out.1.get 0 rfl) rfl (by kernel_rfl) rfl ?_
      refine wpList_nil ?_
      have HB6 := hid (HB5.out.setc 0 (vs := It.cells ⟨xk, xf, xv, xe, xc, xl, xs, xw⟩) rfl rfl)
      have HI6 := hid (its_keep HI5.out HKX.out (HB5.out.1.get 0 rfl) (by intro k hk; simp [It.cells, noIt] at hk; rcases hk with rfl | rfl <;> rfl) (It.cells ⟨xk, xf, xv, xe, xc, xl, xs, xw⟩))
      clear m0 HB5 HI5 HRG
      generalize W5.setCells D 0 (It.cells ⟨xk, xf, xv, xe, xc, xl, xs, xw⟩) = W6 at *
      go_simp
      go_wp2_with fail
      go_meet
      exact ⟨HB6, HI6⟩
  case rest =>
  obtain ⟨HX, HIX⟩ := hcut
  clear HB5 HI5 hpa
  rename World => W7
  have kop := HX.out.1.get 3 rfl |>.cell (i := 0) rfl
  have hkp : op ≠ 6 → 0 < k.size := fun h6 => by
    obtain ⟨_, _, hk, _⟩ := fine_parts hf
    have := keyB_parts (hk.resolve_right h6)
    rw [size_len]; exact this.1
  have hk250 : op ≠ 6 → k.size ≤ 250 := fun h6 => keyfine hf h6
  obtain ⟨p1, p2, _, p4, p5, p6, _⟩ := fine_parts hf
  dsimp only at p1 p2 p4 p5 p6
  have hops : op = 1 ∨ op = 2 ∨ op = 3 ∨ op = 4 ∨ op = 5 ∨ op = 6 ∨ op = 7 := by omega
  clear p1 p2
  rcases hops with rfl | rfl | rfl | rfl | rfl | rfl | rfl
  · replace hkp := hkp (by decide)
    replace hk250 := hk250 (by decide)
    have hco := apply_core (s := s) (most := most) hf (by show ¬ (1 : Int) = 6; decide)
    rw [← HLD.out, show find L.its (Cm.key ⟨1, mode, k, cv, fg, exp, hx, cs, hc, de, ini, dn, vv, vive, rc, iv⟩) = o from HOD.out.symm] at hco
    replace happ : apply s now ⟨1, mode, k, cv, fg, exp, hx, cs, hc, de, ini, dn, vv, vive, rc, iv⟩ most = (⟨(getO now ⟨1, mode, k, cv, fg, exp, hx, cs, hc, de, ini, dn, vv, vive, rc, iv⟩ L.cas o).e.on L.its k, (getO now ⟨1, mode, k, cv, fg, exp, hx, cs, hc, de, ini, dn, vv, vive, rc, iv⟩ L.cas o).cas, L.fl⟩, (getO now ⟨1, mode, k, cv, fg, exp, hx, cs, hc, de, ini, dn, vv, vive, rc, iv⟩ L.cas o).a) := hco
    have hkey : Keyed ((getO now ⟨1, mode, k, cv, fg, exp, hx, cs, hc, de, ini, dn, vv, vive, rc, iv⟩ L.cas o).e.on L.its k) := keyed_on (core_for (now := now) (most := most) (cas := L.cas) (c := ⟨1, mode, k, cv, fg, exp, hx, cs, hc, de, ini, dn, vv, vive, rc, iv⟩) (o := o) (fun x hx => (HOK.out x hx).2)) hkp HKL.out
    clear hco
    have hg := ref_get (s := L) (V := .agg #[.slice al NL cl, .int .u64 L.cas, .int .i64 L.fl]) (w := W7) ⟨_, rfl, HIX.out⟩ HFL.out.sorted hlenL now hn1 hn2 ⟨1, mode, k, cv, fg, exp, hx, cs, hc, de, ini, dn, vv, vive, rc, iv⟩ o (fun x hx => ⟨(HOK.out x hx).1.exp, (HOK.out x hx).1.ok.exp1⟩)
    rw [← hX] at hg
    clear hX
    go_upto_region 11 with fail
    clear kop
    refine wp_region_list ?_
    refine loadS (cs := [.slice al NL cl, .int .u64 L.cas, .int .i64 L.fl]) rfl rfl rfl (HX.out.1.get 4 rfl) rfl ?_
    refine wpList_val (v := .int .i64 now) (w' := W7) rfl (by kernel_rfl) ?_
    refine loadC (cs := [.int .i64 1, .int .i64 mode, .string k, .string cv, .int .u32 fg, .int .i64 exp, .bool hx, .int .u64 cs, .bool hc, .int .u64 de, .int .u64 ini, .bool dn, .bool vv, .int .i64 vive, .int .i64 rc, .bool iv]) rfl rfl rfl (HX.out.1.get 3 rfl) rfl ?_
    refine loadI (cs := [.string xk, .int .u32 xf, .string xv, .int .i64 xe, .int .u64 xc, .int .i64 xl, .bool xs, .bool xw]) rfl rfl rfl (HX.out.1.get 0 rfl) rfl ?_
    refine wpList_val (v := .bool o.isSome) (w' := W7) rfl (by kernel_rfl) ?_
    refine callR (s' := ⟨(getO now ⟨1, mode, k, cv, fg, exp, hx, cs, hc, de, ini, dn, vv, vive, rc, iv⟩ L.cas o).e.on L.its k, (getO now ⟨1, mode, k, cv, fg, exp, hx, cs, hc, de, ini, dn, vv, vive, rc, iv⟩ L.cas o).cas, L.fl⟩) (an := (getO now ⟨1, mode, k, cv, fg, exp, hx, cs, hc, de, ini, dn, vv, vive, rc, iv⟩ L.cas o).a) (f := 24) (args := #[.agg #[.slice al NL cl, .int .u64 L.cas, .int .i64 L.fl], .int .i64 now, .agg #[.int .i64 1, .int .i64 mode, .string k, .string cv, .int .u32 fg, .int .i64 exp, .bool hx, .int .u64 cs, .bool hc, .int .u64 de, .int .u64 ini, .bool dn, .bool vv, .int .i64 vive, .int .i64 rc, .bool iv], .agg #[.string xk, .int .u32 xf, .string xv, .int .i64 xe, .int .u64 xc, .int .i64 xl, .bool xs, .bool xw], .bool o.isSome]) 2 1 (w.heap.size + 1 + 1) (w.heap.size + 1 + 1 + 1) HX.out rfl rfl (by decide) rfl rfl rfl rfl rfl rfl (by decide) ⟨125, by kernel_rfl, by decide, by decide, by decide⟩ (by kernel_rfl) (by kernel_rfl) (by kernel_rfl) hkey hg (fun v W hz hi => ?_)
    obtain ⟨az, cz, rfl⟩ := hi.form
    have HZ := hid hz
    have HIZ := hid hi
    clear hz hi hg hkey
    go_simp
    go_wp2_with fail
    try rw [happ]
    exact bodyPost_ret (res_sa (a := (getO now ⟨1, mode, k, cv, fg, exp, hx, cs, hc, de, ini, dn, vv, vive, rc, iv⟩ L.cas o).a) rfl ⟨_, _, rfl⟩ (HZ.out.1.get 2 rfl) (HZ.out.1.get 1 rfl) rfl rfl) rfl ⟨_, rfl, ⟨_, rfl, HIZ.out⟩, HZ.out.1.1⟩
  · replace hkp := hkp (by decide)
    replace hk250 := hk250 (by decide)
    have hco := apply_core (s := s) (most := most) hf (by show ¬ (2 : Int) = 6; decide)
    rw [← HLD.out, show find L.its (Cm.key ⟨2, mode, k, cv, fg, exp, hx, cs, hc, de, ini, dn, vv, vive, rc, iv⟩) = o from HOD.out.symm] at hco
    replace happ : apply s now ⟨2, mode, k, cv, fg, exp, hx, cs, hc, de, ini, dn, vv, vive, rc, iv⟩ most = (⟨(stoO now ⟨2, mode, k, cv, fg, exp, hx, cs, hc, de, ini, dn, vv, vive, rc, iv⟩ most L.cas o).e.on L.its k, (stoO now ⟨2, mode, k, cv, fg, exp, hx, cs, hc, de, ini, dn, vv, vive, rc, iv⟩ most L.cas o).cas, L.fl⟩, (stoO now ⟨2, mode, k, cv, fg, exp, hx, cs, hc, de, ini, dn, vv, vive, rc, iv⟩ most L.cas o).a) := hco
    have hkey : Keyed ((stoO now ⟨2, mode, k, cv, fg, exp, hx, cs, hc, de, ini, dn, vv, vive, rc, iv⟩ most L.cas o).e.on L.its k) := keyed_on (core_for (now := now) (most := most) (cas := L.cas) (c := ⟨2, mode, k, cv, fg, exp, hx, cs, hc, de, ini, dn, vv, vive, rc, iv⟩) (o := o) (fun x hx => (HOK.out x hx).2)) hkp HKL.out
    clear hco
    have hg := ref_store (s := L) (V := .agg #[.slice al NL cl, .int .u64 L.cas, .int .i64 L.fl]) (w := W7) ⟨_, rfl, HIX.out⟩ HFL.out.sorted hlenL now hn1 hn2 ⟨2, mode, k, cv, fg, exp, hx, cs, hc, de, ini, dn, vv, vive, rc, iv⟩ o most (by show k.size ≤ _; omega) (by show cv.size ≤ _; omega) (fun x hx => ⟨by have := (HOK.out x hx).1.key; omega, by have := (HOK.out x hx).1.val; omega⟩) p5
    rw [← hX] at hg
    clear hX
    go_upto_region 13 with fail
    clear kop
    refine wp_region_list ?_
    refine loadS (cs := [.slice al NL cl, .int .u64 L.cas, .int .i64 L.fl]) rfl rfl rfl (HX.out.1.get 4 rfl) rfl ?_
    refine wpList_val (v := .int .i64 now) (w' := W7) rfl (by kernel_rfl) ?_
    refine loadC (cs := [.int .i64 2, .int .i64 mode, .string k, .string cv, .int .u32 fg, .int .i64 exp, .bool hx, .int .u64 cs, .bool hc, .int .u64 de, .int .u64 ini, .bool dn, .bool vv, .int .i64 vive, .int .i64 rc, .bool iv]) rfl rfl rfl (HX.out.1.get 3 rfl) rfl ?_
    refine loadI (cs := [.string xk, .int .u32 xf, .string xv, .int .i64 xe, .int .u64 xc, .int .i64 xl, .bool xs, .bool xw]) rfl rfl rfl (HX.out.1.get 0 rfl) rfl ?_
    refine wpList_val (v := .bool o.isSome) (w' := W7) rfl (by kernel_rfl) ?_
    refine wpList_val (v := .int .i64 most) (w' := W7) rfl (by kernel_rfl) ?_
    refine callR (s' := ⟨(stoO now ⟨2, mode, k, cv, fg, exp, hx, cs, hc, de, ini, dn, vv, vive, rc, iv⟩ most L.cas o).e.on L.its k, (stoO now ⟨2, mode, k, cv, fg, exp, hx, cs, hc, de, ini, dn, vv, vive, rc, iv⟩ most L.cas o).cas, L.fl⟩) (an := (stoO now ⟨2, mode, k, cv, fg, exp, hx, cs, hc, de, ini, dn, vv, vive, rc, iv⟩ most L.cas o).a) (f := 25) (args := #[.agg #[.slice al NL cl, .int .u64 L.cas, .int .i64 L.fl], .int .i64 now, .agg #[.int .i64 2, .int .i64 mode, .string k, .string cv, .int .u32 fg, .int .i64 exp, .bool hx, .int .u64 cs, .bool hc, .int .u64 de, .int .u64 ini, .bool dn, .bool vv, .int .i64 vive, .int .i64 rc, .bool iv], .agg #[.string xk, .int .u32 xf, .string xv, .int .i64 xe, .int .u64 xc, .int .i64 xl, .bool xs, .bool xw], .bool o.isSome, .int .i64 most]) 2 1 (w.heap.size + 1 + 1) (w.heap.size + 1 + 1 + 1) HX.out rfl rfl (by decide) rfl rfl rfl rfl rfl rfl (by decide) ⟨125, by kernel_rfl, by decide, by decide, by decide⟩ (by kernel_rfl) (by kernel_rfl) (by kernel_rfl) hkey hg (fun v W hz hi => ?_)
    obtain ⟨az, cz, rfl⟩ := hi.form
    have HZ := hid hz
    have HIZ := hid hi
    clear hz hi hg hkey
    go_simp
    go_wp2_with fail
    try rw [happ]
    exact bodyPost_ret (res_sa (a := (stoO now ⟨2, mode, k, cv, fg, exp, hx, cs, hc, de, ini, dn, vv, vive, rc, iv⟩ most L.cas o).a) rfl ⟨_, _, rfl⟩ (HZ.out.1.get 2 rfl) (HZ.out.1.get 1 rfl) rfl rfl) rfl ⟨_, rfl, ⟨_, rfl, HIZ.out⟩, HZ.out.1.1⟩
  · replace hkp := hkp (by decide)
    replace hk250 := hk250 (by decide)
    have hco := apply_core (s := s) (most := most) hf (by show ¬ (3 : Int) = 6; decide)
    rw [← HLD.out, show find L.its (Cm.key ⟨3, mode, k, cv, fg, exp, hx, cs, hc, de, ini, dn, vv, vive, rc, iv⟩) = o from HOD.out.symm] at hco
    replace happ : apply s now ⟨3, mode, k, cv, fg, exp, hx, cs, hc, de, ini, dn, vv, vive, rc, iv⟩ most = (⟨(matO now ⟨3, mode, k, cv, fg, exp, hx, cs, hc, de, ini, dn, vv, vive, rc, iv⟩ most L.cas o).e.on L.its k, (matO now ⟨3, mode, k, cv, fg, exp, hx, cs, hc, de, ini, dn, vv, vive, rc, iv⟩ most L.cas o).cas, L.fl⟩, (matO now ⟨3, mode, k, cv, fg, exp, hx, cs, hc, de, ini, dn, vv, vive, rc, iv⟩ most L.cas o).a) := hco
    have hkey : Keyed ((matO now ⟨3, mode, k, cv, fg, exp, hx, cs, hc, de, ini, dn, vv, vive, rc, iv⟩ most L.cas o).e.on L.its k) := keyed_on (core_for (now := now) (most := most) (cas := L.cas) (c := ⟨3, mode, k, cv, fg, exp, hx, cs, hc, de, ini, dn, vv, vive, rc, iv⟩) (o := o) (fun x hx => (HOK.out x hx).2)) hkp HKL.out
    clear hco
    have hg := ref_math (s := L) (V := .agg #[.slice al NL cl, .int .u64 L.cas, .int .i64 L.fl]) (w := W7) ⟨_, rfl, HIX.out⟩ HFL.out.sorted hlenL now hn1 hn2 ⟨3, mode, k, cv, fg, exp, hx, cs, hc, de, ini, dn, vv, vive, rc, iv⟩ o most hini (by show k.size ≤ _; omega) (fun x hx => by have := (HOK.out x hx).1.key; omega)
    rw [← hX] at hg
    clear hX
    go_upto_region 15 with fail
    clear kop
    refine wp_region_list ?_
    refine loadS (cs := [.slice al NL cl, .int .u64 L.cas, .int .i64 L.fl]) rfl rfl rfl (HX.out.1.get 4 rfl) rfl ?_
    refine wpList_val (v := .int .i64 now) (w' := W7) rfl (by kernel_rfl) ?_
    refine loadC (cs := [.int .i64 3, .int .i64 mode, .string k, .string cv, .int .u32 fg, .int .i64 exp, .bool hx, .int .u64 cs, .bool hc, .int .u64 de, .int .u64 ini, .bool dn, .bool vv, .int .i64 vive, .int .i64 rc, .bool iv]) rfl rfl rfl (HX.out.1.get 3 rfl) rfl ?_
    refine loadI (cs := [.string xk, .int .u32 xf, .string xv, .int .i64 xe, .int .u64 xc, .int .i64 xl, .bool xs, .bool xw]) rfl rfl rfl (HX.out.1.get 0 rfl) rfl ?_
    refine wpList_val (v := .bool o.isSome) (w' := W7) rfl (by kernel_rfl) ?_
    refine wpList_val (v := .int .i64 most) (w' := W7) rfl (by kernel_rfl) ?_
    refine callR (s' := ⟨(matO now ⟨3, mode, k, cv, fg, exp, hx, cs, hc, de, ini, dn, vv, vive, rc, iv⟩ most L.cas o).e.on L.its k, (matO now ⟨3, mode, k, cv, fg, exp, hx, cs, hc, de, ini, dn, vv, vive, rc, iv⟩ most L.cas o).cas, L.fl⟩) (an := (matO now ⟨3, mode, k, cv, fg, exp, hx, cs, hc, de, ini, dn, vv, vive, rc, iv⟩ most L.cas o).a) (f := 26) (args := #[.agg #[.slice al NL cl, .int .u64 L.cas, .int .i64 L.fl], .int .i64 now, .agg #[.int .i64 3, .int .i64 mode, .string k, .string cv, .int .u32 fg, .int .i64 exp, .bool hx, .int .u64 cs, .bool hc, .int .u64 de, .int .u64 ini, .bool dn, .bool vv, .int .i64 vive, .int .i64 rc, .bool iv], .agg #[.string xk, .int .u32 xf, .string xv, .int .i64 xe, .int .u64 xc, .int .i64 xl, .bool xs, .bool xw], .bool o.isSome, .int .i64 most]) 2 1 (w.heap.size + 1 + 1) (w.heap.size + 1 + 1 + 1) HX.out rfl rfl (by decide) rfl rfl rfl rfl rfl rfl (by decide) ⟨125, by kernel_rfl, by decide, by decide, by decide⟩ (by kernel_rfl) (by kernel_rfl) (by kernel_rfl) hkey hg (fun v W hz hi => ?_)
    obtain ⟨az, cz, rfl⟩ := hi.form
    have HZ := hid hz
    have HIZ := hid hi
    clear hz hi hg hkey
    go_simp
    go_wp2_with fail
    try rw [happ]
    exact bodyPost_ret (res_sa (a := (matO now ⟨3, mode, k, cv, fg, exp, hx, cs, hc, de, ini, dn, vv, vive, rc, iv⟩ most L.cas o).a) rfl ⟨_, _, rfl⟩ (HZ.out.1.get 2 rfl) (HZ.out.1.get 1 rfl) rfl rfl) rfl ⟨_, rfl, ⟨_, rfl, HIZ.out⟩, HZ.out.1.1⟩
  · replace hkp := hkp (by decide)
    replace hk250 := hk250 (by decide)
    cases o with
    | none =>
      have hco := apply_core (s := s) (most := most) hf (by show ¬ (4 : Int) = 6; decide)
      rw [← HLD.out, show find L.its (Cm.key ⟨4, mode, k, cv, fg, exp, hx, cs, hc, de, ini, dn, vv, vive, rc, iv⟩) = none from HOD.out.symm] at hco
      replace happ : apply s now ⟨4, mode, k, cv, fg, exp, hx, cs, hc, de, ini, dn, vv, vive, rc, iv⟩ most = (⟨(touO now ⟨4, mode, k, cv, fg, exp, hx, cs, hc, de, ini, dn, vv, vive, rc, iv⟩ L.cas none).e.on L.its k, (touO now ⟨4, mode, k, cv, fg, exp, hx, cs, hc, de, ini, dn, vv, vive, rc, iv⟩ L.cas none).cas, L.fl⟩, (touO now ⟨4, mode, k, cv, fg, exp, hx, cs, hc, de, ini, dn, vv, vive, rc, iv⟩ L.cas none).a) := hco
      have hkey : Keyed ((touO now ⟨4, mode, k, cv, fg, exp, hx, cs, hc, de, ini, dn, vv, vive, rc, iv⟩ L.cas none).e.on L.its k) := keyed_on (core_for (now := now) (most := most) (cas := L.cas) (c := ⟨4, mode, k, cv, fg, exp, hx, cs, hc, de, ini, dn, vv, vive, rc, iv⟩) (o := none) (fun x hx => (HOK.out x hx).2)) hkp HKL.out
      clear hco
      have hapn : apply s now ⟨4, mode, k, cv, fg, exp, hx, cs, hc, de, ini, dn, vv, vive, rc, iv⟩ most = (⟨L.its, L.cas, L.fl⟩, An.of 5) := happ
      clear happ
      have happ := hapn
      clear hapn hkey hX
      go_upto_region 24 with fail
      refine wp_region_list ?_
      refine loadS (cs := [.slice al NL cl, .int .u64 L.cas, .int .i64 L.fl]) rfl rfl rfl (HX.out.1.get 4 rfl) rfl ?_
      refine wpList_val (v := (An.of 5).v) (w' := W7) rfl (by kernel_rfl) ?_
      refine wpList_stor (b := w.heap.size + 1 + 1) (cs := [.slice al NL cl, .int .u64 L.cas, .int .i64 L.fl]) rfl rfl rfl rfl rfl (HX.out.1.get 2 rfl) rfl (by kernel_rfl) rfl ?_
      have HY := hid (HX.out.setc 2 (vs := [.slice al NL cl, .int .u64 L.cas, .int .i64 L.fl]) rfl rfl)
      have HIY := hid (its_keep HIX.out HKL.out (HX.out.1.get 2 rfl) (by intro k hk; simp at hk) [.slice al NL cl, .int .u64 L.cas, .int .i64 L.fl])
      refine wpList_stor (b := w.heap.size + 1 + 1 + 1) (cs := (An.of 5).cells) rfl rfl rfl rfl rfl (HY.out.1.get 1 rfl) rfl (by kernel_rfl) rfl ?_
      have HZ := hid (HY.out.setc 1 (vs := (An.of 5).cells) rfl rfl)
      have HIZ := hid (its_keep HIY.out HKL.out (HY.out.1.get 1 rfl) (by intro k hk; simp at hk; rw [hk]; rfl) (An.of 5).cells)
      refine wpList_nil ?_
      go_simp
      go_wp2_with fail
      try rw [happ]
      exact bodyPost_ret (res_sa (a := An.of 5) rfl ⟨_, _, rfl⟩ (HZ.out.1.get 2 rfl) (HZ.out.1.get 1 rfl) rfl rfl) rfl ⟨_, rfl, ⟨_, rfl, HIZ.out⟩, HZ.out.1.1⟩
    | some x =>
      have hco := apply_core (s := s) (most := most) hf (by show ¬ (4 : Int) = 6; decide)
      rw [← HLD.out, show find L.its (Cm.key ⟨4, mode, k, cv, fg, exp, hx, cs, hc, de, ini, dn, vv, vive, rc, iv⟩) = some x from HOD.out.symm] at hco
      replace happ : apply s now ⟨4, mode, k, cv, fg, exp, hx, cs, hc, de, ini, dn, vv, vive, rc, iv⟩ most = (⟨(touO now ⟨4, mode, k, cv, fg, exp, hx, cs, hc, de, ini, dn, vv, vive, rc, iv⟩ L.cas (some x)).e.on L.its k, (touO now ⟨4, mode, k, cv, fg, exp, hx, cs, hc, de, ini, dn, vv, vive, rc, iv⟩ L.cas (some x)).cas, L.fl⟩, (touO now ⟨4, mode, k, cv, fg, exp, hx, cs, hc, de, ini, dn, vv, vive, rc, iv⟩ L.cas (some x)).a) := hco
      have hkey : Keyed ((touO now ⟨4, mode, k, cv, fg, exp, hx, cs, hc, de, ini, dn, vv, vive, rc, iv⟩ L.cas (some x)).e.on L.its k) := keyed_on (core_for (now := now) (most := most) (cas := L.cas) (c := ⟨4, mode, k, cv, fg, exp, hx, cs, hc, de, ini, dn, vv, vive, rc, iv⟩) (o := some x) (fun x hx => (HOK.out x hx).2)) hkp HKL.out
      clear hco
      have hX2 : (⟨xk, xf, xv, xe, xc, xl, xs, xw⟩ : It) = x := hX
      clear hX
      subst hX2
      obtain ⟨m, hm⟩ : ∃ m, m = moment now exp := ⟨_, rfl⟩
      have hmo := fun W => ref_moment now exp hn1 hn2 W
      rw [← hm] at hmo
      have hapn : apply s now ⟨4, mode, k, cv, fg, exp, hx, cs, hc, de, ini, dn, vv, vive, rc, iv⟩ most = (⟨put L.its ⟨xk, xf, xv, m, xc, xl, xs, xw⟩, L.cas, L.fl⟩, An.is 8 ⟨xk, xf, xv, m, xc, xl, xs, xw⟩) := by rw [hm]; exact happ
      clear happ
      have hgo := hid hapn
      clear hapn hkey hm
      have k5 := HX.out.1.get 3 rfl |>.cell (i := 5) rfl
      have e3 := HX.out.1.get 0 rfl |>.cell (i := 3) rfl
      have f3 := (HX.out.1.get 0 rfl).frozen 3
      go_wp2_with fail
      refine (hmo _).mono ?_
      rintro e w1 ⟨rfl, rfl⟩
      clear hmo
      go_upto_region 30 with fail
      clear kop k5 e3 f3
      have HX9 : Hid (Bxr w [(D, 33, [.string xk, .int .u32 xf, .string xv, .int .i64 m, .int .u64 xc, .int .i64 xl, .bool xs, .bool xw]), (w.heap.size + 1 + 1 + 1, 35, [.int .i64 0, .string ⟨#[]⟩, .int .u32 0, .string ⟨#[]⟩, .int .i64 0, .int .u64 0, .int .i64 0, .bool false, .bool false, .int .u64 0, .bool false, .bool false, .bool false]), (w.heap.size + 1 + 1, 25, [.slice none 0 0, .int .u64 0, .int .i64 0]), (w.heap.size + 1, 28, [.int .i64 4, .int .i64 mode, .string k, .string cv, .int .u32 fg, .int .i64 exp, .bool hx, .int .u64 cs, .bool hc, .int .u64 de, .int .u64 ini, .bool dn, .bool vv, .int .i64 vive, .int .i64 rc, .bool iv]), (w.heap.size, 25, [.slice al NL cl, .int .u64 L.cas, .int .i64 L.fl])] [] (W7.setCell ⟨D, 3, none⟩ (.int .i64 m))) := hid (HX.out.cell1 0 rfl 3 (.int .i64 m))
      have HI8 := hid (its_setA HIX.out HAP.out 3 (.int .i64 m))
      clear HX HIX
      generalize (W7.setCell ⟨D, 3, none⟩ (.int .i64 m)) = W8 at *
      refine wp_region_E (fun W => Blk W (w.heap.size) 25 [.slice al NL cl, .int .u64 L.cas, .int .i64 L.fl] ∧ Blk W D 33 [.string xk, .int .u32 xf, .string xv, .int .i64 m, .int .u64 xc, .int .i64 xl, .bool xs, .bool xw]) 6 (by kernel_rfl) ?_
      have HA : Hid (Bxr w [(D, 33, [.string xk, .int .u32 xf, .string xv, .int .i64 m, .int .u64 xc, .int .i64 xl, .bool xs, .bool xw]), (w.heap.size + 1 + 1 + 1, 35, [.int .i64 0, .string ⟨#[]⟩, .int .u32 0, .string ⟨#[]⟩, .int .i64 0, .int .u64 0, .int .i64 0, .bool false, .bool false, .int .u64 0, .bool false, .bool false, .bool false]), (w.heap.size + 1 + 1, 25, [.slice none 0 0, .int .u64 0, .int .i64 0]), (w.heap.size + 1, 28, [.int .i64 4, .int .i64 mode, .string k, .string cv, .int .u32 fg, .int .i64 exp, .bool hx, .int .u64 cs, .bool hc, .int .u64 de, .int .u64 ini, .bool dn, .bool vv, .int .i64 vive, .int .i64 rc, .bool iv]), (w.heap.size, 25, [.slice al NL cl, .int .u64 L.cas, .int .i64 L.fl])] [] W8.drew) := hid (HX9.out.step (below_d W8))
      have HIA := hid (HI8.out.below (below_d W8))
      clear HX9 HI8
      generalize W8.drew = WA at *
      have hS : Blk WA (w.heap.size) 25 [.slice al NL cl, .int .u64 L.cas, .int .i64 L.fl] ∧ Blk WA D 33 [.string xk, .int .u32 xf, .string xv, .int .i64 m, .int .u64 xc, .int .i64 xl, .bool xs, .bool xw] := ⟨HA.out.1.get 4 rfl, HA.out.1.get 0 rfl⟩
      refine wpAnyE_take (i := 0) (v := .agg #[.slice al NL cl, .int .u64 L.cas, .int .i64 L.fl]) rfl (by kernel_rfl) (by kernel_rfl) (by kernel_rfl) (fun _ _ _ h => h) (by kernel_rfl) (by kernel_rfl) hS (yieldsIf_load_mid rfl 25 _ rfl (w.heap.size) 0 (by kernel_rfl) [.slice al NL cl, .int .u64 L.cas, .int .i64 L.fl] _ (fun W hW => Blk.range hW.1) Tryd.underlying25 rfl (by kernel_rfl)) ?_
      refine wpAnyE_take (i := 1) (v := .agg #[.string xk, .int .u32 xf, .string xv, .int .i64 m, .int .u64 xc, .int .i64 xl, .bool xs, .bool xw]) rfl (by kernel_rfl) (by kernel_rfl) (by kernel_rfl) (fun _ _ _ h => h) (by kernel_rfl) (by kernel_rfl) hS (yieldsIf_load_mid rfl 33 _ rfl D 0 (by kernel_rfl) [.string xk, .int .u32 xf, .string xv, .int .i64 m, .int .u64 xc, .int .i64 xl, .bool xs, .bool xw] _ (fun W hW => Blk.range hW.2) Tryd.underlying33 rfl (by kernel_rfl)) ?_
      refine wpAnyE_take (i := 3) (v := .agg #[.string xk, .int .u32 xf, .string xv, .int .i64 m, .int .u64 xc, .int .i64 xl, .bool xs, .bool xw]) rfl (by kernel_rfl) (by kernel_rfl) (by kernel_rfl) (fun _ _ _ h => h) (by kernel_rfl) (by kernel_rfl) hS (yieldsIf_load_mid rfl 33 _ rfl D 0 (by kernel_rfl) [.string xk, .int .u32 xf, .string xv, .int .i64 m, .int .u64 xc, .int .i64 xl, .bool xs, .bool xw] _ (fun W hW => Blk.range hW.2) Tryd.underlying33 rfl (by kernel_rfl)) ?_
      refine wpAnyE_take (i := 4) (v := (An.is 8 ⟨xk, xf, xv, m, xc, xl, xs, xw⟩).v) rfl (by kernel_rfl) (by kernel_rfl) (by kernel_rfl) (fun _ _ _ h => h) (by kernel_rfl) (by kernel_rfl) hS (Or.inl ⟨by rfl, fun w' _ => by kernel_rfl⟩) ?_
      clear hS
      refine putR (s := L) (x := ⟨xk, xf, xv, m, xc, xl, xs, xw⟩) (an := An.is 8 ⟨xk, xf, xv, m, xc, xl, xs, xw⟩) (st := 6) _ 2 5 6 2 1 (w.heap.size + 1 + 1) (w.heap.size + 1 + 1 + 1) HA.out HIA.out HFL.out.sorted hlenL rfl rfl rfl rfl (by decide) rfl rfl rfl rfl rfl rfl rfl rfl (by kernel_rfl) (by kernel_rfl) (by kernel_rfl) (by kernel_rfl) (by decide) ⟨125, by kernel_rfl, by decide⟩ (by kernel_rfl) (by kernel_rfl) (by kernel_rfl) (by kernel_rfl) (by kernel_rfl) (fun bs2 W h1 h2 => ⟨h1.blk (List.mem_of_getElem? ((h2 4 (by decide)).trans rfl)), h1.blk (List.mem_of_getElem? ((h2 0 (by decide)).trans rfl))⟩) rfl (by decide) (fun az nz cz WZ hz hIz => ?_)
      have HZ := hid hz
      have HIZ := hid hIz
      clear hz hIz
      go_simp
      go_wp2_with fail
      rw [hgo.out]
      exact bodyPost_ret (res_sa (a := An.is 8 ⟨xk, xf, xv, m, xc, xl, xs, xw⟩) rfl ⟨az, cz, rfl⟩ (HZ.out.1.get 2 rfl) (HZ.out.1.get 1 rfl) rfl rfl) rfl ⟨_, rfl, ⟨_, rfl, HIZ.out⟩, HZ.out.1.1⟩
  · replace hkp := hkp (by decide)
    replace hk250 := hk250 (by decide)
    cases o with
    | none =>
      have hco := apply_core (s := s) (most := most) hf (by show ¬ (5 : Int) = 6; decide)
      rw [← HLD.out, show find L.its (Cm.key ⟨5, mode, k, cv, fg, exp, hx, cs, hc, de, ini, dn, vv, vive, rc, iv⟩) = none from HOD.out.symm] at hco
      replace happ : apply s now ⟨5, mode, k, cv, fg, exp, hx, cs, hc, de, ini, dn, vv, vive, rc, iv⟩ most = (⟨(delO now ⟨5, mode, k, cv, fg, exp, hx, cs, hc, de, ini, dn, vv, vive, rc, iv⟩ L.cas none).e.on L.its k, (delO now ⟨5, mode, k, cv, fg, exp, hx, cs, hc, de, ini, dn, vv, vive, rc, iv⟩ L.cas none).cas, L.fl⟩, (delO now ⟨5, mode, k, cv, fg, exp, hx, cs, hc, de, ini, dn, vv, vive, rc, iv⟩ L.cas none).a) := hco
      have hkey : Keyed ((delO now ⟨5, mode, k, cv, fg, exp, hx, cs, hc, de, ini, dn, vv, vive, rc, iv⟩ L.cas none).e.on L.its k) := keyed_on (core_for (now := now) (most := most) (cas := L.cas) (c := ⟨5, mode, k, cv, fg, exp, hx, cs, hc, de, ini, dn, vv, vive, rc, iv⟩) (o := none) (fun x hx => (HOK.out x hx).2)) hkp HKL.out
      clear hco
      have hapn : apply s now ⟨5, mode, k, cv, fg, exp, hx, cs, hc, de, ini, dn, vv, vive, rc, iv⟩ most = (⟨L.its, L.cas, L.fl⟩, An.of 5) := happ
      clear happ
      have happ := hapn
      clear hapn hkey hX
      go_upto_region 24 with fail
      refine wp_region_list ?_
      refine loadS (cs := [.slice al NL cl, .int .u64 L.cas, .int .i64 L.fl]) rfl rfl rfl (HX.out.1.get 4 rfl) rfl ?_
      refine wpList_val (v := (An.of 5).v) (w' := W7) rfl (by kernel_rfl) ?_
      refine wpList_stor (b := w.heap.size + 1 + 1) (cs := [.slice al NL cl, .int .u64 L.cas, .int .i64 L.fl]) rfl rfl rfl rfl rfl (HX.out.1.get 2 rfl) rfl (by kernel_rfl) rfl ?_
      have HY := hid (HX.out.setc 2 (vs := [.slice al NL cl, .int .u64 L.cas, .int .i64 L.fl]) rfl rfl)
      have HIY := hid (its_keep HIX.out HKL.out (HX.out.1.get 2 rfl) (by intro k hk; simp at hk) [.slice al NL cl, .int .u64 L.cas, .int .i64 L.fl])
      refine wpList_stor (b := w.heap.size + 1 + 1 + 1) (cs := (An.of 5).cells) rfl rfl rfl rfl rfl (HY.out.1.get 1 rfl) rfl (by kernel_rfl) rfl ?_
      have HZ := hid (HY.out.setc 1 (vs := (An.of 5).cells) rfl rfl)
      have HIZ := hid (its_keep HIY.out HKL.out (HY.out.1.get 1 rfl) (by intro k hk; simp at hk; rw [hk]; rfl) (An.of 5).cells)
      refine wpList_nil ?_
      go_simp
      go_wp2_with fail
      try rw [happ]
      exact bodyPost_ret (res_sa (a := An.of 5) rfl ⟨_, _, rfl⟩ (HZ.out.1.get 2 rfl) (HZ.out.1.get 1 rfl) rfl rfl) rfl ⟨_, rfl, ⟨_, rfl, HIZ.out⟩, HZ.out.1.1⟩
    | some x =>
      have hX2 : (⟨xk, xf, xv, xe, xc, xl, xs, xw⟩ : It) = x := hX
      clear hX
      subst hX2
      have hco := apply_core (s := s) (most := most) hf (by show ¬ (5 : Int) = 6; decide)
      rw [← HLD.out, show find L.its (Cm.key ⟨5, mode, k, cv, fg, exp, hx, cs, hc, de, ini, dn, vv, vive, rc, iv⟩) = some ⟨xk, xf, xv, xe, xc, xl, xs, xw⟩ from HOD.out.symm] at hco
      replace happ : apply s now ⟨5, mode, k, cv, fg, exp, hx, cs, hc, de, ini, dn, vv, vive, rc, iv⟩ most = (⟨(delO now ⟨5, mode, k, cv, fg, exp, hx, cs, hc, de, ini, dn, vv, vive, rc, iv⟩ L.cas (some ⟨xk, xf, xv, xe, xc, xl, xs, xw⟩)).e.on L.its k, (delO now ⟨5, mode, k, cv, fg, exp, hx, cs, hc, de, ini, dn, vv, vive, rc, iv⟩ L.cas (some ⟨xk, xf, xv, xe, xc, xl, xs, xw⟩)).cas, L.fl⟩, (delO now ⟨5, mode, k, cv, fg, exp, hx, cs, hc, de, ini, dn, vv, vive, rc, iv⟩ L.cas (some ⟨xk, xf, xv, xe, xc, xl, xs, xw⟩)).a) := hco
      have hkey : Keyed ((delO now ⟨5, mode, k, cv, fg, exp, hx, cs, hc, de, ini, dn, vv, vive, rc, iv⟩ L.cas (some ⟨xk, xf, xv, xe, xc, xl, xs, xw⟩)).e.on L.its k) := keyed_on (core_for (now := now) (most := most) (cas := L.cas) (c := ⟨5, mode, k, cv, fg, exp, hx, cs, hc, de, ini, dn, vv, vive, rc, iv⟩) (o := some ⟨xk, xf, xv, xe, xc, xl, xs, xw⟩) (fun x hx => (HOK.out x hx).2)) hkp HKL.out
      clear hco
      have hg := ref_remove (s := L) (V := .agg #[.slice al NL cl, .int .u64 L.cas, .int .i64 L.fl]) (w := W7) ⟨_, rfl, HIX.out⟩ HFL.out.sorted hlenL now hn1 hn2 ⟨5, mode, k, cv, fg, exp, hx, cs, hc, de, ini, dn, vv, vive, rc, iv⟩ ⟨xk, xf, xv, xe, xc, xl, xs, xw⟩
      go_upto_region 26 with fail
      clear kop
      refine wp_region_list ?_
      refine loadS (cs := [.slice al NL cl, .int .u64 L.cas, .int .i64 L.fl]) rfl rfl rfl (HX.out.1.get 4 rfl) rfl ?_
      refine wpList_val (v := .int .i64 now) (w' := W7) rfl (by kernel_rfl) ?_
      refine loadC (cs := [.int .i64 5, .int .i64 mode, .string k, .string cv, .int .u32 fg, .int .i64 exp, .bool hx, .int .u64 cs, .bool hc, .int .u64 de, .int .u64 ini, .bool dn, .bool vv, .int .i64 vive, .int .i64 rc, .bool iv]) rfl rfl rfl (HX.out.1.get 3 rfl) rfl ?_
      refine loadI (cs := [.string xk, .int .u32 xf, .string xv, .int .i64 xe, .int .u64 xc, .int .i64 xl, .bool xs, .bool xw]) rfl rfl rfl (HX.out.1.get 0 rfl) rfl ?_
      refine callR (s' := ⟨(delO now ⟨5, mode, k, cv, fg, exp, hx, cs, hc, de, ini, dn, vv, vive, rc, iv⟩ L.cas (some ⟨xk, xf, xv, xe, xc, xl, xs, xw⟩)).e.on L.its k, (delO now ⟨5, mode, k, cv, fg, exp, hx, cs, hc, de, ini, dn, vv, vive, rc, iv⟩ L.cas (some ⟨xk, xf, xv, xe, xc, xl, xs, xw⟩)).cas, L.fl⟩) (an := (delO now ⟨5, mode, k, cv, fg, exp, hx, cs, hc, de, ini, dn, vv, vive, rc, iv⟩ L.cas (some ⟨xk, xf, xv, xe, xc, xl, xs, xw⟩)).a) (f := 28) (args := #[.agg #[.slice al NL cl, .int .u64 L.cas, .int .i64 L.fl], .int .i64 now, .agg #[.int .i64 5, .int .i64 mode, .string k, .string cv, .int .u32 fg, .int .i64 exp, .bool hx, .int .u64 cs, .bool hc, .int .u64 de, .int .u64 ini, .bool dn, .bool vv, .int .i64 vive, .int .i64 rc, .bool iv], .agg #[.string xk, .int .u32 xf, .string xv, .int .i64 xe, .int .u64 xc, .int .i64 xl, .bool xs, .bool xw]]) 2 1 (w.heap.size + 1 + 1) (w.heap.size + 1 + 1 + 1) HX.out rfl rfl (by decide) rfl rfl rfl rfl rfl rfl (by decide) ⟨125, by kernel_rfl, by decide, by decide, by decide⟩ (by kernel_rfl) (by kernel_rfl) (by kernel_rfl) hkey hg (fun v W hz hi => ?_)
      obtain ⟨az, cz, rfl⟩ := hi.form
      have HZ := hid hz
      have HIZ := hid hi
      clear hz hi hg hkey
      go_simp
      go_wp2_with fail
      try rw [happ]
      exact bodyPost_ret (res_sa (a := (delO now ⟨5, mode, k, cv, fg, exp, hx, cs, hc, de, ini, dn, vv, vive, rc, iv⟩ L.cas (some ⟨xk, xf, xv, xe, xc, xl, xs, xw⟩)).a) rfl ⟨_, _, rfl⟩ (HZ.out.1.get 2 rfl) (HZ.out.1.get 1 rfl) rfl rfl) rfl ⟨_, rfl, ⟨_, rfl, HIZ.out⟩, HZ.out.1.1⟩
  · obtain ⟨m, hm⟩ : ∃ m, m = moment now exp := ⟨_, rfl⟩
    have hmo := fun W => ref_moment now exp hn1 hn2 W
    rw [← hm] at hmo
    have k5 := HX.out.1.get 3 rfl |>.cell (i := 5) rfl
    clear hX
    replace happ : apply s now ⟨6, mode, k, cv, fg, exp, hx, cs, hc, de, ini, dn, vv, vive, rc, iv⟩ most = (if now < m then ⟨L.its, L.cas, m⟩ else ⟨[], L.cas, 0⟩, An.of 10) := by
      unfold apply
      rw [if_neg (by rw [hf]; decide), if_pos (show (Cm.op ⟨6, mode, k, cv, fg, exp, hx, cs, hc, de, ini, dn, vv, vive, rc, iv⟩) = 6 from rfl), ← HLD.out, hm]
    clear hm
    go_wp2_with fail
    refine (hmo _).mono ?_
    rintro e w1 ⟨rfl, rfl⟩
    clear hmo
    by_cases hlm : now < m
    · rw [if_pos hlm] at happ
      go_upto_region 19 with fail
      clear kop k5
      have HI9 := hid (its_keep1 HIX.out HKL.out (HX.out.1.get 4 rfl) (by intro k hk; simp at hk) 2 (.int .i64 m))
      have e61_ := (HX.out.1.get 4 rfl).cell (i := 2) rfl
      have f61_ := (HX.out.1.get 4 rfl).frozen 2
      go_upto_region 22 with fail
      clear e61_ f61_
      change Code.wp _ _ _ _ (W7.setCell ⟨w.heap.size, 2, none⟩ (.int .i64 m))
      have HE61 : Hid (Bxr w [(D, 33, [.string xk, .int .u32 xf, .string xv, .int .i64 xe, .int .u64 xc, .int .i64 xl, .bool xs, .bool xw]), (w.heap.size + 1 + 1 + 1, 35, [.int .i64 0, .string ⟨#[]⟩, .int .u32 0, .string ⟨#[]⟩, .int .i64 0, .int .u64 0, .int .i64 0, .bool false, .bool false, .int .u64 0, .bool false, .bool false, .bool false]), (w.heap.size + 1 + 1, 25, [.slice none 0 0, .int .u64 0, .int .i64 0]), (w.heap.size + 1, 28, [.int .i64 6, .int .i64 mode, .string k, .string cv, .int .u32 fg, .int .i64 exp, .bool hx, .int .u64 cs, .bool hc, .int .u64 de, .int .u64 ini, .bool dn, .bool vv, .int .i64 vive, .int .i64 rc, .bool iv]), (w.heap.size, 25, [.slice al NL cl, .int .u64 L.cas, .int .i64 m])] [] (W7.setCell ⟨w.heap.size, 2, none⟩ (.int .i64 m))) := hid (HX.out.cell1 4 rfl 2 (.int .i64 m))
      clear HX
      generalize (W7.setCell ⟨w.heap.size, 2, none⟩ (.int .i64 m)) = X61 at *
      refine wp_region_list ?_
      refine loadS (cs := [.slice al NL cl, .int .u64 L.cas, .int .i64 m]) rfl rfl rfl (HE61.out.1.get 4 rfl) rfl ?_
      refine wpList_val (v := (An.of 10).v) (w' := X61) rfl (by kernel_rfl) ?_
      refine wpList_stor (b := w.heap.size + 1 + 1) (cs := [.slice al NL cl, .int .u64 L.cas, .int .i64 m]) rfl rfl rfl rfl rfl (HE61.out.1.get 2 rfl) rfl (by kernel_rfl) rfl ?_
      have HY := hid (HE61.out.setc 2 (vs := [.slice al NL cl, .int .u64 L.cas, .int .i64 m]) rfl rfl)
      have HIY := hid (its_keep HI9.out HKL.out (HE61.out.1.get 2 rfl) (by intro k hk; simp at hk) [.slice al NL cl, .int .u64 L.cas, .int .i64 m])
      refine wpList_stor (b := w.heap.size + 1 + 1 + 1) (cs := (An.of 10).cells) rfl rfl rfl rfl rfl (HY.out.1.get 1 rfl) rfl (by kernel_rfl) rfl ?_
      have HZ := hid (HY.out.setc 1 (vs := (An.of 10).cells) rfl rfl)
      have HIZ := hid (its_keep HIY.out HKL.out (HY.out.1.get 1 rfl) (by intro k hk; simp at hk; rw [hk]; rfl) (An.of 10).cells)
      refine wpList_nil ?_
      go_simp
      go_wp2_with fail
      try rw [happ]
      exact bodyPost_ret (res_sa (a := An.of 10) rfl ⟨_, _, rfl⟩ (HZ.out.1.get 2 rfl) (HZ.out.1.get 1 rfl) rfl rfl) rfl ⟨_, rfl, ⟨_, rfl, HIZ.out⟩, HZ.out.1.1⟩
    · rw [if_neg hlm] at happ
      go_upto_region 20 with fail
      clear kop k5
      have e71_ := (HX.out.1.get 4 rfl).cell (i := 0) rfl
      have f71_ := (HX.out.1.get 4 rfl).frozen 0
      go_upto_region 21 with fail
      clear e71_ f71_
      change Code.wp _ _ _ _ (W7.setCell ⟨w.heap.size, 0, none⟩ (.slice none 0 0))
      have HE71 : Hid (Bxr w [(D, 33, [.string xk, .int .u32 xf, .string xv, .int .i64 xe, .int .u64 xc, .int .i64 xl, .bool xs, .bool xw]), (w.heap.size + 1 + 1 + 1, 35, [.int .i64 0, .string ⟨#[]⟩, .int .u32 0, .string ⟨#[]⟩, .int .i64 0, .int .u64 0, .int .i64 0, .bool false, .bool false, .int .u64 0, .bool false, .bool false, .bool false]), (w.heap.size + 1 + 1, 25, [.slice none 0 0, .int .u64 0, .int .i64 0]), (w.heap.size + 1, 28, [.int .i64 6, .int .i64 mode, .string k, .string cv, .int .u32 fg, .int .i64 exp, .bool hx, .int .u64 cs, .bool hc, .int .u64 de, .int .u64 ini, .bool dn, .bool vv, .int .i64 vive, .int .i64 rc, .bool iv]), (w.heap.size, 25, [.slice none 0 0, .int .u64 L.cas, .int .i64 L.fl])] [] (W7.setCell ⟨w.heap.size, 0, none⟩ (.slice none 0 0))) := hid (HX.out.cell1 4 rfl 0 (.slice none 0 0))
      clear HX
      generalize (W7.setCell ⟨w.heap.size, 0, none⟩ (.slice none 0 0)) = X71 at *
      have e72_ := (HE71.out.1.get 4 rfl).cell (i := 2) rfl
      have f72_ := (HE71.out.1.get 4 rfl).frozen 2
      go_upto_region 22 with fail
      clear e72_ f72_
      change Code.wp _ _ _ _ (X71.setCell ⟨w.heap.size, 2, none⟩ (.int .i64 0))
      have HE72 : Hid (Bxr w [(D, 33, [.string xk, .int .u32 xf, .string xv, .int .i64 xe, .int .u64 xc, .int .i64 xl, .bool xs, .bool xw]), (w.heap.size + 1 + 1 + 1, 35, [.int .i64 0, .string ⟨#[]⟩, .int .u32 0, .string ⟨#[]⟩, .int .i64 0, .int .u64 0, .int .i64 0, .bool false, .bool false, .int .u64 0, .bool false, .bool false, .bool false]), (w.heap.size + 1 + 1, 25, [.slice none 0 0, .int .u64 0, .int .i64 0]), (w.heap.size + 1, 28, [.int .i64 6, .int .i64 mode, .string k, .string cv, .int .u32 fg, .int .i64 exp, .bool hx, .int .u64 cs, .bool hc, .int .u64 de, .int .u64 ini, .bool dn, .bool vv, .int .i64 vive, .int .i64 rc, .bool iv]), (w.heap.size, 25, [.slice none 0 0, .int .u64 L.cas, .int .i64 0])] [] (X71.setCell ⟨w.heap.size, 2, none⟩ (.int .i64 0))) := hid (HE71.out.cell1 4 rfl 2 (.int .i64 0))
      clear HE71
      generalize (X71.setCell ⟨w.heap.size, 2, none⟩ (.int .i64 0)) = X72 at *
      have HI9 := hid (its_nil X72)
      refine wp_region_list ?_
      refine loadS (cs := [.slice none 0 0, .int .u64 L.cas, .int .i64 0]) rfl rfl rfl (HE72.out.1.get 4 rfl) rfl ?_
      refine wpList_val (v := (An.of 10).v) (w' := X72) rfl (by kernel_rfl) ?_
      refine wpList_stor (b := w.heap.size + 1 + 1) (cs := [.slice none 0 0, .int .u64 L.cas, .int .i64 0]) rfl rfl rfl rfl rfl (HE72.out.1.get 2 rfl) rfl (by kernel_rfl) rfl ?_
      have HY := hid (HE72.out.setc 2 (vs := [.slice none 0 0, .int .u64 L.cas, .int .i64 0]) rfl rfl)
      have HIY := hid (its_keep HI9.out (fun x hx => by cases hx) (HE72.out.1.get 2 rfl) (by intro k hk; simp at hk) [.slice none 0 0, .int .u64 L.cas, .int .i64 0])
      refine wpList_stor (b := w.heap.size + 1 + 1 + 1) (cs := (An.of 10).cells) rfl rfl rfl rfl rfl (HY.out.1.get 1 rfl) rfl (by kernel_rfl) rfl ?_
      have HZ := hid (HY.out.setc 1 (vs := (An.of 10).cells) rfl rfl)
      have HIZ := hid (its_keep HIY.out (fun x hx => by cases hx) (HY.out.1.get 1 rfl) (by intro k hk; simp at hk; rw [hk]; rfl) (An.of 10).cells)
      refine wpList_nil ?_
      go_simp
      go_wp2_with fail
      try rw [happ]
      exact bodyPost_ret (res_sa (a := An.of 10) rfl ⟨_, _, rfl⟩ (HZ.out.1.get 2 rfl) (HZ.out.1.get 1 rfl) rfl rfl) rfl ⟨_, rfl, ⟨_, rfl, HIZ.out⟩, HZ.out.1.1⟩
  · replace hkp := hkp (by decide)
    replace hk250 := hk250 (by decide)
    cases o with
    | none =>
      have hco := apply_core (s := s) (most := most) hf (by show ¬ (7 : Int) = 6; decide)
      rw [← HLD.out, show find L.its (Cm.key ⟨7, mode, k, cv, fg, exp, hx, cs, hc, de, ini, dn, vv, vive, rc, iv⟩) = none from HOD.out.symm] at hco
      replace happ : apply s now ⟨7, mode, k, cv, fg, exp, hx, cs, hc, de, ini, dn, vv, vive, rc, iv⟩ most = (⟨(looO L.cas none).e.on L.its k, (looO L.cas none).cas, L.fl⟩, (looO L.cas none).a) := hco
      have hkey : Keyed ((looO L.cas none).e.on L.its k) := keyed_on (core_for (now := now) (most := most) (cas := L.cas) (c := ⟨7, mode, k, cv, fg, exp, hx, cs, hc, de, ini, dn, vv, vive, rc, iv⟩) (o := none) (fun x hx => (HOK.out x hx).2)) hkp HKL.out
      clear hco
      have hapn : apply s now ⟨7, mode, k, cv, fg, exp, hx, cs, hc, de, ini, dn, vv, vive, rc, iv⟩ most = (⟨L.its, L.cas, L.fl⟩, An.of 5) := happ
      clear happ
      have happ := hapn
      clear hapn hkey hX
      go_upto_region 24 with fail
      refine wp_region_list ?_
      refine loadS (cs := [.slice al NL cl, .int .u64 L.cas, .int .i64 L.fl]) rfl rfl rfl (HX.out.1.get 4 rfl) rfl ?_
      refine wpList_val (v := (An.of 5).v) (w' := W7) rfl (by kernel_rfl) ?_
      refine wpList_stor (b := w.heap.size + 1 + 1) (cs := [.slice al NL cl, .int .u64 L.cas, .int .i64 L.fl]) rfl rfl rfl rfl rfl (HX.out.1.get 2 rfl) rfl (by kernel_rfl) rfl ?_
      have HY := hid (HX.out.setc 2 (vs := [.slice al NL cl, .int .u64 L.cas, .int .i64 L.fl]) rfl rfl)
      have HIY := hid (its_keep HIX.out HKL.out (HX.out.1.get 2 rfl) (by intro k hk; simp at hk) [.slice al NL cl, .int .u64 L.cas, .int .i64 L.fl])
      refine wpList_stor (b := w.heap.size + 1 + 1 + 1) (cs := (An.of 5).cells) rfl rfl rfl rfl rfl (HY.out.1.get 1 rfl) rfl (by kernel_rfl) rfl ?_
      have HZ := hid (HY.out.setc 1 (vs := (An.of 5).cells) rfl rfl)
      have HIZ := hid (its_keep HIY.out HKL.out (HY.out.1.get 1 rfl) (by intro k hk; simp at hk; rw [hk]; rfl) (An.of 5).cells)
      refine wpList_nil ?_
      go_simp
      go_wp2_with fail
      try rw [happ]
      exact bodyPost_ret (res_sa (a := An.of 5) rfl ⟨_, _, rfl⟩ (HZ.out.1.get 2 rfl) (HZ.out.1.get 1 rfl) rfl rfl) rfl ⟨_, rfl, ⟨_, rfl, HIZ.out⟩, HZ.out.1.1⟩
    | some x =>
      have hco := apply_core (s := s) (most := most) hf (by show ¬ (7 : Int) = 6; decide)
      rw [← HLD.out, show find L.its (Cm.key ⟨7, mode, k, cv, fg, exp, hx, cs, hc, de, ini, dn, vv, vive, rc, iv⟩) = some x from HOD.out.symm] at hco
      replace happ : apply s now ⟨7, mode, k, cv, fg, exp, hx, cs, hc, de, ini, dn, vv, vive, rc, iv⟩ most = (⟨(looO L.cas (some x)).e.on L.its k, (looO L.cas (some x)).cas, L.fl⟩, (looO L.cas (some x)).a) := hco
      have hkey : Keyed ((looO L.cas (some x)).e.on L.its k) := keyed_on (core_for (now := now) (most := most) (cas := L.cas) (c := ⟨7, mode, k, cv, fg, exp, hx, cs, hc, de, ini, dn, vv, vive, rc, iv⟩) (o := some x) (fun x hx => (HOK.out x hx).2)) hkp HKL.out
      clear hco
      have hX2 : (⟨xk, xf, xv, xe, xc, xl, xs, xw⟩ : It) = x := hX
      clear hX
      subst hX2
      have hapn : apply s now ⟨7, mode, k, cv, fg, exp, hx, cs, hc, de, ini, dn, vv, vive, rc, iv⟩ most = (⟨L.its, L.cas, L.fl⟩, An.is 1 ⟨xk, xf, xv, xe, xc, xl, xs, xw⟩) := happ
      clear happ
      have happ := hapn
      clear hapn hkey
      go_upto_region 28 with fail
      clear kop
      refine wp_region_E (fun W => Blk W (w.heap.size) 25 [.slice al NL cl, .int .u64 L.cas, .int .i64 L.fl] ∧ Blk W D 33 [.string xk, .int .u32 xf, .string xv, .int .i64 xe, .int .u64 xc, .int .i64 xl, .bool xs, .bool xw]) 4 (by kernel_rfl) ?_
      have HA : Hid (Bxr w [(D, 33, [.string xk, .int .u32 xf, .string xv, .int .i64 xe, .int .u64 xc, .int .i64 xl, .bool xs, .bool xw]), (w.heap.size + 1 + 1 + 1, 35, [.int .i64 0, .string ⟨#[]⟩, .int .u32 0, .string ⟨#[]⟩, .int .i64 0, .int .u64 0, .int .i64 0, .bool false, .bool false, .int .u64 0, .bool false, .bool false, .bool false]), (w.heap.size + 1 + 1, 25, [.slice none 0 0, .int .u64 0, .int .i64 0]), (w.heap.size + 1, 28, [.int .i64 7, .int .i64 mode, .string k, .string cv, .int .u32 fg, .int .i64 exp, .bool hx, .int .u64 cs, .bool hc, .int .u64 de, .int .u64 ini, .bool dn, .bool vv, .int .i64 vive, .int .i64 rc, .bool iv]), (w.heap.size, 25, [.slice al NL cl, .int .u64 L.cas, .int .i64 L.fl])] [] W7.drew) := hid (HX.out.step (below_d W7))
      have HIA := hid (HIX.out.below (below_d W7))
      clear HX HIX
      generalize W7.drew = WA at *
      have hS : Blk WA (w.heap.size) 25 [.slice al NL cl, .int .u64 L.cas, .int .i64 L.fl] ∧ Blk WA D 33 [.string xk, .int .u32 xf, .string xv, .int .i64 xe, .int .u64 xc, .int .i64 xl, .bool xs, .bool xw] := ⟨HA.out.1.get 4 rfl, HA.out.1.get 0 rfl⟩
      refine wpAnyE_take (i := 0) (v := .agg #[.slice al NL cl, .int .u64 L.cas, .int .i64 L.fl]) rfl (by kernel_rfl) (by kernel_rfl) (by kernel_rfl) (fun _ _ _ h => h) (by kernel_rfl) (by kernel_rfl) hS (yieldsIf_load_mid rfl 25 _ rfl (w.heap.size) 0 (by kernel_rfl) [.slice al NL cl, .int .u64 L.cas, .int .i64 L.fl] _ (fun W hW => Blk.range hW.1) Tryd.underlying25 rfl (by kernel_rfl)) ?_
      refine wpAnyE_take (i := 1) (v := .agg #[.string xk, .int .u32 xf, .string xv, .int .i64 xe, .int .u64 xc, .int .i64 xl, .bool xs, .bool xw]) rfl (by kernel_rfl) (by kernel_rfl) (by kernel_rfl) (fun _ _ _ h => h) (by kernel_rfl) (by kernel_rfl) hS (yieldsIf_load_mid rfl 33 _ rfl D 0 (by kernel_rfl) [.string xk, .int .u32 xf, .string xv, .int .i64 xe, .int .u64 xc, .int .i64 xl, .bool xs, .bool xw] _ (fun W hW => Blk.range hW.2) Tryd.underlying33 rfl (by kernel_rfl)) ?_
      refine wpAnyE_take (i := 2) (v := (An.is 1 ⟨xk, xf, xv, xe, xc, xl, xs, xw⟩).v) rfl (by kernel_rfl) (by kernel_rfl) (by kernel_rfl) (fun _ _ _ h => h) (by kernel_rfl) (by kernel_rfl) hS (Or.inl ⟨by rfl, fun w' _ => by kernel_rfl⟩) ?_
      clear hS
      have HY := hid (HA.out.setc 2 (vs := [.slice al NL cl, .int .u64 L.cas, .int .i64 L.fl]) rfl rfl)
      have HIY := hid (its_keep HIA.out HKL.out (HA.out.1.get 2 rfl) (by intro k hk; simp at hk) [.slice al NL cl, .int .u64 L.cas, .int .i64 L.fl])
      refine store_one (i := 3) (b := w.heap.size + 1 + 1) (cs := [.slice al NL cl, .int .u64 L.cas, .int .i64 L.fl]) rfl rfl rfl rfl (by kernel_rfl) (by kernel_rfl) (by kernel_rfl) (HA.out.1.get 2 rfl) rfl (by kernel_rfl) rfl (fun _ => ⟨HY.out.1.get 4 rfl, HY.out.1.get 0 rfl⟩) ?_
      have HZ := hid (HY.out.setc 1 (vs := (An.is 1 ⟨xk, xf, xv, xe, xc, xl, xs, xw⟩).cells) rfl rfl)
      have HIZ := hid (its_keep HIY.out HKL.out (HY.out.1.get 1 rfl) (by intro k hk; simp at hk; rw [hk]; rfl) (An.is 1 ⟨xk, xf, xv, xe, xc, xl, xs, xw⟩).cells)
      refine store_last (i := 4) (b := w.heap.size + 1 + 1 + 1) (cs := (An.is 1 ⟨xk, xf, xv, xe, xc, xl, xs, xw⟩).cells) rfl rfl rfl rfl (by kernel_rfl) (by kernel_rfl) (by kernel_rfl) (HY.out.1.get 1 rfl) rfl (by kernel_rfl) rfl (by kernel_rfl) (by kernel_rfl) ?_
      go_simp
      go_wp2_with fail
      try rw [happ]
      exact bodyPost_ret (res_sa (a := (An.is 1 ⟨xk, xf, xv, xe, xc, xl, xs, xw⟩)) rfl ⟨_, _, rfl⟩ (HZ.out.1.get 2 rfl) (HZ.out.1.get 1 rfl) rfl rfl) rfl ⟨_, rfl, ⟨_, rfl, HIZ.out⟩, HZ.out.1.1⟩
end Go.Proofs.YtpgljahomeebhaaDoor.Md
