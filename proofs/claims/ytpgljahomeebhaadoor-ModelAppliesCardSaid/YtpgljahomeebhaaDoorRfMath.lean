/-
  The contract of the document's own math. Conditions: the state's items can be read, and stand in order; the moment may be; values are not over long.
-/
import Derived.Test.YtpgljahomeebhaaDoorRfKit
namespace Go.Proofs.YtpgljahomeebhaaDoor.Md
open Go Go.RowKit Go.Lib

set_option maxRecDepth 100000 in
set_option maxHeartbeats 8000000 in
theorem math_no {s : Ms} {w : World} {a : Option Addr} {ca : Nat} (HI : Hid (Its w (.slice a s.its.length ca) s.its)) {op mode exp vive rc now most xe xl : Int} {k cv xk xv : ByteArray} {fg cs de ini xf xc : Nat} {hx dn xs xw hc iv : Bool}
    (hini : ini ≤ 18446744073709551615) :
    Calls Tryd.prog 26 #[.agg #[.slice a s.its.length ca, .int .u64 s.cas, .int .i64 s.fl], .int .i64 now, .agg #[.int .i64 op, .int .i64 mode, .string k, .string cv, .int .u32 fg, .int .i64 exp, .bool hx, .int .u64 cs, .bool hc, .int .u64 de, .int .u64 ini, .bool dn, .bool false, .int .i64 vive, .int .i64 rc, .bool iv], .agg #[.string xk, .int .u32 xf, .string xv, .int .i64 xe, .int .u64 xc, .int .i64 xl, .bool xs, .bool xw], .bool false, .int .i64 most] w fun e w' => ∃ V', e = .returned (.tuple #[V', (matO now ⟨op, mode, k, cv, fg, exp, hx, cs, hc, de, ini, dn, false, vive, rc, iv⟩ most s.cas none).a.v]) ∧ Sv w' V' ⟨(matO now ⟨op, mode, k, cv, fg, exp, hx, cs, hc, de, ini, dn, false, vive, rc, iv⟩ most s.cas none).e.on s.its k, (matO now ⟨op, mode, k, cv, fg, exp, hx, cs, hc, de, ini, dn, false, vive, rc, iv⟩ most s.cas none).cas, s.fl⟩ ∧ Below w.heap.size w w' := by
  have hB0 := begin5 w #[.slice a s.its.length ca, .int .u64 s.cas, .int .i64 s.fl] #[.int .i64 op, .int .i64 mode, .string k, .string cv, .int .u32 fg, .int .i64 exp, .bool hx, .int .u64 cs, .bool hc, .int .u64 de, .int .u64 ini, .bool dn, .bool false, .int .i64 vive, .int .i64 rc, .bool iv] #[.string xk, .int .u32 xf, .string xv, .int .i64 xe, .int .u64 xc, .int .i64 xl, .bool xs, .bool xw]
  have HB : Hid (Bxr w [(w.heap.size + 1 + 1 + 1 + 1, 35, [.int .i64 0, .string ⟨#[]⟩, .int .u32 0, .string ⟨#[]⟩, .int .i64 0, .int .u64 0, .int .i64 0, .bool false, .bool false, .int .u64 0, .bool false, .bool false, .bool false]), (w.heap.size + 1 + 1 + 1, 25, [.slice none 0 0, .int .u64 0, .int .i64 0]), (w.heap.size + 1 + 1, 33, [.string xk, .int .u32 xf, .string xv, .int .i64 xe, .int .u64 xc, .int .i64 xl, .bool xs, .bool xw]), (w.heap.size + 1, 28, [.int .i64 op, .int .i64 mode, .string k, .string cv, .int .u32 fg, .int .i64 exp, .bool hx, .int .u64 cs, .bool hc, .int .u64 de, .int .u64 ini, .bool dn, .bool false, .int .i64 vive, .int .i64 rc, .bool iv]), (w.heap.size, 25, [.slice a s.its.length ca, .int .u64 s.cas, .int .i64 s.fl])] [] (((((w.alloc (.cells #[.slice a s.its.length ca, .int .u64 s.cas, .int .i64 s.fl] 25)).alloc (.cells #[.int .i64 op, .int .i64 mode, .string k, .string cv, .int .u32 fg, .int .i64 exp, .bool hx, .int .u64 cs, .bool hc, .int .u64 de, .int .u64 ini, .bool dn, .bool false, .int .i64 vive, .int .i64 rc, .bool iv] 28)).alloc (.cells #[.string xk, .int .u32 xf, .string xv, .int .i64 xe, .int .u64 xc, .int .i64 xl, .bool xs, .bool xw] 33)).alloc (.cells #[.slice none 0 0, .int .u64 0, .int .i64 0] 25)).alloc (.cells #[.int .i64 0, .string ⟨#[]⟩, .int .u32 0, .string ⟨#[]⟩, .int .i64 0, .int .u64 0, .int .i64 0, .bool false, .bool false, .int .u64 0, .bool false, .bool false, .bool false] 35))) := hid hB0
  clear hB0
  have hwb := wrap_bump s.cas
  go_enter Tryd.func26, Tryd.ntmps26
  go_upto_region 1 with fail
  generalize hW0 : (((((w.alloc (.cells #[.slice a s.its.length ca, .int .u64 s.cas, .int .i64 s.fl] 25)).alloc (.cells #[.int .i64 op, .int .i64 mode, .string k, .string cv, .int .u32 fg, .int .i64 exp, .bool hx, .int .u64 cs, .bool hc, .int .u64 de, .int .u64 ini, .bool dn, .bool false, .int .i64 vive, .int .i64 rc, .bool iv] 28)).alloc (.cells #[.string xk, .int .u32 xf, .string xv, .int .i64 xe, .int .u64 xc, .int .i64 xl, .bool xs, .bool xw] 33)).alloc (.cells #[.slice none 0 0, .int .u64 0, .int .i64 0] 25)).alloc (.cells #[.int .i64 0, .string ⟨#[]⟩, .int .u32 0, .string ⟨#[]⟩, .int .i64 0, .int .u64 0, .int .i64 0, .bool false, .bool false, .int .u64 0, .bool false, .bool false, .bool false] 35)) = W0 at *
  have k10 := HB.out.1.get 3 rfl |>.cell (i := 10) rfl
  clear hW0
  go_wp2_with fail
  refine (Nu.ref_text_any ini (by omega) _).mono ?_
  rintro e W1 ⟨rfl, hb1⟩
  obtain ⟨vt0, hvt0⟩ : ∃ q, q = Nu.S (Lib.decDigits ini) := ⟨_, rfl⟩
  rw [← hvt0]
  have HVT : Hid (vt0 = S (Lib.decDigits ini)) := hid hvt0
  clear hvt0
  have HB1 := hid (HB.out.step hb1)
  clear hb1 HB k10
  have k12 := HB1.out.1.get 3 rfl |>.cell (i := 12) rfl
  have hgo : Hid (matO now ⟨op, mode, k, cv, fg, exp, hx, cs, hc, de, ini, dn, false, vive, rc, iv⟩ most s.cas none = Out.no s.cas 5) := hid rfl
  go_upto_region 11 with fail
  refine wp_region_list ?_
  refine loadS (cs := [.slice a s.its.length ca, .int .u64 s.cas, .int .i64 s.fl]) rfl rfl rfl (HB1.out.1.get 4 rfl) rfl ?_
  refine wpList_val (v := (An.of 5).v) (w' := W1) rfl (by kernel_rfl) ?_
  refine wpList_stor (b := w.heap.size + 1 + 1 + 1) (cs := [.slice a s.its.length ca, .int .u64 s.cas, .int .i64 s.fl]) rfl rfl rfl rfl rfl (HB1.out.1.get 1 rfl) rfl (by kernel_rfl) rfl ?_
  have HY1 := hid (HB1.out.setc 1 (vs := [.slice a s.its.length ca, .int .u64 s.cas, .int .i64 s.fl]) rfl rfl)
  refine wpList_stor (b := w.heap.size + 1 + 1 + 1 + 1) (cs := (An.of 5).cells) rfl rfl rfl rfl rfl (HY1.out.1.get 0 rfl) rfl (by kernel_rfl) rfl ?_
  have HY2 := hid (HY1.out.setc 0 (vs := (An.of 5).cells) rfl rfl)
  refine wpList_nil ?_
  go_simp
  go_wp2_with fail
  rw [hgo.out]
  exact bodyPost_ret (res_sa (a := An.of 5) rfl ⟨_, _, rfl⟩ (HY2.out.1.get 1 rfl) (HY2.out.1.get 0 rfl) rfl rfl) rfl ⟨_, rfl, ⟨_, rfl, HI.out.below HY2.out.1.1⟩, HY2.out.1.1⟩
set_option maxRecDepth 100000 in
set_option maxHeartbeats 8000000 in
theorem math_viv {s : Ms} {w : World} {a : Option Addr} {ca : Nat} (HI : Hid (Its w (.slice a s.its.length ca) s.its)) (HS : Hid (Sorted s.its)) (hlen : s.its.length ≤ 4194304) {op mode exp vive rc now most xe xl : Int} {k cv xk xv : ByteArray} {fg cs de ini xf xc : Nat} {hx dn xs xw hc iv : Bool}
    (hn1 : 1 ≤ now) (hn2 : now ≤ 1099511627776) (hini : ini ≤ 18446744073709551615) (hkz : k.size ≤ 1099511627776) :
    Calls Tryd.prog 26 #[.agg #[.slice a s.its.length ca, .int .u64 s.cas, .int .i64 s.fl], .int .i64 now, .agg #[.int .i64 op, .int .i64 mode, .string k, .string cv, .int .u32 fg, .int .i64 exp, .bool hx, .int .u64 cs, .bool hc, .int .u64 de, .int .u64 ini, .bool dn, .bool true, .int .i64 vive, .int .i64 rc, .bool iv], .agg #[.string xk, .int .u32 xf, .string xv, .int .i64 xe, .int .u64 xc, .int .i64 xl, .bool xs, .bool xw], .bool false, .int .i64 most] w fun e w' => ∃ V', e = .returned (.tuple #[V', (matO now ⟨op, mode, k, cv, fg, exp, hx, cs, hc, de, ini, dn, true, vive, rc, iv⟩ most s.cas none).a.v]) ∧ Sv w' V' ⟨(matO now ⟨op, mode, k, cv, fg, exp, hx, cs, hc, de, ini, dn, true, vive, rc, iv⟩ most s.cas none).e.on s.its k, (matO now ⟨op, mode, k, cv, fg, exp, hx, cs, hc, de, ini, dn, true, vive, rc, iv⟩ most s.cas none).cas, s.fl⟩ ∧ Below w.heap.size w w' := by
  have hB0 := begin5 w #[.slice a s.its.length ca, .int .u64 s.cas, .int .i64 s.fl] #[.int .i64 op, .int .i64 mode, .string k, .string cv, .int .u32 fg, .int .i64 exp, .bool hx, .int .u64 cs, .bool hc, .int .u64 de, .int .u64 ini, .bool dn, .bool true, .int .i64 vive, .int .i64 rc, .bool iv] #[.string xk, .int .u32 xf, .string xv, .int .i64 xe, .int .u64 xc, .int .i64 xl, .bool xs, .bool xw]
  have HB : Hid (Bxr w [(w.heap.size + 1 + 1 + 1 + 1, 35, [.int .i64 0, .string ⟨#[]⟩, .int .u32 0, .string ⟨#[]⟩, .int .i64 0, .int .u64 0, .int .i64 0, .bool false, .bool false, .int .u64 0, .bool false, .bool false, .bool false]), (w.heap.size + 1 + 1 + 1, 25, [.slice none 0 0, .int .u64 0, .int .i64 0]), (w.heap.size + 1 + 1, 33, [.string xk, .int .u32 xf, .string xv, .int .i64 xe, .int .u64 xc, .int .i64 xl, .bool xs, .bool xw]), (w.heap.size + 1, 28, [.int .i64 op, .int .i64 mode, .string k, .string cv, .int .u32 fg, .int .i64 exp, .bool hx, .int .u64 cs, .bool hc, .int .u64 de, .int .u64 ini, .bool dn, .bool true, .int .i64 vive, .int .i64 rc, .bool iv]), (w.heap.size, 25, [.slice a s.its.length ca, .int .u64 s.cas, .int .i64 s.fl])] [] (((((w.alloc (.cells #[.slice a s.its.length ca, .int .u64 s.cas, .int .i64 s.fl] 25)).alloc (.cells #[.int .i64 op, .int .i64 mode, .string k, .string cv, .int .u32 fg, .int .i64 exp, .bool hx, .int .u64 cs, .bool hc, .int .u64 de, .int .u64 ini, .bool dn, .bool true, .int .i64 vive, .int .i64 rc, .bool iv] 28)).alloc (.cells #[.string xk, .int .u32 xf, .string xv, .int .i64 xe, .int .u64 xc, .int .i64 xl, .bool xs, .bool xw] 33)).alloc (.cells #[.slice none 0 0, .int .u64 0, .int .i64 0] 25)).alloc (.cells #[.int .i64 0, .string ⟨#[]⟩, .int .u32 0, .string ⟨#[]⟩, .int .i64 0, .int .u64 0, .int .i64 0, .bool false, .bool false, .int .u64 0, .bool false, .bool false, .bool false] 35))) := hid hB0
  clear hB0
  have hwb := wrap_bump s.cas
  go_enter Tryd.func26, Tryd.ntmps26
  go_upto_region 1 with fail
  generalize hW0 : (((((w.alloc (.cells #[.slice a s.its.length ca, .int .u64 s.cas, .int .i64 s.fl] 25)).alloc (.cells #[.int .i64 op, .int .i64 mode, .string k, .string cv, .int .u32 fg, .int .i64 exp, .bool hx, .int .u64 cs, .bool hc, .int .u64 de, .int .u64 ini, .bool dn, .bool true, .int .i64 vive, .int .i64 rc, .bool iv] 28)).alloc (.cells #[.string xk, .int .u32 xf, .string xv, .int .i64 xe, .int .u64 xc, .int .i64 xl, .bool xs, .bool xw] 33)).alloc (.cells #[.slice none 0 0, .int .u64 0, .int .i64 0] 25)).alloc (.cells #[.int .i64 0, .string ⟨#[]⟩, .int .u32 0, .string ⟨#[]⟩, .int .i64 0, .int .u64 0, .int .i64 0, .bool false, .bool false, .int .u64 0, .bool false, .bool false, .bool false] 35)) = W0 at *
  have k10 := HB.out.1.get 3 rfl |>.cell (i := 10) rfl
  clear hW0
  go_wp2_with fail
  refine (Nu.ref_text_any ini (by omega) _).mono ?_
  rintro e W1 ⟨rfl, hb1⟩
  obtain ⟨vt0, hvt0⟩ : ∃ q, q = Nu.S (Lib.decDigits ini) := ⟨_, rfl⟩
  rw [← hvt0]
  have HVT : Hid (vt0 = S (Lib.decDigits ini)) := hid hvt0
  clear hvt0
  have HB1 := hid (HB.out.step hb1)
  clear hb1 HB k10
  have k12 := HB1.out.1.get 3 rfl |>.cell (i := 12) rfl
  obtain ⟨m, hm⟩ : ∃ m, m = moment now vive := ⟨_, rfl⟩
  have hmo := fun W => ref_moment now vive hn1 hn2 W
  rw [← hm] at hmo
  have HGO : Hid (matO now ⟨op, mode, k, cv, fg, exp, hx, cs, hc, de, ini, dn, true, vive, rc, iv⟩ most s.cas none = matE most s.cas ⟨k, 0, ⟨#[]⟩, m, 0, 0, false, false⟩ (S (Lib.decDigits ini))) := hid (by rw [hm]; rfl)
  clear hm
  go_upto_region 13 with fail
  clear k12
  refine wp_region_E (fun W => Blk W (w.heap.size + 1) 28 [.int .i64 op, .int .i64 mode, .string k, .string cv, .int .u32 fg, .int .i64 exp, .bool hx, .int .u64 cs, .bool hc, .int .u64 de, .int .u64 ini, .bool dn, .bool true, .int .i64 vive, .int .i64 rc, .bool iv]) 7 (by kernel_rfl) ?_
  have HW1 : Hid (Bxr w [(w.heap.size + 1 + 1 + 1 + 1, 35, [.int .i64 0, .string ⟨#[]⟩, .int .u32 0, .string ⟨#[]⟩, .int .i64 0, .int .u64 0, .int .i64 0, .bool false, .bool false, .int .u64 0, .bool false, .bool false, .bool false]), (w.heap.size + 1 + 1 + 1, 25, [.slice none 0 0, .int .u64 0, .int .i64 0]), (w.heap.size + 1 + 1, 33, [.string xk, .int .u32 xf, .string xv, .int .i64 xe, .int .u64 xc, .int .i64 xl, .bool xs, .bool xw]), (w.heap.size + 1, 28, [.int .i64 op, .int .i64 mode, .string k, .string cv, .int .u32 fg, .int .i64 exp, .bool hx, .int .u64 cs, .bool hc, .int .u64 de, .int .u64 ini, .bool dn, .bool true, .int .i64 vive, .int .i64 rc, .bool iv]), (w.heap.size, 25, [.slice a s.its.length ca, .int .u64 s.cas, .int .i64 s.fl])] [] W1.drew) := hid (HB1.out.step (below_d W1))
  generalize W1.drew = Wd at *
  have hS : Blk Wd (w.heap.size + 1) 28 [.int .i64 op, .int .i64 mode, .string k, .string cv, .int .u32 fg, .int .i64 exp, .bool hx, .int .u64 cs, .bool hc, .int .u64 de, .int .u64 ini, .bool dn, .bool true, .int .i64 vive, .int .i64 rc, .bool iv] := HW1.out.1.get 3 rfl
  clear HB1
  refine wpAnyE_take (i := 0) (v := .pointer (some ⟨w.heap.size + 1, 2, none⟩)) rfl (by kernel_rfl) (by kernel_rfl) (by kernel_rfl) (fun _ _ _ h => h) (by kernel_rfl) (by kernel_rfl) hS (Or.inl ⟨by rfl, fun w' _ => by kernel_rfl⟩) ?_
  refine wpAnyE_take (i := 1) (v := .string k) rfl (by kernel_rfl) (by kernel_rfl) (by kernel_rfl) (fun _ _ _ h => h) (by kernel_rfl) (by kernel_rfl) hS (Or.inl ⟨by rfl, fun w' hw' => by have s0 := hw'.cell (i := 2) rfl; go_simp⟩) ?_
  refine wpAnyE_take (i := 2) (v := .int .i64 now) rfl (by kernel_rfl) (by kernel_rfl) (by kernel_rfl) (fun _ _ _ h => h) (by kernel_rfl) (by kernel_rfl) hS (Or.inl ⟨by rfl, fun w' _ => by kernel_rfl⟩) ?_
  refine wpAnyE_take (i := 3) (v := .pointer (some ⟨w.heap.size + 1, 13, none⟩)) rfl (by kernel_rfl) (by kernel_rfl) (by kernel_rfl) (fun _ _ _ h => h) (by kernel_rfl) (by kernel_rfl) hS (Or.inl ⟨by rfl, fun w' _ => by kernel_rfl⟩) ?_
  refine wpAnyE_take (i := 4) (v := .int .i64 vive) rfl (by kernel_rfl) (by kernel_rfl) (by kernel_rfl) (fun _ _ _ h => h) (by kernel_rfl) (by kernel_rfl) hS (Or.inl ⟨by rfl, fun w' hw' => by have s0 := hw'.cell (i := 13) rfl; go_simp⟩) ?_
  have HSd := hid hS
  clear hS
  refine wpAnyE_one (i := 5) rfl (by kernel_rfl) (fun K hK => ?_)
  go_simp
  refine (hmo _).mono ?_
  rintro e w' ⟨rfl, rfl⟩
  refine hK _ _ (fun _ => HSd.out) ?_
  clear hK K
  refine wpAnyE_one (i := 6) rfl (by kernel_rfl) (fun K hK => ?_)
  go_simp
  refine hK _ _ (fun _ => HSd.out) ?_
  clear hK K hmo
  refine store_last (i := 7) (S := (fun W => Blk W (w.heap.size + 1) 28 [.int .i64 op, .int .i64 mode, .string k, .string cv, .int .u32 fg, .int .i64 exp, .bool hx, .int .u64 cs, .bool hc, .int .u64 de, .int .u64 ini, .bool dn, .bool true, .int .i64 vive, .int .i64 rc, .bool iv])) (b := w.heap.size + 1 + 1) (cs := [.string k, .int .u32 0, .string ⟨#[]⟩, .int .i64 m, .int .u64 0, .int .i64 0, .bool false, .bool false]) rfl rfl rfl rfl (by kernel_rfl) (by first | rfl | kernel_rfl) (by first | rfl | kernel_rfl) (HW1.out.1.get 2 rfl) rfl (by kernel_rfl) rfl (by kernel_rfl) (by kernel_rfl) ?_
  have HX : Hid (Bxr w [(w.heap.size + 1 + 1 + 1 + 1, 35, [.int .i64 0, .string ⟨#[]⟩, .int .u32 0, .string ⟨#[]⟩, .int .i64 0, .int .u64 0, .int .i64 0, .bool false, .bool false, .int .u64 0, .bool false, .bool false, .bool false]), (w.heap.size + 1 + 1 + 1, 25, [.slice none 0 0, .int .u64 0, .int .i64 0]), (w.heap.size + 1 + 1, 33, [.string k, .int .u32 0, .string ⟨#[]⟩, .int .i64 m, .int .u64 0, .int .i64 0, .bool false, .bool false]), (w.heap.size + 1, 28, [.int .i64 op, .int .i64 mode, .string k, .string cv, .int .u32 fg, .int .i64 exp, .bool hx, .int .u64 cs, .bool hc, .int .u64 de, .int .u64 ini, .bool dn, .bool true, .int .i64 vive, .int .i64 rc, .bool iv]), (w.heap.size, 25, [.slice a s.its.length ca, .int .u64 s.cas, .int .i64 s.fl])] [] (Wd.setCells (w.heap.size + 1 + 1) 0 [.string k, .int .u32 0, .string ⟨#[]⟩, .int .i64 m, .int .u64 0, .int .i64 0, .bool false, .bool false])) := hid (HW1.out.setc 2 (vs := [.string k, .int .u32 0, .string ⟨#[]⟩, .int .i64 m, .int .u64 0, .int .i64 0, .bool false, .bool false]) rfl rfl)
  clear HW1 HSd
  generalize (Wd.setCells (w.heap.size + 1 + 1) 0 [.string k, .int .u32 0, .string ⟨#[]⟩, .int .i64 m, .int .u64 0, .int .i64 0, .bool false, .bool false]) = W2 at *
  go_simp
  have z1 := Nu.dd_len_le (n := ini) (by omega)
  have z2 : vt0.size ≤ 20 := by rw [HVT.out, size_len, show (S (Lib.decDigits ini)).data.toList = Lib.decDigits ini by cases Lib.decDigits ini <;> rfl]; exact z1
  rw [← HVT.out] at HGO
  clear z1 HVT
  have e0 := HX.out.1.get 2 rfl |>.cell (i := 0) rfl
  obtain ⟨T, hT⟩ : ∃ T, T = k.size + vt0.size := ⟨_, rfl⟩
  have t1 : (k.size : Int) + (vt0.size : Int) = (T : Int) := by omega
  have t2 : IntKind.i64.wrap (T : Int) = (T : Int) := by rw [IntKind.wrap_i64]; omega
  by_cases hbig : most < (T : Int)
  · have hgo : Hid (matO now ⟨op, mode, k, cv, fg, exp, hx, cs, hc, de, ini, dn, true, vive, rc, iv⟩ most s.cas none = Out.no s.cas 11) := hid (by rw [HGO.out]; exact if_pos (by show most < ((k.size + vt0.size : Nat) : Int); rw [← hT]; exact hbig))
    clear hT HGO
    go_upto_region 17 with fail
    refine wp_region_list ?_
    refine loadS (cs := [.slice a s.its.length ca, .int .u64 s.cas, .int .i64 s.fl]) rfl rfl rfl (HX.out.1.get 4 rfl) rfl ?_
    refine wpList_val (v := (An.of 11).v) (w' := W2) rfl (by kernel_rfl) ?_
    refine wpList_stor (b := w.heap.size + 1 + 1 + 1) (cs := [.slice a s.its.length ca, .int .u64 s.cas, .int .i64 s.fl]) rfl rfl rfl rfl rfl (HX.out.1.get 1 rfl) rfl (by kernel_rfl) rfl ?_
    have HY1 := hid (HX.out.setc 1 (vs := [.slice a s.its.length ca, .int .u64 s.cas, .int .i64 s.fl]) rfl rfl)
    refine wpList_stor (b := w.heap.size + 1 + 1 + 1 + 1) (cs := (An.of 11).cells) rfl rfl rfl rfl rfl (HY1.out.1.get 0 rfl) rfl (by kernel_rfl) rfl ?_
    have HY2 := hid (HY1.out.setc 0 (vs := (An.of 11).cells) rfl rfl)
    refine wpList_nil ?_
    go_simp
    go_wp2_with fail
    rw [hgo.out]
    exact bodyPost_ret (res_sa (a := An.of 11) rfl ⟨_, _, rfl⟩ (HY2.out.1.get 1 rfl) (HY2.out.1.get 0 rfl) rfl rfl) rfl ⟨_, rfl, ⟨_, rfl, HI.out.below HY2.out.1.1⟩, HY2.out.1.1⟩
  · have hgo : Hid (matO now ⟨op, mode, k, cv, fg, exp, hx, cs, hc, de, ini, dn, true, vive, rc, iv⟩ most s.cas none = ⟨.put ⟨k, 0, vt0, m, bump s.cas, 0, false, false⟩, bump s.cas, ⟨6, ⟨k, 0, vt0, m, bump s.cas, 0, false, false⟩, ((Nu.parseU (vt0).data.toList).getD 0), false, false, false⟩⟩) := hid (by rw [HGO.out]; exact if_neg (by show ¬ most < ((k.size + vt0.size : Nat) : Int); rw [← hT]; exact hbig))
    clear hT HGO
    have m1 := HX.out.1.get 4 rfl |>.cell (i := 1) rfl
    go_upto_region 18 with fail
    clear e0 t1 t2 hbig
    have e51_ := (HX.out.1.get 4 rfl).cell (i := 1) rfl
    have f51_ := (HX.out.1.get 4 rfl).frozen 1
    go_upto_region 19 with fail
    clear e51_ f51_
    change Code.wp _ _ _ _ (W2.setCell ⟨w.heap.size, 1, none⟩ (.int .u64 (bump s.cas : Nat)))
    have HE51 : Hid (Bxr w [(w.heap.size + 1 + 1 + 1 + 1, 35, [.int .i64 0, .string ⟨#[]⟩, .int .u32 0, .string ⟨#[]⟩, .int .i64 0, .int .u64 0, .int .i64 0, .bool false, .bool false, .int .u64 0, .bool false, .bool false, .bool false]), (w.heap.size + 1 + 1 + 1, 25, [.slice none 0 0, .int .u64 0, .int .i64 0]), (w.heap.size + 1 + 1, 33, [.string k, .int .u32 0, .string ⟨#[]⟩, .int .i64 m, .int .u64 0, .int .i64 0, .bool false, .bool false]), (w.heap.size + 1, 28, [.int .i64 op, .int .i64 mode, .string k, .string cv, .int .u32 fg, .int .i64 exp, .bool hx, .int .u64 cs, .bool hc, .int .u64 de, .int .u64 ini, .bool dn, .bool true, .int .i64 vive, .int .i64 rc, .bool iv]), (w.heap.size, 25, [.slice a s.its.length ca, .int .u64 (bump s.cas : Nat), .int .i64 s.fl])] [] (W2.setCell ⟨w.heap.size, 1, none⟩ (.int .u64 (bump s.cas : Nat)))) := hid (HX.out.cell1 4 rfl 1 (.int .u64 (bump s.cas : Nat)))
    clear HX
    generalize (W2.setCell ⟨w.heap.size, 1, none⟩ (.int .u64 (bump s.cas : Nat))) = X51 at *
    have m1 := HE51.out.1.get 4 rfl |>.cell (i := 1) rfl
    have e52_ := (HE51.out.1.get 2 rfl).cell (i := 4) rfl
    have f52_ := (HE51.out.1.get 2 rfl).frozen 4
    go_upto_region 20 with fail
    clear e52_ f52_
    change Code.wp _ _ _ _ (X51.setCell ⟨w.heap.size + 1 + 1, 4, none⟩ (.int .u64 (bump s.cas : Nat)))
    have HE52 : Hid (Bxr w [(w.heap.size + 1 + 1 + 1 + 1, 35, [.int .i64 0, .string ⟨#[]⟩, .int .u32 0, .string ⟨#[]⟩, .int .i64 0, .int .u64 0, .int .i64 0, .bool false, .bool false, .int .u64 0, .bool false, .bool false, .bool false]), (w.heap.size + 1 + 1 + 1, 25, [.slice none 0 0, .int .u64 0, .int .i64 0]), (w.heap.size + 1 + 1, 33, [.string k, .int .u32 0, .string ⟨#[]⟩, .int .i64 m, .int .u64 (bump s.cas : Nat), .int .i64 0, .bool false, .bool false]), (w.heap.size + 1, 28, [.int .i64 op, .int .i64 mode, .string k, .string cv, .int .u32 fg, .int .i64 exp, .bool hx, .int .u64 cs, .bool hc, .int .u64 de, .int .u64 ini, .bool dn, .bool true, .int .i64 vive, .int .i64 rc, .bool iv]), (w.heap.size, 25, [.slice a s.its.length ca, .int .u64 (bump s.cas : Nat), .int .i64 s.fl])] [] (X51.setCell ⟨w.heap.size + 1 + 1, 4, none⟩ (.int .u64 (bump s.cas : Nat)))) := hid (HE51.out.cell1 2 rfl 4 (.int .u64 (bump s.cas : Nat)))
    clear HE51
    generalize (X51.setCell ⟨w.heap.size + 1 + 1, 4, none⟩ (.int .u64 (bump s.cas : Nat))) = X52 at *
    have e53_ := (HE52.out.1.get 2 rfl).cell (i := 2) rfl
    have f53_ := (HE52.out.1.get 2 rfl).frozen 2
    go_upto_region 21 with fail
    clear e53_ f53_
    change Code.wp _ _ _ _ (X52.setCell ⟨w.heap.size + 1 + 1, 2, none⟩ (.string vt0))
    have HE53 : Hid (Bxr w [(w.heap.size + 1 + 1 + 1 + 1, 35, [.int .i64 0, .string ⟨#[]⟩, .int .u32 0, .string ⟨#[]⟩, .int .i64 0, .int .u64 0, .int .i64 0, .bool false, .bool false, .int .u64 0, .bool false, .bool false, .bool false]), (w.heap.size + 1 + 1 + 1, 25, [.slice none 0 0, .int .u64 0, .int .i64 0]), (w.heap.size + 1 + 1, 33, [.string k, .int .u32 0, .string vt0, .int .i64 m, .int .u64 (bump s.cas : Nat), .int .i64 0, .bool false, .bool false]), (w.heap.size + 1, 28, [.int .i64 op, .int .i64 mode, .string k, .string cv, .int .u32 fg, .int .i64 exp, .bool hx, .int .u64 cs, .bool hc, .int .u64 de, .int .u64 ini, .bool dn, .bool true, .int .i64 vive, .int .i64 rc, .bool iv]), (w.heap.size, 25, [.slice a s.its.length ca, .int .u64 (bump s.cas : Nat), .int .i64 s.fl])] [] (X52.setCell ⟨w.heap.size + 1 + 1, 2, none⟩ (.string vt0))) := hid (HE52.out.cell1 2 rfl 2 (.string vt0))
    clear HE52
    generalize (X52.setCell ⟨w.heap.size + 1 + 1, 2, none⟩ (.string vt0)) = X53 at *
    clear m1 hwb
    have huv : Nu.uv (Nu.parseU (vt0).data.toList) = .tuple #[.int .u64 (((Nu.parseU (vt0).data.toList).getD 0) : Nat), .bool (Nu.parseU (vt0).data.toList).isSome] := by
      cases Nu.parseU (vt0).data.toList <;> rfl
    go_wp2_with fail
    refine (Nu.ref_parse _ _).mono ?_
    rintro e w1 ⟨rfl, rfl⟩
    rw [huv]
    clear huv
    obtain ⟨NU, hNU⟩ : ∃ q, q = ((Nu.parseU (vt0).data.toList).getD 0) := ⟨_, rfl⟩
    rw [← hNU] at hgo ⊢
    clear hNU
    go_upto_region 22 with fail
    refine wp_region_E (fun W => Blk W (w.heap.size) 25 [.slice a s.its.length ca, .int .u64 (bump s.cas : Nat), .int .i64 s.fl] ∧ Blk W (w.heap.size + 1 + 1) 33 [.string k, .int .u32 0, .string vt0, .int .i64 m, .int .u64 (bump s.cas : Nat), .int .i64 0, .bool false, .bool false]) 7 (by kernel_rfl) ?_
    have HA54 : Hid (Bxr w [(w.heap.size + 1 + 1 + 1 + 1, 35, [.int .i64 0, .string ⟨#[]⟩, .int .u32 0, .string ⟨#[]⟩, .int .i64 0, .int .u64 0, .int .i64 0, .bool false, .bool false, .int .u64 0, .bool false, .bool false, .bool false]), (w.heap.size + 1 + 1 + 1, 25, [.slice none 0 0, .int .u64 0, .int .i64 0]), (w.heap.size + 1 + 1, 33, [.string k, .int .u32 0, .string vt0, .int .i64 m, .int .u64 (bump s.cas : Nat), .int .i64 0, .bool false, .bool false]), (w.heap.size + 1, 28, [.int .i64 op, .int .i64 mode, .string k, .string cv, .int .u32 fg, .int .i64 exp, .bool hx, .int .u64 cs, .bool hc, .int .u64 de, .int .u64 ini, .bool dn, .bool true, .int .i64 vive, .int .i64 rc, .bool iv]), (w.heap.size, 25, [.slice a s.its.length ca, .int .u64 (bump s.cas : Nat), .int .i64 s.fl])] [] X53.drew) := hid (HE53.out.step (below_d X53))
    clear HE53
    generalize X53.drew = A54 at *
    have hS : Blk A54 (w.heap.size) 25 [.slice a s.its.length ca, .int .u64 (bump s.cas : Nat), .int .i64 s.fl] ∧ Blk A54 (w.heap.size + 1 + 1) 33 [.string k, .int .u32 0, .string vt0, .int .i64 m, .int .u64 (bump s.cas : Nat), .int .i64 0, .bool false, .bool false] := ⟨HA54.out.1.get 4 rfl, HA54.out.1.get 2 rfl⟩
    refine wpAnyE_take (i := 0) (v := .agg #[.slice a s.its.length ca, .int .u64 (bump s.cas : Nat), .int .i64 s.fl]) rfl (by kernel_rfl) (by kernel_rfl) (by kernel_rfl) (fun _ _ _ h => h) (by kernel_rfl) (by kernel_rfl) hS (yieldsIf_load_mid rfl 25 _ rfl (w.heap.size) 0 (by kernel_rfl) [.slice a s.its.length ca, .int .u64 (bump s.cas : Nat), .int .i64 s.fl] _ (fun W hW => Blk.range hW.1) Tryd.underlying25 rfl (by kernel_rfl)) ?_
    refine wpAnyE_take (i := 1) (v := .agg #[.string k, .int .u32 0, .string vt0, .int .i64 m, .int .u64 (bump s.cas : Nat), .int .i64 0, .bool false, .bool false]) rfl (by kernel_rfl) (by kernel_rfl) (by kernel_rfl) (fun _ _ _ h => h) (by kernel_rfl) (by kernel_rfl) hS (yieldsIf_load_mid rfl 33 _ rfl (w.heap.size + 1 + 1) 0 (by kernel_rfl) [.string k, .int .u32 0, .string vt0, .int .i64 m, .int .u64 (bump s.cas : Nat), .int .i64 0, .bool false, .bool false] _ (fun W hW => Blk.range hW.2) Tryd.underlying33 rfl (by kernel_rfl)) ?_
    refine wpAnyE_take (i := 3) (v := .int .u64 NU) rfl (by kernel_rfl) (by kernel_rfl) (by kernel_rfl) (fun _ _ _ h => h) (by kernel_rfl) (by kernel_rfl) hS (Or.inl ⟨by rfl, fun w' _ => by kernel_rfl⟩) ?_
    refine wpAnyE_take (i := 4) (v := .agg #[.string k, .int .u32 0, .string vt0, .int .i64 m, .int .u64 (bump s.cas : Nat), .int .i64 0, .bool false, .bool false]) rfl (by kernel_rfl) (by kernel_rfl) (by kernel_rfl) (fun _ _ _ h => h) (by kernel_rfl) (by kernel_rfl) hS (yieldsIf_load_mid rfl 33 _ rfl (w.heap.size + 1 + 1) 0 (by kernel_rfl) [.string k, .int .u32 0, .string vt0, .int .i64 m, .int .u64 (bump s.cas : Nat), .int .i64 0, .bool false, .bool false] _ (fun W hW => Blk.range hW.2) Tryd.underlying33 rfl (by kernel_rfl)) ?_
    refine wpAnyE_take (i := 5) (v := (⟨6, ⟨k, 0, vt0, m, bump s.cas, 0, false, false⟩, NU, false, false, false⟩ : An).v) rfl (by kernel_rfl) (by kernel_rfl) (by kernel_rfl) (fun _ _ _ h => h) (by kernel_rfl) (by kernel_rfl) hS (Or.inl ⟨by rfl, fun w' _ => by kernel_rfl⟩) ?_
    clear hS
    refine putR (s := ⟨s.its, (bump s.cas), s.fl⟩) (x := ⟨k, 0, vt0, m, bump s.cas, 0, false, false⟩) (an := ⟨6, ⟨k, 0, vt0, m, bump s.cas, 0, false, false⟩, NU, false, false, false⟩) (st := 7) _ 2 6 7 1 0 (w.heap.size + 1 + 1 + 1) (w.heap.size + 1 + 1 + 1 + 1) HA54.out (HI.out.below HA54.out.1.1) HS.out hlen rfl rfl rfl rfl (by decide) rfl rfl rfl rfl rfl rfl rfl rfl (by kernel_rfl) (by kernel_rfl) (by kernel_rfl) (by kernel_rfl) (by decide) ⟨112, by kernel_rfl, by decide⟩ (by kernel_rfl) (by kernel_rfl) (by kernel_rfl) (by kernel_rfl) (by kernel_rfl) (fun bs2 W h1 h2 => ⟨h1.blk (List.mem_of_getElem? ((h2 4 (by decide)).trans rfl)), h1.blk (List.mem_of_getElem? ((h2 2 (by decide)).trans rfl))⟩) rfl (by decide) (fun az nz cz WZ hz hIz => ?_)
    have HZ := hid hz
    have HIZ := hid hIz
    clear hz hIz
    go_simp
    go_wp2_with fail
    rw [hgo.out]
    exact bodyPost_ret (res_sa (a := ⟨6, ⟨k, 0, vt0, m, bump s.cas, 0, false, false⟩, NU, false, false, false⟩) rfl ⟨az, cz, rfl⟩ (HZ.out.1.get 1 rfl) (HZ.out.1.get 0 rfl) rfl rfl) rfl ⟨_, rfl, ⟨_, rfl, HIZ.out⟩, HZ.out.1.1⟩
set_option maxRecDepth 100000 in
set_option maxHeartbeats 8000000 in
theorem math_go {s : Ms} {w : World} {a : Option Addr} {ca : Nat} (HI : Hid (Its w (.slice a s.its.length ca) s.its)) (HS : Hid (Sorted s.its)) (hlen : s.its.length ≤ 4194304) {op mode exp vive rc now most xe xl : Int} {k cv xk xv : ByteArray} {fg cs de ini xf xc : Nat} {hx dn vv xs xw hc iv : Bool}
    (hn1 : 1 ≤ now) (hn2 : now ≤ 1099511627776) (hini : ini ≤ 18446744073709551615) (hxk : xk.size ≤ 1099511627776) :
    Calls Tryd.prog 26 #[.agg #[.slice a s.its.length ca, .int .u64 s.cas, .int .i64 s.fl], .int .i64 now, .agg #[.int .i64 op, .int .i64 mode, .string k, .string cv, .int .u32 fg, .int .i64 exp, .bool hx, .int .u64 cs, .bool hc, .int .u64 de, .int .u64 ini, .bool dn, .bool vv, .int .i64 vive, .int .i64 rc, .bool iv], .agg #[.string xk, .int .u32 xf, .string xv, .int .i64 xe, .int .u64 xc, .int .i64 xl, .bool xs, .bool xw], .bool true, .int .i64 most] w fun e w' => ∃ V', e = .returned (.tuple #[V', (matO now ⟨op, mode, k, cv, fg, exp, hx, cs, hc, de, ini, dn, vv, vive, rc, iv⟩ most s.cas (some ⟨xk, xf, xv, xe, xc, xl, xs, xw⟩)).a.v]) ∧ Sv w' V' ⟨(matO now ⟨op, mode, k, cv, fg, exp, hx, cs, hc, de, ini, dn, vv, vive, rc, iv⟩ most s.cas (some ⟨xk, xf, xv, xe, xc, xl, xs, xw⟩)).e.on s.its k, (matO now ⟨op, mode, k, cv, fg, exp, hx, cs, hc, de, ini, dn, vv, vive, rc, iv⟩ most s.cas (some ⟨xk, xf, xv, xe, xc, xl, xs, xw⟩)).cas, s.fl⟩ ∧ Below w.heap.size w w' := by
  have hB0 := begin5 w #[.slice a s.its.length ca, .int .u64 s.cas, .int .i64 s.fl] #[.int .i64 op, .int .i64 mode, .string k, .string cv, .int .u32 fg, .int .i64 exp, .bool hx, .int .u64 cs, .bool hc, .int .u64 de, .int .u64 ini, .bool dn, .bool vv, .int .i64 vive, .int .i64 rc, .bool iv] #[.string xk, .int .u32 xf, .string xv, .int .i64 xe, .int .u64 xc, .int .i64 xl, .bool xs, .bool xw]
  have HB : Hid (Bxr w [(w.heap.size + 1 + 1 + 1 + 1, 35, [.int .i64 0, .string ⟨#[]⟩, .int .u32 0, .string ⟨#[]⟩, .int .i64 0, .int .u64 0, .int .i64 0, .bool false, .bool false, .int .u64 0, .bool false, .bool false, .bool false]), (w.heap.size + 1 + 1 + 1, 25, [.slice none 0 0, .int .u64 0, .int .i64 0]), (w.heap.size + 1 + 1, 33, [.string xk, .int .u32 xf, .string xv, .int .i64 xe, .int .u64 xc, .int .i64 xl, .bool xs, .bool xw]), (w.heap.size + 1, 28, [.int .i64 op, .int .i64 mode, .string k, .string cv, .int .u32 fg, .int .i64 exp, .bool hx, .int .u64 cs, .bool hc, .int .u64 de, .int .u64 ini, .bool dn, .bool vv, .int .i64 vive, .int .i64 rc, .bool iv]), (w.heap.size, 25, [.slice a s.its.length ca, .int .u64 s.cas, .int .i64 s.fl])] [] (((((w.alloc (.cells #[.slice a s.its.length ca, .int .u64 s.cas, .int .i64 s.fl] 25)).alloc (.cells #[.int .i64 op, .int .i64 mode, .string k, .string cv, .int .u32 fg, .int .i64 exp, .bool hx, .int .u64 cs, .bool hc, .int .u64 de, .int .u64 ini, .bool dn, .bool vv, .int .i64 vive, .int .i64 rc, .bool iv] 28)).alloc (.cells #[.string xk, .int .u32 xf, .string xv, .int .i64 xe, .int .u64 xc, .int .i64 xl, .bool xs, .bool xw] 33)).alloc (.cells #[.slice none 0 0, .int .u64 0, .int .i64 0] 25)).alloc (.cells #[.int .i64 0, .string ⟨#[]⟩, .int .u32 0, .string ⟨#[]⟩, .int .i64 0, .int .u64 0, .int .i64 0, .bool false, .bool false, .int .u64 0, .bool false, .bool false, .bool false] 35))) := hid hB0
  clear hB0
  have hwb := wrap_bump s.cas
  go_enter Tryd.func26, Tryd.ntmps26
  go_upto_region 1 with fail
  generalize hW0 : (((((w.alloc (.cells #[.slice a s.its.length ca, .int .u64 s.cas, .int .i64 s.fl] 25)).alloc (.cells #[.int .i64 op, .int .i64 mode, .string k, .string cv, .int .u32 fg, .int .i64 exp, .bool hx, .int .u64 cs, .bool hc, .int .u64 de, .int .u64 ini, .bool dn, .bool vv, .int .i64 vive, .int .i64 rc, .bool iv] 28)).alloc (.cells #[.string xk, .int .u32 xf, .string xv, .int .i64 xe, .int .u64 xc, .int .i64 xl, .bool xs, .bool xw] 33)).alloc (.cells #[.slice none 0 0, .int .u64 0, .int .i64 0] 25)).alloc (.cells #[.int .i64 0, .string ⟨#[]⟩, .int .u32 0, .string ⟨#[]⟩, .int .i64 0, .int .u64 0, .int .i64 0, .bool false, .bool false, .int .u64 0, .bool false, .bool false, .bool false] 35)) = W0 at *
  have k10 := HB.out.1.get 3 rfl |>.cell (i := 10) rfl
  clear hW0
  go_wp2_with fail
  refine (Nu.ref_text_any ini (by omega) _).mono ?_
  rintro e W1 ⟨rfl, hb1⟩
  obtain ⟨vt0, hvt0⟩ : ∃ q, q = Nu.S (Lib.decDigits ini) := ⟨_, rfl⟩
  rw [← hvt0]
  have HVT : Hid (vt0 = S (Lib.decDigits ini)) := hid hvt0
  clear hvt0
  have HB1 := hid (HB.out.step hb1)
  clear hb1 HB k10
  have k2 := HB1.out.1.get 3 rfl |>.cell (i := 8) rfl
  have k3 := HB1.out.1.get 3 rfl |>.cell (i := 7) rfl
  have k4 := HB1.out.1.get 2 rfl |>.cell (i := 4) rfl
  obtain ⟨B, hB⟩ : ∃ B : Bool, B = (hc && decide (xc ≠ cs)) := ⟨_, rfl⟩
  have hne : ((xc : Int) != (cs : Int)) = decide (xc ≠ cs) := by
    rw [Bool.eq_iff_iff]; simp; omega
  go_upto_region 14 with fail
  go_cut [70] from 71 to 79 (fun b wx => wx = W1 ∧ b = .bool B)
  case first =>
    clear HB1 hwb
    cases hc
    · go_wp2_with fail
      go_meet
      exact ⟨rfl, by rw [hB]; rfl⟩
    · go_wp2_with fail
      go_meet
      exact ⟨rfl, by rw [hB]; simp⟩
  case rest =>
  obtain ⟨rfl, rfl⟩ := hcut
  clear k2 k3 k4 hne
  cases B
  · have hA : ¬ (hc = true ∧ xc ≠ cs) := by
      intro ⟨h1, h2⟩
      rw [h1, decide_eq_true h2] at hB; cases hB
    clear hB
    obtain ⟨R, hR⟩ : ∃ R : Option (List UInt8), R = (if dn then subU xv.data.toList de else addU xv.data.toList de) := ⟨_, rfl⟩
    have hmt : matO now ⟨op, mode, k, cv, fg, exp, hx, cs, hc, de, ini, dn, vv, vive, rc, iv⟩ most s.cas (some ⟨xk, xf, xv, xe, xc, xl, xs, xw⟩) = R.elim (Out.no s.cas 7) (fun v => matE most s.cas (if hx then { (⟨xk, xf, xv, xe, xc, xl, xs, xw⟩ : It) with exp := moment now exp } else ⟨xk, xf, xv, xe, xc, xl, xs, xw⟩) (S v)) := by
      rw [hR]
      show (if hc = true ∧ xc ≠ cs then Out.no s.cas 4 else _) = _
      rw [if_neg hA]
      show (match (if dn then subU xv.data.toList de else addU xv.data.toList de) with | none => Out.no s.cas 7 | some v => matE most s.cas (if hx then { (⟨xk, xf, xv, xe, xc, xl, xs, xw⟩ : It) with exp := moment now exp } else ⟨xk, xf, xv, xe, xc, xl, xs, xw⟩) (S v)) = _
      cases (if dn then subU xv.data.toList de else addU xv.data.toList de) <;> rfl
    clear hA
    have HMT := hid hmt
    clear hmt
    have HRL : Hid (∀ v, R = some v → (S v).size ≤ 20) := hid (fun v hv => by
      have hl : (S v).size = v.length := by rw [size_len, show (S v).data.toList = v by cases v <;> rfl]
      rw [hl]
      rw [hR] at hv
      cases dn
      · have hv : addU xv.data.toList de = some v := hv
        unfold addU at hv
        cases hp : Nu.parseU xv.data.toList with
        | none => rw [hp] at hv; cases hv
        | some n => rw [hp] at hv; cases hv; exact Nu.dd_len_le (Nat.mod_lt _ (by decide))
      · have hv : subU xv.data.toList de = some v := hv
        unfold subU at hv
        cases hp : Nu.parseU xv.data.toList with
        | none => rw [hp] at hv; cases hv
        | some n => rw [hp] at hv; cases hv; exact Nu.dd_len_le (Nat.lt_of_le_of_lt (Nat.sub_le _ _) (Nu.parseU_lt hp)))
    obtain ⟨vt, ob, htv⟩ : ∃ vt ob, Nu.tv R = .tuple #[.string vt, .bool ob] := by cases R <;> exact ⟨_, _, rfl⟩
    have HTV := hid htv
    have HAD : Hid (∀ W, dn = false → Calls Tryd.prog 39 #[.string xv, .int .u64 de] W fun e W' => e = .returned (.tuple #[.string vt, .bool ob]) ∧ Below W.heap.size W W') := hid (fun W hd => by
      have h := Nu.ref_add xv de W
      subst hd
      rw [show Nu.addU xv.data.toList de = R by rw [hR]; rfl, htv] at h
      exact h)
    have HSU : Hid (∀ W, dn = true → Calls Tryd.prog 38 #[.string xv, .int .u64 de] W fun e W' => e = .returned (.tuple #[.string vt, .bool ob]) ∧ Below W.heap.size W W') := hid (fun W hd => by
      have h := Nu.ref_sub xv de W
      subst hd
      rw [show Nu.subU xv.data.toList de = R by rw [hR]; rfl, htv] at h
      exact h)
    clear htv hR
    have k11 := HB1.out.1.get 3 rfl |>.cell (i := 11) rfl
    have k9 := HB1.out.1.get 3 rfl |>.cell (i := 9) rfl
    have x2 := HB1.out.1.get 2 rfl |>.cell (i := 2) rfl
    go_upto_if 22 with fail
    go_cut [14, 15] from 23 to 38 (fun v1 v2 wx => v1 = .string vt ∧ v2 = .bool ob ∧ Hid (Bxr w [(w.heap.size + 1 + 1 + 1 + 1, 35, [.int .i64 0, .string ⟨#[]⟩, .int .u32 0, .string ⟨#[]⟩, .int .i64 0, .int .u64 0, .int .i64 0, .bool false, .bool false, .int .u64 0, .bool false, .bool false, .bool false]), (w.heap.size + 1 + 1 + 1, 25, [.slice none 0 0, .int .u64 0, .int .i64 0]), (w.heap.size + 1 + 1, 33, [.string xk, .int .u32 xf, .string xv, .int .i64 xe, .int .u64 xc, .int .i64 xl, .bool xs, .bool xw]), (w.heap.size + 1, 28, [.int .i64 op, .int .i64 mode, .string k, .string cv, .int .u32 fg, .int .i64 exp, .bool hx, .int .u64 cs, .bool hc, .int .u64 de, .int .u64 ini, .bool dn, .bool vv, .int .i64 vive, .int .i64 rc, .bool iv]), (w.heap.size, 25, [.slice a s.its.length ca, .int .u64 s.cas, .int .i64 s.fl])] [] wx))
    case first =>
      cases dn
      · have h := HAD.out
        clear HAD HSU HTV HRL HMT hwb
        go_wp2_with fail
        refine (h _ (by first | exact rfl | exact trivial)).mono ?_
        rintro e W3 ⟨rfl, hb3⟩
        have HX := hid (HB1.out.step hb3)
        clear h hb3 HB1
        go_wp2_with fail
        go_meet
        exact ⟨rfl, rfl, HX⟩
      · have h := HSU.out
        clear HAD HSU HTV HRL HMT hwb
        go_wp2_with fail
        refine (h _ (by first | exact rfl | exact trivial)).mono ?_
        rintro e W3 ⟨rfl, hb3⟩
        have HX := hid (HB1.out.step hb3)
        clear h hb3 HB1
        go_wp2_with fail
        go_meet
        exact ⟨rfl, rfl, HX⟩
    case rest =>
    obtain ⟨rfl, rfl, HX⟩ := hcut
    clear HAD HSU k11 k9 x2 HB1
    rename World => W2
    cases ob
    · have hgo : Hid (matO now ⟨op, mode, k, cv, fg, exp, hx, cs, hc, de, ini, dn, vv, vive, rc, iv⟩ most s.cas (some ⟨xk, xf, xv, xe, xc, xl, xs, xw⟩) = Out.no s.cas 7) := hid (by
        rw [HMT.out]
        have h := HTV.out
        cases R with
        | none => rfl
        | some v => injection h with h; injection h with h; injection h with _ h; injection h with h; injection h with h; cases h)
      clear HMT HTV HRL hwb
      go_upto_region 7 with fail
      refine wp_region_list ?_
      refine loadS (cs := [.slice a s.its.length ca, .int .u64 s.cas, .int .i64 s.fl]) rfl rfl rfl (HX.out.1.get 4 rfl) rfl ?_
      refine wpList_val (v := (An.of 7).v) (w' := W2) rfl (by kernel_rfl) ?_
      refine wpList_stor (b := w.heap.size + 1 + 1 + 1) (cs := [.slice a s.its.length ca, .int .u64 s.cas, .int .i64 s.fl]) rfl rfl rfl rfl rfl (HX.out.1.get 1 rfl) rfl (by kernel_rfl) rfl ?_
      have HY1 := hid (HX.out.setc 1 (vs := [.slice a s.its.length ca, .int .u64 s.cas, .int .i64 s.fl]) rfl rfl)
      refine wpList_stor (b := w.heap.size + 1 + 1 + 1 + 1) (cs := (An.of 7).cells) rfl rfl rfl rfl rfl (HY1.out.1.get 0 rfl) rfl (by kernel_rfl) rfl ?_
      have HY2 := hid (HY1.out.setc 0 (vs := (An.of 7).cells) rfl rfl)
      refine wpList_nil ?_
      go_simp
      go_wp2_with fail
      rw [hgo.out]
      exact bodyPost_ret (res_sa (a := An.of 7) rfl ⟨_, _, rfl⟩ (HY2.out.1.get 1 rfl) (HY2.out.1.get 0 rfl) rfl rfl) rfl ⟨_, rfl, ⟨_, rfl, HI.out.below HY2.out.1.1⟩, HY2.out.1.1⟩
    · obtain ⟨v, rfl, rfl⟩ : ∃ v, R = some v ∧ vt = S v := by
        have h := HTV.out
        cases R with
        | none => injection h with h; injection h with h; injection h with _ h; injection h with h; injection h with h; cases h
        | some v => injection h with h; injection h with h; injection h with h _; injection h with h; exact ⟨v, rfl, h.symm⟩
      have z2 := HRL.out v rfl
      obtain ⟨xe2, hxe2⟩ : ∃ e2, e2 = (if hx = true then moment now exp else xe) := ⟨_, rfl⟩
      have HGO : Hid (matO now ⟨op, mode, k, cv, fg, exp, hx, cs, hc, de, ini, dn, vv, vive, rc, iv⟩ most s.cas (some ⟨xk, xf, xv, xe, xc, xl, xs, xw⟩) = matE most s.cas ⟨xk, xf, xv, xe2, xc, xl, xs, xw⟩ (S v)) := hid (by
        rw [HMT.out, hxe2]
        cases hx <;> rfl)
      have hmo := fun W => ref_moment now exp hn1 hn2 W
      clear HMT HTV HRL
      obtain ⟨vt, hvt⟩ : ∃ vt, vt = S v := ⟨_, rfl⟩
      rw [← hvt] at HGO z2 ⊢
      clear hvt
      have k6 := HX.out.1.get 3 rfl |>.cell (i := 6) rfl
      cases hx
      · have e : xe = xe2 := by rw [hxe2]; rfl
        subst e
        clear hxe2 hmo
        go_upto_region 16 with fail
        clear k6
        have e0 := HX.out.1.get 2 rfl |>.cell (i := 0) rfl
        obtain ⟨T, hT⟩ : ∃ T, T = xk.size + vt.size := ⟨_, rfl⟩
        have t1 : (xk.size : Int) + (vt.size : Int) = (T : Int) := by omega
        have t2 : IntKind.i64.wrap (T : Int) = (T : Int) := by rw [IntKind.wrap_i64]; omega
        by_cases hbig : most < (T : Int)
        · have hgo : Hid (matO now ⟨op, mode, k, cv, fg, exp, false, cs, hc, de, ini, dn, vv, vive, rc, iv⟩ most s.cas (some ⟨xk, xf, xv, xe, xc, xl, xs, xw⟩) = Out.no s.cas 11) := hid (by rw [HGO.out]; exact if_pos (by show most < ((xk.size + vt.size : Nat) : Int); rw [← hT]; exact hbig))
          clear hT HGO
          go_upto_region 17 with fail
          refine wp_region_list ?_
          refine loadS (cs := [.slice a s.its.length ca, .int .u64 s.cas, .int .i64 s.fl]) rfl rfl rfl (HX.out.1.get 4 rfl) rfl ?_
          refine wpList_val (v := (An.of 11).v) (w' := W2) rfl (by kernel_rfl) ?_
          refine wpList_stor (b := w.heap.size + 1 + 1 + 1) (cs := [.slice a s.its.length ca, .int .u64 s.cas, .int .i64 s.fl]) rfl rfl rfl rfl rfl (HX.out.1.get 1 rfl) rfl (by kernel_rfl) rfl ?_
          have HY1 := hid (HX.out.setc 1 (vs := [.slice a s.its.length ca, .int .u64 s.cas, .int .i64 s.fl]) rfl rfl)
          refine wpList_stor (b := w.heap.size + 1 + 1 + 1 + 1) (cs := (An.of 11).cells) rfl rfl rfl rfl rfl (HY1.out.1.get 0 rfl) rfl (by kernel_rfl) rfl ?_
          have HY2 := hid (HY1.out.setc 0 (vs := (An.of 11).cells) rfl rfl)
          refine wpList_nil ?_
          go_simp
          go_wp2_with fail
          rw [hgo.out]
          exact bodyPost_ret (res_sa (a := An.of 11) rfl ⟨_, _, rfl⟩ (HY2.out.1.get 1 rfl) (HY2.out.1.get 0 rfl) rfl rfl) rfl ⟨_, rfl, ⟨_, rfl, HI.out.below HY2.out.1.1⟩, HY2.out.1.1⟩
        · have hgo : Hid (matO now ⟨op, mode, k, cv, fg, exp, false, cs, hc, de, ini, dn, vv, vive, rc, iv⟩ most s.cas (some ⟨xk, xf, xv, xe, xc, xl, xs, xw⟩) = ⟨.put ⟨xk, xf, vt, xe, bump s.cas, xl, xs, xw⟩, bump s.cas, ⟨6, ⟨xk, xf, vt, xe, bump s.cas, xl, xs, xw⟩, ((Nu.parseU (vt).data.toList).getD 0), false, false, false⟩⟩) := hid (by rw [HGO.out]; exact if_neg (by show ¬ most < ((xk.size + vt.size : Nat) : Int); rw [← hT]; exact hbig))
          clear hT HGO
          have m1 := HX.out.1.get 4 rfl |>.cell (i := 1) rfl
          go_upto_region 18 with fail
          clear e0 t1 t2 hbig
          have e51_ := (HX.out.1.get 4 rfl).cell (i := 1) rfl
          have f51_ := (HX.out.1.get 4 rfl).frozen 1
          go_upto_region 19 with fail
          clear e51_ f51_
          change Code.wp _ _ _ _ (W2.setCell ⟨w.heap.size, 1, none⟩ (.int .u64 (bump s.cas : Nat)))
          have HE51 : Hid (Bxr w [(w.heap.size + 1 + 1 + 1 + 1, 35, [.int .i64 0, .string ⟨#[]⟩, .int .u32 0, .string ⟨#[]⟩, .int .i64 0, .int .u64 0, .int .i64 0, .bool false, .bool false, .int .u64 0, .bool false, .bool false, .bool false]), (w.heap.size + 1 + 1 + 1, 25, [.slice none 0 0, .int .u64 0, .int .i64 0]), (w.heap.size + 1 + 1, 33, [.string xk, .int .u32 xf, .string xv, .int .i64 xe, .int .u64 xc, .int .i64 xl, .bool xs, .bool xw]), (w.heap.size + 1, 28, [.int .i64 op, .int .i64 mode, .string k, .string cv, .int .u32 fg, .int .i64 exp, .bool false, .int .u64 cs, .bool hc, .int .u64 de, .int .u64 ini, .bool dn, .bool vv, .int .i64 vive, .int .i64 rc, .bool iv]), (w.heap.size, 25, [.slice a s.its.length ca, .int .u64 (bump s.cas : Nat), .int .i64 s.fl])] [] (W2.setCell ⟨w.heap.size, 1, none⟩ (.int .u64 (bump s.cas : Nat)))) := hid (HX.out.cell1 4 rfl 1 (.int .u64 (bump s.cas : Nat)))
          clear HX
          generalize (W2.setCell ⟨w.heap.size, 1, none⟩ (.int .u64 (bump s.cas : Nat))) = X51 at *
          have m1 := HE51.out.1.get 4 rfl |>.cell (i := 1) rfl
          have e52_ := (HE51.out.1.get 2 rfl).cell (i := 4) rfl
          have f52_ := (HE51.out.1.get 2 rfl).frozen 4
          go_upto_region 20 with fail
          clear e52_ f52_
          change Code.wp _ _ _ _ (X51.setCell ⟨w.heap.size + 1 + 1, 4, none⟩ (.int .u64 (bump s.cas : Nat)))
          have HE52 : Hid (Bxr w [(w.heap.size + 1 + 1 + 1 + 1, 35, [.int .i64 0, .string ⟨#[]⟩, .int .u32 0, .string ⟨#[]⟩, .int .i64 0, .int .u64 0, .int .i64 0, .bool false, .bool false, .int .u64 0, .bool false, .bool false, .bool false]), (w.heap.size + 1 + 1 + 1, 25, [.slice none 0 0, .int .u64 0, .int .i64 0]), (w.heap.size + 1 + 1, 33, [.string xk, .int .u32 xf, .string xv, .int .i64 xe, .int .u64 (bump s.cas : Nat), .int .i64 xl, .bool xs, .bool xw]), (w.heap.size + 1, 28, [.int .i64 op, .int .i64 mode, .string k, .string cv, .int .u32 fg, .int .i64 exp, .bool false, .int .u64 cs, .bool hc, .int .u64 de, .int .u64 ini, .bool dn, .bool vv, .int .i64 vive, .int .i64 rc, .bool iv]), (w.heap.size, 25, [.slice a s.its.length ca, .int .u64 (bump s.cas : Nat), .int .i64 s.fl])] [] (X51.setCell ⟨w.heap.size + 1 + 1, 4, none⟩ (.int .u64 (bump s.cas : Nat)))) := hid (HE51.out.cell1 2 rfl 4 (.int .u64 (bump s.cas : Nat)))
          clear HE51
          generalize (X51.setCell ⟨w.heap.size + 1 + 1, 4, none⟩ (.int .u64 (bump s.cas : Nat))) = X52 at *
          have e53_ := (HE52.out.1.get 2 rfl).cell (i := 2) rfl
          have f53_ := (HE52.out.1.get 2 rfl).frozen 2
          go_upto_region 21 with fail
          clear e53_ f53_
          change Code.wp _ _ _ _ (X52.setCell ⟨w.heap.size + 1 + 1, 2, none⟩ (.string vt))
          have HE53 : Hid (Bxr w [(w.heap.size + 1 + 1 + 1 + 1, 35, [.int .i64 0, .string ⟨#[]⟩, .int .u32 0, .string ⟨#[]⟩, .int .i64 0, .int .u64 0, .int .i64 0, .bool false, .bool false, .int .u64 0, .bool false, .bool false, .bool false]), (w.heap.size + 1 + 1 + 1, 25, [.slice none 0 0, .int .u64 0, .int .i64 0]), (w.heap.size + 1 + 1, 33, [.string xk, .int .u32 xf, .string vt, .int .i64 xe, .int .u64 (bump s.cas : Nat), .int .i64 xl, .bool xs, .bool xw]), (w.heap.size + 1, 28, [.int .i64 op, .int .i64 mode, .string k, .string cv, .int .u32 fg, .int .i64 exp, .bool false, .int .u64 cs, .bool hc, .int .u64 de, .int .u64 ini, .bool dn, .bool vv, .int .i64 vive, .int .i64 rc, .bool iv]), (w.heap.size, 25, [.slice a s.its.length ca, .int .u64 (bump s.cas : Nat), .int .i64 s.fl])] [] (X52.setCell ⟨w.heap.size + 1 + 1, 2, none⟩ (.string vt))) := hid (HE52.out.cell1 2 rfl 2 (.string vt))
          clear HE52
          generalize (X52.setCell ⟨w.heap.size + 1 + 1, 2, none⟩ (.string vt)) = X53 at *
          clear m1 hwb
          have huv : Nu.uv (Nu.parseU (vt).data.toList) = .tuple #[.int .u64 (((Nu.parseU (vt).data.toList).getD 0) : Nat), .bool (Nu.parseU (vt).data.toList).isSome] := by
            cases Nu.parseU (vt).data.toList <;> rfl
          go_wp2_with fail
          refine (Nu.ref_parse _ _).mono ?_
          rintro e w1 ⟨rfl, rfl⟩
          rw [huv]
          clear huv
          obtain ⟨NU, hNU⟩ : ∃ q, q = ((Nu.parseU (vt).data.toList).getD 0) := ⟨_, rfl⟩
          rw [← hNU] at hgo ⊢
          clear hNU
          go_upto_region 22 with fail
          refine wp_region_E (fun W => Blk W (w.heap.size) 25 [.slice a s.its.length ca, .int .u64 (bump s.cas : Nat), .int .i64 s.fl] ∧ Blk W (w.heap.size + 1 + 1) 33 [.string xk, .int .u32 xf, .string vt, .int .i64 xe, .int .u64 (bump s.cas : Nat), .int .i64 xl, .bool xs, .bool xw]) 7 (by kernel_rfl) ?_
          have HA54 : Hid (Bxr w [(w.heap.size + 1 + 1 + 1 + 1, 35, [.int .i64 0, .string ⟨#[]⟩, .int .u32 0, .string ⟨#[]⟩, .int .i64 0, .int .u64 0, .int .i64 0, .bool false, .bool false, .int .u64 0, .bool false, .bool false, .bool false]), (w.heap.size + 1 + 1 + 1, 25, [.slice none 0 0, .int .u64 0, .int .i64 0]), (w.heap.size + 1 + 1, 33, [.string xk, .int .u32 xf, .string vt, .int .i64 xe, .int .u64 (bump s.cas : Nat), .int .i64 xl, .bool xs, .bool xw]), (w.heap.size + 1, 28, [.int .i64 op, .int .i64 mode, .string k, .string cv, .int .u32 fg, .int .i64 exp, .bool false, .int .u64 cs, .bool hc, .int .u64 de, .int .u64 ini, .bool dn, .bool vv, .int .i64 vive, .int .i64 rc, .bool iv]), (w.heap.size, 25, [.slice a s.its.length ca, .int .u64 (bump s.cas : Nat), .int .i64 s.fl])] [] X53.drew) := hid (HE53.out.step (below_d X53))
          clear HE53
          generalize X53.drew = A54 at *
          have hS : Blk A54 (w.heap.size) 25 [.slice a s.its.length ca, .int .u64 (bump s.cas : Nat), .int .i64 s.fl] ∧ Blk A54 (w.heap.size + 1 + 1) 33 [.string xk, .int .u32 xf, .string vt, .int .i64 xe, .int .u64 (bump s.cas : Nat), .int .i64 xl, .bool xs, .bool xw] := ⟨HA54.out.1.get 4 rfl, HA54.out.1.get 2 rfl⟩
          refine wpAnyE_take (i := 0) (v := .agg #[.slice a s.its.length ca, .int .u64 (bump s.cas : Nat), .int .i64 s.fl]) rfl (by kernel_rfl) (by kernel_rfl) (by kernel_rfl) (fun _ _ _ h => h) (by kernel_rfl) (by kernel_rfl) hS (yieldsIf_load_mid rfl 25 _ rfl (w.heap.size) 0 (by kernel_rfl) [.slice a s.its.length ca, .int .u64 (bump s.cas : Nat), .int .i64 s.fl] _ (fun W hW => Blk.range hW.1) Tryd.underlying25 rfl (by kernel_rfl)) ?_
          refine wpAnyE_take (i := 1) (v := .agg #[.string xk, .int .u32 xf, .string vt, .int .i64 xe, .int .u64 (bump s.cas : Nat), .int .i64 xl, .bool xs, .bool xw]) rfl (by kernel_rfl) (by kernel_rfl) (by kernel_rfl) (fun _ _ _ h => h) (by kernel_rfl) (by kernel_rfl) hS (yieldsIf_load_mid rfl 33 _ rfl (w.heap.size + 1 + 1) 0 (by kernel_rfl) [.string xk, .int .u32 xf, .string vt, .int .i64 xe, .int .u64 (bump s.cas : Nat), .int .i64 xl, .bool xs, .bool xw] _ (fun W hW => Blk.range hW.2) Tryd.underlying33 rfl (by kernel_rfl)) ?_
          refine wpAnyE_take (i := 3) (v := .int .u64 NU) rfl (by kernel_rfl) (by kernel_rfl) (by kernel_rfl) (fun _ _ _ h => h) (by kernel_rfl) (by kernel_rfl) hS (Or.inl ⟨by rfl, fun w' _ => by kernel_rfl⟩) ?_
          refine wpAnyE_take (i := 4) (v := .agg #[.string xk, .int .u32 xf, .string vt, .int .i64 xe, .int .u64 (bump s.cas : Nat), .int .i64 xl, .bool xs, .bool xw]) rfl (by kernel_rfl) (by kernel_rfl) (by kernel_rfl) (fun _ _ _ h => h) (by kernel_rfl) (by kernel_rfl) hS (yieldsIf_load_mid rfl 33 _ rfl (w.heap.size + 1 + 1) 0 (by kernel_rfl) [.string xk, .int .u32 xf, .string vt, .int .i64 xe, .int .u64 (bump s.cas : Nat), .int .i64 xl, .bool xs, .bool xw] _ (fun W hW => Blk.range hW.2) Tryd.underlying33 rfl (by kernel_rfl)) ?_
          refine wpAnyE_take (i := 5) (v := (⟨6, ⟨xk, xf, vt, xe, bump s.cas, xl, xs, xw⟩, NU, false, false, false⟩ : An).v) rfl (by kernel_rfl) (by kernel_rfl) (by kernel_rfl) (fun _ _ _ h => h) (by kernel_rfl) (by kernel_rfl) hS (Or.inl ⟨by rfl, fun w' _ => by kernel_rfl⟩) ?_
          clear hS
          refine putR (s := ⟨s.its, (bump s.cas), s.fl⟩) (x := ⟨xk, xf, vt, xe, bump s.cas, xl, xs, xw⟩) (an := ⟨6, ⟨xk, xf, vt, xe, bump s.cas, xl, xs, xw⟩, NU, false, false, false⟩) (st := 7) _ 2 6 7 1 0 (w.heap.size + 1 + 1 + 1) (w.heap.size + 1 + 1 + 1 + 1) HA54.out (HI.out.below HA54.out.1.1) HS.out hlen rfl rfl rfl rfl (by decide) rfl rfl rfl rfl rfl rfl rfl rfl (by kernel_rfl) (by kernel_rfl) (by kernel_rfl) (by kernel_rfl) (by decide) ⟨112, by kernel_rfl, by decide⟩ (by kernel_rfl) (by kernel_rfl) (by kernel_rfl) (by kernel_rfl) (by kernel_rfl) (fun bs2 W h1 h2 => ⟨h1.blk (List.mem_of_getElem? ((h2 4 (by decide)).trans rfl)), h1.blk (List.mem_of_getElem? ((h2 2 (by decide)).trans rfl))⟩) rfl (by decide) (fun az nz cz WZ hz hIz => ?_)
          have HZ := hid hz
          have HIZ := hid hIz
          clear hz hIz
          go_simp
          go_wp2_with fail
          rw [hgo.out]
          exact bodyPost_ret (res_sa (a := ⟨6, ⟨xk, xf, vt, xe, bump s.cas, xl, xs, xw⟩, NU, false, false, false⟩) rfl ⟨az, cz, rfl⟩ (HZ.out.1.get 1 rfl) (HZ.out.1.get 0 rfl) rfl rfl) rfl ⟨_, rfl, ⟨_, rfl, HIZ.out⟩, HZ.out.1.1⟩
      · have e : xe2 = moment now exp := by rw [hxe2]; rfl
        rw [← e] at hmo
        clear hxe2 e
        have k7 := HX.out.1.get 3 rfl |>.cell (i := 5) rfl
        have e3 := HX.out.1.get 2 rfl |>.cell (i := 3) rfl
        have f3 := (HX.out.1.get 2 rfl).frozen 3
        go_wp2_with fail
        refine (hmo _).mono ?_
        rintro e w1 ⟨rfl, rfl⟩
        go_upto_region 16 with fail
        clear hmo k6 k7 e3 f3
        have HX9 : Hid (Bxr w [(w.heap.size + 1 + 1 + 1 + 1, 35, [.int .i64 0, .string ⟨#[]⟩, .int .u32 0, .string ⟨#[]⟩, .int .i64 0, .int .u64 0, .int .i64 0, .bool false, .bool false, .int .u64 0, .bool false, .bool false, .bool false]), (w.heap.size + 1 + 1 + 1, 25, [.slice none 0 0, .int .u64 0, .int .i64 0]), (w.heap.size + 1 + 1, 33, [.string xk, .int .u32 xf, .string xv, .int .i64 xe2, .int .u64 xc, .int .i64 xl, .bool xs, .bool xw]), (w.heap.size + 1, 28, [.int .i64 op, .int .i64 mode, .string k, .string cv, .int .u32 fg, .int .i64 exp, .bool true, .int .u64 cs, .bool hc, .int .u64 de, .int .u64 ini, .bool dn, .bool vv, .int .i64 vive, .int .i64 rc, .bool iv]), (w.heap.size, 25, [.slice a s.its.length ca, .int .u64 s.cas, .int .i64 s.fl])] [] (W2.setCell ⟨w.heap.size + 1 + 1, 3, none⟩ (.int .i64 xe2))) := hid (HX.out.cell1 2 rfl 3 (.int .i64 xe2))
        clear HX
        generalize (W2.setCell ⟨w.heap.size + 1 + 1, 3, none⟩ (.int .i64 xe2)) = W4 at *
        have e0 := HX9.out.1.get 2 rfl |>.cell (i := 0) rfl
        obtain ⟨T, hT⟩ : ∃ T, T = xk.size + vt.size := ⟨_, rfl⟩
        have t1 : (xk.size : Int) + (vt.size : Int) = (T : Int) := by omega
        have t2 : IntKind.i64.wrap (T : Int) = (T : Int) := by rw [IntKind.wrap_i64]; omega
        by_cases hbig : most < (T : Int)
        · have hgo : Hid (matO now ⟨op, mode, k, cv, fg, exp, true, cs, hc, de, ini, dn, vv, vive, rc, iv⟩ most s.cas (some ⟨xk, xf, xv, xe, xc, xl, xs, xw⟩) = Out.no s.cas 11) := hid (by rw [HGO.out]; exact if_pos (by show most < ((xk.size + vt.size : Nat) : Int); rw [← hT]; exact hbig))
          clear hT HGO
          go_upto_region 17 with fail
          refine wp_region_list ?_
          refine loadS (cs := [.slice a s.its.length ca, .int .u64 s.cas, .int .i64 s.fl]) rfl rfl rfl (HX9.out.1.get 4 rfl) rfl ?_
          refine wpList_val (v := (An.of 11).v) (w' := W4) rfl (by kernel_rfl) ?_
          refine wpList_stor (b := w.heap.size + 1 + 1 + 1) (cs := [.slice a s.its.length ca, .int .u64 s.cas, .int .i64 s.fl]) rfl rfl rfl rfl rfl (HX9.out.1.get 1 rfl) rfl (by kernel_rfl) rfl ?_
          have HY1 := hid (HX9.out.setc 1 (vs := [.slice a s.its.length ca, .int .u64 s.cas, .int .i64 s.fl]) rfl rfl)
          refine wpList_stor (b := w.heap.size + 1 + 1 + 1 + 1) (cs := (An.of 11).cells) rfl rfl rfl rfl rfl (HY1.out.1.get 0 rfl) rfl (by kernel_rfl) rfl ?_
          have HY2 := hid (HY1.out.setc 0 (vs := (An.of 11).cells) rfl rfl)
          refine wpList_nil ?_
          go_simp
          go_wp2_with fail
          rw [hgo.out]
          exact bodyPost_ret (res_sa (a := An.of 11) rfl ⟨_, _, rfl⟩ (HY2.out.1.get 1 rfl) (HY2.out.1.get 0 rfl) rfl rfl) rfl ⟨_, rfl, ⟨_, rfl, HI.out.below HY2.out.1.1⟩, HY2.out.1.1⟩
        · have hgo : Hid (matO now ⟨op, mode, k, cv, fg, exp, true, cs, hc, de, ini, dn, vv, vive, rc, iv⟩ most s.cas (some ⟨xk, xf, xv, xe, xc, xl, xs, xw⟩) = ⟨.put ⟨xk, xf, vt, xe2, bump s.cas, xl, xs, xw⟩, bump s.cas, ⟨6, ⟨xk, xf, vt, xe2, bump s.cas, xl, xs, xw⟩, ((Nu.parseU (vt).data.toList).getD 0), false, false, false⟩⟩) := hid (by rw [HGO.out]; exact if_neg (by show ¬ most < ((xk.size + vt.size : Nat) : Int); rw [← hT]; exact hbig))
          clear hT HGO
          have m1 := HX9.out.1.get 4 rfl |>.cell (i := 1) rfl
          go_upto_region 18 with fail
          clear e0 t1 t2 hbig
          have e51_ := (HX9.out.1.get 4 rfl).cell (i := 1) rfl
          have f51_ := (HX9.out.1.get 4 rfl).frozen 1
          go_upto_region 19 with fail
          clear e51_ f51_
          change Code.wp _ _ _ _ (W4.setCell ⟨w.heap.size, 1, none⟩ (.int .u64 (bump s.cas : Nat)))
          have HE51 : Hid (Bxr w [(w.heap.size + 1 + 1 + 1 + 1, 35, [.int .i64 0, .string ⟨#[]⟩, .int .u32 0, .string ⟨#[]⟩, .int .i64 0, .int .u64 0, .int .i64 0, .bool false, .bool false, .int .u64 0, .bool false, .bool false, .bool false]), (w.heap.size + 1 + 1 + 1, 25, [.slice none 0 0, .int .u64 0, .int .i64 0]), (w.heap.size + 1 + 1, 33, [.string xk, .int .u32 xf, .string xv, .int .i64 xe2, .int .u64 xc, .int .i64 xl, .bool xs, .bool xw]), (w.heap.size + 1, 28, [.int .i64 op, .int .i64 mode, .string k, .string cv, .int .u32 fg, .int .i64 exp, .bool true, .int .u64 cs, .bool hc, .int .u64 de, .int .u64 ini, .bool dn, .bool vv, .int .i64 vive, .int .i64 rc, .bool iv]), (w.heap.size, 25, [.slice a s.its.length ca, .int .u64 (bump s.cas : Nat), .int .i64 s.fl])] [] (W4.setCell ⟨w.heap.size, 1, none⟩ (.int .u64 (bump s.cas : Nat)))) := hid (HX9.out.cell1 4 rfl 1 (.int .u64 (bump s.cas : Nat)))
          clear HX9
          generalize (W4.setCell ⟨w.heap.size, 1, none⟩ (.int .u64 (bump s.cas : Nat))) = X51 at *
          have m1 := HE51.out.1.get 4 rfl |>.cell (i := 1) rfl
          have e52_ := (HE51.out.1.get 2 rfl).cell (i := 4) rfl
          have f52_ := (HE51.out.1.get 2 rfl).frozen 4
          go_upto_region 20 with fail
          clear e52_ f52_
          change Code.wp _ _ _ _ (X51.setCell ⟨w.heap.size + 1 + 1, 4, none⟩ (.int .u64 (bump s.cas : Nat)))
          have HE52 : Hid (Bxr w [(w.heap.size + 1 + 1 + 1 + 1, 35, [.int .i64 0, .string ⟨#[]⟩, .int .u32 0, .string ⟨#[]⟩, .int .i64 0, .int .u64 0, .int .i64 0, .bool false, .bool false, .int .u64 0, .bool false, .bool false, .bool false]), (w.heap.size + 1 + 1 + 1, 25, [.slice none 0 0, .int .u64 0, .int .i64 0]), (w.heap.size + 1 + 1, 33, [.string xk, .int .u32 xf, .string xv, .int .i64 xe2, .int .u64 (bump s.cas : Nat), .int .i64 xl, .bool xs, .bool xw]), (w.heap.size + 1, 28, [.int .i64 op, .int .i64 mode, .string k, .string cv, .int .u32 fg, .int .i64 exp, .bool true, .int .u64 cs, .bool hc, .int .u64 de, .int .u64 ini, .bool dn, .bool vv, .int .i64 vive, .int .i64 rc, .bool iv]), (w.heap.size, 25, [.slice a s.its.length ca, .int .u64 (bump s.cas : Nat), .int .i64 s.fl])] [] (X51.setCell ⟨w.heap.size + 1 + 1, 4, none⟩ (.int .u64 (bump s.cas : Nat)))) := hid (HE51.out.cell1 2 rfl 4 (.int .u64 (bump s.cas : Nat)))
          clear HE51
          generalize (X51.setCell ⟨w.heap.size + 1 + 1, 4, none⟩ (.int .u64 (bump s.cas : Nat))) = X52 at *
          have e53_ := (HE52.out.1.get 2 rfl).cell (i := 2) rfl
          have f53_ := (HE52.out.1.get 2 rfl).frozen 2
          go_upto_region 21 with fail
          clear e53_ f53_
          change Code.wp _ _ _ _ (X52.setCell ⟨w.heap.size + 1 + 1, 2, none⟩ (.string vt))
          have HE53 : Hid (Bxr w [(w.heap.size + 1 + 1 + 1 + 1, 35, [.int .i64 0, .string ⟨#[]⟩, .int .u32 0, .string ⟨#[]⟩, .int .i64 0, .int .u64 0, .int .i64 0, .bool false, .bool false, .int .u64 0, .bool false, .bool false, .bool false]), (w.heap.size + 1 + 1 + 1, 25, [.slice none 0 0, .int .u64 0, .int .i64 0]), (w.heap.size + 1 + 1, 33, [.string xk, .int .u32 xf, .string vt, .int .i64 xe2, .int .u64 (bump s.cas : Nat), .int .i64 xl, .bool xs, .bool xw]), (w.heap.size + 1, 28, [.int .i64 op, .int .i64 mode, .string k, .string cv, .int .u32 fg, .int .i64 exp, .bool true, .int .u64 cs, .bool hc, .int .u64 de, .int .u64 ini, .bool dn, .bool vv, .int .i64 vive, .int .i64 rc, .bool iv]), (w.heap.size, 25, [.slice a s.its.length ca, .int .u64 (bump s.cas : Nat), .int .i64 s.fl])] [] (X52.setCell ⟨w.heap.size + 1 + 1, 2, none⟩ (.string vt))) := hid (HE52.out.cell1 2 rfl 2 (.string vt))
          clear HE52
          generalize (X52.setCell ⟨w.heap.size + 1 + 1, 2, none⟩ (.string vt)) = X53 at *
          clear m1 hwb
          have huv : Nu.uv (Nu.parseU (vt).data.toList) = .tuple #[.int .u64 (((Nu.parseU (vt).data.toList).getD 0) : Nat), .bool (Nu.parseU (vt).data.toList).isSome] := by
            cases Nu.parseU (vt).data.toList <;> rfl
          go_wp2_with fail
          refine (Nu.ref_parse _ _).mono ?_
          rintro e w1 ⟨rfl, rfl⟩
          rw [huv]
          clear huv
          obtain ⟨NU, hNU⟩ : ∃ q, q = ((Nu.parseU (vt).data.toList).getD 0) := ⟨_, rfl⟩
          rw [← hNU] at hgo ⊢
          clear hNU
          go_upto_region 22 with fail
          refine wp_region_E (fun W => Blk W (w.heap.size) 25 [.slice a s.its.length ca, .int .u64 (bump s.cas : Nat), .int .i64 s.fl] ∧ Blk W (w.heap.size + 1 + 1) 33 [.string xk, .int .u32 xf, .string vt, .int .i64 xe2, .int .u64 (bump s.cas : Nat), .int .i64 xl, .bool xs, .bool xw]) 7 (by kernel_rfl) ?_
          have HA54 : Hid (Bxr w [(w.heap.size + 1 + 1 + 1 + 1, 35, [.int .i64 0, .string ⟨#[]⟩, .int .u32 0, .string ⟨#[]⟩, .int .i64 0, .int .u64 0, .int .i64 0, .bool false, .bool false, .int .u64 0, .bool false, .bool false, .bool false]), (w.heap.size + 1 + 1 + 1, 25, [.slice none 0 0, .int .u64 0, .int .i64 0]), (w.heap.size + 1 + 1, 33, [.string xk, .int .u32 xf, .string vt, .int .i64 xe2, .int .u64 (bump s.cas : Nat), .int .i64 xl, .bool xs, .bool xw]), (w.heap.size + 1, 28, [.int .i64 op, .int .i64 mode, .string k, .string cv, .int .u32 fg, .int .i64 exp, .bool true, .int .u64 cs, .bool hc, .int .u64 de, .int .u64 ini, .bool dn, .bool vv, .int .i64 vive, .int .i64 rc, .bool iv]), (w.heap.size, 25, [.slice a s.its.length ca, .int .u64 (bump s.cas : Nat), .int .i64 s.fl])] [] X53.drew) := hid (HE53.out.step (below_d X53))
          clear HE53
          generalize X53.drew = A54 at *
          have hS : Blk A54 (w.heap.size) 25 [.slice a s.its.length ca, .int .u64 (bump s.cas : Nat), .int .i64 s.fl] ∧ Blk A54 (w.heap.size + 1 + 1) 33 [.string xk, .int .u32 xf, .string vt, .int .i64 xe2, .int .u64 (bump s.cas : Nat), .int .i64 xl, .bool xs, .bool xw] := ⟨HA54.out.1.get 4 rfl, HA54.out.1.get 2 rfl⟩
          refine wpAnyE_take (i := 0) (v := .agg #[.slice a s.its.length ca, .int .u64 (bump s.cas : Nat), .int .i64 s.fl]) rfl (by kernel_rfl) (by kernel_rfl) (by kernel_rfl) (fun _ _ _ h => h) (by kernel_rfl) (by kernel_rfl) hS (yieldsIf_load_mid rfl 25 _ rfl (w.heap.size) 0 (by kernel_rfl) [.slice a s.its.length ca, .int .u64 (bump s.cas : Nat), .int .i64 s.fl] _ (fun W hW => Blk.range hW.1) Tryd.underlying25 rfl (by kernel_rfl)) ?_
          refine wpAnyE_take (i := 1) (v := .agg #[.string xk, .int .u32 xf, .string vt, .int .i64 xe2, .int .u64 (bump s.cas : Nat), .int .i64 xl, .bool xs, .bool xw]) rfl (by kernel_rfl) (by kernel_rfl) (by kernel_rfl) (fun _ _ _ h => h) (by kernel_rfl) (by kernel_rfl) hS (yieldsIf_load_mid rfl 33 _ rfl (w.heap.size + 1 + 1) 0 (by kernel_rfl) [.string xk, .int .u32 xf, .string vt, .int .i64 xe2, .int .u64 (bump s.cas : Nat), .int .i64 xl, .bool xs, .bool xw] _ (fun W hW => Blk.range hW.2) Tryd.underlying33 rfl (by kernel_rfl)) ?_
          refine wpAnyE_take (i := 3) (v := .int .u64 NU) rfl (by kernel_rfl) (by kernel_rfl) (by kernel_rfl) (fun _ _ _ h => h) (by kernel_rfl) (by kernel_rfl) hS (Or.inl ⟨by rfl, fun w' _ => by kernel_rfl⟩) ?_
          refine wpAnyE_take (i := 4) (v := .agg #[.string xk, .int .u32 xf, .string vt, .int .i64 xe2, .int .u64 (bump s.cas : Nat), .int .i64 xl, .bool xs, .bool xw]) rfl (by kernel_rfl) (by kernel_rfl) (by kernel_rfl) (fun _ _ _ h => h) (by kernel_rfl) (by kernel_rfl) hS (yieldsIf_load_mid rfl 33 _ rfl (w.heap.size + 1 + 1) 0 (by kernel_rfl) [.string xk, .int .u32 xf, .string vt, .int .i64 xe2, .int .u64 (bump s.cas : Nat), .int .i64 xl, .bool xs, .bool xw] _ (fun W hW => Blk.range hW.2) Tryd.underlying33 rfl (by kernel_rfl)) ?_
          refine wpAnyE_take (i := 5) (v := (⟨6, ⟨xk, xf, vt, xe2, bump s.cas, xl, xs, xw⟩, NU, false, false, false⟩ : An).v) rfl (by kernel_rfl) (by kernel_rfl) (by kernel_rfl) (fun _ _ _ h => h) (by kernel_rfl) (by kernel_rfl) hS (Or.inl ⟨by rfl, fun w' _ => by kernel_rfl⟩) ?_
          clear hS
          refine putR (s := ⟨s.its, (bump s.cas), s.fl⟩) (x := ⟨xk, xf, vt, xe2, bump s.cas, xl, xs, xw⟩) (an := ⟨6, ⟨xk, xf, vt, xe2, bump s.cas, xl, xs, xw⟩, NU, false, false, false⟩) (st := 7) _ 2 6 7 1 0 (w.heap.size + 1 + 1 + 1) (w.heap.size + 1 + 1 + 1 + 1) HA54.out (HI.out.below HA54.out.1.1) HS.out hlen rfl rfl rfl rfl (by decide) rfl rfl rfl rfl rfl rfl rfl rfl (by kernel_rfl) (by kernel_rfl) (by kernel_rfl) (by kernel_rfl) (by decide) ⟨112, by kernel_rfl, by decide⟩ (by kernel_rfl) (by kernel_rfl) (by kernel_rfl) (by kernel_rfl) (by kernel_rfl) (fun bs2 W h1 h2 => ⟨h1.blk (List.mem_of_getElem? ((h2 4 (by decide)).trans rfl)), h1.blk (List.mem_of_getElem? ((h2 2 (by decide)).trans rfl))⟩) rfl (by decide) (fun az nz cz WZ hz hIz => ?_)
          have HZ := hid hz
          have HIZ := hid hIz
          clear hz hIz
          go_simp
          go_wp2_with fail
          rw [hgo.out]
          exact bodyPost_ret (res_sa (a := ⟨6, ⟨xk, xf, vt, xe2, bump s.cas, xl, xs, xw⟩, NU, false, false, false⟩) rfl ⟨az, cz, rfl⟩ (HZ.out.1.get 1 rfl) (HZ.out.1.get 0 rfl) rfl rfl) rfl ⟨_, rfl, ⟨_, rfl, HIZ.out⟩, HZ.out.1.1⟩
  · have hA : hc = true ∧ xc ≠ cs := by
      have h1 := hB.symm
      rw [Bool.and_eq_true, decide_eq_true_iff] at h1; exact h1
    have hgo : Hid (matO now ⟨op, mode, k, cv, fg, exp, hx, cs, hc, de, ini, dn, vv, vive, rc, iv⟩ most s.cas (some ⟨xk, xf, xv, xe, xc, xl, xs, xw⟩) = Out.no s.cas 4) := hid (if_pos hA)
    clear hB hA hwb
    go_upto_region 15 with fail
    refine wp_region_list ?_
    refine loadS (cs := [.slice a s.its.length ca, .int .u64 s.cas, .int .i64 s.fl]) rfl rfl rfl (HB1.out.1.get 4 rfl) rfl ?_
    refine wpList_val (v := (An.of 4).v) (w' := wc) rfl (by kernel_rfl) ?_
    refine wpList_stor (b := w.heap.size + 1 + 1 + 1) (cs := [.slice a s.its.length ca, .int .u64 s.cas, .int .i64 s.fl]) rfl rfl rfl rfl rfl (HB1.out.1.get 1 rfl) rfl (by kernel_rfl) rfl ?_
    have HY1 := hid (HB1.out.setc 1 (vs := [.slice a s.its.length ca, .int .u64 s.cas, .int .i64 s.fl]) rfl rfl)
    refine wpList_stor (b := w.heap.size + 1 + 1 + 1 + 1) (cs := (An.of 4).cells) rfl rfl rfl rfl rfl (HY1.out.1.get 0 rfl) rfl (by kernel_rfl) rfl ?_
    have HY2 := hid (HY1.out.setc 0 (vs := (An.of 4).cells) rfl rfl)
    refine wpList_nil ?_
    go_simp
    go_wp2_with fail
    rw [hgo.out]
    exact bodyPost_ret (res_sa (a := An.of 4) rfl ⟨_, _, rfl⟩ (HY2.out.1.get 1 rfl) (HY2.out.1.get 0 rfl) rfl rfl) rfl ⟨_, rfl, ⟨_, rfl, HI.out.below HY2.out.1.1⟩, HY2.out.1.1⟩
end Go.Proofs.YtpgljahomeebhaaDoor.Md
