/-
  The contract of the document's own store where it goes on. Conditions: the state's items can be read, and stand in order; the moment may be; values are not over long.
-/
import Derived.Test.YtpgljahomeebhaaDoorRfKit
namespace Go.Proofs.YtpgljahomeebhaaDoor.Md
open Go Go.RowKit Go.Lib

set_option maxRecDepth 100000 in
set_option maxHeartbeats 8000000 in
theorem store_go {s : Ms} {w : World} {a : Option Addr} {ca : Nat} (HI : Hid (Its w (.slice a s.its.length ca) s.its)) (HS : Hid (Sorted s.its)) (hlen : s.its.length ≤ 4194304) {op mode exp vive rc now most xe xl : Int} {k cv xk xv : ByteArray} {fg cs de ini xf xc : Nat} {hx dn vv xs xw hc iv is st : Bool}
    (hn1 : 1 ≤ now) (hn2 : now ≤ 1099511627776) (hkz : k.size ≤ 1099511627776) (hxk : xk.size ≤ 1099511627776) (hcz : cv.size ≤ 1099511627776) (hxz : xv.size ≤ 1099511627776)
    (hA : (is = true ∧ mode ≠ 1) ∨ (is = false ∧ mode < 2))
    (hst : (hc = false ∧ st = false) ∨ (hc = true ∧ is = true ∧ xc = cs ∧ st = false) ∨ (hc = true ∧ is = true ∧ xc ≠ cs ∧ iv = true ∧ cs < xc ∧ st = true))
    (y : It) (hy : y = if is = true ∧ 3 ≤ mode then ⟨xk, xf, if mode = 3 then xv ++ cv else cv ++ xv, xe, xc, xl, st, false⟩ else ⟨k, fg, cv, moment now exp, 0, 0, st, false⟩) (hm4 : mode ≤ 4) :
    Calls Tryd.prog 25 #[.agg #[.slice a s.its.length ca, .int .u64 s.cas, .int .i64 s.fl], .int .i64 now, .agg #[.int .i64 op, .int .i64 mode, .string k, .string cv, .int .u32 fg, .int .i64 exp, .bool hx, .int .u64 cs, .bool hc, .int .u64 de, .int .u64 ini, .bool dn, .bool vv, .int .i64 vive, .int .i64 rc, .bool iv], .agg #[.string xk, .int .u32 xf, .string xv, .int .i64 xe, .int .u64 xc, .int .i64 xl, .bool xs, .bool xw], .bool is, .int .i64 most] w fun e w' => ∃ V', e = .returned (.tuple #[V', (stoE most s.cas y).a.v]) ∧ Sv w' V' ⟨(stoE most s.cas y).e.on s.its k, (stoE most s.cas y).cas, s.fl⟩ ∧ Below w.heap.size w w' := by
  have hys : y.stale = st ∧ y.won = false := by rw [hy]; split <;> exact ⟨rfl, rfl⟩
  have hyz : y.key.size ≤ 1099511627776 ∧ y.val.size ≤ 2199023255552 := by
    rw [hy]
    split
    · refine ⟨hxk, ?_⟩
      show (if mode = 3 then xv ++ cv else cv ++ xv).size ≤ _
      split <;> simp only [ByteArray.size_append] <;> omega
    · exact ⟨hkz, by show cv.size ≤ _; omega⟩
  obtain ⟨yk, yf, yv, ye, yc, yl, ys, yw⟩ := y
  obtain ⟨rfl, rfl⟩ : ys = st ∧ yw = false := hys
  have HYZ := hid hyz
  have HA := hid hA
  have HT := hid hst
  have HY := hid hy
  have HM := hid hm4
  have HZ := hid (And.intro hkz (And.intro hxk (And.intro hcz hxz)))
  clear hyz hA hst hy hm4 hkz hxk hcz hxz
  have hB0 := begin5 w #[.slice a s.its.length ca, .int .u64 s.cas, .int .i64 s.fl] #[.int .i64 op, .int .i64 mode, .string k, .string cv, .int .u32 fg, .int .i64 exp, .bool hx, .int .u64 cs, .bool hc, .int .u64 de, .int .u64 ini, .bool dn, .bool vv, .int .i64 vive, .int .i64 rc, .bool iv] #[.string xk, .int .u32 xf, .string xv, .int .i64 xe, .int .u64 xc, .int .i64 xl, .bool xs, .bool xw]
  have HB : Hid (Bxr w [(w.heap.size + 1 + 1 + 1 + 1, 35, [.int .i64 0, .string ⟨#[]⟩, .int .u32 0, .string ⟨#[]⟩, .int .i64 0, .int .u64 0, .int .i64 0, .bool false, .bool false, .int .u64 0, .bool false, .bool false, .bool false]), (w.heap.size + 1 + 1 + 1, 25, [.slice none 0 0, .int .u64 0, .int .i64 0]), (w.heap.size + 1 + 1, 33, [.string xk, .int .u32 xf, .string xv, .int .i64 xe, .int .u64 xc, .int .i64 xl, .bool xs, .bool xw]), (w.heap.size + 1, 28, [.int .i64 op, .int .i64 mode, .string k, .string cv, .int .u32 fg, .int .i64 exp, .bool hx, .int .u64 cs, .bool hc, .int .u64 de, .int .u64 ini, .bool dn, .bool vv, .int .i64 vive, .int .i64 rc, .bool iv]), (w.heap.size, 25, [.slice a s.its.length ca, .int .u64 s.cas, .int .i64 s.fl])] [] (((((w.alloc (.cells #[.slice a s.its.length ca, .int .u64 s.cas, .int .i64 s.fl] 25)).alloc (.cells #[.int .i64 op, .int .i64 mode, .string k, .string cv, .int .u32 fg, .int .i64 exp, .bool hx, .int .u64 cs, .bool hc, .int .u64 de, .int .u64 ini, .bool dn, .bool vv, .int .i64 vive, .int .i64 rc, .bool iv] 28)).alloc (.cells #[.string xk, .int .u32 xf, .string xv, .int .i64 xe, .int .u64 xc, .int .i64 xl, .bool xs, .bool xw] 33)).alloc (.cells #[.slice none 0 0, .int .u64 0, .int .i64 0] 25)).alloc (.cells #[.int .i64 0, .string ⟨#[]⟩, .int .u32 0, .string ⟨#[]⟩, .int .i64 0, .int .u64 0, .int .i64 0, .bool false, .bool false, .int .u64 0, .bool false, .bool false, .bool false] 35))) := hid hB0
  clear hB0
  have hwb := wrap_bump s.cas
  go_enter Tryd.func25, Tryd.ntmps25
  go_upto_region 1 with fail
  generalize hW0 : (((((w.alloc (.cells #[.slice a s.its.length ca, .int .u64 s.cas, .int .i64 s.fl] 25)).alloc (.cells #[.int .i64 op, .int .i64 mode, .string k, .string cv, .int .u32 fg, .int .i64 exp, .bool hx, .int .u64 cs, .bool hc, .int .u64 de, .int .u64 ini, .bool dn, .bool vv, .int .i64 vive, .int .i64 rc, .bool iv] 28)).alloc (.cells #[.string xk, .int .u32 xf, .string xv, .int .i64 xe, .int .u64 xc, .int .i64 xl, .bool xs, .bool xw] 33)).alloc (.cells #[.slice none 0 0, .int .u64 0, .int .i64 0] 25)).alloc (.cells #[.int .i64 0, .string ⟨#[]⟩, .int .u32 0, .string ⟨#[]⟩, .int .i64 0, .int .u64 0, .int .i64 0, .bool false, .bool false, .int .u64 0, .bool false, .bool false, .bool false] 35)) = W0 at *
  have k1 := HB.out.1.get 3 rfl |>.cell (i := 1) rfl
  go_cut [30] from 16 to 29 (fun b wx => wx = W0 ∧ b = .bool false)
  case first =>
    rcases HA.out with ⟨rfl, hm⟩ | ⟨rfl, hm⟩
    · have m1' : (mode == 1) = false := beq_eq_false_iff_ne.2 hm
      clear HB hW0 HA HT HY HM HZ hwb
      by_cases h2 : 2 ≤ mode
      · go_wp2_with fail
        go_meet
        exact ⟨rfl, rfl⟩
      · go_wp2_with fail
        go_meet
        exact ⟨rfl, rfl⟩
    · clear HB hW0 HA HT HY HM HZ hwb
      have h2 : ¬ 2 ≤ mode := by omega
      by_cases h1 : mode = 1
      · have m1' : (mode == 1) = true := beq_iff_eq.2 h1
        clear hm h1
        go_wp2_with fail
        go_meet
        exact ⟨rfl, rfl⟩
      · have m1' : (mode == 1) = false := beq_eq_false_iff_ne.2 h1
        go_wp2_with fail
        go_meet
        exact ⟨rfl, rfl⟩
  case rest =>
  obtain ⟨rfl, rfl⟩ := hcut
  clear k1 hW0
  have k8 := HB.out.1.get 3 rfl |>.cell (i := 8) rfl
  go_upto_if 34 with fail
  go_cut [14] from 35 to 62 (fun b wx => wx = wc ∧ b = .bool ys)
  case first =>
    have k7 := HB.out.1.get 3 rfl |>.cell (i := 7) rfl
    have k15 := HB.out.1.get 3 rfl |>.cell (i := 15) rfl
    have k4 := HB.out.1.get 2 rfl |>.cell (i := 4) rfl
    rcases HT.out with ⟨rfl, rfl⟩ | ⟨rfl, rfl, hq, rfl⟩ | ⟨rfl, rfl, hq, rfl, hq2, rfl⟩
    · clear HB HA HT HY HM HZ hwb
      go_wp2_with fail
      go_meet
      exact ⟨rfl, rfl⟩
    · subst hq
      clear HB HA HT HY HM HZ hwb
      go_wp2_with fail
      go_meet
      exact ⟨rfl, rfl⟩
    · have q1 : ((xc : Int) == (cs : Int)) = false := beq_eq_false_iff_ne.2 (by omega)
      have q2 : ((xc : Int) != (cs : Int)) = true := bne_iff_ne.2 (by omega)
      have q3 : (cs : Int) < (xc : Int) := by omega
      clear HB HA HT HY HM HZ hwb hq hq2
      go_wp2_with fail
      go_meet
      exact ⟨rfl, rfl⟩
  case rest =>
  obtain ⟨rfl, rfl⟩ := hcut
  rename World => W1
  clear k8
  obtain ⟨m, hm⟩ : ∃ m, m = moment now exp := ⟨_, rfl⟩
  have hmo := fun W => ref_moment now exp hn1 hn2 W
  rw [← hm] at hmo HY
  clear hm
  go_upto_region 10 with fail
  go_cut [15] from 63 to 74 (fun p wx => ∃ D, p = .pointer (some ⟨D, 0, none⟩) ∧ Hid (Bxr w [(D, 33, [.string k, .int .u32 fg, .string cv, .int .i64 m, .int .u64 0, .int .i64 0, .bool ys, .bool false]), (w.heap.size + 1 + 1 + 1 + 1, 35, [.int .i64 0, .string ⟨#[]⟩, .int .u32 0, .string ⟨#[]⟩, .int .i64 0, .int .u64 0, .int .i64 0, .bool false, .bool false, .int .u64 0, .bool false, .bool false, .bool false]), (w.heap.size + 1 + 1 + 1, 25, [.slice none 0 0, .int .u64 0, .int .i64 0]), (w.heap.size + 1 + 1, 33, [.string xk, .int .u32 xf, .string xv, .int .i64 xe, .int .u64 xc, .int .i64 xl, .bool xs, .bool xw]), (w.heap.size + 1, 28, [.int .i64 op, .int .i64 mode, .string k, .string cv, .int .u32 fg, .int .i64 exp, .bool hx, .int .u64 cs, .bool hc, .int .u64 de, .int .u64 ini, .bool dn, .bool vv, .int .i64 vive, .int .i64 rc, .bool iv]), (w.heap.size, 25, [.slice a s.its.length ca, .int .u64 s.cas, .int .i64 s.fl])] [] wx))
  case first =>
    refine wp_region_E (fun W => Blk W (w.heap.size + 1) 28 [.int .i64 op, .int .i64 mode, .string k, .string cv, .int .u32 fg, .int .i64 exp, .bool hx, .int .u64 cs, .bool hc, .int .u64 de, .int .u64 ini, .bool dn, .bool vv, .int .i64 vive, .int .i64 rc, .bool iv]) 13 (by kernel_rfl) ?_
    have HW1 : Hid (Bxr w [(w.heap.size + 1 + 1 + 1 + 1, 35, [.int .i64 0, .string ⟨#[]⟩, .int .u32 0, .string ⟨#[]⟩, .int .i64 0, .int .u64 0, .int .i64 0, .bool false, .bool false, .int .u64 0, .bool false, .bool false, .bool false]), (w.heap.size + 1 + 1 + 1, 25, [.slice none 0 0, .int .u64 0, .int .i64 0]), (w.heap.size + 1 + 1, 33, [.string xk, .int .u32 xf, .string xv, .int .i64 xe, .int .u64 xc, .int .i64 xl, .bool xs, .bool xw]), (w.heap.size + 1, 28, [.int .i64 op, .int .i64 mode, .string k, .string cv, .int .u32 fg, .int .i64 exp, .bool hx, .int .u64 cs, .bool hc, .int .u64 de, .int .u64 ini, .bool dn, .bool vv, .int .i64 vive, .int .i64 rc, .bool iv]), (w.heap.size, 25, [.slice a s.its.length ca, .int .u64 s.cas, .int .i64 s.fl])] [] W1.drew) := hid (HB.out.step (below_d W1))
    generalize W1.drew = Wd at *
    have hS : Blk Wd (w.heap.size + 1) 28 [.int .i64 op, .int .i64 mode, .string k, .string cv, .int .u32 fg, .int .i64 exp, .bool hx, .int .u64 cs, .bool hc, .int .u64 de, .int .u64 ini, .bool dn, .bool vv, .int .i64 vive, .int .i64 rc, .bool iv] := HW1.out.1.get 3 rfl
    refine wpAnyE_take (i := 0) (v := .pointer (some ⟨w.heap.size + 1, 2, none⟩)) rfl (by kernel_rfl) (by kernel_rfl) (by kernel_rfl) (fun _ _ _ h => h) (by kernel_rfl) (by kernel_rfl) hS (Or.inl ⟨by rfl, fun w' _ => by kernel_rfl⟩) ?_
    refine wpAnyE_take (i := 1) (v := .string k) rfl (by kernel_rfl) (by kernel_rfl) (by kernel_rfl) (fun _ _ _ h => h) (by kernel_rfl) (by kernel_rfl) hS (Or.inl ⟨by rfl, fun w' hw' => by have s0 := hw'.cell (i := 2) rfl; go_simp⟩) ?_
    refine wpAnyE_take (i := 2) (v := .pointer (some ⟨w.heap.size + 1, 4, none⟩)) rfl (by kernel_rfl) (by kernel_rfl) (by kernel_rfl) (fun _ _ _ h => h) (by kernel_rfl) (by kernel_rfl) hS (Or.inl ⟨by rfl, fun w' _ => by kernel_rfl⟩) ?_
    refine wpAnyE_take (i := 3) (v := .int .u32 fg) rfl (by kernel_rfl) (by kernel_rfl) (by kernel_rfl) (fun _ _ _ h => h) (by kernel_rfl) (by kernel_rfl) hS (Or.inl ⟨by rfl, fun w' hw' => by have s0 := hw'.cell (i := 4) rfl; go_simp⟩) ?_
    refine wpAnyE_take (i := 4) (v := .pointer (some ⟨w.heap.size + 1, 3, none⟩)) rfl (by kernel_rfl) (by kernel_rfl) (by kernel_rfl) (fun _ _ _ h => h) (by kernel_rfl) (by kernel_rfl) hS (Or.inl ⟨by rfl, fun w' _ => by kernel_rfl⟩) ?_
    refine wpAnyE_take (i := 5) (v := .string cv) rfl (by kernel_rfl) (by kernel_rfl) (by kernel_rfl) (fun _ _ _ h => h) (by kernel_rfl) (by kernel_rfl) hS (Or.inl ⟨by rfl, fun w' hw' => by have s0 := hw'.cell (i := 3) rfl; go_simp⟩) ?_
    refine wpAnyE_take (i := 6) (v := .int .i64 now) rfl (by kernel_rfl) (by kernel_rfl) (by kernel_rfl) (fun _ _ _ h => h) (by kernel_rfl) (by kernel_rfl) hS (Or.inl ⟨by rfl, fun w' _ => by kernel_rfl⟩) ?_
    refine wpAnyE_take (i := 7) (v := .pointer (some ⟨w.heap.size + 1, 5, none⟩)) rfl (by kernel_rfl) (by kernel_rfl) (by kernel_rfl) (fun _ _ _ h => h) (by kernel_rfl) (by kernel_rfl) hS (Or.inl ⟨by rfl, fun w' _ => by kernel_rfl⟩) ?_
    refine wpAnyE_take (i := 8) (v := .int .i64 exp) rfl (by kernel_rfl) (by kernel_rfl) (by kernel_rfl) (fun _ _ _ h => h) (by kernel_rfl) (by kernel_rfl) hS (Or.inl ⟨by rfl, fun w' hw' => by have s0 := hw'.cell (i := 5) rfl; go_simp⟩) ?_
    refine wpAnyE_take (i := 10) (v := .bool ys) rfl (by kernel_rfl) (by kernel_rfl) (by kernel_rfl) (fun _ _ _ h => h) (by kernel_rfl) (by kernel_rfl) hS (Or.inl ⟨by rfl, fun w' _ => by kernel_rfl⟩) ?_
    have hSb : ∀ W, Below Wd.heap.size Wd W → Blk W (w.heap.size + 1) 28 [.int .i64 op, .int .i64 mode, .string k, .string cv, .int .u32 fg, .int .i64 exp, .bool hx, .int .u64 cs, .bool hc, .int .u64 de, .int .u64 ini, .bool dn, .bool vv, .int .i64 vive, .int .i64 rc, .bool iv] := fun W hb => (HW1.out.step hb).1.get 3 rfl
    have HSb := hid hSb
    clear hS hSb
    obtain ⟨D, hD⟩ : ∃ D, Wd.heap.size = D := ⟨_, rfl⟩
    obtain ⟨Wa, hWa⟩ : ∃ Wa, Wd.alloc (.cells #[.string ⟨#[]⟩, .int .u32 0, .string ⟨#[]⟩, .int .i64 0, .int .u64 0, .int .i64 0, .bool false, .bool false] 33) = Wa := ⟨_, rfl⟩
    have HN : Hid (Bxr w [(D, 33, [.string ⟨#[]⟩, .int .u32 0, .string ⟨#[]⟩, .int .i64 0, .int .u64 0, .int .i64 0, .bool false, .bool false]), (w.heap.size + 1 + 1 + 1 + 1, 35, [.int .i64 0, .string ⟨#[]⟩, .int .u32 0, .string ⟨#[]⟩, .int .i64 0, .int .u64 0, .int .i64 0, .bool false, .bool false, .int .u64 0, .bool false, .bool false, .bool false]), (w.heap.size + 1 + 1 + 1, 25, [.slice none 0 0, .int .u64 0, .int .i64 0]), (w.heap.size + 1 + 1, 33, [.string xk, .int .u32 xf, .string xv, .int .i64 xe, .int .u64 xc, .int .i64 xl, .bool xs, .bool xw]), (w.heap.size + 1, 28, [.int .i64 op, .int .i64 mode, .string k, .string cv, .int .u32 fg, .int .i64 exp, .bool hx, .int .u64 cs, .bool hc, .int .u64 de, .int .u64 ini, .bool dn, .bool vv, .int .i64 vive, .int .i64 rc, .bool iv]), (w.heap.size, 25, [.slice a s.its.length ca, .int .u64 s.cas, .int .i64 s.fl])] [] Wa) := hid (by
      have := HW1.out.new #[.string ⟨#[]⟩, .int .u32 0, .string ⟨#[]⟩, .int .i64 0, .int .u64 0, .int .i64 0, .bool false, .bool false] 33
      rw [hD, hWa] at this; exact this)
    have HX : Hid (Bxr w [(D, 33, [.string k, .int .u32 fg, .string cv, .int .i64 m, .int .u64 0, .int .i64 0, .bool ys, .bool false]), (w.heap.size + 1 + 1 + 1 + 1, 35, [.int .i64 0, .string ⟨#[]⟩, .int .u32 0, .string ⟨#[]⟩, .int .i64 0, .int .u64 0, .int .i64 0, .bool false, .bool false, .int .u64 0, .bool false, .bool false, .bool false]), (w.heap.size + 1 + 1 + 1, 25, [.slice none 0 0, .int .u64 0, .int .i64 0]), (w.heap.size + 1 + 1, 33, [.string xk, .int .u32 xf, .string xv, .int .i64 xe, .int .u64 xc, .int .i64 xl, .bool xs, .bool xw]), (w.heap.size + 1, 28, [.int .i64 op, .int .i64 mode, .string k, .string cv, .int .u32 fg, .int .i64 exp, .bool hx, .int .u64 cs, .bool hc, .int .u64 de, .int .u64 ini, .bool dn, .bool vv, .int .i64 vive, .int .i64 rc, .bool iv]), (w.heap.size, 25, [.slice a s.its.length ca, .int .u64 s.cas, .int .i64 s.fl])] [] (Wa.setCells D 0 [.string k, .int .u32 fg, .string cv, .int .i64 m, .int .u64 0, .int .i64 0, .bool ys, .bool false])) := hid (HN.out.setc 0 (vs := [.string k, .int .u32 fg, .string cv, .int .i64 m, .int .u64 0, .int .i64 0, .bool ys, .bool false]) rfl rfl)
    have HSa := hid (HSb.out Wa (by rw [← hWa]; exact abelow Wd _))
    have HSd := hid (HSb.out Wd (Below.refl _ _))
    have hbk := HN.out.1.get 0 rfl
    clear HW1 HB HSb
    refine wpAnyE_two (i := 9) (j := 12) rfl rfl (by kernel_rfl) (fun K hK => ?_) (fun K hK => ?_)
    · go_simp
      refine (hmo _).mono ?_
      rintro e w' ⟨rfl, rfl⟩
      refine hK _ _ (fun _ => HSd.out) ?_
      clear hK K
      refine wpAnyE_two (i := 11) (j := 12) rfl rfl (by kernel_rfl) (fun K hK => ?_) (fun K hK => ?_)
      · go_simp
        refine hK _ _ (fun _ => HSd.out) ?_
        clear hK K
        refine wpAnyE_one (i := 12) rfl (by kernel_rfl) (fun K hK => ?_)
        go_simp
        try rw [hWa]
        refine hK _ _ (fun _ => HSa.out) ?_
        clear hK K
        try rw [hWa]
        try rw [hD]
        refine store_last (i := 13) (S := (fun W => Blk W (w.heap.size + 1) 28 [.int .i64 op, .int .i64 mode, .string k, .string cv, .int .u32 fg, .int .i64 exp, .bool hx, .int .u64 cs, .bool hc, .int .u64 de, .int .u64 ini, .bool dn, .bool vv, .int .i64 vive, .int .i64 rc, .bool iv])) (b := D) (cs := [.string k, .int .u32 fg, .string cv, .int .i64 m, .int .u64 0, .int .i64 0, .bool ys, .bool false]) rfl rfl rfl rfl (by kernel_rfl) (by first | rfl | kernel_rfl) (by first | rfl | kernel_rfl) hbk rfl (by kernel_rfl) rfl (by kernel_rfl) (by kernel_rfl) ?_
        clear hmo hbk hWa hD
        go_wp2_with fail
        go_meet
        exact ⟨_, rfl, HX⟩
      · go_simp
        try rw [hWa]
        refine hK _ _ (fun _ => HSa.out) ?_
        clear hK K
        try rw [hWa]
        try rw [hD]
        refine wpAnyE_one (i := 11) rfl (by kernel_rfl) (fun K hK => ?_)
        go_simp
        refine hK _ _ (fun _ => HSa.out) ?_
        clear hK K
        refine store_last (i := 13) (S := (fun W => Blk W (w.heap.size + 1) 28 [.int .i64 op, .int .i64 mode, .string k, .string cv, .int .u32 fg, .int .i64 exp, .bool hx, .int .u64 cs, .bool hc, .int .u64 de, .int .u64 ini, .bool dn, .bool vv, .int .i64 vive, .int .i64 rc, .bool iv])) (b := D) (cs := [.string k, .int .u32 fg, .string cv, .int .i64 m, .int .u64 0, .int .i64 0, .bool ys, .bool false]) rfl rfl rfl rfl (by kernel_rfl) (by first | rfl | kernel_rfl) (by first | rfl | kernel_rfl) hbk rfl (by kernel_rfl) rfl (by kernel_rfl) (by kernel_rfl) ?_
        clear hmo hbk hWa hD
        go_wp2_with fail
        go_meet
        exact ⟨_, rfl, HX⟩
    · go_simp
      try rw [hWa]
      refine hK _ _ (fun _ => HSa.out) ?_
      clear hK K
      try rw [hWa]
      try rw [hD]
      refine wpAnyE_one (i := 9) rfl (by kernel_rfl) (fun K hK => ?_)
      go_simp
      refine (hmo _).mono ?_
      rintro e w' ⟨rfl, rfl⟩
      refine hK _ _ (fun _ => HSa.out) ?_
      clear hK K
      refine wpAnyE_one (i := 11) rfl (by kernel_rfl) (fun K hK => ?_)
      go_simp
      refine hK _ _ (fun _ => HSa.out) ?_
      clear hK K
      refine store_last (i := 13) (S := (fun W => Blk W (w.heap.size + 1) 28 [.int .i64 op, .int .i64 mode, .string k, .string cv, .int .u32 fg, .int .i64 exp, .bool hx, .int .u64 cs, .bool hc, .int .u64 de, .int .u64 ini, .bool dn, .bool vv, .int .i64 vive, .int .i64 rc, .bool iv])) (b := D) (cs := [.string k, .int .u32 fg, .string cv, .int .i64 m, .int .u64 0, .int .i64 0, .bool ys, .bool false]) rfl rfl rfl rfl (by kernel_rfl) (by first | rfl | kernel_rfl) (by first | rfl | kernel_rfl) hbk rfl (by kernel_rfl) rfl (by kernel_rfl) (by kernel_rfl) ?_
      clear hmo hbk hWa hD
      go_wp2_with fail
      go_meet
      exact ⟨_, rfl, HX⟩
  case rest =>
  obtain ⟨D, rfl, HX⟩ := hcut
  rename World => W2
  clear HB hmo
  go_upto_region 11 with fail
  have k1 := HX.out.1.get 4 rfl |>.cell (i := 1) rfl
  obtain ⟨app, happ⟩ : ∃ app : Bool, app = decide (mode = 3 ∨ mode = 4) := ⟨_, rfl⟩
  go_cut [82] from 75 to 81 (fun b wx => wx = W2 ∧ b = .bool app)
  case first =>
    clear HX HA HT HY HM HZ HYZ hwb
    by_cases h3 : mode = 3
    · have m3 : (mode == 3) = true := beq_iff_eq.2 h3
      have e : app = true := by rw [happ]; simp [h3]
      clear h3 happ
      go_wp2_with fail
      go_meet
      exact ⟨rfl, by rw [e]⟩
    · have m3 : (mode == 3) = false := beq_eq_false_iff_ne.2 h3
      by_cases h4 : mode = 4
      · have m4 : (mode == 4) = true := beq_iff_eq.2 h4
        have e : app = true := by rw [happ]; simp [h4]
        clear h3 h4 happ
        go_wp2_with fail
        go_meet
        exact ⟨rfl, by rw [e]⟩
      · have m4 : (mode == 4) = false := beq_eq_false_iff_ne.2 h4
        have e : app = false := by rw [happ]; simp [h3, h4]
        clear h3 h4 happ
        go_wp2_with fail
        go_meet
        exact ⟨rfl, by rw [e]⟩
  case rest =>
  obtain ⟨rfl, rfl⟩ := hcut
  rename World => W3
  go_upto_if 82 with fail
  go_cut [] from 83 to 101 (fun wx => Hid (Bxr w [(D, 33, [.string yk, .int .u32 yf, .string yv, .int .i64 ye, .int .u64 yc, .int .i64 yl, .bool ys, .bool false]), (w.heap.size + 1 + 1 + 1 + 1, 35, [.int .i64 0, .string ⟨#[]⟩, .int .u32 0, .string ⟨#[]⟩, .int .i64 0, .int .u64 0, .int .i64 0, .bool false, .bool false, .int .u64 0, .bool false, .bool false, .bool false]), (w.heap.size + 1 + 1 + 1, 25, [.slice none 0 0, .int .u64 0, .int .i64 0]), (w.heap.size + 1 + 1, 33, [.string xk, .int .u32 xf, .string xv, .int .i64 xe, .int .u64 xc, .int .i64 xl, .bool xs, .bool xw]), (w.heap.size + 1, 28, [.int .i64 op, .int .i64 mode, .string k, .string cv, .int .u32 fg, .int .i64 exp, .bool hx, .int .u64 cs, .bool hc, .int .u64 de, .int .u64 ini, .bool dn, .bool vv, .int .i64 vive, .int .i64 rc, .bool iv]), (w.heap.size, 25, [.slice a s.its.length ca, .int .u64 s.cas, .int .i64 s.fl])] [] wx))
  case first =>
    cases app
    · have hmd : ¬ (is = true ∧ 3 ≤ mode) := by
        rintro ⟨_, h3⟩
        have h4 := HM.out
        have h5 := happ.symm
        rw [decide_eq_false_iff_not] at h5
        omega
      have e := HY.out
      rw [if_neg hmd] at e
      injection e with e1 e2 e3 e4 e5 e6 _ _
      subst e1 e2 e3 e4 e5 e6
      clear HA HT HY HM HZ HYZ hwb happ k1 hmd
      go_wp2_with fail
      go_meet
      exact HX
    · have hmd : mode = 3 ∨ mode = 4 := by
        have h5 := happ.symm
        rw [decide_eq_true_iff] at h5; exact h5
      clear happ
      have his : is = true := by
        rcases HA.out with ⟨h, _⟩ | ⟨_, h⟩
        · exact h
        · omega
      have e := HY.out
      rw [if_pos ⟨his, by omega⟩] at e
      clear his
      injection e with y1 y2 y3 y4 y5 y6 _ _
      have YS := hid (And.intro y1 (And.intro y2 (And.intro y3 (And.intro y4 (And.intro y5 y6)))))
      clear y1 y2 y3 y4 y5 y6
      have hz := HZ.out
      have q1 : ¬ (((xv.size + cv.size : Nat) : Int) > IntKind.i64.max) := by rw [show IntKind.i64.max = 9223372036854775807 from rfl]; omega
      have q2 : xv.size + cv.size ≤ 9223372036854775807 := by omega
      have q3 : cv.size + xv.size ≤ 9223372036854775807 := by omega
      clear k1
      go_upto_region 12 with fail
      refine wp_region_list ?_
      refine loadI (cs := [.string xk, .int .u32 xf, .string xv, .int .i64 xe, .int .u64 xc, .int .i64 xl, .bool xs, .bool xw]) rfl rfl rfl (HX.out.1.get 3 rfl) rfl ?_
      refine wpList_stor (b := D) (cs := [.string xk, .int .u32 xf, .string xv, .int .i64 xe, .int .u64 xc, .int .i64 xl, .bool xs, .bool xw]) rfl rfl rfl rfl rfl (HX.out.1.get 0 rfl) rfl (by kernel_rfl) rfl ?_
      have HG40 : Hid (Bxr w [(D, 33, [.string xk, .int .u32 xf, .string xv, .int .i64 xe, .int .u64 xc, .int .i64 xl, .bool xs, .bool xw]), (w.heap.size + 1 + 1 + 1 + 1, 35, [.int .i64 0, .string ⟨#[]⟩, .int .u32 0, .string ⟨#[]⟩, .int .i64 0, .int .u64 0, .int .i64 0, .bool false, .bool false, .int .u64 0, .bool false, .bool false, .bool false]), (w.heap.size + 1 + 1 + 1, 25, [.slice none 0 0, .int .u64 0, .int .i64 0]), (w.heap.size + 1 + 1, 33, [.string xk, .int .u32 xf, .string xv, .int .i64 xe, .int .u64 xc, .int .i64 xl, .bool xs, .bool xw]), (w.heap.size + 1, 28, [.int .i64 op, .int .i64 mode, .string k, .string cv, .int .u32 fg, .int .i64 exp, .bool hx, .int .u64 cs, .bool hc, .int .u64 de, .int .u64 ini, .bool dn, .bool vv, .int .i64 vive, .int .i64 rc, .bool iv]), (w.heap.size, 25, [.slice a s.its.length ca, .int .u64 s.cas, .int .i64 s.fl])] [] (W3.setCells D 0 [.string xk, .int .u32 xf, .string xv, .int .i64 xe, .int .u64 xc, .int .i64 xl, .bool xs, .bool xw])) := hid (HX.out.setc 0 (vs := [.string xk, .int .u32 xf, .string xv, .int .i64 xe, .int .u64 xc, .int .i64 xl, .bool xs, .bool xw]) rfl rfl)
      clear HX
      generalize (W3.setCells D 0 [.string xk, .int .u32 xf, .string xv, .int .i64 xe, .int .u64 xc, .int .i64 xl, .bool xs, .bool xw]) = G40 at *
      refine wpList_nil ?_
      go_simp
      have e41_ := (HG40.out.1.get 0 rfl).cell (i := 6) rfl
      have f41_ := (HG40.out.1.get 0 rfl).frozen 6
      go_upto_region 14 with fail
      clear e41_ f41_
      change Code.wp _ _ _ _ (G40.setCell ⟨D, 6, none⟩ (.bool ys))
      have HE41 : Hid (Bxr w [(D, 33, [.string xk, .int .u32 xf, .string xv, .int .i64 xe, .int .u64 xc, .int .i64 xl, .bool ys, .bool xw]), (w.heap.size + 1 + 1 + 1 + 1, 35, [.int .i64 0, .string ⟨#[]⟩, .int .u32 0, .string ⟨#[]⟩, .int .i64 0, .int .u64 0, .int .i64 0, .bool false, .bool false, .int .u64 0, .bool false, .bool false, .bool false]), (w.heap.size + 1 + 1 + 1, 25, [.slice none 0 0, .int .u64 0, .int .i64 0]), (w.heap.size + 1 + 1, 33, [.string xk, .int .u32 xf, .string xv, .int .i64 xe, .int .u64 xc, .int .i64 xl, .bool xs, .bool xw]), (w.heap.size + 1, 28, [.int .i64 op, .int .i64 mode, .string k, .string cv, .int .u32 fg, .int .i64 exp, .bool hx, .int .u64 cs, .bool hc, .int .u64 de, .int .u64 ini, .bool dn, .bool vv, .int .i64 vive, .int .i64 rc, .bool iv]), (w.heap.size, 25, [.slice a s.its.length ca, .int .u64 s.cas, .int .i64 s.fl])] [] (G40.setCell ⟨D, 6, none⟩ (.bool ys))) := hid (HG40.out.cell1 0 rfl 6 (.bool ys))
      clear HG40
      generalize (G40.setCell ⟨D, 6, none⟩ (.bool ys)) = X41 at *
      have e42_ := (HE41.out.1.get 0 rfl).cell (i := 7) rfl
      have f42_ := (HE41.out.1.get 0 rfl).frozen 7
      go_upto_region 15 with fail
      clear e42_ f42_
      change Code.wp _ _ _ _ (X41.setCell ⟨D, 7, none⟩ (.bool false))
      have HE42 : Hid (Bxr w [(D, 33, [.string xk, .int .u32 xf, .string xv, .int .i64 xe, .int .u64 xc, .int .i64 xl, .bool ys, .bool false]), (w.heap.size + 1 + 1 + 1 + 1, 35, [.int .i64 0, .string ⟨#[]⟩, .int .u32 0, .string ⟨#[]⟩, .int .i64 0, .int .u64 0, .int .i64 0, .bool false, .bool false, .int .u64 0, .bool false, .bool false, .bool false]), (w.heap.size + 1 + 1 + 1, 25, [.slice none 0 0, .int .u64 0, .int .i64 0]), (w.heap.size + 1 + 1, 33, [.string xk, .int .u32 xf, .string xv, .int .i64 xe, .int .u64 xc, .int .i64 xl, .bool xs, .bool xw]), (w.heap.size + 1, 28, [.int .i64 op, .int .i64 mode, .string k, .string cv, .int .u32 fg, .int .i64 exp, .bool hx, .int .u64 cs, .bool hc, .int .u64 de, .int .u64 ini, .bool dn, .bool vv, .int .i64 vive, .int .i64 rc, .bool iv]), (w.heap.size, 25, [.slice a s.its.length ca, .int .u64 s.cas, .int .i64 s.fl])] [] (X41.setCell ⟨D, 7, none⟩ (.bool false))) := hid (HE41.out.cell1 0 rfl 7 (.bool false))
      clear HE41
      generalize (X41.setCell ⟨D, 7, none⟩ (.bool false)) = X42 at *
      have k3 := HE42.out.1.get 4 rfl |>.cell (i := 3) rfl
      have x2 := HE42.out.1.get 3 rfl |>.cell (i := 2) rfl
      have k1 := HE42.out.1.get 4 rfl |>.cell (i := 1) rfl
      by_cases h3 : mode = 3
      · have m3 : (mode == 3) = true := beq_iff_eq.2 h3
        obtain ⟨y1, y2, y3, y4, y5, y6⟩ := YS.out
        rw [if_pos h3] at y3
        have ea := (HE42.out.1.get 0 rfl).cell (i := 2) rfl
        have fa := (HE42.out.1.get 0 rfl).frozen 2
        have HF : Hid (Bxr w [(D, 33, [.string xk, .int .u32 xf, .string (xv ++ cv), .int .i64 xe, .int .u64 xc, .int .i64 xl, .bool ys, .bool false]), (w.heap.size + 1 + 1 + 1 + 1, 35, [.int .i64 0, .string ⟨#[]⟩, .int .u32 0, .string ⟨#[]⟩, .int .i64 0, .int .u64 0, .int .i64 0, .bool false, .bool false, .int .u64 0, .bool false, .bool false, .bool false]), (w.heap.size + 1 + 1 + 1, 25, [.slice none 0 0, .int .u64 0, .int .i64 0]), (w.heap.size + 1 + 1, 33, [.string xk, .int .u32 xf, .string xv, .int .i64 xe, .int .u64 xc, .int .i64 xl, .bool xs, .bool xw]), (w.heap.size + 1, 28, [.int .i64 op, .int .i64 mode, .string k, .string cv, .int .u32 fg, .int .i64 exp, .bool hx, .int .u64 cs, .bool hc, .int .u64 de, .int .u64 ini, .bool dn, .bool vv, .int .i64 vive, .int .i64 rc, .bool iv]), (w.heap.size, 25, [.slice a s.its.length ca, .int .u64 s.cas, .int .i64 s.fl])] [] (X42.setCell ⟨D, 2, none⟩ (.string (xv ++ cv)))) := hid (HE42.out.cell1 0 rfl 2 (.string (xv ++ cv)))
        subst y1 y2 y3 y4 y5 y6
        clear YS HE42 HA HT HY HM HZ HYZ hwb hmd h3 hz
        go_wp2_with fail
        go_meet
        exact HF
      · have m3 : (mode == 3) = false := beq_eq_false_iff_ne.2 h3
        obtain ⟨y1, y2, y3, y4, y5, y6⟩ := YS.out
        rw [if_neg h3] at y3
        have ea := (HE42.out.1.get 0 rfl).cell (i := 2) rfl
        have fa := (HE42.out.1.get 0 rfl).frozen 2
        have HF : Hid (Bxr w [(D, 33, [.string xk, .int .u32 xf, .string (cv ++ xv), .int .i64 xe, .int .u64 xc, .int .i64 xl, .bool ys, .bool false]), (w.heap.size + 1 + 1 + 1 + 1, 35, [.int .i64 0, .string ⟨#[]⟩, .int .u32 0, .string ⟨#[]⟩, .int .i64 0, .int .u64 0, .int .i64 0, .bool false, .bool false, .int .u64 0, .bool false, .bool false, .bool false]), (w.heap.size + 1 + 1 + 1, 25, [.slice none 0 0, .int .u64 0, .int .i64 0]), (w.heap.size + 1 + 1, 33, [.string xk, .int .u32 xf, .string xv, .int .i64 xe, .int .u64 xc, .int .i64 xl, .bool xs, .bool xw]), (w.heap.size + 1, 28, [.int .i64 op, .int .i64 mode, .string k, .string cv, .int .u32 fg, .int .i64 exp, .bool hx, .int .u64 cs, .bool hc, .int .u64 de, .int .u64 ini, .bool dn, .bool vv, .int .i64 vive, .int .i64 rc, .bool iv]), (w.heap.size, 25, [.slice a s.its.length ca, .int .u64 s.cas, .int .i64 s.fl])] [] (X42.setCell ⟨D, 2, none⟩ (.string (cv ++ xv)))) := hid (HE42.out.cell1 0 rfl 2 (.string (cv ++ xv)))
        subst y1 y2 y3 y4 y5 y6
        clear YS HE42 HA HT HY HM HZ HYZ hwb hmd h3 hz
        go_wp2_with fail
        go_meet
        exact HF
  case rest =>
  clear HX happ HA HT HM HZ HY k1
  rename World => W4
  have HX := hcut
  clear hcut
  have e0 := HX.out.1.get 0 rfl |>.cell (i := 0) rfl
  have e2 := HX.out.1.get 0 rfl |>.cell (i := 2) rfl
  have hyz := HYZ.out
  obtain ⟨T, hT⟩ : ∃ T, T = yk.size + yv.size := ⟨_, rfl⟩
  have hyz1 : yk.size ≤ 1099511627776 := hyz.1
  have hyz2 : yv.size ≤ 2199023255552 := hyz.2
  have t1 : (yk.size : Int) + (yv.size : Int) = (T : Int) := by omega
  have t2 : IntKind.i64.wrap (T : Int) = (T : Int) := by rw [IntKind.wrap_i64]; omega
  by_cases hbig : most < (T : Int)
  · have hgo : Hid (stoE most s.cas ⟨yk, yf, yv, ye, yc, yl, ys, false⟩ = Out.no s.cas 11) := hid (if_pos (by show most < ((yk.size + yv.size : Nat) : Int); rw [← hT]; exact hbig))
    clear hT hyz HYZ hwb
    go_upto_region 19 with fail
    refine wp_region_list ?_
    refine loadS (cs := [.slice a s.its.length ca, .int .u64 s.cas, .int .i64 s.fl]) rfl rfl rfl (HX.out.1.get 5 rfl) rfl ?_
    refine wpList_val (v := (An.of 11).v) (w' := W4) rfl (by kernel_rfl) ?_
    refine wpList_stor (b := w.heap.size + 1 + 1 + 1) (cs := [.slice a s.its.length ca, .int .u64 s.cas, .int .i64 s.fl]) rfl rfl rfl rfl rfl (HX.out.1.get 2 rfl) rfl (by kernel_rfl) rfl ?_
    have HY1 := hid (HX.out.setc 2 (vs := [.slice a s.its.length ca, .int .u64 s.cas, .int .i64 s.fl]) rfl rfl)
    refine wpList_stor (b := w.heap.size + 1 + 1 + 1 + 1) (cs := (An.of 11).cells) rfl rfl rfl rfl rfl (HY1.out.1.get 1 rfl) rfl (by kernel_rfl) rfl ?_
    have HY2 := hid (HY1.out.setc 1 (vs := (An.of 11).cells) rfl rfl)
    refine wpList_nil ?_
    go_simp
    go_wp2_with fail
    rw [hgo.out]
    exact bodyPost_ret (res_sa (a := An.of 11) rfl ⟨_, _, rfl⟩ (HY2.out.1.get 2 rfl) (HY2.out.1.get 1 rfl) rfl rfl) rfl ⟨_, rfl, ⟨_, rfl, HI.out.below HY2.out.1.1⟩, HY2.out.1.1⟩
  · have hgo : Hid (stoE most s.cas ⟨yk, yf, yv, ye, yc, yl, ys, false⟩ = ⟨.put ⟨yk, yf, yv, ye, bump s.cas, yl, ys, false⟩, bump s.cas, An.is 2 ⟨yk, yf, yv, ye, bump s.cas, yl, ys, false⟩⟩) := hid (if_neg (by show ¬ most < ((yk.size + yv.size : Nat) : Int); rw [← hT]; exact hbig))
    clear hT hyz HYZ
    have m1 := HX.out.1.get 5 rfl |>.cell (i := 1) rfl
    go_upto_region 20 with fail
    clear e0 e2 t1 t2 hbig hyz1 hyz2
    have e51_ := (HX.out.1.get 5 rfl).cell (i := 1) rfl
    have f51_ := (HX.out.1.get 5 rfl).frozen 1
    go_upto_region 21 with fail
    clear e51_ f51_
    change Code.wp _ _ _ _ (W4.setCell ⟨w.heap.size, 1, none⟩ (.int .u64 (bump s.cas : Nat)))
    have HE51 : Hid (Bxr w [(D, 33, [.string yk, .int .u32 yf, .string yv, .int .i64 ye, .int .u64 yc, .int .i64 yl, .bool ys, .bool false]), (w.heap.size + 1 + 1 + 1 + 1, 35, [.int .i64 0, .string ⟨#[]⟩, .int .u32 0, .string ⟨#[]⟩, .int .i64 0, .int .u64 0, .int .i64 0, .bool false, .bool false, .int .u64 0, .bool false, .bool false, .bool false]), (w.heap.size + 1 + 1 + 1, 25, [.slice none 0 0, .int .u64 0, .int .i64 0]), (w.heap.size + 1 + 1, 33, [.string xk, .int .u32 xf, .string xv, .int .i64 xe, .int .u64 xc, .int .i64 xl, .bool xs, .bool xw]), (w.heap.size + 1, 28, [.int .i64 op, .int .i64 mode, .string k, .string cv, .int .u32 fg, .int .i64 exp, .bool hx, .int .u64 cs, .bool hc, .int .u64 de, .int .u64 ini, .bool dn, .bool vv, .int .i64 vive, .int .i64 rc, .bool iv]), (w.heap.size, 25, [.slice a s.its.length ca, .int .u64 (bump s.cas : Nat), .int .i64 s.fl])] [] (W4.setCell ⟨w.heap.size, 1, none⟩ (.int .u64 (bump s.cas : Nat)))) := hid (HX.out.cell1 5 rfl 1 (.int .u64 (bump s.cas : Nat)))
    clear HX
    generalize (W4.setCell ⟨w.heap.size, 1, none⟩ (.int .u64 (bump s.cas : Nat))) = X51 at *
    have m1 := HE51.out.1.get 5 rfl |>.cell (i := 1) rfl
    have e52_ := (HE51.out.1.get 0 rfl).cell (i := 4) rfl
    have f52_ := (HE51.out.1.get 0 rfl).frozen 4
    go_upto_region 22 with fail
    clear e52_ f52_
    change Code.wp _ _ _ _ (X51.setCell ⟨D, 4, none⟩ (.int .u64 (bump s.cas : Nat)))
    have HE52 : Hid (Bxr w [(D, 33, [.string yk, .int .u32 yf, .string yv, .int .i64 ye, .int .u64 (bump s.cas : Nat), .int .i64 yl, .bool ys, .bool false]), (w.heap.size + 1 + 1 + 1 + 1, 35, [.int .i64 0, .string ⟨#[]⟩, .int .u32 0, .string ⟨#[]⟩, .int .i64 0, .int .u64 0, .int .i64 0, .bool false, .bool false, .int .u64 0, .bool false, .bool false, .bool false]), (w.heap.size + 1 + 1 + 1, 25, [.slice none 0 0, .int .u64 0, .int .i64 0]), (w.heap.size + 1 + 1, 33, [.string xk, .int .u32 xf, .string xv, .int .i64 xe, .int .u64 xc, .int .i64 xl, .bool xs, .bool xw]), (w.heap.size + 1, 28, [.int .i64 op, .int .i64 mode, .string k, .string cv, .int .u32 fg, .int .i64 exp, .bool hx, .int .u64 cs, .bool hc, .int .u64 de, .int .u64 ini, .bool dn, .bool vv, .int .i64 vive, .int .i64 rc, .bool iv]), (w.heap.size, 25, [.slice a s.its.length ca, .int .u64 (bump s.cas : Nat), .int .i64 s.fl])] [] (X51.setCell ⟨D, 4, none⟩ (.int .u64 (bump s.cas : Nat)))) := hid (HE51.out.cell1 0 rfl 4 (.int .u64 (bump s.cas : Nat)))
    clear HE51
    generalize (X51.setCell ⟨D, 4, none⟩ (.int .u64 (bump s.cas : Nat))) = X52 at *
    clear m1 hwb
    go_upto_region 22 with fail
    refine wp_region_E (fun W => Blk W (w.heap.size) 25 [.slice a s.its.length ca, .int .u64 (bump s.cas : Nat), .int .i64 s.fl] ∧ Blk W (D) 33 [.string yk, .int .u32 yf, .string yv, .int .i64 ye, .int .u64 (bump s.cas : Nat), .int .i64 yl, .bool ys, .bool false]) 6 (by kernel_rfl) ?_
    have HA53 : Hid (Bxr w [(D, 33, [.string yk, .int .u32 yf, .string yv, .int .i64 ye, .int .u64 (bump s.cas : Nat), .int .i64 yl, .bool ys, .bool false]), (w.heap.size + 1 + 1 + 1 + 1, 35, [.int .i64 0, .string ⟨#[]⟩, .int .u32 0, .string ⟨#[]⟩, .int .i64 0, .int .u64 0, .int .i64 0, .bool false, .bool false, .int .u64 0, .bool false, .bool false, .bool false]), (w.heap.size + 1 + 1 + 1, 25, [.slice none 0 0, .int .u64 0, .int .i64 0]), (w.heap.size + 1 + 1, 33, [.string xk, .int .u32 xf, .string xv, .int .i64 xe, .int .u64 xc, .int .i64 xl, .bool xs, .bool xw]), (w.heap.size + 1, 28, [.int .i64 op, .int .i64 mode, .string k, .string cv, .int .u32 fg, .int .i64 exp, .bool hx, .int .u64 cs, .bool hc, .int .u64 de, .int .u64 ini, .bool dn, .bool vv, .int .i64 vive, .int .i64 rc, .bool iv]), (w.heap.size, 25, [.slice a s.its.length ca, .int .u64 (bump s.cas : Nat), .int .i64 s.fl])] [] X52.drew) := hid (HE52.out.step (below_d X52))
    clear HE52
    generalize X52.drew = A53 at *
    have hS : Blk A53 (w.heap.size) 25 [.slice a s.its.length ca, .int .u64 (bump s.cas : Nat), .int .i64 s.fl] ∧ Blk A53 (D) 33 [.string yk, .int .u32 yf, .string yv, .int .i64 ye, .int .u64 (bump s.cas : Nat), .int .i64 yl, .bool ys, .bool false] := ⟨HA53.out.1.get 5 rfl, HA53.out.1.get 0 rfl⟩
    refine wpAnyE_take (i := 0) (v := .agg #[.slice a s.its.length ca, .int .u64 (bump s.cas : Nat), .int .i64 s.fl]) rfl (by kernel_rfl) (by kernel_rfl) (by kernel_rfl) (fun _ _ _ h => h) (by kernel_rfl) (by kernel_rfl) hS (yieldsIf_load_mid rfl 25 _ rfl (w.heap.size) 0 (by kernel_rfl) [.slice a s.its.length ca, .int .u64 (bump s.cas : Nat), .int .i64 s.fl] _ (fun W hW => Blk.range hW.1) Tryd.underlying25 rfl (by kernel_rfl)) ?_
    refine wpAnyE_take (i := 1) (v := .agg #[.string yk, .int .u32 yf, .string yv, .int .i64 ye, .int .u64 (bump s.cas : Nat), .int .i64 yl, .bool ys, .bool false]) rfl (by kernel_rfl) (by kernel_rfl) (by kernel_rfl) (fun _ _ _ h => h) (by kernel_rfl) (by kernel_rfl) hS (yieldsIf_load_mid rfl 33 _ rfl (D) 0 (by kernel_rfl) [.string yk, .int .u32 yf, .string yv, .int .i64 ye, .int .u64 (bump s.cas : Nat), .int .i64 yl, .bool ys, .bool false] _ (fun W hW => Blk.range hW.2) Tryd.underlying33 rfl (by kernel_rfl)) ?_
    refine wpAnyE_take (i := 3) (v := .agg #[.string yk, .int .u32 yf, .string yv, .int .i64 ye, .int .u64 (bump s.cas : Nat), .int .i64 yl, .bool ys, .bool false]) rfl (by kernel_rfl) (by kernel_rfl) (by kernel_rfl) (fun _ _ _ h => h) (by kernel_rfl) (by kernel_rfl) hS (yieldsIf_load_mid rfl 33 _ rfl (D) 0 (by kernel_rfl) [.string yk, .int .u32 yf, .string yv, .int .i64 ye, .int .u64 (bump s.cas : Nat), .int .i64 yl, .bool ys, .bool false] _ (fun W hW => Blk.range hW.2) Tryd.underlying33 rfl (by kernel_rfl)) ?_
    refine wpAnyE_take (i := 4) (v := (An.is 2 ⟨yk, yf, yv, ye, bump s.cas, yl, ys, false⟩).v) rfl (by kernel_rfl) (by kernel_rfl) (by kernel_rfl) (fun _ _ _ h => h) (by kernel_rfl) (by kernel_rfl) hS (Or.inl ⟨by rfl, fun w' _ => by kernel_rfl⟩) ?_
    clear hS
    refine putR (s := ⟨s.its, (bump s.cas), s.fl⟩) (x := ⟨yk, yf, yv, ye, bump s.cas, yl, ys, false⟩) (an := An.is 2 ⟨yk, yf, yv, ye, bump s.cas, yl, ys, false⟩) (st := 6) _ 2 5 6 2 1 (w.heap.size + 1 + 1 + 1) (w.heap.size + 1 + 1 + 1 + 1) HA53.out (HI.out.below HA53.out.1.1) HS.out hlen rfl rfl rfl rfl (by decide) rfl rfl rfl rfl rfl rfl rfl rfl (by kernel_rfl) (by kernel_rfl) (by kernel_rfl) (by kernel_rfl) (by decide) ⟨125, by kernel_rfl, by decide⟩ (by kernel_rfl) (by kernel_rfl) (by kernel_rfl) (by kernel_rfl) (by kernel_rfl) (fun bs2 W h1 h2 => ⟨h1.blk (List.mem_of_getElem? ((h2 5 (by decide)).trans rfl)), h1.blk (List.mem_of_getElem? ((h2 0 (by decide)).trans rfl))⟩) rfl (by decide) (fun az nz cz WZ hz hIz => ?_)
    have HZ := hid hz
    have HIZ := hid hIz
    clear hz hIz
    go_simp
    go_wp2_with fail
    rw [hgo.out]
    exact bodyPost_ret (res_sa (a := An.is 2 ⟨yk, yf, yv, ye, bump s.cas, yl, ys, false⟩) rfl ⟨az, cz, rfl⟩ (HZ.out.1.get 2 rfl) (HZ.out.1.get 1 rfl) rfl rfl) rfl ⟨_, rfl, ⟨_, rfl, HIZ.out⟩, HZ.out.1.1⟩
end Go.Proofs.YtpgljahomeebhaaDoor.Md
