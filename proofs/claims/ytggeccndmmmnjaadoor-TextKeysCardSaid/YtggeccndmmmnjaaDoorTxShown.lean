/-
  What every law of stage 20 asks first: its shown is true. Conditions: the package variables hold what they were laid with.
-/
import Derived.Test.YtggeccndmmmnjaaDoorTxParse
import Derived.Test.YtggeccndmmmnjaaDoorTxReport
namespace Go.Proofs.YtggeccndmmmnjaaDoor.Tx
open Go Go.RowKit Go.Lib Md

/-- A request in a law's box. -/
structure Bq (B : Nat) (q : Rq) (cs : Value) (W : World) : Prop where
  blk : Blk W B 27 (rqc q cs)
  cms : Cms 0 W cs q.cmds
theorem Bq.below {B : Nat} {q : Rq} {cs : Value} {W W' : World} (h : Bq B q cs W) (hb : Below W.heap.size W W') : Bq B q cs W' := ⟨h.blk.below hb, h.cms.below hb⟩
theorem laid_below {w1 D : World} {o : Obj} (oD : Only (fun x => x = w1.heap.size) (w1.alloc o) D) : Below w1.heap.size w1 D :=
  (Only.trans (Below.only ((Below.refl w1.heap.size w1).alloc (Nat.le_refl _) o) (D := fun x => x = w1.heap.size)) oD (fun _ e => .inl e)).below (Nat.le_refl _) (fun x e => by omega)
theorem bq_laid {w1 D : World} {o : Obj} {n₀ : Nat} {q : Rq} {cs : Value} (hC : Cms n₀ w1 cs q.cmds) (hD : Blk D w1.heap.size 27 (rqc q cs)) (oD : Only (fun x => x = w1.heap.size) (w1.alloc o) D) : Bq w1.heap.size q cs D :=
  ⟨hD, (hC.below (laid_below oD)).mono (Nat.zero_le _)⟩
theorem parse_known {b : List UInt8} {q : Rq} {n : Nat} (h : parse b = (q, n)) (hb : b.length ≤ 140737488355328) (w : World) (hv : Nu.Vars w) :
    Calls Tryd.prog 6 #[.string (S b)] w fun e w' => ∃ cs, e = .returned (.tuple #[.agg (rqc q cs).toArray, .int .i64 (n : Int)]) ∧ Cms w.heap.size w' cs q.cmds ∧ Below w.heap.size w w' := by
  refine (parse_any b hb w hv).mono ?_
  rintro e w' ⟨v, rfl, ⟨cs, rfl, hC⟩, hB⟩
  rw [h] at hC ⊢
  exact ⟨cs, rfl, hC, hB⟩
/-- One command alone, in memory. -/
theorem cms_single {n₀ : Nat} {w : World} {v : Value} {x : Cm} (h : Cms n₀ w v [x]) : ∃ b o c, v = .slice (some ⟨b, o, none⟩) 1 c ∧ ∀ j u, (cc x)[j]? = some u → w.cell? ⟨b, o + j, none⟩ = some u := by
  obtain ⟨a, c, rfl, hc, -, hx⟩ := h
  obtain ⟨b, o, rfl, hcell⟩ := hx 0 x rfl
  exact ⟨b, o, c, rfl, fun j u hj => by have := hcell j u hj; rw [show o + 0 * 16 + j = o + j by omega] at this; exact this⟩
theorem shown_0 : parse [115, 101, 116, 32, 107, 32, 49, 32, 48, 32, 50, 13, 10, 97, 98, 13, 10] = (⟨1, [storeC wSet [107] 1 0 0 [97, 98]], false, false, [], [], 0, false⟩, 17) := by kernel_rfl
theorem shown_1 : parse [115, 101, 116, 32, 107, 32, 49, 32, 48, 32, 50, 13, 10, 97, 98, 13] = (noRq, 0) := by kernel_rfl
theorem shown_2 : parse [103, 101, 116, 10] = (badQ mError 0, 4) := by kernel_rfl
theorem shown_3 : parse [115, 101, 116, 32, 107, 32, 120, 32, 48, 32, 50, 13, 10] = (badQ mLine 4, 13) := by kernel_rfl
set_option maxHeartbeats 2000000 in
set_option maxRecDepth 100000 in
theorem shown_any (w : World) (hv : Nu.Vars w) : Calls Tryd.prog 5 #[] w fun e w' => e = .returned (.bool true) ∧ Below w.heap.size w w' := by
  have hvb : ∀ W, Below w.heap.size w W → Nu.Vars W := fun W hb => hv.below hb
  have HB0 := hidc (Below.refl w.heap.size w)
  go_enter Tryd.func5, Tryd.ntmps5
  go_wp2_with fail
  refine (parse_known shown_0 (by decide) w (hvb _ HB0.out)).mono ?_
  rintro e u0 ⟨cs0, rfl, hC0, b0⟩
  have HOK0 := hidc (rq_ok (⟨1, [storeC wSet [107] 1 0 0 [97, 98]], false, false, [], [], 0, false⟩) (hvs hC0))
  have HC0 := hidc hC0
  have HU0 := hidc (Below.then HB0.out b0)
  clear hC0 b0
  go_wp2_with (refine stRq rfl rfl rfl rfl rfl (alloc1 u0 #[.int .i64 0, .slice none 0 0, .bool false, .bool false, .string ⟨#[]⟩, .string ⟨#[]⟩, .int .i64 0, .bool false, .string ⟨#[]⟩, .slice none 0 0, .string ⟨#[]⟩] 27).1 rfl rfl HOK0.out ?_; intro D0 hD oD; have HX0_1 := hidc (bq_laid HC0.out hD oD); have HB1 := hidc (Below.then HU0.out (laid_below oD)); clear hD oD HC0 HU0 HOK0)
  refine (parse_known shown_1 (by decide) D0 (hvb _ HB1.out)).mono ?_
  rintro e u1 ⟨cs1, rfl, hC1, b1⟩
  have HOK1 := hidc (rq_ok (noRq) (hvs hC1))
  have HC1 := hidc hC1
  have HU1 := hidc (Below.then HB1.out b1)
  have HX0_10 := hidc (HX0_1.out.below b1)
  clear HX0_1
  clear hC1 b1
  go_wp2_with (refine stRq rfl rfl rfl rfl rfl (alloc1 u1 #[.int .i64 0, .slice none 0 0, .bool false, .bool false, .string ⟨#[]⟩, .string ⟨#[]⟩, .int .i64 0, .bool false, .string ⟨#[]⟩, .slice none 0 0, .string ⟨#[]⟩] 27).1 rfl rfl HOK1.out ?_; intro D1 hD oD; have HX1_11 := hidc (bq_laid HC1.out hD oD); have HB2 := hidc (Below.then HU1.out (laid_below oD)); have HX0_11 := hidc (HX0_10.out.below (laid_below oD)); clear HX0_10; clear hD oD HC1 HU1 HOK1)
  refine (parse_known shown_2 (by decide) D1 (hvb _ HB2.out)).mono ?_
  rintro e u2 ⟨cs2, rfl, hC2, b2⟩
  have HOK2 := hidc (rq_ok (badQ mError 0) (hvs hC2))
  have HC2 := hidc hC2
  have HU2 := hidc (Below.then HB2.out b2)
  have HX0_20 := hidc (HX0_11.out.below b2)
  clear HX0_11
  have HX1_20 := hidc (HX1_11.out.below b2)
  clear HX1_11
  clear hC2 b2
  go_wp2_with (refine stRq rfl rfl rfl rfl rfl (alloc1 u2 #[.int .i64 0, .slice none 0 0, .bool false, .bool false, .string ⟨#[]⟩, .string ⟨#[]⟩, .int .i64 0, .bool false, .string ⟨#[]⟩, .slice none 0 0, .string ⟨#[]⟩] 27).1 rfl rfl HOK2.out ?_; intro D2 hD oD; have HX2_21 := hidc (bq_laid HC2.out hD oD); have HB3 := hidc (Below.then HU2.out (laid_below oD)); have HX0_21 := hidc (HX0_20.out.below (laid_below oD)); clear HX0_20; have HX1_21 := hidc (HX1_20.out.below (laid_below oD)); clear HX1_20; clear hD oD HC2 HU2 HOK2)
  refine (parse_known shown_3 (by decide) D2 (hvb _ HB3.out)).mono ?_
  rintro e u3 ⟨cs3, rfl, hC3, b3⟩
  have HOK3 := hidc (rq_ok (badQ mLine 4) (hvs hC3))
  have HC3 := hidc hC3
  have HU3 := hidc (Below.then HB3.out b3)
  have HX0_30 := hidc (HX0_21.out.below b3)
  clear HX0_21
  have HX1_30 := hidc (HX1_21.out.below b3)
  clear HX1_21
  have HX2_30 := hidc (HX2_21.out.below b3)
  clear HX2_21
  clear hC3 b3
  go_upto_region 5 with (refine stRq rfl rfl rfl rfl rfl (alloc1 u3 #[.int .i64 0, .slice none 0 0, .bool false, .bool false, .string ⟨#[]⟩, .string ⟨#[]⟩, .int .i64 0, .bool false, .string ⟨#[]⟩, .slice none 0 0, .string ⟨#[]⟩] 27).1 rfl rfl HOK3.out ?_; intro D3 hD oD; have HX3_31 := hidc (bq_laid HC3.out hD oD); have HB4 := hidc (Below.then HU3.out (laid_below oD)); have HX0_31 := hidc (HX0_30.out.below (laid_below oD)); clear HX0_30; have HX1_31 := hidc (HX1_30.out.below (laid_below oD)); clear HX1_30; have HX2_31 := hidc (HX2_30.out.below (laid_below oD)); clear HX2_30; clear hD oD HC3 HU3 HOK3)
  have X0 := HX0_31.out
  have X2 := HX2_31.out
  have X3 := HX3_31.out
  obtain ⟨cb, co, cc0, rfl, hcm⟩ := cms_single X0.cms
  have k0 : D3.cell? ⟨u0.heap.size, 0, none⟩ = some (.int .i64 1) := X0.blk.cell (i := 0) rfl
  have k1 : D3.cell? ⟨u0.heap.size, 1, none⟩ = some (.slice (some ⟨cb, co, none⟩) 1 cc0) := X0.blk.cell (i := 1) rfl
  have k2 : D3.cell? ⟨cb, co + 3, none⟩ = some (.string (S [97, 98])) := hcm 3 _ rfl
  have k3 : D3.cell? ⟨cb, co + 4, none⟩ = some (.int .u32 1) := hcm 4 _ rfl
  have k4 : D3.cell? ⟨u2.heap.size, 4, none⟩ = some (.string (S mError)) := X2.blk.cell (i := 4) rfl
  have k5 : D3.cell? ⟨u3.heap.size, 6, none⟩ = some (.int .i64 4) := X3.blk.cell (i := 6) rfl
  have s0 : ((S [97, 98]).toList == [97, 98]) = true := eq_yes _
  have s1 : ((S mError).toList == [69, 82, 82, 79, 82]) = true := eq_yes _
  have s2 : ((S (repS [])).toList == [69, 78, 68, 13, 10]) = true := eq_yes _
  have hrp := report_any none 0 [] (by decide) (by decide) D3 ⟨none, 0, rfl, Nat.le_refl _, fun j x h => (by simp at h)⟩
  clear X0 X2 X3 hcm HX0_31 HX1_31 HX2_31 HX3_31 hvb
  generalize S [97, 98] = Y0 at *
  generalize S mError = Y1 at *
  generalize S (repS []) = Y2 at *
  go_wp2_with fail
  refine hrp.mono ?_
  rintro e D4 ⟨rfl, b4⟩
  have HB5 := hidc (Below.then HB4.out b4)
  clear b4 hrp
  go_wp2_with fail
  go_ret
  exact ⟨rfl, HB5.out⟩
end Go.Proofs.YtggeccndmmmnjaaDoor.Tx
