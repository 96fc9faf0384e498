/-
  The document's own Count (ambryref19): each command and answer adds what the plain mathematics says (S1). Conditions: the counts lie in one block, each below 2^64.
-/
import Derived.Test.YtfoggbgemdlhbaaDoorStsRef
import Derived.Test.YtfoggbgemdlhbaaDoorStsCount
import Derived.Deep.DeepCutAuto
namespace Go.Proofs.YtfoggbgemdlhbaaDoor.Sc
open Go Go.RowKit Go.Lib

theorem rdr {P : Nat} {f : Nat → Nat} {w w' : World} (h : SR P f w' ∧ Only (fun b => b = P) w w') : SR P f w'.drew ∧ Only (fun b => b = P) w w'.drew := ⟨h.1.drew, h.2.drew⟩
theorem rlossed {P : Nat} {f : Nat → Nat} {w : World} (h : SR P f w) {z : Int} {L : Nat} (hz : z = L) (h0 : 0 < z) :
    SR P (loss f z) (w.setCell ⟨P, 17, none⟩ (.int .u64 (((f 17 + L) % 18446744073709551616 : Nat) : Int))) ∧ Only (fun b => b = P) w (w.setCell ⟨P, 17, none⟩ (.int .u64 (((f 17 + L) % 18446744073709551616 : Nat) : Int))) := by
  subst hz
  unfold loss
  rw [if_pos h0]
  exact h.put (by decide) (Nat.mod_lt _ (by decide))
set_option maxRecDepth 100000 in
theorem rcount_bad {P : Nat} {f : Nat → Nat} {w : World} (h : SR P f w) (c : Md.Cm) (st z : Int) (hs : st < 1 ∨ 12 < st) :
    Calls Tryd.prog 9 #[.pointer (some ⟨P, 0, none⟩), .agg (cc c).toArray, .agg (ac st).toArray, .int .i64 z] w fun e w' => e = .returned (.tuple #[]) ∧ SR P f w' ∧ Only (fun b => b = P) w w' := by
  have HB := hidc (show SR P f (boxed w c st) ∧ Only (fun b => b = P) w (boxed w c st) from ⟨h.below (boxed_below w c st), Below.only (boxed_below w c st)⟩)
  unfold boxed at HB
  rcases hs with hs | hs
  all_goals
    go_enter Tryd.func9, Tryd.ntmps9
    unfold ac cc at *
    go_wp2_with fail
    refine bodyPost_ret (results_none rfl _ _ _) rfl ?_
    exact ⟨rfl, HB.out⟩

set_option maxRecDepth 100000 in
set_option maxHeartbeats 1000000 in
theorem rcount_op1 {P : Nat} {f : Nat → Nat} {w : World} (h : SR P f w) (c : Md.Cm) (st z : Int) (hop : c.op = 1) (hs1 : 1 ≤ st) (hs2 : st ≤ 12) (hz : z ≤ 9223372036854775807) :
    Calls Tryd.prog 9 #[.pointer (some ⟨P, 0, none⟩), .agg (cc c).toArray, .agg (ac st).toArray, .int .i64 z] w fun e w' => e = .returned (.tuple #[]) ∧ SR P (getC (loss f z) st) w' ∧ Only (fun b => b = P) w w' := by
  obtain ⟨op, mode, key, val, flags, exp, hasExp, cas, hasCas, delta, init, down, viv, vive, rcc, inv⟩ := c
  dsimp only at hop ⊢
  subst hop
  obtain ⟨c, hcc⟩ : ∃ c, c = (⟨1, mode, key, val, flags, exp, hasExp, cas, hasCas, delta, init, down, viv, vive, rcc, inv⟩ : Md.Cm) := ⟨_, rfl⟩
  have hb := h.below (boxed_below w c st)
  have hoo := hidc (Below.only (D := fun b => b = P) (boxed_below w c st))
  have kop := (boxed_c w c st).cell (i := 0) rfl
  have khc := (boxed_c w c st).cell (i := 8) rfl
  have kdn := (boxed_c w c st).cell (i := 11) rfl
  have kst := (boxed_a w c st).cell (i := 0) rfl
  have hne : ¬ w.heap.size + 1 = P := by have := h.2.lt; omega
  have hne0 : ¬ w.heap.size = P := by have := h.2.lt; omega
  have hlt := (boxed_a w c st).lt
  have hlt0 := (boxed_c w c st).lt
  have i1 : (st < 1) = False := by simp; omega
  have i2 : (12 < st) = False := by simp; omega
  have al := arr18
  unfold boxed at *
  subst hcc
  clear h hs1 hs2
  by_cases hl : 0 < z
  · obtain ⟨L, hL⟩ : ∃ L : Nat, z = L := ⟨z.toNat, by omega⟩
    have HS := hidc (rdr (rlossed hb hL hl))
    have c17 := hb.cell (i := 17) (by decide)
    have f17 := hb.2.frozen 17
    have hw : IntKind.u64.wrap ((L : Nat) : Int) = (L : Int) := by rw [IntKind.wrap_u64]; omega
    have hw2 := wrap_two (f 17) L
    obtain ⟨X, hX⟩ : ∃ X, (f 17 + L) % 18446744073709551616 = X := ⟨_, rfl⟩
    rw [hX] at HS hw2
    clear hX
    subst hL
    unfold cc ac at *
    generalize hg : loss f ↑L = g at *
    clear hb hg
    have lk0 := (HS.out.2.cell (p := ⟨w.heap.size, 8, none⟩) hlt0 hne0).trans khc
    have ld0 := (HS.out.2.cell (p := ⟨w.heap.size, 11, none⟩) hlt0 hne0).trans kdn
    have ls0 := (HS.out.2.cell (p := ⟨w.heap.size + 1, 0, none⟩) hlt hne).trans kst
    rcases (show st = 1 ∨ (¬ st = 1) by omega) with rfl | m1
    all_goals
      go_enter Tryd.func9, Tryd.ntmps9
      go_upto_region 3 with fail
      refine region_tail 12 (by kernel_rfl) (by kernel_rfl) ?_
      simp only [List.take_succ_cons, List.take_zero, List.drop_succ_cons, List.drop_zero]
      repeat still_step
      refine wpStill_nil ?_
      go_wp2_with fail
      refine (one_any (P := P) (f := g) ?sp0 (i := 0) (by decide) _).mono ?_
      case sp0 => exact HS.out.1
      rintro e w1 ⟨rfl, h1, p1⟩
      have o1 := HS.out.2.trans p1 fun _ hx => .inl hx
      have lk1 := (o1.cell (p := ⟨w.heap.size, 8, none⟩) hlt0 hne0).trans khc
      have ld1 := (o1.cell (p := ⟨w.heap.size, 11, none⟩) hlt0 hne0).trans kdn
      have ls1 := (o1.cell (p := ⟨w.heap.size + 1, 0, none⟩) hlt hne).trans kst
      clear p1 lk0 ld0 ls0
      go_wp2_with fail
      refine (one_any h1 (i := 4) (by decide) _).mono ?_
      rintro e w2 ⟨rfl, h2, p2⟩
      have o2 := o1.trans p2 fun _ hx => .inl hx
      have lk2 := (o2.cell (p := ⟨w.heap.size, 8, none⟩) hlt0 hne0).trans khc
      have ld2 := (o2.cell (p := ⟨w.heap.size, 11, none⟩) hlt0 hne0).trans kdn
      have ls2 := (o2.cell (p := ⟨w.heap.size + 1, 0, none⟩) hlt hne).trans kst
      clear p2 lk1 ld1 ls1
      go_wp2_with fail
      refine (one_any h2 (i := 5) (by decide) _).mono ?_
      rintro e w3 ⟨rfl, h3, p3⟩
      have o3 := o2.trans p3 fun _ hx => .inl hx
      have lk3 := (o3.cell (p := ⟨w.heap.size, 8, none⟩) hlt0 hne0).trans khc
      have ld3 := (o3.cell (p := ⟨w.heap.size, 11, none⟩) hlt0 hne0).trans kdn
      have ls3 := (o3.cell (p := ⟨w.heap.size + 1, 0, none⟩) hlt hne).trans kst
      clear p3 lk2 ld2 ls2
      go_wp2_with fail
      go_end0
      exact ⟨rfl, by first | simpa [incIf, getC, stoC, matC, tri, bad, m1] using h3 | simpa [incIf, getC, stoC, matC, tri, bad] using h3, hoo.out.trans o3 fun _ hx => .inl hx⟩
  · have hl' : z ≤ 0 := by omega
    rw [loss_no hl]
    have HS := hidc hb.still
    unfold cc ac at *
    clear hb hl
    generalize f = g at *
    have lk0 := (HS.out.2.cell (p := ⟨w.heap.size, 8, none⟩) hlt0 hne0).trans khc
    have ld0 := (HS.out.2.cell (p := ⟨w.heap.size, 11, none⟩) hlt0 hne0).trans kdn
    have ls0 := (HS.out.2.cell (p := ⟨w.heap.size + 1, 0, none⟩) hlt hne).trans kst
    rcases (show st = 1 ∨ (¬ st = 1) by omega) with rfl | m1
    all_goals
      go_enter Tryd.func9, Tryd.ntmps9
      go_wp2_with fail
      refine (one_any (P := P) (f := g) ?sp0 (i := 0) (by decide) _).mono ?_
      case sp0 => exact HS.out.1
      rintro e w1 ⟨rfl, h1, p1⟩
      have o1 := HS.out.2.trans p1 fun _ hx => .inl hx
      have lk1 := (o1.cell (p := ⟨w.heap.size, 8, none⟩) hlt0 hne0).trans khc
      have ld1 := (o1.cell (p := ⟨w.heap.size, 11, none⟩) hlt0 hne0).trans kdn
      have ls1 := (o1.cell (p := ⟨w.heap.size + 1, 0, none⟩) hlt hne).trans kst
      clear p1 lk0 ld0 ls0
      go_wp2_with fail
      refine (one_any h1 (i := 4) (by decide) _).mono ?_
      rintro e w2 ⟨rfl, h2, p2⟩
      have o2 := o1.trans p2 fun _ hx => .inl hx
      have lk2 := (o2.cell (p := ⟨w.heap.size, 8, none⟩) hlt0 hne0).trans khc
      have ld2 := (o2.cell (p := ⟨w.heap.size, 11, none⟩) hlt0 hne0).trans kdn
      have ls2 := (o2.cell (p := ⟨w.heap.size + 1, 0, none⟩) hlt hne).trans kst
      clear p2 lk1 ld1 ls1
      go_wp2_with fail
      refine (one_any h2 (i := 5) (by decide) _).mono ?_
      rintro e w3 ⟨rfl, h3, p3⟩
      have o3 := o2.trans p3 fun _ hx => .inl hx
      have lk3 := (o3.cell (p := ⟨w.heap.size, 8, none⟩) hlt0 hne0).trans khc
      have ld3 := (o3.cell (p := ⟨w.heap.size, 11, none⟩) hlt0 hne0).trans kdn
      have ls3 := (o3.cell (p := ⟨w.heap.size + 1, 0, none⟩) hlt hne).trans kst
      clear p3 lk2 ld2 ls2
      go_wp2_with fail
      go_end0
      exact ⟨rfl, by first | simpa [incIf, getC, stoC, matC, tri, bad, m1] using h3 | simpa [incIf, getC, stoC, matC, tri, bad] using h3, hoo.out.trans o3 fun _ hx => .inl hx⟩

set_option maxRecDepth 100000 in
set_option maxHeartbeats 1000000 in
theorem rcount_op2 {P : Nat} {f : Nat → Nat} {w : World} (h : SR P f w) (c : Md.Cm) (st z : Int) (hop : c.op = 2) (hs1 : 1 ≤ st) (hs2 : st ≤ 12) (hz : z ≤ 9223372036854775807) :
    Calls Tryd.prog 9 #[.pointer (some ⟨P, 0, none⟩), .agg (cc c).toArray, .agg (ac st).toArray, .int .i64 z] w fun e w' => e = .returned (.tuple #[]) ∧ SR P (stoC (loss f z) st c.hasCas) w' ∧ Only (fun b => b = P) w w' := by
  obtain ⟨op, mode, key, val, flags, exp, hasExp, cas, hasCas, delta, init, down, viv, vive, rcc, inv⟩ := c
  dsimp only at hop ⊢
  subst hop
  obtain ⟨c, hcc⟩ : ∃ c, c = (⟨2, mode, key, val, flags, exp, hasExp, cas, hasCas, delta, init, down, viv, vive, rcc, inv⟩ : Md.Cm) := ⟨_, rfl⟩
  have hb := h.below (boxed_below w c st)
  have hoo := hidc (Below.only (D := fun b => b = P) (boxed_below w c st))
  have kop := (boxed_c w c st).cell (i := 0) rfl
  have khc := (boxed_c w c st).cell (i := 8) rfl
  have kdn := (boxed_c w c st).cell (i := 11) rfl
  have kst := (boxed_a w c st).cell (i := 0) rfl
  have hne : ¬ w.heap.size + 1 = P := by have := h.2.lt; omega
  have hne0 : ¬ w.heap.size = P := by have := h.2.lt; omega
  have hlt := (boxed_a w c st).lt
  have hlt0 := (boxed_c w c st).lt
  have i1 : (st < 1) = False := by simp; omega
  have i2 : (12 < st) = False := by simp; omega
  have al := arr18
  unfold boxed at *
  subst hcc
  clear h hs1 hs2
  by_cases hl : 0 < z
  · obtain ⟨L, hL⟩ : ∃ L : Nat, z = L := ⟨z.toNat, by omega⟩
    have HS := hidc (rdr (rlossed hb hL hl))
    have c17 := hb.cell (i := 17) (by decide)
    have f17 := hb.2.frozen 17
    have hw : IntKind.u64.wrap ((L : Nat) : Int) = (L : Int) := by rw [IntKind.wrap_u64]; omega
    have hw2 := wrap_two (f 17) L
    obtain ⟨X, hX⟩ : ∃ X, (f 17 + L) % 18446744073709551616 = X := ⟨_, rfl⟩
    rw [hX] at HS hw2
    clear hX
    subst hL
    unfold cc ac at *
    generalize hg : loss f ↑L = g at *
    clear hb hg
    have lk0 := (HS.out.2.cell (p := ⟨w.heap.size, 8, none⟩) hlt0 hne0).trans khc
    have ld0 := (HS.out.2.cell (p := ⟨w.heap.size, 11, none⟩) hlt0 hne0).trans kdn
    have ls0 := (HS.out.2.cell (p := ⟨w.heap.size + 1, 0, none⟩) hlt hne).trans kst
    rcases (show st = 2 ∨ st = 4 ∨ st = 5 ∨ (¬ st = 2 ∧ ¬ st = 4 ∧ ¬ st = 5) by omega) with rfl | rfl | rfl | ⟨m2, m4, m5⟩
    all_goals cases hasCas
    all_goals
      go_enter Tryd.func9, Tryd.ntmps9
      go_upto_region 3 with fail
      refine region_tail 12 (by kernel_rfl) (by kernel_rfl) ?_
      simp only [List.take_succ_cons, List.take_zero, List.drop_succ_cons, List.drop_zero]
      repeat still_step
      refine wpStill_nil ?_
      go_wp2_with fail
      refine (one_any (P := P) (f := g) ?sp0 (i := 1) (by decide) _).mono ?_
      case sp0 => exact HS.out.1
      rintro e w1 ⟨rfl, h1, p1⟩
      have o1 := HS.out.2.trans p1 fun _ hx => .inl hx
      have lk1 := (o1.cell (p := ⟨w.heap.size, 8, none⟩) hlt0 hne0).trans khc
      have ld1 := (o1.cell (p := ⟨w.heap.size, 11, none⟩) hlt0 hne0).trans kdn
      have ls1 := (o1.cell (p := ⟨w.heap.size + 1, 0, none⟩) hlt hne).trans kst
      clear p1 lk0 ld0 ls0
      go_wp2_with fail
      refine (one_any h1 (i := 12) (by decide) _).mono ?_
      rintro e w2 ⟨rfl, h2, p2⟩
      have o2 := o1.trans p2 fun _ hx => .inl hx
      have lk2 := (o2.cell (p := ⟨w.heap.size, 8, none⟩) hlt0 hne0).trans khc
      have ld2 := (o2.cell (p := ⟨w.heap.size, 11, none⟩) hlt0 hne0).trans kdn
      have ls2 := (o2.cell (p := ⟨w.heap.size + 1, 0, none⟩) hlt hne).trans kst
      clear p2 lk1 ld1 ls1
      go_wp2_with fail
      refine (one_any h2 (i := 13) (by decide) _).mono ?_
      rintro e w3 ⟨rfl, h3, p3⟩
      have o3 := o2.trans p3 fun _ hx => .inl hx
      have lk3 := (o3.cell (p := ⟨w.heap.size, 8, none⟩) hlt0 hne0).trans khc
      have ld3 := (o3.cell (p := ⟨w.heap.size, 11, none⟩) hlt0 hne0).trans kdn
      have ls3 := (o3.cell (p := ⟨w.heap.size + 1, 0, none⟩) hlt hne).trans kst
      clear p3 lk2 ld2 ls2
      go_wp2_with fail
      refine (one_any h3 (i := 14) (by decide) _).mono ?_
      rintro e w4 ⟨rfl, h4, p4⟩
      have o4 := o3.trans p4 fun _ hx => .inl hx
      have lk4 := (o4.cell (p := ⟨w.heap.size, 8, none⟩) hlt0 hne0).trans khc
      have ld4 := (o4.cell (p := ⟨w.heap.size, 11, none⟩) hlt0 hne0).trans kdn
      have ls4 := (o4.cell (p := ⟨w.heap.size + 1, 0, none⟩) hlt hne).trans kst
      clear p4 lk3 ld3 ls3
      go_wp2_with fail
      go_end0
      exact ⟨rfl, by first | simpa [incIf, getC, stoC, matC, tri, bad, m2, m4, m5] using h4 | simpa [incIf, getC, stoC, matC, tri, bad] using h4, hoo.out.trans o4 fun _ hx => .inl hx⟩
  · have hl' : z ≤ 0 := by omega
    rw [loss_no hl]
    have HS := hidc hb.still
    unfold cc ac at *
    clear hb hl
    generalize f = g at *
    have lk0 := (HS.out.2.cell (p := ⟨w.heap.size, 8, none⟩) hlt0 hne0).trans khc
    have ld0 := (HS.out.2.cell (p := ⟨w.heap.size, 11, none⟩) hlt0 hne0).trans kdn
    have ls0 := (HS.out.2.cell (p := ⟨w.heap.size + 1, 0, none⟩) hlt hne).trans kst
    rcases (show st = 2 ∨ st = 4 ∨ st = 5 ∨ (¬ st = 2 ∧ ¬ st = 4 ∧ ¬ st = 5) by omega) with rfl | rfl | rfl | ⟨m2, m4, m5⟩
    all_goals cases hasCas
    all_goals
      go_enter Tryd.func9, Tryd.ntmps9
      go_wp2_with fail
      refine (one_any (P := P) (f := g) ?sp0 (i := 1) (by decide) _).mono ?_
      case sp0 => exact HS.out.1
      rintro e w1 ⟨rfl, h1, p1⟩
      have o1 := HS.out.2.trans p1 fun _ hx => .inl hx
      have lk1 := (o1.cell (p := ⟨w.heap.size, 8, none⟩) hlt0 hne0).trans khc
      have ld1 := (o1.cell (p := ⟨w.heap.size, 11, none⟩) hlt0 hne0).trans kdn
      have ls1 := (o1.cell (p := ⟨w.heap.size + 1, 0, none⟩) hlt hne).trans kst
      clear p1 lk0 ld0 ls0
      go_wp2_with fail
      refine (one_any h1 (i := 12) (by decide) _).mono ?_
      rintro e w2 ⟨rfl, h2, p2⟩
      have o2 := o1.trans p2 fun _ hx => .inl hx
      have lk2 := (o2.cell (p := ⟨w.heap.size, 8, none⟩) hlt0 hne0).trans khc
      have ld2 := (o2.cell (p := ⟨w.heap.size, 11, none⟩) hlt0 hne0).trans kdn
      have ls2 := (o2.cell (p := ⟨w.heap.size + 1, 0, none⟩) hlt hne).trans kst
      clear p2 lk1 ld1 ls1
      go_wp2_with fail
      refine (one_any h2 (i := 13) (by decide) _).mono ?_
      rintro e w3 ⟨rfl, h3, p3⟩
      have o3 := o2.trans p3 fun _ hx => .inl hx
      have lk3 := (o3.cell (p := ⟨w.heap.size, 8, none⟩) hlt0 hne0).trans khc
      have ld3 := (o3.cell (p := ⟨w.heap.size, 11, none⟩) hlt0 hne0).trans kdn
      have ls3 := (o3.cell (p := ⟨w.heap.size + 1, 0, none⟩) hlt hne).trans kst
      clear p3 lk2 ld2 ls2
      go_wp2_with fail
      refine (one_any h3 (i := 14) (by decide) _).mono ?_
      rintro e w4 ⟨rfl, h4, p4⟩
      have o4 := o3.trans p4 fun _ hx => .inl hx
      have lk4 := (o4.cell (p := ⟨w.heap.size, 8, none⟩) hlt0 hne0).trans khc
      have ld4 := (o4.cell (p := ⟨w.heap.size, 11, none⟩) hlt0 hne0).trans kdn
      have ls4 := (o4.cell (p := ⟨w.heap.size + 1, 0, none⟩) hlt hne).trans kst
      clear p4 lk3 ld3 ls3
      go_wp2_with fail
      go_end0
      exact ⟨rfl, by first | simpa [incIf, getC, stoC, matC, tri, bad, m2, m4, m5] using h4 | simpa [incIf, getC, stoC, matC, tri, bad] using h4, hoo.out.trans o4 fun _ hx => .inl hx⟩

set_option maxRecDepth 100000 in
set_option maxHeartbeats 1000000 in
theorem rcount_op4 {P : Nat} {f : Nat → Nat} {w : World} (h : SR P f w) (c : Md.Cm) (st z : Int) (hop : c.op = 4) (hs1 : 1 ≤ st) (hs2 : st ≤ 12) (hz : z ≤ 9223372036854775807) :
    Calls Tryd.prog 9 #[.pointer (some ⟨P, 0, none⟩), .agg (cc c).toArray, .agg (ac st).toArray, .int .i64 z] w fun e w' => e = .returned (.tuple #[]) ∧ SR P (tri (inc (loss f z) 2) 15 16 st 8) w' ∧ Only (fun b => b = P) w w' := by
  obtain ⟨op, mode, key, val, flags, exp, hasExp, cas, hasCas, delta, init, down, viv, vive, rcc, inv⟩ := c
  dsimp only at hop ⊢
  subst hop
  obtain ⟨c, hcc⟩ : ∃ c, c = (⟨4, mode, key, val, flags, exp, hasExp, cas, hasCas, delta, init, down, viv, vive, rcc, inv⟩ : Md.Cm) := ⟨_, rfl⟩
  have hb := h.below (boxed_below w c st)
  have hoo := hidc (Below.only (D := fun b => b = P) (boxed_below w c st))
  have kop := (boxed_c w c st).cell (i := 0) rfl
  have khc := (boxed_c w c st).cell (i := 8) rfl
  have kdn := (boxed_c w c st).cell (i := 11) rfl
  have kst := (boxed_a w c st).cell (i := 0) rfl
  have hne : ¬ w.heap.size + 1 = P := by have := h.2.lt; omega
  have hne0 : ¬ w.heap.size = P := by have := h.2.lt; omega
  have hlt := (boxed_a w c st).lt
  have hlt0 := (boxed_c w c st).lt
  have i1 : (st < 1) = False := by simp; omega
  have i2 : (12 < st) = False := by simp; omega
  have al := arr18
  unfold boxed at *
  subst hcc
  clear h hs1 hs2
  by_cases hl : 0 < z
  · obtain ⟨L, hL⟩ : ∃ L : Nat, z = L := ⟨z.toNat, by omega⟩
    have HS := hidc (rdr (rlossed hb hL hl))
    have c17 := hb.cell (i := 17) (by decide)
    have f17 := hb.2.frozen 17
    have hw : IntKind.u64.wrap ((L : Nat) : Int) = (L : Int) := by rw [IntKind.wrap_u64]; omega
    have hw2 := wrap_two (f 17) L
    obtain ⟨X, hX⟩ : ∃ X, (f 17 + L) % 18446744073709551616 = X := ⟨_, rfl⟩
    rw [hX] at HS hw2
    clear hX
    subst hL
    unfold cc ac at *
    generalize hg : loss f ↑L = g at *
    clear hb hg
    have lk0 := (HS.out.2.cell (p := ⟨w.heap.size, 8, none⟩) hlt0 hne0).trans khc
    have ld0 := (HS.out.2.cell (p := ⟨w.heap.size, 11, none⟩) hlt0 hne0).trans kdn
    have ls0 := (HS.out.2.cell (p := ⟨w.heap.size + 1, 0, none⟩) hlt hne).trans kst
    rcases (show st = 8 ∨ st = 5 ∨ (¬ st = 8 ∧ ¬ st = 5) by omega) with rfl | rfl | ⟨m8, m5⟩
    all_goals
      go_enter Tryd.func9, Tryd.ntmps9
      go_upto_region 3 with fail
      refine region_tail 12 (by kernel_rfl) (by kernel_rfl) ?_
      simp only [List.take_succ_cons, List.take_zero, List.drop_succ_cons, List.drop_zero]
      repeat still_step
      refine wpStill_nil ?_
      go_wp2_with fail
      refine (one_any (P := P) (f := g) ?sp0 (i := 2) (by decide) _).mono ?_
      case sp0 => exact HS.out.1
      rintro e w1 ⟨rfl, h1, p1⟩
      have o1 := HS.out.2.trans p1 fun _ hx => .inl hx
      have lk1 := (o1.cell (p := ⟨w.heap.size, 8, none⟩) hlt0 hne0).trans khc
      have ld1 := (o1.cell (p := ⟨w.heap.size, 11, none⟩) hlt0 hne0).trans kdn
      have ls1 := (o1.cell (p := ⟨w.heap.size + 1, 0, none⟩) hlt hne).trans kst
      clear p1 lk0 ld0 ls0
      go_wp2_with fail
      refine (one_any h1 (i := 15) (by decide) _).mono ?_
      rintro e w2 ⟨rfl, h2, p2⟩
      have o2 := o1.trans p2 fun _ hx => .inl hx
      have lk2 := (o2.cell (p := ⟨w.heap.size, 8, none⟩) hlt0 hne0).trans khc
      have ld2 := (o2.cell (p := ⟨w.heap.size, 11, none⟩) hlt0 hne0).trans kdn
      have ls2 := (o2.cell (p := ⟨w.heap.size + 1, 0, none⟩) hlt hne).trans kst
      clear p2 lk1 ld1 ls1
      go_wp2_with fail
      refine (one_any h2 (i := 16) (by decide) _).mono ?_
      rintro e w3 ⟨rfl, h3, p3⟩
      have o3 := o2.trans p3 fun _ hx => .inl hx
      have lk3 := (o3.cell (p := ⟨w.heap.size, 8, none⟩) hlt0 hne0).trans khc
      have ld3 := (o3.cell (p := ⟨w.heap.size, 11, none⟩) hlt0 hne0).trans kdn
      have ls3 := (o3.cell (p := ⟨w.heap.size + 1, 0, none⟩) hlt hne).trans kst
      clear p3 lk2 ld2 ls2
      go_wp2_with fail
      go_end0
      exact ⟨rfl, by first | simpa [incIf, getC, stoC, matC, tri, bad, m8, m5] using h3 | simpa [incIf, getC, stoC, matC, tri, bad] using h3, hoo.out.trans o3 fun _ hx => .inl hx⟩
  · have hl' : z ≤ 0 := by omega
    rw [loss_no hl]
    have HS := hidc hb.still
    unfold cc ac at *
    clear hb hl
    generalize f = g at *
    have lk0 := (HS.out.2.cell (p := ⟨w.heap.size, 8, none⟩) hlt0 hne0).trans khc
    have ld0 := (HS.out.2.cell (p := ⟨w.heap.size, 11, none⟩) hlt0 hne0).trans kdn
    have ls0 := (HS.out.2.cell (p := ⟨w.heap.size + 1, 0, none⟩) hlt hne).trans kst
    rcases (show st = 8 ∨ st = 5 ∨ (¬ st = 8 ∧ ¬ st = 5) by omega) with rfl | rfl | ⟨m8, m5⟩
    all_goals
      go_enter Tryd.func9, Tryd.ntmps9
      go_wp2_with fail
      refine (one_any (P := P) (f := g) ?sp0 (i := 2) (by decide) _).mono ?_
      case sp0 => exact HS.out.1
      rintro e w1 ⟨rfl, h1, p1⟩
      have o1 := HS.out.2.trans p1 fun _ hx => .inl hx
      have lk1 := (o1.cell (p := ⟨w.heap.size, 8, none⟩) hlt0 hne0).trans khc
      have ld1 := (o1.cell (p := ⟨w.heap.size, 11, none⟩) hlt0 hne0).trans kdn
      have ls1 := (o1.cell (p := ⟨w.heap.size + 1, 0, none⟩) hlt hne).trans kst
      clear p1 lk0 ld0 ls0
      go_wp2_with fail
      refine (one_any h1 (i := 15) (by decide) _).mono ?_
      rintro e w2 ⟨rfl, h2, p2⟩
      have o2 := o1.trans p2 fun _ hx => .inl hx
      have lk2 := (o2.cell (p := ⟨w.heap.size, 8, none⟩) hlt0 hne0).trans khc
      have ld2 := (o2.cell (p := ⟨w.heap.size, 11, none⟩) hlt0 hne0).trans kdn
      have ls2 := (o2.cell (p := ⟨w.heap.size + 1, 0, none⟩) hlt hne).trans kst
      clear p2 lk1 ld1 ls1
      go_wp2_with fail
      refine (one_any h2 (i := 16) (by decide) _).mono ?_
      rintro e w3 ⟨rfl, h3, p3⟩
      have o3 := o2.trans p3 fun _ hx => .inl hx
      have lk3 := (o3.cell (p := ⟨w.heap.size, 8, none⟩) hlt0 hne0).trans khc
      have ld3 := (o3.cell (p := ⟨w.heap.size, 11, none⟩) hlt0 hne0).trans kdn
      have ls3 := (o3.cell (p := ⟨w.heap.size + 1, 0, none⟩) hlt hne).trans kst
      clear p3 lk2 ld2 ls2
      go_wp2_with fail
      go_end0
      exact ⟨rfl, by first | simpa [incIf, getC, stoC, matC, tri, bad, m8, m5] using h3 | simpa [incIf, getC, stoC, matC, tri, bad] using h3, hoo.out.trans o3 fun _ hx => .inl hx⟩

set_option maxRecDepth 100000 in
set_option maxHeartbeats 1000000 in
theorem rcount_op6 {P : Nat} {f : Nat → Nat} {w : World} (h : SR P f w) (c : Md.Cm) (st z : Int) (hop : c.op = 6) (hs1 : 1 ≤ st) (hs2 : st ≤ 12) (hz : z ≤ 9223372036854775807) :
    Calls Tryd.prog 9 #[.pointer (some ⟨P, 0, none⟩), .agg (cc c).toArray, .agg (ac st).toArray, .int .i64 z] w fun e w' => e = .returned (.tuple #[]) ∧ SR P (inc (loss f z) 3) w' ∧ Only (fun b => b = P) w w' := by
  obtain ⟨op, mode, key, val, flags, exp, hasExp, cas, hasCas, delta, init, down, viv, vive, rcc, inv⟩ := c
  dsimp only at hop ⊢
  subst hop
  obtain ⟨c, hcc⟩ : ∃ c, c = (⟨6, mode, key, val, flags, exp, hasExp, cas, hasCas, delta, init, down, viv, vive, rcc, inv⟩ : Md.Cm) := ⟨_, rfl⟩
  have hb := h.below (boxed_below w c st)
  have hoo := hidc (Below.only (D := fun b => b = P) (boxed_below w c st))
  have kop := (boxed_c w c st).cell (i := 0) rfl
  have khc := (boxed_c w c st).cell (i := 8) rfl
  have kdn := (boxed_c w c st).cell (i := 11) rfl
  have kst := (boxed_a w c st).cell (i := 0) rfl
  have hne : ¬ w.heap.size + 1 = P := by have := h.2.lt; omega
  have hne0 : ¬ w.heap.size = P := by have := h.2.lt; omega
  have hlt := (boxed_a w c st).lt
  have hlt0 := (boxed_c w c st).lt
  have i1 : (st < 1) = False := by simp; omega
  have i2 : (12 < st) = False := by simp; omega
  have al := arr18
  unfold boxed at *
  subst hcc
  clear h hs1 hs2
  by_cases hl : 0 < z
  · obtain ⟨L, hL⟩ : ∃ L : Nat, z = L := ⟨z.toNat, by omega⟩
    have HS := hidc (rdr (rlossed hb hL hl))
    have c17 := hb.cell (i := 17) (by decide)
    have f17 := hb.2.frozen 17
    have hw : IntKind.u64.wrap ((L : Nat) : Int) = (L : Int) := by rw [IntKind.wrap_u64]; omega
    have hw2 := wrap_two (f 17) L
    obtain ⟨X, hX⟩ : ∃ X, (f 17 + L) % 18446744073709551616 = X := ⟨_, rfl⟩
    rw [hX] at HS hw2
    clear hX
    subst hL
    unfold cc ac at *
    generalize hg : loss f ↑L = g at *
    clear hb hg
    have lk0 := (HS.out.2.cell (p := ⟨w.heap.size, 8, none⟩) hlt0 hne0).trans khc
    have ld0 := (HS.out.2.cell (p := ⟨w.heap.size, 11, none⟩) hlt0 hne0).trans kdn
    have ls0 := (HS.out.2.cell (p := ⟨w.heap.size + 1, 0, none⟩) hlt hne).trans kst
    go_enter Tryd.func9, Tryd.ntmps9
    go_upto_region 3 with fail
    refine region_tail 12 (by kernel_rfl) (by kernel_rfl) ?_
    simp only [List.take_succ_cons, List.take_zero, List.drop_succ_cons, List.drop_zero]
    repeat still_step
    refine wpStill_nil ?_
    go_wp2_with fail
    refine (one_any (P := P) (f := g) ?sp0 (i := 3) (by decide) _).mono ?_
    case sp0 => exact HS.out.1
    rintro e w1 ⟨rfl, h1, p1⟩
    have o1 := HS.out.2.trans p1 fun _ hx => .inl hx
    have lk1 := (o1.cell (p := ⟨w.heap.size, 8, none⟩) hlt0 hne0).trans khc
    have ld1 := (o1.cell (p := ⟨w.heap.size, 11, none⟩) hlt0 hne0).trans kdn
    have ls1 := (o1.cell (p := ⟨w.heap.size + 1, 0, none⟩) hlt hne).trans kst
    clear p1 lk0 ld0 ls0
    go_wp2_with fail
    go_end0
    exact ⟨rfl, by first | simpa [incIf, getC, stoC, matC, tri, bad] using h1 | simpa [incIf, getC, stoC, matC, tri, bad] using h1, hoo.out.trans o1 fun _ hx => .inl hx⟩
  · have hl' : z ≤ 0 := by omega
    rw [loss_no hl]
    have HS := hidc hb.still
    unfold cc ac at *
    clear hb hl
    generalize f = g at *
    have lk0 := (HS.out.2.cell (p := ⟨w.heap.size, 8, none⟩) hlt0 hne0).trans khc
    have ld0 := (HS.out.2.cell (p := ⟨w.heap.size, 11, none⟩) hlt0 hne0).trans kdn
    have ls0 := (HS.out.2.cell (p := ⟨w.heap.size + 1, 0, none⟩) hlt hne).trans kst
    go_enter Tryd.func9, Tryd.ntmps9
    go_wp2_with fail
    refine (one_any (P := P) (f := g) ?sp0 (i := 3) (by decide) _).mono ?_
    case sp0 => exact HS.out.1
    rintro e w1 ⟨rfl, h1, p1⟩
    have o1 := HS.out.2.trans p1 fun _ hx => .inl hx
    have lk1 := (o1.cell (p := ⟨w.heap.size, 8, none⟩) hlt0 hne0).trans khc
    have ld1 := (o1.cell (p := ⟨w.heap.size, 11, none⟩) hlt0 hne0).trans kdn
    have ls1 := (o1.cell (p := ⟨w.heap.size + 1, 0, none⟩) hlt hne).trans kst
    clear p1 lk0 ld0 ls0
    go_wp2_with fail
    go_end0
    exact ⟨rfl, by first | simpa [incIf, getC, stoC, matC, tri, bad] using h1 | simpa [incIf, getC, stoC, matC, tri, bad] using h1, hoo.out.trans o1 fun _ hx => .inl hx⟩

set_option maxRecDepth 100000 in
set_option maxHeartbeats 1000000 in
theorem rcount_op5 {P : Nat} {f : Nat → Nat} {w : World} (h : SR P f w) (c : Md.Cm) (st z : Int) (hop : c.op = 5) (hs1 : 1 ≤ st) (hs2 : st ≤ 12) (hz : z ≤ 9223372036854775807) :
    Calls Tryd.prog 9 #[.pointer (some ⟨P, 0, none⟩), .agg (cc c).toArray, .agg (ac st).toArray, .int .i64 z] w fun e w' => e = .returned (.tuple #[]) ∧ SR P (tri (loss f z) 6 7 st 9) w' ∧ Only (fun b => b = P) w w' := by
  obtain ⟨op, mode, key, val, flags, exp, hasExp, cas, hasCas, delta, init, down, viv, vive, rcc, inv⟩ := c
  dsimp only at hop ⊢
  subst hop
  obtain ⟨c, hcc⟩ : ∃ c, c = (⟨5, mode, key, val, flags, exp, hasExp, cas, hasCas, delta, init, down, viv, vive, rcc, inv⟩ : Md.Cm) := ⟨_, rfl⟩
  have hb := h.below (boxed_below w c st)
  have hoo := hidc (Below.only (D := fun b => b = P) (boxed_below w c st))
  have kop := (boxed_c w c st).cell (i := 0) rfl
  have khc := (boxed_c w c st).cell (i := 8) rfl
  have kdn := (boxed_c w c st).cell (i := 11) rfl
  have kst := (boxed_a w c st).cell (i := 0) rfl
  have hne : ¬ w.heap.size + 1 = P := by have := h.2.lt; omega
  have hne0 : ¬ w.heap.size = P := by have := h.2.lt; omega
  have hlt := (boxed_a w c st).lt
  have hlt0 := (boxed_c w c st).lt
  have i1 : (st < 1) = False := by simp; omega
  have i2 : (12 < st) = False := by simp; omega
  have al := arr18
  unfold boxed at *
  subst hcc
  clear h hs1 hs2
  by_cases hl : 0 < z
  · obtain ⟨L, hL⟩ : ∃ L : Nat, z = L := ⟨z.toNat, by omega⟩
    have HS := hidc (rdr (rlossed hb hL hl))
    have c17 := hb.cell (i := 17) (by decide)
    have f17 := hb.2.frozen 17
    have hw : IntKind.u64.wrap ((L : Nat) : Int) = (L : Int) := by rw [IntKind.wrap_u64]; omega
    have hw2 := wrap_two (f 17) L
    obtain ⟨X, hX⟩ : ∃ X, (f 17 + L) % 18446744073709551616 = X := ⟨_, rfl⟩
    rw [hX] at HS hw2
    clear hX
    subst hL
    unfold cc ac at *
    generalize hg : loss f ↑L = g at *
    clear hb hg
    have lk0 := (HS.out.2.cell (p := ⟨w.heap.size, 8, none⟩) hlt0 hne0).trans khc
    have ld0 := (HS.out.2.cell (p := ⟨w.heap.size, 11, none⟩) hlt0 hne0).trans kdn
    have ls0 := (HS.out.2.cell (p := ⟨w.heap.size + 1, 0, none⟩) hlt hne).trans kst
    rcases (show st = 9 ∨ st = 5 ∨ (¬ st = 9 ∧ ¬ st = 5) by omega) with rfl | rfl | ⟨m9, m5⟩
    all_goals
      go_enter Tryd.func9, Tryd.ntmps9
      go_upto_region 3 with fail
      refine region_tail 12 (by kernel_rfl) (by kernel_rfl) ?_
      simp only [List.take_succ_cons, List.take_zero, List.drop_succ_cons, List.drop_zero]
      repeat still_step
      refine wpStill_nil ?_
      go_wp2_with fail
      refine (one_any (P := P) (f := g) ?sp0 (i := 6) (by decide) _).mono ?_
      case sp0 => exact HS.out.1
      rintro e w1 ⟨rfl, h1, p1⟩
      have o1 := HS.out.2.trans p1 fun _ hx => .inl hx
      have lk1 := (o1.cell (p := ⟨w.heap.size, 8, none⟩) hlt0 hne0).trans khc
      have ld1 := (o1.cell (p := ⟨w.heap.size, 11, none⟩) hlt0 hne0).trans kdn
      have ls1 := (o1.cell (p := ⟨w.heap.size + 1, 0, none⟩) hlt hne).trans kst
      clear p1 lk0 ld0 ls0
      go_wp2_with fail
      refine (one_any h1 (i := 7) (by decide) _).mono ?_
      rintro e w2 ⟨rfl, h2, p2⟩
      have o2 := o1.trans p2 fun _ hx => .inl hx
      have lk2 := (o2.cell (p := ⟨w.heap.size, 8, none⟩) hlt0 hne0).trans khc
      have ld2 := (o2.cell (p := ⟨w.heap.size, 11, none⟩) hlt0 hne0).trans kdn
      have ls2 := (o2.cell (p := ⟨w.heap.size + 1, 0, none⟩) hlt hne).trans kst
      clear p2 lk1 ld1 ls1
      go_wp2_with fail
      go_end0
      exact ⟨rfl, by first | simpa [incIf, getC, stoC, matC, tri, bad, m9, m5] using h2 | simpa [incIf, getC, stoC, matC, tri, bad] using h2, hoo.out.trans o2 fun _ hx => .inl hx⟩
  · have hl' : z ≤ 0 := by omega
    rw [loss_no hl]
    have HS := hidc hb.still
    unfold cc ac at *
    clear hb hl
    generalize f = g at *
    have lk0 := (HS.out.2.cell (p := ⟨w.heap.size, 8, none⟩) hlt0 hne0).trans khc
    have ld0 := (HS.out.2.cell (p := ⟨w.heap.size, 11, none⟩) hlt0 hne0).trans kdn
    have ls0 := (HS.out.2.cell (p := ⟨w.heap.size + 1, 0, none⟩) hlt hne).trans kst
    rcases (show st = 9 ∨ st = 5 ∨ (¬ st = 9 ∧ ¬ st = 5) by omega) with rfl | rfl | ⟨m9, m5⟩
    all_goals
      go_enter Tryd.func9, Tryd.ntmps9
      go_wp2_with fail
      refine (one_any (P := P) (f := g) ?sp0 (i := 6) (by decide) _).mono ?_
      case sp0 => exact HS.out.1
      rintro e w1 ⟨rfl, h1, p1⟩
      have o1 := HS.out.2.trans p1 fun _ hx => .inl hx
      have lk1 := (o1.cell (p := ⟨w.heap.size, 8, none⟩) hlt0 hne0).trans khc
      have ld1 := (o1.cell (p := ⟨w.heap.size, 11, none⟩) hlt0 hne0).trans kdn
      have ls1 := (o1.cell (p := ⟨w.heap.size + 1, 0, none⟩) hlt hne).trans kst
      clear p1 lk0 ld0 ls0
      go_wp2_with fail
      refine (one_any h1 (i := 7) (by decide) _).mono ?_
      rintro e w2 ⟨rfl, h2, p2⟩
      have o2 := o1.trans p2 fun _ hx => .inl hx
      have lk2 := (o2.cell (p := ⟨w.heap.size, 8, none⟩) hlt0 hne0).trans khc
      have ld2 := (o2.cell (p := ⟨w.heap.size, 11, none⟩) hlt0 hne0).trans kdn
      have ls2 := (o2.cell (p := ⟨w.heap.size + 1, 0, none⟩) hlt hne).trans kst
      clear p2 lk1 ld1 ls1
      go_wp2_with fail
      go_end0
      exact ⟨rfl, by first | simpa [incIf, getC, stoC, matC, tri, bad, m9, m5] using h2 | simpa [incIf, getC, stoC, matC, tri, bad] using h2, hoo.out.trans o2 fun _ hx => .inl hx⟩

set_option maxRecDepth 100000 in
set_option maxHeartbeats 1000000 in
theorem rcount_op3 {P : Nat} {f : Nat → Nat} {w : World} (h : SR P f w) (c : Md.Cm) (st z : Int) (hop : c.op = 3) (hs1 : 1 ≤ st) (hs2 : st ≤ 12) (hz : z ≤ 9223372036854775807) :
    Calls Tryd.prog 9 #[.pointer (some ⟨P, 0, none⟩), .agg (cc c).toArray, .agg (ac st).toArray, .int .i64 z] w fun e w' => e = .returned (.tuple #[]) ∧ SR P (matC (loss f z) st c.down) w' ∧ Only (fun b => b = P) w w' := by
  obtain ⟨op, mode, key, val, flags, exp, hasExp, cas, hasCas, delta, init, down, viv, vive, rcc, inv⟩ := c
  dsimp only at hop ⊢
  subst hop
  obtain ⟨c, hcc⟩ : ∃ c, c = (⟨3, mode, key, val, flags, exp, hasExp, cas, hasCas, delta, init, down, viv, vive, rcc, inv⟩ : Md.Cm) := ⟨_, rfl⟩
  have hb := h.below (boxed_below w c st)
  have hoo := hidc (Below.only (D := fun b => b = P) (boxed_below w c st))
  have kop := (boxed_c w c st).cell (i := 0) rfl
  have khc := (boxed_c w c st).cell (i := 8) rfl
  have kdn := (boxed_c w c st).cell (i := 11) rfl
  have kst := (boxed_a w c st).cell (i := 0) rfl
  have hne : ¬ w.heap.size + 1 = P := by have := h.2.lt; omega
  have hne0 : ¬ w.heap.size = P := by have := h.2.lt; omega
  have hlt := (boxed_a w c st).lt
  have hlt0 := (boxed_c w c st).lt
  have i1 : (st < 1) = False := by simp; omega
  have i2 : (12 < st) = False := by simp; omega
  have al := arr18
  unfold boxed at *
  subst hcc
  clear h hs1 hs2
  by_cases hl : 0 < z
  · obtain ⟨L, hL⟩ : ∃ L : Nat, z = L := ⟨z.toNat, by omega⟩
    have HS := hidc (rdr (rlossed hb hL hl))
    have c17 := hb.cell (i := 17) (by decide)
    have f17 := hb.2.frozen 17
    have hw : IntKind.u64.wrap ((L : Nat) : Int) = (L : Int) := by rw [IntKind.wrap_u64]; omega
    have hw2 := wrap_two (f 17) L
    obtain ⟨X, hX⟩ : ∃ X, (f 17 + L) % 18446744073709551616 = X := ⟨_, rfl⟩
    rw [hX] at HS hw2
    clear hX
    subst hL
    unfold cc ac at *
    generalize hg : loss f ↑L = g at *
    clear hb hg
    have lk0 := (HS.out.2.cell (p := ⟨w.heap.size, 8, none⟩) hlt0 hne0).trans khc
    have ld0 := (HS.out.2.cell (p := ⟨w.heap.size, 11, none⟩) hlt0 hne0).trans kdn
    have ls0 := (HS.out.2.cell (p := ⟨w.heap.size + 1, 0, none⟩) hlt hne).trans kst
    rcases (show st = 6 ∨ st = 5 ∨ (¬ st = 6 ∧ ¬ st = 5) by omega) with rfl | rfl | ⟨m6, m5⟩
    all_goals cases down
    all_goals
      go_enter Tryd.func9, Tryd.ntmps9
      go_upto_region 3 with fail
      refine region_tail 12 (by kernel_rfl) (by kernel_rfl) ?_
      simp only [List.take_succ_cons, List.take_zero, List.drop_succ_cons, List.drop_zero]
      repeat still_step
      refine wpStill_nil ?_
      go_wp2_with fail
      refine (one_any (P := P) (f := g) ?sp0 (i := 8) (by decide) _).mono ?_
      case sp0 => exact HS.out.1
      rintro e w1 ⟨rfl, h1, p1⟩
      have o1 := HS.out.2.trans p1 fun _ hx => .inl hx
      have lk1 := (o1.cell (p := ⟨w.heap.size, 8, none⟩) hlt0 hne0).trans khc
      have ld1 := (o1.cell (p := ⟨w.heap.size, 11, none⟩) hlt0 hne0).trans kdn
      have ls1 := (o1.cell (p := ⟨w.heap.size + 1, 0, none⟩) hlt hne).trans kst
      clear p1 lk0 ld0 ls0
      go_wp2_with fail
      refine (one_any h1 (i := 9) (by decide) _).mono ?_
      rintro e w2 ⟨rfl, h2, p2⟩
      have o2 := o1.trans p2 fun _ hx => .inl hx
      have lk2 := (o2.cell (p := ⟨w.heap.size, 8, none⟩) hlt0 hne0).trans khc
      have ld2 := (o2.cell (p := ⟨w.heap.size, 11, none⟩) hlt0 hne0).trans kdn
      have ls2 := (o2.cell (p := ⟨w.heap.size + 1, 0, none⟩) hlt hne).trans kst
      clear p2 lk1 ld1 ls1
      go_wp2_with fail
      refine (one_any h2 (i := 10) (by decide) _).mono ?_
      rintro e w3 ⟨rfl, h3, p3⟩
      have o3 := o2.trans p3 fun _ hx => .inl hx
      have lk3 := (o3.cell (p := ⟨w.heap.size, 8, none⟩) hlt0 hne0).trans khc
      have ld3 := (o3.cell (p := ⟨w.heap.size, 11, none⟩) hlt0 hne0).trans kdn
      have ls3 := (o3.cell (p := ⟨w.heap.size + 1, 0, none⟩) hlt hne).trans kst
      clear p3 lk2 ld2 ls2
      go_wp2_with fail
      refine (one_any h3 (i := 11) (by decide) _).mono ?_
      rintro e w4 ⟨rfl, h4, p4⟩
      have o4 := o3.trans p4 fun _ hx => .inl hx
      have lk4 := (o4.cell (p := ⟨w.heap.size, 8, none⟩) hlt0 hne0).trans khc
      have ld4 := (o4.cell (p := ⟨w.heap.size, 11, none⟩) hlt0 hne0).trans kdn
      have ls4 := (o4.cell (p := ⟨w.heap.size + 1, 0, none⟩) hlt hne).trans kst
      clear p4 lk3 ld3 ls3
      go_wp2_with fail
      go_end0
      exact ⟨rfl, by first | simpa [incIf, getC, stoC, matC, tri, bad, m6, m5] using h4 | simpa [incIf, getC, stoC, matC, tri, bad] using h4, hoo.out.trans o4 fun _ hx => .inl hx⟩
  · have hl' : z ≤ 0 := by omega
    rw [loss_no hl]
    have HS := hidc hb.still
    unfold cc ac at *
    clear hb hl
    generalize f = g at *
    have lk0 := (HS.out.2.cell (p := ⟨w.heap.size, 8, none⟩) hlt0 hne0).trans khc
    have ld0 := (HS.out.2.cell (p := ⟨w.heap.size, 11, none⟩) hlt0 hne0).trans kdn
    have ls0 := (HS.out.2.cell (p := ⟨w.heap.size + 1, 0, none⟩) hlt hne).trans kst
    rcases (show st = 6 ∨ st = 5 ∨ (¬ st = 6 ∧ ¬ st = 5) by omega) with rfl | rfl | ⟨m6, m5⟩
    all_goals cases down
    all_goals
      go_enter Tryd.func9, Tryd.ntmps9
      go_wp2_with fail
      refine (one_any (P := P) (f := g) ?sp0 (i := 8) (by decide) _).mono ?_
      case sp0 => exact HS.out.1
      rintro e w1 ⟨rfl, h1, p1⟩
      have o1 := HS.out.2.trans p1 fun _ hx => .inl hx
      have lk1 := (o1.cell (p := ⟨w.heap.size, 8, none⟩) hlt0 hne0).trans khc
      have ld1 := (o1.cell (p := ⟨w.heap.size, 11, none⟩) hlt0 hne0).trans kdn
      have ls1 := (o1.cell (p := ⟨w.heap.size + 1, 0, none⟩) hlt hne).trans kst
      clear p1 lk0 ld0 ls0
      go_wp2_with fail
      refine (one_any h1 (i := 9) (by decide) _).mono ?_
      rintro e w2 ⟨rfl, h2, p2⟩
      have o2 := o1.trans p2 fun _ hx => .inl hx
      have lk2 := (o2.cell (p := ⟨w.heap.size, 8, none⟩) hlt0 hne0).trans khc
      have ld2 := (o2.cell (p := ⟨w.heap.size, 11, none⟩) hlt0 hne0).trans kdn
      have ls2 := (o2.cell (p := ⟨w.heap.size + 1, 0, none⟩) hlt hne).trans kst
      clear p2 lk1 ld1 ls1
      go_wp2_with fail
      refine (one_any h2 (i := 10) (by decide) _).mono ?_
      rintro e w3 ⟨rfl, h3, p3⟩
      have o3 := o2.trans p3 fun _ hx => .inl hx
      have lk3 := (o3.cell (p := ⟨w.heap.size, 8, none⟩) hlt0 hne0).trans khc
      have ld3 := (o3.cell (p := ⟨w.heap.size, 11, none⟩) hlt0 hne0).trans kdn
      have ls3 := (o3.cell (p := ⟨w.heap.size + 1, 0, none⟩) hlt hne).trans kst
      clear p3 lk2 ld2 ls2
      go_wp2_with fail
      refine (one_any h3 (i := 11) (by decide) _).mono ?_
      rintro e w4 ⟨rfl, h4, p4⟩
      have o4 := o3.trans p4 fun _ hx => .inl hx
      have lk4 := (o4.cell (p := ⟨w.heap.size, 8, none⟩) hlt0 hne0).trans khc
      have ld4 := (o4.cell (p := ⟨w.heap.size, 11, none⟩) hlt0 hne0).trans kdn
      have ls4 := (o4.cell (p := ⟨w.heap.size + 1, 0, none⟩) hlt hne).trans kst
      clear p4 lk3 ld3 ls3
      go_wp2_with fail
      go_end0
      exact ⟨rfl, by first | simpa [incIf, getC, stoC, matC, tri, bad, m6, m5] using h4 | simpa [incIf, getC, stoC, matC, tri, bad] using h4, hoo.out.trans o4 fun _ hx => .inl hx⟩

set_option maxRecDepth 100000 in
set_option maxHeartbeats 1000000 in
theorem rcount_op0 {P : Nat} {f : Nat → Nat} {w : World} (h : SR P f w) (c : Md.Cm) (st z : Int) (hop : ¬ c.op = 1 ∧ ¬ c.op = 2 ∧ ¬ c.op = 3 ∧ ¬ c.op = 4 ∧ ¬ c.op = 5 ∧ ¬ c.op = 6) (hs1 : 1 ≤ st) (hs2 : st ≤ 12) (hz : z ≤ 9223372036854775807) :
    Calls Tryd.prog 9 #[.pointer (some ⟨P, 0, none⟩), .agg (cc c).toArray, .agg (ac st).toArray, .int .i64 z] w fun e w' => e = .returned (.tuple #[]) ∧ SR P (loss f z) w' ∧ Only (fun b => b = P) w w' := by
  obtain ⟨op, mode, key, val, flags, exp, hasExp, cas, hasCas, delta, init, down, viv, vive, rcc, inv⟩ := c
  dsimp only at hop ⊢

  obtain ⟨c, hcc⟩ : ∃ c, c = (⟨op, mode, key, val, flags, exp, hasExp, cas, hasCas, delta, init, down, viv, vive, rcc, inv⟩ : Md.Cm) := ⟨_, rfl⟩
  have hb := h.below (boxed_below w c st)
  have hoo := hidc (Below.only (D := fun b => b = P) (boxed_below w c st))
  have kop := (boxed_c w c st).cell (i := 0) rfl
  have khc := (boxed_c w c st).cell (i := 8) rfl
  have kdn := (boxed_c w c st).cell (i := 11) rfl
  have kst := (boxed_a w c st).cell (i := 0) rfl
  have hne : ¬ w.heap.size + 1 = P := by have := h.2.lt; omega
  have hne0 : ¬ w.heap.size = P := by have := h.2.lt; omega
  have hlt := (boxed_a w c st).lt
  have hlt0 := (boxed_c w c st).lt
  have i1 : (st < 1) = False := by simp; omega
  have i2 : (12 < st) = False := by simp; omega
  have al := arr18
  unfold boxed at *
  subst hcc
  clear h hs1 hs2
  obtain ⟨n1, n2, n3, n4, n5, n6⟩ := hop
  by_cases hl : 0 < z
  · obtain ⟨L, hL⟩ : ∃ L : Nat, z = L := ⟨z.toNat, by omega⟩
    have HS := hidc (rdr (rlossed hb hL hl))
    have c17 := hb.cell (i := 17) (by decide)
    have f17 := hb.2.frozen 17
    have hw : IntKind.u64.wrap ((L : Nat) : Int) = (L : Int) := by rw [IntKind.wrap_u64]; omega
    have hw2 := wrap_two (f 17) L
    obtain ⟨X, hX⟩ : ∃ X, (f 17 + L) % 18446744073709551616 = X := ⟨_, rfl⟩
    rw [hX] at HS hw2
    clear hX
    subst hL
    unfold cc ac at *
    generalize hg : loss f ↑L = g at *
    clear hb hg
    have lk0 := (HS.out.2.cell (p := ⟨w.heap.size, 8, none⟩) hlt0 hne0).trans khc
    have ld0 := (HS.out.2.cell (p := ⟨w.heap.size, 11, none⟩) hlt0 hne0).trans kdn
    have ls0 := (HS.out.2.cell (p := ⟨w.heap.size + 1, 0, none⟩) hlt hne).trans kst
    go_enter Tryd.func9, Tryd.ntmps9
    go_upto_region 3 with fail
    refine region_tail 12 (by kernel_rfl) (by kernel_rfl) ?_
    simp only [List.take_succ_cons, List.take_zero, List.drop_succ_cons, List.drop_zero]
    repeat still_step
    refine wpStill_nil ?_
    go_wp2_with fail
    go_end0
    exact ⟨rfl, HS.out.1, hoo.out.trans HS.out.2 fun _ hx => .inl hx⟩
  · have hl' : z ≤ 0 := by omega
    rw [loss_no hl]
    have HS := hidc hb.still
    unfold cc ac at *
    clear hb hl
    generalize f = g at *
    have lk0 := (HS.out.2.cell (p := ⟨w.heap.size, 8, none⟩) hlt0 hne0).trans khc
    have ld0 := (HS.out.2.cell (p := ⟨w.heap.size, 11, none⟩) hlt0 hne0).trans kdn
    have ls0 := (HS.out.2.cell (p := ⟨w.heap.size + 1, 0, none⟩) hlt hne).trans kst
    go_enter Tryd.func9, Tryd.ntmps9
    go_wp2_with fail
    go_end0
    exact ⟨rfl, HS.out.1, hoo.out.trans HS.out.2 fun _ hx => .inl hx⟩

/-- Count, whatever the command, the status and the loss. -/
theorem rcount_any {P : Nat} {f : Nat → Nat} {w : World} (h : SR P f w) (c : Md.Cm) (st z : Int) (hz : z ≤ 9223372036854775807) :
    Calls Tryd.prog 9 #[.pointer (some ⟨P, 0, none⟩), .agg (cc c).toArray, .agg (ac st).toArray, .int .i64 z] w fun e w' => e = .returned (.tuple #[]) ∧ SR P (cnt f c.op st c.hasCas c.down z) w' ∧ Only (fun b => b = P) w w' := by
  unfold cnt
  by_cases hs : st < 1 ∨ 12 < st
  · rw [if_pos hs]; exact rcount_bad h c st z hs
  · rw [if_neg hs]
    have hs1 : 1 ≤ st := by omega
    have hs2 : st ≤ 12 := by omega
    unfold opC
    by_cases h1 : c.op = 1
    · rw [if_pos h1]; exact rcount_op1 h c st z h1 hs1 hs2 hz
    rw [if_neg h1]
    by_cases h2 : c.op = 2
    · rw [if_pos h2]; exact rcount_op2 h c st z h2 hs1 hs2 hz
    rw [if_neg h2]
    by_cases h3 : c.op = 3
    · rw [if_pos h3]; exact rcount_op3 h c st z h3 hs1 hs2 hz
    rw [if_neg h3]
    by_cases h4 : c.op = 4
    · rw [if_pos h4]; exact rcount_op4 h c st z h4 hs1 hs2 hz
    rw [if_neg h4]
    by_cases h5 : c.op = 5
    · rw [if_pos h5]; exact rcount_op5 h c st z h5 hs1 hs2 hz
    rw [if_neg h5]
    by_cases h6 : c.op = 6
    · rw [if_pos h6]; exact rcount_op6 h c st z h6 hs1 hs2 hz
    rw [if_neg h6]
    exact rcount_op0 h c st z ⟨h1, h2, h3, h4, h5, h6⟩ hs1 hs2 hz
end Go.Proofs.YtfoggbgemdlhbaaDoor.Sc
