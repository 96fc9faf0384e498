/-
  The program's Count of each Op: each command and answer adds what the plain mathematics says (S1). Conditions: the counts lie in one block, each below 2^64.
-/
import Derived.Test.YtfoggbgemdlhbaaDoorStsCount
import Derived.Deep.RegionHeld3
namespace Go.Proofs.YtfoggbgemdlhbaaDoor.Sc
open Go Go.RowKit Go.Lib

theorem SP.still {P : Nat} {f : Nat → Nat} {w : World} (h : SP P f w) : SP P f w ∧ Only (fun b => b = P) w w := ⟨h, Only.refl _ w⟩
theorem SP.drew {P : Nat} {f : Nat → Nat} {w : World} (h : SP P f w) : SP P f w.drew := h
theorem told {fn : Nat} {args : Array Value} {P : Nat} {g : Nat → Nat} {W : World} {b : Nat} {v : Value} (h : Calls Tryd.prog fn args W.drew fun e w' => e = .returned (.tuple #[]) ∧ SP P g w' ∧ Only (fun b => b = P) W.drew w') (hx : W.cell? ⟨b, 0, none⟩ = some v) (hne : ¬ b = P) :
    Calls Tryd.prog fn args W.drew fun e w' => e = .returned (.tuple #[]) ∧ SP P g w' ∧ Only (fun b => b = P) W.drew w' ∧ w'.cell? ⟨b, 0, none⟩ = some v :=
  h.mono fun _ _ ⟨h1, h2, h3⟩ => ⟨h1, h2, h3, (h3.cell (p := ⟨b, 0, none⟩) (cell_lt hx) hne).trans hx⟩
theorem lossed {P : Nat} {f : Nat → Nat} {w : World} (h : SP P f w) {z : Int} {L : Nat} (hz : z = L) (h0 : 0 < z) :
    SP P (loss f z) (w.setCell ⟨P, 17, none⟩ (.int .u64 (((f 17 + L) % 18446744073709551616 : Nat) : Int))) ∧ Only (fun b => b = P) w (w.setCell ⟨P, 17, none⟩ (.int .u64 (((f 17 + L) % 18446744073709551616 : Nat) : Int))) := by
  subst hz
  unfold loss
  rw [if_pos h0]
  exact h.put 17 17 (Nat.mod_lt _ (by decide)) rfl

set_option maxRecDepth 100000 in
set_option maxHeartbeats 1000000 in
theorem count_op1 {P : Nat} {f : Nat → Nat} {w : World} (h : SP P f w) (c : Md.Cm) (st z : Int) (hop : c.op = 1) (hs1 : 1 ≤ st) (hs2 : st ≤ 12) (hz : z ≤ 9223372036854775807) :
    Calls Tryd.prog 8 #[.pointer (some ⟨P, 0, none⟩), .agg (cc c).toArray, .agg (ac st).toArray, .int .i64 z] w fun e w' => e = .returned (.tuple #[]) ∧ SP P (getC (loss f z) st) w' ∧ Only (fun b => b = P) w w' := by
  obtain ⟨op, mode, key, val, flags, exp, hasExp, cas, hasCas, delta, init, down, viv, vive, rcc, inv⟩ := c
  dsimp only at hop ⊢
  subst hop
  obtain ⟨c, hcc⟩ : ∃ c, c = (⟨1, mode, key, val, flags, exp, hasExp, cas, hasCas, delta, init, down, viv, vive, rcc, inv⟩ : Md.Cm) := ⟨_, rfl⟩
  have hb := h.below (boxed_below w c st)
  have hoo := hidc (Below.only (D := fun b => b = P) (boxed_below w c st))
  have kop := (boxed_c w c st).cell (i := 0) rfl
  have khc := (boxed_c w c st).cell (i := 8) rfl
  have kdn := (boxed_c w c st).cell (i := 11) rfl
  have kst := (boxed_a w c st).cell (i := 0) rfl
  have hne : ¬ w.heap.size + 1 = P := by have := h.2.lt; omega
  have hlt := (boxed_a w c st).lt
  have i1 : (st < 1) = False := by simp; omega
  have i2 : (12 < st) = False := by simp; omega
  unfold boxed at *
  subst hcc
  clear h hs1 hs2
  by_cases hl : 0 < z
  · obtain ⟨L, hL⟩ : ∃ L : Nat, z = L := ⟨z.toNat, by omega⟩
    have HS := hidc (lossed hb hL hl)
    have c17 := hb.cell (j := 17) (i := 17) rfl
    have f17 := hb.2.frozen 17
    have hw : IntKind.u64.wrap ((L : Nat) : Int) = (L : Int) := by rw [IntKind.wrap_u64]; omega
    have hw2 := wrap_two (f 17) L
    obtain ⟨X, hX⟩ : ∃ X, (f 17 + L) % 18446744073709551616 = X := ⟨_, rfl⟩
    rw [hX] at HS hw2
    clear hX
    subst hL
    unfold cc ac at *
    generalize hg : loss f ↑L = g at *
    clear hb hg
    go_enter Tryd.func8, Tryd.ntmps8
    go_wp2_with fail
    refine (getc_any (f := g) ?sp st).mono ?_
    case sp => exact HS.out.1
    rintro e w1 ⟨rfl, h1, o1⟩
    have HO := hidc (hoo.out.trans (HS.out.2.trans o1 fun _ hx => .inl hx) fun _ hx => .inl hx)
    go_wp2_with fail
    go_end0
    exact ⟨rfl, h1, HO.out⟩
  · have hl' : z ≤ 0 := by omega
    rw [loss_no hl]
    have HS := hidc hb.still
    unfold cc ac at *
    clear hb hl
    generalize f = g at *
    go_enter Tryd.func8, Tryd.ntmps8
    go_wp2_with fail
    refine (getc_any (f := g) ?sp st).mono ?_
    case sp => exact HS.out.1
    rintro e w1 ⟨rfl, h1, o1⟩
    have HO := hidc (hoo.out.trans (HS.out.2.trans o1 fun _ hx => .inl hx) fun _ hx => .inl hx)
    go_wp2_with fail
    go_end0
    exact ⟨rfl, h1, HO.out⟩

set_option maxRecDepth 100000 in
set_option maxHeartbeats 1000000 in
theorem count_op2 {P : Nat} {f : Nat → Nat} {w : World} (h : SP P f w) (c : Md.Cm) (st z : Int) (hop : c.op = 2) (hs1 : 1 ≤ st) (hs2 : st ≤ 12) (hz : z ≤ 9223372036854775807) :
    Calls Tryd.prog 8 #[.pointer (some ⟨P, 0, none⟩), .agg (cc c).toArray, .agg (ac st).toArray, .int .i64 z] w fun e w' => e = .returned (.tuple #[]) ∧ SP P (stoC (loss f z) st c.hasCas) w' ∧ Only (fun b => b = P) w w' := by
  obtain ⟨op, mode, key, val, flags, exp, hasExp, cas, hasCas, delta, init, down, viv, vive, rcc, inv⟩ := c
  dsimp only at hop ⊢
  subst hop
  obtain ⟨c, hcc⟩ : ∃ c, c = (⟨2, mode, key, val, flags, exp, hasExp, cas, hasCas, delta, init, down, viv, vive, rcc, inv⟩ : Md.Cm) := ⟨_, rfl⟩
  have hb := h.below (boxed_below w c st)
  have hoo := hidc (Below.only (D := fun b => b = P) (boxed_below w c st))
  have kop := (boxed_c w c st).cell (i := 0) rfl
  have khc := (boxed_c w c st).cell (i := 8) rfl
  have kdn := (boxed_c w c st).cell (i := 11) rfl
  have kst := (boxed_a w c st).cell (i := 0) rfl
  have hne : ¬ w.heap.size + 1 = P := by have := h.2.lt; omega
  have hlt := (boxed_a w c st).lt
  have i1 : (st < 1) = False := by simp; omega
  have i2 : (12 < st) = False := by simp; omega
  unfold boxed at *
  subst hcc
  clear h hs1 hs2
  by_cases hl : 0 < z
  · obtain ⟨L, hL⟩ : ∃ L : Nat, z = L := ⟨z.toNat, by omega⟩
    have HS := hidc (lossed hb hL hl)
    have c17 := hb.cell (j := 17) (i := 17) rfl
    have f17 := hb.2.frozen 17
    have hw : IntKind.u64.wrap ((L : Nat) : Int) = (L : Int) := by rw [IntKind.wrap_u64]; omega
    have hw2 := wrap_two (f 17) L
    obtain ⟨X, hX⟩ : ∃ X, (f 17 + L) % 18446744073709551616 = X := ⟨_, rfl⟩
    rw [hX] at HS hw2
    clear hX
    subst hL
    unfold cc ac at *
    generalize hg : loss f ↑L = g at *
    clear hb hg
    go_enter Tryd.func8, Tryd.ntmps8
    go_wp2_with fail
    refine (stoc_any (f := g) ?sp st hasCas).mono ?_
    case sp => exact HS.out.1
    rintro e w1 ⟨rfl, h1, o1⟩
    have HO := hidc (hoo.out.trans (HS.out.2.trans o1 fun _ hx => .inl hx) fun _ hx => .inl hx)
    go_wp2_with fail
    go_end0
    exact ⟨rfl, h1, HO.out⟩
  · have hl' : z ≤ 0 := by omega
    rw [loss_no hl]
    have HS := hidc hb.still
    unfold cc ac at *
    clear hb hl
    generalize f = g at *
    go_enter Tryd.func8, Tryd.ntmps8
    go_wp2_with fail
    refine (stoc_any (f := g) ?sp st hasCas).mono ?_
    case sp => exact HS.out.1
    rintro e w1 ⟨rfl, h1, o1⟩
    have HO := hidc (hoo.out.trans (HS.out.2.trans o1 fun _ hx => .inl hx) fun _ hx => .inl hx)
    go_wp2_with fail
    go_end0
    exact ⟨rfl, h1, HO.out⟩

set_option maxRecDepth 100000 in
set_option maxHeartbeats 1000000 in
theorem count_op3 {P : Nat} {f : Nat → Nat} {w : World} (h : SP P f w) (c : Md.Cm) (st z : Int) (hop : c.op = 3) (hs1 : 1 ≤ st) (hs2 : st ≤ 12) (hz : z ≤ 9223372036854775807) :
    Calls Tryd.prog 8 #[.pointer (some ⟨P, 0, none⟩), .agg (cc c).toArray, .agg (ac st).toArray, .int .i64 z] w fun e w' => e = .returned (.tuple #[]) ∧ SP P (matC (loss f z) st c.down) w' ∧ Only (fun b => b = P) w w' := by
  obtain ⟨op, mode, key, val, flags, exp, hasExp, cas, hasCas, delta, init, down, viv, vive, rcc, inv⟩ := c
  dsimp only at hop ⊢
  subst hop
  obtain ⟨c, hcc⟩ : ∃ c, c = (⟨3, mode, key, val, flags, exp, hasExp, cas, hasCas, delta, init, down, viv, vive, rcc, inv⟩ : Md.Cm) := ⟨_, rfl⟩
  have hb := h.below (boxed_below w c st)
  have hoo := hidc (Below.only (D := fun b => b = P) (boxed_below w c st))
  have kop := (boxed_c w c st).cell (i := 0) rfl
  have khc := (boxed_c w c st).cell (i := 8) rfl
  have kdn := (boxed_c w c st).cell (i := 11) rfl
  have kst := (boxed_a w c st).cell (i := 0) rfl
  have hne : ¬ w.heap.size + 1 = P := by have := h.2.lt; omega
  have hlt := (boxed_a w c st).lt
  have i1 : (st < 1) = False := by simp; omega
  have i2 : (12 < st) = False := by simp; omega
  unfold boxed at *
  subst hcc
  clear h hs1 hs2
  by_cases hl : 0 < z
  · obtain ⟨L, hL⟩ : ∃ L : Nat, z = L := ⟨z.toNat, by omega⟩
    have HS := hidc (lossed hb hL hl)
    have c17 := hb.cell (j := 17) (i := 17) rfl
    have f17 := hb.2.frozen 17
    have hw : IntKind.u64.wrap ((L : Nat) : Int) = (L : Int) := by rw [IntKind.wrap_u64]; omega
    have hw2 := wrap_two (f 17) L
    obtain ⟨X, hX⟩ : ∃ X, (f 17 + L) % 18446744073709551616 = X := ⟨_, rfl⟩
    rw [hX] at HS hw2
    clear hX
    subst hL
    unfold cc ac at *
    generalize hg : loss f ↑L = g at *
    clear hb hg
    go_enter Tryd.func8, Tryd.ntmps8
    go_wp2_with fail
    refine (matc_any (f := g) ?sp st down).mono ?_
    case sp => exact HS.out.1
    rintro e w1 ⟨rfl, h1, o1⟩
    have HO := hidc (hoo.out.trans (HS.out.2.trans o1 fun _ hx => .inl hx) fun _ hx => .inl hx)
    go_wp2_with fail
    go_end0
    exact ⟨rfl, h1, HO.out⟩
  · have hl' : z ≤ 0 := by omega
    rw [loss_no hl]
    have HS := hidc hb.still
    unfold cc ac at *
    clear hb hl
    generalize f = g at *
    go_enter Tryd.func8, Tryd.ntmps8
    go_wp2_with fail
    refine (matc_any (f := g) ?sp st down).mono ?_
    case sp => exact HS.out.1
    rintro e w1 ⟨rfl, h1, o1⟩
    have HO := hidc (hoo.out.trans (HS.out.2.trans o1 fun _ hx => .inl hx) fun _ hx => .inl hx)
    go_wp2_with fail
    go_end0
    exact ⟨rfl, h1, HO.out⟩

set_option maxRecDepth 100000 in
set_option maxHeartbeats 1000000 in
theorem count_op4 {P : Nat} {f : Nat → Nat} {w : World} (h : SP P f w) (c : Md.Cm) (st z : Int) (hop : c.op = 4) (hs1 : 1 ≤ st) (hs2 : st ≤ 12) (hz : z ≤ 9223372036854775807) :
    Calls Tryd.prog 8 #[.pointer (some ⟨P, 0, none⟩), .agg (cc c).toArray, .agg (ac st).toArray, .int .i64 z] w fun e w' => e = .returned (.tuple #[]) ∧ SP P (tri (inc (loss f z) 2) 15 16 st 8) w' ∧ Only (fun b => b = P) w w' := by
  obtain ⟨op, mode, key, val, flags, exp, hasExp, cas, hasCas, delta, init, down, viv, vive, rcc, inv⟩ := c
  dsimp only at hop ⊢
  subst hop
  obtain ⟨c, hcc⟩ : ∃ c, c = (⟨4, mode, key, val, flags, exp, hasExp, cas, hasCas, delta, init, down, viv, vive, rcc, inv⟩ : Md.Cm) := ⟨_, rfl⟩
  have hb := h.below (boxed_below w c st)
  have hoo := hidc (Below.only (D := fun b => b = P) (boxed_below w c st))
  have kop := (boxed_c w c st).cell (i := 0) rfl
  have khc := (boxed_c w c st).cell (i := 8) rfl
  have kdn := (boxed_c w c st).cell (i := 11) rfl
  have kst := (boxed_a w c st).cell (i := 0) rfl
  have hne : ¬ w.heap.size + 1 = P := by have := h.2.lt; omega
  have hlt := (boxed_a w c st).lt
  have i1 : (st < 1) = False := by simp; omega
  have i2 : (12 < st) = False := by simp; omega
  unfold boxed at *
  subst hcc
  clear h hs1 hs2
  by_cases hl : 0 < z
  · obtain ⟨L, hL⟩ : ∃ L : Nat, z = L := ⟨z.toNat, by omega⟩
    have HS := hidc (lossed hb hL hl)
    have c17 := hb.cell (j := 17) (i := 17) rfl
    have f17 := hb.2.frozen 17
    have hw : IntKind.u64.wrap ((L : Nat) : Int) = (L : Int) := by rw [IntKind.wrap_u64]; omega
    have hw2 := wrap_two (f 17) L
    obtain ⟨X, hX⟩ : ∃ X, (f 17 + L) % 18446744073709551616 = X := ⟨_, rfl⟩
    rw [hX] at HS hw2
    clear hX
    subst hL
    unfold cc ac at *
    generalize hg : loss f ↑L = g at *
    clear hb hg
    have c2 := HS.out.1.cell (j := 2) (i := 2) rfl
    have f2 := HS.out.1.2.frozen 2
    have HI := hidc (HS.out.1.one 2 2 (fun _ => rfl))
    have HO := hidc (hoo.out.trans (HS.out.2.trans HI.out.2 fun _ hx => .inl hx) fun _ hx => .inl hx)
    have hx1 := ((HS.out.2.trans HI.out.2 fun _ hx => .inl hx).cell (p := ⟨w.heap.size + 1, 0, none⟩) hlt hne).trans kst
    have cT := told (sp_tri HI.out.1.drew 14 15 16 rfl rfl (fun _ => rfl) (fun _ => rfl) st 8) hx1 hne
    go_enter Tryd.func8, Tryd.ntmps8
    go_wp2_with fail
    go_region_held3 (fun W => W.cell? ⟨w.heap.size + 1, 0, none⟩ = some (.int .i64 st)) (first | exact hxk | exact hx1) (first | (go_at_call 18; refine cT.mono ?_; rintro e w4 ⟨rfl, h4, o4, hxk⟩))
    go_wp2_with fail
    go_end0
    exact ⟨rfl, h4, HO.out.drew.trans o4 fun _ hx => .inl hx⟩
  · have hl' : z ≤ 0 := by omega
    rw [loss_no hl]
    have HS := hidc hb.still
    unfold cc ac at *
    clear hb hl
    generalize f = g at *
    have c2 := HS.out.1.cell (j := 2) (i := 2) rfl
    have f2 := HS.out.1.2.frozen 2
    have HI := hidc (HS.out.1.one 2 2 (fun _ => rfl))
    have HO := hidc (hoo.out.trans (HS.out.2.trans HI.out.2 fun _ hx => .inl hx) fun _ hx => .inl hx)
    have hx1 := ((HS.out.2.trans HI.out.2 fun _ hx => .inl hx).cell (p := ⟨w.heap.size + 1, 0, none⟩) hlt hne).trans kst
    have cT := told (sp_tri HI.out.1.drew 14 15 16 rfl rfl (fun _ => rfl) (fun _ => rfl) st 8) hx1 hne
    go_enter Tryd.func8, Tryd.ntmps8
    go_wp2_with fail
    go_region_held3 (fun W => W.cell? ⟨w.heap.size + 1, 0, none⟩ = some (.int .i64 st)) (first | exact hxk | exact hx1) (first | (go_at_call 18; refine cT.mono ?_; rintro e w4 ⟨rfl, h4, o4, hxk⟩))
    go_wp2_with fail
    go_end0
    exact ⟨rfl, h4, HO.out.drew.trans o4 fun _ hx => .inl hx⟩

set_option maxRecDepth 100000 in
set_option maxHeartbeats 1000000 in
theorem count_op5 {P : Nat} {f : Nat → Nat} {w : World} (h : SP P f w) (c : Md.Cm) (st z : Int) (hop : c.op = 5) (hs1 : 1 ≤ st) (hs2 : st ≤ 12) (hz : z ≤ 9223372036854775807) :
    Calls Tryd.prog 8 #[.pointer (some ⟨P, 0, none⟩), .agg (cc c).toArray, .agg (ac st).toArray, .int .i64 z] w fun e w' => e = .returned (.tuple #[]) ∧ SP P (tri (loss f z) 6 7 st 9) w' ∧ Only (fun b => b = P) w w' := by
  obtain ⟨op, mode, key, val, flags, exp, hasExp, cas, hasCas, delta, init, down, viv, vive, rcc, inv⟩ := c
  dsimp only at hop ⊢
  subst hop
  obtain ⟨c, hcc⟩ : ∃ c, c = (⟨5, mode, key, val, flags, exp, hasExp, cas, hasCas, delta, init, down, viv, vive, rcc, inv⟩ : Md.Cm) := ⟨_, rfl⟩
  have hb := h.below (boxed_below w c st)
  have hoo := hidc (Below.only (D := fun b => b = P) (boxed_below w c st))
  have kop := (boxed_c w c st).cell (i := 0) rfl
  have khc := (boxed_c w c st).cell (i := 8) rfl
  have kdn := (boxed_c w c st).cell (i := 11) rfl
  have kst := (boxed_a w c st).cell (i := 0) rfl
  have hne : ¬ w.heap.size + 1 = P := by have := h.2.lt; omega
  have hlt := (boxed_a w c st).lt
  have i1 : (st < 1) = False := by simp; omega
  have i2 : (12 < st) = False := by simp; omega
  unfold boxed at *
  subst hcc
  clear h hs1 hs2
  by_cases hl : 0 < z
  · obtain ⟨L, hL⟩ : ∃ L : Nat, z = L := ⟨z.toNat, by omega⟩
    have HS := hidc (lossed hb hL hl)
    have c17 := hb.cell (j := 17) (i := 17) rfl
    have f17 := hb.2.frozen 17
    have hw : IntKind.u64.wrap ((L : Nat) : Int) = (L : Int) := by rw [IntKind.wrap_u64]; omega
    have hw2 := wrap_two (f 17) L
    obtain ⟨X, hX⟩ : ∃ X, (f 17 + L) % 18446744073709551616 = X := ⟨_, rfl⟩
    rw [hX] at HS hw2
    clear hX
    subst hL
    unfold cc ac at *
    generalize hg : loss f ↑L = g at *
    clear hb hg
    have HO := hidc (hoo.out.trans HS.out.2 fun _ hx => .inl hx)
    have hx1 := (HS.out.2.cell (p := ⟨w.heap.size + 1, 0, none⟩) hlt hne).trans kst
    have cT := told (sp_tri HS.out.1.drew 6 6 7 rfl rfl (fun _ => rfl) (fun _ => rfl) st 9) hx1 hne
    go_enter Tryd.func8, Tryd.ntmps8
    go_wp2_with fail
    go_region_held3 (fun W => W.cell? ⟨w.heap.size + 1, 0, none⟩ = some (.int .i64 st)) (first | exact hxk | exact hx1) (first | (go_at_call 18; refine cT.mono ?_; rintro e w4 ⟨rfl, h4, o4, hxk⟩))
    go_wp2_with fail
    go_end0
    exact ⟨rfl, h4, HO.out.drew.trans o4 fun _ hx => .inl hx⟩
  · have hl' : z ≤ 0 := by omega
    rw [loss_no hl]
    have HS := hidc hb.still
    unfold cc ac at *
    clear hb hl
    generalize f = g at *
    have HO := hidc (hoo.out.trans HS.out.2 fun _ hx => .inl hx)
    have hx1 := (HS.out.2.cell (p := ⟨w.heap.size + 1, 0, none⟩) hlt hne).trans kst
    have cT := told (sp_tri HS.out.1.drew 6 6 7 rfl rfl (fun _ => rfl) (fun _ => rfl) st 9) hx1 hne
    go_enter Tryd.func8, Tryd.ntmps8
    go_wp2_with fail
    go_region_held3 (fun W => W.cell? ⟨w.heap.size + 1, 0, none⟩ = some (.int .i64 st)) (first | exact hxk | exact hx1) (first | (go_at_call 18; refine cT.mono ?_; rintro e w4 ⟨rfl, h4, o4, hxk⟩))
    go_wp2_with fail
    go_end0
    exact ⟨rfl, h4, HO.out.drew.trans o4 fun _ hx => .inl hx⟩

set_option maxRecDepth 100000 in
set_option maxHeartbeats 1000000 in
theorem count_op6 {P : Nat} {f : Nat → Nat} {w : World} (h : SP P f w) (c : Md.Cm) (st z : Int) (hop : c.op = 6) (hs1 : 1 ≤ st) (hs2 : st ≤ 12) (hz : z ≤ 9223372036854775807) :
    Calls Tryd.prog 8 #[.pointer (some ⟨P, 0, none⟩), .agg (cc c).toArray, .agg (ac st).toArray, .int .i64 z] w fun e w' => e = .returned (.tuple #[]) ∧ SP P (inc (loss f z) 3) w' ∧ Only (fun b => b = P) w w' := by
  obtain ⟨op, mode, key, val, flags, exp, hasExp, cas, hasCas, delta, init, down, viv, vive, rcc, inv⟩ := c
  dsimp only at hop ⊢
  subst hop
  obtain ⟨c, hcc⟩ : ∃ c, c = (⟨6, mode, key, val, flags, exp, hasExp, cas, hasCas, delta, init, down, viv, vive, rcc, inv⟩ : Md.Cm) := ⟨_, rfl⟩
  have hb := h.below (boxed_below w c st)
  have hoo := hidc (Below.only (D := fun b => b = P) (boxed_below w c st))
  have kop := (boxed_c w c st).cell (i := 0) rfl
  have khc := (boxed_c w c st).cell (i := 8) rfl
  have kdn := (boxed_c w c st).cell (i := 11) rfl
  have kst := (boxed_a w c st).cell (i := 0) rfl
  have hne : ¬ w.heap.size + 1 = P := by have := h.2.lt; omega
  have hlt := (boxed_a w c st).lt
  have i1 : (st < 1) = False := by simp; omega
  have i2 : (12 < st) = False := by simp; omega
  unfold boxed at *
  subst hcc
  clear h hs1 hs2
  by_cases hl : 0 < z
  · obtain ⟨L, hL⟩ : ∃ L : Nat, z = L := ⟨z.toNat, by omega⟩
    have HS := hidc (lossed hb hL hl)
    have c17 := hb.cell (j := 17) (i := 17) rfl
    have f17 := hb.2.frozen 17
    have hw : IntKind.u64.wrap ((L : Nat) : Int) = (L : Int) := by rw [IntKind.wrap_u64]; omega
    have hw2 := wrap_two (f 17) L
    obtain ⟨X, hX⟩ : ∃ X, (f 17 + L) % 18446744073709551616 = X := ⟨_, rfl⟩
    rw [hX] at HS hw2
    clear hX
    subst hL
    unfold cc ac at *
    generalize hg : loss f ↑L = g at *
    clear hb hg
    have c3 := HS.out.1.cell (j := 3) (i := 3) rfl
    have f3 := HS.out.1.2.frozen 3
    have HI := hidc (HS.out.1.one 3 3 (fun _ => rfl))
    go_enter Tryd.func8, Tryd.ntmps8
    go_wp2_with fail
    go_end0
    exact ⟨rfl, HI.out.1, hoo.out.trans (HS.out.2.trans HI.out.2 fun _ hx => .inl hx) fun _ hx => .inl hx⟩
  · have hl' : z ≤ 0 := by omega
    rw [loss_no hl]
    have HS := hidc hb.still
    unfold cc ac at *
    clear hb hl
    generalize f = g at *
    have c3 := HS.out.1.cell (j := 3) (i := 3) rfl
    have f3 := HS.out.1.2.frozen 3
    have HI := hidc (HS.out.1.one 3 3 (fun _ => rfl))
    go_enter Tryd.func8, Tryd.ntmps8
    go_wp2_with fail
    go_end0
    exact ⟨rfl, HI.out.1, hoo.out.trans (HS.out.2.trans HI.out.2 fun _ hx => .inl hx) fun _ hx => .inl hx⟩

set_option maxRecDepth 100000 in
set_option maxHeartbeats 1000000 in
theorem count_op0 {P : Nat} {f : Nat → Nat} {w : World} (h : SP P f w) (c : Md.Cm) (st z : Int) (hop : ¬ c.op = 1 ∧ ¬ c.op = 2 ∧ ¬ c.op = 3 ∧ ¬ c.op = 4 ∧ ¬ c.op = 5 ∧ ¬ c.op = 6) (hs1 : 1 ≤ st) (hs2 : st ≤ 12) (hz : z ≤ 9223372036854775807) :
    Calls Tryd.prog 8 #[.pointer (some ⟨P, 0, none⟩), .agg (cc c).toArray, .agg (ac st).toArray, .int .i64 z] w fun e w' => e = .returned (.tuple #[]) ∧ SP P (loss f z) w' ∧ Only (fun b => b = P) w w' := by
  obtain ⟨op, mode, key, val, flags, exp, hasExp, cas, hasCas, delta, init, down, viv, vive, rcc, inv⟩ := c
  dsimp only at hop ⊢
  obtain ⟨c, hcc⟩ : ∃ c, c = (⟨op, mode, key, val, flags, exp, hasExp, cas, hasCas, delta, init, down, viv, vive, rcc, inv⟩ : Md.Cm) := ⟨_, rfl⟩
  have hb := h.below (boxed_below w c st)
  have hoo := hidc (Below.only (D := fun b => b = P) (boxed_below w c st))
  have kop := (boxed_c w c st).cell (i := 0) rfl
  have khc := (boxed_c w c st).cell (i := 8) rfl
  have kdn := (boxed_c w c st).cell (i := 11) rfl
  have kst := (boxed_a w c st).cell (i := 0) rfl
  have hne : ¬ w.heap.size + 1 = P := by have := h.2.lt; omega
  have hlt := (boxed_a w c st).lt
  have i1 : (st < 1) = False := by simp; omega
  have i2 : (12 < st) = False := by simp; omega
  unfold boxed at *
  subst hcc
  clear h hs1 hs2
  obtain ⟨n1, n2, n3, n4, n5, n6⟩ := hop
  by_cases hl : 0 < z
  · obtain ⟨L, hL⟩ : ∃ L : Nat, z = L := ⟨z.toNat, by omega⟩
    have HS := hidc (lossed hb hL hl)
    have c17 := hb.cell (j := 17) (i := 17) rfl
    have f17 := hb.2.frozen 17
    have hw : IntKind.u64.wrap ((L : Nat) : Int) = (L : Int) := by rw [IntKind.wrap_u64]; omega
    have hw2 := wrap_two (f 17) L
    obtain ⟨X, hX⟩ : ∃ X, (f 17 + L) % 18446744073709551616 = X := ⟨_, rfl⟩
    rw [hX] at HS hw2
    clear hX
    subst hL
    unfold cc ac at *
    generalize hg : loss f ↑L = g at *
    clear hb hg
    go_enter Tryd.func8, Tryd.ntmps8
    go_wp2_with fail
    go_end0
    exact ⟨rfl, HS.out.1, hoo.out.trans HS.out.2 fun _ hx => .inl hx⟩
  · have hl' : z ≤ 0 := by omega
    rw [loss_no hl]
    have HS := hidc hb.still
    unfold cc ac at *
    clear hb hl
    generalize f = g at *
    go_enter Tryd.func8, Tryd.ntmps8
    go_wp2_with fail
    go_end0
    exact ⟨rfl, HS.out.1, hoo.out.trans HS.out.2 fun _ hx => .inl hx⟩

/-- Count, whatever the command, the status and the loss. -/
theorem count_any {P : Nat} {f : Nat → Nat} {w : World} (h : SP P f w) (c : Md.Cm) (st z : Int) (hz : z ≤ 9223372036854775807) :
    Calls Tryd.prog 8 #[.pointer (some ⟨P, 0, none⟩), .agg (cc c).toArray, .agg (ac st).toArray, .int .i64 z] w fun e w' => e = .returned (.tuple #[]) ∧ SP P (cnt f c.op st c.hasCas c.down z) w' ∧ Only (fun b => b = P) w w' := by
  unfold cnt
  by_cases hs : st < 1 ∨ 12 < st
  · rw [if_pos hs]; exact count_bad h c st z hs
  · rw [if_neg hs]
    have hs1 : 1 ≤ st := by omega
    have hs2 : st ≤ 12 := by omega
    unfold opC
    by_cases h1 : c.op = 1
    · rw [if_pos h1]; exact count_op1 h c st z h1 hs1 hs2 hz
    rw [if_neg h1]
    by_cases h2 : c.op = 2
    · rw [if_pos h2]; exact count_op2 h c st z h2 hs1 hs2 hz
    rw [if_neg h2]
    by_cases h3 : c.op = 3
    · rw [if_pos h3]; exact count_op3 h c st z h3 hs1 hs2 hz
    rw [if_neg h3]
    by_cases h4 : c.op = 4
    · rw [if_pos h4]; exact count_op4 h c st z h4 hs1 hs2 hz
    rw [if_neg h4]
    by_cases h5 : c.op = 5
    · rw [if_pos h5]; exact count_op5 h c st z h5 hs1 hs2 hz
    rw [if_neg h5]
    by_cases h6 : c.op = 6
    · rw [if_pos h6]; exact count_op6 h c st z h6 hs1 hs2 hz
    rw [if_neg h6]
    exact count_op0 h c st z ⟨h1, h2, h3, h4, h5, h6⟩ hs1 hs2 hz
end Go.Proofs.YtfoggbgemdlhbaaDoor.Sc
