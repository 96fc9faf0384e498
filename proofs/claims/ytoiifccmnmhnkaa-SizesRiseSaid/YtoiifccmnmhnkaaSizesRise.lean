/-
  The law SizesRise at this program. No conditions.
-/
import Derived.Test.YtoiifccmnmhnkaaSizesGrow
import Derived.BigQuiet
namespace Go.Proofs.Ytoiifccmnmhnkaa
open Go Go.RowKit Go.Lib

theorem ints_at {xs : List Nat} {i x : Nat} (h : xs[i]? = some x) : (ints xs)[i]? = some (x : Int) := by
  unfold ints; rw [List.getElem?_map, h]; rfl
theorem at_ints {xs : List Nat} {i : Nat} {z : Int} (h : (ints xs)[i]? = some z) : ∃ x : Nat, xs[i]? = some x ∧ z = (x : Int) := by
  unfold ints at h
  rw [List.getElem?_map] at h
  obtain ⟨x, hx, rfl⟩ := Option.map_eq_some_iff.1 h
  exact ⟨x, hx, rfl⟩
theorem below_drewn {B : Nat} {a w : World} (h : Below B a w) (q : Nat) : Below B a (w.drewN q) := ⟨h.os, h.tape, h.output, h.size, h.block⟩

/-- What SizesRise asks of a row. -/
theorem rise_facts (P f M : Nat) (hp : 512 ≤ P) (hp2 : P ≤ 65536) (hp8 : P % 8 = 0) (hM : (row P f).length = M + 1) (j : Nat) (hj : j + 1 < M + 1) :
    ∃ x y q : Nat, (row P f)[j]? = some x ∧ (row P f)[j + 1]? = some y ∧ y % 8 = 0 ∧ x < y ∧ (j + 1 < M → y ≤ P / 2) ∧ y ≤ 65536 ∧ per (ints (row P f)) ((j + 1 : Nat) : Int) (P : Int) = (q : Int) ∧ 1 ≤ q := by
  obtain ⟨x, hx⟩ : ∃ x, (row P f)[j]? = some x := ⟨_, List.getElem?_eq_getElem (by omega)⟩
  obtain ⟨y, hy⟩ : ∃ y, (row P f)[j + 1]? = some y := ⟨_, List.getElem?_eq_getElem (by omega)⟩
  obtain ⟨b1, b2, b3, b4⟩ := row_at hp hp8 hy
  refine ⟨x, y, P / y, hx, hy, b1, row_rise hp hp8 hx hy, fun h => b4 (by omega), by omega, ?_, ?_⟩
  · unfold per
    rw [if_neg (by rw [ints_len, hM]; omega), Int.toNat_natCast, ints_at hy]
    show (if (y : Int) < 1 then (0 : Int) else (P : Int) / (y : Int)) = _
    rw [if_neg (by omega), Int.natCast_ediv]
  · exact (Nat.le_div_iff_mul_le (by omega)).2 (by omega)
theorem class_facts (P f M : Nat) (n : Int) (hp : 512 ≤ P) (hp8 : P % 8 = 0) (hM : (row P f).length = M + 1) :
    (cls (ints (row P f)) n 0 = -1 ∧ (P : Int) < n) ∨ (cls (ints (row P f)) n 0 = 0 ∧ n ≤ (P : Int) ∧ ∃ x : Nat, (row P f)[0]? = some x ∧ n ≤ (x : Int)) ∨
      (∃ t x y : Nat, cls (ints (row P f)) n 0 = (t : Int) + 1 ∧ n ≤ (P : Int) ∧ t + 1 < M + 1 ∧ (row P f)[t]? = some x ∧ (row P f)[t + 1]? = some y ∧ (x : Int) < n ∧ n ≤ (y : Int)) := by
  rcases cls_said n (ints (row P f)) 0 with ⟨e, ha⟩ | ⟨k, z, e, hz, hn, ha⟩
  · refine .inl ⟨e, ha _ ?_⟩
    exact List.mem_of_getElem? (ints_at (row_last P f))
  · obtain ⟨x, hx, rfl⟩ := at_ints hz
    obtain ⟨b1, b2, b3, b4⟩ := row_at hp hp8 hx
    have hk : k < (row P f).length := (List.getElem?_eq_some_iff.1 hx).1
    cases k with
    | zero => exact .inr (.inl ⟨e, by omega, x, hx, hn⟩)
    | succ t =>
      obtain ⟨u, hu⟩ : ∃ u, (row P f)[t]? = some u := ⟨_, List.getElem?_eq_getElem (by omega)⟩
      exact .inr (.inr ⟨t, u, x, by rw [e]; omega, by omega, by omega, hu, hx, ha t _ (by omega) (ints_at hu), hn⟩)

set_option maxHeartbeats 4000000 in
set_option maxRecDepth 100000 in
theorem rise_law (page : Int) (_ : -9223372036854775808 ≤ page) (_ : page ≤ 9223372036854775807) (f : Int) (_ : -9223372036854775808 ≤ f) (_ : f ≤ 9223372036854775807) (n : Int) (_ : -9223372036854775808 ≤ n) (_ : n ≤ 9223372036854775807) (w : World) :
    Calls Try.prog 5 #[.int .i64 page, .int .i64 f, .int .i64 n] w fun e w' => e = .returned (.bool true) ∧ Below w.heap.size w w' := by
  obtain ⟨k, hk, hpk⟩ := fold_lit page 8129 (by decide)
  obtain ⟨m, hm, hmk⟩ := fold_lit f 296 (by decide)
  have eK : ((8129 : Nat) : Int) = 8129 := rfl
  have eM : ((296 : Nat) : Int) = 296 := rfl
  rw [eK] at hpk
  rw [eM] at hmk
  clear eK eM
  have c1 := new_row k m hk hm
  obtain ⟨hN0, hN⟩ := row_first (page := 512 + k * 8) (f := 105 + m) (by omega)
  have hN3 := row_len (512 + k * 8) (105 + m)
  have hlast := row_last (512 + k * 8) (105 + m)
  obtain ⟨M, hM⟩ : ∃ M, (row (512 + k * 8) (105 + m)).length = M + 1 := ⟨(row (512 + k * 8) (105 + m)).length - 1, by omega⟩
  have HJ := hid (rise_facts (512 + k * 8) (105 + m) M (by omega) (by omega) (by omega) hM)
  have HK := hid (class_facts (512 + k * 8) (105 + m) M n (by omega) (by omega) hM)
  have eP : ((512 + k * 8 : Nat) : Int) = 512 + (k : Int) * 8 := by omega
  have hil : (ints (row (512 + k * 8) (105 + m))).length = M + 1 := by rw [ints_len, hM]
  generalize row (512 + k * 8) (105 + m) = xs at *
  rw [hM] at c1 hN hN3 hlast
  rw [eP] at HJ HK
  have HP := hid eP
  have HL := hid hil
  clear hM eP hil
  rcases hpk with ⟨s0, s1⟩ | ⟨s0, s00, s1⟩
  all_goals
    rcases hmk with ⟨p0, p1⟩ | ⟨p0, p00, p1⟩
  all_goals
    go_enter Try.func5, Try.ntmps5
    go_wp2_with fail
    refine (shown_any _).mono ?_
    rintro e w1 ⟨rfl, b1⟩
    go_wp2_with fail
    refine (c1 _).mono ?_
    rintro e w2 ⟨g, c, rfl, hc, hI, hg, b2⟩
    have b2 := Below.then b1 b2
    have HC := hid hc
    have HI := hid hI
    have i0 : w2.cell? ⟨g, 0, none⟩ = some (.int .i64 64) := hc 0 64 hN0
    have iM : w2.cell? ⟨g, M, none⟩ = some (.int .i64 (512 + (k : Int) * 8)) := by
      have := hc M _ hlast
      rw [HP.out] at this; exact this
    clear hc hI c1
    go_wp2_with fail
    clear i0 iM hN0 hlast
    go_loopw [10] (fun i wr => ∃ j : Nat, j ≤ M ∧ i = .int .i64 ((j + 1 : Nat) : Int) ∧ Below w2.heap.size w2 wr) (fun i _ => 100 - (intOf i).toNat)
    case atStart => exact ⟨0, by omega, rfl, Below.refl _ _⟩
    case round =>
      obtain ⟨j, hj, rfl, hb⟩ := hrel
      by_cases hlt : j < M
      · obtain ⟨x, y, q, hx, hy, y8, hxy, hhalf, hy6, hper, hq⟩ := HJ.out j (by omega)
        have g1 : wr.cell? ⟨g, j, none⟩ = some (.int .i64 x) := (hb.cell (p := ⟨g, j, none⟩) hg).trans (HC.out j x hx)
        have g2 : wr.cell? ⟨g, j + 1, none⟩ = some (.int .i64 y) := (hb.cell (p := ⟨g, j + 1, none⟩) hg).trans (HC.out (j + 1) y hy)
        have cP : ∀ n, Calls Try.prog 14 #[.slice (some ⟨g, 0, none⟩) (M + 1) c, .int .i64 ((j + 1 : Nat) : Int), .int .i64 (512 + (k : Int) * 8)] (wr.drewN n) fun e w'' => e = .returned (.int .i64 q) ∧ ∃ m, w'' = wr.drewN m := fun n => by
          have h := per_any (some ⟨g, 0, none⟩) c (ints xs) ((j + 1 : Nat) : Int) (512 + (k : Int) * 8) (by omega) (wr.drewN n) (by rw [HL.out]; exact HI.out.below (below_drewn hb n))
          rw [HL.out, hper] at h
          exact h.mono fun e w' ⟨he, hw⟩ => ⟨he, n, hw.symm⟩
        have d0 : (y : Int) % 8 = 0 := by omega
        have d0b : ((y : Int) % 8 != 0) = false := by rw [d0]; rfl
        have d0c : (y : Int).tmod 8 = 0 := by rw [Int.tmod_eq_emod_of_nonneg (by omega)]; exact d0
        have d0d : ((y : Int).tmod 8 != 0) = false := by rw [d0c]; rfl
        have d1 : decide ((y : Int) ≤ (x : Int)) = false := by simp; omega
        have d1n : decide (y ≤ x) = false := by simp; omega
        have d2 : decide ((q : Int) < 1) = false := by simp; omega
        have d2n : decide (q < 1) = false := by simp; omega
        have d2z : decide (q = 0) = false := by simp; omega
        have hj1 : (j : Int) + 1 < (M : Int) + 1 := by omega
        have hj0 : (j : Int) < (M : Int) + 1 := by omega
        have hj2 : (0 : Int) ≤ (j : Int) + 1 := by omega
        have hj3 : (0 : Int) ≤ (j : Int) := by omega
        have hcase : ((j : Int) + 1 < (M : Int) ∧ decide (j + 1 < M) = true ∧ decide ((512 + (k : Int) * 8) / 2 < (y : Int)) = false) ∨ (decide ((j : Int) + 1 < (M : Int)) = false ∧ decide (j + 1 < M) = false) := by
          by_cases h : j + 1 < M
          · have := hhalf h
            exact .inl ⟨by omega, by simp; omega, by simp; omega⟩
          · exact .inr ⟨by simp; omega, by simp; omega⟩
        clear hx hy HJ HK HC HI HL HP hper hq y8 hxy hhalf
        rcases hcase with ⟨q1, q1n, q2⟩ | ⟨q1, q1n⟩
        all_goals
          go_wp2_with fail
          go_quiet (exact cP _)
          go_wp2_with fail
          go_roundw
          case rel => exact ⟨j + 1, by omega, by go_num, below_drewn hb _⟩
          case measure => simp [intOf] <;> omega
      · have hcl := fun W (hW : Below w2.heap.size w2 W) => class_any (some ⟨g, 0, none⟩) c (ints xs) n W (by rw [HL.out]; omega) (by rw [HL.out]; exact HI.out.below hW)
        rw [HL.out] at hcl
        have hcase := HK.out
        generalize cls (ints xs) n 0 = r at *
        clear HK HJ HI HL HP
        have hjM : ¬ (j : Int) < (M : Int) := by omega
        obtain rfl : j = M := by omega
        rcases hcase with ⟨rfl, h1⟩ | ⟨rfl, h1, x, hx, h2⟩ | ⟨t, x, y, rfl, h1, ht, hx, hy, h2, h3⟩
        · clear HC
          go_wp2_with fail
          refine (hcl _ hb).mono ?_
          rintro e w3 ⟨rfl, b3⟩
          clear hcl
          go_wp2_with fail
          go_ret
          exact ⟨rfl, b2.trans ((hb.trans (b3.mono hb.size)).mono b2.size)⟩
        · go_wp2_with fail
          refine (hcl _ hb).mono ?_
          rintro e w3 ⟨rfl, b3⟩
          have hb3 := hb.trans (b3.mono hb.size)
          have g1 : w3.cell? ⟨g, 0, none⟩ = some (.int .i64 x) := (hb3.cell (p := ⟨g, 0, none⟩) hg).trans (HC.out 0 x hx)
          clear hcl HC hx
          go_wp2_with fail
          go_ret
          exact ⟨rfl, b2.trans (hb3.mono b2.size)⟩
        · go_wp2_with fail
          refine (hcl _ hb).mono ?_
          rintro e w3 ⟨rfl, b3⟩
          have hb3 := hb.trans (b3.mono hb.size)
          have g1 : w3.cell? ⟨g, t, none⟩ = some (.int .i64 x) := (hb3.cell (p := ⟨g, t, none⟩) hg).trans (HC.out t x hx)
          have g2 : w3.cell? ⟨g, t + 1, none⟩ = some (.int .i64 y) := (hb3.cell (p := ⟨g, t + 1, none⟩) hg).trans (HC.out (t + 1) y hy)
          have ht1 : (t : Int) + 1 < (j : Int) + 1 := by omega
          have ht2 : (0 : Int) ≤ (t : Int) + 1 := by omega
          have ht3 : ((t : Int) + 1 == 0) = false := by simp; omega
          clear hcl HC hx hy
          go_wp2_with fail
          go_ret
          exact ⟨rfl, b2.trans (hb3.mono b2.size)⟩
end Go.Proofs.Ytoiifccmnmhnkaa
