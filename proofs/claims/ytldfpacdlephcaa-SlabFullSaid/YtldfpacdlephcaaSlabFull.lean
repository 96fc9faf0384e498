/-
  The law SlabFull at this program. No conditions but that the numbers are an int's.
-/
import Derived.Test.YtldfpacdlephcaaSlabFullKit
import Derived.Test.YtldfpacdlephcaaArenaFull
namespace Go.Proofs.Ytldfpacdlephcaa
open Go Go.RowKit Go.Lib

theorem sizes_one {Z : Nat} (h1 : 64 ≤ Z) (h2 : Z ≤ 512) : sizesB [(Z : Int)] 512 = true := by
  unfold sizesB
  have e1 : decide (1 ≤ [(Z : Int)].length ∧ [(Z : Int)].length ≤ 63) = true := rfl
  rw [e1]
  simp [rises]
  omega
/-- A chunk's place within its page. -/
theorem place {Z e i : Nat} (h1 : 64 ≤ Z) (he : e = 512 / Z) (hi : i < e) : ∃ X : Nat, i * Z = X ∧ (X : Int) + (Z : Int) ≤ 512 ∧ (X : Int).tmod (Z : Int) = 0 ∧ (X : Int).tdiv (Z : Int) = (i : Int) ∧ (X : Int) % (Z : Int) = 0 ∧ (X : Int) / (Z : Int) = (i : Int) := by
  have h2 := Nat.div_mul_le_self 512 Z
  rw [← he] at h2
  have h3 := mul_up (e := Z) hi
  have h4 : ((i * Z : Nat) : Int) % (Z : Int) = 0 := by
    rw [← Int.natCast_emod, Nat.mul_mod_left]; rfl
  have h5 : ((i * Z : Nat) : Int) / (Z : Int) = (i : Int) := by
    rw [← Int.natCast_ediv, Nat.mul_div_cancel _ (by omega)]
  refine ⟨i * Z, rfl, by omega, ?_, ?_, h4, h5⟩
  · rw [Int.tmod_eq_emod_of_nonneg (by omega)]; exact h4
  · rw [Int.tdiv_eq_ediv_of_nonneg (by omega)]; exact h5

set_option maxHeartbeats 4000000 in
set_option maxRecDepth 100000 in
theorem slabFull_law (p : Int) (p0 : -9223372036854775808 ≤ p) (p1 : p ≤ 9223372036854775807) (z : Int) (z0 : -9223372036854775808 ≤ z) (z1 : z ≤ 9223372036854775807) (w : World) :
    Calls Try.prog 7 #[.int .i64 p, .int .i64 z] w fun e w' => e = .returned (.bool true) ∧ Below w.heap.size w w' := by
  obtain ⟨r, hr, hp⟩ := fold_mod p 5
  have hr' := hr (by decide)
  obtain ⟨t, ht, hz⟩ := fold_mod z 449
  have ht' := ht (by decide)
  have e5 : ((5 : Nat) : Int) = 5 := rfl
  have e449 : ((449 : Nat) : Int) = 449 := rfl
  rw [e5] at hp
  rw [e449] at hz
  obtain ⟨N, hN⟩ : ∃ N, N = 1 + r := ⟨_, rfl⟩
  obtain ⟨Z, hZ⟩ : ∃ Z, Z = 64 + t := ⟨_, rfl⟩
  have hN1 : 1 ≤ N := by omega
  have hN2 : N ≤ 5 := by omega
  have hZ1 : 64 ≤ Z := by omega
  have hZ2 : Z ≤ 512 := by omega
  have eN : 1 + (r : Int) = (N : Int) := by omega
  have eZ : 64 + (t : Int) = (Z : Int) := by omega
  obtain ⟨e, he⟩ : ∃ e, e = 512 / Z := ⟨_, rfl⟩
  have HE := hid he
  have he1 : 1 ≤ e := by rw [he]; exact (Nat.one_le_div_iff (by omega)).2 hZ2
  have he8 : e ≤ 8 := by rw [he]; exact Nat.le_trans (Nat.div_le_div_left hZ1 (by decide)) (by decide)
  obtain ⟨T, hT⟩ : ∃ T, T = N * e := ⟨_, rfl⟩
  have hT1 : (N : Int) * (e : Int) = (T : Int) := by rw [hT]; rfl
  have hT2 : T ≤ 40 := by rw [hT]; exact Nat.le_trans (Nat.mul_le_mul hN2 he8) (by decide)
  have HT := hid hT
  have hq : (512 : Int) / (Z : Int) = (e : Int) := by rw [he]; rfl
  have hq2 : (512 : Int).tdiv (Z : Int) = (e : Int) := by rw [Int.tdiv_eq_ediv_of_nonneg (by omega)]; exact hq
  have hmade := fun (w1 : World) => made_ok N hN1 (by omega) ⟨w1.heap.size, 0, none⟩ 1 1 [(Z : Int)] rfl (by omega) (by omega) (sizes_one hZ1 hZ2) (w1.alloc (.cells #[.int .i64 Z] 3)) (blk_ints (zs := [(Z : Int)]) (Blk.new w1 #[.int .i64 Z] 3))
  clear e5 e449 hN hZ hr ht he hT
  go_enter Try.func7, Try.ntmps7
  go_wp2_with fail
  refine (shown_any _).mono ?_
  rintro e' w1 ⟨rfl, b1⟩
  rcases hp with ⟨t0, t1⟩ | ⟨t0, t2, t1⟩
  all_goals
    rcases hz with ⟨u0, u1⟩ | ⟨u0, u2, u1⟩
    all_goals
      go_wp2_with fail
      refine (hmade _).mono ?_
      rintro e' w2 ⟨P, rfl, h⟩
      have H0 : Hid (Has w P (newSl (newSt N 512) [Z]) w2) := hid (h.since (b1.alloc b1.size _))
      clear hmade h b1
      go_wp2_with fail
      go_loopw [8] (fun i wr => ∃ (k g : Nat) (s : Sl), k ≤ T ∧ i = .int .i64 k ∧ Hid (Fu N Z e k g s) ∧ Hid (Has w P s wr)) (fun i _ => T - (intOf i).toNat)
      case atStart => exact ⟨0, 0, _, by omega, rfl, hid (fu_zero H0.out.1 he1), H0⟩
      case round =>
        obtain ⟨k, g, s, hk, rfl, HF, HH⟩ := hrel
        clear H0
        by_cases hlt : k < T
        · have ilt : (k : Int) < (T : Int) := by omega
          obtain ⟨q, i, g', hq5, hi, f1, f2, f3, f4⟩ := HF.out.alloc he1 he8 HE.out (by rw [← HT.out]; exact hlt)
          have hc := has_alloc HH.out 0
          have hC : ((4096 * q + i : Nat) : Int) = 4096 * (q : Int) + (i : Int) := by omega
          obtain ⟨X, hX, x1, x2, x3, x4, x5⟩ := place hZ1 HE.out hi
          rw [hX] at f4
          rw [f1, f2] at hc
          rw [hC] at hc f4
          have HF' := hid f3
          have HW := hid f4
          have iq : (q : Int) < (N : Int) := by omega
          have ii : (i : Int) < 8 := by omega
          clear HF HH f1 f2 f3 f4 hC hX hi
          go_wp2_with fail
          refine hc.mono ?_
          rintro e' w4 ⟨rfl, h⟩
          have hc2 := has_where h (4096 * (q : Int) + (i : Int)) (by omega)
          rw [HW.out] at hc2
          have HH := hid h
          clear hc h HW
          go_wp2_with fail
          refine hc2.mono ?_
          rintro e' w5 ⟨rfl, n5, rfl⟩
          have HH5 := hid (HH.out.drewN n5)
          clear hc2 HH
          go_wp2_with fail
          go_roundw
          case rel => exact ⟨k + 1, g', _, by omega, by go_num, HF', HH5⟩
          case measure => simp [intOf] <;> omega
        · obtain rfl : k = T := by omega
          have hF : Fu N Z e (N * e) g s := by rw [← HT.out]; exact HF.out
          have f0 := hF.full he1
          have f1 : (s.alloc 0).1 = -1 := by rw [f0]
          have f2 : (s.alloc 0).2.1 = 5 := by rw [f0]
          have f3 : (s.alloc 0).2.2 = s := by rw [f0]
          have f4 := hF.counts he1 he8 (by omega)
          rw [← HT.out] at f4
          have hc := has_alloc HH.out 0
          rw [f1, f2, f3] at hc
          have HC := hid f4
          clear hF f0 f1 f2 f3 f4 HF HH
          go_wp2_with fail
          refine hc.mono ?_
          rintro e' w4 ⟨rfl, h⟩
          have hc2 := has_counts h 0
          rw [HC.out] at hc2
          have hb := h.2.1
          clear hc h HC
          go_wp2_with fail
          refine hc2.mono ?_
          rintro e' w5 ⟨rfl, n5, rfl⟩
          clear hc2
          go_wp2_with fail
          go_ret
          exact ⟨rfl, Below.then hb ⟨rfl, rfl, rfl, Nat.le_refl _, fun _ _ => rfl⟩⟩
end Go.Proofs.Ytldfpacdlephcaa
