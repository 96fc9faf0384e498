/-
  The contracts of the program's segmented row: move and Step. Conditions: it lies in memory; the shares are 20 and 40.
-/
import Derived.Test.YtenncmjokdacoaaDoorSegOps
import Derived.Lib.LaidTab
namespace Go.Proofs.YtenncmjokdacoaaDoor.Sr
open Go Go.RowKit Go.Lib

/-- The shares of each hundred. -/
def Shr (w : World) : Prop := w.cell? ⟨0, 0, none⟩ = some (.int .i64 20) ∧ w.cell? ⟨0, 1, none⟩ = some (.int .i64 40)
theorem Shr.below {w w' : World} (h : Shr w) (hb : Below w.heap.size w w') : Shr w' := ⟨(hb.cell (cell_lt h.1)).trans h.1, (hb.cell (cell_lt h.2)).trans h.2⟩
/-- One goes on to where its being active asks for. -/
def Sg.mv (s : Sg) (z : Int) : Sg := ⟨opFront s.L (if s.a z then 1 else 2) z, updB s.a z false⟩
theorem Sg.Ok.mv {s : Sg} (h : s.Ok) (z : Int) : (s.mv z).Ok := by
  refine ⟨opF_good h.good _ _, by show (opFront _ _ _).length = 3; rw [opFront_len]; exact h.three, fun y hy => ?_⟩
  show y ∈ (opFront s.L (if s.a z then 1 else 2) z).flatten
  have hy := h.act y (upd_true (z := z) hy)
  by_cases hm : May s.L.length (if s.a z then 1 else 2) z
  · exact (opF_mem hm).2 (.inr hy)
  · rw [opFront_no hm]; exact hy
theorem stp_mv {s : Sg} {z : Int} (hp : s.pick = z) (h0 : 0 ≤ z) : s.stpB = true ∧ s.stp = s.mv z := by
  subst hp
  exact ⟨decide_eq_true h0, by unfold Sg.stp; rw [if_pos h0]; rfl⟩
theorem last_pos {s : Sg} (h : s.Ok) {r : Int} (k : 0 < (rowAt s.L r).length) : 0 ≤ lastOf (rowAt s.L r) := by
  rcases last_row h r with ⟨e, _⟩ | ⟨_, e, _⟩
  · rw [e] at k; simp at k
  · exact e
theorem step_hot {s : Sg} (h : s.Ok) (k : 20 * s.n / 100 < (rowAt s.L 0).length) : s.stpB = true ∧ s.stp = s.mv (lastOf (rowAt s.L 0)) :=
  stp_mv (by unfold Sg.pick; rw [if_pos k]) (last_pos h (by omega))
theorem step_warm {s : Sg} (h : s.Ok) (k : ¬ 20 * s.n / 100 < (rowAt s.L 0).length) (k1 : 40 * s.n / 100 < (rowAt s.L 1).length) : s.stpB = true ∧ s.stp = s.mv (lastOf (rowAt s.L 1)) :=
  stp_mv (by unfold Sg.pick; rw [if_neg k, if_pos k1]) (last_pos h (by omega))
theorem step_cold {s : Sg} (h : s.Ok) (k : ¬ 20 * s.n / 100 < (rowAt s.L 0).length) (k1 : ¬ 40 * s.n / 100 < (rowAt s.L 1).length) (k2 : s.a (lastOf (rowAt s.L 2)) = true) : s.stpB = true ∧ s.stp = s.mv (lastOf (rowAt s.L 2)) :=
  stp_mv (by unfold Sg.pick; rw [if_neg k, if_neg k1, if_pos k2]) (h.good.rng _ (h.act _ k2)).1
theorem step_none {s : Sg} (k : ¬ 20 * s.n / 100 < (rowAt s.L 0).length) (k1 : ¬ 40 * s.n / 100 < (rowAt s.L 1).length) (k2 : s.a (lastOf (rowAt s.L 2)) = false) : s.stpB = false ∧ s.stp = s := by
  have e : s.pick = -1 := by unfold Sg.pick; rw [if_neg k, if_neg k1, k2]; rfl
  exact ⟨by unfold Sg.stpB; rw [e]; rfl, by unfold Sg.stp; rw [e]; rfl⟩

set_option maxRecDepth 100000 in
theorem sa_move {P : Nat} {F : Nat → Prop} {s : Sg} {w : World} (h : SA P F s w) (z : Int) (hz : i64ok z) :
    Calls Tryd.prog 37 #[.pointer (some ⟨P, 0, none⟩), .int .i64 z] w fun e w' => e = .returned (.tuple #[]) ∧ ∃ F', SA P F' (s.mv z) w' ∧ Stp F F' w w' := by
  have ha := sa_active h z hz
  obtain ⟨ok, r, m, R, xs, hp, hG⟩ := h
  have hz' := hid hz
  have okm := ok.mv z
  have HD : Hid (∀ w1, Below w.heap.size w w1 → w1.cell? ⟨P, 1, none⟩ = some (.map (some m)) ∧ UM w1 m xs.length s.a ∧ ∀ w2, UM w2 m (if s.a z then xs.length - 1 else xs.length) (updB s.a z false) → w1.mapTurned w2 m → w2.cell? ⟨P, 0, none⟩ = some (.pointer (some ⟨r, 0, none⟩)) ∧
      Calls Tryd.prog 29 #[.pointer (some ⟨r, 0, none⟩), .int .i64 (if s.a z then 1 else 2), .int .i64 z] w2 fun e w' => (∃ b, e = .returned (.bool b)) ∧ ∃ F', SA P F' (s.mv z) w' ∧ Stp F F' w w') := hid (fun w1 b1 => by
    have hp1 := hp.below b1
    refine ⟨hp1.head.cell (i := 1) rfl, hp1.set, fun w2 hu ht => ?_⟩
    obtain ⟨k1, k2⟩ := hp1.del hu ht
    refine ⟨k1.head.cell (i := 0) rfl, (at_front k1.rows _ z hz).mono ?_⟩
    rintro e w' ⟨he, R', k3, k4⟩
    obtain ⟨k5, k6⟩ := k1.go k3 k4
    exact ⟨⟨_, he⟩, sa_go hG k5 (((Stp.below b1).trans k2).trans k6) okm rfl rfl⟩)
  clear hp hG ok okm hz
  cases ea : s.a z
  · rw [ea] at ha HD
    go_enter Tryd.func37, Tryd.ntmps37
    go_wp2_with fail
    refine ha.mono ?_
    rintro e w1 ⟨rfl, b1⟩
    obtain ⟨c1, hu0, HD1⟩ := HD.out _ b1
    have hu := hid hu0
    have HD1 := hid HD1
    clear HD b1 hu0 ha
    go_wp2_with (at_delete; refine wpList_um_del rfl _ _ rfl rfl hu rfl hz' ?_; intro w2 h2 t2; obtain ⟨d0, ht⟩ := HD1.out w2 (by rw [ea] at h2; exact h2.out) t2.out; clear h2 t2 HD1 hu c1)
    refine ht.mono ?_
    rintro e w3 ⟨⟨b, rfl⟩, HR⟩
    have HR := hid HR
    clear ht d0
    go_wp2_with fail
    go_end0
    exact ⟨rfl, HR.out⟩
  · rw [ea] at ha HD
    go_enter Tryd.func37, Tryd.ntmps37
    go_wp2_with fail
    refine ha.mono ?_
    rintro e w1 ⟨rfl, b1⟩
    obtain ⟨c1, hu0, HD1⟩ := HD.out _ b1
    have hu := hid hu0
    have HD1 := hid HD1
    clear HD b1 hu0 ha
    go_wp2_with (at_delete; refine wpList_um_del rfl _ _ rfl rfl hu rfl hz' ?_; intro w2 h2 t2; obtain ⟨d0, ht⟩ := HD1.out w2 (by rw [ea] at h2; exact h2.out) t2.out; clear h2 t2 HD1 hu c1)
    refine ht.mono ?_
    rintro e w3 ⟨⟨b, rfl⟩, HR⟩
    have HR := hid HR
    clear ht d0
    go_wp2_with fail
    go_end0
    exact ⟨rfl, HR.out⟩

def sumR (L : List (List Int)) : Nat → Nat
  | 0 => 0
  | k + 1 => sumR L k + (rowAt L k).length
theorem sumR_n (s : Sg) : sumR s.L 3 = s.n := by show 0 + _ + _ + _ = _; rw [Nat.zero_add]; rfl
theorem sumR_le (s : Sg) : ∀ k, k < 3 → sumR s.L k + (rowAt s.L k).length ≤ s.n
  | 0, _ => by show 0 + (rowAt s.L 0).length ≤ _ ; unfold Sg.n; omega
  | 1, _ => by show 0 + (rowAt s.L 0).length + (rowAt s.L 1).length ≤ _ ; unfold Sg.n; omega
  | 2, _ => by show 0 + (rowAt s.L 0).length + (rowAt s.L 1).length + (rowAt s.L 2).length ≤ _ ; unfold Sg.n; omega
set_option maxRecDepth 100000 in
theorem seg_count {r : Nat} {R : Nat → Prop} {s : Sg} {w : World} (ok : s.Ok) (h : RAt r R s.L w) (m : Nat) :
    Calls Tryd.prog 35 #[.agg #[.pointer (some ⟨r, 0, none⟩), .map (some m)]] w fun e w' => e = .returned (.int .i64 s.n) ∧ Below w.heap.size w w' := by
  have hl := hid (fun o (k : Nat) => at_len (h.below (alloc_below w o)) (k : Int))
  have hb := hid (fun o => alloc_below w o)
  have n0 := ok.good.count
  rw [← Sg.n_eq ok] at n0
  have HS := hid (fun k hk => Nat.le_trans (sumR_le s k hk) (by omega : s.n ≤ 4194304))
  have HN := hid (sumR_n s)
  clear h ok n0
  go_enter Tryd.func35, Tryd.ntmps35
  go_wp2_with fail
  go_loopw [3, 5] (fun p q wr => ∃ k S : Nat, p = .int .i64 S ∧ q = .int .i64 k ∧ k ≤ 3 ∧ wr = w.alloc (.cells #[.pointer (some ⟨r, 0, none⟩), .map (some m)] 48) ∧ Hid (S = sumR s.L k)) (fun _ q _ => 3 - (RowKit.intOf q).toNat)
  case atStart => exact ⟨0, 0, rfl, rfl, Nat.zero_le _, rfl, hid rfl⟩
  case round =>
    obtain ⟨k, S, rfl, rfl, hk, rfl, hS⟩ := hrel
    by_cases hlt : k < 3
    · have h1 := HS.out k hlt
      rw [← hS.out] at h1
      have h2 := hl.out (.cells #[.pointer (some ⟨r, 0, none⟩), .map (some m)] 48) k
      have hE : Hid (sumR s.L (k + 1) = S + (rowAt s.L k).length) := hid (by rw [hS.out]; rfl)
      generalize (rowAt s.L k).length = N at *
      have h3 : (S : Int) + (N : Int) ≤ 4194304 := by omega
      clear h1 hl hb
      go_wp2_with fail
      refine h2.mono ?_
      rintro e w1 ⟨rfl, rfl⟩
      go_wp2_with fail
      go_roundw
      case rel => exact ⟨k + 1, S + N, by go_num, by go_num, by omega, by first | rfl | trivial, hid hE.out.symm⟩
      case measure => simp [RowKit.intOf] <;> omega
    · obtain rfl : k = 3 := by omega
      have hE : Hid (s.n = S) := hid (by rw [← HN.out]; exact hS.out.symm)
      clear hl HS HN hS
      go_wp2_with fail
      go_ret
      exact ⟨ret_i64 (by rw [hE.out]), hb.out _⟩

set_option maxRecDepth 100000 in
set_option maxHeartbeats 1000000 in
theorem sa_step {P : Nat} {F : Nat → Prop} {s : Sg} {w : World} (h : SA P F s w) (hv : Shr w) :
    Calls Tryd.prog 17 #[.pointer (some ⟨P, 0, none⟩)] w fun e w' => e = .returned (.bool s.stpB) ∧ ∃ F', SA P F' s.stp w' ∧ Stp F F' w w' := by
  have HQ := hid h
  obtain ⟨ok, r, m, R, xs, hp, hG⟩ := h
  have c0 := hp.head.cell (i := 0) rfl
  have c1 := hp.head.cell (i := 1) rfl
  have hc := seg_count ok hp.rows m
  have HW : Hid (∀ w1, Below w.heap.size w w1 → Shr w1 ∧ w1.cell? ⟨P, 0, none⟩ = some (.pointer (some ⟨r, 0, none⟩)) ∧
      (∀ k : Int, Calls Tryd.prog 36 #[.pointer (some ⟨r, 0, none⟩), .int .i64 k] w1 fun e w' => e = .returned (.int .i64 (rowAt s.L k).length) ∧ w1 = w') ∧
      (∀ k : Int, Calls Tryd.prog 38 #[.pointer (some ⟨r, 0, none⟩), .int .i64 k] w1 fun e w' => e = .returned (.int .i64 (lastOf (rowAt s.L k))) ∧ w1 = w')) := hid (fun w1 b1 =>
    have hp1 := hp.below b1
    ⟨hv.below b1, hp1.head.cell (i := 0) rfl, fun k => at_len hp1.rows k, fun k => at_last hp1.rows k⟩)
  have HA : Hid (∀ w1, Below w.heap.size w w1 → Calls Tryd.prog 21 #[.pointer (some ⟨P, 0, none⟩), .int .i64 (lastOf (rowAt s.L 2))] w1 fun e w' => e = .returned (.bool (s.a (lastOf (rowAt s.L 2)))) ∧ Below w.heap.size w w') := hid (fun w1 b1 =>
    (sa_active (HQ.out.below b1) _ (last_i64 ok 2)).mono fun e w' ⟨h1, h2⟩ => ⟨h1, Below.then b1 h2⟩)
  have HM : Hid (∀ w1 (r : Int), Below w.heap.size w w1 → s.stpB = true ∧ s.stp = s.mv (lastOf (rowAt s.L r)) → Calls Tryd.prog 37 #[.pointer (some ⟨P, 0, none⟩), .int .i64 (lastOf (rowAt s.L r))] w1 fun e w' => e = .returned (.tuple #[]) ∧ true = s.stpB ∧ ∃ F', SA P F' s.stp w' ∧ Stp F F' w w') := hid (fun w1 r b1 hs =>
    (sa_move (HQ.out.below b1) _ (last_i64 ok r)).mono fun e w' ⟨h1, F', h2, h3⟩ => ⟨h1, hs.1.symm, F', by rw [hs.2]; exact h2, (Stp.below b1).trans h3⟩)
  have HE : Hid (∀ w1, Below w.heap.size w w1 → s.stpB = false ∧ s.stp = s → false = s.stpB ∧ ∃ F', SA P F' s.stp w1 ∧ Stp F F' w w1) := hid (fun w1 b1 hs =>
    ⟨hs.1.symm, F, by rw [hs.2]; exact HQ.out.below b1, Stp.below b1⟩)
  have n0 := ok.good.count
  rw [← Sg.n_eq ok] at n0
  have n1 : s.n ≤ 4194304 := by omega
  have H0 := hid (step_hot ok)
  have H1 := hid (step_warm ok)
  have H2 := hid (step_cold ok)
  have H3 := hid (step_none (s := s))
  clear hp hG ok HQ n0 hv
  generalize s.n = N at *
  have hi0 : ∀ W, (Instr.index 55 (.agg #[.int .i64 20, .int .i64 40]) (.int .i64 0)).run Tryd.prog W = .ok (.int .i64 20) W := fun W => by kernel_rfl
  have hi1 : ∀ W, (Instr.index 55 (.agg #[.int .i64 20, .int .i64 40]) (.int .i64 1)).run Tryd.prog W = .ok (.int .i64 40) W := fun W => by kernel_rfl
  go_enter Tryd.func17, Tryd.ntmps17
  go_wp2_with fail
  refine hc.mono ?_
  rintro e w1 ⟨rfl, b1⟩
  obtain ⟨⟨s0, s1⟩, d0, hl, ht⟩ := HW.out _ b1
  have hA := HA.out _ b1
  have hM := hid (fun r => HM.out _ r b1)
  have hE := hid (HE.out _ b1)
  clear HW b1 c0 c1 hc
  go_wp2_with fail
  go_loopw [13] (fun p wr => ∃ k : Nat, p = .int .i64 k ∧ k ≤ 2 ∧ w1 = wr ∧ Hid ((1 ≤ k → ¬ 20 * N / 100 < (rowAt s.L 0).length) ∧ (2 ≤ k → ¬ 40 * N / 100 < (rowAt s.L 1).length))) (fun p _ => 2 - (RowKit.intOf p).toNat)
  case atStart => exact ⟨0, rfl, Nat.zero_le _, rfl, hid ⟨fun h => by omega, fun h => by omega⟩⟩
  case round =>
    obtain ⟨k, rfl, hk, rfl, hno⟩ := hrel
    have hl0 := hl 0
    have hl1 := hl 1
    have ht0 := ht 0
    have ht1 := ht 1
    have ht2 := ht 2
    have hm0 := hid (hM.out 0)
    have hm1 := hid (hM.out 1)
    have hm2 := hid (fun w2 (b : Below w.heap.size w w2) => HM.out w2 2 b)
    clear hl ht hM
    generalize lastOf (rowAt s.L 0) = V0 at *
    generalize lastOf (rowAt s.L 1) = V1 at *
    generalize lastOf (rowAt s.L 2) = V2 at *
    generalize (rowAt s.L 0).length = N0 at *
    generalize (rowAt s.L 1).length = N1 at *
    have hcs : k = 0 ∨ k = 1 ∨ k = 2 := by omega
    rcases hcs with rfl | rfl | rfl
    · by_cases g : 20 * N / 100 < N0
      · have g' : 20 * (N : Int) / 100 < (N0 : Int) := by omega
        have hmv := hm0.out (H0.out g)
        clear H0 H1 H2 H3 hm0 hm1 hm2 hE hA HA HM HE hno ht1 ht2 hl1 g
        go_wp2_with fail
        refine hl0.mono ?_
        rintro e w2 ⟨rfl, rfl⟩
        go_wp2_with fail
        refine ht0.mono ?_
        rintro e w2 ⟨rfl, rfl⟩
        go_wp2_with fail
        refine hmv.mono ?_
        rintro e w2 ⟨rfl, h1, h2⟩
        have HR := hid (And.intro h1 h2)
        clear h1 h2 hmv
        go_wp2_with fail
        go_ret
        exact ⟨ret_bool HR.out.1, HR.out.2⟩
      · have g' : (N0 : Int) ≤ 20 * (N : Int) / 100 := by omega
        have hno2 : Hid ((1 ≤ 0 + 1 → ¬ 20 * N / 100 < N0) ∧ (2 ≤ 0 + 1 → ¬ 40 * N / 100 < N1)) := hid ⟨fun _ => g, fun h => by omega⟩
        clear H0 H1 H2 H3 hm0 hm1 hm2 hE hA HA HM HE hno ht0 ht1 ht2 hl1 g
        go_wp2_with fail
        refine hl0.mono ?_
        rintro e w2 ⟨rfl, rfl⟩
        go_wp2_with fail
        go_roundw
        case rel => exact ⟨1, rfl, by omega, by first | rfl | trivial, hno2⟩
        case measure => simp [RowKit.intOf]
    · have g0 := hno.out.1 (Nat.le_refl _)
      by_cases g : 40 * N / 100 < N1
      · have g' : 40 * (N : Int) / 100 < (N1 : Int) := by omega
        have hmv := hm1.out (H1.out g0 g)
        clear H0 H1 H2 H3 hm0 hm1 hm2 hE hA HA HM HE hno ht0 ht2 hl0 g g0
        go_wp2_with fail
        refine hl1.mono ?_
        rintro e w2 ⟨rfl, rfl⟩
        go_wp2_with fail
        refine ht1.mono ?_
        rintro e w2 ⟨rfl, rfl⟩
        go_wp2_with fail
        refine hmv.mono ?_
        rintro e w2 ⟨rfl, h1, h2⟩
        have HR := hid (And.intro h1 h2)
        clear h1 h2 hmv
        go_wp2_with fail
        go_ret
        exact ⟨ret_bool HR.out.1, HR.out.2⟩
      · have g' : (N1 : Int) ≤ 40 * (N : Int) / 100 := by omega
        have hno2 : Hid ((1 ≤ 1 + 1 → ¬ 20 * N / 100 < N0) ∧ (2 ≤ 1 + 1 → ¬ 40 * N / 100 < N1)) := hid ⟨fun _ => g0, fun _ => g⟩
        clear H0 H1 H2 H3 hm0 hm1 hm2 hE hA HA HM HE hno ht0 ht1 ht2 hl0 g g0
        go_wp2_with fail
        refine hl1.mono ?_
        rintro e w2 ⟨rfl, rfl⟩
        go_wp2_with fail
        go_roundw
        case rel => exact ⟨2, rfl, by omega, by first | rfl | trivial, hno2⟩
        case measure => simp [RowKit.intOf]
    · have g0 := hno.out.1 (by decide)
      have g1 := hno.out.2 (by decide)
      cases ea : s.a V2
      · rw [ea] at hA
        have hR := hid (fun w2 (b : Below w.heap.size w w2) => HE.out w2 b (H3.out g0 g1 ea))
        clear H0 H1 H2 H3 hm0 hm1 hm2 hE HA HM HE hno ht0 ht1 hl0 hl1 g0 g1 ea
        go_wp2_with fail
        refine ht2.mono ?_
        rintro e w2 ⟨rfl, rfl⟩
        go_wp2_with fail
        refine hA.mono ?_
        rintro e w2 ⟨rfl, b2⟩
        have HR := hid (hR.out _ b2)
        clear hR b2 hA
        go_wp2_with fail
        go_ret
        exact ⟨ret_bool HR.out.1, HR.out.2⟩
      · rw [ea] at hA
        have hR := hm2
        have hS := hid (H2.out g0 g1 ea)
        clear H0 H1 H2 H3 hm0 hm1 hm2 hE HA HM HE hno ht0 ht1 hl0 hl1 g0 g1 ea
        go_wp2_with fail
        refine ht2.mono ?_
        rintro e w2 ⟨rfl, rfl⟩
        go_wp2_with fail
        refine hA.mono ?_
        rintro e w2 ⟨rfl, b2⟩
        have hmv := hR.out _ b2 hS.out
        clear hR b2 hA hS
        go_wp2_with fail
        refine hmv.mono ?_
        rintro e w3 ⟨rfl, h1, h2⟩
        have HR := hid (And.intro h1 h2)
        clear h1 h2 hmv
        go_wp2_with fail
        go_ret
        exact ⟨ret_bool HR.out.1, HR.out.2⟩
end Go.Proofs.YtenncmjokdacoaaDoor.Sr
