/-
  The others stay in order: the statement, walked. No conditions.
-/
import Derived.Test.YtifbjbebnjjflaaRowsKit
namespace Go.Proofs.Ytifbjbebnjjflaa
open Go Go.RowKit Go.Lib

/-- A row of ints of the call's own, read. -/
def Cel (w : World) (g : Nat) (zs : List Int) : Prop := ∀ j z, zs[j]? = some z → w.cell? ⟨g, j, none⟩ = some (.int .i64 z)
theorem cel_of {w : World} {base g n c : Nat} {zs : List Int} (h : w.ownsRow base 3 1 (.slice (some ⟨g, 0, none⟩) n c) n (ic zs)) : Cel w g zs := by
  intro j z hj
  have hl : zs.length = n := by have := h.1; rw [ic_len] at this; omega
  have h1 := h.cellAt j (by have := (List.getElem?_eq_some_iff.1 hj).1; omega)
  rw [h1, ic_at hj]
theorem Cel.only {w w' : World} {D : Nat → Prop} {g : Nat} {zs : List Int} (h : Cel w g zs) (ho : Only D w w') (hd : ¬ D g) : Cel w' g zs := fun j z hj => (ho.cell (p := ⟨g, j, none⟩) (cell_lt (h j z hj)) hd).trans (h j z hj)
theorem Cel.below {w w' : World} {g : Nat} {zs : List Int} (h : Cel w g zs) (hb : Below w.heap.size w w') : Cel w' g zs := fun j z hj => (hb.cell (p := ⟨g, j, none⟩) (cell_lt (h j z hj))).trans (h j z hj)
theorem one_len {L : List (List Int)} (h : L.length = 1) : L = [rowAt L 0] := by
  match L, h with
  | [l], _ => rfl
/-- One of a row goes to its front. -/
theorem moved {L : List (List Int)} (hg : GoodL L) (h1 : L.length = 1) {p : Nat} {z : Int} (hp : (rowAt L 0)[p]? = some z) :
    May L.length 0 z ∧ (rowAt (opFront L 0 z) 0).length = (rowAt L 0).length ∧ (rowAt (opFront L 0 z) 0)[0]? = some z ∧
    (∀ i, i < p → (rowAt (opFront L 0 z) 0)[i + 1]? = (rowAt L 0)[i]?) ∧ (∀ i, p < i → (rowAt (opFront L 0 z) 0)[i]? = (rowAt L 0)[i]?) ∧ (∀ i y, (rowAt L 0)[i]? = some y → (y = z ↔ i = p)) := by
  have hL := one_len h1
  have hin : (rowAt L 0) ∈ L := by
    have h2 : rowAt L 0 ∈ [rowAt L 0] := List.mem_singleton.2 rfl
    rwa [← hL] at h2
  have hnd := (flat_nodup hg.nd).1 _ hin
  have hz := hg.rng z (List.mem_flatten.2 ⟨_, hin, List.mem_of_getElem? hp⟩)
  have hm : May L.length 0 z := ⟨by omega, by omega, hz.1, hz.2⟩
  have hs : rowAt L 0 = (rowAt L 0).take p ++ z :: (rowAt L 0).drop (p + 1) := by rw [← drop_cons hp, List.take_append_drop]
  have hpl := (List.getElem?_eq_some_iff.1 hp).1
  have hL0 : L[0]? = some ((rowAt L 0).take p ++ z :: (rowAt L 0).drop (p + 1)) := by
    have h0 : ∀ l : List Int, L = [l] → L[0]? = some l := fun l e => by rw [e]; rfl
    exact (h0 _ hL).trans (congrArg some hs)
  have hr : rowAt (opFront L 0 z) 0 = z :: ((rowAt L 0).take p ++ (rowAt L 0).drop (p + 1)) := by
    rw [opFront_yes hm, rowAt_of (by omega) (frontL_row (i := 0) (by omega) z), take_split hg.nd hL0, List.getElem?_set_self (by omega)]; rfl
  have htl : ((rowAt L 0).take p).length = p := by rw [List.length_take]; omega
  refine ⟨hm, ?_, ?_, fun i hi => ?_, fun i hi => ?_, fun i y hy => ⟨fun e => ?_, fun e => ?_⟩⟩
  · rw [hr, List.length_cons, List.length_append, htl, List.length_drop]; omega
  · rw [hr]; rfl
  · rw [hr, List.getElem?_cons_succ, List.getElem?_append_left (by omega), List.getElem?_take_of_lt hi]
  · obtain ⟨k, rfl⟩ : ∃ k, i = k + 1 := ⟨i - 1, by omega⟩
    rw [hr, List.getElem?_cons_succ, List.getElem?_append_right (by omega), htl, List.getElem?_drop]
    congr 1; omega
  · subst e
    exact nodup_at hnd hy hp
  · subst e; rw [hp] at hy; exact (Option.some.inj hy).symm

set_option maxRecDepth 100000 in
set_option maxHeartbeats 2000000 in
theorem moves_law (a : Option Addr) (n c0 : Nat) (zs : List Int) (q : Int) (q1 : -9223372036854775808 ≤ q) (q2 : q ≤ 9223372036854775807) (w : World) (hx : Nums w a n zs) :
    Calls Try.prog 6 #[.slice a n c0, .int .i64 q] w fun e w' => e = .returned (.bool true) ∧ Below w.heap.size w w' := by
  have hX := hid hx
  have hn := hx.1
  obtain ⟨jq, hp⟩ := fold_neg q
  have hjq : jq ≤ 9223372036854775807 := by omega
  clear hx
  go_enter Try.func6, Try.ntmps6
  go_wp2_with fail
  refine (shown_any w).mono ?_
  rintro e w1 ⟨rfl, b1⟩
  go_wp2_with fail
  refine (has_new 1 (by decide) (by decide) w1).mono ?_
  rintro e w2 ⟨P, rfl, hT⟩
  have HT := hid hT
  clear hT
  go_wp2_with fail
  go_loopw [7] (fun p wr => ∃ (i : Nat) (L : List (List Int)), p = .int .i64 i ∧ i ≤ 40 ∧ i ≤ n ∧ Hid (L.length = 1) ∧ Hid (HasR w1 P L (fun _ => False) wr)) (fun p _ => 40 - (RowKit.intOf p).toNat)
  case atStart => exact ⟨0, _, rfl, Nat.zero_le _, Nat.zero_le _, hid rfl, HT⟩
  case round =>
    obtain ⟨i, L, rfl, hi, hin, hL, hTr⟩ := hrel
    clear HT
    by_cases hlt : i < n ∧ i < 40
    · obtain ⟨l1, l2⟩ := hlt
      obtain ⟨x, hxi⟩ : ∃ x, zs[i]? = some x := ⟨_, List.getElem?_eq_getElem (by rw [hn]; exact l1)⟩
      obtain ⟨B, o, rfl, hB, hc⟩ := hX.out.2 i x hxi
      have hcw := ((Below.then b1 hTr.out.below).cell (p := ⟨B, o + i, none⟩) hB).trans hc
      obtain ⟨m, hm, hm2⟩ : ∃ m : Nat, bits .and .i64 x 1023 = (m : Int) ∧ m < 1024 := ⟨(x % 1024).toNat, by rw [i64_and1023]; omega, by omega⟩
      have hb := has_back hTr.out 0 (m : Int) (by unfold i64ok; omega)
      have hL2 : Hid ((opBack L 0 (m : Int)).length = 1) := hid (by rw [opBack_len]; exact hL.out)
      clear hxi hc hTr hp
      go_wp2_with fail
      refine hb.mono ?_
      rintro e w5 ⟨rfl, h5, -⟩
      have H5 := hid h5
      clear h5 hb
      go_wp2_with fail
      go_roundw
      case rel => exact ⟨i + 1, _, by go_num, by omega, by omega, hL2, H5⟩
      case measure => simp [RowKit.intOf] <;> omega
    · have hstop : (n : Int) ≤ (i : Int) ∨ ((i : Int) < (n : Int) ∧ (40 : Int) ≤ (i : Int)) := by omega
      have hall := has_all hTr.out 0
      have hlas := fun w5 (h : HasR w1 P L (fun _ => False) w5) => has_last h 0
      have HLS := hid hlas
      clear hlt hlas
      rcases hstop with h0 | ⟨h0, h0'⟩
      all_goals
        go_wp2_with fail
        refine hall.mono ?_
        rintro e w5 ⟨v5, rfl, o5, b5⟩
        clear hall
        by_cases hN : (rowAt L 0).length = 0
        · have hla := has_last (hTr.out.after b5) 0
          rw [List.length_eq_zero_iff.1 hN] at hla
          rw [hN] at o5
          obtain ⟨a5, c5, rfl⟩ := row_form o5
          have HB := hid (Below.then b1 (hTr.out.after b5).below)
          clear o5 b5 hTr
          go_wp2_with fail
          refine hla.mono ?_
          rintro e w6 ⟨rfl, rfl⟩
          go_wp2_with fail
          go_ret
          exact ⟨rfl, HB.out⟩
        · obtain ⟨g, cap, rfl, hcap, hgb, hgl⟩ := row_pos o5 (by omega)
          have hcel := hid (cel_of o5)
          obtain ⟨N, hNe⟩ : ∃ N, N = (rowAt L 0).length := ⟨_, rfl⟩
          rw [← hNe] at hN hcap ⊢
          have hpN : jq % N < N := Nat.mod_lt _ (by omega)
          obtain ⟨pz, hpz⟩ : ∃ pz, (rowAt L 0)[jq % N]? = some pz := ⟨_, List.getElem?_eq_getElem (by omega)⟩
          obtain ⟨p, hpp⟩ : ∃ p, p = jq % N := ⟨_, rfl⟩
          have hpi : (jq : Int) % (N : Int) = (p : Int) := by rw [hpp]; rfl
          have hpi2 : (jq : Int).tmod (N : Int) = (p : Int) := by rw [Int.tmod_eq_emod_of_nonneg (by omega)]; exact hpi
          rw [← hpp] at hpN hpz
          have HM := hid (moved hTr.out.good hL.out hpz)
          have H5 : Hid (HasR w1 P L (fun x => x = g) w5) := hid (hTr.out.more b5 (fun x hx => .inr (by rw [hx]; exact ⟨hgb, hgl⟩)))
          have hcp := hcel.out p pz hpz
          have hN0 : ¬ (N : Int) = 0 := by omega
          have hNb : N ≤ 4194304 := by
            have hin : (rowAt L 0) ∈ L := by
              have h2 : rowAt L 0 ∈ [rowAt L 0] := List.mem_singleton.2 rfl
              rwa [← one_len hL.out] at h2
            obtain ⟨k, hk⟩ := List.mem_iff_getElem?.1 hin
            rw [hNe]; exact hTr.out.good.len hk
          have HNE := hid hNe
          have HPP := hid hpp
          have HPZ := hid hpz
          clear o5 b5 hTr hpp hpz hNe
          go_upto_if 47 with fail
          go_cut [1] from 46 to 50 (fun a wx => wx = w5 ∧ a = .int .i64 jq)
          case first =>
            rcases hp with ⟨t0, rfl⟩ | ⟨t0, rfl⟩
            all_goals
              go_wp2_with fail
              go_meet
              exact ⟨rfl, by go_num⟩
          case rest =>
          obtain ⟨rfl, rfl⟩ := hcut
          clear hp
          obtain ⟨m1, m2, m3, m4, m5, m6⟩ := HM.out
          have hf := has_front H5.out 0 pz (by obtain ⟨_, _, r1, r2⟩ := m1; unfold i64ok; omega)
          have hl6 := opFront_len L 0 pz
          rw [decide_eq_true m1] at hf
          obtain ⟨K, hK⟩ : ∃ K, K = opFront L 0 pz := ⟨_, rfl⟩
          rw [← hK] at hf m2 m3 m4 m5 hl6
          have M2 := hid m2
          have M3 := hid m3
          have M4 := hid m4
          have M5 := hid m5
          have M6 := hid m6
          have hLK : Hid (K.length = 1) := hid (hl6.trans hL.out)
          clear m1 m2 m3 m4 m5 m6 HM hK hl6
          go_wp2_with fail
          refine hf.mono ?_
          rintro e w6 ⟨rfl, h6, D, d1, d2⟩
          have hcel6 := hid (hcel.out.only d1 (d2 g rfl))
          have hall := has_all h6 0
          clear hf d1 d2 hcp
          rw [M2.out, ← HNE.out] at hall
          go_wp2_with fail
          refine hall.mono ?_
          rintro e w7 ⟨v7, rfl, o7, b7⟩
          obtain ⟨g7, cap7, rfl, hcap7, hgb7, hgl7⟩ := row_pos o7 (by omega)
          have hc7 := hid (cel_of o7)
          have hc8 := hid (hcel6.out.below b7)
          have hk0 := hc7.out 0 pz M3.out
          have HBB := hid (Below.then b1 (h6.after b7).below)
          clear hall o7 b7 h6 hcel6 hcel
          go_wp2_with fail
          go_loopw [11, 12] (fun p1 p2 wr => ∃ (t kk : Nat), p1 = .int .i64 kk ∧ p2 = .int .i64 t ∧ t ≤ N ∧ Hid (kk = if t ≤ p then t + 1 else t) ∧ Hid (Cel wr g7 (rowAt K 0)) ∧ Hid (Cel wr g (rowAt L 0)) ∧ Hid (Below w.heap.size w wr)) (fun _ p2 _ => N - (RowKit.intOf p2).toNat)
          case atStart => exact ⟨0, 1, rfl, rfl, Nat.zero_le _, hid rfl, hc7, hc8, HBB⟩
          case round =>
            obtain ⟨t, kk, rfl, rfl, ht, hkk, C7, C8, HB⟩ := hrel
            clear hc7 hc8 HBB hk0
            by_cases hlt : t < N
            · obtain ⟨y, hy⟩ : ∃ y, (rowAt L 0)[t]? = some y := ⟨_, List.getElem?_eq_getElem (by rw [← HNE.out]; exact hlt)⟩
              have e8 := C8.out t y hy
              have hiff := M6.out t y hy
              by_cases htp : t = p
              · have hyz := hiff.2 htp
                subst hyz
                clear hiff hy
                have hk2 : Hid (kk = if t + 1 ≤ p then t + 1 + 1 else t + 1) := hid (by rw [hkk.out, if_pos (by omega), if_neg (by omega)])
                clear htp
                go_wp2_with fail
                go_roundw
                case rel => exact ⟨t + 1, kk, rfl, by go_num, by omega, hk2, C7, C8, HB⟩
                case measure => simp [RowKit.intOf] <;> omega
              · have hne : (y == pz) = false := beq_eq_false_iff_ne.2 (fun e => htp (hiff.1 e))
                have hkN : kk < N := by
                  rw [hkk.out]; split <;> omega
                have e7 : _ := C7.out kk y (by
                  rw [hkk.out]
                  split
                  · rw [M4.out t (by omega)]; exact hy
                  · rw [M5.out t (by omega)]; exact hy)
                have hk2 : Hid (kk + 1 = if t + 1 ≤ p then t + 1 + 1 else t + 1) := hid (by
                  rw [hkk.out]
                  by_cases h1 : t ≤ p
                  · rw [if_pos h1, if_pos (by omega)]
                  · rw [if_neg h1, if_neg (by omega)])
                have g1 : decide ((N : Int) ≤ (kk : Int)) = false := by simpa using hkN
                have g2 : decide (N ≤ kk) = false := by simpa using hkN
                have i1 : 0 ≤ (kk : Int) := by omega
                have i2 : (kk : Int) < (N : Int) := by omega
                have i3 : 0 ≤ (t : Int) := by omega
                have i4 : (t : Int) < (N : Int) := by omega
                clear hiff hy htp
                go_wp2_with fail
                go_quiet (fail)
                go_wp2_with fail
                go_roundw
                case rel => exact ⟨t + 1, kk + 1, by go_num, by go_num, by omega, hk2, C7, C8, hid (drewn_below HB.out _)⟩
                case measure => simp [RowKit.intOf] <;> omega
            · obtain rfl : t = N := by omega
              go_wp2_with fail
              go_ret
              exact ⟨rfl, HB.out⟩
end Go.Proofs.Ytifbjbebnjjflaa
