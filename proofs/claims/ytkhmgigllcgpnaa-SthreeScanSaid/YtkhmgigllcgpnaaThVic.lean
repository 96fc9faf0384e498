/-
  The contract of the program's three queues' Victim. Conditions: they lie in memory.
-/
import Derived.Test.YtkhmgigllcgpnaaThGo
import Derived.Test.YtkhmgigllcgpnaaThRefVic
import Derived.Deep.LoopGhost
namespace Go.Proofs.Ytkhmgigllcgpnaa.Th
open Go Go.RowKit Go.Lib

section
variable {P r m Q : Nat} {F : Nat → Nat → Prop} {L : List (List Int)} {c mm : Nat} {g : List Int} {S : Int → Bool} {num : Int → Int} {cnt : Int → Nat} {w : World}
set_option maxRecDepth 100000 in
theorem tm_gives0 (h : TM P r m Q F L c mm g S num cnt w) (hc : (c : Int) ≤ 9223372036854775807) (B : Bool) (hB : B = (decide (0 < (rowAt L 0).length) && (decide (max 1 (c / 10) < (rowAt L 0).length) || decide ((rowAt L 1).length = 0)))) :
    Calls Try.prog 42 #[.pointer (some ⟨P, 0, none⟩), .int .i64 0] w fun e w' => e = .returned (.bool B) ∧ w = w' := by
  have c0 := h.head.cell (i := 0) rfl
  have c3 := h.head.cell (i := 3) rfl
  have l0 := at_len h.rows 0
  have l1 := at_len h.rows 1
  clear h
  generalize (rowAt L 0).length = N0 at *
  generalize (rowAt L 1).length = N1 at *
  obtain ⟨D, hD⟩ : ∃ D, D = c / 10 := ⟨_, rfl⟩
  have q10 : (c : Int) / 10 = (D : Int) := by rw [hD]; exact (Int.natCast_ediv _ _).symm
  have hDb : (D : Int) ≤ 922337203685477580 := by omega
  rw [← hD] at hB
  by_cases a1 : N1 = 0
  · subst a1
    have hcase : (N0 = 0 ∧ Hid (B = false)) ∨ ((0 : Int) < (N0 : Int) ∧ Hid (B = true)) := by
      by_cases a0 : N0 = 0
      · exact .inl ⟨a0, hid (by rw [hB, a0]; rfl)⟩
      · exact .inr ⟨by omega, hid (by rw [hB]; simp [show 0 < N0 by omega])⟩
    clear hB hD q10 hDb hc
    rcases hcase with ⟨rfl, e⟩ | ⟨a0, e⟩
    all_goals
      go_enter Try.func42, Try.ntmps42
      go_wp2_with fail
      refine l0.mono ?_
      rintro e w1 ⟨rfl, rfl⟩
      go_wp2_with fail
      refine l1.mono ?_
      rintro e w1 ⟨rfl, rfl⟩
      go_wp2_with fail
      go_ret
      exact ⟨ret_bool (by first | exact e.out.symm | (rw [e.out]; simp; omega)), rfl⟩
  · have a1' : ((N1 : Int) == 0) = false := beq_eq_false_iff_ne.2 (by omega)
    have hcase : ((D : Int) < 1 ∧ (1 : Int) < (N0 : Int) ∧ Hid (B = true)) ∨ ((D : Int) < 1 ∧ ¬ (1 : Int) < (N0 : Int) ∧ Hid (B = false)) ∨ ((1 : Int) ≤ (D : Int) ∧ (D : Int) < (N0 : Int) ∧ Hid (B = true)) ∨ ((1 : Int) ≤ (D : Int) ∧ ¬ (D : Int) < (N0 : Int) ∧ Hid (B = false)) := by
      by_cases a2 : D < 1
      · by_cases a3 : 1 < N0
        · exact .inl ⟨by omega, by omega, hid (by rw [hB]; simp [show max 1 D < N0 by omega, show 0 < N0 by omega])⟩
        · exact .inr (.inl ⟨by omega, by omega, hid (by rw [hB, decide_eq_false (show ¬ max 1 D < N0 by omega), decide_eq_false a1]; simp)⟩)
      · by_cases a3 : D < N0
        · exact .inr (.inr (.inl ⟨by omega, by omega, hid (by rw [hB]; simp [show max 1 D < N0 by omega, show 0 < N0 by omega])⟩))
        · exact .inr (.inr (.inr ⟨by omega, by omega, hid (by rw [hB, decide_eq_false (show ¬ max 1 D < N0 by omega), decide_eq_false a1]; simp)⟩))
    clear hB hD hc
    rcases hcase with ⟨a2, a3, e⟩ | ⟨a2, a3, e⟩ | ⟨a2, a3, e⟩ | ⟨a2, a3, e⟩
    all_goals
      go_enter Try.func42, Try.ntmps42
      go_wp2_with fail
      refine l0.mono ?_
      rintro e w1 ⟨rfl, rfl⟩
      go_wp2_with fail
      refine l1.mono ?_
      rintro e w1 ⟨rfl, rfl⟩
      go_wp2_with fail
      go_ret
      exact ⟨ret_bool (by first | exact e.out.symm | (rw [e.out]; simp; omega)), rfl⟩
set_option maxRecDepth 100000 in
theorem tm_gives1 (h : TM P r m Q F L c mm g S num cnt w) (B : Bool) (hB : B = decide (0 < (rowAt L 1).length)) :
    Calls Try.prog 42 #[.pointer (some ⟨P, 0, none⟩), .int .i64 1] w fun e w' => e = .returned (.bool B) ∧ w = w' := by
  have c0 := h.head.cell (i := 0) rfl
  have l1 := at_len h.rows 1
  clear h
  generalize (rowAt L 1).length = N1 at *
  have hcase : (N1 = 0 ∧ Hid (B = false)) ∨ ((0 : Int) < (N1 : Int) ∧ Hid (B = true)) := by
    by_cases a0 : N1 = 0
    · exact .inl ⟨a0, hid (by rw [hB, a0]; rfl)⟩
    · exact .inr ⟨by omega, hid (by rw [hB]; simp [show 0 < N1 by omega])⟩
  clear hB
  rcases hcase with ⟨rfl, e⟩ | ⟨a0, e⟩
  all_goals
    go_enter Try.func42, Try.ntmps42
    go_wp2_with fail
    refine l1.mono ?_
    rintro e w1 ⟨rfl, rfl⟩
    go_wp2_with fail
    go_ret
    exact ⟨ret_bool (by first | exact e.out.symm | (rw [e.out]; simp; omega)), rfl⟩
end

theorem look_has {t : Th} (ok : t.Ok) {z : Int} (hat : t.at_ = z) (h0 : 0 ≤ z) : updN t.has z true = t.look.has := by
  have hi : t.has z = true := has_in.2 (hat ▸ at_in ok (by rw [hat]; exact h0))
  funext y
  rw [Bool.eq_iff_iff, has_in (s := t.look), look_mem ok (by rw [hat]; exact h0)]
  by_cases e : y = z
  · rw [e, updN_same]; exact ⟨fun _ => has_in.1 hi, fun _ => rfl⟩
  · rw [updN_other e, has_in]
theorem look_fin {t : Th} {z : Int} {n : Nat} (hat : t.at_ = z) (hn : n = if t.sm then 0 else t.cnt z - 1) : t.look = ⟨opFront t.L 1 z, t.g, t.m, updN t.num z (t.num z), updN t.cnt z n⟩ := by
  have h1 : updN t.num z (t.num z) = t.num := by
    funext y
    by_cases e : y = z
    · rw [e, updN_same]
    · rw [updN_other e]
  rw [h1]
  unfold Th.look
  rw [hat, hn]
section
variable {P : Nat} {G : Nat → Prop} {s : Th} {w : World}
set_option maxRecDepth 100000 in
set_option maxHeartbeats 1000000 in
theorem tp_spare (h : TP P G s w) (z q : Int) (hat : s.at_ = z) (h0 : 0 ≤ z) (hq1 : q = if s.sm then 0 else 1) : Calls Try.prog 44 #[.pointer (some ⟨P, 0, none⟩), .int .i64 q, .int .i64 z] w fun e w' => e = .returned (.bool (!s.end_)) ∧ ∃ G', TP P G' (if s.end_ then s else s.look) w' ∧ Stp G G' w w' := by
  have HQ := hid h
  obtain ⟨ok, r, m, Q, F, hq, hG⟩ := h
  have hin := at_in ok (by rw [hat]; exact h0)
  rw [hat] at hin
  have hm := ok.good.rng z hin
  have hz : i64ok z := by unfold i64ok; omega
  have c1 := hq.head.cell (i := 1) rfl
  have hlk := hq.map.look hz
  have h3 := ok.three z
  have hend := end_is hat h0
  cases he : s.end_
  · have hM : May s.L.length 1 z := hat ▸ at_may ok (by rw [hat]; exact h0)
    have okl := ok.look he
    obtain ⟨n', hn'⟩ : ∃ n', n' = if s.sm then 0 else s.cnt z - 1 := ⟨_, rfl⟩
    have el := look_fin hat hn'
    have eh := look_has ok hat h0
    obtain ⟨j, hj⟩ : ∃ j : Int, j = (n' : Int) := ⟨_, rfl⟩
    have HZ := hid (And.intro hm hj)
    have HP : Hid (∀ W, Below w.heap.size w W → W.cell? ⟨P, 1, none⟩ = some (.map (some m)) ∧ EM W m s.has s.num s.cnt ∧ ∀ w1, EM w1 m (updN s.has z true) (updN s.num z (s.num z)) (updN s.cnt z n') → W.mapTurned w1 m → w1.cell? ⟨P, 0, none⟩ = some (.pointer (some ⟨r, 0, none⟩)) ∧
        Calls Try.prog 40 #[.pointer (some ⟨r, 0, none⟩), .int .i64 1, .int .i64 z] w1 fun e w' => e = .returned (.bool true) ∧ ∃ G', TP P G' s.look w' ∧ Stp G G' w w') := hid (fun W hb => by
      have hw := hq.below hb
      refine ⟨hw.head.cell (i := 1) rfl, hw.map, fun w1 k t => ?_⟩
      obtain ⟨k1, k2⟩ := hw.goE k t (upd_ok hw.nok (hw.nok z))
      refine ⟨k1.head.cell (i := 0) rfl, (tm_front k1 1 z hz).mono ?_⟩
      rintro e w' ⟨e1, F', k3, k4⟩
      rw [decide_eq_true hM] at e1
      rw [eh] at k3
      refine ⟨e1, tp_go (r := r) (m := m) (Q := Q) (s := s.look) (F' := F') hG okl ?_ (((Stp.below hb).trans k2).trans k4)⟩
      generalize s.look.has = S at *
      rw [el]; exact k3)
    rw [he] at hend
    have hc : (q = 0 ∧ (2 : Int) ≤ (s.cnt z : Int) ∧ j = 0) ∨ (q = 1 ∧ (0 : Int) < (s.cnt z : Int) ∧ (s.cnt z : Int) - 1 = j) := by
      cases hs : s.sm
      · rw [hs] at hq1 hn' hend
        have := of_decide_eq_false hend.symm
        simp at hq1 hn' this
        exact .inr ⟨hq1, by omega, by omega⟩
      · rw [hs] at hq1 hn' hend
        have := of_decide_eq_false hend.symm
        simp at hq1 hn' this
        exact .inl ⟨hq1, by omega, by omega⟩
    have h3' : (s.cnt z : Int) ≤ 3 := by omega
    obtain ⟨d1, he, hT⟩ := HP.out ((w.alloc (.cells #[.int .u64 (s.num z), .int .i64 j] 64)).drew) (abelow w _).drew
    have HE := hid he
    have HT := hid hT
    clear HP he hT
    generalize s.cnt z = n at *
    generalize s.num z = x at *
    clear hq hG ok HQ okl el eh hn' hm hz hj hM hend hin hat hq1 h3
    rcases hc with ⟨rfl, q1, rfl⟩ | ⟨rfl, q1, q2⟩
    all_goals
      go_enter Try.func44, Try.ntmps44
      go_upto_region 7 with fail
      refine region_tail 6 (by kernel_rfl) (by kernel_rfl) ?_
      simp only [List.take_succ_cons, List.take_zero, List.drop_succ_cons, List.drop_zero]
      clear hlk c1
      repeat still_step
      refine wpStill_nil ?_
      go_wp2_with (at_mapUpdate; refine wpList_em_put rfl _ _ _ rfl rfl HE rfl rfl HZ ?_; intro w1 k1 t1; obtain ⟨d0, hf⟩ := HT.out w1 k1.out t1.out; clear k1 t1 HT HE d1 HZ)
      refine hf.mono ?_
      rintro e w2 ⟨rfl, hR⟩
      have HR := hid hR
      clear hR hf d0
      go_wp2_with fail
      go_ret
      exact ⟨rfl, HR.out⟩
  · rw [he] at hend
    have hc : (q = 0 ∧ ¬ (2 : Int) ≤ (s.cnt z : Int)) ∨ (q = 1 ∧ s.cnt z = 0) := by
      cases hs : s.sm
      · rw [hs] at hq1 hend
        have := of_decide_eq_true hend.symm
        simp at hq1 this
        exact .inr ⟨hq1, by omega⟩
      · rw [hs] at hq1 hend
        have := of_decide_eq_true hend.symm
        simp at hq1 this
        exact .inl ⟨hq1, by omega⟩
    generalize s.cnt z = n at *
    generalize s.num z = x at *
    clear hq hG ok hm hz hend hin hat hq1
    rcases hc with ⟨rfl, q1⟩ | ⟨rfl, rfl⟩
    all_goals
      go_enter Try.func44, Try.ntmps44
      go_wp2_with fail
      go_ret
      exact ⟨rfl, G, HQ.out.below (abelow w _), Stp.below (abelow w _)⟩
end
end Go.Proofs.Ytkhmgigllcgpnaa.Th
