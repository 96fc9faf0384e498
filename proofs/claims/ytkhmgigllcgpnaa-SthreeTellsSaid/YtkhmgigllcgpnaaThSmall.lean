/-
  The contracts of the program's three queues: Count, All, Ghosts, Remove, Touch. Conditions: they lie in memory; ids are ints.
-/
import Derived.Test.YtkhmgigllcgpnaaThMem
import Derived.BigQuiet
import Derived.Deep.RegionHeld3
import Derived.StillTailTactics
namespace Go.Proofs.Ytkhmgigllcgpnaa.Th
open Go Go.RowKit Go.Lib

/-- A region whose operations but the last ones only read: the walk in the text's order. -/
theorem region_tail {P : Program} {id : Nat} {Q : Exit → Act → World → Prop} {a : Act} {w : World} {l : List Oper} (n : Nat) (hm : P.follows .mixedOrders = true) (hB : Region.lexTailB .any l.toArray n = true)
    (h : wpStill P l.toArray w.drew (fun a' => wpList P l.toArray Q (l.drop n) a' w.drew) (l.take n) a) : (Code.region id l.toArray true).wp P Q a w := wp_region_still_tail n hm hB h
theorem rem_is {s : Th} (ok : s.Ok) (z : Int) : s.rem z = ⟨takeL s.L z, s.g, s.m, updN s.num z 0, updN s.cnt z 0⟩ := by
  unfold Th.rem
  cases h : s.has z
  · have hn : z ∉ s.L.flatten := fun e => by rw [has_in.2 e] at h; cases h
    rw [if_neg (by decide), take_no hn]
    have h1 : updN s.num z 0 = s.num := by
      funext y
      by_cases e : y = z
      · rw [e, updN_same, (ok.zero z hn).1]
      · rw [updN_other e]
    have h2 : updN s.cnt z 0 = s.cnt := by
      funext y
      by_cases e : y = z
      · rw [e, updN_same, (ok.zero z hn).2]
      · rw [updN_other e]
    rw [h1, h2]
  · rw [if_pos rfl]
theorem rem_has {s : Th} (ok : s.Ok) (z : Int) : updN s.has z false = (s.rem z).has := by
  funext y
  rw [rem_is ok]
  rw [Bool.eq_iff_iff, has_in]
  show updN s.has z false y = true ↔ y ∈ (takeL s.L z).flatten
  rw [mem_take]
  by_cases e : y = z
  · rw [e, updN_same]; simp
  · rw [updN_other e, has_in]; simp [e]
theorem tch_is {s : Th} {z : Int} (h : s.has z = true) {n : Nat} (hn : n = min 3 (s.cnt z + 1)) : s.tch z = ⟨s.L, s.g, s.m, updN s.num z (s.num z), updN s.cnt z n⟩ ∧ updN s.has z true = s.has := by
  have h1 : updN s.num z (s.num z) = s.num := by
    funext y
    by_cases e : y = z
    · rw [e, updN_same]
    · rw [updN_other e]
  refine ⟨by unfold Th.tch; rw [h, if_pos rfl, h1, hn], ?_⟩
  funext y
  by_cases e : y = z
  · rw [e, updN_same, h]
  · rw [updN_other e]

section
variable {P : Nat} {G : Nat → Prop} {s : Th} {w : World}
set_option maxRecDepth 100000 in
theorem tp_count (h : TP P G s w) (z : Int) (hz : i64ok z) : Calls Try.prog 14 #[.pointer (some ⟨P, 0, none⟩), .int .i64 z] w fun e w' => e = .returned (.int .i64 (s.count z)) ∧ Below w.heap.size w w' := by
  obtain ⟨ok, r, m, Q, F, hq, hG⟩ := h
  have c1 := hq.head.cell (i := 1) rfl
  have hlk := hq.map.lookOk hz
  have hb := fun o => abelow w o
  cases hh : s.has z
  · rw [hh] at hlk
    have hc : Hid (s.count z = -1) := hid (by unfold Th.count; rw [hh]; rfl)
    clear hq hG ok hh
    go_enter Try.func14, Try.ntmps14
    go_wp2_with fail
    go_ret
    exact ⟨ret_i64 hc.out.symm, hb _⟩
  · rw [hh] at hlk
    have hc : Hid (s.count z = (s.cnt z : Int)) := hid (by unfold Th.count; rw [hh]; rfl)
    generalize s.cnt z = n at *
    generalize s.num z = x at *
    clear hq hG ok hh
    go_enter Try.func14, Try.ntmps14
    go_wp2_with fail
    go_ret
    exact ⟨ret_i64 hc.out.symm, hb _⟩
set_option maxRecDepth 100000 in
theorem tp_all (h : TP P G s w) (r : Int) : Calls Try.prog 16 #[.pointer (some ⟨P, 0, none⟩), .int .i64 r] w fun e w' => ∃ v, e = .returned v ∧ w'.ownsRow w.heap.size 3 1 v (rowAt s.L r).length (ic (rowAt s.L r)) ∧ Below w.heap.size w w' := by
  obtain ⟨ok, r', m, Q, F, hq, hG⟩ := h
  have c0 := hq.head.cell (i := 0) rfl
  have ha := at_all hq.rows r
  generalize rowAt s.L r = l at *
  clear hq hG ok
  go_enter Try.func16, Try.ntmps16
  go_wp2_with fail
  refine ha.mono ?_
  rintro e w1 ⟨v, rfl, HO⟩
  obtain ⟨a, c, rfl⟩ := row_form HO.1
  have HO := hid HO
  go_wp2_with fail
  go_ret
  exact ⟨_, rfl, HO.out⟩
set_option maxRecDepth 100000 in
theorem tp_ghosts (h : TP P G s w) : Calls Try.prog 12 #[.pointer (some ⟨P, 0, none⟩)] w fun e w' => ∃ v, e = .returned v ∧ w'.ownsRow w.heap.size 29 1 v s.g.length (Gh.uc s.g) ∧ Below w.heap.size w w' := by
  obtain ⟨ok, r', m, Q, F, hq, hG⟩ := h
  have c2 := hq.head.cell (i := 2) rfl
  have a1 := Gh.at_all hq.gh
  generalize s.g = l at *
  clear hq hG ok
  go_enter Try.func12, Try.ntmps12
  go_wp2_with fail
  refine a1.mono ?_
  rintro e w1 ⟨v, rfl, HO⟩
  obtain ⟨a, c, rfl⟩ := row_form HO.1
  have HO := hid HO
  go_wp2_with fail
  go_ret
  exact ⟨_, rfl, HO.out⟩
set_option maxRecDepth 100000 in
theorem tp_remove (h : TP P G s w) (z : Int) (hz : i64ok z) : Calls Try.prog 30 #[.pointer (some ⟨P, 0, none⟩), .int .i64 z] w fun e w' => e = .returned (.bool (s.has z)) ∧ ∃ G', TP P G' (s.rem z) w' ∧ Stp G G' w w' := by
  obtain ⟨ok, r, m, Q, F, hq, hG⟩ := h
  have c1 := hq.head.cell (i := 1) rfl
  have hu := hid hq.map
  have hz' := hid hz
  have okr := ok.rem z
  have HD : Hid (∀ w1, EM w1 m (updN s.has z false) (updN s.num z 0) (updN s.cnt z 0) → w.mapTurned w1 m → w1.cell? ⟨P, 0, none⟩ = some (.pointer (some ⟨r, 0, none⟩)) ∧
      Calls Try.prog 48 #[.pointer (some ⟨r, 0, none⟩), .int .i64 z] w1 fun e w' => e = .returned (.bool (s.has z)) ∧ ∃ G', TP P G' (s.rem z) w' ∧ Stp G G' w w') := hid (fun w1 hu ht => by
    obtain ⟨k1, k2⟩ := hq.goE hu ht (upd_ok hq.nok (by unfold u64ok; omega))
    refine ⟨k1.head.cell (i := 0) rfl, (tm_take k1 z hz).mono ?_⟩
    rintro e w' ⟨he, F', k3, k4⟩
    rw [rem_has ok] at k3
    refine ⟨he, tp_go (r := r) (m := m) (Q := Q) (s := s.rem z) (F' := F') hG okr ?_ (k2.trans k4)⟩
    have e1 := rem_is ok z
    generalize (s.rem z).has = S at *
    rw [e1]; exact k3)
  clear hq hG ok okr hz
  go_enter Try.func30, Try.ntmps30
  go_wp2_with (at_delete; refine wpList_em_del rfl _ _ rfl rfl hu rfl hz' ?_; intro w1 h1 t1; obtain ⟨d0, ht⟩ := HD.out w1 h1.out t1.out; clear h1 t1 HD hu c1)
  refine ht.mono ?_
  rintro e w2 ⟨rfl, HR⟩
  have HR := hid HR
  clear ht d0
  go_wp2_with fail
  go_ret
  exact ⟨rfl, HR.out⟩

set_option maxRecDepth 100000 in
set_option maxHeartbeats 1000000 in
theorem tp_touch (h : TP P G s w) (z : Int) (hz : i64ok z) : Calls Try.prog 21 #[.pointer (some ⟨P, 0, none⟩), .int .i64 z] w fun e w' => e = .returned (.bool (s.has z)) ∧ ∃ G', TP P G' (s.tch z) w' ∧ Stp G G' w w' := by
  have HQ := hid h
  obtain ⟨ok, r, m, Q, F, hq, hG⟩ := h
  have c1 := hq.head.cell (i := 1) rfl
  have hlk := hq.map.lookOk hz
  cases hh : s.has z
  · rw [hh] at hlk
    have e2 : Hid (s.tch z = s) := hid (by unfold Th.tch; rw [hh]; rfl)
    clear hq hG ok hh
    go_enter Try.func21, Try.ntmps21
    go_wp2_with fail
    go_ret
    exact ⟨rfl, G, by rw [e2.out]; exact HQ.out.below (abelow w _), Stp.below (abelow w _)⟩
  · rw [hh] at hlk
    have hm := (has_may ok hh).1
    have okt := ok.tch z
    have h3 := ok.three z
    obtain ⟨n', hn'⟩ : ∃ n', n' = min 3 (s.cnt z + 1) := ⟨_, rfl⟩
    obtain ⟨et, eh⟩ := tch_is hh hn'
    have HP : Hid (∀ W, Below w.heap.size w W → W.cell? ⟨P, 1, none⟩ = some (.map (some m)) ∧ EM W m s.has s.num s.cnt ∧ ∀ w1, EM w1 m (updN s.has z true) (updN s.num z (s.num z)) (updN s.cnt z n') → W.mapTurned w1 m → ∃ G', TP P G' (s.tch z) w1 ∧ Stp G G' w w1) := hid (fun W hb => by
      have hw := hq.below hb
      refine ⟨hw.head.cell (i := 1) rfl, hw.map, fun w1 k t => ?_⟩
      obtain ⟨k1, k2⟩ := hw.goE k t (upd_ok hw.nok (hw.nok z))
      have hE : (s.tch z).has = updN s.has z true := by rw [eh]; funext y; rw [et]; rfl
      refine tp_go (r := r) (m := m) (Q := Q) (s := s.tch z) (F' := F) hG okt ?_ ((Stp.below hb).trans k2)
      rw [hE, et]; exact k1)
    obtain ⟨j, hj⟩ : ∃ j : Int, j = (n' : Int) := ⟨_, rfl⟩
    have HZ := hid (And.intro hm hj)
    have hn0 : (s.cnt z + 1 ≤ 3 ∧ n' = s.cnt z + 1) ∨ (3 < s.cnt z + 1 ∧ n' = 3) := by omega
    generalize s.cnt z = n at *
    generalize s.num z = x at *
    clear hq hG ok hh HQ okt et eh hn' hm hz
    have hcase : ((n : Int) + 1 = j ∧ j ≤ 3) ∨ (n = 3 ∧ j = 3) := by
      rcases hn0 with ⟨k1, k2⟩ | ⟨k1, k2⟩
      · exact .inl ⟨by omega, by omega⟩
      · exact .inr ⟨by omega, by omega⟩
    clear hn0
    obtain ⟨d1, he, hT⟩ := HP.out ((w.alloc (.cells #[.int .u64 x, .int .i64 j] 64)).drew) (abelow w _).drew
    have HE := hid he
    have HT := hid hT
    clear HP he hT hj
    rcases hcase with ⟨q2, q3⟩ | ⟨rfl, rfl⟩
    all_goals
      go_enter Try.func21, Try.ntmps21
      go_upto_region 5 with fail
      refine region_tail 6 (by kernel_rfl) (by kernel_rfl) ?_
      simp only [List.take_succ_cons, List.take_zero, List.drop_succ_cons, List.drop_zero]
      clear hlk c1
      repeat still_step
      refine wpStill_nil ?_
      go_wp2_with (at_mapUpdate; refine wpList_em_put rfl _ _ _ rfl rfl HE rfl rfl HZ ?_; intro w1 k1 t1; have HR := hid (HT.out w1 k1.out t1.out); clear k1 t1 HT HE d1)
      go_ret
      exact ⟨rfl, HR.out⟩
end
end Go.Proofs.Ytkhmgigllcgpnaa.Th
