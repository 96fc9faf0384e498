/-
  The law ArenaFull at this program. No conditions but that the numbers are an int's.
-/
import Derived.Test.YtclddaacbfgnlaaArenaLaws
namespace Go.Proofs.Ytclddaacbfgnlaa
open Go Go.RowKit Go.Lib

/-- Just the first k of n pages are granted. -/
def FullTo (n k : Nat) (ow : List Int) : Prop := ow.length = n ∧ ∀ j z, ow[j]? = some z → (z = -1 ↔ k ≤ j)
theorem full_zero (n : Nat) : FullTo n 0 (newSt n 512).ow := by
  refine ⟨List.length_replicate, fun j z h => ?_⟩
  have h' : (List.replicate n (-1 : Int))[j]? = some z := h
  rw [List.getElem?_replicate] at h'
  split at h'
  · cases h'; simp
  · cases h'
theorem full_set {n k : Nat} {ow : List Int} (h : FullTo n k ow) {o : Int} (ho : o ≠ -1) : FullTo n (k + 1) (ow.set k o) := by
  refine ⟨by rw [List.length_set]; exact h.1, fun j z hz => ?_⟩
  rw [List.getElem?_set] at hz
  split at hz
  · rename_i e
    subst e
    split at hz
    · cases hz
      exact ⟨fun e => (ho e).elim, fun e => by omega⟩
    · cases hz
  · rename_i e
    rw [h.2 j z hz]; omega
theorem fi_is {zs : List Int} {x : Int} {k : Nat} (h : zs[k]? = some x) (hm : ∀ (i : Nat) z, i < k → zs[i]? = some z → z ≠ x) : fi zs x 0 = (k : Int) := by
  rcases fi_facts zs x 0 with ⟨_, h2⟩ | ⟨j, h1, h2, h3⟩
  · exact (h2 k x h rfl).elim
  · rw [h1, Nat.zero_add]
    rcases Nat.lt_trichotomy j k with hl | he | hg
    · exact (hm j x hl h2 rfl).elim
    · rw [he]
    · exact (h3 k x hg h rfl).elim
theorem fi_none {zs : List Int} {x : Int} (h : ∀ (i : Nat) z, zs[i]? = some z → z ≠ x) : fi zs x 0 = -1 := by
  rcases fi_facts zs x 0 with ⟨h1, _⟩ | ⟨j, _, h2, _⟩
  · exact h1
  · exact (h j x h2 rfl).elim
theorem grant_at {s : St} {o : Int} {k : Nat} (ho : ownB o = true) (h : fi s.ow (-1) 0 = (k : Int)) : s.grant o = ((k : Int), 0, s.setOw k o) := by
  unfold St.grant
  rw [if_pos ho, h, if_neg (by omega), Int.toNat_natCast]
theorem grant_none {s : St} {o : Int} (ho : ownB o = true) (h : fi s.ow (-1) 0 = -1) : s.grant o = (-1, 5, s) := by
  unfold St.grant
  rw [if_pos ho, h, if_pos rfl]
theorem full_fi {n k : Nat} {ow : List Int} (h : FullTo n k ow) (hk : k < n) : fi ow (-1) 0 = (k : Int) := by
  refine fi_is (x := -1) ?_ fun i z hi hz e => ?_
  · have hk' : k < ow.length := by rw [h.1]; exact hk
    rw [List.getElem?_eq_getElem hk']
    exact congrArg some ((h.2 k _ (List.getElem?_eq_getElem hk')).2 (Nat.le_refl _))
  · have := (h.2 i z hz).1 e; omega
theorem full_end {n : Nat} {ow : List Int} (h : FullTo n n ow) : fi ow (-1) 0 = -1 := by
  refine fi_none fun i z hz e => ?_
  have h1 := (h.2 i z hz).1 e
  have h2 := (List.getElem?_eq_some_iff.1 hz).1
  rw [h.1] at h2; omega
theorem full_cnt {n k : Nat} {ow : List Int} (h : FullTo n k ow) (hk : k ≤ n) : cnt ow = k := by
  have key : ∀ j, j ≤ n → cntTo ow j = min j k := by
    intro j
    induction j with
    | zero => intro _; simp [cntTo]
    | succ j ih =>
      intro hj
      have hz : ow[j]? = some (ow[j]'(by rw [h.1]; omega)) := List.getElem?_eq_getElem _
      have ih' := ih (by omega)
      by_cases hjk : k ≤ j
      · rw [cntTo_same hz ((h.2 j _ hz).2 hjk), ih']; omega
      · rw [cntTo_more hz (fun e => hjk ((h.2 j _ hz).1 e)), ih']; omega
  unfold cnt
  rw [h.1, key n (Nat.le_refl _)]; omega

/-- What the last calls answer, all pages being granted, of page k. -/
theorem back_facts {n k : Nat} {s : St} (h : FullTo n n s.ow) (hk : k < n) :
    s.grant 0 = (-1, 5, s) ∧ s.ret k = (0, s.setOw k (-1)) ∧ (s.setOw k (-1)).ret k = (7, s.setOw k (-1)) ∧ (s.setOw k (-1)).grant 7 = ((k : Int), 0, (s.setOw k (-1)).setOw k 7) ∧ ownerOf ((s.setOw k (-1)).setOw k 7).ow k = 7 := by
  have hkl : k < s.ow.length := by rw [h.1]; exact hk
  have hz : s.ow[k]? = some s.ow[k] := List.getElem?_eq_getElem hkl
  have e1 : (s.setOw k (-1)).ow = s.ow.set k (-1) := rfl
  have e2 : ((s.setOw k (-1)).setOw k 7).ow = (s.ow.set k (-1)).set k 7 := rfl
  have hz1 : (s.setOw k (-1)).ow[k]? = some (-1) := by rw [e1, List.getElem?_set_self hkl]
  have hz2 : ((s.setOw k (-1)).setOw k 7).ow[k]? = some 7 := by rw [e2, List.getElem?_set_self (by rw [List.length_set]; exact hkl)]
  refine ⟨grant_none (by decide) (full_end h), ?_, ?_, ?_, ownerOf_at hz2⟩
  · unfold St.ret
    rw [if_pos, Int.toNat_natCast]
    unfold grB
    rw [ownerOf_at hz]
    have : s.ow[k] ≠ -1 := fun e => by have := (h.2 k _ hz).1 e; omega
    simpa using this
  · unfold St.ret
    rw [if_neg]
    unfold grB
    rw [ownerOf_at hz1]; simp
  · refine grant_at (by decide) (fi_is hz1 fun i z hi hzi e => ?_)
    rw [e1, List.getElem?_set_ne (by omega)] at hzi
    have h1 := (h.2 i z hzi).1 e
    omega
theorem full_bound {n k : Nat} {s : St} (h : FullTo n k s.ow) (o : Int) (ho : o ≠ -1) : FullTo n (k + 1) (s.setOw k o).ow := full_set h ho
theorem mod63 (k : Nat) : ∃ r : Nat, (k : Int) % 63 = (r : Int) ∧ ownB (r : Int) = true ∧ (r : Int) ≠ -1 :=
  ⟨k % 63, by omega, by unfold ownB; rw [decide_eq_true_iff]; omega, by omega⟩
theorem fold_mod (n : Int) (c : Nat) : ∃ m : Nat, (0 < c → m < c) ∧ ((n < 0 ∧ (n + 1).tmod (c : Int) = -(m : Int)) ∨ (¬ n < 0 ∧ 0 ≤ n ∧ n % (c : Int) = (m : Int))) := by
  by_cases h : n < 0
  · obtain ⟨j, hj⟩ : ∃ j : Nat, n = -(j : Int) - 1 := ⟨(-(n + 1)).toNat, by omega⟩
    refine ⟨j % c, fun hc => Nat.mod_lt _ hc, .inl ⟨h, ?_⟩⟩
    subst hj
    rw [show -(j : Int) - 1 + 1 = -(j : Int) from by omega, Int.neg_tmod, Int.tmod_eq_emod_of_nonneg (by omega)]; rfl
  · obtain ⟨j, hj⟩ : ∃ j : Nat, n = (j : Int) := ⟨n.toNat, by omega⟩
    refine ⟨j % c, fun hc => Nat.mod_lt _ hc, .inr ⟨h, by omega, ?_⟩⟩
    subst hj; rfl

theorem new512 (n : Nat) (n1 : 1 ≤ n) (n2 : n ≤ 1024) (w : World) :
    Calls Try.prog 8 #[.int .i64 n, .int .i64 512] w fun e w' => ∃ P O R, e = .returned (.tuple #[.pointer (some ⟨P, 0, none⟩), .int .i64 0]) ∧ AIs P O R (newSt n 512) w' ∧ Below w.heap.size w w' ∧ w.heap.size ≤ P ∧ w.heap.size ≤ O ∧ w.heap.size ≤ R :=
  new_ok n 512 n1 n2 (by omega) (by omega) page512 w
/-- A round of the loop: the page k is granted, and k + 1 are. -/
theorem full_round {P O R N k : Nat} {s : St} {w : World} (hF : FullTo N k s.ow) (h : AIs P O R s w) (hk : k < N) (r : Nat) (hr : ownB (r : Int) = true) (hr1 : (r : Int) ≠ -1) :
    Calls Try.prog 15 #[.pointer (some ⟨P, 0, none⟩), .int .i64 r] w fun e w' => e = .returned (.tuple #[.int .i64 k, .int .i64 0]) ∧ Only (fun b => b = O) w w' ∧
      ∃ s', FullTo N (k + 1) s'.ow ∧ AIs P O R s' w' ∧ Calls Try.prog 11 #[.pointer (some ⟨P, 0, none⟩)] w' fun e w'' => e = .returned (.int .i64 ((k : Int) + 1)) ∧ w' = w'' := by
  have hg := grant_any h r
  rw [grant_at hr (full_fi hF hk)] at hg
  refine hg.mono fun e w' ⟨he, h', ho⟩ => ⟨he, ho, s.setOw k r, full_set hF hr1, h', ?_⟩
  have hc := granted_count (s := s.setOw k r) h'
  rw [show cnt (s.setOw k r).ow = k + 1 from full_cnt (full_set hF hr1) hk] at hc
  exact hc

set_option maxHeartbeats 4000000 in
set_option maxRecDepth 100000 in
theorem full_law (p : Int) (p0 : -9223372036854775808 ≤ p) (p1 : p ≤ 9223372036854775807) (q : Int) (q0 : -9223372036854775808 ≤ q) (q1 : q ≤ 9223372036854775807) (w : World) :
    Calls Try.prog 5 #[.int .i64 p, .int .i64 q] w fun e w' => e = .returned (.bool true) ∧ Below w.heap.size w w' := by
  obtain ⟨r, hr, hp⟩ := fold_mod p 100
  have hr' := hr (by decide)
  obtain ⟨N, hN⟩ : ∃ N, N = 1 + r := ⟨_, rfl⟩
  have hN1 : 1 ≤ N := by omega
  have hN2 : N ≤ 100 := by omega
  have eN : 1 + (r : Int) = (N : Int) := by omega
  obtain ⟨b, hb0, hq⟩ := fold_mod q N
  have hb := hb0 (by omega)
  have e100 : ((100 : Nat) : Int) = 100 := rfl
  rw [e100] at hp
  have hnew := fun w => new512 N (by omega) (by omega) w
  clear e100 hN hr hb0
  go_enter Try.func5, Try.ntmps5
  go_wp2_with fail
  refine (shown_any _).mono ?_
  rintro e w1 ⟨rfl, b1⟩
  rcases hp with ⟨t0, t1⟩ | ⟨t0, t2, t1⟩
  all_goals
    rcases hq with ⟨u0, u1⟩ | ⟨u0, u2, u1⟩
    all_goals
      go_wp2_with fail
      refine (hnew _).mono ?_
      rintro e w2 ⟨P, O, R, rfl, h, b2, -, hO, -⟩
      have H := hid h
      have b3 : Below w.heap.size w w2 := Below.then b1 b2
      have hO' : w.heap.size ≤ O := Nat.le_trans b1.size hO
      clear h hnew b1 b2 hO
      go_wp2_with fail
      go_loopw [8] (fun z wr => ∃ (k : Nat) (s : St), k ≤ N ∧ z = .int .i64 k ∧ Hid (FullTo N k s.ow) ∧ Hid (AIs P O R s wr) ∧ Below w.heap.size w wr) (fun z _ => N - (intOf z).toNat)
      case atStart => exact ⟨0, newSt N 512, Nat.zero_le _, rfl, hid (full_zero N), H, b3⟩
      case round =>
        obtain ⟨k, s, hk, rfl, HF, HA, hb4⟩ := hrel
        clear H b3
        by_cases hlt : k < N
        · have ilt : (k : Int) < (N : Int) := by omega
          obtain ⟨m, em, hm1, hm2⟩ := mod63 k
          have hg := full_round HF.out HA.out hlt m hm1 hm2
          clear HF HA hm1 hm2
          go_wp2_with fail
          refine hg.mono ?_
          rintro e w3 ⟨rfl, ho, s', hF, hA, hc⟩
          have b5 := only_below hb4 ho (Nat.le_refl _) hO'
          have HF := hid hF
          have HA := hid hA
          clear hg ho hF hA hb4
          go_wp2_with fail
          refine hc.mono ?_
          rintro e w4 ⟨rfl, rfl⟩
          clear hc
          go_wp2_with fail
          go_roundw
          case rel => exact ⟨k + 1, s', by omega, by go_num, HF, HA, b5⟩
          case measure => simp [intOf] <;> omega
        · obtain rfl : k = N := by omega
          obtain ⟨f1, f2, f3, f4, f5⟩ := back_facts HF.out hb
          have hg := grant_any HA.out 0
          rw [f1] at hg
          have F2 := hid f2
          have F3 := hid f3
          have F4 := hid f4
          have F5 := hid f5
          clear HF HA f1 f2 f3 f4 f5
          go_wp2_with fail
          refine hg.mono ?_
          rintro e w3 ⟨rfl, h, ho⟩
          have b5 := only_below hb4 ho (Nat.le_refl _) hO'
          have hg2 := return_any h b
          rw [F2.out] at hg2
          clear hg h ho hb4
          go_wp2_with fail
          refine hg2.mono ?_
          rintro e w4 ⟨rfl, h, ho⟩
          have b6 := only_below b5 ho (Nat.le_refl _) hO'
          have hg3 := return_any h b
          rw [F3.out] at hg3
          clear hg2 h ho b5
          go_wp2_with fail
          refine hg3.mono ?_
          rintro e w5 ⟨rfl, h, ho⟩
          have b7 := only_below b6 ho (Nat.le_refl _) hO'
          have hg4 := grant_any h 7
          rw [F4.out] at hg4
          clear hg3 h ho b6
          go_wp2_with fail
          refine hg4.mono ?_
          rintro e w6 ⟨rfl, h, ho⟩
          have b8 := only_below b7 ho (Nat.le_refl _) hO'
          have hg5 := owner_any h b
          rw [F5.out] at hg5
          clear hg4 h ho b7
          go_wp2_with fail
          refine hg5.mono ?_
          rintro e w7 ⟨rfl, rfl⟩
          clear hg5
          go_wp2_with fail
          go_ret
          exact ⟨rfl, b8⟩
end Go.Proofs.Ytclddaacbfgnlaa
