/-
  bytes.Clone and (*Arena).Read at this program. No conditions but that the numbers are an int's.
  The law ArenaFull at this program. No conditions but that the numbers are an int's.
-/
import Derived.Test.YtldfpacdlephcaaArenaBytes
import Derived.WalkSpells
namespace Go.Proofs.Ytldfpacdlephcaa
open Go Go.RowKit Go.Lib

set_option maxHeartbeats 1000000 in
set_option maxRecDepth 100000 in
theorem clone_any (ad : Addr) (c : Nat) (l : List UInt8) (hl : l.length ≤ 65536) (w : World) (hv : ∀ j v, (bc l)[j]? = some v → w.cell? (ad.add j) = some v) :
    Calls Try.prog 73 #[.slice (some ad) l.length c] w fun e w' => ∃ v, e = .returned v ∧ w'.ownsRow w.heap.size 5 1 v l.length (bc l) ∧ Below w.heap.size w w' := by
  obtain ⟨i0, hi, hz0, hz1, hz2⟩ := info_parts infoByte
  obtain ⟨cl, hcl⟩ : ∃ cl, cl = bc l := ⟨_, rfl⟩
  have hcn : cl.length = l.length := by rw [hcl, bc_len]
  have HO := hid (bc_ok l)
  rw [← hcl] at hv HO ⊢
  have HV := hid fun (o : Obj) j v h => cell_alloc (hv j v h) o
  have HW := hid (World.ownsRow_made (base := w.heap.size) (e := 5) (size := 1) w #[] 0 (Nat.le_refl _) (by unfold maxLen; omega) rfl)
  clear hv hcl
  have hq := fun (w : World) (a : Option Addr) (n c n' c' : Nat) => Lib.run_eql_slice_nil (P := Try.prog) w _ _ a n c n' c' Try.underlying39
  generalize l.length = n at *
  go_enter Try.func73, Try.ntmps73
  go_wp2_with (at_builtin; refine wpList_append_own _ rfl _ _ 39 rfl w.heap.size 5 i0 (.int .u8 0) 1 1 Try.underlying39 hi hz0 hz1 hz2 rfl (by decide) (.slice (some ⟨w.heap.size, 0, none⟩) 0 0) 0 [] rfl HW.out ad n c cl rfl (by rw [hcn, Nat.mul_one]) (HV.out _) HO.out (by unfold maxLen; omega) (by omega) (by simp) ?_; intro v' w1 hown hgrow _)
  rw [Nat.zero_add] at hown
  have hb : Below w.heap.size w w1 := ((Below.refl w.heap.size w).alloc (Nat.le_refl _) _).grown hgrow (by simp) (fun k hk => by simp [Value.ownBlock] at hk; omega)
  go_wp2_with fail
  go_ret
  exact ⟨_, rfl, by simpa using hown, hb⟩

set_option maxHeartbeats 1000000 in
set_option maxRecDepth 100000 in
theorem read_bad {P O R : Nat} {s : St} {w : World} (h : AIs P O R s w) (p i m : Int) (hi : i ≤ 9223372036854775807) (c : Int) (hc : c = s.code p i m) (h0 : c ≠ 0) (h7 : c = 1 ∨ c = 7) :
    Calls Try.prog 52 #[.pointer (some ⟨P, 0, none⟩), .int .i64 p, .int .i64 i, .int .i64 m] w fun e w' => e = .returned (.tuple #[.slice none 0 0, .int .i64 c]) ∧ w = w' := by
  have hp := part_bad h p i m hi c hc h0
  clear h hc h0
  rcases h7 with rfl | rfl
  all_goals
    go_enter Try.func52, Try.ntmps52
    go_wp2_with fail
    refine hp.mono ?_
    rintro e w' ⟨rfl, rfl⟩
    clear hp
    go_wp2_with fail
    go_ret2
    exact ⟨rfl, rfl⟩

set_option maxHeartbeats 1000000 in
set_option maxRecDepth 100000 in
theorem read_ok {P O R : Nat} {s : St} {w : World} (h : AIs P O R s w) (k i m : Nat) (hg : grB s.ow (k : Int) = true) (hk : k < s.ow.length) (hi : i + m ≤ s.size) :
    Calls Try.prog 52 #[.pointer (some ⟨P, 0, none⟩), .int .i64 k, .int .i64 i, .int .i64 m] w fun e w' => ∃ v, e = .returned (.tuple #[v, .int .i64 0]) ∧ w'.ownsRow w.heap.size 5 1 v m (bc (s.get k i m)) ∧ Below w.heap.size w w' := by
  have hp := part_ok h k i m hg hk hi
  obtain ⟨cs, hb, hR⟩ := h.row
  have hsrc := get_src hb hR (i := i) (m := m) hk
  have hlen := St.get_len h.ok hk hi
  have hs2 := h.ok.s2
  have HC := hid fun (ad : Addr) c (hv : ∀ j v, (bc (s.get k i m))[j]? = some v → w.cell? (ad.add j) = some v) => clone_any ad c (s.get k i m) (by omega) w hv
  have HN : Hid (m = 0 → bc (s.get k i m) = []) := hid (fun h0 => by
    have : s.get k i m = [] := List.eq_nil_of_length_eq_zero (by omega)
    rw [this]; rfl)
  rw [hlen] at HC
  have HS := hid hsrc
  clear h hb hR hg hlen hsrc hi hk
  generalize bc (s.get k i m) = cl at *
  generalize hKK : k * s.size + i = K at *
  clear hKK
  go_enter Try.func52, Try.ntmps52
  go_wp2_with fail
  refine hp.mono ?_
  rintro e w' ⟨⟨ad, c', rfl, had⟩, rfl⟩
  have HA : Hid (∀ j v, cl[j]? = some v → w.cell? (ad.add j) = some v) := hid (fun j v hj => by
    by_cases h0 : 0 < m
    · rw [had h0]; exact HS.out j v hj
    · rw [HN.out (by omega)] at hj; simp at hj)
  clear hp had
  go_wp2_with fail
  refine (HC.out ad c' HA.out).mono ?_
  rintro e w1 ⟨v, rfl, hown, hb⟩
  clear HA HC HN HS
  obtain ⟨a, c, rfl⟩ := row_form hown
  go_wp2_with fail
  go_ret2
  exact ⟨_, rfl, hown, hb⟩
end Go.Proofs.Ytldfpacdlephcaa
namespace Go.Proofs.Ytldfpacdlephcaa
open Go Go.RowKit Go.Lib

/-- Just the first k of n pages are granted. -/
def FullTo (n k : Nat) (ow : List Int) : Prop := ow.length = n ∧ ∀ j z, ow[j]? = some z → (z = -1 ↔ k ≤ j)
theorem full_zero (n : Nat) : FullTo n 0 (newSt n 512).ow := by
  refine ⟨List.length_replicate, fun j z h => ?_⟩
  have h' : (List.replicate n (-1 : Int))[j]? = some z := h
  rw [List.getElem?_replicate] at h'
  split at h'
  · cases h'; simp
  · cases h'
theorem full_set {n k : Nat} {ow : List Int} (h : FullTo n k ow) {o : Int} (ho : o ≠ -1) : FullTo n (k + 1) (ow.set k o) := by
  refine ⟨by rw [List.length_set]; exact h.1, fun j z hz => ?_⟩
  rw [List.getElem?_set] at hz
  split at hz
  · rename_i e
    subst e
    split at hz
    · cases hz
      exact ⟨fun e => (ho e).elim, fun e => by omega⟩
    · cases hz
  · rename_i e
    rw [h.2 j z hz]; omega
theorem fi_is {zs : List Int} {x : Int} {k : Nat} (h : zs[k]? = some x) (hm : ∀ (i : Nat) z, i < k → zs[i]? = some z → z ≠ x) : fi zs x 0 = (k : Int) := by
  rcases fi_facts zs x 0 with ⟨_, h2⟩ | ⟨j, h1, h2, h3⟩
  · exact (h2 k x h rfl).elim
  · rw [h1, Nat.zero_add]
    rcases Nat.lt_trichotomy j k with hl | he | hg
    · exact (hm j x hl h2 rfl).elim
    · rw [he]
    · exact (h3 k x hg h rfl).elim
theorem fi_none {zs : List Int} {x : Int} (h : ∀ (i : Nat) z, zs[i]? = some z → z ≠ x) : fi zs x 0 = -1 := by
  rcases fi_facts zs x 0 with ⟨h1, _⟩ | ⟨j, _, h2, _⟩
  · exact h1
  · exact (h j x h2 rfl).elim
theorem grant_at {s : St} {o : Int} {k : Nat} (ho : ownB o = true) (h : fi s.ow (-1) 0 = (k : Int)) : s.grant o = ((k : Int), 0, s.setOw k o) := by
  unfold St.grant
  rw [if_pos ho, h, if_neg (by omega), Int.toNat_natCast]
theorem grant_none {s : St} {o : Int} (ho : ownB o = true) (h : fi s.ow (-1) 0 = -1) : s.grant o = (-1, 5, s) := by
  unfold St.grant
  rw [if_pos ho, h, if_pos rfl]
theorem full_fi {n k : Nat} {ow : List Int} (h : FullTo n k ow) (hk : k < n) : fi ow (-1) 0 = (k : Int) := by
  refine fi_is (x := -1) ?_ fun i z hi hz e => ?_
  · have hk' : k < ow.length := by rw [h.1]; exact hk
    rw [List.getElem?_eq_getElem hk']
    exact congrArg some ((h.2 k _ (List.getElem?_eq_getElem hk')).2 (Nat.le_refl _))
  · have := (h.2 i z hz).1 e; omega
theorem full_end {n : Nat} {ow : List Int} (h : FullTo n n ow) : fi ow (-1) 0 = -1 := by
  refine fi_none fun i z hz e => ?_
  have h1 := (h.2 i z hz).1 e
  have h2 := (List.getElem?_eq_some_iff.1 hz).1
  rw [h.1] at h2; omega
theorem full_cnt {n k : Nat} {ow : List Int} (h : FullTo n k ow) (hk : k ≤ n) : cnt ow = k := by
  have key : ∀ j, j ≤ n → cntTo ow j = min j k := by
    intro j
    induction j with
    | zero => intro _; simp [cntTo]
    | succ j ih =>
      intro hj
      have hz : ow[j]? = some (ow[j]'(by rw [h.1]; omega)) := List.getElem?_eq_getElem _
      have ih' := ih (by omega)
      by_cases hjk : k ≤ j
      · rw [cntTo_same hz ((h.2 j _ hz).2 hjk), ih']; omega
      · rw [cntTo_more hz (fun e => hjk ((h.2 j _ hz).1 e)), ih']; omega
  unfold cnt
  rw [h.1, key n (Nat.le_refl _)]; omega

/-- What the last calls answer, all pages being granted, of page k. -/
theorem back_facts {n k : Nat} {s : St} (h : FullTo n n s.ow) (hk : k < n) :
    s.grant 0 = (-1, 5, s) ∧ s.ret k = (0, s.setOw k (-1)) ∧ (s.setOw k (-1)).ret k = (7, s.setOw k (-1)) ∧ (s.setOw k (-1)).grant 7 = ((k : Int), 0, (s.setOw k (-1)).setOw k 7) ∧ ownerOf ((s.setOw k (-1)).setOw k 7).ow k = 7 := by
  have hkl : k < s.ow.length := by rw [h.1]; exact hk
  have hz : s.ow[k]? = some s.ow[k] := List.getElem?_eq_getElem hkl
  have e1 : (s.setOw k (-1)).ow = s.ow.set k (-1) := rfl
  have e2 : ((s.setOw k (-1)).setOw k 7).ow = (s.ow.set k (-1)).set k 7 := rfl
  have hz1 : (s.setOw k (-1)).ow[k]? = some (-1) := by rw [e1, List.getElem?_set_self hkl]
  have hz2 : ((s.setOw k (-1)).setOw k 7).ow[k]? = some 7 := by rw [e2, List.getElem?_set_self (by rw [List.length_set]; exact hkl)]
  refine ⟨grant_none (by decide) (full_end h), ?_, ?_, ?_, ownerOf_at hz2⟩
  · unfold St.ret
    rw [if_pos, Int.toNat_natCast]
    unfold grB
    rw [ownerOf_at hz]
    have : s.ow[k] ≠ -1 := fun e => by have := (h.2 k _ hz).1 e; omega
    simpa using this
  · unfold St.ret
    rw [if_neg]
    unfold grB
    rw [ownerOf_at hz1]; simp
  · refine grant_at (by decide) (fi_is hz1 fun i z hi hzi e => ?_)
    rw [e1, List.getElem?_set_ne (by omega)] at hzi
    have h1 := (h.2 i z hzi).1 e
    omega
theorem full_bound {n k : Nat} {s : St} (h : FullTo n k s.ow) (o : Int) (ho : o ≠ -1) : FullTo n (k + 1) (s.setOw k o).ow := full_set h ho
theorem mod63 (k : Nat) : ∃ r : Nat, (k : Int) % 63 = (r : Int) ∧ ownB (r : Int) = true ∧ (r : Int) ≠ -1 :=
  ⟨k % 63, by omega, by unfold ownB; rw [decide_eq_true_iff]; omega, by omega⟩
theorem fold_mod (n : Int) (c : Nat) : ∃ m : Nat, (0 < c → m < c) ∧ ((n < 0 ∧ (n + 1).tmod (c : Int) = -(m : Int)) ∨ (¬ n < 0 ∧ 0 ≤ n ∧ n % (c : Int) = (m : Int))) := by
  by_cases h : n < 0
  · obtain ⟨j, hj⟩ : ∃ j : Nat, n = -(j : Int) - 1 := ⟨(-(n + 1)).toNat, by omega⟩
    refine ⟨j % c, fun hc => Nat.mod_lt _ hc, .inl ⟨h, ?_⟩⟩
    subst hj
    rw [show -(j : Int) - 1 + 1 = -(j : Int) from by omega, Int.neg_tmod, Int.tmod_eq_emod_of_nonneg (by omega)]; rfl
  · obtain ⟨j, hj⟩ : ∃ j : Nat, n = (j : Int) := ⟨n.toNat, by omega⟩
    refine ⟨j % c, fun hc => Nat.mod_lt _ hc, .inr ⟨h, by omega, ?_⟩⟩
    subst hj; rfl

end Go.Proofs.Ytldfpacdlephcaa
