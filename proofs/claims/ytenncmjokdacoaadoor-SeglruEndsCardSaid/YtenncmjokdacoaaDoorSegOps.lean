/-
  The contracts of the program's segmented row, more: Touch, Remove, Victim, All, how many stand, move. Conditions: it lies in memory; ids are ints.
-/
import Derived.Test.YtenncmjokdacoaaDoorSegCalls
namespace Go.Proofs.YtenncmjokdacoaaDoor.Sr
open Go Go.RowKit Go.Lib

theorem row_mem {s : Sg} {r z : Int} (hz : z ∈ rowAt s.L r) : z ∈ s.L.flatten := by
  unfold rowAt at hz
  by_cases h0 : 0 ≤ r
  · rw [if_pos h0] at hz
    cases e : s.L[r.toNat]? with
    | none => rw [e] at hz; simp at hz
    | some l =>
      rw [e] at hz
      exact List.mem_flatten.2 ⟨l, List.mem_of_getElem? e, hz⟩
  · rw [if_neg h0] at hz; simp at hz
theorem last_row {s : Sg} (h : s.Ok) (r : Int) : (rowAt s.L r = [] ∧ lastOf (rowAt s.L r) = -1) ∨ (0 < (rowAt s.L r).length ∧ 0 ≤ lastOf (rowAt s.L r) ∧ lastOf (rowAt s.L r) ≤ 4194303 ∧ lastOf (rowAt s.L r) ∈ s.L.flatten) := by
  rcases snoc_or (rowAt s.L r) with h0 | ⟨l, z, h0⟩
  · left; rw [h0]; exact ⟨rfl, rfl⟩
  · right
    have hm : z ∈ s.L.flatten := row_mem (r := r) (by rw [h0]; simp)
    have := h.good.rng z hm
    rw [h0, last_some]
    exact ⟨by simp, this.1, this.2, hm⟩
theorem last_i64 {s : Sg} (h : s.Ok) (r : Int) : i64ok (lastOf (rowAt s.L r)) := by
  unfold i64ok
  rcases last_row h r with ⟨_, e⟩ | ⟨_, e1, e2, _⟩
  · omega
  · omega
theorem vic_at {s : Sg} (h : s.Ok) {k : Nat} (hk : k ≤ 2) (hn : ∀ i : Nat, k < i → i ≤ 2 → (rowAt s.L i).length = 0) (hp : k = 0 ∨ (rowAt s.L k).length ≠ 0) : s.vic = lastOf (rowAt s.L k) := by
  have l0 := last_row h 0
  have l1 := last_row h 1
  have l2 := last_row h 2
  have e1 : ∀ r : Int, (rowAt s.L r).length = 0 → lastOf (rowAt s.L r) = -1 := fun r hr => by rw [List.eq_nil_of_length_eq_zero hr]; rfl
  unfold Sg.vic
  match k, hk with
  | 2, _ =>
    have h2 : (rowAt s.L 2).length ≠ 0 := hp.resolve_left (by decide)
    rcases l2 with ⟨g, _⟩ | ⟨_, g, _⟩
    · rw [g] at h2; exact absurd rfl h2
    · rw [if_pos g]; rfl
  | 1, _ =>
    have h1 : (rowAt s.L 1).length ≠ 0 := hp.resolve_left (by decide)
    rw [if_neg (by rw [e1 2 (hn 2 (by decide) (by decide))]; decide)]
    rcases l1 with ⟨g, _⟩ | ⟨_, g, _⟩
    · rw [g] at h1; exact absurd rfl h1
    · rw [if_pos g]; rfl
  | 0, _ =>
    rw [if_neg (by rw [e1 2 (hn 2 (by decide) (by decide))]; decide), if_neg (by rw [e1 1 (hn 1 (by decide) (by decide))]; decide)]; rfl

set_option maxRecDepth 100000 in
theorem sa_touch {P : Nat} {F : Nat → Prop} {s : Sg} {w : World} (h : SA P F s w) (z : Int) (hz : i64ok z) :
    Calls Tryd.prog 13 #[.pointer (some ⟨P, 0, none⟩), .int .i64 z] w fun e w' => e = .returned (.bool (s.has z)) ∧ ∃ F', SA P F' (s.tch z) w' ∧ Stp F F' w w' := by
  have HQ := hid h
  obtain ⟨ok, r, m, R, xs, hp, hG⟩ := h
  have c0 := hp.head.cell (i := 0) rfl
  have c1 := hp.head.cell (i := 1) rfl
  have hs := seg_stands hp.rows m z hz
  cases hrow : rowOf s.L z with
  | none =>
    rw [hrow] at hs
    have hh : s.has z = false := by unfold Sg.has; rw [hrow]; rfl
    have e1 : Hid (s.has z = false) := hid hh
    have e2 : Hid (s.tch z = s) := hid (by unfold Sg.tch; rw [hh]; rfl)
    clear hp hG ok hh hrow hz
    go_enter Tryd.func13, Tryd.ntmps13
    go_wp2_with fail
    refine hs.mono ?_
    rintro e w1 ⟨rfl, b1⟩
    have HR := hid (And.intro (HQ.out.below b1) (Stp.below (F := F) b1))
    clear b1 HQ hs
    go_wp2_with fail
    go_ret
    exact ⟨ret_bool e1.out.symm, F, by rw [e2.out]; exact HR.out.1, HR.out.2⟩
  | some i =>
    rw [hrow] at hs
    have hh : s.has z = true := by unfold Sg.has; rw [hrow]; rfl
    have e1 : Hid (s.has z = true) := hid hh
    have hln : xs.length ≤ 4194304 := sub_len hp.nd (fun y hy => ok.act y ((hp.iff y).1 hy)) ok.good.rng
    have HZ := hid (And.intro hz hln)
    have okt := ok.tch z
    have HG : Hid (∀ w1 w', Below w.heap.size w w1 → UM w' m (if s.a z then xs.length else xs.length + 1) (updB s.a z true) → w1.mapTurned w' m → ∃ F', SA P F' (s.tch z) w' ∧ Stp F F' w w') := hid (fun w1 w' b1 hu ht => by
      obtain ⟨ys, k1, k2⟩ := (hp.below b1).put hu ht
      exact sa_go hG k1 ((Stp.below b1).trans k2) okt (tch_L s z) (by unfold Sg.tch; rw [hh]; rfl))
    have HC := hid (fun w1 (b1 : Below w.heap.size w w1) => And.intro ((hp.below b1).head.cell (i := 1) rfl) (hp.below b1).set)
    clear hp hG ok okt hh hrow HQ hz hln
    go_enter Tryd.func13, Tryd.ntmps13
    go_wp2_with fail
    refine hs.mono ?_
    rintro e w1 ⟨rfl, b1⟩
    obtain ⟨d1, hu⟩ := HC.out _ b1
    have hu1 := hid hu
    have hb1 := hid b1
    clear HC hs b1 c0 c1 hu
    go_wp2_with (at_mapUpdate; refine wpList_um_put rfl _ _ _ rfl rfl hu1 rfl rfl HZ ?_; intro w2 h2 t2; have HR := hid (HG.out _ _ hb1.out h2.out t2.out); clear h2 t2 HG hb1 hu1 d1 HZ)
    go_ret
    exact ⟨ret_bool e1.out.symm, HR.out⟩

set_option maxRecDepth 100000 in
theorem sa_remove {P : Nat} {F : Nat → Prop} {s : Sg} {w : World} (h : SA P F s w) (z : Int) (hz : i64ok z) :
    Calls Tryd.prog 15 #[.pointer (some ⟨P, 0, none⟩), .int .i64 z] w fun e w' => e = .returned (.bool (s.has z)) ∧ ∃ F', SA P F' (s.rem z) w' ∧ Stp F F' w w' := by
  obtain ⟨ok, r, m, R, xs, hp, hG⟩ := h
  have c1 := hp.head.cell (i := 1) rfl
  have hu := hid hp.set
  have hz' := hid hz
  have okr := ok.rem z
  have HD : Hid (∀ w1, UM w1 m (if s.a z then xs.length - 1 else xs.length) (updB s.a z false) → w.mapTurned w1 m → w1.cell? ⟨P, 0, none⟩ = some (.pointer (some ⟨r, 0, none⟩)) ∧
      Calls Tryd.prog 33 #[.pointer (some ⟨r, 0, none⟩), .int .i64 z] w1 fun e w' => e = .returned (.bool (s.has z)) ∧ ∃ F', SA P F' (s.rem z) w' ∧ Stp F F' w w') := hid (fun w1 hu ht => by
    obtain ⟨k1, k2⟩ := hp.del hu ht
    refine ⟨k1.head.cell (i := 0) rfl, (at_take k1.rows z hz).mono ?_⟩
    rintro e w' ⟨he, R', k3, k4⟩
    obtain ⟨k5, k6⟩ := k1.go k3 k4
    exact ⟨he, sa_go hG k5 (k2.trans k6) okr rfl rfl⟩)
  clear hp hG ok okr hz
  go_enter Tryd.func15, Tryd.ntmps15
  go_wp2_with (at_delete; refine wpList_um_del rfl _ _ rfl rfl hu rfl hz' ?_; intro w1 h1 t1; obtain ⟨d0, ht⟩ := HD.out w1 h1.out t1.out; clear h1 t1 HD hu c1)
  refine ht.mono ?_
  rintro e w2 ⟨rfl, HR⟩
  have HR := hid HR
  clear ht d0
  go_wp2_with fail
  go_ret
  exact ⟨rfl, HR.out⟩

set_option maxRecDepth 100000 in
theorem sa_all {P : Nat} {F : Nat → Prop} {s : Sg} {w : World} (h : SA P F s w) (r : Int) :
   Calls Tryd.prog 23 #[.pointer (some ⟨P, 0, none⟩), .int .i64 r] w fun e w' => ∃ v, e = .returned v ∧ w'.ownsRow w.heap.size 3 1 v (rowAt s.L r).length (ic (rowAt s.L r)) ∧ Below w.heap.size w w' := by
  obtain ⟨ok, r', m, R, xs, hp, hG⟩ := h
  have c0 := hp.head.cell (i := 0) rfl
  have ha := at_all hp.rows r
  generalize rowAt s.L r = l at *
  clear hp hG ok
  go_enter Tryd.func23, Tryd.ntmps23
  go_wp2_with fail
  refine ha.mono ?_
  rintro e w1 ⟨v, rfl, HO⟩
  obtain ⟨a, c, rfl⟩ := row_form HO.1
  have HO := hid HO
  go_wp2_with fail
  go_ret
  exact ⟨_, rfl, HO.out⟩

set_option maxRecDepth 100000 in
theorem sa_victim {P : Nat} {F : Nat → Prop} {s : Sg} {w : World} (h : SA P F s w) :
    Calls Tryd.prog 19 #[.pointer (some ⟨P, 0, none⟩)] w fun e w' => e = .returned (.int .i64 s.vic) ∧ w = w' := by
  obtain ⟨ok, r, m, R, xs, hp, hG⟩ := h
  have c0 := hp.head.cell (i := 0) rfl
  have hlen := fun k : Nat => at_len hp.rows (k : Int)
  have hlast := fun k : Nat => at_last hp.rows (k : Int)
  have HV : Hid (∀ k : Nat, k ≤ 2 → (∀ i : Nat, k < i → i ≤ 2 → (rowAt s.L i).length = 0) → (k = 0 ∨ (rowAt s.L k).length ≠ 0) → s.vic = lastOf (rowAt s.L k)) := hid (fun k a b c => vic_at ok a b c)
  clear hp hG ok
  go_enter Tryd.func19, Tryd.ntmps19
  go_wp2_with fail
  go_loopw [3] (fun p wr => ∃ k : Nat, p = .int .i64 k ∧ k ≤ 2 ∧ w = wr ∧ Hid (∀ i : Nat, k < i → i ≤ 2 → (rowAt s.L i).length = 0)) (fun p _ => (RowKit.intOf p).toNat)
  case atStart => exact ⟨2, rfl, Nat.le_refl _, rfl, hid (fun i h1 h2 => by omega)⟩
  case round =>
    obtain ⟨k, rfl, hk, rfl, hno⟩ := hrel
    have hl := hlen k
    have ht := hlast k
    clear hlen hlast
    by_cases h0 : k = 0
    · subst h0
      have hv := hid (HV.out 0 (by decide) hno.out (.inl rfl))
      clear hno HV hl
      go_wp2_with fail
      refine ht.mono ?_
      rintro e w1 ⟨rfl, rfl⟩
      go_wp2_with fail
      go_ret
      exact ⟨ret_i64 hv.out.symm, rfl⟩
    · have k0 : (0 : Int) < (k : Int) := by omega
      by_cases hn : (rowAt s.L k).length = 0
      · have hno2 : Hid (∀ i : Nat, k - 1 < i → i ≤ 2 → (rowAt s.L i).length = 0) := hid (fun i h1 h2 => by
          by_cases e : i = k
          · subst e; exact hn
          · exact hno.out i (by omega) h2)
        rw [hn] at hl
        clear hno HV hn ht
        go_wp2_with fail
        refine hl.mono ?_
        rintro e w1 ⟨rfl, rfl⟩
        go_wp2_with fail
        go_roundw
        case rel => exact ⟨k - 1, by go_num, by omega, by first | rfl | trivial, hno2⟩
        case measure => simp [RowKit.intOf] <;> omega
      · have hv := hid (HV.out k hk hno.out (.inr hn))
        have hne : (((rowAt s.L k).length : Int) == 0) = false := beq_eq_false_iff_ne.2 (by omega)
        clear hno HV hn
        generalize (rowAt s.L k).length = N at *
        go_wp2_with fail
        refine hl.mono ?_
        rintro e w1 ⟨rfl, rfl⟩
        go_wp2_with fail
        refine ht.mono ?_
        rintro e w1 ⟨rfl, rfl⟩
        go_wp2_with fail
        go_ret
        exact ⟨ret_i64 hv.out.symm, rfl⟩
end Go.Proofs.YtenncmjokdacoaaDoor.Sr
