/-
  The contracts of the program's adaptive replacement: Touch, Remove, Victim. Conditions: it lies in memory; ids are ints, numbers are numbers.
-/
import Derived.Test.YtklmgmkeaipppaaArcSmall
namespace Go.Proofs.Ytklmgmkeaipppaa.Ac
open Go Go.RowKit Go.Lib

theorem has_may {s : Ar} (ok : s.Ok) {z : Int} (h : s.has z = true) : okId z = true ∧ ∀ r, 0 ≤ r → r < 2 → May s.L.length r z := by
  have hm := ok.good.rng z (arow_some.1 h)
  have hk : okId z = true := decide_eq_true hm
  exact ⟨hk, fun r h0 h1 => may2 ok.two h0 h1 hk⟩
theorem upd_ok {num : Int → Int} (h : ∀ z, u64ok (num z)) {z x : Int} (hx : u64ok x) : ∀ y, u64ok (updN num z x y) := fun y => by
  by_cases e : y = z
  · rw [e, updN_same]; exact hx
  · rw [updN_other e]; exact h y
section
variable {P : Nat} {G : Nat → Prop} {s : Ar} {w : World}
set_option maxRecDepth 100000 in
theorem ar_touch (h : AR P G s w) (z : Int) (hz : i64ok z) : Calls Try.prog 20 #[.pointer (some ⟨P, 0, none⟩), .int .i64 z] w fun e w' => e = .returned (.bool (s.has z)) ∧ ∃ G', AR P G' (s.tch z) w' ∧ Stp G G' w w' := by
  have HQ := hid h
  obtain ⟨ok, r, m, Q1, Q2, F, hq, hG⟩ := h
  have c0 := hq.head.cell (i := 0) rfl
  have hs := ap_stands hq z hz
  have okt := ok.tch z
  by_cases hh : s.has z = true
  · have hrow : (rowOf s.L z).isSome = true := hh
    rw [hrow] at hs
    have e1 : Hid (s.has z = true) := hid hh
    have hM := (has_may ok hh).2 1 (by decide) (by decide)
    have hf : Calls Try.prog 40 #[.pointer (some ⟨r, 0, none⟩), .int .i64 1, .int .i64 z] w fun e w' => e = .returned (.bool true) ∧ ∃ G', AR P G' (s.tch z) w' ∧ Stp G G' w w' := by
      refine (ap_front hq 1 z hz).mono ?_
      rintro e w' ⟨he, F', k, g⟩
      rw [decide_eq_true hM] at he
      exact ⟨he, ar_go (F' := F') hG okt (by unfold Ar.tch; rw [hh]; exact k) g⟩
    clear hq hG ok hh hrow okt hM HQ
    go_enter Try.func20, Try.ntmps20
    go_wp2_with fail
    refine hs.mono ?_
    rintro e w1 ⟨rfl, rfl⟩
    go_wp2_with fail
    refine hf.mono ?_
    rintro e w1 ⟨rfl, HR⟩
    have HR := hid HR
    clear hf hs c0
    go_wp2_with fail
    go_ret
    exact ⟨ret_bool e1.out.symm, HR.out⟩
  · have hh : s.has z = false := by simpa using hh
    have hrow : (rowOf s.L z).isSome = false := hh
    rw [hrow] at hs
    have e1 : Hid (s.has z = false) := hid hh
    have e2 : Hid (s.tch z = s) := hid (by unfold Ar.tch; rw [hh]; rfl)
    clear hq hG ok hh hrow okt
    go_enter Try.func20, Try.ntmps20
    go_wp2_with fail
    refine hs.mono ?_
    rintro e w1 ⟨rfl, rfl⟩
    go_wp2_with fail
    go_ret
    exact ⟨ret_bool e1.out.symm, G, by rw [e2.out]; exact HQ.out, Stp.refl _ _⟩

set_option maxRecDepth 100000 in
theorem ar_remove (h : AR P G s w) (z : Int) (hz : i64ok z) : Calls Try.prog 31 #[.pointer (some ⟨P, 0, none⟩), .int .i64 z] w fun e w' => e = .returned (.bool (s.has z)) ∧ ∃ G', AR P G' (s.rem z) w' ∧ Stp G G' w w' := by
  obtain ⟨ok, r, m, Q1, Q2, F, hq, hG⟩ := h
  have c1 := hq.head.cell (i := 1) rfl
  have hu := hid hq.map
  have hz' := hid hz
  have okr := ok.rem z
  have HD : Hid (∀ w1, NM w1 m (updN s.num z 0) → w.mapTurned w1 m → w1.cell? ⟨P, 0, none⟩ = some (.pointer (some ⟨r, 0, none⟩)) ∧
      Calls Try.prog 50 #[.pointer (some ⟨r, 0, none⟩), .int .i64 z] w1 fun e w' => e = .returned (.bool (s.has z)) ∧ ∃ G', AR P G' (s.rem z) w' ∧ Stp G G' w w') := hid (fun w1 hu ht => by
    obtain ⟨k1, k2⟩ := hq.goN hu ht (upd_ok hq.nok (by unfold u64ok; omega))
    refine ⟨k1.head.cell (i := 0) rfl, (ap_take k1 z hz).mono ?_⟩
    rintro e w' ⟨he, F', k3, k4⟩
    exact ⟨he, ar_go (s := s.rem z) (F' := F') hG okr k3 (k2.trans k4)⟩)
  clear hq hG ok okr hz
  go_enter Try.func31, Try.ntmps31
  go_wp2_with (at_delete; refine wpList_nm_del rfl _ _ rfl rfl hu rfl hz' ?_; intro w1 h1 t1; obtain ⟨d0, ht⟩ := HD.out w1 h1.out t1.out; clear h1 t1 HD hu c1)
  refine ht.mono ?_
  rintro e w2 ⟨rfl, HR⟩
  have HR := hid HR
  clear ht d0
  go_wp2_with fail
  go_ret
  exact ⟨rfl, HR.out⟩

set_option maxRecDepth 100000 in
theorem ap_once {r m Q1 Q2 : Nat} {F : Nat → Nat → Prop} {L : List (List Int)} {c m1 m2 : Nat} {b1 b2 : List Int} {p : Nat} {num : Int → Int} {w : World} (h : AP P r m Q1 Q2 F L c m1 m2 b1 b2 p num w) (x : Int) (hx : u64ok x) (B : Bool)
    (hB : B = (decide (0 < (rowAt L 0).length) && (decide (p < (rowAt L 0).length) || (decide ((rowAt L 0).length = p) && decide (x ∈ b2)) || decide ((rowAt L 1).length = 0)))) :
    Calls Try.prog 41 #[.pointer (some ⟨P, 0, none⟩), .int .u64 x] w fun e w' => e = .returned (.bool B) ∧ w = w' := by
  have c0 := h.head.cell (i := 0) rfl
  have c3 := h.head.cell (i := 3) rfl
  have c5 := h.head.cell (i := 5) rfl
  have l0 := at_len h.rows 0
  have l1 := at_len h.rows 1
  have hh := Gh.at_has h.g2 x hx
  clear h
  generalize (rowAt L 0).length = A at *
  generalize (rowAt L 1).length = C at *
  by_cases a0 : A = 0
  · have e : Hid (B = false) := hid (by rw [hB, decide_eq_false (by omega : ¬ 0 < A)]; rfl)
    subst a0
    clear hB
    go_enter Try.func41, Try.ntmps41
    go_wp2_with fail
    refine l0.mono ?_
    rintro e w1 ⟨rfl, rfl⟩
    go_wp2_with fail
    go_ret
    exact ⟨ret_bool e.out.symm, rfl⟩
  · rw [decide_eq_true (by omega : 0 < A), Bool.true_and] at hB
    have a0' : ((A : Int) == 0) = false := beq_eq_false_iff_ne.2 (by omega)
    have a0n : ¬ (A : Int) = 0 := by omega
    by_cases a1 : C = 0
    · have e : Hid (B = true) := hid (by rw [hB, decide_eq_true a1, Bool.or_true])
      subst a1
      clear hB
      go_enter Try.func41, Try.ntmps41
      go_wp2_with fail
      refine l0.mono ?_
      rintro e w1 ⟨rfl, rfl⟩
      go_wp2_with fail
      refine l1.mono ?_
      rintro e w1 ⟨rfl, rfl⟩
      go_wp2_with fail
      go_ret
      exact ⟨ret_bool e.out.symm, rfl⟩
    · rw [decide_eq_false a1, Bool.or_false] at hB
      have a1' : ((C : Int) == 0) = false := beq_eq_false_iff_ne.2 (by omega)
      have a1n : ¬ (C : Int) = 0 := by omega
      by_cases a2 : p < A
      · have e : Hid (B = true) := hid (by rw [hB, decide_eq_true a2, Bool.true_or])
        have a2' : (p : Int) < (A : Int) := by omega
        clear hB
        go_enter Try.func41, Try.ntmps41
        go_wp2_with fail
        refine l0.mono ?_
        rintro e w1 ⟨rfl, rfl⟩
        go_wp2_with fail
        refine l1.mono ?_
        rintro e w1 ⟨rfl, rfl⟩
        go_wp2_with fail
        go_ret
        exact ⟨ret_bool e.out.symm, rfl⟩
      · rw [decide_eq_false a2, Bool.false_or] at hB
        have a2' : ¬ (p : Int) < (A : Int) := by omega
        by_cases a3 : A = p
        · subst a3
          have e : Hid (B = decide (x ∈ b2)) := hid (by rw [hB]; simp)
          generalize decide (x ∈ b2) = E at *
          clear hB
          go_enter Try.func41, Try.ntmps41
          go_wp2_with fail
          refine l0.mono ?_
          rintro e w1 ⟨rfl, rfl⟩
          go_wp2_with fail
          refine l1.mono ?_
          rintro e w1 ⟨rfl, rfl⟩
          go_wp2_with fail
          refine hh.mono ?_
          rintro e w1 ⟨rfl, rfl⟩
          go_wp2_with fail
          go_ret
          exact ⟨ret_bool e.out.symm, rfl⟩
        · have e : Hid (B = false) := hid (by rw [hB, decide_eq_false a3]; rfl)
          have a3' : ((A : Int) == (p : Int)) = false := beq_eq_false_iff_ne.2 (by omega)
          have a3n : ¬ (A : Int) = (p : Int) := by omega
          clear hB
          go_enter Try.func41, Try.ntmps41
          go_wp2_with fail
          refine l0.mono ?_
          rintro e w1 ⟨rfl, rfl⟩
          go_wp2_with fail
          refine l1.mono ?_
          rintro e w1 ⟨rfl, rfl⟩
          go_wp2_with fail
          go_ret
          exact ⟨ret_bool e.out.symm, rfl⟩

set_option maxRecDepth 100000 in
theorem ar_victim (h : AR P G s w) (x : Int) (hx : u64ok x) : Calls Try.prog 21 #[.pointer (some ⟨P, 0, none⟩), .int .u64 x] w fun e w' => e = .returned (.int .i64 (s.vic x)) ∧ Below w.heap.size w w' := by
  obtain ⟨ok, r, m, Q1, Q2, F, hq, hG⟩ := h
  have c0 := hq.head.cell (i := 0) rfl
  have ho := ap_once hq x hx (s.once x) rfl
  have t0 := at_last hq.rows 0
  have t1 := at_last hq.rows 1
  have hv : Hid (s.vic x = if s.once x then lastOf (rowAt s.L 0) else lastOf (rowAt s.L 1)) := hid rfl
  clear hq hG ok
  cases hB : s.once x
  · rw [hB] at ho hv
    go_enter Try.func21, Try.ntmps21
    go_wp2_with fail
    refine ho.mono ?_
    rintro e w1 ⟨rfl, rfl⟩
    go_wp2_with fail
    refine t1.mono ?_
    rintro e w1 ⟨rfl, rfl⟩
    go_wp2_with fail
    go_ret
    exact ⟨ret_i64 hv.out.symm, Below.refl _ _⟩
  · rw [hB] at ho hv
    go_enter Try.func21, Try.ntmps21
    go_wp2_with fail
    refine ho.mono ?_
    rintro e w1 ⟨rfl, rfl⟩
    go_wp2_with fail
    refine t0.mono ?_
    rintro e w1 ⟨rfl, rfl⟩
    go_wp2_with fail
    go_ret
    exact ⟨ret_i64 hv.out.symm, Below.refl _ _⟩
end
end Go.Proofs.Ytklmgmkeaipppaa.Ac
