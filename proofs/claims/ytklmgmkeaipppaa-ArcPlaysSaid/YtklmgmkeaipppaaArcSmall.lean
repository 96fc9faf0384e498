/-
  The contracts of the program's adaptive replacement: who stands, how much a number counts, New, Touch, Remove, Target, All, Ghosts. Conditions: it lies in memory; ids are ints.
-/
import Derived.Test.YtklmgmkeaipppaaArcMem
import Derived.BigQuiet
import Derived.Deep.RegionHeld3
namespace Go.Proofs.Ytklmgmkeaipppaa.Ac
open Go Go.RowKit Go.Lib

theorem abelow (w : World) (o : Obj) : Below w.heap.size w (w.alloc o) := (Below.refl _ _).alloc (Nat.le_refl _) o

set_option maxRecDepth 100000 in
theorem weight_any {Q1 Q2 m1 m2 D : Nat} {F1 F2 : Nat → Prop} {l1 l2 : List Int} {w : World} (h1 : Gh.GAt Q1 F1 m1 l1 w) (h2 : Gh.GAt Q2 F2 m2 l2 w) (hl : 0 < l1.length) (hD : D = max 1 (l2.length / l1.length)) :
    Calls Try.prog 64 #[.pointer (some ⟨Q1, 0, none⟩), .pointer (some ⟨Q2, 0, none⟩)] w fun e w' => e = .returned (.int .i64 (D : Int)) ∧ w = w' := by
  have a1 := Gh.at_len h1
  have a2 := Gh.at_len h2
  have b1 := gat_len h1
  have b2 := gat_len h2
  clear h1 h2
  generalize l1.length = K1 at *
  generalize l2.length = K2 at *
  obtain ⟨E, hE⟩ : ∃ E, E = K2 / K1 := ⟨_, rfl⟩
  have hEb : E ≤ 4194304 := by rw [hE]; exact Nat.le_trans (Nat.div_le_self _ _) b2
  have q1 : ((K2 : Int) / (K1 : Int)) = (E : Int) := by rw [hE]; exact (Int.natCast_ediv _ _).symm
  rw [← hE] at hD
  have hne : ¬ (K1 : Int) = 0 := by omega
  have hne2 : ¬ K1 = 0 := by omega
  clear hE hl
  have hc : (E < 1 ∧ (E : Int) < 1 ∧ D = 1) ∨ (1 ≤ E ∧ (1 : Int) ≤ (E : Int) ∧ D = E) := by omega
  clear hD
  go_enter Try.func64, Try.ntmps64
  go_wp2_with fail
  refine a2.mono ?_
  rintro e w1 ⟨rfl, rfl⟩
  go_wp2_with fail
  refine a1.mono ?_
  rintro e w1 ⟨rfl, rfl⟩
  rcases hc with ⟨_, k1, rfl⟩ | ⟨_, k1, rfl⟩
  all_goals
    go_wp2_with fail
    go_ret
    exact ⟨rfl, rfl⟩

section
variable {P r m Q1 Q2 : Nat} {F : Nat → Nat → Prop} {L : List (List Int)} {c m1 m2 : Nat} {b1 b2 : List Int} {p : Int} {num : Int → Int} {w : World}
set_option maxRecDepth 100000 in
theorem ap_stands (h : AP P r m Q1 Q2 F L c m1 m2 b1 b2 p num w) (z : Int) (hz : i64ok z) :
    Calls Try.prog 39 #[.pointer (some ⟨P, 0, none⟩), .int .i64 z] w fun e w' => e = .returned (.bool (rowOf L z).isSome) ∧ w = w' := by
  have hr := at_row h.rows z hz
  have c0 := h.head.cell (i := 0) rfl
  cases e : rowOf L z with
  | none =>
    rw [rv_none e] at hr
    clear h e
    go_enter Try.func39, Try.ntmps39
    go_wp2_with fail
    refine hr.mono ?_
    rintro e w1 ⟨rfl, rfl⟩
    go_wp2_with fail
    go_ret
    exact ⟨rfl, rfl⟩
  | some i =>
    rw [rv_some e] at hr
    have i0 : (0 : Int) ≤ (i : Int) := by omega
    clear h e
    go_enter Try.func39, Try.ntmps39
    go_wp2_with fail
    refine hr.mono ?_
    rintro e w1 ⟨rfl, rfl⟩
    go_wp2_with fail
    go_ret
    exact ⟨rfl, rfl⟩
end
section
variable {P : Nat} {G : Nat → Prop} {s : Ar} {w : World}
set_option maxRecDepth 100000 in
theorem ar_target (h : AR P G s w) : Calls Try.prog 12 #[.pointer (some ⟨P, 0, none⟩)] w fun e w' => e = .returned (.int .i64 (s.p : Int)) ∧ Below w.heap.size w w' := by
  obtain ⟨ok, r, m, Q1, Q2, F, hq, hG⟩ := h
  have c5 := hq.head.cell (i := 5) rfl
  clear hq hG ok
  go_enter Try.func12, Try.ntmps12
  go_wp2_with fail
  go_ret
  exact ⟨rfl, Below.refl _ _⟩
set_option maxRecDepth 100000 in
theorem ar_all (h : AR P G s w) (r : Int) : Calls Try.prog 13 #[.pointer (some ⟨P, 0, none⟩), .int .i64 r] w fun e w' => ∃ v, e = .returned v ∧ w'.ownsRow w.heap.size 3 1 v (rowAt s.L r).length (ic (rowAt s.L r)) ∧ Below w.heap.size w w' := by
  obtain ⟨ok, r', m, Q1, Q2, F, hq, hG⟩ := h
  have c0 := hq.head.cell (i := 0) rfl
  have ha := at_all hq.rows r
  generalize rowAt s.L r = l at *
  clear hq hG ok
  go_enter Try.func13, Try.ntmps13
  go_wp2_with fail
  refine ha.mono ?_
  rintro e w1 ⟨v, rfl, HO⟩
  obtain ⟨a, c, rfl⟩ := row_form HO.1
  have HO := hid HO
  go_wp2_with fail
  go_ret
  exact ⟨_, rfl, HO.out⟩
set_option maxRecDepth 100000 in
theorem ar_ghosts (h : AR P G s w) (r : Int) : Calls Try.prog 14 #[.pointer (some ⟨P, 0, none⟩), .int .i64 r] w fun e w' => ∃ v, e = .returned v ∧ w'.ownsRow w.heap.size 29 1 v (s.gh r).length (Gh.uc (s.gh r)) ∧ Below w.heap.size w w' := by
  obtain ⟨ok, r', m, Q1, Q2, F, hq, hG⟩ := h
  have c2 := hq.head.cell (i := 2) rfl
  have c3 := hq.head.cell (i := 3) rfl
  have a1 := Gh.at_all hq.g1
  have a2 := Gh.at_all hq.g2
  by_cases e0 : r = 0
  · subst e0
    have eg : s.gh 0 = s.b1 := rfl
    rw [eg]
    generalize s.b1 = l at *
    clear hq hG ok eg a2
    go_enter Try.func14, Try.ntmps14
    go_wp2_with fail
    refine a1.mono ?_
    rintro e w1 ⟨v, rfl, HO⟩
    obtain ⟨a, c, rfl⟩ := row_form HO.1
    have HO := hid HO
    go_wp2_with fail
    go_ret
    exact ⟨_, rfl, HO.out⟩
  · by_cases e1 : r = 1
    · subst e1
      have eg : s.gh 1 = s.b2 := rfl
      rw [eg]
      generalize s.b2 = l at *
      clear hq hG ok eg a1 e0
      go_enter Try.func14, Try.ntmps14
      go_wp2_with fail
      refine a2.mono ?_
      rintro e w1 ⟨v, rfl, HO⟩
      obtain ⟨a, c, rfl⟩ := row_form HO.1
      have HO := hid HO
      go_wp2_with fail
      go_ret
      exact ⟨_, rfl, HO.out⟩
    · have eg : s.gh r = [] := by unfold Ar.gh; rw [if_neg e0, if_neg e1]
      rw [eg]
      have hend : w.ownsRow w.heap.size 29 1 (.slice none 0 0) 0 [] := ⟨rfl, .inl ⟨rfl, rfl⟩⟩
      have HE := hid hend
      clear hq hG ok eg a1 a2 c2 c3 hend
      have hc : r < 0 ∨ (¬ r < 0 ∧ 2 ≤ r) := by omega
      rcases hc with k | ⟨k1, k2⟩
      all_goals
        go_enter Try.func14, Try.ntmps14
        go_wp2_with fail
        go_ret
        exact ⟨_, rfl, HE.out, Below.refl _ _⟩
end
end Go.Proofs.Ytklmgmkeaipppaa.Ac
