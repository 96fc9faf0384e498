/-
  Where nobody is touched, who came first goes first: plain mathematics of a segmented row. No program in it. No conditions.
-/
import Derived.Test.YtenncmjokdacoaaDoorSegHas
namespace Go.Proofs.YtenncmjokdacoaaDoor.Sr
open Go

/-- Nobody is active; hot, and cold behind it, are D. -/
structure Fst (D : List Int) (s : Sg) : Prop where
  ok : s.Ok
  rows : ∃ p c, s.L = [p, [], c] ∧ p ++ c = D
  idle : ∀ z, s.a z = false
theorem Fst.new : Fst [] Sg.new := ⟨Sg.new_ok, ⟨[], [], rfl, rfl⟩, fun _ => rfl⟩
theorem Fst.mem {D : List Int} {s : Sg} (h : Fst D s) {z : Int} : z ∈ s.L.flatten ↔ z ∈ D := by
  obtain ⟨p, c, e, hD⟩ := h.rows
  rw [e, flat3, ← hD]; simp
theorem Fst.ins {D : List Int} {s : Sg} (h : Fst D s) {z : Int} (hz : z ∉ D) (hr : 0 ≤ z ∧ z ≤ 4194303) : Fst (z :: D) (s.ins z) := by
  have hh : s.has z = false := has_no.2 (fun hm => hz (h.mem.1 hm))
  have hok := h.ok.ins z
  obtain ⟨p, c, e, hD⟩ := h.rows
  have hp : z ∉ p := fun hm => hz (by rw [← hD]; simp [hm])
  have hc : z ∉ c := fun hm => hz (by rw [← hD]; simp [hm])
  refine ⟨hok, ⟨z :: p, c, ?_, by rw [List.cons_append, hD]⟩, fun y => ?_⟩
  · unfold Sg.ins
    rw [hh]
    show opFront s.L 0 z = _
    rw [opFront_yes ((may3 h.ok).2 ⟨by decide, by decide, hr⟩), e]
    unfold frontL takeL
    simp only [List.map_cons, List.map_nil]
    rw [filt_no hp, filt_no hc]; rfl
  · unfold Sg.ins
    rw [hh]; exact h.idle y
theorem Fst.stp {D : List Int} {s : Sg} (h : Fst D s) : Fst D s.stp := by
  cases e : s.stpB
  · rw [(stp_no h.ok e).1]; exact h
  · have hm := stp_yes h.ok e
    have hok := h.ok.stp
    obtain ⟨p, c, eL, hD⟩ := h.rows
    have hid := h.idle
    generalize s.stp = t at *
    obtain ⟨L, a⟩ := s
    obtain rfl : L = [p, [], c] := eL
    have hid' : ∀ z, a z = false := hid
    have gen : ∀ s' : Sg, s' = ⟨[p, [], c], a⟩ → Move s' t → Fst D t := by
      intro s' es hm
      cases hm with
      | @hot p' q' c' z a' hh =>
        injection es with e1 e2
        injection e1 with e3 e4
        injection e4 with e5 e6
        injection e6 with e7 _
        subst e2; subst e5; subst e7
        refine ⟨hok, ⟨p', z :: c', ?_, ?_⟩, fun y => ?_⟩
        · show (if a' z then _ else _) = _
          rw [hid' z]; rfl
        · rw [← hD, ← e3]; simp
        · show updB a' z false y = false
          by_cases ey : y = z
          · rw [ey, updB_same]
          · rw [updB_other ey]; exact hid' y
      | @warm p' q' c' z a' k1 k2 =>
        injection es with e1 e2
        injection e1 with e3 e4
        injection e4 with e5 e6
        simp at e5
      | @cold p' q' c' z a' k1 k2 k3 =>
        injection es with e1 e2
        subst e2
        rw [hid' z] at k3; cases k3
    exact gen _ rfl hm
theorem lastOf_append (p c : List Int) : lastOf (p ++ c) = if c = [] then lastOf p else lastOf c := by
  rcases snoc_or c with rfl | ⟨l, z, rfl⟩
  · simp
  · rw [← List.append_assoc, last_some, last_some, if_neg (by simp)]
theorem Fst.vic {D : List Int} {s : Sg} (h : Fst D s) : s.vic = lastOf D := by
  have l2 := last_row h.ok 2
  obtain ⟨p, c, e, hD⟩ := h.rows
  unfold Sg.vic
  rw [e] at l2 ⊢
  rw [← hD, lastOf_append]
  replace l2 : (c = [] ∧ lastOf c = -1) ∨ (0 < c.length ∧ 0 ≤ lastOf c ∧ lastOf c ≤ 4194303 ∧ lastOf c ∈ [p, [], c].flatten) := l2
  show (if 0 ≤ lastOf c then lastOf c else if 0 ≤ lastOf [] then lastOf [] else lastOf p) = _
  rcases l2 with ⟨h1, h2⟩ | ⟨h1, h2, _⟩
  · rw [if_neg (by rw [h2]; decide), if_pos h1, if_neg (by decide)]
  · rw [if_pos h2, if_neg (fun e => by rw [e] at h1; simp at h1)]
theorem Fst.rem {D : List Int} {s : Sg} (h : Fst D s) (z : Int) : Fst (D.filter (fun y => decide (y ≠ z))) (s.rem z) := by
  have hok := h.ok.rem z
  obtain ⟨p, c, e, hD⟩ := h.rows
  refine ⟨hok, ⟨p.filter (fun y => decide (y ≠ z)), c.filter (fun y => decide (y ≠ z)), ?_, by rw [← hD, List.filter_append]⟩, fun y => ?_⟩
  · show takeL s.L z = _
    rw [e]; rfl
  · show updB s.a z false y = false
    by_cases ey : y = z
    · rw [ey, updB_same]
    · rw [updB_other ey]; exact h.idle y
/-- i + m - 1 down to i. -/
def dsc (i : Nat) : Nat → List Int
  | 0 => []
  | m + 1 => ((i + m : Nat) : Int) :: dsc i m
theorem dsc_mem {i z : Int} : ∀ {a m : Nat}, z ∈ dsc a m → (a : Int) ≤ z ∧ z < a + m
  | a, 0, h => by cases h
  | a, m + 1, h => by
    rcases List.mem_cons.1 h with e | e
    · omega
    · have := dsc_mem (i := i) e; omega
theorem dsc_snoc (i : Nat) : ∀ m, dsc i (m + 1) = dsc (i + 1) m ++ [(i : Int)]
  | 0 => rfl
  | m + 1 => by
    show ((i + (m + 1) : Nat) : Int) :: dsc i (m + 1) = _
    rw [dsc_snoc i m]
    show _ = ((i + 1 + m : Nat) : Int) :: dsc (i + 1) m ++ _
    rw [show i + (m + 1) = i + 1 + m by omega]; rfl
theorem dsc_rem (i m : Nat) : (dsc i (m + 1)).filter (fun y => decide (y ≠ (i : Int))) = dsc (i + 1) m := by
  rw [dsc_snoc]
  exact filt_snoc_no (fun h => by have := dsc_mem (i := 0) h; omega)
theorem Fst.none {s : Sg} (h : Fst [] s) : s.vic = -1 ∧ s.stpB = false := by
  refine ⟨h.vic, ?_⟩
  obtain ⟨p, c, e, hD⟩ := h.rows
  obtain ⟨rfl, rfl⟩ := List.append_eq_nil_iff.1 hD
  cases hb : s.stpB
  · rfl
  · exfalso
    have hp : 0 ≤ s.pick := of_decide_eq_true hb
    unfold Sg.pick Sg.n at hp
    rw [e] at hp
    have : s.a (lastOf (rowAt [[], [], ([] : List Int)] 2)) = false := h.idle _
    rw [this] at hp
    revert hp; decide
theorem Fst.gone {i m : Nat} {s : Sg} (h : Fst (dsc i (m + 1)) s) : s.vic = i ∧ s.has i = true ∧ Fst (dsc (i + 1) m) (s.rem i) := by
  refine ⟨by rw [h.vic, dsc_snoc, last_some], has_iff.2 (h.mem.2 (by rw [dsc_snoc]; simp)), ?_⟩
  have := h.rem (i : Int)
  rwa [dsc_rem] at this
theorem Fst.came {m : Nat} {s : Sg} (h : Fst (dsc 0 m) s) (hm : m ≤ 64) : Fst (dsc 0 (m + 1)) (s.ins m) := by
  have := h.ins (z := (m : Int)) (fun hz => by have := dsc_mem (i := 0) hz; omega) ⟨by omega, by omega⟩
  show Fst (((0 + m : Nat) : Int) :: dsc 0 m) _
  rw [Nat.zero_add]; exact this
end Go.Proofs.YtenncmjokdacoaaDoor.Sr
