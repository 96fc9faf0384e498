/-
  The law ArenaGrants at this program, first part: plain lemmas on owners, and the loop that grants and returns. No conditions.
-/
import Derived.Test.YtclddaacbfgnlaaArenaFull
import Derived.Deep.RegionWith
namespace Go.Proofs.Ytclddaacbfgnlaa
open Go Go.RowKit Go.Lib

/-- Each page's owner and 1. -/
def heldOf (ow : List Int) : List Int := ow.map fun z => z + 1
theorem held_len (ow : List Int) : (heldOf ow).length = ow.length := by simp [heldOf]
theorem held_at {ow : List Int} {k : Nat} {z : Int} (h : ow[k]? = some z) : (heldOf ow)[k]? = some (z + 1) := by simp [heldOf, h]
theorem held_set (ow : List Int) (k : Nat) (z : Int) : heldOf (ow.set k z) = (heldOf ow).set k (z + 1) := by simp [heldOf, List.map_set]
theorem held_same {ow : List Int} {k : Nat} (h : ow[k]? = some (-1)) : (heldOf ow).set k 0 = heldOf ow := by
  apply List.ext_getElem?
  intro j
  rw [List.getElem?_set]
  split
  · rename_i e
    subst e
    split
    · rw [held_at h]; rfl
    · rename_i hl
      rw [List.getElem?_eq_none (by omega)]
  · rfl
def Small (ow : List Int) : Prop := ∀ z ∈ ow, z ≤ 4
theorem small_set {ow : List Int} (h : Small ow) (k : Nat) {z : Int} (hz : z ≤ 4) : Small (ow.set k z) := by
  intro y hy
  rcases List.mem_or_eq_of_mem_set hy with hy | rfl
  · exact h y hy
  · exact hz
theorem small_zero (n : Nat) : Small (newSt n 512).ow := by
  intro z hz
  have := List.eq_of_mem_replicate hz; omega
theorem held_zero (n : Nat) : heldOf (newSt n 512).ow = List.replicate n 0 := by
  show heldOf (List.replicate n (-1)) = _
  unfold heldOf; rw [List.map_replicate]; rfl

theorem pagesTo_at {ow : List Int} {o : Int} : ∀ {k i : Nat} {x : Int}, (pagesTo ow o k)[i]? = some x → ∃ j : Nat, x = j ∧ j < k ∧ ow[j]? = some o
  | 0, i, x, h => by simp [pagesTo] at h
  | k + 1, i, x, h => by
    rw [pagesTo] at h
    split at h
    · rename_i hk
      rw [List.getElem?_append] at h
      split at h
      · obtain ⟨j, h1, h2, h3⟩ := pagesTo_at h
        exact ⟨j, h1, by omega, h3⟩
      · generalize i - (pagesTo ow o k).length = q at h
        cases q with
        | zero => simp at h; exact ⟨k, h.symm, by omega, hk⟩
        | succ q => simp at h
    · obtain ⟨j, h1, h2, h3⟩ := pagesTo_at h
      exact ⟨j, h1, by omega, h3⟩
theorem pagesTo_rise {ow : List Int} {o : Int} : ∀ {k i : Nat} {x y : Int}, (pagesTo ow o k)[i]? = some x → (pagesTo ow o k)[i + 1]? = some y → x < y
  | 0, i, x, y, h, _ => by simp [pagesTo] at h
  | k + 1, i, x, y, h, h' => by
    rw [pagesTo] at h h'
    split at h
    · rename_i hk
      rw [if_pos hk] at h'
      rw [List.getElem?_append] at h h'
      split at h
      · split at h'
        · exact pagesTo_rise h h'
        · obtain ⟨j, h1, h2, _⟩ := pagesTo_at h
          generalize i + 1 - (pagesTo ow o k).length = q at h'
          cases q with
          | zero => simp at h'; omega
          | succ q => simp at h'
      · rw [if_neg (by omega)] at h'
        obtain ⟨q, hq⟩ : ∃ q, i + 1 - (pagesTo ow o k).length = q + 1 := ⟨i - (pagesTo ow o k).length, by omega⟩
        rw [hq] at h'
        simp at h'
    · rename_i hk
      rw [if_neg hk] at h'
      exact pagesTo_rise h h'
/-- How many pages the first m owners have. -/
def tot (ow : List Int) : Nat → Nat
  | 0 => 0
  | m + 1 => tot ow m + (pagesOf ow (m : Int)).length
theorem tot_all {ow : List Int} (hr : ∀ z ∈ ow, -1 ≤ z ∧ z ≤ 62) (h : Small ow) : tot ow 5 = cnt ow := by
  have key : ∀ k, k ≤ ow.length → (pagesTo ow 0 k).length + (pagesTo ow 1 k).length + (pagesTo ow 2 k).length + (pagesTo ow 3 k).length + (pagesTo ow 4 k).length = cntTo ow k := by
    intro k
    induction k with
    | zero => intro _; simp [pagesTo, cntTo]
    | succ k ih =>
      intro hk
      have ih' := ih (by omega)
      have hz : ow[k]? = some (ow[k]'(by omega)) := List.getElem?_eq_getElem _
      generalize ow[k]'(by omega) = z at hz
      have hm := List.mem_of_getElem? hz
      have h1 := (hr z hm).1
      have h2 := h z hm
      have hc : z = -1 ∨ z = 0 ∨ z = 1 ∨ z = 2 ∨ z = 3 ∨ z = 4 := by omega
      rcases hc with rfl | rfl | rfl | rfl | rfl | rfl
      · rw [pagesTo_miss hz (by decide), pagesTo_miss hz (by decide), pagesTo_miss hz (by decide), pagesTo_miss hz (by decide), pagesTo_miss hz (by decide), cntTo_same hz rfl, ih']
      all_goals
        rw [cntTo_more hz (by decide), ← ih']
      · rw [pagesTo_hit hz rfl, pagesTo_miss hz (by decide), pagesTo_miss hz (by decide), pagesTo_miss hz (by decide), pagesTo_miss hz (by decide), List.length_append]; simp; omega
      · rw [pagesTo_hit hz rfl, pagesTo_miss hz (by decide), pagesTo_miss hz (by decide), pagesTo_miss hz (by decide), pagesTo_miss hz (by decide), List.length_append]; simp; omega
      · rw [pagesTo_hit hz rfl, pagesTo_miss hz (by decide), pagesTo_miss hz (by decide), pagesTo_miss hz (by decide), pagesTo_miss hz (by decide), List.length_append]; simp; omega
      · rw [pagesTo_hit hz rfl, pagesTo_miss hz (by decide), pagesTo_miss hz (by decide), pagesTo_miss hz (by decide), pagesTo_miss hz (by decide), List.length_append]; simp; omega
      · rw [pagesTo_hit hz rfl, pagesTo_miss hz (by decide), pagesTo_miss hz (by decide), pagesTo_miss hz (by decide), pagesTo_miss hz (by decide), List.length_append]; simp; omega
  have := key ow.length (Nat.le_refl _)
  unfold cnt
  rw [← this]
  simp [tot, pagesOf]

/-- A slice of ints, read through its cells. -/
def Ints (w : World) (v : Value) (zs : List Int) : Prop :=
  ∃ a c, v = .slice a zs.length c ∧ ∀ j z, zs[j]? = some z → ∃ b o, a = some ⟨b, o, none⟩ ∧ b < w.heap.size ∧ w.cell? ⟨b, o + j, none⟩ = some (.int .i64 z)

theorem AIs.setOther {P O R G : Nat} {s : St} {w : World} (h : AIs P O R s w) (i : Nat) (u : Value) (hP : G ≠ P) (hO : G ≠ O) (hR : G ≠ R) : AIs P O R s (w.setCell ⟨G, i, none⟩ u) :=
  h.only ((Only.refl (fun b => b = G) w).setCell (p := ⟨G, i, none⟩) (.inl rfl) u) (Ne.symm hP) (Ne.symm hO) (Ne.symm hR)
theorem AIs.drew {P O R : Nat} {s : St} {w : World} (h : AIs P O R s w) : AIs P O R s w.drew := by
  obtain ⟨cs, hb, hR⟩ := h.row
  exact ⟨h.ok, h.po, h.pr, h.or, h.head, h.own, cs, hb, hR⟩
end Go.Proofs.Ytclddaacbfgnlaa
