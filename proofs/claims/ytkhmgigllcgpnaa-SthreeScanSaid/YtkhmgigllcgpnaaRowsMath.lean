/-
  Plain lists: ids that stand in rows; what taking one out, and putting one at a row's front or end, makes of them. No program in it. No conditions.
-/
import Derived.Test.YtkhmgigllcgpnaaArenaBase
namespace Go.Proofs.Ytkhmgigllcgpnaa
open Go Go.RowKit Go.Lib

/-- In which row an id stands. -/
def rowOf (L : List (List Int)) (z : Int) : Option Nat := L.findIdx? (fun l => decide (z ∈ l))
def takeL (L : List (List Int)) (z : Int) : List (List Int) := L.map (fun l => l.filter (fun y => decide (y ≠ z)))
def frontL (L : List (List Int)) (i : Nat) (z : Int) : List (List Int) := (takeL L z).set i (z :: (takeL L z)[i]?.getD [])
def backL (L : List (List Int)) (i : Nat) (z : Int) : List (List Int) := (takeL L z).set i ((takeL L z)[i]?.getD [] ++ [z])
def rv : Option Nat → Int
  | none => -1
  | some i => i
def rowAt (L : List (List Int)) (r : Int) : List Int := if 0 ≤ r then L[r.toNat]?.getD [] else []
def firstOf (l : List Int) : Int := l.head?.getD (-1)
def lastOf (l : List Int) : Int := l.getLast?.getD (-1)
def May (n : Nat) (r z : Int) : Prop := 0 ≤ r ∧ r < n ∧ 0 ≤ z ∧ z ≤ 4194303
instance (n : Nat) (r z : Int) : Decidable (May n r z) := by unfold May; infer_instance

structure GoodL (L : List (List Int)) : Prop where
  n1 : 1 ≤ L.length
  n8 : L.length ≤ 8
  nd : L.flatten.Nodup
  rng : ∀ z ∈ L.flatten, 0 ≤ z ∧ z ≤ 4194303

theorem flat_nodup {α : Type} {L : List (List α)} (h : L.flatten.Nodup) : (∀ l ∈ L, l.Nodup) ∧ ∀ (i j : Nat) (l m : List α), i ≠ j → L[i]? = some l → L[j]? = some m → ∀ x ∈ l, x ∉ m := by
  have h' := List.pairwise_flatten.1 h
  refine ⟨h'.1, ?_⟩
  have hp := List.pairwise_iff_getElem.1 h'.2
  intro i j l m hij hi hj x hx hm
  obtain ⟨hi1, rfl⟩ := List.getElem?_eq_some_iff.1 hi
  obtain ⟨hj1, rfl⟩ := List.getElem?_eq_some_iff.1 hj
  rcases Nat.lt_or_gt_of_ne hij with h1 | h1
  · exact hp i j hi1 hj1 h1 x hx x hm rfl
  · exact hp j i hj1 hi1 h1 x hm x hx rfl
theorem rowOf_none {L : List (List Int)} {z : Int} : rowOf L z = none ↔ ∀ l ∈ L, z ∉ l := by
  unfold rowOf
  rw [List.findIdx?_eq_none_iff]
  simp
theorem rowOf_none' {L : List (List Int)} {z : Int} : rowOf L z = none ↔ z ∉ L.flatten := by
  rw [rowOf_none, List.mem_flatten]
  constructor
  · rintro h ⟨l, hl, hz⟩; exact h l hl hz
  · intro h l hl hz; exact h ⟨l, hl, hz⟩
theorem rowOf_mem {L : List (List Int)} {z : Int} {i : Nat} (h : rowOf L z = some i) : ∃ l, L[i]? = some l ∧ z ∈ l := by
  unfold rowOf at h
  obtain ⟨h1, h2, _⟩ := List.findIdx?_eq_some_iff_getElem.1 h
  exact ⟨L[i], List.getElem?_eq_getElem h1, of_decide_eq_true h2⟩
theorem rowOf_at {L : List (List Int)} (hn : L.flatten.Nodup) {i : Nat} {l : List Int} {z : Int} (hi : L[i]? = some l) (hz : z ∈ l) : rowOf L z = some i := by
  cases h : rowOf L z with
  | none => exact absurd hz (rowOf_none.1 h l (List.mem_of_getElem? hi))
  | some j =>
    obtain ⟨m, hm, hzm⟩ := rowOf_mem h
    by_cases e : i = j
    · rw [e]
    · exact absurd hzm ((flat_nodup hn).2 i j l m e hi hm z hz)
theorem takeL_len (L : List (List Int)) (z : Int) : (takeL L z).length = L.length := by simp [takeL]
theorem take_no {L : List (List Int)} {z : Int} (h : z ∉ L.flatten) : takeL L z = L := by
  unfold takeL
  conv => rhs; rw [← List.map_id L]
  refine List.map_congr_left (fun l hl => ?_)
  rw [List.filter_eq_self.2 (fun y hy => ?_)]; · rfl
  simp only [decide_eq_true_eq]
  rintro rfl
  exact h (List.mem_flatten.2 ⟨l, hl, hy⟩)
theorem take_split {L : List (List Int)} (hn : L.flatten.Nodup) {i : Nat} {a b : List Int} {z : Int} (hi : L[i]? = some (a ++ z :: b)) : takeL L z = L.set i (a ++ b) := by
  obtain ⟨h1, h2⟩ := flat_nodup hn
  have hl := h1 _ (List.mem_of_getElem? hi)
  rw [List.nodup_append, List.nodup_cons] at hl
  obtain ⟨_, ⟨hzb, _⟩, hab⟩ := hl
  have hza : z ∉ a := fun h => hab z h z (List.mem_cons_self ..) rfl
  apply List.ext_getElem?
  intro j
  unfold takeL
  rw [List.getElem?_map, List.getElem?_set]
  have hil := (List.getElem?_eq_some_iff.1 hi).1
  by_cases e : i = j
  · subst e
    rw [if_pos rfl, if_pos hil, hi]
    simp only [Option.map_some, Option.some.injEq]
    rw [List.filter_append, List.filter_cons_of_neg (by simp)]
    rw [List.filter_eq_self.2 (fun y hy => by simp only [decide_eq_true_eq]; rintro rfl; exact hza hy), List.filter_eq_self.2 (fun y hy => by simp only [decide_eq_true_eq]; rintro rfl; exact hzb hy)]
  · rw [if_neg e]
    cases hj : L[j]? with
    | none => rfl
    | some m =>
      simp only [Option.map_some, Option.some.injEq]
      exact List.filter_eq_self.2 (fun y hy => by
        simp only [decide_eq_true_eq]; rintro rfl
        exact h2 i j _ m e hi hj y (by simp) hy)
theorem mem_take {L : List (List Int)} {z y : Int} : y ∈ (takeL L z).flatten ↔ y ∈ L.flatten ∧ y ≠ z := by
  unfold takeL
  rw [List.mem_flatten, List.mem_flatten]
  constructor
  · rintro ⟨l, hl, hy⟩
    obtain ⟨m, hm, rfl⟩ := List.mem_map.1 hl
    have := List.mem_filter.1 hy
    exact ⟨⟨m, hm, this.1⟩, by simpa using this.2⟩
  · rintro ⟨⟨l, hl, hy⟩, hne⟩
    exact ⟨_, List.mem_map.2 ⟨l, hl, rfl⟩, List.mem_filter.2 ⟨hy, by simpa using hne⟩⟩
theorem take_sub : ∀ (L : List (List Int)) (z : Int), (takeL L z).flatten.Sublist L.flatten
  | [], _ => List.Sublist.slnil
  | l :: L, z => by
    show (l.filter _ ++ (takeL L z).flatten).Sublist (l ++ L.flatten)
    exact (List.filter_sublist).append (take_sub L z)
theorem GoodL.take {L : List (List Int)} (h : GoodL L) (z : Int) : GoodL (takeL L z) :=
  ⟨by rw [takeL_len]; exact h.n1, by rw [takeL_len]; exact h.n8, (take_sub L z).nodup h.nd, fun y hy => h.rng y (mem_take.1 hy).1⟩
theorem flat_set {α : Type} : ∀ {L : List (List α)} {i : Nat} {l m : List α}, L[i]? = some l → (L.set i m).flatten.Perm (m ++ (L.set i []).flatten) ∧ L.flatten.Perm (l ++ (L.set i []).flatten)
  | [], _, _, _, h => by simp at h
  | x :: L, 0, l, m, h => by simp at h; subst h; exact ⟨List.Perm.refl _, List.Perm.refl _⟩
  | x :: L, i + 1, l, m, h => by
    have ih := flat_set (L := L) (i := i) (l := l) (m := m) (by simpa using h)
    constructor
    · show (x ++ (L.set i m).flatten).Perm (m ++ (x ++ (L.set i []).flatten))
      refine (List.Perm.append_left x ih.1).trans ?_
      rw [← List.append_assoc, ← List.append_assoc]
      exact List.Perm.append_right _ List.perm_append_comm
    · show (x ++ L.flatten).Perm (l ++ (x ++ (L.set i []).flatten))
      refine (List.Perm.append_left x ih.2).trans ?_
      rw [← List.append_assoc, ← List.append_assoc]
      exact List.Perm.append_right _ List.perm_append_comm
/-- One more in a row: the whole has one more. -/
theorem flat_ins {α : Type} {L : List (List α)} {i : Nat} {a b : List α} (x : α) (h : L[i]? = some (a ++ b)) : (L.set i (a ++ x :: b)).flatten.Perm (x :: L.flatten) := by
  have h1 := (flat_set (m := a ++ x :: b) h).1
  have h2 := (flat_set (m := a ++ b) h).2
  refine h1.trans (List.Perm.trans ?_ (List.Perm.cons x h2.symm))
  rw [← List.cons_append]
  exact List.Perm.append_right _ List.perm_middle
theorem flat_del {α : Type} {L : List (List α)} {i : Nat} {a b : List α} {x : α} (h : L[i]? = some (a ++ x :: b)) : L.flatten.Perm (x :: (L.set i (a ++ b)).flatten) := by
  have h1 := (flat_set (m := a ++ b) h).1
  have h2 := (flat_set (m := a ++ b) h).2
  refine h2.trans (List.Perm.trans ?_ (List.Perm.cons x h1.symm))
  rw [← List.cons_append]
  exact List.Perm.append_right _ List.perm_middle
theorem GoodL.ins {L : List (List Int)} (h : GoodL L) {i : Nat} {a b : List Int} {z : Int} (hi : L[i]? = some (a ++ b)) (hz : z ∉ L.flatten) (h0 : 0 ≤ z) (h1 : z ≤ 4194303) : GoodL (L.set i (a ++ z :: b)) := by
  have p := flat_ins z hi
  refine ⟨by rw [List.length_set]; exact h.n1, by rw [List.length_set]; exact h.n8, p.nodup_iff.2 (List.nodup_cons.2 ⟨hz, h.nd⟩), fun y hy => ?_⟩
  rcases List.mem_cons.1 (p.mem_iff.1 hy) with rfl | hy
  · exact ⟨h0, h1⟩
  · exact h.rng y hy
theorem not_take {L : List (List Int)} {z : Int} : z ∉ (takeL L z).flatten := fun h => (mem_take.1 h).2 rfl
theorem GoodL.front {L : List (List Int)} (h : GoodL L) {i : Nat} {z : Int} (hi : i < L.length) (h0 : 0 ≤ z) (h1 : z ≤ 4194303) : GoodL (frontL L i z) := by
  unfold frontL
  have hi' : (takeL L z)[i]? = some ([] ++ (takeL L z)[i]?.getD []) := by
    rw [List.getElem?_eq_getElem (by rw [takeL_len]; exact hi)]; rfl
  exact (h.take z).ins hi' not_take h0 h1
theorem GoodL.back {L : List (List Int)} (h : GoodL L) {i : Nat} {z : Int} (hi : i < L.length) (h0 : 0 ≤ z) (h1 : z ≤ 4194303) : GoodL (backL L i z) := by
  unfold backL
  have hi' : (takeL L z)[i]? = some ((takeL L z)[i]?.getD [] ++ []) := by
    rw [List.getElem?_eq_getElem (by rw [takeL_len]; exact hi), List.append_nil]; rfl
  exact (h.take z).ins hi' not_take h0 h1
/-- So many different numbers there are at most. -/
theorem nodup_le : ∀ (n : Nat) {l : List Int}, l.Nodup → (∀ z ∈ l, 0 ≤ z ∧ z < n) → l.length ≤ n
  | 0, l, _, h => by
    cases l with
    | nil => exact Nat.le_refl _
    | cons x l => have := h x (List.mem_cons_self ..); omega
  | n + 1, l, hn, h => by
    by_cases hm : (n : Int) ∈ l
    · have h1 := nodup_le n (hn.erase (n : Int)) (fun z hz => by
        have := (List.Nodup.mem_erase_iff hn).1 hz
        have h2 := h z this.2
        have h3 := this.1
        omega)
      rw [List.length_erase_of_mem hm] at h1
      omega
    · have h1 := nodup_le n hn (fun z hz => by
        have h2 := h z hz
        have h3 : z ≠ (n : Int) := fun e => hm (e ▸ hz)
        omega)
      omega
theorem GoodL.count {L : List (List Int)} (h : GoodL L) : L.flatten.length ≤ 4194304 := nodup_le 4194304 h.nd (fun z hz => by have := h.rng z hz; omega)
theorem mem_flat {α : Type} {L : List (List α)} {i : Nat} {l : List α} {x : α} (hi : L[i]? = some l) (hx : x ∈ l) : x ∈ L.flatten := List.mem_flatten.2 ⟨l, List.mem_of_getElem? hi, hx⟩
theorem GoodL.len {L : List (List Int)} (h : GoodL L) {i : Nat} {l : List Int} (hi : L[i]? = some l) : l.length ≤ 4194304 :=
  nodup_le 4194304 ((flat_nodup h.nd).1 l (List.mem_of_getElem? hi)) (fun z hz => by have := h.rng z (mem_flat hi hz); omega)
end Go.Proofs.Ytkhmgigllcgpnaa
