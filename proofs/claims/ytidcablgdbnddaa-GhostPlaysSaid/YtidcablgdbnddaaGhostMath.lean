/-
  Plain mathematics of a ghost: its numbers in a row, the oldest first, none twice; what Remove, Add and Limit make of them. No program in it. No conditions.
-/
import Derived.Test.YtidcablgdbnddaaArenaBase
namespace Go.Proofs.Ytidcablgdbnddaa
open Go

/-- The numbers without z. -/
def rmL (l : List Int) (z : Int) : List Int := l.filter (fun x => decide (x ≠ z))
/-- The newest m of them. -/
def cutL (m : Nat) (l : List Int) : List Int := l.drop (l.length - m)
/-- z comes as the newest. -/
def addL (m : Nat) (l : List Int) (z : Int) : List Int := cutL m (rmL l z ++ [z])
theorem rm_mem {l : List Int} {z x : Int} : x ∈ rmL l z ↔ x ∈ l ∧ x ≠ z := by unfold rmL; rw [List.mem_filter]; simp
theorem rm_no {l : List Int} {z : Int} (h : z ∉ l) : rmL l z = l := by
  unfold rmL
  rw [List.filter_eq_self]
  intro x hx
  have : x ≠ z := fun e => h (e ▸ hx)
  simp [this]
theorem rm_not (l : List Int) (z : Int) : z ∉ rmL l z := fun h => (rm_mem.1 h).2 rfl
theorem rm_split {a b : List Int} {z : Int} (h : (a ++ z :: b).Nodup) : rmL (a ++ z :: b) z = a ++ b := by
  rw [List.nodup_append, List.nodup_cons] at h
  obtain ⟨_, ⟨h2, _⟩, h3⟩ := h
  have ea : rmL a z = a := rm_no (fun hm => h3 z hm z (List.mem_cons_self ..) rfl)
  have eb : rmL b z = b := rm_no h2
  unfold rmL at ea eb ⊢
  rw [List.filter_append, List.filter_cons, ea, eb]
  simp
theorem rm_sub (l : List Int) (z : Int) : (rmL l z).Sublist l := List.filter_sublist
theorem rm_nodup {l : List Int} (h : l.Nodup) (z : Int) : (rmL l z).Nodup := (rm_sub l z).nodup h
theorem rm_len (l : List Int) (z : Int) : (rmL l z).length ≤ l.length := (rm_sub l z).length_le
theorem cut_le (m : Nat) (l : List Int) : (cutL m l).length ≤ m := by unfold cutL; rw [List.length_drop]; omega
theorem cut_len (m : Nat) (l : List Int) : (cutL m l).length = min l.length m := by unfold cutL; rw [List.length_drop]; omega
theorem cut_all {m : Nat} {l : List Int} (h : l.length ≤ m) : cutL m l = l := by unfold cutL; rw [show l.length - m = 0 by omega]; rfl
theorem cut_step {m : Nat} {x : Int} {t : List Int} (h : m < (x :: t).length) : cutL m (x :: t) = cutL m t := by
  unfold cutL
  rw [List.length_cons] at h ⊢
  rw [show t.length + 1 - m = (t.length - m) + 1 by omega]
  rfl
theorem cut_nodup {l : List Int} (h : l.Nodup) (m : Nat) : (cutL m l).Nodup := (List.drop_sublist _ _).nodup h
theorem snoc_nodup {l : List Int} (h : l.Nodup) {z : Int} (hz : z ∉ l) : (l ++ [z]).Nodup := by
  rw [List.nodup_append]
  exact ⟨h, by simp, fun a ha b hb e => hz (by rw [List.mem_singleton.1 hb] at e; exact e ▸ ha)⟩
theorem add_nodup {l : List Int} (h : l.Nodup) (m : Nat) (z : Int) : (addL m l z).Nodup := cut_nodup (snoc_nodup (rm_nodup h z) (rm_not l z)) m
theorem add_len (m : Nat) (l : List Int) (z : Int) : (addL m l z).length ≤ l.length + 1 := by
  have h1 := cut_len m (rmL l z ++ [z])
  have h2 := rm_len l z
  rw [List.length_append, List.length_singleton] at h1
  show (cutL m (rmL l z ++ [z])).length ≤ _
  omega
end Go.Proofs.Ytidcablgdbnddaa
