/-
  One spot comes into a ring, or goes out of it; the rows as one object in memory. No program is run in it. No conditions.
-/
import Derived.Test.YtkhmgigllcgpnaaRowsMem
namespace Go.Proofs.Ytkhmgigllcgpnaa
open Go Go.RowKit Go.Lib

theorem tail_fst (e : Pt) (b : List Pt) : (b ++ [e]).tail = if b = [] then [] else b.tail ++ [e] := by cases b <;> simp
/-- What stands ahead of the cut, what behind it, does not meet the cut's own two cells. -/
structure Apart (e : Pt) (a b : List Pt) : Prop where
  nd : ((e :: (a ++ b)).map Pt.b).Nodup
theorem Apart.ne {e : Pt} {a b : List Pt} (h : Apart e a b) : (∀ p ∈ a, p.b ≠ e.b) ∧ (∀ p ∈ b, p.b ≠ e.b) ∧ (∀ p ∈ a, ∀ q ∈ b, p.b ≠ q.b) ∧ (a.map Pt.b).Nodup ∧ (b.map Pt.b).Nodup := by
  have := h.nd
  rw [List.map_cons, List.nodup_cons, List.map_append, List.nodup_append] at this
  obtain ⟨h1, h2, h3, h4⟩ := this
  refine ⟨fun p hp e1 => h1 (List.mem_append_left _ (List.mem_map.2 ⟨p, hp, e1⟩)), fun p hp e1 => h1 (List.mem_append_right _ (List.mem_map.2 ⟨p, hp, e1⟩)), fun p hp q hq e1 => h4 _ (List.mem_map.2 ⟨p, hp, rfl⟩) _ (List.mem_map.2 ⟨q, hq, rfl⟩) e1, h2, h3⟩
/-- Ahead of the cut: but for the last one they are not the last one. -/
theorem Apart.ahead {e : Pt} {a b : List Pt} (h : Apart e a b) : ∀ p ∈ (e :: a).dropLast, p.b ≠ (lst e a).b := by
  obtain ⟨h1, h2, h3, h4, h5⟩ := h.ne
  have hn : ((e :: a).map Pt.b).Nodup := by
    rw [List.map_cons, List.nodup_cons]
    exact ⟨fun hm => by obtain ⟨p, hp, e1⟩ := List.mem_map.1 hm; exact h1 p hp e1, h4⟩
  rw [lst_split e a, List.map_append, List.nodup_append] at hn
  intro p hp e1
  exact hn.2.2 _ (List.mem_map.2 ⟨p, hp, rfl⟩) _ (List.mem_map.2 ⟨_, List.mem_singleton.2 rfl, rfl⟩) e1
theorem Apart.behind {e : Pt} {a b : List Pt} (h : Apart e a b) : ∀ p ∈ (b ++ [e]).tail, p.b ≠ (fst e b).b := by
  obtain ⟨h1, h2, h3, h4, h5⟩ := h.ne
  cases b with
  | nil => intro p hp; simp at hp
  | cons x b =>
    intro p hp
    have hp' : p ∈ b ++ [e] := hp
    rw [List.map_cons, List.nodup_cons] at h5
    rcases List.mem_append.1 hp' with hp | hp
    · intro e1; exact h5.1 (List.mem_map.2 ⟨p, hp, e1⟩)
    · rw [List.mem_singleton.1 hp]; exact fun e1 => h2 x (List.mem_cons_self ..) e1.symm
theorem drop_last_snoc (s : List Pt) (u : Pt) : (s ++ [u]).dropLast = s := by simp

/-- A spot comes in between. -/
theorem ring_in {w w' : World} {e : Pt} {a b : List Pt} {x : Pt} (h : Seq w (e :: (a ++ b) ++ [e])) (hA : Apart e a b)
    (hs : ∀ p ∈ e :: (a ++ b), (p.b ≠ (lst e a).b → w'.cell? (p.at_ 3) = w.cell? (p.at_ 3)) ∧ (p.b ≠ (fst e b).b → w'.cell? (p.at_ 2) = w.cell? (p.at_ 2)))
    (h1 : w'.cell? ((lst e a).at_ 3) = some x.v) (h2 : w'.cell? (x.at_ 2) = some (lst e a).v) (h3 : w'.cell? (x.at_ 3) = some (fst e b).v) (h4 : w'.cell? ((fst e b).at_ 2) = some x.v) :
    Seq w' (e :: (a ++ x :: b) ++ [e]) := by
  obtain ⟨n1, n2, n3, n4, n5⟩ := hA.ne
  rw [ring_split] at h
  obtain ⟨s1, _, s2⟩ := Seq.split.1 h
  have r1 : Seq w' ((e :: a).dropLast ++ [lst e a]) := by
    rw [← lst_split]
    rw [← lst_split] at s1
    refine s1.frame (fun p hp => ?_) (fun q hq => ?_)
    · have hm : p ∈ e :: (a ++ b) := by
        rcases List.mem_cons.1 (drop_sub e a p hp) with rfl | h'
        · exact List.mem_cons_self ..
        · exact List.mem_cons_of_mem _ (List.mem_append_left _ h')
      exact (hs p hm).1 (hA.ahead p hp)
    · have hq' : q ∈ a := hq
      refine (hs q (List.mem_cons_of_mem _ (List.mem_append_left _ hq'))).2 (fun e1 => ?_)
      rcases fst_mem e b with e2 | e2
      · rw [e2] at e1; exact n1 q hq' e1
      · exact n3 q hq' _ e2 e1
  have r2 : Seq w' (fst e b :: (b ++ [e]).tail) := by
    refine s2.frame (fun p hp => ?_) (fun q hq => ?_)
    · rw [← fst_split, drop_last_snoc] at hp
      refine (hs p (List.mem_cons_of_mem _ (List.mem_append_right _ hp))).1 (fun e1 => ?_)
      rcases lst_mem e a with e2 | e2
      · rw [e2] at e1; exact n2 p hp e1
      · exact n3 _ e2 p hp e1.symm
    · have hq' : q ∈ (b ++ [e]).tail := hq
      have hm : q ∈ e :: (a ++ b) := by
        have : q ∈ b ++ [e] := List.mem_of_mem_tail hq'
        rcases List.mem_append.1 this with h' | h'
        · exact List.mem_cons_of_mem _ (List.mem_append_right _ h')
        · rw [List.mem_singleton.1 h']; exact List.mem_cons_self ..
      exact (hs q hm).2 (hA.behind q hq')
  have e0 : e :: (a ++ x :: b) ++ [e] = (e :: a).dropLast ++ lst e a :: x :: (fst e b :: (b ++ [e]).tail) := by
    rw [← fst_split, List.append_cons (e :: a).dropLast, ← lst_split]; simp
  rw [e0]
  exact Seq.split.2 ⟨r1, ⟨h1, h2⟩, h3, h4, r2⟩
/-- A spot goes out. -/
theorem ring_out {w w' : World} {e : Pt} {a b : List Pt} {x : Pt} (h : Seq w (e :: (a ++ x :: b) ++ [e])) (hA : Apart e a b)
    (hs : ∀ p ∈ e :: (a ++ b), (p.b ≠ (lst e a).b → w'.cell? (p.at_ 3) = w.cell? (p.at_ 3)) ∧ (p.b ≠ (fst e b).b → w'.cell? (p.at_ 2) = w.cell? (p.at_ 2)))
    (h1 : w'.cell? ((lst e a).at_ 3) = some (fst e b).v) (h2 : w'.cell? ((fst e b).at_ 2) = some (lst e a).v) :
    Seq w' (e :: (a ++ b) ++ [e]) := by
  obtain ⟨n1, n2, n3, n4, n5⟩ := hA.ne
  have e0 : e :: (a ++ x :: b) ++ [e] = (e :: a).dropLast ++ lst e a :: x :: (fst e b :: (b ++ [e]).tail) := by
    rw [← fst_split, List.append_cons (e :: a).dropLast, ← lst_split]; simp
  rw [e0] at h
  obtain ⟨s1, _, _, _, s2⟩ := Seq.split.1 h
  have r1 : Seq w' ((e :: a).dropLast ++ [lst e a]) := by
    rw [← lst_split]
    rw [← lst_split] at s1
    refine s1.frame (fun p hp => ?_) (fun q hq => ?_)
    · have hm : p ∈ e :: (a ++ b) := by
        rcases List.mem_cons.1 (drop_sub e a p hp) with rfl | h'
        · exact List.mem_cons_self ..
        · exact List.mem_cons_of_mem _ (List.mem_append_left _ h')
      exact (hs p hm).1 (hA.ahead p hp)
    · have hq' : q ∈ a := hq
      refine (hs q (List.mem_cons_of_mem _ (List.mem_append_left _ hq'))).2 (fun e1 => ?_)
      rcases fst_mem e b with e2 | e2
      · rw [e2] at e1; exact n1 q hq' e1
      · exact n3 q hq' _ e2 e1
  have r2 : Seq w' (fst e b :: (b ++ [e]).tail) := by
    refine s2.frame (fun p hp => ?_) (fun q hq => ?_)
    · rw [← fst_split, drop_last_snoc] at hp
      refine (hs p (List.mem_cons_of_mem _ (List.mem_append_right _ hp))).1 (fun e1 => ?_)
      rcases lst_mem e a with e2 | e2
      · rw [e2] at e1; exact n2 p hp e1
      · exact n3 _ e2 p hp e1.symm
    · have hq' : q ∈ (b ++ [e]).tail := hq
      have hm : q ∈ e :: (a ++ b) := by
        have : q ∈ b ++ [e] := List.mem_of_mem_tail hq'
        rcases List.mem_append.1 this with h' | h'
        · exact List.mem_cons_of_mem _ (List.mem_append_right _ h')
        · rw [List.mem_singleton.1 h']; exact List.mem_cons_self ..
      exact (hs q hm).2 (hA.behind q hq')
  rw [ring_split]
  exact Seq.split.2 ⟨r1, ⟨h1, h2⟩, r2⟩
/-- What a ring tells at a cut. -/
theorem ring_at {w : World} {e : Pt} {a b : List Pt} (h : Seq w (e :: (a ++ b) ++ [e])) : w.cell? ((lst e a).at_ 3) = some (fst e b).v ∧ w.cell? ((fst e b).at_ 2) = some (lst e a).v := by
  rw [ring_split] at h
  exact (Seq.split.1 h).2.1
theorem ring_mid {w : World} {e x : Pt} {a b : List Pt} (h : Seq w (e :: (a ++ x :: b) ++ [e])) : w.cell? (x.at_ 2) = some (lst e a).v ∧ w.cell? (x.at_ 3) = some (fst e b).v := by
  have h1 := ring_at h
  have h2 := ring_at (a := a ++ [x]) (b := b) (by rw [List.append_assoc]; exact h)
  rw [fst_cons] at h1
  rw [lst_snoc] at h2
  exact ⟨h1.2, h2.1⟩
end Go.Proofs.Ytkhmgigllcgpnaa
