/-
  What steps of a segmented row keep, and that they come to an end: plain mathematics. No program in it. No conditions.
-/
import Derived.Test.YtenncmjokdacoaaDoorSegMath
namespace Go.Proofs.YtenncmjokdacoaaDoor.Sr
open Go

theorem Move.perm {s t : Sg} (h : Move s t) : s.L.flatten.Perm t.L.flatten := by
  cases h with
  | @hot p q c z a hh =>
    have h0 : [p ++ [z], q, c].flatten.Perm (z :: (p ++ (q ++ c))) := by
      rw [flat3, List.append_assoc]; exact List.perm_middle
    refine h0.trans ?_
    cases a z
    · simp only [Bool.false_eq_true, if_false, flat3]
      rw [← List.append_assoc p q (z :: c), ← List.append_assoc p q c]; exact List.perm_middle.symm
    · simp only [if_true, flat3, List.cons_append]; exact List.perm_middle.symm
  | @warm p q c z a h1 h2 =>
    have h0 : [p, q ++ [z], c].flatten.Perm (z :: (p ++ (q ++ c))) := by
      rw [flat3, List.append_assoc, ← List.append_assoc p q, ← List.append_assoc p q]; exact List.perm_middle
    refine h0.trans ?_
    cases a z
    · simp only [Bool.false_eq_true, if_false, flat3]
      rw [← List.append_assoc p q (z :: c), ← List.append_assoc p q c]; exact List.perm_middle.symm
    · simp only [if_true, flat3, List.cons_append]; exact List.perm_middle.symm
  | @cold p q c z a h1 h2 h3 =>
    have h0 : [p, q, c ++ [z]].flatten.Perm (z :: (p ++ (q ++ c))) := by
      rw [flat3, ← List.append_assoc, ← List.append_assoc, ← List.append_assoc]
      exact List.perm_append_comm
    refine h0.trans ?_
    simp only [flat3, List.cons_append]; exact List.perm_middle.symm
theorem upd_true {a : Int → Bool} {z y : Int} (h : updB a z false y = true) : a y = true := by
  by_cases e : y = z
  · subst e; rw [updB_same] at h; cases h
  · rwa [updB_other e] at h
theorem Move.act {s t : Sg} (h : Move s t) {y : Int} (hy : t.a y = true) : s.a y = true := by
  cases h with
  | hot _ => exact upd_true hy
  | warm _ _ => exact upd_true hy
  | cold _ _ _ => exact upd_true hy
theorem Move.len {s t : Sg} (h : Move s t) : t.L.length = 3 := by
  cases h with
  | @hot p q c z a hh => cases a z <;> rfl
  | @warm p q c z a h1 h2 => cases a z <;> rfl
  | cold => rfl
theorem Sg.Ok.move {s t : Sg} (h : s.Ok) (m : Move s t) : t.Ok :=
  ⟨⟨by rw [m.len]; decide, by rw [m.len]; decide, m.perm.nodup_iff.1 h.good.nd, fun z hz => h.good.rng z (m.perm.mem_iff.2 hz)⟩, m.len, fun z hz => m.perm.mem_iff.1 (h.act z (m.act hz))⟩
theorem Sg.Ok.stp {s : Sg} (h : s.Ok) : s.stp.Ok := by
  cases e : s.stpB
  · rw [(stp_no h e).1]; exact h
  · exact h.move (stp_yes h e)
theorem stp_perm {s : Sg} (h : s.Ok) : s.L.flatten.Perm s.stp.L.flatten := by
  cases e : s.stpB
  · rw [(stp_no h e).1]
  · exact (stp_yes h e).perm
theorem Sg.n_eq {s : Sg} (h : s.Ok) : s.n = s.L.flatten.length := by
  obtain ⟨p, q, c, e⟩ := h.rows
  unfold Sg.n
  rw [e, flat3]
  show p.length + q.length + c.length = _
  simp only [List.length_append]; omega
theorem ins_mem {s : Sg} (h : s.Ok) {z y : Int} (hz : 0 ≤ z ∧ z ≤ 4194303) : y ∈ (s.ins z).L.flatten ↔ y = z ∨ y ∈ s.L.flatten := by
  unfold Sg.ins
  split
  · rename_i e
    constructor
    · exact .inr
    · rintro (rfl | hy)
      · exact has_iff.1 e
      · exact hy
  · exact opF_mem ((may3 h).2 ⟨by decide, by decide, hz⟩)
theorem tch_L (s : Sg) (z : Int) : (s.tch z).L = s.L := by unfold Sg.tch; split <;> rfl

/-! Steps come to an end -/
def wt (a : Int → Bool) (k : Nat) (l : List Int) : Nat := (l.map (fun z => if a z then 2 else k)).sum
theorem wt_app (a : Int → Bool) (k : Nat) (l m : List Int) : wt a k (l ++ m) = wt a k l + wt a k m := by unfold wt; rw [List.map_append, List.sum_append]
theorem wt_one (a : Int → Bool) (k : Nat) (z : Int) : wt a k [z] = if a z then 2 else k := by unfold wt; simp
theorem wt_cons (a : Int → Bool) (k : Nat) (z : Int) (l : List Int) : wt a k (z :: l) = (if a z then 2 else k) + wt a k l := by unfold wt; simp
theorem wt_upd {a : Int → Bool} {k : Nat} {z : Int} {l : List Int} (h : z ∉ l) : wt (updB a z false) k l = wt a k l := by
  unfold wt
  congr 1
  refine List.map_congr_left (fun y hy => ?_)
  rw [updB_other (a := a) (y := y) (z := z) (fun e => h (by rw [← e]; exact hy))]
theorem wt_le (a : Int → Bool) {k : Nat} (hk : k ≤ 2) : ∀ l, wt a k l ≤ 2 * l.length
  | [] => by simp [wt]
  | z :: l => by
    have := wt_le a hk l
    rw [wt_cons, List.length_cons]
    split <;> omega
/-- How many steps there may be. -/
def Sg.pot (s : Sg) : Nat := wt s.a 1 (rowAt s.L 0) + wt s.a 1 (rowAt s.L 1) + wt s.a 0 (rowAt s.L 2)
theorem pot3 (p q c : List Int) (a : Int → Bool) : Sg.pot ⟨[p, q, c], a⟩ = wt a 1 p + wt a 1 q + wt a 0 c := rfl
theorem Sg.pot_le {s : Sg} : s.pot ≤ 2 * s.n := by
  have h0 := wt_le s.a (k := 1) (by decide) (rowAt s.L 0)
  have h1 := wt_le s.a (k := 1) (by decide) (rowAt s.L 1)
  have h2 := wt_le s.a (k := 0) (by decide) (rowAt s.L 2)
  unfold Sg.pot Sg.n
  omega
theorem Move.pot {s t : Sg} (h : Move s t) (hn : s.L.flatten.Nodup) : t.pot + 1 ≤ s.pot := by
  have hz : ∀ z : Int, ∀ l : List Int, s.L.flatten.Perm (z :: l) → z ∉ l := fun z l p => (List.nodup_cons.1 (p.nodup_iff.1 hn)).1
  cases h with
  | @hot p q c z a hh =>
    have hno := hz z (p ++ (q ++ c)) (by rw [flat3, List.append_assoc]; exact List.perm_middle)
    simp only [List.mem_append, not_or] at hno
    rw [pot3, wt_app, wt_one]
    cases e : a z
    · simp only [Bool.false_eq_true, if_false]
      rw [pot3, wt_cons, updB_same, wt_upd hno.1, wt_upd hno.2.1, wt_upd hno.2.2]
      simp only [Bool.false_eq_true, if_false]; omega
    · simp only [if_true]
      rw [pot3, wt_cons, updB_same, wt_upd hno.1, wt_upd hno.2.1, wt_upd hno.2.2]
      simp only [Bool.false_eq_true, if_false]; omega
  | @warm p q c z a h1 h2 =>
    have hno := hz z (p ++ (q ++ c)) (by rw [flat3, List.append_assoc, ← List.append_assoc p q, ← List.append_assoc p q]; exact List.perm_middle)
    simp only [List.mem_append, not_or] at hno
    rw [pot3, wt_app, wt_one]
    cases e : a z
    · simp only [Bool.false_eq_true, if_false]
      rw [pot3, wt_cons, updB_same, wt_upd hno.1, wt_upd hno.2.1, wt_upd hno.2.2]
      simp only [Bool.false_eq_true, if_false]; omega
    · simp only [if_true]
      rw [pot3, wt_cons, updB_same, wt_upd hno.1, wt_upd hno.2.1, wt_upd hno.2.2]
      simp only [Bool.false_eq_true, if_false]; omega
  | @cold p q c z a h1 h2 h3 =>
    have hno := hz z (p ++ (q ++ c)) (by rw [flat3, ← List.append_assoc, ← List.append_assoc, ← List.append_assoc]; exact List.perm_append_comm)
    simp only [List.mem_append, not_or] at hno
    rw [pot3, pot3, wt_app, wt_one, wt_cons, updB_same, wt_upd hno.1, wt_upd hno.2.1, wt_upd hno.2.2, h3]
    simp only [Bool.false_eq_true, if_false, if_true]; omega
theorem stp_pot {s : Sg} (h : s.Ok) (hb : s.stpB = true) : s.stp.pot + 1 ≤ s.pot := (stp_yes h hb).pot h.good.nd
theorem stp_n {s : Sg} (h : s.Ok) : s.stp.n = s.n := by rw [Sg.n_eq h, Sg.n_eq h.stp]; exact (stp_perm h).length_eq.symm

/-! Who is asked for again and again (SeglruPasses) -/
/-- id stands in hot, or alone in warm; nobody else is active. -/
structure Pas (id : Int) (s : Sg) : Prop where
  ok : s.Ok
  act : ∀ z, s.a z = true → z = id
  at_ : (id ∈ rowAt s.L 0 ∧ rowAt s.L 1 = [] ∧ s.a id = true) ∨ (rowAt s.L 1 = [id])
theorem Pas.not_cold {id : Int} {s : Sg} (h : Pas id s) : id ∉ rowAt s.L 2 := by
  obtain ⟨p, q, c, e⟩ := h.ok.rows
  have hn := h.ok.good.nd
  have ha := h.at_
  rw [e, flat3, List.nodup_append, List.nodup_append] at hn
  obtain ⟨_, ⟨_, _, h2⟩, h3⟩ := hn
  rw [e] at ha ⊢
  intro hc
  rcases ha with ⟨h0, _⟩ | h1
  · exact h3 id h0 id (List.mem_append.2 (.inr hc)) rfl
  · exact h2 id (by show id ∈ rowAt [p, q, c] 1; rw [h1]; simp) id hc rfl
theorem Pas.stp {id : Int} {s : Sg} (h : Pas id s) (h4 : 11 ≤ s.n) : Pas id s.stp ∧
    ((s.stp.L = s.L ∧ (rowAt s.L 0).length ≤ 20 * s.n / 100) ∨ ((rowAt s.stp.L 0).length + 1 = (rowAt s.L 0).length ∧ (rowAt s.stp.L 1).length + (rowAt s.stp.L 2).length = (rowAt s.L 1).length + (rowAt s.L 2).length + 1)) := by
  cases e : s.stpB
  · obtain ⟨k1, k2, _, _⟩ := stp_no h.ok e
    rw [k1]
    exact ⟨h, .inl ⟨rfl, k2⟩⟩
  · have hm := stp_yes h.ok e
    have hok := h.ok.stp
    have hnc := h.not_cold
    have hat := h.at_
    have hac := h.act
    have hnd := h.ok.good.nd
    generalize s.stp = t at *
    have hact' : ∀ z, t.a z = true → z = id := fun z hz => hac z (hm.act hz)
    cases hm with
    | @hot p q c z a hh =>
      have hno : z ∉ p ++ (q ++ c) := (List.nodup_cons.1 ((show [p ++ [z], q, c].flatten.Perm (z :: (p ++ (q ++ c))) by rw [flat3, List.append_assoc]; exact List.perm_middle).nodup_iff.1 hnd)).1
      simp only [List.mem_append, not_or] at hno
      rcases hat with ⟨h0, h1, h2⟩ | h1
      · replace h0 : id ∈ p ++ [z] := h0
        replace h1 : q = [] := h1
        replace h2 : a id = true := h2
        subst h1
        by_cases ez : z = id
        · subst ez
          simp only [h2, if_true] at hok hact' ⊢
          exact ⟨⟨hok, hact', .inr rfl⟩, .inr ⟨by show p.length + 1 = (p ++ [z]).length; simp, by show 1 + c.length = 0 + c.length + 1; omega⟩⟩
        · have haz : a z = false := by cases e2 : a z; · rfl
                                       · exact absurd (hac z e2) ez
          simp only [haz, Bool.false_eq_true, if_false] at hok hact' ⊢
          have hp : id ∈ p := by
            rcases List.mem_append.1 h0 with g | g
            · exact g
            · exact absurd (List.mem_singleton.1 g).symm ez
          exact ⟨⟨hok, hact', .inl ⟨hp, rfl, (updB_other (fun e3 => ez e3.symm) false).trans h2⟩⟩, .inr ⟨by show p.length + 1 = (p ++ [z]).length; simp, by show 0 + (c.length + 1) = 0 + c.length + 1; omega⟩⟩
      · replace h1 : q = [id] := h1
        subst h1
        have ez : z ≠ id := fun e2 => hno.2.1 (by rw [e2]; simp)
        have haz : a z = false := by cases e2 : a z; · rfl
                                     · exact absurd (hac z e2) ez
        simp only [haz, Bool.false_eq_true, if_false] at hok hact' ⊢
        exact ⟨⟨hok, hact', .inr rfl⟩, .inr ⟨by show p.length + 1 = (p ++ [z]).length; simp, by show 1 + (c.length + 1) = 1 + c.length + 1; omega⟩⟩
    | @warm p q c z a k1 k2 =>
      have hq : (q ++ [z]).length ≤ 1 := by
        rcases hat with ⟨_, h1, _⟩ | h1
        · replace h1 : q ++ [z] = [] := h1; rw [h1]; simp
        · replace h1 : q ++ [z] = [id] := h1; rw [h1]; simp
      have h4' : 11 ≤ p.length + (q ++ [z]).length + c.length := h4
      generalize p.length + (q ++ [z]).length + c.length = N at *
      omega
    | @cold p q c z a k1 k2 k3 =>
      exact absurd (by show id ∈ c ++ [z]; rw [← hac z k3]; simp) hnc
end Go.Proofs.YtenncmjokdacoaaDoor.Sr
