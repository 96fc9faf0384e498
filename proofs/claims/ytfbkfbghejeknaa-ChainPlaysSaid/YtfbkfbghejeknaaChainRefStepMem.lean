/-
  A move of the document's own table, in memory: a bucket is lifted out, its entries are put, the last one closes the old row. No program is run in it. No conditions.
-/
import Derived.Test.YtfbkfbghejeknaaChainRefSee
namespace Go.Proofs.Ytfbkfbghejeknaa
open Go Go.Shelf Go.RowKit Go.Lib

def Rf.lift (r : Rf) (s : Tb) : Rf := { r with ov := r.ov.set s.moved (.slice none 0 0) }
theorem RM.lifted {P : Nat} {r : Rf} {s : Tb} {w : World} (h : RM P r s w) (hne : s.old ≠ []) {v : Value} {l : List En} (hv : r.ov[s.moved]? = some v) (hl : s.old[s.moved]? = some l) :
    RM P (r.lift s) s.lift ((w.setCell ⟨r.O, s.moved, none⟩ (.slice none 0 0)).setCell ⟨P, 2, none⟩ (.int .i64 ((s.moved : Int) + 1))) ∧
    Bkt ((w.setCell ⟨r.O, s.moved, none⟩ (.slice none 0 0)).setCell ⟨P, 2, none⟩ (.int .i64 ((s.moved : Int) + 1))) v l ∧ (∀ b, v.ownBlock = some b → ¬ RFt P (r.lift s) s.lift b) := by
  have hB := h.head
  have hO := h.old hne
  have hOP : r.O ≠ P := hO.ne hB (by decide)
  have ho : Only (fun b => b = r.O ∨ b = P) w ((w.setCell ⟨r.O, s.moved, none⟩ (.slice none 0 0)).setCell ⟨P, 2, none⟩ (.int .i64 ((s.moved : Int) + 1))) :=
    ((Only.refl (fun b => b = r.O ∨ b = P) w).setCell (p := ⟨r.O, s.moved, none⟩) (.inl (.inl rfl)) _).setCell (p := ⟨P, 2, none⟩) (.inl (.inr rfl)) _
  have hvl : s.moved < r.ov.length := (List.getElem?_eq_some_iff.1 hv).1
  have hat : (r.ov ++ r.nv)[s.moved]? = some v := by rw [List.getElem?_append_left hvl]; exact hv
  have hK := h.ob.2 _ v l hv hl
  have hvin : v ∈ r.ov := List.mem_of_getElem? hv
  have hall : (r.lift s).ov ++ (r.lift s).nv = (r.ov ++ r.nv).set s.moved (.slice none 0 0) := by
    unfold Rf.lift
    rw [List.set_append_left _ _ hvl]
  have hstay : ∀ {u : Value} {q : List En}, Bkt w u q → (∀ b, u.ownBlock = some b → b ≠ r.O ∧ b ≠ P) → Bkt ((w.setCell ⟨r.O, s.moved, none⟩ (.slice none 0 0)).setCell ⟨P, 2, none⟩ (.int .i64 ((s.moved : Int) + 1))) u q := fun {u q} hq hu =>
    hq.only ho (fun b hb hd => hd.elim (hu b hb).1 (hu b hb).2)
  refine ⟨⟨?_, ?_, fun _ => ?_, ?_, ⟨?_, fun i u q hu hq => ?_⟩, ?_, fun _ => h.apart hne⟩, hstay hK (fun b hb => ⟨hK.ne hO (by decide) b hb, hK.ne hB (by decide) b hb⟩), fun b hb hf => ?_⟩
  · have h1 := (hB.setOther (p := ⟨r.O, s.moved, none⟩) (fun e => hOP e.symm) (.slice none 0 0)).set 2 (.int .i64 ((s.moved : Int) + 1))
    have he : rhead (r.lift s) s.lift = (rhead r s).set 2 (.int .i64 ((s.moved : Int) + 1)) := by
      unfold rhead
      rw [show slv (r.lift s).O (r.lift s).ov = slv r.O r.ov from slv_same (by unfold Rf.lift; simp)]
      rw [show decide (s.lift.old ≠ []) = decide (s.old ≠ []) from decide_eq_decide.2 (not_congr set_ne_nil)]
      rfl
    rw [he]; exact h1
  · exact h.new.only ho (fun e1 => e1.elim (fun e2 => h.apart hne e2) (fun e2 => h.new.ne hB (by decide) e2))
  · exact (hO.set s.moved (.slice none 0 0)).setOther (p := ⟨P, 2, none⟩) hOP (.int .i64 ((s.moved : Int) + 1))
  · exact h.nb.only ho (fun u hu b hb hd => hd.elim (h.nb.ne hu hO (by decide) b hb) (h.nb.ne hu hB (by decide) b hb))
  · show (r.ov.set _ _).length = (s.old.set _ _).length
    rw [List.length_set, List.length_set, h.ob.1]
  · have hu' : (r.ov.set s.moved (.slice none 0 0))[i]? = some u := hu
    have hq' : (s.old.set s.moved [])[i]? = some q := hq
    rw [List.getElem?_set] at hu' hq'
    by_cases e1 : s.moved = i
    · rw [if_pos e1, if_pos hvl] at hu'
      rw [if_pos e1, if_pos (by rw [← h.ob.1]; exact hvl)] at hq'
      cases hu'; cases hq'; exact Bkt.nil _
    · rw [if_neg e1] at hu' hq'
      exact hstay (h.ob.2 i u q hu' hq') (fun b hb => ⟨h.ob.ne (List.mem_of_getElem? hu') hO (by decide) b hb, h.ob.ne (List.mem_of_getElem? hu') hB (by decide) b hb⟩)
  · rw [hall]
    exact nd_set hat h.nd (fun b hb => by simp [Value.ownBlock] at hb)
  · rcases hf with e1 | e1 | ⟨_, e1⟩ | ⟨u, hu, e1⟩
    · exact hK.ne hB (by decide) b hb e1
    · exact hK.ne h.new (by decide) b hb e1
    · exact hK.ne hO (by decide) b hb e1
    · rw [hall] at hu
      obtain ⟨j, hj⟩ := List.mem_iff_getElem?.1 hu
      rw [List.getElem?_set] at hj
      by_cases e2 : s.moved = j
      · rw [if_pos e2, if_pos (by rw [List.length_append]; omega)] at hj
        cases hj
        simp [Value.ownBlock] at e1
      · rw [if_neg e2] at hj
        exact nd_ne h.nd hat hj e2 hb e1
theorem rlift_ft {P : Nat} {r : Rf} {s : Tb} {x : Nat} (hne : s.old ≠ []) (h : RFt P (r.lift s) s.lift x) : RFt P r s x := by
  rcases h with h | h | ⟨h1, h2⟩ | ⟨u, hu, hb⟩
  · exact .inl h
  · exact .inr (.inl h)
  · exact .inr (.inr (.inl ⟨hne, h2⟩))
  · rcases List.mem_append.1 hu with hu | hu
    · rcases mem_set_sub hu with rfl | hu
      · simp [Value.ownBlock] at hb
      · exact .inr (.inr (.inr ⟨u, List.mem_append_left _ hu, hb⟩))
    · exact .inr (.inr (.inr ⟨u, List.mem_append_right _ hu, hb⟩))
/-- The last bucket is moved. -/
theorem RM.closed {P : Nat} {r : Rf} {s : Tb} {w : World} (h : RM P r s w) :
    RM P { r with ov := [] } { s with old := [] } ((w.setCell ⟨P, 1, none⟩ (.bool false)).setCell ⟨P, 3, none⟩ (.slice none 0 0)) := by
  have ho : Only (fun b => b = P) w ((w.setCell ⟨P, 1, none⟩ (.bool false)).setCell ⟨P, 3, none⟩ (.slice none 0 0)) :=
    ((Only.refl (fun b => b = P) w).setCell (p := ⟨P, 1, none⟩) (.inl rfl) _).setCell (p := ⟨P, 3, none⟩) (.inl rfl) _
  refine ⟨?_, h.new.only ho (h.new.ne h.head (by decide)), fun e => (e rfl).elim, h.nb.only ho (fun u hu b hb => h.nb.ne hu h.head (by decide) b hb), ⟨rfl, fun i u q hu => by cases hu⟩, ?_, fun e => (e rfl).elim⟩
  · have h1 := (h.head.set 1 (.bool false)).set 3 (.slice none 0 0)
    have he : rhead { r with ov := [] } { s with old := [] } = ((rhead r s).set 1 (.bool false)).set 3 (.slice none 0 0) := by
      unfold rhead; rw [slv_nil]; rfl
    rw [he]; exact h1
  · have := h.nd
    rw [List.filterMap_append] at this
    rw [List.nil_append]
    exact (List.nodup_append.1 this).2.1
theorem rclosed_ft {P : Nat} {r : Rf} {s : Tb} {x : Nat} (h : RFt P { r with ov := [] } { s with old := [] } x) : RFt P r s x := by
  rcases h with h | h | ⟨h1, h2⟩ | ⟨u, hu, hb⟩
  · exact .inl h
  · exact .inr (.inl h)
  · exact (h1 rfl).elim
  · exact .inr (.inr (.inr ⟨u, List.mem_append_right _ hu, hb⟩))

/-- In the midst of a move. -/
structure RMv (P : Nat) (r0 : Rf) (s0 : Tb) (w0 : World) (v : Value) (l : List En) (r : Rf) (s : Tb) (w : World) : Prop where
  rm : RM P r s w
  bk : Bkt w v l
  ap : ∀ b, v.ownBlock = some b → ¬ RFt P r s b
  only : Only (RFt P r0 s0) w0 w
  foot : ∀ x, RFt P r s x → RFt P r0 s0 x ∨ w0.heap.size ≤ x
theorem RMv.go {P : Nat} {r0 r r' : Rf} {s0 s s' : Tb} {w0 w w' : World} {v : Value} {l : List En} (h : RMv P r0 s0 w0 v l r s w) (g : RGo P r s w r' s' w') : RMv P r0 s0 w0 v l r' s' w' :=
  ⟨g.rm, h.bk.only g.only h.ap, fun b hb hf => (g.foot b hf).elim (h.ap b hb) (fun e => by have := h.bk.lt b hb; omega), h.only.trans g.only h.foot,
    fun x hx => (g.foot x hx).elim (h.foot x) (fun e => .inr (Nat.le_trans h.only.size e))⟩
theorem RMv.below {P : Nat} {r0 r : Rf} {s0 s : Tb} {w0 w w' : World} {v : Value} {l : List En} (h : RMv P r0 s0 w0 v l r s w) (b : Below w.heap.size w w') : RMv P r0 s0 w0 v l r s w' :=
  h.go ⟨h.rm.below b, Below.only b, fun _ hx => .inl hx⟩
/-- Its entries stand in new buckets from now on. -/
theorem Mid.moved_in {s : Tb} (o : Ok s) (hne : s.old ≠ []) {l : List En} (hl : s.old[s.moved]? = some l) {e : En} (he : e ∈ l) (j : Nat) : (s.lift.puts (l.take j)).inOld e.k = false := by
  have h1 : s.rows[s.moved]? = some l := by have := o.lift_row hne; rw [hl] at this; exact this
  have h2 := o.mid.home _ _ h1 e he
  obtain ⟨p1, p2, _, _, _, _, p7⟩ := puts_same s.lift (l.take j)
  refine Bool.eq_false_iff.2 (fun hi => ?_)
  have h3 := (inOld_iff.1 hi).2
  rw [p1, p2] at h3
  have h4 : s.moved + 1 ≤ hb e.k (s.pow - 1) := h3
  unfold Tb.hi at h2
  have := o.mvlt hne
  split at h2 <;> omega
end Go.Proofs.Ytfbkfbghejeknaa
