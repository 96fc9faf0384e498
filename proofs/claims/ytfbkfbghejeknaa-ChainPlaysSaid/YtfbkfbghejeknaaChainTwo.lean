/-
  A table and the document's own side by side, beside other blocks; what a call of either leaves. No program is run in it. No conditions.
-/
import Derived.Test.YtfbkfbghejeknaaChainRefStep
import Derived.Test.YtfbkfbghejeknaaChainHas
namespace Go.Proofs.Ytfbkfbghejeknaa
open Go Go.Shelf Go.RowKit Go.Lib

structure Two9 (w0 : World) (P : Nat) (s : Tb) (Q : Nat) (r : Rf) (u : Tb) (G : Nat → Prop) (w : World) : Prop where
  a : HasT w0 P s (fun x => RFt Q r u x ∨ G x) w
  rm : RM Q r u w
  ok : Ok u
  sm : u.sm
  rbase : ∀ x, RFt Q r u x → w0.heap.size ≤ x
  gap : ∀ x, G x → ¬ RFt Q r u x

theorem Two9.left {w0 : World} {P Q : Nat} {s s' u : Tb} {r : Rf} {G : Nat → Prop} {w w' : World} (h : Two9 w0 P s Q r u G w) (g : Go9 P s w s' w') (sm : s'.sm) : Two9 w0 P s' Q r u G w' :=
  ⟨h.a.go g sm, h.rm.only g.only (fun b hb hd => (h.a.apart b (.inl hb)).2 hd), h.ok, h.sm, h.rbase, h.gap⟩
theorem Two9.right {w0 : World} {P Q : Nat} {s u u' : Tb} {r r' : Rf} {G : Nat → Prop} {w w' : World} (h : Two9 w0 P s Q r u G w) (g : RGo Q r u w r' u' w') (ok : Ok u') (sm : u'.sm) : Two9 w0 P s Q r' u' G w' := by
  refine ⟨⟨h.a.tm.only g.only (fun x hx hd => (h.a.apart x (.inl hd)).2 hx), h.a.ok, h.a.sm, h.a.base, h.a.below.trans (g.only.below h.a.below.size h.rbase), fun x hx => ?_⟩, g.rm, ok, sm, fun x hx => (g.foot x hx).elim (h.rbase x) (Nat.le_trans h.a.below.size), fun x hx hf => ?_⟩
  · rcases hx with hx | hx
    · refine ⟨g.rm.lt x hx, fun hf => ?_⟩
      rcases g.foot x hx with e | e
      · exact (h.a.apart x (.inl e)).2 hf
      · exact absurd (h.a.tm.lt x hf) (Nat.not_lt.2 e)
    · exact ⟨Nat.lt_of_lt_of_le (h.a.apart x (.inr hx)).1 g.only.size, (h.a.apart x (.inr hx)).2⟩
  · rcases g.foot x hf with e | e
    · exact h.gap x hx e
    · exact absurd (h.a.apart x (.inr hx)).1 (Nat.not_lt.2 e)
theorem Two9.after {w0 : World} {P Q : Nat} {s u : Tb} {r : Rf} {G : Nat → Prop} {w w' : World} (h : Two9 w0 P s Q r u G w) (hb : Below w.heap.size w w') : Two9 w0 P s Q r u G w' :=
  ⟨h.a.after hb, h.rm.below hb, h.ok, h.sm, h.rbase, h.gap⟩
/-- New blocks in place of those beside. -/
theorem Two9.more {w0 : World} {P Q : Nat} {s u : Tb} {r : Rf} {G G' : Nat → Prop} {w w' : World} (h : Two9 w0 P s Q r u G w) (hb : Below w.heap.size w w') (hG : ∀ x, G' x → w.heap.size ≤ x ∧ x < w'.heap.size) : Two9 w0 P s Q r u G' w' := by
  refine ⟨h.a.more hb (fun x hx => hx.imp .inl (hG x)), h.rm.below hb, h.ok, h.sm, h.rbase, fun x hx hf => ?_⟩
  have := h.rm.lt x hf
  have := (hG x hx).1
  omega
theorem Two9.less {w0 : World} {P Q : Nat} {s u : Tb} {r : Rf} {G : Nat → Prop} {w : World} (h : Two9 w0 P s Q r u G w) : Two9 w0 P s Q r u (fun _ => False) w :=
  h.more (Below.refl _ _) (fun _ hx => hx.elim)
theorem Two9.blkL {w0 : World} {P Q : Nat} {s s' u : Tb} {r : Rf} {G : Nat → Prop} {w w' : World} (h : Two9 w0 P s Q r u G w) (g : Go9 P s w s' w') {b : Nat} {t : TypeId} {cs : List Value} (hB : Blk w b t cs) (hG : G b) : Blk w' b t cs :=
  hB.only g.only (h.a.apart b (.inr hG)).2
theorem Two9.blkR {w0 : World} {P Q : Nat} {s u u' : Tb} {r r' : Rf} {G : Nat → Prop} {w w' : World} (h : Two9 w0 P s Q r u G w) (g : RGo Q r u w r' u' w') {b : Nat} {t : TypeId} {cs : List Value} (hB : Blk w b t cs) (hG : G b) : Blk w' b t cs :=
  hB.only g.only (h.gap b hG)

/-- What a step leaves: both tables stand as one. -/
def St9 (w0 : World) (P Q : Nat) (m : Nat) (w : World) : Prop := ∃ s r, s.cnt ≤ m ∧ Two9 w0 P s Q r s (fun _ => False) w
theorem set_cnt (s : Tb) (b c : Nat) (k : ByteArray) (n : Int) : (s.set b c k n).cnt ≤ s.cnt + 1 := by
  obtain ⟨a1, a2, a3, a4, a5, a6, a7⟩ := add_same s ⟨b, k, n⟩
  unfold Tb.set
  split
  · split
    · exact Nat.le_of_eq a3
    · exact Nat.le_of_eq a3
  · have := (upd_pow s k (setN k n (s.row k))).2.2.1
    omega
theorem del_cnt (s : Tb) (k : ByteArray) : (s.del k).cnt ≤ s.cnt := by
  unfold Tb.del
  split
  · exact Nat.le_refl _
  · show s.cnt - 1 ≤ s.cnt
    omega
theorem step_cnt (s : Tb) : s.step.cnt = s.cnt := by
  by_cases h : s.old = []
  · unfold Tb.step; rw [if_pos h]
  · exact (step_nums h).2.1
end Go.Proofs.Ytfbkfbghejeknaa
