/-
  Objects that are made of parts that lie apart; the document's rows as a part whose blocks are hidden. No conditions but those of the calls.
  Plain mathematics of a ghost: its numbers in a row, the oldest first, none twice; what Remove, Add and Limit make of them. No program in it. No conditions.
-/
import Derived.Test.YtkhmgigllcgpnaaRowsTwo
import Derived.Test.YtkhmgigllcgpnaaArenaBase
namespace Go.Proofs.Ytkhmgigllcgpnaa
open Go Go.RowKit Go.Lib

/-! Parts -/
/-- The parts' blocks lie apart, among those that are there. -/
structure Dj (F : Nat → Nat → Prop) (w : World) : Prop where
  one : ∀ i j b, F i b → F j b → i = j
  lt : ∀ i b, F i b → b < w.heap.size
def setF (F : Nat → Nat → Prop) (k : Nat) (X : Nat → Prop) : Nat → Nat → Prop := fun i => if i = k then X else F i
theorem setF_same (F : Nat → Nat → Prop) (k : Nat) (X : Nat → Prop) : setF F k X k = X := if_pos rfl
theorem setF_other {F : Nat → Nat → Prop} {i k : Nat} (h : i ≠ k) (X : Nat → Prop) : setF F k X i = F i := if_neg h
/-- All of them. -/
def allF (F : Nat → Nat → Prop) (b : Nat) : Prop := ∃ i, F i b
theorem Dj.step {F : Nat → Nat → Prop} {k : Nat} {X : Nat → Prop} {w w' : World} (h : Dj F w) (g : Stp (F k) X w w') (hX : ∀ b, X b → b < w'.heap.size) : Dj (setF F k X) w' := by
  have hno : ∀ i b, i ≠ k → F i b → ¬ X b := fun i b hi hf hx => (g.foot b hx).elim (fun e => hi (h.one i k b hf e)) (fun e => absurd (h.lt i b hf) (Nat.not_lt.2 e))
  refine ⟨fun i j b hi hj => ?_, fun i b hi => ?_⟩
  · by_cases ei : i = k
    · by_cases ej : j = k
      · rw [ei, ej]
      · rw [ei, setF_same] at hi; rw [setF_other ej] at hj; exact absurd hi (hno j b ej hj)
    · rw [setF_other ei] at hi
      by_cases ej : j = k
      · rw [ej, setF_same] at hj; exact absurd hj (hno i b ei hi)
      · rw [setF_other ej] at hj; exact h.one i j b hi hj
  · by_cases ei : i = k
    · rw [ei, setF_same] at hi; exact hX b hi
    · rw [setF_other ei] at hi; exact Nat.lt_of_lt_of_le (h.lt i b hi) g.only.size
theorem Dj.keep {F : Nat → Nat → Prop} {w w' : World} (h : Dj F w) (hs : w.heap.size ≤ w'.heap.size) : Dj F w' := ⟨h.one, fun i b hb => Nat.lt_of_lt_of_le (h.lt i b hb) hs⟩
theorem Dj.out {F : Nat → Nat → Prop} {w : World} (h : Dj F w) {i k : Nat} (hi : i ≠ k) : ∀ b, F i b → ¬ F k b := fun b h1 h2 => hi (h.one i k b h1 h2)
theorem Stp.part {F : Nat → Nat → Prop} {k : Nat} {X : Nat → Prop} {w w' : World} (g : Stp (F k) X w w') : Stp (allF F) (allF (setF F k X)) w w' :=
  ⟨g.only.mono (fun _ hb => ⟨k, hb⟩), fun b ⟨i, hb⟩ => by
    by_cases ei : i = k
    · rw [ei, setF_same] at hb; exact (g.foot b hb).imp (fun e => ⟨k, e⟩) id
    · rw [setF_other ei] at hb; exact .inl ⟨i, hb⟩⟩
theorem Stp.trans {F F1 F2 : Nat → Prop} {w w1 w2 : World} (h : Stp F F1 w w1) (k : Stp F1 F2 w1 w2) : Stp F F2 w w2 :=
  ⟨h.only.trans k.only h.foot, fun b hb => (k.foot b hb).elim (h.foot b) (fun e => .inr (Nat.le_trans h.only.size e))⟩
theorem Stp.refl (F : Nat → Prop) (w : World) : Stp F F w w := ⟨Only.refl _ _, fun _ hb => .inl hb⟩
theorem Stp.below {F : Nat → Prop} {w w' : World} (h : Below w.heap.size w w') : Stp F F w w' := ⟨Below.only h, fun _ hb => .inl hb⟩

/-! The document's rows, blocks hidden -/
def RQ (Q : Nat) (F : Nat → Prop) (L : List (List Int)) (w : World) : Prop := ∃ R vs, QM Q R vs L w ∧ ∀ b, F b ↔ QF Q R vs b
theorem RQ.good {Q : Nat} {F : Nat → Prop} {L : List (List Int)} {w : World} (h : RQ Q F L w) : GoodL L := by obtain ⟨R, vs, h, _⟩ := h; exact h.good
theorem RQ.lt {Q : Nat} {F : Nat → Prop} {L : List (List Int)} {w : World} (h : RQ Q F L w) {b : Nat} (hb : F b) : b < w.heap.size := by obtain ⟨R, vs, h, e⟩ := h; exact h.lt ((e b).1 hb)
theorem RQ.only {Q : Nat} {F D : Nat → Prop} {L : List (List Int)} {w w' : World} (h : RQ Q F L w) (ho : Only D w w') (hd : ∀ b, F b → ¬ D b) : RQ Q F L w' := by
  obtain ⟨R, vs, h, e⟩ := h
  exact ⟨R, vs, h.only ho (fun b hb => hd b ((e b).2 hb)), e⟩
theorem RQ.below {Q : Nat} {F : Nat → Prop} {L : List (List Int)} {w w' : World} (h : RQ Q F L w) (hb : Below w.heap.size w w') : RQ Q F L w' := h.only (D := fun _ => False) (Below.only hb) (fun _ _ => id)
theorem rq_go {Q R : Nat} {vs vs' : List Value} {F : Nat → Prop} {L' : List (List Int)} {w w' : World} (e : ∀ b, F b ↔ QF Q R vs b) (g : QGo Q R vs w vs' L' w') : RQ Q (QF Q R vs') L' w' ∧ Stp F (QF Q R vs') w w' :=
  ⟨⟨R, vs', g.qm, fun _ => Iff.rfl⟩, ⟨g.only.mono (fun b hb => (e b).2 hb), fun b hb => (g.foot b hb).imp (e b).2 id⟩⟩
theorem rq_front {Q : Nat} {F : Nat → Prop} {L : List (List Int)} {w : World} (h : RQ Q F L w) (r z : Int) :
    Calls Try.prog 47 #[.pointer (some ⟨Q, 0, none⟩), .int .i64 r, .int .i64 z] w fun e w' => e = .returned (.bool (decide (May L.length r z))) ∧ ∃ F', RQ Q F' (opFront L r z) w' ∧ Stp F F' w w' := by
  obtain ⟨R, vs, h, e⟩ := h
  refine (qfront_any h r z).mono ?_
  rintro x w' ⟨hx, vs', g⟩
  exact ⟨hx, _, rq_go e g⟩
theorem rq_take {Q : Nat} {F : Nat → Prop} {L : List (List Int)} {w : World} (h : RQ Q F L w) (z : Int) :
    Calls Try.prog 49 #[.pointer (some ⟨Q, 0, none⟩), .int .i64 z] w fun e w' => e = .returned (.bool (rowOf L z).isSome) ∧ ∃ F', RQ Q F' (takeL L z) w' ∧ Stp F F' w w' := by
  obtain ⟨R, vs, h, e⟩ := h
  refine (qtake_any h z).mono ?_
  rintro x w' ⟨hx, vs', g⟩
  exact ⟨hx, _, rq_go e g⟩
theorem rq_row {Q : Nat} {F : Nat → Prop} {L : List (List Int)} {w : World} (h : RQ Q F L w) (z : Int) :
    Calls Try.prog 50 #[.pointer (some ⟨Q, 0, none⟩), .int .i64 z] w fun e w' => e = .returned (.int .i64 (rv (rowOf L z))) ∧ w = w' := by obtain ⟨R, vs, h, _⟩ := h; exact qrow_any h z
theorem rq_last {Q : Nat} {F : Nat → Prop} {L : List (List Int)} {w : World} (h : RQ Q F L w) (r : Int) :
    Calls Try.prog 54 #[.pointer (some ⟨Q, 0, none⟩), .int .i64 r] w fun e w' => e = .returned (.int .i64 (lastOf (rowAt L r))) ∧ w = w' := by obtain ⟨R, vs, h, _⟩ := h; exact qlast_any h r
theorem rq_len {Q : Nat} {F : Nat → Prop} {L : List (List Int)} {w : World} (h : RQ Q F L w) (r : Int) :
    Calls Try.prog 53 #[.pointer (some ⟨Q, 0, none⟩), .int .i64 r] w fun e w' => e = .returned (.int .i64 (rowAt L r).length) ∧ w = w' := by obtain ⟨R, vs, h, _⟩ := h; exact qlen_any h r
theorem rq_all {Q : Nat} {F : Nat → Prop} {L : List (List Int)} {w : World} (h : RQ Q F L w) (r : Int) :
    Calls Try.prog 18 #[.pointer (some ⟨Q, 0, none⟩), .int .i64 r] w fun e w' => ∃ v, e = .returned v ∧ w.ownsRow 0 3 1 v (rowAt L r).length (ic (rowAt L r)) ∧ w = w' := by obtain ⟨R, vs, h, _⟩ := h; exact qall_any h r
theorem rq_new (n : Nat) (h1 : 1 ≤ n) (h2 : n ≤ 8) (w : World) : Calls Try.prog 26 #[.int .i64 n] w fun e w' => ∃ Q F, e = .returned (.pointer (some ⟨Q, 0, none⟩)) ∧ RQ Q F (List.replicate n []) w' ∧ Below w.heap.size w w' ∧ ∀ b, F b → w.heap.size ≤ b :=
  (qnew_any n h1 h2 w).mono fun _ _ ⟨Q, R, vs, he, k1, k2, k3⟩ => ⟨Q, _, he, ⟨R, vs, k1, fun _ => Iff.rfl⟩, k2, k3⟩

end Go.Proofs.Ytkhmgigllcgpnaa
namespace Go.Proofs.Ytkhmgigllcgpnaa.Gh
open Go

/-- The numbers without z. -/
def rmL (l : List Int) (z : Int) : List Int := l.filter (fun x => decide (x ≠ z))
/-- The newest m of them. -/
def cutL (m : Nat) (l : List Int) : List Int := l.drop (l.length - m)
/-- z comes as the newest. -/
def addL (m : Nat) (l : List Int) (z : Int) : List Int := cutL m (rmL l z ++ [z])
theorem rm_mem {l : List Int} {z x : Int} : x ∈ rmL l z ↔ x ∈ l ∧ x ≠ z := by unfold rmL; rw [List.mem_filter]; simp
theorem rm_no {l : List Int} {z : Int} (h : z ∉ l) : rmL l z = l := by
  unfold rmL
  rw [List.filter_eq_self]
  intro x hx
  have : x ≠ z := fun e => h (e ▸ hx)
  simp [this]
theorem rm_not (l : List Int) (z : Int) : z ∉ rmL l z := fun h => (rm_mem.1 h).2 rfl
theorem rm_split {a b : List Int} {z : Int} (h : (a ++ z :: b).Nodup) : rmL (a ++ z :: b) z = a ++ b := by
  rw [List.nodup_append, List.nodup_cons] at h
  obtain ⟨_, ⟨h2, _⟩, h3⟩ := h
  have ea : rmL a z = a := rm_no (fun hm => h3 z hm z (List.mem_cons_self ..) rfl)
  have eb : rmL b z = b := rm_no h2
  unfold rmL at ea eb ⊢
  rw [List.filter_append, List.filter_cons, ea, eb]
  simp
theorem rm_sub (l : List Int) (z : Int) : (rmL l z).Sublist l := List.filter_sublist
theorem rm_nodup {l : List Int} (h : l.Nodup) (z : Int) : (rmL l z).Nodup := (rm_sub l z).nodup h
theorem rm_len (l : List Int) (z : Int) : (rmL l z).length ≤ l.length := (rm_sub l z).length_le
theorem cut_le (m : Nat) (l : List Int) : (cutL m l).length ≤ m := by unfold cutL; rw [List.length_drop]; omega
theorem cut_len (m : Nat) (l : List Int) : (cutL m l).length = min l.length m := by unfold cutL; rw [List.length_drop]; omega
theorem cut_all {m : Nat} {l : List Int} (h : l.length ≤ m) : cutL m l = l := by unfold cutL; rw [show l.length - m = 0 by omega]; rfl
theorem cut_step {m : Nat} {x : Int} {t : List Int} (h : m < (x :: t).length) : cutL m (x :: t) = cutL m t := by
  unfold cutL
  rw [List.length_cons] at h ⊢
  rw [show t.length + 1 - m = (t.length - m) + 1 by omega]
  rfl
theorem cut_nodup {l : List Int} (h : l.Nodup) (m : Nat) : (cutL m l).Nodup := (List.drop_sublist _ _).nodup h
theorem snoc_nodup {l : List Int} (h : l.Nodup) {z : Int} (hz : z ∉ l) : (l ++ [z]).Nodup := by
  rw [List.nodup_append]
  exact ⟨h, by simp, fun a ha b hb e => hz (by rw [List.mem_singleton.1 hb] at e; exact e ▸ ha)⟩
theorem add_nodup {l : List Int} (h : l.Nodup) (m : Nat) (z : Int) : (addL m l z).Nodup := cut_nodup (snoc_nodup (rm_nodup h z) (rm_not l z)) m
theorem add_len (m : Nat) (l : List Int) (z : Int) : (addL m l z).length ≤ l.length + 1 := by
  have h1 := cut_len m (rmL l z ++ [z])
  have h2 := rm_len l z
  rw [List.length_append, List.length_singleton] at h1
  show (cutL m (rmL l z ++ [z])).length ≤ _
  omega
end Go.Proofs.Ytkhmgigllcgpnaa.Gh
