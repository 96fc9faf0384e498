/-
  One object of the call's own, or two side by side, whatever they are, beside other blocks of its own. No conditions but those of the calls.
-/
import Derived.Test.YtkhmgigllcgpnaaM3
namespace Go.Proofs.Ytkhmgigllcgpnaa
open Go Go.RowKit Go.Lib

/-- A notion of an object: its blocks are there, and it stays where they are not turned. -/
structure Ob (A : (Nat → Prop) → World → Prop) : Prop where
  lt : ∀ {F : Nat → Prop} {w : World} {b : Nat}, A F w → F b → b < w.heap.size
  only : ∀ {F D : Nat → Prop} {w w' : World}, A F w → Only D w w' → (∀ b, F b → ¬ D b) → A F w'
theorem Ob.below {A : (Nat → Prop) → World → Prop} (o : Ob A) {F : Nat → Prop} {w w' : World} (h : A F w) (hb : Below w.heap.size w w') : A F w' := o.only (D := fun _ => False) h (Below.only hb) (fun _ _ => id)

/-! One -/
/-- An object of the call's own (the call's world began as w0), beside blocks H of its own. -/
structure HasO (w0 : World) (A : (Nat → Prop) → World → Prop) (H : Nat → Prop) (w : World) : Prop where
  ob : Ob A
  at_ : ∃ F, A F w ∧ (∀ b, F b → w0.heap.size ≤ b) ∧ ∀ x, H x → ¬ F x
  below : Below w0.heap.size w0 w
  lt : ∀ x, H x → x < w.heap.size
section
variable {w0 : World} {A A' : (Nat → Prop) → World → Prop} {H H' : Nat → Prop} {w w' : World}
theorem HasO.new (o : Ob A) (h : ∃ F, A F w' ∧ Below w.heap.size w w' ∧ ∀ b, F b → w.heap.size ≤ b) : HasO w A (fun _ => False) w' := by
  obtain ⟨F, h1, h2, h3⟩ := h
  exact ⟨o, ⟨F, h1, h3, fun _ hx => hx.elim⟩, h2, fun _ hx => hx.elim⟩
theorem HasO.after (h : HasO w0 A H w) (hb : Below w.heap.size w w') : HasO w0 A H w' := by
  obtain ⟨o, ⟨F, h1, h2, h3⟩, h4, h5⟩ := h
  exact ⟨o, ⟨F, o.below h1 hb, h2, h3⟩, h4.trans (hb.mono h4.size), fun x hx => Nat.lt_of_lt_of_le (h5 x hx) hb.size⟩
/-- More blocks of the call's own beside. -/
theorem HasO.more (h : HasO w0 A H w) (hb : Below w.heap.size w w') (hH : ∀ x, H' x → H x ∨ (w.heap.size ≤ x ∧ x < w'.heap.size)) : HasO w0 A H' w' := by
  obtain ⟨o, ⟨F, h1, h2, h3⟩, h4, h5⟩ := h
  exact ⟨o, ⟨F, o.below h1 hb, h2, fun x hx hf => (hH x hx).elim (fun g => h3 x g hf) (fun g => absurd (o.lt h1 hf) (Nat.not_lt.2 g.1))⟩, h4.trans (hb.mono h4.size), fun x hx => (hH x hx).elim (fun g => Nat.lt_of_lt_of_le (h5 x g) hb.size) (fun g => g.2)⟩
/-- Blocks of those beside are written, and new ones made. -/
theorem HasO.turn (h : HasO w0 A H w) (ho : Only H w w') (hH : ∀ x, H x → w0.heap.size ≤ x) (hH' : ∀ x, H' x → (H x ∨ w.heap.size ≤ x) ∧ x < w'.heap.size) : HasO w0 A H' w' := by
  obtain ⟨o, ⟨F, h1, h2, h3⟩, h4, h5⟩ := h
  exact ⟨o, ⟨F, o.only h1 ho (fun b hb hg => h3 b hg hb), h2, fun x hx hf => (hH' x hx).1.elim (fun g => h3 x g hf) (fun g => absurd (o.lt h1 hf) (Nat.not_lt.2 g))⟩, h4.trans (ho.below h4.size hH), fun x hx => (hH' x hx).2⟩
/-- A call that turns the object. -/
theorem HasO.call (h : HasO w0 A H w) (o' : Ob A') {P : Program} {f : FuncId} {args : Array Value} {R : Ending → Prop} (hc : ∀ F, A F w → Calls P f args w fun e w' => R e ∧ ∃ F', A' F' w' ∧ Stp F F' w w') :
    Calls P f args w fun e w' => R e ∧ HasO w0 A' H w' ∧ ∃ D, Only D w w' ∧ ∀ x, H x → ¬ D x := by
  obtain ⟨o, ⟨F, h1, h2, h3⟩, h4, h5⟩ := h
  refine (hc F h1).mono ?_
  rintro e w' ⟨he, F', k1, k2⟩
  exact ⟨he, ⟨o', ⟨F', k1, fun b hb => (k2.foot b hb).elim (h2 b) (Nat.le_trans h4.size), fun x hx hf => (k2.foot x hf).elim (h3 x hx) (fun e => absurd (h5 x hx) (Nat.not_lt.2 e))⟩, h4.trans (k2.only.below h4.size h2), fun x hx => Nat.lt_of_lt_of_le (h5 x hx) k2.only.size⟩, F, k2.only, h3⟩
/-- A call that only looks. -/
theorem HasO.look (h : HasO w0 A H w) {P : Program} {f : FuncId} {args : Array Value} {R : Ending → World → Prop} (hc : ∀ F, A F w → Calls P f args w R) : Calls P f args w R := by
  obtain ⟨_, ⟨F, h1, _⟩, _⟩ := h
  exact hc F h1
end

/-! Two side by side -/
structure TwoO (w0 : World) (A B : (Nat → Prop) → World → Prop) (H : Nat → Prop) (w : World) : Prop where
  obA : Ob A
  obB : Ob B
  at_ : ∃ F G, A F w ∧ B G w ∧ (∀ b, F b → w0.heap.size ≤ b) ∧ (∀ b, G b → w0.heap.size ≤ b) ∧ (∀ b, F b → ¬ G b) ∧ ∀ x, H x → ¬ F x ∧ ¬ G x
  below : Below w0.heap.size w0 w
  lt : ∀ x, H x → x < w.heap.size
section
variable {w0 : World} {A A' B B' : (Nat → Prop) → World → Prop} {H H' : Nat → Prop} {w w' : World}
theorem TwoO.new {w1 w2 : World} (oA : Ob A) (oB : Ob B) (hA : ∃ F, A F w1 ∧ Below w0.heap.size w0 w1 ∧ ∀ b, F b → w0.heap.size ≤ b) (hB : ∃ G, B G w2 ∧ Below w1.heap.size w1 w2 ∧ ∀ b, G b → w1.heap.size ≤ b) : TwoO w0 A B (fun _ => False) w2 := by
  obtain ⟨F, h1, b1, f1⟩ := hA
  obtain ⟨G, h2, b2, f2⟩ := hB
  exact ⟨oA, oB, ⟨F, G, oA.below h1 b2, h2, f1, fun b hb => Nat.le_trans b1.size (f2 b hb), fun b hb hg => absurd (oA.lt h1 hb) (Nat.not_lt.2 (f2 b hg)), fun _ hx => hx.elim⟩, b1.trans (b2.mono b1.size), fun _ hx => hx.elim⟩
theorem TwoO.after (h : TwoO w0 A B H w) (hb : Below w.heap.size w w') : TwoO w0 A B H w' := by
  obtain ⟨oA, oB, ⟨F, G, h1, h2, h3, h4, h5, h6⟩, h7, h8⟩ := h
  exact ⟨oA, oB, ⟨F, G, oA.below h1 hb, oB.below h2 hb, h3, h4, h5, h6⟩, h7.trans (hb.mono h7.size), fun x hx => Nat.lt_of_lt_of_le (h8 x hx) hb.size⟩
theorem TwoO.more (h : TwoO w0 A B H w) (hb : Below w.heap.size w w') (hH : ∀ x, H' x → H x ∨ (w.heap.size ≤ x ∧ x < w'.heap.size)) : TwoO w0 A B H' w' := by
  obtain ⟨oA, oB, ⟨F, G, h1, h2, h3, h4, h5, h6⟩, h7, h8⟩ := h
  refine ⟨oA, oB, ⟨F, G, oA.below h1 hb, oB.below h2 hb, h3, h4, h5, fun x hx => ?_⟩, h7.trans (hb.mono h7.size), fun x hx => (hH x hx).elim (fun g => Nat.lt_of_lt_of_le (h8 x g) hb.size) (fun g => g.2)⟩
  rcases hH x hx with g | g
  · exact h6 x g
  · exact ⟨fun hf => absurd (oA.lt h1 hf) (Nat.not_lt.2 g.1), fun hf => absurd (oB.lt h2 hf) (Nat.not_lt.2 g.1)⟩
theorem TwoO.turn (h : TwoO w0 A B H w) (ho : Only H w w') (hH : ∀ x, H x → w0.heap.size ≤ x) : TwoO w0 A B H w' := by
  obtain ⟨oA, oB, ⟨F, G, h1, h2, h3, h4, h5, h6⟩, h7, h8⟩ := h
  exact ⟨oA, oB, ⟨F, G, oA.only h1 ho (fun b hb hg => (h6 b hg).1 hb), oB.only h2 ho (fun b hb hg => (h6 b hg).2 hb), h3, h4, h5, h6⟩, h7.trans (ho.below h7.size hH), fun x hx => Nat.lt_of_lt_of_le (h8 x hx) ho.size⟩
/-- A call that turns the first one. -/
theorem TwoO.left (h : TwoO w0 A B H w) (o' : Ob A') {P : Program} {f : FuncId} {args : Array Value} {R : Ending → Prop} (hc : ∀ F, A F w → Calls P f args w fun e w' => R e ∧ ∃ F', A' F' w' ∧ Stp F F' w w') :
    Calls P f args w fun e w' => R e ∧ TwoO w0 A' B H w' ∧ ∃ D, Only D w w' ∧ ∀ x, H x → ¬ D x := by
  obtain ⟨oA, oB, ⟨F, G, h1, h2, h3, h4, h5, h6⟩, h7, h8⟩ := h
  refine (hc F h1).mono ?_
  rintro e w' ⟨he, F', k1, k2⟩
  exact ⟨he, ⟨o', oB, ⟨F', G, k1, oB.only h2 k2.only (fun b hb hf => h5 b hf hb), fun b hb => (k2.foot b hb).elim (h3 b) (Nat.le_trans h7.size), h4, fun b hb hq => (k2.foot b hb).elim (fun e => h5 b e hq) (fun e => absurd (oB.lt h2 hq) (Nat.not_lt.2 e)), fun b hb => ⟨fun hf => (k2.foot b hf).elim (h6 b hb).1 (fun e => absurd (h8 b hb) (Nat.not_lt.2 e)), (h6 b hb).2⟩⟩,
    h7.trans (k2.only.below h7.size h3), fun x hx => Nat.lt_of_lt_of_le (h8 x hx) k2.only.size⟩, F, k2.only, fun x hx => (h6 x hx).1⟩
/-- A call that turns the second one. -/
theorem TwoO.right (h : TwoO w0 A B H w) (o' : Ob B') {P : Program} {f : FuncId} {args : Array Value} {R : Ending → Prop} (hc : ∀ G, B G w → Calls P f args w fun e w' => R e ∧ ∃ G', B' G' w' ∧ Stp G G' w w') :
    Calls P f args w fun e w' => R e ∧ TwoO w0 A B' H w' ∧ ∃ D, Only D w w' ∧ ∀ x, H x → ¬ D x := by
  obtain ⟨oA, oB, ⟨F, G, h1, h2, h3, h4, h5, h6⟩, h7, h8⟩ := h
  refine (hc G h2).mono ?_
  rintro e w' ⟨he, G', k1, k2⟩
  exact ⟨he, ⟨oA, o', ⟨F, G', oA.only h1 k2.only (fun b hb hf => h5 b hb hf), k1, h3, fun b hb => (k2.foot b hb).elim (h4 b) (Nat.le_trans h7.size), fun b hb hq => (k2.foot b hq).elim (h5 b hb) (fun e => absurd (oA.lt h1 hb) (Nat.not_lt.2 e)), fun b hb => ⟨(h6 b hb).1, fun hf => (k2.foot b hf).elim (h6 b hb).2 (fun e => absurd (h8 b hb) (Nat.not_lt.2 e))⟩⟩,
    h7.trans (k2.only.below h7.size h4), fun x hx => Nat.lt_of_lt_of_le (h8 x hx) k2.only.size⟩, G, k2.only, fun x hx => (h6 x hx).2⟩
theorem TwoO.lookL (h : TwoO w0 A B H w) {P : Program} {f : FuncId} {args : Array Value} {R : Ending → World → Prop} (hc : ∀ F, A F w → Calls P f args w R) : Calls P f args w R := by
  obtain ⟨_, _, ⟨F, G, h1, _⟩, _⟩ := h
  exact hc F h1
theorem TwoO.lookR (h : TwoO w0 A B H w) {P : Program} {f : FuncId} {args : Array Value} {R : Ending → World → Prop} (hc : ∀ G, B G w → Calls P f args w R) : Calls P f args w R := by
  obtain ⟨_, _, ⟨F, G, _, h2, _⟩, _⟩ := h
  exact hc G h2
end
end Go.Proofs.Ytkhmgigllcgpnaa
