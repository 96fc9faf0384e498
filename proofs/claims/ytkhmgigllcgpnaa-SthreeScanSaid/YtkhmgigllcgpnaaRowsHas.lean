/-
  Rows as an object whose blocks are hidden; rows of the call's own, beside other blocks of its own. No conditions but those of the calls.
-/
import Derived.Test.YtkhmgigllcgpnaaRowsNew
namespace Go.Proofs.Ytkhmgigllcgpnaa
open Go Go.RowKit Go.Lib

theorem row_pos {w : World} {base : Nat} {e : TypeId} {size : Nat} {v : Value} {n : Nat} {xs : List Value} (h : w.ownsRow base e size v n xs) (hn : 0 < n) : ∃ g cap, v = .slice (some ⟨g, 0, none⟩) n cap ∧ n ≤ cap ∧ base ≤ g ∧ g < w.heap.size := by
  rcases h.2 with ⟨_, h0⟩ | ⟨g, cap, cur, rfl, hb, hg, hc, _⟩
  · omega
  · exact ⟨g, cap, rfl, hc, hb, (Array.getElem?_eq_some_iff.1 hg).1⟩
/-- Rows with these ids lie at P, in these blocks. -/
def RAt (P : Nat) (F : Nat → Prop) (L : List (List Int)) (w : World) : Prop := ∃ O M N, RM P O M N w ∧ ids N = L ∧ ∀ b, F b ↔ Ft P O M N b
/-- What a call leaves of an object: only its own blocks turned, and it has but them and new ones. -/
structure Stp (F F' : Nat → Prop) (w w' : World) : Prop where
  only : Only F w w'
  foot : ∀ b, F' b → F b ∨ w.heap.size ≤ b
theorem RAt.good {P : Nat} {F : Nat → Prop} {L : List (List Int)} {w : World} (h : RAt P F L w) : GoodL L := by obtain ⟨O, M, N, h, rfl, _⟩ := h; exact h.good
theorem RAt.lt {P : Nat} {F : Nat → Prop} {L : List (List Int)} {w : World} (h : RAt P F L w) {b : Nat} (hb : F b) : b < w.heap.size := by obtain ⟨O, M, N, h, rfl, e⟩ := h; exact h.lt b ((e b).1 hb)
theorem RAt.only {P : Nat} {F D : Nat → Prop} {L : List (List Int)} {w w' : World} (h : RAt P F L w) (ho : Only D w w') (hd : ∀ b, F b → ¬ D b) : RAt P F L w' := by
  obtain ⟨O, M, N, h, e1, e⟩ := h
  exact ⟨O, M, N, h.only ho (fun b hb => hd b ((e b).2 hb)), e1, e⟩
theorem RAt.below {P : Nat} {F : Nat → Prop} {L : List (List Int)} {w w' : World} (h : RAt P F L w) (hb : Below w.heap.size w w') : RAt P F L w' := h.only (D := fun _ => False) (Below.only hb) (fun _ _ => id)
theorem rat_go {P O M : Nat} {N N' : List (List Nd)} {F : Nat → Prop} {w w' : World} (e : ∀ b, F b ↔ Ft P O M N b) (g : Go10 P O M N w N' w') : RAt P (Ft P O M N') (ids N') w' ∧ Stp F (Ft P O M N') w w' :=
  ⟨⟨O, M, N', g.rm, rfl, fun _ => Iff.rfl⟩, ⟨g.only.mono (fun b hb => (e b).2 hb), fun b hb => (g.foot b hb).imp (e b).2 id⟩⟩

theorem at_front {P : Nat} {F : Nat → Prop} {L : List (List Int)} {w : World} (h : RAt P F L w) (r z : Int) (hz : i64ok z) :
   Calls Try.prog 40 #[.pointer (some ⟨P, 0, none⟩), .int .i64 r, .int .i64 z] w fun e w' => e = .returned (.bool (decide (May L.length r z))) ∧ ∃ F', RAt P F' (opFront L r z) w' ∧ Stp F F' w w' := by
  obtain ⟨O, M, N, h, rfl, e⟩ := h
  refine (front_any h r z hz).mono ?_
  rintro x w' ⟨hx, N', g, k⟩
  obtain ⟨k1, k2⟩ := rat_go e g
  rw [k] at k1
  exact ⟨hx, _, k1, k2⟩
theorem at_take {P : Nat} {F : Nat → Prop} {L : List (List Int)} {w : World} (h : RAt P F L w) (z : Int) (hz : i64ok z) :
   Calls Try.prog 48 #[.pointer (some ⟨P, 0, none⟩), .int .i64 z] w fun e w' => e = .returned (.bool (rowOf L z).isSome) ∧ ∃ F', RAt P F' (takeL L z) w' ∧ Stp F F' w w' := by
  obtain ⟨O, M, N, h, rfl, e⟩ := h
  refine (take_any h z hz).mono ?_
  rintro x w' ⟨hx, N', g, k, _⟩
  obtain ⟨k1, k2⟩ := rat_go e g
  rw [k] at k1
  exact ⟨hx, _, k1, k2⟩
theorem at_row {P : Nat} {F : Nat → Prop} {L : List (List Int)} {w : World} (h : RAt P F L w) (z : Int) (hz : i64ok z) :
   Calls Try.prog 39 #[.pointer (some ⟨P, 0, none⟩), .int .i64 z] w fun e w' => e = .returned (.int .i64 (rv (rowOf L z))) ∧ w = w' := by
  obtain ⟨O, M, N, h, rfl, e⟩ := h; exact row_any h z hz
theorem at_last {P : Nat} {F : Nat → Prop} {L : List (List Int)} {w : World} (h : RAt P F L w) (r : Int) :
   Calls Try.prog 43 #[.pointer (some ⟨P, 0, none⟩), .int .i64 r] w fun e w' => e = .returned (.int .i64 (lastOf (rowAt L r))) ∧ w = w' := by
  obtain ⟨O, M, N, h, rfl, e⟩ := h; exact last_any h r
theorem at_len {P : Nat} {F : Nat → Prop} {L : List (List Int)} {w : World} (h : RAt P F L w) (r : Int) :
   Calls Try.prog 59 #[.pointer (some ⟨P, 0, none⟩), .int .i64 r] w fun e w' => e = .returned (.int .i64 (rowAt L r).length) ∧ w = w' := by
  obtain ⟨O, M, N, h, rfl, e⟩ := h; exact len_any h r
theorem at_all {P : Nat} {F : Nat → Prop} {L : List (List Int)} {w : World} (h : RAt P F L w) (r : Int) :
   Calls Try.prog 37 #[.pointer (some ⟨P, 0, none⟩), .int .i64 r] w fun e w' => ∃ v, e = .returned v ∧ w'.ownsRow w.heap.size 3 1 v (rowAt L r).length (ic (rowAt L r)) ∧ Below w.heap.size w w' := by
  obtain ⟨O, M, N, h, rfl, e⟩ := h; exact all_any h r
theorem at_new (n : Nat) (h1 : 1 ≤ n) (h2 : n ≤ 8) (w : World) : Calls Try.prog 24 #[.int .i64 n] w fun e w' => ∃ P F, e = .returned (.pointer (some ⟨P, 0, none⟩)) ∧ RAt P F (List.replicate n []) w' ∧ Below w.heap.size w w' ∧ ∀ b, F b → w.heap.size ≤ b := by
  refine (new_any n h1 h2 w).mono ?_
  rintro e w' ⟨P, O, M, he, h, hb, q1, q2, q3⟩
  refine ⟨P, _, he, ⟨O, M, _, h, ids_none n, fun _ => Iff.rfl⟩, hb, fun b hf => ?_⟩
  rcases hf with rfl | rfl | rfl | ⟨x, hx, _⟩
  · exact q1
  · exact q2
  · exact q3
  · rw [rows_none] at hx; cases hx

/-- Rows of the call's own (the call's world began as w0), beside blocks G of its own. -/
structure HasR (w0 : World) (P : Nat) (L : List (List Int)) (G : Nat → Prop) (w : World) : Prop where
  rows : ∃ F, RAt P F L w ∧ (∀ b, F b → w0.heap.size ≤ b) ∧ (∀ x, G x → ¬ F x)
  below : Below w0.heap.size w0 w
  lt : ∀ x, G x → x < w.heap.size
theorem HasR.good {w0 : World} {P : Nat} {L : List (List Int)} {G : Nat → Prop} {w : World} (h : HasR w0 P L G w) : GoodL L := by obtain ⟨F, h, _⟩ := h.rows; exact h.good
theorem HasR.after {w0 : World} {P : Nat} {L : List (List Int)} {G : Nat → Prop} {w w' : World} (h : HasR w0 P L G w) (hb : Below w.heap.size w w') : HasR w0 P L G w' := by
  obtain ⟨⟨F, h1, h2, h3⟩, h4, h5⟩ := h
  exact ⟨⟨F, h1.below hb, h2, h3⟩, h4.trans (hb.mono h4.size), fun x hx => Nat.lt_of_lt_of_le (h5 x hx) hb.size⟩
/-- More blocks of the call's own beside. -/
theorem HasR.more {w0 : World} {P : Nat} {L : List (List Int)} {G G' : Nat → Prop} {w w' : World} (h : HasR w0 P L G w) (hb : Below w.heap.size w w') (hG : ∀ x, G' x → G x ∨ (w.heap.size ≤ x ∧ x < w'.heap.size)) : HasR w0 P L G' w' := by
  obtain ⟨⟨F, h1, h2, h3⟩, h4, h5⟩ := h
  refine ⟨⟨F, h1.below hb, h2, fun x hx hf => (hG x hx).elim (fun g => h3 x g hf) (fun g => absurd (h1.lt hf) (Nat.not_lt.2 g.1))⟩, h4.trans (hb.mono h4.size), fun x hx => (hG x hx).elim (fun g => Nat.lt_of_lt_of_le (h5 x g) hb.size) (fun g => g.2)⟩
/-- Blocks of those beside are written, and new ones made. -/
theorem HasR.turn {w0 : World} {P : Nat} {L : List (List Int)} {G G' : Nat → Prop} {w w' : World} (h : HasR w0 P L G w) (ho : Only G w w') (hG : ∀ x, G x → w0.heap.size ≤ x) (hG' : ∀ x, G' x → (G x ∨ w.heap.size ≤ x) ∧ x < w'.heap.size) : HasR w0 P L G' w' := by
  obtain ⟨⟨F, h1, h2, h3⟩, h4, h5⟩ := h
  exact ⟨⟨F, h1.only ho (fun b hb hg => h3 b hg hb), h2, fun x hx hf => (hG' x hx).1.elim (fun g => h3 x g hf) (fun g => absurd (h1.lt hf) (Nat.not_lt.2 g))⟩, h4.trans (ho.below h4.size hG), fun x hx => (hG' x hx).2⟩
theorem has_new (n : Nat) (h1 : 1 ≤ n) (h2 : n ≤ 8) (w : World) : Calls Try.prog 24 #[.int .i64 n] w fun e w' => ∃ P, e = .returned (.pointer (some ⟨P, 0, none⟩)) ∧ HasR w P (List.replicate n []) (fun _ => False) w' :=
  (at_new n h1 h2 w).mono fun _ _ ⟨P, F, he, k1, k2, k3⟩ => ⟨P, he, ⟨F, k1, k3, fun _ hx => hx.elim⟩, k2, fun _ hx => hx.elim⟩
theorem has_front {w0 : World} {P : Nat} {L : List (List Int)} {G : Nat → Prop} {w : World} (h : HasR w0 P L G w) (r z : Int) (hz : i64ok z) :
   Calls Try.prog 40 #[.pointer (some ⟨P, 0, none⟩), .int .i64 r, .int .i64 z] w fun e w' => e = .returned (.bool (decide (May L.length r z))) ∧ HasR w0 P (opFront L r z) G w' ∧ ∃ D, Only D w w' ∧ ∀ x, G x → ¬ D x := by
  obtain ⟨⟨F, h1, h2, h3⟩, h4, h5⟩ := h
  refine (at_front h1 r z hz).mono ?_
  rintro e w' ⟨he, F', k1, k2⟩
  refine ⟨he, ⟨⟨F', k1, fun b hb => (k2.foot b hb).elim (h2 b) (Nat.le_trans h4.size), fun x hx hf => (k2.foot x hf).elim (h3 x hx) (fun e => absurd (h5 x hx) (Nat.not_lt.2 e))⟩, h4.trans (k2.only.below h4.size h2), fun x hx => Nat.lt_of_lt_of_le (h5 x hx) k2.only.size⟩, F, k2.only, h3⟩
theorem has_take {w0 : World} {P : Nat} {L : List (List Int)} {G : Nat → Prop} {w : World} (h : HasR w0 P L G w) (z : Int) (hz : i64ok z) :
   Calls Try.prog 48 #[.pointer (some ⟨P, 0, none⟩), .int .i64 z] w fun e w' => e = .returned (.bool (rowOf L z).isSome) ∧ HasR w0 P (takeL L z) G w' ∧ ∃ D, Only D w w' ∧ ∀ x, G x → ¬ D x := by
  obtain ⟨⟨F, h1, h2, h3⟩, h4, h5⟩ := h
  refine (at_take h1 z hz).mono ?_
  rintro e w' ⟨he, F', k1, k2⟩
  refine ⟨he, ⟨⟨F', k1, fun b hb => (k2.foot b hb).elim (h2 b) (Nat.le_trans h4.size), fun x hx hf => (k2.foot x hf).elim (h3 x hx) (fun e => absurd (h5 x hx) (Nat.not_lt.2 e))⟩, h4.trans (k2.only.below h4.size h2), fun x hx => Nat.lt_of_lt_of_le (h5 x hx) k2.only.size⟩, F, k2.only, h3⟩
theorem has_row {w0 : World} {P : Nat} {L : List (List Int)} {G : Nat → Prop} {w : World} (h : HasR w0 P L G w) (z : Int) (hz : i64ok z) :
   Calls Try.prog 39 #[.pointer (some ⟨P, 0, none⟩), .int .i64 z] w fun e w' => e = .returned (.int .i64 (rv (rowOf L z))) ∧ w = w' := by obtain ⟨F, h, _⟩ := h.rows; exact at_row h z hz
theorem has_last {w0 : World} {P : Nat} {L : List (List Int)} {G : Nat → Prop} {w : World} (h : HasR w0 P L G w) (r : Int) :
   Calls Try.prog 43 #[.pointer (some ⟨P, 0, none⟩), .int .i64 r] w fun e w' => e = .returned (.int .i64 (lastOf (rowAt L r))) ∧ w = w' := by obtain ⟨F, h, _⟩ := h.rows; exact at_last h r
theorem has_len {w0 : World} {P : Nat} {L : List (List Int)} {G : Nat → Prop} {w : World} (h : HasR w0 P L G w) (r : Int) :
   Calls Try.prog 59 #[.pointer (some ⟨P, 0, none⟩), .int .i64 r] w fun e w' => e = .returned (.int .i64 (rowAt L r).length) ∧ w = w' := by obtain ⟨F, h, _⟩ := h.rows; exact at_len h r
theorem has_all {w0 : World} {P : Nat} {L : List (List Int)} {G : Nat → Prop} {w : World} (h : HasR w0 P L G w) (r : Int) :
   Calls Try.prog 37 #[.pointer (some ⟨P, 0, none⟩), .int .i64 r] w fun e w' => ∃ v, e = .returned v ∧ w'.ownsRow w.heap.size 3 1 v (rowAt L r).length (ic (rowAt L r)) ∧ Below w.heap.size w w' := by obtain ⟨F, h, _⟩ := h.rows; exact at_all h r
end Go.Proofs.Ytkhmgigllcgpnaa
