/-
  A table of the call's own, beside other blocks of its own: what each of the table's calls leaves of it; what a set or a move does to its numbers. No conditions but those of the calls.
-/
import Derived.Test.YtfbkfbghejeknaaChainMove
import Derived.Test.YtfbkfbghejeknaaChainSee
namespace Go.Proofs.Ytfbkfbghejeknaa
open Go Go.Shelf Go.RowKit Go.Lib

structure HasT (w0 : World) (P : Nat) (s : Tb) (G : Nat → Prop) (w : World) : Prop where
  tm : TM P s w
  ok : Ok s
  sm : s.sm
  base : ∀ x, Ft P s x → w0.heap.size ≤ x
  below : Below w0.heap.size w0 w
  apart : ∀ x, G x → x < w.heap.size ∧ ¬ Ft P s x

theorem HasT.go {w0 : World} {P : Nat} {s s' : Tb} {G : Nat → Prop} {w w' : World} (h : HasT w0 P s G w) (g : Go9 P s w s' w') (sm : s'.sm) : HasT w0 P s' G w' := by
  refine ⟨g.tm, g.ok, sm, fun x hx => (g.foot x hx).elim (h.base x) (Nat.le_trans h.below.size), ?_, fun x hx => ⟨Nat.lt_of_lt_of_le (h.apart x hx).1 g.only.size, fun hf => ?_⟩⟩
  · exact h.below.trans (g.only.below h.below.size h.base)
  · rcases g.foot x hf with e | e
    · exact (h.apart x hx).2 e
    · exact absurd (h.apart x hx).1 (Nat.not_lt.2 e)
theorem HasT.after {w0 : World} {P : Nat} {s : Tb} {G : Nat → Prop} {w w' : World} (h : HasT w0 P s G w) (hb : Below w.heap.size w w') : HasT w0 P s G w' :=
  ⟨h.tm.below hb, h.ok, h.sm, h.base, h.below.trans (hb.mono h.below.size), fun x hx => ⟨Nat.lt_of_lt_of_le (h.apart x hx).1 hb.size, (h.apart x hx).2⟩⟩
/-- One more block of the call's own. -/
theorem HasT.more {w0 : World} {P : Nat} {s : Tb} {G G' : Nat → Prop} {w w' : World} (h : HasT w0 P s G w) (hb : Below w.heap.size w w') (hG : ∀ x, G' x → G x ∨ (w.heap.size ≤ x ∧ x < w'.heap.size)) : HasT w0 P s G' w' :=
  ⟨h.tm.below hb, h.ok, h.sm, h.base, h.below.trans (hb.mono h.below.size), fun x hx => (hG x hx).elim (fun g => ⟨Nat.lt_of_lt_of_le (h.apart x g).1 hb.size, (h.apart x g).2⟩) (fun g => ⟨g.2, fun hf => absurd (h.tm.lt x hf) (Nat.not_lt.2 g.1)⟩)⟩
/-- Blocks of those beside are written. -/
theorem HasT.turn {w0 : World} {P : Nat} {s : Tb} {G : Nat → Prop} {w w' : World} (h : HasT w0 P s G w) (ho : Only G w w') (hG : ∀ x, G x → w0.heap.size ≤ x) : HasT w0 P s G w' :=
  ⟨h.tm.only ho (fun x hx hg => (h.apart x hg).2 hx), h.ok, h.sm, h.base, h.below.trans (ho.below h.below.size hG), fun x hx => ⟨Nat.lt_of_lt_of_le (h.apart x hx).1 ho.size, (h.apart x hx).2⟩⟩
theorem HasT.blk {w0 : World} {P : Nat} {s s' : Tb} {G : Nat → Prop} {w w' : World} (h : HasT w0 P s G w) (g : Go9 P s w s' w') {b : Nat} {t : TypeId} {cs : List Value} (hB : Blk w b t cs) (hG : G b) : Blk w' b t cs :=
  hB.only g.only (h.apart b hG).2

theorem set_sm {s : Tb} (o : Ok s) (sm : s.sm) (b c : Nat) {k : ByteArray} (hk : k.size ≤ 281474976710656) (n : Int) : (s.set b c k n).sm := by
  intro e he
  cases hf : fnd k (s.row k) with
  | none =>
    rcases List.mem_cons.1 ((o.set_new b c k n hf).2.mem_iff.1 he) with rfl | he
    · exact hk
    · exact sm e he
  | some x =>
    obtain ⟨_, r, r1, r2⟩ := o.set_old b c n hf
    rcases List.mem_cons.1 (r2.mem_iff.1 he) with rfl | he
    · exact sm x (r1.mem_iff.2 (List.mem_cons_self ..))
    · exact sm e (r1.mem_iff.2 (List.mem_cons_of_mem _ he))
theorem del_sm {s : Tb} (o : Ok s) (sm : s.sm) (k : ByteArray) : (s.del k).sm := by
  intro e he
  cases hf : fnd k (s.row k) with
  | none => rw [Ok.del_no hf] at he; exact sm e he
  | some x => exact sm e ((o.del_yes hf).2.mem_iff.2 (List.mem_cons_of_mem _ he))
theorem step_sm {s : Tb} (o : Ok s) (sm : s.sm) : s.step.sm := fun e he => sm e (o.step_perm.1.mem_iff.1 he)

theorem has_new (w : World) : Calls Try.prog 9 #[] w fun e w' => ∃ P c, e = .returned (.pointer (some ⟨P, 0, none⟩)) ∧ HasT w P (Tb.first c) (fun _ => False) w' := by
  refine (new_any w).mono ?_
  rintro e w' ⟨P, c, he, h1, h2, h3, h4⟩
  refine ⟨P, c, he, h1, first_ok c, fun e he => (by cases he), fun x hx => ?_, h2, fun _ hx => hx.elim⟩
  rcases hx with rfl | rfl | ⟨e, _⟩ | ⟨e, he, _⟩
  · exact h3
  · exact h4
  · exact (e rfl).elim
  · cases he
theorem has_set {w0 : World} {P : Nat} {s : Tb} {G : Nat → Prop} {w : World} (h : HasT w0 P s G w) (k : ByteArray) (hk : k.size ≤ 281474976710656) (n : Int) (hc : s.cnt + 1 ≤ 1000000000) :
    Calls Try.prog 19 #[.pointer (some ⟨P, 0, none⟩), .string k, .int .i64 n] w fun e w' => e = .returned (.tuple #[]) ∧ ∃ b c, HasT w0 P (s.set b c k n) G w' ∧ Only (Ft P s) w w' :=
  (set_any h.tm h.ok k hk n hc).mono fun _ _ ⟨he, b, c, g⟩ => ⟨he, b, c, h.go g (set_sm h.ok h.sm b c hk n), g.only⟩
theorem has_del {w0 : World} {P : Nat} {s : Tb} {G : Nat → Prop} {w : World} (h : HasT w0 P s G w) (k : ByteArray) (hk : k.size ≤ 281474976710656) (hc : s.cnt ≤ 1000000000) :
    Calls Try.prog 20 #[.pointer (some ⟨P, 0, none⟩), .string k] w fun e w' => e = .returned (.bool (s.get k).isSome) ∧ HasT w0 P (s.del k) G w' ∧ Only (Ft P s) w w' :=
  (del_any h.tm h.ok k hk hc).mono fun _ _ ⟨he, g⟩ => ⟨he, h.go g (del_sm h.ok h.sm k), g.only⟩
theorem has_step {w0 : World} {P : Nat} {s : Tb} {G : Nat → Prop} {w : World} (h : HasT w0 P s G w) :
    Calls Try.prog 21 #[.pointer (some ⟨P, 0, none⟩)] w fun e w' => e = .returned (.bool (decide (s.step.old ≠ []))) ∧ HasT w0 P s.step G w' ∧ Only (Ft P s) w w' :=
  (step_any h.tm h.ok h.sm).mono fun _ _ ⟨he, g⟩ => ⟨he, h.go g (step_sm h.ok h.sm), g.only⟩
theorem has_get {w0 : World} {P : Nat} {s : Tb} {G : Nat → Prop} {w : World} (h : HasT w0 P s G w) (k : ByteArray) (hk : k.size ≤ 9223372036854775807) :
    Calls Try.prog 22 #[.pointer (some ⟨P, 0, none⟩), .string k] w fun e w' => e = .returned (.tuple #[.int .i64 ((s.get k).getD 0), .bool (s.get k).isSome]) ∧ HasT w0 P s G w' ∧ Below w.heap.size w w' :=
  (get_any h.tm h.ok.mid k hk).mono fun _ _ ⟨he, b⟩ => ⟨he, h.after b, b⟩

/-! Numbers -/
def Tb.will (s : Tb) : Prop := s.old = [] ∧ 3 * s.new.length < 2 * (s.cnt + 1) ∧ s.pow < 20
theorem set_nums {s : Tb} (b c : Nat) {k : ByteArray} (n : Int) (hk : s.get k = none) :
    (s.will → (s.set b c k n).pow = s.pow + 1 ∧ (s.set b c k n).old.length = s.new.length ∧ (s.set b c k n).moved = 0 ∧ (s.set b c k n).cnt = s.cnt + 1) ∧
    (¬ s.will → (s.set b c k n).pow = s.pow ∧ (s.set b c k n).old.length = s.old.length ∧ (s.set b c k n).moved = s.moved ∧ (s.set b c k n).cnt = s.cnt + 1) := by
  obtain ⟨a1, a2, a3, a4, a5, a6, a7⟩ := add_same s ⟨b, k, n⟩
  have hg : (s.old = [] ∧ (s.add ⟨b, k, n⟩).full = true) ↔ s.will := by
    unfold Tb.will Tb.full
    rw [decide_eq_true_iff, a1, a3, a6]
  rw [set_new_eq b c k n (Tb.get_none.1 hk)]
  constructor
  · intro hw
    rw [if_pos (hg.2 hw)]
    exact ⟨congrArg (· + 1) a1, a6, rfl, a3⟩
  · intro hw
    rw [if_neg (fun e => hw (hg.1 e))]
    exact ⟨a1, a7, a2, a3⟩
theorem len0 {α : Type} {l : List α} : l.length = 0 ↔ l = [] := List.length_eq_zero_iff
end Go.Proofs.Ytfbkfbghejeknaa
