/-
  The program's ghost and the document's, side by side. No conditions but those of the calls.
-/
import Derived.Test.YtidcablgdbnddaaGhostRefAdd
namespace Go.Proofs.Ytidcablgdbnddaa
open Go Go.RowKit Go.Lib

structure Two (w0 : World) (P Q : Nat) (m : Nat) (l : List Int) (k : Nat) (r : List Int) (H : Nat → Prop) (w : World) : Prop where
  gh : ∃ (F : Nat → Prop) (v : Value), GAt P F m l w ∧ QM Q k v r w ∧ (∀ b, F b → w0.heap.size ≤ b) ∧ (∀ b, QF Q v b → w0.heap.size ≤ b) ∧ (∀ b, F b → ¬ QF Q v b) ∧ (∀ b, H b → ¬ F b ∧ ¬ QF Q v b)
  below : Below w0.heap.size w0 w
  lt : ∀ x, H x → x < w.heap.size
section
variable {w0 : World} {P Q m k : Nat} {l r : List Int} {H : Nat → Prop} {w w' : World}
theorem Two.after (h : Two w0 P Q m l k r H w) (hb : Below w.heap.size w w') : Two w0 P Q m l k r H w' := by
  obtain ⟨⟨F, v, h1, h2, h3, h4, h5, h6⟩, h7, h8⟩ := h
  exact ⟨⟨F, v, h1.below hb, h2.below hb, h3, h4, h5, h6⟩, h7.trans (hb.mono h7.size), fun x hx => Nat.lt_of_lt_of_le (h8 x hx) hb.size⟩
/-- Other blocks of the call's own beside. -/
theorem Two.more {H' : Nat → Prop} (h : Two w0 P Q m l k r H w) (hb : Below w.heap.size w w') (hH : ∀ x, H' x → H x ∨ (w.heap.size ≤ x ∧ x < w'.heap.size)) : Two w0 P Q m l k r H' w' := by
  obtain ⟨⟨F, v, h1, h2, h3, h4, h5, h6⟩, h7, h8⟩ := h
  refine ⟨⟨F, v, h1.below hb, h2.below hb, h3, h4, h5, fun x hx => ?_⟩, h7.trans (hb.mono h7.size), fun x hx => (hH x hx).elim (fun g => Nat.lt_of_lt_of_le (h8 x g) hb.size) (fun g => g.2)⟩
  rcases hH x hx with g | g
  · exact h6 x g
  · exact ⟨fun hf => absurd (h1.lt hf) (Nat.not_lt.2 g.1), fun hf => absurd (h2.lt hf) (Nat.not_lt.2 g.1)⟩
theorem Two.turn (h : Two w0 P Q m l k r H w) (ho : Only H w w') (hH : ∀ x, H x → w0.heap.size ≤ x) : Two w0 P Q m l k r H w' := by
  obtain ⟨⟨F, v, h1, h2, h3, h4, h5, h6⟩, h7, h8⟩ := h
  exact ⟨⟨F, v, h1.only ho (fun b hb hg => (h6 b hg).1 hb), h2.only ho (fun b hb hg => (h6 b hg).2 hb), h3, h4, h5, h6⟩, h7.trans (ho.below h7.size hH), fun x hx => Nat.lt_of_lt_of_le (h8 x hx) ho.size⟩
theorem two_l {v : Value} {m' : Nat} {l' : List Int} {F F' : Nat → Prop} (h2 : QM Q k v r w) (h3 : ∀ b, F b → w0.heap.size ≤ b) (h4 : ∀ b, QF Q v b → w0.heap.size ≤ b) (h5 : ∀ b, F b → ¬ QF Q v b) (h6 : ∀ b, H b → ¬ F b ∧ ¬ QF Q v b)
    (h7 : Below w0.heap.size w0 w) (h8 : ∀ x, H x → x < w.heap.size) (k1 : GAt P F' m' l' w') (k2 : Stp F F' w w') : Two w0 P Q m' l' k r H w' ∧ ∃ D, Only D w w' ∧ ∀ x, H x → ¬ D x :=
  ⟨⟨⟨F', v, k1, h2.only k2.only (fun b hb hf => h5 b hf hb), fun b hb => (k2.foot b hb).elim (h3 b) (Nat.le_trans h7.size), h4, fun b hb hq => (k2.foot b hb).elim (fun e => h5 b e hq) (fun e => absurd (h2.lt hq) (Nat.not_lt.2 e)), fun b hb => ⟨fun hf => (k2.foot b hf).elim (h6 b hb).1 (fun e => absurd (h8 b hb) (Nat.not_lt.2 e)), (h6 b hb).2⟩⟩,
    h7.trans (k2.only.below h7.size h3), fun x hx => Nat.lt_of_lt_of_le (h8 x hx) k2.only.size⟩, F, k2.only, fun x hx => (h6 x hx).1⟩
theorem two_r {v v' : Value} {k' : Nat} {r' : List Int} {F : Nat → Prop} (h1 : GAt P F m l w) (h3 : ∀ b, F b → w0.heap.size ≤ b) (h4 : ∀ b, QF Q v b → w0.heap.size ≤ b) (h5 : ∀ b, F b → ¬ QF Q v b) (h6 : ∀ b, H b → ¬ F b ∧ ¬ QF Q v b)
    (h7 : Below w0.heap.size w0 w) (h8 : ∀ x, H x → x < w.heap.size) (g : QGo Q v w k' v' r' w') : Two w0 P Q m l k' r' H w' ∧ ∃ D, Only D w w' ∧ ∀ x, H x → ¬ D x :=
  ⟨⟨⟨F, v', h1.only g.only h5, g.qm, h3, fun b hb => (g.foot b hb).elim (h4 b) (Nat.le_trans h7.size), fun b hb hq => (g.foot b hq).elim (h5 b hb) (fun e => absurd (h1.lt hb) (Nat.not_lt.2 e)), fun b hb => ⟨(h6 b hb).1, fun hq => (g.foot b hq).elim (h6 b hb).2 (fun e => absurd (h8 b hb) (Nat.not_lt.2 e))⟩⟩,
    h7.trans (g.only.below h7.size h4), fun x hx => Nat.lt_of_lt_of_le (h8 x hx) g.only.size⟩, QF Q v, g.only, fun x hx => (h6 x hx).2⟩
theorem two_add_l (h : Two w0 P Q m l k r H w) (z : Int) (hz : u64ok z) (hlen : l.length < 4194304) :
    Calls Try.prog 10 #[.pointer (some ⟨P, 0, none⟩), .int .u64 z] w fun e w' => e = .returned (.tuple #[]) ∧ Two w0 P Q m (addL m l z) k r H w' ∧ ∃ D, Only D w w' ∧ ∀ x, H x → ¬ D x := by
  obtain ⟨⟨F, v, h1, h2, h3, h4, h5, h6⟩, h7, h8⟩ := h
  refine (at_add h1 z hz hlen).mono ?_
  rintro e w' ⟨he, F', k1, k2⟩
  exact ⟨he, two_l h2 h3 h4 h5 h6 h7 h8 k1 k2⟩
theorem two_add_r (h : Two w0 P Q m l k r H w) (z : Int) (hlen : r.length < 4194304) :
    Calls Try.prog 11 #[.pointer (some ⟨Q, 0, none⟩), .int .u64 z] w fun e w' => e = .returned (.tuple #[]) ∧ Two w0 P Q m l k (addL k r z) H w' ∧ ∃ D, Only D w w' ∧ ∀ x, H x → ¬ D x := by
  obtain ⟨⟨F, v, h1, h2, h3, h4, h5, h6⟩, h7, h8⟩ := h
  refine (qadd_any h2 z hlen).mono ?_
  rintro e w' ⟨he, v', g⟩
  exact ⟨he, two_r h1 h3 h4 h5 h6 h7 h8 g⟩
theorem two_remove_l (h : Two w0 P Q m l k r H w) (z : Int) (hz : u64ok z) :
    Calls Try.prog 12 #[.pointer (some ⟨P, 0, none⟩), .int .u64 z] w fun e w' => e = .returned (.bool (decide (z ∈ l))) ∧ Two w0 P Q m (rmL l z) k r H w' ∧ ∃ D, Only D w w' ∧ ∀ x, H x → ¬ D x := by
  obtain ⟨⟨F, v, h1, h2, h3, h4, h5, h6⟩, h7, h8⟩ := h
  refine (at_remove h1 z hz).mono ?_
  rintro e w' ⟨he, F', k1, k2⟩
  exact ⟨he, two_l h2 h3 h4 h5 h6 h7 h8 k1 k2⟩
theorem two_remove_r (h : Two w0 P Q m l k r H w) (z : Int) :
    Calls Try.prog 13 #[.pointer (some ⟨Q, 0, none⟩), .int .u64 z] w fun e w' => e = .returned (.bool (decide (z ∈ r))) ∧ Two w0 P Q m l k (rmL r z) H w' ∧ ∃ D, Only D w w' ∧ ∀ x, H x → ¬ D x := by
  obtain ⟨⟨F, v, h1, h2, h3, h4, h5, h6⟩, h7, h8⟩ := h
  refine (qremove_any h2 z).mono ?_
  rintro e w' ⟨he, v', g⟩
  exact ⟨he, two_r h1 h3 h4 h5 h6 h7 h8 g⟩
theorem two_limit_l (h : Two w0 P Q m l k r H w) (mo : Int) :
    Calls Try.prog 14 #[.pointer (some ⟨P, 0, none⟩), .int .i64 mo] w fun e w' => e = .returned (.tuple #[]) ∧ Two w0 P Q mo.toNat (cutL mo.toNat l) k r H w' ∧ ∃ D, Only D w w' ∧ ∀ x, H x → ¬ D x := by
  obtain ⟨⟨F, v, h1, h2, h3, h4, h5, h6⟩, h7, h8⟩ := h
  refine (at_limit h1 mo).mono ?_
  rintro e w' ⟨he, F', k1, k2⟩
  exact ⟨he, two_l h2 h3 h4 h5 h6 h7 h8 k1 k2⟩
theorem two_limit_r (h : Two w0 P Q m l k r H w) (mo : Int) (q : -9223372036854775808 ≤ mo ∧ mo ≤ 9223372036854775807) :
    Calls Try.prog 15 #[.pointer (some ⟨Q, 0, none⟩), .int .i64 mo] w fun e w' => e = .returned (.tuple #[]) ∧ Two w0 P Q m l mo.toNat (cutL mo.toNat r) H w' ∧ ∃ D, Only D w w' ∧ ∀ x, H x → ¬ D x := by
  obtain ⟨⟨F, v, h1, h2, h3, h4, h5, h6⟩, h7, h8⟩ := h
  refine (qlimit_any h2 mo q).mono ?_
  rintro e w' ⟨he, v', g⟩
  exact ⟨he, two_r h1 h3 h4 h5 h6 h7 h8 g⟩
theorem two_has_l (h : Two w0 P Q m l k r H w) (z : Int) (hz : u64ok z) :
    Calls Try.prog 18 #[.pointer (some ⟨P, 0, none⟩), .int .u64 z] w fun e w' => e = .returned (.bool (decide (z ∈ l))) ∧ w = w' := by obtain ⟨F, v, h1, _⟩ := h.gh; exact at_has h1 z hz
theorem two_has_r (h : Two w0 P Q m l k r H w) (z : Int) :
    Calls Try.prog 19 #[.pointer (some ⟨Q, 0, none⟩), .int .u64 z] w fun e w' => e = .returned (.bool (decide (z ∈ r))) ∧ w = w' := by obtain ⟨F, v, _, h2, _⟩ := h.gh; exact qhas_any h2 z
theorem two_len_l (h : Two w0 P Q m l k r H w) :
    Calls Try.prog 20 #[.pointer (some ⟨P, 0, none⟩)] w fun e w' => e = .returned (.int .i64 l.length) ∧ w = w' := by obtain ⟨F, v, h1, _⟩ := h.gh; exact at_len h1
theorem two_all_l (h : Two w0 P Q m l k r H w) :
    Calls Try.prog 16 #[.pointer (some ⟨P, 0, none⟩)] w fun e w' => ∃ v, e = .returned v ∧ w'.ownsRow w.heap.size 28 1 v l.length (uc l) ∧ Below w.heap.size w w' := by obtain ⟨F, v, h1, _⟩ := h.gh; exact at_all h1
/-- The document's row, as it can be read. -/
theorem Two.row (h : Two w0 P Q m l k r H w) : ∃ a c, w.cell? ⟨Q, 1, none⟩ = some (.slice a r.length c) ∧ w.ownsRow 0 28 1 (.slice a r.length c) r.length (uc r) ∧ r.length ≤ 4194304 := by
  obtain ⟨F, v, _, h2, _⟩ := h.gh
  have hr := h2.row
  have hc := h2.head.cell (i := 1) rfl
  obtain ⟨a, c, rfl⟩ := row_form hr
  exact ⟨a, c, hc, hr, h2.len⟩
theorem two_new {w1 w2 : World} {F : Nat → Prop} {v : Value} (h1 : GAt P F m [] w1) (b1 : Below w0.heap.size w0 w1) (f1 : ∀ b, F b → w0.heap.size ≤ b) (h2 : QM Q k v [] w2) (b2 : Below w1.heap.size w1 w2) (f2 : ∀ b, QF Q v b → w1.heap.size ≤ b) :
    Two w0 P Q m [] k [] (fun _ => False) w2 :=
  ⟨⟨F, v, h1.below b2, h2, f1, fun b hb => Nat.le_trans b1.size (f2 b hb), fun b hb hq => absurd (h1.lt hb) (Nat.not_lt.2 (f2 b hq)), fun _ hx => hx.elim⟩, b1.trans (b2.mono b1.size), fun _ hx => hx.elim⟩
end
end Go.Proofs.Ytidcablgdbnddaa
