/-
  The law ArenaPlays at this program, first part: one step of any kind; two arenas by turns. No conditions but that the numbers are an int's.
-/
import Derived.Test.YtclddaacbfgnlaaArenaDoesA
import Derived.Test.YtclddaacbfgnlaaArenaDoesB
import Derived.Test.YtclddaacbfgnlaaArenaDoesC
import Derived.Test.YtclddaacbfgnlaaArenaDoesD
import Derived.Test.YtclddaacbfgnlaaArenaDoesE
namespace Go.Proofs.Ytclddaacbfgnlaa
open Go Go.RowKit Go.Lib

theorem does_any {d : Ids} {s : St} {w : World} (h : Two d s w) (kd A B C : Int) (hB : B ≤ 9223372036854775807) (a : Option Addr) (n c : Nat) (l : List UInt8) (hl : l.length = n) (hnc : n ≤ c) (hc63 : c ≤ 9223372036854775807) (hv : Byts w (.slice a n c) l) (hF : 0 < l.length → ∀ g o, a = some ⟨g, o, none⟩ → ¬ Foot d g) (hnil : a = none → c = 0) :
    Calls Try.prog 10 #[.pointer (some ⟨d.P, 0, none⟩), .pointer (some ⟨d.P', 0, none⟩), .agg #[.int .i64 kd, .int .i64 A, .int .i64 B, .int .i64 C, .slice a n c]] w fun e w' => e = .returned (.bool true) ∧ ∃ d' s', Step d s w d' s' w' := by
  by_cases h1 : kd = 1
  · subst h1; exact does_grant h A B C hB a n c l hl hnc hc63 hv hF hnil
  by_cases h2 : kd = 2
  · subst h2; exact does_return h A B C hB a n c l hl hnc hc63 hv hF hnil
  by_cases h3 : kd = 3
  · subst h3; exact does_write h A B C hB a n c l hl hnc hc63 hv hF hnil
  by_cases h4 : kd = 4
  · subst h4; exact does_read h A B C hB a n c l hl hnc hc63 hv hF hnil
  by_cases h5 : kd = 5
  · subst h5; exact does_pass h A B C hB a n c l hl hnc hc63 hv hF hnil
  exact does_other h kd (by simpa using h1) (by simpa using h2) (by simpa using h3) (by simpa using h4) (by simpa using h5) A B C hB a n c l hl hnc hc63 hv hF hnil

/-- A pair of pointers: both nil, or two arenas in one state, on these blocks. -/
def Side (q r : Option Addr) (F : Nat → Prop) (w : World) : Prop :=
  (q = none ∧ r = none ∧ ∀ b, ¬ F b) ∨ ∃ d s, q = some ⟨d.P, 0, none⟩ ∧ r = some ⟨d.P', 0, none⟩ ∧ Two d s w ∧ ∀ b, F b ↔ Foot d b
theorem Side.only {q r : Option Addr} {F D : Nat → Prop} {w w' : World} (h : Side q r F w) (ho : Only D w w') (hd : ∀ b, F b → ¬ D b) : Side q r F w' := by
  rcases h with h | ⟨d, s, hq, hr, ht, hF⟩
  · exact .inl h
  · exact .inr ⟨d, s, hq, hr, ht.only ho (fun b hb => hd b ((hF b).2 hb)), hF⟩
theorem Side.lt {q r : Option Addr} {F : Nat → Prop} {w : World} (h : Side q r F w) (b : Nat) (hb : F b) : b < w.heap.size := by
  rcases h with ⟨_, _, h⟩ | ⟨d, s, _, _, ht, hF⟩
  · exact (h b hb).elim
  · exact ht.lt b ((hF b).1 hb)
/-- Two pairs, apart, on blocks from B on. -/
def Four (q r q' r' : Option Addr) (B : Nat) (w : World) : Prop :=
  ∃ F G, Side q r F w ∧ Side q' r' G w ∧ (∀ b, F b → ¬ G b) ∧ (∀ b, F b → B ≤ b) ∧ (∀ b, G b → B ≤ b)
theorem Four.swap {q r q' r' : Option Addr} {B : Nat} {w : World} (h : Four q r q' r' B w) : Four q' r' q r B w := by
  obtain ⟨F, G, h1, h2, h3, h4, h5⟩ := h
  exact ⟨G, F, h2, h1, fun b hb hf => h3 b hf hb, h5, h4⟩
theorem Four.drew {q r q' r' : Option Addr} {B : Nat} {w : World} (h : Four q r q' r' B w) : Four q r q' r' B w.drew := by
  obtain ⟨F, G, h1, h2, h3, h4, h5⟩ := h
  exact ⟨F, G, h1.only (D := fun _ => False) (Only.refl _ _).drew (fun _ _ => id), h2.only (D := fun _ => False) (Only.refl _ _).drew (fun _ _ => id), h3, h4, h5⟩

/-- One element of the script: its cells, and what its data read as. -/
structure OpAt (w : World) (b o : Nat) (kd A B C : Int) (a : Option Addr) (n c : Nat) (l : List UInt8) : Prop where
  e0 : w.cell? ⟨b, o, none⟩ = some (.int .i64 kd)
  e1 : w.cell? ⟨b, o + 1, none⟩ = some (.int .i64 A)
  e2 : w.cell? ⟨b, o + 2, none⟩ = some (.int .i64 B)
  e3 : w.cell? ⟨b, o + 3, none⟩ = some (.int .i64 C)
  e4 : w.cell? ⟨b, o + 4, none⟩ = some (.slice a n c)
  lt : b < w.heap.size
  hB : B ≤ 9223372036854775807
  hl : l.length = n
  hnc : n ≤ c
  hc : c ≤ 9223372036854775807
  hv : Byts w (.slice a n c) l
  hnil : a = none → c = 0

/-- A turn: a step of whatever kind, then what both say of themselves. -/
theorem turn {q r q' r' : Option Addr} {w0 w : World} (h4 : Four q r q' r' w0.heap.size w) (hb : Below w0.heap.size w0 w) (hq : q ≠ none) {b o n c : Nat} {kd A B C : Int} {a : Option Addr} {l : List UInt8} (ho : OpAt w0 b o kd A B C a n c l) :
    ∃ p p' z, q = some ⟨p, 0, none⟩ ∧ r = some ⟨p', 0, none⟩ ∧ w.cell? ⟨p', 0, none⟩ = some (.int .i64 z) ∧ w0.heap.size ≤ p' ∧
      Calls Try.prog 10 #[.pointer (some ⟨p, 0, none⟩), .pointer (some ⟨p', 0, none⟩), .agg #[.int .i64 kd, .int .i64 A, .int .i64 B, .int .i64 C, .slice a n c]] w fun e w' => e = .returned (.bool true) ∧
        Four q r q' r' w0.heap.size w' ∧ Below w0.heap.size w0 w' ∧ w'.cell? ⟨p', 0, none⟩ = some (.int .i64 z) ∧ ∃ m : Int,
          Calls Try.prog 11 #[.pointer (some ⟨p, 0, none⟩)] w' (fun e w'' => e = .returned (.int .i64 m) ∧ w' = w'') ∧
          Calls Try.prog 12 #[.pointer (some ⟨p', 0, none⟩)] w' (fun e w'' => e = .returned (.int .i64 m) ∧ w' = w'') ∧
          Calls Try.prog 13 #[.pointer (some ⟨p, 0, none⟩)] w' (fun e w'' => e = .returned (.int .i64 z) ∧ w' = w'') := by
  obtain ⟨F, G, hS, hS', hFG, hFB, hGB⟩ := h4
  rcases hS with ⟨e, _⟩ | ⟨d, s, rfl, rfl, ht, hF⟩
  · exact (hq e).elim
  have hd := does_any ht kd A B C ho.hB a n c l ho.hl ho.hnc ho.hc (byts_below ho.hv hb rfl) (fun h0 g o' e hf => by
    have h1 : g < w0.heap.size := by
      obtain ⟨g', o'', e', hlt, _⟩ := byts_at ho.hv (List.getElem?_eq_getElem h0)
      rw [e] at e'; cases e'; exact hlt
    have h2 := hFB g ((hF g).2 hf)
    omega) ho.hnil
  refine ⟨d.P, d.P', s.size, rfl, rfl, ht.r.head.cell rfl, hFB _ ((hF _).2 (.inr (.inr (.inr (.inl rfl))))), hd.mono fun e w' ⟨he, d', s', hst⟩ => ⟨he, ?_, ?_, ?_, ?_⟩⟩
  · refine ⟨Foot d', G, .inr ⟨d', s', by rw [hst.p], by rw [hst.p'], hst.two, fun b => Iff.rfl⟩, hS'.only hst.only (fun b hG hf => hFG b ((hF b).2 hf) hG), fun b hf hG => ?_, fun b hf => ?_, hGB⟩
    · rcases hst.foot b hf with e | e
      · exact hFG b ((hF b).2 e) hG
      · have := hS'.lt b hG; omega
    · rcases hst.foot b hf with e | e
      · exact hFB b ((hF b).2 e)
      · exact Nat.le_trans hb.size e
  · exact hb.trans (hst.only.below hb.size (fun b hf => hFB b ((hF b).2 hf)))
  · have := hst.two.r.head.cell (i := 0) rfl
    rw [hst.p', hst.size] at this; exact this
  · have c1 := granted_count hst.two.a
    have c2 := ref_count hst.two.r
    have c3 := page_size hst.two.a
    rw [hst.p] at c1 c3
    rw [hst.p'] at c2
    rw [hst.size] at c3
    exact ⟨(cnt s'.ow : Nat), c1, c2, c3⟩
end Go.Proofs.Ytclddaacbfgnlaa
