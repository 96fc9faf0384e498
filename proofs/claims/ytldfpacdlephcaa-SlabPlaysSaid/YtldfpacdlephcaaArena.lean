/-
  Package arena at this program: what an arena in memory is, and the contracts of its small calls: isOwner, Owner, granted, Page, Granted, Return, Pass, Grant, of any arena and any numbers. No conditions.
-/
import Derived.Test.YtldfpacdlephcaaArenaBase
namespace Go.Proofs.Ytldfpacdlephcaa
open Go Go.RowKit Go.Lib

/-- What an arena is: the size of a page, each page's owner, each page's bytes. -/
structure St where
  size : Nat
  ow : List Int
  pg : Nat → List UInt8

structure St.Ok (s : St) : Prop where
  n1 : 1 ≤ s.ow.length
  n2 : s.ow.length ≤ 1024
  s1 : 512 ≤ s.size
  s2 : s.size ≤ 65536
  ow : ∀ z ∈ s.ow, -1 ≤ z ∧ z ≤ 62
  pg : ∀ p, p < s.ow.length → (s.pg p).length = s.size

/-- The cells of an arena's struct. -/
def headOf (O R n size : Nat) : List Value := [.int .i64 (size : Int), .slice (some ⟨O, 0, none⟩) n n, .slice (some ⟨R, 0, none⟩) (n * size) (n * size)]

/-- The row of bytes holds each page's, one behind the other. -/
def Rows (n size : Nat) (pg : Nat → List UInt8) (cs : List Value) : Prop :=
  cs.length = n * size ∧ ∀ p i b, p < n → (pg p)[i]? = some b → cs[p * size + i]? = some (.int .u8 (b.toNat : Int))

structure AIs (P O R : Nat) (s : St) (w : World) : Prop where
  ok : s.Ok
  po : P ≠ O
  pr : P ≠ R
  or : O ≠ R
  head : Blk w P 65 (headOf O R s.ow.length s.size)
  own : Blk w O 3 (ic s.ow)
  row : ∃ cs, Blk w R 5 cs ∧ Rows s.ow.length s.size s.pg cs

theorem AIs.only {P O R : Nat} {s : St} {w w' : World} {D : Nat → Prop} (h : AIs P O R s w) (ho : Only D w w') (hp : ¬ D P) (hO : ¬ D O) (hr : ¬ D R) : AIs P O R s w' := by
  obtain ⟨cs, hb, hR⟩ := h.row
  exact ⟨h.ok, h.po, h.pr, h.or, h.head.only ho hp, h.own.only ho hO, cs, hb.only ho hr, hR⟩
theorem AIs.below {P O R : Nat} {s : St} {w w' : World} (h : AIs P O R s w) (hb : Below w.heap.size w w') : AIs P O R s w' :=
  h.only (D := fun _ => False) (Below.only hb) id id id
theorem AIs.lt {P O R : Nat} {s : St} {w : World} (h : AIs P O R s w) : P < w.heap.size ∧ O < w.heap.size ∧ R < w.heap.size := by
  obtain ⟨cs, hb, _⟩ := h.row
  exact ⟨h.head.lt, h.own.lt, hb.lt⟩

/-- May pages be granted to this one? -/
def ownB (o : Int) : Bool := decide (0 ≤ o ∧ o < 63)
/-- Whose a page is. -/
def ownerOf (ow : List Int) (p : Int) : Int := if 0 ≤ p then ow.getD p.toNat (-1) else -1
theorem ownerOf_at {ow : List Int} {k : Nat} {z : Int} (h : ow[k]? = some z) : ownerOf ow (k : Int) = z := by
  unfold ownerOf; rw [if_pos (by omega)]; simp [List.getD, h]
theorem ownerOf_out {ow : List Int} {p : Int} (h : p < 0 ∨ (ow.length : Int) ≤ p) : ownerOf ow p = -1 := by
  unfold ownerOf
  split
  · rw [List.getD, List.getElem?_eq_none (by omega)]; rfl
  · rfl

set_option maxRecDepth 100000 in
theorem isOwner_any (o : Int) (w : World) : Calls Try.prog 75 #[.int .i64 o] w fun e w' => e = .returned (.bool (ownB o)) ∧ w = w' := by
  obtain ⟨b, hb⟩ : ∃ b, b = ownB o := ⟨_, rfl⟩
  rw [← hb]
  unfold ownB at hb
  by_cases h1 : 0 ≤ o
  · by_cases h2 : o < 63
    · obtain rfl : b = true := by rw [hb]; simp [h1, h2]
      clear hb
      go_enter Try.func75, Try.ntmps75
      go_wp2
      go_ret
      exact ⟨rfl, rfl⟩
    · obtain rfl : b = false := by rw [hb]; simp [h2]
      clear hb
      go_enter Try.func75, Try.ntmps75
      go_wp2
      go_ret
      exact ⟨rfl, rfl⟩
  · obtain rfl : b = false := by rw [hb]; simp [h1]
    clear hb
    go_enter Try.func75, Try.ntmps75
    go_wp2
    go_ret
    exact ⟨rfl, rfl⟩

set_option maxRecDepth 100000 in
theorem owner_any {P O R : Nat} {s : St} {w : World} (h : AIs P O R s w) (p : Int) :
    Calls Try.prog 80 #[.pointer (some ⟨P, 0, none⟩), .int .i64 p] w fun e w' => e = .returned (.int .i64 (ownerOf s.ow p)) ∧ w = w' := by
  have hP : w.cell? ⟨P, 1, none⟩ = some (.slice (some ⟨O, 0, none⟩) s.ow.length s.ow.length) := h.head.cell rfl
  have hcase : p < 0 ∨ (0 ≤ p ∧ (s.ow.length : Int) ≤ p) ∨ ∃ k : Nat, p = k ∧ k < s.ow.length := by
    by_cases h1 : p < 0
    · exact .inl h1
    · by_cases h2 : (s.ow.length : Int) ≤ p
      · exact .inr (.inl ⟨by omega, h2⟩)
      · exact .inr (.inr ⟨p.toNat, by omega, by omega⟩)
  rcases hcase with h1 | ⟨h1, h2⟩ | ⟨k, rfl, hk⟩
  · rw [ownerOf_out (.inl h1)]
    clear h hP
    go_enter Try.func80, Try.ntmps80
    go_wp2
    go_ret
    exact ⟨rfl, rfl⟩
  · rw [ownerOf_out (.inr h2)]
    clear h
    go_enter Try.func80, Try.ntmps80
    go_wp2
    go_ret
    exact ⟨rfl, rfl⟩
  · obtain ⟨z, hz⟩ : ∃ z, s.ow[k]? = some z := ⟨_, List.getElem?_eq_getElem hk⟩
    rw [ownerOf_at hz]
    have hO : w.cell? ⟨O, k, none⟩ = some (.int .i64 z) := h.own.cell (ic_at hz)
    clear h hz
    generalize s.ow.length = n at *
    go_enter Try.func80, Try.ntmps80
    go_wp2
    go_ret
    exact ⟨rfl, rfl⟩

def grB (ow : List Int) (p : Int) : Bool := ownerOf ow p != -1

set_option maxRecDepth 100000 in
theorem granted_any {P O R : Nat} {s : St} {w : World} (h : AIs P O R s w) (p : Int) :
    Calls Try.prog 60 #[.pointer (some ⟨P, 0, none⟩), .int .i64 p] w fun e w' => e = .returned (.bool (grB s.ow p)) ∧ w = w' := by
  have hc := owner_any h p
  unfold grB
  generalize ownerOf s.ow p = z at *
  clear h
  go_enter Try.func60, Try.ntmps60
  go_wp2_with fail
  refine hc.mono ?_
  rintro e w' ⟨rfl, rfl⟩
  clear hc
  go_wp2_with fail
  go_ret
  exact ⟨rfl, rfl⟩

set_option maxRecDepth 100000 in
theorem page_size {P O R : Nat} {s : St} {w : World} (h : AIs P O R s w) :
    Calls Try.prog 32 #[.pointer (some ⟨P, 0, none⟩)] w fun e w' => e = .returned (.int .i64 (s.size : Int)) ∧ w = w' := by
  have hP : w.cell? ⟨P, 0, none⟩ = some (.int .i64 (s.size : Int)) := h.head.cell rfl
  clear h
  generalize s.size = n at *
  go_enter Try.func32, Try.ntmps32
  go_wp2
  go_ret
  exact ⟨rfl, rfl⟩
end Go.Proofs.Ytldfpacdlephcaa
