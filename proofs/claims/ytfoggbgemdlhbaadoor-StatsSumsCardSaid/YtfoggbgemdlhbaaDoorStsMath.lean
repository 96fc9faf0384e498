/-
  Plain mathematics of what is counted (S1), no program in it: eighteen counts by their places in the document's order, what a command and its answer add, and the lines that tell them. No conditions.
-/
import Derived.Test.YtfoggbgemdlhbaaDoorBaseA
namespace Go.Proofs.YtfoggbgemdlhbaaDoor.Sc
open Go

abbrev M64 : Nat := 18446744073709551616
def up (f : Nat → Nat) (k v : Nat) : Nat → Nat := fun i => if i = k then v else f i
def inc (f : Nat → Nat) (k : Nat) : Nat → Nat := up f k ((f k + 1) % 18446744073709551616)
def loss (f : Nat → Nat) (z : Int) : Nat → Nat := if 0 < z then up f 17 ((f 17 + z.toNat) % 18446744073709551616) else f
def tri (f : Nat → Nat) (k m : Nat) (st hit : Int) : Nat → Nat := if st = hit then inc f k else if st = 5 then inc f m else f
def bad (f : Nat → Nat) (st : Int) : Nat → Nat := if st = 4 then inc f 13 else f
def getC (f : Nat → Nat) (st : Int) : Nat → Nat := if st = 1 then inc (inc f 0) 4 else inc (inc f 0) 5
def stoC (f : Nat → Nat) (st : Int) (hc : Bool) : Nat → Nat := if hc = true then bad (tri (inc f 1) 12 14 st 2) st else inc f 1
def matC (f : Nat → Nat) (st : Int) (dn : Bool) : Nat → Nat := if dn = true then tri f 10 11 st 6 else tri f 8 9 st 6
def opC (f : Nat → Nat) (op st : Int) (hc dn : Bool) : Nat → Nat :=
  if op = 1 then getC f st else if op = 2 then stoC f st hc else if op = 3 then matC f st dn else if op = 4 then tri (inc f 2) 15 16 st 8 else if op = 5 then tri f 6 7 st 9 else if op = 6 then inc f 3 else f
def cnt (f : Nat → Nat) (op st : Int) (hc dn : Bool) (z : Int) : Nat → Nat := if st < 1 ∨ 12 < st then f else opC (loss f z) op st hc dn

def Ok (f : Nat → Nat) : Prop := ∀ i, f i < 18446744073709551616
theorem Ok.up {f : Nat → Nat} (h : Ok f) (k : Nat) {v : Nat} (hv : v < 18446744073709551616) : Ok (up f k v) := fun i => by
  unfold Sc.up; split
  · exact hv
  · exact h i
theorem Ok.inc {f : Nat → Nat} (h : Ok f) (k : Nat) : Ok (inc f k) := h.up k (Nat.mod_lt _ (by decide))
theorem Ok.tri {f : Nat → Nat} (h : Ok f) (k m : Nat) (st hit : Int) : Ok (tri f k m st hit) := by
  unfold Sc.tri; split
  · exact h.inc _
  · split
    · exact h.inc _
    · exact h
theorem Ok.loss {f : Nat → Nat} (h : Ok f) (z : Int) : Ok (loss f z) := by
  unfold Sc.loss; split
  · exact h.up _ (Nat.mod_lt _ (by decide))
  · exact h
theorem Ok.bad {f : Nat → Nat} (h : Ok f) (st : Int) : Ok (bad f st) := by
  unfold Sc.bad; split
  · exact h.inc _
  · exact h
theorem Ok.opC {f : Nat → Nat} (h : Ok f) (op st : Int) (hc dn : Bool) : Ok (opC f op st hc dn) := by
  unfold Sc.opC
  split
  · unfold getC; split <;> exact (h.inc _).inc _
  · split
    · unfold stoC; split
      · exact ((h.inc _).tri _ _ _ _).bad _
      · exact h.inc _
    · split
      · unfold matC; split <;> exact h.tri _ _ _ _
      · split
        · exact (h.inc _).tri _ _ _ _
        · split
          · exact h.tri _ _ _ _
          · split
            · exact h.inc _
            · exact h
theorem Ok.cnt {f : Nat → Nat} (h : Ok f) (op st : Int) (hc dn : Bool) (z : Int) : Ok (cnt f op st hc dn z) := by
  unfold Sc.cnt; split
  · exact h
  · exact (h.loss z).opC _ _ _ _
def none0 : Nat → Nat := fun _ => 0
theorem ok0 : Ok none0 := fun _ => (by decide : 0 < 18446744073709551616)

/-- The names, in the document's order. -/
def nm : List (List UInt8) := [[99, 109, 100, 95, 103, 101, 116], [99, 109, 100, 95, 115, 101, 116], [99, 109, 100, 95, 116, 111, 117, 99, 104], [99, 109, 100, 95, 102, 108, 117, 115, 104], [103, 101, 116, 95, 104, 105, 116, 115], [103, 101, 116, 95, 109, 105, 115, 115, 101, 115], [100, 101, 108, 101, 116, 101, 95, 104, 105, 116, 115], [100, 101, 108, 101, 116, 101, 95, 109, 105, 115, 115, 101, 115], [105, 110, 99, 114, 95, 104, 105, 116, 115], [105, 110, 99, 114, 95, 109, 105, 115, 115, 101, 115], [100, 101, 99, 114, 95, 104, 105, 116, 115], [100, 101, 99, 114, 95, 109, 105, 115, 115, 101, 115], [99, 97, 115, 95, 104, 105, 116, 115], [99, 97, 115, 95, 98, 97, 100, 118, 97, 108], [99, 97, 115, 95, 109, 105, 115, 115, 101, 115], [116, 111, 117, 99, 104, 95, 104, 105, 116, 115], [116, 111, 117, 99, 104, 95, 109, 105, 115, 115, 101, 115], [101, 118, 105, 99, 116, 105, 111, 110, 115]]
def ln (x : List UInt8) (n : Nat) : List UInt8 := [83, 84, 65, 84, 32] ++ x ++ [32] ++ Lib.decDigits n
def lns (f : Nat → Nat) : List (List UInt8) := (List.range 18).map fun i => ln (nm[i]?.getD []) (f i)
theorem nm_len : nm.length = 18 := rfl
theorem lns_len (f : Nat → Nat) : (lns f).length = 18 := by unfold lns; simp
theorem lns_at (f : Nat → Nat) {i : Nat} (h : i < 18) : (lns f)[i]? = some (ln (nm[i]?.getD []) (f i)) := by
  unfold lns; rw [List.getElem?_map, List.getElem?_range h]; rfl
end Go.Proofs.YtfoggbgemdlhbaaDoor.Sc
