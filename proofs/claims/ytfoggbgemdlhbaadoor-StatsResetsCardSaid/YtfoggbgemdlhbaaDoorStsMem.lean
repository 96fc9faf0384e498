/-
  The program's Stats and the document's own in memory, and Count of both (S1). Conditions: the counts lie in one block, each below 2^64.
-/
import Derived.Test.YtfoggbgemdlhbaaDoorStsMath
import Derived.Test.YtfoggbgemdlhbaaDoorNumsC
import Derived.Test.YtfoggbgemdlhbaaDoorArenaBase
import Derived.Lib.Hide
import Derived.BigRegion
namespace Go.Proofs.YtfoggbgemdlhbaaDoor.Sc
open Go Go.RowKit Go.Lib

theorem hidc {p : Prop} (h : p) : Hid p := h
def u (n : Nat) : Value := .int .u64 (n : Int)
/-- The program's cells: its order. -/
def pc (f : Nat → Nat) : List Value := [u (f 0), u (f 1), u (f 2), u (f 3), u (f 4), u (f 5), u (f 6), u (f 7), u (f 8), u (f 9), u (f 10), u (f 11), u (f 12), u (f 14), u (f 15), u (f 16), u (f 13), u (f 17)]
def rc (f : Nat → Nat) : List Value := [u (f 0), u (f 1), u (f 2), u (f 3), u (f 4), u (f 5), u (f 6), u (f 7), u (f 8), u (f 9), u (f 10), u (f 11), u (f 12), u (f 13), u (f 14), u (f 15), u (f 16), u (f 17)]
def SP (P : Nat) (f : Nat → Nat) (w : World) : Prop := Ok f ∧ Blk w P 50 (pc f)
def SR (P : Nat) (f : Nat → Nat) (w : World) : Prop := Ok f ∧ Blk w P 31 (rc f)
theorem wrap_inc (n : Nat) : IntKind.u64.wrap ((n : Int) + 1) = (((n + 1) % 18446744073709551616 : Nat) : Int) := by
  rw [IntKind.wrap_u64]; omega
theorem SP.only {D : Nat → Prop} {P : Nat} {f : Nat → Nat} {w w' : World} (h : SP P f w) (ho : Only D w w') (hd : ¬ D P) : SP P f w' := ⟨h.1, h.2.only ho hd⟩
theorem SR.only {D : Nat → Prop} {P : Nat} {f : Nat → Nat} {w w' : World} (h : SR P f w) (ho : Only D w w') (hd : ¬ D P) : SR P f w' := ⟨h.1, h.2.only ho hd⟩
theorem SP.below {P : Nat} {f : Nat → Nat} {w w' : World} (h : SP P f w) (ho : Below w.heap.size w w') : SP P f w' := ⟨h.1, h.2.below ho⟩
theorem SR.below {P : Nat} {f : Nat → Nat} {w w' : World} (h : SR P f w) (ho : Below w.heap.size w w') : SR P f w' := ⟨h.1, h.2.below ho⟩
theorem u_inc (n : Nat) : (Value.int .u64 (IntKind.u64.wrap ((n : Int) + 1))) = u ((n + 1) % 18446744073709551616) := by rw [wrap_inc]; rfl
/-- What one store leaves. -/
theorem stored {w : World} {P : Nat} {t : TypeId} {cs ds : List Value} {i : Nat} {x : Value} (h : Blk w P t cs) (e : cs.set i x = ds) : Blk (w.setCell ⟨P, i, none⟩ x) P t ds ∧ Only (fun b => b = P) w (w.setCell ⟨P, i, none⟩ x) :=
  ⟨by rw [← e]; exact h.set i x, (Only.refl (fun b => b = P) w).setCell (p := ⟨P, i, none⟩) (.inl rfl) x⟩

def triC (cs : List Value) (o h m : Nat) (st hit : Int) : List Value :=
  if st = hit then cs.set o (u ((h + 1) % 18446744073709551616)) else if st = 5 then cs.set (o + 1) (u ((m + 1) % 18446744073709551616)) else cs

set_option maxRecDepth 100000 in
theorem tries_any {P o : Nat} {T : TypeId} {cs : List Value} {h m : Nat} {w : World} (hP : Blk w P T cs) (hh : cs[o]? = some (u h)) (hm : cs[o + 1]? = some (u m)) (st hit : Int) :
    Calls Tryd.prog 18 #[.pointer (some ⟨P, o, none⟩), .int .i64 st, .int .i64 hit] w fun e w' => e = .returned (.tuple #[]) ∧ Blk w' P T (triC cs o h m st hit) ∧ Only (fun b => b = P) w w' := by
  have c0 := hP.cell hh
  have c1 := hP.cell hm
  have f0 := hP.frozen o
  have f1 := hP.frozen (o + 1)
  unfold u at c0 c1
  unfold triC
  by_cases h1 : st = hit
  · have e1 : (if st = hit then cs.set o (u ((h + 1) % 18446744073709551616)) else if st = 5 then cs.set (o + 1) (u ((m + 1) % 18446744073709551616)) else cs) = cs.set o (u ((h + 1) % 18446744073709551616)) := if_pos h1
    have HB := hidc (stored hP (i := o) (x := .int .u64 (IntKind.u64.wrap ((h : Int) + 1))) (by rw [u_inc]))
    rw [e1]
    clear e1 hP c1 hh hm
    subst h1
    go_enter Tryd.func18, Tryd.ntmps18
    go_wp2_with fail
    go_end0
    exact ⟨rfl, HB.out⟩
  · by_cases h2 : st = 5
    · have e1 : (if st = hit then cs.set o (u ((h + 1) % 18446744073709551616)) else if st = 5 then cs.set (o + 1) (u ((m + 1) % 18446744073709551616)) else cs) = cs.set (o + 1) (u ((m + 1) % 18446744073709551616)) := (if_neg h1).trans (if_pos h2)
      have HB := hidc (stored hP (i := o + 1) (x := .int .u64 (IntKind.u64.wrap ((m : Int) + 1))) (by rw [u_inc]))
      rw [e1]
      clear e1 hP c0 hh hm
      subst h2
      go_enter Tryd.func18, Tryd.ntmps18
      go_wp2_with fail
      go_end0
      exact ⟨rfl, HB.out⟩
    · have e1 : (if st = hit then cs.set o (u ((h + 1) % 18446744073709551616)) else if st = 5 then cs.set (o + 1) (u ((m + 1) % 18446744073709551616)) else cs) = cs := (if_neg h1).trans (if_neg h2)
      have HB := hidc (show Blk w P T cs ∧ Only (fun b => b = P) w w from ⟨hP, Only.refl _ w⟩)
      clear hP c0 c1 hh hm
      rw [e1]
      clear e1
      go_enter Tryd.func18, Tryd.ntmps18
      go_wp2_with fail
      go_end0
      exact ⟨rfl, HB.out⟩
end Go.Proofs.YtfoggbgemdlhbaaDoor.Sc
