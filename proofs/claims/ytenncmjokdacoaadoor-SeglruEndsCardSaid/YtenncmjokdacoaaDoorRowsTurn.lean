/-
  What goes in at the front comes out at the end in order: the statement, walked. No conditions.
-/
import Derived.Test.YtenncmjokdacoaaDoorRowsMoves
import Derived.Maps.AppendAt
namespace Go.Proofs.YtenncmjokdacoaaDoor
open Go Go.RowKit Go.Lib

/-- The three rows behind these were put. -/
def TL (bk : Bool) (ins : List Int) : List (List Int) := [[], if bk then ins else ins.reverse, []]
theorem TL_flat (bk : Bool) (ins : List Int) : (TL bk ins).flatten = if bk then ins else ins.reverse := by cases bk <;> simp [TL]
theorem TL_mem {bk : Bool} {ins : List Int} {z : Int} : z ∈ (TL bk ins).flatten ↔ z ∈ ins := by rw [TL_flat]; cases bk <;> simp
theorem TL_row (bk : Bool) {ins : List Int} (z : Int) (hg : GoodL (TL bk ins)) : rv (rowOf (TL bk ins) z) = if z ∈ ins then 1 else -1 := by
  by_cases h : z ∈ ins
  · rw [if_pos h, rowOf_at (i := 1) (l := if bk then ins else ins.reverse) hg.nd rfl (by cases bk <;> simpa using h)]; rfl
  · rw [if_neg h, rowOf_none'.2 (fun e => h (TL_mem.1 e))]; rfl
theorem TL_may {bk : Bool} {ins : List Int} {z : Int} (h0 : 0 ≤ z) (h1 : z ≤ 4194303) : May (TL bk ins).length 1 z := ⟨by omega, (by show (1 : Int) < ((3 : Nat) : Int); decide), h0, h1⟩
theorem TL_back {ins : List Int} {z : Int} (h0 : 0 ≤ z) (h1 : z ≤ 4194303) (hz : z ∉ ins) : opBack (TL true ins) 1 z = TL true (ins ++ [z]) := by
  rw [opBack_yes (TL_may h0 h1)]
  unfold backL
  rw [take_no (fun e => hz (TL_mem.1 e))]; rfl
theorem TL_front {ins : List Int} {z : Int} (h0 : 0 ≤ z) (h1 : z ≤ 4194303) (hz : z ∉ ins) : opFront (TL false ins) 1 z = TL false (ins ++ [z]) := by
  rw [opFront_yes (TL_may h0 h1)]
  unfold frontL
  rw [take_no (fun e => hz (TL_mem.1 e))]
  show [[], z :: ins.reverse, []] = [[], (ins ++ [z]).reverse, []]
  rw [List.reverse_append]; rfl
theorem TL_take {bk : Bool} {z : Int} {r : List Int} (hg : GoodL (TL bk (z :: r))) : takeL (TL bk (z :: r)) z = TL bk r ∧ (rowOf (TL bk (z :: r)) z).isSome = true := by
  constructor
  · cases bk with
    | true => rw [take_split (i := 1) (a := []) (b := r) hg.nd rfl]; rfl
    | false => rw [take_split (i := 1) (a := r.reverse) (b := []) hg.nd (by show some (z :: r).reverse = _; rw [List.reverse_cons])]; simp [TL]
  · rw [rowOf_at (i := 1) (l := if bk then z :: r else (z :: r).reverse) hg.nd rfl (by cases bk <;> simp)]; rfl
theorem TL_ends (bk : Bool) (z : Int) (r : List Int) : (if bk then firstOf (rowAt (TL bk (z :: r)) 1) else lastOf (rowAt (TL bk (z :: r)) 1)) = z := by
  cases bk
  · show lastOf (z :: r).reverse = z
    unfold lastOf; rw [List.getLast?_reverse]; rfl
  · rfl
theorem TL_len (bk : Bool) (ins : List Int) : (rowAt (TL bk ins) 1).length = ins.length := by
  cases bk
  · show ins.reverse.length = _; rw [List.length_reverse]
  · rfl
theorem TL_len0 (bk : Bool) (ins : List Int) : (rowAt (TL bk ins) 0).length = 0 := rfl
theorem TL_nil (bk : Bool) : firstOf (rowAt (TL bk []) 1) = -1 ∧ lastOf (rowAt (TL bk []) 1) = -1 := by cases bk <;> exact ⟨rfl, rfl⟩
theorem own_only {D : Nat → Prop} {w w' : World} {base : Nat} {e : TypeId} {v : Value} {n : Nat} {xs : List Value} (h : w.ownsRow base e 1 v n xs) (ho : Only D w w') (hd : ∀ b, v.ownBlock = some b → ¬ D b) : w'.ownsRow base e 1 v n xs := by
  refine ⟨h.1, ?_⟩
  rcases h.2 with hn | ⟨g, cap, cur, hv, hb, hg, rest⟩
  · exact .inl hn
  · refine .inr ⟨g, cap, cur, hv, hb, ?_, rest⟩
    rw [ho.block g (Array.getElem?_eq_some_iff.1 hg).1 (hd g (by rw [hv]; rfl))]
    exact hg
theorem own_base_le {w : World} {base : Nat} {e : TypeId} {v : Value} {n : Nat} {xs : List Value} (h : w.ownsRow base e 1 v n xs) {b : Nat} (hb : v.ownBlock = some b) : base ≤ b ∧ b < w.heap.size := by
  rcases h.2 with ⟨rfl, _⟩ | ⟨g, cap, cur, rfl, h1, hg, _⟩
  · simp [Value.ownBlock] at hb
  · obtain rfl : g = b := by simpa [Value.ownBlock] using hb
    exact ⟨h1, (Array.getElem?_eq_some_iff.1 hg).1⟩
/-- What the append leaves of rows and slice. -/
theorem has_append {w1 w w' : World} {P : Nat} {L : List (List Int)} {v v' : Value} {n m : Nat} {xs ys : List Value} {o : Obj} (h : HasR w1 P L (fun x => v.ownBlock = some x) w) (hv : w.ownsRow w1.heap.size 3 1 v n xs)
    (hg : (w.alloc o).grownBy w' v.ownBlock) (hv' : w'.ownsRow w1.heap.size 3 1 v' m ys) (hl : v'.ownBlock = v.ownBlock ∨ v'.ownBlock = some (w.alloc o).heap.size) : HasR w1 P L (fun x => v'.ownBlock = some x) w' := by
  have h1 : HasR w1 P L (fun x => v.ownBlock = some x) (w.alloc o) := h.after ((Below.refl _ _).alloc (Nat.le_refl _) o)
  refine h1.turn ⟨hg.os, hg.tape, hg.output, hg.size, fun k hk hn => hg.block k hk (fun e => hn e.symm)⟩ (fun x hx => (own_base_le hv hx).1) (fun x hx => ⟨?_, (own_base_le hv' hx).2⟩)
  rcases hl with e | e
  · exact .inl (e.symm.trans hx)
  · rw [e] at hx; exact .inr (by rw [Option.some.inj hx]; exact Nat.le_refl _)

end Go.Proofs.YtenncmjokdacoaaDoor
