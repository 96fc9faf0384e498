/-
  (*Arena).Pages at this program: a row of the call's own, of the owner's pages, rising. No conditions.
-/
import Derived.Test.YtldfpacdlephcaaArenaNew
namespace Go.Proofs.Ytldfpacdlephcaa
open Go Go.RowKit Go.Lib

/-- Those of the first k pages that are o's. -/
def pagesTo (ow : List Int) (o : Int) : Nat → List Int
  | 0 => []
  | k + 1 => if ow[k]? = some o then pagesTo ow o k ++ [(k : Int)] else pagesTo ow o k
theorem pagesTo_len (ow : List Int) (o : Int) : ∀ k, (pagesTo ow o k).length ≤ k
  | 0 => by simp [pagesTo]
  | k + 1 => by
    have := pagesTo_len ow o k
    unfold pagesTo
    split
    · rw [List.length_append]; simp; omega
    · omega
theorem pagesTo_hit {ow : List Int} {o z : Int} {k : Nat} (h : ow[k]? = some z) (e : z = o) : pagesTo ow o (k + 1) = pagesTo ow o k ++ [(k : Int)] := by
  rw [pagesTo, if_pos (by rw [h, e])]
theorem pagesTo_miss {ow : List Int} {o z : Int} {k : Nat} (h : ow[k]? = some z) (e : ¬ z = o) : pagesTo ow o (k + 1) = pagesTo ow o k := by
  rw [pagesTo, if_neg (by rw [h]; simpa using e)]
/-- The owner's pages. -/
def pagesOf (ow : List Int) (o : Int) : List Int := if 0 ≤ o then pagesTo ow o ow.length else []
theorem pagesTo_none {ow : List Int} {o : Int} (h : ∀ z ∈ ow, z ≠ o) : ∀ k, pagesTo ow o k = []
  | 0 => rfl
  | k + 1 => by
    rw [pagesTo, if_neg, pagesTo_none h k]
    intro e
    exact h o (List.mem_of_getElem? e) rfl
theorem pagesOf_bad {s : St} (h : s.Ok) {o : Int} (ho : ownB o = false) : pagesOf s.ow o = [] := by
  unfold ownB at ho
  rw [decide_eq_false_iff_not] at ho
  unfold pagesOf
  split
  · exact pagesTo_none (fun z hz => by have := (h.ow z hz).2; omega) _
  · rfl
theorem ic_one (ps : List Int) (k : Int) : ic ps ++ [Value.int .i64 k] = ic (ps ++ [k]) := by simp [ic]

end Go.Proofs.Ytldfpacdlephcaa
