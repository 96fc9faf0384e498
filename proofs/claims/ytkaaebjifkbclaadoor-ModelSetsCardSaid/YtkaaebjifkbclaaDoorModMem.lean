/-
  A slice of items that can be read; states, commands and answers as values. No program is run in it. No conditions.
-/
import Derived.Test.YtkaaebjifkbclaaDoorModFit
import Derived.Test.YtkaaebjifkbclaaDoorItemRight
namespace Go.Proofs.YtkaaebjifkbclaaDoor.Md
open Go Go.RowKit Go.Lib

/-! Rows of items as cells -/
def ics (l : List It) : List Value := l.flatMap It.cells
theorem cells_len (x : It) : x.cells.length = 8 := rfl
theorem ics_nil : ics [] = [] := rfl
theorem ics_cons (x : It) (l : List It) : ics (x :: l) = x.cells ++ ics l := rfl
theorem ics_app (a b : List It) : ics (a ++ b) = ics a ++ ics b := by unfold ics; exact List.flatMap_append
theorem ics_len (l : List It) : (ics l).length = l.length * 8 := by
  induction l with
  | nil => rfl
  | cons x l ih => rw [ics_cons, List.length_append, cells_len, ih, List.length_cons]; omega
theorem ics_at {l : List It} {i j : Nat} {x : It} {u : Value} (h : l[i]? = some x) (hj : x.cells[j]? = some u) : (ics l)[i * 8 + j]? = some u := by
  have hj8 : j < 8 := by have := (List.getElem?_eq_some_iff.1 hj).1; rwa [cells_len] at this
  induction l generalizing i with
  | nil => simp at h
  | cons y l ih =>
    rw [ics_cons]
    cases i with
    | zero =>
      simp at h; subst h
      rw [Nat.zero_mul, Nat.zero_add, List.getElem?_append_left (by rw [cells_len]; exact hj8)]; exact hj
    | succ i =>
      rw [List.getElem?_append_right (by rw [cells_len]; omega), cells_len, show (i + 1) * 8 + j - 8 = i * 8 + j by omega]
      exact ih (by simpa using h)
theorem ics_ok (l : List It) : ∀ u ∈ ics l, u.oneCell' = true := by
  intro u hu
  obtain ⟨x, _, hx⟩ := List.mem_flatMap.1 hu
  simp only [It.cells, List.mem_cons, List.not_mem_nil, or_false] at hx
  rcases hx with rfl | rfl | rfl | rfl | rfl | rfl | rfl | rfl <;> rfl
/-- A slice of items that can be read. -/
def Its (w : World) (v : Value) (l : List It) : Prop :=
  ∃ a c, v = .slice a l.length c ∧ l.length ≤ c ∧ (a = none → c = 0) ∧ ∀ (i : Nat) x, l[i]? = some x → ∃ b o, a = some ⟨b, o, none⟩ ∧ ∀ j u, x.cells[j]? = some u → w.cell? ⟨b, o + i * 8 + j, none⟩ = some u
theorem Its.below {w w' : World} {v : Value} {l : List It} (h : Its w v l) (hb : Below w.heap.size w w') : Its w' v l := by
  obtain ⟨a, c, hv, hc, hn, hx⟩ := h
  refine ⟨a, c, hv, hc, hn, fun i x hi => ?_⟩
  obtain ⟨b, o, ha, hy⟩ := hx i x hi
  refine ⟨b, o, ha, fun j u hj => ?_⟩
  have h1 := hy j u hj
  exact (hb.cell (p := ⟨b, o + i * 8 + j, none⟩) (cell_lt h1)).trans h1
theorem Its.form {w : World} {v : Value} {l : List It} (h : Its w v l) : ∃ a c, v = .slice a l.length c := by obtain ⟨a, c, hv, _⟩ := h; exact ⟨a, c, hv⟩
theorem its_nil (w : World) : Its w (.slice none 0 0) [] := ⟨none, 0, rfl, Nat.le_refl _, fun _ => rfl, fun i x hi => by simp at hi⟩
theorem its_of_row {w : World} {n₀ n : Nat} {v : Value} {l : List It} (h : w.ownsRow n₀ 33 8 v n (ics l)) (hn : n = l.length) : Its w v l := by
  subst hn
  have hcs := @World.ownsRow.cells _ _ _ _ _ _ _ h
  rcases h.2 with ⟨rfl, h0⟩ | ⟨g, cap, cur, rfl, hb, hg, hcap, _⟩
  · refine ⟨none, 0, by rw [h0], by omega, fun _ => rfl, fun j x hj => ?_⟩
    rw [List.eq_nil_of_length_eq_zero h0] at hj; simp at hj
  · refine ⟨some ⟨g, 0, none⟩, cap, rfl, hcap, fun e => (by cases e), fun i x hi => ⟨g, 0, rfl, fun j u hj => ?_⟩⟩
    have h1 := hcs (g := g) rfl (i * 8 + j) u (ics_at hi hj)
    rw [addr_plain] at h1
    rw [← Nat.add_assoc] at h1
    exact h1
/-! Values -/
def Cm.cells (c : Cm) : List Value := [.int .i64 c.op, .int .i64 c.mode, .string c.key, .string c.val, .int .u32 c.flags, .int .i64 c.exp, .bool c.hasExp, .int .u64 c.cas, .bool c.hasCas, .int .u64 c.delta, .int .u64 c.init, .bool c.down, .bool c.viv, .int .i64 c.vive, .int .i64 c.rcc, .bool c.inv]
def Cm.v (c : Cm) : Value := .agg c.cells.toArray
/-- The cells of an answer: its item's stand among them. -/
def An.cells (a : An) : List Value := [.int .i64 a.st, .string a.it.key, .int .u32 a.it.flags, .string a.it.val, .int .i64 a.it.exp, .int .u64 a.it.cas, .int .i64 a.it.last, .bool a.it.stale, .bool a.it.won, .int .u64 a.n, .bool a.w, .bool a.x, .bool a.z]
def An.v (a : An) : Value := .agg a.cells.toArray
def msv (v : Value) (cas : Nat) (fl : Int) : Value := .agg #[v, .int .u64 cas, .int .i64 fl]
/-- A state as a value whose items can be read. -/
def Sv (w : World) (V : Value) (s : Ms) : Prop := ∃ v, V = msv v s.cas s.fl ∧ Its w v s.its
theorem Sv.below {w w' : World} {V : Value} {s : Ms} (h : Sv w V s) (hb : Below w.heap.size w w') : Sv w' V s := by obtain ⟨v, e, k⟩ := h; exact ⟨v, e, k.below hb⟩
end Go.Proofs.YtkaaebjifkbclaaDoor.Md
