/-
  A request in memory: its cells, its commands' row. No conditions.
-/
import Derived.Test.YtggeccndmmmnjaaDoorTxOff
import Derived.Laws.OwnMore
import Derived.Deep.DeepCutAuto
import Derived.Deep.CutBlock
namespace Go.Proofs.YtggeccndmmmnjaaDoor.Tx
open Go Go.RowKit Go.Lib Md

/-! A request as a value -/
def ccs (l : List Cm) : List Value := l.flatMap cc
theorem cc_len (c : Cm) : (cc c).length = 16 := rfl
theorem ccs_cons (c : Cm) (l : List Cm) : ccs (c :: l) = cc c ++ ccs l := rfl
theorem ccs_append (l m : List Cm) : ccs (l ++ m) = ccs l ++ ccs m := by unfold ccs; rw [List.flatMap_append]
theorem ccs_one (c : Cm) : ccs [c] = cc c := by show cc c ++ [] = _; rw [List.append_nil]
theorem ccs_len (l : List Cm) : (ccs l).length = l.length * 16 := by
  induction l with
  | nil => rfl
  | cons x l ih => rw [ccs_cons, List.length_append, cc_len, ih, List.length_cons]; omega
theorem ccs_at {l : List Cm} {i j : Nat} {x : Cm} {u : Value} (h : l[i]? = some x) (hj : (cc x)[j]? = some u) : (ccs l)[i * 16 + j]? = some u := by
  have hj16 : j < 16 := by have := (List.getElem?_eq_some_iff.1 hj).1; rwa [cc_len] at this
  induction l generalizing i with
  | nil => simp at h
  | cons y l ih =>
    rw [ccs_cons]
    cases i with
    | zero =>
      have : y = x := by simpa using h
      subst this
      rw [Nat.zero_mul, Nat.zero_add, List.getElem?_append_left (by rw [cc_len]; exact hj16)]; exact hj
    | succ i =>
      rw [List.getElem?_append_right (by rw [cc_len]; omega), cc_len, show (i + 1) * 16 + j - 16 = i * 16 + j by omega]
      exact ih (by simpa using h)
theorem cc_ok (c : Cm) : ∀ u ∈ cc c, u.oneCell' = true := by
  intro u hu
  simp only [cc, List.mem_cons, List.not_mem_nil, or_false] at hu
  rcases hu with rfl | rfl | rfl | rfl | rfl | rfl | rfl | rfl | rfl | rfl | rfl | rfl | rfl | rfl | rfl | rfl <;> rfl
/-- A slice of commands that can be read, in blocks from n₀ on. -/
def Cms (n₀ : Nat) (w : World) (v : Value) (l : List Cm) : Prop :=
  ∃ a c, v = .slice a l.length c ∧ l.length ≤ c ∧ (∀ b o p, a = some ⟨b, o, p⟩ → n₀ ≤ b ∧ b < w.heap.size) ∧ ∀ i x, l[i]? = some x → ∃ b o, a = some ⟨b, o, none⟩ ∧ ∀ j u, (cc x)[j]? = some u → w.cell? ⟨b, o + i * 16 + j, none⟩ = some u
theorem cms_row {w : World} {n₀ : Nat} {v : Value} {l : List Cm} (h : w.ownsRow n₀ 35 16 v l.length (ccs l)) : Cms n₀ w v l := by
  have hlt := h.lt
  have hcs := @World.ownsRow.cells _ _ _ _ _ _ _ h
  rcases h.2 with ⟨rfl, h0⟩ | ⟨g, cap, cur, rfl, hb, hg, hcap, _⟩
  · refine ⟨none, 0, by rw [h0], by omega, fun b o p e => (by cases e), fun i x hi => ?_⟩
    rw [List.eq_nil_of_length_eq_zero h0] at hi; simp at hi
  · refine ⟨some ⟨g, 0, none⟩, cap, rfl, hcap, fun b o p e => ?_, fun i x hi => ⟨g, 0, rfl, fun j u hj => ?_⟩⟩
    · cases e; exact ⟨hb, (hlt g rfl).2⟩
    · have := hcs rfl (i * 16 + j) u (ccs_at hi hj)
      rw [addr_plain] at this
      rw [show 0 + i * 16 + j = 0 + (i * 16 + j) by omega]; exact this
theorem Cms.only {D : Nat → Prop} {n₀ : Nat} {w w' : World} {v : Value} {l : List Cm} (h : Cms n₀ w v l) (ho : Only D w w') (hd : ∀ b, n₀ ≤ b → b < w.heap.size → ¬ D b) : Cms n₀ w' v l := by
  obtain ⟨a, c, hv, hc, hb, hx⟩ := h
  refine ⟨a, c, hv, hc, fun b o p e => ⟨(hb b o p e).1, Nat.lt_of_lt_of_le (hb b o p e).2 ho.size⟩, fun i x hi => ?_⟩
  obtain ⟨b, o, e, hcs⟩ := hx i x hi
  refine ⟨b, o, e, fun j u hj => ?_⟩
  have hlt := (hb b o none e).2
  exact (ho.cell (p := ⟨b, o + i * 16 + j, none⟩) hlt (hd b (hb b o none e).1 hlt)).trans (hcs j u hj)
theorem Cms.below {n₀ : Nat} {w w' : World} {v : Value} {l : List Cm} (h : Cms n₀ w v l) (hb : Below w.heap.size w w') : Cms n₀ w' v l := h.only (D := fun _ => False) (Below.only hb) (fun _ _ _ e => e)
theorem Cms.mono {n₀ n₁ : Nat} {w : World} {v : Value} {l : List Cm} (h : Cms n₀ w v l) (hn : n₁ ≤ n₀) : Cms n₁ w v l := by
  obtain ⟨a, c, hv, hc, hb, hx⟩ := h
  exact ⟨a, c, hv, hc, fun b o p e => ⟨Nat.le_trans hn (hb b o p e).1, (hb b o p e).2⟩, hx⟩
def rqc (q : Rq) (v : Value) : List Value := [.int .i64 q.kind, v, .bool q.quiet, .bool q.tokens, .string (S q.reply), .string (S q.arg), .int .i64 (q.skip : Int), .bool q.close, .string ⟨#[]⟩, .slice none 0 0, .string ⟨#[]⟩]
/-- The value is the request, its commands lying in blocks from n₀ on. -/
def IsRq (n₀ : Nat) (q : Rq) (v : Value) (w : World) : Prop := ∃ cs, v = .agg (rqc q cs).toArray ∧ Cms n₀ w cs q.cmds
theorem cms_nil (n₀ : Nat) (w : World) : Cms n₀ w (.slice none 0 0) [] := ⟨none, 0, rfl, Nat.le_refl _, fun _ _ _ e => (by cases e), fun i x h => (by simp at h)⟩
theorem hvs {n₀ : Nat} {w : World} {v : Value} {l : List Cm} (h : Cms n₀ w v l) : ∃ a n c, v = .slice a n c := ⟨h.choose, l.length, h.choose_spec.choose, h.choose_spec.choose_spec.1⟩
theorem rq_ok (q : Rq) {v : Value} (h : ∃ a n c, v = .slice a n c) : ∀ u ∈ rqc q v, u.oneCell' = true := by
  obtain ⟨a, n, c, rfl⟩ := h
  intro u hu
  simp only [rqc, List.mem_cons, List.not_mem_nil, or_false] at hu
  rcases hu with rfl | rfl | rfl | rfl | rfl | rfl | rfl | rfl | rfl | rfl | rfl <;> rfl
theorem cms_one {n₀ B : Nat} {w : World} {t : TypeId} {x : Cm} (h : Blk w B t (cc x)) (hn : n₀ ≤ B) : Cms n₀ w (.slice (some ⟨B, 0, none⟩) 1 1) [x] :=
  ⟨some ⟨B, 0, none⟩, 1, rfl, Nat.le_refl _, fun b o p e => (by cases e; exact ⟨hn, h.lt⟩), fun i y hi => by
    have h0 : i = 0 := by have := (List.getElem?_eq_some_iff.1 hi).1; simpa using this
    subst h0
    have : x = y := by simpa using hi
    subst this
    exact ⟨B, 0, rfl, fun j u hj => by rw [show 0 + 0 * 16 + j = j by omega]; exact h.cell hj⟩⟩
end Go.Proofs.YtggeccndmmmnjaaDoor.Tx
