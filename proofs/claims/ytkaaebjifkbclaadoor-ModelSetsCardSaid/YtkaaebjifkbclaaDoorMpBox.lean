/-
  Boxes of a law's own beside rows of items. No conditions.
-/
import Derived.Test.YtkaaebjifkbclaaDoorMpState
namespace Go.Proofs.YtkaaebjifkbclaaDoor.Md
open Go Go.RowKit Go.Lib

/-- Boxes and rows. -/
def Bxr (w0 : World) (bs : List (Nat × TypeId × List Value)) (rs : List (Value × List It)) (w : World) : Prop :=
  Bxs w0 bs w ∧ ∀ r ∈ rs, ∃ G, Rw G w r.1 r.2 ∧ ∀ b, G b → (∀ x ∈ bs, x.1 ≠ b) ∧ b < w.heap.size
section
variable {w0 w w' : World} {bs : List (Nat × TypeId × List Value)} {rs : List (Value × List It)}
theorem Bxr.begin (w : World) : Bxr w [] [] w := ⟨Bxs.begin w, fun _ h => (by cases h)⟩
theorem Bxr.step (h : Bxr w0 bs rs w) (hb : Below w.heap.size w w') : Bxr w0 bs rs w' := ⟨h.1.step hb, fun r hm => by
  obtain ⟨G, h1, h2⟩ := h.2 r hm
  exact ⟨G, h1.below hb, fun b hg => ⟨(h2 b hg).1, Nat.lt_of_lt_of_le (h2 b hg).2 hb.size⟩⟩⟩
theorem Bxr.new (h : Bxr w0 bs rs w) (cs : Array Value) (t : TypeId) : Bxr w0 ((w.heap.size, t, cs.toList) :: bs) rs (w.alloc (.cells cs t)) := ⟨h.1.new cs t, fun r hm => by
  obtain ⟨G, h1, h2⟩ := (h.step (abelow w (.cells cs t))).2 r hm
  obtain ⟨G', h3, h4⟩ := h.2 r hm
  refine ⟨G', h3.below (abelow _ _), fun b hg => ⟨fun x hx => ?_, Nat.lt_of_lt_of_le (h4 b hg).2 (abelow w (.cells cs t)).size⟩⟩
  rcases List.mem_cons.1 hx with rfl | hx
  · exact fun e => by have e : w.heap.size = b := e; have := (h4 b hg).2; omega
  · exact (h4 b hg).1 x hx⟩
theorem Bxr.set (h : Bxr w0 bs rs w) (i : Nat) {b : Nat} {t : TypeId} {cs : List Value} (hi : bs[i]? = some (b, t, cs)) {vs : List Value} (hl : vs.length = cs.length) : Bxr w0 (bs.set i (b, t, vs)) rs (stc w b vs 0) := ⟨h.1.set i hi hl, fun r hm => by
  obtain ⟨G, h1, h2⟩ := h.2 r hm
  have ho := stc_only (b := b) vs 0 w
  refine ⟨G, h1.only ho (fun x hx e => (h2 x hx).1 _ (List.mem_of_getElem? hi) e.symm), fun x hx => ⟨fun y hy => ?_, Nat.lt_of_lt_of_le (h2 x hx).2 ho.size⟩⟩
  rcases List.mem_or_eq_of_mem_set hy with hy | rfl
  · exact (h2 x hx).1 y hy
  · show b ≠ x
    exact (h2 x hx).1 (b, t, cs) (List.mem_of_getElem? hi)⟩
theorem Bxr.call (h : Bxr w0 bs rs w) {v : Value} {l : List It} (hr : Rw (fun b => w.heap.size ≤ b ∧ b < w'.heap.size) w' v l) (hb : Below w.heap.size w w') : Bxr w0 bs ((v, l) :: rs) w' := ⟨h.1.step hb, fun r hm => by
  rcases List.mem_cons.1 hm with rfl | hm
  · refine ⟨_, hr, fun b hg => ⟨fun x hx e => ?_, hg.2⟩⟩
    have := (h.1.2.1 x hx).1.lt
    have := hg.1
    omega
  · exact (h.step hb).2 r hm⟩
theorem Bxr.only (h : Bxr w0 bs rs w) {qs : List (Value × List It)} (hq : ∀ r ∈ qs, r ∈ rs) : Bxr w0 bs qs w := ⟨h.1, fun r hm => h.2 r (hq r hm)⟩
theorem Bxr.its (h : Bxr w0 bs rs w) (i : Nat) {v : Value} {l : List It} (hi : rs[i]? = some (v, l)) : Its w v l := by
  obtain ⟨G, h1, _⟩ := h.2 _ (List.mem_of_getElem? hi)
  exact h1.its
theorem its_none (w : World) : Its w (.slice none 0 0) [] := (rw_nil (fun _ => False) w).its
end
/-- Apply beside boxes and rows. -/
theorem apply_bx {w0 w : World} {bs : List (Nat × TypeId × List Value)} {rs : List (Value × List It)} {s s' : Ms} {a : Option Addr} {n ca N B : Nat} {now : Int} {c : Cm} {most : Int} {A : An} (hB : Bxr w0 bs rs w) (hI : Its w (.slice a n ca) s.its) (hF : Fit N B s) (hN : N ≤ 4194304) (hBd : B ≤ 1048576) (ck : c.Ok) (hv : Nu.Vars w0) (hr : apply s now c most = (s', A)) {cs : Array Value} (hA : A.v = .agg cs) :
    Calls Tryd.prog 17 #[.agg #[.slice a n ca, .int .u64 s.cas, .int .i64 s.fl], .int .i64 now, c.v, .int .i64 most] w fun e w' => ∃ a' n' c', e = .returned (.tuple #[.agg #[.slice a' n' c', .int .u64 s'.cas, .int .i64 s'.fl], .agg cs]) ∧ Bxr w0 bs ((.slice a' n' c', s'.its) :: rs) w' := by
  refine (apply_any (most := most) (now := now) hI hF hN hBd ck (hv.below hB.1.1)).mono ?_
  rw [hr, hA]
  rintro e w' ⟨a', n', c', rfl, h1, h2⟩
  exact ⟨a', n', c', rfl, hB.call h1 h2⟩
end Go.Proofs.YtkaaebjifkbclaaDoor.Md
