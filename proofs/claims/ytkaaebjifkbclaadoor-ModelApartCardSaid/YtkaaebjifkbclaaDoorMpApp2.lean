/-
  More plain regions of the laws of stage 16, each in one step: a box of a state, an answer's load, '!=' of two answers that are the same. No conditions.
-/
import Derived.Test.YtkaaebjifkbclaaDoorMpApp
import Derived.Test.YtkaaebjifkbclaaDoorMpSame
namespace Go.Proofs.YtkaaebjifkbclaaDoor.Md
open Go Go.RowKit Go.Lib
section
variable {ops : Array Oper} {Q : Exit → Act → World → Prop} {rest : List Oper} {a : Act} {w w' : World}
/-- A state in a box of its own. -/
theorem newS {w0 : World} {bs : List (Nat × TypeId × List Value)} {rs : List (Value × List It)} {oL oS : Oper} {dL : Nat} {y : Operand} {cs : List Value} (hB : Bxr w0 bs rs w) (gL : oL.guard = none) (tL : oL.dst = some dL) (pL : oL.op = .alloc 25) (gS : oS.guard = none) (tS : oS.dst = none) (pS : oS.op = .store 25 (.tmp dL) y)
    (hy : a.eval y = .agg cs.toArray) (hap : apartX y dL = true) (hsz : ∃ n, a.tmps.size = n ∧ dL < n) (hl : cs.length = 3) (h1 : cs.all (·.oneCell') = true)
    (fin : ∀ b W, Bxr w0 ((b, 25, cs) :: bs) rs W → Q .normal (a.put (some dL) (.pointer (some ⟨b, 0, none⟩))) W) : wpList Tryd.prog ops Q [oL, oS] a w := by
  obtain ⟨n, hn, hd⟩ := hsz
  refine wpList_val (v := .pointer (some ⟨w.heap.size, 0, none⟩)) (w' := w.alloc (.cells zST 25)) gL (by unfold execOp; rw [pL]; dsimp only; kernel_rfl) ?_
  rw [tL]
  have h := hB.new zST 25
  refine wpList_stor (b := w.heap.size) (cs := cs) gS tS pS (put_same _ (by omega) _) (by rw [put_eval _ hap]; exact hy) (h.1.get 0 rfl) (by rw [hl]; rfl) (by rw [hl]; kernel_rfl) h1 ?_
  exact fin _ _ (h.setc 0 (vs := cs) rfl (by rw [hl]; rfl))
theorem loadA {o : Oper} {x : Operand} {b : Nat} {cs : List Value} (hg : o.guard = none) (ho : o.op = .load 35 x) (hx : a.eval x = .pointer (some ⟨b, 0, none⟩)) (hb : Blk w b 35 cs) (hl : cs.length = 13) (h : wpList Tryd.prog ops Q rest (a.put o.dst (.agg cs.toArray)) w) : wpList Tryd.prog ops Q (o :: rest) a w :=
  wpList_load_mid hg 35 x ho b 0 hx cs _ (Blk.range hb) Tryd.underlying35 rfl (by rw [hl]; kernel_rfl) h
theorem neqA {o : Oper} {x y : Operand} {r : TypeId} {A : An} (hg : o.guard = none) (ho : o.op = .binOp .neq 35 x y r) (hx : a.eval x = A.v) (hy : a.eval y = A.v) (h : wpList Tryd.prog ops Q rest (a.put o.dst (.bool false)) w) : wpList Tryd.prog ops Q (o :: rest) a w := by
  refine wpList_val (v := .bool false) (w' := w) hg ?_ h
  unfold execOp
  rw [ho]
  dsimp only
  rw [hx, hy]
  have h1 : (eqGuard .neq 35 x y A.v A.v).run Tryd.prog w = .ok () w := by
    unfold An.v
    kernel_rfl
  simp only [Sem.run_bind, h1, Result.andThen_ok, answer_neq, Sem.run_pure]
end
theorem Bxr.drop1 {w0 w : World} {x : Nat × TypeId × List Value} {bs : List (Nat × TypeId × List Value)} {rs : List (Value × List It)} (h : Bxr w0 (x :: bs) rs w) : Bxr w0 bs rs w :=
  ⟨⟨h.1.1, fun b hb => h.1.2.1 b (List.mem_cons_of_mem _ hb), (List.pairwise_cons.1 h.1.2.2).2⟩, fun r hr => by
    obtain ⟨G, h1, h2⟩ := h.2 r hr
    exact ⟨G, h1, fun b hb => ⟨fun y hy => (h2 b hb).1 y (List.mem_cons_of_mem _ hy), (h2 b hb).2⟩⟩⟩
end Go.Proofs.YtkaaebjifkbclaaDoor.Md
