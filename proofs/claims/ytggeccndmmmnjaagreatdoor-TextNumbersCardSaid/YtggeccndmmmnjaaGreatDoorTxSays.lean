/-
  What Parse and Text say, as plain contracts of one text. Conditions: the package variables hold what they were laid with.
-/
import Derived.Test.YtggeccndmmmnjaaGreatDoorTxSame
import Derived.Test.YtggeccndmmmnjaaGreatDoorTxTexts
import Derived.Deep.MidRow
namespace Go.Proofs.YtggeccndmmmnjaaGreatDoor.Tx
open Go Go.RowKit Go.Lib Md

/-- What Parse of a text says: one command. -/
def Says (s : ByteArray) (c : Cm) (quiet : Bool) (m : Nat) : Prop := ∀ W, Nu.Vars W → Calls Tryz.prog 8 #[.string s] W fun e w' => ∃ cs, e = .returned (.tuple #[.agg (rqc (oneQ c quiet) cs).toArray, .int .i64 (m : Int)]) ∧ Cms W.heap.size w' cs (oneQ c quiet).cmds ∧ Below W.heap.size W w'
/-- What Text says. -/
def Tells (u : Nat) (s : ByteArray) : Prop := ∀ W, Nu.Vars W → Calls Tryz.prog 11 #[.int .u64 (u : Int)] W fun e w' => e = .returned (.string s) ∧ Below W.heap.size W w'

section
variable {ops : Array Oper} {Q : Exit → Act → World → Prop} {rest : List Oper} {a : Act} {w : World}
/-- A whole command is loaded, under a guard that holds. -/
theorem ldG {o : Oper} {x : Operand} {b off : Nat} {cs : List Value} (hw : Region.wanted o (yielded ops a.tmps) = true) (ho : o.op = .load 37 x) (hx : a.eval x = .pointer (some ⟨b, off, none⟩)) (hc : ∀ j u, cs[j]? = some u → w.cell? ⟨b, off + j, none⟩ = some u) (hl : cs.length = 16) (h : wpList Tryz.prog ops Q rest (a.put o.dst (.agg cs.toArray)) w) : wpList Tryz.prog ops Q (o :: rest) a w :=
  wpList_step fun K hK => by
    rw [if_pos hw]
    exact wp_load_mid _ x ho b off hx cs _ hc Tryz.underlying37 rfl (by rw [hl]; kernel_rfl) (hK _ _ h)
/-- Two commands that are the same are compared, under a guard that holds. -/
theorem eqlG {o : Oper} {x y : Operand} {r : TypeId} {c : Cm} (hw : Region.wanted o (yielded ops a.tmps) = true) (ho : o.op = .binOp .eql 37 x y r) (hx : a.eval x = cv c) (hy : a.eval y = cv c) (h : wpList Tryz.prog ops Q rest (a.put o.dst (.bool true)) w) : wpList Tryz.prog ops Q (o :: rest) a w :=
  wpList_step fun K hK => by
    rw [if_pos hw]
    unfold Oper.wp execOp
    simp only [ho, hx, hy]
    have hg : (eqGuard BinOp.eql 37 x y (cv c) (cv c)).run Tryz.prog w = .ok () w := run_eqGuard_agg w .eql _ x y _ _ (by kernel_rfl)
    simp only [Sem.run_bind, Sem.run_pure, cm_eql, hg, Result.andThen_ok]
    exact hK _ _ h
end

end Go.Proofs.YtggeccndmmmnjaaGreatDoor.Tx
