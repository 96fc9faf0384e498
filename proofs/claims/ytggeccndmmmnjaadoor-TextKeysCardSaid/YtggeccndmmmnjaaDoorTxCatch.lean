/-
  What read defers: a line that was given up is made a bad request; else nothing is turned. No conditions.
-/
import Derived.Test.YtggeccndmmmnjaaDoorTxNamed
namespace Go.Proofs.YtggeccndmmmnjaaDoor.Tx
open Go Go.RowKit Go.Lib Md

set_option maxHeartbeats 1000000 in
set_option maxRecDepth 100000 in
theorem catch_idle (p q : Addr) (w : World) :
    CallsD Tryd.prog 18 #[.pointer (some p), .pointer (some q)] .returning w fun e u' w' => e = .returned (.tuple #[]) ∧ u' = .returning ∧ w' = w := by
  refine callsD_of_wpS Tryd.func18 rfl fun c₀ cs hu => ?_
  simp only [Tryd.ntmps18, List.size_toArray, List.length_cons, List.length_nil, Nat.reduceAdd, Nat.reduceSub, Array.replicate_succ, Array.replicate_zero, List.push_toArray, List.append_toArray, List.nil_append, List.cons_append]
  apply wpS_seq
  apply wpS_region
  simp [wpOpsS, go_sem, recoverD, hu, Exit.thenS]
  refine wpS_of_wp ?_
  go_wp2_with fail
  cases c₀
  simp_all [bodyPostS, results, Tryd.results18]
set_option maxHeartbeats 1000000 in
set_option maxRecDepth 100000 in
/-- The box of the result holds nothing, or is laid with the bad request. -/
theorem catch_up {R B E : Nat} {skip : Nat} {why : List UInt8} {cs0 : List Value} {c0 c1 c2 c4 : Value} (w : World) (hr : w.cell? ⟨B, 0, none⟩ = some (.pointer (some ⟨R, 0, none⟩))) (hR : Blk w R 43 [c0, c1, c2, .int .i64 (skip : Int), c4]) (hE : Blk w E 27 cs0) (hl : cs0.length = 11) :
    CallsD Tryd.prog 18 #[.pointer (some ⟨B, 0, none⟩), .pointer (some ⟨E, 0, none⟩)] (.panicking [upE why]) w fun e u' w' => e = .returned (.tuple #[]) ∧ u' = .panicking [{ v := .iface 60 (.string (S why)), recovered := true }] ∧ Blk w' E 27 (rqc (badQ why skip) (.slice none 0 0)) ∧ Only (fun b => b = E) w w' := by
  have c3 := hR.cell (i := 3) rfl
  have hta : ∀ (s : ByteArray) (w : World), (Instr.typeAssert (.iface 60 (.string s)) 20 60 true).run Tryd.prog w = .ok (.tuple #[.string s, .bool true]) w := fun _ _ => by kernel_rfl
  have HE := hidc hE
  have HOK := hidc (rq_ok (badQ why skip) (v := .slice none 0 0) ⟨_, _, _, rfl⟩)
  have HL := hidc hl
  clear hE hR hl
  refine callsD_of_wpS Tryd.func18 rfl fun c₀ cs hu => ?_
  simp only [Tryd.ntmps18, List.size_toArray, List.length_cons, List.length_nil, Nat.reduceAdd, Nat.reduceSub, Array.replicate_succ, Array.replicate_zero, List.push_toArray, List.append_toArray, List.nil_append, List.cons_append]
  apply wpS_seq
  apply wpS_region
  simp [wpOpsS, go_sem, recoverD, hu, Exit.thenS]
  refine wpS_of_wp ?_
  go_wp2_with (refine stRq rfl rfl rfl rfl rfl HE.out HL.out rfl HOK.out ?_; intro D hD oD; have HW := hidc (And.intro hD oD); clear hD oD)
  cases c₀
  simp_all [bodyPostS, results, Tryd.results18]
  exact HW.out
end Go.Proofs.YtggeccndmmmnjaaDoor.Tx
