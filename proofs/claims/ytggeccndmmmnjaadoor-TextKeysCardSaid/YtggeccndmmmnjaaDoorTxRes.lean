/-
  How a function's result that lies in a box is read: a command, a request. No conditions.
-/
import Derived.Test.YtggeccndmmmnjaaDoorTxSmall
namespace Go.Proofs.YtggeccndmmmnjaaDoor.Tx
open Go Go.RowKit Go.Lib Md

set_option maxRecDepth 100000 in
theorem res_cm {fn : Func} {R : Nat} (h : fn.results = #[.cell R 35]) {tmps : Array Value} {w : World} {B : Nat} {v0 v1 v2 v3 v4 v5 v6 v7 v8 v9 v10 v11 v12 v13 v14 v15 : Value} (hb : Blk w B 35 [v0, v1, v2, v3, v4, v5, v6, v7, v8, v9, v10, v11, v12, v13, v14, v15]) (h2 : tmps[R]?.getD undef = .pointer (some ⟨B, 0, none⟩)) :
    (results fn tmps).run Tryd.prog w = .ok (.agg #[v0, v1, v2, v3, v4, v5, v6, v7, v8, v9, v10, v11, v12, v13, v14, v15]) w := by
  have q0 := hb.cell (i := 0) rfl
  have q1 := hb.cell (i := 1) rfl
  have q2 := hb.cell (i := 2) rfl
  have q3 := hb.cell (i := 3) rfl
  have q4 := hb.cell (i := 4) rfl
  have q5 := hb.cell (i := 5) rfl
  have q6 := hb.cell (i := 6) rfl
  have q7 := hb.cell (i := 7) rfl
  have q8 := hb.cell (i := 8) rfl
  have q9 := hb.cell (i := 9) rfl
  have q10 := hb.cell (i := 10) rfl
  have q11 := hb.cell (i := 11) rfl
  have q12 := hb.cell (i := 12) rfl
  have q13 := hb.cell (i := 13) rfl
  have q14 := hb.cell (i := 14) rfl
  have q15 := hb.cell (i := 15) rfl
  simp [results, h, h2, go_sem, q0, q1, q2, q3, q4, q5, q6, q7, q8, q9, q10, q11, q12, q13, q14, q15]
set_option maxRecDepth 100000 in
theorem res_rq {fn : Func} {R : Nat} (h : fn.results = #[.cell R 27]) {tmps : Array Value} {w : World} {B : Nat} {v0 v1 v2 v3 v4 v5 v6 v7 v8 v9 v10 : Value} (hb : Blk w B 27 [v0, v1, v2, v3, v4, v5, v6, v7, v8, v9, v10]) (h2 : tmps[R]?.getD undef = .pointer (some ⟨B, 0, none⟩)) :
    (results fn tmps).run Tryd.prog w = .ok (.agg #[v0, v1, v2, v3, v4, v5, v6, v7, v8, v9, v10]) w := by
  have q0 := hb.cell (i := 0) rfl
  have q1 := hb.cell (i := 1) rfl
  have q2 := hb.cell (i := 2) rfl
  have q3 := hb.cell (i := 3) rfl
  have q4 := hb.cell (i := 4) rfl
  have q5 := hb.cell (i := 5) rfl
  have q6 := hb.cell (i := 6) rfl
  have q7 := hb.cell (i := 7) rfl
  have q8 := hb.cell (i := 8) rfl
  have q9 := hb.cell (i := 9) rfl
  have q10 := hb.cell (i := 10) rfl
  simp [results, h, h2, go_sem, q0, q1, q2, q3, q4, q5, q6, q7, q8, q9, q10]
end Go.Proofs.YtggeccndmmmnjaaDoor.Tx
